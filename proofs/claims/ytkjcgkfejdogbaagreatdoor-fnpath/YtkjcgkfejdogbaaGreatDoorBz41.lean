import Derived.Lib.LaidTab
import Derived.Stop.LaidErr
import Derived.Test.YtkjcgkfejdogbaaGreatDoorBz35
import Derived.Test.YtkjcgkfejdogbaaGreatDoorBz13
import Derived.Test.YtkjcgkfejdogbaaGreatDoorBz38
import Derived.Test.YtkjcgkfejdogbaaGreatDoorBz21
import Derived.Test.YtkjcgkfejdogbaaGreatDoorBz26
import Derived.Test.YtkjcgkfejdogbaaGreatDoorBz40
import Derived.Test.YtkjcgkfejdogbaaGreatDoorBz22
set_option maxRecDepth 100000
set_option maxHeartbeats 8000000
namespace Go.Proofs.YtkjcgkfejdogbaaGreatDoor
open Go.RowKit
theorem sum_set_le {α:Type} (f:α→Nat) : ∀ (l:List α) (i:Nat) (x:α),((l.set i x).map f).sum≤(l.map f).sum+f x
 | [],_,_=>by simp
 | y :: r,0,x=>by simp; omega
 | y :: r,i+1,x=>by
  have:=sum_set_le f r i x
  simp only[List.set_cons_succ,List.map_cons,List.sum_cons]
  omega
theorem spOp_sz (l:List PFOp) (p:Nat) (f:PFOp→PFOp) (hf:∀ x,szFop (f x)=szFop x) : szFops (spOp l p f)≤2*szFops l:=by
 unfold spOp
 split
 ·rename_i x hx
  have h1:=sum_set_le szFop l p (f x)
  have h2:=sum_mem szFop (List.mem_of_getElem? hx)
  rw[hf] at h1
  unfold szFops
  rw[List.length_set]
  omega
 ·omega
theorem spSel_sz (k v:Nat) (o:PSel) : szSel (spSel k v o)≤2*szSel o+2:=by
 have e0:szSel o=o.name.size+szFops o.cond:=rfl
 unfold spSel
 split
 ·show o.name.size+szFops o.cond≤_; omega
 ·split
  ·show 1+szFops o.cond≤_; omega
  ·split
   ·show o.name.size+szFops o.cond≤_; omega
   ·split
    ·show o.name.size+szFops o.cond≤_; omega
    ·split
     ·show o.name.size+szFops o.cond≤_; omega
     ·split
      ·show o.name.size+szFops o.cond.tail≤_
       have:szFops o.cond.tail≤szFops o.cond:=by
        cases o.cond with
        | nil=>exact Nat.le_refl _
        | cons x r=>unfold szFops; simp; omega
       omega
      ·split
       ·have:=spOp_sz o.cond (v % o.cond.length) (fun x=>{ x with k:=(v / 8 % 14:Nat) }) fun _=>rfl
        show o.name.size+szFops (spOp o.cond _ _)≤_; omega
       ·split
        ·have:=spOp_sz o.cond (v % o.cond.length) (fun x=>{ x with n:=(v / 16:Nat) }) fun _=>rfl
         show o.name.size+szFops (spOp o.cond _ _)≤_; omega
        ·have:szFops (o.cond++[opK 8])=szFops o.cond+1:=szFops_app _ _
         show o.name.size+szFops (o.cond++[opK 8])≤_; omega
theorem spSegs_sz (k i v:Nat) (segs:List PSeg) : szSegs (spSegs k i v segs)≤3*szSegs segs+3:=by
 unfold spSegs
 split
 ·rename_i d o r hx
  have h0:szSegs segs=segs.length+(segs.map szSeg).sum:=rfl
  have h1:=sum_mem szSeg (List.mem_of_getElem? hx)
  have h2:szSeg ⟨d,o :: r⟩=(r.length+1)+(szSel o+(r.map szSel).sum):=rfl
  have h3:=spSel_sz k v o
  split
  ·have h4:=sum_set_le szSeg segs i ⟨d,[]⟩
   have h5:szSeg ⟨d,[]⟩=0:=rfl
   unfold szSegs
   rw[List.length_set]
   omega
  ·have h4:=sum_set_le szSeg segs i ⟨d,spSel k v o :: r⟩
   have h5:szSeg ⟨d,spSel k v o :: r⟩=(r.length+1)+(szSel (spSel k v o)+(r.map szSel).sum):=rfl
   unfold szSegs
   rw[List.length_set]
   omega
 ·omega
theorem dPath_sz (q:Bs) : szSegs (dPath q)≤7000:=by
 unfold dPath
 split
 ·have h:∀ n,szFops (chnN n)=2*n+1:=fun n=>by
   induction n with
   | zero=>rfl
   | succ n ih=>
    have:szFops [opK 8,opK 11]=2:=rfl
    rw[chnN,szFops_app,ih,this]; omega
  have h1:=h (50+(nx q).1 / 16 % 3 - 1)
  show 1+((1+((0+szFops (chnN (50+(nx q).1 / 16 % 3 - 1)))+0))+0)≤7000
  omega
 ·unfold dSegs
  have h2:=gSegs_sz (nx q).2
  dsimp only
  split
  ·have h1:=spSegs_sz (nx (gSegs (nx q).2).2).1 ((nx (nx (gSegs (nx q).2).2).2).1 % (gSegs (nx q).2).1.length) (nx (nx (nx (gSegs (nx q).2).2).2).2).1 (gSegs (nx q).2).1
   omega
  ·omega
theorem dPath_text {ms:List PSeg} (hz:szSegs ms≤7000) (h:pathOk ms=true) :
  ptV ms=(strOf (pathU ms ms.length),true)∧(strOf (pathU ms ms.length)).size≤1048576∧(pathR (sBr 1001) (pathU ms ms.length)=(ms,0)∨(pathR (sBr 1001) (pathU ms ms.length)).2≠0):=by
 have ha:ms.all segOk=true:=by
  unfold pathOk at h
  rw[Bool.and_eq_true] at h
  exact h.2
 refine⟨by unfold ptV; rw[if_pos h],?_,path_back fun g hg=>?_⟩
 ·have:=pathU_len ms ha
  rw[strOf_size]
  unfold pathU
  rw[List.length_cons,List.take_length]
  omega
 ·have:=List.all_eq_true.1 ha g hg
  unfold segOk at this
  simp only[Bool.and_eq_true,decide_eq_true_eq] at this
  exact⟨this.1.1,this.2⟩
theorem DPo.row {w w':World} {ms:List PSeg} {e:Ending} (h:DPo w ms e w') : ∃ a c n bl,e = .returned (.slice a n c)∧Below w.heap.size w w'∧ORow segTl w' (.slice a n c) ms bl∧(pathOk ms=true→ORow segE w' (.slice a n c) ms bl):=by
 obtain⟨v,bl,rfl,hb,h⟩:=h
 rcases h with h | ⟨hp,h⟩
 ·obtain⟨a,c,rfl,-⟩:=h.form
  exact⟨a,c,_,bl,rfl,hb,h.toT,fun _=>h⟩
 ·obtain⟨a,c,rfl,-⟩:=h.form
  exact⟨a,c,_,bl,rfl,hb,h,fun e=>by rw[hp] at e; cases e⟩
theorem pahLaw_in (xa:Option Addr) (xb xo xc:Nat) (l:List UInt8) (w:World) (hw:PwB w.heap.size w) (h:BS w xa xb xo l) (hc:l.length≤xc) :
  Calls Tryz.prog 3 #[.slice xa l.length xc] w fun e w'=>e = .returned (.bool true)∧Below w.heap.size w w':=by
 by_cases hl:l.length≤1048576
 ·have tl:((1048576:Int) < (l.length:Int))=False:=eq_false (by omega)
  have HD:Hid (∀ wx,Below w.heap.size w wx→Calls Tryz.prog 4 #[.slice xa l.length xc] wx (DPo wx (dPath (l.take 1200)))):=fun wx hb=>dPath_walk xa xb xo xc l wx (h.below hb) hl hc
  have hz:=dPath_sz (l.take 1200)
  have HW:Hid (∀ wx,Below w.heap.size w wx→PwB wx.heap.size wx):=fun wx hb=>(hw.next hb (Nat.le_refl _)).up hb.size
  clear h hc hl hw
  generalize dPath (l.take 1200)=ms at *
  have hz1:szSegs ms≤1048576:=by omega
  have HTX:Hid (pathOk ms=true→_):=dPath_text hz
  have HNO:Hid (pathOk ms=false→ptV ms=(⟨#[]⟩,false)):=fun h=>by unfold ptV; rw[if_neg (by rw[h]; simp)]
  have HOS:=hide fun v bl wx (h:ORow segTl wx v ms bl)=>specPathOk_walk v ms bl wx h hz1
  have HOI:=hide fun v bl wx (h:ORow segTl wx v ms bl)=>implPathOk_walk v ms bl wx h hz1
  have HTI:=hide fun v bl wx (h:ORow segTl wx v ms bl) hp=>implPathText_walk v ms bl wx h hz1 hp
  have HTS:=hide fun v bl wx (h:ORow segE wx v ms bl)=>specPathText_walk v ms bl wx h hz1
  clear hz hz1
  have H1:=hide (uh HD w (Below.refl _ _))
  go_enter Tryz.func3,Tryz.ntmps3
  go_wp2_with fail
  refine (uh H1).mono ?_
  intro e w1 hd1
  obtain⟨a1,c1,n1,bl1,rfl,b1,r1,g1⟩:=hd1.row
  have HB1:=hide b1
  have HG1:=hide g1
  have H2:=hide (uh HOS _ _ w1 r1)
  clear H1 hd1 b1 r1 g1 HOS
  go_wp2_with fail
  refine (uh H2).mono ?_
  rintro e w2 ⟨rfl,b2⟩
  have HB2:=hide (below_next (uh HB1) b2)
  have HG2:Hid (pathOk ms=true→ORow segE w2 (.slice a1 n1 c1) ms bl1):=fun h=>(uh HG1 h).below b2
  have H3:=hide (uh HD w2 (uh HB2))
  clear H2 b2 HB1 HG1
  go_wp2_with fail
  refine (uh H3).mono ?_
  intro e w3 hd3
  obtain⟨a3,c3,n3,bl3,rfl,b3,r3,-⟩:=hd3.row
  have HB3:=hide (below_next (uh HB2) b3)
  have HG3:Hid (pathOk ms=true→ORow segE w3 (.slice a1 n1 c1) ms bl1):=fun h=>(uh HG2 h).below b3
  have H4:=hide (uh HTI _ _ w3 r3 (uh HW _ (uh HB3)))
  clear H3 hd3 b3 r3 HB2 HG2 HTI
  go_wp2_with fail
  refine (uh H4).mono ?_
  rintro e w4 ⟨rfl,b4⟩
  have HB4:=hide (below_next (uh HB3) b4)
  have HG4:Hid (pathOk ms=true→ORow segE w4 (.slice a1 n1 c1) ms bl1):=fun h=>(uh HG3 h).below b4
  have H5:=hide (uh HD w4 (uh HB4))
  clear H4 b4 HB3 HG3 HD
  cases hp:pathOk ms with
  | false=>
   have HE:=uh HNO hp
   rw[hp] at HOI
   rw[HE]
   clear HE HNO HTX HTS HG4 hp
   go_wp2_with fail
   refine (uh H5).mono ?_
   intro e w5 hd5
   obtain⟨a5,c5,n5,bl5,rfl,b5,r5,-⟩:=hd5.row
   have HB5:=hide (below_next (uh HB4) b5)
   have H6:=hide (uh HOI _ _ w5 r5)
   clear H5 hd5 b5 r5 HB4 HOI
   go_wp2_with fail
   refine (uh H6).mono ?_
   rintro e w6 ⟨rfl,b6⟩
   have HB6:=hide (below_next (uh HB5) b6)
   clear H6 b6 HB5
   go_wp2
   go_ret
   exact⟨by first | rfl | simp,uh HB6⟩
  | true=>
   obtain⟨hE,hTz,hbk⟩:=uh HTX hp
   have HO4:=hide (uh HG4 hp)
   rw[hp] at HOI
   rw[hE]
   have HTS2:Hid (∀ v bl wx,ORow segE wx v ms bl→Calls Tryz.prog 8 #[v] wx fun e w'=>e = .returned (.tuple #[.string (strOf (pathU ms ms.length)),.bool true])∧Below wx.heap.size wx w'):=fun v bl wx h=>by
    have:=uh HTS v bl wx h
    rwa [hE] at this
   have hdt:(strOf (pathU ms ms.length)).data.toList=pathU ms ms.length:=by unfold strOf; first | rfl | simp
   have HPS:=hide fun wx=>specParse_walk (strOf (pathU ms ms.length)) wx hTz
   have HPI:=hide fun wx=>implParse_walk (strOf (pathU ms ms.length)) wx hTz
   rw[hdt] at HPS HPI
   have HBK:=hide hbk
   clear hE hbk hdt HNO HTX HTS HG4 hp hTz
   generalize pathR (sBr 1001) (pathU ms ms.length)=R at *
   generalize strOf (pathU ms ms.length)=T at *
   obtain⟨bs,c⟩:=R
   go_wp2_with fail
   refine (uh H5).mono ?_
   intro e w5 hd5
   obtain⟨a5,c5,n5,bl5,rfl,b5,r5,-⟩:=hd5.row
   have HB5:=hide (below_next (uh HB4) b5)
   have HO5:=hide ((uh HO4).below b5)
   have H6:=hide (uh HOI _ _ w5 r5)
   clear H5 hd5 b5 r5 HB4 HOI HO4
   go_wp2_with fail
   refine (uh H6).mono ?_
   rintro e w6 ⟨rfl,b6⟩
   have HB6:=hide (below_next (uh HB5) b6)
   have HO6:=hide ((uh HO5).below b6)
   have H7:=hide (uh HTS2 _ _ w6 (uh HO6))
   clear H6 b6 HB5 HO5 HTS2
   go_wp2_with fail
   refine (uh H7).mono ?_
   rintro e w7 ⟨rfl,b7⟩
   have HB7:=hide (below_next (uh HB6) b7)
   have HO7:=hide ((uh HO6).below b7)
   have H8:=hide (uh HPS w7)
   clear H7 b7 HB6 HO6 HPS
   go_wp2_with fail
   refine (uh H8).mono ?_
   rintro e w8 ⟨b8,v8,bl8,rfl,o8,-⟩
   have HB8:=hide (below_next (uh HB7) b8)
   have HO8:=hide ((uh HO7).below b8)
   obtain⟨a8,c8,rfl,-,-⟩:=o8.form
   have H9:=hide (uh HPI w8)
   clear H8 b8 o8 HB7 HO7 HPI
   go_wp2_with fail
   refine (uh H9).mono ?_
   rintro e w9 ⟨b9,v9,bl9,rfl,o9,-⟩
   have HB9:=hide (below_next (uh HB8) b9)
   have HO9:=hide ((uh HO8).below b9)
   have HQ9:=hide o9
   obtain⟨a9,c9,rfl,-,-⟩:=o9.form
   clear H9 b9 o9 HB8 HO8
   by_cases hc0:c=0
   ·subst hc0
    have hbs:bs=ms:=by
     rcases uh HBK with h | h
     ·injection h
     ·exact absurd rfl h
    subst hbs
    have H10:=hide (sameSegs_walk _ _ bs bl9 bl1 w9 (uh HQ9) (uh HO9))
    clear HBK
    go_wp2_with fail
    refine (uh H10).mono ?_
    rintro e w10 ⟨rfl,b10⟩
    have HB10:=hide (below_next (uh HB9) b10)
    clear H10 b10 HB9
    go_wp2
    go_ret
    exact⟨by first | rfl | simp,uh HB10⟩
   ·have hc1:(c != 0)=true:=by simp[hc0]
    clear HBK HQ9 HO9
    go_wp2
    go_ret
    exact⟨by first | rfl | simp,uh HB9⟩
 ·have tl:((1048576:Int) < (l.length:Int))=True:=eq_true (by omega)
  go_enter Tryz.func3,Tryz.ntmps3
  go_wp2
  go_ret
  exact⟨rfl,Below.refl _ _⟩
def VarsOk (w:World) : Prop:=PwB w.heap.size w
theorem var_lt {W:World} {n:String} {g:Nat} {cs:Array Value} (hg:Tryz.prog.globalNamed n=some g) (h:W.var? Tryz.prog n=some cs) : g < W.heap.size:=by
 unfold World.var? at h
 rw[hg] at h
 simp only[Option.bind_some] at h
 rcases Nat.lt_or_ge g W.heap.size with h' | h'
 ·exact h'
 ·rw[Array.getElem?_eq_none h'] at h; cases h
theorem tables_of {W:World} (hL:laidMetH Tryz.prog Rows.fnPathRow.laid W) : VarsOk W:=by
 have h : laidMet Tryz.prog [("math/bits.deBruijn32tab", Rows.laid_math_bits_deBruijn32tab), ("math/bits.deBruijn64tab", Rows.laid_math_bits_deBruijn64tab), ("internal/strconv.uint64pow10", Rows.laid_internal_strconv_uint64pow10)] W := hL
 have h3 : laidMet Tryz.prog (("internal/strconv.uint64pow10", Lib.tabData .u64 Lib.pow10Tab) :: _) W := h.tail.tail
 have hg : Tryz.prog.globalNamed "internal/strconv.uint64pow10" = some 0 := by kernel_rfl
 have ht : Lib.TabIs Tryz.prog W "internal/strconv.uint64pow10" .u64 Lib.pow10Tab := Lib.tabIs_of_head hg (t := 179) (by kernel_rfl) Tryz.underlying179 Tryz.underlying158 (by kernel_rfl) (by kernel_rfl) h3
 exact⟨var_lt hg ht,ht⟩
theorem pahLaw_walk (xa:Option Addr) (xb xo xc:Nat) (l:List UInt8) (w:World) (hb:BS w xa xb xo l) (hc:l.length≤xc) (h:VarsOk w) :
  Calls Tryz.prog 3 #[.slice xa l.length xc] w fun e w'=>e = .returned (.bool true)∧Below w.heap.size w w':=pahLaw_in xa xb xo xc l w h hb hc
end Go.Proofs.YtkjcgkfejdogbaaGreatDoor
