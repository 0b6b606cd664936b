import Derived.Lib.ItoaMem
import Derived.Lib.LaidTab
import Derived.Test.YtkjcgkfejdogbaaGreatDoorBz20
import Derived.Test.YtkjcgkfejdogbaaGreatDoorBz5
import Derived.Test.YtkjcgkfejdogbaaGreatDoorBz36
import Derived.Test.YtkjcgkfejdogbaaGreatDoorBz15
set_option maxRecDepth 100000
set_option maxHeartbeats 8000000
namespace Go.Proofs.YtkjcgkfejdogbaaGreatDoor
open Go.RowKit
def PwB (B : Nat) (w : World) : Prop := 0 < B ∧ Lib.TabIs Tryz.prog w "internal/strconv.uint64pow10" .u64 Lib.pow10Tab
theorem PwB.next {B B':Nat} {w w':World} (h:PwB B w) (hb:Below B' w w') (hB:B≤B') : PwB B w':=by
 obtain⟨h0,h⟩:=h
 refine⟨h0,?_⟩
 have hgn : Tryz.prog.globalNamed "internal/strconv.uint64pow10" = some 0 := by kernel_rfl
 unfold Lib.TabIs World.var? at h ⊢
 rw[hgn] at h ⊢
 simp only[Option.bind_some] at h ⊢
 rw[hb.block _ (by omega)]
 exact h
theorem PwB.up {B B':Nat} {w:World} (h:PwB B w) (hB:B≤B') : PwB B' w:=⟨Nat.lt_of_lt_of_le h.1 hB,h.2⟩
theorem isBk {B b:Nat} {l:List UInt8} {w w1:World} (h:IsB B b l w) (hb:Below w.heap.size w w1) : IsB B b l w1:=by
 have g:∀ p,Lib.BuilderAt 51 5 B b p (Lib.byteCells l) w→Lib.BuilderAt 51 5 B b p (Lib.byteCells l) w1:=by
  rintro p ⟨hB,v,hbk,hown,hne⟩
  exact⟨hB,v,(hb.block b (Array.getElem?_eq_some_iff.1 hbk).1).trans hbk,own_below hown hb,hne⟩
 exact h.elim (fun x=>.inl (g _ x)) (fun x=>.inr (g _ x))
theorem dec_eq:∀ n:Nat,Lib.decDigits n=decT n:=by
 intro n
 induction n using Nat.strongRecOn with
 | _ n ih=>
  rw[Lib.decDigits]
  split
  ·rename_i h; rw[decT_lo h]
  ·rename_i h; rw[decT_hi h,ih (n / 10) (by omega),decT_lo (n:=n % 10) (by omega)]
theorem itoa_sdec (n:Int) : Lib.itoa n=sdec n:=by
 unfold Lib.itoa sdec
 split
 ·rename_i h
  rw[dec_eq,show n.natAbs=(-n).toNat by omega]
 ·rw[dec_eq]
structure WB (B b:Nat) (l:List UInt8) (w0 w:World) : Prop where
 is:IsB B b l w
 sz:B≤w.heap.size
 bel:Below B w0 w
 ok:Lib.OthersKept 5 (some b) w0 w
theorem wb (B b:Nat) (l:List UInt8) (c:UInt8) (n:Int) (hn:n=(c.toNat:Int)) (w0 w:World) (h:WB B b l w0 w) (hl:l.length≤1000000000) :
  Calls Tryz.prog 17 #[.pointer (some ⟨b,0,none⟩),.int .u8 n] w fun e w'=>e = .returned .nilIface∧WB B b (l++[c]) w0 w':=by
 refine (writeByte_k B b _ n w h.is (by rw[Lib.byteCells_length]; omega) h.sz).mono ?_
 rintro e w' ⟨rfl,h1,b1,k1⟩
 exact⟨rfl,IsB.byte hn h1,Nat.le_trans h.sz b1.size,h.bel.trans b1,h.ok.trans k1⟩
theorem ws (B b:Nat) (l m:List UInt8) (s:ByteArray) (hm:m=s.data.toList) (w0 w:World) (h:WB B b l w0 w) (hl:l.length≤1000000000) (hs:s.size≤1000000000) :
  Calls Tryz.prog 35 #[.pointer (some ⟨b,0,none⟩),.string s] w fun e w'=>e = .returned (.tuple #[.int .i64 s.size,.nilIface])∧WB B b (l++m) w0 w':=by
 refine (writeString_k B b _ s w h.is (by rw[Lib.byteCells_length]; omega) h.sz).mono ?_
 rintro e w' ⟨rfl,h1,b1,k1⟩
 exact⟨rfl,IsB.str hm h1,Nat.le_trans h.sz b1.size,h.bel.trans b1,h.ok.trans k1⟩
theorem WB.up {B b:Nat} {l:List UInt8} {w0 w w':World} (h:WB B b l w0 w) (hb:Below w.heap.size w w') : WB B b l w0 w':=
 ⟨isBk h.is hb,Nat.le_trans h.sz hb.size,h.bel.trans (hb.mono h.sz),h.ok.trans fun k _ hk _ _=>(hb.block k (Array.getElem?_eq_some_iff.1 hk).1).trans hk⟩
theorem WB.trans {B b:Nat} {l:List UInt8} {w0 w1 w:World} (h1:Below B w0 w1) (h2:Lib.OthersKept 5 (some b) w0 w1) (h:WB B b l w1 w) : WB B b l w0 w:=⟨h.is,h.sz,h1.trans h.bel,h2.trans h.ok⟩
theorem WB.self {B b:Nat} {l:List UInt8} {w0 w:World} (h:WB B b l w0 w) : WB B b l w w:=⟨h.is,h.sz,Below.refl _ _,Lib.OthersKept.refl _ _ _⟩
theorem WB.at {B b:Nat} {l:List UInt8} {w0 w:World} (h:WB B b l w0 w) {q:Nat} {cs:Array Value} {T:TypeId} (hq:w0.heap[q]?=some (.cells cs T (0,0))) (hT:T≠5) (hb:q≠b) : w.heap[q]?=some (.cells cs T (0,0)):=
 h.ok q _ hq (fun e=>hb (by injection e)) fun c fz e=>by injection e with _ e _; exact hT e
theorem WB.ne {B b:Nat} {l:List UInt8} {w0 w:World} (h:WB B b l w0 w) : b < w.heap.size:=by
 rcases h.is with h | h
 ·obtain⟨-,v,hbk,-⟩:=h; exact (Array.getElem?_eq_some_iff.1 hbk).1
 ·obtain⟨-,v,hbk,-⟩:=h; exact (Array.getElem?_eq_some_iff.1 hbk).1
theorem wi (n:Int) (B b:Nat) (l:List UInt8) (w0 w:World) (h:WB B b l w0 w) (hr:rangeI n=true) (hP:PwB B w0) :
  Calls Tryz.prog 57 #[.int .i64 n] w fun e w'=>e = .returned (.string (strOf (sdec n)))∧WB B b l w0 w':=by
 unfold rangeI at hr
 simp only[Bool.and_eq_true,decide_eq_true_eq] at hr
 refine (Tryz.strconv_Itoa n (by omega) (by omega) w ((hP.next h.bel (Nat.le_refl _)).2)).mono ?_
 rintro e w' ⟨rfl,k,os,rfl⟩
 rw[itoa_sdec]
 exact⟨rfl,h.up ⟨rfl,rfl,rfl,by simp[Go.Sort.grow],fun i hi=>by show (w.heap++os)[i]?=_; rw[Array.getElem?_append_left hi]⟩⟩
theorem wq (B b:Nat) (l:List UInt8) (s:ByteArray) (w0 w:World) (h:WB B b l w0 w) (hs:s.size≤1048576) (hl:l.length≤900000000) :
  Calls Tryz.prog 56 #[.pointer (some ⟨b,0,none⟩),.string s] w fun e w'=>e = .returned (.tuple #[])∧WB B b (l++quo s) w0 w':=by
 have H1:=hide (wb B b l 39 39 rfl w0 w h (by omega))
 have HQA:Hid (l++quo s=(l++39 :: (s.data.toList.take s.size).flatMap quoB)++[39]):=by show _=_; rw[bytes_all]; unfold quo; simp
 have HLN:Hid (∀ j,(l++39 :: (s.data.toList.take j).flatMap quoB).length≤950000000):=fun j=>by
  have:=quoB_len (s.data.toList.take j)
  have h5:(s.data.toList.take j).length≤s.size:=by rw[List.length_take,data_len]; omega
  rw[List.length_append,List.length_cons]; omega
 have HNX:Hid (∀ j (hj:j < s.size),l++39 :: (s.data.toList.take (j+1)).flatMap quoB=(l++39 :: (s.data.toList.take j).flatMap quoB)++quoB s[j]):=fun j hj=>by
  rw[bytes_snoc s j hj,List.flatMap_append]; simp
 obtain⟨U,hU⟩ : ∃ U:Nat→List UInt8,U=fun j=>l++39 :: (s.data.toList.take j).flatMap quoB:=⟨_,rfl⟩
 have hU':∀ j,l++39 :: (s.data.toList.take j).flatMap quoB=U j:=fun j=>by rw[hU]
 have HU0:Hid (l++[39]=U 0):=by rw[hU]; rfl
 simp only[hU'] at HQA HLN HNX
 clear h hU hU' hl
 generalize l++quo s=LQ at *
 go_enter Tryz.func56,Tryz.ntmps56
 go_wp2_with fail
 refine (uh H1).mono ?_
 rintro e w1 ⟨rfl,h1⟩
 rw[uh HU0] at h1
 have HW1:=hide h1
 clear h1 H1 HU0
 go_wp2
 go_loopw [9] (fun i wr=>∃ j:Nat,j≤s.size∧i = .int .i64 j∧Hid (WB B b (U j) w0 wr)) (fun i _=>s.size - (intOf i).toNat)
 case atStart=>exact⟨0,Nat.zero_le _,rfl,uh HW1⟩
 case round=>
  obtain⟨j,hj,rfl,hW⟩:=hrel
  clear HW1
  by_cases hjs:j < s.size
  ·have hjI:(j:Int) < (s.size:Int):=by omega
   have HN:=hide (uh HNX j hjs)
   have hln:=uh HLN j
   clear HNX HQA HLN
   by_cases hx:(s[j].toNat:Int)=39∨(s[j].toNat:Int)=92
   ·have HN2:Hid (U (j+1)=(U j++[92])++[s[j]]):=by show _=_; rw[uh HN,quoB_yes hx]; simp
    have H92:=hide (wb B b (U j) 92 92 rfl w0 wr (uh hW) (by omega))
    have HCC:Hid (∀ wx,WB B b (U j++[92]) w0 wx→Calls Tryz.prog 17 #[.pointer (some ⟨b,0,none⟩),.int .u8 (s[j].toNat:Int)] wx fun e w'=>e = .returned .nilIface∧WB B b (U (j+1)) w0 w'):=fun wx hx=>by
     rw[uh HN2]; exact wb B b _ s[j] _ rfl w0 wx hx (by rw[List.length_append]; simp; omega)
    clear HN HN2 hln hW
    rcases hx with hx | hx
    ·have t1:((s[j].toNat:Int) == 39)=true:=by simpa using hx
     clear hx
     go_wp2_with fail
     refine (uh H92).mono ?_
     rintro e w2 ⟨rfl,h2⟩
     have HC3:=hide (uh HCC w2 h2)
     clear HCC H92 h2
     go_wp2_with fail
     refine (uh HC3).mono ?_
     rintro e w3 ⟨rfl,h3⟩
     have HW3:=hide h3
     clear HC3 h3
     go_wp2
     go_roundw
     case rel=>exact⟨j+1,by omega,by go_num,HW3⟩
     case measure=>simp[intOf]; omega
    ·have t1:((s[j].toNat:Int) == 39)=false:=by rw[hx]; rfl
     have t2:((s[j].toNat:Int) == 92)=true:=by simpa using hx
     clear hx
     go_wp2_with fail
     refine (uh H92).mono ?_
     rintro e w2 ⟨rfl,h2⟩
     have HC3:=hide (uh HCC w2 h2)
     clear HCC H92 h2
     go_wp2_with fail
     refine (uh HC3).mono ?_
     rintro e w3 ⟨rfl,h3⟩
     have HW3:=hide h3
     clear HC3 h3
     go_wp2
     go_roundw
     case rel=>exact⟨j+1,by omega,by go_num,HW3⟩
     case measure=>simp[intOf]; omega
   ·have x1:¬ (s[j].toNat:Int)=39:=fun e=>hx (.inl e)
    have x2:¬ (s[j].toNat:Int)=92:=fun e=>hx (.inr e)
    have t1:((s[j].toNat:Int) == 39)=false:=by simpa using x1
    have t2:((s[j].toNat:Int) == 92)=false:=by simpa using x2
    have HC3:Hid (Calls Tryz.prog 17 #[.pointer (some ⟨b,0,none⟩),.int .u8 (s[j].toNat:Int)] wr fun e w'=>e = .returned .nilIface∧WB B b (U (j+1)) w0 w'):=by
     show Calls _ _ _ _ _
     rw[uh HN,quoB_no x1 x2]; exact wb B b _ s[j] _ rfl w0 wr (uh hW) (by omega)
    clear hx x1 x2 HN hln hW
    go_wp2_with fail
    refine (uh HC3).mono ?_
    rintro e w3 ⟨rfl,h3⟩
    have HW3:=hide h3
    clear HC3 h3
    go_wp2
    go_roundw
    case rel=>exact⟨j+1,by omega,by go_num,HW3⟩
    case measure=>simp[intOf]; omega
  ·have hje:j=s.size:=by omega
   subst hje
   have HC3:=hide (wb B b (U s.size) 39 39 rfl w0 wr (uh hW) (by have:=uh HLN s.size; omega))
   clear hW HNX HLN
   go_wp2_with fail
   refine (uh HC3).mono ?_
   rintro e w3 ⟨rfl,h3⟩
   have HW3:=hide h3
   clear HC3 h3
   go_wp2
   go_end0
   exact⟨rfl,by rw[uh HQA]; exact uh HW3⟩
theorem refU_step {o:PFOp} {j:Nat} (hj:j < o.steps.length) (l:List UInt8) : l++refU o (j+1)=(((l++refU o j)++[91])++(if o.steps[j].byI=true then sdec o.steps[j].idx else quo o.steps[j].name))++[93]:=by
 unfold refU
 rw[List.take_succ_eq_append_getElem hj,List.flatMap_append,List.flatMap_singleton]
 unfold stTx
 simp
theorem WB.next {B b:Nat} {l m:List UInt8} {w w1 w':World} (h:WB B b l w w1) (h2:WB B b m w1 w') : WB B b m w w':=h2.trans h.bel h.ok
theorem PwB.keep {B:Nat} {w w':World} (h:PwB B w) (hb:Below B w w') : PwB B w':=h.next hb (Nat.le_refl _)
theorem wref (o:PFOp) (p:Nat) (stv pa:Value) (bl:List Nat) (B b:Nat) (l:List UInt8) (w:World) (hp:w.heap[p]?=some (.cells #[.int .i64 o.k,.int .i64 o.n,.string o.s,.bool o.root,stv,pa] 132 (0,0))) (hpB:p < B) (hst:ORow stepE w stv o.steps bl) (hbl:∀ x∈bl,x < B)
  (hok:o.steps.all stepOk=true) (hs:szSteps o.steps≤1048576) (hP:PwB B w) (h:WB B b l w w) (hl:l.length≤800000000) :
  Calls Tryz.prog 86 #[.pointer (some ⟨p,0,none⟩),.pointer (some ⟨b,0,none⟩)] w fun e w'=>e = .returned (.tuple #[])∧WB B b (l++refT o) w w':=by
 obtain⟨a,c,rfl,-,hxa⟩:=hst.form
 have HPC:Hid (∀ wr,Below B w wr→wr.cell? ⟨p,4,none⟩=some (.slice a o.steps.length c)):=fun wr hb=>Lib.cell_of_heap ((hb.block p hpB).trans hp) 4
 have c3:w.cell? ⟨p,3,none⟩=some (.bool o.root):=Lib.cell_of_heap hp 3
 have HROW:Hid (∀ (wr:World) (j:Nat) (hj:j < o.steps.length),Below B w wr→∃ g,a=some ⟨g,0,none⟩∧wr.cell? ⟨g,j*3,none⟩=some (.bool o.steps[j].byI)∧wr.cell? ⟨g,j*3+1,none⟩=some (.string o.steps[j].name)∧wr.cell? ⟨g,j*3+2,none⟩=some (.int .i64 o.steps[j].idx)):=by
  intro wr j hj hb
  obtain⟨g,rfl⟩:=hxa (by omega)
  obtain⟨vs,ib,hE,hc,-,-,-⟩:=(hst.keep fun x hx=>hb.block x (hbl x hx)).at (List.getElem?_eq_getElem hj)
  obtain⟨rfl,-⟩:=hE
  exact⟨g,rfl,(hc 0 _ rfl).1,(hc 1 _ rfl).1,(hc 2 _ rfl).1⟩
 have HSO:Hid (∀ j (hj:j < o.steps.length),o.steps[j].name.size≤1048576∧(o.steps[j].byI=true→rangeI o.steps[j].idx=true)):=fun j hj=>by
  have hst:=List.all_eq_true.1 hok _ (List.getElem_mem hj)
  have hz1:=sum_mem szStep (List.getElem_mem hj)
  have hz2:szStep o.steps[j]=o.steps[j].name.size:=rfl
  have hz3:szSteps o.steps=o.steps.length+(o.steps.map szStep).sum:=rfl
  refine⟨by omega,fun e=>?_⟩
  unfold stepOk at hst
  rw[if_pos e,Bool.and_eq_true] at hst
  exact hst.2
 have HLN:Hid (∀ j,(l++refU o j).length≤850000000):=fun j=>by
  have:=take_len (j:=j) hok
  unfold refU
  rw[List.length_append,List.length_cons]
  omega
 have HNX:Hid (∀ j (hj:j < o.steps.length),l++refU o (j+1)=(((l++refU o j)++[91])++(if o.steps[j].byI=true then sdec o.steps[j].idx else quo o.steps[j].name))++[93]):=fun j hj=>refU_step hj l
 have HAL:Hid (l++refU o o.steps.length=l++refT o):=by show _=_; rw[refU_all]
 have HU0:Hid (o.root=true→l++[36]=l++refU o 0):=fun e=>by unfold refU; rw[e]; rfl
 have HU1:Hid (o.root=false→l++[64]=l++refU o 0):=fun e=>by unfold refU; rw[e]; rfl
 have hlen:o.steps.length≤1048576:=by unfold szSteps at hs; omega
 have hlI:(o.steps.length:Int)≤1048576:=by omega
 have H36:=hide (wb B b l 36 36 rfl w w h (by omega))
 have H64:=hide (wb B b l 64 64 rfl w w h (by omega))
 have HP0:=hide hP
 obtain⟨U,hU⟩ : ∃ U:Nat→List UInt8,U=fun j=>l++refU o j:=⟨_,rfl⟩
 have hU':∀ j,l++refU o j=U j:=fun j=>by rw[hU]
 simp only[hU'] at HNX HLN HAL HU0 HU1
 have HCW:Hid (o.root=true→Calls Tryz.prog 17 #[.pointer (some ⟨b,0,none⟩),.int .u8 36] w fun e w'=>e = .returned .nilIface∧WB B b (U 0) w w'):=fun e=>by rw[← uh HU0 e]; exact uh H36
 have HCN:Hid (o.root=false→Calls Tryz.prog 17 #[.pointer (some ⟨b,0,none⟩),.int .u8 64] w fun e w'=>e = .returned .nilIface∧WB B b (U 0) w w'):=fun e=>by rw[← uh HU1 e]; exact uh H64
 clear hU hU' hp hst hok hs h hP hxa H36 H64 HU0 HU1
 generalize l++refT o=LR at *
 obtain⟨k,n,s,r,st⟩:=o
 simp only at *
 cases r
 all_goals
  first | have HCX:=hide (uh HCN rfl) | have HCX:=hide (uh HCW rfl)
  clear HCW HCN
  go_enter Tryz.func86,Tryz.ntmps86
  go_wp2_with fail
  refine (uh HCX).mono ?_
  rintro e w1 ⟨rfl,h1⟩
  have HW1:=hide h1
  have c4:=uh HPC w1 h1.bel
  clear h1 HCX c3
  go_wp2
  clear c4
  go_loopw [21] (fun iv wr=>∃ j:Nat,j≤st.length∧iv = .int .i64 (j:Int)∧Hid (WB B b (U j) w wr)) (fun iv _=>st.length - (intOf iv).toNat)
  case atStart=>exact⟨0,Nat.zero_le _,rfl,HW1⟩
  case round=>
   obtain⟨j,hj,rfl,hW⟩:=hrel
   clear HW1
   by_cases hlt:j < st.length
   ·have hltI:(j:Int) < (st.length:Int):=by omega
    obtain⟨g,rfl,d0,d1,d2⟩:=uh HROW _ j hlt (uh hW).bel
    have HN:=hide (uh HNX j hlt)
    obtain⟨hz,hri⟩:=uh HSO j hlt
    have hln:=uh HLN j
    clear HROW HNX HAL HLN HSO HPC
    generalize st[j]=P at *
    obtain⟨byI,name,idx⟩:=P
    simp only at *
    have HWA:Hid (WB B b (U j) w (wr.alloc (Obj.cells #[.bool byI,.string name,.int .i64 idx] 107 (0,0)))):=(uh hW).up (alloc_b _ _)
    have HNB:Hid (wr.heap.size≠b):=fun e=>by have:=(uh hW).ne; omega
    have HSTP:Hid (∀ l' w2,WB B b l' (wr.alloc (Obj.cells #[.bool byI,.string name,.int .i64 idx] 107 (0,0))) w2→w2.cell? ⟨wr.heap.size,0,none⟩=some (.bool byI)∧w2.cell? ⟨wr.heap.size,1,none⟩=some (.string name)∧w2.cell? ⟨wr.heap.size,2,none⟩=some (.int .i64 idx)):=fun l' w2 h2=>by
     have:=h2.at (heap_alloc_new wr _) (by decide) (uh HNB)
     exact⟨Lib.cell_of_heap this 0,Lib.cell_of_heap this 1,Lib.cell_of_heap this 2⟩
    have HPA:=hide ((uh HP0).keep (uh HWA).bel)
    have H91:=hide (wb B b (U j) 91 91 rfl _ _ (uh HWA).self (by omega))
    clear hW HNB
    go_wp2_with fail
    refine (uh H91).mono ?_
    rintro e w2 ⟨rfl,h2⟩
    obtain⟨y0,y1,y2⟩:=uh HSTP _ w2 h2
    have H2:=hide h2
    clear H91 h2 d0 d1 d2
    cases byI with
    | true=>
     have hr:=hri rfl
     have hz3:(strOf (sdec idx)).size≤1000000000:=by rw[strOf_size]; have:=sdec_len hr; omega
     have HI:=hide (wi idx B b _ _ w2 (uh H2) hr (uh HPA))
     have HS3:Hid (∀ w3,WB B b (U j++[91]) (wr.alloc (Obj.cells #[.bool true,.string name,.int .i64 idx] 107 (0,0))) w3→Calls Tryz.prog 35 #[.pointer (some ⟨b,0,none⟩),.string (strOf (sdec idx))] w3 fun e w'=>e = .returned (.tuple #[.int .i64 (strOf (sdec idx)).size,.nilIface])∧WB B b ((U j++[91])++sdec idx) (wr.alloc (Obj.cells #[.bool true,.string name,.int .i64 idx] 107 (0,0))) w'):=fun w3 h3=>ws B b _ _ _ (strOf_toList _).symm _ w3 h3 (by rw[List.length_append]; simp; omega) hz3
     have HS4:Hid (∀ w4,WB B b ((U j++[91])++sdec idx) (wr.alloc (Obj.cells #[.bool true,.string name,.int .i64 idx] 107 (0,0))) w4→Calls Tryz.prog 17 #[.pointer (some ⟨b,0,none⟩),.int .u8 93] w4 fun e w'=>e = .returned .nilIface∧WB B b (U (j+1)) w w'):=fun w4 h4=>by
      rw[uh HN,if_pos rfl]
      exact (wb B b _ 93 93 rfl _ w4 h4 (by rw[List.length_append,List.length_append]; have:=sdec_len hr; simp; omega)).mono fun e w' h=>⟨h.1,(uh HWA).next h.2⟩
     clear HN hri hr hz3 H2 HPA HSTP hln
     generalize strOf (sdec idx)=V at *
     go_wp2_with fail
     refine (uh HI).mono ?_
     rintro e w3 ⟨rfl,h3⟩
     have HC3:=hide (uh HS3 w3 h3)
     clear HI h3 HS3
     go_wp2_with fail
     refine (uh HC3).mono ?_
     rintro e w4 ⟨rfl,h4⟩
     have HC4:=hide (uh HS4 w4 h4)
     clear HC3 h4 HS4
     go_wp2_with fail
     refine (uh HC4).mono ?_
     rintro e w5 ⟨rfl,h5⟩
     have HW5:=hide h5
     clear HC4 h5 y0 y1 y2
     go_wp2
     go_roundw
     case rel=>exact⟨j+1,by omega,by go_num,HW5⟩
     case measure=>simp[intOf]; omega
    | false=>
     have HI:=hide (wq B b _ name _ w2 (uh H2) hz (by rw[List.length_append]; simp; omega))
     have HS4:Hid (∀ w4,WB B b ((U j++[91])++quo name) (wr.alloc (Obj.cells #[.bool false,.string name,.int .i64 idx] 107 (0,0))) w4→Calls Tryz.prog 17 #[.pointer (some ⟨b,0,none⟩),.int .u8 93] w4 fun e w'=>e = .returned .nilIface∧WB B b (U (j+1)) w w'):=fun w4 h4=>by
      rw[uh HN,if_neg (by simp)]
      exact (wb B b _ 93 93 rfl _ w4 h4 (by rw[List.length_append,List.length_append]; have:=quo_len name; simp; omega)).mono fun e w' h=>⟨h.1,(uh HWA).next h.2⟩
     clear HN hri H2 HPA HSTP hln
     go_wp2_with fail
     refine (uh HI).mono ?_
     rintro e w4 ⟨rfl,h4⟩
     have HC4:=hide (uh HS4 w4 h4)
     clear HI h4 HS4
     go_wp2_with fail
     refine (uh HC4).mono ?_
     rintro e w5 ⟨rfl,h5⟩
     have HW5:=hide h5
     clear HC4 h5 y0 y1 y2
     go_wp2
     go_roundw
     case rel=>exact⟨j+1,by omega,by go_num,HW5⟩
     case measure=>simp[intOf]; omega
   ·have hje:j=st.length:=by omega
    subst hje
    clear HROW HNX HLN HSO HPC
    go_wp2
    go_end0
    exact⟨rfl,by rw[← uh HAL]; exact uh hW⟩
theorem comps_walk (w:World) : Calls Tryz.prog 84 #[] w fun e w'=>∃ g,e = .returned (.slice (some ⟨g,0,none⟩) 6 6)∧Below w.heap.size w w'∧g=w.heap.size ∧
  w'.cell? ⟨g,0,none⟩=some (.string ⟨#[61,61]⟩)∧w'.cell? ⟨g,2,none⟩=some (.string ⟨#[33,61]⟩)∧w'.cell? ⟨g,4,none⟩=some (.string ⟨#[60]⟩)∧w'.cell? ⟨g,6,none⟩=some (.string ⟨#[60,61]⟩)∧w'.cell? ⟨g,8,none⟩=some (.string ⟨#[62]⟩)∧w'.cell? ⟨g,10,none⟩=some (.string ⟨#[62,61]⟩):=by
 have HB:Hid (∀ o,Below w.heap.size w (w.alloc o)):=fun o=>alloc_b w o
 have HC:Hid (∀ cs T j,(w.alloc (Obj.cells cs T (0,0))).cell? ⟨w.heap.size,j,none⟩=cs[j]?):=fun cs T j=>Lib.cell_of_heap (heap_alloc_new w _) j
 go_enter Tryz.func84,Tryz.ntmps84
 go_wp2
 go_ret
 exact⟨_,rfl,uh HB _,rfl,uh HC _ _ 0,uh HC _ _ 2,uh HC _ _ 4,uh HC _ _ 6,uh HC _ _ 8,uh HC _ _ 10⟩
theorem joint_walk (k:Int) (w:World) : Calls Tryz.prog 85 #[.int .i64 k] w fun e w'=>e = .returned (.string (strOf (jointT k)))∧w=w':=by
 by_cases h:k=10
 ·subst h
  go_enter Tryz.func85,Tryz.ntmps85
  go_wp2
  go_ret
  exact⟨rfl,rfl⟩
 ·have HV:Hid (jointT k=[124,124]):=by show _=_; unfold jointT; rw[if_neg h]
  go_enter Tryz.func85,Tryz.ntmps85
  go_wp2
  go_ret
  exact⟨by rw[uh HV]; rfl,rfl⟩
def IW (B b:Nat) (l:List UInt8) (n:Int) (wa:World) : Prop:=(∀ w2,WB B b l wa w2→Calls Tryz.prog 57 #[.int .i64 n] w2 fun e w'=>e = .returned (.string (strOf (sdec n)))∧WB B b l wa w') ∧
 ∀ w3,WB B b l wa w3→Calls Tryz.prog 35 #[.pointer (some ⟨b,0,none⟩),.string (strOf (sdec n))] w3 fun e w'=>e = .returned (.tuple #[.int .i64 (strOf (sdec n)).size,.nilIface])∧WB B b (l++sdec n) wa w'
theorem iw {B b:Nat} {l:List UInt8} {n:Int} {wa:World} (hr:rangeI n=true) (hP:PwB B wa) (hl:l.length≤900000000) : IW B b l n wa:=
 ⟨fun w2 h=>wi n B b l wa w2 h hr hP,fun w3 h=>ws B b l _ _ (strOf_toList _).symm wa w3 h (by omega) (by rw[strOf_size]; have:=sdec_len hr; omega)⟩
theorem wsl (o:PSel) (x:Option Addr) (y z:Nat) (pp:Option Addr) (B b:Nat) (l:List UInt8) (w:World) (ha:rangeI o.a=true) (hb:rangeI o.b=true) (hc:rangeI o.c=true) (hP:PwB B w) (h:WB B b l w w) (hl:l.length≤800000000) :
  Calls Tryz.prog 58 #[.agg #[.int .i64 o.k,.string o.name,.bool o.hasA,.bool o.hasB,.bool o.hasC,.int .i64 o.a,.int .i64 o.b,.int .i64 o.c,.slice x y z,.pointer pp],.pointer (some ⟨b,0,none⟩)] w fun e w'=>e = .returned (.tuple #[])∧WB B b (l++sliceT o) w w':=by
 have HT:Hid (sliceT o=(if o.hasA=true then sdec o.a else [])++(58 :: ((if o.hasB=true then sdec o.b else [])++(if o.hasC=true then 58 :: sdec o.c else [])))):=rfl
 generalize sliceT o=ST at *
 have la:=sdec_len ha
 have lb:=sdec_len hb
 have e58:([58] : List UInt8).length=1:=rfl
 obtain⟨k,name,hA,hB,hC,a,b',c,cond⟩:=o
 simp only at *
 have HNB:Hid (w.heap.size≠b):=fun e=>by have:=h.ne; omega
 have HBX:Hid (∀ l' w2,WB B b l' (w.alloc (Obj.cells #[.int .i64 k,.string name,.bool hA,.bool hB,.bool hC,.int .i64 a,.int .i64 b',.int .i64 c,.slice x y z,.pointer pp] 86 (0,0))) w2→w2.cell? ⟨w.heap.size,3,none⟩=some (.bool hB)∧w2.cell? ⟨w.heap.size,4,none⟩=some (.bool hC)∧w2.cell? ⟨w.heap.size,6,none⟩=some (.int .i64 b')∧w2.cell? ⟨w.heap.size,7,none⟩=some (.int .i64 c)):=fun l' w2 h2=>by
  have:=h2.at (heap_alloc_new w _) (by decide) (uh HNB)
  exact⟨Lib.cell_of_heap this 3,Lib.cell_of_heap this 4,Lib.cell_of_heap this 6,Lib.cell_of_heap this 7⟩
 have HWA:Hid (WB B b l w (w.alloc (Obj.cells #[.int .i64 k,.string name,.bool hA,.bool hB,.bool hC,.int .i64 a,.int .i64 b',.int .i64 c,.slice x y z,.pointer pp] 86 (0,0)))):=h.up (alloc_b _ _)
 have HPA:=hide (hP.keep (uh HWA).bel)
 generalize hwa:w.alloc (Obj.cells #[.int .i64 k,.string name,.bool hA,.bool hB,.bool hC,.int .i64 a,.int .i64 b',.int .i64 c,.slice x y z,.pointer pp] 86 (0,0))=wa at HBX HWA HPA
 have HEQ:=hide hwa
 have HW0:=hide (uh HWA).self
 clear h hP HNB hwa
 cases hA with
 | true=>
  cases hB with
  | true=>
   cases hC with
   | true=>
    have HV:Hid (l++ST=(((((l++sdec a)++[58])++sdec b')++[58])++sdec c)):=by show _=_; rw[uh HT]; simp
    clear HT
    have K0:=hide (iw (b:=b) (l:=l) ha (uh HPA) (by (repeat rw[List.length_append]); omega))
    have K1:Hid (∀ w3,WB B b (l++sdec a) wa w3→Calls Tryz.prog 17 #[.pointer (some ⟨b,0,none⟩),.int .u8 58] w3 fun e w'=>e = .returned .nilIface∧WB B b ((l++sdec a)++[58]) wa w'):=fun w3 h3=>wb B b _ 58 58 rfl _ w3 h3 (by (repeat rw[List.length_append]); omega)
    have K2:=hide (iw (b:=b) (l:=((l++sdec a)++[58])) hb (uh HPA) (by (repeat rw[List.length_append]); omega))
    have K3:Hid (∀ w3,WB B b (((l++sdec a)++[58])++sdec b') wa w3→Calls Tryz.prog 17 #[.pointer (some ⟨b,0,none⟩),.int .u8 58] w3 fun e w'=>e = .returned .nilIface∧WB B b ((((l++sdec a)++[58])++sdec b')++[58]) wa w'):=fun w3 h3=>wb B b _ 58 58 rfl _ w3 h3 (by (repeat rw[List.length_append]); omega)
    have K4:=hide (iw (b:=b) (l:=((((l++sdec a)++[58])++sdec b')++[58])) hc (uh HPA) (by (repeat rw[List.length_append]); omega))
    clear ha hb hc la lb hl HPA e58
    go_enter Tryz.func58,Tryz.ntmps58
    go_wp2_with fail
    rw[uh HEQ]
    clear HEQ
    refine ((uh K0).1 _ (uh HW0)).mono ?_
    rintro e w1 ⟨rfl,h1⟩
    have G1:=hide h1
    obtain⟨p13,p14,p16,p17⟩:=uh HBX _ _ h1
    clear h1 HW0
    go_wp2_with fail
    refine ((uh K0).2 _ (uh G1)).mono ?_
    rintro e w2 ⟨rfl,h2⟩
    have G2:=hide h2
    obtain⟨p23,p24,p26,p27⟩:=uh HBX _ _ h2
    clear h2 G1 K0
    go_wp2_with fail
    refine (uh K1 _ (uh G2)).mono ?_
    rintro e w3 ⟨rfl,h3⟩
    have G3:=hide h3
    obtain⟨p33,p34,p36,p37⟩:=uh HBX _ _ h3
    clear h3 G2 K1
    go_wp2_with fail
    refine ((uh K2).1 _ (uh G3)).mono ?_
    rintro e w4 ⟨rfl,h4⟩
    have G4:=hide h4
    obtain⟨p43,p44,p46,p47⟩:=uh HBX _ _ h4
    clear h4 G3
    go_wp2_with fail
    refine ((uh K2).2 _ (uh G4)).mono ?_
    rintro e w5 ⟨rfl,h5⟩
    have G5:=hide h5
    obtain⟨p53,p54,p56,p57⟩:=uh HBX _ _ h5
    clear h5 G4 K2
    go_wp2_with fail
    refine (uh K3 _ (uh G5)).mono ?_
    rintro e w6 ⟨rfl,h6⟩
    have G6:=hide h6
    obtain⟨p63,p64,p66,p67⟩:=uh HBX _ _ h6
    clear h6 G5 K3
    go_wp2_with fail
    refine ((uh K4).1 _ (uh G6)).mono ?_
    rintro e w7 ⟨rfl,h7⟩
    have G7:=hide h7
    obtain⟨p73,p74,p76,p77⟩:=uh HBX _ _ h7
    clear h7 G6
    go_wp2_with fail
    refine ((uh K4).2 _ (uh G7)).mono ?_
    rintro e w8 ⟨rfl,h8⟩
    have G8:=hide h8
    obtain⟨p83,p84,p86,p87⟩:=uh HBX _ _ h8
    clear h8 G7 K4
    go_wp2
    go_end0
    exact⟨rfl,by rw[uh HV]; exact (uh HWA).next (uh G8)⟩
   | false=>
    have HV:Hid (l++ST=(((l++sdec a)++[58])++sdec b')):=by show _=_; rw[uh HT]; simp
    clear HT
    have K0:=hide (iw (b:=b) (l:=l) ha (uh HPA) (by (repeat rw[List.length_append]); omega))
    have K1:Hid (∀ w3,WB B b (l++sdec a) wa w3→Calls Tryz.prog 17 #[.pointer (some ⟨b,0,none⟩),.int .u8 58] w3 fun e w'=>e = .returned .nilIface∧WB B b ((l++sdec a)++[58]) wa w'):=fun w3 h3=>wb B b _ 58 58 rfl _ w3 h3 (by (repeat rw[List.length_append]); omega)
    have K2:=hide (iw (b:=b) (l:=((l++sdec a)++[58])) hb (uh HPA) (by (repeat rw[List.length_append]); omega))
    clear ha hb hc la lb hl HPA e58
    go_enter Tryz.func58,Tryz.ntmps58
    go_wp2_with fail
    rw[uh HEQ]
    clear HEQ
    refine ((uh K0).1 _ (uh HW0)).mono ?_
    rintro e w1 ⟨rfl,h1⟩
    have G1:=hide h1
    obtain⟨p13,p14,p16,p17⟩:=uh HBX _ _ h1
    clear h1 HW0
    go_wp2_with fail
    refine ((uh K0).2 _ (uh G1)).mono ?_
    rintro e w2 ⟨rfl,h2⟩
    have G2:=hide h2
    obtain⟨p23,p24,p26,p27⟩:=uh HBX _ _ h2
    clear h2 G1 K0
    go_wp2_with fail
    refine (uh K1 _ (uh G2)).mono ?_
    rintro e w3 ⟨rfl,h3⟩
    have G3:=hide h3
    obtain⟨p33,p34,p36,p37⟩:=uh HBX _ _ h3
    clear h3 G2 K1
    go_wp2_with fail
    refine ((uh K2).1 _ (uh G3)).mono ?_
    rintro e w4 ⟨rfl,h4⟩
    have G4:=hide h4
    obtain⟨p43,p44,p46,p47⟩:=uh HBX _ _ h4
    clear h4 G3
    go_wp2_with fail
    refine ((uh K2).2 _ (uh G4)).mono ?_
    rintro e w5 ⟨rfl,h5⟩
    have G5:=hide h5
    obtain⟨p53,p54,p56,p57⟩:=uh HBX _ _ h5
    clear h5 G4 K2
    go_wp2
    go_end0
    exact⟨rfl,by rw[uh HV]; exact (uh HWA).next (uh G5)⟩
  | false=>
   cases hC with
   | true=>
    have HV:Hid (l++ST=((((l++sdec a)++[58])++[58])++sdec c)):=by show _=_; rw[uh HT]; simp
    clear HT
    have K0:=hide (iw (b:=b) (l:=l) ha (uh HPA) (by (repeat rw[List.length_append]); omega))
    have K1:Hid (∀ w3,WB B b (l++sdec a) wa w3→Calls Tryz.prog 17 #[.pointer (some ⟨b,0,none⟩),.int .u8 58] w3 fun e w'=>e = .returned .nilIface∧WB B b ((l++sdec a)++[58]) wa w'):=fun w3 h3=>wb B b _ 58 58 rfl _ w3 h3 (by (repeat rw[List.length_append]); omega)
    have K2:Hid (∀ w3,WB B b ((l++sdec a)++[58]) wa w3→Calls Tryz.prog 17 #[.pointer (some ⟨b,0,none⟩),.int .u8 58] w3 fun e w'=>e = .returned .nilIface∧WB B b (((l++sdec a)++[58])++[58]) wa w'):=fun w3 h3=>wb B b _ 58 58 rfl _ w3 h3 (by (repeat rw[List.length_append]); omega)
    have K3:=hide (iw (b:=b) (l:=(((l++sdec a)++[58])++[58])) hc (uh HPA) (by (repeat rw[List.length_append]); omega))
    clear ha hb hc la lb hl HPA e58
    go_enter Tryz.func58,Tryz.ntmps58
    go_wp2_with fail
    rw[uh HEQ]
    clear HEQ
    refine ((uh K0).1 _ (uh HW0)).mono ?_
    rintro e w1 ⟨rfl,h1⟩
    have G1:=hide h1
    obtain⟨p13,p14,p16,p17⟩:=uh HBX _ _ h1
    clear h1 HW0
    go_wp2_with fail
    refine ((uh K0).2 _ (uh G1)).mono ?_
    rintro e w2 ⟨rfl,h2⟩
    have G2:=hide h2
    obtain⟨p23,p24,p26,p27⟩:=uh HBX _ _ h2
    clear h2 G1 K0
    go_wp2_with fail
    refine (uh K1 _ (uh G2)).mono ?_
    rintro e w3 ⟨rfl,h3⟩
    have G3:=hide h3
    obtain⟨p33,p34,p36,p37⟩:=uh HBX _ _ h3
    clear h3 G2 K1
    go_wp2_with fail
    refine (uh K2 _ (uh G3)).mono ?_
    rintro e w4 ⟨rfl,h4⟩
    have G4:=hide h4
    obtain⟨p43,p44,p46,p47⟩:=uh HBX _ _ h4
    clear h4 G3 K2
    go_wp2_with fail
    refine ((uh K3).1 _ (uh G4)).mono ?_
    rintro e w5 ⟨rfl,h5⟩
    have G5:=hide h5
    obtain⟨p53,p54,p56,p57⟩:=uh HBX _ _ h5
    clear h5 G4
    go_wp2_with fail
    refine ((uh K3).2 _ (uh G5)).mono ?_
    rintro e w6 ⟨rfl,h6⟩
    have G6:=hide h6
    obtain⟨p63,p64,p66,p67⟩:=uh HBX _ _ h6
    clear h6 G5 K3
    go_wp2
    go_end0
    exact⟨rfl,by rw[uh HV]; exact (uh HWA).next (uh G6)⟩
   | false=>
    have HV:Hid (l++ST=((l++sdec a)++[58])):=by show _=_; rw[uh HT]; simp
    clear HT
    have K0:=hide (iw (b:=b) (l:=l) ha (uh HPA) (by (repeat rw[List.length_append]); omega))
    have K1:Hid (∀ w3,WB B b (l++sdec a) wa w3→Calls Tryz.prog 17 #[.pointer (some ⟨b,0,none⟩),.int .u8 58] w3 fun e w'=>e = .returned .nilIface∧WB B b ((l++sdec a)++[58]) wa w'):=fun w3 h3=>wb B b _ 58 58 rfl _ w3 h3 (by (repeat rw[List.length_append]); omega)
    clear ha hb hc la lb hl HPA e58
    go_enter Tryz.func58,Tryz.ntmps58
    go_wp2_with fail
    rw[uh HEQ]
    clear HEQ
    refine ((uh K0).1 _ (uh HW0)).mono ?_
    rintro e w1 ⟨rfl,h1⟩
    have G1:=hide h1
    obtain⟨p13,p14,p16,p17⟩:=uh HBX _ _ h1
    clear h1 HW0
    go_wp2_with fail
    refine ((uh K0).2 _ (uh G1)).mono ?_
    rintro e w2 ⟨rfl,h2⟩
    have G2:=hide h2
    obtain⟨p23,p24,p26,p27⟩:=uh HBX _ _ h2
    clear h2 G1 K0
    go_wp2_with fail
    refine (uh K1 _ (uh G2)).mono ?_
    rintro e w3 ⟨rfl,h3⟩
    have G3:=hide h3
    obtain⟨p33,p34,p36,p37⟩:=uh HBX _ _ h3
    clear h3 G2 K1
    go_wp2
    go_end0
    exact⟨rfl,by rw[uh HV]; exact (uh HWA).next (uh G3)⟩
 | false=>
  cases hB with
  | true=>
   cases hC with
   | true=>
    have HV:Hid (l++ST=((((l++[58])++sdec b')++[58])++sdec c)):=by show _=_; rw[uh HT]; simp
    clear HT
    have K0:Hid (∀ w3,WB B b l wa w3→Calls Tryz.prog 17 #[.pointer (some ⟨b,0,none⟩),.int .u8 58] w3 fun e w'=>e = .returned .nilIface∧WB B b (l++[58]) wa w'):=fun w3 h3=>wb B b _ 58 58 rfl _ w3 h3 (by (repeat rw[List.length_append]); omega)
    have K1:=hide (iw (b:=b) (l:=(l++[58])) hb (uh HPA) (by (repeat rw[List.length_append]); omega))
    have K2:Hid (∀ w3,WB B b ((l++[58])++sdec b') wa w3→Calls Tryz.prog 17 #[.pointer (some ⟨b,0,none⟩),.int .u8 58] w3 fun e w'=>e = .returned .nilIface∧WB B b (((l++[58])++sdec b')++[58]) wa w'):=fun w3 h3=>wb B b _ 58 58 rfl _ w3 h3 (by (repeat rw[List.length_append]); omega)
    have K3:=hide (iw (b:=b) (l:=(((l++[58])++sdec b')++[58])) hc (uh HPA) (by (repeat rw[List.length_append]); omega))
    clear ha hb hc la lb hl HPA e58
    go_enter Tryz.func58,Tryz.ntmps58
    go_wp2_with fail
    rw[uh HEQ]
    clear HEQ
    refine (uh K0 _ (uh HW0)).mono ?_
    rintro e w1 ⟨rfl,h1⟩
    have G1:=hide h1
    obtain⟨p13,p14,p16,p17⟩:=uh HBX _ _ h1
    clear h1 HW0 K0
    go_wp2_with fail
    refine ((uh K1).1 _ (uh G1)).mono ?_
    rintro e w2 ⟨rfl,h2⟩
    have G2:=hide h2
    obtain⟨p23,p24,p26,p27⟩:=uh HBX _ _ h2
    clear h2 G1
    go_wp2_with fail
    refine ((uh K1).2 _ (uh G2)).mono ?_
    rintro e w3 ⟨rfl,h3⟩
    have G3:=hide h3
    obtain⟨p33,p34,p36,p37⟩:=uh HBX _ _ h3
    clear h3 G2 K1
    go_wp2_with fail
    refine (uh K2 _ (uh G3)).mono ?_
    rintro e w4 ⟨rfl,h4⟩
    have G4:=hide h4
    obtain⟨p43,p44,p46,p47⟩:=uh HBX _ _ h4
    clear h4 G3 K2
    go_wp2_with fail
    refine ((uh K3).1 _ (uh G4)).mono ?_
    rintro e w5 ⟨rfl,h5⟩
    have G5:=hide h5
    obtain⟨p53,p54,p56,p57⟩:=uh HBX _ _ h5
    clear h5 G4
    go_wp2_with fail
    refine ((uh K3).2 _ (uh G5)).mono ?_
    rintro e w6 ⟨rfl,h6⟩
    have G6:=hide h6
    obtain⟨p63,p64,p66,p67⟩:=uh HBX _ _ h6
    clear h6 G5 K3
    go_wp2
    go_end0
    exact⟨rfl,by rw[uh HV]; exact (uh HWA).next (uh G6)⟩
   | false=>
    have HV:Hid (l++ST=((l++[58])++sdec b')):=by show _=_; rw[uh HT]; simp
    clear HT
    have K0:Hid (∀ w3,WB B b l wa w3→Calls Tryz.prog 17 #[.pointer (some ⟨b,0,none⟩),.int .u8 58] w3 fun e w'=>e = .returned .nilIface∧WB B b (l++[58]) wa w'):=fun w3 h3=>wb B b _ 58 58 rfl _ w3 h3 (by (repeat rw[List.length_append]); omega)
    have K1:=hide (iw (b:=b) (l:=(l++[58])) hb (uh HPA) (by (repeat rw[List.length_append]); omega))
    clear ha hb hc la lb hl HPA e58
    go_enter Tryz.func58,Tryz.ntmps58
    go_wp2_with fail
    rw[uh HEQ]
    clear HEQ
    refine (uh K0 _ (uh HW0)).mono ?_
    rintro e w1 ⟨rfl,h1⟩
    have G1:=hide h1
    obtain⟨p13,p14,p16,p17⟩:=uh HBX _ _ h1
    clear h1 HW0 K0
    go_wp2_with fail
    refine ((uh K1).1 _ (uh G1)).mono ?_
    rintro e w2 ⟨rfl,h2⟩
    have G2:=hide h2
    obtain⟨p23,p24,p26,p27⟩:=uh HBX _ _ h2
    clear h2 G1
    go_wp2_with fail
    refine ((uh K1).2 _ (uh G2)).mono ?_
    rintro e w3 ⟨rfl,h3⟩
    have G3:=hide h3
    obtain⟨p33,p34,p36,p37⟩:=uh HBX _ _ h3
    clear h3 G2 K1
    go_wp2
    go_end0
    exact⟨rfl,by rw[uh HV]; exact (uh HWA).next (uh G3)⟩
  | false=>
   cases hC with
   | true=>
    have HV:Hid (l++ST=(((l++[58])++[58])++sdec c)):=by show _=_; rw[uh HT]; simp
    clear HT
    have K0:Hid (∀ w3,WB B b l wa w3→Calls Tryz.prog 17 #[.pointer (some ⟨b,0,none⟩),.int .u8 58] w3 fun e w'=>e = .returned .nilIface∧WB B b (l++[58]) wa w'):=fun w3 h3=>wb B b _ 58 58 rfl _ w3 h3 (by (repeat rw[List.length_append]); omega)
    have K1:Hid (∀ w3,WB B b (l++[58]) wa w3→Calls Tryz.prog 17 #[.pointer (some ⟨b,0,none⟩),.int .u8 58] w3 fun e w'=>e = .returned .nilIface∧WB B b ((l++[58])++[58]) wa w'):=fun w3 h3=>wb B b _ 58 58 rfl _ w3 h3 (by (repeat rw[List.length_append]); omega)
    have K2:=hide (iw (b:=b) (l:=((l++[58])++[58])) hc (uh HPA) (by (repeat rw[List.length_append]); omega))
    clear ha hb hc la lb hl HPA e58
    go_enter Tryz.func58,Tryz.ntmps58
    go_wp2_with fail
    rw[uh HEQ]
    clear HEQ
    refine (uh K0 _ (uh HW0)).mono ?_
    rintro e w1 ⟨rfl,h1⟩
    have G1:=hide h1
    obtain⟨p13,p14,p16,p17⟩:=uh HBX _ _ h1
    clear h1 HW0 K0
    go_wp2_with fail
    refine (uh K1 _ (uh G1)).mono ?_
    rintro e w2 ⟨rfl,h2⟩
    have G2:=hide h2
    obtain⟨p23,p24,p26,p27⟩:=uh HBX _ _ h2
    clear h2 G1 K1
    go_wp2_with fail
    refine ((uh K2).1 _ (uh G2)).mono ?_
    rintro e w3 ⟨rfl,h3⟩
    have G3:=hide h3
    obtain⟨p33,p34,p36,p37⟩:=uh HBX _ _ h3
    clear h3 G2
    go_wp2_with fail
    refine ((uh K2).2 _ (uh G3)).mono ?_
    rintro e w4 ⟨rfl,h4⟩
    have G4:=hide h4
    obtain⟨p43,p44,p46,p47⟩:=uh HBX _ _ h4
    clear h4 G3 K2
    go_wp2
    go_end0
    exact⟨rfl,by rw[uh HV]; exact (uh HWA).next (uh G4)⟩
   | false=>
    have HV:Hid (l++ST=(l++[58])):=by show _=_; rw[uh HT]; simp
    clear HT
    have K0:Hid (∀ w3,WB B b l wa w3→Calls Tryz.prog 17 #[.pointer (some ⟨b,0,none⟩),.int .u8 58] w3 fun e w'=>e = .returned .nilIface∧WB B b (l++[58]) wa w'):=fun w3 h3=>wb B b _ 58 58 rfl _ w3 h3 (by (repeat rw[List.length_append]); omega)
    clear ha hb hc la lb hl HPA e58
    go_enter Tryz.func58,Tryz.ntmps58
    go_wp2_with fail
    rw[uh HEQ]
    clear HEQ
    refine (uh K0 _ (uh HW0)).mono ?_
    rintro e w1 ⟨rfl,h1⟩
    have G1:=hide h1
    obtain⟨p13,p14,p16,p17⟩:=uh HBX _ _ h1
    clear h1 HW0 K0
    go_wp2
    go_end0
    exact⟨rfl,by rw[uh HV]; exact (uh HWA).next (uh G1)⟩
structure WrL (t:TypeId) (p:Value) (f:FuncId) : Prop where
 meth : ∀ w : World, (method 335 t p "loop.example/s04350/impl.write").run Tryz.prog w = .ok (f, p) w
 ent:∀ args (w:World),(callFunc f args).run Tryz.prog w = .ok (.enter f args) w
theorem wrl_int (n:Int) : WrL 147 (.int .i64 n) 161:=⟨fun _=>by kernel_rfl,enters_of Tryz.func161 (by kernel_rfl) rfl⟩
theorem wrl_bool (x:Bool) : WrL 149 (.bool x) 168:=⟨fun _=>by kernel_rfl,enters_of Tryz.func168 (by kernel_rfl) rfl⟩
theorem wrl_null:WrL 150 (.agg #[]) 171:=⟨fun _=>by kernel_rfl,enters_of Tryz.func171 (by kernel_rfl) rfl⟩
theorem wv_int (n:Int) (B b:Nat) (l:List UInt8) (w:World) (hr:rangeI n=true) (hP:PwB B w) (h:WB B b l w w) (hl:l.length≤800000000) :
  Calls Tryz.prog 161 #[.int .i64 n,.pointer (some ⟨b,0,none⟩)] w fun e w'=>e = .returned (.tuple #[])∧WB B b (l++sdec n) w w':=by
 have hr2:=hr
 unfold rangeI at hr2
 simp only[Bool.and_eq_true,decide_eq_true_eq] at hr2
 have HF:Hid (Calls Tryz.prog 162 #[.int .i64 n,.int .i64 10] w fun e w'=>e = .returned (.string (strOf (sdec n)))∧WB B b l w w'):=by
  refine (Tryz.strconv_FormatInt_10 n (by omega) (by omega) w hP.2).mono ?_
  rintro e w' ⟨rfl,k,os,rfl⟩
  rw[itoa_sdec]
  exact⟨rfl,h.up ⟨rfl,rfl,rfl,by simp[Go.Sort.grow],fun i hi=>by show (w.heap++os)[i]?=_; rw[Array.getElem?_append_left hi]⟩⟩
 have HS:Hid (∀ w3,WB B b l w w3→Calls Tryz.prog 35 #[.pointer (some ⟨b,0,none⟩),.string (strOf (sdec n))] w3 fun e w'=>e = .returned (.tuple #[.int .i64 (strOf (sdec n)).size,.nilIface])∧WB B b (l++sdec n) w w'):=fun w3 h3=>ws B b l _ _ (strOf_toList _).symm w w3 h3 (by omega) (by rw[strOf_size]; have:=sdec_len hr; omega)
 clear h hP hl hr hr2
 generalize strOf (sdec n)=V at *
 go_enter Tryz.func161,Tryz.ntmps161
 go_wp2_with fail
 refine (uh HF).mono ?_
 rintro e w1 ⟨rfl,h1⟩
 have HC:=hide (uh HS w1 h1)
 clear HF HS h1
 go_wp2_with fail
 refine (uh HC).mono ?_
 rintro e w2 ⟨rfl,h2⟩
 have HW:=hide h2
 clear HC h2
 go_wp2
 go_end0
 exact⟨rfl,uh HW⟩
theorem wv_bool (x:Bool) (B b:Nat) (l:List UInt8) (w:World) (h:WB B b l w w) (hl:l.length≤800000000) :
  Calls Tryz.prog 168 #[.bool x,.pointer (some ⟨b,0,none⟩)] w fun e w'=>e = .returned (.tuple #[])∧WB B b (l++Lib.formatBool x) w w':=by
 have hz:(⟨(Lib.formatBool x).toArray⟩ : ByteArray).size≤1000000000:=by cases x <;> decide
 have HC:=hide (ws B b l (Lib.formatBool x) ⟨(Lib.formatBool x).toArray⟩ (by simp) w w h (by omega) hz)
 have HF:=hide (Tryz.strconv_FormatBool x w)
 clear h hl hz
 generalize (⟨(Lib.formatBool x).toArray⟩ : ByteArray)=q at *
 generalize Lib.formatBool x=q' at *
 go_enter Tryz.func168,Tryz.ntmps168
 go_wp2_with fail
 refine (uh HF).mono ?_
 rintro e w1 ⟨rfl,rfl⟩
 clear HF
 go_wp2_with fail
 refine (uh HC).mono ?_
 rintro e w2 ⟨rfl,h2⟩
 have HW:=hide h2
 clear HC h2
 go_wp2
 go_end0
 exact⟨rfl,uh HW⟩
theorem wv_null (B b:Nat) (l:List UInt8) (w:World) (h:WB B b l w w) (hl:l.length≤800000000) :
  Calls Tryz.prog 171 #[.agg #[],.pointer (some ⟨b,0,none⟩)] w fun e w'=>e = .returned (.tuple #[])∧WB B b (l++[110,117,108,108]) w w':=by
 have HC:=hide (ws B b l [110,117,108,108] ⟨#[110,117,108,108]⟩ rfl w (w.alloc (.cells #[] 150)) (h.up (alloc_b _ _)) (by omega) (by decide))
 clear h hl
 go_enter Tryz.func171,Tryz.ntmps171
 go_wp2_with fail
 refine (uh HC).mono ?_
 rintro e w2 ⟨rfl,h2⟩
 have HW:=hide h2
 clear HC h2
 go_wp2
 go_end0
 exact⟨rfl,uh HW⟩
theorem litc1 (p:Nat) (n:Int) (w:World) (c0:w.cell? ⟨p,0,none⟩=some (.int .i64 1)) (c1:w.cell? ⟨p,1,none⟩=some (.int .i64 n)) : Calls Tryz.prog 87 #[.pointer (some ⟨p,0,none⟩)] w fun e w'=>e = .returned (.iface 147 (.int .i64 n))∧w=w':=by
 go_enter Tryz.func87,Tryz.ntmps87
 go_wp2
 go_ret
 exact⟨rfl,rfl⟩
theorem litc3 (p:Nat) (n:Int) (w:World) (c0:w.cell? ⟨p,0,none⟩=some (.int .i64 3)) (_c1:w.cell? ⟨p,1,none⟩=some (.int .i64 n)) : Calls Tryz.prog 87 #[.pointer (some ⟨p,0,none⟩)] w fun e w'=>e = .returned (.iface 149 (.bool true))∧w=w':=by
 go_enter Tryz.func87,Tryz.ntmps87
 go_wp2
 go_ret
 exact⟨rfl,rfl⟩
theorem litc4 (p:Nat) (n:Int) (w:World) (c0:w.cell? ⟨p,0,none⟩=some (.int .i64 4)) (_c1:w.cell? ⟨p,1,none⟩=some (.int .i64 n)) : Calls Tryz.prog 87 #[.pointer (some ⟨p,0,none⟩)] w fun e w'=>e = .returned (.iface 149 (.bool false))∧w=w':=by
 go_enter Tryz.func87,Tryz.ntmps87
 go_wp2
 go_ret
 exact⟨rfl,rfl⟩
theorem litc5 (p:Nat) (n:Int) (w:World) (c0:w.cell? ⟨p,0,none⟩=some (.int .i64 5)) (_c1:w.cell? ⟨p,1,none⟩=some (.int .i64 n)) : Calls Tryz.prog 87 #[.pointer (some ⟨p,0,none⟩)] w fun e w'=>e = .returned (.iface 150 (.agg #[]))∧w=w':=by
 go_enter Tryz.func87,Tryz.ntmps87
 go_wp2
 go_ret
 exact⟨rfl,rfl⟩
theorem wleaf (o:PFOp) (p:Nat) (stv pa:Value) (bl:List Nat) (B b:Nat) (l:List UInt8) (w:World) (hf:fopOk o=true) (hp0:parts o.k=0) (hp:w.heap[p]?=some (.cells #[.int .i64 o.k,.int .i64 o.n,.string o.s,.bool o.root,stv,pa] 132 (0,0))) (hpB:p < B) (hst:ORow stepE w stv o.steps bl) (hbl:∀ x∈bl,x < B)
  (hs:szSteps o.steps≤1048576) (hss:o.s.size≤1048576) (hP:PwB B w) (h:WB B b l w w) (hl:l.length≤700000000) :
  Calls Tryz.prog 59 #[.pointer (some ⟨p,0,none⟩),.pointer (some ⟨b,0,none⟩)] w fun e w'=>e = .returned (.tuple #[])∧WB B b (l++leafT o) w w':=by
 have hk:=fop_k hf
 have hk8:=parts_zero hk hp0
 have HR:Hid (Calls Tryz.prog 86 #[.pointer (some ⟨p,0,none⟩),.pointer (some ⟨b,0,none⟩)] w fun e w'=>e = .returned (.tuple #[])∧WB B b (l++refT o) w w'):=wref o p stv pa bl B b l w hp hpB hst hbl (steps_of hf) hs hP h (by omega)
 have HQ:=hide (wq B b l o.s w w h hss (by omega))
 have HL7:=hide (ws B b l [108,101,110,103,116,104,40] ⟨#[108,101,110,103,116,104,40]⟩ rfl w w h (by omega) (by decide))
 have HR7:Hid (∀ w2,WB B b (l++[108,101,110,103,116,104,40]) w w2→Calls Tryz.prog 86 #[.pointer (some ⟨p,0,none⟩),.pointer (some ⟨b,0,none⟩)] w2 fun e w'=>e = .returned (.tuple #[])∧WB B b ((l++[108,101,110,103,116,104,40])++refT o) w w'):=fun w2 h2=>
  (wref o p stv pa bl B b _ w2 ((h2.bel.block p hpB).trans hp) hpB (hst.keep fun x hx=>h2.bel.block x (hbl x hx)) hbl (steps_of hf) hs (hP.keep h2.bel) h2.self (by rw[List.length_append]; simp; omega)).mono fun e w' hh=>⟨hh.1,h2.next hh.2⟩
 have HE7:Hid (∀ w3,WB B b ((l++[108,101,110,103,116,104,40])++refT o) w w3→Calls Tryz.prog 17 #[.pointer (some ⟨b,0,none⟩),.int .u8 41] w3 fun e w'=>e = .returned .nilIface∧WB B b (((l++[108,101,110,103,116,104,40])++refT o)++[41]) w w'):=fun w3 h3=>wb B b _ 41 41 rfl _ w3 h3 (by rw[List.length_append,List.length_append]; have:=refT_len hf; simp; omega)
 have HI:Hid (o.k=1→Calls Tryz.prog 161 #[.int .i64 o.n,.pointer (some ⟨b,0,none⟩)] w fun e w'=>e = .returned (.tuple #[])∧WB B b (l++sdec o.n) w w'):=fun e=>wv_int o.n B b l w (sdec_of hf e) hP h (by omega)
 have HT:=hide (wv_bool true B b l w h (by omega))
 have HFF:=hide (wv_bool false B b l w h (by omega))
 have HN:=hide (wv_null B b l w h (by omega))
 have c0:w.cell? ⟨p,0,none⟩=some (.int .i64 o.k):=Lib.cell_of_heap hp 0
 have c1:w.cell? ⟨p,1,none⟩=some (.int .i64 o.n):=Lib.cell_of_heap hp 1
 have c2:w.cell? ⟨p,2,none⟩=some (.string o.s):=Lib.cell_of_heap hp 2
 have HLF:Hid (leafT o=if o.k=1 then sdec o.n else if o.k=2 then quo o.s else if o.k=3 then [116,114,117,101] else if o.k=4 then [102,97,108,115,101] else if o.k=5 then [110,117,108,108] else if o.k=7 then [108,101,110,103,116,104,40]++(refT o++[41]) else refT o):=rfl
 generalize leafT o=LF at *
 generalize refT o=RT at *
 clear hf hp0 hp hst hbl hs hss hP h hpB
 obtain⟨k,n,s,r,st⟩:=o
 simp only at *
 rcases (show k=1∨k=2∨k=3∨k=4∨k=5∨k=6∨k=7∨k=8 by omega) with rfl | rfl | rfl | rfl | rfl | rfl | rfl | rfl
 ·skip
  have HI2:=hide (uh HI rfl)
  have hm:=(wrl_int n).meth
  have he:=(wrl_int n).ent
  clear HI
  have HV:Hid (LF=sdec n):=by show _=_; rw[uh HLF]; rfl
  have HLT:=hide (litc1 p n w c0 c1)
  clear hk hk8 HLF hl
  go_enter Tryz.func59,Tryz.ntmps59
  go_wp2_with fail
  refine (uh HLT).mono ?_
  rintro e w1 ⟨rfl,rfl⟩
  clear HLT
  go_wp2_with fail
  refine (uh HI2).mono ?_
  rintro e w2 ⟨rfl,h2⟩
  have HW:=hide h2
  clear h2
  go_wp2
  go_end0
  exact⟨rfl,by rw[uh HV]; exact uh HW⟩
 ·skip
  have HV:Hid (LF=quo s):=by show _=_; rw[uh HLF]; rfl
  clear hk hk8 HLF hl
  go_enter Tryz.func59,Tryz.ntmps59
  go_wp2_with fail
  refine (uh HQ).mono ?_
  rintro e w2 ⟨rfl,h2⟩
  have HW:=hide h2
  clear h2
  go_wp2
  go_end0
  exact⟨rfl,by rw[uh HV]; exact uh HW⟩
 ·skip
  have hm:=(wrl_bool true).meth
  have he:=(wrl_bool true).ent
  have HV:Hid (LF=[116,114,117,101]):=by show _=_; rw[uh HLF]; rfl
  have HLT:=hide (litc3 p n w c0 c1)
  clear hk hk8 HLF hl
  go_enter Tryz.func59,Tryz.ntmps59
  go_wp2_with fail
  refine (uh HLT).mono ?_
  rintro e w1 ⟨rfl,rfl⟩
  clear HLT
  go_wp2_with fail
  refine (uh HT).mono ?_
  rintro e w2 ⟨rfl,h2⟩
  have HW:=hide h2
  clear h2
  go_wp2
  go_end0
  exact⟨rfl,by rw[uh HV]; exact uh HW⟩
 ·skip
  have hm:=(wrl_bool false).meth
  have he:=(wrl_bool false).ent
  have HV:Hid (LF=[102,97,108,115,101]):=by show _=_; rw[uh HLF]; rfl
  have HLT:=hide (litc4 p n w c0 c1)
  clear hk hk8 HLF hl
  go_enter Tryz.func59,Tryz.ntmps59
  go_wp2_with fail
  refine (uh HLT).mono ?_
  rintro e w1 ⟨rfl,rfl⟩
  clear HLT
  go_wp2_with fail
  refine (uh HFF).mono ?_
  rintro e w2 ⟨rfl,h2⟩
  have HW:=hide h2
  clear h2
  go_wp2
  go_end0
  exact⟨rfl,by rw[uh HV]; exact uh HW⟩
 ·skip
  have hm:=wrl_null.meth
  have he:=wrl_null.ent
  have HV:Hid (LF=[110,117,108,108]):=by show _=_; rw[uh HLF]; rfl
  have HLT:=hide (litc5 p n w c0 c1)
  clear hk hk8 HLF hl
  go_enter Tryz.func59,Tryz.ntmps59
  go_wp2_with fail
  refine (uh HLT).mono ?_
  rintro e w1 ⟨rfl,rfl⟩
  clear HLT
  go_wp2_with fail
  refine (uh HN).mono ?_
  rintro e w2 ⟨rfl,h2⟩
  have HW:=hide h2
  clear h2
  go_wp2
  go_end0
  exact⟨rfl,by rw[uh HV]; exact uh HW⟩
 ·skip
  have HV:Hid (LF=RT):=by show _=_; rw[uh HLF]; rfl
  clear hk hk8 HLF hl
  go_enter Tryz.func59,Tryz.ntmps59
  go_wp2_with fail
  refine (uh HR).mono ?_
  rintro e w2 ⟨rfl,h2⟩
  have HW:=hide h2
  clear h2
  go_wp2
  go_end0
  exact⟨rfl,by rw[uh HV]; exact uh HW⟩
 ·skip
  have HV:Hid (l++LF=((l++[108,101,110,103,116,104,40])++RT)++[41]):=by show _=_; rw[uh HLF]; simp
  clear hk hk8 HLF hl
  go_enter Tryz.func59,Tryz.ntmps59
  go_wp2_with fail
  refine (uh HL7).mono ?_
  rintro e w2 ⟨rfl,h2⟩
  have HC2:=hide (uh HR7 w2 h2)
  clear h2 HR7 HL7
  go_wp2_with fail
  refine (uh HC2).mono ?_
  rintro e w3 ⟨rfl,h3⟩
  have HC3:=hide (uh HE7 w3 h3)
  clear h3 HE7 HC2
  go_wp2_with fail
  refine (uh HC3).mono ?_
  rintro e w4 ⟨rfl,h4⟩
  have HW:=hide h4
  clear h4 HC3
  go_wp2
  go_end0
  exact⟨rfl,by rw[uh HV]; exact uh HW⟩
 ·skip
  have HV:Hid (LF=RT):=by show _=_; rw[uh HLF]; rfl
  clear hk hk8 HLF hl
  go_enter Tryz.func59,Tryz.ntmps59
  go_wp2_with fail
  refine (uh HR).mono ?_
  rintro e w2 ⟨rfl,h2⟩
  have HW:=hide h2
  clear h2
  go_wp2
  go_end0
  exact⟨rfl,by rw[uh HV]; exact uh HW⟩
end Go.Proofs.YtkjcgkfejdogbaaGreatDoor
