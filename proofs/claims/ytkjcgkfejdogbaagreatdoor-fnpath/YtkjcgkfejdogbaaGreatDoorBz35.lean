import Derived.Deep.CutRange
import Derived.Test.YtkjcgkfejdogbaaGreatDoorBz34
set_option maxRecDepth 100000
set_option maxHeartbeats 8000000
namespace Go.Proofs.YtkjcgkfejdogbaaGreatDoor
open Go.RowKit
theorem row_cap {α:Type} {e:Elem α} {w:World} {g n cap:Nat} {xs:List α} {bl:List Nat} (h:ORow e w (.slice (some ⟨g,0,none⟩) n cap) xs bl) : n≤cap∧cap≤9223372036854775807:=by
 obtain⟨cs,ho⟩:=h.own
 rcases ho.2 with ⟨hv,h0⟩ | ⟨g',cap',cur,hv,_,hg,h1,h2,_⟩
 ·cases hv
 ·injection hv with _ hv2 hv3
  subst hv2; subst hv3
  exact⟨h1,h2⟩
theorem spSegsX_walk (B rb:Nat) (q:Bs) (w0 w:World) (v:Value) (segs:List PSeg) (bl:List Nat) (h:YG segE B rb w0 w q v segs bl) (hl:0 < segs.length) (hl4:segs.length≤4) (hs:∀ s∈segs,(∀ o∈s.sels,Tb o)∧0 < s.sels.length)
  (hz:szSegs segs≤4000) : Calls Tryz.prog 28 #[.pointer (some ⟨rb,0,none⟩),v] w (SPo w0 rb (spSegs (nx q).1 ((nx (nx q).2).1 % segs.length) (nx (nx (nx q).2).2).1 segs)):=by
 have HN1:=hide (nextX_walk B rb q w h.dx.rd)
 have HN2:=hide fun w h=>nextX_walk B rb (nx q).2 w h
 have HN3:=hide fun w h=>nextX_walk B rb (nx (nx q).2).2 w h
 have hx:=nx_le q
 have hy:=nx_le (nx q).2
 have hv:=nx_le (nx (nx q).2).2
 have Y0:=hide h
 obtain⟨a,cap,rfl,-,h0⟩:=h.row.form
 obtain⟨g,rfl⟩:=h0 hl
 clear h h0
 generalize (nx q).1=k at *
 generalize (nx (nx q).2).1=y at *
 generalize (nx (nx (nx q).2).2).1=x at *
 generalize (nx (nx (nx q).2).2).2=q3 at *
 generalize (nx (nx q).2).2=q2 at *
 generalize (nx q).2=q1 at *
 have eY:(y:Int) % (segs.length:Int)=((y % segs.length:Nat) : Int):=by simp
 have hsn:(segs.length:Int)≠0:=by omega
 have hi:y % segs.length < segs.length:=Nat.mod_lt _ hl
 generalize y % segs.length=i at *
 obtain⟨d,o,r,hsi⟩ : ∃ d o r,segs[i]?=some ⟨d,o :: r⟩:=by
  obtain⟨-,h2⟩:=hs segs[i] (List.getElem_mem hi)
  match hq:segs[i],h2 with
  | ⟨d,o :: r⟩,_=>exact⟨d,o,r,by rw[List.getElem?_eq_getElem hi,hq]⟩
 have HT:Hid (Tb o):=(hs ⟨d,o :: r⟩ (List.mem_of_getElem? hsi)).1 o (List.mem_cons_self ..)
 have hcz:o.cond.length≤4000:=by
  have h1:=sum_mem szSeg (List.mem_of_getElem? hsi)
  have h2:szSegs segs=segs.length+(segs.map szSeg).sum:=rfl
  have h3:szSeg ⟨d,o :: r⟩=(r.length+1)+(szSel o+(r.map szSel).sum):=rfl
  have h4:szSel o=o.name.size+(o.cond.length+(o.cond.map szFop).sum):=rfl
  omega
 have hrz:r.length≤4000:=by
  have h1:=sum_mem szSeg (List.mem_of_getElem? hsi)
  have h2:szSegs segs=segs.length+(segs.map szSeg).sum:=rfl
  have h3:szSeg ⟨d,o :: r⟩=(r.length+1)+(szSel o+(r.map szSel).sum):=rfl
  omega
 have hiI:(i:Int) < (segs.length:Int):=by omega
 have HSP:Hid (spSegs k i x segs=if k % 10=0 then segs.set i ⟨d,[]⟩ else segs.set i ⟨d,spSel k x o :: r⟩):=by show _=_; unfold spSegs; rw[hsi]
 have HSI:=hide hsi
 clear hs hsi hz hl
 go_enter Tryz.func28,Tryz.ntmps28
 go_wp2_with fail
 refine (uh HN1).mono ?_
 rintro e w1 ⟨rfl,d1⟩
 have Y1:=hide ((uh Y0).draw d1)
 have HN:=hide (uh HN2 _ d1.rd)
 clear d1 Y0 HN1 HN2
 go_wp2_with fail
 refine (uh HN).mono ?_
 rintro e w2 ⟨rfl,d2⟩
 have Y2:=hide ((uh Y1).draw d2)
 have HNN:=hide (uh HN3 _ d2.rd)
 clear d2 Y1 HN HN3
 go_wp2_with fail
 refine (uh HNN).mono ?_
 rintro e w3 ⟨rfl,d3⟩
 have Y3:=hide ((uh Y2).draw d3)
 clear d3 Y2 HNN
 obtain⟨g',cap',g2,c2,u,ib,H⟩:=SH.make (uh Y3).row (uh Y3).fsh.1 (uh HSI)
 have hvv:=H.hv
 injection hvv with e1 _ e2
 injection e1 with e1
 injection e1 with e1 _ _
 subst e1; subst e2
 obtain⟨ua,uc,rfl,-,hu0⟩:=H.row.form
 have HU:=hide hu0
 have HH:=hide H
 have c1:=H.c1
 have f1:=H.f1
 have a0:=(H.cs 0 _ rfl).1
 have a1:=(H.cs 1 _ rfl).1
 have a2:=(H.cs 2 _ rfl).1
 have a3:=(H.cs 3 _ rfl).1
 have a4:=(H.cs 4 _ rfl).1
 have a5:=(H.cs 5 _ rfl).1
 have a6:=(H.cs 6 _ rfl).1
 have a7:=(H.cs 7 _ rfl).1
 have a8:=(H.cs 8 _ rfl).1
 have hgl:=(uh Y3).row.lt _ H.gb
 have hg2l:=(uh Y3).row.lt _ H.g2b
 clear H hu0 HSI
 rw[eY]
 have eK:(k:Int) % 10=((k % 10:Nat) : Int):=by omega
 by_cases hk0:k % 10=0
 ·have e0:((k:Int) % 10 == 0)=true:=by simp; omega
  have HF:=hide ((uh HH).noSel (uh Y3) (.cells #[.int .i64 o.k,.string o.name,.bool o.hasA,.bool o.hasB,.bool o.hasC,.int .i64 o.a,.int .i64 o.b,.int .i64 o.c,.slice ua o.cond.length uc] 40))
  have HQ:Hid (spSegs k i x segs=segs.set i ⟨d,[]⟩):=by show _=_; rw[uh HSP,if_pos hk0]
  clear HSP HH Y3 HU HT
  go_wp2
  go_ret
  rw[uh HQ]
  exact uh HF
 ·have e0:((k:Int) % 10 == 0)=false:=by simp; omega
  have HQ:Hid (spSegs k i x segs=segs.set i ⟨d,spSel k x o :: r⟩):=by show _=_; rw[uh HSP,if_neg hk0]
  obtain⟨K,hK⟩ : ∃ K:Nat,K=k % 10:=⟨_,rfl⟩
  have em:(k:Int) % 10=(K:Int):=by omega
  have hK9:K=1∨K=2∨K=3∨K=4∨K=5∨K=6∨K=7∨K=8∨K=9:=by omega
  obtain⟨b1,hb1⟩ : ∃ b:Bool,((K:Int) == 1)=b:=⟨_,rfl⟩
  have HK:=hide hK
  clear hK eK hk0 HSP
  have HSE:Hid (spSel k x o=if K=1 then { o with k:=(x % 7:Nat) }
   else if K=2 then { o with name:=⟨#[31]⟩ }
   else if K=3 then { o with a:=1000000000 - (x % 2:Nat) }
   else if K=4 then { o with c:=(x % 3:Nat) }
   else if K=5 then { o with hasB:=!o.hasB }
   else if K=6∧0 < o.cond.length then { o with cond:=o.cond.tail }
   else if K=7∧0 < o.cond.length then { o with cond:=spOp o.cond (x % o.cond.length) fun y=>{ y with k:=(x / 8 % 14:Nat) } }
   else if K=8∧0 < o.cond.length then { o with cond:=spOp o.cond (x % o.cond.length) fun y=>{ y with n:=(x / 16:Nat) } }
   else { o with cond:=o.cond++[opK 8] }):=by show _=_; rw[uh HK]; rfl
  go_upto_if 38 with fail
  simp only[em]
  go_cut [9,10,26] from 39 to 127 (fun _ _ _ wx=>∃ (ua':Option Addr) (un uc':Nat),Hid (SC w0 rb w3 wx bl ib (spSel k x o) (.slice ua' un uc') (K=6∧0 < o.cond.length)))
  case first=>
   clear HQ
   have HS:=hide fun (o':PSel) (hr:ORow fopE w3 (.slice ua o.cond.length uc) o'.cond ib)=>SC.start (o':=o') (u':=.slice ua o.cond.length uc) (bd:=K=6∧0 < o.cond.length) (uh Y3) (uh HH) (.inl hr)
   have HR:=hide (uh HH).row
   rcases hK9 with rfl | rfl | rfl | rfl | rfl | rfl | rfl | rfl | rfl
   ·obtain rfl:true=b1:=by rw[← hb1]; rfl
    have ex:(x:Int) % 7=((x % 7:Nat) : Int):=by omega
    generalize x % 7=x' at *
    have HC:=hide (uh HS { o with k:=(x':Int) } (uh HR))
    have HE:Hid (spSel k x o={ o with k:=(x':Int) }):=by show _=_; rw[uh HSE]; rw[if_pos rfl]
    clear HS HR HSE HH Y3 HU HT HK
    go_wp2
    go_meet
    case rel=>exact⟨_,_,_,by rw[uh HE]; exact HC⟩
   ·obtain rfl:false=b1:=by rw[← hb1]; rfl
    have HC:=hide (uh HS { o with name:=⟨#[31]⟩ } (uh HR))
    have HE:Hid (spSel k x o={ o with name:=⟨#[31]⟩ }):=by show _=_; rw[uh HSE]; rw[if_neg (by decide),if_pos rfl]
    clear HS HR HSE HH Y3 HU HT HK
    go_wp2
    go_meet
    case rel=>exact⟨_,_,_,by rw[uh HE]; exact HC⟩
   ·obtain rfl:false=b1:=by rw[← hb1]; rfl
    have ex:(x:Int) % 2=((x % 2:Nat) : Int):=by omega
    have hx2:x % 2≤1:=by omega
    generalize x % 2=x' at *
    have HC:=hide (uh HS { o with a:=1000000000 - (x':Int) } (uh HR))
    have HE:Hid (spSel k x o={ o with a:=1000000000 - (x':Int) }):=by show _=_; rw[uh HSE]; rw[if_neg (by decide),if_neg (by decide),if_pos rfl]
    clear HS HR HSE HH Y3 HU HT HK
    go_wp2
    go_meet
    case rel=>exact⟨_,_,_,by rw[uh HE]; exact HC⟩
   ·obtain rfl:false=b1:=by rw[← hb1]; rfl
    have ex:(x:Int) % 3=((x % 3:Nat) : Int):=by omega
    generalize x % 3=x' at *
    have HC:=hide (uh HS { o with c:=(x':Int) } (uh HR))
    have HE:Hid (spSel k x o={ o with c:=(x':Int) }):=by show _=_; rw[uh HSE]; rw[if_neg (by decide),if_neg (by decide),if_neg (by decide),if_pos rfl]
    clear HS HR HSE HH Y3 HU HT HK
    go_wp2
    go_meet
    case rel=>exact⟨_,_,_,by rw[uh HE]; exact HC⟩
   ·obtain rfl:false=b1:=by rw[← hb1]; rfl
    have HC:=hide (uh HS { o with hasB:=!o.hasB } (uh HR))
    have HE:Hid (spSel k x o={ o with hasB:=!o.hasB }):=by show _=_; rw[uh HSE]; rw[if_neg (by decide),if_neg (by decide),if_neg (by decide),if_neg (by decide),if_pos rfl]
    clear HS HR HSE HH Y3 HU HT HK
    go_wp2
    go_meet
    case rel=>exact⟨_,_,_,by rw[uh HE]; exact HC⟩
   ·obtain rfl:false=b1:=by rw[← hb1]; rfl
    by_cases hc:0 < o.cond.length
    ·have hcI:(0:Int) < (o.cond.length:Int):=by omega
     obtain⟨g3,rfl⟩:=uh HU hc
     have hcap:=row_cap (uh HR)
     have hcapI:(o.cond.length:Int)≤(uc:Int):=by omega
     have hc1I:(1:Int)≤(o.cond.length:Int):=by omega
     have HCAP:=hide hcap.1
     have HT6:=hide fun (a:Option Addr) (c:Nat) (ha:1 < o.cond.length→a=some ⟨g3,5,none⟩)=>SC.start (o':={ o with cond:=o.cond.tail }) (u':=.slice a (o.cond.length - 1) c) (bd:=6=6∧0 < o.cond.length) (uh Y3) (uh HH) (.inr ⟨⟨rfl,hc⟩,by
      have hrw:=uh HR
      match hq:o.cond,hrw,hc,ha with
      | y0 :: t,hrw,_,ha=>exact TRow.tail hrw (fun h=>ha (by simpa using h))⟩)
     have HE:Hid (spSel k x o={ o with cond:=o.cond.tail }):=by show _=_; rw[uh HSE,if_neg (by decide),if_neg (by decide),if_neg (by decide),if_neg (by decide),if_neg (by decide),if_pos ⟨rfl,hc⟩]
     clear HS HR HSE HH Y3 HU HT HK hcap
     go_wp2
     all_goals
      go_meet
      case rel=>exact⟨_,_,_,by
       rw[uh HE]
       exact hide (uh HT6 _ _ (fun h=>by first | rfl | (exfalso; have:=uh HCAP; omega)))⟩
    ·skip
     have HE:Hid (spSel k x o={ o with cond:=o.cond++[opK 8] }):=by show _=_; rw[uh HSE,if_neg (by decide),if_neg (by decide),if_neg (by decide),if_neg (by decide),if_neg (by decide),if_neg (fun h=>hc h.2),if_neg (by omega),if_neg (by omega)]
     have HC:=hide (uh HS o (uh HR))
     have hb4:=al_b w3 (.cells #[.int .i64 o.k,.string o.name,.bool o.hasA,.bool o.hasB,.bool o.hasC,.int .i64 o.a,.int .i64 o.b,.int .i64 o.c,.slice ua o.cond.length uc] 40)
     have hb5:=al_b (w3.alloc (.cells #[.int .i64 o.k,.string o.name,.bool o.hasA,.bool o.hasB,.bool o.hasC,.int .i64 o.a,.int .i64 o.b,.int .i64 o.c,.slice ua o.cond.length uc] 40)) (.cells #[.int .i64 8,.int .i64 0,.string ⟨#[]⟩,.bool false,.slice none 0 0] 37)
     have HB5:=hide hb5
     have R5:=hide (((uh HR).below hb4).below hb5)
     have FI:Hid (Fsh w0.heap.size ib):=⟨(uh HH).nd,fun b hb=>(uh Y3).fsh.2 b ((uh HH).sub b hb)⟩
     have ZL:Hid (w0.heap.size≤((w3.alloc (.cells #[.int .i64 o.k,.string o.name,.bool o.hasA,.bool o.hasB,.bool o.hasC,.int .i64 o.a,.int .i64 o.b,.int .i64 o.c,.slice ua o.cond.length uc] 40)).alloc (.cells #[.int .i64 8,.int .i64 0,.string ⟨#[]⟩,.bool false,.slice none 0 0] 37)).heap.size):=Nat.le_trans (uh Y3).dx.size (Nat.le_trans hb4.size hb5.size)
     have LC0:=lit_cells (w3.alloc (.cells #[.int .i64 o.k,.string o.name,.bool o.hasA,.bool o.hasB,.bool o.hasC,.int .i64 o.a,.int .i64 o.b,.int .i64 o.c,.slice ua o.cond.length uc] 40)) [.int .i64 8,.int .i64 0,.string ⟨#[]⟩,.bool false,.slice none 0 0] 37
     rw[show (w3.alloc (.cells #[.int .i64 o.k,.string o.name,.bool o.hasA,.bool o.hasB,.bool o.hasC,.int .i64 o.a,.int .i64 o.b,.int .i64 o.c,.slice ua o.cond.length uc] 40)).heap.size=w3.heap.size+1 by simp] at LC0
     have LC:=hide LC0
     have NI:Hid (w3.heap.size ∉ ib):=fun h=>Nat.lt_irrefl _ ((uh HR).lt _ h)
     clear hb4 hb5 LC0 HS HR HSE HH Y3 HU HT HK
     go_wp2_with (at_builtin; refine wpl_app1 ekFOp rfl (.tmp 123) (.tmp 125) rfl rfl (uh R5) (uh FI) (vs:=[.int .i64 8,.int .i64 0,.string ⟨#[]⟩,.bool false,.slice none 0 0]) (y:=opK 8) (fopX_lit _ _ _ _) (Fsh.nil _) (by simp) rfl (uh LC) (opX_one _) (uh ZL) (by omega) ?_)
     intro v6 w6 bl6 hA
     have G:=hide (SC.app (uh HC) (uh HB5) (uh R5) (uh FI) hA)
     have sb6:=(hA.block (uh R5) (Nat.lt_of_lt_of_le (uh HC).sb.lt (uh HB5).size) (uh NI)).trans ((uh HC).sb.below (uh HB5))
     have f8:=Lib.frozen_of_heap sb6 8
     have b8:=Lib.cell_of_heap sb6 8
     obtain⟨za,zc,rfl,-,-⟩:=hA.row.form
     rw[List.length_append,List.length_singleton] at G
     clear hA sb6 R5 HC HB5 FI ZL NI LC
     go_wp2
     go_meet
     case rel=>exact⟨_,_,_,by rw[uh HE]; exact G⟩
   ·obtain rfl:false=b1:=by rw[← hb1]; rfl
    by_cases hc:0 < o.cond.length
    ·have hcI:(0:Int) < (o.cond.length:Int):=by omega
     obtain⟨g3,rfl⟩:=uh HU hc
     have eP:(x:Int) % (o.cond.length:Int)=((x % o.cond.length:Nat) : Int):=by simp
     have hsn2:(o.cond.length:Int)≠0:=by omega
     have hp:x % o.cond.length < o.cond.length:=Nat.mod_lt _ hc
     have hE:=uh HSE
     rw[if_neg (by decide),if_neg (by decide),if_neg (by decide),if_neg (by decide),if_neg (by decide),if_neg (by omega),if_pos ⟨rfl,hc⟩] at hE
     generalize x % o.cond.length=p at *
     have hpI:(p:Int) < (o.cond.length:Int):=by omega
     have hp?:=List.getElem?_eq_getElem hp
     unfold spOp at hE
     rw[hp?] at hE
     have ex:(x:Int) / 8=((x / 8:Nat) : Int):=by omega
     have ex2:((x / 8:Nat) : Int) % 14=((x / 8 % 14:Nat) : Int):=by omega
     generalize x / 8 % 14=z at *
     generalize x / 8=x8 at *
     have HC:=hide (SC.op (bd:=7=6∧0 < o.cond.length) (uh Y3) (uh HH) hp? 0 (by decide) (.int .i64 (z:Int)) (y':={ o.cond[p] with k:=(z:Int) }) (fun w' vs ib hq=>by
      obtain⟨u,rfl,h2⟩:=hq
      exact⟨u,rfl,h2⟩))
     obtain⟨vs,jb,hEE,hcc,-,-,-⟩:=(uh HR).at hp?
     obtain⟨qq,rfl,-⟩:=hEE
     have cz:w3.cell? ⟨g3,p*5,none⟩=_:=(hcc 0 _ rfl).1
     have fz:w3.frozen? ⟨g3,p*5,none⟩=false:=(hcc 0 _ rfl).2
     have hg3:=(uh HR).lt g3 ((uh HR).head rfl)
     have HE:=hide hE
     clear hE hcc HS HR HSE HH Y3 HU HT HK hp?
     go_wp2
     go_meet
     case rel=>exact⟨_,_,_,by rw[uh HE]; exact HC⟩
    ·skip
     have HE:Hid (spSel k x o={ o with cond:=o.cond++[opK 8] }):=by show _=_; rw[uh HSE,if_neg (by decide),if_neg (by decide),if_neg (by decide),if_neg (by decide),if_neg (by decide),if_neg (by omega),if_neg (fun h=>hc h.2),if_neg (by omega)]
     have HC:=hide (uh HS o (uh HR))
     have hb4:=al_b w3 (.cells #[.int .i64 o.k,.string o.name,.bool o.hasA,.bool o.hasB,.bool o.hasC,.int .i64 o.a,.int .i64 o.b,.int .i64 o.c,.slice ua o.cond.length uc] 40)
     have hb5:=al_b (w3.alloc (.cells #[.int .i64 o.k,.string o.name,.bool o.hasA,.bool o.hasB,.bool o.hasC,.int .i64 o.a,.int .i64 o.b,.int .i64 o.c,.slice ua o.cond.length uc] 40)) (.cells #[.int .i64 8,.int .i64 0,.string ⟨#[]⟩,.bool false,.slice none 0 0] 37)
     have HB5:=hide hb5
     have R5:=hide (((uh HR).below hb4).below hb5)
     have FI:Hid (Fsh w0.heap.size ib):=⟨(uh HH).nd,fun b hb=>(uh Y3).fsh.2 b ((uh HH).sub b hb)⟩
     have ZL:Hid (w0.heap.size≤((w3.alloc (.cells #[.int .i64 o.k,.string o.name,.bool o.hasA,.bool o.hasB,.bool o.hasC,.int .i64 o.a,.int .i64 o.b,.int .i64 o.c,.slice ua o.cond.length uc] 40)).alloc (.cells #[.int .i64 8,.int .i64 0,.string ⟨#[]⟩,.bool false,.slice none 0 0] 37)).heap.size):=Nat.le_trans (uh Y3).dx.size (Nat.le_trans hb4.size hb5.size)
     have LC0:=lit_cells (w3.alloc (.cells #[.int .i64 o.k,.string o.name,.bool o.hasA,.bool o.hasB,.bool o.hasC,.int .i64 o.a,.int .i64 o.b,.int .i64 o.c,.slice ua o.cond.length uc] 40)) [.int .i64 8,.int .i64 0,.string ⟨#[]⟩,.bool false,.slice none 0 0] 37
     rw[show (w3.alloc (.cells #[.int .i64 o.k,.string o.name,.bool o.hasA,.bool o.hasB,.bool o.hasC,.int .i64 o.a,.int .i64 o.b,.int .i64 o.c,.slice ua o.cond.length uc] 40)).heap.size=w3.heap.size+1 by simp] at LC0
     have LC:=hide LC0
     have NI:Hid (w3.heap.size ∉ ib):=fun h=>Nat.lt_irrefl _ ((uh HR).lt _ h)
     clear hb4 hb5 LC0 HS HR HSE HH Y3 HU HT HK
     go_wp2_with (at_builtin; refine wpl_app1 ekFOp rfl (.tmp 123) (.tmp 125) rfl rfl (uh R5) (uh FI) (vs:=[.int .i64 8,.int .i64 0,.string ⟨#[]⟩,.bool false,.slice none 0 0]) (y:=opK 8) (fopX_lit _ _ _ _) (Fsh.nil _) (by simp) rfl (uh LC) (opX_one _) (uh ZL) (by omega) ?_)
     intro v6 w6 bl6 hA
     have G:=hide (SC.app (uh HC) (uh HB5) (uh R5) (uh FI) hA)
     have sb6:=(hA.block (uh R5) (Nat.lt_of_lt_of_le (uh HC).sb.lt (uh HB5).size) (uh NI)).trans ((uh HC).sb.below (uh HB5))
     have f8:=Lib.frozen_of_heap sb6 8
     have b8:=Lib.cell_of_heap sb6 8
     obtain⟨za,zc,rfl,-,-⟩:=hA.row.form
     rw[List.length_append,List.length_singleton] at G
     clear hA sb6 R5 HC HB5 FI ZL NI LC
     go_wp2
     go_meet
     case rel=>exact⟨_,_,_,by rw[uh HE]; exact G⟩
   ·obtain rfl:false=b1:=by rw[← hb1]; rfl
    by_cases hc:0 < o.cond.length
    ·have hcI:(0:Int) < (o.cond.length:Int):=by omega
     obtain⟨g3,rfl⟩:=uh HU hc
     have eP:(x:Int) % (o.cond.length:Int)=((x % o.cond.length:Nat) : Int):=by simp
     have hsn2:(o.cond.length:Int)≠0:=by omega
     have hp:x % o.cond.length < o.cond.length:=Nat.mod_lt _ hc
     have hE:=uh HSE
     rw[if_neg (by decide),if_neg (by decide),if_neg (by decide),if_neg (by decide),if_neg (by decide),if_neg (by omega),if_neg (by omega),if_pos ⟨rfl,hc⟩] at hE
     generalize x % o.cond.length=p at *
     have hpI:(p:Int) < (o.cond.length:Int):=by omega
     have hp?:=List.getElem?_eq_getElem hp
     unfold spOp at hE
     rw[hp?] at hE
     have ex:(x:Int) / 16=((x / 16:Nat) : Int):=by omega
     generalize x / 16=z at *
     have HC:=hide (SC.op (bd:=8=6∧0 < o.cond.length) (uh Y3) (uh HH) hp? 1 (by decide) (.int .i64 (z:Int)) (y':={ o.cond[p] with n:=(z:Int) }) (fun w' vs ib hq=>by
      obtain⟨u,rfl,h2⟩:=hq
      exact⟨u,rfl,h2⟩))
     obtain⟨vs,jb,hEE,hcc,-,-,-⟩:=(uh HR).at hp?
     obtain⟨qq,rfl,-⟩:=hEE
     have cz:w3.cell? ⟨g3,p*5+1,none⟩=_:=(hcc 1 _ rfl).1
     have fz:w3.frozen? ⟨g3,p*5+1,none⟩=false:=(hcc 1 _ rfl).2
     have hg3:=(uh HR).lt g3 ((uh HR).head rfl)
     have HE:=hide hE
     clear hE hcc HS HR HSE HH Y3 HU HT HK hp?
     go_wp2
     go_meet
     case rel=>exact⟨_,_,_,by rw[uh HE]; exact HC⟩
    ·skip
     have HE:Hid (spSel k x o={ o with cond:=o.cond++[opK 8] }):=by show _=_; rw[uh HSE,if_neg (by decide),if_neg (by decide),if_neg (by decide),if_neg (by decide),if_neg (by decide),if_neg (by omega),if_neg (by omega),if_neg (fun h=>hc h.2)]
     have HC:=hide (uh HS o (uh HR))
     have hb4:=al_b w3 (.cells #[.int .i64 o.k,.string o.name,.bool o.hasA,.bool o.hasB,.bool o.hasC,.int .i64 o.a,.int .i64 o.b,.int .i64 o.c,.slice ua o.cond.length uc] 40)
     have hb5:=al_b (w3.alloc (.cells #[.int .i64 o.k,.string o.name,.bool o.hasA,.bool o.hasB,.bool o.hasC,.int .i64 o.a,.int .i64 o.b,.int .i64 o.c,.slice ua o.cond.length uc] 40)) (.cells #[.int .i64 8,.int .i64 0,.string ⟨#[]⟩,.bool false,.slice none 0 0] 37)
     have HB5:=hide hb5
     have R5:=hide (((uh HR).below hb4).below hb5)
     have FI:Hid (Fsh w0.heap.size ib):=⟨(uh HH).nd,fun b hb=>(uh Y3).fsh.2 b ((uh HH).sub b hb)⟩
     have ZL:Hid (w0.heap.size≤((w3.alloc (.cells #[.int .i64 o.k,.string o.name,.bool o.hasA,.bool o.hasB,.bool o.hasC,.int .i64 o.a,.int .i64 o.b,.int .i64 o.c,.slice ua o.cond.length uc] 40)).alloc (.cells #[.int .i64 8,.int .i64 0,.string ⟨#[]⟩,.bool false,.slice none 0 0] 37)).heap.size):=Nat.le_trans (uh Y3).dx.size (Nat.le_trans hb4.size hb5.size)
     have LC0:=lit_cells (w3.alloc (.cells #[.int .i64 o.k,.string o.name,.bool o.hasA,.bool o.hasB,.bool o.hasC,.int .i64 o.a,.int .i64 o.b,.int .i64 o.c,.slice ua o.cond.length uc] 40)) [.int .i64 8,.int .i64 0,.string ⟨#[]⟩,.bool false,.slice none 0 0] 37
     rw[show (w3.alloc (.cells #[.int .i64 o.k,.string o.name,.bool o.hasA,.bool o.hasB,.bool o.hasC,.int .i64 o.a,.int .i64 o.b,.int .i64 o.c,.slice ua o.cond.length uc] 40)).heap.size=w3.heap.size+1 by simp] at LC0
     have LC:=hide LC0
     have NI:Hid (w3.heap.size ∉ ib):=fun h=>Nat.lt_irrefl _ ((uh HR).lt _ h)
     clear hb4 hb5 LC0 HS HR HSE HH Y3 HU HT HK
     go_wp2_with (at_builtin; refine wpl_app1 ekFOp rfl (.tmp 123) (.tmp 125) rfl rfl (uh R5) (uh FI) (vs:=[.int .i64 8,.int .i64 0,.string ⟨#[]⟩,.bool false,.slice none 0 0]) (y:=opK 8) (fopX_lit _ _ _ _) (Fsh.nil _) (by simp) rfl (uh LC) (opX_one _) (uh ZL) (by omega) ?_)
     intro v6 w6 bl6 hA
     have G:=hide (SC.app (uh HC) (uh HB5) (uh R5) (uh FI) hA)
     have sb6:=(hA.block (uh R5) (Nat.lt_of_lt_of_le (uh HC).sb.lt (uh HB5).size) (uh NI)).trans ((uh HC).sb.below (uh HB5))
     have f8:=Lib.frozen_of_heap sb6 8
     have b8:=Lib.cell_of_heap sb6 8
     obtain⟨za,zc,rfl,-,-⟩:=hA.row.form
     rw[List.length_append,List.length_singleton] at G
     clear hA sb6 R5 HC HB5 FI ZL NI LC
     go_wp2
     go_meet
     case rel=>exact⟨_,_,_,by rw[uh HE]; exact G⟩
   ·obtain rfl:false=b1:=by rw[← hb1]; rfl
    have HE:Hid (spSel k x o={ o with cond:=o.cond++[opK 8] }):=by show _=_; rw[uh HSE,if_neg (by decide),if_neg (by decide),if_neg (by decide),if_neg (by decide),if_neg (by decide),if_neg (by omega),if_neg (by omega),if_neg (by omega)]
    have HC:=hide (uh HS o (uh HR))
    have hb4:=al_b w3 (.cells #[.int .i64 o.k,.string o.name,.bool o.hasA,.bool o.hasB,.bool o.hasC,.int .i64 o.a,.int .i64 o.b,.int .i64 o.c,.slice ua o.cond.length uc] 40)
    have hb5:=al_b (w3.alloc (.cells #[.int .i64 o.k,.string o.name,.bool o.hasA,.bool o.hasB,.bool o.hasC,.int .i64 o.a,.int .i64 o.b,.int .i64 o.c,.slice ua o.cond.length uc] 40)) (.cells #[.int .i64 8,.int .i64 0,.string ⟨#[]⟩,.bool false,.slice none 0 0] 37)
    have HB5:=hide hb5
    have R5:=hide (((uh HR).below hb4).below hb5)
    have FI:Hid (Fsh w0.heap.size ib):=⟨(uh HH).nd,fun b hb=>(uh Y3).fsh.2 b ((uh HH).sub b hb)⟩
    have ZL:Hid (w0.heap.size≤((w3.alloc (.cells #[.int .i64 o.k,.string o.name,.bool o.hasA,.bool o.hasB,.bool o.hasC,.int .i64 o.a,.int .i64 o.b,.int .i64 o.c,.slice ua o.cond.length uc] 40)).alloc (.cells #[.int .i64 8,.int .i64 0,.string ⟨#[]⟩,.bool false,.slice none 0 0] 37)).heap.size):=Nat.le_trans (uh Y3).dx.size (Nat.le_trans hb4.size hb5.size)
    have LC0:=lit_cells (w3.alloc (.cells #[.int .i64 o.k,.string o.name,.bool o.hasA,.bool o.hasB,.bool o.hasC,.int .i64 o.a,.int .i64 o.b,.int .i64 o.c,.slice ua o.cond.length uc] 40)) [.int .i64 8,.int .i64 0,.string ⟨#[]⟩,.bool false,.slice none 0 0] 37
    rw[show (w3.alloc (.cells #[.int .i64 o.k,.string o.name,.bool o.hasA,.bool o.hasB,.bool o.hasC,.int .i64 o.a,.int .i64 o.b,.int .i64 o.c,.slice ua o.cond.length uc] 40)).heap.size=w3.heap.size+1 by simp] at LC0
    have LC:=hide LC0
    have NI:Hid (w3.heap.size ∉ ib):=fun h=>Nat.lt_irrefl _ ((uh HR).lt _ h)
    clear hb4 hb5 LC0 HS HR HSE HH Y3 HU HT HK
    go_wp2_with (at_builtin; refine wpl_app1 ekFOp rfl (.tmp 123) (.tmp 125) rfl rfl (uh R5) (uh FI) (vs:=[.int .i64 8,.int .i64 0,.string ⟨#[]⟩,.bool false,.slice none 0 0]) (y:=opK 8) (fopX_lit _ _ _ _) (Fsh.nil _) (by simp) rfl (uh LC) (opX_one _) (uh ZL) (by omega) ?_)
    intro v6 w6 bl6 hA
    have G:=hide (SC.app (uh HC) (uh HB5) (uh R5) (uh FI) hA)
    have sb6:=(hA.block (uh R5) (Nat.lt_of_lt_of_le (uh HC).sb.lt (uh HB5).size) (uh NI)).trans ((uh HC).sb.below (uh HB5))
    have f8:=Lib.frozen_of_heap sb6 8
    have b8:=Lib.cell_of_heap sb6 8
    obtain⟨za,zc,rfl,-,-⟩:=hA.row.form
    rw[List.length_append,List.length_singleton] at G
    clear hA sb6 R5 HC HB5 FI ZL NI LC
    go_wp2
    go_meet
    case rel=>exact⟨_,_,_,by rw[uh HE]; exact G⟩
  case rest=>
   obtain⟨ua',un,uc',HC⟩:=hcut
   have hbd:K=6∧0 < o.cond.length→pathOk (segs.set i ⟨d,spSel k x o :: r⟩)=false:=fun h=>by
    rw[uh HSE,if_neg (by omega),if_neg (by omega),if_neg (by omega),if_neg (by omega),if_neg (by omega),if_pos h]
    exact pathOk_bad hi (tb_bad (uh HT) h.2)
   have HF:=hide ((uh HC).fin (uh Y3) (uh HH) hbd)
   have hkg:=(uh HC).kp g (uh HH).gb (uh HH).gi
   have hkg2:=(uh HC).kp g2 (uh HH).g2b (uh HH).gi2
   have c1x:wc.cell? ⟨g,i*2+1,none⟩=some (.slice (some ⟨g2,0,none⟩) (r.length+1) c2):=(World.cell?_of_block (a:=⟨g,i*2+1,none⟩) hkg).trans c1
   have fz:∀ m x,(selV o (.slice ua o.cond.length uc))[m]?=some x→wc.frozen? ⟨g2,m,none⟩=false:=fun m x hm=>(World.frozen?_of_block (a:=⟨g2,m,none⟩) hkg2).trans ((uh HH).cs m x hm).2
   have z0:=fz 0 _ rfl
   have z1:=fz 1 _ rfl
   have z2:=fz 2 _ rfl
   have z3:=fz 3 _ rfl
   have z4:=fz 4 _ rfl
   have z5:=fz 5 _ rfl
   have z6:=fz 6 _ rfl
   have z7:=fz 7 _ rfl
   have z8:=fz 8 _ rfl
   have cx:∀ m x,(selV o (.slice ua o.cond.length uc))[m]?=some x→wc.cell? ⟨g2,m,none⟩=some x:=fun m x hm=>(World.cell?_of_block (a:=⟨g2,m,none⟩) hkg2).trans ((uh HH).cs m x hm).1
   have y0:=cx 0 _ rfl
   have y1:=cx 1 _ rfl
   have y2:=cx 2 _ rfl
   have y3:=cx 3 _ rfl
   have y4:=cx 4 _ rfl
   have y5:=cx 5 _ rfl
   have y6:=cx 6 _ rfl
   have y7:=cx 7 _ rfl
   have y8:=cx 8 _ rfl
   obtain⟨l0,l1,l2,l3,l4,l5,l6,l7,l8⟩:=(uh HC).sb.cs
   have DL:Hid (wc.drew.cell? ⟨g,i*2+1,none⟩=some (.slice (some ⟨g2,0,none⟩) (r.length+1) c2)):=c1x
   clear HSE HT HU HH Y3 hkg hkg2 fz cx hbd a0 a1 a2 a3 a4 a5 a6 a7 a8 c1 f1
   generalize spSel k x o=o' at *
   have c1d:=uh DL
   have l0d:wc.drew.cell? ⟨w3.heap.size,0,none⟩=some (.int .i64 o'.k):=l0
   have l1d:wc.drew.cell? ⟨w3.heap.size,1,none⟩=some (.string o'.name):=l1
   have l2d:wc.drew.cell? ⟨w3.heap.size,2,none⟩=some (.bool o'.hasA):=l2
   have l3d:wc.drew.cell? ⟨w3.heap.size,3,none⟩=some (.bool o'.hasB):=l3
   have l4d:wc.drew.cell? ⟨w3.heap.size,4,none⟩=some (.bool o'.hasC):=l4
   have l5d:wc.drew.cell? ⟨w3.heap.size,5,none⟩=some (.int .i64 o'.a):=l5
   have l6d:wc.drew.cell? ⟨w3.heap.size,6,none⟩=some (.int .i64 o'.b):=l6
   have l7d:wc.drew.cell? ⟨w3.heap.size,7,none⟩=some (.int .i64 o'.c):=l7
   have l8d:wc.drew.cell? ⟨w3.heap.size,8,none⟩=some (.slice ua' un uc'):=l8
   go_wp2_with fail
   go_region
   all_goals
    go_wp2
    go_ret
    have hf:=uh HF
    simp only[putN,Nat.reduceAdd] at hf
    rw[uh HQ]
    exact hf
theorem dSegsX_walk (B rb k:Nat) (q:Bs) (w:World) (h:RdAt w B rb q) (hk:k≤255) :
  Calls Tryz.prog 14 #[.pointer (some ⟨rb,0,none⟩),.int .i64 k] w (SPo w rb (dSegs k q)):=by
 have HG:=hide (gSegsX_walk B rb q w h)
 have HL:Hid (0 < (gSegs q).1.length∧(gSegs q).1.length≤4):=by
  have:(gSegs q).1.length=1+(nx q).1 % 4:=gMany_len _ _ _
  show _∧_
  omega
 have HT:=hide (gSegs_tb q)
 have HZ:=hide (gSegs_sz q)
 have HD:Hid (dSegs k q=if k % 3=2 then spSegs (nx (gSegs q).2).1 ((nx (nx (gSegs q).2).2).1 % (gSegs q).1.length) (nx (nx (nx (gSegs q).2).2).2).1 (gSegs q).1 else (gSegs q).1):=rfl
 clear h
 generalize gSegs q=R at *
 obtain⟨segs,q1⟩:=R
 simp only at *
 go_enter Tryz.func14,Tryz.ntmps14
 go_wp2_with fail
 refine (uh HG).mono ?_
 rintro e w1 ⟨v,bl,rfl,y1⟩
 have y1:YG segE B rb w w1 q1 v segs bl:=y1
 have HS:=hide (spSegsX_walk B rb q1 w w1 v segs bl y1 (uh HL).1 (uh HL).2 (uh HT) (Nat.le_trans (uh HZ) (by decide)))
 have HY:=hide y1
 obtain⟨va,vc,rfl,-,-⟩:=y1.row.form
 clear y1 HG HT HZ HL
 by_cases h3:k % 3=2
 ·have e3:((k:Int) % 3 == 2)=true:=by simp; omega
  have HE:Hid (dSegs k q=spSegs (nx q1).1 ((nx (nx q1).2).1 % segs.length) (nx (nx (nx q1).2).2).1 segs):=by show _=_; rw[uh HD,if_pos h3]
  clear HD h3
  go_wp2_with fail
  refine (uh HS).mono ?_
  rintro e w2 ⟨v2,bl2,rfl,h1,h2⟩
  have HF:Hid (SPo w rb (dSegs k q) (.returned v2) w2):=by show SPo _ _ _ _ _; rw[uh HE]; exact⟨v2,bl2,rfl,h1,h2⟩
  obtain⟨xa,xc,xn,rfl⟩ : ∃ xa xc xn,v2 = .slice xa xn xc:=by
   rcases h2 with h2 | h2
   ·obtain⟨a,c,rfl,-⟩:=h2.form
    exact⟨_,_,_,rfl⟩
   ·obtain⟨a,c,rfl,-⟩:=h2.2.form
    exact⟨_,_,_,rfl⟩
  clear h1 h2 HS HY HE
  go_wp2
  go_ret
  exact uh HF
 ·have e3:((k:Int) % 3 == 2)=false:=by simp; omega
  have HF:Hid (SPo w rb (dSegs k q) (.returned (.slice va segs.length vc)) w1):=by show SPo _ _ _ _ _; rw[uh HD,if_neg h3]; exact⟨_,bl,rfl,(uh HY).dx.gr,.inl (uh HY).row⟩
  clear HD h3 HS HY
  go_wp2
  go_ret
  exact uh HF
def DPo (w:World) (ms:List PSeg) (e:Ending) (w':World) : Prop:=
 ∃ v bl,e = .returned v∧Below w.heap.size w w'∧(ORow segE w' v ms bl∨(pathOk ms=false∧ORow segTl w' v ms bl))
theorem orow_lit1 {α:Type} {e:Elem α} {w:World} {vs:List Value} {x:α} {ib:List Nat} (hE:e.E w vs x ib) (hl:vs.length=e.wd) (hlt:∀ b∈ib,b < w.heap.size) : ORow e (w.alloc (.cells vs.toArray e.T)) (.slice (some ⟨w.heap.size,0,none⟩) 1 1) [x] (w.heap.size :: ib):=by
 refine⟨[(vs,ib)],rfl,fun j p y hp hy=>?_,⟨by simp[hl],.inr ⟨w.heap.size,1,vs.toArray,rfl,Nat.zero_le _,heap_alloc_new w _,Nat.le_refl _,by unfold maxLen; decide,by simp[hl],by simp[← hl]⟩⟩,by simp[Value.ownBlock]⟩
 have hj:j=0:=by have:=(List.getElem?_eq_some_iff.1 hy).1; simpa using this
 subst hj
 simp at hp hy
 subst hp; subst hy
 exact e.keep hE (.of_below (al_b w _) hlt)
theorem dPath_walk (xa:Option Addr) (xb xo xc:Nat) (l:List UInt8) (w:World) (h:BS w xa xb xo l) (hl:l.length≤1048576) (hc:l.length≤xc) :
  Calls Tryz.prog 4 #[.slice xa l.length xc] w (DPo w (dPath (l.take 1200))):=by
 have HO:=hide (openX_walk xa xb xo xc l w h hl hc)
 have HN:=hide fun w1 (h:RdAt w1 w.heap.size w.heap.size (l.take 1200))=>nextX_walk w.heap.size w.heap.size (l.take 1200) w1 h
 have hx:=nx_le (l.take 1200)
 have HDR:=hide fun w1 (h:RdAt w1 w.heap.size w.heap.size (nx (l.take 1200)).2)=>dSegsX_walk w.heap.size w.heap.size ((nx (l.take 1200)).1 / 2) (nx (l.take 1200)).2 w1 h (by omega)
 have HE:Hid (dPath (l.take 1200)=if (nx (l.take 1200)).1 % 16=15 then [⟨false,[filS (chnN (50+(nx (l.take 1200)).1 / 16 % 3 - 1))]⟩] else dSegs ((nx (l.take 1200)).1 / 2) (nx (l.take 1200)).2):=rfl
 generalize dPath (l.take 1200)=E at *
 clear h hl hc
 generalize (nx (l.take 1200)).1=k at *
 generalize (nx (l.take 1200)).2=q1 at *
 go_enter Tryz.func4,Tryz.ntmps4
 go_wp2_with fail
 refine (uh HO).mono ?_
 rintro e w1 ⟨rfl,r1,b1,z1⟩
 have HN1:=hide (uh HN w1 r1)
 have HB1:=hide b1
 have HZ1:=hide z1
 clear HO HN r1 b1 z1
 go_wp2_with fail
 refine (uh HN1).mono ?_
 rintro e w2 ⟨rfl,d2⟩
 have HDC:=hide (uh HDR w2 d2.rd)
 have HB2:Hid (Below w.heap.size w w2):=(uh HB1).grown d2.gr (by have:=uh HZ1; omega) (fun k hk=>by injection hk with hk; omega)
 have hz2:w.heap.size < w2.heap.size:=by have:=d2.size; have:=uh HZ1; omega
 clear HN1 d2 HDR HB1 HZ1
 by_cases h16:k % 16=15
 ·have e16:((k:Int) % 16 == 15)=true:=by simp; omega
  rw[if_pos h16] at HE
  have em:(k:Int) / 16 % 3=((k / 16 % 3:Nat) : Int):=by omega
  have hm:k / 16 % 3≤2:=by omega
  generalize k / 16 % 3=m at *
  have R1:Hid (ORow fopE (w2.alloc (.cells #[.int .i64 8,.int .i64 0,.string ⟨#[]⟩,.bool false,.slice none 0 0] 37)) (.slice (some ⟨w2.heap.size,0,none⟩) 1 1) (chnN 0) [w2.heap.size]):=
   orow_lit1 (e:=fopE) (vs:=[.int .i64 8,.int .i64 0,.string ⟨#[]⟩,.bool false,.slice none 0 0]) (x:=opK 8) (ib:=[]) (fopX_lit _ _ _ _) rfl (fun _ h=>by cases h)
  have HB3:Hid (Below w.heap.size w (w2.alloc (.cells #[.int .i64 8,.int .i64 0,.string ⟨#[]⟩,.bool false,.slice none 0 0] 37))):=below_next (uh HB2) (al_b w2 _)
  have F1:Hid (Fsh w.heap.size [w2.heap.size]):=⟨by simp,fun b hb=>by simp at hb; omega⟩
  have HCL:Hid (∀ i,(chnN i).length=2*i+1):=fun i=>by
   induction i with
   | zero=>rfl
   | succ i ih=>rw[chnN,List.length_append,ih]; simp; omega
  clear HDC HB2 h16
  go_wp2_with fail
  go_loopw [5,6] (fun cv iv wr=>∃ (i:Nat) (bl:List Nat),iv = .int .i64 (i:Int)∧i≤50+m - 1∧Hid (ORow fopE wr cv (chnN i) bl)∧Hid (Fsh w.heap.size bl)∧Hid (Below w.heap.size w wr)) (fun _ iv _=>50+m - 1 - (intOf iv).toNat)
  case atStart=>exact⟨0,_,rfl,by omega,R1,F1,HB3⟩
  case round=>
   obtain⟨i,bl,rfl,hi,hr,hf,hb⟩:=hrel
   obtain⟨ca,cc,rfl,-,-⟩:=(uh hr).form
   clear R1 F1 HB3
   by_cases hci:(i:Int) < 50+(m:Int) - 1
   ·have hci2:(i:Int) < 50+(m:Int) - 1:=hci
    have hab:=al_b wr (.cells #[.int .i64 8,.int .i64 0,.string ⟨#[]⟩,.bool false,.slice none 0 0,.int .i64 11,.int .i64 0,.string ⟨#[]⟩,.bool false,.slice none 0 0] 37)
    have R2:=hide ((uh hr).below hab)
    have HB4:=hide (below_next (uh hb) hab)
    have ZL:Hid (w.heap.size≤(wr.alloc (.cells #[.int .i64 8,.int .i64 0,.string ⟨#[]⟩,.bool false,.slice none 0 0,.int .i64 11,.int .i64 0,.string ⟨#[]⟩,.bool false,.slice none 0 0] 37)).heap.size):=(uh HB4).size
    have HLN:Hid ((chnN i).length+2≤40000000):=by show _≤_; rw[uh HCL]; omega
    have HS:Hid (chnN (i+1)=chnN i++[opK 8,opK 11]):=rfl
    have EL:Hid (∀ (j:Nat) (p:List Value×List Nat) (y:PFOp),([([.int .i64 8,.int .i64 0,.string ⟨#[]⟩,.bool false,.slice none 0 0],([] : List Nat)),([.int .i64 11,.int .i64 0,.string ⟨#[]⟩,.bool false,.slice none 0 0],([] : List Nat))] : List (List Value×List Nat))[j]?=some p→[opK 8,opK 11][j]?=some y→fopE.E (wr.alloc (.cells #[.int .i64 8,.int .i64 0,.string ⟨#[]⟩,.bool false,.slice none 0 0,.int .i64 11,.int .i64 0,.string ⟨#[]⟩,.bool false,.slice none 0 0] 37)) p.1 y p.2):=fun j p y h1 h2=>by
     match j,h1,h2 with
     | 0,h1,h2=>simp at h1 h2; subst h1; subst h2; exact fopX_lit _ _ _ _
     | 1,h1,h2=>simp at h1 h2; subst h1; subst h2; exact fopX_lit _ _ _ _
     | j+2,h1,_=>simp at h1
    have ONE:Hid (∀ u∈([.int .i64 8,.int .i64 0,.string ⟨#[]⟩,.bool false,.slice none 0 0,.int .i64 11,.int .i64 0,.string ⟨#[]⟩,.bool false,.slice none 0 0] : List Value),u.oneCell'=true):=by
     intro u hu; simp at hu; rcases hu with rfl | rfl | rfl | rfl | rfl | rfl | rfl | rfl | rfl | rfl <;> rfl
    clear hab hr hb
    generalize chnN i=ops at *
    go_wp2_with (at_builtin; refine wpl_apps ekFOp rfl (.tmp 25) (.tmp 28) rfl rfl (uh R2) (uh hf) (qs:=([([.int .i64 8,.int .i64 0,.string ⟨#[]⟩,.bool false,.slice none 0 0],([] : List Nat)),([.int .i64 11,.int .i64 0,.string ⟨#[]⟩,.bool false,.slice none 0 0],([] : List Nat))] : List (List Value×List Nat))) (ys:=[opK 8,opK 11]) rfl (by simp) (uh EL) (Fsh.nil _) (by simp) rfl (by exact lit_cells wr [.int .i64 8,.int .i64 0,.string ⟨#[]⟩,.bool false,.slice none 0 0,.int .i64 11,.int .i64 0,.string ⟨#[]⟩,.bool false,.slice none 0 0] _) (uh ONE) (uh ZL) (uh HLN) ?_)
    intro v5 w5 bl5 hA
    have R5:Hid (ORow fopE w5 v5 (ops++[opK 8,opK 11]) bl5):=hA.row
    have F5:Hid (Fsh w.heap.size bl5):=hA.fsh
    have B5:Hid (Below w.heap.size w w5):=(uh HB4).grown hA.grown (uh ZL) (fun k hk=>(uh hf).2 k ((uh R2).head hk))
    obtain⟨za,zc,rfl,-,-⟩:=hA.row.form
    clear hA
    go_wp2
    go_roundw
    case rel=>exact⟨i+1,bl5,by go_num,by omega,by rw[uh HS]; simpa using R5,F5,B5⟩
    case measure=>simp[intOf]; omega
   ·have hje:i=50+m - 1:=by omega
    have hab:=al_b wr (.cells #[.int .i64 5,.string ⟨#[]⟩,.bool false,.bool false,.bool false,.int .i64 0,.int .i64 0,.int .i64 0,.slice ca (chnN i).length cc] 40)
    have R9:ORow selE (wr.alloc (.cells #[.int .i64 5,.string ⟨#[]⟩,.bool false,.bool false,.bool false,.int .i64 0,.int .i64 0,.int .i64 0,.slice ca (chnN i).length cc] 40)) (.slice (some ⟨wr.heap.size,0,none⟩) 1 1) [filS (chnN i)] (wr.heap.size :: bl):=
     orow_lit1 (e:=selE) (vs:=[.int .i64 5,.string ⟨#[]⟩,.bool false,.bool false,.bool false,.int .i64 0,.int .i64 0,.int .i64 0,.slice ca (chnN i).length cc]) (x:=filS (chnN i)) (ib:=bl) ⟨_,rfl,uh hr⟩ rfl (uh hr).lt
    have R10:ORow segE ((wr.alloc (.cells #[.int .i64 5,.string ⟨#[]⟩,.bool false,.bool false,.bool false,.int .i64 0,.int .i64 0,.int .i64 0,.slice ca (chnN i).length cc] 40)).alloc (.cells #[.bool false,.slice (some ⟨wr.heap.size,0,none⟩) 1 1] 43)) (.slice (some ⟨(wr.alloc (.cells #[.int .i64 5,.string ⟨#[]⟩,.bool false,.bool false,.bool false,.int .i64 0,.int .i64 0,.int .i64 0,.slice ca (chnN i).length cc] 40)).heap.size,0,none⟩) 1 1) [⟨false,[filS (chnN i)]⟩] _:=
     orow_lit1 (e:=segE) (vs:=[.bool false,.slice (some ⟨wr.heap.size,0,none⟩) 1 1]) (x:=⟨false,[filS (chnN i)]⟩) ⟨_,rfl,R9⟩ rfl R9.lt
    rw[show (wr.alloc (.cells #[.int .i64 5,.string ⟨#[]⟩,.bool false,.bool false,.bool false,.int .i64 0,.int .i64 0,.int .i64 0,.slice ca (chnN i).length cc] 40)).heap.size=wr.heap.size+1 by simp] at R10
    rw[← hje] at HE
    have HF:Hid (DPo w E (.returned (.slice (some ⟨wr.heap.size+1,0,none⟩) 1 1)) ((wr.alloc (.cells #[.int .i64 5,.string ⟨#[]⟩,.bool false,.bool false,.bool false,.int .i64 0,.int .i64 0,.int .i64 0,.slice ca (chnN i).length cc] 40)).alloc (.cells #[.bool false,.slice (some ⟨wr.heap.size,0,none⟩) 1 1] 43))):=by
     show DPo _ _ _ _
     rw[uh HE]
     exact⟨_,_,rfl,below_next (below_next (uh hb) hab) (al_b _ _),.inl R10⟩
    clear R9 R10 HE hab hr hf hb hje HCL
    generalize (chnN i).length=n at *
    go_wp2
    go_ret
    exact uh HF
 ·have e16:((k:Int) % 16 == 15)=false:=by simp; omega
  rw[if_neg h16] at HE
  have ek:(k:Int) / 2=((k / 2:Nat) : Int):=by omega
  generalize hk2:k / 2=k2 at *
  go_wp2_with fail
  refine (uh HDC).mono ?_
  rintro e w3 ⟨v2,bl2,rfl,h1,h2⟩
  have HF:Hid (DPo w E (.returned v2) w3):=by
   show DPo _ _ _ _
   rw[uh HE]
   exact⟨v2,bl2,rfl,(uh HB2).grown h1 (by omega) (fun k hk=>by injection hk with hk; omega),h2⟩
  obtain⟨xa,xc,xn,rfl⟩ : ∃ xa xc xn,v2 = .slice xa xn xc:=by
   rcases h2 with h2 | h2
   ·obtain⟨a,c,rfl,-⟩:=h2.form
    exact⟨_,_,_,rfl⟩
   ·obtain⟨a,c,rfl,-⟩:=h2.2.form
    exact⟨_,_,_,rfl⟩
  clear h1 h2 HDC HE
  go_wp2
  go_ret
  exact uh HF
end Go.Proofs.YtkjcgkfejdogbaaGreatDoor
