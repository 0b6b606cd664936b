import Derived.Test.YtkjcgkfejdogbaaGreatDoorBz10
import Derived.Test.YtkjcgkfejdogbaaGreatDoorBz17
import Derived.Test.YtkjcgkfejdogbaaGreatDoorBz23
set_option maxRecDepth 100000
set_option maxHeartbeats 8000000
namespace Go.Proofs.YtkjcgkfejdogbaaGreatDoor
open Go.RowKit
theorem txX_walk (k:Nat) (w:World) (hk:k≤255) :
  Calls Tryz.prog 73 #[.int .i64 k] w fun e w'=>e = .returned (.string (strOf (txT k)))∧w=w':=by
 unfold txT
 by_cases h:k % 9=8
 ·have e:(k:Int) % 9=8:=by omega
  rw[if_pos h]
  clear h
  go_enter Tryz.func73,Tryz.ntmps73
  go_wp2
  go_ret
  exact⟨rfl,rfl⟩
 ·have e:((k:Int) % 9 == 8)=false:=by simp; omega
  rw[if_neg h]
  have HK:=hide (keyX_walk k w hk)
  generalize keyT k=t at *
  clear h
  go_enter Tryz.func73,Tryz.ntmps73
  go_wp2_with fail
  refine (uh HK).mono ?_
  rintro e w1 ⟨rfl,rfl⟩
  clear HK
  go_wp2
  go_ret
  exact⟨rfl,rfl⟩
theorem gIntX_walk (B rb:Nat) (q:List UInt8) (w:World) (h:RdAt w B rb q) :
  Calls Tryz.prog 74 #[.pointer (some ⟨rb,0,none⟩)] w fun e w'=>e = .returned (.int .i64 (gInt q).1)∧DX B rb w (gInt q).2 w':=by
 have HN:=hide (nextX_walk B rb q w h)
 have hx:=nx_le q
 unfold gInt
 clear h
 generalize (nx q).1=x at *
 generalize (nx q).2=q1 at *
 by_cases h1:x=255
 ·subst h1
  go_enter Tryz.func74,Tryz.ntmps74
  go_wp2_with fail
  refine (uh HN).mono ?_
  rintro e w1 ⟨rfl,d1⟩
  go_wp2
  go_ret
  exact⟨rfl,d1⟩
 ·by_cases h2:x=254
  ·subst h2
   go_enter Tryz.func74,Tryz.ntmps74
   go_wp2_with fail
   refine (uh HN).mono ?_
   rintro e w1 ⟨rfl,d1⟩
   go_wp2
   go_ret
   exact⟨rfl,d1⟩
  ·have e1:((x:Int) == 255)=false:=by simp; omega
   have e2:((x:Int) == 254)=false:=by simp; omega
   have e3:(x:Int) % 9=((x % 9:Nat) : Int):=by omega
   rw[if_neg h1,if_neg h2]
   clear h1 h2
   have hb:x % 9≤8:=by omega
   generalize x % 9=m at *
   go_enter Tryz.func74,Tryz.ntmps74
   go_wp2_with fail
   refine (uh HN).mono ?_
   rintro e w1 ⟨rfl,d1⟩
   go_wp2
   go_ret
   exact⟨rfl,d1⟩
theorem DX.keep {B rb:Nat} {w w1 w2:World} {q:List UInt8} (h:DX B rb w q w1) {r:Option Nat} (hg:w1.grownBy w2 r) (hr:∀ j,r=some j→w.heap.size≤j) (hl:rb < w.heap.size) : DX B rb w q w2:=by
 have hB:=h.rd.ge
 exact⟨h.rd.grown hg (fun e=>by have:=hr rb e.symm; omega) (fun k e=>by have:=hr k e; omega),grownBy_new h.gr hg hr⟩
theorem grown_st (w:World) (g i:Nat) (z:Value) : w.grownBy (w.setCell ⟨g,i,none⟩ z) (some g):=
 ⟨rfl,rfl,rfl,by simp[World.setCell],fun k _ hne=>Below.heap_setCell w ⟨g,i,none⟩ z k (fun e=>hne (by rw[e]))⟩
theorem grown_putN (w:World) (g:Nat) (xs:List Value) : w.grownBy (putN w g 0 xs) (some g):=by
 have h:=putN_below (Below.refl g w) (Nat.le_refl _) xs 0
 exact⟨h.os,h.tape,h.output,h.size,fun k _ hne=>putN_other (fun e=>hne (by rw[e])) _ _⟩
def FX (B rb:Nat) (w:World) (R:PFOp×Bs) (e:Ending) (w':World) : Prop:=
 DX B rb w R.2 w'∧∃ (v:Value) (bl:List Nat),e = .returned (.agg #[.int .i64 R.1.k,.int .i64 R.1.n,.string R.1.s,.bool R.1.root,v])∧ORow stepE w' v R.1.steps bl∧Fsh w.heap.size bl
structure RG (B rb:Nat) (w wr:World) (g:Nat) (q:Bs) (root:Bool) (acc:List PStep) (v:Value) (bl:List Nat) : Prop where
 dx:DX B rb w q wr
 r0:FB wr w.heap.size 0 0 ⟨#[]⟩ false (.slice none 0 0)
 ro:FB wr g 8 0 ⟨#[]⟩ root v
 row:ORow stepE wr v acc bl
 fsh:Fsh (w.heap.size+1) bl
 ng:g ∉ bl
 lt:w.heap.size < g
 rl:rb < w.heap.size
section
variable {B rb:Nat} {w wr w1 w2:World} {g:Nat} {q r:Bs} {root:Bool} {acc:List PStep} {v v':Value} {bl bl':List Nat}
theorem RG.draw (h:RG B rb w wr g q root acc v bl) (d:DX B rb wr r w1) : RG B rb w w1 g r root acc v bl:=by
 have h1:=h.rl
 have h2:=h.lt
 exact⟨h.dx.step d,(d.gr.block _ h.r0.lt (fun e=>by injection e with e; omega)).trans h.r0,(d.gr.block _ h.ro.lt (fun e=>by injection e with e; omega)).trans h.ro,h.row.keep fun b hb=>d.gr.block b (h.row.lt b hb) (fun e=>by injection e with e; have:=h.fsh.2 b hb; omega),h.fsh,h.ng,h.lt,h.rl⟩
theorem RG.below (h:RG B rb w wr g q root acc v bl) (hb:Below wr.heap.size wr w1) : RG B rb w w1 g q root acc v bl:=
 ⟨h.dx.below hb,h.r0.below hb,h.ro.below hb,h.row.below hb,h.fsh,h.ng,h.lt,h.rl⟩
theorem RG.app {x:PStep} (h:RG B rb w w1 g q root acc v bl) (hA:Appd stepE (w.heap.size+1) w1 w2 v v' bl [] bl' (acc++[x])) : RG B rb w (w2.setCell ⟨g,4,none⟩ v') g q root (acc++[x]) v' bl':=by
 have h0:w.heap.size ∉ bl:=fun hb=>by have:=h.fsh.2 _ hb; omega
 have hlt:=h.lt
 have hg:=h.ro.lt
 have n':g ∉ bl':=fun hb=>by
  rcases hA.sub _ hb with hb | hb | hb
  ·exact h.ng hb
  ·simp at hb
  ·omega
 refine⟨(h.dx.keep hA.grown (fun j e=>by have:=h.fsh.2 j (h.row.head e); omega) h.rl).keep (grown_st w2 g 4 v') (fun j e=>by injection e with e; omega) h.rl,(h.r0.appd hA h.row h0).other (by show _≠g; omega) _,(h.ro.appd hA h.row h.ng).set4 _,hA.row.set n' _,hA.fsh,n',hlt,h.rl⟩
theorem RG.done (h:RG B rb w wr g q root acc v bl) : FX B rb w (⟨8,0,⟨#[]⟩,root,acc⟩,q) (.returned (.agg #[.int .i64 8,.int .i64 0,.string ⟨#[]⟩,.bool root,v])) (putN wr w.heap.size 0 [.int .i64 8,.int .i64 0,.string ⟨#[]⟩,.bool root,v]):=by
 have hg:=grown_putN wr w.heap.size [.int .i64 8,.int .i64 0,.string ⟨#[]⟩,.bool root,v]
 refine⟨h.dx.keep hg (fun j e=>by injection e with e; omega) h.rl,v,bl,rfl,h.row.keep fun b hb=>putN_other (fun e=>?_) _ _,h.fsh.mono (by omega)⟩
 have:=h.fsh.2 b hb
 omega
end
theorem RG.start {B rb:Nat} {w w1:World} {q:Bs} (hl:rb < w.heap.size) (d:DX B rb (w.alloc (.cells #[.int .i64 0,.int .i64 0,.string ⟨#[]⟩,.bool false,.slice none 0 0] 37)) q w1) (root:Bool) :
  RG B rb w (w1.alloc (.cells #[.int .i64 8,.int .i64 0,.string ⟨#[]⟩,.bool root,.slice none 0 0] 37)) w1.heap.size q root [] (.slice none 0 0) []:=by
 have h1:=d.size
 have h2:(w.alloc (.cells #[.int .i64 0,.int .i64 0,.string ⟨#[]⟩,.bool false,.slice none 0 0] 37)).heap.size=w.heap.size+1:=by simp
 have r0:FB w1 w.heap.size 0 0 ⟨#[]⟩ false (.slice none 0 0):=(d.gr.block _ (by omega) (fun e=>by injection e with e; omega)).trans (heap_alloc_new w _)
 have d0:DX B rb w q w1:=⟨d.rd,grownBy_trans (grownBy_below (al_b w _)) d.gr⟩
 exact⟨d0.below (al_b w1 _),r0.below (al_b w1 _),heap_alloc_new w1 _,ORow.nil _ _,Fsh.nil _,by simp,by omega,hl⟩
theorem gStep_idx {q:Bs} (h:(nx q).1 % 4=3) : (gStep q).1=⟨true,⟨#[]⟩,(((nx q).1 / 4 % 4:Nat) : Int) - 1⟩:=by unfold gStep; dsimp only; rw[if_pos h]
theorem gStep_name {q:Bs} (h:¬ (nx q).1 % 4=3) : (gStep q).1=⟨false,bsT (txT ((nx q).1 / 4)),0⟩:=by unfold gStep; dsimp only; rw[if_neg h]
theorem gRefX_walk (B rb:Nat) (q:List UInt8) (w:World) (h:RdAt w B rb q) :
  Calls Tryz.prog 95 #[.pointer (some ⟨rb,0,none⟩)] w (FX B rb w (gRef q)):=by
 have hlt:=h.lt
 have h1:RdAt (w.alloc (.cells #[.int .i64 0,.int .i64 0,.string ⟨#[]⟩,.bool false,.slice none 0 0] 37)) B rb q:=(DX.refl h).below (al_b w _) |>.rd
 have HN:=hide (nextX_walk B rb q _ h1)
 have HNX:=hide fun q w h=>nextX_walk B rb q w h
 have HTX:=hide fun k w h=>txX_walk k w h
 have hx:=nx_le q
 clear h h1
 unfold gRef
 generalize (nx q).1=x at *
 generalize (nx q).2=q1 at *
 have e1:((x:Int) % 5 == 4)=decide (x % 5=4):=by
  by_cases h:x % 5=4
  ·rw[decide_eq_true h]; simp; omega
  ·rw[decide_eq_false h]; simp; omega
 generalize decide (x % 5=4)=root at *
 have e2:(x:Int) / 5 % 3=((x / 5 % 3:Nat) : Int):=by omega
 have hn:x / 5 % 3≤2:=by omega
 generalize x / 5 % 3=n at *
 go_enter Tryz.func95,Tryz.ntmps95
 go_wp2_with fail
 refine (uh HN).mono ?_
 rintro e w1 ⟨rfl,d1⟩
 have R1:=hide (RG.start hlt d1 root)
 clear HN d1
 go_wp2_with fail
 go_loopw [5] (fun iv wr=>∃ (i:Nat) (v:Value) (bl:List Nat),iv = .int .i64 (i:Int)∧i≤n∧Hid (RG B rb w wr w1.heap.size (gMany gStep i q1).2 root (gMany gStep i q1).1 v bl)) (fun iv _=>n - (intOf iv).toNat)
 case atStart=>exact⟨0,_,_,rfl,by omega,R1⟩
 case round=>
  obtain⟨i,v,bl,rfl,hi,hr⟩:=hrel
  by_cases hc:i < n
  ·have hcI:(i:Int) < (n:Int):=by omega
   have HG:=hide (gMany_snoc gStep i q1)
   have hal:=hide (gMany_len gStep i q1)
   generalize (gMany gStep i q1).2=qi at *
   generalize (gMany gStep i q1).1=acc at *
   have HD:=hide (uh HNX qi wr (uh hr).dx.rd)
   have hm:=nx_le qi
   go_wp2_with fail
   refine (uh HD).mono ?_
   rintro e w2 ⟨rfl,d2⟩
   have R2:=hide ((uh hr).draw d2)
   clear HD d2 hr R1
   obtain⟨qa,qc,rfl,-,-⟩:=(uh R2).row.form
   have c4:=(uh R2).ro.c.2.2.2.2
   have hg:=(uh R2).ro.lt
   have hl:=(uh R2).lt
   by_cases h3:(nx qi).1 % 4=3
   ·have HS:=hide (gStep_idx h3)
    have e3:(((nx qi).1:Int) % 4 == 3)=true:=by simp; omega
    have e4:((nx qi).1:Int) / 4 % 4=(((nx qi).1 / 4 % 4:Nat) : Int):=by omega
    have hd:(nx qi).1 / 4 % 4≤3:=by omega
    clear h3
    generalize (nx qi).1 / 4 % 4=d at *
    generalize hm':(nx qi).1=m at *
    have hab:Below w2.heap.size w2 (w2.alloc (.cells #[.bool true,.string ⟨#[]⟩,.int .i64 ((d:Int) - 1)] 107)):=al_b w2 _
    have R3:=hide ((uh R2).below hab)
    clear hab
    go_wp2_with (at_builtin; refine wpl_app1 ekStep rfl (.tmp 26) (.tmp 32) rfl rfl (uh R3).row (uh R3).fsh (vs:=[.bool true,.string ⟨#[]⟩,.int .i64 ((d:Int) - 1)]) (y:=⟨true,⟨#[]⟩,(d:Int) - 1⟩) ⟨rfl,rfl⟩ (Fsh.nil _) (by simp) rfl (by exact lit_cells w2 [_,_,_] _) (step_one _ _ _) (by simp; omega) (by have h:acc.length=i:=uh hal; omega) ?_)
    intro v2 w3 bl2 hA
    have R4:=hide ((uh R3).app hA)
    have RO:=(uh R3).ro.appd hA (uh R3).row (uh R3).ng
    have f4:=RO.fz.2.2.2.2
    have g4:=RO.c.2.2.2.2
    obtain⟨va,vc,rfl,-,-⟩:=hA.row.form
    rw[List.length_append,List.length_singleton] at R4
    clear hA RO c4
    go_wp2
    go_roundw
    case rel=>exact⟨i+1,_,bl2,by go_num,by omega,by rw[uh HG,uh HS]; exact R4⟩
    case measure=>simp[intOf]; omega
   ·have HS:=hide (gStep_name h3)
    have e3:(((nx qi).1:Int) % 4 == 3)=false:=by simp; omega
    have e4:((nx qi).1:Int) / 4=(((nx qi).1 / 4:Nat) : Int):=by omega
    have hd:(nx qi).1 / 4≤255:=by omega
    clear h3
    generalize (nx qi).1 / 4=d at *
    generalize hm':(nx qi).1=m at *
    have wd:IntKind.i64.wrap (d:Int)=(d:Int):=by rw[IntKind.wrap_i64]; omega
    have HT:=hide fun w=>uh HTX d w hd
    generalize txT d=t at *
    have hab:Below w2.heap.size w2 (w2.drew.alloc (.cells #[.bool false,.string (strOf t),.int .i64 0] 107)):=⟨rfl,rfl,rfl,by simp,fun b hb=>Lib.alloc_old w2.drew _ b hb⟩
    have R3:=hide ((uh R2).below hab)
    clear hab
    go_wp2_with fail
    go_region_law (first
     | (
       refine stp_app1 ekStep rfl (.tmp 36) (.tmp 41) rfl rfl (uh R3).row (uh R3).fsh (vs:=[.bool false,.string (strOf t),.int .i64 0]) (y:=⟨false,bsT t,0⟩) ⟨rfl,rfl⟩ (Fsh.nil _) (by simp) rfl (by exact lit_cells w2.drew [_,_,_] _) (step_one _ _ _) (by simp; omega) (by have h:acc.length=i:=uh hal; omega) ?_
       intro v2 w3 bl2 hA
       have R4:=hide ((uh R3).app hA)
       obtain⟨va,vc,rfl,-,-⟩:=hA.row.form
       rw[List.length_append,List.length_singleton] at R4
       have f4:=((uh R3).ro.appd hA (uh R3).row (uh R3).ng).fz.2.2.2.2
       have g4:=((uh R3).ro.appd hA (uh R3).row (uh R3).ng).c.2.2.2.2
       clear hA)
     | (go_simp; refine (uh HT _).mono ?_; rintro e w9 ⟨rfl,rfl⟩))
    all_goals
     go_wp2
     go_roundw
     case rel=>exact⟨i+1,_,bl2,by go_num,by omega,by rw[uh HG,uh HS]; exact R4⟩
     case measure=>simp[intOf]; omega
  ·have hcI:¬ (i:Int) < (n:Int):=by omega
   obtain rfl:i=n:=by omega
   obtain⟨qa,qc,rfl,-,-⟩:=(uh hr).row.form
   obtain⟨c0,c1,c2,c3,c4⟩:=(uh hr).ro.c
   obtain⟨f0,f1,f2,f3,f4⟩:=(uh hr).r0.fz
   obtain⟨d0,d1,d2,d3,d4⟩:=(uh hr).r0.c
   clear R1
   go_wp2
   try simp only[Exit.inBlock,Exit.then]
   refine bodyPost_ret (results_cell_row rfl _ _ w.heap.size 37 #[_,_,_,_,_] (0,0) _ rfl (putN_full (uh hr).r0 [_,_,_,_,_] rfl) Tryz.underlying37 rfl (by kernel_rfl)) rfl ?_
   exact (uh hr).done
structure OG (B rb:Nat) (w wr:World) (q:Bs) : Prop where
 dx:DX B rb w q wr
 r0:FB wr w.heap.size 0 0 ⟨#[]⟩ false (.slice none 0 0)
 rl:rb < w.heap.size
section
variable {B rb:Nat} {w wr w1 w2:World} {q r:Bs}
theorem OG.start (h:RdAt w B rb q) : OG B rb w (w.alloc (.cells #[.int .i64 0,.int .i64 0,.string ⟨#[]⟩,.bool false,.slice none 0 0] 37)) q:=
 ⟨(DX.refl h).below (al_b w _),heap_alloc_new w _,h.lt⟩
theorem OG.draw (h:OG B rb w wr q) (d:DX B rb wr r w1) : OG B rb w w1 r:=by
 have h1:=h.rl
 exact⟨h.dx.step d,(d.gr.block _ h.r0.lt (fun e=>by injection e with e; omega)).trans h.r0,h.rl⟩
theorem OG.below (h:OG B rb w wr q) (hb:Below wr.heap.size wr w1) : OG B rb w w1 q:=⟨h.dx.below hb,h.r0.below hb,h.rl⟩
theorem OG.set (h:OG B rb w wr q) {g:Nat} (hg:w.heap.size < g) (i:Nat) (z:Value) : OG B rb w (wr.setCell ⟨g,i,none⟩ z) q:=
 ⟨h.dx.keep (grown_st wr g i z) (fun j e=>by injection e with e; omega) h.rl,h.r0.other (by show _≠g; omega) _,h.rl⟩
theorem OG.done (h:OG B rb w wr q) {o:PFOp} {v:Value} {bl:List Nat} (hr:ORow stepE wr v o.steps bl) (hf:Fsh (w.heap.size+1) bl) :
  FX B rb w (o,q) (.returned (.agg #[.int .i64 o.k,.int .i64 o.n,.string o.s,.bool o.root,v])) (putN wr w.heap.size 0 [.int .i64 o.k,.int .i64 o.n,.string o.s,.bool o.root,v]):=by
 have hg:=grown_putN wr w.heap.size [.int .i64 o.k,.int .i64 o.n,.string o.s,.bool o.root,v]
 refine⟨h.dx.keep hg (fun j e=>by injection e with e; omega) h.rl,v,bl,rfl,hr.keep fun b hb=>putN_other (fun e=>?_) _ _,hf.mono (by omega)⟩
 have:=hf.2 b hb
 omega
end
theorem gOpdX_walk (B rb:Nat) (q:List UInt8) (w:World) (h:RdAt w B rb q) :
  Calls Tryz.prog 94 #[.pointer (some ⟨rb,0,none⟩)] w (FX B rb w (gOpd q)):=by
 have O1:=hide (OG.start h)
 have HN:=hide (nextX_walk B rb q _ (uh O1).dx.rd)
 have HIX:=hide fun q w h=>gIntX_walk B rb q w h
 have HTX:=hide fun k w h=>txX_walk k w h
 have HRX:=hide fun q w h=>gRefX_walk B rb q w h
 have hx:=nx_le q
 clear h
 unfold gOpd
 generalize (nx q).1=x at *
 generalize (nx q).2=q1 at *
 by_cases h0:x % 8=0
 ·rw[if_pos h0]
  have e0:((x:Int) % 8 == 0)=true:=by simp; omega
  clear h0
  go_enter Tryz.func94,Tryz.ntmps94
  go_wp2_with fail
  refine (uh HN).mono ?_
  rintro e w1 ⟨rfl,d1⟩
  have O2:=hide ((uh O1).draw d1)
  have HI:=hide (uh HIX q1 w1 (uh O2).dx.rd)
  clear HN d1 O1
  go_wp2_with fail
  refine (uh HI).mono ?_
  rintro e w2 ⟨rfl,d2⟩
  have O3:=hide ((uh O2).draw d2)
  clear HI d2 O2
  obtain⟨f0,f1,f2,f3,f4⟩:=(uh O3).r0.fz
  obtain⟨d0,d1,d2,d3,d4⟩:=(uh O3).r0.c
  go_wp2
  try simp only[Exit.inBlock,Exit.then]
  refine bodyPost_ret (results_cell_row rfl _ _ w.heap.size 37 #[_,_,_,_,_] (0,0) _ rfl (putN_full (uh O3).r0 [_,_,_,_,_] rfl) Tryz.underlying37 rfl (by kernel_rfl)) rfl ?_
  exact (uh O3).done (o:=opI _) (ORow.nil _ _) (Fsh.nil _)
 ·have e0:((x:Int) % 8 == 0)=false:=by simp; omega
  rw[if_neg h0]
  by_cases h1:x % 8=1
  ·rw[if_pos h1]
   have e1:((x:Int) % 8 == 1)=true:=by simp; omega
   have e4:(x:Int) / 8=((x / 8:Nat) : Int):=by omega
   have hd:x / 8≤255:=by omega
   clear h0 h1
   generalize x / 8=d at *
   have wd:IntKind.i64.wrap (d:Int)=(d:Int):=by rw[IntKind.wrap_i64]; omega
   have HT:=hide fun w=>uh HTX d w hd
   generalize txT d=t at *
   go_enter Tryz.func94,Tryz.ntmps94
   go_wp2_with fail
   refine (uh HN).mono ?_
   rintro e w1 ⟨rfl,d1⟩
   have O2:=hide ((uh O1).draw d1)
   clear HN d1 O1
   go_wp2_with fail
   refine (uh HT _).mono ?_
   rintro e w2 ⟨rfl,rfl⟩
   obtain⟨f0,f1,f2,f3,f4⟩:=(uh O2).r0.fz
   obtain⟨d0,d1,d2,d3,d4⟩:=(uh O2).r0.c
   go_wp2
   try simp only[Exit.inBlock,Exit.then]
   refine bodyPost_ret (results_cell_row rfl _ _ w.heap.size 37 #[_,_,_,_,_] (0,0) _ rfl (putN_full (uh O2).r0 [_,_,_,_,_] rfl) Tryz.underlying37 rfl (by kernel_rfl)) rfl ?_
   exact (uh O2).done (o:=opS t) (ORow.nil _ _) (Fsh.nil _)
  ·have e1:((x:Int) % 8 == 1)=false:=by simp; omega
   rw[if_neg h1]
   by_cases h2:x % 8=2
   ·rw[if_pos h2]
    have e2:((x:Int) % 8 == 2)=true:=by simp; omega
    have e4:(x:Int) / 8 % 3=((x / 8 % 3:Nat) : Int):=by omega
    have hd:x / 8 % 3≤2:=by omega
    clear h0 h1 h2
    generalize x / 8 % 3=d at *
    have wd:IntKind.i64.wrap (3+(d:Int))=3+(d:Int):=by rw[IntKind.wrap_i64]; omega
    go_enter Tryz.func94,Tryz.ntmps94
    go_wp2_with fail
    refine (uh HN).mono ?_
    rintro e w1 ⟨rfl,d1⟩
    have O2:=hide ((uh O1).draw d1)
    clear HN d1 O1
    obtain⟨f0,f1,f2,f3,f4⟩:=(uh O2).r0.fz
    obtain⟨d0,d1,d2,d3,d4⟩:=(uh O2).r0.c
    go_wp2
    try simp only[Exit.inBlock,Exit.then]
    refine bodyPost_ret (results_cell_row rfl _ _ w.heap.size 37 #[_,_,_,_,_] (0,0) _ rfl (putN_full (uh O2).r0 [_,_,_,_,_] rfl) Tryz.underlying37 rfl (by kernel_rfl)) rfl ?_
    exact (uh O2).done (o:=opK (3+(d:Int))) (ORow.nil _ _) (Fsh.nil _)
   ·have e2:((x:Int) % 8 == 2)=false:=by simp; omega
    rw[if_neg h2]
    clear h0 h1 h2
    by_cases h3:x % 8=3
    ·rw[if_pos h3]
     have e3:((x:Int) % 8 == 3)=true:=by simp; omega
     clear h3
     go_enter Tryz.func94,Tryz.ntmps94
     go_wp2_with fail
     refine (uh HN).mono ?_
     rintro e w1 ⟨rfl,d1⟩
     have O2:=hide ((uh O1).draw d1)
     have HR:=hide (uh HRX q1 w1 (uh O2).dx.rd)
     have hz:=(uh O2).r0.lt
     generalize gRef q1=R at *
     obtain⟨⟨k,n,s,root,steps⟩,q2⟩:=R
     clear HN d1 O1
     go_wp2_with fail
     refine (uh HR).mono ?_
     rintro e w2 ⟨d2,v,bl,rfl,row,fsh⟩
     have hz2:=d2.size
     have O4:=hide (((uh O2).draw d2).below (al_b w2 (.cells #[.int .i64 7,.int .i64 n,.string s,.bool root,v] 37)))
     have ROW4:=hide (row.below (al_b w2 (.cells #[.int .i64 7,.int .i64 n,.string s,.bool root,v] 37)))
     have FS:Hid (Fsh (w.heap.size+1) bl):=fsh.mono (by omega)
     obtain⟨qa,qc,rfl,-,-⟩:=row.form
     obtain⟨f0,f1,f2,f3,f4⟩:=(uh O4).r0.fz
     obtain⟨d0,d1,d2,d3,d4⟩:=(uh O4).r0.c
     have ne:w2.heap.size≠w.heap.size:=by omega
     have ne':w.heap.size≠w2.heap.size:=by omega
     clear HR row fsh O2
     go_wp2
     try simp only[Exit.inBlock,Exit.then]
     refine bodyPost_ret (results_cell_row rfl _ _ w.heap.size 37 #[_,_,_,_,_] (0,0) _ rfl (putN_full (uh O4).r0 [_,_,_,_,_] rfl) Tryz.underlying37 rfl (by kernel_rfl)) rfl ?_
     exact (uh O4).done (o:=⟨7,n,s,root,steps⟩) (uh ROW4) (uh FS)
    ·rw[if_neg h3]
     have e3:((x:Int) % 8 == 3)=false:=by simp; omega
     clear h3
     go_enter Tryz.func94,Tryz.ntmps94
     go_wp2_with fail
     refine (uh HN).mono ?_
     rintro e w1 ⟨rfl,d1⟩
     have O2:=hide ((uh O1).draw d1)
     have HR:=hide (uh HRX q1 w1 (uh O2).dx.rd)
     have hz:=(uh O2).r0.lt
     generalize gRef q1=R at *
     obtain⟨⟨k,n,s,root,steps⟩,q2⟩:=R
     clear HN d1 O1
     go_wp2_with fail
     refine (uh HR).mono ?_
     rintro e w2 ⟨d2,v,bl,rfl,row,fsh⟩
     have hz2:=d2.size
     have O4:=hide (((uh O2).draw d2).below (al_b w2 (.cells #[.int .i64 6,.int .i64 n,.string s,.bool root,v] 37)))
     have ROW4:=hide (row.below (al_b w2 (.cells #[.int .i64 6,.int .i64 n,.string s,.bool root,v] 37)))
     have FS:Hid (Fsh (w.heap.size+1) bl):=fsh.mono (by omega)
     obtain⟨qa,qc,rfl,-,-⟩:=row.form
     obtain⟨f0,f1,f2,f3,f4⟩:=(uh O4).r0.fz
     obtain⟨d0,d1,d2,d3,d4⟩:=(uh O4).r0.c
     have ne:w2.heap.size≠w.heap.size:=by omega
     have ne':w.heap.size≠w2.heap.size:=by omega
     clear HR row fsh O2
     go_wp2
     try simp only[Exit.inBlock,Exit.then]
     refine bodyPost_ret (results_cell_row rfl _ _ w.heap.size 37 #[_,_,_,_,_] (0,0) _ rfl (putN_full (uh O4).r0 [_,_,_,_,_] rfl) Tryz.underlying37 rfl (by kernel_rfl)) rfl ?_
     exact (uh O4).done (o:=⟨6,n,s,root,steps⟩) (uh ROW4) (uh FS)
theorem fopX_lit (w:World) (k n:Int) (t:ByteArray) : fopE.E w [.int .i64 k,.int .i64 n,.string t,.bool false,.slice none 0 0] ⟨k,n,t,false,[]⟩ []:=⟨_,rfl,ORow.nil _ _⟩
structure CG (B rb:Nat) (w0 w:World) (q:Bs) (v:Value) (ops:List PFOp) (bl:List Nat) : Prop where
 dx:DX B rb w0 q w
 row:ORow fopE w v ops bl
 fsh:Fsh w0.heap.size bl
 rl:rb < w0.heap.size
section
variable {B rb:Nat} {w0 w w1 w2:World} {q r:Bs} {v v':Value} {ops zs:List PFOp} {bl ib bl':List Nat}
theorem CG.draw (h:CG B rb w0 w q v ops bl) (d:DX B rb w r w1) : CG B rb w0 w1 r v ops bl:=by
 have h1:=h.rl
 exact⟨h.dx.step d,h.row.keep fun b hb=>d.gr.block b (h.row.lt b hb) (fun e=>by injection e with e; have:=h.fsh.2 b hb; omega),h.fsh,h.rl⟩
theorem CG.below (h:CG B rb w0 w q v ops bl) (hb:Below w.heap.size w w1) : CG B rb w0 w1 q v ops bl:=⟨h.dx.below hb,h.row.below hb,h.fsh,h.rl⟩
theorem CG.app (h:CG B rb w0 w q v ops bl) (hA:Appd fopE w0.heap.size w w2 v v' bl ib bl' zs) : CG B rb w0 w2 q v' zs bl':=
 ⟨h.dx.keep hA.grown (fun j e=>h.fsh.2 j (h.row.head e)) h.rl,hA.row,hA.fsh,h.rl⟩
end
def CX (B rb:Nat) (w0:World) (ops:List PFOp) (R:List PFOp×Bs) (e:Ending) (w':World) : Prop:=
 ∃ (v':Value) (bl':List Nat),e = .returned v'∧CG B rb w0 w' R.2 v' (ops++R.1) bl'
theorem gTestX_walk (B rb:Nat) (w0:World) (d:Nat) (q:List UInt8) (w:World) (v:Value) (ops:List PFOp) (bl:List Nat) (h:CG B rb w0 w q v ops bl) (hl:ops.length≤1000) (hd:d=0∨(0 < d∧(nx q).1 % 8 < 4)) (hd3:d≤3) :
  Calls Tryz.prog 75 #[.pointer (some ⟨rb,0,none⟩),.int .i64 d,v] w (CX B rb w0 ops (gTest (nx q).1 (nx q).2)):=by
 have HDI:Hid ((d=0→(d:Int)≤0)∧(0 < d→¬ (d:Int)≤0)):=⟨fun h=>by omega,fun h=>by omega⟩
 generalize (d:Int)=D at *
 have C1:=hide h
 have HN:=hide (nextX_walk B rb q _ h.dx.rd)
 have HOX:=hide fun q w h=>gOpdX_walk B rb q w h
 have hx:=nx_le q
 obtain⟨va,vc,rfl,-,-⟩:=h.row.form
 clear h
 unfold gTest
 generalize (nx q).1=x at *
 generalize (nx q).2=q1 at *
 go_enter Tryz.func75,Tryz.ntmps75
 go_wp2_with fail
 refine (uh HN).mono ?_
 rintro e w1 ⟨rfl,d1⟩
 have C2:=hide ((uh C1).draw d1)
 clear HN d1 C1
 go_upto_region 2 with fail
 go_cut [18] from 12 to 18 (fun u wx=>u = .bool true∧w1=wx)
 case first=>
  rcases hd with h0 | ⟨h0,h4⟩
  ·have e0:(D≤0)=True:=eq_true ((uh HDI).1 h0)
   clear h0
   go_wp2
   go_meet
   case rel=>exact⟨rfl,rfl⟩
  ·have e0:(D≤0)=False:=eq_false (by have:=(uh HDI).2 h0; omega)
   have e1:((x:Int) % 8 < 4)=True:=eq_true (by omega)
   clear h0 h4
   go_wp2
   go_meet
   case rel=>exact⟨rfl,rfl⟩
 obtain⟨rfl,rfl⟩:=hcut
 have HA:=hide (uh HOX q1 w1 (uh C2).dx.rd)
 clear hd
 go_wp2_with fail
 refine (uh HA).mono ?_
 rintro e w2 ⟨d2,va1,ba,rfl,rowa,fsha⟩
 obtain⟨aa,ac,rfl,-,-⟩:=rowa.form
 have z2:=d2.size
 have b1:=al_b w2 (.cells #[.int .i64 (gOpd q1).1.k,.int .i64 (gOpd q1).1.n,.string (gOpd q1).1.s,.bool (gOpd q1).1.root,.slice aa (gOpd q1).1.steps.length ac] 37)
 have C3:=hide (((uh C2).draw d2).below b1)
 have ROA:=hide (rowa.below b1)
 have FSA:=hide fsha
 have LA:=hide rowa.lt
 have KA:Hid (FB (w2.alloc (.cells #[.int .i64 (gOpd q1).1.k,.int .i64 (gOpd q1).1.n,.string (gOpd q1).1.s,.bool (gOpd q1).1.root,.slice aa (gOpd q1).1.steps.length ac] 37)) w2.heap.size (gOpd q1).1.k (gOpd q1).1.n (gOpd q1).1.s (gOpd q1).1.root (.slice aa (gOpd q1).1.steps.length ac)):=heap_alloc_new w2 _
 have HB:=hide (uh HOX (gOpd q1).2 _ (uh C3).dx.rd)
 have LO:=hide (uh C2).row.lt
 have l0:=(uh C2).dx.size
 have l1:=(uh C2).rl
 clear rowa fsha b1 HA d2 C2 HOX
 generalize (gOpd q1).2=q2 at *
 generalize (gOpd q1).1=oa at *
 go_wp2_with fail
 refine (uh HB).mono ?_
 rintro e w3 ⟨d3,vb1,bb,rfl,rowb,fshb⟩
 obtain⟨ya,yc,rfl,-,-⟩:=rowb.form
 have z3:=d3.size
 generalize (gOpd q2).2=q3 at *
 generalize (gOpd q2).1=ob at *
 have zA:(w2.alloc (.cells #[.int .i64 oa.k,.int .i64 oa.n,.string oa.s,.bool oa.root,.slice aa oa.steps.length ac] 37)).heap.size=w2.heap.size+1:=by simp
 have e4:(x:Int) / 8 % 6=((x / 8 % 6:Nat) : Int):=by omega
 have hn:x / 8 % 6≤5:=by omega
 generalize x / 8 % 6=n at *
 have KA3:FB w3 w2.heap.size oa.k oa.n oa.s oa.root (.slice aa oa.steps.length ac):=(d3.gr.block _ (by omega) (fun e=>by injection e with e; omega)).trans (uh KA)
 have ROA3:=(uh ROA).keep fun b hb=>d3.gr.block b ((uh ROA).lt b hb) (fun e=>by injection e with e; have:=(uh FSA).2 b hb; omega)
 have b2:=al_b w3 (.cells #[.int .i64 ob.k,.int .i64 ob.n,.string ob.s,.bool ob.root,.slice ya ob.steps.length yc] 37)
 obtain⟨a0,a1,a2,a3,a4⟩:=(KA3.below b2).c
 have b3:=al_b (w3.alloc (.cells #[.int .i64 ob.k,.int .i64 ob.n,.string ob.s,.bool ob.root,.slice ya ob.steps.length yc] 37)) (.cells #[.int .i64 oa.k,.int .i64 oa.n,.string oa.s,.bool oa.root,.slice aa oa.steps.length ac,.int .i64 ob.k,.int .i64 ob.n,.string ob.s,.bool ob.root,.slice ya ob.steps.length yc,.int .i64 9,.int .i64 (1+(n:Int)),.string ⟨#[]⟩,.bool false,.slice none 0 0] 37)
 have C4:=hide ((((uh C3).draw d3).below b2).below b3)
 have RA7:=hide ((ROA3.below b2).below b3)
 have RB7:=hide ((rowb.below b2).below b3)
 have FSB:=hide fshb
 have wn:IntKind.i64.wrap (1+(n:Int))=1+(n:Int):=by rw[IntKind.wrap_i64]; omega
 have zB:(w3.alloc (.cells #[.int .i64 ob.k,.int .i64 ob.n,.string ob.s,.bool ob.root,.slice ya ob.steps.length yc] 37)).heap.size=w3.heap.size+1:=by simp
 clear KA3 ROA3 b2 b3 rowb fshb d3 HB C3 KA ROA
 have EL:Hid (∀ (j:Nat) (p:List Value×List Nat) (y:PFOp),([([.int .i64 oa.k,.int .i64 oa.n,.string oa.s,.bool oa.root,.slice aa oa.steps.length ac],ba),([.int .i64 ob.k,.int .i64 ob.n,.string ob.s,.bool ob.root,.slice ya ob.steps.length yc],bb),([.int .i64 9,.int .i64 (1+(n:Int)),.string ⟨#[]⟩,.bool false,.slice none 0 0],([] : List Nat))] : List (List Value×List Nat))[j]?=some p→[oa,ob,(⟨9,1+(n:Int),⟨#[]⟩,false,[]⟩ : PFOp)][j]?=some y→fopE.E ((w3.alloc (.cells #[.int .i64 ob.k,.int .i64 ob.n,.string ob.s,.bool ob.root,.slice ya ob.steps.length yc] 37)).alloc (.cells #[.int .i64 oa.k,.int .i64 oa.n,.string oa.s,.bool oa.root,.slice aa oa.steps.length ac,.int .i64 ob.k,.int .i64 ob.n,.string ob.s,.bool ob.root,.slice ya ob.steps.length yc,.int .i64 9,.int .i64 (1+(n:Int)),.string ⟨#[]⟩,.bool false,.slice none 0 0] 37)) p.1 y p.2):=fun j p y h1 h2=>by
  match j,h1,h2 with
  | 0,h1,h2=>simp at h1 h2; subst h1; subst h2; exact⟨_,rfl,uh RA7⟩
  | 1,h1,h2=>simp at h1 h2; subst h1; subst h2; exact⟨_,rfl,uh RB7⟩
  | 2,h1,h2=>simp at h1 h2; subst h1; subst h2; exact fopX_lit _ _ _ _
  | j+3,h1,h2=>simp at h1
 have HFL:Hid (([([.int .i64 oa.k,.int .i64 oa.n,.string oa.s,.bool oa.root,.slice aa oa.steps.length ac],ba),([.int .i64 ob.k,.int .i64 ob.n,.string ob.s,.bool ob.root,.slice ya ob.steps.length yc],bb),([.int .i64 9,.int .i64 (1+(n:Int)),.string ⟨#[]⟩,.bool false,.slice none 0 0],([] : List Nat))] : List (List Value×List Nat)).flatMap (·.2)=ba++bb):=by show _=_; simp
 have FI:Hid (Fsh w0.heap.size (ba++bb)):=((uh FSA).mono (by omega)).app (fun x hx=>by have:=uh LA x hx; omega) (uh FSB) (by omega)
 have AP:Hid (∀ x∈ba++bb,x ∉ bl):=fun x hb hbl=>by
  have h2:=uh LO x hbl
  rcases List.mem_append.1 hb with hb | hb
  ·have h1:=(uh FSA).2 x hb; omega
  ·have h1:=(uh FSB).2 x hb; omega
 have ONE:Hid (∀ u∈([([.int .i64 oa.k,.int .i64 oa.n,.string oa.s,.bool oa.root,.slice aa oa.steps.length ac],ba),([.int .i64 ob.k,.int .i64 ob.n,.string ob.s,.bool ob.root,.slice ya ob.steps.length yc],bb),([.int .i64 9,.int .i64 (1+(n:Int)),.string ⟨#[]⟩,.bool false,.slice none 0 0],([] : List Nat))] : List (List Value×List Nat)).flatMap (·.1),u.oneCell'=true):=by
  intro u hu
  simp at hu
  rcases hu with rfl | rfl | rfl | rfl | rfl | rfl | rfl | rfl | rfl | rfl | rfl | rfl | rfl | rfl | rfl <;> rfl
 have LC:=hide (lit_cells (w3.alloc (.cells #[.int .i64 ob.k,.int .i64 ob.n,.string ob.s,.bool ob.root,.slice ya ob.steps.length yc] 37)) [.int .i64 oa.k,.int .i64 oa.n,.string oa.s,.bool oa.root,.slice aa oa.steps.length ac,.int .i64 ob.k,.int .i64 ob.n,.string ob.s,.bool ob.root,.slice ya ob.steps.length yc,.int .i64 9,.int .i64 (1+(n:Int)),.string ⟨#[]⟩,.bool false,.slice none 0 0] 37)
 rw[zB] at LC
 go_wp2_with (at_builtin; refine wpl_apps ekFOp rfl (.tmp 23) (.tmp 31) rfl rfl (uh C4).row (uh C4).fsh (qs:=([([.int .i64 oa.k,.int .i64 oa.n,.string oa.s,.bool oa.root,.slice aa oa.steps.length ac],ba),([.int .i64 ob.k,.int .i64 ob.n,.string ob.s,.bool ob.root,.slice ya ob.steps.length yc],bb),([.int .i64 9,.int .i64 (1+(n:Int)),.string ⟨#[]⟩,.bool false,.slice none 0 0],([] : List Nat))] : List (List Value×List Nat))) (ys:=[oa,ob,(⟨9,1+(n:Int),⟨#[]⟩,false,[]⟩ : PFOp)]) rfl (by simp) (uh EL) (by rw[uh HFL]; exact uh FI) (by rw[uh HFL]; exact uh AP) rfl (by exact uh LC) (uh ONE) (by simp; omega) (by simp; omega) ?_)
 intro v6 w6 bl6 hA
 have C5:=hide ((uh C4).app hA)
 obtain⟨za,zc,rfl,-,-⟩:=hA.row.form
 clear hA
 go_wp2
 go_ret
 exact⟨_,bl6,rfl,uh C5⟩
theorem gCond_len (d:Nat) (q:Bs) : (gCond d q).1.length+1≤20*2 ^ d:=by
 have h:=gCond_sz d q
 unfold szFops at h
 omega
theorem opX_one (k:Int) : ∀ u∈[Value.int .i64 k,.int .i64 0,.string ⟨#[]⟩,.bool false,.slice none 0 0],u.oneCell'=true:=by
 intro u hu; simp at hu; rcases hu with rfl | rfl | rfl | rfl | rfl <;> rfl
theorem gCondX_walk (B rb:Nat) (w0:World) : ∀ (d:Nat) (q:List UInt8) (w:World) (v:Value) (ops:List PFOp) (bl:List Nat),CG B rb w0 w q v ops bl→d≤3→ops.length+20*2 ^ d≤1000 →
  Calls Tryz.prog 75 #[.pointer (some ⟨rb,0,none⟩),.int .i64 d,v] w (CX B rb w0 ops (gCond d q))
 | 0,q,w,v,ops,bl,h,hd,hl=>by
  rw[gCond]
  exact gTestX_walk B rb w0 0 q w v ops bl h (by omega) (.inl rfl) hd
 | d+1,q,w,v,ops,bl,h,hd,hl=>by
  rw[Nat.pow_succ] at hl
  rw[gCond]
  have hx:=nx_le q
  have hp:1≤2 ^ d:=Nat.one_le_two_pow
  by_cases h4:(nx q).1 % 8 < 4
  ·rw[if_pos h4]
   exact gTestX_walk B rb w0 (d+1) q w v ops bl h (by omega) (.inr ⟨by omega,h4⟩) hd
  ·rw[if_neg h4]
   have C1:=hide h
   have HN:=hide (nextX_walk B rb q _ h.dx.rd)
   have HRX:=hide fun q w h=>gRefX_walk B rb q w h
   have IH:=hide fun q w v ops bl h hl=>gCondX_walk B rb w0 d q w v ops bl h (by omega) hl
   have GL:=hide fun q=>gCond_len d q
   have HP:=hide hp
   have HL:=hide hl
   obtain⟨va,vc,rfl,-,-⟩:=h.row.form
   have l5:ops.length≤1000:=by omega
   clear h hp hl
   generalize (nx q).1=x at *
   generalize (nx q).2=q1 at *
   have eD:(((d+1:Nat) : Int)≤0)=False:=eq_false (by omega)
   have eM:IntKind.i64.wrap (((d+1:Nat) : Int) - 1)=(d:Int):=by rw[IntKind.wrap_i64]; omega
   have eM2:((d+1:Nat) : Int) - 1=(d:Int):=by omega
   generalize (((d+1:Nat) : Int))=D at *
   have e0:((x:Int) % 8 < 4)=False:=eq_false (by omega)
   by_cases h5:x % 8=4
   ·rw[if_pos h5]
    have e1:((x:Int) % 8 == 4)=true:=by simp; omega
    clear h4 h5
    go_enter Tryz.func75,Tryz.ntmps75
    go_wp2_with fail
    refine (uh HN).mono ?_
    rintro e w1 ⟨rfl,d1⟩
    have C2:=hide ((uh C1).draw d1)
    clear HN d1 C1
    have HR:=hide (uh HRX q1 w1 (uh C2).dx.rd)
    have LO:=hide (uh C2).row.lt
    have l0:=(uh C2).dx.size
    generalize gRef q1=R at *
    obtain⟨o,q2⟩:=R
    go_wp2_with fail
    refine (uh HR).mono ?_
    rintro e w2 ⟨d2,v2,ba,rfl,rowa,fsha⟩
    obtain⟨aa,ac,rfl,-,-⟩:=rowa.form
    have z2:=d2.size
    have b1:=al_b w2 (.cells #[.int .i64 o.k,.int .i64 o.n,.string o.s,.bool o.root,.slice aa o.steps.length ac] 37)
    have C3:=hide (((uh C2).draw d2).below b1)
    have ROA:=hide (rowa.below b1)
    have FSA:Hid (Fsh w0.heap.size ba):=fsha.mono (by omega)
    have AP:Hid (∀ x∈ba,x ∉ bl):=fun x hb hbl=>by
     have h2:=uh LO x hbl
     have h1:=fsha.2 x hb; omega
    have ONE:Hid (∀ u∈[Value.int .i64 o.k,.int .i64 o.n,.string o.s,.bool o.root,.slice aa o.steps.length ac],u.oneCell'=true):=by
     intro u hu; simp at hu; rcases hu with rfl | rfl | rfl | rfl | rfl <;> rfl
    clear rowa fsha b1 HR d2 C2 HRX IH GL HP HL
    go_wp2_with (at_builtin; refine wpl_app1 ekFOp rfl (.tmp 36) (.tmp 39) rfl rfl (uh C3).row (uh C3).fsh (vs:=[.int .i64 o.k,.int .i64 o.n,.string o.s,.bool o.root,.slice aa o.steps.length ac]) (y:=o) ⟨_,rfl,uh ROA⟩ (uh FSA) (uh AP) rfl (by exact lit_cells w2 [_,_,_,_,_] _) (uh ONE) (by simp; omega) (by omega) ?_)
    intro v6 w6 bl6 hA
    have C5:=hide ((uh C3).app hA)
    obtain⟨za,zc,rfl,-,-⟩:=hA.row.form
    clear hA
    go_wp2
    go_ret
    exact⟨_,bl6,rfl,uh C5⟩
   ·rw[if_neg h5]
    have e1:((x:Int) % 8 == 4)=false:=by simp; omega
    by_cases h6:x % 8=5
    ·rw[if_pos h6]
     have e2:((x:Int) % 8 == 5)=true:=by simp; omega
     clear h4 h5 h6
     go_enter Tryz.func75,Tryz.ntmps75
     go_wp2_with fail
     refine (uh HN).mono ?_
     rintro e w1 ⟨rfl,d1⟩
     have C2:=hide ((uh C1).draw d1)
     clear HN d1 C1
     have HI:=hide (uh IH q1 w1 _ _ _ (uh C2) (by have h1:=uh HL; have h2:=uh HP; omega))
     have g1:=uh GL q1
     have LE:Hid ((ops++(gCond d q1).1).length≤1000):=by show _≤_; have h1:=uh HL; rw[List.length_append]; omega
     clear g1
     generalize gCond d q1=R at *
     obtain⟨g,q2⟩:=R
     go_wp2_with fail
     refine (uh HI).mono ?_
     rintro e w2 ⟨v2,bl2,rfl,c2⟩
     have c2:CG B rb w0 w2 q2 v2 (ops++g) bl2:=c2
     have LE:Hid ((ops++g).length≤1000):=LE
     have HG:Hid (∀ t,ops++(g++t)=ops++g++t):=fun t=>(List.append_assoc ..).symm
     generalize (ops++g)=ops2 at *
     obtain⟨aa,ac,rfl,-,-⟩:=c2.row.form
     have l0:=c2.dx.size
     have C3:=hide (c2.below (al_b w2 (.cells #[.int .i64 12,.int .i64 0,.string ⟨#[]⟩,.bool false,.slice none 0 0] 37)))
     clear c2 HI C2 HRX IH GL HP HL
     go_wp2_with (at_builtin; refine wpl_app1 ekFOp rfl (.tmp 49) (.tmp 51) rfl rfl (uh C3).row (uh C3).fsh (vs:=[.int .i64 12,.int .i64 0,.string ⟨#[]⟩,.bool false,.slice none 0 0]) (y:=opK 12) (fopX_lit _ _ _ _) (Fsh.nil _) (by simp) rfl (by exact lit_cells w2 [_,_,_,_,_] _) (opX_one _) (by simp; omega) (by have:=uh LE; omega) ?_)
     intro v6 w6 bl6 hA
     have C5:=hide ((uh C3).app hA)
     obtain⟨za,zc,rfl,-,-⟩:=hA.row.form
     clear hA
     go_wp2
     go_ret
     exact⟨_,bl6,rfl,by show CG _ _ _ _ _ _ (ops++(g++[opK 12])) _; rw[uh HG]; exact uh C5⟩
    ·rw[if_neg h6]
     have e2:((x:Int) % 8 == 5)=false:=by simp; omega
     have e3:(x:Int) % 2=((x % 2:Nat) : Int):=by omega
     have hm:x % 2≤1:=by omega
     clear h4 h5 h6
     generalize x % 2=m at *
     have wm:IntKind.i64.wrap (10+(m:Int))=10+(m:Int):=by rw[IntKind.wrap_i64]; omega
     go_enter Tryz.func75,Tryz.ntmps75
     go_wp2_with fail
     refine (uh HN).mono ?_
     rintro e w1 ⟨rfl,d1⟩
     have C2:=hide ((uh C1).draw d1)
     clear HN d1 C1
     have HI:=hide (uh IH q1 w1 _ _ _ (uh C2) (by have h1:=uh HL; have h2:=uh HP; omega))
     have g1:=uh GL q1
     have LE:Hid ((ops++(gCond d q1).1).length+20*2 ^ d≤999):=by show _≤_; have h1:=uh HL; rw[List.length_append]; omega
     clear g1
     generalize gCond d q1=R at *
     obtain⟨g,q2⟩:=R
     go_wp2_with fail
     refine (uh HI).mono ?_
     rintro e w2 ⟨v2,bl2,rfl,c2⟩
     have c2:CG B rb w0 w2 q2 v2 (ops++g) bl2:=c2
     have LE:Hid ((ops++g).length+20*2 ^ d≤999):=LE
     have HG:Hid (∀ t,ops++(g++t)=ops++g++t):=fun t=>(List.append_assoc ..).symm
     generalize hG2:(ops++g)=ops2 at *
     clear hG2
     obtain⟨aa,ac,rfl,-,-⟩:=c2.row.form
     have HI2:=hide (uh IH q2 w2 _ _ _ c2 (by have h1:=uh LE; omega))
     have g2:=uh GL q2
     have LE2:Hid ((ops2++(gCond d q2).1).length≤1000):=by show _≤_; have h1:=uh LE; rw[List.length_append]; omega
     clear g2 c2 HI C2 HRX IH GL HP HL
     have GR:(⟨g,q2⟩ : List PFOp×Bs).2=q2:=rfl
     generalize gCond d q2=R at *
     obtain⟨g2,q3⟩:=R
     go_wp2_with fail
     refine (uh HI2).mono ?_
     rintro e w3 ⟨v3,bl3,rfl,c3⟩
     have c3:CG B rb w0 w3 q3 v3 (ops2++g2) bl3:=c3
     have LE2:Hid ((ops2++g2).length≤1000):=LE2
     have HG2:Hid (∀ t,ops++(g++g2++t)=ops2++g2++t):=fun t=>by rw[List.append_assoc g,uh HG,List.append_assoc ops2]
     generalize hG3:(ops2++g2)=ops3 at *
     clear hG3
     obtain⟨ya,yc,rfl,-,-⟩:=c3.row.form
     have l0:=c3.dx.size
     have C3:=hide (c3.below (al_b w3 (.cells #[.int .i64 (10+(m:Int)),.int .i64 0,.string ⟨#[]⟩,.bool false,.slice none 0 0] 37)))
     clear c3 HI2
     go_wp2_with (at_builtin; refine wpl_app1 ekFOp rfl (.tmp 58) (.tmp 63) rfl rfl (uh C3).row (uh C3).fsh (vs:=[.int .i64 (10+(m:Int)),.int .i64 0,.string ⟨#[]⟩,.bool false,.slice none 0 0]) (y:=opK (10+(m:Int))) (fopX_lit _ _ _ _) (Fsh.nil _) (by simp) rfl (by exact lit_cells w3 [_,_,_,_,_] _) (opX_one _) (by simp; omega) (by have:=uh LE2; omega) ?_)
     intro v6 w6 bl6 hA
     have C5:=hide ((uh C3).app hA)
     obtain⟨za,zc,rfl,-,-⟩:=hA.row.form
     clear hA
     go_wp2
     go_ret
     exact⟨_,bl6,rfl,by show CG _ _ _ _ _ _ (ops++(g++g2++[opK (10+(m:Int))])) _; rw[uh HG2]; exact uh C5⟩
end Go.Proofs.YtkjcgkfejdogbaaGreatDoor
