import Derived.Test.YtkjcgkfejdogbaaGreatDoorBz33
import Derived.Test.YtkjcgkfejdogbaaGreatDoorBz25
import Derived.Test.YtkjcgkfejdogbaaGreatDoorBz32
import Derived.Test.YtkjcgkfejdogbaaGreatDoorBz17
set_option maxRecDepth 100000
set_option maxHeartbeats 8000000
namespace Go.Proofs.YtkjcgkfejdogbaaGreatDoor
open Go.RowKit
def SX (B rb:Nat) (w:World) (R:PSel×Bs) (e:Ending) (w':World) : Prop:=
 DX B rb w R.2 w'∧∃ (v:Value) (bl:List Nat),e = .returned (.agg #[.int .i64 R.1.k,.string R.1.name,.bool R.1.hasA,.bool R.1.hasB,.bool R.1.hasC,.int .i64 R.1.a,.int .i64 R.1.b,.int .i64 R.1.c,v])∧ORow fopE w' v R.1.cond bl∧Fsh w.heap.size bl
structure LG (B rb:Nat) (w wr:World) (q:Bs) : Prop where
 dx:DX B rb w q wr
 r0:SB wr w.heap.size 0 ⟨#[]⟩ false false false 0 0 0 (.slice none 0 0)
 rl:rb < w.heap.size
section
variable {B rb:Nat} {w wr w1 w2:World} {q r:Bs}
theorem LG.start (h:RdAt w B rb q) : LG B rb w (w.alloc (.cells #[.int .i64 0,.string ⟨#[]⟩,.bool false,.bool false,.bool false,.int .i64 0,.int .i64 0,.int .i64 0,.slice none 0 0] 40)) q:=
 ⟨(DX.refl h).below (al_b w _),heap_alloc_new w _,h.lt⟩
theorem LG.draw (h:LG B rb w wr q) (d:DX B rb wr r w1) : LG B rb w w1 r:=by
 have h1:=h.rl
 exact⟨h.dx.step d,(d.gr.block _ h.r0.lt (fun e=>by injection e with e; omega)).trans h.r0,h.rl⟩
theorem LG.below (h:LG B rb w wr q) (hb:Below wr.heap.size wr w1) : LG B rb w w1 q:=⟨h.dx.below hb,h.r0.below hb,h.rl⟩
theorem LG.set (h:LG B rb w wr q) {g:Nat} (hg:w.heap.size < g) (i:Nat) (z:Value) : LG B rb w (wr.setCell ⟨g,i,none⟩ z) q:=
 ⟨h.dx.keep (grown_st wr g i z) (fun j e=>by injection e with e; omega) h.rl,h.r0.other (by show _≠g; omega) _,h.rl⟩
theorem LG.done (h:LG B rb w wr q) {o:PSel} {v:Value} {bl:List Nat} (hr:ORow fopE wr v o.cond bl) (hf:Fsh (w.heap.size+1) bl) :
  SX B rb w (o,q) (.returned (.agg #[.int .i64 o.k,.string o.name,.bool o.hasA,.bool o.hasB,.bool o.hasC,.int .i64 o.a,.int .i64 o.b,.int .i64 o.c,v])) (putN wr w.heap.size 0 [.int .i64 o.k,.string o.name,.bool o.hasA,.bool o.hasB,.bool o.hasC,.int .i64 o.a,.int .i64 o.b,.int .i64 o.c,v]):=by
 have hg:=grown_putN wr w.heap.size [.int .i64 o.k,.string o.name,.bool o.hasA,.bool o.hasB,.bool o.hasC,.int .i64 o.a,.int .i64 o.b,.int .i64 o.c,v]
 refine⟨h.dx.keep hg (fun j e=>by injection e with e; omega) h.rl,v,bl,rfl,hr.keep fun b hb=>putN_other (fun e=>?_) _ _,hf.mono (by omega)⟩
 have:=hf.2 b hb
 omega
end
structure TG (B rb:Nat) (w wr:World) (G:Nat) (q:Bs) (hA hB hC:Bool) (a b c:Int) : Prop where
 lg:LG B rb w wr q
 sb:SB wr G 4 ⟨#[]⟩ hA hB hC a b c (.slice none 0 0)
 lt:w.heap.size < G
section
variable {B rb:Nat} {w wr w1:World} {G:Nat} {q r:Bs} {hA hB hC:Bool} {a b c:Int}
theorem TG.draw (h:TG B rb w wr G q hA hB hC a b c) (d:DX B rb wr r w1) : TG B rb w w1 G r hA hB hC a b c:=by
 have h1:=h.lg.rl
 have h2:=h.lt
 exact⟨h.lg.draw d,(d.gr.block _ h.sb.lt (fun e=>by injection e with e; omega)).trans h.sb,h.lt⟩
theorem TG.setA (h:TG B rb w wr G q hA hB hC a b c) (n:Int) : TG B rb w (wr.setCell ⟨G,5,none⟩ (.int .i64 n)) G q hA hB hC n b c:=⟨h.lg.set h.lt _ _,Go.heap_setCell_same wr G 5 _ 40 _ h.sb,h.lt⟩
theorem TG.setB (h:TG B rb w wr G q hA hB hC a b c) (n:Int) : TG B rb w (wr.setCell ⟨G,6,none⟩ (.int .i64 n)) G q hA hB hC a n c:=⟨h.lg.set h.lt _ _,Go.heap_setCell_same wr G 6 _ 40 _ h.sb,h.lt⟩
theorem TG.setC (h:TG B rb w wr G q hA hB hC a b c) (n:Int) : TG B rb w (wr.setCell ⟨G,7,none⟩ (.int .i64 n)) G q hA hB hC a b n:=⟨h.lg.set h.lt _ _,Go.heap_setCell_same wr G 7 _ 40 _ h.sb,h.lt⟩
end
theorem LG.slc {B rb:Nat} {w w1:World} {q:Bs} (h:LG B rb w w1 q) (hA hB hC:Bool) : TG B rb w (w1.alloc (.cells #[.int .i64 4,.string ⟨#[]⟩,.bool hA,.bool hB,.bool hC,.int .i64 0,.int .i64 0,.int .i64 0,.slice none 0 0] 40)) w1.heap.size q hA hB hC 0 0 0:=
 ⟨h.below (al_b w1 _),heap_alloc_new w1 _,h.r0.lt⟩
theorem bit_eq (x k:Nat) : (((x:Int) / (k:Int)) % 2 == 1)=decide (x / k % 2=1):=by
 have e:((x:Int) / (k:Int)) % 2=((x / k % 2:Nat) : Int):=by simp
 rw[e]
 by_cases h:x / k % 2=1
 ·rw[h]; rfl
 ·rw[decide_eq_false h,beq_eq_false_iff_ne]; omega
theorem gSelX_walk (B rb:Nat) (q:List UInt8) (w:World) (h:RdAt w B rb q) :
  Calls Tryz.prog 51 #[.pointer (some ⟨rb,0,none⟩)] w (SX B rb w (gSel q)):=by
 have O1:=hide (LG.start h)
 have HN:=hide (nextX_walk B rb q _ (uh O1).dx.rd)
 have HIX:=hide fun q w h=>gIntX_walk B rb q w h
 have HTX:=hide fun k w h=>txX_walk k w h
 have HCX:=hide fun w0 q w v ops bl h hl=>gCondX_walk B rb w0 3 q w v ops bl h (Nat.le_refl _) hl
 have hx:=nx_le q
 clear h
 unfold gSel
 generalize (nx q).1=x at *
 generalize (nx q).2=q1 at *
 by_cases h0:x % 8 < 2
 ·rw[if_pos h0]
  have e0:((x:Int) % 8 < 2)=True:=eq_true (by omega)
  have e4:(x:Int) / 8=((x / 8:Nat) : Int):=by omega
  have hd:x / 8≤255:=by omega
  clear h0
  generalize x / 8=d at *
  have wd:IntKind.i64.wrap (d:Int)=(d:Int):=by rw[IntKind.wrap_i64]; omega
  have HT:=hide fun w=>uh HTX d w hd
  generalize txT d=t at *
  go_enter Tryz.func51,Tryz.ntmps51
  go_wp2_with fail
  refine (uh HN).mono ?_
  rintro e w1 ⟨rfl,d1⟩
  have O2:=hide ((uh O1).draw d1)
  clear HN d1 O1
  go_wp2_with fail
  refine (uh HT _).mono ?_
  rintro e w2 ⟨rfl,rfl⟩
  obtain⟨f0,f1,f2,f3,f4,f5,f6,f7,f8⟩:=(uh O2).r0.fz
  obtain⟨d0,d1,d2,d3,d4,d5,d6,d7,d8⟩:=(uh O2).r0.cs
  go_wp2
  try simp only[Exit.inBlock,Exit.then]
  refine bodyPost_ret (results_cell_row rfl _ _ w.heap.size 40 #[_,_,_,_,_,_,_,_,_] (0,0) _ rfl (putN_full (uh O2).r0 [_,_,_,_,_,_,_,_,_] rfl) Tryz.underlying40 rfl (by kernel_rfl)) rfl ?_
  exact (uh O2).done (o:=nameS t) (ORow.nil _ _) (Fsh.nil _)
 ·have e0:((x:Int) % 8 < 2)=False:=eq_false (by omega)
  rw[if_neg h0]
  by_cases h1:x % 8=2∨x % 8=3
  ·rw[if_pos h1]
   have H1:=hide h1
   clear h0 h1
   go_enter Tryz.func51,Tryz.ntmps51
   go_wp2_with fail
   refine (uh HN).mono ?_
   rintro e w1 ⟨rfl,d1⟩
   have O2:=hide ((uh O1).draw d1)
   clear HN d1 O1
   go_upto_region 4 with fail
   go_cut [21] from 14 to 21 (fun u wx=>u = .bool true∧w1=wx)
   case first=>
    by_cases h2:x % 8=2
    ·have e1:((x:Int) % 8 == 2)=true:=by simp; omega
     clear h2
     go_wp2
     go_meet
     case rel=>exact⟨rfl,rfl⟩
    ·have e1:((x:Int) % 8 == 2)=false:=by simp; omega
     have e2:((x:Int) % 8 == 3)=true:=by have:=uh H1; simp; omega
     clear h2
     go_wp2
     go_meet
     case rel=>exact⟨rfl,rfl⟩
   obtain⟨rfl,rfl⟩:=hcut
   obtain⟨f0,f1,f2,f3,f4,f5,f6,f7,f8⟩:=(uh O2).r0.fz
   obtain⟨d0,d1,d2,d3,d4,d5,d6,d7,d8⟩:=(uh O2).r0.cs
   go_wp2
   try simp only[Exit.inBlock,Exit.then]
   refine bodyPost_ret (results_cell_row rfl _ _ w.heap.size 40 #[_,_,_,_,_,_,_,_,_] (0,0) _ rfl (putN_full (uh O2).r0 [_,_,_,_,_,_,_,_,_] rfl) Tryz.underlying40 rfl (by kernel_rfl)) rfl ?_
   exact (uh O2).done (o:=allS) (ORow.nil _ _) (Fsh.nil _)
  ·rw[if_neg h1]
   have e1:((x:Int) % 8 == 2)=false:=by simp; omega
   have e2:((x:Int) % 8 == 3)=false:=by simp; omega
   by_cases h2:x % 8=4
   ·rw[if_pos h2]
    have e3:((x:Int) % 8 == 4)=true:=by simp; omega
    clear h0 h1 h2
    go_enter Tryz.func51,Tryz.ntmps51
    go_wp2_with fail
    refine (uh HN).mono ?_
    rintro e w1 ⟨rfl,d1⟩
    have O2:=hide ((uh O1).draw d1)
    clear HN d1 O1
    have HI:=hide (uh HIX q1 w1 (uh O2).dx.rd)
    go_wp2_with fail
    refine (uh HI).mono ?_
    rintro e w2 ⟨rfl,d2⟩
    have O3:=hide ((uh O2).draw d2)
    clear HI d2 O2
    obtain⟨f0,f1,f2,f3,f4,f5,f6,f7,f8⟩:=(uh O3).r0.fz
    obtain⟨d0,d1,d2,d3,d4,d5,d6,d7,d8⟩:=(uh O3).r0.cs
    go_wp2
    try simp only[Exit.inBlock,Exit.then]
    refine bodyPost_ret (results_cell_row rfl _ _ w.heap.size 40 #[_,_,_,_,_,_,_,_,_] (0,0) _ rfl (putN_full (uh O3).r0 [_,_,_,_,_,_,_,_,_] rfl) Tryz.underlying40 rfl (by kernel_rfl)) rfl ?_
    exact (uh O3).done (o:=idxS _) (ORow.nil _ _) (Fsh.nil _)
   ·rw[if_neg h2]
    have e3:((x:Int) % 8 == 4)=false:=by simp; omega
    by_cases h3:x % 8=5
    ·rw[if_pos h3]
     have e4:((x:Int) % 8 == 5)=true:=by simp; omega
     have eA:((x:Int) / 8 % 2 == 1)=decide (x / 8 % 2=1):=bit_eq x 8
     have eB:((x:Int) / 16 % 2 == 1)=decide (x / 16 % 2=1):=bit_eq x 16
     have eC:((x:Int) / 32 % 2 == 1)=decide (x / 32 % 2=1):=bit_eq x 32
     dsimp only
     generalize decide (x / 8 % 2=1)=hA at *
     generalize decide (x / 16 % 2=1)=hB at *
     generalize decide (x / 32 % 2=1)=hC at *
     clear h0 h1 h2 h3
     go_enter Tryz.func51,Tryz.ntmps51
     go_wp2_with fail
     refine (uh HN).mono ?_
     rintro e w1 ⟨rfl,d1⟩
     have T1:=hide (((uh O1).draw d1).slc hA hB hC)
     clear HN d1 O1
     go_upto_region 10 with fail
     generalize (w1.alloc (.cells #[.int .i64 4,.string ⟨#[]⟩,.bool hA,.bool hB,.bool hC,.int .i64 0,.int .i64 0,.int .i64 0,.slice none 0 0] 40))=wa at *
     cases hA with
     | true=>
      cases hB with
      | true=>
       cases hC with
       | true=>
        obtain⟨x0,x1,x2,x3,x4,x5,x6,x7,x8⟩:=(uh T1).sb.cs
        have HA:=hide (uh HIX q1 _ (uh T1).lg.dx.rd)
        go_wp2_with fail
        refine (uh HA).mono ?_
        rintro e w2 ⟨rfl,dA⟩
        have DA:=hide ((uh T1).draw dA)
        have T2:=hide ((uh DA).setA (gInt q1).1)
        obtain⟨pA0,pA1,pA2,pA3,pA4,pA5,pA6,pA7,pA8⟩:=(uh DA).sb.cs
        obtain⟨zA0,zA1,zA2,zA3,zA4,zA5,zA6,zA7,zA8⟩:=(uh DA).sb.fz
        clear HA dA T1
        have HB:=hide (uh HIX ((gInt q1).2) _ (uh T2).lg.dx.rd)
        go_wp2_with fail
        refine (uh HB).mono ?_
        rintro e w3 ⟨rfl,dB⟩
        have DB:=hide ((uh T2).draw dB)
        have T3:=hide ((uh DB).setB (gInt ((gInt q1).2)).1)
        obtain⟨pB0,pB1,pB2,pB3,pB4,pB5,pB6,pB7,pB8⟩:=(uh DB).sb.cs
        obtain⟨zB0,zB1,zB2,zB3,zB4,zB5,zB6,zB7,zB8⟩:=(uh DB).sb.fz
        clear HB dB T2
        have HC:=hide (uh HIX ((gInt ((gInt q1).2)).2) _ (uh T3).lg.dx.rd)
        go_wp2_with fail
        refine (uh HC).mono ?_
        rintro e w4 ⟨rfl,dC⟩
        have DC:=hide ((uh T3).draw dC)
        have T4:=hide ((uh DC).setC (gInt ((gInt ((gInt q1).2)).2)).1)
        obtain⟨pC0,pC1,pC2,pC3,pC4,pC5,pC6,pC7,pC8⟩:=(uh DC).sb.cs
        obtain⟨zC0,zC1,zC2,zC3,zC4,zC5,zC6,zC7,zC8⟩:=(uh DC).sb.fz
        clear HC dC T3
        obtain⟨f0,f1,f2,f3,f4,f5,f6,f7,f8⟩:=(uh T4).lg.r0.fz
        obtain⟨d0,d1,d2,d3,d4,d5,d6,d7,d8⟩:=(uh T4).lg.r0.cs
        obtain⟨y0,y1,y2,y3,y4,y5,y6,y7,y8⟩:=(uh T4).sb.cs
        go_wp2
        try simp only[Exit.inBlock,Exit.then]
        refine bodyPost_ret (results_cell_row rfl _ _ w.heap.size 40 #[_,_,_,_,_,_,_,_,_] (0,0) _ rfl (putN_full (uh T4).lg.r0 [_,_,_,_,_,_,_,_,_] rfl) Tryz.underlying40 rfl (by kernel_rfl)) rfl ?_
        exact (uh T4).lg.done (o:=slcS (_,_) (_,_) (_,_)) (ORow.nil _ _) (Fsh.nil _)
       | false=>
        obtain⟨x0,x1,x2,x3,x4,x5,x6,x7,x8⟩:=(uh T1).sb.cs
        have HA:=hide (uh HIX q1 _ (uh T1).lg.dx.rd)
        go_wp2_with fail
        refine (uh HA).mono ?_
        rintro e w2 ⟨rfl,dA⟩
        have DA:=hide ((uh T1).draw dA)
        have T2:=hide ((uh DA).setA (gInt q1).1)
        obtain⟨pA0,pA1,pA2,pA3,pA4,pA5,pA6,pA7,pA8⟩:=(uh DA).sb.cs
        obtain⟨zA0,zA1,zA2,zA3,zA4,zA5,zA6,zA7,zA8⟩:=(uh DA).sb.fz
        clear HA dA T1
        have HB:=hide (uh HIX ((gInt q1).2) _ (uh T2).lg.dx.rd)
        go_wp2_with fail
        refine (uh HB).mono ?_
        rintro e w3 ⟨rfl,dB⟩
        have DB:=hide ((uh T2).draw dB)
        have T3:=hide ((uh DB).setB (gInt ((gInt q1).2)).1)
        obtain⟨pB0,pB1,pB2,pB3,pB4,pB5,pB6,pB7,pB8⟩:=(uh DB).sb.cs
        obtain⟨zB0,zB1,zB2,zB3,zB4,zB5,zB6,zB7,zB8⟩:=(uh DB).sb.fz
        clear HB dB T2
        obtain⟨f0,f1,f2,f3,f4,f5,f6,f7,f8⟩:=(uh T3).lg.r0.fz
        obtain⟨d0,d1,d2,d3,d4,d5,d6,d7,d8⟩:=(uh T3).lg.r0.cs
        obtain⟨y0,y1,y2,y3,y4,y5,y6,y7,y8⟩:=(uh T3).sb.cs
        go_wp2
        try simp only[Exit.inBlock,Exit.then]
        refine bodyPost_ret (results_cell_row rfl _ _ w.heap.size 40 #[_,_,_,_,_,_,_,_,_] (0,0) _ rfl (putN_full (uh T3).lg.r0 [_,_,_,_,_,_,_,_,_] rfl) Tryz.underlying40 rfl (by kernel_rfl)) rfl ?_
        exact (uh T3).lg.done (o:=slcS (_,_) (_,_) (_,_)) (ORow.nil _ _) (Fsh.nil _)
      | false=>
       cases hC with
       | true=>
        obtain⟨x0,x1,x2,x3,x4,x5,x6,x7,x8⟩:=(uh T1).sb.cs
        have HA:=hide (uh HIX q1 _ (uh T1).lg.dx.rd)
        go_wp2_with fail
        refine (uh HA).mono ?_
        rintro e w2 ⟨rfl,dA⟩
        have DA:=hide ((uh T1).draw dA)
        have T2:=hide ((uh DA).setA (gInt q1).1)
        obtain⟨pA0,pA1,pA2,pA3,pA4,pA5,pA6,pA7,pA8⟩:=(uh DA).sb.cs
        obtain⟨zA0,zA1,zA2,zA3,zA4,zA5,zA6,zA7,zA8⟩:=(uh DA).sb.fz
        clear HA dA T1
        have HC:=hide (uh HIX ((gInt q1).2) _ (uh T2).lg.dx.rd)
        go_wp2_with fail
        refine (uh HC).mono ?_
        rintro e w3 ⟨rfl,dC⟩
        have DC:=hide ((uh T2).draw dC)
        have T3:=hide ((uh DC).setC (gInt ((gInt q1).2)).1)
        obtain⟨pC0,pC1,pC2,pC3,pC4,pC5,pC6,pC7,pC8⟩:=(uh DC).sb.cs
        obtain⟨zC0,zC1,zC2,zC3,zC4,zC5,zC6,zC7,zC8⟩:=(uh DC).sb.fz
        clear HC dC T2
        obtain⟨f0,f1,f2,f3,f4,f5,f6,f7,f8⟩:=(uh T3).lg.r0.fz
        obtain⟨d0,d1,d2,d3,d4,d5,d6,d7,d8⟩:=(uh T3).lg.r0.cs
        obtain⟨y0,y1,y2,y3,y4,y5,y6,y7,y8⟩:=(uh T3).sb.cs
        go_wp2
        try simp only[Exit.inBlock,Exit.then]
        refine bodyPost_ret (results_cell_row rfl _ _ w.heap.size 40 #[_,_,_,_,_,_,_,_,_] (0,0) _ rfl (putN_full (uh T3).lg.r0 [_,_,_,_,_,_,_,_,_] rfl) Tryz.underlying40 rfl (by kernel_rfl)) rfl ?_
        exact (uh T3).lg.done (o:=slcS (_,_) (_,_) (_,_)) (ORow.nil _ _) (Fsh.nil _)
       | false=>
        obtain⟨x0,x1,x2,x3,x4,x5,x6,x7,x8⟩:=(uh T1).sb.cs
        have HA:=hide (uh HIX q1 _ (uh T1).lg.dx.rd)
        go_wp2_with fail
        refine (uh HA).mono ?_
        rintro e w2 ⟨rfl,dA⟩
        have DA:=hide ((uh T1).draw dA)
        have T2:=hide ((uh DA).setA (gInt q1).1)
        obtain⟨pA0,pA1,pA2,pA3,pA4,pA5,pA6,pA7,pA8⟩:=(uh DA).sb.cs
        obtain⟨zA0,zA1,zA2,zA3,zA4,zA5,zA6,zA7,zA8⟩:=(uh DA).sb.fz
        clear HA dA T1
        obtain⟨f0,f1,f2,f3,f4,f5,f6,f7,f8⟩:=(uh T2).lg.r0.fz
        obtain⟨d0,d1,d2,d3,d4,d5,d6,d7,d8⟩:=(uh T2).lg.r0.cs
        obtain⟨y0,y1,y2,y3,y4,y5,y6,y7,y8⟩:=(uh T2).sb.cs
        go_wp2
        try simp only[Exit.inBlock,Exit.then]
        refine bodyPost_ret (results_cell_row rfl _ _ w.heap.size 40 #[_,_,_,_,_,_,_,_,_] (0,0) _ rfl (putN_full (uh T2).lg.r0 [_,_,_,_,_,_,_,_,_] rfl) Tryz.underlying40 rfl (by kernel_rfl)) rfl ?_
        exact (uh T2).lg.done (o:=slcS (_,_) (_,_) (_,_)) (ORow.nil _ _) (Fsh.nil _)
     | false=>
      cases hB with
      | true=>
       cases hC with
       | true=>
        obtain⟨x0,x1,x2,x3,x4,x5,x6,x7,x8⟩:=(uh T1).sb.cs
        have HB:=hide (uh HIX q1 _ (uh T1).lg.dx.rd)
        go_wp2_with fail
        refine (uh HB).mono ?_
        rintro e w2 ⟨rfl,dB⟩
        have DB:=hide ((uh T1).draw dB)
        have T2:=hide ((uh DB).setB (gInt q1).1)
        obtain⟨pB0,pB1,pB2,pB3,pB4,pB5,pB6,pB7,pB8⟩:=(uh DB).sb.cs
        obtain⟨zB0,zB1,zB2,zB3,zB4,zB5,zB6,zB7,zB8⟩:=(uh DB).sb.fz
        clear HB dB T1
        have HC:=hide (uh HIX ((gInt q1).2) _ (uh T2).lg.dx.rd)
        go_wp2_with fail
        refine (uh HC).mono ?_
        rintro e w3 ⟨rfl,dC⟩
        have DC:=hide ((uh T2).draw dC)
        have T3:=hide ((uh DC).setC (gInt ((gInt q1).2)).1)
        obtain⟨pC0,pC1,pC2,pC3,pC4,pC5,pC6,pC7,pC8⟩:=(uh DC).sb.cs
        obtain⟨zC0,zC1,zC2,zC3,zC4,zC5,zC6,zC7,zC8⟩:=(uh DC).sb.fz
        clear HC dC T2
        obtain⟨f0,f1,f2,f3,f4,f5,f6,f7,f8⟩:=(uh T3).lg.r0.fz
        obtain⟨d0,d1,d2,d3,d4,d5,d6,d7,d8⟩:=(uh T3).lg.r0.cs
        obtain⟨y0,y1,y2,y3,y4,y5,y6,y7,y8⟩:=(uh T3).sb.cs
        go_wp2
        try simp only[Exit.inBlock,Exit.then]
        refine bodyPost_ret (results_cell_row rfl _ _ w.heap.size 40 #[_,_,_,_,_,_,_,_,_] (0,0) _ rfl (putN_full (uh T3).lg.r0 [_,_,_,_,_,_,_,_,_] rfl) Tryz.underlying40 rfl (by kernel_rfl)) rfl ?_
        exact (uh T3).lg.done (o:=slcS (_,_) (_,_) (_,_)) (ORow.nil _ _) (Fsh.nil _)
       | false=>
        obtain⟨x0,x1,x2,x3,x4,x5,x6,x7,x8⟩:=(uh T1).sb.cs
        have HB:=hide (uh HIX q1 _ (uh T1).lg.dx.rd)
        go_wp2_with fail
        refine (uh HB).mono ?_
        rintro e w2 ⟨rfl,dB⟩
        have DB:=hide ((uh T1).draw dB)
        have T2:=hide ((uh DB).setB (gInt q1).1)
        obtain⟨pB0,pB1,pB2,pB3,pB4,pB5,pB6,pB7,pB8⟩:=(uh DB).sb.cs
        obtain⟨zB0,zB1,zB2,zB3,zB4,zB5,zB6,zB7,zB8⟩:=(uh DB).sb.fz
        clear HB dB T1
        obtain⟨f0,f1,f2,f3,f4,f5,f6,f7,f8⟩:=(uh T2).lg.r0.fz
        obtain⟨d0,d1,d2,d3,d4,d5,d6,d7,d8⟩:=(uh T2).lg.r0.cs
        obtain⟨y0,y1,y2,y3,y4,y5,y6,y7,y8⟩:=(uh T2).sb.cs
        go_wp2
        try simp only[Exit.inBlock,Exit.then]
        refine bodyPost_ret (results_cell_row rfl _ _ w.heap.size 40 #[_,_,_,_,_,_,_,_,_] (0,0) _ rfl (putN_full (uh T2).lg.r0 [_,_,_,_,_,_,_,_,_] rfl) Tryz.underlying40 rfl (by kernel_rfl)) rfl ?_
        exact (uh T2).lg.done (o:=slcS (_,_) (_,_) (_,_)) (ORow.nil _ _) (Fsh.nil _)
      | false=>
       cases hC with
       | true=>
        obtain⟨x0,x1,x2,x3,x4,x5,x6,x7,x8⟩:=(uh T1).sb.cs
        have HC:=hide (uh HIX q1 _ (uh T1).lg.dx.rd)
        go_wp2_with fail
        refine (uh HC).mono ?_
        rintro e w2 ⟨rfl,dC⟩
        have DC:=hide ((uh T1).draw dC)
        have T2:=hide ((uh DC).setC (gInt q1).1)
        obtain⟨pC0,pC1,pC2,pC3,pC4,pC5,pC6,pC7,pC8⟩:=(uh DC).sb.cs
        obtain⟨zC0,zC1,zC2,zC3,zC4,zC5,zC6,zC7,zC8⟩:=(uh DC).sb.fz
        clear HC dC T1
        obtain⟨f0,f1,f2,f3,f4,f5,f6,f7,f8⟩:=(uh T2).lg.r0.fz
        obtain⟨d0,d1,d2,d3,d4,d5,d6,d7,d8⟩:=(uh T2).lg.r0.cs
        obtain⟨y0,y1,y2,y3,y4,y5,y6,y7,y8⟩:=(uh T2).sb.cs
        go_wp2
        try simp only[Exit.inBlock,Exit.then]
        refine bodyPost_ret (results_cell_row rfl _ _ w.heap.size 40 #[_,_,_,_,_,_,_,_,_] (0,0) _ rfl (putN_full (uh T2).lg.r0 [_,_,_,_,_,_,_,_,_] rfl) Tryz.underlying40 rfl (by kernel_rfl)) rfl ?_
        exact (uh T2).lg.done (o:=slcS (_,_) (_,_) (_,_)) (ORow.nil _ _) (Fsh.nil _)
       | false=>
        obtain⟨x0,x1,x2,x3,x4,x5,x6,x7,x8⟩:=(uh T1).sb.cs
        obtain⟨f0,f1,f2,f3,f4,f5,f6,f7,f8⟩:=(uh T1).lg.r0.fz
        obtain⟨d0,d1,d2,d3,d4,d5,d6,d7,d8⟩:=(uh T1).lg.r0.cs
        obtain⟨y0,y1,y2,y3,y4,y5,y6,y7,y8⟩:=(uh T1).sb.cs
        go_wp2
        try simp only[Exit.inBlock,Exit.then]
        refine bodyPost_ret (results_cell_row rfl _ _ w.heap.size 40 #[_,_,_,_,_,_,_,_,_] (0,0) _ rfl (putN_full (uh T1).lg.r0 [_,_,_,_,_,_,_,_,_] rfl) Tryz.underlying40 rfl (by kernel_rfl)) rfl ?_
        exact (uh T1).lg.done (o:=slcS (_,_) (_,_) (_,_)) (ORow.nil _ _) (Fsh.nil _)
    ·rw[if_neg h3]
     have e4:((x:Int) % 8 == 5)=false:=by simp; omega
     clear h0 h1 h2 h3
     go_enter Tryz.func51,Tryz.ntmps51
     go_wp2_with fail
     refine (uh HN).mono ?_
     rintro e w1 ⟨rfl,d1⟩
     have O2:=hide ((uh O1).draw d1)
     clear HN d1 O1
     have z1:=(uh O2).r0.lt
     have ER:ORow fopE (w1.alloc (.cells #[] 37)) (.slice (some ⟨w1.heap.size,0,none⟩) 0 0) [] [w1.heap.size]:=
      ⟨[],rfl,fun _ _ _ h=>by simp at h,own_mono (empty_row w1 37 5) (Nat.zero_le _),by simp[Value.ownBlock]⟩
     have HC:Hid (Calls Tryz.prog 75 #[.pointer (some ⟨rb,0,none⟩),.int .i64 3,.slice (some ⟨w1.heap.size,0,none⟩) 0 0] (w1.alloc (.cells #[] 37)) (CX B rb w1 [] (gCond 3 q1))):=
      uh HCX w1 q1 _ _ [] [w1.heap.size] ⟨(DX.refl (uh O2).dx.rd).below (al_b w1 _),ER,⟨by simp,by simp⟩,(uh O2).dx.rd.lt⟩ (by decide)
     clear ER HCX
     go_wp2_with fail
     refine (uh HC).mono ?_
     rintro e w2 ⟨v2,bl2,rfl,c2⟩
     generalize gCond 3 q1=R at *
     obtain⟨g,q2⟩:=R
     have c2:CG B rb w1 w2 q2 v2 g bl2:=c2
     obtain⟨aa,ac,rfl,-,-⟩:=c2.row.form
     have O3:=hide ((uh O2).draw c2.dx)
     have RO:=hide c2.row
     have FS:Hid (Fsh (w.heap.size+1) bl2):=c2.fsh.mono (by omega)
     clear HC c2 O2
     obtain⟨f0,f1,f2,f3,f4,f5,f6,f7,f8⟩:=(uh O3).r0.fz
     obtain⟨d0,d1,d2,d3,d4,d5,d6,d7,d8⟩:=(uh O3).r0.cs
     go_wp2
     try simp only[Exit.inBlock,Exit.then]
     refine bodyPost_ret (results_cell_row rfl _ _ w.heap.size 40 #[_,_,_,_,_,_,_,_,_] (0,0) _ rfl (putN_full (uh O3).r0 [_,_,_,_,_,_,_,_,_] rfl) Tryz.underlying40 rfl (by kernel_rfl)) rfl ?_
     exact (uh O3).done (o:=filS g) (uh RO) (uh FS)
structure YG {α:Type} (e:Elem α) (B rb:Nat) (w0 w:World) (q:Bs) (v:Value) (xs:List α) (bl:List Nat) : Prop where
 dx:DX B rb w0 q w
 row:ORow e w v xs bl
 fsh:Fsh w0.heap.size bl
 rl:rb < w0.heap.size
section
variable {α:Type} {e:Elem α} {B rb:Nat} {w0 w w1 w2:World} {q r:Bs} {v v':Value} {xs zs:List α} {bl ib bl':List Nat}
theorem YG.draw (h:YG e B rb w0 w q v xs bl) (d:DX B rb w r w1) : YG e B rb w0 w1 r v xs bl:=by
 have h1:=h.rl
 exact⟨h.dx.step d,h.row.keep fun b hb=>d.gr.block b (h.row.lt b hb) (fun e=>by injection e with e; have:=h.fsh.2 b hb; omega),h.fsh,h.rl⟩
theorem YG.below (h:YG e B rb w0 w q v xs bl) (hb:Below w.heap.size w w1) : YG e B rb w0 w1 q v xs bl:=⟨h.dx.below hb,h.row.below hb,h.fsh,h.rl⟩
theorem YG.app (h:YG e B rb w0 w q v xs bl) (hA:Appd e w0.heap.size w w2 v v' bl ib bl' zs) : YG e B rb w0 w2 q v' zs bl':=
 ⟨h.dx.keep hA.grown (fun j e=>h.fsh.2 j (h.row.head e)) h.rl,hA.row,hA.fsh,h.rl⟩
end
def GW (w:World) (g:Nat) (d:Bool) (v:Value) : Prop:=w.heap[g]?=some (.cells #[.bool d,v] 43 (0,0))
section
variable {w w':World} {g:Nat} {d:Bool} {v:Value}
theorem GW.cs (h:GW w g d v) : w.cell? ⟨g,0,none⟩=some (.bool d)∧w.cell? ⟨g,1,none⟩=some v:=⟨Lib.cell_of_heap h 0,Lib.cell_of_heap h 1⟩
theorem GW.fz (h:GW w g d v) : w.frozen? ⟨g,0,none⟩=false∧w.frozen? ⟨g,1,none⟩=false:=⟨Lib.frozen_of_heap h 0,Lib.frozen_of_heap h 1⟩
theorem GW.lt (h:GW w g d v) : g < w.heap.size:=(Array.getElem?_eq_some_iff.1 h).1
theorem GW.below (h:GW w g d v) (hl:Below w.heap.size w w') : GW w' g d v:=(hl.block g h.lt).trans h
theorem GW.set1 (h:GW w g d v) (u:Value) : GW (w.setCell ⟨g,1,none⟩ u) g d u:=Go.heap_setCell_same w g 1 _ 43 _ h
end
structure IG (B rb:Nat) (w wr:World) (g:Nat) (q:Bs) (d:Bool) (xs:List PSel) (v:Value) (bl:List Nat) : Prop where
 xg:YG selE B rb w wr q v xs bl
 sg:GW wr g d v
 ge:w.heap.size≤g
 ng:g ∉ bl
section
variable {B rb:Nat} {w wr w1 w2:World} {g:Nat} {q r:Bs} {d:Bool} {xs zs:List PSel} {v v':Value} {bl ib bl':List Nat}
theorem IG.start (h:RdAt w B rb q) (d:Bool) : IG B rb w (w.alloc (.cells #[.bool d,.slice none 0 0] 43)) w.heap.size q d [] (.slice none 0 0) []:=
 ⟨⟨(DX.refl h).below (al_b w _),ORow.nil _ _,Fsh.nil _,h.lt⟩,heap_alloc_new w _,Nat.le_refl _,by simp⟩
theorem IG.draw (h:IG B rb w wr g q d xs v bl) (k:DX B rb wr r w1) : IG B rb w w1 g r d xs v bl:=by
 have h1:=h.xg.rl
 have h2:=h.ge
 exact⟨h.xg.draw k,(k.gr.block _ h.sg.lt (fun e=>by injection e with e; omega)).trans h.sg,h.ge,h.ng⟩
theorem IG.below (h:IG B rb w wr g q d xs v bl) (hb:Below wr.heap.size wr w1) : IG B rb w w1 g q d xs v bl:=⟨h.xg.below hb,h.sg.below hb,h.ge,h.ng⟩
theorem IG.app (h:IG B rb w w1 g q d xs v bl) (hA:Appd selE w.heap.size w1 w2 v v' bl ib bl' zs) (hi:g ∉ ib) : IG B rb w (w2.setCell ⟨g,1,none⟩ v') g q d zs v' bl':=by
 have h1:=h.ge
 have h2:=h.sg.lt
 have n':g ∉ bl':=fun hb=>by
  rcases hA.sub _ hb with hb | hb | hb
  ·exact h.ng hb
  ·exact hi hb
  ·omega
 have x:=h.xg.app hA
 have s2:GW w2 g d v:=(hA.block h.xg.row h2 h.ng).trans h.sg
 exact⟨⟨x.dx.keep (grown_st w2 g 1 v') (fun j e=>by injection e with e; omega) x.rl,x.row.set n' _,x.fsh,x.rl⟩,s2.set1 _,h1,n'⟩
theorem IG.elem (h:IG B rb w wr g q d xs v bl) : segE.E wr [.bool d,v] ⟨d,xs⟩ bl:=⟨v,rfl,h.xg.row⟩
end
def GX (B rb:Nat) (w:World) (R:List PSeg×Bs) (e:Ending) (w':World) : Prop:=∃ (v:Value) (bl:List Nat),e = .returned v∧YG segE B rb w w' R.2 v R.1 bl
theorem gSegsX_walk (B rb:Nat) (q:List UInt8) (w:World) (h:RdAt w B rb q) :
  Calls Tryz.prog 27 #[.pointer (some ⟨rb,0,none⟩)] w (GX B rb w (gSegs q)):=by
 have HN:=hide (nextX_walk B rb q _ h)
 have HNX:=hide fun q w h=>nextX_walk B rb q w h
 have HSX:=hide fun q w h=>gSelX_walk B rb q w h
 have hx:=nx_le q
 have hrl:=h.lt
 clear h
 unfold gSegs
 generalize (nx q).1=x at *
 generalize (nx q).2=q1 at *
 have e1:(x:Int) % 4=((x % 4:Nat) : Int):=by omega
 have hn:x % 4≤3:=by omega
 generalize x % 4=m at *
 have wm:IntKind.i64.wrap (1+(m:Int))=((1+m:Nat) : Int):=by rw[IntKind.wrap_i64]; omega
 have wm2:1+(m:Int)=((1+m:Nat) : Int):=by omega
 have hn2:1+m≤4:=by omega
 generalize 1+m=n at *
 go_enter Tryz.func27,Tryz.ntmps27
 go_wp2_with fail
 refine (uh HN).mono ?_
 rintro e w1 ⟨rfl,d1⟩
 have z1:=d1.size
 have Y1:Hid (YG segE B rb w (w1.alloc (.cells #[] 43)) q1 (.slice (some ⟨w1.heap.size,0,none⟩) 0 0) [] [w1.heap.size]):=
  ⟨d1.below (al_b w1 _),⟨[],rfl,fun _ _ _ h=>by simp at h,own_mono (empty_row w1 43 2) (Nat.zero_le _),by simp[Value.ownBlock]⟩,⟨by simp,by simp; exact z1⟩,hrl⟩
 clear HN d1
 go_wp2_with fail
 simp only[e1]
 go_loopw [4,5] (fun ov iv wr=>∃ (i:Nat) (bl:List Nat),iv = .int .i64 (i:Int)∧i≤n∧Hid (YG segE B rb w wr (gMany gSeg i q1).2 ov (gMany gSeg i q1).1 bl)) (fun _ iv _=>n - (intOf iv).toNat)
 case atStart=>exact⟨0,_,rfl,by omega,Y1⟩
 case round=>
  obtain⟨i,bl,rfl,hi,hr⟩:=hrel
  by_cases hc:i < n
  ·have hcI:(i:Int) < (n:Int):=by omega
   have HG:=hide (gMany_snoc gSeg i q1)
   have hal:=hide (gMany_len gSeg i q1)
   generalize (gMany gSeg i q1).2=qi at *
   generalize (gMany gSeg i q1).1=acc at *
   have HD:=hide (uh HNX qi wr (uh hr).dx.rd)
   have hk:=nx_le qi
   obtain⟨oa,oc,rfl,-,-⟩:=(uh hr).row.form
   go_wp2_with fail
   refine (uh HD).mono ?_
   rintro e w2 ⟨rfl,d2⟩
   have Y2:=hide ((uh hr).draw d2)
   clear HD d2 hr Y1
   have e5:(((nx qi).1:Int) % 5 == 4)=decide ((nx qi).1 % 5=4):=by
    by_cases h:(nx qi).1 % 5=4
    ·rw[decide_eq_true h]; simp; omega
    ·rw[decide_eq_false h]; simp; omega
   have I1:=hide (IG.start (uh Y2).dx.rd (decide ((nx qi).1 % 5=4)))
   have HSG:Hid (gSeg qi=(⟨decide ((nx qi).1 % 5=4),(gMany gSel (1+((nx qi).1 / 5 % 8 - 5)) (nx qi).2).1⟩,(gMany gSel (1+((nx qi).1 / 5 % 8 - 5)) (nx qi).2).2)):=rfl
   have e8:((nx qi).1:Int) / 5 % 8=(((nx qi).1 / 5 % 8:Nat) : Int):=by omega
   have hp:(nx qi).1 / 5 % 8≤7:=by omega
   generalize (nx qi).1 / 5 % 8=p at *
   go_upto_region 8 with fail
   generalize hdp:decide ((nx qi).1 % 5=4)=deep at *
   clear hdp e5
   generalize (nx qi).1=xi at *
   generalize (nx qi).2=q2 at *
   go_cut [] from 25 to 31 (fun wx=>∃ (va:Option Addr) (vc:Nat) (bl5:List Nat),Hid (IG B rb w2 wx w2.heap.size (gSel q2).2 deep [(gSel q2).1] (.slice va 1 vc) bl5))
   case first=>
    have I1d:=hide ((uh I1).below ((Below.refl _ _).drew))
    obtain⟨cg0,cg1⟩:=(uh I1d).sg.cs
    have HS1:=hide (uh HSX _ _ (uh I1d).xg.dx.rd)
    have ZZ:Hid (w2.heap.size≤(w2.alloc (.cells #[.bool deep,.slice none 0 0] 43)).drew.heap.size):=by show _≤(w2.alloc _).heap.size; simp
    have ZL:Hid (w2.heap.size < (w2.alloc (.cells #[.bool deep,.slice none 0 0] 43)).drew.heap.size):=by show _ < (w2.alloc _).heap.size; simp
    have LEN:Hid (([] : List PSel).length+1≤40000000):=by show _≤_; decide
    generalize hsl:gSel q2=R at *
    clear hsl
    obtain⟨sl,q3⟩:=R
    clear HSG HG HNX HSX
    go_region_law (first
     | (
       refine stp_app1 ekSel rfl (.tmp 26) (.tmp 29) rfl rfl (uh I3).xg.row (uh I3).xg.fsh (vs:=[.int .i64 sl.k,.string sl.name,.bool sl.hasA,.bool sl.hasB,.bool sl.hasC,.int .i64 sl.a,.int .i64 sl.b,.int .i64 sl.c,.slice sa sl.cond.length sc]) (y:=sl) (uh EL) (uh FI) (uh AP) rfl (by exact lit_cells w3 [_,_,_,_,_,_,_,_,_] _) (uh ONE) (uh I3).xg.dx.size (uh LEN) ?_
       intro v5 w5 bl5 hA
       have I4:=hide ((uh I3).app hA (uh NG))
       have G5:GW w5 w2.heap.size deep (.slice none 0 0):=(hA.block (uh I3).xg.row (uh I3).sg.lt (uh I3).ng).trans (uh I3).sg
       obtain⟨gf0,gf1⟩:=G5.fz
       obtain⟨gc0,gc1⟩:=G5.cs
       obtain⟨va,vc,rfl,-,-⟩:=hA.row.form
       clear hA G5)
     | (
       go_simp; refine (uh HS1).mono ?_
       rintro e w3 ⟨d3,vS,bS,rfl,rowS,fshS⟩
       obtain⟨sa,sc,rfl,-,-⟩:=rowS.form
       have hal3:=al_b w3 (.cells #[.int .i64 sl.k,.string sl.name,.bool sl.hasA,.bool sl.hasB,.bool sl.hasC,.int .i64 sl.a,.int .i64 sl.b,.int .i64 sl.c,.slice sa sl.cond.length sc] 40)
       have I3:=hide (((uh I1d).draw d3).below hal3)
       obtain⟨cg30,cg31⟩:=((uh I1d).draw d3).sg.cs
       obtain⟨cg40,cg41⟩:=(uh I3).sg.cs
       have EL:=hide (show selE.E (w3.alloc (.cells #[.int .i64 sl.k,.string sl.name,.bool sl.hasA,.bool sl.hasB,.bool sl.hasC,.int .i64 sl.a,.int .i64 sl.b,.int .i64 sl.c,.slice sa sl.cond.length sc] 40)) [.int .i64 sl.k,.string sl.name,.bool sl.hasA,.bool sl.hasB,.bool sl.hasC,.int .i64 sl.a,.int .i64 sl.b,.int .i64 sl.c,.slice sa sl.cond.length sc] sl bS from ⟨_,rfl,rowS.below hal3⟩)
       have FI:Hid (Fsh w2.heap.size bS):=fshS.mono (uh ZZ)
       have NG:Hid (w2.heap.size ∉ bS):=fun hb=>by have h1:=fshS.2 _ hb; have h2:=uh ZL; omega
       have AP:Hid (∀ b∈bS,b ∉ ([] : List Nat)):=fun b hb h'=>by have h1:=fshS.2 _ hb; have h2:=(uh I1d).xg.row.lt b h'; omega
       have ONE:Hid (∀ u∈([.int .i64 sl.k,.string sl.name,.bool sl.hasA,.bool sl.hasB,.bool sl.hasC,.int .i64 sl.a,.int .i64 sl.b,.int .i64 sl.c,.slice sa sl.cond.length sc] : List Value),u.oneCell'=true):=by
        intro u hu; simp at hu; rcases hu with rfl | rfl | rfl | rfl | rfl | rfl | rfl | rfl | rfl <;> rfl
       clear rowS fshS d3 hal3))
    all_goals
     go_wp2
     go_meet
     case rel=>exact⟨_,_,bl5,I4⟩
   case rest=>
    obtain⟨va,vc,bl5,I5⟩:=hcut
    have HG0:Hid (gMany gSel (1+0) q2=([(gSel q2).1],(gSel q2).2)):=rfl
    clear I1
    go_wp2_with fail
    go_loopw [8] (fun jv wj=>∃ (j:Nat) (va:Option Addr) (vc:Nat) (bl5:List Nat),jv = .int .i64 (j:Int)∧j≤p - 5∧Hid (IG B rb w2 wj w2.heap.size (gMany gSel (1+j) q2).2 deep (gMany gSel (1+j) q2).1 (.slice va (gMany gSel (1+j) q2).1.length vc) bl5)) (fun jv _=>p - 5 - (intOf jv).toNat)
    case atStart=>exact⟨0,va,vc,bl5,rfl,by omega,by rw[uh HG0]; exact I5⟩
    case round=>
     obtain⟨j,va,vc,bl5,rfl,hj,hI⟩:=hrel
     by_cases hcj:(j:Int) < (p:Int) - 5
     ·have HGJ:=hide (gMany_snoc gSel (1+j) q2)
      have hxl:=hide (gMany_len gSel (1+j) q2)
      generalize (gMany gSel (1+j) q2).2=qj at *
      generalize (gMany gSel (1+j) q2).1=xs at *
      clear I5 HG0
      go_upto_region 12 with fail
      have I1d:=hide ((uh hI).below ((Below.refl _ _).drew))
      obtain⟨cg0,cg1⟩:=(uh I1d).sg.cs
      have HS1:=hide (uh HSX _ _ (uh I1d).xg.dx.rd)
      have ZZ:Hid (w2.heap.size≤wr.drew.heap.size):=(uh hI).xg.dx.size
      have ZL:Hid (w2.heap.size < wr.drew.heap.size):=(uh hI).sg.lt
      have LEN:Hid (xs.length+1≤40000000):=by show _≤_; have h:xs.length=1+j:=uh hxl; omega
      generalize hsl:gSel qj=R at *
      clear hsl
      obtain⟨sl,q3⟩:=R
      clear HSG HG HNX HSX hxl
      go_region_law (first
      | (
        refine stp_app1 ekSel rfl (.tmp 41) (.tmp 44) rfl rfl (uh I3).xg.row (uh I3).xg.fsh (vs:=[.int .i64 sl.k,.string sl.name,.bool sl.hasA,.bool sl.hasB,.bool sl.hasC,.int .i64 sl.a,.int .i64 sl.b,.int .i64 sl.c,.slice sa sl.cond.length sc]) (y:=sl) (uh EL) (uh FI) (uh AP) rfl (by exact lit_cells w3 [_,_,_,_,_,_,_,_,_] _) (uh ONE) (uh I3).xg.dx.size (uh LEN) ?_
        intro v5 w5 bl5 hA
        have I4:=hide ((uh I3).app hA (uh NG))
        have G5:GW w5 w2.heap.size deep (.slice va xs.length vc):=(hA.block (uh I3).xg.row (uh I3).sg.lt (uh I3).ng).trans (uh I3).sg
        obtain⟨gf0,gf1⟩:=G5.fz
        obtain⟨gc0,gc1⟩:=G5.cs
        obtain⟨vd,ve,rfl,-,-⟩:=hA.row.form
        clear hA G5)
      | (
        go_simp; refine (uh HS1).mono ?_
        rintro e w3 ⟨d3,vS,bS,rfl,rowS,fshS⟩
        obtain⟨sa,sc,rfl,-,-⟩:=rowS.form
        have hal3:=al_b w3 (.cells #[.int .i64 sl.k,.string sl.name,.bool sl.hasA,.bool sl.hasB,.bool sl.hasC,.int .i64 sl.a,.int .i64 sl.b,.int .i64 sl.c,.slice sa sl.cond.length sc] 40)
        have I3:=hide (((uh I1d).draw d3).below hal3)
        obtain⟨cg30,cg31⟩:=((uh I1d).draw d3).sg.cs
        obtain⟨cg40,cg41⟩:=(uh I3).sg.cs
        have EL:=hide (show selE.E (w3.alloc (.cells #[.int .i64 sl.k,.string sl.name,.bool sl.hasA,.bool sl.hasB,.bool sl.hasC,.int .i64 sl.a,.int .i64 sl.b,.int .i64 sl.c,.slice sa sl.cond.length sc] 40)) [.int .i64 sl.k,.string sl.name,.bool sl.hasA,.bool sl.hasB,.bool sl.hasC,.int .i64 sl.a,.int .i64 sl.b,.int .i64 sl.c,.slice sa sl.cond.length sc] sl bS from ⟨_,rfl,rowS.below hal3⟩)
        have FI:Hid (Fsh w2.heap.size bS):=fshS.mono (uh ZZ)
        have NG:Hid (w2.heap.size ∉ bS):=fun hb=>by have h1:=fshS.2 _ hb; have h2:=uh ZL; omega
        have AP:Hid (∀ b∈bS,b ∉ bl5):=fun b hb h'=>by have h1:=fshS.2 _ hb; have h2:=(uh I1d).xg.row.lt b h'; omega
        have ONE:Hid (∀ u∈([.int .i64 sl.k,.string sl.name,.bool sl.hasA,.bool sl.hasB,.bool sl.hasC,.int .i64 sl.a,.int .i64 sl.b,.int .i64 sl.c,.slice sa sl.cond.length sc] : List Value),u.oneCell'=true):=by
         intro u hu; simp at hu; rcases hu with rfl | rfl | rfl | rfl | rfl | rfl | rfl | rfl | rfl <;> rfl
        clear rowS fshS d3 hal3))
      all_goals
       clear hI I1d HS1 I3
       go_wp2
       go_roundw
       case rel=>exact⟨j+1,vd,ve,bl5,by go_num,by omega,by
        have e:xs.length+1=(xs++[sl]).length:=by simp
        rw[← Nat.add_assoc,uh HGJ]
        show Hid (IG B rb w2 _ _ q3 deep (xs++[sl]) (.slice vd (xs++[sl]).length ve) bl5)
        rw[e]
        exact I4⟩
       case measure=>simp[intOf]; omega
     ·have hje:Hid (j=p - 5):=by show _=_; omega
      have HSG2:Hid (gSeg qi=(⟨deep,(gMany gSel (1+j) q2).1⟩,(gMany gSel (1+j) q2).2)):=by show _=_; rw[uh hje]; exact uh HSG
      have Y3:=hide ((uh Y2).draw (uh hI).xg.dx)
      generalize (gMany gSel (1+j) q2).2=qj at *
      generalize (gMany gSel (1+j) q2).1=xs at *
      clear I5 HG0 HSG hje hj
      obtain⟨cg0,cg1⟩:=(uh hI).sg.cs
      have hab:=al_b wr (.cells #[.bool deep,.slice va xs.length vc] 43)
      have Y4:=hide ((uh Y3).below hab)
      have EL:Hid (segE.E (wr.alloc (.cells #[.bool deep,.slice va xs.length vc] 43)) [.bool deep,.slice va xs.length vc] ⟨deep,xs⟩ bl5):=segE.keep (uh hI).elem (.of_below hab (uh hI).xg.row.lt)
      have FI:Hid (Fsh w.heap.size bl5):=(uh hI).xg.fsh.mono (uh Y2).dx.size
      have AP:Hid (∀ b∈bl5,b ∉ bl):=fun b hb h'=>by have h1:=(uh hI).xg.fsh.2 b hb; have h2:=(uh Y2).row.lt b h'; omega
      have ZL:Hid (w.heap.size≤(wr.alloc (.cells #[.bool deep,.slice va xs.length vc] 43)).heap.size):=(uh Y4).dx.size
      have ONE:Hid (∀ u∈([.bool deep,.slice va xs.length vc] : List Value),u.oneCell'=true):=by
       intro u hu; simp at hu; rcases hu with rfl | rfl <;> rfl
      clear hab hI Y3
      go_wp2_with (at_builtin; refine wpl_app1 ekSeg rfl (.tmp 47) (.tmp 49) rfl rfl (uh Y4).row (uh Y4).fsh (vs:=[.bool deep,.slice va xs.length vc]) (y:=⟨deep,xs⟩) (uh EL) (uh FI) (uh AP) rfl (by exact lit_cells wr [_,_] _) (uh ONE) (uh ZL) (by have h:acc.length=i:=uh hal; omega) ?_)
      intro v7 w7 bl7 hA
      have Y5:=hide ((uh Y4).app hA)
      obtain⟨za,zc,rfl,-,-⟩:=hA.row.form
      clear hA
      go_wp2
      go_roundw
      case rel=>exact⟨i+1,bl7,by go_num,by omega,by rw[uh HG,uh HSG2]; exact Y5⟩
      case measure=>simp[intOf]; omega
  ·have hcI:¬ (i:Int) < (n:Int):=by omega
   obtain rfl:i=n:=by omega
   obtain⟨qa,qc,rfl,-,-⟩:=(uh hr).row.form
   clear Y1
   go_wp2
   go_ret
   exact⟨_,bl,rfl,uh hr⟩
def SPo (w0:World) (rb:Nat) (ms:List PSeg) (e:Ending) (w':World) : Prop:=
 ∃ v bl,e = .returned v∧w0.grownBy w' (some rb)∧(ORow segE w' v ms bl∨(pathOk ms=false∧ORow segTl w' v ms bl))
structure SC (w0:World) (rb:Nat) (w3 wx:World) (bl ib:List Nat) (o:PSel) (u:Value) (bd:Prop) : Prop where
 gr:w0.grownBy wx (some rb)
 z0:w0.heap.size≤w3.heap.size
 lt:∀ b∈bl,b < w3.heap.size
 kp:∀ b∈bl,b ∉ ib→wx.heap[b]?=w3.heap[b]?
 sub:∀ b∈ib,b∈bl
 sb:SB wx w3.heap.size o.k o.name o.hasA o.hasB o.hasC o.a o.b o.c u
 row:∃ ib',(∀ b∈ib',b∈ib∨w3.heap.size < b)∧(ORow fopE wx u o.cond ib'∨(bd∧TRow wx u o.cond ib'))
theorem grown_set {w0 w:World} {rb:Nat} (h:w0.grownBy w (some rb)) {p:Addr} (hp:w0.heap.size≤p.block) (x:Value) : w0.grownBy (w.setCell p x) (some rb):=
 ⟨h.os,h.tape,h.output,by simpa [World.setCell] using h.size,fun k hk hn=>(Below.heap_setCell w p x k (by omega)).trans (h.block k hk hn)⟩
section
variable {w:World} {g:Nat} {k:Int} {t:ByteArray} {ha hb hc:Bool} {a b c:Int} {q:Value}
theorem SB.put8 (h:SB w g k t ha hb hc a b c q) (x:Value) : SB (w.setCell ⟨g,8,none⟩ x) g k t ha hb hc a b c x:=Go.heap_setCell_same w g 8 _ 40 _ h
end
section
variable {B rb:Nat} {w0 w3 wx w5 w6:World} {q:Bs} {v:Value} {segs:List PSeg} {bl ib:List Nat} {i:Nat} {d:Bool} {o o':PSel} {r:List PSel} {g cap g2 c2:Nat} {u u':Value} {bd:Prop}
theorem SC.start (Y:YG segE B rb w0 w3 q v segs bl) (H:SH w3 v segs bl i d o r g cap g2 c2 u ib) (hr:ORow fopE w3 u' o'.cond ib∨(bd∧TRow w3 u' o'.cond ib)) : SC w0 rb w3 (w3.alloc (.cells #[.int .i64 o'.k,.string o'.name,.bool o'.hasA,.bool o'.hasB,.bool o'.hasC,.int .i64 o'.a,.int .i64 o'.b,.int .i64 o'.c,u'] 40)) bl ib o' u' bd:=
 have hb:=al_b w3 (.cells #[.int .i64 o'.k,.string o'.name,.bool o'.hasA,.bool o'.hasB,.bool o'.hasC,.int .i64 o'.a,.int .i64 o'.b,.int .i64 o'.c,u'] 40)
 ⟨(Y.dx.below hb).gr,Y.dx.size,Y.row.lt,fun b hb' _=>hb.block b (Y.row.lt b hb'),H.sub,heap_alloc_new w3 _,ib,fun _ h=>.inl h,hr.imp (fun h=>h.below hb) fun h=>⟨h.1,h.2.below hb⟩⟩
theorem SC.op (Y:YG segE B rb w0 w3 q v segs bl) {g3 n cc:Nat} (H:SH w3 v segs bl i d o r g cap g2 c2 (.slice (some ⟨g3,0,none⟩) n cc) ib) {p:Nat} {y y':PFOp} (hp:o.cond[p]?=some y) (m:Nat) (hm:m < 5) (z:Value)
  (hE:∀ w' vs ib,fopE.E w' vs y ib→fopE.E w' (vs.set m z) y' ib) :
  SC w0 rb w3 ((w3.setCell ⟨g3,p*5+m,none⟩ z).alloc (.cells #[.int .i64 o.k,.string o.name,.bool o.hasA,.bool o.hasB,.bool o.hasC,.int .i64 o.a,.int .i64 o.b,.int .i64 o.c,.slice (some ⟨g3,0,none⟩) n cc] 40)) bl ib { o with cond:=o.cond.set p y' } (.slice (some ⟨g3,0,none⟩) n cc) bd:=by
 have hg:g3∈ib:=H.row.head rfl
 have hl:=Y.row.lt g3 (H.sub g3 hg)
 have hput:=H.row.put H.nd hp m hm z y' hE
 have hz:(w3.setCell ⟨g3,p*5+m,none⟩ z).heap.size=w3.heap.size:=by simp[World.setCell]
 have hoth:∀ b,b≠g3→(w3.setCell ⟨g3,p*5+m,none⟩ z).heap[b]?=w3.heap[b]?:=fun b hb=>Below.heap_setCell _ _ z b (by show b≠g3; exact hb)
 have hgr:=grown_set (p:=⟨g3,p*5+m,none⟩) Y.dx.gr (Y.fsh.2 g3 (H.sub g3 hg)) z
 have hput:ORow fopE (w3.setCell ⟨g3,p*5+m,none⟩ z) (.slice (some ⟨g3,0,none⟩) n cc) (o.cond.set p y') ib:=hput
 generalize w3.setCell ⟨g3,p*5+m,none⟩ z=W at *
 have hb:=al_b W (.cells #[.int .i64 o.k,.string o.name,.bool o.hasA,.bool o.hasB,.bool o.hasC,.int .i64 o.a,.int .i64 o.b,.int .i64 o.c,.slice (some ⟨g3,0,none⟩) n cc] 40)
 have hn:=heap_alloc_new W (.cells #[.int .i64 o.k,.string o.name,.bool o.hasA,.bool o.hasB,.bool o.hasC,.int .i64 o.a,.int .i64 o.b,.int .i64 o.c,.slice (some ⟨g3,0,none⟩) n cc] 40)
 rw[hz] at hn
 exact⟨grownBy_trans hgr (grownBy_below hb),Y.dx.size,Y.row.lt,fun b hbb hn=>(hb.block b (by rw[hz]; exact Y.row.lt b hbb)).trans (hoth b fun e=>hn (e ▸ hg)),H.sub,hn,ib,fun _ h=>.inl h,.inl (hput.below hb)⟩
theorem SH.noSel (Y:YG segE B rb w0 w3 q v segs bl) (H:SH w3 v segs bl i d o r g cap g2 c2 u ib) (L:Obj) :
  SPo w0 rb (segs.set i ⟨d,[]⟩) (.returned v) (((w3.setCell ⟨g,i*2+1,none⟩ (.slice (some ⟨w3.heap.size+1,0,none⟩) 0 0)).alloc L).alloc (.cells #[] 40)):=by
 have hl:=Y.row.lt g H.gb
 have hz:(w3.setCell ⟨g,i*2+1,none⟩ (.slice (some ⟨w3.heap.size+1,0,none⟩) 0 0)).heap.size=w3.heap.size:=by simp[World.setCell]
 have hoth:∀ b,b≠g→(w3.setCell ⟨g,i*2+1,none⟩ (.slice (some ⟨w3.heap.size+1,0,none⟩) 0 0)).heap[b]?=w3.heap[b]?:=fun b hb=>Below.heap_setCell _ _ _ b (by show b≠g; exact hb)
 have hgr:=grown_set (p:=⟨g,i*2+1,none⟩) Y.dx.gr (Y.fsh.2 g H.gb) (.slice (some ⟨w3.heap.size+1,0,none⟩) 0 0)
 have hno:=fun w' ib'=>H.no w' (.slice (some ⟨w3.heap.size+1,0,none⟩) 0 0) ib'
 generalize w3.setCell ⟨g,i*2+1,none⟩ (.slice (some ⟨w3.heap.size+1,0,none⟩) 0 0)=W at *
 have hb:=al_b W L
 have hb2:=al_b (W.alloc L) (.cells #[] 40)
 have hz2:(W.alloc L).heap.size=w3.heap.size+1:=by rw[← hz]; simp
 have her:=empty_row (W.alloc L) 40 9
 rw[hz2] at her
 have hkb:∀ b,b < w3.heap.size→((W.alloc L).alloc (.cells #[] 40)).heap[b]?=W.heap[b]?:=fun b hbl=>(hb2.block b (by omega)).trans (hb.block b (by omega))
 obtain⟨bl',h3⟩:=hno _ [w3.heap.size+1] (fun b hbb hne=>(hkb b (Y.row.lt b hbb)).trans (hoth b hne)) (hkb g hl) ⟨[],rfl,fun _ _ _ h=>by simp at h,own_mono her (Nat.zero_le _),by simp[Value.ownBlock]⟩
 exact⟨v,bl',rfl,grownBy_trans hgr (grownBy_trans (grownBy_below hb) (grownBy_below hb2)),.inl h3⟩
theorem SC.app (h:SC w0 rb w3 wx bl ib o u bd) (hb:Below wx.heap.size wx w5) (hr:ORow fopE w5 u o.cond ib) (hf:Fsh w0.heap.size ib) {bl':List Nat} (hA:Appd fopE w0.heap.size w5 w6 u u' ib [] bl' (o.cond++[opK 8])) :
  SC w0 rb w3 (w6.setCell ⟨w3.heap.size,8,none⟩ u') bl ib { o with cond:=o.cond++[opK 8] } u' bd:=by
 have hz:w3.heap.size < w5.heap.size:=Nat.lt_of_lt_of_le h.sb.lt hb.size
 have sb5:SB w6 w3.heap.size o.k o.name o.hasA o.hasB o.hasC o.a o.b o.c u:=(hA.block hr hz (fun hi=>by have:=h.lt _ (h.sub _ hi); omega)).trans (h.sb.below hb)
 have kp6:∀ b∈bl,b ∉ ib→w6.heap[b]?=w3.heap[b]?:=fun b hbb hn=>by
  have hl:=h.lt b hbb
  have h1:=hb.block b (Nat.lt_trans (Nat.lt_of_lt_of_le hl (Nat.le_refl _)) h.sb.lt)
  exact ((hA.block hr (by omega) hn).trans h1).trans (h.kp b hbb hn)
 have gr6:w0.grownBy w6 (some rb):=by
  have g1:w0.grownBy w5 (some rb):=grownBy_trans h.gr (grownBy_below hb)
  refine⟨hA.grown.os.trans g1.os,hA.grown.tape.trans g1.tape,hA.grown.output.trans g1.output,Nat.le_trans g1.size hA.grown.size,fun k hk hn=>(hA.grown.block k (Nat.lt_of_lt_of_le hk g1.size) fun e=>?_).trans (g1.block k hk hn)⟩
  have:=hf.2 k (hr.head e.symm)
  omega
 have hsub:∀ b∈bl',b∈ib∨w3.heap.size < b:=fun b hb=>by
  rcases hA.sub b hb with h1 | h1 | h1
  ·exact .inl h1
  ·cases h1
  ·right; omega
 have hk:∀ b∈bl',(w6.setCell ⟨w3.heap.size,8,none⟩ u').heap[b]?=w6.heap[b]?:=fun b hb=>Below.heap_setCell w6 _ u' b (by
  show b≠w3.heap.size
  rcases hsub b hb with h3 | h3
  ·have:=h.lt b (h.sub b h3); omega
  ·omega)
 have rk:ORow fopE (w6.setCell ⟨w3.heap.size,8,none⟩ u') u' (o.cond++[opK 8]) bl':=ORow.keep hA.row hk
 have sb7:SB (w6.setCell ⟨w3.heap.size,8,none⟩ u') w3.heap.size o.k o.name o.hasA o.hasB o.hasC o.a o.b o.c u':=sb5.put8 u'
 have kp7:∀ b∈bl,b ∉ ib→(w6.setCell ⟨w3.heap.size,8,none⟩ u').heap[b]?=w3.heap[b]?:=fun b hb hn=>
  (Below.heap_setCell w6 ⟨w3.heap.size,8,none⟩ u' b (by show b≠w3.heap.size; have:=h.lt b hb; omega)).trans (kp6 b hb hn)
 exact { gr:=grown_set gr6 h.z0 u',z0:=h.z0,lt:=h.lt,kp:=kp7,sub:=h.sub,sb:=sb7,row:=⟨bl',hsub,.inl rk⟩ }
theorem SC.fin (h:SC w0 rb w3 wx bl ib o' u' bd) (Y:YG segE B rb w0 w3 q v segs bl) (H:SH w3 v segs bl i d o r g cap g2 c2 u ib) (hbd:bd→pathOk (segs.set i ⟨d,o' :: r⟩)=false) :
  SPo w0 rb (segs.set i ⟨d,o' :: r⟩) (.returned v) (putN wx g2 0 [.int .i64 o'.k,.string o'.name,.bool o'.hasA,.bool o'.hasB,.bool o'.hasC,.int .i64 o'.a,.int .i64 o'.b,.int .i64 o'.c,u']).drew:=by
 have eV:[.int .i64 o'.k,.string o'.name,.bool o'.hasA,.bool o'.hasB,.bool o'.hasC,.int .i64 o'.a,.int .i64 o'.b,.int .i64 o'.c,u']=selV o' u':=rfl
 rw[eV]
 clear eV
 obtain⟨ib',h1,h2⟩:=h.row
 obtain⟨cs,hcs⟩:=H.b2
 have hg2:=h.lt g2 H.g2b
 have hcx:wx.heap[g2]?=some (.cells cs 40 (0,0)):=(h.kp g2 H.g2b H.gi2).trans hcs
 have f1:=grown_putN wx g2 (selV o' u')
 have f2:∀ b,b≠g2→(putN wx g2 0 (selV o' u')).heap[b]?=wx.heap[b]?:=fun b hb=>putN_other (k:=b) (g:=g2) hb _ _
 have f3:(putN wx g2 0 (selV o' u')).heap[g2]?=(putN w3 g2 0 (selV o' u')).heap[g2]?:=by rw[putN_heap hcx,putN_heap hcs]
 generalize putN wx g2 0 (selV o' u')=W at *
 have hk:∀ b∈ib',W.drew.heap[b]?=wx.heap[b]?:=fun b hb=>f2 b (fun e=>by
  rcases h1 b hb with h3 | h3
  ·exact H.gi2 (e ▸ h3)
  ·omega)
 have hkp:∀ b∈bl,b≠g2→b ∉ ib→W.drew.heap[b]?=w3.heap[b]?:=fun b hb hne hn=>(f2 b hne).trans (h.kp b hb hn)
 have hgr:w0.grownBy W.drew (some rb):=by
  refine⟨f1.os.trans h.gr.os,f1.tape.trans h.gr.tape,f1.output.trans h.gr.output,Nat.le_trans h.gr.size f1.size,fun k hk hn=>(f1.block k (Nat.lt_of_lt_of_le hk h.gr.size) fun e=>?_).trans (h.gr.block k hk hn)⟩
  injection e with e
  have:=Y.fsh.2 g2 H.g2b
  omega
 rcases h2 with h2 | ⟨hb,h2⟩
 ·obtain⟨bl',h3⟩:=H.put W.drew o' u' ib' hkp f3 (h2.keep hk)
  exact⟨v,bl',rfl,hgr,.inl h3⟩
 ·obtain⟨bl',h3⟩:=H.putT W.drew o' u' ib' hkp f3 (h2.keep hk)
  exact⟨v,bl',rfl,hgr,.inr ⟨hbd hb,h3⟩⟩
end
end Go.Proofs.YtkjcgkfejdogbaaGreatDoor
