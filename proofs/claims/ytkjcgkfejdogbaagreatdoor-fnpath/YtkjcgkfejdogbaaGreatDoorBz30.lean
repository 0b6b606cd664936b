import Derived.Test.YtkjcgkfejdogbaaGreatDoorBz29
import Derived.Test.YtkjcgkfejdogbaaGreatDoorBz25
import Derived.Test.YtkjcgkfejdogbaaGreatDoorBz26
set_option maxRecDepth 100000
set_option maxHeartbeats 8000000
namespace Go.Proofs.YtkjcgkfejdogbaaGreatDoor
open Go.RowKit
theorem rMaybe (rb:Nat) (s:ByteArray) (i:Nat) (d:Int) (w:World) (h:PRd rb s i d w) (hs:s.size≤1048576) (hi:i≤s.size) :
  Calls Tryz.prog 123 #[.pointer (some ⟨rb,0,none⟩)] w (Rd rb s i d w (pMI (dr s i)) fun x e _=>e = .returned (.tuple #[.int .i64 x.2,.bool x.1])):=by
 have HP:=hide (ppeek rb s i d w h hi)
 have HD:=hide (fun w=>digN_walk (bt s i) w)
 have HI:=hide (fun w h=>rInt rb s i d w h hs hi)
 have hdef:pMI (dr s i)=if (bt s i=45∨isDg (bt s i)=true) then (pInt (dr s i)).map (fun p=>((true,p.1),p.2)) else some ((false,0),dr s i):=by
  by_cases hl:i < s.size
  ·have e:=bt_at s i hl
   rw[dr_at hl]
   show (if isI s[i]=true then _ else _)=_
   have:(isI s[i]=true)↔(bt s i=45∨isDg (bt s i)=true):=by
    unfold isI
    rw[Bool.or_eq_true,beq_iff_eq,e]
    constructor
    ·rintro (h | h)
     ·left; rw[h]; rfl
     ·right; exact h
    ·rintro (h | h)
     ·left; exact UInt8.toNat_inj.1 h
     ·right; exact h
   simp only[this]
  ·have e:bt s i=0:=bt_out s i (by omega)
   rw[e,dr_end (by omega),if_neg (by decide)]; rfl
 have HV:=hide hdef
 clear h hdef
 go_enter Tryz.func123,Tryz.ntmps123
 go_wp2_with fail
 refine (uh HP).mono ?_
 rintro e w1 ⟨rfl,r1,k1⟩
 have HR1:=hide r1
 have K1:=hide k1
 clear HP r1 k1
 obtain⟨b,hb⟩ : ∃ b,decide (¬ (bt s i=45∨isDg (bt s i)=true))=b:=⟨_,rfl⟩
 have HB:=hide hb
 clear hb
 go_upto_region 2 with fail
 go_cut [15] from 5 to 15 (fun x wx=>x = .bool b∧w1=wx)
 case first=>
  by_cases h45:bt s i=45
  ·have n45:((bt s i:Int) != 45)=false:=by rw[h45]; rfl
   have HV2:Hid (b=false):=by show _=_; rw[← uh HB]; exact decide_eq_false fun h=>h (.inl h45)
   clear h45
   go_wp2
   go_meet
   case rel=>exact⟨by rw[uh HV2],rfl⟩
  ·have n45:((bt s i:Int) != 45)=true:=by rw[bne_iff_ne]; omega
   have HV2:Hid (b = !isDg (bt s i)):=by show _=_; rw[← uh HB]; simp[h45]
   go_wp2_with fail
   refine (uh HD _).mono ?_
   rintro e w2 ⟨rfl,rfl⟩
   go_wp2
   go_meet
   case rel=>exact⟨by rw[uh HV2],rfl⟩
 obtain⟨rfl,rfl⟩:=hcut
 cases b with
 | true=>
  have hh:=of_decide_eq_true (uh HB)
  have HV2:Hid (pMI (dr s i)=some ((false,0),dr s i)):=by show _=_; rw[uh HV,if_neg hh]
  clear hh HB HV
  go_wp2
  go_ret2
  refine⟨uh K1,fun h=>(by rw[uh HV2] at h; cases h),fun x t h=>?_⟩
  rw[uh HV2] at h
  injection h with h
  injection h with h1 h2
  subst h1; subst h2
  exact⟨i,rfl,Nat.le_refl _,hi,uh HR1,rfl⟩
 | false=>
  have hh:bt s i=45∨isDg (bt s i)=true:=Classical.byContradiction (of_decide_eq_false (uh HB))
  have HV2:Hid (pMI (dr s i)=(pInt (dr s i)).map (fun p=>((true,p.1),p.2))):=by show _=_; rw[uh HV,if_pos hh]
  have HC:=hide (uh HI w1 (uh HR1))
  clear hh HB HV HI
  go_wp2_with fail
  refine (uh HC).mono ?_
  rintro e w2 ⟨k2,hno,hyes⟩
  clear HC
  cases hp:pInt (dr s i) with
  | none=>
   obtain rfl:=hno hp
   exact⟨rfl,(uh K1).trans k2,fun _=>rfl,fun x t h=>by rw[uh HV2,hp] at h; cases h⟩
  | some q=>
   obtain⟨j,hj1,hj2,hj3,r2,rfl⟩:=hyes q.1 q.2 hp
   have HR2:=hide r2
   have K2:=hide ((uh K1).trans k2)
   have HV3:Hid (pMI (dr s i)=some ((true,q.1),dr s j)):=by show _=_; rw[uh HV2,hp,← hj1]; rfl
   clear hno hyes hp k2 r2 hj1
   go_wp2
   go_ret2
   refine⟨uh K2,fun h=>(by rw[uh HV3] at h; cases h),fun x t h=>?_⟩
   rw[uh HV3] at h
   injection h with h
   injection h with h1 h2
   subst h1; subst h2
   exact⟨j,rfl,hj2,hj3,uh HR2,rfl⟩
def SV (w:World) (o:PSel) (e:Ending) (w':World) : Prop:=∃ (q:Value) (bl:List Nat),e = .returned (.agg #[.int .i64 o.k,.string o.name,.bool o.hasA,.bool o.hasB,.bool o.hasC,.int .i64 o.a,.int .i64 o.b,.int .i64 o.c,q])∧ORow fopE w' q o.cond bl∧Fsh w.heap.size bl
theorem SB.kb {rb:Nat} {w w':World} {g:Nat} {k:Int} {t:ByteArray} {ha hb hc:Bool} {a b c:Int} {q:Value} (h:SB w g k t ha hb hc a b c q) (hk:KB rb w w') (hg:g≠rb) : SB w' g k t ha hb hc a b c q:=(hk.block g h.lt hg).trans h
structure SI (rb:Nat) (s:ByteArray) (d:Int) (w wr:World) (j:Nat) (a b c:Bool×Int) : Prop where
 kb:KB rb w wr
 rd:PRd rb s j d wr
 r2:SB wr w.heap.size 0 ⟨#[]⟩ false false false 0 0 0 (.slice none 0 0)
 r3:SB wr (w.heap.size+1) 4 ⟨#[]⟩ a.1 b.1 c.1 a.2 b.2 c.2 (.slice none 0 0)
 nb:rb < w.heap.size
section
variable {rb:Nat} {s:ByteArray} {d:Int} {w wr:World} {j:Nat} {a b c:Bool×Int}
theorem SI.step (h:SI rb s d w wr j a b c) {w2:World} {j2:Nat} (hk:KB rb wr w2) (hr:PRd rb s j2 d w2) : SI rb s d w w2 j2 a b c:=
 ⟨h.kb.trans hk,hr,h.r2.kb hk (by have:=h.nb; omega),h.r3.kb hk (by have:=h.nb; omega),h.nb⟩
theorem SI.set (h:SI rb s d w wr j a b c) {p q:Nat} {u v:Value} {x y z:Bool×Int} (h3:SB ((wr.setCell ⟨w.heap.size+1,p,none⟩ u).setCell ⟨w.heap.size+1,q,none⟩ v) (w.heap.size+1) 4 ⟨#[]⟩ x.1 y.1 z.1 x.2 y.2 z.2 (.slice none 0 0)) : SI rb s d w ((wr.setCell ⟨w.heap.size+1,p,none⟩ u).setCell ⟨w.heap.size+1,q,none⟩ v) j x y z:=by
 have hn:=h.nb
 have hb:Below w.heap.size wr ((wr.setCell ⟨w.heap.size+1,p,none⟩ u).setCell ⟨w.heap.size+1,q,none⟩ v):=((Below.refl _ _).setCell (by show _≤w.heap.size+1; omega) _).setCell (by show _≤w.heap.size+1; omega) _
 exact⟨kb_below h.kb hb,h.rd.below' hb hn,(h.r2.other (by show _≠w.heap.size+1; omega) _).other (by show _≠w.heap.size+1; omega) _,h3,hn⟩
theorem SI.setA (h:SI rb s d w wr j a b c) (x:Bool×Int) : SI rb s d w ((wr.setCell ⟨w.heap.size+1,5,none⟩ (.int .i64 x.2)).setCell ⟨w.heap.size+1,2,none⟩ (.bool x.1)) j x b c:=
 h.set (Go.heap_setCell_same _ _ 2 _ 40 _ (Go.heap_setCell_same wr _ 5 _ 40 _ h.r3))
theorem SI.setB (h:SI rb s d w wr j a b c) (x:Bool×Int) : SI rb s d w ((wr.setCell ⟨w.heap.size+1,6,none⟩ (.int .i64 x.2)).setCell ⟨w.heap.size+1,3,none⟩ (.bool x.1)) j a x c:=
 h.set (Go.heap_setCell_same _ _ 3 _ 40 _ (Go.heap_setCell_same wr _ 6 _ 40 _ h.r3))
theorem SI.setC (h:SI rb s d w wr j a b c) (x:Bool×Int) : SI rb s d w ((wr.setCell ⟨w.heap.size+1,7,none⟩ (.int .i64 x.2)).setCell ⟨w.heap.size+1,4,none⟩ (.bool x.1)) j a b x:=
 h.set (Go.heap_setCell_same _ _ 4 _ 40 _ (Go.heap_setCell_same wr _ 7 _ 40 _ h.r3))
theorem SI.out (h:SI rb s d w wr j a b c) (k:Int) (t:ByteArray) (ha hb hc:Bool) (x y z:Int) : KB rb w (putN wr w.heap.size 0 [.int .i64 k,.string t,.bool ha,.bool hb,.bool hc,.int .i64 x,.int .i64 y,.int .i64 z,.slice none 0 0])∧PRd rb s j d (putN wr w.heap.size 0 [.int .i64 k,.string t,.bool ha,.bool hb,.bool hc,.int .i64 x,.int .i64 y,.int .i64 z,.slice none 0 0])∧SV w ⟨k,t,ha,hb,hc,x,y,z,[]⟩ (.returned (.agg #[.int .i64 k,.string t,.bool ha,.bool hb,.bool hc,.int .i64 x,.int .i64 y,.int .i64 z,.slice none 0 0])) (putN wr w.heap.size 0 [.int .i64 k,.string t,.bool ha,.bool hb,.bool hc,.int .i64 x,.int .i64 y,.int .i64 z,.slice none 0 0]):=
 ⟨kb_below h.kb (putN_below (Below.refl _ _) (Nat.le_refl _) _ _),(putN_other (by have:=h.nb; omega) _ _).trans h.rd,_,[],rfl,ORow.nil _ _,Fsh.nil _⟩
end
theorem head58 {s:ByteArray} {j:Nat} : ((dr s j).head?=some 58)↔bt s j=58:=by
 by_cases hj:j < s.size
 ·rw[dr_at hj,bt_at s j hj]
  simp only[List.head?_cons,Option.some.injEq]
  exact⟨fun e=>by rw[e]; rfl,fun e=>UInt8.toNat_inj.1 e⟩
 ·rw[dr_end (by omega),bt_out s j (by omega)]; simp
theorem pIS_none {s:ByteArray} {i:Nat} (h:pMI (dr s i)=none) : pIS (dr s i)=none:=by unfold pIS; rw[h]
theorem pIS_ix {s:ByteArray} {i j:Nat} {a:Bool×Int} (h:pMI (dr s i)=some (a,dr s j)) (h1:a.1=true∧¬ bt s j=58) : pIS (dr s i)=some (idxS a.2,dr s j):=by
 unfold pIS; rw[h]; simp only; rw[if_pos ⟨h1.1,fun e=>h1.2 (head58.1 e)⟩]
theorem pIS_sl {s:ByteArray} {i j:Nat} {a:Bool×Int} (h:pMI (dr s i)=some (a,dr s j)) (h1:¬ (a.1=true∧¬ bt s j=58)) : (¬ bt s j=58→pIS (dr s i)=none)∧(bt s j=58→pIS (dr s i)=match pMI (dr s (j+1)) with
     | none=>none
     | some (b,v)=>match v with
      | []=>some (slcS a b (false,0),[])
      | e :: w=>if e=58 then (match pMI w with
        | none=>none
        | some (c,z)=>some (slcS a b c,z)) else some (slcS a b (false,0),e :: w)):=by
 unfold pIS
 rw[h]
 simp only
 rw[if_neg (fun e=>h1 ⟨e.1,fun e2=>e.2 (head58.2 e2)⟩)]
 refine⟨fun hn=>?_,fun hy=>?_⟩
 ·by_cases hj:j < s.size
  ·rw[dr_at hj]; simp only; rw[if_neg (bt_ne hj 58 hn)]
  ·rw[dr_end (by omega)]
 ·obtain⟨hj,hc⟩:=bt_is 58 hy (by decide)
  rw[dr_at hj]; simp only; rw[if_pos hc]
  rfl
theorem pIS_end {s:ByteArray} {q:Nat} {a b:Bool×Int} : (match dr s q with
      | []=>some (slcS a b (false,0),[])
      | e :: w=>if e=58 then (match pMI w with
        | none=>none
        | some (c,z)=>some (slcS a b c,z)) else some (slcS a b (false,0),e :: w))=if bt s q=58 then (match pMI (dr s (q+1)) with
        | none=>none
        | some (c,z)=>some (slcS a b c,z)) else some (slcS a b (false,0),dr s q):=by
 by_cases hq:q < s.size
 ·rw[dr_at hq]
  simp only
  by_cases h58:bt s q=58
  ·have hc:s[q]=58:=by have h:=h58; rw[bt_at s q hq] at h; exact UInt8.toNat_inj.1 h
   rw[if_pos hc,if_pos h58]
  ·rw[if_neg (bt_ne hq 58 h58),if_neg h58]
 ·rw[dr_end (by omega),bt_out s q (by omega),if_neg (by decide)]
theorem rIndex (rb:Nat) (s:ByteArray) (i:Nat) (d:Int) (w:World) (h:PRd rb s i d w) (hs:s.size≤1048576) (hi:i≤s.size) :
  Calls Tryz.prog 113 #[.pointer (some ⟨rb,0,none⟩)] w (Rd rb s i d w (pIS (dr s i)) (SV w)):=by
 have hlt:=h.lt
 have hal:=al_b w (.cells #[.int .i64 0,.string ⟨#[]⟩,.bool false,.bool false,.bool false,.int .i64 0,.int .i64 0,.int .i64 0,.slice none 0 0] 40)
 have hz:(w.alloc (.cells #[.int .i64 0,.string ⟨#[]⟩,.bool false,.bool false,.bool false,.int .i64 0,.int .i64 0,.int .i64 0,.slice none 0 0] 40)).heap.size=w.heap.size+1:=by simp
 have h2:SB (w.alloc (.cells #[.int .i64 0,.string ⟨#[]⟩,.bool false,.bool false,.bool false,.int .i64 0,.int .i64 0,.int .i64 0,.slice none 0 0] 40)) w.heap.size 0 ⟨#[]⟩ false false false 0 0 0 (.slice none 0 0):=heap_alloc_new w _
 have hal2:=al_b (w.alloc (.cells #[.int .i64 0,.string ⟨#[]⟩,.bool false,.bool false,.bool false,.int .i64 0,.int .i64 0,.int .i64 0,.slice none 0 0] 40)) (.cells #[.int .i64 4,.string ⟨#[]⟩,.bool false,.bool false,.bool false,.int .i64 0,.int .i64 0,.int .i64 0,.slice none 0 0] 40)
 have h3:=heap_alloc_new (w.alloc (.cells #[.int .i64 0,.string ⟨#[]⟩,.bool false,.bool false,.bool false,.int .i64 0,.int .i64 0,.int .i64 0,.slice none 0 0] 40)) (.cells #[.int .i64 4,.string ⟨#[]⟩,.bool false,.bool false,.bool false,.int .i64 0,.int .i64 0,.int .i64 0,.slice none 0 0] 40)
 rw[hz] at h3
 have S0:Hid (SI rb s d w ((w.alloc (.cells #[.int .i64 0,.string ⟨#[]⟩,.bool false,.bool false,.bool false,.int .i64 0,.int .i64 0,.int .i64 0,.slice none 0 0] 40)).alloc (.cells #[.int .i64 4,.string ⟨#[]⟩,.bool false,.bool false,.bool false,.int .i64 0,.int .i64 0,.int .i64 0,.slice none 0 0] 40)) i (false,0) (false,0) (false,0)):=
  ⟨KB.of_below (below_next hal hal2),(h.below hal).below hal2,h2.below hal2,h3,hlt⟩
 have HM:=hide (fun (j:Nat) (w:World) (hj:j≤s.size) h=>rMaybe rb s j d w h hs hj)
 have HPK:=hide (fun (j:Nat) (w:World) (hj:j≤s.size) h=>ppeek rb s j d w h hj)
 clear h hal hz h2 hal2 h3
 go_enter Tryz.func113,Tryz.ntmps113
 go_wp2_with fail
 generalize ((w.alloc (.cells #[.int .i64 0,.string ⟨#[]⟩,.bool false,.bool false,.bool false,.int .i64 0,.int .i64 0,.int .i64 0,.slice none 0 0] 40)).alloc (.cells #[.int .i64 4,.string ⟨#[]⟩,.bool false,.bool false,.bool false,.int .i64 0,.int .i64 0,.int .i64 0,.slice none 0 0] 40))=w0 at *
 refine (uh HM i w0 hi (uh S0).rd).mono ?_
 rintro e w1 ⟨k1,hno,hyes⟩
 cases hp:pMI (dr s i) with
 | none=>
  obtain rfl:=hno hp
  exact⟨rfl,(uh S0).kb.trans k1,fun _=>rfl,fun x t h=>by rw[pIS_none hp] at h; cases h⟩
 | some z=>
  obtain⟨a,t⟩:=z
  obtain⟨j,hj1,hj2,hj3,r1,rfl⟩:=hyes a t hp
  subst hj1
  have hS1:=(uh S0).step k1 r1
  have S2:=hide (hS1.setA a)
  obtain⟨c0,c1,c2,c3,c4,c5,c6,c7,c8⟩:=hS1.r3.cs
  obtain⟨f0,f1,f2,f3,f4,f5,f6,f7,f8⟩:=hS1.r3.fz
  obtain⟨g0,g1,g2,g3,g4,g5,g6,g7,g8⟩:=(show SB (w1.setCell ⟨w.heap.size+1,5,none⟩ (.int .i64 a.2)) (w.heap.size+1) 4 ⟨#[]⟩ false false false a.2 0 0 (.slice none 0 0) from Go.heap_setCell_same w1 _ 5 _ 40 _ hS1.r3).cs
  obtain⟨z0,z1,z2,z3,z4,z5,z6,z7,z8⟩:=(show SB (w1.setCell ⟨w.heap.size+1,5,none⟩ (.int .i64 a.2)) (w.heap.size+1) 4 ⟨#[]⟩ false false false a.2 0 0 (.slice none 0 0) from Go.heap_setCell_same w1 _ 5 _ 40 _ hS1.r3).fz
  have HIX:=hide (pIS_ix hp)
  have HSL:=hide (pIS_sl hp)
  clear hno hyes hp k1 r1 S0 hS1
  go_upto_region 3 with fail
  generalize ((w1.setCell ⟨w.heap.size+1,5,none⟩ (.int .i64 a.2)).setCell ⟨w.heap.size+1,2,none⟩ (.bool a.1))=w2 at *
  clear c0 c1 c2 c3 c4 c5 c6 c7 c8 f0 f1 f2 f3 f4 f5 f6 f7 f8 g0 g1 g2 g3 g4 g5 g6 g7 g8 z0 z1 z2 z3 z4 z5 z6 z7 z8
  obtain⟨pb,hpb⟩ : ∃ b,decide (a.1=true∧¬ bt s j=58)=b:=⟨_,rfl⟩
  have HPB:=hide hpb
  clear hpb
  obtain⟨a1,a2⟩:=a
  go_cut [20] from 12 to 20 (fun x wx=>x = .bool pb∧SI rb s d w wx j (a1,a2) (false,0) (false,0))
  case first=>
   obtain⟨c0,c1,c2,c3,c4,c5,c6,c7,c8⟩:=(uh S2).r3.cs
   cases a1 with
   | true=>
    have HV:Hid (pb = !decide (bt s j=58)):=by show _=_; rw[← uh HPB]; simp
    have HC:=hide (uh HPK j w2 hj3 (uh S2).rd)
    by_cases h58:bt s j=58
    ·have n58:((bt s j:Int) != 58)=false:=by rw[h58]; rfl
     have HV2:Hid (pb=false):=by show _=_; rw[uh HV,decide_eq_true h58]; rfl
     clear h58
     go_wp2_with fail
     refine (uh HC).mono ?_
     rintro e w3 ⟨rfl,r3,k3⟩
     have S3:=hide ((uh S2).step k3 r3)
     clear HC r3 k3
     go_wp2
     go_meet
     case rel=>exact⟨by rw[uh HV2],uh S3⟩
    ·have n58:((bt s j:Int) != 58)=true:=by rw[bne_iff_ne]; omega
     have HV2:Hid (pb=true):=by show _=_; rw[uh HV,decide_eq_false h58]; rfl
     clear h58
     go_wp2_with fail
     refine (uh HC).mono ?_
     rintro e w3 ⟨rfl,r3,k3⟩
     have S3:=hide ((uh S2).step k3 r3)
     clear HC r3 k3
     go_wp2
     go_meet
     case rel=>exact⟨by rw[uh HV2],uh S3⟩
   | false=>
    have HV2:Hid (pb=false):=by show _=_; rw[← uh HPB]; simp
    go_wp2
    go_meet
    case rel=>exact⟨by rw[uh HV2],uh S2⟩
  obtain⟨rfl,hS3⟩:=hcut
  have SX:=hide hS3
  clear hS3 S2
  obtain⟨c0,c1,c2,c3,c4,c5,c6,c7,c8⟩:=(uh SX).r2.cs
  obtain⟨f0,f1,f2,f3,f4,f5,f6,f7,f8⟩:=(uh SX).r2.fz
  cases pb with
  | true=>
   have hR:=uh HIX (of_decide_eq_true (uh HPB))
   have HR:=hide hR
   obtain⟨q0,q1,q2,q3,q4,q5,q6,q7,q8⟩:=(uh SX).r3.cs
   clear hR HIX HSL HPB
   go_wp2
   refine bodyPost_ret (results_cell_row rfl _ _ w.heap.size 40 #[_,_,_,_,_,_,_,_,_] (0,0) _ rfl (putN_full (uh SX).r2 [_,_,_,_,_,_,_,_,_] rfl) Tryz.underlying40 rfl (by kernel_rfl)) rfl ?_
   obtain⟨o1,o2,o3⟩:=(uh SX).out 3 ⟨#[]⟩ false false false a2 0 0
   refine⟨o1,fun h=>(by rw[uh HR] at h; cases h),fun x t h=>?_⟩
   rw[uh HR] at h
   injection h with h
   injection h with h1 h2
   subst h1; subst h2
   exact⟨j,rfl,hj2,hj3,o2,o3⟩
  | false=>
   obtain⟨hn58,hy58⟩:=uh HSL (of_decide_eq_false (uh HPB))
   have HN58:=hide hn58
   have HY58:=hide hy58
   clear hn58 hy58 HIX HSL HPB c0 c1 c2 c3 c4 c5 c6 c7 c8 f0 f1 f2 f3 f4 f5 f6 f7 f8
   by_cases h58:bt s j=58
   ·obtain⟨hjl,-⟩:=bt_is 58 h58 (by decide)
    have HC:=hide (pexpect_yes rb s j d wc (uh SX).rd hs 58 h58 hjl)
    have HV:=hide (uh HY58 h58)
    clear h58 HN58 HY58
    go_wp2_with fail
    refine (uh HC).mono ?_
    rintro e w3 ⟨rfl,r3,k3⟩
    have S3:=hide ((uh SX).step k3 r3)
    have HC2:=hide (uh HM (j+1) w3 (by omega) r3)
    clear HC r3 k3 SX
    go_wp2_with fail
    refine (uh HC2).mono ?_
    rintro e w4 ⟨k4,hno,hyes⟩
    clear HC2
    cases hp:pMI (dr s (j+1)) with
    | none=>
     obtain rfl:=hno hp
     exact⟨rfl,(uh S3).kb.trans k4,fun _=>rfl,fun x t h=>by rw[uh HV,hp] at h; cases h⟩
    | some z=>
     obtain⟨b,t⟩:=z
     obtain⟨q,hq1,hq2,hq3,r4,rfl⟩:=hyes b t hp
     subst hq1
     obtain⟨b1,b2⟩:=b
     have hS4:=(uh S3).step k4 r4
     have S5:=hide (hS4.setB (b1,b2))
     obtain⟨c0,c1,c2,c3,c4,c5,c6,c7,c8⟩:=hS4.r3.cs
     obtain⟨f0,f1,f2,f3,f4,f5,f6,f7,f8⟩:=hS4.r3.fz
     have hM:SB (w4.setCell ⟨w.heap.size+1,6,none⟩ (.int .i64 b2)) (w.heap.size+1) 4 ⟨#[]⟩ a1 false false a2 b2 0 (.slice none 0 0):=Go.heap_setCell_same w4 _ 6 _ 40 _ hS4.r3
     obtain⟨g0,g1,g2,g3,g4,g5,g6,g7,g8⟩:=hM.cs
     obtain⟨z0,z1,z2,z3,z4,z5,z6,z7,z8⟩:=hM.fz
     have HV2:Hid (pIS (dr s i)=if bt s q=58 then (match pMI (dr s (q+1)) with
        | none=>none
        | some (c,z)=>some (slcS (a1,a2) (b1,b2) c,z)) else some (slcS (a1,a2) (b1,b2) (false,0),dr s q)):=by show _=_; rw[uh HV,hp]; exact pIS_end
     clear hno hyes hp k4 r4 S3 hS4 hM HV
     go_upto_region 7 with fail
     generalize ((w4.setCell ⟨w.heap.size+1,6,none⟩ (.int .i64 b2)).setCell ⟨w.heap.size+1,3,none⟩ (.bool b1))=w5 at *
     clear c0 c1 c2 c3 c4 c5 c6 c7 c8 f0 f1 f2 f3 f4 f5 f6 f7 f8 g0 g1 g2 g3 g4 g5 g6 g7 g8 z0 z1 z2 z3 z4 z5 z6 z7 z8
     by_cases h58:bt s q=58
     ·obtain⟨hql,-⟩:=bt_is 58 h58 (by decide)
      have HC3:=hide (pskip_yes rb s q d w5 (uh S5).rd hs 58 h58 hql)
      have HV3:Hid (pIS (dr s i)=match pMI (dr s (q+1)) with
        | none=>none
        | some (c,z)=>some (slcS (a1,a2) (b1,b2) c,z)):=by show _=_; rw[uh HV2,if_pos h58]
      clear h58 HV2
      go_wp2_with fail
      refine (uh HC3).mono ?_
      rintro e w6 ⟨rfl,r6,k6⟩
      have S6:=hide ((uh S5).step k6 r6)
      have HC4:=hide (uh HM (q+1) w6 (by omega) r6)
      clear HC3 r6 k6 S5
      go_wp2_with fail
      refine (uh HC4).mono ?_
      rintro e w7 ⟨k7,hno,hyes⟩
      clear HC4
      cases hp:pMI (dr s (q+1)) with
      | none=>
       obtain rfl:=hno hp
       exact⟨rfl,(uh S6).kb.trans k7,fun _=>rfl,fun x t h=>by rw[uh HV3,hp] at h; cases h⟩
      | some z=>
       obtain⟨c,t⟩:=z
       obtain⟨p,hp1,hp2,hp3,r7,rfl⟩:=hyes c t hp
       subst hp1
       obtain⟨e1,e2⟩:=c
       have hS7:=(uh S6).step k7 r7
       have SX:=hide (hS7.setC (e1,e2))
       obtain⟨c0,c1,c2,c3,c4,c5,c6,c7,c8⟩:=hS7.r3.cs
       obtain⟨f0,f1,f2,f3,f4,f5,f6,f7,f8⟩:=hS7.r3.fz
       have hM:SB (w7.setCell ⟨w.heap.size+1,7,none⟩ (.int .i64 e2)) (w.heap.size+1) 4 ⟨#[]⟩ a1 b1 false a2 b2 e2 (.slice none 0 0):=Go.heap_setCell_same w7 _ 7 _ 40 _ hS7.r3
       obtain⟨g0,g1,g2,g3,g4,g5,g6,g7,g8⟩:=hM.cs
       obtain⟨z0,z1,z2,z3,z4,z5,z6,z7,z8⟩:=hM.fz
       have HR:Hid (pIS (dr s i)=some (slcS (a1,a2) (b1,b2) (e1,e2),dr s p)):=by show _=_; rw[uh HV3,hp]
       clear hno hyes hp k7 r7 S6 hS7 hM HV3
       go_upto_region 9 with fail
       generalize ((w7.setCell ⟨w.heap.size+1,7,none⟩ (.int .i64 e2)).setCell ⟨w.heap.size+1,4,none⟩ (.bool e1))=w8 at *
       clear c0 c1 c2 c3 c4 c5 c6 c7 c8 f0 f1 f2 f3 f4 f5 f6 f7 f8 g0 g1 g2 g3 g4 g5 g6 g7 g8 z0 z1 z2 z3 z4 z5 z6 z7 z8
       obtain⟨c0,c1,c2,c3,c4,c5,c6,c7,c8⟩:=(uh SX).r2.cs
       obtain⟨f0,f1,f2,f3,f4,f5,f6,f7,f8⟩:=(uh SX).r2.fz
       obtain⟨q0,q1,q2,q3,q4,q5,q6,q7,q8⟩:=(uh SX).r3.cs
       go_wp2
       refine bodyPost_ret (results_cell_row rfl _ _ w.heap.size 40 #[_,_,_,_,_,_,_,_,_] (0,0) _ rfl (putN_full (uh SX).r2 [_,_,_,_,_,_,_,_,_] rfl) Tryz.underlying40 rfl (by kernel_rfl)) rfl ?_
       obtain⟨o1,o2,o3⟩:=(uh SX).out 4 ⟨#[]⟩ a1 b1 e1 a2 b2 e2
       refine⟨o1,fun h=>(by rw[uh HR] at h; cases h),fun x t h=>?_⟩
       rw[uh HR] at h
       injection h with h
       injection h with h1 h2
       subst h1; subst h2
       exact⟨p,rfl,by omega,hp3,o2,o3⟩
     ·have HC3:=hide (pskip_no rb s q d w5 (uh S5).rd hq3 58 (.inl h58))
      have HR:Hid (pIS (dr s i)=some (slcS (a1,a2) (b1,b2) (false,0),dr s q)):=by show _=_; rw[uh HV2,if_neg h58]
      clear h58 HV2
      go_wp2_with fail
      refine (uh HC3).mono ?_
      rintro e w6 ⟨rfl,r6,k6⟩
      have SX:=hide ((uh S5).step k6 r6)
      obtain⟨c0,c1,c2,c3,c4,c5,c6,c7,c8⟩:=(uh SX).r2.cs
      obtain⟨f0,f1,f2,f3,f4,f5,f6,f7,f8⟩:=(uh SX).r2.fz
      obtain⟨q0,q1,q2,q3,q4,q5,q6,q7,q8⟩:=(uh SX).r3.cs
      clear HC3 r6 k6 S5
      go_wp2
      refine bodyPost_ret (results_cell_row rfl _ _ w.heap.size 40 #[_,_,_,_,_,_,_,_,_] (0,0) _ rfl (putN_full (uh SX).r2 [_,_,_,_,_,_,_,_,_] rfl) Tryz.underlying40 rfl (by kernel_rfl)) rfl ?_
      obtain⟨o1,o2,o3⟩:=(uh SX).out 4 ⟨#[]⟩ a1 b1 false a2 b2 0
      refine⟨o1,fun h=>(by rw[uh HR] at h; cases h),fun x t h=>?_⟩
      rw[uh HR] at h
      injection h with h
      injection h with h1 h2
      subst h1; subst h2
      exact⟨q,rfl,by omega,hq3,o2,o3⟩
   ·have HC:=hide (pexpect_no rb s j d wc (uh SX).rd hs hj3 58 (.inl h58))
    have HF:=hide (uh HN58 h58)
    clear h58
    go_wp2_with fail
    refine (uh HC).mono ?_
    rintro e w3 ⟨rfl,k3⟩
    exact⟨rfl,(uh SX).kb.trans k3,fun _=>rfl,fun x t h=>by rw[uh HF] at h; cases h⟩
def RdD {α:Type} (rb:Nat) (s:ByteArray) (i:Nat) (d:Int) (w:World) (R:Option ((α×Nat)×Bs)) (V:α→Ending→World→Prop) (e:Ending) (w':World) : Prop:=
 KB rb w w'∧(R=none→e=mis)∧∀ x t,R=some (x,t)→∃ j,t=dr s j∧i≤j∧j≤s.size∧PRd rb s j (max d (x.2:Int)) w'∧V x.1 e w'
theorem Fr.kb {rb:Nat} {w w':World} (h:Fr [rb] w w') : KB rb w w':=⟨h.os,h.tape,h.output,h.size,fun k hk hn=>h.block k hk (by simp[hn])⟩
theorem SV.put {w w1:World} {o:PSel} {q:Value} {bl:List Nat} {rb:Nat} (hk:KB rb w w1) (row:ORow fopE w1 q o.cond bl) (fsh:Fsh (w.heap.size+1) bl) : KB rb w (putN w1 w.heap.size 0 [.int .i64 o.k,.string o.name,.bool o.hasA,.bool o.hasB,.bool o.hasC,.int .i64 o.a,.int .i64 o.b,.int .i64 o.c,q])∧SV w o (.returned (.agg #[.int .i64 o.k,.string o.name,.bool o.hasA,.bool o.hasB,.bool o.hasC,.int .i64 o.a,.int .i64 o.b,.int .i64 o.c,q])) (putN w1 w.heap.size 0 [.int .i64 o.k,.string o.name,.bool o.hasA,.bool o.hasB,.bool o.hasC,.int .i64 o.a,.int .i64 o.b,.int .i64 o.c,q]):=
 ⟨kb_below hk (putN_below (Below.refl _ _) (Nat.le_refl _) _ _),q,bl,rfl,row.putN (fun hb=>by have:=fsh.2 _ hb; omega) _ _,fsh.mono (by omega)⟩
theorem sel_at {n:Nat} {s:ByteArray} {i:Nat} : (bt s i=39→pSel n (dr s i)=(pStr (dr s i)).map fun p=>((nameS p.1,0),p.2))∧(bt s i=42→pSel n (dr s i)=some ((allS,0),dr s (i+1)))∧(bt s i=63→pSel n (dr s i)=(pCd n (dr s (i+1))).map fun p=>((filS p.1.1,p.1.2),p.2))∧(¬ bt s i=39→¬ bt s i=42→¬ bt s i=63→pSel n (dr s i)=(pIS (dr s i)).map fun p=>((p.1,0),p.2)):=by
 refine⟨fun h=>?_,fun h=>?_,fun h=>?_,fun h1 h2 h3=>?_⟩
 ·obtain⟨hi,hc⟩:=bt_is 39 h (by decide)
  rw[dr_at hi,pSel_con,if_pos hc]
 ·obtain⟨hi,hc⟩:=bt_is 42 h (by decide)
  rw[dr_at hi,pSel_con,if_neg (by rw[hc]; decide),if_pos hc]
 ·obtain⟨hi,hc⟩:=bt_is 63 h (by decide)
  rw[dr_at hi,pSel_con,if_neg (by rw[hc]; decide),if_neg (by rw[hc]; decide),if_pos hc]
 ·by_cases hi:i < s.size
  ·rw[dr_at hi,pSel_con,if_neg (bt_ne hi 39 h1),if_neg (bt_ne hi 42 h2),if_neg (bt_ne hi 63 h3)]
  ·rw[dr_end (by omega)]; rfl
theorem rSel (n rb:Nat) (s:ByteArray) (i:Nat) (d:Int) (w:World) (h:PRd rb s i d w) (hs:s.size≤1000000) (hi:i≤s.size) (hd:0≤d) (hn:s.size < n) :
  Calls Tryz.prog 89 #[.pointer (some ⟨rb,0,none⟩)] w (RdD rb s i d w (pSel n (dr s i)) (SV w)):=by
 have hlt:=h.lt
 have hal:=al_b w (.cells #[.int .i64 0,.string ⟨#[]⟩,.bool false,.bool false,.bool false,.int .i64 0,.int .i64 0,.int .i64 0,.slice none 0 0] 40)
 have h2:SB (w.alloc (.cells #[.int .i64 0,.string ⟨#[]⟩,.bool false,.bool false,.bool false,.int .i64 0,.int .i64 0,.int .i64 0,.slice none 0 0] 40)) w.heap.size 0 ⟨#[]⟩ false false false 0 0 0 (.slice none 0 0):=heap_alloc_new w _
 have hz:w.heap.size < (w.alloc (.cells #[.int .i64 0,.string ⟨#[]⟩,.bool false,.bool false,.bool false,.int .i64 0,.int .i64 0,.int .i64 0,.slice none 0 0] 40)).heap.size:=by simp
 have HP:=hide (ppeek rb s i d _ (h.below hal) hi)
 have HKB:Hid (KB rb w (w.alloc (.cells #[.int .i64 0,.string ⟨#[]⟩,.bool false,.bool false,.bool false,.int .i64 0,.int .i64 0,.int .i64 0,.slice none 0 0] 40))):=KB.of_below hal
 have HK:=hide h2
 have HZ:=hide hz
 obtain⟨v39,v42,v63,vE⟩:=sel_at (n:=n) (s:=s) (i:=i)
 have V39:=hide v39
 have V42:=hide v42
 have V63:=hide v63
 have VE:=hide vE
 have hm:max d 0=d:=by omega
 have HMX:=hide hm
 clear h hal h2 hz v39 v42 v63 vE hm
 go_enter Tryz.func89,Tryz.ntmps89
 go_wp2_with fail
 generalize (w.alloc (.cells #[.int .i64 0,.string ⟨#[]⟩,.bool false,.bool false,.bool false,.int .i64 0,.int .i64 0,.int .i64 0,.slice none 0 0] 40))=wA at *
 refine (uh HP).mono ?_
 rintro e w1 ⟨rfl,r1,k1⟩
 have hz1:w.heap.size < w1.heap.size:=by have:=k1.size; have:=uh HZ; omega
 have HR1:=hide r1
 have HK1:=hide ((uh HK).kb k1 (by omega))
 have HKB1:=hide ((uh HKB).trans k1)
 clear HP r1 k1 HK HKB HZ
 by_cases h39:bt s i=39
 ·have b39:((bt s i:Int) == 39)=true:=by rw[h39]; rfl
  have HV:=hide (uh V39 h39)
  have HC:=hide (rQuoted rb s i d w1 (uh HR1) (by omega) hi)
  clear h39 V39 V42 V63 VE
  go_wp2_with fail
  refine (uh HC).mono ?_
  rintro e w2 ⟨k2,hno,hyes⟩
  clear HC
  cases hp:pStr (dr s i) with
  | none=>
   obtain rfl:=hno hp
   exact⟨rfl,(uh HKB1).trans k2,fun _=>rfl,fun x t h=>by rw[uh HV,hp] at h; cases h⟩
  | some q=>
   obtain⟨j,hj1,hj2,hj3,r2,rfl⟩:=hyes q.1 q.2 hp
   have HK2:=hide ((uh HK1).kb k2 (by omega))
   have HKB2:=hide ((uh HKB1).trans k2)
   have HR2:=hide r2
   have HV2:Hid (pSel n (dr s i)=some ((nameS q.1,0),dr s j)):=by show _=_; rw[uh HV,hp,← hj1]; rfl
   obtain⟨c0,c1,c2,c3,c4,c5,c6,c7,c8⟩:=(uh HK2).cs
   obtain⟨f0,f1,f2,f3,f4,f5,f6,f7,f8⟩:=(uh HK2).fz
   clear hno hyes hp k2 r2 hj1 HKB1 HK1 HR1
   go_wp2
   try simp only[Exit.inBlock,Exit.then]
   refine bodyPost_ret (results_cell_row rfl _ _ w.heap.size 40 #[_,_,_,_,_,_,_,_,_] (0,0) _ rfl (putN_full (uh HK2) [_,_,_,_,_,_,_,_,_] rfl) Tryz.underlying40 rfl (by kernel_rfl)) rfl ?_
   have hp:=SV.put (o:=nameS q.1) (q:=.slice none 0 0) (bl:=[]) (uh HKB2) (ORow.nil _ _) (Fsh.nil _)
   refine⟨hp.1,fun h=>(by rw[uh HV2] at h; cases h),fun x t h=>?_⟩
   rw[uh HV2] at h
   injection h with h
   injection h with h1 h2
   subst h1; subst h2
   exact⟨j,rfl,hj2,hj3,by show PRd rb s j (max d 0) _; rw[uh HMX]; exact (putN_other (by omega) [_,_,_,_,_,_,_,_,_] 0).trans (uh HR2),hp.2⟩
 ·have b39:((bt s i:Int) == 39)=false:=by rw[beq_eq_false_iff_ne]; omega
  by_cases h42:bt s i=42
  ·obtain⟨hil,-⟩:=bt_is 42 h42 (by decide)
   have HC:=hide (pskip_yes rb s i d w1 (uh HR1) (by omega) 42 h42 hil)
   have HV2:=hide (uh V42 h42)
   clear h39 h42 V39 V42 V63 VE
   go_wp2_with fail
   refine (uh HC).mono ?_
   rintro e w2 ⟨rfl,r2,k2⟩
   have HK2:=hide ((uh HK1).kb k2 (by omega))
   have HKB2:=hide ((uh HKB1).trans k2)
   have HR2:=hide r2
   obtain⟨c0,c1,c2,c3,c4,c5,c6,c7,c8⟩:=(uh HK2).cs
   obtain⟨f0,f1,f2,f3,f4,f5,f6,f7,f8⟩:=(uh HK2).fz
   clear HC k2 r2 HKB1 HK1 HR1
   go_wp2
   try simp only[Exit.inBlock,Exit.then]
   refine bodyPost_ret (results_cell_row rfl _ _ w.heap.size 40 #[_,_,_,_,_,_,_,_,_] (0,0) _ rfl (putN_full (uh HK2) [_,_,_,_,_,_,_,_,_] rfl) Tryz.underlying40 rfl (by kernel_rfl)) rfl ?_
   have hp:=SV.put (o:=allS) (q:=.slice none 0 0) (bl:=[]) (uh HKB2) (ORow.nil _ _) (Fsh.nil _)
   refine⟨hp.1,fun h=>(by rw[uh HV2] at h; cases h),fun x t h=>?_⟩
   rw[uh HV2] at h
   injection h with h
   injection h with h1 h2
   subst h1; subst h2
   exact⟨i+1,rfl,by omega,by omega,by show PRd rb s (i+1) (max d 0) _; rw[uh HMX]; exact (putN_other (by omega) [_,_,_,_,_,_,_,_,_] 0).trans (uh HR2),hp.2⟩
  ·have HC:=hide (pskip_no rb s i d w1 (uh HR1) hi 42 (.inl h42))
   go_wp2_with fail
   refine (uh HC).mono ?_
   rintro e w2 ⟨rfl,r2,k2⟩
   have HK2:=hide ((uh HK1).kb k2 (by omega))
   have HKB2:=hide ((uh HKB1).trans k2)
   have HR2:=hide r2
   have hz2:=k2.size
   clear HC k2 r2 HKB1 HK1 HR1
   by_cases h63:bt s i=63
   ·obtain⟨hil,-⟩:=bt_is 63 h63 (by decide)
    have HC:=hide (pskip_yes rb s i d w2 (uh HR2) (by omega) 63 h63 hil)
    have HV:=hide (uh V63 h63)
    clear h39 h42 h63 V39 V42 V63 VE
    go_wp2_with fail
    refine (uh HC).mono ?_
    rintro e w3 ⟨rfl,r3,k3⟩
    have HK3:=hide ((uh HK2).kb k3 (by omega))
    have HKB3:=hide ((uh HKB2).trans k3)
    have hz3:=k3.size
    have HC2:Hid (Calls Tryz.prog 112 #[.pointer (some ⟨rb,0,none⟩),.slice none 0 0,.int .i64 0] w3 (TRd rb s (i+1) (fun x=>max d ((0+x:Nat) : Int)) w3 w3.heap.size [] [] (pCd n (dr s (i+1))))):=
     rConds hs n (i+1) d 0 w3 w3.heap.size (.slice none 0 0) [] [] r3 (by omega) (by omega) (ORow.nil _ _) (Fsh.nil _) (Nat.le_refl _) (by omega) (by simp; omega) (by omega)
    clear HC r3 k3 HK2 HKB2 HR2
    go_wp2_with fail
    refine (uh HC2).mono ?_
    rintro e w4 ⟨fr4,hno,hyes⟩
    clear HC2
    have k4:=fr4.kb
    cases hp:pCd n (dr s (i+1)) with
    | none=>
     obtain rfl:=hno hp
     exact⟨rfl,(uh HKB3).trans k4,fun _=>rfl,fun x t h=>by rw[uh HV,hp] at h; cases h⟩
    | some z=>
     obtain⟨x,t⟩:=z
     obtain⟨j,v4,b4,hj1,hj2,hj3,r4,rfl,row4,fsh4,new4⟩:=hyes x t hp
     subst hj1
     rw[List.nil_append] at row4
     obtain⟨ya,yc,rfl,-,-⟩:=row4.form
     have HK4:=hide ((uh HK3).kb k4 (by omega))
     have HKB4:=hide ((uh HKB3).trans k4)
     have r4':PRd rb s j (max d ((0+x.2:Nat) : Int)) w4:=r4
     rw[Nat.zero_add] at r4'
     have HR4:=hide r4'
     have HROW:=hide row4
     have HFSH:=hide (fsh4.mono (show w.heap.size+1≤w3.heap.size by omega))
     have HV2:Hid (pSel n (dr s i)=some ((filS x.1,x.2),dr s j)):=by show _=_; rw[uh HV,hp]; rfl
     obtain⟨c0,c1,c2,c3,c4,c5,c6,c7,c8⟩:=(uh HK4).cs
     obtain⟨f0,f1,f2,f3,f4,f5,f6,f7,f8⟩:=(uh HK4).fz
     clear hno hyes hp fr4 k4 r4 r4' row4 fsh4 new4 HK3 HKB3
     go_wp2
     try simp only[Exit.inBlock,Exit.then]
     refine bodyPost_ret (results_cell_row rfl _ _ w.heap.size 40 #[_,_,_,_,_,_,_,_,_] (0,0) _ rfl (putN_full (uh HK4) [_,_,_,_,_,_,_,_,_] rfl) Tryz.underlying40 rfl (by kernel_rfl)) rfl ?_
     have hp:=SV.put (o:=filS x.1) (uh HKB4) (uh HROW) (uh HFSH)
     refine⟨hp.1,fun h=>(by rw[uh HV2] at h; cases h),fun y t h=>?_⟩
     rw[uh HV2] at h
     injection h with h
     injection h with h1 h2
     subst h1; subst h2
     exact⟨j,rfl,by omega,hj3,(putN_other (by omega) [_,_,_,_,_,_,_,_,_] 0).trans (uh HR4),hp.2⟩
   ·have HC:=hide (pskip_no rb s i d w2 (uh HR2) hi 63 (.inl h63))
    have HV:=hide (uh VE h39 h42 h63)
    clear h39 h42 h63 V39 V42 V63 VE
    go_wp2_with fail
    refine (uh HC).mono ?_
    rintro e w3 ⟨rfl,r3,k3⟩
    have HK3:=hide ((uh HK2).kb k3 (by omega))
    have HKB3:=hide ((uh HKB2).trans k3)
    have hz3:=k3.size
    have HC2:=hide (rIndex rb s i d w3 r3 (by omega) hi)
    clear HC r3 k3 HK2 HKB2 HR2
    go_wp2_with fail
    refine (uh HC2).mono ?_
    rintro e w4 ⟨k4,hno,hyes⟩
    clear HC2
    cases hp:pIS (dr s i) with
    | none=>
     obtain rfl:=hno hp
     exact⟨rfl,(uh HKB3).trans k4,fun _=>rfl,fun x t h=>by rw[uh HV,hp] at h; cases h⟩
    | some z=>
     obtain⟨x,t⟩:=z
     obtain⟨j,hj1,hj2,hj3,r4,qv,b4,rfl,row4,fsh4⟩:=hyes x t hp
     subst hj1
     obtain⟨ya,yc,rfl,-,-⟩:=row4.form
     have HK4:=hide ((uh HK3).kb k4 (by omega))
     have HKB4:=hide ((uh HKB3).trans k4)
     have HR4:=hide r4
     have HROW:=hide row4
     have HFSH:=hide (fsh4.mono (show w.heap.size+1≤w3.heap.size by omega))
     have HV2:Hid (pSel n (dr s i)=some ((x,0),dr s j)):=by show _=_; rw[uh HV,hp]; rfl
     obtain⟨c0,c1,c2,c3,c4,c5,c6,c7,c8⟩:=(uh HK4).cs
     obtain⟨f0,f1,f2,f3,f4,f5,f6,f7,f8⟩:=(uh HK4).fz
     clear hno hyes hp k4 r4 row4 fsh4 HK3 HKB3
     go_wp2
     try simp only[Exit.inBlock,Exit.then]
     refine bodyPost_ret (results_cell_row rfl _ _ w.heap.size 40 #[_,_,_,_,_,_,_,_,_] (0,0) _ rfl (putN_full (uh HK4) [_,_,_,_,_,_,_,_,_] rfl) Tryz.underlying40 rfl (by kernel_rfl)) rfl ?_
     have hp:=SV.put (o:=x) (uh HKB4) (uh HROW) (uh HFSH)
     refine⟨hp.1,fun h=>(by rw[uh HV2] at h; cases h),fun y t h=>?_⟩
     rw[uh HV2] at h
     injection h with h
     injection h with h1 h2
     subst h1; subst h2
     exact⟨j,rfl,hj2,hj3,by show PRd rb s j (max d 0) _; rw[uh HMX]; exact (putN_other (by omega) [_,_,_,_,_,_,_,_,_] 0).trans (uh HR4),hp.2⟩
theorem orow_one {α:Type} {e:Elem α} {w:World} {vs:List Value} {x:α} {ib:List Nat} (hE:e.E (w.alloc (.cells vs.toArray e.T)) vs x ib) (hl:vs.length=e.wd) : ORow e (w.alloc (.cells vs.toArray e.T)) (.slice (some ⟨w.heap.size,0,none⟩) 1 1) [x] (w.heap.size :: ib):=by
 refine⟨[(vs,ib)],rfl,fun j p y h1 h2=>?_,?_,by simp[Value.ownBlock]⟩
 ·match j,h1,h2 with
  | 0,h1,h2=>simp at h1 h2; subst h1; subst h2; exact hE
  | j+1,h1,_=>simp at h1
 ·have:=w.ownsRow_made (e:=e.T) (size:=e.wd) (base:=0) vs.toArray 1 (Nat.zero_le _) (by unfold maxLen; omega) (by simp[hl])
  refine⟨by simp[hl],.inr ⟨w.heap.size,1,vs.toArray,rfl,Nat.zero_le _,heap_alloc_new w _,Nat.le_refl _,by unfold maxLen; omega,by simp[hl],?_⟩⟩
  simp[← hl]
def LV (w:World) (L:List PSel) (e:Ending) (w':World) : Prop:=∃ (v:Value) (bl:List Nat),e = .returned v∧ORow selE w' v L bl∧Fsh w.heap.size bl
structure LS (rb:Nat) (s:ByteArray) (d:Int) (w wr:World) (x:XL) (j:Nat) (v:Value) (bl:List Nat) : Prop where
 kb:KB rb w wr
 rd:PRd rb s j (max d (x.2:Int)) wr
 row:ORow selE wr v x.1 bl
 fsh:Fsh w.heap.size bl
 nb:rb < w.heap.size
section
variable {rb:Nat} {s:ByteArray} {d:Int} {w wr:World} {x:XL} {j:Nat} {v:Value} {bl:List Nat}
theorem LS.far (h:LS rb s d w wr x j v bl) : rb ∉ bl:=fun hb=>by have:=h.fsh.2 _ hb; have:=h.nb; omega
theorem LS.step (h:LS rb s d w wr x j v bl) {w2:World} {j2:Nat} (hk:KB rb wr w2) (hr:PRd rb s j2 (max d (x.2:Int)) w2) : LS rb s d w w2 x j2 v bl:=
 ⟨h.kb.trans hk,hr,h.row.kb hk h.far,h.fsh,h.nb⟩
theorem LS.app (h:LS rb s d w wr x j v bl) {w1 w5 w2:World} {v2:Value} {b2 ib:List Nat} {y:PSel} {dy:Nat} {j2:Nat} (hk:KB rb wr w1) (hb:Below w1.heap.size w1 w5) (hr:PRd rb s j2 (max (max d (x.2:Int)) (dy:Int)) w1) (hrow:ORow selE w5 v x.1 bl) (hA:Appd selE w.heap.size w5 w2 v v2 bl ib b2 (x.1++[y])) : LS rb s d w w2 (joinS x (y,dy)) j2 v2 b2:=by
 have hk5:KB rb w w5:=(h.kb.trans hk).trans (KB.of_below hb)
 refine⟨kb_below hk5 ((Below.refl _ _).grown hA.grown hk5.size fun g hg=>h.fsh.2 _ (hrow.head hg)),?_,hA.row,hA.fsh,h.nb⟩
 have e:max (max d (x.2:Int)) (dy:Int)=max d ((max x.2 dy:Nat) : Int):=by omega
 rw[e] at hr
 exact (hA.block hrow (hr.below hb).lt h.far).trans (hr.below hb)
end
def LU (n:Nat) (s:ByteArray) (R:Option (XL×Bs)) (x:XL) (j:Nat) : Prop:=∃ m,(dr s j).length < m∧R=pSMore n m x (dr s j)
theorem LU.fin {n:Nat} {s:ByteArray} {R:Option (XL×Bs)} {x:XL} {j:Nat} (h:LU n s R x j) (hc:¬ bt s j=44) : R=some (x,dr s j):=by
 obtain⟨m,hm,hR⟩:=h
 obtain⟨q,rfl⟩ : ∃ q,m=q+1:=⟨m - 1,by omega⟩
 by_cases hj:j < s.size
 ·rw[hR,dr_at hj,pSMore_con,if_neg (bt_ne hj 44 hc)]
 ·rw[hR,dr_end (by omega),pSMore_nil]
theorem LU.go {n:Nat} {s:ByteArray} {R:Option (XL×Bs)} {x:XL} {j:Nat} (h:LU n s R x j) (hc:bt s j=44) : (pSel n (dr s (j+1))=none→R=none)∧∀ y q,pSel n (dr s (j+1))=some (y,dr s q)→j+1≤q→q≤s.size→LU n s R (joinS x y) q:=by
 obtain⟨m,hm,hR⟩:=h
 obtain⟨m,rfl⟩ : ∃ q,m=q+1:=⟨m - 1,by omega⟩
 obtain⟨hj,hcc⟩:=bt_is 44 hc (by decide)
 have e:R=match pSel n (dr s (j+1)) with
   | none=>none
   | some (y,u)=>pSMore n m (joinS x y) u:=by
  rw[hR,dr_at hj,pSMore_con,if_pos hcc]
  rfl
 exact⟨fun hn=>by rw[e,hn],fun y q hy hq1 hq2=>⟨m,by rw[dr_len] at hm ⊢; omega,by rw[e,hy]⟩⟩
theorem rSels (n rb:Nat) (s:ByteArray) (i:Nat) (d:Int) (w:World) (h:PRd rb s i d w) (hs:s.size≤1000000) (hi:i≤s.size) (hd:0≤d) (hn:s.size < n) :
  Calls Tryz.prog 70 #[.pointer (some ⟨rb,0,none⟩)] w (RdD rb s i d w (pBr n (dr s i)) (LV w)):=by
 have hlt:=h.lt
 have HC:=hide (rSel n rb s i d w h hs hi hd hn)
 have HSEL:=hide (fun (j:Nat) (D:Int) (w:World) (hj:j≤s.size) (hD:0≤D) h=>rSel n rb s j D w h hs hj hD hn)
 have HV:Hid (pBr n (dr s i)=match pSels n (dr s i) with
  | none=>none
  | some (x,t)=>match t with
   | []=>none
   | d :: u=>if d=93 then some (x,u) else none):=rfl
 have HV0:Hid (pSels n (dr s i)=match pSel n (dr s i) with
  | none=>none
  | some (y,t)=>pSMore n (t.length+1) ([y.1],y.2) t):=rfl
 clear h
 go_enter Tryz.func70,Tryz.ntmps70
 go_wp2_with fail
 refine (uh HC).mono ?_
 rintro e w1 ⟨k1,hno,hyes⟩
 clear HC
 cases hp:pSel n (dr s i) with
 | none=>
  obtain rfl:=hno hp
  exact⟨rfl,k1,fun _=>rfl,fun x t h=>by rw[uh HV,uh HV0,hp] at h; cases h⟩
 | some z=>
  obtain⟨⟨y,dy⟩,t⟩:=z
  obtain⟨j,hj1,hj2,hj3,r1,qv,ib,rfl,row1,fsh1⟩:=hyes (y,dy) t hp
  subst hj1
  obtain⟨qa,qc,rfl,-,-⟩:=row1.form
  have hz1:=k1.size
  have hal:=al_b w1 (.cells #[.int .i64 y.k,.string y.name,.bool y.hasA,.bool y.hasB,.bool y.hasC,.int .i64 y.a,.int .i64 y.b,.int .i64 y.c,.slice qa y.cond.length qc] 40)
  have hro:=orow_one (e:=selE) (w:=w1) (vs:=[.int .i64 y.k,.string y.name,.bool y.hasA,.bool y.hasB,.bool y.hasC,.int .i64 y.a,.int .i64 y.b,.int .i64 y.c,.slice qa y.cond.length qc]) (x:=y) (ib:=ib) ⟨_,rfl,row1.below hal⟩ rfl
  have S1:Hid (LS rb s d w (w1.alloc (.cells #[.int .i64 y.k,.string y.name,.bool y.hasA,.bool y.hasB,.bool y.hasC,.int .i64 y.a,.int .i64 y.b,.int .i64 y.c,.slice qa y.cond.length qc] 40)) ([y],dy) j (.slice (some ⟨w1.heap.size,0,none⟩) 1 1) (w1.heap.size :: ib)):=
   ⟨k1.trans (KB.of_below hal),r1.below hal,hro,⟨List.nodup_cons.2 ⟨fun hb=>by have:=row1.lt _ hb; omega,fsh1.1⟩,fun b hb=>by
    rcases List.mem_cons.1 hb with rfl | hb
    ·omega
    ·exact fsh1.2 b hb⟩,hlt⟩
  have U1:Hid (LU n s (pSels n (dr s i)) ([y],dy) j):=⟨_,Nat.lt_succ_self _,by rw[uh HV0,hp]⟩
  clear hno hyes hp k1 r1 row1 fsh1 hal hro HV0
  generalize pSels n (dr s i)=R at *
  go_wp2_with fail
  generalize (w1.alloc (.cells #[.int .i64 y.k,.string y.name,.bool y.hasA,.bool y.hasB,.bool y.hasC,.int .i64 y.a,.int .i64 y.b,.int .i64 y.c,.slice qa y.cond.length qc] 40))=w2 at *
  go_loopg [3] (s.size+1 - j) (fun gk ov wr=>∃ (j:Nat) (x:XL) (oa:Option Addr) (ol oc:Nat) (bc:List Nat),gk=s.size+1 - j∧i≤j∧j≤s.size∧x.1.length≤j+1∧ov = .slice oa ol oc∧Hid (LU n s R x j)∧Hid (LS rb s d w wr x j (.slice oa ol oc) bc))
  case atStart=>exact⟨j,([y],dy),_,_,_,_,rfl,hj2,hj3,by simp,rfl,U1,S1⟩
  case round=>
   obtain⟨j,x,oa,ol,oc,bc,hg,hij,hjl,hxl,rfl,hu,hls⟩:=hrel
   clear S1 U1
   have hD:0≤max d (x.2:Int):=by omega
   by_cases hc:bt s j=44
   ·obtain⟨hjs,-⟩:=bt_is 44 hc (by decide)
    have HC1:=hide (pskip_yes rb s j _ wr (uh hls).rd (by omega) 44 hc hjs)
    obtain⟨hu1,hu2⟩:=(uh hu).go hc
    have HU1:=hide hu1
    have HU2:=hide hu2
    clear hc hu hu1 hu2
    go_wp2_with fail
    refine (uh HC1).mono ?_
    rintro e w3 ⟨rfl,r3,k3⟩
    have S3:=hide ((uh hls).step k3 r3)
    have HC2:=hide (uh HSEL (j+1) _ w3 (by omega) hD r3)
    clear HC1 r3 k3 hls
    go_wp2_with fail
    refine (uh HC2).mono ?_
    rintro e w4 ⟨k4,hno,hyes⟩
    clear HC2
    cases hp:pSel n (dr s (j+1)) with
    | none=>
     obtain rfl:=hno hp
     exact⟨rfl,(uh S3).kb.trans k4,fun _=>rfl,fun x t h=>by rw[uh HV,uh HU1 hp] at h; cases h⟩
    | some z=>
     obtain⟨⟨y,dy⟩,t⟩:=z
     obtain⟨q,hq1,hq2,hq3,r4,qv,ib,rfl,row4,fsh4⟩:=hyes (y,dy) t hp
     subst hq1
     obtain⟨ya,yc,rfl,-,-⟩:=row4.form
     have hz3:=(uh S3).kb.size
     have hz4:=k4.size
     have hal:=al_b w4 (.cells #[.int .i64 y.k,.string y.name,.bool y.hasA,.bool y.hasB,.bool y.hasC,.int .i64 y.a,.int .i64 y.b,.int .i64 y.c,.slice ya y.cond.length yc] 40)
     have ROW5:=hide ((((uh S3).row).kb k4 (uh S3).far).below hal)
     have EL:=hide (show selE.E (w4.alloc (.cells #[.int .i64 y.k,.string y.name,.bool y.hasA,.bool y.hasB,.bool y.hasC,.int .i64 y.a,.int .i64 y.b,.int .i64 y.c,.slice ya y.cond.length yc] 40)) [.int .i64 y.k,.string y.name,.bool y.hasA,.bool y.hasB,.bool y.hasC,.int .i64 y.a,.int .i64 y.b,.int .i64 y.c,.slice ya y.cond.length yc] y ib from ⟨_,rfl,row4.below hal⟩)
     have FSH5:=hide (uh S3).fsh
     have FI:=hide (fsh4.mono hz3)
     have AP:Hid (∀ b∈ib,b ∉ bc):=fun b hb hbl=>by have h1:=fsh4.2 b hb; have h2:=(uh S3).row.lt b hbl; omega
     have HU4:=hide (uh HU2 (y,dy) q hp (by omega) hq3)
     have HR4:=hide r4
     have HK4:=hide k4
     clear hno hyes hp k4 r4 row4 fsh4 hal HU1 HU2
     go_wp2_with (at_builtin; refine wpl_app1 ekSel rfl (.tmp 11) (.tmp 14) rfl rfl (uh ROW5) (uh FSH5) (vs:=[.int .i64 y.k,.string y.name,.bool y.hasA,.bool y.hasB,.bool y.hasC,.int .i64 y.a,.int .i64 y.b,.int .i64 y.c,.slice ya y.cond.length yc]) (y:=y) (uh EL) (uh FI) (uh AP) rfl (by exact lit_cells w4 [_,_,_,_,_,_,_,_,_] _) (sel_one _ _ _ _ _ _ _ _ _ _ _) (by simp; omega) (by omega) ?_)
     intro v5 w5 b5 hA
     have S5:=hide ((uh S3).app (dy:=dy) (uh HK4) (al_b w4 _) (uh HR4) (uh ROW5) hA)
     obtain⟨za,zc,hza,-,-⟩:=hA.row.form
     obtain⟨L3,hL3⟩ : ∃ L,(x.1++[y]).length=L:=⟨_,rfl⟩
     rw[hL3] at hza
     subst hza
     clear hA hL3
     go_wp2
     go_roundg (s.size+1 - q)
     case rel=>exact⟨q,joinS x (y,dy),za,_,zc,b5,rfl,by omega,hq3,by show (x.1++[y]).length≤_; simp; omega,rfl,HU4,S5⟩
     case measure=>omega
   ·have HC1:=hide (pskip_no rb s j _ wr (uh hls).rd hjl 44 (.inl hc))
    have HF1:=hide ((uh hu).fin hc)
    clear hc hu
    go_wp2_with fail
    refine (uh HC1).mono ?_
    rintro e w3 ⟨rfl,r3,k3⟩
    have S3:=hide ((uh hls).step k3 r3)
    clear HC1 r3 k3 hls
    have HV2:Hid (pBr n (dr s i)=match dr s j with
     | []=>none
     | d :: u=>if d=93 then some (x,u) else none):=by show _=_; rw[uh HV,uh HF1]
    by_cases h93:bt s j=93
    ·obtain⟨hjs,hjc⟩:=bt_is 93 h93 (by decide)
     have HC2:=hide (pexpect_yes rb s j _ w3 (uh S3).rd (by omega) 93 h93 hjs)
     have HR:Hid (pBr n (dr s i)=some (x,dr s (j+1))):=by show _=_; rw[uh HV2,dr_at hjs]; simp only; rw[if_pos hjc]
     clear h93 hjc HV2
     go_wp2_with fail
     refine (uh HC2).mono ?_
     rintro e w4 ⟨rfl,r4,k4⟩
     have S4:=hide ((uh S3).step k4 r4)
     clear HC2 r4 k4
     go_wp2
     try simp only[Exit.inBlock,Exit.then]
     go_ret
     refine⟨(uh S4).kb,fun h=>(by rw[uh HR] at h; cases h),fun x t h=>?_⟩
     rw[uh HR] at h
     injection h with h
     injection h with h1 h2
     subst h1; subst h2
     exact⟨j+1,rfl,by omega,by omega,(uh S4).rd,_,bc,rfl,(uh S4).row,(uh S4).fsh⟩
    ·have HC2:=hide (pexpect_no rb s j _ w3 (uh S3).rd (by omega) hjl 93 (.inl h93))
     have HF2:Hid (pBr n (dr s i)=none):=by
      show _=_
      rw[uh HV2]
      by_cases hjs:j < s.size
      ·rw[dr_at hjs]; simp only; rw[if_neg (bt_ne hjs 93 h93)]
      ·rw[dr_end (by omega)]
     clear h93 HV2
     go_wp2_with fail
     refine (uh HC2).mono ?_
     rintro e w4 ⟨rfl,k4⟩
     exact⟨rfl,(uh S3).kb.trans k4,fun _=>rfl,fun x t h=>by rw[uh HF2] at h; cases h⟩
end Go.Proofs.YtkjcgkfejdogbaaGreatDoor
