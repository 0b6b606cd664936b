import Derived.Maps.RangeWalk
import Derived.Test.YtocnekbedcnmgaaGreatDoorBp3
import Derived.Test.YtocnekbedcnmgaaGreatDoorBp39
import Derived.Test.YtocnekbedcnmgaaGreatDoorBp30
import Derived.Deep.RegionLaw
namespace Go.Proofs.YtocnekbedcnmgaaGreatDoor
open Go.RowKit Go.Sort

set_option maxRecDepth 100000 in
set_option maxHeartbeats 800000 in
theorem holder_walk (n : Nat) (w : World) (hn : n ≤ 10000000) :
    Calls Tryz.prog 113 #[.int .i64 (n : Int)] w fun e w' => e = .returned (szV 1 1 (hold n)) ∧ Below w.heap.size w w' := by
  have hm : max (0 : Int) ((n : Int) - 1) = ((n - 1 : Nat) : Int) := by omega
  have RX : Hid (Szb w.heap.size 1 1 (hold n) (w.alloc (.cells #[.int .i64 1, .int .i64 1, .int .i64 (2 + ((n - 1 : Nat) : Int))] 101))) := by
    have e : (2 + ((n - 1 : Nat) : Int)) = ((hold n : Nat) : Int) := by unfold hold; omega
    rw [e]; exact heap_alloc_new w _
  go_enter Tryz.func113, Tryz.ntmps113
  go_wp2
  try simp only [Exit.inBlock, Exit.then]
  refine bodyPost_ret (szb_ret rfl rfl (unhide RX)) rfl ?_
  exact ⟨rfl, (Below.refl _ _).alloc (Nat.le_refl _) _⟩

/-- What a value's size promises. -/
def SizeC (v : JV) : Prop := ∀ (w : World) (S : Nat → Prop) (t : TypeId) (p : Value), Rep w S v (.iface t p) → (∀ k, S k → k < w.heap.size) → PowB w.heap.size w → (ct v).length ≤ 10000000 → cntV v ≤ 10000000 → depV v ≤ 10000000 →
  Calls Tryz.prog 59 #[.iface t p] w fun e w' => e = .returned (szV (depV v) (cntV v) (ct v).length) ∧ Below w.heap.size w w'
theorem grown_of {w w' : World} (h : Below w.heap.size w w') : w.grownBy w' none := ⟨h.os, h.tape, h.output, h.size, fun k hk _ => h.block k hk⟩
theorem grown_set (w : World) (p : Addr) (v : Value) : w.grownBy (w.setCell p v) (some p.block) := by
  refine ⟨(Below.refl 0 w |>.setCell (p := p) (Nat.zero_le _) v).os, (Below.refl 0 w |>.setCell (p := p) (Nat.zero_le _) v).tape, (Below.refl 0 w |>.setCell (p := p) (Nat.zero_le _) v).output, (Below.refl 0 w |>.setCell (p := p) (Nat.zero_le _) v).size, fun k hk hne => Below.heap_setCell w p v k (fun e => hne (by rw [e]))⟩

set_option maxRecDepth 100000 in
set_option maxHeartbeats 4000000 in
theorem incl_walk (sb d c n d1 c1 n1 : Nat) (t : TypeId) (p : Value) (w : World) (h : Szb sb d c n w) (hd : d ≤ 10000000) (hd1 : d1 ≤ 10000000) (hc : c ≤ 10000000) (hc1 : c1 ≤ 10000000) (hn : n ≤ 1000000000) (hn1 : n1 ≤ 1000000000)
    (hs : Calls Tryz.prog 59 #[.iface t p] w fun e w' => e = .returned (szV d1 c1 n1) ∧ Below w.heap.size w w') :
    Calls Tryz.prog 114 #[.pointer (some ⟨sb, 0, none⟩), .iface t p] w fun e w' => e = .returned (.tuple #[]) ∧ Szb sb (max d (d1 + 1)) (c + c1) (n + n1) w' ∧ w.grownBy w' (some sb) := by
  have HS := hide hs
  have H := hide h
  clear hs h
  go_enter Tryz.func114, Tryz.ntmps114
  go_wp2_with fail
  refine (unhide HS).mono ?_
  rintro e w1 ⟨rfl, b1⟩
  have H1 := (unhide H).below b1
  have hlt1 := H1.lt
  have H2 := H1.alloc (szB d1 c1 n1)
  have N2 : Szb w1.heap.size d1 c1 n1 (w1.alloc (szB d1 c1 n1)) := heap_alloc_new w1 _
  have G2 := (grown_of b1).andThen (World.grownBy_alloc w1 (szB d1 c1 n1) none) (fun j e => by cases e)
  clear HS H H1 b1
  obtain ⟨M, hM⟩ : ∃ M, max d (d1 + 1) = M := ⟨_, rfl⟩
  have hm : max (d : Int) ((d1 : Int) + 1) = (M : Int) := by omega
  have HM := hide hM
  have hM2 : M ≤ 10000001 := by omega
  clear hM
  simp only [szV]
  go_wp2_with fail
  generalize hW : w1.alloc (szB d1 c1 n1) = W at *
  clear hW
  have A0 : W.drew.cell? ⟨sb, 0, none⟩ = some (.int .i64 (d : Int)) := H2.c0
  have A1 : W.drew.cell? ⟨w1.heap.size, 0, none⟩ = some (.int .i64 (d1 : Int)) := N2.c0
  have A2 : W.drew.frozen? ⟨sb, 0, none⟩ = false := H2.fz 0
  have H3 : Hid (Szb sb M c n (W.setCell ⟨sb, 0, none⟩ (.int .i64 (M : Int))).drew) := Szb.set0 (w := W) H2 (M : Int) _ (by omega)
  have N3 : Hid (Szb w1.heap.size d1 c1 n1 (W.setCell ⟨sb, 0, none⟩ (.int .i64 (M : Int))).drew) := Szb.other (w := W) N2 (p := ⟨sb, 0, none⟩) (by show w1.heap.size ≠ sb; omega) _
  have G3 : Hid (w.grownBy (W.setCell ⟨sb, 0, none⟩ (.int .i64 (M : Int))).drew (some sb)) := by
    have g := (World.grownBy.but G2 (some sb)).andThen (grown_set W ⟨sb, 0, none⟩ (.int .i64 (M : Int))) (fun j e => .inr e)
    exact ⟨g.os, g.tape, g.output, g.size, g.block⟩
  clear H2 N2 G2
  go_region
  clear A0 A1 A2 hm
  generalize (W.setCell ⟨sb, 0, none⟩ (.int .i64 (M : Int))).drew = W3 at *
  go_wp2_with fail
  have A0 : W3.drew.cell? ⟨sb, 1, none⟩ = some (.int .i64 (c : Int)) := (unhide H3).c1
  have A1 : W3.drew.cell? ⟨w1.heap.size, 1, none⟩ = some (.int .i64 (c1 : Int)) := (unhide N3).c1
  have A2 : W3.drew.frozen? ⟨sb, 1, none⟩ = false := (unhide H3).fz 1
  have H4 : Hid (Szb sb M (c + c1) n (W3.setCell ⟨sb, 1, none⟩ (.int .i64 ((c : Int) + (c1 : Int)))).drew) := Szb.set1 (w := W3) (unhide H3) ((c : Int) + (c1 : Int)) _ (by omega)
  have N4 : Hid (Szb w1.heap.size d1 c1 n1 (W3.setCell ⟨sb, 1, none⟩ (.int .i64 ((c : Int) + (c1 : Int)))).drew) := Szb.other (w := W3) (unhide N3) (p := ⟨sb, 1, none⟩) (by show w1.heap.size ≠ sb; omega) _
  have G4 : Hid (w.grownBy (W3.setCell ⟨sb, 1, none⟩ (.int .i64 ((c : Int) + (c1 : Int)))).drew (some sb)) := by
    have g := (unhide G3).andThen (grown_set W3 ⟨sb, 1, none⟩ (.int .i64 ((c : Int) + (c1 : Int)))) (fun j e => .inr e)
    exact ⟨g.os, g.tape, g.output, g.size, g.block⟩
  clear H3 N3 G3
  go_region
  clear A0 A1 A2
  generalize (W3.setCell ⟨sb, 1, none⟩ (.int .i64 ((c : Int) + (c1 : Int)))).drew = W4 at *
  go_wp2_with fail
  have A0 : W4.drew.cell? ⟨sb, 2, none⟩ = some (.int .i64 (n : Int)) := (unhide H4).c2
  have A1 : W4.drew.cell? ⟨w1.heap.size, 2, none⟩ = some (.int .i64 (n1 : Int)) := (unhide N4).c2
  have A2 : W4.drew.frozen? ⟨sb, 2, none⟩ = false := (unhide H4).fz 2
  have H5 : Hid (Szb sb M (c + c1) (n + n1) (W4.setCell ⟨sb, 2, none⟩ (.int .i64 ((n : Int) + (n1 : Int)))).drew) := Szb.set2 (w := W4) (unhide H4) ((n : Int) + (n1 : Int)) _ (by omega)
  have N5 : Hid (Szb w1.heap.size d1 c1 n1 (W4.setCell ⟨sb, 2, none⟩ (.int .i64 ((n : Int) + (n1 : Int)))).drew) := Szb.other (w := W4) (unhide N4) (p := ⟨sb, 2, none⟩) (by show w1.heap.size ≠ sb; omega) _
  have G5 : Hid (w.grownBy (W4.setCell ⟨sb, 2, none⟩ (.int .i64 ((n : Int) + (n1 : Int)))).drew (some sb)) := by
    have g := (unhide G4).andThen (grown_set W4 ⟨sb, 2, none⟩ (.int .i64 ((n : Int) + (n1 : Int)))) (fun j e => .inr e)
    exact ⟨g.os, g.tape, g.output, g.size, g.block⟩
  clear H4 N4 G4
  go_region
  clear A0 A1 A2
  generalize (W4.setCell ⟨sb, 2, none⟩ (.int .i64 ((n : Int) + (n1 : Int)))).drew = W5 at *
  go_wp2
  go_end0
  exact ⟨rfl, by rw [unhide HM]; exact unhide H5, unhide G5⟩
end Go.Proofs.YtocnekbedcnmgaaGreatDoor


namespace Go.Proofs.YtocnekbedcnmgaaGreatDoor
open Go.RowKit Go.Sort

theorem nl_snoc (a : List (List UInt8)) (t : List UInt8) : nl (a ++ [t]) = nl a + t.length := by simp [nl]
theorem PowB.more {B B' : Nat} {w : World} (h : PowB B w) (hB : B ≤ B') : PowB B' w := ⟨Nat.lt_of_lt_of_le h.1 hB, h.2⟩
theorem below_grownBy {w w' : World} {sb B : Nat} (h : w.grownBy w' (some sb)) (hB : B ≤ sb) (hs : sb < w.heap.size) : Below B w w' :=
  ⟨h.os, h.tape, h.output, h.size, fun k hk => h.block k (by omega) (by intro e; injection e with e; omega)⟩

set_option maxRecDepth 100000 in
set_option maxHeartbeats 8000000 in
theorem size_arr (l : JL) (hall : ∀ v ∈ l.toL, SizeC v) : SizeC (.arr l) := by
  intro w S t p h hS hP hlen hcn hdp
  rw [Rep] at h
  obtain ⟨ab, sv, xs, h, hSab, hab, hrow, hrl⟩ := h
  injection h with h1 h2; subst h1; subst h2
  obtain ⟨a, g, cap, rfl, hadr, hcell⟩ := row_shape hrow
  have hxl := (repL_at l xs hrl).1
  have hc0 : w.cell? ⟨ab, 0, none⟩ = some (.slice a xs.length cap) := by rw [Lib.cell_of_heap hab]; rfl
  have hablt : ab < w.heap.size := hS _ hSab
  have hct : (ct (.arr l)).length = hold xs.length + nl (ctL l) := by
    show (mkA (ctL l)).length = _
    have := joinC_nl (ctL l)
    have e : (ctL l).length = xs.length := by rw [ctL_map, List.length_map, hxl]
    rw [e] at this
    simp [mkA]; omega
  have hcv : cntV (.arr l) = cl l.toL + 1 := by rw [cntV, cntL_cl]
  have hdv : depV (.arr l) = dl l.toL + 1 := by rw [depV, depL_dl]
  have hxn : xs.length ≤ 10000000 := by unfold hold at hct; omega
  have HR : Hid (szV (depV (.arr l)) (cntV (.arr l)) (ct (.arr l)).length = szV (dl l.toL + 1) (cl l.toL + 1) (hold xs.length + nl (ctL l))) := by show _ = _; rw [hcv, hdv, hct]
  rw [hct] at hlen
  rw [hcv] at hcn
  rw [hdv] at hdp
  have HALL : Hid (∀ (k : Nat) (hk : k < xs.length), ∃ t p dk ck nk, xs[k] = .iface t p ∧ dk ≤ 10000000 ∧ ck ≤ 10000000 ∧ nk ≤ 10000000 ∧ dl (l.toL.take (k + 1)) = max (dl (l.toL.take k)) dk ∧ cl (l.toL.take (k + 1)) = cl (l.toL.take k) + ck ∧ nl ((ctL l).take (k + 1)) = nl ((ctL l).take k) + nk ∧
      ∀ wr : World, Below w.heap.size w wr → Calls Tryz.prog 59 #[.iface t p] wr fun e w' => e = .returned (szV dk ck nk) ∧ Below wr.heap.size wr w') := by
    intro k hk
    have hk' : k < l.toL.length := by omega
    have hr := (repL_at l xs hrl).2 k hk hk'
    obtain ⟨t, p, he⟩ := rep_iface hr
    rw [he] at hr
    have d1 := dl_at l.toL k hk'
    have c1 : cntV l.toL[k] ≤ cl l.toL := by have := sum_at (l.toL.map cntV) k (by simpa using hk'); simpa [cl] using this
    have n1 : (ct l.toL[k]).length ≤ nl (ctL l) := by have := sum_at ((ctL l).map List.length) k (by rw [ctL_map]; simpa using hk'); simpa [nl, ctL_map] using this
    refine ⟨t, p, depV l.toL[k], cntV l.toL[k], (ct l.toL[k]).length, he, by omega, by omega, by omega, ?_, ?_, ?_, fun wr hb' => ?_⟩
    · rw [List.take_succ_eq_append_getElem hk']; exact dl_snoc _ _
    · rw [List.take_succ_eq_append_getElem hk']; exact cl_snoc _ _
    · rw [List.take_succ_eq_append_getElem (show k < (ctL l).length by rw [ctL_map, List.length_map]; exact hk'), nl_snoc]
      simp [ctL_map]
    · have hr' := Rep.keep (w' := wr) (S' := S) (fun k hk => hb'.block k (hS k hk)) (fun _ h => h) _ _ hr
      exact hall _ (List.getElem_mem hk') wr S t p hr' (fun k hk => Nat.lt_of_lt_of_le (hS k hk) hb'.size) ((hP.next hb' (Nat.le_refl _)).more hb'.size) (by omega) (by omega) (by omega)
  have HB1 : Hid (∀ k, dl (l.toL.take k) ≤ dl l.toL ∧ cl (l.toL.take k) ≤ cl l.toL ∧ nl ((ctL l).take k) ≤ nl (ctL l)) := fun k => by
    refine ⟨dl_take _ _, ?_, ?_⟩
    · unfold cl; rw [List.map_take]; exact sum_take _ _
    · unfold nl; rw [List.map_take]; exact sum_take _ _
  have HE : Hid (l.toL.take xs.length = l.toL ∧ (ctL l).take xs.length = ctL l) := ⟨List.take_of_length_le (by omega), List.take_of_length_le (by rw [ctL_map, List.length_map]; omega)⟩
  have HC : Hid (∀ j (hj : j < xs.length) (wr : World), Below w.heap.size w wr → wr.cell? ⟨g, j, none⟩ = some xs[j]) := fun j hj wr hb' => by
    have hg : g < w.heap.size := hS _ ((hadr (by omega)).2)
    exact (hb'.cell (p := ⟨g, j, none⟩) hg).trans (hcell j hj)
  have hadr' : 0 < xs.length → a = some ⟨g, 0, none⟩ := fun h => (hadr h).1
  have HH : Hid (Calls Tryz.prog 113 #[.int .i64 (xs.length : Int)] (w.alloc (szB 0 0 0)) fun e w' => e = .returned (.agg #[.int .i64 1, .int .i64 1, .int .i64 ((hold xs.length : Nat) : Int)]) ∧ Below (w.alloc (szB 0 0 0)).heap.size (w.alloc (szB 0 0 0)) w') := holder_walk xs.length (w.alloc (szB 0 0 0)) hxn
  have t1 : ∀ w : World, (Instr.typeAssert (.iface 117 (.pointer (some ⟨ab, 0, none⟩))) 65 117 true).run Tryz.prog w = .ok (.tuple #[.pointer (some ⟨ab, 0, none⟩), .bool true]) w := fun _ => by kernel_rfl
  have hca : (w.alloc (.cells #[.int .i64 0, .int .i64 0, .int .i64 0] 101)).cell? ⟨ab, 0, none⟩ = some (.slice a xs.length cap) := ((szb_below w).cell (p := ⟨ab, 0, none⟩) hablt).trans hc0
  have hlt0 : w.heap.size < (w.alloc (szB 0 0 0)).heap.size := by simp
  generalize hvs : l.toL = vs at *
  generalize ctL l = cs at *
  clear hrow hrl hcell hadr hS hP hab hct hcv hdv hall hxl hSab hc0 hvs
  go_enter Tryz.func59, Tryz.ntmps59
  go_wp2_with fail
  refine (unhide HH).mono ?_
  rintro e w1 ⟨rfl, b1⟩
  have R1 := (szb_new w).below b1
  have c1 : w1.cell? ⟨ab, 0, none⟩ = some (.slice a xs.length cap) := (b1.cell (p := ⟨ab, 0, none⟩) (by show ab < _; omega)).trans hca
  have hw1 := b1.size
  have B1 := below_next (szb_below w) b1
  have c2 : (w1.alloc (.cells #[.int .i64 1, .int .i64 1, .int .i64 ((hold xs.length : Nat) : Int)] 101)).cell? ⟨ab, 0, none⟩ = some (.slice a xs.length cap) := ((Below.refl w1.heap.size w1).alloc (Nat.le_refl _) (szB 1 1 (hold xs.length)) |>.cell (p := ⟨ab, 0, none⟩) (by show ab < _; omega)).trans c1
  have S2 : Hid (Szb w1.heap.size 1 1 (hold xs.length) (w1.alloc (szB 1 1 (hold xs.length)))) := heap_alloc_new w1 _
  have R2 := hide (R1.alloc (szB 1 1 (hold xs.length)))
  have B2 := hide (B1.alloc B1.size (szB 1 1 (hold xs.length)))
  have hlt2 : w1.heap.size < (w1.alloc (szB 1 1 (hold xs.length))).heap.size := by simp
  clear HH R1 b1 hca c1 B1
  have E0 : Hid (dl (vs.take 0) + 1 = 1 ∧ cl (vs.take 0) + 1 = 1 ∧ hold xs.length + nl (cs.take 0) = hold xs.length) := ⟨rfl, rfl, rfl⟩
  go_wp2_with fail
  go_loopw [26] (fun i wr => ∃ k : Nat, k ≤ xs.length ∧ i = .int .i64 k ∧ Szb w1.heap.size (dl (vs.take k) + 1) (cl (vs.take k) + 1) (hold xs.length + nl (cs.take k)) wr ∧ (w1.alloc (szB 1 1 (hold xs.length))).grownBy wr (some w1.heap.size)) (fun i _ => xs.length - (intOf i).toNat)
  case atStart => exact ⟨0, Nat.zero_le _, rfl, unhide S2, World.grownBy.refl _ _⟩
  case round =>
    obtain ⟨k, hk, rfl, hz, hg⟩ := hrel
    have bw := (unhide B2).trans (below_grownBy hg (B := w.heap.size) (by omega) hlt2)
    clear S2
    by_cases hlt : k < xs.length
    · have hltI : (k : Int) < (xs.length : Int) := by omega
      obtain rfl := hadr' (by omega)
      have hck := unhide HC k hlt wr bw
      obtain ⟨t, p, dk, ck, nk, he, hd1, hc1, hn1, e1, e2, e3, hcall⟩ := unhide HALL k hlt
      rw [he] at hck
      obtain ⟨x1, x2, x3⟩ := unhide HB1 k
      have HI := hide (incl_walk w1.heap.size _ _ _ dk ck nk t p wr hz (by omega) hd1 (by omega) hc1 (by unfold hold; omega) (by omega) (hcall wr bw))
      have HE1 := hide e1
      have HE2 := hide e2
      have HE3 := hide e3
      have HG := hide hg
      have HBW := hide bw
      clear hz he e1 e2 e3 hcall hg bw HALL HC x1 x2 x3
      go_wp2_with fail
      refine (unhide HI).mono ?_
      rintro e w2 ⟨rfl, z2, g2⟩
      have G2 := hide ((unhide HG).andThen g2 (fun j e => .inr e))
      have Z2 : Hid (Szb w1.heap.size (dl (vs.take (k + 1)) + 1) (cl (vs.take (k + 1)) + 1) (hold xs.length + nl (cs.take (k + 1))) w2) := by
        rw [unhide HE1, unhide HE2, unhide HE3]
        rw [show max (dl (vs.take k)) dk + 1 = max (dl (vs.take k) + 1) (dk + 1) by omega, show cl (vs.take k) + ck + 1 = cl (vs.take k) + 1 + ck by omega, show hold xs.length + (nl (cs.take k) + nk) = hold xs.length + nl (cs.take k) + nk by omega]
        exact z2
      clear HI hck z2 g2
      go_wp2
      go_roundw
      case rel => exact ⟨k + 1, by omega, by go_num, unhide Z2, unhide G2⟩
      case measure => simp [intOf]; omega
    · have hk' : k = xs.length := by omega
      subst hk'
      rw [(unhide HE).1, (unhide HE).2] at hz
      have z0 := hz.c0
      have z1 := hz.c1
      have z2 := hz.c2
      have R3 : Szb w.heap.size 0 0 0 wr := (hg.block w.heap.size (by have := (unhide R2).lt; omega) (by intro e; injection e with e; omega)).trans (unhide R2)
      have r0 := R3.c0
      have r1 := R3.c1
      have r2 := R3.c2
      have q0 := R3.fz 0
      have q1 := R3.fz 1
      have q2 := R3.fz 2
      have RX := hide (R3.put (((dl vs + 1 : Nat)) : Int) ((cl vs + 1 : Nat) : Int) ((hold xs.length + nl cs : Nat) : Int) _ _ _ rfl rfl rfl)
      have BX := hide (below_put3 bw (Nat.le_refl _) (.int .i64 ((dl vs + 1 : Nat) : Int)) (.int .i64 ((cl vs + 1 : Nat) : Int)) (.int .i64 ((hold xs.length + nl cs : Nat) : Int)))
      generalize dl vs + 1 = DD at *
      generalize cl vs + 1 = CC at *
      generalize hold xs.length + nl cs = NN at *
      clear hz hg bw R3 HALL HC HB1
      go_wp2
      try simp only [Exit.inBlock, Exit.then]
      refine bodyPost_ret (szb_ret rfl rfl (unhide RX)) rfl ?_
      exact ⟨by rw [unhide HR], unhide BX⟩
end Go.Proofs.YtocnekbedcnmgaaGreatDoor


namespace Go.Proofs.YtocnekbedcnmgaaGreatDoor
open Go.RowKit Go.Sort

/-- What is done of the members, where some are left: the depth; a sum. -/
def doneD (left : Lit → Bool) : List (List UInt8 × JV) → Nat
  | [] => 0
  | q :: r => if left (.string q.1) then doneD left r else max (depV q.2) (doneD left r)
def doneS (f : List UInt8 × JV → Nat) (left : Lit → Bool) : List (List UInt8 × JV) → Nat
  | [] => 0
  | q :: r => (if left (.string q.1) then 0 else f q) + doneS f left r
def strike (left : Lit → Bool) (k : List UInt8) : Lit → Bool := fun z => left z && !z.sameKey (.string k)
theorem strike_other {left : Lit → Bool} {k a : List UInt8} (h : a ≠ k) : strike left k (.string a) = left (.string a) := by
  unfold strike
  rw [Maps.sameKey_ne (by intro e; injection e with e; exact h e)]
  simp
theorem strike_same (left : Lit → Bool) (k : List UInt8) : strike left k (.string k) = false := by
  unfold strike
  rw [WideAt.sameKey_self (show WideAt.IsKeyLit (.string k) from trivial)]
  simp
theorem doneD_skip {left : Lit → Bool} {k : List UInt8} : ∀ qs : List (List UInt8 × JV), (∀ q ∈ qs, q.1 ≠ k) → doneD (strike left k) qs = doneD left qs
  | [], _ => rfl
  | q :: r, h => by
    rw [doneD, doneD, strike_other (h q List.mem_cons_self), doneD_skip r (fun q hq => h q (List.mem_cons_of_mem _ hq))]
theorem doneS_skip {f : List UInt8 × JV → Nat} {left : Lit → Bool} {k : List UInt8} : ∀ qs : List (List UInt8 × JV), (∀ q ∈ qs, q.1 ≠ k) → doneS f (strike left k) qs = doneS f left qs
  | [], _ => rfl
  | q :: r, h => by
    rw [doneS, doneS, strike_other (h q List.mem_cons_self), doneS_skip r (fun q hq => h q (List.mem_cons_of_mem _ hq))]
theorem doneD_step {left : Lit → Bool} {k : List UInt8} {v : JV} (hl : left (.string k) = true) : ∀ qs : List (List UInt8 × JV), (qs.map (·.1)).Nodup → (k, v) ∈ qs → doneD (strike left k) qs = max (doneD left qs) (depV v)
  | [], _, h => by simp at h
  | q :: r, hn, h => by
    rw [List.map_cons, List.nodup_cons] at hn
    rw [doneD, doneD]
    rcases List.mem_cons.1 h with e | h
    · subst e
      rw [strike_same, hl, doneD_skip r (fun q hq e => hn.1 (List.mem_map.2 ⟨q, hq, e⟩))]
      simp only [if_true, Bool.false_eq_true, if_false]
      omega
    · have hne : q.1 ≠ k := fun e => hn.1 (List.mem_map.2 ⟨_, h, e.symm⟩)
      rw [strike_other hne, doneD_step hl r hn.2 h]
      split
      · rfl
      · omega
theorem doneS_step {f : List UInt8 × JV → Nat} {left : Lit → Bool} {k : List UInt8} {v : JV} (hl : left (.string k) = true) : ∀ qs : List (List UInt8 × JV), (qs.map (·.1)).Nodup → (k, v) ∈ qs → doneS f (strike left k) qs = doneS f left qs + f (k, v)
  | [], _, h => by simp at h
  | q :: r, hn, h => by
    rw [List.map_cons, List.nodup_cons] at hn
    rw [doneS, doneS]
    rcases List.mem_cons.1 h with e | h
    · subst e
      rw [strike_same, hl, doneS_skip r (fun q hq e => hn.1 (List.mem_map.2 ⟨q, hq, e⟩))]
      simp only [if_true, Bool.false_eq_true, if_false]
      omega
    · have hne : q.1 ≠ k := fun e => hn.1 (List.mem_map.2 ⟨_, h, e.symm⟩)
      rw [strike_other hne, doneS_step hl r hn.2 h]
      omega
theorem done_none {f : List UInt8 × JV → Nat} {left : Lit → Bool} : ∀ qs : List (List UInt8 × JV), (∀ q ∈ qs, left (.string q.1) = true) → doneD left qs = 0 ∧ doneS f left qs = 0
  | [], _ => ⟨rfl, rfl⟩
  | q :: r, h => by
    obtain ⟨a, b⟩ := done_none (f := f) r (fun q hq => h q (List.mem_cons_of_mem _ hq))
    rw [doneD, doneS, h q List.mem_cons_self, a, b]
    exact ⟨rfl, rfl⟩
theorem doneD_all {left : Lit → Bool} (h : ∀ z, left z = false) : ∀ qs : List (List UInt8 × JV), doneD left qs = dl (qs.map (·.2))
  | [] => rfl
  | q :: r => by rw [doneD, h, List.map_cons, dl, doneD_all h r]; rfl
theorem doneS_all {f : List UInt8 × JV → Nat} {left : Lit → Bool} (h : ∀ z, left z = false) : ∀ qs : List (List UInt8 × JV), doneS f left qs = (qs.map f).sum
  | [] => rfl
  | q :: r => by rw [doneS, h, List.map_cons, List.sum_cons, doneS_all h r]; rfl
theorem doneS_le {f : List UInt8 × JV → Nat} {left : Lit → Bool} : ∀ qs : List (List UInt8 × JV), doneS f left qs ≤ (qs.map f).sum
  | [] => Nat.le_refl _
  | q :: r => by
    rw [doneS, List.map_cons, List.sum_cons]
    have := doneS_le (f := f) (left := left) r
    split <;> omega
theorem doneD_le {left : Lit → Bool} : ∀ qs : List (List UInt8 × JV), doneD left qs ≤ dl (qs.map (·.2))
  | [] => Nat.le_refl _
  | q :: r => by
    rw [doneD, List.map_cons, dl]
    have := doneD_le (left := left) r
    split <;> omega
theorem dl_mem {vs : List JV} {v : JV} (h : v ∈ vs) : depV v ≤ dl vs := by
  obtain ⟨j, hj, rfl⟩ := List.getElem_of_mem h
  exact dl_at vs j hj
end Go.Proofs.YtocnekbedcnmgaaGreatDoor

