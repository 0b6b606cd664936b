import Derived.Maps.RangeWalk
import Derived.Test.YtadefcohbkgbfabGreatDoorBn9
import Derived.Test.YtadefcohbkgbfabGreatDoorBn31
import Derived.Test.YtadefcohbkgbfabGreatDoorBn34
import Derived.Deep.RegionLaw
import Derived.Maps.OwnSet
import Derived.Test.YtadefcohbkgbfabGreatDoorBn6
namespace Go.Proofs.YtadefcohbkgbfabGreatDoor
open Go.RowKit Go.Sort

set_option maxRecDepth 100000 in
set_option maxHeartbeats 800000 in
theorem holder_walk (n : Nat) (w : World) (hn : n ≤ 10000000) :
    Calls Tryz.prog 62 #[.int .i64 (n : Int)] w fun e w' => e = .returned (szV 1 1 (hold n)) ∧ Below w.heap.size w w' := by
  have hm : max (0 : Int) ((n : Int) - 1) = ((n - 1 : Nat) : Int) := by omega
  have RX : Hid (Szb w.heap.size 1 1 (hold n) (w.alloc (.cells #[.int .i64 1, .int .i64 1, .int .i64 (2 + ((n - 1 : Nat) : Int))] 64))) := by
    have e : (2 + ((n - 1 : Nat) : Int)) = ((hold n : Nat) : Int) := by unfold hold; omega
    rw [e]; exact heap_alloc_new w _
  go_enter Tryz.func62, Tryz.ntmps62
  go_wp2
  try simp only [Exit.inBlock, Exit.then]
  refine bodyPost_ret (szb_ret rfl rfl (unhide RX)) rfl ?_
  exact ⟨rfl, (Below.refl _ _).alloc (Nat.le_refl _) _⟩

/-- What a value's size promises. -/
def SizeC (v : JV) : Prop := ∀ (w : World) (S : Nat → Prop) (t : TypeId) (p : Value), Rep w S v (.iface t p) → (∀ k, S k → k < w.heap.size) → PowB w.heap.size w → (ct v).length ≤ 10000000 → cntV v ≤ 10000000 → depV v ≤ 10000000 →
  Calls Tryz.prog 39 #[.iface t p] w fun e w' => e = .returned (szV (depV v) (cntV v) (ct v).length) ∧ Below w.heap.size w w'
theorem grown_of {w w' : World} (h : Below w.heap.size w w') : w.grownBy w' none := ⟨h.os, h.tape, h.output, h.size, fun k hk _ => h.block k hk⟩
theorem grown_set (w : World) (p : Addr) (v : Value) : w.grownBy (w.setCell p v) (some p.block) := by
  refine ⟨(Below.refl 0 w |>.setCell (p := p) (Nat.zero_le _) v).os, (Below.refl 0 w |>.setCell (p := p) (Nat.zero_le _) v).tape, (Below.refl 0 w |>.setCell (p := p) (Nat.zero_le _) v).output, (Below.refl 0 w |>.setCell (p := p) (Nat.zero_le _) v).size, fun k hk hne => Below.heap_setCell w p v k (fun e => hne (by rw [e]))⟩

set_option maxRecDepth 100000 in
set_option maxHeartbeats 4000000 in
theorem incl_walk (sb d c n d1 c1 n1 : Nat) (t : TypeId) (p : Value) (w : World) (h : Szb sb d c n w) (hd : d ≤ 10000000) (hd1 : d1 ≤ 10000000) (hc : c ≤ 10000000) (hc1 : c1 ≤ 10000000) (hn : n ≤ 1000000000) (hn1 : n1 ≤ 1000000000)
    (hs : Calls Tryz.prog 39 #[.iface t p] w fun e w' => e = .returned (szV d1 c1 n1) ∧ Below w.heap.size w w') :
    Calls Tryz.prog 63 #[.pointer (some ⟨sb, 0, none⟩), .iface t p] w fun e w' => e = .returned (.tuple #[]) ∧ Szb sb (max d (d1 + 1)) (c + c1) (n + n1) w' ∧ w.grownBy w' (some sb) := by
  have HS := hide hs
  have H := hide h
  clear hs h
  go_enter Tryz.func63, Tryz.ntmps63
  go_wp2_with fail
  refine (unhide HS).mono ?_
  rintro e w1 ⟨rfl, b1⟩
  have H1 := (unhide H).below b1
  have hlt1 := H1.lt
  have H2 := H1.alloc (szB d1 c1 n1)
  have N2 : Szb w1.heap.size d1 c1 n1 (w1.alloc (szB d1 c1 n1)) := heap_alloc_new w1 _
  have G2 := (grown_of b1).andThen (World.grownBy_alloc w1 (szB d1 c1 n1) none) (fun j e => by cases e)
  clear HS H H1 b1
  obtain ⟨M, hM⟩ : ∃ M, max d (d1 + 1) = M := ⟨_, rfl⟩
  have hm : max (d : Int) ((d1 : Int) + 1) = (M : Int) := by omega
  have HM := hide hM
  have hM2 : M ≤ 10000001 := by omega
  clear hM
  simp only [szV]
  go_wp2_with fail
  generalize hW : w1.alloc (szB d1 c1 n1) = W at *
  clear hW
  have A0 : W.drew.cell? ⟨sb, 0, none⟩ = some (.int .i64 (d : Int)) := H2.c0
  have A1 : W.drew.cell? ⟨w1.heap.size, 0, none⟩ = some (.int .i64 (d1 : Int)) := N2.c0
  have A2 : W.drew.frozen? ⟨sb, 0, none⟩ = false := H2.fz 0
  have H3 : Hid (Szb sb M c n (W.setCell ⟨sb, 0, none⟩ (.int .i64 (M : Int))).drew) := Szb.set0 (w := W) H2 (M : Int) _ (by omega)
  have N3 : Hid (Szb w1.heap.size d1 c1 n1 (W.setCell ⟨sb, 0, none⟩ (.int .i64 (M : Int))).drew) := Szb.other (w := W) N2 (p := ⟨sb, 0, none⟩) (by show w1.heap.size ≠ sb; omega) _
  have G3 : Hid (w.grownBy (W.setCell ⟨sb, 0, none⟩ (.int .i64 (M : Int))).drew (some sb)) := by
    have g := (World.grownBy.but G2 (some sb)).andThen (grown_set W ⟨sb, 0, none⟩ (.int .i64 (M : Int))) (fun j e => .inr e)
    exact ⟨g.os, g.tape, g.output, g.size, g.block⟩
  clear H2 N2 G2
  go_region
  clear A0 A1 A2 hm
  generalize (W.setCell ⟨sb, 0, none⟩ (.int .i64 (M : Int))).drew = W3 at *
  go_wp2_with fail
  have A0 : W3.drew.cell? ⟨sb, 1, none⟩ = some (.int .i64 (c : Int)) := (unhide H3).c1
  have A1 : W3.drew.cell? ⟨w1.heap.size, 1, none⟩ = some (.int .i64 (c1 : Int)) := (unhide N3).c1
  have A2 : W3.drew.frozen? ⟨sb, 1, none⟩ = false := (unhide H3).fz 1
  have H4 : Hid (Szb sb M (c + c1) n (W3.setCell ⟨sb, 1, none⟩ (.int .i64 ((c : Int) + (c1 : Int)))).drew) := Szb.set1 (w := W3) (unhide H3) ((c : Int) + (c1 : Int)) _ (by omega)
  have N4 : Hid (Szb w1.heap.size d1 c1 n1 (W3.setCell ⟨sb, 1, none⟩ (.int .i64 ((c : Int) + (c1 : Int)))).drew) := Szb.other (w := W3) (unhide N3) (p := ⟨sb, 1, none⟩) (by show w1.heap.size ≠ sb; omega) _
  have G4 : Hid (w.grownBy (W3.setCell ⟨sb, 1, none⟩ (.int .i64 ((c : Int) + (c1 : Int)))).drew (some sb)) := by
    have g := (unhide G3).andThen (grown_set W3 ⟨sb, 1, none⟩ (.int .i64 ((c : Int) + (c1 : Int)))) (fun j e => .inr e)
    exact ⟨g.os, g.tape, g.output, g.size, g.block⟩
  clear H3 N3 G3
  go_region
  clear A0 A1 A2
  generalize (W3.setCell ⟨sb, 1, none⟩ (.int .i64 ((c : Int) + (c1 : Int)))).drew = W4 at *
  go_wp2_with fail
  have A0 : W4.drew.cell? ⟨sb, 2, none⟩ = some (.int .i64 (n : Int)) := (unhide H4).c2
  have A1 : W4.drew.cell? ⟨w1.heap.size, 2, none⟩ = some (.int .i64 (n1 : Int)) := (unhide N4).c2
  have A2 : W4.drew.frozen? ⟨sb, 2, none⟩ = false := (unhide H4).fz 2
  have H5 : Hid (Szb sb M (c + c1) (n + n1) (W4.setCell ⟨sb, 2, none⟩ (.int .i64 ((n : Int) + (n1 : Int)))).drew) := Szb.set2 (w := W4) (unhide H4) ((n : Int) + (n1 : Int)) _ (by omega)
  have N5 : Hid (Szb w1.heap.size d1 c1 n1 (W4.setCell ⟨sb, 2, none⟩ (.int .i64 ((n : Int) + (n1 : Int)))).drew) := Szb.other (w := W4) (unhide N4) (p := ⟨sb, 2, none⟩) (by show w1.heap.size ≠ sb; omega) _
  have G5 : Hid (w.grownBy (W4.setCell ⟨sb, 2, none⟩ (.int .i64 ((n : Int) + (n1 : Int)))).drew (some sb)) := by
    have g := (unhide G4).andThen (grown_set W4 ⟨sb, 2, none⟩ (.int .i64 ((n : Int) + (n1 : Int)))) (fun j e => .inr e)
    exact ⟨g.os, g.tape, g.output, g.size, g.block⟩
  clear H4 N4 G4
  go_region
  clear A0 A1 A2
  generalize (W4.setCell ⟨sb, 2, none⟩ (.int .i64 ((n : Int) + (n1 : Int)))).drew = W5 at *
  go_wp2
  go_end0
  exact ⟨rfl, by rw [unhide HM]; exact unhide H5, unhide G5⟩
end Go.Proofs.YtadefcohbkgbfabGreatDoor


namespace Go.Proofs.YtadefcohbkgbfabGreatDoor
open Go.RowKit Go.Sort

theorem nl_snoc (a : List (List UInt8)) (t : List UInt8) : nl (a ++ [t]) = nl a + t.length := by simp [nl]
theorem PowB.more {B B' : Nat} {w : World} (h : PowB B w) (hB : B ≤ B') : PowB B' w := ⟨Nat.lt_of_lt_of_le h.1 hB, h.2⟩
theorem below_grownBy {w w' : World} {sb B : Nat} (h : w.grownBy w' (some sb)) (hB : B ≤ sb) (hs : sb < w.heap.size) : Below B w w' :=
  ⟨h.os, h.tape, h.output, h.size, fun k hk => h.block k (by omega) (by intro e; injection e with e; omega)⟩

set_option maxRecDepth 100000 in
set_option maxHeartbeats 8000000 in
theorem size_arr (l : JL) (hall : ∀ v ∈ l.toL, SizeC v) : SizeC (.arr l) := by
  intro w S t p h hS hP hlen hcn hdp
  rw [Rep] at h
  obtain ⟨ab, sv, xs, h, hSab, hab, hrow, hrl⟩ := h
  injection h with h1 h2; subst h1; subst h2
  obtain ⟨a, g, cap, rfl, hadr, hcell⟩ := row_shape hrow
  have hxl := (repL_at l xs hrl).1
  have hc0 : w.cell? ⟨ab, 0, none⟩ = some (.slice a xs.length cap) := by rw [Lib.cell_of_heap hab]; rfl
  have hablt : ab < w.heap.size := hS _ hSab
  have hct : (ct (.arr l)).length = hold xs.length + nl (ctL l) := by
    show (mkA (ctL l)).length = _
    have := joinC_nl (ctL l)
    have e : (ctL l).length = xs.length := by rw [ctL_map, List.length_map, hxl]
    rw [e] at this
    simp [mkA]; omega
  have hcv : cntV (.arr l) = cl l.toL + 1 := by rw [cntV, cntL_cl]
  have hdv : depV (.arr l) = dl l.toL + 1 := by rw [depV, depL_dl]
  have hxn : xs.length ≤ 10000000 := by unfold hold at hct; omega
  have HR : Hid (szV (depV (.arr l)) (cntV (.arr l)) (ct (.arr l)).length = szV (dl l.toL + 1) (cl l.toL + 1) (hold xs.length + nl (ctL l))) := by show _ = _; rw [hcv, hdv, hct]
  rw [hct] at hlen
  rw [hcv] at hcn
  rw [hdv] at hdp
  have HALL : Hid (∀ (k : Nat) (hk : k < xs.length), ∃ t p dk ck nk, xs[k] = .iface t p ∧ dk ≤ 10000000 ∧ ck ≤ 10000000 ∧ nk ≤ 10000000 ∧ dl (l.toL.take (k + 1)) = max (dl (l.toL.take k)) dk ∧ cl (l.toL.take (k + 1)) = cl (l.toL.take k) + ck ∧ nl ((ctL l).take (k + 1)) = nl ((ctL l).take k) + nk ∧
      ∀ wr : World, Below w.heap.size w wr → Calls Tryz.prog 39 #[.iface t p] wr fun e w' => e = .returned (szV dk ck nk) ∧ Below wr.heap.size wr w') := by
    intro k hk
    have hk' : k < l.toL.length := by omega
    have hr := (repL_at l xs hrl).2 k hk hk'
    obtain ⟨t, p, he⟩ := rep_iface hr
    rw [he] at hr
    have d1 := dl_at l.toL k hk'
    have c1 : cntV l.toL[k] ≤ cl l.toL := by have := sum_at (l.toL.map cntV) k (by simpa using hk'); simpa [cl] using this
    have n1 : (ct l.toL[k]).length ≤ nl (ctL l) := by have := sum_at ((ctL l).map List.length) k (by rw [ctL_map]; simpa using hk'); simpa [nl, ctL_map] using this
    refine ⟨t, p, depV l.toL[k], cntV l.toL[k], (ct l.toL[k]).length, he, by omega, by omega, by omega, ?_, ?_, ?_, fun wr hb' => ?_⟩
    · rw [List.take_succ_eq_append_getElem hk']; exact dl_snoc _ _
    · rw [List.take_succ_eq_append_getElem hk']; exact cl_snoc _ _
    · rw [List.take_succ_eq_append_getElem (show k < (ctL l).length by rw [ctL_map, List.length_map]; exact hk'), nl_snoc]
      simp [ctL_map]
    · have hr' := Rep.keep (w' := wr) (S' := S) (fun k hk => hb'.block k (hS k hk)) (fun _ h => h) _ _ hr
      exact hall _ (List.getElem_mem hk') wr S t p hr' (fun k hk => Nat.lt_of_lt_of_le (hS k hk) hb'.size) ((hP.next hb' (Nat.le_refl _)).more hb'.size) (by omega) (by omega) (by omega)
  have HB1 : Hid (∀ k, dl (l.toL.take k) ≤ dl l.toL ∧ cl (l.toL.take k) ≤ cl l.toL ∧ nl ((ctL l).take k) ≤ nl (ctL l)) := fun k => by
    refine ⟨dl_take _ _, ?_, ?_⟩
    · unfold cl; rw [List.map_take]; exact sum_take _ _
    · unfold nl; rw [List.map_take]; exact sum_take _ _
  have HE : Hid (l.toL.take xs.length = l.toL ∧ (ctL l).take xs.length = ctL l) := ⟨List.take_of_length_le (by omega), List.take_of_length_le (by rw [ctL_map, List.length_map]; omega)⟩
  have HC : Hid (∀ j (hj : j < xs.length) (wr : World), Below w.heap.size w wr → wr.cell? ⟨g, j, none⟩ = some xs[j]) := fun j hj wr hb' => by
    have hg : g < w.heap.size := hS _ ((hadr (by omega)).2)
    exact (hb'.cell (p := ⟨g, j, none⟩) hg).trans (hcell j hj)
  have hadr' : 0 < xs.length → a = some ⟨g, 0, none⟩ := fun h => (hadr h).1
  have HH : Hid (Calls Tryz.prog 62 #[.int .i64 (xs.length : Int)] (w.alloc (szB 0 0 0)) fun e w' => e = .returned (.agg #[.int .i64 1, .int .i64 1, .int .i64 ((hold xs.length : Nat) : Int)]) ∧ Below (w.alloc (szB 0 0 0)).heap.size (w.alloc (szB 0 0 0)) w') := holder_walk xs.length (w.alloc (szB 0 0 0)) hxn
  have t1 : ∀ w : World, (Instr.typeAssert (.iface 103 (.pointer (some ⟨ab, 0, none⟩))) 54 103 true).run Tryz.prog w = .ok (.tuple #[.pointer (some ⟨ab, 0, none⟩), .bool true]) w := fun _ => by kernel_rfl
  have hca : (w.alloc (.cells #[.int .i64 0, .int .i64 0, .int .i64 0] 64)).cell? ⟨ab, 0, none⟩ = some (.slice a xs.length cap) := ((szb_below w).cell (p := ⟨ab, 0, none⟩) hablt).trans hc0
  have hlt0 : w.heap.size < (w.alloc (szB 0 0 0)).heap.size := by simp
  generalize hvs : l.toL = vs at *
  generalize ctL l = cs at *
  clear hrow hrl hcell hadr hS hP hab hct hcv hdv hall hxl hSab hc0 hvs
  go_enter Tryz.func39, Tryz.ntmps39
  go_wp2_with fail
  refine (unhide HH).mono ?_
  rintro e w1 ⟨rfl, b1⟩
  have R1 := (szb_new w).below b1
  have c1 : w1.cell? ⟨ab, 0, none⟩ = some (.slice a xs.length cap) := (b1.cell (p := ⟨ab, 0, none⟩) (by show ab < _; omega)).trans hca
  have hw1 := b1.size
  have B1 := below_next (szb_below w) b1
  have c2 : (w1.alloc (.cells #[.int .i64 1, .int .i64 1, .int .i64 ((hold xs.length : Nat) : Int)] 64)).cell? ⟨ab, 0, none⟩ = some (.slice a xs.length cap) := ((Below.refl w1.heap.size w1).alloc (Nat.le_refl _) (szB 1 1 (hold xs.length)) |>.cell (p := ⟨ab, 0, none⟩) (by show ab < _; omega)).trans c1
  have S2 : Hid (Szb w1.heap.size 1 1 (hold xs.length) (w1.alloc (szB 1 1 (hold xs.length)))) := heap_alloc_new w1 _
  have R2 := hide (R1.alloc (szB 1 1 (hold xs.length)))
  have B2 := hide (B1.alloc B1.size (szB 1 1 (hold xs.length)))
  have hlt2 : w1.heap.size < (w1.alloc (szB 1 1 (hold xs.length))).heap.size := by simp
  clear HH R1 b1 hca c1 B1
  have E0 : Hid (dl (vs.take 0) + 1 = 1 ∧ cl (vs.take 0) + 1 = 1 ∧ hold xs.length + nl (cs.take 0) = hold xs.length) := ⟨rfl, rfl, rfl⟩
  go_wp2_with fail
  go_loopw [26] (fun i wr => ∃ k : Nat, k ≤ xs.length ∧ i = .int .i64 k ∧ Szb w1.heap.size (dl (vs.take k) + 1) (cl (vs.take k) + 1) (hold xs.length + nl (cs.take k)) wr ∧ (w1.alloc (szB 1 1 (hold xs.length))).grownBy wr (some w1.heap.size)) (fun i _ => xs.length - (intOf i).toNat)
  case atStart => exact ⟨0, Nat.zero_le _, rfl, unhide S2, World.grownBy.refl _ _⟩
  case round =>
    obtain ⟨k, hk, rfl, hz, hg⟩ := hrel
    have bw := (unhide B2).trans (below_grownBy hg (B := w.heap.size) (by omega) hlt2)
    clear S2
    by_cases hlt : k < xs.length
    · have hltI : (k : Int) < (xs.length : Int) := by omega
      obtain rfl := hadr' (by omega)
      have hck := unhide HC k hlt wr bw
      obtain ⟨t, p, dk, ck, nk, he, hd1, hc1, hn1, e1, e2, e3, hcall⟩ := unhide HALL k hlt
      rw [he] at hck
      obtain ⟨x1, x2, x3⟩ := unhide HB1 k
      have HI := hide (incl_walk w1.heap.size _ _ _ dk ck nk t p wr hz (by omega) hd1 (by omega) hc1 (by unfold hold; omega) (by omega) (hcall wr bw))
      have HE1 := hide e1
      have HE2 := hide e2
      have HE3 := hide e3
      have HG := hide hg
      have HBW := hide bw
      clear hz he e1 e2 e3 hcall hg bw HALL HC x1 x2 x3
      go_wp2_with fail
      refine (unhide HI).mono ?_
      rintro e w2 ⟨rfl, z2, g2⟩
      have G2 := hide ((unhide HG).andThen g2 (fun j e => .inr e))
      have Z2 : Hid (Szb w1.heap.size (dl (vs.take (k + 1)) + 1) (cl (vs.take (k + 1)) + 1) (hold xs.length + nl (cs.take (k + 1))) w2) := by
        rw [unhide HE1, unhide HE2, unhide HE3]
        rw [show max (dl (vs.take k)) dk + 1 = max (dl (vs.take k) + 1) (dk + 1) by omega, show cl (vs.take k) + ck + 1 = cl (vs.take k) + 1 + ck by omega, show hold xs.length + (nl (cs.take k) + nk) = hold xs.length + nl (cs.take k) + nk by omega]
        exact z2
      clear HI hck z2 g2
      go_wp2
      go_roundw
      case rel => exact ⟨k + 1, by omega, by go_num, unhide Z2, unhide G2⟩
      case measure => simp [intOf]; omega
    · have hk' : k = xs.length := by omega
      subst hk'
      rw [(unhide HE).1, (unhide HE).2] at hz
      have z0 := hz.c0
      have z1 := hz.c1
      have z2 := hz.c2
      have R3 : Szb w.heap.size 0 0 0 wr := (hg.block w.heap.size (by have := (unhide R2).lt; omega) (by intro e; injection e with e; omega)).trans (unhide R2)
      have r0 := R3.c0
      have r1 := R3.c1
      have r2 := R3.c2
      have q0 := R3.fz 0
      have q1 := R3.fz 1
      have q2 := R3.fz 2
      have RX := hide (R3.put (((dl vs + 1 : Nat)) : Int) ((cl vs + 1 : Nat) : Int) ((hold xs.length + nl cs : Nat) : Int) _ _ _ rfl rfl rfl)
      have BX := hide (below_put3 bw (Nat.le_refl _) (.int .i64 ((dl vs + 1 : Nat) : Int)) (.int .i64 ((cl vs + 1 : Nat) : Int)) (.int .i64 ((hold xs.length + nl cs : Nat) : Int)))
      generalize dl vs + 1 = DD at *
      generalize cl vs + 1 = CC at *
      generalize hold xs.length + nl cs = NN at *
      clear hz hg bw R3 HALL HC HB1
      go_wp2
      try simp only [Exit.inBlock, Exit.then]
      refine bodyPost_ret (szb_ret rfl rfl (unhide RX)) rfl ?_
      exact ⟨by rw [unhide HR], unhide BX⟩
end Go.Proofs.YtadefcohbkgbfabGreatDoor


namespace Go.Proofs.YtadefcohbkgbfabGreatDoor
open Go.RowKit Go.Sort

/-- What is done of the members, where some are left: the depth; a sum. -/
def doneD (left : Lit → Bool) : List (List UInt8 × JV) → Nat
  | [] => 0
  | q :: r => if left (.string q.1) then doneD left r else max (depV q.2) (doneD left r)
def doneS (f : List UInt8 × JV → Nat) (left : Lit → Bool) : List (List UInt8 × JV) → Nat
  | [] => 0
  | q :: r => (if left (.string q.1) then 0 else f q) + doneS f left r
def strike (left : Lit → Bool) (k : List UInt8) : Lit → Bool := fun z => left z && !z.sameKey (.string k)
theorem strike_other {left : Lit → Bool} {k a : List UInt8} (h : a ≠ k) : strike left k (.string a) = left (.string a) := by
  unfold strike
  rw [Maps.sameKey_ne (by intro e; injection e with e; exact h e)]
  simp
theorem strike_same (left : Lit → Bool) (k : List UInt8) : strike left k (.string k) = false := by
  unfold strike
  rw [WideAt.sameKey_self (show WideAt.IsKeyLit (.string k) from trivial)]
  simp
theorem doneD_skip {left : Lit → Bool} {k : List UInt8} : ∀ qs : List (List UInt8 × JV), (∀ q ∈ qs, q.1 ≠ k) → doneD (strike left k) qs = doneD left qs
  | [], _ => rfl
  | q :: r, h => by
    rw [doneD, doneD, strike_other (h q List.mem_cons_self), doneD_skip r (fun q hq => h q (List.mem_cons_of_mem _ hq))]
theorem doneS_skip {f : List UInt8 × JV → Nat} {left : Lit → Bool} {k : List UInt8} : ∀ qs : List (List UInt8 × JV), (∀ q ∈ qs, q.1 ≠ k) → doneS f (strike left k) qs = doneS f left qs
  | [], _ => rfl
  | q :: r, h => by
    rw [doneS, doneS, strike_other (h q List.mem_cons_self), doneS_skip r (fun q hq => h q (List.mem_cons_of_mem _ hq))]
theorem doneD_step {left : Lit → Bool} {k : List UInt8} {v : JV} (hl : left (.string k) = true) : ∀ qs : List (List UInt8 × JV), (qs.map (·.1)).Nodup → (k, v) ∈ qs → doneD (strike left k) qs = max (doneD left qs) (depV v)
  | [], _, h => by simp at h
  | q :: r, hn, h => by
    rw [List.map_cons, List.nodup_cons] at hn
    rw [doneD, doneD]
    rcases List.mem_cons.1 h with e | h
    · subst e
      rw [strike_same, hl, doneD_skip r (fun q hq e => hn.1 (List.mem_map.2 ⟨q, hq, e⟩))]
      simp only [if_true, Bool.false_eq_true, if_false]
      omega
    · have hne : q.1 ≠ k := fun e => hn.1 (List.mem_map.2 ⟨_, h, e.symm⟩)
      rw [strike_other hne, doneD_step hl r hn.2 h]
      split
      · rfl
      · omega
theorem doneS_step {f : List UInt8 × JV → Nat} {left : Lit → Bool} {k : List UInt8} {v : JV} (hl : left (.string k) = true) : ∀ qs : List (List UInt8 × JV), (qs.map (·.1)).Nodup → (k, v) ∈ qs → doneS f (strike left k) qs = doneS f left qs + f (k, v)
  | [], _, h => by simp at h
  | q :: r, hn, h => by
    rw [List.map_cons, List.nodup_cons] at hn
    rw [doneS, doneS]
    rcases List.mem_cons.1 h with e | h
    · subst e
      rw [strike_same, hl, doneS_skip r (fun q hq e => hn.1 (List.mem_map.2 ⟨q, hq, e⟩))]
      simp only [if_true, Bool.false_eq_true, if_false]
      omega
    · have hne : q.1 ≠ k := fun e => hn.1 (List.mem_map.2 ⟨_, h, e.symm⟩)
      rw [strike_other hne, doneS_step hl r hn.2 h]
      omega
theorem done_none {f : List UInt8 × JV → Nat} {left : Lit → Bool} : ∀ qs : List (List UInt8 × JV), (∀ q ∈ qs, left (.string q.1) = true) → doneD left qs = 0 ∧ doneS f left qs = 0
  | [], _ => ⟨rfl, rfl⟩
  | q :: r, h => by
    obtain ⟨a, b⟩ := done_none (f := f) r (fun q hq => h q (List.mem_cons_of_mem _ hq))
    rw [doneD, doneS, h q List.mem_cons_self, a, b]
    exact ⟨rfl, rfl⟩
theorem doneD_all {left : Lit → Bool} (h : ∀ z, left z = false) : ∀ qs : List (List UInt8 × JV), doneD left qs = dl (qs.map (·.2))
  | [] => rfl
  | q :: r => by rw [doneD, h, List.map_cons, dl, doneD_all h r]; rfl
theorem doneS_all {f : List UInt8 × JV → Nat} {left : Lit → Bool} (h : ∀ z, left z = false) : ∀ qs : List (List UInt8 × JV), doneS f left qs = (qs.map f).sum
  | [] => rfl
  | q :: r => by rw [doneS, h, List.map_cons, List.sum_cons, doneS_all h r]; rfl
theorem doneS_le {f : List UInt8 × JV → Nat} {left : Lit → Bool} : ∀ qs : List (List UInt8 × JV), doneS f left qs ≤ (qs.map f).sum
  | [] => Nat.le_refl _
  | q :: r => by
    rw [doneS, List.map_cons, List.sum_cons]
    have := doneS_le (f := f) (left := left) r
    split <;> omega
theorem doneD_le {left : Lit → Bool} : ∀ qs : List (List UInt8 × JV), doneD left qs ≤ dl (qs.map (·.2))
  | [] => Nat.le_refl _
  | q :: r => by
    rw [doneD, List.map_cons, dl]
    have := doneD_le (left := left) r
    split <;> omega
theorem dl_mem {vs : List JV} {v : JV} (h : v ∈ vs) : depV v ≤ dl vs := by
  obtain ⟨j, hj, rfl⟩ := List.getElem_of_mem h
  exact dl_at vs j hj
end Go.Proofs.YtadefcohbkgbfabGreatDoor


namespace Go.Proofs.YtadefcohbkgbfabGreatDoor
open Go.RowKit Go.Sort

theorem Szb.grown {g d c b : Nat} {w w' : World} {row : Option Nat} (h : Szb g d c b w) (hg : w.grownBy w' row) (hr : some g ≠ row) : Szb g d c b w' := (hg.block g h.lt hr).trans h
theorem below_of_grown {B r : Nat} {w w' : World} (h : w.grownBy w' (some r)) (hB : B ≤ r) (hs : B ≤ w.heap.size) : Below B w w' :=
  ⟨h.os, h.tape, h.output, h.size, fun k hk => h.block k (by omega) (by intro e; injection e with e; omega)⟩

set_option maxRecDepth 100000 in
set_option maxHeartbeats 8000000 in
theorem size_obj (m : JM) (hall : ∀ q ∈ m.toL, SizeC q.2) (hval : ∀ q ∈ m.toL, Lib.validD q.1 = true) (hnd : (keysM m).Nodup) : SizeC (.obj m) := by
  intro w S t p h hS hP hlen hcn hdp
  rw [Rep] at h
  obtain ⟨ob, mb, nn, xs, h, hSob, hSmb, hob, hown, _, hrm⟩ := h
  injection h with h1 h2; subst h1; subst h2
  obtain ⟨hkeys, hrep⟩ := repM_at m xs hrm
  have hnd' : (xs.map (·.1)).Nodup := by rw [hkeys]; exact hnd
  have hperm := keys_perm hown hnd'
  have hkn : (m.toL.map (·.1)).Nodup := by rw [← keysM_map]; exact hnd
  have hml : m.toL.length = xs.length := by
    have a1 := congrArg List.length hkeys
    rw [keysM_map] at a1
    simpa using a1.symm
  have hsz : Maps.size (putAll xs) = xs.length := by rw [size_keys hperm, List.length_map]
  have hct := ctObj_len m
  rw [hml] at hct
  have hcv : cntV (.obj m) = (m.toL.map fun q => cntV q.2).sum + 1 := by rw [cntV, cntM_sum]
  have hdv : depV (.obj m) = dl (m.toL.map (·.2)) + 1 := by rw [depV, depM_dl]
  have HR : Hid (szV (depV (.obj m)) (cntV (.obj m)) (ct (.obj m)).length = szV (dl (m.toL.map (·.2)) + 1) ((m.toL.map fun q => cntV q.2).sum + 1) (hold xs.length + (m.toL.map memN).sum)) := by show _ = _; rw [hcv, hdv, hct]
  rw [hct] at hlen
  rw [hcv] at hcn
  rw [hdv] at hdp
  have hxn : xs.length ≤ 10000000 := by unfold hold at hlen; omega
  have hobl : ob < w.heap.size := hS _ hSob
  have hmbl : mb < w.heap.size := hS _ hSmb
  have hc0 : w.cell? ⟨ob, 0, none⟩ = some (.map (some mb)) := by rw [Lib.cell_of_heap hob]; rfl
  have HMEM : Hid (∀ (left : Lit → Bool) (x : List UInt8) (c : Value) (kl : Lit) (y1 : DataW Value) (y2 : List MemPlace), keyOf Tryz.prog 9 (.string (strOf x)) = some kl → left kl = true → (left kl = true → Maps.has (putAll xs) kl = true) → RH c = some (y1, y2) → (∀ zd, (putAll xs).atKey kl zd = y1) →
      ∃ t p dk ck nk, kl = .string x ∧ c = .iface t p ∧ Lib.validD x = true ∧ x.length + 2 ≤ (quoted x).length ∧ dk ≤ 10000000 ∧ ck ≤ 10000000 ∧ (quoted x).length + 1 + nk ≤ 10000000 ∧ doneD (strike left x) m.toL = max (doneD left m.toL) dk ∧ doneS (fun q => cntV q.2) (strike left x) m.toL = doneS (fun q => cntV q.2) left m.toL + ck ∧ doneS memN (strike left x) m.toL = doneS memN left m.toL + ((quoted x).length + 1 + nk) ∧
        ∀ wr : World, Below w.heap.size w wr → Calls Tryz.prog 39 #[.iface t p] wr fun e w' => e = .returned (szV dk ck nk) ∧ Below wr.heap.size wr w') := by
    intro left x c kl y1 y2 hkey hl hh hR hat
    obtain ⟨x', hx', hkl, _⟩ := Maps.keyOf_str Tryz.underlying9 hkey
    have ex : x' = x := by
      have : Value.string (strOf x) = encStr x' := hx'
      simp only [encStr, Value.string.injEq] at this
      have h2 := congrArg (fun b : ByteArray => b.data.toList) this
      simpa [strOf] using h2.symm
    subst ex
    subst hkl
    have hin := hh hl
    rw [has_putAll, hkeys] at hin
    simp only [List.contains_eq_mem, decide_eq_true_eq] at hin
    rw [keysM_map] at hin
    obtain ⟨q, hq, hqx⟩ := List.mem_map.1 hin
    obtain ⟨k, v⟩ := q
    simp only at hqx
    subst hqx
    obtain ⟨x0, hx0, hr⟩ := hrep k v hq
    have hlast := lastV_of xs hnd' hx0
    have e1 := (hat (.held .nilIface)).symm.trans (putAll_at k (.held .nilIface) xs)
    rw [hlast] at e1
    injection hR with hR
    injection hR with hR _
    subst hR
    injection e1 with e1
    subst e1
    obtain ⟨t, p, rfl⟩ := rep_iface hr
    have hd1 := dl_mem (List.mem_map.2 ⟨(k, v), hq, rfl⟩ : v ∈ m.toL.map (·.2))
    have hc1 : cntV v ≤ _ := sumf_at (fun q => cntV q.2) hq
    have hn1 := sumf_at memN hq
    simp only [memN] at hn1
    refine ⟨t, p, depV v, cntV v, (ct v).length, rfl, rfl, hval _ hq, quoted_ge k, by omega, by omega, by omega, doneD_step hl m.toL hkn hq, doneS_step hl m.toL hkn hq, doneS_step hl m.toL hkn hq, fun wr hb' => ?_⟩
    have hr' := Rep.keep (w' := wr) (S' := S) (fun k hk => hb'.block k (hS k hk)) (fun _ h => h) _ _ hr
    exact (show SizeC v from hall _ hq) wr S t p hr' (fun k hk => Nat.lt_of_lt_of_le (hS k hk) hb'.size) ((hP.next hb' (Nat.le_refl _)).more hb'.size) (by omega) (by omega) (by omega)
  have HB1 : Hid (∀ left, doneD left m.toL ≤ dl (m.toL.map (·.2)) ∧ doneS (fun q => cntV q.2) left m.toL ≤ (m.toL.map fun q => cntV q.2).sum ∧ doneS memN left m.toL ≤ (m.toL.map memN).sum) := fun left => ⟨doneD_le _, doneS_le _, doneS_le _⟩
  have HZ : Hid (doneD (Maps.has (putAll xs)) m.toL = 0 ∧ doneS (fun q => cntV q.2) (Maps.has (putAll xs)) m.toL = 0 ∧ doneS memN (Maps.has (putAll xs)) m.toL = 0) := by
    have hh : ∀ q ∈ m.toL, Maps.has (putAll xs) (.string q.1) = true := fun q hq => by
      rw [has_putAll, hkeys, keysM_map]
      simp only [List.contains_eq_mem, decide_eq_true_eq]
      exact List.mem_map.2 ⟨q, hq, rfl⟩
    obtain ⟨a1, a2⟩ := done_none (f := fun q => cntV q.2) m.toL hh
    obtain ⟨_, a3⟩ := done_none (f := memN) m.toL hh
    exact ⟨a1, a2, a3⟩
  have HE : Hid (∀ left : Lit → Bool, (∀ z, left z = false) → doneD left m.toL = dl (m.toL.map (·.2)) ∧ doneS (fun q => cntV q.2) left m.toL = (m.toL.map fun q => cntV q.2).sum ∧ doneS memN left m.toL = (m.toL.map memN).sum) := fun left h => ⟨doneD_all h _, doneS_all h _, doneS_all h _⟩
  have HH : Hid (Calls Tryz.prog 62 #[.int .i64 (xs.length : Int)] (w.alloc (szB 0 0 0)) fun e w' => e = .returned (.agg #[.int .i64 1, .int .i64 1, .int .i64 ((hold xs.length : Nat) : Int)]) ∧ Below (w.alloc (szB 0 0 0)).heap.size (w.alloc (szB 0 0 0)) w') := holder_walk xs.length (w.alloc (szB 0 0 0)) hxn
  have t1 : ∀ w : World, (Instr.typeAssert (.iface 109 (.pointer (some ⟨ob, 0, none⟩))) 54 103 true).run Tryz.prog w = .ok (.tuple #[.pointer none, .bool false]) w := fun _ => by kernel_rfl
  have t2 : ∀ w : World, (Instr.typeAssert (.iface 109 (.pointer (some ⟨ob, 0, none⟩))) 54 109 true).run Tryz.prog w = .ok (.tuple #[.pointer (some ⟨ob, 0, none⟩), .bool true]) w := fun _ => by kernel_rfl
  have hca : (w.alloc (.cells #[.int .i64 0, .int .i64 0, .int .i64 0] 64)).cell? ⟨ob, 0, none⟩ = some (.map (some mb)) := ((szb_below w).cell (p := ⟨ob, 0, none⟩) hobl).trans hc0
  have hlt0 : w.heap.size < (w.alloc (szB 0 0 0)).heap.size := by simp
  have HOWN : Hid (∀ X : World, Below w.heap.size w X → X.ownsMap Tryz.prog 9 RH mb nn (putAll xs)) := fun X hX => ownsMap_keep hown (hX.block mb hmbl)
  have hln : ∀ ty, (Builtin.len_ #[110] ty #[.map (some mb)]).run Tryz.prog (w.alloc (.cells #[.int .i64 0, .int .i64 0, .int .i64 0] 64)) = .ok (.int .i64 (xs.length : Int)) (w.alloc (.cells #[.int .i64 0, .int .i64 0, .int .i64 0] 64)) := fun ty => by
    have := (unhide HOWN (w.alloc (szB 0 0 0)) (szb_below w)).len Tryz.underlying110 ty
    rw [hsz] at this
    exact this
  generalize dl (m.toL.map (·.2)) = DL at *
  generalize (m.toL.map fun q => cntV q.2).sum = CL at *
  generalize (m.toL.map memN).sum = NL at *
  clear hrm hrep hkeys hnd' hperm hkn hS hP hob hct hcv hdv hall hval hnd hml hSob hSmb hc0 hown
  go_enter Tryz.func39, Tryz.ntmps39
  go_wp2_with fail
  refine (unhide HH).mono ?_
  rintro e w1 ⟨rfl, b1⟩
  have R1 := (szb_new w).below b1
  have c1 : w1.cell? ⟨ob, 0, none⟩ = some (.map (some mb)) := (b1.cell (p := ⟨ob, 0, none⟩) (by show ob < _; omega)).trans hca
  have hw1 := b1.size
  have B1 := below_next (szb_below w) b1
  have c2 : (w1.alloc (.cells #[.int .i64 1, .int .i64 1, .int .i64 ((hold xs.length : Nat) : Int)] 64)).cell? ⟨ob, 0, none⟩ = some (.map (some mb)) := ((Below.refl w1.heap.size w1).alloc (Nat.le_refl _) (szB 1 1 (hold xs.length)) |>.cell (p := ⟨ob, 0, none⟩) (by show ob < _; omega)).trans c1
  have S2 : Hid (Szb w1.heap.size 1 1 (hold xs.length) (w1.alloc (szB 1 1 (hold xs.length)))) := heap_alloc_new w1 _
  have R2 := hide (R1.alloc (szB 1 1 (hold xs.length)))
  have B2 := hide (B1.alloc B1.size (szB 1 1 (hold xs.length)))
  have hlt2 : (w1.alloc (.cells #[.int .i64 1, .int .i64 1, .int .i64 ((hold xs.length : Nat) : Int)] 64)).heap.size = w1.heap.size + 1 := by simp
  have OW := unhide HOWN (w1.alloc (.cells #[.int .i64 1, .int .i64 1, .int .i64 ((hold xs.length : Nat) : Int)] 64)) (unhide B2)
  have HOW := hide OW
  clear HH R1 b1 hca c1 B1 hln t1 t2 OW
  go_wp2_with (first | (at_range; refine wpList_range_own _ rfl _ 110 rfl 9 54 (Maps.string_keyed Tryz.underlying9) Tryz.underlying110 RH mb nn (putAll xs) rfl (unhide HOW) ?_; intro w0 hrg0 hg0 hs0) | go_in)
  rw [hlt2] at hrg0 hs0
  have R0 := hide ((unhide R2).grown hg0 (by simp))
  have S0 := hide ((unhide S2).grown hg0 (by simp))
  have B0 := hide ((unhide B2).trans (⟨hg0.os, hg0.tape, hg0.output, hg0.size, fun k hk => hg0.block k (Nat.lt_of_lt_of_le hk (unhide B2).size) (by simp)⟩ : Below w.heap.size _ w0))
  have HRG0 := hide hrg0
  clear hrg0 hg0 R2 S2 B2 HOW c2
  simp only [hlt2]
  obtain ⟨r, hr⟩ : ∃ r, w1.heap.size + 1 = r := ⟨_, rfl⟩
  rw [hr] at HRG0
  simp only [hr]
  go_frame
  go_loopw [9] (fun _ wr => ∃ left cnt, wr.ranges Tryz.prog 9 RH mb r nn (putAll xs) left cnt ∧ (∀ kl, left kl = true → Maps.has (putAll xs) kl = true) ∧ Szb w1.heap.size (doneD left m.toL + 1) (doneS (fun q => cntV q.2) left m.toL + 1) (hold xs.length + doneS memN left m.toL) wr ∧ Szb w.heap.size 0 0 0 wr ∧ Below w.heap.size w wr) (fun _ wr => wr.rangeLeft mb r)
  case atStart =>
    refine ⟨_, _, unhide HRG0, fun _ h => h, ?_, unhide R0, unhide B0⟩
    rw [(unhide HZ).1, (unhide HZ).2.1, (unhide HZ).2.2]
    exact unhide S0
  case round =>
    obtain ⟨left, cnt, hrg, hsub, hz, hr0, bw⟩ := hrel
    have HRG := hide hrg
    have HSUB := hide hsub
    have HZZ := hide hz
    have HR0 := hide hr0
    have HBW := hide bw
    clear hrg hsub hz hr0 bw HRG0 R0 S0 B0
    go_wp2_with (first | (at_next; (refine wpList_next_ranges (α := List UInt8) (β := Value) _ rfl _ rfl 9 (Maps.string_keyed Tryz.underlying9) RH (fun x => .string (strOf x)) (fun v => v) (fun key kl hk => by obtain ⟨x, hx, _⟩ := Maps.keyOf_str Tryz.underlying9 hk; exact ⟨x, hx⟩) (fun v y _ => ⟨v, rfl⟩) mb r nn (putAll xs) left cnt rfl (unhide HRG) ?_ ?_)) | go_in)
    · intro _ hl0
      obtain ⟨e1, e2, e3⟩ := unhide HE left hl0
      have hz := unhide HZZ
      rw [e1, e2, e3] at hz
      have z0 := hz.c0
      have z1 := hz.c1
      have z2 := hz.c2
      have R3 := unhide HR0
      have r0 := R3.c0
      have r1 := R3.c1
      have r2 := R3.c2
      have q0 := R3.fz 0
      have q1 := R3.fz 1
      have q2 := R3.fz 2
      have RX := hide (R3.put (((DL + 1 : Nat)) : Int) ((CL + 1 : Nat) : Int) ((hold xs.length + NL : Nat) : Int) _ _ _ rfl rfl rfl)
      have BX := hide (below_put3 (unhide HBW) (Nat.le_refl _) (.int .i64 ((DL + 1 : Nat) : Int)) (.int .i64 ((CL + 1 : Nat) : Int)) (.int .i64 ((hold xs.length + NL : Nat) : Int)))
      generalize DL + 1 = DD at *
      generalize CL + 1 = CC at *
      generalize hold xs.length + NL = NN at *
      clear hz R3 HMEM HB1 HZ HE HOWN HRG HSUB HZZ HR0 HBW e1 e2 e3 hl0
      go_wp2
      try simp only [Exit.inBlock, Exit.then]
      refine bodyPost_ret (szb_ret rfl rfl (unhide RX)) rfl ?_
      exact ⟨by rw [unhide HR], unhide BX⟩
    · intro x c kl y1 y2 w2 cnt2 hkey hlk hR hat hrg2 hlt hg2 hs2 hen
      obtain ⟨t, p, dk, ck, nk, rfl, rfl, hxv, hxq, hd1, hc1, hn1, e1, e2, e3, hcall⟩ := unhide HMEM left x c kl y1 y2 hkey hlk (unhide HSUB kl) hR hat
      obtain ⟨x1, x2, x3⟩ := unhide HB1 left
      have hrlt := hrg2.lt
      have hrne := hrg2.ne
      have bw2 : Below w.heap.size w w2 := (unhide HBW).trans (below_of_grown hg2 (by omega) (unhide HBW).size)
      have S2 := (unhide HZZ).grown hg2 (by intro e; injection e with e; omega)
      have R2 := (unhide HR0).grown hg2 (by intro e; injection e with e; omega)
      have HRG2 := hide hrg2
      have HS2 := hide S2
      have HR2 := hide R2
      have HBW2 := hide bw2
      have HE1 := hide e1
      have HE2 := hide e2
      have HE3 := hide e3
      have HCALL := hide hcall
      have HCT : Hid (∀ w3, Calls Tryz.prog 29 #[.iface 45 (.string (strOf x))] w3 fun e w' => e = .returned (.string (strOf (quoted x))) ∧ Below w3.heap.size w3 w') := fun w3 => by
        have h := canonStr_walk (strOf x) w3 (by rw [strOf_size]; omega)
        have e : quoted x = 34 :: (rs (strOf x) ++ [34]) := by rw [rs_eq (strOf x) (by rw [strOf_toList]; exact hxv), strOf_toList]; rfl
        rw [e]; exact h
      have hqz : (strOf (quoted x)).size = (quoted x).length := strOf_size _
      have y1' : w2.drew.cell? ⟨w1.heap.size, 2, none⟩ = some (.int .i64 ((hold xs.length + doneS memN left m.toL : Nat) : Int)) := S2.c2
      have hNN : hold xs.length + doneS memN left m.toL ≤ 10000000 := by omega
      generalize hNv : hold xs.length + doneS memN left m.toL = NV at *
      have HNV := hide hNv
      have hqn : (quoted x).length ≤ 10000000 := by omega
      generalize strOf (quoted x) = qx at *
      clear hkey hR hat hrg2 hg2 e1 e2 e3 hcall hlk HMEM HB1 HZ HE HOWN HZZ HR0 HBW hNv S2 R2 bw2 hxv
      go_wp2_with fail
      go_region_law (go_simp; refine (unhide HCT _).mono ?_; rintro e w3 ⟨rfl, b3⟩
                     have S3 := Szb.below (w := w2.drew) (unhide HS2) b3
                     have s3 := S3.c2
                     have f3 := S3.fz 2
                     have HS3 := hide S3
                     have HB3 := hide b3
                     clear S3 b3)
      all_goals
        clear HCT s3 f3 y1'
        have hw : Value.int .i64 (IntKind.i64.wrap ((NV : Int) + IntKind.i64.wrap (((quoted x).length : Int) + 1))) = Value.int .i64 ((NV + ((quoted x).length + 1) : Nat) : Int) := by
          rw [IntWalk.i64_in (((quoted x).length : Int) + 1) (by omega), IntWalk.i64_in _ (by omega)]
          congr 1
        have S4 := Szb.set2 (unhide HS3) ((NV + ((quoted x).length + 1) : Nat) : Int) (NV + ((quoted x).length + 1)) rfl
        have g3 : w2.grownBy w3 none := ⟨(unhide HB3).os, (unhide HB3).tape, (unhide HB3).output, (unhide HB3).size, fun k hk _ => (unhide HB3).block k hk⟩
        have g4 : w2.grownBy (w3.setCell ⟨w1.heap.size, 2, none⟩ (.int .i64 ((NV + ((quoted x).length + 1) : Nat) : Int))) (some w1.heap.size) := (World.grownBy.but g3 (some w1.heap.size)).andThen (grown_set _ _ _) (fun j e => .inr e)
        have HRG4 := hide ((unhide HRG2).kept g4 (by intro e; injection e with e; omega) (by intro e; injection e with e; omega))
        have HR4 := hide ((unhide HR2).grown g4 (by intro e; injection e with e; omega))
        have b4 : Below w.heap.size w (w3.setCell ⟨w1.heap.size, 2, none⟩ (.int .i64 ((NV + ((quoted x).length + 1) : Nat) : Int))) := (unhide HBW2).trans (below_of_grown g4 (by omega) (unhide HBW2).size)
        have HI := hide (incl_walk w1.heap.size _ _ _ dk ck nk t p _ S4 (by omega) hd1 (by omega) hc1 (by omega) (by omega) (unhide HCALL _ b4))
        have HB4 := hide b4
        have HS4 := hide S4
        rw [hw]
        clear hw S4 g3 g4 b4 HRG2 HR2 HBW2 HS3 HB3 HCALL
        generalize w3.setCell ⟨w1.heap.size, 2, none⟩ (.int .i64 ((NV + ((quoted x).length + 1) : Nat) : Int)) = W4 at *
        go_wp2_with fail
        refine (unhide HI).mono ?_
        rintro e w5 ⟨rfl, z5, g5⟩
        have HRG5 := hide ((unhide HRG4).kept g5 (by intro e; injection e with e; omega) (by intro e; injection e with e; omega))
        have HR5 := hide ((unhide HR4).grown g5 (by intro e; injection e with e; omega))
        have HB5 := hide ((unhide HB4).trans (below_of_grown g5 (by omega) (unhide HB4).size))
        have Z5 : Hid (Szb w1.heap.size (doneD (strike left x) m.toL + 1) (doneS (fun q => cntV q.2) (strike left x) m.toL + 1) (hold xs.length + doneS memN (strike left x) m.toL) w5) := by
          rw [unhide HE1, unhide HE2, unhide HE3]
          rw [show max (doneD left m.toL) dk + 1 = max (doneD left m.toL + 1) (dk + 1) by omega, show doneS (fun q => cntV q.2) left m.toL + ck + 1 = doneS (fun q => cntV q.2) left m.toL + 1 + ck by omega, show hold xs.length + (doneS memN left m.toL + ((quoted x).length + 1 + nk)) = NV + ((quoted x).length + 1) + nk by rw [← unhide HNV]; omega]
          exact z5
        clear HI z5 g5 HRG4 HR4 HB4 HS4
        go_wp2
        go_roundw
      all_goals first
        | exact ⟨strike left x, cnt2, unhide HRG5, fun kl h => unhide HSUB kl (by unfold strike at h; rw [Bool.and_eq_true] at h; exact h.1), unhide Z5, unhide HR5, unhide HB5⟩
        | (rw [(unhide HRG5).left_eq, (unhide HRG).left_eq]; omega)
end Go.Proofs.YtadefcohbkgbfabGreatDoor


namespace Go.Proofs.YtadefcohbkgbfabGreatDoor
open Go.RowKit Go.Sort

set_option maxRecDepth 100000 in
theorem size_flat (v : JV) (hok : okV v) (htw : twV v = false) (hd : depV v = 1) (hc : cntV v = 1)
    (h1 : ∀ (w w1 : World) (S : Nat → Prop) (t : TypeId) (p : Value), Rep w S v (.iface t p) → (Instr.typeAssert (.iface t p) 54 103 true).run Tryz.prog w1 = .ok (.tuple #[.pointer none, .bool false]) w1)
    (h2 : ∀ (w w1 : World) (S : Nat → Prop) (t : TypeId) (p : Value), Rep w S v (.iface t p) → (Instr.typeAssert (.iface t p) 54 109 true).run Tryz.prog w1 = .ok (.tuple #[.pointer none, .bool false]) w1) : SizeC v := by
  intro w S t p h hS hP hlen _ _
  rw [hd, hc]
  refine size_leaf t p (ct v) w (fun w1 => h1 w w1 S t p h) (fun w1 => h2 w w1 S t p h) (fun w1 hb => ?_)
  exact canonText_walk v hok htw t p w1 S (Rep.keep (fun k hk => hb.block k (hS k hk)) (fun _ h => h) _ _ h) (fun k hk => Nat.lt_of_lt_of_le (hS k hk) hb.size) ((hP.next hb (Nat.le_refl _)).more hb.size) hlen
set_option maxRecDepth 100000 in
theorem size_nul : SizeC .nul := size_flat .nul trivial rfl rfl rfl
  (fun w w1 S t p h => by rw [Rep] at h; injection h with h1 h2; subst h1; subst h2; kernel_rfl) (fun w w1 S t p h => by rw [Rep] at h; injection h with h1 h2; subst h1; subst h2; kernel_rfl)
set_option maxRecDepth 100000 in
theorem size_tt : SizeC .tt := size_flat .tt trivial rfl rfl rfl
  (fun w w1 S t p h => by rw [Rep] at h; injection h with h1 h2; subst h1; subst h2; kernel_rfl) (fun w w1 S t p h => by rw [Rep] at h; injection h with h1 h2; subst h1; subst h2; kernel_rfl)
set_option maxRecDepth 100000 in
theorem size_ff : SizeC .ff := size_flat .ff trivial rfl rfl rfl
  (fun w w1 S t p h => by rw [Rep] at h; injection h with h1 h2; subst h1; subst h2; kernel_rfl) (fun w w1 S t p h => by rw [Rep] at h; injection h with h1 h2; subst h1; subst h2; kernel_rfl)
set_option maxRecDepth 100000 in
theorem size_num (l : List UInt8) (hok : okV (.num l)) : SizeC (.num l) := size_flat (.num l) hok rfl rfl rfl
  (fun w w1 S t p h => by rw [Rep] at h; obtain ⟨z, h, _⟩ := h; injection h with h1 h2; subst h1; subst h2; kernel_rfl) (fun w w1 S t p h => by rw [Rep] at h; obtain ⟨z, h, _⟩ := h; injection h with h1 h2; subst h1; subst h2; kernel_rfl)
set_option maxRecDepth 100000 in
theorem size_str (l : List UInt8) (hok : okV (.str l)) : SizeC (.str l) := size_flat (.str l) hok rfl rfl rfl
  (fun w w1 S t p h => by rw [Rep] at h; injection h with h1 h2; subst h1; subst h2; kernel_rfl) (fun w w1 S t p h => by rw [Rep] at h; injection h with h1 h2; subst h1; subst h2; kernel_rfl)

mutual
theorem sizeV : ∀ v : JV, okV v → twV v = false → SizeC v
  | .nul, _, _ => size_nul
  | .tt, _, _ => size_tt
  | .ff, _, _ => size_ff
  | .num l, h, _ => size_num l h
  | .str l, h, _ => size_str l h
  | .arr l, h, t => size_arr l (sizeL l (by rw [okV] at h; exact h) (by rw [twV] at t; exact t))
  | .obj m, h, t => size_obj m (sizeM m [] (by rw [okV] at h; exact h) (by rw [twV] at t; exact t)) (okM_keys m (by rw [okV] at h; exact h)) (twM_nodup m [] (by rw [twV] at t; exact t)).1
theorem sizeL : ∀ l : JL, okL l → twL l = false → ∀ v ∈ l.toL, SizeC v
  | .nil, _, _, v, hv => by simp [JL.toL] at hv
  | .cons x r, h, t, v, hv => by
    rw [okL] at h
    rw [twL, Bool.or_eq_false_iff] at t
    rw [JL.toL] at hv
    rcases List.mem_cons.1 hv with e | hv
    · rw [e]; exact sizeV x h.1 t.1
    · exact sizeL r h.2 t.2 v hv
theorem sizeM : ∀ (m : JM) (ks : List (List UInt8)), okM m → twM ks m = false → ∀ q ∈ m.toL, SizeC q.2
  | .nil, _, _, _, q, hq => by simp [JM.toL] at hq
  | .cons k x r, ks, h, t, q, hq => by
    rw [okM] at h
    rw [twM] at t
    simp only [Bool.or_eq_false_iff] at t
    rw [JM.toL] at hq
    rcases List.mem_cons.1 hq with e | hq
    · rw [e]; exact sizeV x h.2.1 t.1.1
    · exact sizeM r (ks ++ [k]) h.2.2 t.2 q hq
end
end Go.Proofs.YtadefcohbkgbfabGreatDoor

