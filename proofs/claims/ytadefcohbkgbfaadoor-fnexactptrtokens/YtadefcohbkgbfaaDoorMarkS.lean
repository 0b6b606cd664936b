import Derived.Test.YtadefcohbkgbfaaDoorMark
import Derived.Test.YtadefcohbkgbfaaDoorOwnB
import Derived.Deep.RegionWith
namespace Go.Proofs.YtadefcohbkgbfaaDoor
open Go.RowKit

/-- The row holds the marks from k on. -/
def marks (k n : Nat) : List Value := (List.range n).map fun j => .string (mkText (k + j))
theorem marks_at {k n j : Nat} (hj : j < n) : (marks k n)[j]? = some (.string (mkText (k + j))) := by simp [marks, hj]

set_option maxHeartbeats 400000 in
theorem markS_walk (B : Nat) (v : Value) (n k0 : Nat) (xs : List Value) (w : World) (hv : w.ownsRow B 9 1 v n xs) (hB : B ≤ w.heap.size) (hn : n ≤ 268435456) (h1 : 1 ≤ k0) (h2 : k0 ≤ 1099200000000) :
    Calls Tryd.prog 15 #[v, .int .i64 k0] w fun e w' => e = .returned (.int .i64 (k0 + n : Nat)) ∧ w'.ownsRow B 9 1 v n (marks k0 n) ∧ Below B w w' := by
  have hxl := hv.1
  obtain ⟨a, cap, rfl, hsh⟩ : ∃ a cap, v = .slice a n cap ∧ (0 < n → ∃ g, a = some ⟨g, 0, none⟩ ∧ B ≤ g) := by
    rcases hv.2 with ⟨h, h0⟩ | ⟨g, cap, cur, h, hb, _⟩
    · exact ⟨none, 0, by rw [h, h0], fun h => by omega⟩
    · exact ⟨some ⟨g, 0, none⟩, cap, h, fun _ => ⟨g, rfl, hb⟩⟩
  go_enter Tryd.func15, Tryd.ntmps15
  go_wp2
  go_loopw [1, 5] (fun q i wr => ∃ (j : Nat), j ≤ n ∧ i = .int .i64 j ∧ q = .int .i64 (k0 + j : Nat) ∧ Below B w wr ∧ ∃ ys : List Value, wr.ownsRow B 9 1 (.slice a n cap) n ys ∧ ∀ m, m < j → ys[m]? = some (.string (mkText (k0 + m)))) (fun _ i _ => n - (intOf i).toNat)
  case atStart => exact ⟨0, Nat.zero_le _, rfl, rfl, Below.refl _ _, xs, hv, fun m hm => by omega⟩
  case round =>
    obtain ⟨j, hj, rfl, rfl, hb, ys, hown, hys⟩ := hrel
    have HY := hide hys
    clear hys hv hxl
    have hwsz := hb.size
    by_cases hlt : j < n
    · obtain ⟨g, rfl, hg⟩ := hsh (by omega)
      have HC := hide (mark_walk (k0 + j) wr (by omega) (by omega))
      go_wp2_with fail
      refine (unhide HC).mono ?_
      rintro e w1 ⟨rfl, b1⟩
      have B1 := hb.trans (b1.mono (by omega))
      have own1 := own_below hown b1
      have hyl := own1.1
      have hce := own1.cellAt j (by omega)
      obtain ⟨old, hold⟩ : ∃ old, ys[j]? = some old := ⟨ys[j]'(by omega), by simp⟩
      rw [hold] at hce
      have hfz := own1.frozenAt j
      have HST := hide (own1.stored j (.string (mkText (k0 + j)))).1
      have HL := hide hyl
      have HB := hide B1
      clear hown b1 own1 HC hold hyl B1 hb
      go_wp2
      go_roundw
      case rel =>
        refine ⟨j + 1, by omega, by go_num, by go_num, (unhide HB).setCell hg _, _, unhide HST, ?_⟩
        intro m hm
        have hyl := unhide HL
        by_cases e : m = j
        · subst e; rw [List.getElem?_set_self (by omega)]
        · rw [List.getElem?_set_ne (by omega)]; exact unhide HY m (by omega)
      case measure => simp [intOf]; omega
    · have hjn : j = n := by omega
      subst hjn
      go_wp2
      go_ret
      refine ⟨rfl, ?_, hb⟩
      have hyl := hown.1
      have : ys = marks k0 j := by
        apply List.ext_getElem?
        intro m
        by_cases hm : m < j
        · rw [unhide HY m hm, marks_at hm]
        · rw [List.getElem?_eq_none (by omega), List.getElem?_eq_none (by simp [marks]; omega)]
      rw [← this]; exact hown

set_option maxHeartbeats 800000 in
theorem heldS_walk (B : Nat) (v : Value) (n k0 : Nat) (w : World) (hv : w.ownsRow B 9 1 v n (marks k0 n)) (hn : n ≤ 268435456) (h1 : 1 ≤ k0) (h2 : k0 ≤ 1099200000000) :
    Calls Tryd.prog 16 #[v, .int .i64 k0] w fun e w' => e = .returned (.int .i64 (k0 + n : Nat)) ∧ Below w.heap.size w w' := by
  obtain ⟨a, cap, rfl, hsh⟩ : ∃ a cap, v = .slice a n cap ∧ (0 < n → ∃ g, a = some ⟨g, 0, none⟩) := by
    rcases hv.2 with ⟨h, h0⟩ | ⟨g, cap, cur, h, hb, _⟩
    · exact ⟨none, 0, by rw [h, h0], fun h => by omega⟩
    · exact ⟨some ⟨g, 0, none⟩, cap, h, fun _ => ⟨g, rfl⟩⟩
  go_enter Tryd.func16, Tryd.ntmps16
  go_wp2
  go_loopw [1, 5] (fun q i wr => ∃ (j : Nat), j ≤ n ∧ i = .int .i64 j ∧ q = .int .i64 (k0 + j : Nat) ∧ Below w.heap.size w wr) (fun _ i _ => n - (intOf i).toNat)
  case atStart => exact ⟨0, Nat.zero_le _, rfl, rfl, Below.refl _ _⟩
  case round =>
    obtain ⟨j, hj, rfl, rfl, hb⟩ := hrel
    have hwsz := hb.size
    by_cases hlt : j < n
    · obtain ⟨g, rfl⟩ := hsh (by omega)
      have hce := hv.cellAt j (by omega)
      rw [marks_at hlt] at hce
      have hgw : g < w.heap.size := World.block_lt_of_cell? _ _ hce
      have hc : wr.cell? ⟨g, j, none⟩ = some (.string (mkText (k0 + j))) := (hb.cell (p := ⟨g, j, none⟩) hgw).trans hce
      have hlt' : (j : Int) < (n : Int) := by omega
      have HV := hide hv
      have HB := hide hb
      clear hv hce hb
      go_wp2
      go_region_with (go_at_call 31; refine (mark_walk (k0 + j) _ (by omega) (by omega)).mono ?_; rintro e w1 ⟨rfl, b1⟩; have hc1 := (b1.cell (p := ⟨g, j, none⟩) (by simp; omega)).trans hc)
      all_goals go_wp2
      all_goals go_roundw
      all_goals first
        | exact ⟨j + 1, by omega, by go_num, by go_num, (unhide HB).drew.trans (b1.mono (by simp; omega))⟩
        | (simp [intOf]; omega)
    · go_wp2
      go_ret
      have hjn : j = n := by omega
      subst hjn
      exact ⟨rfl, hb⟩
end Go.Proofs.YtadefcohbkgbfaaDoor
