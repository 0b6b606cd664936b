import Derived.Test.YtpaecnbdoljafaaGreatDoorRxB
namespace Go.Proofs.YtpaecnbdoljafaaGreatDoor
open Go.RowKit

set_option maxRecDepth 100000 in
set_option maxHeartbeats 4000000 in
theorem sameOps_walk (v u : Value) (ms : List zk) (bl cl : List Nat) (w : World) (h : Zn V9 w v ms bl) (k : Zn V9 w u ms cl) (hl : ms.length ≤ 1000) :
    Calls Tryz.prog 23 #[v, u] w fun e w' => e = .returned (.bool true) ∧ Below w.heap.size w w' := by
  obtain ⟨xa, xc, rfl, -, hxa⟩ := h.form
  obtain ⟨ya, yc, rfl, -, hya⟩ := k.form
  have H := zh h
  have K := zh k
  have HXA := zh hxa
  have HYA := zh hya
  clear h k hxa hya
  go_enter Tryz.func23, Tryz.ntmps23
  go_wp2
  go_loopw [5] (fun i wr => ∃ j : Nat, i = .int .i64 (j : Int) ∧ j ≤ ms.length ∧ Below w.heap.size w wr) (fun i _ => ms.length - (intOf i).toNat)
  case atStart => exact ⟨0, rfl, Nat.zero_le _, Below.refl _ _⟩
  case round =>
    obtain ⟨j, rfl, hj, hb⟩ := hrel
    have HB := zh hb
    by_cases hlt : j < ms.length
    · have hltI : (j : Int) < (ms.length : Int) := by omega
      obtain ⟨g, rfl⟩ := uh HXA (by omega)
      obtain ⟨g', rfl⟩ := uh HYA (by omega)
      obtain ⟨vs, ib, hE, hc, -⟩ := ((uh H).below hb).at (List.getElem?_eq_getElem hlt)
      obtain ⟨rfl, -⟩ := hE
      obtain ⟨vs, ib, hE, hc', -⟩ := ((uh K).below hb).at (List.getElem?_eq_getElem hlt)
      obtain ⟨rfl, -⟩ := hE
      have c0 : wr.cell? ⟨g, j * 4, none⟩ = some (.int .i64 ms[j].kind) := (hc 0 _ rfl).1
      have c1 : wr.cell? ⟨g, j * 4 + 1, none⟩ = some (.string ms[j].path) := (hc 1 _ rfl).1
      have c2 : wr.cell? ⟨g, j * 4 + 2, none⟩ = some (.string ms[j].src) := (hc 2 _ rfl).1
      have c3 : wr.cell? ⟨g, j * 4 + 3, none⟩ = some (.string ms[j].val) := (hc 3 _ rfl).1
      have d0 : wr.cell? ⟨g', j * 4, none⟩ = some (.int .i64 ms[j].kind) := (hc' 0 _ rfl).1
      have d1 : wr.cell? ⟨g', j * 4 + 1, none⟩ = some (.string ms[j].path) := (hc' 1 _ rfl).1
      have d2 : wr.cell? ⟨g', j * 4 + 2, none⟩ = some (.string ms[j].src) := (hc' 2 _ rfl).1
      have d3 : wr.cell? ⟨g', j * 4 + 3, none⟩ = some (.string ms[j].val) := (hc' 3 _ rfl).1
      generalize ms[j] = o at *
      clear hc hc' hb
      go_wp2_with fail
      go_quiet (fail)
      have HBN : Hid (Below w.heap.size w (wr.drewN nq)) := (uh HB).trans (Ni _ _ _)
      clear c0 c1 c2 c3 d0 d1 d2 d3
      go_wp2
      go_roundw
      case rel => exact ⟨j + 1, by go_num, by omega, uh HBN⟩
      case measure => simp [intOf]; omega
    · have hltI : ¬ (j : Int) < (ms.length : Int) := by omega
      go_wp2
      go_ret
      exact ⟨rfl, uh HB⟩
end Go.Proofs.YtpaecnbdoljafaaGreatDoor
