import Derived.Test.YtadefcohbkgbfaaDoorByteRow
import Derived.Test.YtadefcohbkgbfaaDoorTokRow
import Derived.Deep.QuietTactic
import Derived.Lib.Builder
import Derived.BigQuiet
namespace Go.Proofs.YtadefcohbkgbfaaDoor
open Go.RowKit

structure BS (w : World) (xa : Option Addr) (xb xo : Nat) (l : List UInt8) : Prop where
  ad : 0 < l.length → xa = some ⟨xb, xo, none⟩
  cell : ∀ j, j < l.length → w.cell? ⟨xb, xo + j, none⟩ = some (.int .u8 (l.getD j 0).toNat)
theorem BS.grown {w w' : World} {xa : Option Addr} {xb xo : Nat} {l : List UInt8} {r : Option Nat} (h : BS w xa xb xo l) (hg : w.grownBy w' r) (hne : 0 < l.length → some xb ≠ r) : BS w' xa xb xo l :=
  ⟨h.ad, fun j hj => hg.cell (h.cell j hj) (hne (by omega))⟩
theorem BS.below {w w' : World} {xa : Option Addr} {xb xo : Nat} {l : List UInt8} (h : BS w xa xb xo l) (hb : Below w.heap.size w w') : BS w' xa xb xo l :=
  ⟨h.ad, fun j hj => (hb.cell (p := ⟨xb, xo + j, none⟩) (World.block_lt_of_cell? _ _ (h.cell j hj))).trans (h.cell j hj)⟩
theorem BS.take {w : World} {xa : Option Addr} {xb xo : Nat} {l : List UInt8} (h : BS w xa xb xo l) (n : Nat) : BS w xa xb xo (l.take n) :=
  ⟨fun h0 => h.ad (by rw [List.length_take] at h0; omega), fun j hj => by
    rw [List.length_take] at hj
    rw [h.cell j (by omega)]; simp [List.getD, show j < n from by omega]⟩

/-- The reader of drawn bytes: block rb holds it; its bytes lie below B. -/
def RdIs (w : World) (B rb : Nat) : Prop := ∃ (a : Option Addr) (c p : Nat) (l : List UInt8) (bb bo : Nat), w.heap[rb]? = some (.cells #[.slice a l.length c, .int .i64 p] 73 (0, 0)) ∧ B ≤ rb ∧ p ≤ l.length + 300 ∧ l.length ≤ 1200 ∧ BS w a bb bo l ∧ (0 < l.length → bb < B)
theorem RdIs.lt {w : World} {B rb : Nat} (h : RdIs w B rb) : rb < w.heap.size := by
  obtain ⟨a, c, p, l, bb, bo, hh, _⟩ := h; exact (Array.getElem?_eq_some_iff.1 hh).1
theorem RdIs.grown {w w' : World} {B rb : Nat} {r : Option Nat} (h : RdIs w B rb) (hg : w.grownBy w' r) (hne : some rb ≠ r) (hB : ∀ k, r = some k → B ≤ k) : RdIs w' B rb := by
  have hlt := h.lt
  obtain ⟨a, c, p, l, bb, bo, hh, h1, h2, h3, h4, h5⟩ := h
  exact ⟨a, c, p, l, bb, bo, (hg.block rb hlt hne).trans hh, h1, h2, h3, h4.grown hg (fun h0 e => by have := hB bb e.symm; have := h5 h0; omega), h5⟩
theorem grownBy_trans {w w1 w2 : World} {r : Option Nat} (h : w.grownBy w1 r) (k : w1.grownBy w2 r) : w.grownBy w2 r :=
  ⟨k.os.trans h.os, k.tape.trans h.tape, k.output.trans h.output, Nat.le_trans h.size k.size, fun j hj hne => (k.block j (Nat.lt_of_lt_of_le hj h.size) hne).trans (h.block j hj hne)⟩
/-- Writes to a row that was not there at the start: nothing of the start has turned but row r. -/
theorem grownBy_new {w w1 w2 : World} {r : Option Nat} {s : Option Nat} (h : w.grownBy w1 r) (k : w1.grownBy w2 s) (hs : ∀ j, s = some j → w.heap.size ≤ j) : w.grownBy w2 r :=
  ⟨k.os.trans h.os, k.tape.trans h.tape, k.output.trans h.output, Nat.le_trans h.size k.size, fun j hj hne => (k.block j (Nat.lt_of_lt_of_le hj h.size) (fun e => by have := hs j e.symm; omega)).trans (h.block j hj hne)⟩
theorem grownBy_below {w w1 : World} {r : Option Nat} (h : Below w.heap.size w w1) : w.grownBy w1 r := ⟨h.os, h.tape, h.output, h.size, fun k hk _ => h.block k hk⟩
theorem below_of_grownD {w w1 w2 : World} {B : Nat} {r : Option Nat} (h : Below B w w1) (k : w1.grownBy w2 r) (hB : B ≤ w1.heap.size) (hr : ∀ j, r = some j → B ≤ j) : Below B w w2 := h.grown k hB hr

theorem heap_set (w : World) (rb : Nat) (x y z : Value) (T : TypeId) (h : w.heap[rb]? = some (.cells #[x, y] T (0, 0))) : (w.setCell ⟨rb, 1, none⟩ z).heap[rb]? = some (.cells #[x, z] T (0, 0)) := by
  have := heap_setCell_same w rb 1 #[x, y] T z h
  simpa using this

theorem grown_setD (w : World) (n rb i : Nat) (z : Value) : w.grownBy ((w.drewN n).setCell ⟨rb, i, none⟩ z) (some rb) :=
  ⟨rfl, rfl, rfl, by simp [World.setCell], fun k _ hne => Below.heap_setCell (w.drewN n) ⟨rb, i, none⟩ z k (fun e => hne (by rw [e]))⟩
theorem grown_draws (w : World) (n : Nat) (r : Option Nat) : w.grownBy (w.drewN n) r := ⟨rfl, rfl, rfl, Nat.le_refl _, fun _ _ _ => rfl⟩

set_option maxHeartbeats 800000 in
theorem next_walk (B rb : Nat) (w : World) (h : RdIs w B rb) :
    Calls Tryd.prog 47 #[.pointer (some ⟨rb, 0, none⟩)] w fun e w' => ∃ x : Nat, x ≤ 255 ∧ e = .returned (.int .i64 x) ∧ RdIs w' B rb ∧ w.grownBy w' (some rb) := by
  obtain ⟨a, c, p, l, bb, bo, hh, hB, hp, hl, hbs, hbb⟩ := h
  have c0 : w.cell? ⟨rb, 0, none⟩ = some (.slice a l.length c) := by rw [Lib.cell_of_heap hh]; rfl
  have c1 : w.cell? ⟨rb, 1, none⟩ = some (.int .i64 p) := by rw [Lib.cell_of_heap hh]; rfl
  have f1 : w.frozen? ⟨rb, 1, none⟩ = false := Lib.frozen_of_heap hh 1
  have HH := hide hh
  have HBS := hide hbs
  clear hh hbs
  by_cases hlt : p < l.length
  · have ca := (unhide HBS).cell p hlt
    obtain rfl := (unhide HBS).ad (by omega)
    have hx : (l.getD p 0).toNat ≤ 255 := by have := UInt8.toNat_lt (l.getD p 0); omega
    generalize (l.getD p 0).toNat = x at *
    have hltI : (p : Int) < (l.length : Int) := by omega
    go_enter Tryd.func47, Tryd.ntmps47
    go_wp2
    go_quiet (fail)
    go_wp2
    go_quiet (fail)
    go_wp2
    go_ret
    refine ⟨x, hx, rfl, ⟨_, c, p + 1, l, bb, bo, ?_, hB, by omega, hl, (unhide HBS).grown (grown_setD w _ rb 1 _) (fun h0 e => by have := hbb h0; injection e with e; omega), hbb⟩, grown_setD w _ rb 1 _⟩
    exact heap_set _ rb _ _ _ _ (unhide HH)
  · have hltI : ¬ (p : Int) < (l.length : Int) := by omega
    go_enter Tryd.func47, Tryd.ntmps47
    go_wp2
    go_quiet (fail)
    go_wp2
    go_ret
    exact ⟨0, by omega, rfl, ⟨a, c, p, l, bb, bo, unhide HH, hB, hp, hl, (unhide HBS).grown (grown_draws w _ none) (fun _ e => by cases e), hbb⟩, grown_draws w _ _⟩

set_option maxHeartbeats 800000 in
theorem key_walk (k : Nat) (w : World) (hk : k ≤ 255) :
    Calls Tryd.prog 48 #[.int .i64 k] w fun e w' => ∃ t : List UInt8, t.length ≤ 3 ∧ e = .returned (.string (baT t)) ∧ w = w' := by
  by_cases h4 : k % 12 < 4
  · rcases (show k % 12 = 0 ∨ k % 12 = 1 ∨ k % 12 = 2 ∨ k % 12 = 3 from by omega) with h | h | h | h
    · have e : (k : Int) % 12 = 0 := by omega
      clear h4 h hk
      go_enter Tryd.func48, Tryd.ntmps48
      go_wp2
      go_ret
      exact ⟨[97], by decide, rfl, rfl⟩
    · have e : (k : Int) % 12 = 1 := by omega
      clear h4 h hk
      go_enter Tryd.func48, Tryd.ntmps48
      go_wp2
      go_ret
      exact ⟨[98], by decide, rfl, rfl⟩
    · have e : (k : Int) % 12 = 2 := by omega
      clear h4 h hk
      go_enter Tryd.func48, Tryd.ntmps48
      go_wp2
      go_ret
      exact ⟨[99], by decide, rfl, rfl⟩
    · have e : (k : Int) % 12 = 3 := by omega
      clear h4 h hk
      go_enter Tryd.func48, Tryd.ntmps48
      go_wp2
      go_ret
      exact ⟨[100], by decide, rfl, rfl⟩
  · have h4' : (4 : Int) ≤ (k : Int) % 12 := by omega
    go_enter Tryd.func48, Tryd.ntmps48
    go_wp2
    all_goals go_ret
    all_goals first
      | exact ⟨[48], by decide, rfl, rfl⟩
      | exact ⟨[49, 50], by decide, rfl, rfl⟩
      | exact ⟨[97, 47, 98], by decide, rfl, rfl⟩
      | exact ⟨[126, 116], by decide, rfl, rfl⟩
      | exact ⟨[195, 169], by decide, rfl, rfl⟩
      | exact ⟨[], by decide, rfl, rfl⟩
      | exact ⟨[45], by decide, rfl, rfl⟩
      | exact ⟨[120, 39, 92], by decide, rfl, rfl⟩
end Go.Proofs.YtadefcohbkgbfaaDoor
