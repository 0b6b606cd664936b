import Derived.Test.YtmjlkbdjalokeabGreatDoorDraw
import Derived.Test.YtmjlkbdjalokeabGreatDoorConvB
import Derived.Laws.DeepStrings4
namespace Go.Proofs.YtmjlkbdjalokeabGreatDoor
open Go.RowKit

/-- The reader of drawn bytes, with q bytes left. -/
def RdL (w : World) (B rb q : Nat) : Prop := ∃ (a : Option Addr) (c p : Nat) (l : List UInt8) (bb bo : Nat), w.heap[rb]? = some (.cells #[.slice a l.length c, .int .i64 p] 58 (0, 0)) ∧ B ≤ rb ∧ p + q = l.length ∧ l.length ≤ 1200 ∧ BS w a bb bo l ∧ (0 < l.length → bb < B)
theorem RdL.lt {w : World} {B rb q : Nat} (h : RdL w B rb q) : rb < w.heap.size := by
  obtain ⟨a, c, p, l, bb, bo, hh, _⟩ := h; exact (Array.getElem?_eq_some_iff.1 hh).1
theorem RdL.le {w : World} {B rb q : Nat} (h : RdL w B rb q) : q ≤ 1200 := by
  obtain ⟨a, c, p, l, bb, bo, _, _, h1, h2, _⟩ := h; omega
theorem RdL.low {w : World} {B rb q : Nat} (h : RdL w B rb q) : B ≤ rb := by
  obtain ⟨a, c, p, l, bb, bo, _, h1, _⟩ := h; exact h1
theorem RdL.grown {w w' : World} {B rb q : Nat} {r : Option Nat} (h : RdL w B rb q) (hg : w.grownBy w' r) (hne : some rb ≠ r) (hB : ∀ k, r = some k → B ≤ k) : RdL w' B rb q := by
  have hlt := h.lt
  obtain ⟨a, c, p, l, bb, bo, hh, h1, h2, h3, h4, h5⟩ := h
  exact ⟨a, c, p, l, bb, bo, (hg.block rb hlt hne).trans hh, h1, h2, h3, h4.grown hg (fun h0 e => by have := hB bb e.symm; have := h5 h0; omega), h5⟩

set_option maxHeartbeats 800000 in
theorem nextL_walk (B rb q : Nat) (w : World) (h : RdL w B rb q) :
    Calls Tryz.prog 15 #[.pointer (some ⟨rb, 0, none⟩)] w fun e w' => ∃ x : Nat, x ≤ 255 ∧ e = .returned (.int .i64 x) ∧ RdL w' B rb (q - 1) ∧ w.grownBy w' (some rb) := by
  obtain ⟨a, c, p, l, bb, bo, hh, hB, hp, hl, hbs, hbb⟩ := h
  have c0 : w.cell? ⟨rb, 0, none⟩ = some (.slice a l.length c) := by rw [Lib.cell_of_heap hh]; rfl
  have c1 : w.cell? ⟨rb, 1, none⟩ = some (.int .i64 p) := by rw [Lib.cell_of_heap hh]; rfl
  have f1 : w.frozen? ⟨rb, 1, none⟩ = false := Lib.frozen_of_heap hh 1
  have HH := hide hh
  have HBS := hide hbs
  clear hh hbs
  by_cases hlt : p < l.length
  · have ca := (unhide HBS).cell p hlt
    obtain rfl := (unhide HBS).ad (by omega)
    have hx : (l.getD p 0).toNat ≤ 255 := by have := UInt8.toNat_lt (l.getD p 0); omega
    generalize (l.getD p 0).toNat = x at *
    have hltI : (p : Int) < (l.length : Int) := by omega
    go_enter Tryz.func15, Tryz.ntmps15
    go_wp2
    go_quiet (fail)
    go_wp2
    go_quiet (fail)
    go_wp2
    go_ret
    refine ⟨x, hx, rfl, ⟨_, c, p + 1, l, bb, bo, ?_, hB, by omega, hl, (unhide HBS).grown (grown_set w _ rb 1 _) (fun h0 e => by have := hbb h0; injection e with e; omega), hbb⟩, grown_set w _ rb 1 _⟩
    exact heap_set _ rb _ _ _ _ (unhide HH)
  · have hltI : ¬ (p : Int) < (l.length : Int) := by omega
    go_enter Tryz.func15, Tryz.ntmps15
    go_wp2
    go_quiet (fail)
    go_wp2
    go_ret
    exact ⟨0, by omega, rfl, ⟨a, c, p, l, bb, bo, unhide HH, hB, by omega, hl, (unhide HBS).grown (grown_draws w _ none) (fun _ e => by cases e), hbb⟩, grown_draws w _ _⟩

set_option maxHeartbeats 800000 in
theorem leftL_walk (B rb q : Nat) (w : World) (h : RdL w B rb q) :
    Calls Tryz.prog 16 #[.pointer (some ⟨rb, 0, none⟩)] w fun e w' => e = .returned (.int .i64 q) ∧ RdL w' B rb q ∧ w.grownBy w' (some rb) := by
  obtain ⟨a, c, p, l, bb, bo, hh, hB, hp, hl, hbs, hbb⟩ := h
  have c0 : w.cell? ⟨rb, 0, none⟩ = some (.slice a l.length c) := by rw [Lib.cell_of_heap hh]; rfl
  have c1 : w.cell? ⟨rb, 1, none⟩ = some (.int .i64 p) := by rw [Lib.cell_of_heap hh]; rfl
  have HH := hide hh
  have HBS := hide hbs
  have HE : Hid ((l.length : Int) - (p : Int) = (q : Int)) := by show _ = _; omega
  clear hh hbs
  go_enter Tryz.func16, Tryz.ntmps16
  go_wp2
  go_quiet (fail)
  go_wp2
  go_ret
  refine ⟨?_, ⟨a, c, p, l, bb, bo, unhide HH, hB, hp, hl, (unhide HBS).grown (grown_draws w _ none) (fun _ e => by cases e), hbb⟩, grown_draws w _ _⟩
  rw [unhide HE]; rfl

set_option maxHeartbeats 800000 in
theorem openL_walk (xa : Option Addr) (xb xo xc : Nat) (l : List UInt8) (w : World) (h : BS w xa xb xo l) (hl : l.length ≤ 1048576) (hc : l.length ≤ xc) :
    Calls Tryz.prog 14 #[.slice xa l.length xc] w fun e w' => e = .returned (.pointer (some ⟨w.heap.size, 0, none⟩)) ∧ (∃ q, RdL w' w.heap.size w.heap.size q) ∧ Below w.heap.size w w' ∧ w'.heap.size = w.heap.size + 1 := by
  have hbb : 0 < l.length → xb < w.heap.size := fun h0 => World.block_lt_of_cell? _ _ (h.cell 0 h0)
  have HB := hide h
  have HBB := hide hbb
  clear h hbb
  by_cases hgt : 1200 < l.length
  · have hgtI : (1200 : Int) < (l.length : Int) := by omega
    go_enter Tryz.func14, Tryz.ntmps14
    go_wp2
    go_ret
    refine ⟨rfl, ⟨_, _, xc, 0, l.take 1200, xb, xo, ?_, Nat.le_refl _, Nat.zero_add _, by rw [List.length_take]; omega, ((unhide HB).take 1200).grown (World.grownBy_alloc w _ none) (fun _ e => by cases e), fun _ => unhide HBB (by omega)⟩, (Below.refl _ _).alloc (Nat.le_refl _) _, by simp⟩
    rw [heap_alloc_new]; rw [List.length_take, Nat.min_eq_left (by omega)]; rfl
  · have hgtI : ¬ (1200 : Int) < (l.length : Int) := by omega
    go_enter Tryz.func14, Tryz.ntmps14
    go_wp2
    go_ret
    refine ⟨rfl, ⟨_, _, xc, 0, l, xb, xo, ?_, Nat.le_refl _, Nat.zero_add _, by omega, (unhide HB).grown (World.grownBy_alloc w _ none) (fun _ e => by cases e), unhide HBB⟩, (Below.refl _ _).alloc (Nat.le_refl _) _, by simp⟩
    rw [heap_alloc_new]; rfl

set_option maxHeartbeats 800000 in
theorem str_walk (k : Nat) (w : World) (hk : k ≤ 255) :
    Calls Tryz.prog 17 #[.int .i64 k] w fun e w' => ∃ t : ByteArray, t.size ≤ 7 ∧ e = .returned (.string t) ∧ w = w' := by
  by_cases h5 : k % 8 < 5
  · have h5' : (k : Int) % 8 < 5 := by omega
    have HK : Hid (Calls Tryz.prog 34 #[.int .i64 ((k : Int) / 8)] w fun e w' => ∃ t : List UInt8, t.length ≤ 3 ∧ e = .returned (.string (baT t)) ∧ w = w') := key_walk (k / 8) w (by omega)
    clear h5
    go_enter Tryz.func17, Tryz.ntmps17
    go_wp2_with fail
    refine (unhide HK).mono ?_
    rintro e w1 ⟨t, ht, rfl, rfl⟩
    go_wp2
    go_ret
    exact ⟨_, by show t.toArray.size ≤ 7; simp; omega, rfl, rfl⟩
  · have h5' : ¬ (k : Int) % 8 < 5 := by omega
    clear h5
    go_enter Tryz.func17, Tryz.ntmps17
    go_wp2
    all_goals go_ret
    all_goals exact ⟨_, by decide, rfl, rfl⟩
end Go.Proofs.YtmjlkbdjalokeabGreatDoor
