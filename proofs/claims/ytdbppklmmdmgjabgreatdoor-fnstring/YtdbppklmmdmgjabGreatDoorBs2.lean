import Derived.Deep.QuietTactic
import Derived.Lib.Builder
import Derived.BigQuiet
import Derived.Test.YtdbppklmmdmgjabGreatDoorBn1
import Derived.Test.YtdbppklmmdmgjabGreatDoorBs1
import Derived.Laws.DeepStrings4
import Derived.Lib.QuietBelow
namespace Go.Proofs.YtdbppklmmdmgjabGreatDoor
open Go.RowKit

structure BS (w : World) (xa : Option Addr) (xb xo : Nat) (l : List UInt8) : Prop where
  ad : 0 < l.length → xa = some ⟨xb, xo, none⟩
  cell : ∀ j, j < l.length → w.cell? ⟨xb, xo + j, none⟩ = some (.int .u8 (l.getD j 0).toNat)
theorem BS.grown {w w' : World} {xa : Option Addr} {xb xo : Nat} {l : List UInt8} {r : Option Nat} (h : BS w xa xb xo l) (hg : w.grownBy w' r) (hne : 0 < l.length → some xb ≠ r) : BS w' xa xb xo l :=
  ⟨h.ad, fun j hj => hg.cell (h.cell j hj) (hne (by omega))⟩
theorem BS.below {w w' : World} {xa : Option Addr} {xb xo : Nat} {l : List UInt8} (h : BS w xa xb xo l) (hb : Below w.heap.size w w') : BS w' xa xb xo l :=
  ⟨h.ad, fun j hj => (hb.cell (p := ⟨xb, xo + j, none⟩) (World.block_lt_of_cell? _ _ (h.cell j hj))).trans (h.cell j hj)⟩
theorem BS.take {w : World} {xa : Option Addr} {xb xo : Nat} {l : List UInt8} (h : BS w xa xb xo l) (n : Nat) : BS w xa xb xo (l.take n) :=
  ⟨fun h0 => h.ad (by rw [List.length_take] at h0; omega), fun j hj => by
    rw [List.length_take] at hj
    rw [h.cell j (by omega)]; simp [List.getD, show j < n from by omega]⟩

/-- The reader of drawn bytes: block rb holds it; its bytes lie below B. -/
def RdIs (w : World) (B rb : Nat) : Prop := ∃ (a : Option Addr) (c p : Nat) (l : List UInt8) (bb bo : Nat), w.heap[rb]? = some (.cells #[.slice a l.length c, .int .i64 p] 62 (0, 0)) ∧ B ≤ rb ∧ p ≤ l.length ∧ l.length ≤ 1200 ∧ BS w a bb bo l ∧ (0 < l.length → bb < B)
theorem RdIs.lt {w : World} {B rb : Nat} (h : RdIs w B rb) : rb < w.heap.size := by
  obtain ⟨a, c, p, l, bb, bo, hh, _⟩ := h; exact (Array.getElem?_eq_some_iff.1 hh).1
theorem RdIs.grown {w w' : World} {B rb : Nat} {r : Option Nat} (h : RdIs w B rb) (hg : w.grownBy w' r) (hne : some rb ≠ r) (hB : ∀ k, r = some k → B ≤ k) : RdIs w' B rb := by
  have hlt := h.lt
  obtain ⟨a, c, p, l, bb, bo, hh, h1, h2, h3, h4, h5⟩ := h
  exact ⟨a, c, p, l, bb, bo, (hg.block rb hlt hne).trans hh, h1, h2, h3, h4.grown hg (fun h0 e => by have := hB bb e.symm; have := h5 h0; omega), h5⟩
theorem grownBy_trans {w w1 w2 : World} {r : Option Nat} (h : w.grownBy w1 r) (k : w1.grownBy w2 r) : w.grownBy w2 r :=
  ⟨k.os.trans h.os, k.tape.trans h.tape, k.output.trans h.output, Nat.le_trans h.size k.size, fun j hj hne => (k.block j (Nat.lt_of_lt_of_le hj h.size) hne).trans (h.block j hj hne)⟩
/-- Writes to a row that was not there at the start: nothing of the start has turned but row r. -/
theorem grownBy_new {w w1 w2 : World} {r : Option Nat} {s : Option Nat} (h : w.grownBy w1 r) (k : w1.grownBy w2 s) (hs : ∀ j, s = some j → w.heap.size ≤ j) : w.grownBy w2 r :=
  ⟨k.os.trans h.os, k.tape.trans h.tape, k.output.trans h.output, Nat.le_trans h.size k.size, fun j hj hne => (k.block j (Nat.lt_of_lt_of_le hj h.size) (fun e => by have := hs j e.symm; omega)).trans (h.block j hj hne)⟩
theorem grownBy_below {w w1 : World} {r : Option Nat} (h : Below w.heap.size w w1) : w.grownBy w1 r := ⟨h.os, h.tape, h.output, h.size, fun k hk _ => h.block k hk⟩
theorem below_of_grownD {w w1 w2 : World} {B : Nat} {r : Option Nat} (h : Below B w w1) (k : w1.grownBy w2 r) (hB : B ≤ w1.heap.size) (hr : ∀ j, r = some j → B ≤ j) : Below B w w2 := h.grown k hB hr

theorem heap_set (w : World) (rb : Nat) (x y z : Value) (T : TypeId) (h : w.heap[rb]? = some (.cells #[x, y] T (0, 0))) : (w.setCell ⟨rb, 1, none⟩ z).heap[rb]? = some (.cells #[x, z] T (0, 0)) := by
  have := heap_setCell_same w rb 1 #[x, y] T z h
  simpa using this

theorem grown_setD (w : World) (n rb i : Nat) (z : Value) : w.grownBy ((w.drewN n).setCell ⟨rb, i, none⟩ z) (some rb) :=
  ⟨rfl, rfl, rfl, by simp [World.setCell], fun k _ hne => Below.heap_setCell (w.drewN n) ⟨rb, i, none⟩ z k (fun e => hne (by rw [e]))⟩
theorem grown_draws (w : World) (n : Nat) (r : Option Nat) : w.grownBy (w.drewN n) r := ⟨rfl, rfl, rfl, Nat.le_refl _, fun _ _ _ => rfl⟩

set_option maxHeartbeats 800000 in
theorem next_walk (B rb : Nat) (w : World) (h : RdIs w B rb) :
    Calls Tryz.prog 15 #[.pointer (some ⟨rb, 0, none⟩)] w fun e w' => ∃ x : Nat, x ≤ 255 ∧ e = .returned (.int .i64 x) ∧ RdIs w' B rb ∧ w.grownBy w' (some rb) := by
  obtain ⟨a, c, p, l, bb, bo, hh, hB, hp, hl, hbs, hbb⟩ := h
  have c0 : w.cell? ⟨rb, 0, none⟩ = some (.slice a l.length c) := by rw [Lib.cell_of_heap hh]; rfl
  have c1 : w.cell? ⟨rb, 1, none⟩ = some (.int .i64 p) := by rw [Lib.cell_of_heap hh]; rfl
  have f1 : w.frozen? ⟨rb, 1, none⟩ = false := Lib.frozen_of_heap hh 1
  have HH := hide hh
  have HBS := hide hbs
  clear hh hbs
  by_cases hlt : p < l.length
  · have ca := (unhide HBS).cell p hlt
    obtain rfl := (unhide HBS).ad (by omega)
    have hx : (l.getD p 0).toNat ≤ 255 := by have := UInt8.toNat_lt (l.getD p 0); omega
    generalize (l.getD p 0).toNat = x at *
    have hltI : (p : Int) < (l.length : Int) := by omega
    go_enter Tryz.func15, Tryz.ntmps15
    go_wp2
    go_quiet (fail)
    go_wp2
    go_quiet (fail)
    go_wp2
    go_ret
    refine ⟨x, hx, rfl, ⟨_, c, p + 1, l, bb, bo, ?_, hB, by omega, hl, (unhide HBS).grown (grown_setD w _ rb 1 _) (fun h0 e => by have := hbb h0; injection e with e; omega), hbb⟩, grown_setD w _ rb 1 _⟩
    exact heap_set _ rb _ _ _ _ (unhide HH)
  · have hltI : ¬ (p : Int) < (l.length : Int) := by omega
    go_enter Tryz.func15, Tryz.ntmps15
    go_wp2
    go_quiet (fail)
    go_wp2
    go_ret
    exact ⟨0, by omega, rfl, ⟨a, c, p, l, bb, bo, unhide HH, hB, hp, hl, (unhide HBS).grown (grown_draws w _ none) (fun _ e => by cases e), hbb⟩, grown_draws w _ _⟩

set_option maxHeartbeats 800000 in
theorem key_walk (k : Nat) (w : World) (hk : k ≤ 255) :
    Calls Tryz.prog 34 #[.int .i64 k] w fun e w' => ∃ t : List UInt8, t.length ≤ 3 ∧ e = .returned (.string (baT t)) ∧ w = w' := by
  by_cases h4 : k % 12 < 4
  · rcases (show k % 12 = 0 ∨ k % 12 = 1 ∨ k % 12 = 2 ∨ k % 12 = 3 from by omega) with h | h | h | h
    · have e : (k : Int) % 12 = 0 := by omega
      clear h4 h hk
      go_enter Tryz.func34, Tryz.ntmps34
      go_wp2
      go_ret
      exact ⟨[97], by decide, rfl, rfl⟩
    · have e : (k : Int) % 12 = 1 := by omega
      clear h4 h hk
      go_enter Tryz.func34, Tryz.ntmps34
      go_wp2
      go_ret
      exact ⟨[98], by decide, rfl, rfl⟩
    · have e : (k : Int) % 12 = 2 := by omega
      clear h4 h hk
      go_enter Tryz.func34, Tryz.ntmps34
      go_wp2
      go_ret
      exact ⟨[99], by decide, rfl, rfl⟩
    · have e : (k : Int) % 12 = 3 := by omega
      clear h4 h hk
      go_enter Tryz.func34, Tryz.ntmps34
      go_wp2
      go_ret
      exact ⟨[100], by decide, rfl, rfl⟩
  · have h4' : (4 : Int) ≤ (k : Int) % 12 := by omega
    go_enter Tryz.func34, Tryz.ntmps34
    go_wp2
    all_goals go_ret
    all_goals first
      | exact ⟨[48], by decide, rfl, rfl⟩
      | exact ⟨[49, 50], by decide, rfl, rfl⟩
      | exact ⟨[97, 47, 98], by decide, rfl, rfl⟩
      | exact ⟨[126, 116], by decide, rfl, rfl⟩
      | exact ⟨[195, 169], by decide, rfl, rfl⟩
      | exact ⟨[], by decide, rfl, rfl⟩
      | exact ⟨[45], by decide, rfl, rfl⟩
      | exact ⟨[120, 39, 92], by decide, rfl, rfl⟩
end Go.Proofs.YtdbppklmmdmgjabGreatDoor

namespace Go.Proofs.YtdbppklmmdmgjabGreatDoor
open Go.RowKit

/-- The reader of drawn bytes, with q bytes left. -/
def RdL (w : World) (B rb q : Nat) : Prop := ∃ (a : Option Addr) (c p : Nat) (l : List UInt8) (bb bo : Nat), w.heap[rb]? = some (.cells #[.slice a l.length c, .int .i64 p] 62 (0, 0)) ∧ B ≤ rb ∧ p + q = l.length ∧ l.length ≤ 1200 ∧ BS w a bb bo l ∧ (0 < l.length → bb < B)
theorem RdL.lt {w : World} {B rb q : Nat} (h : RdL w B rb q) : rb < w.heap.size := by
  obtain ⟨a, c, p, l, bb, bo, hh, _⟩ := h; exact (Array.getElem?_eq_some_iff.1 hh).1
theorem RdL.le {w : World} {B rb q : Nat} (h : RdL w B rb q) : q ≤ 1200 := by
  obtain ⟨a, c, p, l, bb, bo, _, _, h1, h2, _⟩ := h; omega
theorem RdL.low {w : World} {B rb q : Nat} (h : RdL w B rb q) : B ≤ rb := by
  obtain ⟨a, c, p, l, bb, bo, _, h1, _⟩ := h; exact h1
theorem RdL.grown {w w' : World} {B rb q : Nat} {r : Option Nat} (h : RdL w B rb q) (hg : w.grownBy w' r) (hne : some rb ≠ r) (hB : ∀ k, r = some k → B ≤ k) : RdL w' B rb q := by
  have hlt := h.lt
  obtain ⟨a, c, p, l, bb, bo, hh, h1, h2, h3, h4, h5⟩ := h
  exact ⟨a, c, p, l, bb, bo, (hg.block rb hlt hne).trans hh, h1, h2, h3, h4.grown hg (fun h0 e => by have := hB bb e.symm; have := h5 h0; omega), h5⟩

set_option maxHeartbeats 800000 in
theorem nextL_walk (B rb q : Nat) (w : World) (h : RdL w B rb q) :
    Calls Tryz.prog 15 #[.pointer (some ⟨rb, 0, none⟩)] w fun e w' => ∃ x : Nat, x ≤ 255 ∧ e = .returned (.int .i64 x) ∧ RdL w' B rb (q - 1) ∧ w.grownBy w' (some rb) := by
  obtain ⟨a, c, p, l, bb, bo, hh, hB, hp, hl, hbs, hbb⟩ := h
  have c0 : w.cell? ⟨rb, 0, none⟩ = some (.slice a l.length c) := by rw [Lib.cell_of_heap hh]; rfl
  have c1 : w.cell? ⟨rb, 1, none⟩ = some (.int .i64 p) := by rw [Lib.cell_of_heap hh]; rfl
  have f1 : w.frozen? ⟨rb, 1, none⟩ = false := Lib.frozen_of_heap hh 1
  have HH := hide hh
  have HBS := hide hbs
  clear hh hbs
  by_cases hlt : p < l.length
  · have ca := (unhide HBS).cell p hlt
    obtain rfl := (unhide HBS).ad (by omega)
    have hx : (l.getD p 0).toNat ≤ 255 := by have := UInt8.toNat_lt (l.getD p 0); omega
    generalize (l.getD p 0).toNat = x at *
    have hltI : (p : Int) < (l.length : Int) := by omega
    go_enter Tryz.func15, Tryz.ntmps15
    go_wp2
    go_quiet (fail)
    go_wp2
    go_quiet (fail)
    go_wp2
    go_ret
    refine ⟨x, hx, rfl, ⟨_, c, p + 1, l, bb, bo, ?_, hB, by omega, hl, (unhide HBS).grown (grown_setD w _ rb 1 _) (fun h0 e => by have := hbb h0; injection e with e; omega), hbb⟩, grown_setD w _ rb 1 _⟩
    exact heap_set _ rb _ _ _ _ (unhide HH)
  · have hltI : ¬ (p : Int) < (l.length : Int) := by omega
    go_enter Tryz.func15, Tryz.ntmps15
    go_wp2
    go_quiet (fail)
    go_wp2
    go_ret
    exact ⟨0, by omega, rfl, ⟨a, c, p, l, bb, bo, unhide HH, hB, by omega, hl, (unhide HBS).grown (grown_draws w _ none) (fun _ e => by cases e), hbb⟩, grown_draws w _ _⟩

set_option maxHeartbeats 800000 in
theorem leftL_walk (B rb q : Nat) (w : World) (h : RdL w B rb q) :
    Calls Tryz.prog 16 #[.pointer (some ⟨rb, 0, none⟩)] w fun e w' => e = .returned (.int .i64 q) ∧ RdL w' B rb q ∧ w.grownBy w' (some rb) := by
  obtain ⟨a, c, p, l, bb, bo, hh, hB, hp, hl, hbs, hbb⟩ := h
  have c0 : w.cell? ⟨rb, 0, none⟩ = some (.slice a l.length c) := by rw [Lib.cell_of_heap hh]; rfl
  have c1 : w.cell? ⟨rb, 1, none⟩ = some (.int .i64 p) := by rw [Lib.cell_of_heap hh]; rfl
  have HH := hide hh
  have HBS := hide hbs
  have HE : Hid ((l.length : Int) - (p : Int) = (q : Int)) := by show _ = _; omega
  clear hh hbs
  go_enter Tryz.func16, Tryz.ntmps16
  go_wp2
  go_quiet (fail)
  go_wp2
  go_ret
  refine ⟨?_, ⟨a, c, p, l, bb, bo, unhide HH, hB, hp, hl, (unhide HBS).grown (grown_draws w _ none) (fun _ e => by cases e), hbb⟩, grown_draws w _ _⟩
  rw [unhide HE]; rfl

set_option maxHeartbeats 800000 in
theorem openL_walk (xa : Option Addr) (xb xo xc : Nat) (l : List UInt8) (w : World) (h : BS w xa xb xo l) (hl : l.length ≤ 1048576) (hc : l.length ≤ xc) :
    Calls Tryz.prog 14 #[.slice xa l.length xc] w fun e w' => e = .returned (.pointer (some ⟨w.heap.size, 0, none⟩)) ∧ (∃ q, RdL w' w.heap.size w.heap.size q) ∧ Below w.heap.size w w' ∧ w'.heap.size = w.heap.size + 1 := by
  have hbb : 0 < l.length → xb < w.heap.size := fun h0 => World.block_lt_of_cell? _ _ (h.cell 0 h0)
  have HB := hide h
  have HBB := hide hbb
  clear h hbb
  by_cases hgt : 1200 < l.length
  · have hgtI : (1200 : Int) < (l.length : Int) := by omega
    go_enter Tryz.func14, Tryz.ntmps14
    go_wp2
    go_ret
    refine ⟨rfl, ⟨_, _, xc, 0, l.take 1200, xb, xo, ?_, Nat.le_refl _, Nat.zero_add _, by rw [List.length_take]; omega, ((unhide HB).take 1200).grown (World.grownBy_alloc w _ none) (fun _ e => by cases e), fun _ => unhide HBB (by omega)⟩, (Below.refl _ _).alloc (Nat.le_refl _) _, by simp⟩
    rw [heap_alloc_new]; rw [List.length_take, Nat.min_eq_left (by omega)]; rfl
  · have hgtI : ¬ (1200 : Int) < (l.length : Int) := by omega
    go_enter Tryz.func14, Tryz.ntmps14
    go_wp2
    go_ret
    refine ⟨rfl, ⟨_, _, xc, 0, l, xb, xo, ?_, Nat.le_refl _, Nat.zero_add _, by omega, (unhide HB).grown (World.grownBy_alloc w _ none) (fun _ e => by cases e), unhide HBB⟩, (Below.refl _ _).alloc (Nat.le_refl _) _, by simp⟩
    rw [heap_alloc_new]; rfl

set_option maxHeartbeats 800000 in
theorem str_walk (k : Nat) (w : World) (hk : k ≤ 255) :
    Calls Tryz.prog 17 #[.int .i64 k] w fun e w' => ∃ t : ByteArray, t.size ≤ 7 ∧ e = .returned (.string t) ∧ w = w' := by
  by_cases h5 : k % 8 < 5
  · have h5' : (k : Int) % 8 < 5 := by omega
    have HK : Hid (Calls Tryz.prog 34 #[.int .i64 ((k : Int) / 8)] w fun e w' => ∃ t : List UInt8, t.length ≤ 3 ∧ e = .returned (.string (baT t)) ∧ w = w') := key_walk (k / 8) w (by omega)
    clear h5
    go_enter Tryz.func17, Tryz.ntmps17
    go_wp2_with fail
    refine (unhide HK).mono ?_
    rintro e w1 ⟨t, ht, rfl, rfl⟩
    go_wp2
    go_ret
    exact ⟨_, by show t.toArray.size ≤ 7; simp; omega, rfl, rfl⟩
  · have h5' : ¬ (k : Int) % 8 < 5 := by omega
    clear h5
    go_enter Tryz.func17, Tryz.ntmps17
    go_wp2
    all_goals go_ret
    all_goals exact ⟨_, by decide, rfl, rfl⟩
end Go.Proofs.YtdbppklmmdmgjabGreatDoor

namespace Go.Proofs.YtdbppklmmdmgjabGreatDoor
open Go.RowKit Go.Sort

def odds : List ByteArray := [⟨#[34]⟩, ⟨#[92]⟩, ⟨#[48, 49]⟩, ⟨#[45]⟩, ⟨#[44]⟩, ⟨#[58]⟩, ⟨#[91]⟩, ⟨#[93]⟩, ⟨#[123]⟩, ⟨#[125]⟩, ⟨#[32]⟩, ⟨#[128]⟩, ⟨#[92, 117, 100, 56, 48, 48]⟩, ⟨#[49, 46, 53]⟩, ⟨#[101]⟩, ⟨#[31]⟩, ⟨#[110, 117, 108]⟩, ⟨#[57, 57, 57, 57, 57, 57, 57, 57, 57, 57, 57, 57, 57, 57, 57, 57, 57, 57, 57, 57]⟩, ⟨#[237, 160, 128]⟩, ⟨#[192, 128]⟩]
def odd (k : Nat) : ByteArray := odds.getD (k % 20) ⟨#[]⟩
theorem odd_le (k : Nat) : (odd k).size ≤ 20 := by
  unfold odd
  have h : k % 20 < 20 := Nat.mod_lt _ (by decide)
  generalize k % 20 = j at *
  rcases (show j = 0 ∨ j = 1 ∨ j = 2 ∨ j = 3 ∨ j = 4 ∨ j = 5 ∨ j = 6 ∨ j = 7 ∨ j = 8 ∨ j = 9 ∨ j = 10 ∨ j = 11 ∨ j = 12 ∨ j = 13 ∨ j = 14 ∨ j = 15 ∨ j = 16 ∨ j = 17 ∨ j = 18 ∨ j = 19 from by omega) with rfl | rfl | rfl | rfl | rfl | rfl | rfl | rfl | rfl | rfl | rfl | rfl | rfl | rfl | rfl | rfl | rfl | rfl | rfl | rfl <;> decide

set_option maxHeartbeats 1600000 in
theorem odd_walk (k : Nat) (w : World) :
    Calls Tryz.prog 35 #[.int .i64 k] w fun e w' => e = .returned (.string (odd k)) ∧ Below w.heap.size w w' := by
  have HO : Hid (odd k = odds.getD (k % 20) ⟨#[]⟩) := rfl
  have h : k % 20 < 20 := Nat.mod_lt _ (by decide)
  have hI : (k : Int) % 20 = ((k % 20 : Nat) : Int) := by omega
  generalize k % 20 = j at *
  rcases (show j = 0 ∨ j = 1 ∨ j = 2 ∨ j = 3 ∨ j = 4 ∨ j = 5 ∨ j = 6 ∨ j = 7 ∨ j = 8 ∨ j = 9 ∨ j = 10 ∨ j = 11 ∨ j = 12 ∨ j = 13 ∨ j = 14 ∨ j = 15 ∨ j = 16 ∨ j = 17 ∨ j = 18 ∨ j = 19 from by omega) with rfl | rfl | rfl | rfl | rfl | rfl | rfl | rfl | rfl | rfl | rfl | rfl | rfl | rfl | rfl | rfl | rfl | rfl | rfl | rfl
  all_goals clear h
  all_goals go_enter Tryz.func35, Tryz.ntmps35
  all_goals go_wp2
  all_goals go_ret
  all_goals exact ⟨by rw [unhide HO]; rfl, (Below.refl _ _).alloc (Nat.le_refl _) _⟩

set_option maxHeartbeats 1600000 in
theorem repeat_walk (l : List UInt8) (n : Nat) (w : World) (hl : l.length ≤ 4) (hn : n ≤ 30000) :
    Calls Tryz.prog 18 #[.string (strOf l), .int .i64 n] w fun e w' => ∃ t : ByteArray, t.size ≤ 120000 ∧ e = .returned (.string t) ∧ Below w.heap.size w w' := by
  obtain ⟨i0, hi0, hz0, hz1, hz2⟩ := info_parts infoU8
  go_enter Tryz.func18, Tryz.ntmps18
  go_wp2
  go_loopw [5, 6] (fun v i wr => ∃ (j : Nat) (acc : List UInt8), i = .int .i64 (j : Int) ∧ j ≤ n ∧ acc.length ≤ 4 * j ∧ wr.ownsRow w.heap.size 5 1 v (Lib.byteCells acc).length (Lib.byteCells acc) ∧ Below w.heap.size w wr) (fun _ i _ => n - (intOf i).toNat)
  case atStart =>
    exact ⟨0, [], rfl, Nat.zero_le _, by simp, ⟨rfl, .inr ⟨w.heap.size, 0, #[], rfl, Nat.le_refl _, heap_alloc_new w _, Nat.le_refl _, by unfold maxLen; omega, rfl, rfl⟩⟩, (Below.refl _ _).alloc (Nat.le_refl _) _⟩
  case round =>
    obtain ⟨j, acc, rfl, hj, hal, hown, hb⟩ := hrel
    have HB := hide hb
    have hwsz := hb.size
    clear hb
    by_cases hin : j < n
    · have t1 : (j : Int) < (n : Int) := by omega
      obtain ⟨cap, W3, hcv, hcell, b3, hk3, hs3⟩ := conv_bytes wr l
      have own3 := hk3 _ _ _ _ _ hown
      have B3 := below_next (unhide HB) b3
      have HCELL := hide hcell
      clear hcell hk3 hown b3 HB
      go_wp2_with (at_builtin; refine wpList_append_own _ rfl (.tmp 13) (.tmp 15) 22 rfl w.heap.size 5 i0 (.int .u8 0) 1 1 Tryz.underlying22 hi0 hz0 hz1 hz2 rfl (by decide) _ _ _ rfl own3 ⟨wr.heap.size, 0, none⟩ l.length cap (Lib.byteCells l) rfl (by rw [Lib.byteCells_length]; omega) (unhide HCELL) (one_bytes l) (by rw [Lib.byteCells_length]; unfold maxLen; omega) (by rw [Lib.byteCells_length]; omega) (by omega) ?_)
      intro v4 w4 own4 hg4 _
      have B4 : Below w.heap.size w w4 := B3.grown hg4 (by omega) (fun k hk => (own3.lt k hk).1)
      have own4' := own_step (m := l) own4 rfl rfl
      clear own4 hg4 own3 HCELL B3 hcv
      go_wp2
      go_roundw
      case rel => exact ⟨j + 1, acc ++ l, by go_num, by omega, by rw [List.length_append]; omega, own4', B4⟩
      case measure => simp [intOf]; omega
    · have t1 : ¬ (j : Int) < (n : Int) := by omega
      have hcv := convert_own hown
      clear hown
      go_wp2
      go_ret
      exact ⟨_, by show acc.toArray.size ≤ _; simp; omega, rfl, unhide HB⟩
end Go.Proofs.YtdbppklmmdmgjabGreatDoor
