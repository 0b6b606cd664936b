import Derived.Lib.RuneCount
import Derived.Test.YtadefcohbkgbfabGreatDoorBn3
import Derived.Deep.QuietTactic
import Derived.Lib.Builder
import Derived.BigQuiet
import Derived.Test.YtadefcohbkgbfabGreatDoorBn1
import Derived.Laws.DeepStrings4
import Derived.Lib.QuietBelow
import Derived.Deep.LoopGhost
import Derived.WalkKit
import Derived.ProofKit
import Derived.OpenShut
namespace Go.Proofs.YtadefcohbkgbfabGreatDoor
open Go.RowKit

theorem take_2 (s : ByteArray) (i : Nat) (hi : i < s.size) (h1 : i + 1 < s.size) : (s.data.toList.drop i).take 2 = [s[i], s[i + 1]] := by
  rw [drop_at s i hi, drop_at s (i + 1) h1]; rfl
theorem take_3 (s : ByteArray) (i : Nat) (hi : i < s.size) (h1 : i + 1 < s.size) (h2 : i + 2 < s.size) : (s.data.toList.drop i).take 3 = [s[i], s[i + 1], s[i + 2]] := by
  rw [drop_at s i hi, drop_at s (i + 1) h1, drop_at s (i + 2) h2]; rfl
theorem take_4 (s : ByteArray) (i : Nat) (hi : i < s.size) (h1 : i + 1 < s.size) (h2 : i + 2 < s.size) (h3 : i + 3 < s.size) : (s.data.toList.drop i).take 4 = [s[i], s[i + 1], s[i + 2], s[i + 3]] := by
  rw [drop_at s i hi, drop_at s (i + 1) h1, drop_at s (i + 2) h2, drop_at s (i + 3) h3]; rfl
theorem toU8 (c : UInt8) (x : Int) (h : x = (c.toNat : Int)) : x.toNat.toUInt8 = c := by
  subst h; rw [Int.toNat_natCast]; exact UInt8.ofNat_toNat

set_option maxRecDepth 100000 in
/-- A rune of several bytes, written again, is its bytes. -/
theorem enc_multi (s : ByteArray) (i : Nat) (hi : i < s.size) (hv : ¬ rl s i = 0) (h8 : ¬ s[i].toNat < 128) :
    Lib.encodeRune ((Utf8.decode s i).1 : Nat) = (s.data.toList.drop i).take (rl s i) ∧ (∀ c ∈ (s.data.toList.drop i).take (rl s i), 128 ≤ c.toNat) ∧ 128 ≤ (Utf8.decode s i).1 ∧ (Utf8.decode s i).2 = rl s i := by
  have hb0 := bt_at s i hi
  have hw : (Utf8.decode s i).2 = rl s i := by rw [dec]; exact (rlN_good hv).1
  have h192 : 192 ≤ s[i].toNat := by
    rcases Nat.lt_or_ge s[i].toNat 192 with h | h
    · exact absurd (show rl s i = 0 by unfold rl; rw [rlN_cont (by rw [hb0]; omega) (by rw [hb0]; exact h)]) hv
    · exact h
  by_cases h2 : s[i].toNat < 224
  · have e := rlN_2 (n := s.size - i) (b0 := bt s i) (b1 := bt s (i + 1)) (b2 := bt s (i + 2)) (b3 := bt s (i + 3)) (by rw [hb0]; exact h192) (by rw [hb0]; exact h2) (bt_lt _ _)
    change rl s i = _ at e
    by_cases hc : 2 ≤ s.size - i ∧ 128 ≤ bt s (i + 1) ∧ bt s (i + 1) < 192 ∧ 128 ≤ (bt s i - 192) * 64 + (bt s (i + 1) - 128)
    · rw [if_pos hc] at e
      obtain ⟨c1, c2, c3, c4⟩ := hc
      have h1 : i + 1 < s.size := by omega
      have b1 := bt_at s (i + 1) h1
      have ed : Utf8.decode s i = (bt s i % 32 * 64 + bt s (i + 1) % 64, 2) := by
        rw [dec]; unfold Lib.decodeN
        rw [if_neg (by omega), if_pos ⟨by omega, by omega, by omega⟩, if_pos (by omega)]
      rw [e, ed, take_2 s i hi h1]
      refine ⟨?_, ?_, by simp only; omega, rfl⟩
      · unfold Lib.encodeRune
        rw [Lib.encodeRuneZ_two (by simp only; omega) (by simp only; omega)]
        simp only [List.map_cons, List.map_nil]
        rw [toU8 s[i] _ (by omega), toU8 s[i + 1] _ (by omega)]
      · intro c hc; simp at hc; rcases hc with rfl | rfl <;> omega
    · rw [if_neg hc] at e; exact absurd e hv
  · by_cases h3 : s[i].toNat < 240
    · have e := rlN_3 (n := s.size - i) (b0 := bt s i) (b1 := bt s (i + 1)) (b2 := bt s (i + 2)) (b3 := bt s (i + 3)) (by rw [hb0]; omega) (by rw [hb0]; exact h3) (bt_lt _ _) (bt_lt _ _)
      change rl s i = _ at e
      split at e
      · rename_i hc
        obtain ⟨c1, c2, c3, c4, c5, c6, c7⟩ := hc
        have h1 : i + 1 < s.size := by omega
        have h2' : i + 2 < s.size := by omega
        have b1 := bt_at s (i + 1) h1
        have b2 := bt_at s (i + 2) h2'
        have ed : Utf8.decode s i = (bt s i % 16 * 4096 + bt s (i + 1) % 64 * 64 + bt s (i + 2) % 64, 3) := by
          rw [dec]; unfold Lib.decodeN
          rw [if_neg (by omega), if_neg (by omega), if_pos ⟨by omega, ⟨by omega, by omega⟩, by omega, by omega⟩, if_pos (by omega)]
        rw [e, ed, take_3 s i hi h1 h2']
        refine ⟨?_, ?_, by simp only; omega, rfl⟩
        · unfold Lib.encodeRune
          rw [Lib.encodeRuneZ_three (by simp only; omega)]
          simp only [List.map_cons, List.map_nil]
          rw [toU8 s[i] _ (by omega), toU8 s[i + 1] _ (by omega), toU8 s[i + 2] _ (by omega)]
        · intro c hc; simp at hc; rcases hc with rfl | rfl | rfl <;> omega
      · exact absurd e hv
    · have hlt : s[i].toNat < 256 := UInt8.toNat_lt _
      have e := rlN_4 (n := s.size - i) (b0 := bt s i) (b1 := bt s (i + 1)) (b2 := bt s (i + 2)) (b3 := bt s (i + 3)) (by rw [hb0]; omega) (by rw [hb0]; exact hlt) (bt_lt _ _) (bt_lt _ _) (bt_lt _ _)
      change rl s i = _ at e
      split at e
      · rename_i hc
        obtain ⟨c1, c2, c3, c4, c5, c6, c7, c8, c9⟩ := hc
        have h1 : i + 1 < s.size := by omega
        have h2' : i + 2 < s.size := by omega
        have h3' : i + 3 < s.size := by omega
        have b1 := bt_at s (i + 1) h1
        have b2 := bt_at s (i + 2) h2'
        have b3 := bt_at s (i + 3) h3'
        have ed : Utf8.decode s i = (bt s i % 8 * 262144 + bt s (i + 1) % 64 * 4096 + bt s (i + 2) % 64 * 64 + bt s (i + 3) % 64, 4) := by
          rw [dec]; unfold Lib.decodeN
          rw [if_neg (by omega), if_neg (by omega), if_neg (by omega), if_pos ⟨by omega, ⟨by omega, by omega⟩, ⟨by omega, by omega⟩, by omega, by omega⟩, if_pos (by omega)]
        rw [e, ed, take_4 s i hi h1 h2' h3']
        refine ⟨?_, ?_, by simp only; omega, rfl⟩
        · unfold Lib.encodeRune
          rw [Lib.encodeRuneZ_four (by simp only; omega) (by simp only; omega)]
          simp only [List.map_cons, List.map_nil]
          rw [toU8 s[i] _ (by omega), toU8 s[i + 1] _ (by omega), toU8 s[i + 2] _ (by omega), toU8 s[i + 3] _ (by omega)]
        · intro c hc; simp at hc; rcases hc with rfl | rfl | rfl | rfl <;> omega
      · exact absurd e hv
end Go.Proofs.YtadefcohbkgbfabGreatDoor


namespace Go.Proofs.YtadefcohbkgbfabGreatDoor
open Go.RowKit

set_option maxHeartbeats 800000 in
theorem valid_walk (s : ByteArray) (w : World) (hs : s.size ≤ 1048576) :
    Calls Tryz.prog 26 #[.string s] w fun e w' => e = .returned (.bool (Lib.validD s.data.toList)) ∧ Below w.heap.size w w' := by
  go_enter Tryz.func26, Tryz.ntmps26
  go_wp2
  go_loopw [3] (fun i wr => ∃ j : Nat, j ≤ s.size ∧ i = .int .i64 j ∧ Lib.validD s.data.toList = Lib.validD (s.data.toList.drop j) ∧ Below w.heap.size w wr) (fun i _ => s.size - (intOf i).toNat)
  case atStart => exact ⟨0, Nat.zero_le _, rfl, by simp, Below.refl _ _⟩
  case round =>
    obtain ⟨j, hj, rfl, hv, hb⟩ := hrel
    have HV := hide hv
    clear hv
    by_cases hlt : j < s.size
    · have HC := hide (rl_walk s j wr hlt hs)
      have hle := rl_le s j hlt
      by_cases h0 : rl s j = 0
      · have HF : Hid (Lib.validD s.data.toList = false) := by have e := unhide HV; show _ = _; rw [e, valid_bad s j hlt h0]
        rw [h0] at HC
        clear h0 hle
        go_wp2_with fail
        refine (unhide HC).mono ?_
        rintro e w1 ⟨rfl, b1⟩
        have B1 := below_next hb b1
        go_wp2
        go_ret
        exact ⟨by rw [unhide HF]; rfl, B1⟩
      · have HF : Hid (Lib.validD s.data.toList = Lib.validD (s.data.toList.drop (j + rl s j))) := by have e := unhide HV; show _ = _; rw [e, valid_go s j hlt h0]
        generalize rl s j = n at *
        have t0 : ((n : Int) == 0) = false := by rw [beq_eq_false_iff_ne]; omega
        go_wp2_with fail
        refine (unhide HC).mono ?_
        rintro e w1 ⟨rfl, b1⟩
        have B1 := below_next hb b1
        clear HC b1 hb
        go_wp2
        go_roundw
        case rel => exact ⟨j + n, by omega, by go_num, unhide HF, B1⟩
        case measure => simp [intOf]; omega
    · have HF : Hid (Lib.validD s.data.toList = true) := by
        have e := unhide HV; show _ = _; rw [e, drop_end s j hlt]; rfl
      go_wp2
      go_ret
      exact ⟨by rw [unhide HF]; rfl, hb⟩
end Go.Proofs.YtadefcohbkgbfabGreatDoor


namespace Go.Proofs.YtadefcohbkgbfabGreatDoor
open Go.RowKit

structure BS (w : World) (xa : Option Addr) (xb xo : Nat) (l : List UInt8) : Prop where
  ad : 0 < l.length → xa = some ⟨xb, xo, none⟩
  cell : ∀ j, j < l.length → w.cell? ⟨xb, xo + j, none⟩ = some (.int .u8 (l.getD j 0).toNat)
theorem BS.grown {w w' : World} {xa : Option Addr} {xb xo : Nat} {l : List UInt8} {r : Option Nat} (h : BS w xa xb xo l) (hg : w.grownBy w' r) (hne : 0 < l.length → some xb ≠ r) : BS w' xa xb xo l :=
  ⟨h.ad, fun j hj => hg.cell (h.cell j hj) (hne (by omega))⟩
theorem BS.below {w w' : World} {xa : Option Addr} {xb xo : Nat} {l : List UInt8} (h : BS w xa xb xo l) (hb : Below w.heap.size w w') : BS w' xa xb xo l :=
  ⟨h.ad, fun j hj => (hb.cell (p := ⟨xb, xo + j, none⟩) (World.block_lt_of_cell? _ _ (h.cell j hj))).trans (h.cell j hj)⟩
theorem BS.take {w : World} {xa : Option Addr} {xb xo : Nat} {l : List UInt8} (h : BS w xa xb xo l) (n : Nat) : BS w xa xb xo (l.take n) :=
  ⟨fun h0 => h.ad (by rw [List.length_take] at h0; omega), fun j hj => by
    rw [List.length_take] at hj
    rw [h.cell j (by omega)]; simp [List.getD, show j < n from by omega]⟩

/-- The reader of drawn bytes: block rb holds it; its bytes lie below B. -/
def RdIs (w : World) (B rb : Nat) : Prop := ∃ (a : Option Addr) (c p : Nat) (l : List UInt8) (bb bo : Nat), w.heap[rb]? = some (.cells #[.slice a l.length c, .int .i64 p] 72 (0, 0)) ∧ B ≤ rb ∧ p ≤ l.length + 300 ∧ l.length ≤ 1200 ∧ BS w a bb bo l ∧ (0 < l.length → bb < B)
theorem RdIs.lt {w : World} {B rb : Nat} (h : RdIs w B rb) : rb < w.heap.size := by
  obtain ⟨a, c, p, l, bb, bo, hh, _⟩ := h; exact (Array.getElem?_eq_some_iff.1 hh).1
theorem RdIs.grown {w w' : World} {B rb : Nat} {r : Option Nat} (h : RdIs w B rb) (hg : w.grownBy w' r) (hne : some rb ≠ r) (hB : ∀ k, r = some k → B ≤ k) : RdIs w' B rb := by
  have hlt := h.lt
  obtain ⟨a, c, p, l, bb, bo, hh, h1, h2, h3, h4, h5⟩ := h
  exact ⟨a, c, p, l, bb, bo, (hg.block rb hlt hne).trans hh, h1, h2, h3, h4.grown hg (fun h0 e => by have := hB bb e.symm; have := h5 h0; omega), h5⟩
theorem grownBy_trans {w w1 w2 : World} {r : Option Nat} (h : w.grownBy w1 r) (k : w1.grownBy w2 r) : w.grownBy w2 r :=
  ⟨k.os.trans h.os, k.tape.trans h.tape, k.output.trans h.output, Nat.le_trans h.size k.size, fun j hj hne => (k.block j (Nat.lt_of_lt_of_le hj h.size) hne).trans (h.block j hj hne)⟩
theorem grownBy_below {w w1 : World} {r : Option Nat} (h : Below w.heap.size w w1) : w.grownBy w1 r := ⟨h.os, h.tape, h.output, h.size, fun k hk _ => h.block k hk⟩
theorem below_of_grownD {w w1 w2 : World} {B : Nat} {r : Option Nat} (h : Below B w w1) (k : w1.grownBy w2 r) (hB : B ≤ w1.heap.size) (hr : ∀ j, r = some j → B ≤ j) : Below B w w2 := h.grown k hB hr

theorem heap_set (w : World) (rb : Nat) (x y z : Value) (T : TypeId) (h : w.heap[rb]? = some (.cells #[x, y] T (0, 0))) : (w.setCell ⟨rb, 1, none⟩ z).heap[rb]? = some (.cells #[x, z] T (0, 0)) := by
  have := heap_setCell_same w rb 1 #[x, y] T z h
  simpa using this

theorem grown_setD (w : World) (n rb i : Nat) (z : Value) : w.grownBy ((w.drewN n).setCell ⟨rb, i, none⟩ z) (some rb) :=
  ⟨rfl, rfl, rfl, by simp [World.setCell], fun k _ hne => Below.heap_setCell (w.drewN n) ⟨rb, i, none⟩ z k (fun e => hne (by rw [e]))⟩
theorem grown_draws (w : World) (n : Nat) (r : Option Nat) : w.grownBy (w.drewN n) r := ⟨rfl, rfl, rfl, Nat.le_refl _, fun _ _ _ => rfl⟩

set_option maxHeartbeats 800000 in
theorem key_walk (k : Nat) (w : World) (hk : k ≤ 255) :
    Calls Tryz.prog 43 #[.int .i64 k] w fun e w' => ∃ t : List UInt8, t.length ≤ 3 ∧ e = .returned (.string (baT t)) ∧ w = w' := by
  by_cases h4 : k % 12 < 4
  · rcases (show k % 12 = 0 ∨ k % 12 = 1 ∨ k % 12 = 2 ∨ k % 12 = 3 from by omega) with h | h | h | h
    · have e : (k : Int) % 12 = 0 := by omega
      clear h4 h hk
      go_enter Tryz.func43, Tryz.ntmps43
      go_wp2
      go_ret
      exact ⟨[97], by decide, rfl, rfl⟩
    · have e : (k : Int) % 12 = 1 := by omega
      clear h4 h hk
      go_enter Tryz.func43, Tryz.ntmps43
      go_wp2
      go_ret
      exact ⟨[98], by decide, rfl, rfl⟩
    · have e : (k : Int) % 12 = 2 := by omega
      clear h4 h hk
      go_enter Tryz.func43, Tryz.ntmps43
      go_wp2
      go_ret
      exact ⟨[99], by decide, rfl, rfl⟩
    · have e : (k : Int) % 12 = 3 := by omega
      clear h4 h hk
      go_enter Tryz.func43, Tryz.ntmps43
      go_wp2
      go_ret
      exact ⟨[100], by decide, rfl, rfl⟩
  · have h4' : (4 : Int) ≤ (k : Int) % 12 := by omega
    go_enter Tryz.func43, Tryz.ntmps43
    go_wp2
    all_goals go_ret
    all_goals first
      | exact ⟨[48], by decide, rfl, rfl⟩
      | exact ⟨[49, 50], by decide, rfl, rfl⟩
      | exact ⟨[97, 47, 98], by decide, rfl, rfl⟩
      | exact ⟨[126, 116], by decide, rfl, rfl⟩
      | exact ⟨[195, 169], by decide, rfl, rfl⟩
      | exact ⟨[], by decide, rfl, rfl⟩
      | exact ⟨[45], by decide, rfl, rfl⟩
      | exact ⟨[120, 39, 92], by decide, rfl, rfl⟩
end Go.Proofs.YtadefcohbkgbfabGreatDoor


namespace Go.Proofs.YtadefcohbkgbfabGreatDoor
open Go.RowKit

/-- The reader of drawn bytes, with q bytes left. -/
def RdL (w : World) (B rb q : Nat) : Prop := ∃ (a : Option Addr) (c p : Nat) (l : List UInt8) (bb bo : Nat), w.heap[rb]? = some (.cells #[.slice a l.length c, .int .i64 p] 72 (0, 0)) ∧ B ≤ rb ∧ p + q = l.length ∧ l.length ≤ 1200 ∧ BS w a bb bo l ∧ (0 < l.length → bb < B)
theorem RdL.lt {w : World} {B rb q : Nat} (h : RdL w B rb q) : rb < w.heap.size := by
  obtain ⟨a, c, p, l, bb, bo, hh, _⟩ := h; exact (Array.getElem?_eq_some_iff.1 hh).1
theorem RdL.le {w : World} {B rb q : Nat} (h : RdL w B rb q) : q ≤ 1200 := by
  obtain ⟨a, c, p, l, bb, bo, _, _, h1, h2, _⟩ := h; omega
theorem RdL.low {w : World} {B rb q : Nat} (h : RdL w B rb q) : B ≤ rb := by
  obtain ⟨a, c, p, l, bb, bo, _, h1, _⟩ := h; exact h1
theorem RdL.grown {w w' : World} {B rb q : Nat} {r : Option Nat} (h : RdL w B rb q) (hg : w.grownBy w' r) (hne : some rb ≠ r) (hB : ∀ k, r = some k → B ≤ k) : RdL w' B rb q := by
  have hlt := h.lt
  obtain ⟨a, c, p, l, bb, bo, hh, h1, h2, h3, h4, h5⟩ := h
  exact ⟨a, c, p, l, bb, bo, (hg.block rb hlt hne).trans hh, h1, h2, h3, h4.grown hg (fun h0 e => by have := hB bb e.symm; have := h5 h0; omega), h5⟩

set_option maxHeartbeats 800000 in
theorem nextL_walk (B rb q : Nat) (w : World) (h : RdL w B rb q) :
    Calls Tryz.prog 21 #[.pointer (some ⟨rb, 0, none⟩)] w fun e w' => ∃ x : Nat, x ≤ 255 ∧ e = .returned (.int .i64 x) ∧ RdL w' B rb (q - 1) ∧ w.grownBy w' (some rb) := by
  obtain ⟨a, c, p, l, bb, bo, hh, hB, hp, hl, hbs, hbb⟩ := h
  have c0 : w.cell? ⟨rb, 0, none⟩ = some (.slice a l.length c) := by rw [Lib.cell_of_heap hh]; rfl
  have c1 : w.cell? ⟨rb, 1, none⟩ = some (.int .i64 p) := by rw [Lib.cell_of_heap hh]; rfl
  have f1 : w.frozen? ⟨rb, 1, none⟩ = false := Lib.frozen_of_heap hh 1
  have HH := hide hh
  have HBS := hide hbs
  clear hh hbs
  by_cases hlt : p < l.length
  · have ca := (unhide HBS).cell p hlt
    obtain rfl := (unhide HBS).ad (by omega)
    have hx : (l.getD p 0).toNat ≤ 255 := by have := UInt8.toNat_lt (l.getD p 0); omega
    generalize (l.getD p 0).toNat = x at *
    have hltI : (p : Int) < (l.length : Int) := by omega
    go_enter Tryz.func21, Tryz.ntmps21
    go_wp2
    go_quiet (fail)
    go_wp2
    go_quiet (fail)
    go_wp2
    go_ret
    refine ⟨x, hx, rfl, ⟨_, c, p + 1, l, bb, bo, ?_, hB, by omega, hl, (unhide HBS).grown (grown_setD w _ rb 1 _) (fun h0 e => by have := hbb h0; injection e with e; omega), hbb⟩, grown_setD w _ rb 1 _⟩
    exact heap_set _ rb _ _ _ _ (unhide HH)
  · have hltI : ¬ (p : Int) < (l.length : Int) := by omega
    go_enter Tryz.func21, Tryz.ntmps21
    go_wp2
    go_quiet (fail)
    go_wp2
    go_ret
    exact ⟨0, by omega, rfl, ⟨a, c, p, l, bb, bo, unhide HH, hB, by omega, hl, (unhide HBS).grown (grown_draws w _ none) (fun _ e => by cases e), hbb⟩, grown_draws w _ _⟩

set_option maxHeartbeats 800000 in
theorem leftL_walk (B rb q : Nat) (w : World) (h : RdL w B rb q) :
    Calls Tryz.prog 22 #[.pointer (some ⟨rb, 0, none⟩)] w fun e w' => e = .returned (.int .i64 q) ∧ RdL w' B rb q ∧ w.grownBy w' (some rb) := by
  obtain ⟨a, c, p, l, bb, bo, hh, hB, hp, hl, hbs, hbb⟩ := h
  have c0 : w.cell? ⟨rb, 0, none⟩ = some (.slice a l.length c) := by rw [Lib.cell_of_heap hh]; rfl
  have c1 : w.cell? ⟨rb, 1, none⟩ = some (.int .i64 p) := by rw [Lib.cell_of_heap hh]; rfl
  have HH := hide hh
  have HBS := hide hbs
  have HE : Hid ((l.length : Int) - (p : Int) = (q : Int)) := by show _ = _; omega
  clear hh hbs
  go_enter Tryz.func22, Tryz.ntmps22
  go_wp2
  go_quiet (fail)
  go_wp2
  go_ret
  refine ⟨?_, ⟨a, c, p, l, bb, bo, unhide HH, hB, hp, hl, (unhide HBS).grown (grown_draws w _ none) (fun _ e => by cases e), hbb⟩, grown_draws w _ _⟩
  rw [unhide HE]; rfl

set_option maxHeartbeats 800000 in
theorem openL_walk (xa : Option Addr) (xb xo xc : Nat) (l : List UInt8) (w : World) (h : BS w xa xb xo l) (hl : l.length ≤ 1048576) (hc : l.length ≤ xc) :
    Calls Tryz.prog 20 #[.slice xa l.length xc] w fun e w' => e = .returned (.pointer (some ⟨w.heap.size, 0, none⟩)) ∧ (∃ q, RdL w' w.heap.size w.heap.size q) ∧ Below w.heap.size w w' ∧ w'.heap.size = w.heap.size + 1 := by
  have hbb : 0 < l.length → xb < w.heap.size := fun h0 => World.block_lt_of_cell? _ _ (h.cell 0 h0)
  have HB := hide h
  have HBB := hide hbb
  clear h hbb
  by_cases hgt : 1200 < l.length
  · have hgtI : (1200 : Int) < (l.length : Int) := by omega
    go_enter Tryz.func20, Tryz.ntmps20
    go_wp2
    go_ret
    refine ⟨rfl, ⟨_, _, xc, 0, l.take 1200, xb, xo, ?_, Nat.le_refl _, Nat.zero_add _, by rw [List.length_take]; omega, ((unhide HB).take 1200).grown (World.grownBy_alloc w _ none) (fun _ e => by cases e), fun _ => unhide HBB (by omega)⟩, (Below.refl _ _).alloc (Nat.le_refl _) _, by simp⟩
    rw [heap_alloc_new]; rw [List.length_take, Nat.min_eq_left (by omega)]; rfl
  · have hgtI : ¬ (1200 : Int) < (l.length : Int) := by omega
    go_enter Tryz.func20, Tryz.ntmps20
    go_wp2
    go_ret
    refine ⟨rfl, ⟨_, _, xc, 0, l, xb, xo, ?_, Nat.le_refl _, Nat.zero_add _, by omega, (unhide HB).grown (World.grownBy_alloc w _ none) (fun _ e => by cases e), unhide HBB⟩, (Below.refl _ _).alloc (Nat.le_refl _) _, by simp⟩
    rw [heap_alloc_new]; rfl

set_option maxHeartbeats 800000 in
theorem str_walk (k : Nat) (w : World) (hk : k ≤ 255) :
    Calls Tryz.prog 23 #[.int .i64 k] w fun e w' => ∃ t : ByteArray, t.size ≤ 7 ∧ e = .returned (.string t) ∧ w = w' := by
  by_cases h5 : k % 8 < 5
  · have h5' : (k : Int) % 8 < 5 := by omega
    have HK : Hid (Calls Tryz.prog 43 #[.int .i64 ((k : Int) / 8)] w fun e w' => ∃ t : List UInt8, t.length ≤ 3 ∧ e = .returned (.string (baT t)) ∧ w = w') := key_walk (k / 8) w (by omega)
    clear h5
    go_enter Tryz.func23, Tryz.ntmps23
    go_wp2_with fail
    refine (unhide HK).mono ?_
    rintro e w1 ⟨t, ht, rfl, rfl⟩
    go_wp2
    go_ret
    exact ⟨_, by show t.toArray.size ≤ 7; simp; omega, rfl, rfl⟩
  · have h5' : ¬ (k : Int) % 8 < 5 := by omega
    clear h5
    go_enter Tryz.func23, Tryz.ntmps23
    go_wp2
    all_goals go_ret
    all_goals exact ⟨_, by decide, rfl, rfl⟩
end Go.Proofs.YtadefcohbkgbfabGreatDoor


namespace Go.Proofs.YtadefcohbkgbfabGreatDoor
open Go.RowKit Go.Sort

def odds : List ByteArray := [⟨#[34]⟩, ⟨#[92]⟩, ⟨#[48, 49]⟩, ⟨#[45]⟩, ⟨#[44]⟩, ⟨#[58]⟩, ⟨#[91]⟩, ⟨#[93]⟩, ⟨#[123]⟩, ⟨#[125]⟩, ⟨#[32]⟩, ⟨#[128]⟩, ⟨#[92, 117, 100, 56, 48, 48]⟩, ⟨#[49, 46, 53]⟩, ⟨#[101]⟩, ⟨#[31]⟩, ⟨#[110, 117, 108]⟩, ⟨#[57, 57, 57, 57, 57, 57, 57, 57, 57, 57, 57, 57, 57, 57, 57, 57, 57, 57, 57, 57]⟩, ⟨#[237, 160, 128]⟩, ⟨#[192, 128]⟩]
def odd (k : Nat) : ByteArray := odds.getD (k % 20) ⟨#[]⟩
theorem odd_le (k : Nat) : (odd k).size ≤ 20 := by
  unfold odd
  have h : k % 20 < 20 := Nat.mod_lt _ (by decide)
  generalize k % 20 = j at *
  rcases (show j = 0 ∨ j = 1 ∨ j = 2 ∨ j = 3 ∨ j = 4 ∨ j = 5 ∨ j = 6 ∨ j = 7 ∨ j = 8 ∨ j = 9 ∨ j = 10 ∨ j = 11 ∨ j = 12 ∨ j = 13 ∨ j = 14 ∨ j = 15 ∨ j = 16 ∨ j = 17 ∨ j = 18 ∨ j = 19 from by omega) with rfl | rfl | rfl | rfl | rfl | rfl | rfl | rfl | rfl | rfl | rfl | rfl | rfl | rfl | rfl | rfl | rfl | rfl | rfl | rfl <;> decide

set_option maxHeartbeats 1600000 in
theorem odd_walk (k : Nat) (w : World) :
    Calls Tryz.prog 44 #[.int .i64 k] w fun e w' => e = .returned (.string (odd k)) ∧ Below w.heap.size w w' := by
  have HO : Hid (odd k = odds.getD (k % 20) ⟨#[]⟩) := rfl
  have h : k % 20 < 20 := Nat.mod_lt _ (by decide)
  have hI : (k : Int) % 20 = ((k % 20 : Nat) : Int) := by omega
  generalize k % 20 = j at *
  rcases (show j = 0 ∨ j = 1 ∨ j = 2 ∨ j = 3 ∨ j = 4 ∨ j = 5 ∨ j = 6 ∨ j = 7 ∨ j = 8 ∨ j = 9 ∨ j = 10 ∨ j = 11 ∨ j = 12 ∨ j = 13 ∨ j = 14 ∨ j = 15 ∨ j = 16 ∨ j = 17 ∨ j = 18 ∨ j = 19 from by omega) with rfl | rfl | rfl | rfl | rfl | rfl | rfl | rfl | rfl | rfl | rfl | rfl | rfl | rfl | rfl | rfl | rfl | rfl | rfl | rfl
  all_goals clear h
  all_goals go_enter Tryz.func44, Tryz.ntmps44
  all_goals go_wp2
  all_goals go_ret
  all_goals exact ⟨by rw [unhide HO]; rfl, (Below.refl _ _).alloc (Nat.le_refl _) _⟩

set_option maxHeartbeats 1600000 in
theorem repeat_walk (l : List UInt8) (n : Nat) (w : World) (hl : l.length ≤ 4) (hn : n ≤ 30000) :
    Calls Tryz.prog 24 #[.string (strOf l), .int .i64 n] w fun e w' => ∃ t : ByteArray, t.size ≤ 120000 ∧ e = .returned (.string t) ∧ Below w.heap.size w w' := by
  obtain ⟨i0, hi0, hz0, hz1, hz2⟩ := info_parts infoU8
  go_enter Tryz.func24, Tryz.ntmps24
  go_wp2
  go_loopw [5, 6] (fun v i wr => ∃ (j : Nat) (acc : List UInt8), i = .int .i64 (j : Int) ∧ j ≤ n ∧ acc.length ≤ 4 * j ∧ wr.ownsRow w.heap.size 5 1 v (Lib.byteCells acc).length (Lib.byteCells acc) ∧ Below w.heap.size w wr) (fun _ i _ => n - (intOf i).toNat)
  case atStart =>
    exact ⟨0, [], rfl, Nat.zero_le _, by simp, ⟨rfl, .inr ⟨w.heap.size, 0, #[], rfl, Nat.le_refl _, heap_alloc_new w _, Nat.le_refl _, by unfold maxLen; omega, rfl, rfl⟩⟩, (Below.refl _ _).alloc (Nat.le_refl _) _⟩
  case round =>
    obtain ⟨j, acc, rfl, hj, hal, hown, hb⟩ := hrel
    have HB := hide hb
    have hwsz := hb.size
    clear hb
    by_cases hin : j < n
    · have t1 : (j : Int) < (n : Int) := by omega
      obtain ⟨cap, W3, hcv, hcell, b3, hk3, hs3⟩ := conv_bytes wr l
      have own3 := hk3 _ _ _ _ _ hown
      have B3 := below_next (unhide HB) b3
      have HCELL := hide hcell
      clear hcell hk3 hown b3 HB
      go_wp2_with (at_builtin; refine wpList_append_own _ rfl (.tmp 13) (.tmp 15) 22 rfl w.heap.size 5 i0 (.int .u8 0) 1 1 Tryz.underlying22 hi0 hz0 hz1 hz2 rfl (by decide) _ _ _ rfl own3 ⟨wr.heap.size, 0, none⟩ l.length cap (Lib.byteCells l) rfl (by rw [Lib.byteCells_length]; omega) (unhide HCELL) (one_bytes l) (by rw [Lib.byteCells_length]; unfold maxLen; omega) (by rw [Lib.byteCells_length]; omega) (by omega) ?_)
      intro v4 w4 own4 hg4 _
      have B4 : Below w.heap.size w w4 := B3.grown hg4 (by omega) (fun k hk => (own3.lt k hk).1)
      have own4' := own_step (m := l) own4 rfl rfl
      clear own4 hg4 own3 HCELL B3 hcv
      go_wp2
      go_roundw
      case rel => exact ⟨j + 1, acc ++ l, by go_num, by omega, by rw [List.length_append]; omega, own4', B4⟩
      case measure => simp [intOf]; omega
    · have t1 : ¬ (j : Int) < (n : Int) := by omega
      have hcv := convert_own hown
      clear hown
      go_wp2
      go_ret
      exact ⟨_, by show acc.toArray.size ≤ _; simp; omega, rfl, unhide HB⟩
end Go.Proofs.YtadefcohbkgbfabGreatDoor


namespace Go.Proofs.YtadefcohbkgbfabGreatDoor
open Go.RowKit Go.Sort

set_option maxHeartbeats 1600000 in
theorem change_walk (B rb q : Nat) (s : ByteArray) (w : World) (h : RdL w B rb q) (hs : s.size ≤ 100000) :
    Calls Tryz.prog 25 #[.pointer (some ⟨rb, 0, none⟩), .string s] w fun e w' => ∃ t : ByteArray, t.size ≤ 1048576 ∧ e = .returned (.string t) ∧ w.grownBy w' (some rb) := by
  have HN : Hid (∀ w q, RdL w B rb q → Calls Tryz.prog 21 #[.pointer (some ⟨rb, 0, none⟩)] w fun e w' => ∃ x : Nat, x ≤ 255 ∧ e = .returned (.int .i64 x) ∧ RdL w' B rb (q - 1) ∧ w.grownBy w' (some rb)) := fun w q h => nextL_walk B rb q w h
  have HR := hide h
  clear h
  go_enter Tryz.func25, Tryz.ntmps25
  go_wp2_with fail
  refine (unhide HN _ _ (unhide HR)).mono ?_
  rintro e w1 ⟨x, hx, rfl, r1, g1⟩
  have R1 := hide r1
  clear r1 HR
  go_wp2_with fail
  refine (unhide HN _ _ (unhide R1)).mono ?_
  rintro e w2 ⟨y, hy, rfl, r2, g2⟩
  have R2 := hide r2
  have G2 := hide (grownBy_trans g1 g2)
  clear r2 R1 g1 g2
  go_wp2_with fail
  refine (unhide HN _ _ (unhide R2)).mono ?_
  rintro e w3 ⟨z, hz, rfl, r3, g3⟩
  have G3 := hide (grownBy_trans (unhide G2) g3)
  clear r3 R2 G2 g3 HN
  by_cases h0 : s.size = 0
  · have t0 : ((s.size : Int) == 0) = true := by rw [beq_iff_eq]; omega
    go_wp2
    go_ret
    exact ⟨_, by decide, rfl, unhide G3⟩
  · have t0 : ((s.size : Int) == 0) = false := by rw [beq_eq_false_iff_ne]; omega
    have hm : (y * 256 + z) % s.size < s.size := Nat.mod_lt _ (by omega)
    have hmI : ((y : Int) * 256 + (z : Int)) % (s.size : Int) = (((y * 256 + z) % s.size : Nat) : Int) := by simp
    generalize (y * 256 + z) % s.size = m at *
    have HO : Hid (∀ d os, Calls Tryz.prog 44 #[.int .i64 ((x / 4 : Nat) : Int)] (grow (redrawn w3 d) os) fun e w'' => e = .returned (.string (odd (x / 4))) ∧ ∃ p : Regrown, w'' = grow (redrawn w3 p.d) p.os) := fun d os => Calls.regrown_of (odd_walk (x / 4) _)
    have ho := odd_le (x / 4)
    have hq1 : IntKind.wrap .i64 (Int.tdiv (x : Int) 4) = ((x / 4 : Nat) : Int) := by
      rw [Int.tdiv_eq_ediv_of_nonneg (by omega)]
      unfold IntKind.wrap
      simp [IntKind.signed, IntKind.bits]
      omega
    generalize odd (x / 4) = ob at *
    have q1 : (m : Int) ≤ (s.size : Int) := by omega
    have q2 : (m : Int) + 1 ≤ (s.size : Int) := by omega
    have q3 : (0 : Int) ≤ (m : Int) := by omega
    have q4 : (0 : Int) ≤ (m : Int) + 1 := by omega
    go_wp2
    · simp only [hmI]
      go_quiet (fail)
      go_wp2
      go_ret
      refine ⟨_, ?_, rfl, grownBy_trans (unhide G3) (grown_draws _ _ _)⟩
      simp; omega
    · simp only [hmI]
      go_quiet (fail)
      go_wp2
      go_ret
      refine ⟨_, ?_, rfl, grownBy_trans (unhide G3) (grown_draws _ _ _)⟩
      simp; omega
    · simp only [hmI]
      refine wp_region_quiet_below (by kernel_rfl) (by kernel_rfl) ?_
      repeat (first | go_big_quiet_step ((go_at_call 44; exact unhide HO _ _)) | quiet_step ((go_at_call 44; exact unhide HO _ _)))
      refine wpQuiet_nil ?_
      intro _ hw'
      obtain ⟨⟨dq, osq⟩, hw''⟩ := hw'
      subst hw''
      go_wp2
      go_ret
      refine ⟨_, ?_, rfl, grownBy_trans (unhide G3) (grownBy_below (below_regrown w3 dq osq))⟩
      simp; omega

theorem convert_BS {w : World} {xa : Option Addr} {xb xo xc : Nat} {l : List UInt8} (h : BS w xa xb xo l) : (convert 22 9 (.slice xa l.length xc)).run Tryz.prog w = .ok (.string (strOf l)) w := by
  cases xa with
  | none =>
    have e0 : l = [] := by
      cases l with
      | nil => rfl
      | cons c l => have := h.ad (by simp); cases this
    subst e0
    exact run_convert_bytes_nil (P := Tryz.prog) w 22 5 Tryz.underlying22 Tryz.underlying5 0 xc 9 Tryz.underlying9
  | some a =>
    exact run_convert_bytes_back (P := Tryz.prog) w 22 9 5 a xc l Tryz.underlying22 Tryz.underlying5 Tryz.underlying9 (fun j hj => by
      have e := h.ad (by omega)
      injection e with e
      subst e
      rw [show ((⟨xb, xo, none⟩ : Addr).add j) = ⟨xb, xo + j, none⟩ from by simp [Addr.add], h.cell j hj]
      simp [List.getD_eq_getElem?_getD, hj])

set_option maxRecDepth 100000 in
set_option maxHeartbeats 1600000 in
theorem drawQuote_walk (xa : Option Addr) (xb xo xc : Nat) (l : List UInt8) (w : World) (h : BS w xa xb xo l) (hl : l.length ≤ 1048576) (hc : l.length ≤ xc) :
    Calls Tryz.prog 7 #[.slice xa l.length xc] w fun e w' => ∃ t : ByteArray, t.size ≤ 1048576 ∧ e = .returned (.string t) ∧ Below w.heap.size w w' := by
  have HC := hide (openL_walk xa xb xo xc l w h hl hc)
  have HBS := hide h
  have HLL := hide hl
  clear h hl hc
  have HN : Hid (∀ u q, RdL u w.heap.size w.heap.size q → Calls Tryz.prog 21 #[.pointer (some ⟨w.heap.size, 0, none⟩)] u fun e w' => ∃ x : Nat, x ≤ 255 ∧ e = .returned (.int .i64 x) ∧ RdL w' w.heap.size w.heap.size (q - 1) ∧ u.grownBy w' (some w.heap.size)) := fun u q h => nextL_walk _ _ q u h
  have HL : Hid (∀ u q, RdL u w.heap.size w.heap.size q → Calls Tryz.prog 22 #[.pointer (some ⟨w.heap.size, 0, none⟩)] u fun e w' => e = .returned (.int .i64 q) ∧ RdL w' w.heap.size w.heap.size q ∧ u.grownBy w' (some w.heap.size)) := fun u q h => leftL_walk _ _ q u h
  have HCH : Hid (∀ u q s, RdL u w.heap.size w.heap.size q → s.size ≤ 100000 → Calls Tryz.prog 25 #[.pointer (some ⟨w.heap.size, 0, none⟩), .string s] u fun e w' => ∃ t : ByteArray, t.size ≤ 1048576 ∧ e = .returned (.string t) ∧ u.grownBy w' (some w.heap.size)) := fun u q s h hs => change_walk _ _ q s u h hs
  go_enter Tryz.func7, Tryz.ntmps7
  go_wp2_with fail
  refine (unhide HC).mono ?_
  rintro e w1 ⟨rfl, ⟨q0, r1⟩, b1, hz1⟩
  have R1 := hide r1
  clear r1 HC
  go_wp2_with fail
  refine (unhide HN _ _ (unhide R1)).mono ?_
  rintro e w2 ⟨k, hk, rfl, r2, g2⟩
  have R2 := hide r2
  have q2le := r2.le
  have B2 := hide (below_of_grownD b1 g2 (by omega) (fun j e => by injection e with e; omega))
  have hk5 : k % 5 < 5 := Nat.mod_lt _ (by decide)
  have hkI : (k : Int) % 5 = ((k % 5 : Nat) : Int) := by omega
  generalize hk5e : k % 5 = k5 at *
  clear r2 R1 b1 g2
  go_wp2_with fail
  go_loopg [5, 6] (6 + (q0 - 1)) (fun g v i wr => ∃ (j q : Nat) (s : ByteArray), g = (6 - j) + q ∧ v = .string s ∧ i = .int .i64 (j : Int) ∧ j + q ≤ 1206 ∧ s.size ≤ 7 * j ∧ RdL wr w.heap.size w.heap.size q ∧ Below w.heap.size w wr)
  case atStart => exact ⟨0, q0 - 1, ⟨#[]⟩, rfl, rfl, rfl, by omega, Nat.le_refl 0, unhide R2, unhide B2⟩
  case round =>
    obtain ⟨j, q, s, hg, rfl, rfl, hjq, hs, hr, hb⟩ := hrel
    have HR := hide hr
    have HB := hide hb
    have hwsz := hb.size
    clear hr hb R2 B2
    have body : True := trivial
    by_cases hA : j < 1 + k5
    · have tA : ((j : Int) < 1 + (k : Int) % 5) = True := eq_true (by omega)
      go_wp2_with fail
      refine (unhide HN _ _ (unhide HR)).mono ?_
      rintro e w3 ⟨x, hx, rfl, r3, g3⟩
      have R3 := hide r3
      have B3 := hide (below_of_grownD (unhide HB) g3 hwsz (fun j e => by injection e with e; omega))
      clear r3 g3 HR HB
      go_wp2_with fail
      refine (str_walk x w3 hx).mono ?_
      rintro e w4 ⟨t, ht, rfl, rfl⟩
      go_wp2
      go_roundg ((6 - (j + 1)) + (q - 1))
      case rel => exact ⟨j + 1, q - 1, s ++ t, rfl, rfl, by go_num, by omega, by simp; omega, unhide R3, unhide B3⟩
      case measure => omega
    · have tA : ((j : Int) < 1 + (k : Int) % 5) = False := eq_false (by omega)
      go_wp2_with fail
      refine (unhide HL _ _ (unhide HR)).mono ?_
      rintro e w3 ⟨rfl, r3, g3⟩
      have R3 := hide r3
      have B3 := hide (below_of_grownD (unhide HB) g3 hwsz (fun j e => by injection e with e; omega))
      have hw3 := g3.size
      clear r3 g3 HR HB
      by_cases hq : 4 < q
      · have tq : ((4 : Int) < (q : Int)) = True := eq_true (by omega)
        go_wp2_with fail
        refine (unhide HN _ _ (unhide R3)).mono ?_
        rintro e w4 ⟨x, hx, rfl, r4, g4⟩
        have R4 := hide r4
        have B4 := hide (below_of_grownD (unhide B3) g4 (by omega) (fun j e => by injection e with e; omega))
        clear r4 g4 R3 B3
        go_wp2_with fail
        refine (str_walk x w4 hx).mono ?_
        rintro e w5 ⟨t, ht, rfl, rfl⟩
        go_wp2
        go_roundg ((6 - (j + 1)) + (q - 1))
        case rel => exact ⟨j + 1, q - 1, s ++ t, rfl, rfl, by go_num, by omega, by simp; omega, unhide R4, unhide B4⟩
        case measure => omega
      · have tq : ((4 : Int) < (q : Int)) = False := eq_false (by omega)
        have hcv := convert_BS (xc := xc) ((unhide HBS).below (unhide B3))
        have HRP : Hid (∀ z : Int, (∃ n : Nat, z = (n : Int) ∧ n ≤ 30000) → Calls Tryz.prog 24 #[.string ⟨#[126]⟩, .int .i64 z] w3 fun e w' => ∃ t : ByteArray, t.size ≤ 120000 ∧ e = .returned (.string t) ∧ Below w3.heap.size w3 w') := fun z ⟨n, hz, hn⟩ => by
          subst hz
          exact repeat_walk [126] n w3 (by decide) hn
        go_wp2_with fail
        · go_ret
          exact ⟨_, by rw [strOf_size]; exact unhide HLL, rfl, unhide B3⟩
        · refine (unhide HRP _ ⟨20000 + k / 20 % 2, by omega, by omega⟩).mono ?_
          rintro e w4 ⟨t, ht, rfl, b4⟩
          have B4 := below_next (unhide B3) b4
          go_wp2
          go_ret
          exact ⟨_, Nat.le_trans ht (by decide), rfl, B4⟩
        · refine (unhide HCH _ _ s (unhide R3) (by omega)).mono ?_
          rintro e w4 ⟨t, ht, rfl, g4⟩
          have B4 := below_of_grownD (unhide B3) g4 (by omega) (fun j e => by injection e with e; omega)
          go_wp2
          go_ret
          exact ⟨_, ht, rfl, B4⟩
        · go_ret
          exact ⟨_, by omega, rfl, unhide B3⟩
end Go.Proofs.YtadefcohbkgbfabGreatDoor


namespace Go.Proofs.YtadefcohbkgbfabGreatDoor
open Go.ChangeShapes Go.WideShapes Go.ChangeAt Go.RowKit

theorem byte_of {n : Int} (h : (Lit.int .u8 n).wf = true) : ((UInt8.ofNat n.toNat).toNat : Int) = n := by
  have hb := bounds_u8 h
  rw [UInt8.toNat_ofNat']; omega
theorem bytes_of {W : World} {x : Addr} {len cap : Nat} {zs : List Int} (hl : len ≤ cap) (hz : zs.length = cap) (hcell : ∀ i, i < zs.length → W.cell? (x.add i) = some (.int .u8 (zs.getD i 0))) (hwz : ∀ n ∈ zs, (Lit.int .u8 n).wf = true) :
    ∃ bb bo l, len = List.length l ∧ BS W (some x) bb bo l ∧ l.length ≤ cap := by
  obtain ⟨b, off, spot⟩ := x
  by_cases h0 : len = 0
  · exact ⟨0, 0, [], h0, ⟨fun h => absurd h (by simp), fun j hj => absurd hj (by simp)⟩, Nat.zero_le _⟩
  · have hc := hcell 0 (by omega)
    have hspot : spot = none := by simpa [Addr.add] using World.cell?_spot hc
    subst hspot
    have hlt : ((zs.take len).map (fun n => UInt8.ofNat n.toNat)).length = len := by simp; omega
    refine ⟨b, off, (zs.take len).map (fun n => UInt8.ofNat n.toNat), hlt.symm, ⟨fun _ => rfl, fun j hj => ?_⟩, by omega⟩
    have hj' : j < zs.length := by omega
    have hcj := hcell j hj'
    rw [Go.WideShapes.add_plain] at hcj
    rw [hcj]
    have e : zs.getD j 0 = zs[j] := by simp [hj']
    have hb := byte_of (hwz zs[j] (List.getElem_mem hj'))
    have e2 : ((zs.take len).map (fun n => UInt8.ofNat n.toNat)).getD j 0 = UInt8.ofNat zs[j].toNat := by
      have : j < len := by omega
      simp [List.getD, this, hj']
    rw [e, e2, hb]
end Go.Proofs.YtadefcohbkgbfabGreatDoor


namespace Go.Proofs.YtadefcohbkgbfabGreatDoor
open Go.RowKit

theorem SS.drewN {w : World} {xa : Option Addr} {xb xo : Nat} {ss : List ByteArray} (h : SS w xa xb xo ss) (n : Nat) : SS (w.drewN n) xa xb xo ss := ⟨h.ad, h.cell⟩

set_option maxHeartbeats 400000 in
theorem eq_walk (xa ya : Option Addr) (xb xo xc yb yo yc : Nat) (ss : List ByteArray) (w : World) (hx : SS w xa xb xo ss) (hy : SS w ya yb yo ss) (hm : ss.length ≤ 9223372036854775807) :
    Calls Tryz.prog 17 #[.slice xa ss.length xc, .slice ya ss.length yc] w fun e w' => e = .returned (.bool true) ∧ ∃ n, w' = w.drewN n := by
  have hax := hx.ad
  have hay := hy.ad
  have HX := hide hx.cell
  have HY := hide hy.cell
  clear hx hy
  go_enter Tryz.func17, Tryz.ntmps17
  go_wp2
  go_loopw [5] (fun i wr => ∃ k : Nat, k ≤ ss.length ∧ i = .int .i64 k ∧ ∃ n, wr = w.drewN n) (fun i _ => ss.length - (intOf i).toNat)
  case atStart => exact ⟨0, Nat.zero_le _, rfl, 0, rfl⟩
  case round =>
    obtain ⟨k, hk, rfl, n, rfl⟩ := hrel
    by_cases hlt : k < ss.length
    · have hcx := unhide HX k hlt
      have hcy := unhide HY k hlt
      obtain rfl := hax (by omega)
      obtain rfl := hay (by omega)
      clear hax hay
      generalize ss.getD k ByteArray.empty = s at *
      have hlt' : (k : Int) < (ss.length : Int) := by omega
      have dcx : (w.drewN n).cell? ⟨xb, xo + k, none⟩ = some (.string s) := hcx
      have dcy : (w.drewN n).cell? ⟨yb, yo + k, none⟩ = some (.string s) := hcy
      go_wp2
      go_quiet (fail)
      go_wp2
      go_roundw
      case rel => exact ⟨k + 1, by omega, by go_num, _, by first | rfl | (simp [World.drewN_drewN])⟩
      case measure => simp [intOf]; omega
    · clear hax hay
      go_wp2
      go_ret
      exact ⟨rfl, _, rfl⟩
end Go.Proofs.YtadefcohbkgbfabGreatDoor

