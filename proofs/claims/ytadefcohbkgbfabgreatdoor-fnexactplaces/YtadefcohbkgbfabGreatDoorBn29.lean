import Derived.Test.YtadefcohbkgbfabGreatDoorBn26
import Derived.Test.YtadefcohbkgbfabGreatDoorBn18
import Derived.Test.YtadefcohbkgbfabGreatDoorBn24
import Derived.Test.YtadefcohbkgbfabGreatDoorBn9
import Derived.Deep.RegionWith
import Derived.Deep.RegionLaw
import Derived.Test.YtadefcohbkgbfabGreatDoorBn1
namespace Go.Proofs.YtadefcohbkgbfabGreatDoor
open Go.RowKit

theorem VPost.from {rb : Nat} {s : ByteArray} {tb kt : Bool} {w w1 w' : World} {o : Option (JV × Nat)} {e : Ending} (k : KB rb w w1) (h : VPost rb s tb kt w1 o e w') : VPost rb s tb kt w o e w' := by
  obtain ⟨h1, h2⟩ := h
  refine ⟨k.trans h1, ?_⟩
  cases o with
  | none => exact h2
  | some q =>
    obtain ⟨t, p, he, hr, hrep⟩ := h2
    exact ⟨t, p, he, hr, fun a b => Rep.keep (fun _ _ => rfl) (fun k' hk => ⟨Nat.le_trans k.size hk.1, hk.2⟩) _ _ (hrep a b)⟩
theorem isw_null (s : ByteArray) (i : Nat) : isWord s i ⟨#[110, 117, 108, 108]⟩ ↔ wNull s i = true := by
  unfold wNull
  simp only [Bool.and_eq_true, beq_iff_eq]
  constructor
  · intro h
    exact ⟨⟨⟨h 0 (by decide), h 1 (by decide)⟩, h 2 (by decide)⟩, h 3 (by decide)⟩
  · rintro ⟨⟨⟨h0, h1⟩, h2⟩, h3⟩ k hk
    have hk' : k < 4 := hk
    rcases (show k = 0 ∨ k = 1 ∨ k = 2 ∨ k = 3 by omega) with rfl | rfl | rfl | rfl
    · exact h0
    · exact h1
    · exact h2
    · exact h3
theorem isw_true (s : ByteArray) (i : Nat) : isWord s i ⟨#[116, 114, 117, 101]⟩ ↔ wTrue s i = true := by
  unfold wTrue
  simp only [Bool.and_eq_true, beq_iff_eq]
  constructor
  · intro h
    exact ⟨⟨⟨h 0 (by decide), h 1 (by decide)⟩, h 2 (by decide)⟩, h 3 (by decide)⟩
  · rintro ⟨⟨⟨h0, h1⟩, h2⟩, h3⟩ k hk
    have hk' : k < 4 := hk
    rcases (show k = 0 ∨ k = 1 ∨ k = 2 ∨ k = 3 by omega) with rfl | rfl | rfl | rfl
    · exact h0
    · exact h1
    · exact h2
    · exact h3
theorem isw_false (s : ByteArray) (i : Nat) : isWord s i ⟨#[102, 97, 108, 115, 101]⟩ ↔ wFalse s i = true := by
  unfold wFalse
  simp only [Bool.and_eq_true, beq_iff_eq]
  constructor
  · intro h
    exact ⟨⟨⟨⟨h 0 (by decide), h 1 (by decide)⟩, h 2 (by decide)⟩, h 3 (by decide)⟩, h 4 (by decide)⟩
  · rintro ⟨⟨⟨⟨h0, h1⟩, h2⟩, h3⟩, h4⟩ k hk
    have hk' : k < 5 := hk
    rcases (show k = 0 ∨ k = 1 ∨ k = 2 ∨ k = 3 ∨ k = 4 by omega) with rfl | rfl | rfl | rfl | rfl
    · exact h0
    · exact h1
    · exact h2
    · exact h3
    · exact h4
theorem nm_other {s : ByteArray} {i : Nat} (h45 : bt s i ≠ 45) (h : ¬ isDg (bt s i) = true) : nm s i = none := by
  unfold nm
  rw [show nmD s i = i by unfold nmD; rw [if_neg h45], if_neg h]
theorem wNull_h {s : ByteArray} {i : Nat} (h : wNull s i = true) : bt s i = 110 := by simp [wNull] at h; exact h.1.1.1
theorem wTrue_h {s : ByteArray} {i : Nat} (h : wTrue s i = true) : bt s i = 116 := by simp [wTrue] at h; exact h.1.1.1
theorem wFalse_h {s : ByteArray} {i : Nat} (h : wFalse s i = true) : bt s i = 102 := by simp [wFalse] at h; exact h.1.1.1.1
theorem val_n {s : ByteArray} {i : Nat} (h : bt s i = 110) : val s i = if wNull s i = true then some (.nul, i + 4) else none := by
  rw [val_else (by omega) (by omega) (by omega)]
  split
  · rfl
  · rw [if_neg (fun g => by have := wTrue_h g; omega), if_neg (fun g => by have := wFalse_h g; omega), nm_other (by omega) (by rw [h]; decide)]; rfl
theorem val_t {s : ByteArray} {i : Nat} (h : bt s i = 116) : val s i = if wTrue s i = true then some (.tt, i + 4) else none := by
  rw [val_else (by omega) (by omega) (by omega), if_neg (fun g => by have := wNull_h g; omega)]
  split
  · rfl
  · rw [if_neg (fun g => by have := wFalse_h g; omega), nm_other (by omega) (by rw [h]; decide)]; rfl
theorem val_f {s : ByteArray} {i : Nat} (h : bt s i = 102) : val s i = if wFalse s i = true then some (.ff, i + 5) else none := by
  rw [val_else (by omega) (by omega) (by omega), if_neg (fun g => by have := wNull_h g; omega), if_neg (fun g => by have := wTrue_h g; omega)]
  split
  · rfl
  · rw [nm_other (by omega) (by rw [h]; decide)]; rfl
theorem val_d {s : ByteArray} {i : Nat} (h1 : bt s i ≠ 91) (h2 : bt s i ≠ 123) (h3 : bt s i ≠ 34) (h4 : bt s i ≠ 110) (h5 : bt s i ≠ 116) (h6 : bt s i ≠ 102) : val s i = (nm s i).map fun q => (.num q.1, q.2) := by
  rw [val_else h1 h2 h3, if_neg (fun g => h4 (wNull_h g)), if_neg (fun g => h5 (wTrue_h g)), if_neg (fun g => h6 (wFalse_h g))]

set_option maxRecDepth 100000 in
set_option maxHeartbeats 4000000 in
theorem bare_walk (rb : Nat) (s : ByteArray) (i : Nat) (tb kt : Bool) (w : World) (h : Rdr rb s i tb kt w) (hs : s.size ≤ 100000) (hi : i ≤ s.size) (B : Nat) (hT : TabsB B w) (hE : ErrB B w) (hB : B ≤ rb)
    (HA : ∀ w1, Rdr rb s i tb kt w1 → KB rb w w1 → bt s i = 91 → Calls Tryz.prog 92 #[.pointer (some ⟨rb, 0, none⟩)] w1 (VPost rb s tb kt w1 (val s i)))
    (HO : ∀ w1, Rdr rb s i tb kt w1 → KB rb w w1 → bt s i = 123 → Calls Tryz.prog 93 #[.pointer (some ⟨rb, 0, none⟩)] w1 (VPost rb s tb kt w1 (val s i))) :
    Calls Tryz.prog 74 #[.pointer (some ⟨rb, 0, none⟩)] w (VPost rb s tb kt w (val s i)) := by
  have hlt := h.lt
  have HP := hide (peek_walk rb s i tb kt w h hi)
  have HHA := hide HA
  have HHO := hide HO
  have HT := hide hT
  have HE := hide hE
  clear h HA HO hT hE
  go_enter Tryz.func74, Tryz.ntmps74
  go_wp2_with fail
  refine (unhide HP).mono ?_
  rintro e w1 ⟨rfl, r1, k1⟩
  have R1 := hide r1
  clear HP r1
  by_cases cn : bt s i = 110
  · have t1 : ((bt s i : Int) == 110) = true := by rw [beq_iff_eq]; omega
    have HV := hide (val_n cn)
    cases hw : wNull s i with
    | true =>
      have HW := hide (word_yes rb s i tb kt w1 (unhide R1) (by omega) ⟨#[110, 117, 108, 108]⟩ (by decide) (wNull_in hw) ((isw_null s i).2 hw))
      have HR : Hid (val s i = some (.nul, i + 4)) := by show _ = _; rw [unhide HV, if_pos hw]
      clear cn hw
      go_wp2_with fail
      refine (unhide HW).mono ?_
      rintro e w2 ⟨rfl, r2, k2⟩
      have R2 := hide r2
      have K2 := k1.trans k2
      clear HW r2
      go_wp2
      go_ret
      refine ⟨K2, ?_⟩
      rw [unhide HR]
      exact ⟨_, _, rfl, by simp only [bigV, twV, Bool.or_false]; exact unhide R2, fun _ _ => by rw [Rep]⟩
    | false =>
      have HW := hide (word_no rb s i tb kt w1 (unhide R1) (by omega) ⟨#[110, 117, 108, 108]⟩ (by decide) (by decide) hi (fun g => by rw [(isw_null s i).1 g] at hw; cases hw))
      have HR : Hid (val s i = none) := by show _ = _; rw [unhide HV, if_neg (by rw [hw]; simp)]
      clear cn hw
      go_wp2_with fail
      refine (unhide HW).mono ?_
      rintro e w2 ⟨rfl, k2⟩
      exact ⟨rfl, k1.trans k2, by rw [unhide HR]; rfl⟩
  have f1 : ((bt s i : Int) == 110) = false := by rw [beq_eq_false_iff_ne]; omega
  by_cases ct' : bt s i = 116
  · have t1 : ((bt s i : Int) == 116) = true := by rw [beq_iff_eq]; omega
    have HV := hide (val_t ct')
    cases hw : wTrue s i with
    | true =>
      have HW := hide (word_yes rb s i tb kt w1 (unhide R1) (by omega) ⟨#[116, 114, 117, 101]⟩ (by decide) (wTrue_in hw) ((isw_true s i).2 hw))
      have HR : Hid (val s i = some (.tt, i + 4)) := by show _ = _; rw [unhide HV, if_pos hw]
      clear cn ct' hw
      go_wp2_with fail
      refine (unhide HW).mono ?_
      rintro e w2 ⟨rfl, r2, k2⟩
      have R2 := hide r2
      have K2 := k1.trans k2
      clear HW r2
      go_wp2
      go_ret
      refine ⟨K2, ?_⟩
      rw [unhide HR]
      exact ⟨_, _, rfl, by simp only [bigV, twV, Bool.or_false]; exact unhide R2, fun _ _ => by rw [Rep]⟩
    | false =>
      have HW := hide (word_no rb s i tb kt w1 (unhide R1) (by omega) ⟨#[116, 114, 117, 101]⟩ (by decide) (by decide) hi (fun g => by rw [(isw_true s i).1 g] at hw; cases hw))
      have HR : Hid (val s i = none) := by show _ = _; rw [unhide HV, if_neg (by rw [hw]; simp)]
      clear cn ct' hw
      go_wp2_with fail
      refine (unhide HW).mono ?_
      rintro e w2 ⟨rfl, k2⟩
      exact ⟨rfl, k1.trans k2, by rw [unhide HR]; rfl⟩
  have f2 : ((bt s i : Int) == 116) = false := by rw [beq_eq_false_iff_ne]; omega
  by_cases cf : bt s i = 102
  · have t1 : ((bt s i : Int) == 102) = true := by rw [beq_iff_eq]; omega
    have HV := hide (val_f cf)
    cases hw : wFalse s i with
    | true =>
      have HW := hide (word_yes rb s i tb kt w1 (unhide R1) (by omega) ⟨#[102, 97, 108, 115, 101]⟩ (by decide) (wFalse_in hw) ((isw_false s i).2 hw))
      have HR : Hid (val s i = some (.ff, i + 5)) := by show _ = _; rw [unhide HV, if_pos hw]
      clear cn ct' cf hw
      go_wp2_with fail
      refine (unhide HW).mono ?_
      rintro e w2 ⟨rfl, r2, k2⟩
      have R2 := hide r2
      have K2 := k1.trans k2
      clear HW r2
      go_wp2
      go_ret
      refine ⟨K2, ?_⟩
      rw [unhide HR]
      exact ⟨_, _, rfl, by simp only [bigV, twV, Bool.or_false]; exact unhide R2, fun _ _ => by rw [Rep]⟩
    | false =>
      have HW := hide (word_no rb s i tb kt w1 (unhide R1) (by omega) ⟨#[102, 97, 108, 115, 101]⟩ (by decide) (by decide) hi (fun g => by rw [(isw_false s i).1 g] at hw; cases hw))
      have HR : Hid (val s i = none) := by show _ = _; rw [unhide HV, if_neg (by rw [hw]; simp)]
      clear cn ct' cf hw
      go_wp2_with fail
      refine (unhide HW).mono ?_
      rintro e w2 ⟨rfl, k2⟩
      exact ⟨rfl, k1.trans k2, by rw [unhide HR]; rfl⟩
  have f3 : ((bt s i : Int) == 102) = false := by rw [beq_eq_false_iff_ne]; omega
  by_cases cq : bt s i = 34
  · have t1 : ((bt s i : Int) == 34) = true := by rw [beq_iff_eq]; omega
    have HV := hide (val_str cq)
    have HS := hide (readString_walk rb s i tb kt w1 (unhide R1) (by omega) hi B ((unhide HT).next (k1.below hB (by omega)) (Nat.le_refl _)) hB)
    cases hq : strQ s i with
    | none =>
      have HR : Hid (val s i = none) := by show _ = _; rw [unhide HV, hq]; rfl
      rw [hq] at HS
      clear cn ct' cf cq hq
      go_wp2_with fail
      refine (unhide HS).mono ?_
      rintro e w2 ⟨k2, rfl⟩
      exact ⟨rfl, k1.trans k2, by rw [unhide HR]; rfl⟩
    | some q =>
      obtain ⟨l, j⟩ := q
      have HR : Hid (val s i = some (.str l, j)) := by show _ = _; rw [unhide HV, hq]; rfl
      rw [hq] at HS
      clear cn ct' cf cq hq
      go_wp2_with fail
      refine (unhide HS).mono ?_
      rintro e w2 ⟨k2, rfl, r2⟩
      have R2 := hide r2
      have K2 := k1.trans k2
      clear HS r2
      go_wp2
      go_ret
      refine ⟨K2, ?_⟩
      rw [unhide HR]
      exact ⟨_, _, rfl, by simp only [bigV, twV, Bool.or_false]; exact unhide R2, fun _ _ => by rw [Rep]⟩
  have f4 : ((bt s i : Int) == 34) = false := by rw [beq_eq_false_iff_ne]; omega
  by_cases ca : bt s i = 91
  · have t1 : ((bt s i : Int) == 91) = true := by rw [beq_iff_eq]; omega
    have HS := hide (unhide HHA _ (unhide R1) k1 ca)
    clear cn ct' cf cq ca HHA HHO
    cases hv : val s i with
    | none =>
      rw [hv] at HS
      have HVV := hide hv
      clear hv
      go_wp2_with fail
      refine (unhide HS).mono ?_
      rintro e w2 ⟨k2, rfl⟩
      exact ⟨rfl, k1.trans k2, by rw [unhide HVV]; rfl⟩
    | some q =>
      rw [hv] at HS
      have HVV := hide hv
      clear hv
      go_wp2_with fail
      refine (unhide HS).mono ?_
      rintro e w2 hp
      have HPP := hide (hp.from k1)
      obtain ⟨k2, t, p, rfl, _, _⟩ := hp
      go_wp2
      go_ret
      rw [unhide HVV]
      exact unhide HPP
  have f5 : ((bt s i : Int) == 91) = false := by rw [beq_eq_false_iff_ne]; omega
  by_cases co : bt s i = 123
  · have t1 : ((bt s i : Int) == 123) = true := by rw [beq_iff_eq]; omega
    have HS := hide (unhide HHO _ (unhide R1) k1 co)
    clear cn ct' cf cq ca co HHA HHO
    cases hv : val s i with
    | none =>
      rw [hv] at HS
      have HVV := hide hv
      clear hv
      go_wp2_with fail
      refine (unhide HS).mono ?_
      rintro e w2 ⟨k2, rfl⟩
      exact ⟨rfl, k1.trans k2, by rw [unhide HVV]; rfl⟩
    | some q =>
      rw [hv] at HS
      have HVV := hide hv
      clear hv
      go_wp2_with fail
      refine (unhide HS).mono ?_
      rintro e w2 hp
      have HPP := hide (hp.from k1)
      obtain ⟨k2, t, p, rfl, _, _⟩ := hp
      go_wp2
      go_ret
      rw [unhide HVV]
      exact unhide HPP
  have f6 : ((bt s i : Int) == 123) = false := by rw [beq_eq_false_iff_ne]; omega
  have HV := hide (val_d ca co cq cn ct' cf)
  have HS := hide (readNumber_walk rb s i tb kt w1 (unhide R1) hs hi B ((unhide HE).next (k1.below hB (by omega)) (Nat.le_refl _)) hB)
  clear cn ct' cf cq ca co HHA HHO
  cases hn : nm s i with
  | none =>
    have HR : Hid (val s i = none) := by show _ = _; rw [unhide HV, hn]; rfl
    rw [hn] at HS
    clear hn
    go_wp2_with fail
    refine (unhide HS).mono ?_
    rintro e w2 ⟨k2, rfl⟩
    exact ⟨rfl, k1.trans k2, by rw [unhide HR]; rfl⟩
  | some q =>
    obtain ⟨l, j⟩ := q
    have HR : Hid (val s i = some (.num l, j)) := by show _ = _; rw [unhide HV, hn]; rfl
    rw [hn] at HS
    clear hn
    go_wp2_with fail
    refine (unhide HS).mono ?_
    rintro e w2 ⟨k2, z, rfl, r2, hz⟩
    have R2 := hide r2
    have HZ := hide hz
    have K2 := k1.trans k2
    clear HS r2 hz
    go_wp2
    go_ret
    refine ⟨K2, ?_⟩
    rw [unhide HR]
    refine ⟨_, _, rfl, by simp only [bigV, twV, Bool.or_false]; exact unhide R2, fun hb _ => ?_⟩
    rw [Rep]
    exact ⟨z, rfl, unhide HZ (by simpa only [bigV] using hb)⟩
end Go.Proofs.YtadefcohbkgbfabGreatDoor


namespace Go.Proofs.YtadefcohbkgbfabGreatDoor
open Go.RowKit

theorem KB.keep {rb : Nat} {w w' : World} {S : Nat → Prop} (k : KB rb w w') (hS : ∀ b, S b → b < w.heap.size ∧ b ≠ rb) : ∀ b, S b → w'.heap[b]? = w.heap[b]? := fun b hb => k.block b (hS b hb).1 (hS b hb).2

set_option maxHeartbeats 1600000 in
theorem value_of (rb : Nat) (s : ByteArray) (i : Nat) (tb kt : Bool) (w : World) (h : Rdr rb s i tb kt w) (hs : s.size ≤ 100000) (hi : i ≤ s.size)
    (HB : ∀ w1, Rdr rb s (sk s i) tb kt w1 → KB rb w w1 → Calls Tryz.prog 74 #[.pointer (some ⟨rb, 0, none⟩)] w1 (VPost rb s tb kt w1 (val s (sk s i)))) :
    Calls Tryz.prog 54 #[.pointer (some ⟨rb, 0, none⟩)] w (VPost rb s tb kt w ((val s (sk s i)).map fun q => (q.1, sk s q.2))) := by
  have hlt := h.lt
  have HSK := hide (skipBlanks_walk rb s i tb kt w h (by omega) hi)
  have HBB := hide HB
  clear h HB
  go_enter Tryz.func54, Tryz.ntmps54
  go_wp2_with fail
  refine (unhide HSK).mono ?_
  rintro e w1 ⟨rfl, r1, k1⟩
  have HS := hide (unhide HBB w1 r1 k1)
  clear HSK HBB r1
  cases hv : val s (sk s i) with
  | none =>
    rw [hv] at HS
    have HVV := hide hv
    clear hv
    go_wp2_with fail
    refine (unhide HS).mono ?_
    rintro e w2 ⟨k2, rfl⟩
    exact ⟨rfl, k1.trans k2, by rw [unhide HVV]; rfl⟩
  | some q =>
    obtain ⟨v, j⟩ := q
    have hvo := val_ok hv
    rw [hv] at HS
    have HVV := hide hv
    clear hv
    go_wp2_with fail
    refine (unhide HS).mono ?_
    rintro e w2 hp
    obtain ⟨k2, t, p, rfl, r2, hrep⟩ := hp
    have HE := hide (skipBlanks_walk rb s j _ _ w2 r2 (by omega) hvo.2)
    have HREP := hide hrep
    have hs1 := k1.size
    have hs2 := k2.size
    clear HS hrep r2
    go_wp2_with fail
    refine (unhide HE).mono ?_
    rintro e w3 ⟨rfl, r3, k3⟩
    have R3 := hide r3
    have hs3 := k3.size
    clear HE r3
    go_wp2
    go_ret
    rw [unhide HVV]
    exact ⟨(k1.trans k2).trans k3, t, p, rfl, unhide R3, fun a b => Rep.keep (k3.keep fun b hb => ⟨hb.2, by omega⟩) (fun b hb => ⟨by omega, by omega⟩) _ _ (unhide HREP a b)⟩
end Go.Proofs.YtadefcohbkgbfabGreatDoor


namespace Go.Proofs.YtadefcohbkgbfabGreatDoor
open Go.RowKit

/-- A member from place i on: key, value, and the place behind it and its blanks. -/
def memR (s : ByteArray) (i : Nat) : Option ((List UInt8 × JV) × Nat) := (strQ s (sk s i)).bind fun k => if bt s (sk s k.2) = 58 then (val s (sk s (sk s k.2 + 1))).map fun q => ((k.1, q.1), sk s q.2) else none
/-- A member read into a map. -/
def MPost (rb b : Nat) (s : ByteArray) (tb kt : Bool) (xs : List (List UInt8 × Value)) (nn : Nat) (w : World) (o : Option ((List UInt8 × JV) × Nat)) (e : Ending) (w' : World) : Prop :=
  KB2 rb b w w' ∧ o.elim (e = mis) fun q => ∃ (t : TypeId) (p : Value), e = .returned (.tuple #[]) ∧ Rdr rb s q.2 (tb || bigV q.1.2) ((kt || twV q.1.2) || (xs.map (·.1)).contains q.1.1) w' ∧
    w'.ownsMap Tryz.prog 9 RH b (nn + 1) (putAll (xs ++ [(q.1.1, .iface t p)])) ∧ (bigV q.1.2 = false → twV q.1.2 = false → Rep w' (fun k => w.heap.size ≤ k ∧ k < w'.heap.size) q.1.2 (.iface t p))
theorem Rdr.setTwice {rb : Nat} {s : ByteArray} {i : Nat} {tb kt : Bool} {w : World} (h : Rdr rb s i tb kt w) : Rdr rb s i tb true (w.setCell ⟨rb, 3, none⟩ (.bool true)) := heap_setCell_same w rb 3 _ 50 (.bool true) h
theorem Rdr.twicec {rb : Nat} {s : ByteArray} {i : Nat} {tb kt : Bool} {w : World} (h : Rdr rb s i tb kt w) : w.cell? ⟨rb, 3, none⟩ = some (.bool kt) := by rw [Lib.cell_of_heap h]; rfl

theorem KB2.grown {rb sc : Nat} {a w w' : World} (h : KB2 rb sc a w) (g : w.grownBy w' (some sc)) : KB2 rb sc a w' :=
  ⟨g.os.trans h.os, g.tape.trans h.tape, g.output.trans h.output, Nat.le_trans h.size g.size, fun i hi h1 h2 => (g.block i (Nat.lt_of_lt_of_le hi h.size) (by intro e; injection e with e; exact h2 e)).trans (h.block i hi h1 h2)⟩
theorem key_of (key : List UInt8) (hk : key.length ≤ 1048576) : keyOf Tryz.prog 9 (.string (strOf key)) = some (.string key) := by
  have := WideMaps.keyOf_string_mk Tryz.underlying9 (s := strOf key) (by rw [strOf_size]; unfold maxLen; omega)
  rwa [strOf_toList] at this

set_option maxRecDepth 100000 in
set_option maxHeartbeats 4000000 in
theorem readMember_walk (rb : Nat) (s : ByteArray) (i : Nat) (tb kt : Bool) (w : World) (h : Rdr rb s i tb kt w) (hs : s.size ≤ 100000) (hi : i ≤ s.size) (B : Nat) (hT : TabsB B w) (hB : B ≤ rb)
    (b nn : Nat) (xs : List (List UInt8 × Value)) (hm : w.ownsMap Tryz.prog 9 RH b nn (putAll xs)) (hbr : rb < b) (hnn : nn ≤ 1048576)
    (HV : ∀ (j : Nat) (w1 : World), i < j → j ≤ s.size → Rdr rb s j tb kt w1 → KB rb w w1 → Calls Tryz.prog 54 #[.pointer (some ⟨rb, 0, none⟩)] w1 (VPost rb s tb kt w1 ((val s (sk s j)).map fun q => (q.1, sk s q.2)))) :
    Calls Tryz.prog 103 #[.pointer (some ⟨rb, 0, none⟩), .map (some b)] w (MPost rb b s tb kt xs nn w (memR s i)) := by
  have hlt := h.lt
  have hbl := hm.lt
  have HSK := hide (skipBlanks_walk rb s i tb kt w h (by omega) hi)
  have HT := hide hT
  have HM := hide hm
  have HHV := hide HV
  have k0 := sk_ge s i
  have k1' := (sk_le hi).2
  have HMR : Hid (memR s i = (strQ s (sk s i)).bind fun k => if bt s (sk s k.2) = 58 then (val s (sk s (sk s k.2 + 1))).map fun q => ((k.1, q.1), sk s q.2) else none) := rfl
  clear h hT hm HV
  go_enter Tryz.func103, Tryz.ntmps103
  go_wp2_with fail
  refine (unhide HSK).mono ?_
  rintro e w1 ⟨rfl, r1, k1⟩
  have HRS := hide (readString_walk rb s (sk s i) tb kt w1 r1 (by omega) k1' B ((unhide HT).next (k1.below hB (by omega)) (Nat.le_refl _)) hB)
  clear HSK r1
  cases hq : strQ s (sk s i) with
  | none =>
    rw [hq] at HRS
    have HN : Hid (memR s i = none) := by show _ = _; rw [unhide HMR, hq]; rfl
    clear hq
    go_wp2_with fail
    refine (unhide HRS).mono ?_
    rintro e w2 ⟨k2, rfl⟩
    exact ⟨rfl, (k1.trans k2).two b, by rw [unhide HN]; rfl⟩
  | some q =>
    obtain ⟨key, a⟩ := q
    have hqo := strQ_ok hq
    have hql := strQ_len hq
    have HN0 : Hid (memR s i = if bt s (sk s a) = 58 then (val s (sk s (sk s a + 1))).map fun q => ((key, q.1), sk s q.2) else none) := by show _ = _; rw [unhide HMR, hq]; rfl
    rw [hq] at HRS
    clear hq HMR
    go_wp2_with fail
    refine (unhide HRS).mono ?_
    rintro e w2 ⟨k2, rfl, r2⟩
    have HS2 := hide (skipBlanks_walk rb s a tb kt w2 r2 (by omega) hqo.2)
    have K2 := hide (k1.trans k2)
    have ka0 := sk_ge s a
    have ka1 := (sk_le hqo.2).2
    clear HRS r2 k1 k2
    go_wp2_with fail
    refine (unhide HS2).mono ?_
    rintro e w3 ⟨rfl, r3, k3⟩
    have K3 := hide ((unhide K2).trans k3)
    have R3 := hide r3
    clear HS2 r3 k3 K2
    generalize sk s a = ka at *
    by_cases h58 : bt s ka = 58
    · have hkl : ka < s.size := bt_in (by omega)
      have HEX := hide (expect_yes rb s ka tb kt w3 (unhide R3) (by omega) 58 h58 hkl)
      rw [if_pos h58] at HN0
      clear h58
      go_wp2_with fail
      refine (unhide HEX).mono ?_
      rintro e w4 ⟨rfl, r4, k4⟩
      have K4 := hide ((unhide K3).trans k4)
      have HC := hide (unhide HHV (ka + 1) w4 (by omega) (by omega) r4 (unhide K4))
      clear HEX r4 k4 K3 R3
      cases hv : val s (sk s (ka + 1)) with
      | none =>
        rw [hv] at HC
        have HN : Hid (memR s i = none) := by show _ = _; rw [unhide HN0, hv]; rfl
        clear hv
        go_wp2_with fail
        refine (unhide HC).mono ?_
        rintro e w5 ⟨k5, rfl⟩
        exact ⟨rfl, ((unhide K4).trans k5).two b, by rw [unhide HN]; rfl⟩
      | some q =>
        obtain ⟨v, n⟩ := q
        rw [hv] at HC
        have HN : Hid (memR s i = some ((key, v), sk s n)) := by show _ = _; rw [unhide HN0, hv]; rfl
        clear hv HN0
        go_wp2_with fail
        refine (unhide HC).mono ?_
        rintro e w5 ⟨k5, t, p, rfl, r5, hrep⟩
        have K5 := hide ((unhide K4).trans k5)
        have hs4 := (unhide K4).size
        have hs5 := k5.size
        have M5 := hide (ownsMap_keep (unhide HM) ((unhide K5).block b hbl (by omega)))
        obtain ⟨v0, hlk, _⟩ := map_look (unhide M5) key (by omega)
        have HREP := hide hrep
        have R5 := hide r5
        have c3 := r5.twicec
        have f3 := r5.fz 3
        have HH := hide (lastV_has key xs)
        clear HC r5 hrep K4 HM
        have HKEY := hide (key_of key (by omega))
        cases hl : (lastV xs key).isSome with
        | true =>
          rw [hl] at hlk
          have M6 := hide (ownsMap_keep (w' := w5.setCell ⟨rb, 3, none⟩ (.bool true)) (unhide M5) (Below.heap_setCell w5 ⟨rb, 3, none⟩ (.bool true) b (by show b ≠ rb; omega)))
          have R6 := hide (unhide R5).setTwice
          go_wp2_with (refine wpList_mapUpdate_own _ rfl (.tmp 30) (.tmp 31) (.tmp 32) 110 rfl 9 54 (Maps.string_keyed Tryz.underlying9) Tryz.underlying110 RH b nn (putAll xs) rfl (unhide M6) (by unfold maxLen; omega) _ _ (.string key) rfl rfl (unhide HKEY) (.held (.iface t p)) [] rfl ?_; intro w7 m7 g7)
          have hg7 := g7.size
          have R7 : Rdr rb s (sk s n) (tb || bigV v) ((kt || twV v) || (xs.map (·.1)).contains key) w7 := by
            rw [← unhide HH, hl]
            refine (g7.block rb ?_ (by intro e; injection e with e; omega)).trans ?_
            · show rb < (w5.setCell _ _).heap.size; simp [World.setCell]; omega
            · rw [Bool.or_true]; exact unhide R6
          have Q7 : bigV v = false → twV v = false → Rep w7 (fun k => w.heap.size ≤ k ∧ k < w7.heap.size) v (.iface t p) := fun a b' => by
            refine Rep.keep (w := w5) (S := fun k => w4.heap.size ≤ k ∧ k < w5.heap.size) (fun k hk => ?_) (fun k hk => ?_) v _ (unhide HREP a b')
            · exact (g7.block k (by simp [World.setCell]; omega) (by intro e; injection e with e; omega)).trans (Below.heap_setCell w5 ⟨rb, 3, none⟩ (.bool true) k (by show k ≠ rb; omega))
            · have h9 : (w5.setCell ⟨rb, 3, none⟩ (.bool true)).heap.size = w5.heap.size := by simp [World.setCell]
              exact ⟨by omega, by omega⟩
          rw [← putAll_snoc] at m7
          have M7 := hide m7
          have K7 := hide ((((unhide K5).set 3 (.bool true)).two b).grown g7)
          clear m7 g7
          go_end0
          refine ⟨unhide K7, ?_⟩
          rw [unhide HN]
          exact ⟨t, p, rfl, R7, unhide M7, Q7⟩
        | false =>
          rw [hl] at hlk
          go_wp2_with (refine wpList_mapUpdate_own _ rfl (.tmp 30) (.tmp 31) (.tmp 32) 110 rfl 9 54 (Maps.string_keyed Tryz.underlying9) Tryz.underlying110 RH b nn (putAll xs) rfl (unhide M5) (by unfold maxLen; omega) _ _ (.string key) rfl rfl (unhide HKEY) (.held (.iface t p)) [] rfl ?_; intro w7 m7 g7)
          have hg7 := g7.size
          have R7 : Rdr rb s (sk s n) (tb || bigV v) ((kt || twV v) || (xs.map (·.1)).contains key) w7 := by
            rw [← unhide HH, hl]
            refine (g7.block rb ?_ (by intro e; injection e with e; omega)).trans ?_
            · show rb < w5.heap.size; omega
            · rw [Bool.or_false]; exact unhide R5
          have Q7 : bigV v = false → twV v = false → Rep w7 (fun k => w.heap.size ≤ k ∧ k < w7.heap.size) v (.iface t p) := fun a b' => by
            refine Rep.keep (w := w5) (S := fun k => w4.heap.size ≤ k ∧ k < w5.heap.size) (fun k hk => ?_) (fun k hk => ?_) v _ (unhide HREP a b')
            · exact g7.block k (by omega) (by intro e; injection e with e; omega)
            · have h9 : True := trivial
              exact ⟨by omega, by omega⟩
          rw [← putAll_snoc] at m7
          have M7 := hide m7
          have K7 := hide (((unhide K5).two b).grown g7)
          clear m7 g7
          go_end0
          refine ⟨unhide K7, ?_⟩
          rw [unhide HN]
          exact ⟨t, p, rfl, R7, unhide M7, Q7⟩
    · have HEX := hide (expect_no rb s ka tb kt w3 (unhide R3) (by omega) ka1 58 (.inl h58))
      have HN : Hid (memR s i = none) := by show _ = _; rw [unhide HN0, if_neg h58]
      clear h58
      go_wp2_with fail
      refine (unhide HEX).mono ?_
      rintro e w4 ⟨rfl, k4⟩
      exact ⟨rfl, ((unhide K3).trans k4).two b, by rw [unhide HN]; rfl⟩
end Go.Proofs.YtadefcohbkgbfabGreatDoor


namespace Go.Proofs.YtadefcohbkgbfabGreatDoor
open Go.RowKit

theorem sk_idem (s : ByteArray) (i : Nat) : sk s (sk s i) = sk s i := sk_off (sk_end s i)
theorem infoVal : (Tryz.prog.info? 54).map (fun i => (i.zero, i.size, i.bytes)) = some (some .nilIface, 1, 16) := by kernel_rfl
theorem al_below (w : World) (o : Obj) : Below w.heap.size w (w.alloc o) := (Below.refl _ _).alloc (Nat.le_refl _) _
abbrev arrB (sv : Value) : Obj := .cells #[sv] 107 (0, 0)

end Go.Proofs.YtadefcohbkgbfabGreatDoor

