import Derived.Test.YtocnekbedcnmgaaGreatDoorBp24
import Derived.Test.YtocnekbedcnmgaaGreatDoorBp25
import Derived.Test.YtocnekbedcnmgaaGreatDoorBp20
import Derived.Deep.RegionWith
import Derived.Deep.RegionLaw
import Derived.Test.YtocnekbedcnmgaaGreatDoorBp1
namespace Go.Proofs.YtocnekbedcnmgaaGreatDoor
open Go.RowKit

theorem VPost.from {rb : Nat} {s : ByteArray} {tb kt : Bool} {w w1 w' : World} {o : Option (JV × Nat)} {e : Ending} (k : KB rb w w1) (h : VPost rb s tb kt w1 o e w') : VPost rb s tb kt w o e w' := by
  obtain ⟨h1, h2⟩ := h
  refine ⟨k.trans h1, ?_⟩
  cases o with
  | none => exact h2
  | some q =>
    obtain ⟨t, p, he, hr, hrep⟩ := h2
    exact ⟨t, p, he, hr, fun a b => Rep.keep (fun _ _ => rfl) (fun k' hk => ⟨Nat.le_trans k.size hk.1, hk.2⟩) _ _ (hrep a b)⟩
theorem isw_null (s : ByteArray) (i : Nat) : isWord s i ⟨#[110, 117, 108, 108]⟩ ↔ wNull s i = true := by
  unfold wNull
  simp only [Bool.and_eq_true, beq_iff_eq]
  constructor
  · intro h
    exact ⟨⟨⟨h 0 (by decide), h 1 (by decide)⟩, h 2 (by decide)⟩, h 3 (by decide)⟩
  · rintro ⟨⟨⟨h0, h1⟩, h2⟩, h3⟩ k hk
    have hk' : k < 4 := hk
    rcases (show k = 0 ∨ k = 1 ∨ k = 2 ∨ k = 3 by omega) with rfl | rfl | rfl | rfl
    · exact h0
    · exact h1
    · exact h2
    · exact h3
theorem isw_true (s : ByteArray) (i : Nat) : isWord s i ⟨#[116, 114, 117, 101]⟩ ↔ wTrue s i = true := by
  unfold wTrue
  simp only [Bool.and_eq_true, beq_iff_eq]
  constructor
  · intro h
    exact ⟨⟨⟨h 0 (by decide), h 1 (by decide)⟩, h 2 (by decide)⟩, h 3 (by decide)⟩
  · rintro ⟨⟨⟨h0, h1⟩, h2⟩, h3⟩ k hk
    have hk' : k < 4 := hk
    rcases (show k = 0 ∨ k = 1 ∨ k = 2 ∨ k = 3 by omega) with rfl | rfl | rfl | rfl
    · exact h0
    · exact h1
    · exact h2
    · exact h3
theorem isw_false (s : ByteArray) (i : Nat) : isWord s i ⟨#[102, 97, 108, 115, 101]⟩ ↔ wFalse s i = true := by
  unfold wFalse
  simp only [Bool.and_eq_true, beq_iff_eq]
  constructor
  · intro h
    exact ⟨⟨⟨⟨h 0 (by decide), h 1 (by decide)⟩, h 2 (by decide)⟩, h 3 (by decide)⟩, h 4 (by decide)⟩
  · rintro ⟨⟨⟨⟨h0, h1⟩, h2⟩, h3⟩, h4⟩ k hk
    have hk' : k < 5 := hk
    rcases (show k = 0 ∨ k = 1 ∨ k = 2 ∨ k = 3 ∨ k = 4 by omega) with rfl | rfl | rfl | rfl | rfl
    · exact h0
    · exact h1
    · exact h2
    · exact h3
    · exact h4
theorem nm_other {s : ByteArray} {i : Nat} (h45 : bt s i ≠ 45) (h : ¬ isDg (bt s i) = true) : nm s i = none := by
  unfold nm
  rw [show nmD s i = i by unfold nmD; rw [if_neg h45], if_neg h]
theorem wNull_h {s : ByteArray} {i : Nat} (h : wNull s i = true) : bt s i = 110 := by simp [wNull] at h; exact h.1.1.1
theorem wTrue_h {s : ByteArray} {i : Nat} (h : wTrue s i = true) : bt s i = 116 := by simp [wTrue] at h; exact h.1.1.1
theorem wFalse_h {s : ByteArray} {i : Nat} (h : wFalse s i = true) : bt s i = 102 := by simp [wFalse] at h; exact h.1.1.1.1
theorem val_n {s : ByteArray} {i : Nat} (h : bt s i = 110) : val s i = if wNull s i = true then some (.nul, i + 4) else none := by
  rw [val_else (by omega) (by omega) (by omega)]
  split
  · rfl
  · rw [if_neg (fun g => by have := wTrue_h g; omega), if_neg (fun g => by have := wFalse_h g; omega), nm_other (by omega) (by rw [h]; decide)]; rfl
theorem val_t {s : ByteArray} {i : Nat} (h : bt s i = 116) : val s i = if wTrue s i = true then some (.tt, i + 4) else none := by
  rw [val_else (by omega) (by omega) (by omega), if_neg (fun g => by have := wNull_h g; omega)]
  split
  · rfl
  · rw [if_neg (fun g => by have := wFalse_h g; omega), nm_other (by omega) (by rw [h]; decide)]; rfl
theorem val_f {s : ByteArray} {i : Nat} (h : bt s i = 102) : val s i = if wFalse s i = true then some (.ff, i + 5) else none := by
  rw [val_else (by omega) (by omega) (by omega), if_neg (fun g => by have := wNull_h g; omega), if_neg (fun g => by have := wTrue_h g; omega)]
  split
  · rfl
  · rw [nm_other (by omega) (by rw [h]; decide)]; rfl
theorem val_d {s : ByteArray} {i : Nat} (h1 : bt s i ≠ 91) (h2 : bt s i ≠ 123) (h3 : bt s i ≠ 34) (h4 : bt s i ≠ 110) (h5 : bt s i ≠ 116) (h6 : bt s i ≠ 102) : val s i = (nm s i).map fun q => (.num q.1, q.2) := by
  rw [val_else h1 h2 h3, if_neg (fun g => h4 (wNull_h g)), if_neg (fun g => h5 (wTrue_h g)), if_neg (fun g => h6 (wFalse_h g))]

set_option maxRecDepth 100000 in
set_option maxHeartbeats 4000000 in
theorem bare_walk (rb : Nat) (s : ByteArray) (i : Nat) (tb kt : Bool) (w : World) (h : Rdr rb s i tb kt w) (hs : s.size ≤ 100000) (hi : i ≤ s.size) (B : Nat) (hT : TabsB B w) (hE : ErrB B w) (hB : B ≤ rb)
    (HA : ∀ w1, Rdr rb s i tb kt w1 → KB rb w w1 → bt s i = 91 → Calls Tryz.prog 168 #[.pointer (some ⟨rb, 0, none⟩)] w1 (VPost rb s tb kt w1 (val s i)))
    (HO : ∀ w1, Rdr rb s i tb kt w1 → KB rb w w1 → bt s i = 123 → Calls Tryz.prog 169 #[.pointer (some ⟨rb, 0, none⟩)] w1 (VPost rb s tb kt w1 (val s i))) :
    Calls Tryz.prog 129 #[.pointer (some ⟨rb, 0, none⟩)] w (VPost rb s tb kt w (val s i)) := by
  have hlt := h.lt
  have HP := hide (peek_walk rb s i tb kt w h hi)
  have HHA := hide HA
  have HHO := hide HO
  have HT := hide hT
  have HE := hide hE
  clear h HA HO hT hE
  go_enter Tryz.func129, Tryz.ntmps129
  go_wp2_with fail
  refine (unhide HP).mono ?_
  rintro e w1 ⟨rfl, r1, k1⟩
  have R1 := hide r1
  clear HP r1
  by_cases cn : bt s i = 110
  · have t1 : ((bt s i : Int) == 110) = true := by rw [beq_iff_eq]; omega
    have HV := hide (val_n cn)
    cases hw : wNull s i with
    | true =>
      have HW := hide (word_yes rb s i tb kt w1 (unhide R1) (by omega) ⟨#[110, 117, 108, 108]⟩ (by decide) (wNull_in hw) ((isw_null s i).2 hw))
      have HR : Hid (val s i = some (.nul, i + 4)) := by show _ = _; rw [unhide HV, if_pos hw]
      clear cn hw
      go_wp2_with fail
      refine (unhide HW).mono ?_
      rintro e w2 ⟨rfl, r2, k2⟩
      have R2 := hide r2
      have K2 := k1.trans k2
      clear HW r2
      go_wp2
      go_ret
      refine ⟨K2, ?_⟩
      rw [unhide HR]
      exact ⟨_, _, rfl, by simp only [bigV, twV, Bool.or_false]; exact unhide R2, fun _ _ => by rw [Rep]⟩
    | false =>
      have HW := hide (word_no rb s i tb kt w1 (unhide R1) (by omega) ⟨#[110, 117, 108, 108]⟩ (by decide) (by decide) hi (fun g => by rw [(isw_null s i).1 g] at hw; cases hw))
      have HR : Hid (val s i = none) := by show _ = _; rw [unhide HV, if_neg (by rw [hw]; simp)]
      clear cn hw
      go_wp2_with fail
      refine (unhide HW).mono ?_
      rintro e w2 ⟨rfl, k2⟩
      exact ⟨rfl, k1.trans k2, by rw [unhide HR]; rfl⟩
  have f1 : ((bt s i : Int) == 110) = false := by rw [beq_eq_false_iff_ne]; omega
  by_cases ct' : bt s i = 116
  · have t1 : ((bt s i : Int) == 116) = true := by rw [beq_iff_eq]; omega
    have HV := hide (val_t ct')
    cases hw : wTrue s i with
    | true =>
      have HW := hide (word_yes rb s i tb kt w1 (unhide R1) (by omega) ⟨#[116, 114, 117, 101]⟩ (by decide) (wTrue_in hw) ((isw_true s i).2 hw))
      have HR : Hid (val s i = some (.tt, i + 4)) := by show _ = _; rw [unhide HV, if_pos hw]
      clear cn ct' hw
      go_wp2_with fail
      refine (unhide HW).mono ?_
      rintro e w2 ⟨rfl, r2, k2⟩
      have R2 := hide r2
      have K2 := k1.trans k2
      clear HW r2
      go_wp2
      go_ret
      refine ⟨K2, ?_⟩
      rw [unhide HR]
      exact ⟨_, _, rfl, by simp only [bigV, twV, Bool.or_false]; exact unhide R2, fun _ _ => by rw [Rep]⟩
    | false =>
      have HW := hide (word_no rb s i tb kt w1 (unhide R1) (by omega) ⟨#[116, 114, 117, 101]⟩ (by decide) (by decide) hi (fun g => by rw [(isw_true s i).1 g] at hw; cases hw))
      have HR : Hid (val s i = none) := by show _ = _; rw [unhide HV, if_neg (by rw [hw]; simp)]
      clear cn ct' hw
      go_wp2_with fail
      refine (unhide HW).mono ?_
      rintro e w2 ⟨rfl, k2⟩
      exact ⟨rfl, k1.trans k2, by rw [unhide HR]; rfl⟩
  have f2 : ((bt s i : Int) == 116) = false := by rw [beq_eq_false_iff_ne]; omega
  by_cases cf : bt s i = 102
  · have t1 : ((bt s i : Int) == 102) = true := by rw [beq_iff_eq]; omega
    have HV := hide (val_f cf)
    cases hw : wFalse s i with
    | true =>
      have HW := hide (word_yes rb s i tb kt w1 (unhide R1) (by omega) ⟨#[102, 97, 108, 115, 101]⟩ (by decide) (wFalse_in hw) ((isw_false s i).2 hw))
      have HR : Hid (val s i = some (.ff, i + 5)) := by show _ = _; rw [unhide HV, if_pos hw]
      clear cn ct' cf hw
      go_wp2_with fail
      refine (unhide HW).mono ?_
      rintro e w2 ⟨rfl, r2, k2⟩
      have R2 := hide r2
      have K2 := k1.trans k2
      clear HW r2
      go_wp2
      go_ret
      refine ⟨K2, ?_⟩
      rw [unhide HR]
      exact ⟨_, _, rfl, by simp only [bigV, twV, Bool.or_false]; exact unhide R2, fun _ _ => by rw [Rep]⟩
    | false =>
      have HW := hide (word_no rb s i tb kt w1 (unhide R1) (by omega) ⟨#[102, 97, 108, 115, 101]⟩ (by decide) (by decide) hi (fun g => by rw [(isw_false s i).1 g] at hw; cases hw))
      have HR : Hid (val s i = none) := by show _ = _; rw [unhide HV, if_neg (by rw [hw]; simp)]
      clear cn ct' cf hw
      go_wp2_with fail
      refine (unhide HW).mono ?_
      rintro e w2 ⟨rfl, k2⟩
      exact ⟨rfl, k1.trans k2, by rw [unhide HR]; rfl⟩
  have f3 : ((bt s i : Int) == 102) = false := by rw [beq_eq_false_iff_ne]; omega
  by_cases cq : bt s i = 34
  · have t1 : ((bt s i : Int) == 34) = true := by rw [beq_iff_eq]; omega
    have HV := hide (val_str cq)
    have HS := hide (readString_walk rb s i tb kt w1 (unhide R1) (by omega) hi B ((unhide HT).next (k1.below hB (by omega)) (Nat.le_refl _)) hB)
    cases hq : strQ s i with
    | none =>
      have HR : Hid (val s i = none) := by show _ = _; rw [unhide HV, hq]; rfl
      rw [hq] at HS
      clear cn ct' cf cq hq
      go_wp2_with fail
      refine (unhide HS).mono ?_
      rintro e w2 ⟨k2, rfl⟩
      exact ⟨rfl, k1.trans k2, by rw [unhide HR]; rfl⟩
    | some q =>
      obtain ⟨l, j⟩ := q
      have HR : Hid (val s i = some (.str l, j)) := by show _ = _; rw [unhide HV, hq]; rfl
      rw [hq] at HS
      clear cn ct' cf cq hq
      go_wp2_with fail
      refine (unhide HS).mono ?_
      rintro e w2 ⟨k2, rfl, r2⟩
      have R2 := hide r2
      have K2 := k1.trans k2
      clear HS r2
      go_wp2
      go_ret
      refine ⟨K2, ?_⟩
      rw [unhide HR]
      exact ⟨_, _, rfl, by simp only [bigV, twV, Bool.or_false]; exact unhide R2, fun _ _ => by rw [Rep]⟩
  have f4 : ((bt s i : Int) == 34) = false := by rw [beq_eq_false_iff_ne]; omega
  by_cases ca : bt s i = 91
  · have t1 : ((bt s i : Int) == 91) = true := by rw [beq_iff_eq]; omega
    have HS := hide (unhide HHA _ (unhide R1) k1 ca)
    clear cn ct' cf cq ca HHA HHO
    cases hv : val s i with
    | none =>
      rw [hv] at HS
      have HVV := hide hv
      clear hv
      go_wp2_with fail
      refine (unhide HS).mono ?_
      rintro e w2 ⟨k2, rfl⟩
      exact ⟨rfl, k1.trans k2, by rw [unhide HVV]; rfl⟩
    | some q =>
      rw [hv] at HS
      have HVV := hide hv
      clear hv
      go_wp2_with fail
      refine (unhide HS).mono ?_
      rintro e w2 hp
      have HPP := hide (hp.from k1)
      obtain ⟨k2, t, p, rfl, _, _⟩ := hp
      go_wp2
      go_ret
      rw [unhide HVV]
      exact unhide HPP
  have f5 : ((bt s i : Int) == 91) = false := by rw [beq_eq_false_iff_ne]; omega
  by_cases co : bt s i = 123
  · have t1 : ((bt s i : Int) == 123) = true := by rw [beq_iff_eq]; omega
    have HS := hide (unhide HHO _ (unhide R1) k1 co)
    clear cn ct' cf cq ca co HHA HHO
    cases hv : val s i with
    | none =>
      rw [hv] at HS
      have HVV := hide hv
      clear hv
      go_wp2_with fail
      refine (unhide HS).mono ?_
      rintro e w2 ⟨k2, rfl⟩
      exact ⟨rfl, k1.trans k2, by rw [unhide HVV]; rfl⟩
    | some q =>
      rw [hv] at HS
      have HVV := hide hv
      clear hv
      go_wp2_with fail
      refine (unhide HS).mono ?_
      rintro e w2 hp
      have HPP := hide (hp.from k1)
      obtain ⟨k2, t, p, rfl, _, _⟩ := hp
      go_wp2
      go_ret
      rw [unhide HVV]
      exact unhide HPP
  have f6 : ((bt s i : Int) == 123) = false := by rw [beq_eq_false_iff_ne]; omega
  have HV := hide (val_d ca co cq cn ct' cf)
  have HS := hide (readNumber_walk rb s i tb kt w1 (unhide R1) hs hi B ((unhide HE).next (k1.below hB (by omega)) (Nat.le_refl _)) hB)
  clear cn ct' cf cq ca co HHA HHO
  cases hn : nm s i with
  | none =>
    have HR : Hid (val s i = none) := by show _ = _; rw [unhide HV, hn]; rfl
    rw [hn] at HS
    clear hn
    go_wp2_with fail
    refine (unhide HS).mono ?_
    rintro e w2 ⟨k2, rfl⟩
    exact ⟨rfl, k1.trans k2, by rw [unhide HR]; rfl⟩
  | some q =>
    obtain ⟨l, j⟩ := q
    have HR : Hid (val s i = some (.num l, j)) := by show _ = _; rw [unhide HV, hn]; rfl
    rw [hn] at HS
    clear hn
    go_wp2_with fail
    refine (unhide HS).mono ?_
    rintro e w2 ⟨k2, z, rfl, r2, hz⟩
    have R2 := hide r2
    have HZ := hide hz
    have K2 := k1.trans k2
    clear HS r2 hz
    go_wp2
    go_ret
    refine ⟨K2, ?_⟩
    rw [unhide HR]
    refine ⟨_, _, rfl, by simp only [bigV, twV, Bool.or_false]; exact unhide R2, fun hb _ => ?_⟩
    rw [Rep]
    exact ⟨z, rfl, unhide HZ (by simpa only [bigV] using hb)⟩
end Go.Proofs.YtocnekbedcnmgaaGreatDoor


namespace Go.Proofs.YtocnekbedcnmgaaGreatDoor
open Go.RowKit

theorem KB.keep {rb : Nat} {w w' : World} {S : Nat → Prop} (k : KB rb w w') (hS : ∀ b, S b → b < w.heap.size ∧ b ≠ rb) : ∀ b, S b → w'.heap[b]? = w.heap[b]? := fun b hb => k.block b (hS b hb).1 (hS b hb).2

set_option maxHeartbeats 1600000 in
theorem value_of (rb : Nat) (s : ByteArray) (i : Nat) (tb kt : Bool) (w : World) (h : Rdr rb s i tb kt w) (hs : s.size ≤ 100000) (hi : i ≤ s.size)
    (HB : ∀ w1, Rdr rb s (sk s i) tb kt w1 → KB rb w w1 → Calls Tryz.prog 129 #[.pointer (some ⟨rb, 0, none⟩)] w1 (VPost rb s tb kt w1 (val s (sk s i)))) :
    Calls Tryz.prog 85 #[.pointer (some ⟨rb, 0, none⟩)] w (VPost rb s tb kt w ((val s (sk s i)).map fun q => (q.1, sk s q.2))) := by
  have hlt := h.lt
  have HSK := hide (skipBlanks_walk rb s i tb kt w h (by omega) hi)
  have HBB := hide HB
  clear h HB
  go_enter Tryz.func85, Tryz.ntmps85
  go_wp2_with fail
  refine (unhide HSK).mono ?_
  rintro e w1 ⟨rfl, r1, k1⟩
  have HS := hide (unhide HBB w1 r1 k1)
  clear HSK HBB r1
  cases hv : val s (sk s i) with
  | none =>
    rw [hv] at HS
    have HVV := hide hv
    clear hv
    go_wp2_with fail
    refine (unhide HS).mono ?_
    rintro e w2 ⟨k2, rfl⟩
    exact ⟨rfl, k1.trans k2, by rw [unhide HVV]; rfl⟩
  | some q =>
    obtain ⟨v, j⟩ := q
    have hvo := val_ok hv
    rw [hv] at HS
    have HVV := hide hv
    clear hv
    go_wp2_with fail
    refine (unhide HS).mono ?_
    rintro e w2 hp
    obtain ⟨k2, t, p, rfl, r2, hrep⟩ := hp
    have HE := hide (skipBlanks_walk rb s j _ _ w2 r2 (by omega) hvo.2)
    have HREP := hide hrep
    have hs1 := k1.size
    have hs2 := k2.size
    clear HS hrep r2
    go_wp2_with fail
    refine (unhide HE).mono ?_
    rintro e w3 ⟨rfl, r3, k3⟩
    have R3 := hide r3
    have hs3 := k3.size
    clear HE r3
    go_wp2
    go_ret
    rw [unhide HVV]
    exact ⟨(k1.trans k2).trans k3, t, p, rfl, unhide R3, fun a b => Rep.keep (k3.keep fun b hb => ⟨hb.2, by omega⟩) (fun b hb => ⟨by omega, by omega⟩) _ _ (unhide HREP a b)⟩
end Go.Proofs.YtocnekbedcnmgaaGreatDoor


namespace Go.Proofs.YtocnekbedcnmgaaGreatDoor
open Go.RowKit

theorem sk_idem (s : ByteArray) (i : Nat) : sk s (sk s i) = sk s i := sk_off (sk_end s i)
theorem infoVal : (Tryz.prog.info? 65).map (fun i => (i.zero, i.size, i.bytes)) = some (some .nilIface, 1, 16) := by kernel_rfl
theorem al_below (w : World) (o : Obj) : Below w.heap.size w (w.alloc o) := (Below.refl _ _).alloc (Nat.le_refl _) _
abbrev arrB (sv : Value) : Obj := .cells #[sv] 119 (0, 0)

end Go.Proofs.YtocnekbedcnmgaaGreatDoor

