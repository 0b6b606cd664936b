import Derived.Test.YtadefcohbkgbfaaDoorUnqPlain
namespace Go.Proofs.YtadefcohbkgbfaaDoor
open Go.RowKit

/-- A number, or -1. -/
def optI (o : Option Nat) : Int := o.elim (-1) fun n => (n : Int)

set_option maxHeartbeats 800000 in
theorem l1Hex_walk (b : Nat) (hb : b < 256) (w : World) :
    Calls Tryd.prog 71 #[.int .u8 b] w fun e w' => w = w' ∧ e = .returned (.int .i64 (optI (hx b))) := by
  by_cases h1 : 48 ≤ b ∧ b ≤ 57
  · have HH : Hid (hx b = some (b - 48)) := by show _ = _; unfold hx; rw [if_pos h1]
    have a1 : (48 : Int) ≤ (b : Int) := by omega
    have a2 : (b : Int) ≤ 57 := by omega
    clear h1
    go_enter Tryd.func71, Tryd.ntmps71
    go_wp2
    go_ret
    refine ⟨rfl, ?_⟩
    rw [unhide HH]
    exact ret_int (show _ = ((b - 48 : Nat) : Int) by go_num)
  · by_cases h2 : 97 ≤ b ∧ b ≤ 102
    · have HH : Hid (hx b = some (b - 87)) := by show _ = _; unfold hx; rw [if_neg h1, if_pos h2]
      have a1 : (97 : Int) ≤ (b : Int) := by omega
      have a2 : (b : Int) ≤ 102 := by omega
      clear h1 h2
      go_enter Tryd.func71, Tryd.ntmps71
      go_wp2
      go_ret
      refine ⟨rfl, ?_⟩
      rw [unhide HH]
      exact ret_int (show _ = ((b - 87 : Nat) : Int) by go_num)
    · by_cases h3 : 65 ≤ b ∧ b ≤ 70
      · have HH : Hid (hx b = some (b - 55)) := by show _ = _; unfold hx; rw [if_neg h1, if_neg h2, if_pos h3]
        have a1 : (65 : Int) ≤ (b : Int) := by omega
        have a2 : (b : Int) ≤ 70 := by omega
        clear h1 h2 h3
        go_enter Tryd.func71, Tryd.ntmps71
        go_wp2
        go_ret
        refine ⟨rfl, ?_⟩
        rw [unhide HH]
        exact ret_int (show _ = ((b - 55 : Nat) : Int) by go_num)
      · have HH : Hid (hx b = none) := by show _ = _; unfold hx; rw [if_neg h1, if_neg h2, if_neg h3]
        rcases (show b < 48 ∨ (57 < b ∧ b < 65) ∨ (70 < b ∧ b < 97) ∨ 102 < b from by omega) with g | g | g | g
        · have a0 : (b : Int) < 48 := by omega
          clear h1 h2 h3 g
          go_enter Tryd.func71, Tryd.ntmps71
          go_wp2
          go_ret
          exact ⟨rfl, by rw [unhide HH]; rfl⟩
        · have a0 : (57 : Int) < (b : Int) := by omega
          have a1 : (b : Int) < 65 := by omega
          clear h1 h2 h3 g
          go_enter Tryd.func71, Tryd.ntmps71
          go_wp2
          go_ret
          exact ⟨rfl, by rw [unhide HH]; rfl⟩
        · have a0 : (70 : Int) < (b : Int) := by omega
          have a1 : (b : Int) < 97 := by omega
          clear h1 h2 h3 g
          go_enter Tryd.func71, Tryd.ntmps71
          go_wp2
          go_ret
          exact ⟨rfl, by rw [unhide HH]; rfl⟩
        · have a0 : (102 : Int) < (b : Int) := by omega
          clear h1 h2 h3 g
          go_enter Tryd.func71, Tryd.ntmps71
          go_wp2
          go_ret
          exact ⟨rfl, by rw [unhide HH]; rfl⟩

def simRel (c : Nat) (k : Value) : Prop := ∃ j : Nat, j ≤ 8 ∧ k = .int .i64 j ∧ (0 < j → c ≠ 34) ∧ (1 < j → c ≠ 92) ∧ (2 < j → c ≠ 47) ∧ (3 < j → c ≠ 98) ∧ (4 < j → c ≠ 102) ∧ (5 < j → c ≠ 110) ∧ (6 < j → c ≠ 114) ∧ (7 < j → c ≠ 116)
abbrev simW (w : World) : World := w.alloc (.cells #[.int .u8 34, .int .u8 92, .int .u8 47, .int .u8 8, .int .u8 12, .int .u8 10, .int .u8 13, .int .u8 9] 5)

set_option maxHeartbeats 4000000 in
set_option maxRecDepth 100000 in
theorem l1Simple_walk (c : Nat) (hc : c < 256) (w : World) :
    Calls Tryd.prog 61 #[.int .u8 c] w fun e w' => e = .returned (.int .i64 (optI (smp c))) ∧ Below w.heap.size w w' := by
  go_enter Tryd.func61, Tryd.ntmps61
  go_wp2
  go_loopw [5] (fun k wr => simRel c k ∧ simW w = wr) (fun k _ => 8 - (intOf k).toNat)
  case atStart => exact ⟨⟨0, by omega, rfl, by omega, by omega, by omega, by omega, by omega, by omega, by omega, by omega⟩, rfl⟩
  case round =>
    obtain ⟨⟨j, hj, rfl, n0, n1, n2, n3, n4, n5, n6, n7⟩, rfl⟩ := hrel
    have HN : Hid ((0 < j → c ≠ 34) ∧ (1 < j → c ≠ 92) ∧ (2 < j → c ≠ 47) ∧ (3 < j → c ≠ 98) ∧ (4 < j → c ≠ 102) ∧ (5 < j → c ≠ 110) ∧ (6 < j → c ≠ 114) ∧ (7 < j → c ≠ 116)) := ⟨n0, n1, n2, n3, n4, n5, n6, n7⟩
    clear n0 n1 n2 n3 n4 n5 n6 n7
    rcases (show j = 0 ∨ j = 1 ∨ j = 2 ∨ j = 3 ∨ j = 4 ∨ j = 5 ∨ j = 6 ∨ j = 7 ∨ j = 8 from by omega) with rfl | rfl | rfl | rfl | rfl | rfl | rfl | rfl | rfl
    · have g : ((⟨#[34, 92, 47, 98, 102, 110, 114, 116]⟩ : ByteArray)[0]'(by decide)).toNat = 34 := rfl
      by_cases e : c = 34
      · subst e
        clear HN
        go_wp2
        go_ret
        exact ⟨rfl, (Below.refl _ _).alloc (Nat.le_refl _) _⟩
      · have t : ((34 : Int) == (c : Int)) = false := by rw [beq_eq_false_iff_ne]; omega
        have HE := hide e
        clear e
        go_wp2
        go_roundw
        case rel =>
          obtain ⟨n0, n1, n2, n3, n4, n5, n6, n7⟩ := unhide HN
          have e := unhide HE
          exact ⟨⟨1, by omega, by go_num, fun _ => e, by omega, by omega, by omega, by omega, by omega, by omega, by omega⟩, trivial⟩
        case measure => simp [intOf]
    · have g : ((⟨#[34, 92, 47, 98, 102, 110, 114, 116]⟩ : ByteArray)[1]'(by decide)).toNat = 92 := rfl
      by_cases e : c = 92
      · subst e
        clear HN
        go_wp2
        go_ret
        exact ⟨rfl, (Below.refl _ _).alloc (Nat.le_refl _) _⟩
      · have t : ((92 : Int) == (c : Int)) = false := by rw [beq_eq_false_iff_ne]; omega
        have HE := hide e
        clear e
        go_wp2
        go_roundw
        case rel =>
          obtain ⟨n0, n1, n2, n3, n4, n5, n6, n7⟩ := unhide HN
          have e := unhide HE
          exact ⟨⟨2, by omega, by go_num, fun _ => n0 (by omega), fun _ => e, by omega, by omega, by omega, by omega, by omega, by omega⟩, trivial⟩
        case measure => simp [intOf]
    · have g : ((⟨#[34, 92, 47, 98, 102, 110, 114, 116]⟩ : ByteArray)[2]'(by decide)).toNat = 47 := rfl
      by_cases e : c = 47
      · subst e
        clear HN
        go_wp2
        go_ret
        exact ⟨rfl, (Below.refl _ _).alloc (Nat.le_refl _) _⟩
      · have t : ((47 : Int) == (c : Int)) = false := by rw [beq_eq_false_iff_ne]; omega
        have HE := hide e
        clear e
        go_wp2
        go_roundw
        case rel =>
          obtain ⟨n0, n1, n2, n3, n4, n5, n6, n7⟩ := unhide HN
          have e := unhide HE
          exact ⟨⟨3, by omega, by go_num, fun _ => n0 (by omega), fun _ => n1 (by omega), fun _ => e, by omega, by omega, by omega, by omega, by omega⟩, trivial⟩
        case measure => simp [intOf]
    · have g : ((⟨#[34, 92, 47, 98, 102, 110, 114, 116]⟩ : ByteArray)[3]'(by decide)).toNat = 98 := rfl
      by_cases e : c = 98
      · subst e
        clear HN
        go_wp2
        go_ret
        exact ⟨rfl, (Below.refl _ _).alloc (Nat.le_refl _) _⟩
      · have t : ((98 : Int) == (c : Int)) = false := by rw [beq_eq_false_iff_ne]; omega
        have HE := hide e
        clear e
        go_wp2
        go_roundw
        case rel =>
          obtain ⟨n0, n1, n2, n3, n4, n5, n6, n7⟩ := unhide HN
          have e := unhide HE
          exact ⟨⟨4, by omega, by go_num, fun _ => n0 (by omega), fun _ => n1 (by omega), fun _ => n2 (by omega), fun _ => e, by omega, by omega, by omega, by omega⟩, trivial⟩
        case measure => simp [intOf]
    · have g : ((⟨#[34, 92, 47, 98, 102, 110, 114, 116]⟩ : ByteArray)[4]'(by decide)).toNat = 102 := rfl
      by_cases e : c = 102
      · subst e
        clear HN
        go_wp2
        go_ret
        exact ⟨rfl, (Below.refl _ _).alloc (Nat.le_refl _) _⟩
      · have t : ((102 : Int) == (c : Int)) = false := by rw [beq_eq_false_iff_ne]; omega
        have HE := hide e
        clear e
        go_wp2
        go_roundw
        case rel =>
          obtain ⟨n0, n1, n2, n3, n4, n5, n6, n7⟩ := unhide HN
          have e := unhide HE
          exact ⟨⟨5, by omega, by go_num, fun _ => n0 (by omega), fun _ => n1 (by omega), fun _ => n2 (by omega), fun _ => n3 (by omega), fun _ => e, by omega, by omega, by omega⟩, trivial⟩
        case measure => simp [intOf]
    · have g : ((⟨#[34, 92, 47, 98, 102, 110, 114, 116]⟩ : ByteArray)[5]'(by decide)).toNat = 110 := rfl
      by_cases e : c = 110
      · subst e
        clear HN
        go_wp2
        go_ret
        exact ⟨rfl, (Below.refl _ _).alloc (Nat.le_refl _) _⟩
      · have t : ((110 : Int) == (c : Int)) = false := by rw [beq_eq_false_iff_ne]; omega
        have HE := hide e
        clear e
        go_wp2
        go_roundw
        case rel =>
          obtain ⟨n0, n1, n2, n3, n4, n5, n6, n7⟩ := unhide HN
          have e := unhide HE
          exact ⟨⟨6, by omega, by go_num, fun _ => n0 (by omega), fun _ => n1 (by omega), fun _ => n2 (by omega), fun _ => n3 (by omega), fun _ => n4 (by omega), fun _ => e, by omega, by omega⟩, trivial⟩
        case measure => simp [intOf]
    · have g : ((⟨#[34, 92, 47, 98, 102, 110, 114, 116]⟩ : ByteArray)[6]'(by decide)).toNat = 114 := rfl
      by_cases e : c = 114
      · subst e
        clear HN
        go_wp2
        go_ret
        exact ⟨rfl, (Below.refl _ _).alloc (Nat.le_refl _) _⟩
      · have t : ((114 : Int) == (c : Int)) = false := by rw [beq_eq_false_iff_ne]; omega
        have HE := hide e
        clear e
        go_wp2
        go_roundw
        case rel =>
          obtain ⟨n0, n1, n2, n3, n4, n5, n6, n7⟩ := unhide HN
          have e := unhide HE
          exact ⟨⟨7, by omega, by go_num, fun _ => n0 (by omega), fun _ => n1 (by omega), fun _ => n2 (by omega), fun _ => n3 (by omega), fun _ => n4 (by omega), fun _ => n5 (by omega), fun _ => e, by omega⟩, trivial⟩
        case measure => simp [intOf]
    · have g : ((⟨#[34, 92, 47, 98, 102, 110, 114, 116]⟩ : ByteArray)[7]'(by decide)).toNat = 116 := rfl
      by_cases e : c = 116
      · subst e
        clear HN
        go_wp2
        go_ret
        exact ⟨rfl, (Below.refl _ _).alloc (Nat.le_refl _) _⟩
      · have t : ((116 : Int) == (c : Int)) = false := by rw [beq_eq_false_iff_ne]; omega
        have HE := hide e
        clear e
        go_wp2
        go_roundw
        case rel =>
          obtain ⟨n0, n1, n2, n3, n4, n5, n6, n7⟩ := unhide HN
          have e := unhide HE
          exact ⟨⟨8, by omega, by go_num, fun _ => n0 (by omega), fun _ => n1 (by omega), fun _ => n2 (by omega), fun _ => n3 (by omega), fun _ => n4 (by omega), fun _ => n5 (by omega), fun _ => n6 (by omega), fun _ => e⟩, trivial⟩
        case measure => simp [intOf]
    · have HS : Hid (smp c = none) := by
        obtain ⟨n0, n1, n2, n3, n4, n5, n6, n7⟩ := unhide HN
        show _ = _
        unfold smp
        rw [if_neg (n0 (by omega)), if_neg (n1 (by omega)), if_neg (n2 (by omega)), if_neg (n3 (by omega)), if_neg (n4 (by omega)), if_neg (n5 (by omega)), if_neg (n6 (by omega)), if_neg (n7 (by omega))]
      clear HN
      go_wp2
      go_ret
      exact ⟨by rw [unhide HS]; rfl, (Below.refl _ _).alloc (Nat.le_refl _) _⟩
end Go.Proofs.YtadefcohbkgbfaaDoor
