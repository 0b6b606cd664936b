import Derived.Test.YtadefcohbkgbfaaDoorSpecHex
namespace Go.Proofs.YtadefcohbkgbfaaDoor
open Go.RowKit

theorem unit_short {s : ByteArray} {i : Nat} (h : s.size < i + 6) : unit s i = none := by
  cases e : unit s i with
  | none => rfl
  | some u => have := unit_in e; omega

set_option maxHeartbeats 1600000 in
theorem l1Unit_walk (s : ByteArray) (i : Nat) (hs : s.size ≤ 1048576) (hi : i ≤ 2000000) (w : World) :
    Calls Tryd.prog 62 #[.string s, .int .i64 i] w fun e w' => w = w' ∧ e = .returned (.int .i64 (optI (unit s i))) := by
  by_cases hlen : i + 6 ≤ s.size
  · have hl' : ¬ (s.size : Int) < (i : Int) + 6 := by omega
    have e0 := bt_at s i (by omega)
    have e1 := bt_at s (i + 1) (by omega)
    by_cases h0 : bt s i = 92
    · have q0 : ((s[i]'(by omega)).toNat : Int) = 92 := by omega
      have t0 : (((s[i]'(by omega)).toNat : Int) != 92) = false := by rw [bne_eq_false_iff_eq]; omega
      by_cases h1 : bt s (i + 1) = 117
      · have t1 : (((s[i + 1]'(by omega)).toNat : Int) != 117) = false := by rw [bne_eq_false_iff_eq]; omega
        have HU : Hid (unit s i = hexN s (i + 2) 4) := by show _ = _; unfold unit; rw [if_pos ⟨h0, h1⟩]
        have dl : decide ((s.size : Int) < (i : Int) + 6) = false := by simp; omega
        clear h0 h1 e0 e1 q0
        go_enter Tryd.func62, Tryd.ntmps62
        go_wp2
        clear t0 t1 dl hl'
        go_loopw [5, 6] (fun v k wr => ∃ j u : Nat, j ≤ 4 ∧ k = .int .i64 ((j + 2 : Nat) : Int) ∧ u < 16 ^ j ∧ v = .int .i64 (u : Int) ∧ hexN s (i + 2) j = some u ∧ w = wr) (fun _ k _ => 6 - (intOf k).toNat)
        case atStart => exact ⟨0, 0, by omega, rfl, by decide, rfl, rfl, rfl⟩
        case round =>
          obtain ⟨j, u, hj, rfl, hu, rfl, hx, rfl⟩ := hrel
          have HV := hide hx
          clear hx
          by_cases h4 : j < 4
          · have hu65 : u < 65536 := by
              have : (16 : Nat) ^ j ≤ 16 ^ 3 := Nat.pow_le_pow_right (by decide) (by omega)
              omega
            have hin : i + (j + 2) < s.size := by omega
            have HC := hide (l1Hex_walk ((s[i + (j + 2)]'hin).toNat) (UInt8.toNat_lt _) w)
            have eb : bt s (i + 2 + j) = (s[i + (j + 2)]'hin).toNat := by rw [show i + 2 + j = i + (j + 2) from by omega]; exact bt_at s _ hin
            cases hx1 : hx ((s[i + (j + 2)]'hin).toNat) with
            | some d =>
              have hd := hx_lt hx1
              have HX := hide (hexN_next (unhide HV) (by rw [eb]; exact hx1))
              rw [hx1] at HC
              have hd0 : ¬ ((d : Int) < 0) := by omega
              clear hx1 eb
              go_wp2_with fail
              refine (unhide HC).mono ?_
              rintro e w1 ⟨rfl, rfl⟩
              clear HC
              simp only [optI, Option.elim]
              go_wp2
              go_roundw
              case rel => exact ⟨j + 1, u * 16 + d, by omega, by go_num, by rw [Nat.pow_succ]; omega, by go_num, unhide HX, trivial⟩
              case measure => simp [intOf]; omega
            | none =>
              have HX : Hid (hexN s (i + 2) 4 = none) := hexN_none (hexN_bad (by rw [eb]; exact hx1)) (by omega)
              rw [hx1] at HC
              clear hx1 eb
              go_wp2_with fail
              refine (unhide HC).mono ?_
              rintro e w1 ⟨rfl, rfl⟩
              clear HC
              simp only [optI, Option.elim]
              go_wp2
              go_ret
              exact ⟨rfl, by rw [unhide HU, unhide HX]; rfl⟩
          · have e4 : j = 4 := by omega
            subst e4
            go_wp2
            go_ret
            exact ⟨rfl, by rw [unhide HU, unhide HV]; rfl⟩
      · have t1 : (((s[i + 1]'(by omega)).toNat : Int) != 117) = true := by rw [bne_iff_ne]; omega
        have HU : Hid (unit s i = none) := by show _ = _; unfold unit; rw [if_neg (fun h => h1 h.2)]
        clear h0 h1 e0 e1 q0
        go_enter Tryd.func62, Tryd.ntmps62
        go_wp2
        go_ret
        exact ⟨rfl, by rw [unhide HU]; rfl⟩
    · have t0 : (((s[i]'(by omega)).toNat : Int) != 92) = true := by rw [bne_iff_ne]; omega
      have HU : Hid (unit s i = none) := by show _ = _; unfold unit; rw [if_neg (fun h => h0 h.1)]
      clear h0 e0 e1
      go_enter Tryd.func62, Tryd.ntmps62
      go_wp2
      go_ret
      exact ⟨rfl, by rw [unhide HU]; rfl⟩
  · have hl' : (s.size : Int) < (i : Int) + 6 := by omega
    have HU := hide (unit_short (s := s) (i := i) (by omega))
    go_enter Tryd.func62, Tryd.ntmps62
    go_wp2
    go_ret
    exact ⟨rfl, by rw [unhide HU]; rfl⟩
end Go.Proofs.YtadefcohbkgbfaaDoor
