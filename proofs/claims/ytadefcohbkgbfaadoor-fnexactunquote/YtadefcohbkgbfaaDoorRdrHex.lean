import Derived.Test.YtadefcohbkgbfaaDoorUnqPlain
namespace Go.Proofs.YtadefcohbkgbfaaDoor
open Go.RowKit

set_option maxHeartbeats 800000 in
theorem hexDigit_walk (b : Nat) (hb : b < 256) (w : World) :
    Calls Tryd.prog 84 #[.int .u8 b] w fun e w' => w = w' ∧ e = (hx b).elim mis (fun v => .returned (.int .i32 v)) := by
  by_cases h1 : 48 ≤ b ∧ b ≤ 57
  · have HH : Hid (hx b = some (b - 48)) := by show _ = _; unfold hx; rw [if_pos h1]
    have a1 : (48 : Int) ≤ (b : Int) := by omega
    have a2 : (b : Int) ≤ 57 := by omega
    clear h1
    go_enter Tryd.func84, Tryd.ntmps84
    go_wp2
    go_ret
    refine ⟨rfl, ?_⟩
    rw [unhide HH]
    exact ret_int (by go_num)
  · by_cases h2 : 97 ≤ b ∧ b ≤ 102
    · have HH : Hid (hx b = some (b - 87)) := by show _ = _; unfold hx; rw [if_neg h1, if_pos h2]
      have a1 : (97 : Int) ≤ (b : Int) := by omega
      have a2 : (b : Int) ≤ 102 := by omega
      clear h1 h2
      go_enter Tryd.func84, Tryd.ntmps84
      go_wp2
      go_ret
      refine ⟨rfl, ?_⟩
      rw [unhide HH]
      exact ret_int (by go_num)
    · by_cases h3 : 65 ≤ b ∧ b ≤ 70
      · have HH : Hid (hx b = some (b - 55)) := by show _ = _; unfold hx; rw [if_neg h1, if_neg h2, if_pos h3]
        have a1 : (65 : Int) ≤ (b : Int) := by omega
        have a2 : (b : Int) ≤ 70 := by omega
        clear h1 h2 h3
        go_enter Tryd.func84, Tryd.ntmps84
        go_wp2
        go_ret
        refine ⟨rfl, ?_⟩
        rw [unhide HH]
        exact ret_int (by go_num)
      · have HH : Hid (hx b = none) := by show _ = _; unfold hx; rw [if_neg h1, if_neg h2, if_neg h3]
        clear HH
        have HH : Hid (hx b = none) := by show _ = _; unfold hx; rw [if_neg h1, if_neg h2, if_neg h3]
        rcases (show b < 48 ∨ (57 < b ∧ b < 65) ∨ (70 < b ∧ b < 97) ∨ 102 < b from by omega) with g | g | g | g
        · have a1 : (b : Int) < 48 := by omega
          clear h1 h2 h3 g
          go_enter Tryd.func84, Tryd.ntmps84
          go_wp2
          exact ⟨rfl, rfl, by rw [unhide HH]; rfl⟩
        · have a1 : (57 : Int) < (b : Int) := by omega
          have a2 : (b : Int) < 65 := by omega
          clear h1 h2 h3 g
          go_enter Tryd.func84, Tryd.ntmps84
          go_wp2
          exact ⟨rfl, rfl, by rw [unhide HH]; rfl⟩
        · have a1 : (70 : Int) < (b : Int) := by omega
          have a2 : (b : Int) < 97 := by omega
          clear h1 h2 h3 g
          go_enter Tryd.func84, Tryd.ntmps84
          go_wp2
          exact ⟨rfl, rfl, by rw [unhide HH]; rfl⟩
        · have a1 : (102 : Int) < (b : Int) := by omega
          clear h1 h2 h3 g
          go_enter Tryd.func84, Tryd.ntmps84
          go_wp2
          exact ⟨rfl, rfl, by rw [unhide HH]; rfl⟩

set_option maxHeartbeats 1600000 in
theorem hexNum_walk (rb : Nat) (s : ByteArray) (i : Nat) (tb kt : Bool) (w : World) (h : Rdr rb s i tb kt w) (hs : s.size ≤ 1048576) (hi : i ≤ s.size) :
    Calls Tryd.prog 80 #[.pointer (some ⟨rb, 0, none⟩)] w (Post rb s tb kt w ((hexN s i 4).map fun v : Nat => (.int .i32 (v : Int), i + 4))) := by
  have H := hide h
  clear h
  go_enter Tryd.func80, Tryd.ntmps80
  go_wp2
  go_loopw [3, 4] (fun n k wr => ∃ j v : Nat, j ≤ 4 ∧ i + j ≤ s.size ∧ v < 16 ^ j ∧ k = .int .i64 j ∧ n = .int .i32 v ∧ hexN s i j = some v ∧ Rdr rb s (i + j) tb kt wr ∧ KB rb w wr) (fun _ k _ => 4 - (intOf k).toNat)
  case atStart => exact ⟨0, 0, by omega, by omega, by decide, rfl, rfl, rfl, unhide H, KB.refl _ _⟩
  case round =>
    obtain ⟨j, v, hj, hij, hv16, rfl, rfl, hv, hr, hk⟩ := hrel
    have HV := hide hv
    have HR := hide hr
    clear hv hr
    by_cases h4 : j < 4
    · have hv65 : v < 65536 := by
        have : (16 : Nat) ^ j ≤ 16 ^ 3 := Nat.pow_le_pow_right (by decide) (by omega)
        omega
      have h4' : (j : Int) < 4 := by omega
      by_cases hin : i + j < s.size
      · have HN := hide (next_in rb s (i + j) tb kt wr (unhide HR) hs hin)
        have HD := hide (hexDigit_walk (bt s (i + j)) (bt_lt _ _))
        have hvI : (v : Int) < 65536 := by omega
        cases hx1 : hx (bt s (i + j)) with
        | some d =>
          have hd := hx_lt hx1
          have HX := hide (hexN_next (unhide HV) hx1)
          rw [hx1] at HD
          generalize bt s (i + j) = b at *
          clear hx1
          go_wp2_with fail
          refine (unhide HN).mono ?_
          rintro e w1 ⟨rfl, r1, k1⟩
          have R1 := hide r1
          clear r1
          go_wp2_with fail
          refine (unhide HD _).mono ?_
          rintro e w2 ⟨rfl, rfl⟩
          clear HN HD
          simp only [Option.elim]
          go_wp2
          go_roundw
          case rel => exact ⟨j + 1, v * 16 + d, by omega, by omega, by rw [Nat.pow_succ]; omega, by go_num, by go_num, unhide HX, unhide R1, hk.trans k1⟩
          case measure => simp [intOf]; omega
        | none =>
          have HX : Hid (hexN s i 4 = none) := hexN_none (hexN_bad hx1) (by omega)
          rw [hx1] at HD
          generalize bt s (i + j) = b at *
          clear hx1
          go_wp2_with fail
          refine (unhide HN).mono ?_
          rintro e w1 ⟨rfl, r1, k1⟩
          clear r1
          go_wp2_with fail
          refine (unhide HD _).mono ?_
          rintro e w2 ⟨rfl, rfl⟩
          clear HN HD
          exact ⟨rfl, hk.trans k1, by rw [unhide HX]; rfl⟩
      · have HX : Hid (hexN s i 4 = none) := hexN_none (hexN_bad (by rw [bt_out s (i + j) (by omega)]; rfl)) (show j + 1 ≤ 4 by omega)
        have HN := hide (next_out rb s (i + j) tb kt wr (unhide HR) (by omega))
        go_wp2_with fail
        refine (unhide HN).mono ?_
        rintro e w1 ⟨rfl, k1⟩
        clear HN
        exact ⟨rfl, hk.trans k1, by rw [unhide HX]; rfl⟩
    · have e4 : j = 4 := by omega
      subst e4
      go_wp2
      go_ret
      exact ⟨hk, by rw [unhide HV]; exact ⟨rfl, unhide HR⟩⟩

/-- The word at place i. -/
def isWord (s : ByteArray) (i : Nat) (wd : ByteArray) : Prop := ∀ k, k < wd.size → bt s (i + k) = bt wd k

set_option maxHeartbeats 1600000 in
theorem word_yes (rb : Nat) (s : ByteArray) (i : Nat) (tb kt : Bool) (w : World) (h : Rdr rb s i tb kt w) (hs : s.size ≤ 1048576) (wd : ByteArray) (hw : wd.size ≤ 1000) (hi : i + wd.size ≤ s.size) (hit : isWord s i wd) :
    Calls Tryd.prog 81 #[.pointer (some ⟨rb, 0, none⟩), .string wd] w fun e w' => e = .returned (.tuple #[]) ∧ Rdr rb s (i + wd.size) tb kt w' ∧ KB rb w w' := by
  have H := hide h
  have HIT := hide hit
  clear h hit
  go_enter Tryd.func81, Tryd.ntmps81
  go_wp2
  go_loopw [7] (fun k wr => ∃ j : Nat, j ≤ wd.size ∧ k = .int .i64 j ∧ Rdr rb s (i + j) tb kt wr ∧ KB rb w wr) (fun k _ => wd.size - (intOf k).toNat)
  case atStart => exact ⟨0, by omega, rfl, unhide H, KB.refl _ _⟩
  case round =>
    obtain ⟨j, hj, rfl, hr, hk⟩ := hrel
    have HR := hide hr
    clear hr
    by_cases hlt : j < wd.size
    · have e1 := (unhide HIT) j hlt
      have HE : Hid (Calls Tryd.prog 52 #[.pointer (some ⟨rb, 0, none⟩), .int .u8 (wd[j].toNat : Int)] wr fun e w' => e = .returned (.tuple #[]) ∧ Rdr rb s (i + j + 1) tb kt w' ∧ KB rb wr w') :=
        expect_yes rb s (i + j) tb kt wr (unhide HR) hs wd[j].toNat (by rw [e1, bt_at wd j hlt]) (by omega)
      clear e1
      go_wp2_with fail
      refine (unhide HE).mono ?_
      rintro e w1 ⟨rfl, r1, k1⟩
      have R1 := hide r1
      clear r1 HE
      go_wp2
      go_roundw
      case rel => exact ⟨j + 1, by omega, by go_num, unhide R1, hk.trans k1⟩
      case measure => simp [intOf]; omega
    · have e4 : j = wd.size := by omega
      subst e4
      go_wp2
      go_end0
      exact ⟨rfl, unhide HR, hk⟩

set_option maxHeartbeats 1600000 in
theorem word_no (rb : Nat) (s : ByteArray) (i : Nat) (tb kt : Bool) (w : World) (h : Rdr rb s i tb kt w) (hs : s.size ≤ 1048576) (wd : ByteArray) (hw : wd.size ≤ 1000) (hz : ∀ k, k < wd.size → bt wd k ≠ 0) (hi : i ≤ s.size) (hit : ¬ isWord s i wd) :
    Calls Tryd.prog 81 #[.pointer (some ⟨rb, 0, none⟩), .string wd] w fun e w' => e = mis ∧ KB rb w w' := by
  have H := hide h
  have HIT := hide hit
  have HZ := hide hz
  clear h hit hz
  go_enter Tryd.func81, Tryd.ntmps81
  go_wp2
  go_loopw [7] (fun k wr => ∃ j : Nat, j ≤ wd.size ∧ i + j ≤ s.size ∧ k = .int .i64 j ∧ (∀ m, m < j → bt s (i + m) = bt wd m) ∧ Rdr rb s (i + j) tb kt wr ∧ KB rb w wr) (fun k _ => wd.size - (intOf k).toNat)
  case atStart => exact ⟨0, by omega, hi, rfl, by omega, unhide H, KB.refl _ _⟩
  case round =>
    obtain ⟨j, hj, hij, rfl, hm, hr, hk⟩ := hrel
    have HR := hide hr
    have HM := hide hm
    clear hr hm
    by_cases hlt : j < wd.size
    · by_cases e1 : bt s (i + j) = bt wd j
      · have hin : i + j < s.size := bt_in (by rw [e1]; exact (unhide HZ) j hlt)
        have HE : Hid (Calls Tryd.prog 52 #[.pointer (some ⟨rb, 0, none⟩), .int .u8 (wd[j].toNat : Int)] wr fun e w' => e = .returned (.tuple #[]) ∧ Rdr rb s (i + j + 1) tb kt w' ∧ KB rb wr w') :=
          expect_yes rb s (i + j) tb kt wr (unhide HR) hs wd[j].toNat (by rw [e1, bt_at wd j hlt]) hin
        have HM1 : Hid (∀ m, m < j + 1 → bt s (i + m) = bt wd m) := fun m hm => by
          rcases Nat.lt_or_ge m j with g | g
          · exact (unhide HM) m g
          · have : m = j := by omega
            subst this; exact e1
        clear e1
        go_wp2_with fail
        refine (unhide HE).mono ?_
        rintro e w1 ⟨rfl, r1, k1⟩
        have R1 := hide r1
        clear r1 HE
        go_wp2
        go_roundw
        case rel => exact ⟨j + 1, by omega, by omega, by go_num, unhide HM1, unhide R1, hk.trans k1⟩
        case measure => simp [intOf]; omega
      · have HE : Hid (Calls Tryd.prog 52 #[.pointer (some ⟨rb, 0, none⟩), .int .u8 (wd[j].toNat : Int)] wr fun e w' => e = mis ∧ KB rb wr w') :=
          expect_no rb s (i + j) tb kt wr (unhide HR) hs hij wd[j].toNat (.inl (by rw [bt_at wd j hlt] at e1; exact e1))
        clear e1
        go_wp2_with fail
        refine (unhide HE).mono ?_
        rintro e w1 ⟨rfl, k1⟩
        clear HE
        exact ⟨rfl, rfl, hk.trans k1⟩
    · exfalso
      refine (unhide HIT) fun k hk' => (unhide HM) k (by omega)
end Go.Proofs.YtadefcohbkgbfaaDoor
