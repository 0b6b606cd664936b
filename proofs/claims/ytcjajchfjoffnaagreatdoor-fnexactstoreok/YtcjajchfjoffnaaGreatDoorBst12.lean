import Derived.Test.YtcjajchfjoffnaaGreatDoorBst9
namespace Go.Proofs.YtcjajchfjoffnaaGreatDoor
open Go.RowKit

set_option maxHeartbeats 800000 in
theorem hexDigit_walk (b : Nat) (hb : b < 256) (w : World) :
    Calls Tryz.prog 274 #[.int .u8 b] w fun e w' => w = w' ∧ e = (hx b).elim mis (fun v => .returned (.int .i32 v)) := by
  by_cases h1 : 48 ≤ b ∧ b ≤ 57
  · have HH : Hid (hx b = some (b - 48)) := by show _ = _; unfold hx; rw [if_pos h1]
    have a1 : (48 : Int) ≤ (b : Int) := by omega
    have a2 : (b : Int) ≤ 57 := by omega
    clear h1
    go_enter Tryz.func274, Tryz.ntmps274
    go_wp2
    go_ret
    refine ⟨rfl, ?_⟩
    rw [unhide HH]
    exact ret_int (by go_num)
  · by_cases h2 : 97 ≤ b ∧ b ≤ 102
    · have HH : Hid (hx b = some (b - 87)) := by show _ = _; unfold hx; rw [if_neg h1, if_pos h2]
      have a1 : (97 : Int) ≤ (b : Int) := by omega
      have a2 : (b : Int) ≤ 102 := by omega
      clear h1 h2
      go_enter Tryz.func274, Tryz.ntmps274
      go_wp2
      go_ret
      refine ⟨rfl, ?_⟩
      rw [unhide HH]
      exact ret_int (by go_num)
    · by_cases h3 : 65 ≤ b ∧ b ≤ 70
      · have HH : Hid (hx b = some (b - 55)) := by show _ = _; unfold hx; rw [if_neg h1, if_neg h2, if_pos h3]
        have a1 : (65 : Int) ≤ (b : Int) := by omega
        have a2 : (b : Int) ≤ 70 := by omega
        clear h1 h2 h3
        go_enter Tryz.func274, Tryz.ntmps274
        go_wp2
        go_ret
        refine ⟨rfl, ?_⟩
        rw [unhide HH]
        exact ret_int (by go_num)
      · have HH : Hid (hx b = none) := by show _ = _; unfold hx; rw [if_neg h1, if_neg h2, if_neg h3]
        clear HH
        have HH : Hid (hx b = none) := by show _ = _; unfold hx; rw [if_neg h1, if_neg h2, if_neg h3]
        rcases (show b < 48 ∨ (57 < b ∧ b < 65) ∨ (70 < b ∧ b < 97) ∨ 102 < b from by omega) with g | g | g | g
        · have a1 : (b : Int) < 48 := by omega
          clear h1 h2 h3 g
          go_enter Tryz.func274, Tryz.ntmps274
          go_wp2
          exact ⟨rfl, rfl, by rw [unhide HH]; rfl⟩
        · have a1 : (57 : Int) < (b : Int) := by omega
          have a2 : (b : Int) < 65 := by omega
          clear h1 h2 h3 g
          go_enter Tryz.func274, Tryz.ntmps274
          go_wp2
          exact ⟨rfl, rfl, by rw [unhide HH]; rfl⟩
        · have a1 : (70 : Int) < (b : Int) := by omega
          have a2 : (b : Int) < 97 := by omega
          clear h1 h2 h3 g
          go_enter Tryz.func274, Tryz.ntmps274
          go_wp2
          exact ⟨rfl, rfl, by rw [unhide HH]; rfl⟩
        · have a1 : (102 : Int) < (b : Int) := by omega
          clear h1 h2 h3 g
          go_enter Tryz.func274, Tryz.ntmps274
          go_wp2
          exact ⟨rfl, rfl, by rw [unhide HH]; rfl⟩

set_option maxHeartbeats 1600000 in
theorem hexNum_walk (rb : Nat) (s : ByteArray) (i : Nat) (tb kt : Bool) (w : World) (h : Rdr rb s i tb kt w) (hs : s.size ≤ 1048576) (hi : i ≤ s.size) :
    Calls Tryz.prog 265 #[.pointer (some ⟨rb, 0, none⟩)] w (Post rb s tb kt w ((hexN s i 4).map fun v : Nat => (.int .i32 (v : Int), i + 4))) := by
  have H := hide h
  clear h
  go_enter Tryz.func265, Tryz.ntmps265
  go_wp2
  go_loopw [3, 4] (fun n k wr => ∃ j v : Nat, j ≤ 4 ∧ i + j ≤ s.size ∧ v < 16 ^ j ∧ k = .int .i64 j ∧ n = .int .i32 v ∧ hexN s i j = some v ∧ Rdr rb s (i + j) tb kt wr ∧ KB rb w wr) (fun _ k _ => 4 - (intOf k).toNat)
  case atStart => exact ⟨0, 0, by omega, by omega, by decide, rfl, rfl, rfl, unhide H, KB.refl _ _⟩
  case round =>
    obtain ⟨j, v, hj, hij, hv16, rfl, rfl, hv, hr, hk⟩ := hrel
    have HV := hide hv
    have HR := hide hr
    clear hv hr
    by_cases h4 : j < 4
    · have hv65 : v < 65536 := by
        have : (16 : Nat) ^ j ≤ 16 ^ 3 := Nat.pow_le_pow_right (by decide) (by omega)
        omega
      have h4' : (j : Int) < 4 := by omega
      by_cases hin : i + j < s.size
      · have HN := hide (next_in rb s (i + j) tb kt wr (unhide HR) hs hin)
        have HD := hide (hexDigit_walk (bt s (i + j)) (bt_lt _ _))
        have hvI : (v : Int) < 65536 := by omega
        cases hx1 : hx (bt s (i + j)) with
        | some d =>
          have hd := hx_lt hx1
          have HX := hide (hexN_next (unhide HV) hx1)
          rw [hx1] at HD
          generalize bt s (i + j) = b at *
          clear hx1
          go_wp2_with fail
          refine (unhide HN).mono ?_
          rintro e w1 ⟨rfl, r1, k1⟩
          have R1 := hide r1
          clear r1
          go_wp2_with fail
          refine (unhide HD _).mono ?_
          rintro e w2 ⟨rfl, rfl⟩
          clear HN HD
          simp only [Option.elim]
          go_wp2
          go_roundw
          case rel => exact ⟨j + 1, v * 16 + d, by omega, by omega, by rw [Nat.pow_succ]; omega, by go_num, by go_num, unhide HX, unhide R1, hk.trans k1⟩
          case measure => simp [intOf]; omega
        | none =>
          have HX : Hid (hexN s i 4 = none) := hexN_none (hexN_bad hx1) (by omega)
          rw [hx1] at HD
          generalize bt s (i + j) = b at *
          clear hx1
          go_wp2_with fail
          refine (unhide HN).mono ?_
          rintro e w1 ⟨rfl, r1, k1⟩
          clear r1
          go_wp2_with fail
          refine (unhide HD _).mono ?_
          rintro e w2 ⟨rfl, rfl⟩
          clear HN HD
          exact ⟨rfl, hk.trans k1, by rw [unhide HX]; rfl⟩
      · have HX : Hid (hexN s i 4 = none) := hexN_none (hexN_bad (by rw [bt_out s (i + j) (by omega)]; rfl)) (show j + 1 ≤ 4 by omega)
        have HN := hide (next_out rb s (i + j) tb kt wr (unhide HR) (by omega))
        go_wp2_with fail
        refine (unhide HN).mono ?_
        rintro e w1 ⟨rfl, k1⟩
        clear HN
        exact ⟨rfl, hk.trans k1, by rw [unhide HX]; rfl⟩
    · have e4 : j = 4 := by omega
      subst e4
      go_wp2
      go_ret
      exact ⟨hk, by rw [unhide HV]; exact ⟨rfl, unhide HR⟩⟩

/-- The word at place i. -/
def isWord (s : ByteArray) (i : Nat) (wd : ByteArray) : Prop := ∀ k, k < wd.size → bt s (i + k) = bt wd k

set_option maxHeartbeats 1600000 in
theorem word_yes (rb : Nat) (s : ByteArray) (i : Nat) (tb kt : Bool) (w : World) (h : Rdr rb s i tb kt w) (hs : s.size ≤ 1048576) (wd : ByteArray) (hw : wd.size ≤ 1000) (hi : i + wd.size ≤ s.size) (hit : isWord s i wd) :
    Calls Tryz.prog 179 #[.pointer (some ⟨rb, 0, none⟩), .string wd] w fun e w' => e = .returned (.tuple #[]) ∧ Rdr rb s (i + wd.size) tb kt w' ∧ KB rb w w' := by
  have H := hide h
  have HIT := hide hit
  clear h hit
  go_enter Tryz.func179, Tryz.ntmps179
  go_wp2
  go_loopw [7] (fun k wr => ∃ j : Nat, j ≤ wd.size ∧ k = .int .i64 j ∧ Rdr rb s (i + j) tb kt wr ∧ KB rb w wr) (fun k _ => wd.size - (intOf k).toNat)
  case atStart => exact ⟨0, by omega, rfl, unhide H, KB.refl _ _⟩
  case round =>
    obtain ⟨j, hj, rfl, hr, hk⟩ := hrel
    have HR := hide hr
    clear hr
    by_cases hlt : j < wd.size
    · have e1 := (unhide HIT) j hlt
      have HE : Hid (Calls Tryz.prog 205 #[.pointer (some ⟨rb, 0, none⟩), .int .u8 (wd[j].toNat : Int)] wr fun e w' => e = .returned (.tuple #[]) ∧ Rdr rb s (i + j + 1) tb kt w' ∧ KB rb wr w') :=
        expect_yes rb s (i + j) tb kt wr (unhide HR) hs wd[j].toNat (by rw [e1, bt_at wd j hlt]) (by omega)
      clear e1
      go_wp2_with fail
      refine (unhide HE).mono ?_
      rintro e w1 ⟨rfl, r1, k1⟩
      have R1 := hide r1
      clear r1 HE
      go_wp2
      go_roundw
      case rel => exact ⟨j + 1, by omega, by go_num, unhide R1, hk.trans k1⟩
      case measure => simp [intOf]; omega
    · have e4 : j = wd.size := by omega
      subst e4
      go_wp2
      go_end0
      exact ⟨rfl, unhide HR, hk⟩

set_option maxHeartbeats 1600000 in
theorem word_no (rb : Nat) (s : ByteArray) (i : Nat) (tb kt : Bool) (w : World) (h : Rdr rb s i tb kt w) (hs : s.size ≤ 1048576) (wd : ByteArray) (hw : wd.size ≤ 1000) (hz : ∀ k, k < wd.size → bt wd k ≠ 0) (hi : i ≤ s.size) (hit : ¬ isWord s i wd) :
    Calls Tryz.prog 179 #[.pointer (some ⟨rb, 0, none⟩), .string wd] w fun e w' => e = mis ∧ KB rb w w' := by
  have H := hide h
  have HIT := hide hit
  have HZ := hide hz
  clear h hit hz
  go_enter Tryz.func179, Tryz.ntmps179
  go_wp2
  go_loopw [7] (fun k wr => ∃ j : Nat, j ≤ wd.size ∧ i + j ≤ s.size ∧ k = .int .i64 j ∧ (∀ m, m < j → bt s (i + m) = bt wd m) ∧ Rdr rb s (i + j) tb kt wr ∧ KB rb w wr) (fun k _ => wd.size - (intOf k).toNat)
  case atStart => exact ⟨0, by omega, hi, rfl, by omega, unhide H, KB.refl _ _⟩
  case round =>
    obtain ⟨j, hj, hij, rfl, hm, hr, hk⟩ := hrel
    have HR := hide hr
    have HM := hide hm
    clear hr hm
    by_cases hlt : j < wd.size
    · by_cases e1 : bt s (i + j) = bt wd j
      · have hin : i + j < s.size := bt_in (by rw [e1]; exact (unhide HZ) j hlt)
        have HE : Hid (Calls Tryz.prog 205 #[.pointer (some ⟨rb, 0, none⟩), .int .u8 (wd[j].toNat : Int)] wr fun e w' => e = .returned (.tuple #[]) ∧ Rdr rb s (i + j + 1) tb kt w' ∧ KB rb wr w') :=
          expect_yes rb s (i + j) tb kt wr (unhide HR) hs wd[j].toNat (by rw [e1, bt_at wd j hlt]) hin
        have HM1 : Hid (∀ m, m < j + 1 → bt s (i + m) = bt wd m) := fun m hm => by
          rcases Nat.lt_or_ge m j with g | g
          · exact (unhide HM) m g
          · have : m = j := by omega
            subst this; exact e1
        clear e1
        go_wp2_with fail
        refine (unhide HE).mono ?_
        rintro e w1 ⟨rfl, r1, k1⟩
        have R1 := hide r1
        clear r1 HE
        go_wp2
        go_roundw
        case rel => exact ⟨j + 1, by omega, by omega, by go_num, unhide HM1, unhide R1, hk.trans k1⟩
        case measure => simp [intOf]; omega
      · have HE : Hid (Calls Tryz.prog 205 #[.pointer (some ⟨rb, 0, none⟩), .int .u8 (wd[j].toNat : Int)] wr fun e w' => e = mis ∧ KB rb wr w') :=
          expect_no rb s (i + j) tb kt wr (unhide HR) hs hij wd[j].toNat (.inl (by rw [bt_at wd j hlt] at e1; exact e1))
        clear e1
        go_wp2_with fail
        refine (unhide HE).mono ?_
        rintro e w1 ⟨rfl, k1⟩
        clear HE
        exact ⟨rfl, rfl, hk.trans k1⟩
    · exfalso
      refine (unhide HIT) fun k hk' => (unhide HM) k (by omega)
end Go.Proofs.YtcjajchfjoffnaaGreatDoor

namespace Go.Proofs.YtcjajchfjoffnaaGreatDoor
open Go.RowKit

theorem isWord_u (s : ByteArray) (i : Nat) : isWord s i ⟨#[92, 117]⟩ ↔ bt s i = 92 ∧ bt s (i + 1) = 117 := by
  constructor
  · intro h
    exact ⟨h 0 (by decide), h 1 (by decide)⟩
  · rintro ⟨h0, h1⟩ k hk
    have : k < 2 := hk
    match k, this with
    | 0, _ => exact h0
    | 1, _ => exact h1

set_option maxHeartbeats 1600000 in
set_option maxRecDepth 100000 in
theorem hexRune_walk (rb : Nat) (s : ByteArray) (i : Nat) (tb kt : Bool) (w : World) (h : Rdr rb s (i + 2) tb kt w) (hs : s.size ≤ 1048576) (hi : i + 2 ≤ s.size) :
    Calls Tryz.prog 248 #[.pointer (some ⟨rb, 0, none⟩)] w (Post rb s tb kt w (((hexN s (i + 2) 4).bind (escU s i)).map fun p => (.int .i32 (p.1 : Int), i + p.2))) := by
  have HX := hide (hexNum_walk rb s (i + 2) tb kt w h hs hi)
  clear h
  cases hx1 : hexN s (i + 2) 4 with
  | none =>
    rw [hx1] at HX
    clear hx1
    go_enter Tryz.func248, Tryz.ntmps248
    go_wp2_with fail
    refine (unhide HX).mono ?_
    rintro e w1 ⟨k1, rfl⟩
    clear HX
    exact ⟨rfl, k1, rfl⟩
  | some u =>
    have hu : u < 65536 := hexN_lt s (i + 2) 4 u hx1
    have hin := hexN_in hx1
    rw [hx1] at HX
    clear hx1
    simp only [Option.bind_some]
    by_cases h1 : u < 55296 ∨ 57344 ≤ u
    · have HE : Hid (escU s i u = some (u, 6)) := by show _ = _; unfold escU; rw [if_pos h1]
      rcases h1 with h1 | h1
      · have a1 : (u : Int) < 55296 := by omega
        go_enter Tryz.func248, Tryz.ntmps248
        go_wp2_with fail
        refine (unhide HX).mono ?_
        rintro e w1 ⟨k1, rfl, r1⟩
        have R1 := hide r1
        clear HX r1
        go_wp2
        go_ret
        exact ⟨k1, by rw [unhide HE]; exact ⟨rfl, unhide R1⟩⟩
      · have a1 : ¬ (u : Int) < 55296 := by omega
        have a2 : (57343 : Int) < (u : Int) := by omega
        have d1 : decide ((u : Int) < 55296) = false := by simp; omega
        go_enter Tryz.func248, Tryz.ntmps248
        go_wp2_with fail
        refine (unhide HX).mono ?_
        rintro e w1 ⟨k1, rfl, r1⟩
        have R1 := hide r1
        clear HX r1
        go_wp2
        go_ret
        exact ⟨k1, by rw [unhide HE]; exact ⟨rfl, unhide R1⟩⟩
    · have a1 : ¬ (u : Int) < 55296 := by omega
      have a2 : ¬ (57343 : Int) < (u : Int) := by omega
      by_cases h2 : 56320 ≤ u
      · have HE : Hid (escU s i u = none) := by show _ = _; unfold escU; rw [if_neg h1, if_pos h2]
        have a3 : (56319 : Int) < (u : Int) := by omega
        clear h1
        go_enter Tryz.func248, Tryz.ntmps248
        go_wp2_with fail
        refine (unhide HX).mono ?_
        rintro e w1 ⟨k1, rfl, r1⟩
        clear HX r1
        go_wp2
        exact ⟨rfl, k1, by rw [unhide HE]; rfl⟩
      · have a3 : ¬ (56319 : Int) < (u : Int) := by omega
        have U12 : Hid ((55296 : Int) ≤ (u : Int) ∧ (u : Int) ≤ 56319) := by show _ ∧ _; omega
        by_cases hw : bt s (i + 6) = 92 ∧ bt s (i + 6 + 1) = 117
        · have hw' := (isWord_u s (i + 6)).2 hw
          have hin7 : i + 6 + 1 < s.size := bt_in (by rw [hw.2]; decide)
          have HW : Hid (∀ w, Rdr rb s (i + 6) tb kt w → Calls Tryz.prog 179 #[.pointer (some ⟨rb, 0, none⟩), .string ⟨#[92, 117]⟩] w fun e w' => e = .returned (.tuple #[]) ∧ Rdr rb s (i + 6 + 2) tb kt w' ∧ KB rb w w') :=
            fun w h => word_yes rb s (i + 6) tb kt w h hs ⟨#[92, 117]⟩ (by decide) (by show i + 6 + 2 ≤ _; omega) hw'
          have HX2 : Hid (∀ w, Rdr rb s (i + 6 + 2) tb kt w → Calls Tryz.prog 265 #[.pointer (some ⟨rb, 0, none⟩)] w (Post rb s tb kt w ((hexN s (i + 6 + 2) 4).map fun v : Nat => (.int .i32 (v : Int), i + 6 + 2 + 4)))) :=
            fun w h => hexNum_walk rb s (i + 6 + 2) tb kt w h hs (by omega)
          have eU : unit s (i + 6) = hexN s (i + 6 + 2) 4 := by unfold unit; rw [if_pos hw]
          clear hw hw'
          cases hx2 : hexN s (i + 6 + 2) 4 with
          | none =>
            have HE : Hid (escU s i u = none) := by show _ = _; unfold escU; rw [if_neg h1, if_neg h2, eU, hx2]; rfl
            rw [hx2] at HX2
            clear hx2 eU h1 h2
            go_enter Tryz.func248, Tryz.ntmps248
            go_wp2_with fail
            refine (unhide HX).mono ?_
            rintro e w1 ⟨k1, rfl, r1⟩
            have R1 := hide r1
            clear HX r1
            go_wp2_with fail
            refine (unhide HW _ (unhide R1)).mono ?_
            rintro e w2 ⟨rfl, r2, k2⟩
            have R2 := hide r2
            clear HW r2
            go_wp2_with fail
            refine (unhide HX2 _ (unhide R2)).mono ?_
            rintro e w3 ⟨k3, rfl⟩
            clear HX2
            exact ⟨rfl, (k1.trans k2).trans k3, by rw [unhide HE]; rfl⟩
          | some v =>
            have hv : v < 65536 := hexN_lt s (i + 6 + 2) 4 v hx2
            rw [hx2] at HX2
            by_cases h3 : 56320 ≤ v ∧ v < 57344
            · have HE : Hid (escU s i u = some (65536 + (u - 55296) * 1024 + (v - 56320), 12)) := by
                show _ = _; unfold escU; rw [if_neg h1, if_neg h2, eU, hx2]; simp only [Option.bind_some]; rw [if_pos h3]
              have v1 : (56320 : Int) ≤ (v : Int) := by omega
              have v2 : (v : Int) ≤ 57343 := by omega
              have v3 : ¬ (v : Int) < 56320 := by omega
              have v4 : ¬ (57343 : Int) < (v : Int) := by omega
              clear hx2 eU h1 h2 h3
              go_enter Tryz.func248, Tryz.ntmps248
              go_wp2_with fail
              refine (unhide HX).mono ?_
              rintro e w1 ⟨k1, rfl, r1⟩
              have R1 := hide r1
              clear HX r1
              go_wp2_with fail
              refine (unhide HW _ (unhide R1)).mono ?_
              rintro e w2 ⟨rfl, r2, k2⟩
              have R2 := hide r2
              clear HW r2
              go_wp2_with fail
              refine (unhide HX2 _ (unhide R2)).mono ?_
              rintro e w3 ⟨k3, rfl, r3⟩
              have R3 := hide r3
              clear HX2 r3
              obtain ⟨u1, u2⟩ := unhide U12
              go_wp2
              go_ret
              refine ⟨(k1.trans k2).trans k3, ?_⟩
              rw [unhide HE]
              exact ⟨ret_int (by omega), unhide R3⟩
            · have HE : Hid (escU s i u = none) := by
                show _ = _; unfold escU; rw [if_neg h1, if_neg h2, eU, hx2]; simp only [Option.bind_some]; rw [if_neg h3]
              rcases (show v < 56320 ∨ 57344 ≤ v from by omega) with h4 | h4
              · have v1 : (v : Int) ≤ 56319 := by omega
                clear hx2 eU h1 h2 h3 h4
                go_enter Tryz.func248, Tryz.ntmps248
                go_wp2_with fail
                refine (unhide HX).mono ?_
                rintro e w1 ⟨k1, rfl, r1⟩
                have R1 := hide r1
                clear HX r1
                go_wp2_with fail
                refine (unhide HW _ (unhide R1)).mono ?_
                rintro e w2 ⟨rfl, r2, k2⟩
                have R2 := hide r2
                clear HW r2
                go_wp2_with fail
                refine (unhide HX2 _ (unhide R2)).mono ?_
                rintro e w3 ⟨k3, rfl, r3⟩
                clear HX2 r3
                go_wp2
                exact ⟨rfl, (k1.trans k2).trans k3, by rw [unhide HE]; rfl⟩
              · have v1 : ¬ (v : Int) < 56320 := by omega
                have v2 : (57343 : Int) < (v : Int) := by omega
                clear hx2 eU h1 h2 h3
                go_enter Tryz.func248, Tryz.ntmps248
                go_wp2_with fail
                refine (unhide HX).mono ?_
                rintro e w1 ⟨k1, rfl, r1⟩
                have R1 := hide r1
                clear HX r1
                go_wp2_with fail
                refine (unhide HW _ (unhide R1)).mono ?_
                rintro e w2 ⟨rfl, r2, k2⟩
                have R2 := hide r2
                clear HW r2
                go_wp2_with fail
                refine (unhide HX2 _ (unhide R2)).mono ?_
                rintro e w3 ⟨k3, rfl, r3⟩
                clear HX2 r3
                go_wp2
                exact ⟨rfl, (k1.trans k2).trans k3, by rw [unhide HE]; rfl⟩
        · have HE : Hid (escU s i u = none) := by
            show _ = _; unfold escU; rw [if_neg h1, if_neg h2]; unfold unit; rw [if_neg hw]; rfl
          have HW : Hid (∀ w, Rdr rb s (i + 6) tb kt w → Calls Tryz.prog 179 #[.pointer (some ⟨rb, 0, none⟩), .string ⟨#[92, 117]⟩] w fun e w' => e = mis ∧ KB rb w w') :=
            fun w h => word_no rb s (i + 6) tb kt w h hs ⟨#[92, 117]⟩ (by decide) (fun k hk => by
              have : k < 2 := hk
              match k, this with
              | 0, _ => decide
              | 1, _ => decide) (by omega) (fun h => hw ((isWord_u s (i + 6)).1 h))
          clear h1 h2 hw
          go_enter Tryz.func248, Tryz.ntmps248
          go_wp2_with fail
          refine (unhide HX).mono ?_
          rintro e w1 ⟨k1, rfl, r1⟩
          have R1 := hide r1
          clear HX r1
          go_wp2_with fail
          refine (unhide HW _ (unhide R1)).mono ?_
          rintro e w2 ⟨rfl, k2⟩
          clear HW
          exact ⟨rfl, k1.trans k2, by rw [unhide HE]; rfl⟩
end Go.Proofs.YtcjajchfjoffnaaGreatDoor

namespace Go.Proofs.YtcjajchfjoffnaaGreatDoor
open Go.RowKit

set_option maxHeartbeats 1600000 in
theorem esc_34 (rb : Nat) (s : ByteArray) (i : Nat) (tb kt : Bool) (w : World) (h : Rdr rb s (i + 1) tb kt w) (hs : s.size ≤ 1048576) (hb : bt s (i + 1) = 34) :
    Calls Tryz.prog 231 #[.pointer (some ⟨rb, 0, none⟩)] w fun e w' => e = .returned (.int .i32 34) ∧ Rdr rb s (i + 2) tb kt w' ∧ KB rb w w' := by
  have HN := hide (next_in rb s (i + 1) tb kt w h hs (bt_in (by rw [hb]; decide)))
  rw [hb] at HN
  clear h hb
  go_enter Tryz.func231, Tryz.ntmps231
  go_wp2_with fail
  refine (unhide HN).mono ?_
  rintro e w1 ⟨rfl, r1, k1⟩
  have R1 := hide r1
  clear HN r1
  go_wp2
  go_ret
  exact ⟨rfl, unhide R1, k1⟩
set_option maxHeartbeats 1600000 in
theorem esc_92 (rb : Nat) (s : ByteArray) (i : Nat) (tb kt : Bool) (w : World) (h : Rdr rb s (i + 1) tb kt w) (hs : s.size ≤ 1048576) (hb : bt s (i + 1) = 92) :
    Calls Tryz.prog 231 #[.pointer (some ⟨rb, 0, none⟩)] w fun e w' => e = .returned (.int .i32 92) ∧ Rdr rb s (i + 2) tb kt w' ∧ KB rb w w' := by
  have HN := hide (next_in rb s (i + 1) tb kt w h hs (bt_in (by rw [hb]; decide)))
  rw [hb] at HN
  clear h hb
  go_enter Tryz.func231, Tryz.ntmps231
  go_wp2_with fail
  refine (unhide HN).mono ?_
  rintro e w1 ⟨rfl, r1, k1⟩
  have R1 := hide r1
  clear HN r1
  go_wp2
  go_ret
  exact ⟨rfl, unhide R1, k1⟩
set_option maxHeartbeats 1600000 in
theorem esc_47 (rb : Nat) (s : ByteArray) (i : Nat) (tb kt : Bool) (w : World) (h : Rdr rb s (i + 1) tb kt w) (hs : s.size ≤ 1048576) (hb : bt s (i + 1) = 47) :
    Calls Tryz.prog 231 #[.pointer (some ⟨rb, 0, none⟩)] w fun e w' => e = .returned (.int .i32 47) ∧ Rdr rb s (i + 2) tb kt w' ∧ KB rb w w' := by
  have HN := hide (next_in rb s (i + 1) tb kt w h hs (bt_in (by rw [hb]; decide)))
  rw [hb] at HN
  clear h hb
  go_enter Tryz.func231, Tryz.ntmps231
  go_wp2_with fail
  refine (unhide HN).mono ?_
  rintro e w1 ⟨rfl, r1, k1⟩
  have R1 := hide r1
  clear HN r1
  go_wp2
  go_ret
  exact ⟨rfl, unhide R1, k1⟩
set_option maxHeartbeats 1600000 in
theorem esc_98 (rb : Nat) (s : ByteArray) (i : Nat) (tb kt : Bool) (w : World) (h : Rdr rb s (i + 1) tb kt w) (hs : s.size ≤ 1048576) (hb : bt s (i + 1) = 98) :
    Calls Tryz.prog 231 #[.pointer (some ⟨rb, 0, none⟩)] w fun e w' => e = .returned (.int .i32 8) ∧ Rdr rb s (i + 2) tb kt w' ∧ KB rb w w' := by
  have HN := hide (next_in rb s (i + 1) tb kt w h hs (bt_in (by rw [hb]; decide)))
  rw [hb] at HN
  clear h hb
  go_enter Tryz.func231, Tryz.ntmps231
  go_wp2_with fail
  refine (unhide HN).mono ?_
  rintro e w1 ⟨rfl, r1, k1⟩
  have R1 := hide r1
  clear HN r1
  go_wp2
  go_ret
  exact ⟨rfl, unhide R1, k1⟩
set_option maxHeartbeats 1600000 in
theorem esc_102 (rb : Nat) (s : ByteArray) (i : Nat) (tb kt : Bool) (w : World) (h : Rdr rb s (i + 1) tb kt w) (hs : s.size ≤ 1048576) (hb : bt s (i + 1) = 102) :
    Calls Tryz.prog 231 #[.pointer (some ⟨rb, 0, none⟩)] w fun e w' => e = .returned (.int .i32 12) ∧ Rdr rb s (i + 2) tb kt w' ∧ KB rb w w' := by
  have HN := hide (next_in rb s (i + 1) tb kt w h hs (bt_in (by rw [hb]; decide)))
  rw [hb] at HN
  clear h hb
  go_enter Tryz.func231, Tryz.ntmps231
  go_wp2_with fail
  refine (unhide HN).mono ?_
  rintro e w1 ⟨rfl, r1, k1⟩
  have R1 := hide r1
  clear HN r1
  go_wp2
  go_ret
  exact ⟨rfl, unhide R1, k1⟩
set_option maxHeartbeats 1600000 in
theorem esc_110 (rb : Nat) (s : ByteArray) (i : Nat) (tb kt : Bool) (w : World) (h : Rdr rb s (i + 1) tb kt w) (hs : s.size ≤ 1048576) (hb : bt s (i + 1) = 110) :
    Calls Tryz.prog 231 #[.pointer (some ⟨rb, 0, none⟩)] w fun e w' => e = .returned (.int .i32 10) ∧ Rdr rb s (i + 2) tb kt w' ∧ KB rb w w' := by
  have HN := hide (next_in rb s (i + 1) tb kt w h hs (bt_in (by rw [hb]; decide)))
  rw [hb] at HN
  clear h hb
  go_enter Tryz.func231, Tryz.ntmps231
  go_wp2_with fail
  refine (unhide HN).mono ?_
  rintro e w1 ⟨rfl, r1, k1⟩
  have R1 := hide r1
  clear HN r1
  go_wp2
  go_ret
  exact ⟨rfl, unhide R1, k1⟩
set_option maxHeartbeats 1600000 in
theorem esc_114 (rb : Nat) (s : ByteArray) (i : Nat) (tb kt : Bool) (w : World) (h : Rdr rb s (i + 1) tb kt w) (hs : s.size ≤ 1048576) (hb : bt s (i + 1) = 114) :
    Calls Tryz.prog 231 #[.pointer (some ⟨rb, 0, none⟩)] w fun e w' => e = .returned (.int .i32 13) ∧ Rdr rb s (i + 2) tb kt w' ∧ KB rb w w' := by
  have HN := hide (next_in rb s (i + 1) tb kt w h hs (bt_in (by rw [hb]; decide)))
  rw [hb] at HN
  clear h hb
  go_enter Tryz.func231, Tryz.ntmps231
  go_wp2_with fail
  refine (unhide HN).mono ?_
  rintro e w1 ⟨rfl, r1, k1⟩
  have R1 := hide r1
  clear HN r1
  go_wp2
  go_ret
  exact ⟨rfl, unhide R1, k1⟩
set_option maxHeartbeats 1600000 in
theorem esc_116 (rb : Nat) (s : ByteArray) (i : Nat) (tb kt : Bool) (w : World) (h : Rdr rb s (i + 1) tb kt w) (hs : s.size ≤ 1048576) (hb : bt s (i + 1) = 116) :
    Calls Tryz.prog 231 #[.pointer (some ⟨rb, 0, none⟩)] w fun e w' => e = .returned (.int .i32 9) ∧ Rdr rb s (i + 2) tb kt w' ∧ KB rb w w' := by
  have HN := hide (next_in rb s (i + 1) tb kt w h hs (bt_in (by rw [hb]; decide)))
  rw [hb] at HN
  clear h hb
  go_enter Tryz.func231, Tryz.ntmps231
  go_wp2_with fail
  refine (unhide HN).mono ?_
  rintro e w1 ⟨rfl, r1, k1⟩
  have R1 := hide r1
  clear HN r1
  go_wp2
  go_ret
  exact ⟨rfl, unhide R1, k1⟩
set_option maxHeartbeats 1600000 in
theorem esc_u (rb : Nat) (s : ByteArray) (i : Nat) (tb kt : Bool) (w : World) (h : Rdr rb s (i + 1) tb kt w) (hs : s.size ≤ 1048576) (hi : i + 2 ≤ s.size) (h0 : bt s i = 92) (hb : bt s (i + 1) = 117) :
    Calls Tryz.prog 231 #[.pointer (some ⟨rb, 0, none⟩)] w (Post rb s tb kt w ((escP s i).map fun p => (.int .i32 (p.1 : Int), i + p.2))) := by
  have HN := hide (next_in rb s (i + 1) tb kt w h hs (bt_in (by rw [hb]; decide)))
  rw [escP_u h0 hb]
  rw [hb] at HN
  have HX : Hid (∀ w, Rdr rb s (i + 2) tb kt w → Calls Tryz.prog 248 #[.pointer (some ⟨rb, 0, none⟩)] w (Post rb s tb kt w (((hexN s (i + 2) 4).bind (escU s i)).map fun p => (.int .i32 (p.1 : Int), i + p.2)))) := fun w h => hexRune_walk rb s i tb kt w h hs hi
  clear h hb h0
  generalize (hexN s (i + 2) 4).bind (escU s i) = o at *
  cases o with
  | none =>
    go_enter Tryz.func231, Tryz.ntmps231
    go_wp2_with fail
    refine (unhide HN).mono ?_
    rintro e w1 ⟨rfl, r1, k1⟩
    have R1 := hide r1
    clear HN r1
    go_wp2_with fail
    refine (unhide HX _ (unhide R1)).mono ?_
    rintro e w2 ⟨k2, rfl⟩
    clear HX
    exact ⟨rfl, k1.trans k2, rfl⟩
  | some p =>
    go_enter Tryz.func231, Tryz.ntmps231
    go_wp2_with fail
    refine (unhide HN).mono ?_
    rintro e w1 ⟨rfl, r1, k1⟩
    have R1 := hide r1
    clear HN r1
    go_wp2_with fail
    refine (unhide HX _ (unhide R1)).mono ?_
    rintro e w2 ⟨k2, rfl, r2⟩
    have R2 := hide r2
    clear HX r2
    go_wp2
    go_ret
    exact ⟨k1.trans k2, rfl, unhide R2⟩
set_option maxHeartbeats 1600000 in
theorem esc_end (rb : Nat) (s : ByteArray) (i : Nat) (tb kt : Bool) (w : World) (h : Rdr rb s (i + 1) tb kt w) (hi : i + 1 = s.size) :
    Calls Tryz.prog 231 #[.pointer (some ⟨rb, 0, none⟩)] w fun e w' => e = mis ∧ KB rb w w' := by
  have HN := hide (next_out rb s (i + 1) tb kt w h hi)
  clear h hi
  go_enter Tryz.func231, Tryz.ntmps231
  go_wp2_with fail
  refine (unhide HN).mono ?_
  rintro e w1 ⟨rfl, k1⟩
  clear HN
  exact ⟨rfl, rfl, k1⟩
set_option maxHeartbeats 1600000 in
theorem esc_no (rb : Nat) (s : ByteArray) (i : Nat) (tb kt : Bool) (w : World) (h : Rdr rb s (i + 1) tb kt w) (hs : s.size ≤ 1048576) (hi : i + 1 < s.size) (b : Nat) (hb : bt s (i + 1) = b) (n34 : b ≠ 34) (n92 : b ≠ 92) (n47 : b ≠ 47) (n98 : b ≠ 98) (n102 : b ≠ 102) (n110 : b ≠ 110) (n114 : b ≠ 114) (n116 : b ≠ 116) (n117 : b ≠ 117) :
    Calls Tryz.prog 231 #[.pointer (some ⟨rb, 0, none⟩)] w fun e w' => e = mis ∧ KB rb w w' := by
  have HN := hide (next_in rb s (i + 1) tb kt w h hs hi)
  rw [hb] at HN
  have t34 : ((b : Int) == 34) = false := by rw [beq_eq_false_iff_ne]; omega
  have t92 : ((b : Int) == 92) = false := by rw [beq_eq_false_iff_ne]; omega
  have t47 : ((b : Int) == 47) = false := by rw [beq_eq_false_iff_ne]; omega
  have t98 : ((b : Int) == 98) = false := by rw [beq_eq_false_iff_ne]; omega
  have t102 : ((b : Int) == 102) = false := by rw [beq_eq_false_iff_ne]; omega
  have t110 : ((b : Int) == 110) = false := by rw [beq_eq_false_iff_ne]; omega
  have t114 : ((b : Int) == 114) = false := by rw [beq_eq_false_iff_ne]; omega
  have t116 : ((b : Int) == 116) = false := by rw [beq_eq_false_iff_ne]; omega
  have t117 : ((b : Int) == 117) = false := by rw [beq_eq_false_iff_ne]; omega
  clear h hb n34 n92 n47 n98 n102 n110 n114 n116 n117
  go_enter Tryz.func231, Tryz.ntmps231
  go_wp2_with fail
  refine (unhide HN).mono ?_
  rintro e w1 ⟨rfl, r1, k1⟩
  clear HN r1
  go_wp2
  exact ⟨rfl, rfl, k1⟩

theorem smp_none {b : Nat} (n34 : b ≠ 34) (n92 : b ≠ 92) (n47 : b ≠ 47) (n98 : b ≠ 98) (n102 : b ≠ 102) (n110 : b ≠ 110) (n114 : b ≠ 114) (n116 : b ≠ 116) : smp b = none := by
  unfold smp; rw [if_neg n34, if_neg n92, if_neg n47, if_neg n98, if_neg n102, if_neg n110, if_neg n114, if_neg n116]
theorem post_some {rb : Nat} {s : ByteArray} {tb kt : Bool} {w : World} {o : Option (Value × Nat)} {v : Value} {j : Nat} {e : Ending} {w' : World} (ho : o = some (v, j)) (h : e = .returned v ∧ Rdr rb s j tb kt w' ∧ KB rb w w') : Post rb s tb kt w o e w' := by
  subst ho; exact ⟨h.2.2, h.1, h.2.1⟩
theorem post_none {rb : Nat} {s : ByteArray} {tb kt : Bool} {w : World} {o : Option (Value × Nat)} {e : Ending} {w' : World} (ho : o = none) (h : e = mis ∧ KB rb w w') : Post rb s tb kt w o e w' := by
  subst ho; exact ⟨h.2, h.1⟩

theorem escape_walk (rb : Nat) (s : ByteArray) (i : Nat) (tb kt : Bool) (w : World) (h : Rdr rb s (i + 1) tb kt w) (hs : s.size ≤ 1048576) (hi : i + 1 ≤ s.size) (h0 : bt s i = 92) :
    Calls Tryz.prog 231 #[.pointer (some ⟨rb, 0, none⟩)] w (Post rb s tb kt w ((escP s i).map fun p => (.int .i32 (p.1 : Int), i + p.2))) := by
  by_cases hend : i + 1 = s.size
  · have hz : bt s (i + 1) = 0 := bt_out s (i + 1) (by omega)
    exact (esc_end rb s i tb kt w h hend).mono fun e w' hh => post_none (by rw [escP_n hz (by rfl) (by decide)]; rfl) hh
  by_cases n34 : bt s (i + 1) = 34
  · exact (esc_34 rb s i tb kt w h hs n34).mono fun e w' hh => post_some (by rw [escP_s n34 (by rfl)]; rfl) hh
  by_cases n92 : bt s (i + 1) = 92
  · exact (esc_92 rb s i tb kt w h hs n92).mono fun e w' hh => post_some (by rw [escP_s n92 (by rfl)]; rfl) hh
  by_cases n47 : bt s (i + 1) = 47
  · exact (esc_47 rb s i tb kt w h hs n47).mono fun e w' hh => post_some (by rw [escP_s n47 (by rfl)]; rfl) hh
  by_cases n98 : bt s (i + 1) = 98
  · exact (esc_98 rb s i tb kt w h hs n98).mono fun e w' hh => post_some (by rw [escP_s n98 (by rfl)]; rfl) hh
  by_cases n102 : bt s (i + 1) = 102
  · exact (esc_102 rb s i tb kt w h hs n102).mono fun e w' hh => post_some (by rw [escP_s n102 (by rfl)]; rfl) hh
  by_cases n110 : bt s (i + 1) = 110
  · exact (esc_110 rb s i tb kt w h hs n110).mono fun e w' hh => post_some (by rw [escP_s n110 (by rfl)]; rfl) hh
  by_cases n114 : bt s (i + 1) = 114
  · exact (esc_114 rb s i tb kt w h hs n114).mono fun e w' hh => post_some (by rw [escP_s n114 (by rfl)]; rfl) hh
  by_cases n116 : bt s (i + 1) = 116
  · exact (esc_116 rb s i tb kt w h hs n116).mono fun e w' hh => post_some (by rw [escP_s n116 (by rfl)]; rfl) hh
  by_cases n117 : bt s (i + 1) = 117
  · exact esc_u rb s i tb kt w h hs (by omega) h0 n117
  exact (esc_no rb s i tb kt w h hs (by omega) _ rfl n34 n92 n47 n98 n102 n110 n114 n116 n117).mono fun e w' hh => post_none (by rw [escP_n rfl (smp_none n34 n92 n47 n98 n102 n110 n114 n116) n117]; rfl) hh
end Go.Proofs.YtcjajchfjoffnaaGreatDoor
