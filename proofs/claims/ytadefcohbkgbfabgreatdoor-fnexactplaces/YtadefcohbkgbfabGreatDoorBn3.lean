import Derived.Deep.QuietTactic
import Derived.BigQuiet
import Derived.Lib.QuietBelow
import Derived.Test.YtadefcohbkgbfabGreatDoorBn1
import Derived.Lib.ValidLaws
namespace Go.Proofs.YtadefcohbkgbfabGreatDoor
open Go.RowKit

theorem utf8_at (z : Int) (r : Nat) (hz : z = (r : Int)) (w : World) (hr : r ≤ 1114111) :
    Calls Tryz.prog 67 #[.int .i64 z] w fun e w' => e = .returned (.string (strOf (utf r))) ∧ Below w.heap.size w w' := by
  subst hz; exact utf8_walk r w hr
theorem byte_eq (c : UInt8) : UInt8.ofNat c.toNat = c := UInt8.ofNat_toNat

theorem ext_1 (s : ByteArray) (i : Nat) (hi : i < s.size)  : (s.extract i (i + 1)).toList = [s[i]] := by
  rw [Lib.toList_data, Lib.extract_data]
  rw [drop_at s i hi]
  rw [show i + 1 - i = 1 from by omega]
  rfl
theorem cmp_1 (s : ByteArray) (i : Nat) (hi : i < s.size)  (a : 0 ≤ s[i].toNat) (b : s[i].toNat ≤ 127)  : ((strOf (utf (s[i].toNat))).toList == (s.extract i (i + 1)).toList) = decide (0 ≤ s[i].toNat) := by
  rw [ext_1 s i hi , Lib.toList_data, strOf_toList]
  by_cases hm : 0 ≤ s[i].toNat
  · have hu : utf (s[i].toNat) = [s[i]] := by
      unfold utf utfZ
      rw [if_pos (by omega)]
      simp only [List.map_cons, List.map_nil, byte_eq]
    rw [hu, decide_eq_true hm]; simp
  · omega

set_option maxHeartbeats 800000 in
set_option maxRecDepth 100000 in
theorem rl_1 (s : ByteArray) (i : Nat) (w : World) (hi : i < s.size) (hs : s.size ≤ 1048576) (h : 0 ≤ s[i].toNat) (h' : s[i].toNat ≤ 127) :
    Calls Tryz.prog 45 #[.string s, .int .i64 i] w fun e w' => e = .returned (.int .i64 (rl s i)) ∧ Below w.heap.size w w' := by
  have HR : Hid (rl s i = 1) := by show _ = _; unfold rl; rw [rlN_one (by rw [bt_at s i hi]; omega)]
  have hI : (0 : Int) ≤ (s[i].toNat : Int) := by omega
  have hI' : (s[i].toNat : Int) ≤ 127 := by omega
  go_enter Tryz.func45, Tryz.ntmps45
  go_wp2
  go_loop [7, 8] (fun r k => (k = .int .i64 1 ∧ r = .int .i64 ((s[i].toNat : Int)))) (fun _ k => 1 - (intOf k).toNat)
  case atStart => exact ⟨rfl, rfl⟩
  case round =>
    obtain ⟨rfl, rfl⟩ := hrel
    have HZ : Hid ((s[i].toNat : Int) = ((s[i].toNat : Nat) : Int)) := by show _ = _; omega
    have hz2 : (0 : Int) ≤ (s[i].toNat : Int) ∧ (s[i].toNat : Int) ≤ 127 := by omega
    have HC := hide (cmp_1 s i hi  h h' )
    have HE : Hid (rl s i = if 0 ≤ s[i].toNat then 1 else 0) := by have e := unhide HR; show _ = _; rw [e, if_pos (by omega)]
    obtain ⟨z1, z2⟩ := hz2
    have i1 : (i : Int) + 1 ≤ (s.size : Int) := by omega
    have i2 : (i : Int) ≤ (i : Int) + 1 := by omega
    have i3 : (0 : Int) ≤ (i : Int) := by omega
    have hzR := unhide HZ
    have e1 : decide ((1114111 : Int) < (s[i].toNat : Int)) = false := by simp; omega
    have e2 : decide ((55296 : Int) ≤ (s[i].toNat : Int)) = false := by simp; omega
    have y1 : ¬ (1114111 : Int) < (s[i].toNat : Int) := by omega
    have y2 : (s[i].toNat : Int) < (55296 : Int) := by omega
    have HU : Hid (∀ d os, Calls Tryz.prog 67 #[.int .i64 (s[i].toNat : Int)] (Sort.grow (redrawn w d) os) fun e w'' => e = .returned (.string (strOf (utf s[i].toNat))) ∧ ∃ p : Regrown, w'' = Sort.grow (redrawn w p.d) p.os) := fun d os => Calls.regrown_of (utf8_at _ _ hzR _ (by omega))
    have hm0 : 0 ≤ s[i].toNat ∨ ¬ 0 ≤ s[i].toNat := Decidable.em _
    rcases hm0 with hm | hm
    · have HEQ : Hid (rl s i = 1) := by have e := unhide HE; show _ = _; rw [e, if_pos hm]
      rw [decide_eq_true hm] at HC
      have hcmp := unhide HC
      clear hzR HC hm
      generalize strOf (utf s[i].toNat) = us at *
      go_wp2
      refine wp_region_quiet_below (by kernel_rfl) (by kernel_rfl) ?_
      repeat (first | go_big_quiet_step ((go_at_call 67; exact unhide HU _ _)) | quiet_step ((go_at_call 67; exact unhide HU _ _)))
      refine wpQuiet_nil ?_
      intro _ hw'
      obtain ⟨⟨dq, osq⟩, hw''⟩ := hw'
      subst hw''
      go_wp2
      go_ret
      exact ⟨by rw [unhide HEQ]; rfl, below_regrown w dq osq⟩
    · omega
end Go.Proofs.YtadefcohbkgbfabGreatDoor


namespace Go.Proofs.YtadefcohbkgbfabGreatDoor
open Go.RowKit

theorem ext_2 (s : ByteArray) (i : Nat) (hi : i < s.size) (h1 : i + 1 < s.size) : (s.extract i (i + 2)).toList = [s[i], s[i + 1]] := by
  rw [Lib.toList_data, Lib.extract_data]
  rw [drop_at s i hi]
  rw [drop_at s (i + 1) h1]
  rw [show i + 2 - i = 2 from by omega]
  rfl
theorem cmp_2 (s : ByteArray) (i : Nat) (hi : i < s.size) (h1 : i + 1 < s.size) (a : 192 ≤ s[i].toNat) (b : s[i].toNat ≤ 223) (p1 : 128 ≤ s[i + 1].toNat) (q1 : s[i + 1].toNat < 192) : ((strOf (utf ((s[i].toNat - 192) * 64 + (s[i + 1].toNat - 128)))).toList == (s.extract i (i + 2)).toList) = decide (128 ≤ (s[i].toNat - 192) * 64 + (s[i + 1].toNat - 128)) := by
  rw [ext_2 s i hi h1, Lib.toList_data, strOf_toList]
  by_cases hm : 128 ≤ (s[i].toNat - 192) * 64 + (s[i + 1].toNat - 128)
  · have hu : utf ((s[i].toNat - 192) * 64 + (s[i + 1].toNat - 128)) = [s[i], s[i + 1]] := by
      unfold utf utfZ
      rw [if_neg (by omega), if_pos (by omega)]
      have e0 : 192 + ((s[i].toNat - 192) * 64 + (s[i + 1].toNat - 128)) / 64 = s[i].toNat := by omega
      have e1 : 128 + ((s[i].toNat - 192) * 64 + (s[i + 1].toNat - 128)) % 64 = s[i + 1].toNat := by omega
      rw [e0, e1]
      simp only [List.map_cons, List.map_nil, byte_eq]
    rw [hu, decide_eq_true hm]; simp
  · rw [decide_eq_false hm, beq_eq_false_iff_ne]
    intro e
    have h := congrArg List.length e
    unfold utf utfZ at h
    simp only [List.length_map, List.length_cons, List.length_nil] at h
    split at h
    · simp at h
    · first | omega | (split at h; simp at h; first | omega | (split at h; simp at h; omega))

set_option maxHeartbeats 4000000 in
set_option maxRecDepth 100000 in
theorem rl_2 (s : ByteArray) (i : Nat) (w : World) (hi : i < s.size) (hs : s.size ≤ 1048576) (h : 192 ≤ s[i].toNat) (h' : s[i].toNat ≤ 223) :
    Calls Tryz.prog 45 #[.string s, .int .i64 i] w fun e w' => e = .returned (.int .i64 (rl s i)) ∧ Below w.heap.size w w' := by
  have HR : Hid (rl s i = if 2 ≤ s.size - i ∧ 128 ≤ bt s (i + 1) ∧ bt s (i + 1) < 192 ∧ 128 ≤ (s[i].toNat - 192) * 64 + (bt s (i + 1) - 128) then 2 else 0) := by
    show _ = _; unfold rl; rw [rlN_2 (by rw [bt_at s i hi]; exact h) (by rw [bt_at s i hi]; omega) (bt_lt _ _), bt_at s i hi]
  have hI : (192 : Int) ≤ (s[i].toNat : Int) := by omega
  have hI' : (s[i].toNat : Int) ≤ 223 := by omega
  by_cases hlen : i + 1 < s.size
  · have h1 : i + 1 < s.size := by omega
    rw [bt_at s (i + 1) h1] at HR
    go_enter Tryz.func45, Tryz.ntmps45
    go_wp2
    go_loop [7, 8] (fun r k => (k = .int .i64 1 ∧ r = .int .i64 ((s[i].toNat : Int) - 192)) ∨ (k = .int .i64 2 ∧ 128 ≤ s[i + 1].toNat ∧ s[i + 1].toNat < 192 ∧ r = .int .i64 (((s[i].toNat : Int) - 192) * 64 + (s[i + 1].toNat : Int) - 128))) (fun _ k => 2 - (intOf k).toNat)
    case atStart => exact .inl ⟨rfl, rfl⟩
    case round =>
      rcases hrel with ⟨rfl, rfl⟩ | ⟨rfl, p1, q1, rfl⟩
      · by_cases hc : 128 ≤ s[i + 1].toNat ∧ s[i + 1].toNat < 192
        · obtain ⟨c1, c2⟩ := hc
          have x1 : ¬ (s[i + 1].toNat : Int) < 128 := by omega
          have x2 : ¬ (192 : Int) ≤ (s[i + 1].toNat : Int) := by omega
          have x3 : decide ((s[i + 1].toNat : Int) < 128) = false := by simp; omega
          go_wp2
          go_round
          case rel => exact .inr (⟨by go_num, c1, c2, by go_num⟩)
          case measure => simp [intOf]
        · have HF : Hid (rl s i = 0) := by have e := unhide HR; show _ = _; rw [e, if_neg (by omega)]
          rcases (show s[i + 1].toNat < 128 ∨ 192 ≤ s[i + 1].toNat from by omega) with hlow | hhigh
          · have x1 : (s[i + 1].toNat : Int) < 128 := by omega
            clear hc
            go_wp2
            go_ret
            exact ⟨by rw [unhide HF]; rfl, Below.refl _ _⟩
          · have x1 : ¬ (s[i + 1].toNat : Int) < 128 := by omega
            have x2 : (192 : Int) ≤ (s[i + 1].toNat : Int) := by omega
            have x3 : decide ((s[i + 1].toNat : Int) < 128) = false := by simp; omega
            clear hc
            go_wp2
            go_ret
            exact ⟨by rw [unhide HF]; rfl, Below.refl _ _⟩
      · have HZ : Hid (((s[i].toNat : Int) - 192) * 64 + (s[i + 1].toNat : Int) - 128 = (((s[i].toNat - 192) * 64 + (s[i + 1].toNat - 128) : Nat) : Int)) := by show _ = _; omega
        have hz2 : (0 : Int) ≤ ((s[i].toNat : Int) - 192) * 64 + (s[i + 1].toNat : Int) - 128 ∧ ((s[i].toNat : Int) - 192) * 64 + (s[i + 1].toNat : Int) - 128 ≤ 2047 := by omega
        have HC := hide (cmp_2 s i hi h1 h h' p1 q1)
        have HE : Hid (rl s i = if 128 ≤ (s[i].toNat - 192) * 64 + (s[i + 1].toNat - 128) then 2 else 0) := by have e := unhide HR; show _ = _; rw [e]; exact (Decidable.em (128 ≤ (s[i].toNat - 192) * 64 + (s[i + 1].toNat - 128))).elim (fun hm => by rw [if_pos hm]; exact if_pos (by omega)) (fun hm => by rw [if_neg hm]; exact if_neg (by omega))
        generalize ((s[i].toNat - 192) * 64 + (s[i + 1].toNat - 128)) = R at *
        generalize ((s[i].toNat : Int) - 192) * 64 + (s[i + 1].toNat : Int) - 128 = z at *
        obtain ⟨z1, z2⟩ := hz2
        have i1 : (i : Int) + 2 ≤ (s.size : Int) := by omega
        have i2 : (i : Int) ≤ (i : Int) + 2 := by omega
        have i3 : (0 : Int) ≤ (i : Int) := by omega
        have hzR := unhide HZ
        have e1 : decide ((1114111 : Int) < z) = false := by simp; omega
        have e2 : decide ((55296 : Int) ≤ z) = false := by simp; omega
        have y1 : ¬ (1114111 : Int) < z := by omega
        have y2 : z < (55296 : Int) := by omega
        have HU : Hid (∀ d os, Calls Tryz.prog 67 #[.int .i64 z] (Sort.grow (redrawn w d) os) fun e w'' => e = .returned (.string (strOf (utf R))) ∧ ∃ p : Regrown, w'' = Sort.grow (redrawn w p.d) p.os) := fun d os => Calls.regrown_of (utf8_at _ _ hzR _ (by omega))
        have hm0 : 128 ≤ R ∨ ¬ 128 ≤ R := Decidable.em _
        rcases hm0 with hm | hm
        · have HEQ : Hid (rl s i = 2) := by have e := unhide HE; show _ = _; rw [e, if_pos hm]
          rw [decide_eq_true hm] at HC
          have hcmp := unhide HC
          clear hzR HC hm
          generalize strOf (utf R) = us at *
          go_wp2
          refine wp_region_quiet_below (by kernel_rfl) (by kernel_rfl) ?_
          repeat (first | go_big_quiet_step ((go_at_call 67; exact unhide HU _ _)) | quiet_step ((go_at_call 67; exact unhide HU _ _)))
          refine wpQuiet_nil ?_
          intro _ hw'
          obtain ⟨⟨dq, osq⟩, hw''⟩ := hw'
          subst hw''
          go_wp2
          go_ret
          exact ⟨by rw [unhide HEQ]; rfl, below_regrown w dq osq⟩
        · have HEQ : Hid (rl s i = 0) := by have e := unhide HE; show _ = _; rw [e, if_neg hm]
          rw [decide_eq_false hm] at HC
          have hcmp := unhide HC
          clear hzR HC hm
          generalize strOf (utf R) = us at *
          go_wp2
          refine wp_region_quiet_below (by kernel_rfl) (by kernel_rfl) ?_
          repeat (first | go_big_quiet_step ((go_at_call 67; exact unhide HU _ _)) | quiet_step ((go_at_call 67; exact unhide HU _ _)))
          refine wpQuiet_nil ?_
          intro _ hw'
          obtain ⟨⟨dq, osq⟩, hw''⟩ := hw'
          subst hw''
          go_wp2
          go_ret
          exact ⟨by rw [unhide HEQ]; rfl, below_regrown w dq osq⟩
  · have HF : Hid (rl s i = 0) := by have e := unhide HR; show _ = _; rw [e, if_neg (by omega)]
    have x1 : (s.size : Int) < (i : Int) + 2 := by omega
    go_enter Tryz.func45, Tryz.ntmps45
    go_wp2
    go_ret
    exact ⟨by rw [unhide HF]; rfl, Below.refl _ _⟩
end Go.Proofs.YtadefcohbkgbfabGreatDoor


namespace Go.Proofs.YtadefcohbkgbfabGreatDoor
open Go.RowKit

theorem ext_3 (s : ByteArray) (i : Nat) (hi : i < s.size) (h1 : i + 1 < s.size) (h2 : i + 2 < s.size) : (s.extract i (i + 3)).toList = [s[i], s[i + 1], s[i + 2]] := by
  rw [Lib.toList_data, Lib.extract_data]
  rw [drop_at s i hi]
  rw [drop_at s (i + 1) h1]
  rw [drop_at s (i + 2) h2]
  rw [show i + 3 - i = 3 from by omega]
  rfl
theorem cmp_3 (s : ByteArray) (i : Nat) (hi : i < s.size) (h1 : i + 1 < s.size) (h2 : i + 2 < s.size) (a : 224 ≤ s[i].toNat) (b : s[i].toNat ≤ 239) (p1 : 128 ≤ s[i + 1].toNat) (q1 : s[i + 1].toNat < 192) (p2 : 128 ≤ s[i + 2].toNat) (q2 : s[i + 2].toNat < 192) : ((strOf (utf ((s[i].toNat - 224) * 4096 + (s[i + 1].toNat - 128) * 64 + (s[i + 2].toNat - 128)))).toList == (s.extract i (i + 3)).toList) = decide (2048 ≤ (s[i].toNat - 224) * 4096 + (s[i + 1].toNat - 128) * 64 + (s[i + 2].toNat - 128)) := by
  rw [ext_3 s i hi h1 h2, Lib.toList_data, strOf_toList]
  by_cases hm : 2048 ≤ (s[i].toNat - 224) * 4096 + (s[i + 1].toNat - 128) * 64 + (s[i + 2].toNat - 128)
  · have hu : utf ((s[i].toNat - 224) * 4096 + (s[i + 1].toNat - 128) * 64 + (s[i + 2].toNat - 128)) = [s[i], s[i + 1], s[i + 2]] := by
      unfold utf utfZ
      rw [if_neg (by omega), if_neg (by omega), if_pos (by omega)]
      have e0 : 224 + ((s[i].toNat - 224) * 4096 + (s[i + 1].toNat - 128) * 64 + (s[i + 2].toNat - 128)) / 4096 = s[i].toNat := by omega
      have e1 : 128 + ((s[i].toNat - 224) * 4096 + (s[i + 1].toNat - 128) * 64 + (s[i + 2].toNat - 128)) / 64 % 64 = s[i + 1].toNat := by omega
      have e2 : 128 + ((s[i].toNat - 224) * 4096 + (s[i + 1].toNat - 128) * 64 + (s[i + 2].toNat - 128)) % 64 = s[i + 2].toNat := by omega
      rw [e0, e1, e2]
      simp only [List.map_cons, List.map_nil, byte_eq]
    rw [hu, decide_eq_true hm]; simp
  · rw [decide_eq_false hm, beq_eq_false_iff_ne]
    intro e
    have h := congrArg List.length e
    unfold utf utfZ at h
    simp only [List.length_map, List.length_cons, List.length_nil] at h
    split at h
    · simp at h
    · first | omega | (split at h; simp at h; first | omega | (split at h; simp at h; omega))

set_option maxHeartbeats 4000000 in
set_option maxRecDepth 100000 in
theorem rl_3 (s : ByteArray) (i : Nat) (w : World) (hi : i < s.size) (hs : s.size ≤ 1048576) (h : 224 ≤ s[i].toNat) (h' : s[i].toNat ≤ 239) :
    Calls Tryz.prog 45 #[.string s, .int .i64 i] w fun e w' => e = .returned (.int .i64 (rl s i)) ∧ Below w.heap.size w w' := by
  have HR : Hid (rl s i = if 3 ≤ s.size - i ∧ 128 ≤ bt s (i + 1) ∧ bt s (i + 1) < 192 ∧ 128 ≤ bt s (i + 2) ∧ bt s (i + 2) < 192 ∧ 2048 ≤ (s[i].toNat - 224) * 4096 + (bt s (i + 1) - 128) * 64 + (bt s (i + 2) - 128) ∧ ((s[i].toNat - 224) * 4096 + (bt s (i + 1) - 128) * 64 + (bt s (i + 2) - 128) < 55296 ∨ 57344 ≤ (s[i].toNat - 224) * 4096 + (bt s (i + 1) - 128) * 64 + (bt s (i + 2) - 128)) then 3 else 0) := by
    show _ = _; unfold rl; rw [rlN_3 (by rw [bt_at s i hi]; exact h) (by rw [bt_at s i hi]; omega) (bt_lt _ _) (bt_lt _ _), bt_at s i hi]
  have hI : (224 : Int) ≤ (s[i].toNat : Int) := by omega
  have hI' : (s[i].toNat : Int) ≤ 239 := by omega
  by_cases hlen : i + 2 < s.size
  · have h1 : i + 1 < s.size := by omega
    have h2 : i + 2 < s.size := by omega
    rw [bt_at s (i + 1) h1] at HR
    rw [bt_at s (i + 2) h2] at HR
    go_enter Tryz.func45, Tryz.ntmps45
    go_wp2
    go_loop [7, 8] (fun r k => (k = .int .i64 1 ∧ r = .int .i64 ((s[i].toNat : Int) - 224)) ∨ (k = .int .i64 2 ∧ 128 ≤ s[i + 1].toNat ∧ s[i + 1].toNat < 192 ∧ r = .int .i64 (((s[i].toNat : Int) - 224) * 64 + (s[i + 1].toNat : Int) - 128)) ∨ (k = .int .i64 3 ∧ 128 ≤ s[i + 1].toNat ∧ s[i + 1].toNat < 192 ∧ 128 ≤ s[i + 2].toNat ∧ s[i + 2].toNat < 192 ∧ r = .int .i64 ((((s[i].toNat : Int) - 224) * 64 + (s[i + 1].toNat : Int) - 128) * 64 + (s[i + 2].toNat : Int) - 128))) (fun _ k => 3 - (intOf k).toNat)
    case atStart => exact .inl ⟨rfl, rfl⟩
    case round =>
      rcases hrel with ⟨rfl, rfl⟩ | ⟨rfl, p1, q1, rfl⟩ | ⟨rfl, p1, q1, p2, q2, rfl⟩
      · by_cases hc : 128 ≤ s[i + 1].toNat ∧ s[i + 1].toNat < 192
        · obtain ⟨c1, c2⟩ := hc
          have x1 : ¬ (s[i + 1].toNat : Int) < 128 := by omega
          have x2 : ¬ (192 : Int) ≤ (s[i + 1].toNat : Int) := by omega
          have x3 : decide ((s[i + 1].toNat : Int) < 128) = false := by simp; omega
          go_wp2
          go_round
          case rel => exact .inr (.inl ⟨by go_num, c1, c2, by go_num⟩)
          case measure => simp [intOf]
        · have HF : Hid (rl s i = 0) := by have e := unhide HR; show _ = _; rw [e, if_neg (by omega)]
          rcases (show s[i + 1].toNat < 128 ∨ 192 ≤ s[i + 1].toNat from by omega) with hlow | hhigh
          · have x1 : (s[i + 1].toNat : Int) < 128 := by omega
            clear hc
            go_wp2
            go_ret
            exact ⟨by rw [unhide HF]; rfl, Below.refl _ _⟩
          · have x1 : ¬ (s[i + 1].toNat : Int) < 128 := by omega
            have x2 : (192 : Int) ≤ (s[i + 1].toNat : Int) := by omega
            have x3 : decide ((s[i + 1].toNat : Int) < 128) = false := by simp; omega
            clear hc
            go_wp2
            go_ret
            exact ⟨by rw [unhide HF]; rfl, Below.refl _ _⟩
      · by_cases hc : 128 ≤ s[i + 2].toNat ∧ s[i + 2].toNat < 192
        · obtain ⟨c1, c2⟩ := hc
          have x1 : ¬ (s[i + 2].toNat : Int) < 128 := by omega
          have x2 : ¬ (192 : Int) ≤ (s[i + 2].toNat : Int) := by omega
          have x3 : decide ((s[i + 2].toNat : Int) < 128) = false := by simp; omega
          go_wp2
          go_round
          case rel => exact .inr (.inr (⟨by go_num, p1, q1, c1, c2, by go_num⟩))
          case measure => simp [intOf]
        · have HF : Hid (rl s i = 0) := by have e := unhide HR; show _ = _; rw [e, if_neg (by omega)]
          rcases (show s[i + 2].toNat < 128 ∨ 192 ≤ s[i + 2].toNat from by omega) with hlow | hhigh
          · have x1 : (s[i + 2].toNat : Int) < 128 := by omega
            clear hc
            go_wp2
            go_ret
            exact ⟨by rw [unhide HF]; rfl, Below.refl _ _⟩
          · have x1 : ¬ (s[i + 2].toNat : Int) < 128 := by omega
            have x2 : (192 : Int) ≤ (s[i + 2].toNat : Int) := by omega
            have x3 : decide ((s[i + 2].toNat : Int) < 128) = false := by simp; omega
            clear hc
            go_wp2
            go_ret
            exact ⟨by rw [unhide HF]; rfl, Below.refl _ _⟩
      · have HZ : Hid ((((s[i].toNat : Int) - 224) * 64 + (s[i + 1].toNat : Int) - 128) * 64 + (s[i + 2].toNat : Int) - 128 = (((s[i].toNat - 224) * 4096 + (s[i + 1].toNat - 128) * 64 + (s[i + 2].toNat - 128) : Nat) : Int)) := by show _ = _; omega
        have hz2 : (0 : Int) ≤ (((s[i].toNat : Int) - 224) * 64 + (s[i + 1].toNat : Int) - 128) * 64 + (s[i + 2].toNat : Int) - 128 ∧ (((s[i].toNat : Int) - 224) * 64 + (s[i + 1].toNat : Int) - 128) * 64 + (s[i + 2].toNat : Int) - 128 ≤ 65535 := by omega
        have HC := hide (cmp_3 s i hi h1 h2 h h' p1 q1 p2 q2)
        have HE : Hid ((55296 ≤ (s[i].toNat - 224) * 4096 + (s[i + 1].toNat - 128) * 64 + (s[i + 2].toNat - 128) ∧ (s[i].toNat - 224) * 4096 + (s[i + 1].toNat - 128) * 64 + (s[i + 2].toNat - 128) < 57344) ∨ 1114111 < (s[i].toNat - 224) * 4096 + (s[i + 1].toNat - 128) * 64 + (s[i + 2].toNat - 128) → rl s i = 0) := fun hb => by have e := unhide HR; rw [e, if_neg (by omega)]
        have HE2 : Hid (¬ ((55296 ≤ (s[i].toNat - 224) * 4096 + (s[i + 1].toNat - 128) * 64 + (s[i + 2].toNat - 128) ∧ (s[i].toNat - 224) * 4096 + (s[i + 1].toNat - 128) * 64 + (s[i + 2].toNat - 128) < 57344) ∨ 1114111 < (s[i].toNat - 224) * 4096 + (s[i + 1].toNat - 128) * 64 + (s[i + 2].toNat - 128)) → rl s i = if 2048 ≤ (s[i].toNat - 224) * 4096 + (s[i + 1].toNat - 128) * 64 + (s[i + 2].toNat - 128) then 3 else 0) := fun hb => by have e := unhide HR; rw [e]; exact (Decidable.em (2048 ≤ (s[i].toNat - 224) * 4096 + (s[i + 1].toNat - 128) * 64 + (s[i + 2].toNat - 128))).elim (fun hm => by rw [if_pos hm]; exact if_pos (by omega)) (fun hm => by rw [if_neg hm]; exact if_neg (by omega))
        generalize ((s[i].toNat - 224) * 4096 + (s[i + 1].toNat - 128) * 64 + (s[i + 2].toNat - 128)) = R at *
        generalize (((s[i].toNat : Int) - 224) * 64 + (s[i + 1].toNat : Int) - 128) * 64 + (s[i + 2].toNat : Int) - 128 = z at *
        obtain ⟨z1, z2⟩ := hz2
        have i1 : (i : Int) + 3 ≤ (s.size : Int) := by omega
        have i2 : (i : Int) ≤ (i : Int) + 3 := by omega
        have i3 : (0 : Int) ≤ (i : Int) := by omega
        have hzR := unhide HZ
        by_cases ha : z < 55296
        · have e1 : decide ((1114111 : Int) < z) = false := by simp; omega
          have e2 : decide ((55296 : Int) ≤ z) = false := by simp; omega
          have y1 : ¬ (1114111 : Int) < z := by omega
          have y2 : z < (55296 : Int) := ha
          have HU : Hid (∀ d os, Calls Tryz.prog 67 #[.int .i64 z] (Sort.grow (redrawn w d) os) fun e w'' => e = .returned (.string (strOf (utf R))) ∧ ∃ p : Regrown, w'' = Sort.grow (redrawn w p.d) p.os) := fun d os => Calls.regrown_of (utf8_at _ _ hzR _ (by omega))
          have hm0 : 2048 ≤ R ∨ ¬ 2048 ≤ R := Decidable.em _
          rcases hm0 with hm | hm
          · have HEQ : Hid (rl s i = 3) := by have e := unhide HE2 (by omega); show _ = _; rw [e, if_pos hm]
            rw [decide_eq_true hm] at HC
            have hcmp := unhide HC
            clear hzR HC hm
            generalize strOf (utf R) = us at *
            go_wp2
            refine wp_region_quiet_below (by kernel_rfl) (by kernel_rfl) ?_
            repeat (first | go_big_quiet_step ((go_at_call 67; exact unhide HU _ _)) | quiet_step ((go_at_call 67; exact unhide HU _ _)))
            refine wpQuiet_nil ?_
            intro _ hw'
            obtain ⟨⟨dq, osq⟩, hw''⟩ := hw'
            subst hw''
            go_wp2
            go_ret
            exact ⟨by rw [unhide HEQ]; rfl, below_regrown w dq osq⟩
          · have HEQ : Hid (rl s i = 0) := by have e := unhide HE2 (by omega); show _ = _; rw [e, if_neg hm]
            rw [decide_eq_false hm] at HC
            have hcmp := unhide HC
            clear hzR HC hm
            generalize strOf (utf R) = us at *
            go_wp2
            refine wp_region_quiet_below (by kernel_rfl) (by kernel_rfl) ?_
            repeat (first | go_big_quiet_step ((go_at_call 67; exact unhide HU _ _)) | quiet_step ((go_at_call 67; exact unhide HU _ _)))
            refine wpQuiet_nil ?_
            intro _ hw'
            obtain ⟨⟨dq, osq⟩, hw''⟩ := hw'
            subst hw''
            go_wp2
            go_ret
            exact ⟨by rw [unhide HEQ]; rfl, below_regrown w dq osq⟩
        · by_cases hb : z < 57344
          · have e1 : decide ((1114111 : Int) < z) = false := by simp; omega
            have e2 : decide ((55296 : Int) ≤ z) = true := by simp; omega
            have e3 : decide (z < (57344 : Int)) = true := by simp; omega
            have y1 : ¬ (1114111 : Int) < z := by omega
            have y2 : (55296 : Int) ≤ z := by omega
            have HEQ : Hid (rl s i = 0) := unhide HE (by omega)
            clear hzR HC
            go_wp2
            refine wp_region_quiet_below (by kernel_rfl) (by kernel_rfl) ?_
            repeat (first | go_big_quiet_step (fail) | quiet_step (fail))
            refine wpQuiet_nil ?_
            intro _ hw'
            obtain ⟨⟨dq, osq⟩, hw''⟩ := hw'
            subst hw''
            go_wp2
            go_ret
            exact ⟨by rw [unhide HEQ]; rfl, below_regrown w dq osq⟩
          · have e1 : decide ((1114111 : Int) < z) = false := by simp; omega
            have e2 : decide ((55296 : Int) ≤ z) = true := by simp; omega
            have e3 : decide (z < (57344 : Int)) = false := by simp; omega
            have y1 : ¬ (1114111 : Int) < z := by omega
            have y2 : (55296 : Int) ≤ z := by omega
            have y3 : ¬ z < (57344 : Int) := hb
            have HU : Hid (∀ d os, Calls Tryz.prog 67 #[.int .i64 z] (Sort.grow (redrawn w d) os) fun e w'' => e = .returned (.string (strOf (utf R))) ∧ ∃ p : Regrown, w'' = Sort.grow (redrawn w p.d) p.os) := fun d os => Calls.regrown_of (utf8_at _ _ hzR _ (by omega))
            have hm0 : 2048 ≤ R ∨ ¬ 2048 ≤ R := Decidable.em _
            rcases hm0 with hm | hm
            · have HEQ : Hid (rl s i = 3) := by have e := unhide HE2 (by omega); show _ = _; rw [e, if_pos hm]
              rw [decide_eq_true hm] at HC
              have hcmp := unhide HC
              clear hzR HC hm
              generalize strOf (utf R) = us at *
              go_wp2
              refine wp_region_quiet_below (by kernel_rfl) (by kernel_rfl) ?_
              repeat (first | go_big_quiet_step ((go_at_call 67; exact unhide HU _ _)) | quiet_step ((go_at_call 67; exact unhide HU _ _)))
              refine wpQuiet_nil ?_
              intro _ hw'
              obtain ⟨⟨dq, osq⟩, hw''⟩ := hw'
              subst hw''
              go_wp2
              go_ret
              exact ⟨by rw [unhide HEQ]; rfl, below_regrown w dq osq⟩
            · have HEQ : Hid (rl s i = 0) := by have e := unhide HE2 (by omega); show _ = _; rw [e, if_neg hm]
              rw [decide_eq_false hm] at HC
              have hcmp := unhide HC
              clear hzR HC hm
              generalize strOf (utf R) = us at *
              go_wp2
              refine wp_region_quiet_below (by kernel_rfl) (by kernel_rfl) ?_
              repeat (first | go_big_quiet_step ((go_at_call 67; exact unhide HU _ _)) | quiet_step ((go_at_call 67; exact unhide HU _ _)))
              refine wpQuiet_nil ?_
              intro _ hw'
              obtain ⟨⟨dq, osq⟩, hw''⟩ := hw'
              subst hw''
              go_wp2
              go_ret
              exact ⟨by rw [unhide HEQ]; rfl, below_regrown w dq osq⟩
  · have HF : Hid (rl s i = 0) := by have e := unhide HR; show _ = _; rw [e, if_neg (by omega)]
    have x1 : (s.size : Int) < (i : Int) + 3 := by omega
    go_enter Tryz.func45, Tryz.ntmps45
    go_wp2
    go_ret
    exact ⟨by rw [unhide HF]; rfl, Below.refl _ _⟩
end Go.Proofs.YtadefcohbkgbfabGreatDoor


namespace Go.Proofs.YtadefcohbkgbfabGreatDoor
open Go.RowKit

theorem ext_4 (s : ByteArray) (i : Nat) (hi : i < s.size) (h1 : i + 1 < s.size) (h2 : i + 2 < s.size) (h3 : i + 3 < s.size) : (s.extract i (i + 4)).toList = [s[i], s[i + 1], s[i + 2], s[i + 3]] := by
  rw [Lib.toList_data, Lib.extract_data]
  rw [drop_at s i hi]
  rw [drop_at s (i + 1) h1]
  rw [drop_at s (i + 2) h2]
  rw [drop_at s (i + 3) h3]
  rw [show i + 4 - i = 4 from by omega]
  rfl
theorem cmp_4 (s : ByteArray) (i : Nat) (hi : i < s.size) (h1 : i + 1 < s.size) (h2 : i + 2 < s.size) (h3 : i + 3 < s.size) (a : 240 ≤ s[i].toNat) (b : s[i].toNat ≤ 255) (p1 : 128 ≤ s[i + 1].toNat) (q1 : s[i + 1].toNat < 192) (p2 : 128 ≤ s[i + 2].toNat) (q2 : s[i + 2].toNat < 192) (p3 : 128 ≤ s[i + 3].toNat) (q3 : s[i + 3].toNat < 192) : ((strOf (utf ((s[i].toNat - 240) * 262144 + (s[i + 1].toNat - 128) * 4096 + (s[i + 2].toNat - 128) * 64 + (s[i + 3].toNat - 128)))).toList == (s.extract i (i + 4)).toList) = decide (65536 ≤ (s[i].toNat - 240) * 262144 + (s[i + 1].toNat - 128) * 4096 + (s[i + 2].toNat - 128) * 64 + (s[i + 3].toNat - 128)) := by
  rw [ext_4 s i hi h1 h2 h3, Lib.toList_data, strOf_toList]
  by_cases hm : 65536 ≤ (s[i].toNat - 240) * 262144 + (s[i + 1].toNat - 128) * 4096 + (s[i + 2].toNat - 128) * 64 + (s[i + 3].toNat - 128)
  · have hu : utf ((s[i].toNat - 240) * 262144 + (s[i + 1].toNat - 128) * 4096 + (s[i + 2].toNat - 128) * 64 + (s[i + 3].toNat - 128)) = [s[i], s[i + 1], s[i + 2], s[i + 3]] := by
      unfold utf utfZ
      rw [if_neg (by omega), if_neg (by omega), if_neg (by omega)]
      have e0 : 240 + ((s[i].toNat - 240) * 262144 + (s[i + 1].toNat - 128) * 4096 + (s[i + 2].toNat - 128) * 64 + (s[i + 3].toNat - 128)) / 262144 = s[i].toNat := by omega
      have e1 : 128 + ((s[i].toNat - 240) * 262144 + (s[i + 1].toNat - 128) * 4096 + (s[i + 2].toNat - 128) * 64 + (s[i + 3].toNat - 128)) / 4096 % 64 = s[i + 1].toNat := by omega
      have e2 : 128 + ((s[i].toNat - 240) * 262144 + (s[i + 1].toNat - 128) * 4096 + (s[i + 2].toNat - 128) * 64 + (s[i + 3].toNat - 128)) / 64 % 64 = s[i + 2].toNat := by omega
      have e3 : 128 + ((s[i].toNat - 240) * 262144 + (s[i + 1].toNat - 128) * 4096 + (s[i + 2].toNat - 128) * 64 + (s[i + 3].toNat - 128)) % 64 = s[i + 3].toNat := by omega
      rw [e0, e1, e2, e3]
      simp only [List.map_cons, List.map_nil, byte_eq]
    rw [hu, decide_eq_true hm]; simp
  · rw [decide_eq_false hm, beq_eq_false_iff_ne]
    intro e
    have h := congrArg List.length e
    unfold utf utfZ at h
    simp only [List.length_map, List.length_cons, List.length_nil] at h
    split at h
    · simp at h
    · first | omega | (split at h; simp at h; first | omega | (split at h; simp at h; omega))

set_option maxHeartbeats 4000000 in
set_option maxRecDepth 100000 in
theorem rl_4 (s : ByteArray) (i : Nat) (w : World) (hi : i < s.size) (hs : s.size ≤ 1048576) (h : 240 ≤ s[i].toNat) (h' : s[i].toNat ≤ 255) :
    Calls Tryz.prog 45 #[.string s, .int .i64 i] w fun e w' => e = .returned (.int .i64 (rl s i)) ∧ Below w.heap.size w w' := by
  have HR : Hid (rl s i = if 4 ≤ s.size - i ∧ 128 ≤ bt s (i + 1) ∧ bt s (i + 1) < 192 ∧ 128 ≤ bt s (i + 2) ∧ bt s (i + 2) < 192 ∧ 128 ≤ bt s (i + 3) ∧ bt s (i + 3) < 192 ∧ 65536 ≤ (s[i].toNat - 240) * 262144 + (bt s (i + 1) - 128) * 4096 + (bt s (i + 2) - 128) * 64 + (bt s (i + 3) - 128) ∧ (s[i].toNat - 240) * 262144 + (bt s (i + 1) - 128) * 4096 + (bt s (i + 2) - 128) * 64 + (bt s (i + 3) - 128) ≤ 1114111 then 4 else 0) := by
    show _ = _; unfold rl; rw [rlN_4 (by rw [bt_at s i hi]; exact h) (by rw [bt_at s i hi]; omega) (bt_lt _ _) (bt_lt _ _) (bt_lt _ _), bt_at s i hi]
  have hI : (240 : Int) ≤ (s[i].toNat : Int) := by omega
  have hI' : (s[i].toNat : Int) ≤ 255 := by omega
  by_cases hlen : i + 3 < s.size
  · have h1 : i + 1 < s.size := by omega
    have h2 : i + 2 < s.size := by omega
    have h3 : i + 3 < s.size := by omega
    rw [bt_at s (i + 1) h1] at HR
    rw [bt_at s (i + 2) h2] at HR
    rw [bt_at s (i + 3) h3] at HR
    go_enter Tryz.func45, Tryz.ntmps45
    go_wp2
    go_loop [7, 8] (fun r k => (k = .int .i64 1 ∧ r = .int .i64 ((s[i].toNat : Int) - 240)) ∨ (k = .int .i64 2 ∧ 128 ≤ s[i + 1].toNat ∧ s[i + 1].toNat < 192 ∧ r = .int .i64 (((s[i].toNat : Int) - 240) * 64 + (s[i + 1].toNat : Int) - 128)) ∨ (k = .int .i64 3 ∧ 128 ≤ s[i + 1].toNat ∧ s[i + 1].toNat < 192 ∧ 128 ≤ s[i + 2].toNat ∧ s[i + 2].toNat < 192 ∧ r = .int .i64 ((((s[i].toNat : Int) - 240) * 64 + (s[i + 1].toNat : Int) - 128) * 64 + (s[i + 2].toNat : Int) - 128)) ∨ (k = .int .i64 4 ∧ 128 ≤ s[i + 1].toNat ∧ s[i + 1].toNat < 192 ∧ 128 ≤ s[i + 2].toNat ∧ s[i + 2].toNat < 192 ∧ 128 ≤ s[i + 3].toNat ∧ s[i + 3].toNat < 192 ∧ r = .int .i64 (((((s[i].toNat : Int) - 240) * 64 + (s[i + 1].toNat : Int) - 128) * 64 + (s[i + 2].toNat : Int) - 128) * 64 + (s[i + 3].toNat : Int) - 128))) (fun _ k => 4 - (intOf k).toNat)
    case atStart => exact .inl ⟨rfl, rfl⟩
    case round =>
      rcases hrel with ⟨rfl, rfl⟩ | ⟨rfl, p1, q1, rfl⟩ | ⟨rfl, p1, q1, p2, q2, rfl⟩ | ⟨rfl, p1, q1, p2, q2, p3, q3, rfl⟩
      · by_cases hc : 128 ≤ s[i + 1].toNat ∧ s[i + 1].toNat < 192
        · obtain ⟨c1, c2⟩ := hc
          have x1 : ¬ (s[i + 1].toNat : Int) < 128 := by omega
          have x2 : ¬ (192 : Int) ≤ (s[i + 1].toNat : Int) := by omega
          have x3 : decide ((s[i + 1].toNat : Int) < 128) = false := by simp; omega
          go_wp2
          go_round
          case rel => exact .inr (.inl ⟨by go_num, c1, c2, by go_num⟩)
          case measure => simp [intOf]
        · have HF : Hid (rl s i = 0) := by have e := unhide HR; show _ = _; rw [e, if_neg (by omega)]
          rcases (show s[i + 1].toNat < 128 ∨ 192 ≤ s[i + 1].toNat from by omega) with hlow | hhigh
          · have x1 : (s[i + 1].toNat : Int) < 128 := by omega
            clear hc
            go_wp2
            go_ret
            exact ⟨by rw [unhide HF]; rfl, Below.refl _ _⟩
          · have x1 : ¬ (s[i + 1].toNat : Int) < 128 := by omega
            have x2 : (192 : Int) ≤ (s[i + 1].toNat : Int) := by omega
            have x3 : decide ((s[i + 1].toNat : Int) < 128) = false := by simp; omega
            clear hc
            go_wp2
            go_ret
            exact ⟨by rw [unhide HF]; rfl, Below.refl _ _⟩
      · by_cases hc : 128 ≤ s[i + 2].toNat ∧ s[i + 2].toNat < 192
        · obtain ⟨c1, c2⟩ := hc
          have x1 : ¬ (s[i + 2].toNat : Int) < 128 := by omega
          have x2 : ¬ (192 : Int) ≤ (s[i + 2].toNat : Int) := by omega
          have x3 : decide ((s[i + 2].toNat : Int) < 128) = false := by simp; omega
          go_wp2
          go_round
          case rel => exact .inr (.inr (.inl ⟨by go_num, p1, q1, c1, c2, by go_num⟩))
          case measure => simp [intOf]
        · have HF : Hid (rl s i = 0) := by have e := unhide HR; show _ = _; rw [e, if_neg (by omega)]
          rcases (show s[i + 2].toNat < 128 ∨ 192 ≤ s[i + 2].toNat from by omega) with hlow | hhigh
          · have x1 : (s[i + 2].toNat : Int) < 128 := by omega
            clear hc
            go_wp2
            go_ret
            exact ⟨by rw [unhide HF]; rfl, Below.refl _ _⟩
          · have x1 : ¬ (s[i + 2].toNat : Int) < 128 := by omega
            have x2 : (192 : Int) ≤ (s[i + 2].toNat : Int) := by omega
            have x3 : decide ((s[i + 2].toNat : Int) < 128) = false := by simp; omega
            clear hc
            go_wp2
            go_ret
            exact ⟨by rw [unhide HF]; rfl, Below.refl _ _⟩
      · by_cases hc : 128 ≤ s[i + 3].toNat ∧ s[i + 3].toNat < 192
        · obtain ⟨c1, c2⟩ := hc
          have x1 : ¬ (s[i + 3].toNat : Int) < 128 := by omega
          have x2 : ¬ (192 : Int) ≤ (s[i + 3].toNat : Int) := by omega
          have x3 : decide ((s[i + 3].toNat : Int) < 128) = false := by simp; omega
          go_wp2
          go_round
          case rel => exact .inr (.inr (.inr (⟨by go_num, p1, q1, p2, q2, c1, c2, by go_num⟩)))
          case measure => simp [intOf]
        · have HF : Hid (rl s i = 0) := by have e := unhide HR; show _ = _; rw [e, if_neg (by omega)]
          rcases (show s[i + 3].toNat < 128 ∨ 192 ≤ s[i + 3].toNat from by omega) with hlow | hhigh
          · have x1 : (s[i + 3].toNat : Int) < 128 := by omega
            clear hc
            go_wp2
            go_ret
            exact ⟨by rw [unhide HF]; rfl, Below.refl _ _⟩
          · have x1 : ¬ (s[i + 3].toNat : Int) < 128 := by omega
            have x2 : (192 : Int) ≤ (s[i + 3].toNat : Int) := by omega
            have x3 : decide ((s[i + 3].toNat : Int) < 128) = false := by simp; omega
            clear hc
            go_wp2
            go_ret
            exact ⟨by rw [unhide HF]; rfl, Below.refl _ _⟩
      · have HZ : Hid (((((s[i].toNat : Int) - 240) * 64 + (s[i + 1].toNat : Int) - 128) * 64 + (s[i + 2].toNat : Int) - 128) * 64 + (s[i + 3].toNat : Int) - 128 = (((s[i].toNat - 240) * 262144 + (s[i + 1].toNat - 128) * 4096 + (s[i + 2].toNat - 128) * 64 + (s[i + 3].toNat - 128) : Nat) : Int)) := by show _ = _; omega
        have hz2 : (0 : Int) ≤ ((((s[i].toNat : Int) - 240) * 64 + (s[i + 1].toNat : Int) - 128) * 64 + (s[i + 2].toNat : Int) - 128) * 64 + (s[i + 3].toNat : Int) - 128 ∧ ((((s[i].toNat : Int) - 240) * 64 + (s[i + 1].toNat : Int) - 128) * 64 + (s[i + 2].toNat : Int) - 128) * 64 + (s[i + 3].toNat : Int) - 128 ≤ 4194303 := by omega
        have HC := hide (cmp_4 s i hi h1 h2 h3 h h' p1 q1 p2 q2 p3 q3)
        have HE : Hid ((55296 ≤ (s[i].toNat - 240) * 262144 + (s[i + 1].toNat - 128) * 4096 + (s[i + 2].toNat - 128) * 64 + (s[i + 3].toNat - 128) ∧ (s[i].toNat - 240) * 262144 + (s[i + 1].toNat - 128) * 4096 + (s[i + 2].toNat - 128) * 64 + (s[i + 3].toNat - 128) < 57344) ∨ 1114111 < (s[i].toNat - 240) * 262144 + (s[i + 1].toNat - 128) * 4096 + (s[i + 2].toNat - 128) * 64 + (s[i + 3].toNat - 128) → rl s i = 0) := fun hb => by have e := unhide HR; rw [e, if_neg (by omega)]
        have HE2 : Hid (¬ ((55296 ≤ (s[i].toNat - 240) * 262144 + (s[i + 1].toNat - 128) * 4096 + (s[i + 2].toNat - 128) * 64 + (s[i + 3].toNat - 128) ∧ (s[i].toNat - 240) * 262144 + (s[i + 1].toNat - 128) * 4096 + (s[i + 2].toNat - 128) * 64 + (s[i + 3].toNat - 128) < 57344) ∨ 1114111 < (s[i].toNat - 240) * 262144 + (s[i + 1].toNat - 128) * 4096 + (s[i + 2].toNat - 128) * 64 + (s[i + 3].toNat - 128)) → rl s i = if 65536 ≤ (s[i].toNat - 240) * 262144 + (s[i + 1].toNat - 128) * 4096 + (s[i + 2].toNat - 128) * 64 + (s[i + 3].toNat - 128) then 4 else 0) := fun hb => by have e := unhide HR; rw [e]; exact (Decidable.em (65536 ≤ (s[i].toNat - 240) * 262144 + (s[i + 1].toNat - 128) * 4096 + (s[i + 2].toNat - 128) * 64 + (s[i + 3].toNat - 128))).elim (fun hm => by rw [if_pos hm]; exact if_pos (by omega)) (fun hm => by rw [if_neg hm]; exact if_neg (by omega))
        generalize ((s[i].toNat - 240) * 262144 + (s[i + 1].toNat - 128) * 4096 + (s[i + 2].toNat - 128) * 64 + (s[i + 3].toNat - 128)) = R at *
        generalize ((((s[i].toNat : Int) - 240) * 64 + (s[i + 1].toNat : Int) - 128) * 64 + (s[i + 2].toNat : Int) - 128) * 64 + (s[i + 3].toNat : Int) - 128 = z at *
        obtain ⟨z1, z2⟩ := hz2
        have i1 : (i : Int) + 4 ≤ (s.size : Int) := by omega
        have i2 : (i : Int) ≤ (i : Int) + 4 := by omega
        have i3 : (0 : Int) ≤ (i : Int) := by omega
        have hzR := unhide HZ
        by_cases ha : z < 55296
        · have e1 : decide ((1114111 : Int) < z) = false := by simp; omega
          have e2 : decide ((55296 : Int) ≤ z) = false := by simp; omega
          have y1 : ¬ (1114111 : Int) < z := by omega
          have y2 : z < (55296 : Int) := ha
          have HU : Hid (∀ d os, Calls Tryz.prog 67 #[.int .i64 z] (Sort.grow (redrawn w d) os) fun e w'' => e = .returned (.string (strOf (utf R))) ∧ ∃ p : Regrown, w'' = Sort.grow (redrawn w p.d) p.os) := fun d os => Calls.regrown_of (utf8_at _ _ hzR _ (by omega))
          have hm0 : 65536 ≤ R ∨ ¬ 65536 ≤ R := Decidable.em _
          rcases hm0 with hm | hm
          · have HEQ : Hid (rl s i = 4) := by have e := unhide HE2 (by omega); show _ = _; rw [e, if_pos hm]
            rw [decide_eq_true hm] at HC
            have hcmp := unhide HC
            clear hzR HC hm
            generalize strOf (utf R) = us at *
            go_wp2
            refine wp_region_quiet_below (by kernel_rfl) (by kernel_rfl) ?_
            repeat (first | go_big_quiet_step ((go_at_call 67; exact unhide HU _ _)) | quiet_step ((go_at_call 67; exact unhide HU _ _)))
            refine wpQuiet_nil ?_
            intro _ hw'
            obtain ⟨⟨dq, osq⟩, hw''⟩ := hw'
            subst hw''
            go_wp2
            go_ret
            exact ⟨by rw [unhide HEQ]; rfl, below_regrown w dq osq⟩
          · have HEQ : Hid (rl s i = 0) := by have e := unhide HE2 (by omega); show _ = _; rw [e, if_neg hm]
            rw [decide_eq_false hm] at HC
            have hcmp := unhide HC
            clear hzR HC hm
            generalize strOf (utf R) = us at *
            go_wp2
            refine wp_region_quiet_below (by kernel_rfl) (by kernel_rfl) ?_
            repeat (first | go_big_quiet_step ((go_at_call 67; exact unhide HU _ _)) | quiet_step ((go_at_call 67; exact unhide HU _ _)))
            refine wpQuiet_nil ?_
            intro _ hw'
            obtain ⟨⟨dq, osq⟩, hw''⟩ := hw'
            subst hw''
            go_wp2
            go_ret
            exact ⟨by rw [unhide HEQ]; rfl, below_regrown w dq osq⟩
        · by_cases hb : z < 57344
          · have e1 : decide ((1114111 : Int) < z) = false := by simp; omega
            have e2 : decide ((55296 : Int) ≤ z) = true := by simp; omega
            have e3 : decide (z < (57344 : Int)) = true := by simp; omega
            have y1 : ¬ (1114111 : Int) < z := by omega
            have y2 : (55296 : Int) ≤ z := by omega
            have HEQ : Hid (rl s i = 0) := unhide HE (by omega)
            clear hzR HC
            go_wp2
            refine wp_region_quiet_below (by kernel_rfl) (by kernel_rfl) ?_
            repeat (first | go_big_quiet_step (fail) | quiet_step (fail))
            refine wpQuiet_nil ?_
            intro _ hw'
            obtain ⟨⟨dq, osq⟩, hw''⟩ := hw'
            subst hw''
            go_wp2
            go_ret
            exact ⟨by rw [unhide HEQ]; rfl, below_regrown w dq osq⟩
          · by_cases hd : z ≤ 1114111
            · have e1 : decide ((1114111 : Int) < z) = false := by simp; omega
              have e2 : decide ((55296 : Int) ≤ z) = true := by simp; omega
              have e3 : decide (z < (57344 : Int)) = false := by simp; omega
              have y1 : ¬ (1114111 : Int) < z := by omega
              have y2 : (55296 : Int) ≤ z := by omega
              have y3 : ¬ z < (57344 : Int) := hb
              have HU : Hid (∀ d os, Calls Tryz.prog 67 #[.int .i64 z] (Sort.grow (redrawn w d) os) fun e w'' => e = .returned (.string (strOf (utf R))) ∧ ∃ p : Regrown, w'' = Sort.grow (redrawn w p.d) p.os) := fun d os => Calls.regrown_of (utf8_at _ _ hzR _ (by omega))
              have hm0 : 65536 ≤ R ∨ ¬ 65536 ≤ R := Decidable.em _
              rcases hm0 with hm | hm
              · have HEQ : Hid (rl s i = 4) := by have e := unhide HE2 (by omega); show _ = _; rw [e, if_pos hm]
                rw [decide_eq_true hm] at HC
                have hcmp := unhide HC
                clear hzR HC hm
                generalize strOf (utf R) = us at *
                go_wp2
                refine wp_region_quiet_below (by kernel_rfl) (by kernel_rfl) ?_
                repeat (first | go_big_quiet_step ((go_at_call 67; exact unhide HU _ _)) | quiet_step ((go_at_call 67; exact unhide HU _ _)))
                refine wpQuiet_nil ?_
                intro _ hw'
                obtain ⟨⟨dq, osq⟩, hw''⟩ := hw'
                subst hw''
                go_wp2
                go_ret
                exact ⟨by rw [unhide HEQ]; rfl, below_regrown w dq osq⟩
              · have HEQ : Hid (rl s i = 0) := by have e := unhide HE2 (by omega); show _ = _; rw [e, if_neg hm]
                rw [decide_eq_false hm] at HC
                have hcmp := unhide HC
                clear hzR HC hm
                generalize strOf (utf R) = us at *
                go_wp2
                refine wp_region_quiet_below (by kernel_rfl) (by kernel_rfl) ?_
                repeat (first | go_big_quiet_step ((go_at_call 67; exact unhide HU _ _)) | quiet_step ((go_at_call 67; exact unhide HU _ _)))
                refine wpQuiet_nil ?_
                intro _ hw'
                obtain ⟨⟨dq, osq⟩, hw''⟩ := hw'
                subst hw''
                go_wp2
                go_ret
                exact ⟨by rw [unhide HEQ]; rfl, below_regrown w dq osq⟩
            · have e1 : decide ((1114111 : Int) < z) = true := by simp; omega
              have y1 : (1114111 : Int) < z := by omega
              have HEQ : Hid (rl s i = 0) := unhide HE (by omega)
              clear hzR HC
              go_wp2
              refine wp_region_quiet_below (by kernel_rfl) (by kernel_rfl) ?_
              repeat (first | go_big_quiet_step (fail) | quiet_step (fail))
              refine wpQuiet_nil ?_
              intro _ hw'
              obtain ⟨⟨dq, osq⟩, hw''⟩ := hw'
              subst hw''
              go_wp2
              go_ret
              exact ⟨by rw [unhide HEQ]; rfl, below_regrown w dq osq⟩
  · have HF : Hid (rl s i = 0) := by have e := unhide HR; show _ = _; rw [e, if_neg (by omega)]
    have x1 : (s.size : Int) < (i : Int) + 4 := by omega
    go_enter Tryz.func45, Tryz.ntmps45
    go_wp2
    go_ret
    exact ⟨by rw [unhide HF]; rfl, Below.refl _ _⟩
end Go.Proofs.YtadefcohbkgbfabGreatDoor


namespace Go.Proofs.YtadefcohbkgbfabGreatDoor
open Go.RowKit

set_option maxHeartbeats 800000 in
set_option maxRecDepth 100000 in
theorem rl_walk (s : ByteArray) (i : Nat) (w : World) (hi : i < s.size) (hs : s.size ≤ 1048576) :
    Calls Tryz.prog 45 #[.string s, .int .i64 i] w fun e w' => e = .returned (.int .i64 (rl s i)) ∧ Below w.heap.size w w' := by
  have hb : s[i].toNat < 256 := UInt8.toNat_lt _
  by_cases h1 : s[i].toNat ≤ 127
  · exact rl_1 s i w hi hs (Nat.zero_le _) h1
  · by_cases h2 : s[i].toNat < 192
    · have HF : Hid (rl s i = 0) := by show _ = _; unfold rl; rw [rlN_cont (by rw [bt_at s i hi]; omega) (by rw [bt_at s i hi]; omega)]
      have hI : (128 : Int) ≤ (s[i].toNat : Int) := by omega
      have hI' : (s[i].toNat : Int) < 192 := by omega
      clear h1 h2 hb
      go_enter Tryz.func45, Tryz.ntmps45
      go_wp2
      go_ret
      exact ⟨by rw [unhide HF]; rfl, Below.refl _ _⟩
    · by_cases h3 : s[i].toNat ≤ 223
      · exact rl_2 s i w hi hs (by omega) h3
      · by_cases h4 : s[i].toNat ≤ 239
        · exact rl_3 s i w hi hs (by omega) h4
        · exact rl_4 s i w hi hs (by omega) (by omega)

theorem decodeL_at (s : ByteArray) (i : Nat) : Lib.decodeL (s.data.toList.drop i) = Lib.decodeN (s.size - i) (bt s i) (bt s (i + 1)) (bt s (i + 2)) (bt s (i + 3)) := by
  rw [Lib.decodeL_drop, dec]
theorem rlN_le (n b0 b1 b2 b3 : Nat) (hn : 1 ≤ n) : rlN n b0 b1 b2 b3 ≤ n := by
  unfold rlN; split
  · exact hn
  · split
    · omega
    · unfold Lib.decodeN
      repeat' split
      all_goals first | omega | (simp only []; omega)
theorem rlN_bad {n b0 b1 b2 b3 : Nat} (h : rlN n b0 b1 b2 b3 = 0) : Lib.decodeN n b0 b1 b2 b3 = (65533, 1) := by
  unfold rlN at h
  split at h
  · omega
  · split at h
    · rename_i h1 h2
      revert h2
      unfold Lib.decodeN
      repeat' split
      all_goals first | (intro h2; rfl) | (intro h2; simp at h2; done) | (intro h2; exfalso; omega)
    · rename_i h1 h2
      have := Lib.decodeN_ge1 n b0 b1 b2 b3; omega
theorem rlN_good {n b0 b1 b2 b3 : Nat} (h : ¬ rlN n b0 b1 b2 b3 = 0) : (Lib.decodeN n b0 b1 b2 b3).2 = rlN n b0 b1 b2 b3 ∧ ¬ ((Lib.decodeN n b0 b1 b2 b3).1 = 65533 ∧ (Lib.decodeN n b0 b1 b2 b3).2 = 1) := by
  unfold rlN at h ⊢
  split at h
  · rename_i h1
    rw [if_pos h1]
    have e : Lib.decodeN n b0 b1 b2 b3 = (b0, 1) := by unfold Lib.decodeN; rw [if_pos h1]
    rw [e]; exact ⟨rfl, fun hh => by have := hh.1; simp at this; omega⟩
  · rename_i h1
    rw [if_neg h1]
    split at h
    · exact absurd rfl h
    · rename_i h2
      rw [if_neg h2]; exact ⟨rfl, fun hh => h2 hh.2⟩
theorem rl_le (s : ByteArray) (i : Nat) (hi : i < s.size) : i + rl s i ≤ s.size := by
  have := rlN_le (s.size - i) (bt s i) (bt s (i + 1)) (bt s (i + 2)) (bt s (i + 3)) (by omega)
  unfold rl; omega
theorem drop_ne (s : ByteArray) (i : Nat) (hi : i < s.size) : s.data.toList.drop i ≠ [] := by rw [drop_at s i hi]; simp
theorem valid_bad (s : ByteArray) (i : Nat) (hi : i < s.size) (h : rl s i = 0) : Lib.validD (s.data.toList.drop i) = false := by
  rw [Lib.validD_step _ (drop_ne s i hi), decodeL_at, rlN_bad h]; rfl
theorem valid_go (s : ByteArray) (i : Nat) (hi : i < s.size) (h : ¬ rl s i = 0) : Lib.validD (s.data.toList.drop i) = Lib.validD (s.data.toList.drop (i + rl s i)) := by
  obtain ⟨h1, h2⟩ := rlN_good h
  rw [Lib.validD_step _ (drop_ne s i hi), decodeL_at, if_neg h2, h1, List.drop_drop]; rfl

end Go.Proofs.YtadefcohbkgbfabGreatDoor

