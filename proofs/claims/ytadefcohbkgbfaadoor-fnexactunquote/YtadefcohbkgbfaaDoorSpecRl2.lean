import Derived.Test.YtadefcohbkgbfaaDoorSpecRl1
import Derived.Test.YtadefcohbkgbfaaDoorSpecUtf8
import Derived.Deep.QuietTactic
import Derived.BigQuiet
import Derived.Lib.QuietBelow
namespace Go.Proofs.YtadefcohbkgbfaaDoor
open Go.RowKit

theorem ext_2 (s : ByteArray) (i : Nat) (hi : i < s.size) (h1 : i + 1 < s.size) : (s.extract i (i + 2)).toList = [s[i], s[i + 1]] := by
  rw [Lib.toList_data, Lib.extract_data]
  rw [drop_at s i hi]
  rw [drop_at s (i + 1) h1]
  rw [show i + 2 - i = 2 from by omega]
  rfl
theorem cmp_2 (s : ByteArray) (i : Nat) (hi : i < s.size) (h1 : i + 1 < s.size) (a : 192 ≤ s[i].toNat) (b : s[i].toNat ≤ 223) (p1 : 128 ≤ s[i + 1].toNat) (q1 : s[i + 1].toNat < 192) : ((strOf (utf ((s[i].toNat - 192) * 64 + (s[i + 1].toNat - 128)))).toList == (s.extract i (i + 2)).toList) = decide (128 ≤ (s[i].toNat - 192) * 64 + (s[i + 1].toNat - 128)) := by
  rw [ext_2 s i hi h1, Lib.toList_data, strOf_toList]
  by_cases hm : 128 ≤ (s[i].toNat - 192) * 64 + (s[i + 1].toNat - 128)
  · have hu : utf ((s[i].toNat - 192) * 64 + (s[i + 1].toNat - 128)) = [s[i], s[i + 1]] := by
      unfold utf utfZ
      rw [if_neg (by omega), if_pos (by omega)]
      have e0 : 192 + ((s[i].toNat - 192) * 64 + (s[i + 1].toNat - 128)) / 64 = s[i].toNat := by omega
      have e1 : 128 + ((s[i].toNat - 192) * 64 + (s[i + 1].toNat - 128)) % 64 = s[i + 1].toNat := by omega
      rw [e0, e1]
      simp only [List.map_cons, List.map_nil, byte_eq]
    rw [hu, decide_eq_true hm]; simp
  · rw [decide_eq_false hm, beq_eq_false_iff_ne]
    intro e
    have h := congrArg List.length e
    unfold utf utfZ at h
    simp only [List.length_map, List.length_cons, List.length_nil] at h
    split at h
    · simp at h
    · first | omega | (split at h; simp at h; first | omega | (split at h; simp at h; omega))

set_option maxHeartbeats 4000000 in
set_option maxRecDepth 100000 in
theorem rl_2 (s : ByteArray) (i : Nat) (w : World) (hi : i < s.size) (hs : s.size ≤ 1048576) (h : 192 ≤ s[i].toNat) (h' : s[i].toNat ≤ 223) :
    Calls Tryd.prog 42 #[.string s, .int .i64 i] w fun e w' => e = .returned (.int .i64 (rl s i)) ∧ Below w.heap.size w w' := by
  have HR : Hid (rl s i = if 2 ≤ s.size - i ∧ 128 ≤ bt s (i + 1) ∧ bt s (i + 1) < 192 ∧ 128 ≤ (s[i].toNat - 192) * 64 + (bt s (i + 1) - 128) then 2 else 0) := by
    show _ = _; unfold rl; rw [rlN_2 (by rw [bt_at s i hi]; exact h) (by rw [bt_at s i hi]; omega) (bt_lt _ _), bt_at s i hi]
  have hI : (192 : Int) ≤ (s[i].toNat : Int) := by omega
  have hI' : (s[i].toNat : Int) ≤ 223 := by omega
  by_cases hlen : i + 1 < s.size
  · have h1 : i + 1 < s.size := by omega
    rw [bt_at s (i + 1) h1] at HR
    go_enter Tryd.func42, Tryd.ntmps42
    go_wp2
    go_loop [7, 8] (fun r k => (k = .int .i64 1 ∧ r = .int .i64 ((s[i].toNat : Int) - 192)) ∨ (k = .int .i64 2 ∧ 128 ≤ s[i + 1].toNat ∧ s[i + 1].toNat < 192 ∧ r = .int .i64 (((s[i].toNat : Int) - 192) * 64 + (s[i + 1].toNat : Int) - 128))) (fun _ k => 2 - (intOf k).toNat)
    case atStart => exact .inl ⟨rfl, rfl⟩
    case round =>
      rcases hrel with ⟨rfl, rfl⟩ | ⟨rfl, p1, q1, rfl⟩
      · by_cases hc : 128 ≤ s[i + 1].toNat ∧ s[i + 1].toNat < 192
        · obtain ⟨c1, c2⟩ := hc
          have x1 : ¬ (s[i + 1].toNat : Int) < 128 := by omega
          have x2 : ¬ (192 : Int) ≤ (s[i + 1].toNat : Int) := by omega
          have x3 : decide ((s[i + 1].toNat : Int) < 128) = false := by simp; omega
          go_wp2
          go_round
          case rel => exact .inr (⟨by go_num, c1, c2, by go_num⟩)
          case measure => simp [intOf]
        · have HF : Hid (rl s i = 0) := by have e := unhide HR; show _ = _; rw [e, if_neg (by omega)]
          rcases (show s[i + 1].toNat < 128 ∨ 192 ≤ s[i + 1].toNat from by omega) with hlow | hhigh
          · have x1 : (s[i + 1].toNat : Int) < 128 := by omega
            clear hc
            go_wp2
            go_ret
            exact ⟨by rw [unhide HF]; rfl, Below.refl _ _⟩
          · have x1 : ¬ (s[i + 1].toNat : Int) < 128 := by omega
            have x2 : (192 : Int) ≤ (s[i + 1].toNat : Int) := by omega
            have x3 : decide ((s[i + 1].toNat : Int) < 128) = false := by simp; omega
            clear hc
            go_wp2
            go_ret
            exact ⟨by rw [unhide HF]; rfl, Below.refl _ _⟩
      · have HZ : Hid (((s[i].toNat : Int) - 192) * 64 + (s[i + 1].toNat : Int) - 128 = (((s[i].toNat - 192) * 64 + (s[i + 1].toNat - 128) : Nat) : Int)) := by show _ = _; omega
        have hz2 : (0 : Int) ≤ ((s[i].toNat : Int) - 192) * 64 + (s[i + 1].toNat : Int) - 128 ∧ ((s[i].toNat : Int) - 192) * 64 + (s[i + 1].toNat : Int) - 128 ≤ 2047 := by omega
        have HC := hide (cmp_2 s i hi h1 h h' p1 q1)
        have HE : Hid (rl s i = if 128 ≤ (s[i].toNat - 192) * 64 + (s[i + 1].toNat - 128) then 2 else 0) := by have e := unhide HR; show _ = _; rw [e]; exact (Decidable.em (128 ≤ (s[i].toNat - 192) * 64 + (s[i + 1].toNat - 128))).elim (fun hm => by rw [if_pos hm]; exact if_pos (by omega)) (fun hm => by rw [if_neg hm]; exact if_neg (by omega))
        generalize ((s[i].toNat - 192) * 64 + (s[i + 1].toNat - 128)) = R at *
        generalize ((s[i].toNat : Int) - 192) * 64 + (s[i + 1].toNat : Int) - 128 = z at *
        obtain ⟨z1, z2⟩ := hz2
        have i1 : (i : Int) + 2 ≤ (s.size : Int) := by omega
        have i2 : (i : Int) ≤ (i : Int) + 2 := by omega
        have i3 : (0 : Int) ≤ (i : Int) := by omega
        have hzR := unhide HZ
        have e1 : decide ((1114111 : Int) < z) = false := by simp; omega
        have e2 : decide ((55296 : Int) ≤ z) = false := by simp; omega
        have y1 : ¬ (1114111 : Int) < z := by omega
        have y2 : z < (55296 : Int) := by omega
        have HU : Hid (∀ d os, Calls Tryd.prog 56 #[.int .i64 z] (Sort.grow (redrawn w d) os) fun e w'' => e = .returned (.string (strOf (utf R))) ∧ ∃ p : Regrown, w'' = Sort.grow (redrawn w p.d) p.os) := fun d os => Calls.regrown_of (utf8_at _ _ hzR _ (by omega))
        have hm0 : 128 ≤ R ∨ ¬ 128 ≤ R := Decidable.em _
        rcases hm0 with hm | hm
        · have HEQ : Hid (rl s i = 2) := by have e := unhide HE; show _ = _; rw [e, if_pos hm]
          rw [decide_eq_true hm] at HC
          have hcmp := unhide HC
          clear hzR HC hm
          generalize strOf (utf R) = us at *
          go_wp2
          refine wp_region_quiet_below (by kernel_rfl) (by kernel_rfl) ?_
          repeat (first | go_big_quiet_step ((go_at_call 56; exact unhide HU _ _)) | quiet_step ((go_at_call 56; exact unhide HU _ _)))
          refine wpQuiet_nil ?_
          intro _ hw'
          obtain ⟨⟨dq, osq⟩, hw''⟩ := hw'
          subst hw''
          go_wp2
          go_ret
          exact ⟨by rw [unhide HEQ]; rfl, below_regrown w dq osq⟩
        · have HEQ : Hid (rl s i = 0) := by have e := unhide HE; show _ = _; rw [e, if_neg hm]
          rw [decide_eq_false hm] at HC
          have hcmp := unhide HC
          clear hzR HC hm
          generalize strOf (utf R) = us at *
          go_wp2
          refine wp_region_quiet_below (by kernel_rfl) (by kernel_rfl) ?_
          repeat (first | go_big_quiet_step ((go_at_call 56; exact unhide HU _ _)) | quiet_step ((go_at_call 56; exact unhide HU _ _)))
          refine wpQuiet_nil ?_
          intro _ hw'
          obtain ⟨⟨dq, osq⟩, hw''⟩ := hw'
          subst hw''
          go_wp2
          go_ret
          exact ⟨by rw [unhide HEQ]; rfl, below_regrown w dq osq⟩
  · have HF : Hid (rl s i = 0) := by have e := unhide HR; show _ = _; rw [e, if_neg (by omega)]
    have x1 : (s.size : Int) < (i : Int) + 2 := by omega
    go_enter Tryd.func42, Tryd.ntmps42
    go_wp2
    go_ret
    exact ⟨by rw [unhide HF]; rfl, Below.refl _ _⟩
end Go.Proofs.YtadefcohbkgbfaaDoor
