import Derived.Deep.QuietTactic
import Derived.BigQuiet
import Derived.Lib.QuietBelow
import Derived.Test.YtocnekbedcnmgaaGreatDoorBq1
import Derived.Lib.ValidLaws
import Derived.Lib.RuneCount
import Derived.Lib.Builder
import Derived.Laws.AppendOwnNone
import Derived.WalkKit
import Derived.ProofKit
import Derived.OpenShut
namespace Go.Proofs.YtocnekbedcnmgaaGreatDoor
open Go.RowKit

theorem utf8_at (z : Int) (r : Nat) (hz : z = (r : Int)) (w : World) (hr : r ≤ 1114111) :
    Calls Tryz.prog 163 #[.int .i64 z] w fun e w' => e = .returned (.string (strOf (utf r))) ∧ Below w.heap.size w w' := by
  subst hz; exact utf8_walk r w hr
theorem byte_eq (c : UInt8) : UInt8.ofNat c.toNat = c := UInt8.ofNat_toNat

theorem ext_1 (s : ByteArray) (i : Nat) (hi : i < s.size)  : (s.extract i (i + 1)).toList = [s[i]] := by
  rw [Lib.toList_data, Lib.extract_data]
  rw [drop_at s i hi]
  rw [show i + 1 - i = 1 from by omega]
  rfl
theorem cmp_1 (s : ByteArray) (i : Nat) (hi : i < s.size)  (a : 0 ≤ s[i].toNat) (b : s[i].toNat ≤ 127)  : ((strOf (utf (s[i].toNat))).toList == (s.extract i (i + 1)).toList) = decide (0 ≤ s[i].toNat) := by
  rw [ext_1 s i hi , Lib.toList_data, strOf_toList]
  by_cases hm : 0 ≤ s[i].toNat
  · have hu : utf (s[i].toNat) = [s[i]] := by
      unfold utf utfZ
      rw [if_pos (by omega)]
      simp only [List.map_cons, List.map_nil, byte_eq]
    rw [hu, decide_eq_true hm]; simp
  · omega

set_option maxHeartbeats 800000 in
set_option maxRecDepth 100000 in
theorem rl_1 (s : ByteArray) (i : Nat) (w : World) (hi : i < s.size) (hs : s.size ≤ 1048576) (h : 0 ≤ s[i].toNat) (h' : s[i].toNat ≤ 127) :
    Calls Tryz.prog 160 #[.string s, .int .i64 i] w fun e w' => e = .returned (.int .i64 (rl s i)) ∧ Below w.heap.size w w' := by
  have HR : Hid (rl s i = 1) := by show _ = _; unfold rl; rw [rlN_one (by rw [bt_at s i hi]; omega)]
  have hI : (0 : Int) ≤ (s[i].toNat : Int) := by omega
  have hI' : (s[i].toNat : Int) ≤ 127 := by omega
  go_enter Tryz.func160, Tryz.ntmps160
  go_wp2
  go_loop [7, 8] (fun r k => (k = .int .i64 1 ∧ r = .int .i64 ((s[i].toNat : Int)))) (fun _ k => 1 - (intOf k).toNat)
  case atStart => exact ⟨rfl, rfl⟩
  case round =>
    obtain ⟨rfl, rfl⟩ := hrel
    have HZ : Hid ((s[i].toNat : Int) = ((s[i].toNat : Nat) : Int)) := by show _ = _; omega
    have hz2 : (0 : Int) ≤ (s[i].toNat : Int) ∧ (s[i].toNat : Int) ≤ 127 := by omega
    have HC := hide (cmp_1 s i hi  h h' )
    have HE : Hid (rl s i = if 0 ≤ s[i].toNat then 1 else 0) := by have e := unhide HR; show _ = _; rw [e, if_pos (by omega)]
    obtain ⟨z1, z2⟩ := hz2
    have i1 : (i : Int) + 1 ≤ (s.size : Int) := by omega
    have i2 : (i : Int) ≤ (i : Int) + 1 := by omega
    have i3 : (0 : Int) ≤ (i : Int) := by omega
    have hzR := unhide HZ
    have e1 : decide ((1114111 : Int) < (s[i].toNat : Int)) = false := by simp; omega
    have e2 : decide ((55296 : Int) ≤ (s[i].toNat : Int)) = false := by simp; omega
    have y1 : ¬ (1114111 : Int) < (s[i].toNat : Int) := by omega
    have y2 : (s[i].toNat : Int) < (55296 : Int) := by omega
    have HU : Hid (∀ d os, Calls Tryz.prog 163 #[.int .i64 (s[i].toNat : Int)] (Sort.grow (redrawn w d) os) fun e w'' => e = .returned (.string (strOf (utf s[i].toNat))) ∧ ∃ p : Regrown, w'' = Sort.grow (redrawn w p.d) p.os) := fun d os => Calls.regrown_of (utf8_at _ _ hzR _ (by omega))
    have hm0 : 0 ≤ s[i].toNat ∨ ¬ 0 ≤ s[i].toNat := Decidable.em _
    rcases hm0 with hm | hm
    · have HEQ : Hid (rl s i = 1) := by have e := unhide HE; show _ = _; rw [e, if_pos hm]
      rw [decide_eq_true hm] at HC
      have hcmp := unhide HC
      clear hzR HC hm
      generalize strOf (utf s[i].toNat) = us at *
      go_wp2
      refine wp_region_quiet_below (by kernel_rfl) (by kernel_rfl) ?_
      repeat (first | go_big_quiet_step ((go_at_call 163; exact unhide HU _ _)) | quiet_step ((go_at_call 163; exact unhide HU _ _)))
      refine wpQuiet_nil ?_
      intro _ hw'
      obtain ⟨⟨dq, osq⟩, hw''⟩ := hw'
      subst hw''
      go_wp2
      go_ret
      exact ⟨by rw [unhide HEQ]; rfl, below_regrown w dq osq⟩
    · omega
end Go.Proofs.YtocnekbedcnmgaaGreatDoor


namespace Go.Proofs.YtocnekbedcnmgaaGreatDoor
open Go.RowKit

theorem ext_2 (s : ByteArray) (i : Nat) (hi : i < s.size) (h1 : i + 1 < s.size) : (s.extract i (i + 2)).toList = [s[i], s[i + 1]] := by
  rw [Lib.toList_data, Lib.extract_data]
  rw [drop_at s i hi]
  rw [drop_at s (i + 1) h1]
  rw [show i + 2 - i = 2 from by omega]
  rfl
theorem cmp_2 (s : ByteArray) (i : Nat) (hi : i < s.size) (h1 : i + 1 < s.size) (a : 192 ≤ s[i].toNat) (b : s[i].toNat ≤ 223) (p1 : 128 ≤ s[i + 1].toNat) (q1 : s[i + 1].toNat < 192) : ((strOf (utf ((s[i].toNat - 192) * 64 + (s[i + 1].toNat - 128)))).toList == (s.extract i (i + 2)).toList) = decide (128 ≤ (s[i].toNat - 192) * 64 + (s[i + 1].toNat - 128)) := by
  rw [ext_2 s i hi h1, Lib.toList_data, strOf_toList]
  by_cases hm : 128 ≤ (s[i].toNat - 192) * 64 + (s[i + 1].toNat - 128)
  · have hu : utf ((s[i].toNat - 192) * 64 + (s[i + 1].toNat - 128)) = [s[i], s[i + 1]] := by
      unfold utf utfZ
      rw [if_neg (by omega), if_pos (by omega)]
      have e0 : 192 + ((s[i].toNat - 192) * 64 + (s[i + 1].toNat - 128)) / 64 = s[i].toNat := by omega
      have e1 : 128 + ((s[i].toNat - 192) * 64 + (s[i + 1].toNat - 128)) % 64 = s[i + 1].toNat := by omega
      rw [e0, e1]
      simp only [List.map_cons, List.map_nil, byte_eq]
    rw [hu, decide_eq_true hm]; simp
  · rw [decide_eq_false hm, beq_eq_false_iff_ne]
    intro e
    have h := congrArg List.length e
    unfold utf utfZ at h
    simp only [List.length_map, List.length_cons, List.length_nil] at h
    split at h
    · simp at h
    · first | omega | (split at h; simp at h; first | omega | (split at h; simp at h; omega))

set_option maxHeartbeats 4000000 in
set_option maxRecDepth 100000 in
theorem rl_2 (s : ByteArray) (i : Nat) (w : World) (hi : i < s.size) (hs : s.size ≤ 1048576) (h : 192 ≤ s[i].toNat) (h' : s[i].toNat ≤ 223) :
    Calls Tryz.prog 160 #[.string s, .int .i64 i] w fun e w' => e = .returned (.int .i64 (rl s i)) ∧ Below w.heap.size w w' := by
  have HR : Hid (rl s i = if 2 ≤ s.size - i ∧ 128 ≤ bt s (i + 1) ∧ bt s (i + 1) < 192 ∧ 128 ≤ (s[i].toNat - 192) * 64 + (bt s (i + 1) - 128) then 2 else 0) := by
    show _ = _; unfold rl; rw [rlN_2 (by rw [bt_at s i hi]; exact h) (by rw [bt_at s i hi]; omega) (bt_lt _ _), bt_at s i hi]
  have hI : (192 : Int) ≤ (s[i].toNat : Int) := by omega
  have hI' : (s[i].toNat : Int) ≤ 223 := by omega
  by_cases hlen : i + 1 < s.size
  · have h1 : i + 1 < s.size := by omega
    rw [bt_at s (i + 1) h1] at HR
    go_enter Tryz.func160, Tryz.ntmps160
    go_wp2
    go_loop [7, 8] (fun r k => (k = .int .i64 1 ∧ r = .int .i64 ((s[i].toNat : Int) - 192)) ∨ (k = .int .i64 2 ∧ 128 ≤ s[i + 1].toNat ∧ s[i + 1].toNat < 192 ∧ r = .int .i64 (((s[i].toNat : Int) - 192) * 64 + (s[i + 1].toNat : Int) - 128))) (fun _ k => 2 - (intOf k).toNat)
    case atStart => exact .inl ⟨rfl, rfl⟩
    case round =>
      rcases hrel with ⟨rfl, rfl⟩ | ⟨rfl, p1, q1, rfl⟩
      · by_cases hc : 128 ≤ s[i + 1].toNat ∧ s[i + 1].toNat < 192
        · obtain ⟨c1, c2⟩ := hc
          have x1 : ¬ (s[i + 1].toNat : Int) < 128 := by omega
          have x2 : ¬ (192 : Int) ≤ (s[i + 1].toNat : Int) := by omega
          have x3 : decide ((s[i + 1].toNat : Int) < 128) = false := by simp; omega
          go_wp2
          go_round
          case rel => exact .inr (⟨by go_num, c1, c2, by go_num⟩)
          case measure => simp [intOf]
        · have HF : Hid (rl s i = 0) := by have e := unhide HR; show _ = _; rw [e, if_neg (by omega)]
          rcases (show s[i + 1].toNat < 128 ∨ 192 ≤ s[i + 1].toNat from by omega) with hlow | hhigh
          · have x1 : (s[i + 1].toNat : Int) < 128 := by omega
            clear hc
            go_wp2
            go_ret
            exact ⟨by rw [unhide HF]; rfl, Below.refl _ _⟩
          · have x1 : ¬ (s[i + 1].toNat : Int) < 128 := by omega
            have x2 : (192 : Int) ≤ (s[i + 1].toNat : Int) := by omega
            have x3 : decide ((s[i + 1].toNat : Int) < 128) = false := by simp; omega
            clear hc
            go_wp2
            go_ret
            exact ⟨by rw [unhide HF]; rfl, Below.refl _ _⟩
      · have HZ : Hid (((s[i].toNat : Int) - 192) * 64 + (s[i + 1].toNat : Int) - 128 = (((s[i].toNat - 192) * 64 + (s[i + 1].toNat - 128) : Nat) : Int)) := by show _ = _; omega
        have hz2 : (0 : Int) ≤ ((s[i].toNat : Int) - 192) * 64 + (s[i + 1].toNat : Int) - 128 ∧ ((s[i].toNat : Int) - 192) * 64 + (s[i + 1].toNat : Int) - 128 ≤ 2047 := by omega
        have HC := hide (cmp_2 s i hi h1 h h' p1 q1)
        have HE : Hid (rl s i = if 128 ≤ (s[i].toNat - 192) * 64 + (s[i + 1].toNat - 128) then 2 else 0) := by have e := unhide HR; show _ = _; rw [e]; exact (Decidable.em (128 ≤ (s[i].toNat - 192) * 64 + (s[i + 1].toNat - 128))).elim (fun hm => by rw [if_pos hm]; exact if_pos (by omega)) (fun hm => by rw [if_neg hm]; exact if_neg (by omega))
        generalize ((s[i].toNat - 192) * 64 + (s[i + 1].toNat - 128)) = R at *
        generalize ((s[i].toNat : Int) - 192) * 64 + (s[i + 1].toNat : Int) - 128 = z at *
        obtain ⟨z1, z2⟩ := hz2
        have i1 : (i : Int) + 2 ≤ (s.size : Int) := by omega
        have i2 : (i : Int) ≤ (i : Int) + 2 := by omega
        have i3 : (0 : Int) ≤ (i : Int) := by omega
        have hzR := unhide HZ
        have e1 : decide ((1114111 : Int) < z) = false := by simp; omega
        have e2 : decide ((55296 : Int) ≤ z) = false := by simp; omega
        have y1 : ¬ (1114111 : Int) < z := by omega
        have y2 : z < (55296 : Int) := by omega
        have HU : Hid (∀ d os, Calls Tryz.prog 163 #[.int .i64 z] (Sort.grow (redrawn w d) os) fun e w'' => e = .returned (.string (strOf (utf R))) ∧ ∃ p : Regrown, w'' = Sort.grow (redrawn w p.d) p.os) := fun d os => Calls.regrown_of (utf8_at _ _ hzR _ (by omega))
        have hm0 : 128 ≤ R ∨ ¬ 128 ≤ R := Decidable.em _
        rcases hm0 with hm | hm
        · have HEQ : Hid (rl s i = 2) := by have e := unhide HE; show _ = _; rw [e, if_pos hm]
          rw [decide_eq_true hm] at HC
          have hcmp := unhide HC
          clear hzR HC hm
          generalize strOf (utf R) = us at *
          go_wp2
          refine wp_region_quiet_below (by kernel_rfl) (by kernel_rfl) ?_
          repeat (first | go_big_quiet_step ((go_at_call 163; exact unhide HU _ _)) | quiet_step ((go_at_call 163; exact unhide HU _ _)))
          refine wpQuiet_nil ?_
          intro _ hw'
          obtain ⟨⟨dq, osq⟩, hw''⟩ := hw'
          subst hw''
          go_wp2
          go_ret
          exact ⟨by rw [unhide HEQ]; rfl, below_regrown w dq osq⟩
        · have HEQ : Hid (rl s i = 0) := by have e := unhide HE; show _ = _; rw [e, if_neg hm]
          rw [decide_eq_false hm] at HC
          have hcmp := unhide HC
          clear hzR HC hm
          generalize strOf (utf R) = us at *
          go_wp2
          refine wp_region_quiet_below (by kernel_rfl) (by kernel_rfl) ?_
          repeat (first | go_big_quiet_step ((go_at_call 163; exact unhide HU _ _)) | quiet_step ((go_at_call 163; exact unhide HU _ _)))
          refine wpQuiet_nil ?_
          intro _ hw'
          obtain ⟨⟨dq, osq⟩, hw''⟩ := hw'
          subst hw''
          go_wp2
          go_ret
          exact ⟨by rw [unhide HEQ]; rfl, below_regrown w dq osq⟩
  · have HF : Hid (rl s i = 0) := by have e := unhide HR; show _ = _; rw [e, if_neg (by omega)]
    have x1 : (s.size : Int) < (i : Int) + 2 := by omega
    go_enter Tryz.func160, Tryz.ntmps160
    go_wp2
    go_ret
    exact ⟨by rw [unhide HF]; rfl, Below.refl _ _⟩
end Go.Proofs.YtocnekbedcnmgaaGreatDoor


namespace Go.Proofs.YtocnekbedcnmgaaGreatDoor
open Go.RowKit

theorem ext_3 (s : ByteArray) (i : Nat) (hi : i < s.size) (h1 : i + 1 < s.size) (h2 : i + 2 < s.size) : (s.extract i (i + 3)).toList = [s[i], s[i + 1], s[i + 2]] := by
  rw [Lib.toList_data, Lib.extract_data]
  rw [drop_at s i hi]
  rw [drop_at s (i + 1) h1]
  rw [drop_at s (i + 2) h2]
  rw [show i + 3 - i = 3 from by omega]
  rfl
theorem cmp_3 (s : ByteArray) (i : Nat) (hi : i < s.size) (h1 : i + 1 < s.size) (h2 : i + 2 < s.size) (a : 224 ≤ s[i].toNat) (b : s[i].toNat ≤ 239) (p1 : 128 ≤ s[i + 1].toNat) (q1 : s[i + 1].toNat < 192) (p2 : 128 ≤ s[i + 2].toNat) (q2 : s[i + 2].toNat < 192) : ((strOf (utf ((s[i].toNat - 224) * 4096 + (s[i + 1].toNat - 128) * 64 + (s[i + 2].toNat - 128)))).toList == (s.extract i (i + 3)).toList) = decide (2048 ≤ (s[i].toNat - 224) * 4096 + (s[i + 1].toNat - 128) * 64 + (s[i + 2].toNat - 128)) := by
  rw [ext_3 s i hi h1 h2, Lib.toList_data, strOf_toList]
  by_cases hm : 2048 ≤ (s[i].toNat - 224) * 4096 + (s[i + 1].toNat - 128) * 64 + (s[i + 2].toNat - 128)
  · have hu : utf ((s[i].toNat - 224) * 4096 + (s[i + 1].toNat - 128) * 64 + (s[i + 2].toNat - 128)) = [s[i], s[i + 1], s[i + 2]] := by
      unfold utf utfZ
      rw [if_neg (by omega), if_neg (by omega), if_pos (by omega)]
      have e0 : 224 + ((s[i].toNat - 224) * 4096 + (s[i + 1].toNat - 128) * 64 + (s[i + 2].toNat - 128)) / 4096 = s[i].toNat := by omega
      have e1 : 128 + ((s[i].toNat - 224) * 4096 + (s[i + 1].toNat - 128) * 64 + (s[i + 2].toNat - 128)) / 64 % 64 = s[i + 1].toNat := by omega
      have e2 : 128 + ((s[i].toNat - 224) * 4096 + (s[i + 1].toNat - 128) * 64 + (s[i + 2].toNat - 128)) % 64 = s[i + 2].toNat := by omega
      rw [e0, e1, e2]
      simp only [List.map_cons, List.map_nil, byte_eq]
    rw [hu, decide_eq_true hm]; simp
  · rw [decide_eq_false hm, beq_eq_false_iff_ne]
    intro e
    have h := congrArg List.length e
    unfold utf utfZ at h
    simp only [List.length_map, List.length_cons, List.length_nil] at h
    split at h
    · simp at h
    · first | omega | (split at h; simp at h; first | omega | (split at h; simp at h; omega))

set_option maxHeartbeats 4000000 in
set_option maxRecDepth 100000 in
theorem rl_3 (s : ByteArray) (i : Nat) (w : World) (hi : i < s.size) (hs : s.size ≤ 1048576) (h : 224 ≤ s[i].toNat) (h' : s[i].toNat ≤ 239) :
    Calls Tryz.prog 160 #[.string s, .int .i64 i] w fun e w' => e = .returned (.int .i64 (rl s i)) ∧ Below w.heap.size w w' := by
  have HR : Hid (rl s i = if 3 ≤ s.size - i ∧ 128 ≤ bt s (i + 1) ∧ bt s (i + 1) < 192 ∧ 128 ≤ bt s (i + 2) ∧ bt s (i + 2) < 192 ∧ 2048 ≤ (s[i].toNat - 224) * 4096 + (bt s (i + 1) - 128) * 64 + (bt s (i + 2) - 128) ∧ ((s[i].toNat - 224) * 4096 + (bt s (i + 1) - 128) * 64 + (bt s (i + 2) - 128) < 55296 ∨ 57344 ≤ (s[i].toNat - 224) * 4096 + (bt s (i + 1) - 128) * 64 + (bt s (i + 2) - 128)) then 3 else 0) := by
    show _ = _; unfold rl; rw [rlN_3 (by rw [bt_at s i hi]; exact h) (by rw [bt_at s i hi]; omega) (bt_lt _ _) (bt_lt _ _), bt_at s i hi]
  have hI : (224 : Int) ≤ (s[i].toNat : Int) := by omega
  have hI' : (s[i].toNat : Int) ≤ 239 := by omega
  by_cases hlen : i + 2 < s.size
  · have h1 : i + 1 < s.size := by omega
    have h2 : i + 2 < s.size := by omega
    rw [bt_at s (i + 1) h1] at HR
    rw [bt_at s (i + 2) h2] at HR
    go_enter Tryz.func160, Tryz.ntmps160
    go_wp2
    go_loop [7, 8] (fun r k => (k = .int .i64 1 ∧ r = .int .i64 ((s[i].toNat : Int) - 224)) ∨ (k = .int .i64 2 ∧ 128 ≤ s[i + 1].toNat ∧ s[i + 1].toNat < 192 ∧ r = .int .i64 (((s[i].toNat : Int) - 224) * 64 + (s[i + 1].toNat : Int) - 128)) ∨ (k = .int .i64 3 ∧ 128 ≤ s[i + 1].toNat ∧ s[i + 1].toNat < 192 ∧ 128 ≤ s[i + 2].toNat ∧ s[i + 2].toNat < 192 ∧ r = .int .i64 ((((s[i].toNat : Int) - 224) * 64 + (s[i + 1].toNat : Int) - 128) * 64 + (s[i + 2].toNat : Int) - 128))) (fun _ k => 3 - (intOf k).toNat)
    case atStart => exact .inl ⟨rfl, rfl⟩
    case round =>
      rcases hrel with ⟨rfl, rfl⟩ | ⟨rfl, p1, q1, rfl⟩ | ⟨rfl, p1, q1, p2, q2, rfl⟩
      · by_cases hc : 128 ≤ s[i + 1].toNat ∧ s[i + 1].toNat < 192
        · obtain ⟨c1, c2⟩ := hc
          have x1 : ¬ (s[i + 1].toNat : Int) < 128 := by omega
          have x2 : ¬ (192 : Int) ≤ (s[i + 1].toNat : Int) := by omega
          have x3 : decide ((s[i + 1].toNat : Int) < 128) = false := by simp; omega
          go_wp2
          go_round
          case rel => exact .inr (.inl ⟨by go_num, c1, c2, by go_num⟩)
          case measure => simp [intOf]
        · have HF : Hid (rl s i = 0) := by have e := unhide HR; show _ = _; rw [e, if_neg (by omega)]
          rcases (show s[i + 1].toNat < 128 ∨ 192 ≤ s[i + 1].toNat from by omega) with hlow | hhigh
          · have x1 : (s[i + 1].toNat : Int) < 128 := by omega
            clear hc
            go_wp2
            go_ret
            exact ⟨by rw [unhide HF]; rfl, Below.refl _ _⟩
          · have x1 : ¬ (s[i + 1].toNat : Int) < 128 := by omega
            have x2 : (192 : Int) ≤ (s[i + 1].toNat : Int) := by omega
            have x3 : decide ((s[i + 1].toNat : Int) < 128) = false := by simp; omega
            clear hc
            go_wp2
            go_ret
            exact ⟨by rw [unhide HF]; rfl, Below.refl _ _⟩
      · by_cases hc : 128 ≤ s[i + 2].toNat ∧ s[i + 2].toNat < 192
        · obtain ⟨c1, c2⟩ := hc
          have x1 : ¬ (s[i + 2].toNat : Int) < 128 := by omega
          have x2 : ¬ (192 : Int) ≤ (s[i + 2].toNat : Int) := by omega
          have x3 : decide ((s[i + 2].toNat : Int) < 128) = false := by simp; omega
          go_wp2
          go_round
          case rel => exact .inr (.inr (⟨by go_num, p1, q1, c1, c2, by go_num⟩))
          case measure => simp [intOf]
        · have HF : Hid (rl s i = 0) := by have e := unhide HR; show _ = _; rw [e, if_neg (by omega)]
          rcases (show s[i + 2].toNat < 128 ∨ 192 ≤ s[i + 2].toNat from by omega) with hlow | hhigh
          · have x1 : (s[i + 2].toNat : Int) < 128 := by omega
            clear hc
            go_wp2
            go_ret
            exact ⟨by rw [unhide HF]; rfl, Below.refl _ _⟩
          · have x1 : ¬ (s[i + 2].toNat : Int) < 128 := by omega
            have x2 : (192 : Int) ≤ (s[i + 2].toNat : Int) := by omega
            have x3 : decide ((s[i + 2].toNat : Int) < 128) = false := by simp; omega
            clear hc
            go_wp2
            go_ret
            exact ⟨by rw [unhide HF]; rfl, Below.refl _ _⟩
      · have HZ : Hid ((((s[i].toNat : Int) - 224) * 64 + (s[i + 1].toNat : Int) - 128) * 64 + (s[i + 2].toNat : Int) - 128 = (((s[i].toNat - 224) * 4096 + (s[i + 1].toNat - 128) * 64 + (s[i + 2].toNat - 128) : Nat) : Int)) := by show _ = _; omega
        have hz2 : (0 : Int) ≤ (((s[i].toNat : Int) - 224) * 64 + (s[i + 1].toNat : Int) - 128) * 64 + (s[i + 2].toNat : Int) - 128 ∧ (((s[i].toNat : Int) - 224) * 64 + (s[i + 1].toNat : Int) - 128) * 64 + (s[i + 2].toNat : Int) - 128 ≤ 65535 := by omega
        have HC := hide (cmp_3 s i hi h1 h2 h h' p1 q1 p2 q2)
        have HE : Hid ((55296 ≤ (s[i].toNat - 224) * 4096 + (s[i + 1].toNat - 128) * 64 + (s[i + 2].toNat - 128) ∧ (s[i].toNat - 224) * 4096 + (s[i + 1].toNat - 128) * 64 + (s[i + 2].toNat - 128) < 57344) ∨ 1114111 < (s[i].toNat - 224) * 4096 + (s[i + 1].toNat - 128) * 64 + (s[i + 2].toNat - 128) → rl s i = 0) := fun hb => by have e := unhide HR; rw [e, if_neg (by omega)]
        have HE2 : Hid (¬ ((55296 ≤ (s[i].toNat - 224) * 4096 + (s[i + 1].toNat - 128) * 64 + (s[i + 2].toNat - 128) ∧ (s[i].toNat - 224) * 4096 + (s[i + 1].toNat - 128) * 64 + (s[i + 2].toNat - 128) < 57344) ∨ 1114111 < (s[i].toNat - 224) * 4096 + (s[i + 1].toNat - 128) * 64 + (s[i + 2].toNat - 128)) → rl s i = if 2048 ≤ (s[i].toNat - 224) * 4096 + (s[i + 1].toNat - 128) * 64 + (s[i + 2].toNat - 128) then 3 else 0) := fun hb => by have e := unhide HR; rw [e]; exact (Decidable.em (2048 ≤ (s[i].toNat - 224) * 4096 + (s[i + 1].toNat - 128) * 64 + (s[i + 2].toNat - 128))).elim (fun hm => by rw [if_pos hm]; exact if_pos (by omega)) (fun hm => by rw [if_neg hm]; exact if_neg (by omega))
        generalize ((s[i].toNat - 224) * 4096 + (s[i + 1].toNat - 128) * 64 + (s[i + 2].toNat - 128)) = R at *
        generalize (((s[i].toNat : Int) - 224) * 64 + (s[i + 1].toNat : Int) - 128) * 64 + (s[i + 2].toNat : Int) - 128 = z at *
        obtain ⟨z1, z2⟩ := hz2
        have i1 : (i : Int) + 3 ≤ (s.size : Int) := by omega
        have i2 : (i : Int) ≤ (i : Int) + 3 := by omega
        have i3 : (0 : Int) ≤ (i : Int) := by omega
        have hzR := unhide HZ
        by_cases ha : z < 55296
        · have e1 : decide ((1114111 : Int) < z) = false := by simp; omega
          have e2 : decide ((55296 : Int) ≤ z) = false := by simp; omega
          have y1 : ¬ (1114111 : Int) < z := by omega
          have y2 : z < (55296 : Int) := ha
          have HU : Hid (∀ d os, Calls Tryz.prog 163 #[.int .i64 z] (Sort.grow (redrawn w d) os) fun e w'' => e = .returned (.string (strOf (utf R))) ∧ ∃ p : Regrown, w'' = Sort.grow (redrawn w p.d) p.os) := fun d os => Calls.regrown_of (utf8_at _ _ hzR _ (by omega))
          have hm0 : 2048 ≤ R ∨ ¬ 2048 ≤ R := Decidable.em _
          rcases hm0 with hm | hm
          · have HEQ : Hid (rl s i = 3) := by have e := unhide HE2 (by omega); show _ = _; rw [e, if_pos hm]
            rw [decide_eq_true hm] at HC
            have hcmp := unhide HC
            clear hzR HC hm
            generalize strOf (utf R) = us at *
            go_wp2
            refine wp_region_quiet_below (by kernel_rfl) (by kernel_rfl) ?_
            repeat (first | go_big_quiet_step ((go_at_call 163; exact unhide HU _ _)) | quiet_step ((go_at_call 163; exact unhide HU _ _)))
            refine wpQuiet_nil ?_
            intro _ hw'
            obtain ⟨⟨dq, osq⟩, hw''⟩ := hw'
            subst hw''
            go_wp2
            go_ret
            exact ⟨by rw [unhide HEQ]; rfl, below_regrown w dq osq⟩
          · have HEQ : Hid (rl s i = 0) := by have e := unhide HE2 (by omega); show _ = _; rw [e, if_neg hm]
            rw [decide_eq_false hm] at HC
            have hcmp := unhide HC
            clear hzR HC hm
            generalize strOf (utf R) = us at *
            go_wp2
            refine wp_region_quiet_below (by kernel_rfl) (by kernel_rfl) ?_
            repeat (first | go_big_quiet_step ((go_at_call 163; exact unhide HU _ _)) | quiet_step ((go_at_call 163; exact unhide HU _ _)))
            refine wpQuiet_nil ?_
            intro _ hw'
            obtain ⟨⟨dq, osq⟩, hw''⟩ := hw'
            subst hw''
            go_wp2
            go_ret
            exact ⟨by rw [unhide HEQ]; rfl, below_regrown w dq osq⟩
        · by_cases hb : z < 57344
          · have e1 : decide ((1114111 : Int) < z) = false := by simp; omega
            have e2 : decide ((55296 : Int) ≤ z) = true := by simp; omega
            have e3 : decide (z < (57344 : Int)) = true := by simp; omega
            have y1 : ¬ (1114111 : Int) < z := by omega
            have y2 : (55296 : Int) ≤ z := by omega
            have HEQ : Hid (rl s i = 0) := unhide HE (by omega)
            clear hzR HC
            go_wp2
            refine wp_region_quiet_below (by kernel_rfl) (by kernel_rfl) ?_
            repeat (first | go_big_quiet_step (fail) | quiet_step (fail))
            refine wpQuiet_nil ?_
            intro _ hw'
            obtain ⟨⟨dq, osq⟩, hw''⟩ := hw'
            subst hw''
            go_wp2
            go_ret
            exact ⟨by rw [unhide HEQ]; rfl, below_regrown w dq osq⟩
          · have e1 : decide ((1114111 : Int) < z) = false := by simp; omega
            have e2 : decide ((55296 : Int) ≤ z) = true := by simp; omega
            have e3 : decide (z < (57344 : Int)) = false := by simp; omega
            have y1 : ¬ (1114111 : Int) < z := by omega
            have y2 : (55296 : Int) ≤ z := by omega
            have y3 : ¬ z < (57344 : Int) := hb
            have HU : Hid (∀ d os, Calls Tryz.prog 163 #[.int .i64 z] (Sort.grow (redrawn w d) os) fun e w'' => e = .returned (.string (strOf (utf R))) ∧ ∃ p : Regrown, w'' = Sort.grow (redrawn w p.d) p.os) := fun d os => Calls.regrown_of (utf8_at _ _ hzR _ (by omega))
            have hm0 : 2048 ≤ R ∨ ¬ 2048 ≤ R := Decidable.em _
            rcases hm0 with hm | hm
            · have HEQ : Hid (rl s i = 3) := by have e := unhide HE2 (by omega); show _ = _; rw [e, if_pos hm]
              rw [decide_eq_true hm] at HC
              have hcmp := unhide HC
              clear hzR HC hm
              generalize strOf (utf R) = us at *
              go_wp2
              refine wp_region_quiet_below (by kernel_rfl) (by kernel_rfl) ?_
              repeat (first | go_big_quiet_step ((go_at_call 163; exact unhide HU _ _)) | quiet_step ((go_at_call 163; exact unhide HU _ _)))
              refine wpQuiet_nil ?_
              intro _ hw'
              obtain ⟨⟨dq, osq⟩, hw''⟩ := hw'
              subst hw''
              go_wp2
              go_ret
              exact ⟨by rw [unhide HEQ]; rfl, below_regrown w dq osq⟩
            · have HEQ : Hid (rl s i = 0) := by have e := unhide HE2 (by omega); show _ = _; rw [e, if_neg hm]
              rw [decide_eq_false hm] at HC
              have hcmp := unhide HC
              clear hzR HC hm
              generalize strOf (utf R) = us at *
              go_wp2
              refine wp_region_quiet_below (by kernel_rfl) (by kernel_rfl) ?_
              repeat (first | go_big_quiet_step ((go_at_call 163; exact unhide HU _ _)) | quiet_step ((go_at_call 163; exact unhide HU _ _)))
              refine wpQuiet_nil ?_
              intro _ hw'
              obtain ⟨⟨dq, osq⟩, hw''⟩ := hw'
              subst hw''
              go_wp2
              go_ret
              exact ⟨by rw [unhide HEQ]; rfl, below_regrown w dq osq⟩
  · have HF : Hid (rl s i = 0) := by have e := unhide HR; show _ = _; rw [e, if_neg (by omega)]
    have x1 : (s.size : Int) < (i : Int) + 3 := by omega
    go_enter Tryz.func160, Tryz.ntmps160
    go_wp2
    go_ret
    exact ⟨by rw [unhide HF]; rfl, Below.refl _ _⟩
end Go.Proofs.YtocnekbedcnmgaaGreatDoor


namespace Go.Proofs.YtocnekbedcnmgaaGreatDoor
open Go.RowKit

theorem ext_4 (s : ByteArray) (i : Nat) (hi : i < s.size) (h1 : i + 1 < s.size) (h2 : i + 2 < s.size) (h3 : i + 3 < s.size) : (s.extract i (i + 4)).toList = [s[i], s[i + 1], s[i + 2], s[i + 3]] := by
  rw [Lib.toList_data, Lib.extract_data]
  rw [drop_at s i hi]
  rw [drop_at s (i + 1) h1]
  rw [drop_at s (i + 2) h2]
  rw [drop_at s (i + 3) h3]
  rw [show i + 4 - i = 4 from by omega]
  rfl
theorem cmp_4 (s : ByteArray) (i : Nat) (hi : i < s.size) (h1 : i + 1 < s.size) (h2 : i + 2 < s.size) (h3 : i + 3 < s.size) (a : 240 ≤ s[i].toNat) (b : s[i].toNat ≤ 255) (p1 : 128 ≤ s[i + 1].toNat) (q1 : s[i + 1].toNat < 192) (p2 : 128 ≤ s[i + 2].toNat) (q2 : s[i + 2].toNat < 192) (p3 : 128 ≤ s[i + 3].toNat) (q3 : s[i + 3].toNat < 192) : ((strOf (utf ((s[i].toNat - 240) * 262144 + (s[i + 1].toNat - 128) * 4096 + (s[i + 2].toNat - 128) * 64 + (s[i + 3].toNat - 128)))).toList == (s.extract i (i + 4)).toList) = decide (65536 ≤ (s[i].toNat - 240) * 262144 + (s[i + 1].toNat - 128) * 4096 + (s[i + 2].toNat - 128) * 64 + (s[i + 3].toNat - 128)) := by
  rw [ext_4 s i hi h1 h2 h3, Lib.toList_data, strOf_toList]
  by_cases hm : 65536 ≤ (s[i].toNat - 240) * 262144 + (s[i + 1].toNat - 128) * 4096 + (s[i + 2].toNat - 128) * 64 + (s[i + 3].toNat - 128)
  · have hu : utf ((s[i].toNat - 240) * 262144 + (s[i + 1].toNat - 128) * 4096 + (s[i + 2].toNat - 128) * 64 + (s[i + 3].toNat - 128)) = [s[i], s[i + 1], s[i + 2], s[i + 3]] := by
      unfold utf utfZ
      rw [if_neg (by omega), if_neg (by omega), if_neg (by omega)]
      have e0 : 240 + ((s[i].toNat - 240) * 262144 + (s[i + 1].toNat - 128) * 4096 + (s[i + 2].toNat - 128) * 64 + (s[i + 3].toNat - 128)) / 262144 = s[i].toNat := by omega
      have e1 : 128 + ((s[i].toNat - 240) * 262144 + (s[i + 1].toNat - 128) * 4096 + (s[i + 2].toNat - 128) * 64 + (s[i + 3].toNat - 128)) / 4096 % 64 = s[i + 1].toNat := by omega
      have e2 : 128 + ((s[i].toNat - 240) * 262144 + (s[i + 1].toNat - 128) * 4096 + (s[i + 2].toNat - 128) * 64 + (s[i + 3].toNat - 128)) / 64 % 64 = s[i + 2].toNat := by omega
      have e3 : 128 + ((s[i].toNat - 240) * 262144 + (s[i + 1].toNat - 128) * 4096 + (s[i + 2].toNat - 128) * 64 + (s[i + 3].toNat - 128)) % 64 = s[i + 3].toNat := by omega
      rw [e0, e1, e2, e3]
      simp only [List.map_cons, List.map_nil, byte_eq]
    rw [hu, decide_eq_true hm]; simp
  · rw [decide_eq_false hm, beq_eq_false_iff_ne]
    intro e
    have h := congrArg List.length e
    unfold utf utfZ at h
    simp only [List.length_map, List.length_cons, List.length_nil] at h
    split at h
    · simp at h
    · first | omega | (split at h; simp at h; first | omega | (split at h; simp at h; omega))

set_option maxHeartbeats 4000000 in
set_option maxRecDepth 100000 in
theorem rl_4 (s : ByteArray) (i : Nat) (w : World) (hi : i < s.size) (hs : s.size ≤ 1048576) (h : 240 ≤ s[i].toNat) (h' : s[i].toNat ≤ 255) :
    Calls Tryz.prog 160 #[.string s, .int .i64 i] w fun e w' => e = .returned (.int .i64 (rl s i)) ∧ Below w.heap.size w w' := by
  have HR : Hid (rl s i = if 4 ≤ s.size - i ∧ 128 ≤ bt s (i + 1) ∧ bt s (i + 1) < 192 ∧ 128 ≤ bt s (i + 2) ∧ bt s (i + 2) < 192 ∧ 128 ≤ bt s (i + 3) ∧ bt s (i + 3) < 192 ∧ 65536 ≤ (s[i].toNat - 240) * 262144 + (bt s (i + 1) - 128) * 4096 + (bt s (i + 2) - 128) * 64 + (bt s (i + 3) - 128) ∧ (s[i].toNat - 240) * 262144 + (bt s (i + 1) - 128) * 4096 + (bt s (i + 2) - 128) * 64 + (bt s (i + 3) - 128) ≤ 1114111 then 4 else 0) := by
    show _ = _; unfold rl; rw [rlN_4 (by rw [bt_at s i hi]; exact h) (by rw [bt_at s i hi]; omega) (bt_lt _ _) (bt_lt _ _) (bt_lt _ _), bt_at s i hi]
  have hI : (240 : Int) ≤ (s[i].toNat : Int) := by omega
  have hI' : (s[i].toNat : Int) ≤ 255 := by omega
  by_cases hlen : i + 3 < s.size
  · have h1 : i + 1 < s.size := by omega
    have h2 : i + 2 < s.size := by omega
    have h3 : i + 3 < s.size := by omega
    rw [bt_at s (i + 1) h1] at HR
    rw [bt_at s (i + 2) h2] at HR
    rw [bt_at s (i + 3) h3] at HR
    go_enter Tryz.func160, Tryz.ntmps160
    go_wp2
    go_loop [7, 8] (fun r k => (k = .int .i64 1 ∧ r = .int .i64 ((s[i].toNat : Int) - 240)) ∨ (k = .int .i64 2 ∧ 128 ≤ s[i + 1].toNat ∧ s[i + 1].toNat < 192 ∧ r = .int .i64 (((s[i].toNat : Int) - 240) * 64 + (s[i + 1].toNat : Int) - 128)) ∨ (k = .int .i64 3 ∧ 128 ≤ s[i + 1].toNat ∧ s[i + 1].toNat < 192 ∧ 128 ≤ s[i + 2].toNat ∧ s[i + 2].toNat < 192 ∧ r = .int .i64 ((((s[i].toNat : Int) - 240) * 64 + (s[i + 1].toNat : Int) - 128) * 64 + (s[i + 2].toNat : Int) - 128)) ∨ (k = .int .i64 4 ∧ 128 ≤ s[i + 1].toNat ∧ s[i + 1].toNat < 192 ∧ 128 ≤ s[i + 2].toNat ∧ s[i + 2].toNat < 192 ∧ 128 ≤ s[i + 3].toNat ∧ s[i + 3].toNat < 192 ∧ r = .int .i64 (((((s[i].toNat : Int) - 240) * 64 + (s[i + 1].toNat : Int) - 128) * 64 + (s[i + 2].toNat : Int) - 128) * 64 + (s[i + 3].toNat : Int) - 128))) (fun _ k => 4 - (intOf k).toNat)
    case atStart => exact .inl ⟨rfl, rfl⟩
    case round =>
      rcases hrel with ⟨rfl, rfl⟩ | ⟨rfl, p1, q1, rfl⟩ | ⟨rfl, p1, q1, p2, q2, rfl⟩ | ⟨rfl, p1, q1, p2, q2, p3, q3, rfl⟩
      · by_cases hc : 128 ≤ s[i + 1].toNat ∧ s[i + 1].toNat < 192
        · obtain ⟨c1, c2⟩ := hc
          have x1 : ¬ (s[i + 1].toNat : Int) < 128 := by omega
          have x2 : ¬ (192 : Int) ≤ (s[i + 1].toNat : Int) := by omega
          have x3 : decide ((s[i + 1].toNat : Int) < 128) = false := by simp; omega
          go_wp2
          go_round
          case rel => exact .inr (.inl ⟨by go_num, c1, c2, by go_num⟩)
          case measure => simp [intOf]
        · have HF : Hid (rl s i = 0) := by have e := unhide HR; show _ = _; rw [e, if_neg (by omega)]
          rcases (show s[i + 1].toNat < 128 ∨ 192 ≤ s[i + 1].toNat from by omega) with hlow | hhigh
          · have x1 : (s[i + 1].toNat : Int) < 128 := by omega
            clear hc
            go_wp2
            go_ret
            exact ⟨by rw [unhide HF]; rfl, Below.refl _ _⟩
          · have x1 : ¬ (s[i + 1].toNat : Int) < 128 := by omega
            have x2 : (192 : Int) ≤ (s[i + 1].toNat : Int) := by omega
            have x3 : decide ((s[i + 1].toNat : Int) < 128) = false := by simp; omega
            clear hc
            go_wp2
            go_ret
            exact ⟨by rw [unhide HF]; rfl, Below.refl _ _⟩
      · by_cases hc : 128 ≤ s[i + 2].toNat ∧ s[i + 2].toNat < 192
        · obtain ⟨c1, c2⟩ := hc
          have x1 : ¬ (s[i + 2].toNat : Int) < 128 := by omega
          have x2 : ¬ (192 : Int) ≤ (s[i + 2].toNat : Int) := by omega
          have x3 : decide ((s[i + 2].toNat : Int) < 128) = false := by simp; omega
          go_wp2
          go_round
          case rel => exact .inr (.inr (.inl ⟨by go_num, p1, q1, c1, c2, by go_num⟩))
          case measure => simp [intOf]
        · have HF : Hid (rl s i = 0) := by have e := unhide HR; show _ = _; rw [e, if_neg (by omega)]
          rcases (show s[i + 2].toNat < 128 ∨ 192 ≤ s[i + 2].toNat from by omega) with hlow | hhigh
          · have x1 : (s[i + 2].toNat : Int) < 128 := by omega
            clear hc
            go_wp2
            go_ret
            exact ⟨by rw [unhide HF]; rfl, Below.refl _ _⟩
          · have x1 : ¬ (s[i + 2].toNat : Int) < 128 := by omega
            have x2 : (192 : Int) ≤ (s[i + 2].toNat : Int) := by omega
            have x3 : decide ((s[i + 2].toNat : Int) < 128) = false := by simp; omega
            clear hc
            go_wp2
            go_ret
            exact ⟨by rw [unhide HF]; rfl, Below.refl _ _⟩
      · by_cases hc : 128 ≤ s[i + 3].toNat ∧ s[i + 3].toNat < 192
        · obtain ⟨c1, c2⟩ := hc
          have x1 : ¬ (s[i + 3].toNat : Int) < 128 := by omega
          have x2 : ¬ (192 : Int) ≤ (s[i + 3].toNat : Int) := by omega
          have x3 : decide ((s[i + 3].toNat : Int) < 128) = false := by simp; omega
          go_wp2
          go_round
          case rel => exact .inr (.inr (.inr (⟨by go_num, p1, q1, p2, q2, c1, c2, by go_num⟩)))
          case measure => simp [intOf]
        · have HF : Hid (rl s i = 0) := by have e := unhide HR; show _ = _; rw [e, if_neg (by omega)]
          rcases (show s[i + 3].toNat < 128 ∨ 192 ≤ s[i + 3].toNat from by omega) with hlow | hhigh
          · have x1 : (s[i + 3].toNat : Int) < 128 := by omega
            clear hc
            go_wp2
            go_ret
            exact ⟨by rw [unhide HF]; rfl, Below.refl _ _⟩
          · have x1 : ¬ (s[i + 3].toNat : Int) < 128 := by omega
            have x2 : (192 : Int) ≤ (s[i + 3].toNat : Int) := by omega
            have x3 : decide ((s[i + 3].toNat : Int) < 128) = false := by simp; omega
            clear hc
            go_wp2
            go_ret
            exact ⟨by rw [unhide HF]; rfl, Below.refl _ _⟩
      · have HZ : Hid (((((s[i].toNat : Int) - 240) * 64 + (s[i + 1].toNat : Int) - 128) * 64 + (s[i + 2].toNat : Int) - 128) * 64 + (s[i + 3].toNat : Int) - 128 = (((s[i].toNat - 240) * 262144 + (s[i + 1].toNat - 128) * 4096 + (s[i + 2].toNat - 128) * 64 + (s[i + 3].toNat - 128) : Nat) : Int)) := by show _ = _; omega
        have hz2 : (0 : Int) ≤ ((((s[i].toNat : Int) - 240) * 64 + (s[i + 1].toNat : Int) - 128) * 64 + (s[i + 2].toNat : Int) - 128) * 64 + (s[i + 3].toNat : Int) - 128 ∧ ((((s[i].toNat : Int) - 240) * 64 + (s[i + 1].toNat : Int) - 128) * 64 + (s[i + 2].toNat : Int) - 128) * 64 + (s[i + 3].toNat : Int) - 128 ≤ 4194303 := by omega
        have HC := hide (cmp_4 s i hi h1 h2 h3 h h' p1 q1 p2 q2 p3 q3)
        have HE : Hid ((55296 ≤ (s[i].toNat - 240) * 262144 + (s[i + 1].toNat - 128) * 4096 + (s[i + 2].toNat - 128) * 64 + (s[i + 3].toNat - 128) ∧ (s[i].toNat - 240) * 262144 + (s[i + 1].toNat - 128) * 4096 + (s[i + 2].toNat - 128) * 64 + (s[i + 3].toNat - 128) < 57344) ∨ 1114111 < (s[i].toNat - 240) * 262144 + (s[i + 1].toNat - 128) * 4096 + (s[i + 2].toNat - 128) * 64 + (s[i + 3].toNat - 128) → rl s i = 0) := fun hb => by have e := unhide HR; rw [e, if_neg (by omega)]
        have HE2 : Hid (¬ ((55296 ≤ (s[i].toNat - 240) * 262144 + (s[i + 1].toNat - 128) * 4096 + (s[i + 2].toNat - 128) * 64 + (s[i + 3].toNat - 128) ∧ (s[i].toNat - 240) * 262144 + (s[i + 1].toNat - 128) * 4096 + (s[i + 2].toNat - 128) * 64 + (s[i + 3].toNat - 128) < 57344) ∨ 1114111 < (s[i].toNat - 240) * 262144 + (s[i + 1].toNat - 128) * 4096 + (s[i + 2].toNat - 128) * 64 + (s[i + 3].toNat - 128)) → rl s i = if 65536 ≤ (s[i].toNat - 240) * 262144 + (s[i + 1].toNat - 128) * 4096 + (s[i + 2].toNat - 128) * 64 + (s[i + 3].toNat - 128) then 4 else 0) := fun hb => by have e := unhide HR; rw [e]; exact (Decidable.em (65536 ≤ (s[i].toNat - 240) * 262144 + (s[i + 1].toNat - 128) * 4096 + (s[i + 2].toNat - 128) * 64 + (s[i + 3].toNat - 128))).elim (fun hm => by rw [if_pos hm]; exact if_pos (by omega)) (fun hm => by rw [if_neg hm]; exact if_neg (by omega))
        generalize ((s[i].toNat - 240) * 262144 + (s[i + 1].toNat - 128) * 4096 + (s[i + 2].toNat - 128) * 64 + (s[i + 3].toNat - 128)) = R at *
        generalize ((((s[i].toNat : Int) - 240) * 64 + (s[i + 1].toNat : Int) - 128) * 64 + (s[i + 2].toNat : Int) - 128) * 64 + (s[i + 3].toNat : Int) - 128 = z at *
        obtain ⟨z1, z2⟩ := hz2
        have i1 : (i : Int) + 4 ≤ (s.size : Int) := by omega
        have i2 : (i : Int) ≤ (i : Int) + 4 := by omega
        have i3 : (0 : Int) ≤ (i : Int) := by omega
        have hzR := unhide HZ
        by_cases ha : z < 55296
        · have e1 : decide ((1114111 : Int) < z) = false := by simp; omega
          have e2 : decide ((55296 : Int) ≤ z) = false := by simp; omega
          have y1 : ¬ (1114111 : Int) < z := by omega
          have y2 : z < (55296 : Int) := ha
          have HU : Hid (∀ d os, Calls Tryz.prog 163 #[.int .i64 z] (Sort.grow (redrawn w d) os) fun e w'' => e = .returned (.string (strOf (utf R))) ∧ ∃ p : Regrown, w'' = Sort.grow (redrawn w p.d) p.os) := fun d os => Calls.regrown_of (utf8_at _ _ hzR _ (by omega))
          have hm0 : 65536 ≤ R ∨ ¬ 65536 ≤ R := Decidable.em _
          rcases hm0 with hm | hm
          · have HEQ : Hid (rl s i = 4) := by have e := unhide HE2 (by omega); show _ = _; rw [e, if_pos hm]
            rw [decide_eq_true hm] at HC
            have hcmp := unhide HC
            clear hzR HC hm
            generalize strOf (utf R) = us at *
            go_wp2
            refine wp_region_quiet_below (by kernel_rfl) (by kernel_rfl) ?_
            repeat (first | go_big_quiet_step ((go_at_call 163; exact unhide HU _ _)) | quiet_step ((go_at_call 163; exact unhide HU _ _)))
            refine wpQuiet_nil ?_
            intro _ hw'
            obtain ⟨⟨dq, osq⟩, hw''⟩ := hw'
            subst hw''
            go_wp2
            go_ret
            exact ⟨by rw [unhide HEQ]; rfl, below_regrown w dq osq⟩
          · have HEQ : Hid (rl s i = 0) := by have e := unhide HE2 (by omega); show _ = _; rw [e, if_neg hm]
            rw [decide_eq_false hm] at HC
            have hcmp := unhide HC
            clear hzR HC hm
            generalize strOf (utf R) = us at *
            go_wp2
            refine wp_region_quiet_below (by kernel_rfl) (by kernel_rfl) ?_
            repeat (first | go_big_quiet_step ((go_at_call 163; exact unhide HU _ _)) | quiet_step ((go_at_call 163; exact unhide HU _ _)))
            refine wpQuiet_nil ?_
            intro _ hw'
            obtain ⟨⟨dq, osq⟩, hw''⟩ := hw'
            subst hw''
            go_wp2
            go_ret
            exact ⟨by rw [unhide HEQ]; rfl, below_regrown w dq osq⟩
        · by_cases hb : z < 57344
          · have e1 : decide ((1114111 : Int) < z) = false := by simp; omega
            have e2 : decide ((55296 : Int) ≤ z) = true := by simp; omega
            have e3 : decide (z < (57344 : Int)) = true := by simp; omega
            have y1 : ¬ (1114111 : Int) < z := by omega
            have y2 : (55296 : Int) ≤ z := by omega
            have HEQ : Hid (rl s i = 0) := unhide HE (by omega)
            clear hzR HC
            go_wp2
            refine wp_region_quiet_below (by kernel_rfl) (by kernel_rfl) ?_
            repeat (first | go_big_quiet_step (fail) | quiet_step (fail))
            refine wpQuiet_nil ?_
            intro _ hw'
            obtain ⟨⟨dq, osq⟩, hw''⟩ := hw'
            subst hw''
            go_wp2
            go_ret
            exact ⟨by rw [unhide HEQ]; rfl, below_regrown w dq osq⟩
          · by_cases hd : z ≤ 1114111
            · have e1 : decide ((1114111 : Int) < z) = false := by simp; omega
              have e2 : decide ((55296 : Int) ≤ z) = true := by simp; omega
              have e3 : decide (z < (57344 : Int)) = false := by simp; omega
              have y1 : ¬ (1114111 : Int) < z := by omega
              have y2 : (55296 : Int) ≤ z := by omega
              have y3 : ¬ z < (57344 : Int) := hb
              have HU : Hid (∀ d os, Calls Tryz.prog 163 #[.int .i64 z] (Sort.grow (redrawn w d) os) fun e w'' => e = .returned (.string (strOf (utf R))) ∧ ∃ p : Regrown, w'' = Sort.grow (redrawn w p.d) p.os) := fun d os => Calls.regrown_of (utf8_at _ _ hzR _ (by omega))
              have hm0 : 65536 ≤ R ∨ ¬ 65536 ≤ R := Decidable.em _
              rcases hm0 with hm | hm
              · have HEQ : Hid (rl s i = 4) := by have e := unhide HE2 (by omega); show _ = _; rw [e, if_pos hm]
                rw [decide_eq_true hm] at HC
                have hcmp := unhide HC
                clear hzR HC hm
                generalize strOf (utf R) = us at *
                go_wp2
                refine wp_region_quiet_below (by kernel_rfl) (by kernel_rfl) ?_
                repeat (first | go_big_quiet_step ((go_at_call 163; exact unhide HU _ _)) | quiet_step ((go_at_call 163; exact unhide HU _ _)))
                refine wpQuiet_nil ?_
                intro _ hw'
                obtain ⟨⟨dq, osq⟩, hw''⟩ := hw'
                subst hw''
                go_wp2
                go_ret
                exact ⟨by rw [unhide HEQ]; rfl, below_regrown w dq osq⟩
              · have HEQ : Hid (rl s i = 0) := by have e := unhide HE2 (by omega); show _ = _; rw [e, if_neg hm]
                rw [decide_eq_false hm] at HC
                have hcmp := unhide HC
                clear hzR HC hm
                generalize strOf (utf R) = us at *
                go_wp2
                refine wp_region_quiet_below (by kernel_rfl) (by kernel_rfl) ?_
                repeat (first | go_big_quiet_step ((go_at_call 163; exact unhide HU _ _)) | quiet_step ((go_at_call 163; exact unhide HU _ _)))
                refine wpQuiet_nil ?_
                intro _ hw'
                obtain ⟨⟨dq, osq⟩, hw''⟩ := hw'
                subst hw''
                go_wp2
                go_ret
                exact ⟨by rw [unhide HEQ]; rfl, below_regrown w dq osq⟩
            · have e1 : decide ((1114111 : Int) < z) = true := by simp; omega
              have y1 : (1114111 : Int) < z := by omega
              have HEQ : Hid (rl s i = 0) := unhide HE (by omega)
              clear hzR HC
              go_wp2
              refine wp_region_quiet_below (by kernel_rfl) (by kernel_rfl) ?_
              repeat (first | go_big_quiet_step (fail) | quiet_step (fail))
              refine wpQuiet_nil ?_
              intro _ hw'
              obtain ⟨⟨dq, osq⟩, hw''⟩ := hw'
              subst hw''
              go_wp2
              go_ret
              exact ⟨by rw [unhide HEQ]; rfl, below_regrown w dq osq⟩
  · have HF : Hid (rl s i = 0) := by have e := unhide HR; show _ = _; rw [e, if_neg (by omega)]
    have x1 : (s.size : Int) < (i : Int) + 4 := by omega
    go_enter Tryz.func160, Tryz.ntmps160
    go_wp2
    go_ret
    exact ⟨by rw [unhide HF]; rfl, Below.refl _ _⟩
end Go.Proofs.YtocnekbedcnmgaaGreatDoor


namespace Go.Proofs.YtocnekbedcnmgaaGreatDoor
open Go.RowKit

set_option maxHeartbeats 800000 in
set_option maxRecDepth 100000 in
theorem rl_walk (s : ByteArray) (i : Nat) (w : World) (hi : i < s.size) (hs : s.size ≤ 1048576) :
    Calls Tryz.prog 160 #[.string s, .int .i64 i] w fun e w' => e = .returned (.int .i64 (rl s i)) ∧ Below w.heap.size w w' := by
  have hb : s[i].toNat < 256 := UInt8.toNat_lt _
  by_cases h1 : s[i].toNat ≤ 127
  · exact rl_1 s i w hi hs (Nat.zero_le _) h1
  · by_cases h2 : s[i].toNat < 192
    · have HF : Hid (rl s i = 0) := by show _ = _; unfold rl; rw [rlN_cont (by rw [bt_at s i hi]; omega) (by rw [bt_at s i hi]; omega)]
      have hI : (128 : Int) ≤ (s[i].toNat : Int) := by omega
      have hI' : (s[i].toNat : Int) < 192 := by omega
      clear h1 h2 hb
      go_enter Tryz.func160, Tryz.ntmps160
      go_wp2
      go_ret
      exact ⟨by rw [unhide HF]; rfl, Below.refl _ _⟩
    · by_cases h3 : s[i].toNat ≤ 223
      · exact rl_2 s i w hi hs (by omega) h3
      · by_cases h4 : s[i].toNat ≤ 239
        · exact rl_3 s i w hi hs (by omega) h4
        · exact rl_4 s i w hi hs (by omega) (by omega)

theorem decodeL_at (s : ByteArray) (i : Nat) : Lib.decodeL (s.data.toList.drop i) = Lib.decodeN (s.size - i) (bt s i) (bt s (i + 1)) (bt s (i + 2)) (bt s (i + 3)) := by
  rw [Lib.decodeL_drop, dec]
theorem rlN_le (n b0 b1 b2 b3 : Nat) (hn : 1 ≤ n) : rlN n b0 b1 b2 b3 ≤ n := by
  unfold rlN; split
  · exact hn
  · split
    · omega
    · unfold Lib.decodeN
      repeat' split
      all_goals first | omega | (simp only []; omega)
theorem rlN_bad {n b0 b1 b2 b3 : Nat} (h : rlN n b0 b1 b2 b3 = 0) : Lib.decodeN n b0 b1 b2 b3 = (65533, 1) := by
  unfold rlN at h
  split at h
  · omega
  · split at h
    · rename_i h1 h2
      revert h2
      unfold Lib.decodeN
      repeat' split
      all_goals first | (intro h2; rfl) | (intro h2; simp at h2; done) | (intro h2; exfalso; omega)
    · rename_i h1 h2
      have := Lib.decodeN_ge1 n b0 b1 b2 b3; omega
theorem rlN_good {n b0 b1 b2 b3 : Nat} (h : ¬ rlN n b0 b1 b2 b3 = 0) : (Lib.decodeN n b0 b1 b2 b3).2 = rlN n b0 b1 b2 b3 ∧ ¬ ((Lib.decodeN n b0 b1 b2 b3).1 = 65533 ∧ (Lib.decodeN n b0 b1 b2 b3).2 = 1) := by
  unfold rlN at h ⊢
  split at h
  · rename_i h1
    rw [if_pos h1]
    have e : Lib.decodeN n b0 b1 b2 b3 = (b0, 1) := by unfold Lib.decodeN; rw [if_pos h1]
    rw [e]; exact ⟨rfl, fun hh => by have := hh.1; simp at this; omega⟩
  · rename_i h1
    rw [if_neg h1]
    split at h
    · exact absurd rfl h
    · rename_i h2
      rw [if_neg h2]; exact ⟨rfl, fun hh => h2 hh.2⟩
theorem rl_le (s : ByteArray) (i : Nat) (hi : i < s.size) : i + rl s i ≤ s.size := by
  have := rlN_le (s.size - i) (bt s i) (bt s (i + 1)) (bt s (i + 2)) (bt s (i + 3)) (by omega)
  unfold rl; omega
theorem drop_ne (s : ByteArray) (i : Nat) (hi : i < s.size) : s.data.toList.drop i ≠ [] := by rw [drop_at s i hi]; simp
theorem valid_bad (s : ByteArray) (i : Nat) (hi : i < s.size) (h : rl s i = 0) : Lib.validD (s.data.toList.drop i) = false := by
  rw [Lib.validD_step _ (drop_ne s i hi), decodeL_at, rlN_bad h]; rfl
theorem valid_go (s : ByteArray) (i : Nat) (hi : i < s.size) (h : ¬ rl s i = 0) : Lib.validD (s.data.toList.drop i) = Lib.validD (s.data.toList.drop (i + rl s i)) := by
  obtain ⟨h1, h2⟩ := rlN_good h
  rw [Lib.validD_step _ (drop_ne s i hi), decodeL_at, if_neg h2, h1, List.drop_drop]; rfl

end Go.Proofs.YtocnekbedcnmgaaGreatDoor


namespace Go.Proofs.YtocnekbedcnmgaaGreatDoor
open Go.RowKit

theorem take_2 (s : ByteArray) (i : Nat) (hi : i < s.size) (h1 : i + 1 < s.size) : (s.data.toList.drop i).take 2 = [s[i], s[i + 1]] := by
  rw [drop_at s i hi, drop_at s (i + 1) h1]; rfl
theorem take_3 (s : ByteArray) (i : Nat) (hi : i < s.size) (h1 : i + 1 < s.size) (h2 : i + 2 < s.size) : (s.data.toList.drop i).take 3 = [s[i], s[i + 1], s[i + 2]] := by
  rw [drop_at s i hi, drop_at s (i + 1) h1, drop_at s (i + 2) h2]; rfl
theorem take_4 (s : ByteArray) (i : Nat) (hi : i < s.size) (h1 : i + 1 < s.size) (h2 : i + 2 < s.size) (h3 : i + 3 < s.size) : (s.data.toList.drop i).take 4 = [s[i], s[i + 1], s[i + 2], s[i + 3]] := by
  rw [drop_at s i hi, drop_at s (i + 1) h1, drop_at s (i + 2) h2, drop_at s (i + 3) h3]; rfl
theorem toU8 (c : UInt8) (x : Int) (h : x = (c.toNat : Int)) : x.toNat.toUInt8 = c := by
  subst h; rw [Int.toNat_natCast]; exact UInt8.ofNat_toNat

set_option maxRecDepth 100000 in
/-- A rune of several bytes, written again, is its bytes. -/
theorem enc_multi (s : ByteArray) (i : Nat) (hi : i < s.size) (hv : ¬ rl s i = 0) (h8 : ¬ s[i].toNat < 128) :
    Lib.encodeRune ((Utf8.decode s i).1 : Nat) = (s.data.toList.drop i).take (rl s i) ∧ (∀ c ∈ (s.data.toList.drop i).take (rl s i), 128 ≤ c.toNat) ∧ 128 ≤ (Utf8.decode s i).1 ∧ (Utf8.decode s i).2 = rl s i := by
  have hb0 := bt_at s i hi
  have hw : (Utf8.decode s i).2 = rl s i := by rw [dec]; exact (rlN_good hv).1
  have h192 : 192 ≤ s[i].toNat := by
    rcases Nat.lt_or_ge s[i].toNat 192 with h | h
    · exact absurd (show rl s i = 0 by unfold rl; rw [rlN_cont (by rw [hb0]; omega) (by rw [hb0]; exact h)]) hv
    · exact h
  by_cases h2 : s[i].toNat < 224
  · have e := rlN_2 (n := s.size - i) (b0 := bt s i) (b1 := bt s (i + 1)) (b2 := bt s (i + 2)) (b3 := bt s (i + 3)) (by rw [hb0]; exact h192) (by rw [hb0]; exact h2) (bt_lt _ _)
    change rl s i = _ at e
    by_cases hc : 2 ≤ s.size - i ∧ 128 ≤ bt s (i + 1) ∧ bt s (i + 1) < 192 ∧ 128 ≤ (bt s i - 192) * 64 + (bt s (i + 1) - 128)
    · rw [if_pos hc] at e
      obtain ⟨c1, c2, c3, c4⟩ := hc
      have h1 : i + 1 < s.size := by omega
      have b1 := bt_at s (i + 1) h1
      have ed : Utf8.decode s i = (bt s i % 32 * 64 + bt s (i + 1) % 64, 2) := by
        rw [dec]; unfold Lib.decodeN
        rw [if_neg (by omega), if_pos ⟨by omega, by omega, by omega⟩, if_pos (by omega)]
      rw [e, ed, take_2 s i hi h1]
      refine ⟨?_, ?_, by simp only; omega, rfl⟩
      · unfold Lib.encodeRune
        rw [Lib.encodeRuneZ_two (by simp only; omega) (by simp only; omega)]
        simp only [List.map_cons, List.map_nil]
        rw [toU8 s[i] _ (by omega), toU8 s[i + 1] _ (by omega)]
      · intro c hc; simp at hc; rcases hc with rfl | rfl <;> omega
    · rw [if_neg hc] at e; exact absurd e hv
  · by_cases h3 : s[i].toNat < 240
    · have e := rlN_3 (n := s.size - i) (b0 := bt s i) (b1 := bt s (i + 1)) (b2 := bt s (i + 2)) (b3 := bt s (i + 3)) (by rw [hb0]; omega) (by rw [hb0]; exact h3) (bt_lt _ _) (bt_lt _ _)
      change rl s i = _ at e
      split at e
      · rename_i hc
        obtain ⟨c1, c2, c3, c4, c5, c6, c7⟩ := hc
        have h1 : i + 1 < s.size := by omega
        have h2' : i + 2 < s.size := by omega
        have b1 := bt_at s (i + 1) h1
        have b2 := bt_at s (i + 2) h2'
        have ed : Utf8.decode s i = (bt s i % 16 * 4096 + bt s (i + 1) % 64 * 64 + bt s (i + 2) % 64, 3) := by
          rw [dec]; unfold Lib.decodeN
          rw [if_neg (by omega), if_neg (by omega), if_pos ⟨by omega, ⟨by omega, by omega⟩, by omega, by omega⟩, if_pos (by omega)]
        rw [e, ed, take_3 s i hi h1 h2']
        refine ⟨?_, ?_, by simp only; omega, rfl⟩
        · unfold Lib.encodeRune
          rw [Lib.encodeRuneZ_three (by simp only; omega)]
          simp only [List.map_cons, List.map_nil]
          rw [toU8 s[i] _ (by omega), toU8 s[i + 1] _ (by omega), toU8 s[i + 2] _ (by omega)]
        · intro c hc; simp at hc; rcases hc with rfl | rfl | rfl <;> omega
      · exact absurd e hv
    · have hlt : s[i].toNat < 256 := UInt8.toNat_lt _
      have e := rlN_4 (n := s.size - i) (b0 := bt s i) (b1 := bt s (i + 1)) (b2 := bt s (i + 2)) (b3 := bt s (i + 3)) (by rw [hb0]; omega) (by rw [hb0]; exact hlt) (bt_lt _ _) (bt_lt _ _) (bt_lt _ _)
      change rl s i = _ at e
      split at e
      · rename_i hc
        obtain ⟨c1, c2, c3, c4, c5, c6, c7, c8, c9⟩ := hc
        have h1 : i + 1 < s.size := by omega
        have h2' : i + 2 < s.size := by omega
        have h3' : i + 3 < s.size := by omega
        have b1 := bt_at s (i + 1) h1
        have b2 := bt_at s (i + 2) h2'
        have b3 := bt_at s (i + 3) h3'
        have ed : Utf8.decode s i = (bt s i % 8 * 262144 + bt s (i + 1) % 64 * 4096 + bt s (i + 2) % 64 * 64 + bt s (i + 3) % 64, 4) := by
          rw [dec]; unfold Lib.decodeN
          rw [if_neg (by omega), if_neg (by omega), if_neg (by omega), if_pos ⟨by omega, ⟨by omega, by omega⟩, ⟨by omega, by omega⟩, by omega, by omega⟩, if_pos (by omega)]
        rw [e, ed, take_4 s i hi h1 h2' h3']
        refine ⟨?_, ?_, by simp only; omega, rfl⟩
        · unfold Lib.encodeRune
          rw [Lib.encodeRuneZ_four (by simp only; omega) (by simp only; omega)]
          simp only [List.map_cons, List.map_nil]
          rw [toU8 s[i] _ (by omega), toU8 s[i + 1] _ (by omega), toU8 s[i + 2] _ (by omega), toU8 s[i + 3] _ (by omega)]
        · intro c hc; simp at hc; rcases hc with rfl | rfl | rfl | rfl <;> omega
      · exact absurd e hv
end Go.Proofs.YtocnekbedcnmgaaGreatDoor


namespace Go.Proofs.YtocnekbedcnmgaaGreatDoor
open Go.RowKit

end Go.Proofs.YtocnekbedcnmgaaGreatDoor


namespace Go.Proofs.YtocnekbedcnmgaaGreatDoor
open Go.RowKit

theorem SS.drewN {w : World} {xa : Option Addr} {xb xo : Nat} {ss : List ByteArray} (h : SS w xa xb xo ss) (n : Nat) : SS (w.drewN n) xa xb xo ss := ⟨h.ad, h.cell⟩

end Go.Proofs.YtocnekbedcnmgaaGreatDoor


namespace Go.Proofs.YtocnekbedcnmgaaGreatDoor
open Go.RowKit

end Go.Proofs.YtocnekbedcnmgaaGreatDoor


namespace Go.Proofs.YtocnekbedcnmgaaGreatDoor
open Go.RowKit

structure BS (w : World) (xa : Option Addr) (xb xo : Nat) (l : List UInt8) : Prop where
  ad : 0 < l.length → xa = some ⟨xb, xo, none⟩
  cell : ∀ j, j < l.length → w.cell? ⟨xb, xo + j, none⟩ = some (.int .u8 (l.getD j 0).toNat)
theorem BS.grown {w w' : World} {xa : Option Addr} {xb xo : Nat} {l : List UInt8} {r : Option Nat} (h : BS w xa xb xo l) (hg : w.grownBy w' r) (hne : 0 < l.length → some xb ≠ r) : BS w' xa xb xo l :=
  ⟨h.ad, fun j hj => hg.cell (h.cell j hj) (hne (by omega))⟩
theorem BS.below {w w' : World} {xa : Option Addr} {xb xo : Nat} {l : List UInt8} (h : BS w xa xb xo l) (hb : Below w.heap.size w w') : BS w' xa xb xo l :=
  ⟨h.ad, fun j hj => (hb.cell (p := ⟨xb, xo + j, none⟩) (World.block_lt_of_cell? _ _ (h.cell j hj))).trans (h.cell j hj)⟩
theorem BS.take {w : World} {xa : Option Addr} {xb xo : Nat} {l : List UInt8} (h : BS w xa xb xo l) (n : Nat) : BS w xa xb xo (l.take n) :=
  ⟨fun h0 => h.ad (by rw [List.length_take] at h0; omega), fun j hj => by
    rw [List.length_take] at hj
    rw [h.cell j (by omega)]; simp [List.getD, show j < n from by omega]⟩

/-- The reader of drawn bytes: block rb holds it; its bytes lie below B. -/
def RdIs (w : World) (B rb : Nat) : Prop := ∃ (a : Option Addr) (c p : Nat) (l : List UInt8) (bb bo : Nat), w.heap[rb]? = some (.cells #[.slice a l.length c, .int .i64 p] 172 (0, 0)) ∧ B ≤ rb ∧ p ≤ l.length + 300 ∧ l.length ≤ 1200 ∧ BS w a bb bo l ∧ (0 < l.length → bb < B)
theorem RdIs.lt {w : World} {B rb : Nat} (h : RdIs w B rb) : rb < w.heap.size := by
  obtain ⟨a, c, p, l, bb, bo, hh, _⟩ := h; exact (Array.getElem?_eq_some_iff.1 hh).1
theorem RdIs.grown {w w' : World} {B rb : Nat} {r : Option Nat} (h : RdIs w B rb) (hg : w.grownBy w' r) (hne : some rb ≠ r) (hB : ∀ k, r = some k → B ≤ k) : RdIs w' B rb := by
  have hlt := h.lt
  obtain ⟨a, c, p, l, bb, bo, hh, h1, h2, h3, h4, h5⟩ := h
  exact ⟨a, c, p, l, bb, bo, (hg.block rb hlt hne).trans hh, h1, h2, h3, h4.grown hg (fun h0 e => by have := hB bb e.symm; have := h5 h0; omega), h5⟩
theorem grownBy_trans {w w1 w2 : World} {r : Option Nat} (h : w.grownBy w1 r) (k : w1.grownBy w2 r) : w.grownBy w2 r :=
  ⟨k.os.trans h.os, k.tape.trans h.tape, k.output.trans h.output, Nat.le_trans h.size k.size, fun j hj hne => (k.block j (Nat.lt_of_lt_of_le hj h.size) hne).trans (h.block j hj hne)⟩
/-- Writes to a row that was not there at the start: nothing of the start has turned but row r. -/
theorem grownBy_new {w w1 w2 : World} {r : Option Nat} {s : Option Nat} (h : w.grownBy w1 r) (k : w1.grownBy w2 s) (hs : ∀ j, s = some j → w.heap.size ≤ j) : w.grownBy w2 r :=
  ⟨k.os.trans h.os, k.tape.trans h.tape, k.output.trans h.output, Nat.le_trans h.size k.size, fun j hj hne => (k.block j (Nat.lt_of_lt_of_le hj h.size) (fun e => by have := hs j e.symm; omega)).trans (h.block j hj hne)⟩
theorem grownBy_below {w w1 : World} {r : Option Nat} (h : Below w.heap.size w w1) : w.grownBy w1 r := ⟨h.os, h.tape, h.output, h.size, fun k hk _ => h.block k hk⟩
theorem heap_set (w : World) (rb : Nat) (x y z : Value) (T : TypeId) (h : w.heap[rb]? = some (.cells #[x, y] T (0, 0))) : (w.setCell ⟨rb, 1, none⟩ z).heap[rb]? = some (.cells #[x, z] T (0, 0)) := by
  have := heap_setCell_same w rb 1 #[x, y] T z h
  simpa using this

theorem grown_setD (w : World) (n rb i : Nat) (z : Value) : w.grownBy ((w.drewN n).setCell ⟨rb, i, none⟩ z) (some rb) :=
  ⟨rfl, rfl, rfl, by simp [World.setCell], fun k _ hne => Below.heap_setCell (w.drewN n) ⟨rb, i, none⟩ z k (fun e => hne (by rw [e]))⟩
theorem grown_draws (w : World) (n : Nat) (r : Option Nat) : w.grownBy (w.drewN n) r := ⟨rfl, rfl, rfl, Nat.le_refl _, fun _ _ _ => rfl⟩

set_option maxHeartbeats 800000 in
theorem next_walk (B rb : Nat) (w : World) (h : RdIs w B rb) :
    Calls Tryz.prog 65 #[.pointer (some ⟨rb, 0, none⟩)] w fun e w' => ∃ x : Nat, x ≤ 255 ∧ e = .returned (.int .i64 x) ∧ RdIs w' B rb ∧ w.grownBy w' (some rb) := by
  obtain ⟨a, c, p, l, bb, bo, hh, hB, hp, hl, hbs, hbb⟩ := h
  have c0 : w.cell? ⟨rb, 0, none⟩ = some (.slice a l.length c) := by rw [Lib.cell_of_heap hh]; rfl
  have c1 : w.cell? ⟨rb, 1, none⟩ = some (.int .i64 p) := by rw [Lib.cell_of_heap hh]; rfl
  have f1 : w.frozen? ⟨rb, 1, none⟩ = false := Lib.frozen_of_heap hh 1
  have HH := hide hh
  have HBS := hide hbs
  clear hh hbs
  by_cases hlt : p < l.length
  · have ca := (unhide HBS).cell p hlt
    obtain rfl := (unhide HBS).ad (by omega)
    have hx : (l.getD p 0).toNat ≤ 255 := by have := UInt8.toNat_lt (l.getD p 0); omega
    generalize (l.getD p 0).toNat = x at *
    have hltI : (p : Int) < (l.length : Int) := by omega
    go_enter Tryz.func65, Tryz.ntmps65
    go_wp2
    go_quiet (fail)
    go_wp2
    go_quiet (fail)
    go_wp2
    go_ret
    refine ⟨x, hx, rfl, ⟨_, c, p + 1, l, bb, bo, ?_, hB, by omega, hl, (unhide HBS).grown (grown_setD w _ rb 1 _) (fun h0 e => by have := hbb h0; injection e with e; omega), hbb⟩, grown_setD w _ rb 1 _⟩
    exact heap_set _ rb _ _ _ _ (unhide HH)
  · have hltI : ¬ (p : Int) < (l.length : Int) := by omega
    go_enter Tryz.func65, Tryz.ntmps65
    go_wp2
    go_quiet (fail)
    go_wp2
    go_ret
    exact ⟨0, by omega, rfl, ⟨a, c, p, l, bb, bo, unhide HH, hB, hp, hl, (unhide HBS).grown (grown_draws w _ none) (fun _ e => by cases e), hbb⟩, grown_draws w _ _⟩

set_option maxHeartbeats 800000 in
theorem key_walk (k : Nat) (w : World) (hk : k ≤ 255) :
    Calls Tryz.prog 147 #[.int .i64 k] w fun e w' => ∃ t : List UInt8, t.length ≤ 3 ∧ e = .returned (.string (baT t)) ∧ w = w' := by
  by_cases h4 : k % 12 < 4
  · rcases (show k % 12 = 0 ∨ k % 12 = 1 ∨ k % 12 = 2 ∨ k % 12 = 3 from by omega) with h | h | h | h
    · have e : (k : Int) % 12 = 0 := by omega
      clear h4 h hk
      go_enter Tryz.func147, Tryz.ntmps147
      go_wp2
      go_ret
      exact ⟨[97], by decide, rfl, rfl⟩
    · have e : (k : Int) % 12 = 1 := by omega
      clear h4 h hk
      go_enter Tryz.func147, Tryz.ntmps147
      go_wp2
      go_ret
      exact ⟨[98], by decide, rfl, rfl⟩
    · have e : (k : Int) % 12 = 2 := by omega
      clear h4 h hk
      go_enter Tryz.func147, Tryz.ntmps147
      go_wp2
      go_ret
      exact ⟨[99], by decide, rfl, rfl⟩
    · have e : (k : Int) % 12 = 3 := by omega
      clear h4 h hk
      go_enter Tryz.func147, Tryz.ntmps147
      go_wp2
      go_ret
      exact ⟨[100], by decide, rfl, rfl⟩
  · have h4' : (4 : Int) ≤ (k : Int) % 12 := by omega
    go_enter Tryz.func147, Tryz.ntmps147
    go_wp2
    all_goals go_ret
    all_goals first
      | exact ⟨[48], by decide, rfl, rfl⟩
      | exact ⟨[49, 50], by decide, rfl, rfl⟩
      | exact ⟨[97, 47, 98], by decide, rfl, rfl⟩
      | exact ⟨[126, 116], by decide, rfl, rfl⟩
      | exact ⟨[195, 169], by decide, rfl, rfl⟩
      | exact ⟨[], by decide, rfl, rfl⟩
      | exact ⟨[45], by decide, rfl, rfl⟩
      | exact ⟨[120, 39, 92], by decide, rfl, rfl⟩
end Go.Proofs.YtocnekbedcnmgaaGreatDoor


namespace Go.Proofs.YtocnekbedcnmgaaGreatDoor
open Go.RowKit

theorem own_grown {w w1 : World} {B e size n : Nat} {v : Value} {xs : List Value} {r : Option Nat} (h : w.ownsRow B e size v n xs) (hg : w.grownBy w1 r) (hr : ∀ k, r = some k → k < B) : w1.ownsRow B e size v n xs := by
  refine h.kept hg ?_
  cases hv : v.ownBlock with
  | none => exact .inl rfl
  | some k => refine .inr (fun e => ?_); have := (h.lt k hv).1; have := hr k e.symm; omega

set_option maxHeartbeats 800000 in
theorem open_walk (xa : Option Addr) (xb xo xc : Nat) (l : List UInt8) (w : World) (h : BS w xa xb xo l) (hl : l.length ≤ 1048576) (hc : l.length ≤ xc) :
    Calls Tryz.prog 55 #[.slice xa l.length xc] w fun e w' => e = .returned (.pointer (some ⟨w.heap.size, 0, none⟩)) ∧ RdIs w' w.heap.size w.heap.size ∧ Below w.heap.size w w' ∧ w'.heap.size = w.heap.size + 1 := by
  have hbb : 0 < l.length → xb < w.heap.size := fun h0 => World.block_lt_of_cell? _ _ (h.cell 0 h0)
  have HB := hide h
  have HBB := hide hbb
  clear h hbb
  by_cases hgt : 1200 < l.length
  · have hgtI : (1200 : Int) < (l.length : Int) := by omega
    go_enter Tryz.func55, Tryz.ntmps55
    go_wp2
    go_ret
    refine ⟨rfl, ⟨_, xc, 0, l.take 1200, xb, xo, ?_, Nat.le_refl _, Nat.zero_le _, by rw [List.length_take]; omega, ((unhide HB).take 1200).grown (World.grownBy_alloc w _ none) (fun _ e => by cases e), fun _ => unhide HBB (by omega)⟩, (Below.refl _ _).alloc (Nat.le_refl _) _, by simp⟩
    rw [heap_alloc_new]; rw [List.length_take, Nat.min_eq_left (by omega)]; rfl
  · have hgtI : ¬ (1200 : Int) < (l.length : Int) := by omega
    go_enter Tryz.func55, Tryz.ntmps55
    go_wp2
    go_ret
    refine ⟨rfl, ⟨_, xc, 0, l, xb, xo, ?_, Nat.le_refl _, Nat.zero_le _, by omega, (unhide HB).grown (World.grownBy_alloc w _ none) (fun _ e => by cases e), unhide HBB⟩, (Below.refl _ _).alloc (Nat.le_refl _) _, by simp⟩
    rw [heap_alloc_new]; rfl

/-- Appending one owned row of texts to another. -/
theorem OT.cells {w : World} {B : Nat} {v : Value} {ts : List (List UInt8)} (h : OT w B v ts) : (v = .slice none 0 0 ∧ ts = []) ∨ ∃ g cap, v = .slice (some ⟨g, 0, none⟩) ts.length cap ∧ (∀ j u, (ts.map tokCell)[j]? = some u → w.cell? ((⟨g, 0, none⟩ : Addr).add j) = some u) := by
  rcases h.2 with ⟨hv, h0⟩ | ⟨g, cap, cur, hv, _⟩
  · exact .inl ⟨hv, List.eq_nil_of_length_eq_zero h0⟩
  · refine .inr ⟨g, cap, hv, fun j u hj => ?_⟩
    subst hv
    exact World.ownsRow.cells h rfl j u hj
end Go.Proofs.YtocnekbedcnmgaaGreatDoor


namespace Go.Proofs.YtocnekbedcnmgaaGreatDoor
open Go.RowKit

end Go.Proofs.YtocnekbedcnmgaaGreatDoor


namespace Go.Proofs.YtocnekbedcnmgaaGreatDoor

end Go.Proofs.YtocnekbedcnmgaaGreatDoor


namespace Go.Proofs.YtocnekbedcnmgaaGreatDoor

theorem unesc_esc : ∀ t : List UInt8, unesc (esc t) = some t
  | [] => rfl
  | c :: t => by
    have ih := unesc_esc t
    have e : esc (c :: t) = escB c ++ esc t := by simp [esc]
    rw [e]
    by_cases h1 : (c.toNat : Int) = 126
    · rw [escB_126 h1]
      show unesc (126 :: 48 :: esc t) = _
      rw [unesc_0 _ (by decide) (by decide), ih]
      have : c = 126 := by have := UInt8.ofNat_toNat (x := c); rw [show c.toNat = 126 from by omega] at this; exact this.symm
      subst this; rfl
    · by_cases h2 : (c.toNat : Int) = 47
      · rw [escB_47 h2]
        show unesc (126 :: 49 :: esc t) = _
        rw [unesc_1 _ (by decide) (by decide), ih]
        have : c = 47 := by have := UInt8.ofNat_toNat (x := c); rw [show c.toNat = 47 from by omega] at this; exact this.symm
        subst this; rfl
      · rw [escB_other h1 h2]
        show unesc (c :: esc t) = _
        rw [unesc_lit _ h1, ih]; rfl
theorem esc_noR (t : List UInt8) : ∀ c ∈ esc t, ¬ c.toNat = 47 := by
  intro c hc
  unfold esc at hc
  obtain ⟨a, _, ha⟩ := List.mem_flatMap.1 hc
  unfold escB at ha
  split at ha
  · simp at ha; rcases ha with rfl | rfl <;> decide
  · split at ha
    · simp at ha; rcases ha with rfl | rfl <;> decide
    · simp at ha; subst ha; assumption
theorem ptrText_cons (s : ByteArray) (ss : List ByteArray) : ptrText (s :: ss) = 47 :: (esc s.data.toList ++ ptrText ss) := by simp [ptrText]
theorem pieces_text : ∀ (ss : List ByteArray) (t : List UInt8), pieces (esc t ++ ptrText ss) = esc t :: ss.map (fun s => esc s.data.toList)
  | [], t => by show pieces (esc t ++ []) = _; rw [List.append_nil, pieces_one (esc_noR t)]; rfl
  | s :: ss, t => by rw [ptrText_cons, pieces_app (esc_noR t) (by decide), pieces_text ss]; rfl
theorem mapM_esc : ∀ ts : List (List UInt8), (ts.map esc).mapM unesc = some ts
  | [] => rfl
  | t :: ts => by rw [List.map_cons, List.mapM_cons, unesc_esc, mapM_esc ts]; rfl
theorem ptoks_text (ts : List (List UInt8)) : ptoks (ptrText (ts.map baT)) = some ts := by
  cases ts with
  | nil => rfl
  | cons t ts =>
    rw [List.map_cons, ptrText_cons, ptoks, if_pos (by decide)]
    show toks (esc t ++ ptrText (ts.map baT)) = _
    unfold toks
    rw [pieces_text, List.map_map]
    have : (esc t :: List.map ((fun s => esc s.data.toList) ∘ baT) ts) = (t :: ts).map esc := by simp [baT]
    rw [this, mapM_esc]
end Go.Proofs.YtocnekbedcnmgaaGreatDoor


namespace Go.Proofs.YtocnekbedcnmgaaGreatDoor
open Go.ChangeShapes Go.WideShapes Go.ChangeAt Go.RowKit

theorem byte_of {n : Int} (h : (Lit.int .u8 n).wf = true) : ((UInt8.ofNat n.toNat).toNat : Int) = n := by
  have hb := bounds_u8 h
  rw [UInt8.toNat_ofNat']; omega
theorem bytes_of {W : World} {x : Addr} {len cap : Nat} {zs : List Int} (hl : len ≤ cap) (hz : zs.length = cap) (hcell : ∀ i, i < zs.length → W.cell? (x.add i) = some (.int .u8 (zs.getD i 0))) (hwz : ∀ n ∈ zs, (Lit.int .u8 n).wf = true) :
    ∃ bb bo l, len = List.length l ∧ BS W (some x) bb bo l ∧ l.length ≤ cap := by
  obtain ⟨b, off, spot⟩ := x
  by_cases h0 : len = 0
  · exact ⟨0, 0, [], h0, ⟨fun h => absurd h (by simp), fun j hj => absurd hj (by simp)⟩, Nat.zero_le _⟩
  · have hc := hcell 0 (by omega)
    have hspot : spot = none := by simpa [Addr.add] using World.cell?_spot hc
    subst hspot
    have hlt : ((zs.take len).map (fun n => UInt8.ofNat n.toNat)).length = len := by simp; omega
    refine ⟨b, off, (zs.take len).map (fun n => UInt8.ofNat n.toNat), hlt.symm, ⟨fun _ => rfl, fun j hj => ?_⟩, by omega⟩
    have hj' : j < zs.length := by omega
    have hcj := hcell j hj'
    rw [Go.WideShapes.add_plain] at hcj
    rw [hcj]
    have e : zs.getD j 0 = zs[j] := by simp [hj']
    have hb := byte_of (hwz zs[j] (List.getElem_mem hj'))
    have e2 : ((zs.take len).map (fun n => UInt8.ofNat n.toNat)).getD j 0 = UInt8.ofNat zs[j].toNat := by
      have : j < len := by omega
      simp [List.getD, this, hj']
    rw [e, e2, hb]
end Go.Proofs.YtocnekbedcnmgaaGreatDoor

