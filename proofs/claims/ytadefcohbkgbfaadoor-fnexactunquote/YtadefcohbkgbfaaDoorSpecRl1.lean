import Derived.Test.YtadefcohbkgbfaaDoorSpecUtf8
import Derived.Deep.QuietTactic
import Derived.BigQuiet
import Derived.Lib.QuietBelow
namespace Go.Proofs.YtadefcohbkgbfaaDoor
open Go.RowKit

theorem utf8_at (z : Int) (r : Nat) (hz : z = (r : Int)) (w : World) (hr : r ≤ 1114111) :
    Calls Tryd.prog 56 #[.int .i64 z] w fun e w' => e = .returned (.string (strOf (utf r))) ∧ Below w.heap.size w w' := by
  subst hz; exact utf8_walk r w hr
theorem byte_eq (c : UInt8) : UInt8.ofNat c.toNat = c := UInt8.ofNat_toNat

theorem ext_1 (s : ByteArray) (i : Nat) (hi : i < s.size)  : (s.extract i (i + 1)).toList = [s[i]] := by
  rw [Lib.toList_data, Lib.extract_data]
  rw [drop_at s i hi]
  rw [show i + 1 - i = 1 from by omega]
  rfl
theorem cmp_1 (s : ByteArray) (i : Nat) (hi : i < s.size)  (a : 0 ≤ s[i].toNat) (b : s[i].toNat ≤ 127)  : ((strOf (utf (s[i].toNat))).toList == (s.extract i (i + 1)).toList) = decide (0 ≤ s[i].toNat) := by
  rw [ext_1 s i hi , Lib.toList_data, strOf_toList]
  by_cases hm : 0 ≤ s[i].toNat
  · have hu : utf (s[i].toNat) = [s[i]] := by
      unfold utf utfZ
      rw [if_pos (by omega)]
      simp only [List.map_cons, List.map_nil, byte_eq]
    rw [hu, decide_eq_true hm]; simp
  · omega

set_option maxHeartbeats 800000 in
set_option maxRecDepth 100000 in
theorem rl_1 (s : ByteArray) (i : Nat) (w : World) (hi : i < s.size) (hs : s.size ≤ 1048576) (h : 0 ≤ s[i].toNat) (h' : s[i].toNat ≤ 127) :
    Calls Tryd.prog 42 #[.string s, .int .i64 i] w fun e w' => e = .returned (.int .i64 (rl s i)) ∧ Below w.heap.size w w' := by
  have HR : Hid (rl s i = 1) := by show _ = _; unfold rl; rw [rlN_one (by rw [bt_at s i hi]; omega)]
  have hI : (0 : Int) ≤ (s[i].toNat : Int) := by omega
  have hI' : (s[i].toNat : Int) ≤ 127 := by omega
  go_enter Tryd.func42, Tryd.ntmps42
  go_wp2
  go_loop [7, 8] (fun r k => (k = .int .i64 1 ∧ r = .int .i64 ((s[i].toNat : Int)))) (fun _ k => 1 - (intOf k).toNat)
  case atStart => exact ⟨rfl, rfl⟩
  case round =>
    obtain ⟨rfl, rfl⟩ := hrel
    have HZ : Hid ((s[i].toNat : Int) = ((s[i].toNat : Nat) : Int)) := by show _ = _; omega
    have hz2 : (0 : Int) ≤ (s[i].toNat : Int) ∧ (s[i].toNat : Int) ≤ 127 := by omega
    have HC := hide (cmp_1 s i hi  h h' )
    have HE : Hid (rl s i = if 0 ≤ s[i].toNat then 1 else 0) := by have e := unhide HR; show _ = _; rw [e, if_pos (by omega)]
    obtain ⟨z1, z2⟩ := hz2
    have i1 : (i : Int) + 1 ≤ (s.size : Int) := by omega
    have i2 : (i : Int) ≤ (i : Int) + 1 := by omega
    have i3 : (0 : Int) ≤ (i : Int) := by omega
    have hzR := unhide HZ
    have e1 : decide ((1114111 : Int) < (s[i].toNat : Int)) = false := by simp; omega
    have e2 : decide ((55296 : Int) ≤ (s[i].toNat : Int)) = false := by simp; omega
    have y1 : ¬ (1114111 : Int) < (s[i].toNat : Int) := by omega
    have y2 : (s[i].toNat : Int) < (55296 : Int) := by omega
    have HU : Hid (∀ d os, Calls Tryd.prog 56 #[.int .i64 (s[i].toNat : Int)] (Sort.grow (redrawn w d) os) fun e w'' => e = .returned (.string (strOf (utf s[i].toNat))) ∧ ∃ p : Regrown, w'' = Sort.grow (redrawn w p.d) p.os) := fun d os => Calls.regrown_of (utf8_at _ _ hzR _ (by omega))
    have hm0 : 0 ≤ s[i].toNat ∨ ¬ 0 ≤ s[i].toNat := Decidable.em _
    rcases hm0 with hm | hm
    · have HEQ : Hid (rl s i = 1) := by have e := unhide HE; show _ = _; rw [e, if_pos hm]
      rw [decide_eq_true hm] at HC
      have hcmp := unhide HC
      clear hzR HC hm
      generalize strOf (utf s[i].toNat) = us at *
      go_wp2
      refine wp_region_quiet_below (by kernel_rfl) (by kernel_rfl) ?_
      repeat (first | go_big_quiet_step ((go_at_call 56; exact unhide HU _ _)) | quiet_step ((go_at_call 56; exact unhide HU _ _)))
      refine wpQuiet_nil ?_
      intro _ hw'
      obtain ⟨⟨dq, osq⟩, hw''⟩ := hw'
      subst hw''
      go_wp2
      go_ret
      exact ⟨by rw [unhide HEQ]; rfl, below_regrown w dq osq⟩
    · omega
end Go.Proofs.YtadefcohbkgbfaaDoor
