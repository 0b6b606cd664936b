import Derived.Deep.QuietTactic
import Derived.BigQuiet
import Derived.Test.YtcjajchfjoffnaaGreatDoorBto1
import Derived.Lib.QuietBelow
import Derived.Lib.ValidLaws
import Derived.Lib.RuneCount
namespace Go.Proofs.YtcjajchfjoffnaaGreatDoor
open Go.RowKit

theorem SS.drewN {w : World} {xa : Option Addr} {xb xo : Nat} {ss : List ByteArray} (h : SS w xa xb xo ss) (n : Nat) : SS (w.drewN n) xa xb xo ss := ⟨h.ad, h.cell⟩

set_option maxHeartbeats 400000 in
theorem eq_walk (xa ya : Option Addr) (xb xo xc yb yo yc : Nat) (ss : List ByteArray) (w : World) (hx : SS w xa xb xo ss) (hy : SS w ya yb yo ss) (hm : ss.length ≤ 9223372036854775807) :
    Calls Tryz.prog 25 #[.slice xa ss.length xc, .slice ya ss.length yc] w fun e w' => e = .returned (.bool true) ∧ ∃ n, w' = w.drewN n := by
  have hax := hx.ad
  have hay := hy.ad
  have HX := hide hx.cell
  have HY := hide hy.cell
  clear hx hy
  go_enter Tryz.func25, Tryz.ntmps25
  go_wp2
  go_loopw [5] (fun i wr => ∃ k : Nat, k ≤ ss.length ∧ i = .int .i64 k ∧ ∃ n, wr = w.drewN n) (fun i _ => ss.length - (intOf i).toNat)
  case atStart => exact ⟨0, Nat.zero_le _, rfl, 0, rfl⟩
  case round =>
    obtain ⟨k, hk, rfl, n, rfl⟩ := hrel
    by_cases hlt : k < ss.length
    · have hcx := unhide HX k hlt
      have hcy := unhide HY k hlt
      obtain rfl := hax (by omega)
      obtain rfl := hay (by omega)
      clear hax hay
      generalize ss.getD k ByteArray.empty = s at *
      have hlt' : (k : Int) < (ss.length : Int) := by omega
      have dcx : (w.drewN n).cell? ⟨xb, xo + k, none⟩ = some (.string s) := hcx
      have dcy : (w.drewN n).cell? ⟨yb, yo + k, none⟩ = some (.string s) := hcy
      go_wp2
      go_quiet (fail)
      go_wp2
      go_roundw
      case rel => exact ⟨k + 1, by omega, by go_num, _, by first | rfl | (simp [World.drewN_drewN])⟩
      case measure => simp [intOf]; omega
    · clear hax hay
      go_wp2
      go_ret
      exact ⟨rfl, _, rfl⟩
end Go.Proofs.YtcjajchfjoffnaaGreatDoor

namespace Go.Proofs.YtcjajchfjoffnaaGreatDoor
open Go.RowKit

theorem utf8_at (z : Int) (r : Nat) (hz : z = (r : Int)) (w : World) (hr : r ≤ 1114111) :
    Calls Tryz.prog 176 #[.int .i64 z] w fun e w' => e = .returned (.string (strOf (utf r))) ∧ Below w.heap.size w w' := by
  subst hz; exact utf8_walk r w hr
theorem byte_eq (c : UInt8) : UInt8.ofNat c.toNat = c := UInt8.ofNat_toNat

theorem ext_1 (s : ByteArray) (i : Nat) (hi : i < s.size)  : (s.extract i (i + 1)).toList = [s[i]] := by
  rw [Lib.toList_data, Lib.extract_data]
  rw [drop_at s i hi]
  rw [show i + 1 - i = 1 from by omega]
  rfl
theorem cmp_1 (s : ByteArray) (i : Nat) (hi : i < s.size)  (a : 0 ≤ s[i].toNat) (b : s[i].toNat ≤ 127)  : ((strOf (utf (s[i].toNat))).toList == (s.extract i (i + 1)).toList) = decide (0 ≤ s[i].toNat) := by
  rw [ext_1 s i hi , Lib.toList_data, strOf_toList]
  by_cases hm : 0 ≤ s[i].toNat
  · have hu : utf (s[i].toNat) = [s[i]] := by
      unfold utf utfZ
      rw [if_pos (by omega)]
      simp only [List.map_cons, List.map_nil, byte_eq]
    rw [hu, decide_eq_true hm]; simp
  · omega

set_option maxHeartbeats 800000 in
set_option maxRecDepth 100000 in
theorem rl_1 (s : ByteArray) (i : Nat) (w : World) (hi : i < s.size) (hs : s.size ≤ 1048576) (h : 0 ≤ s[i].toNat) (h' : s[i].toNat ≤ 127) :
    Calls Tryz.prog 173 #[.string s, .int .i64 i] w fun e w' => e = .returned (.int .i64 (rl s i)) ∧ Below w.heap.size w w' := by
  have HR : Hid (rl s i = 1) := by show _ = _; unfold rl; rw [rlN_one (by rw [bt_at s i hi]; omega)]
  have hI : (0 : Int) ≤ (s[i].toNat : Int) := by omega
  have hI' : (s[i].toNat : Int) ≤ 127 := by omega
  go_enter Tryz.func173, Tryz.ntmps173
  go_wp2
  go_loop [7, 8] (fun r k => (k = .int .i64 1 ∧ r = .int .i64 ((s[i].toNat : Int)))) (fun _ k => 1 - (intOf k).toNat)
  case atStart => exact ⟨rfl, rfl⟩
  case round =>
    obtain ⟨rfl, rfl⟩ := hrel
    have HZ : Hid ((s[i].toNat : Int) = ((s[i].toNat : Nat) : Int)) := by show _ = _; omega
    have hz2 : (0 : Int) ≤ (s[i].toNat : Int) ∧ (s[i].toNat : Int) ≤ 127 := by omega
    have HC := hide (cmp_1 s i hi  h h' )
    have HE : Hid (rl s i = if 0 ≤ s[i].toNat then 1 else 0) := by have e := unhide HR; show _ = _; rw [e, if_pos (by omega)]
    obtain ⟨z1, z2⟩ := hz2
    have i1 : (i : Int) + 1 ≤ (s.size : Int) := by omega
    have i2 : (i : Int) ≤ (i : Int) + 1 := by omega
    have i3 : (0 : Int) ≤ (i : Int) := by omega
    have hzR := unhide HZ
    have e1 : decide ((1114111 : Int) < (s[i].toNat : Int)) = false := by simp; omega
    have e2 : decide ((55296 : Int) ≤ (s[i].toNat : Int)) = false := by simp; omega
    have y1 : ¬ (1114111 : Int) < (s[i].toNat : Int) := by omega
    have y2 : (s[i].toNat : Int) < (55296 : Int) := by omega
    have HU : Hid (∀ d os, Calls Tryz.prog 176 #[.int .i64 (s[i].toNat : Int)] (Sort.grow (redrawn w d) os) fun e w'' => e = .returned (.string (strOf (utf s[i].toNat))) ∧ ∃ p : Regrown, w'' = Sort.grow (redrawn w p.d) p.os) := fun d os => Calls.regrown_of (utf8_at _ _ hzR _ (by omega))
    have hm0 : 0 ≤ s[i].toNat ∨ ¬ 0 ≤ s[i].toNat := Decidable.em _
    rcases hm0 with hm | hm
    · have HEQ : Hid (rl s i = 1) := by have e := unhide HE; show _ = _; rw [e, if_pos hm]
      rw [decide_eq_true hm] at HC
      have hcmp := unhide HC
      clear hzR HC hm
      generalize strOf (utf s[i].toNat) = us at *
      go_wp2
      refine wp_region_quiet_below (by kernel_rfl) (by kernel_rfl) ?_
      repeat (first | go_big_quiet_step ((go_at_call 176; exact unhide HU _ _)) | quiet_step ((go_at_call 176; exact unhide HU _ _)))
      refine wpQuiet_nil ?_
      intro _ hw'
      obtain ⟨⟨dq, osq⟩, hw''⟩ := hw'
      subst hw''
      go_wp2
      go_ret
      exact ⟨by rw [unhide HEQ]; rfl, below_regrown w dq osq⟩
    · omega
end Go.Proofs.YtcjajchfjoffnaaGreatDoor

namespace Go.Proofs.YtcjajchfjoffnaaGreatDoor
open Go.RowKit

theorem ext_2 (s : ByteArray) (i : Nat) (hi : i < s.size) (h1 : i + 1 < s.size) : (s.extract i (i + 2)).toList = [s[i], s[i + 1]] := by
  rw [Lib.toList_data, Lib.extract_data]
  rw [drop_at s i hi]
  rw [drop_at s (i + 1) h1]
  rw [show i + 2 - i = 2 from by omega]
  rfl
theorem cmp_2 (s : ByteArray) (i : Nat) (hi : i < s.size) (h1 : i + 1 < s.size) (a : 192 ≤ s[i].toNat) (b : s[i].toNat ≤ 223) (p1 : 128 ≤ s[i + 1].toNat) (q1 : s[i + 1].toNat < 192) : ((strOf (utf ((s[i].toNat - 192) * 64 + (s[i + 1].toNat - 128)))).toList == (s.extract i (i + 2)).toList) = decide (128 ≤ (s[i].toNat - 192) * 64 + (s[i + 1].toNat - 128)) := by
  rw [ext_2 s i hi h1, Lib.toList_data, strOf_toList]
  by_cases hm : 128 ≤ (s[i].toNat - 192) * 64 + (s[i + 1].toNat - 128)
  · have hu : utf ((s[i].toNat - 192) * 64 + (s[i + 1].toNat - 128)) = [s[i], s[i + 1]] := by
      unfold utf utfZ
      rw [if_neg (by omega), if_pos (by omega)]
      have e0 : 192 + ((s[i].toNat - 192) * 64 + (s[i + 1].toNat - 128)) / 64 = s[i].toNat := by omega
      have e1 : 128 + ((s[i].toNat - 192) * 64 + (s[i + 1].toNat - 128)) % 64 = s[i + 1].toNat := by omega
      rw [e0, e1]
      simp only [List.map_cons, List.map_nil, byte_eq]
    rw [hu, decide_eq_true hm]; simp
  · rw [decide_eq_false hm, beq_eq_false_iff_ne]
    intro e
    have h := congrArg List.length e
    unfold utf utfZ at h
    simp only [List.length_map, List.length_cons, List.length_nil] at h
    split at h
    · simp at h
    · first | omega | (split at h; simp at h; first | omega | (split at h; simp at h; omega))

set_option maxHeartbeats 4000000 in
set_option maxRecDepth 100000 in
theorem rl_2 (s : ByteArray) (i : Nat) (w : World) (hi : i < s.size) (hs : s.size ≤ 1048576) (h : 192 ≤ s[i].toNat) (h' : s[i].toNat ≤ 223) :
    Calls Tryz.prog 173 #[.string s, .int .i64 i] w fun e w' => e = .returned (.int .i64 (rl s i)) ∧ Below w.heap.size w w' := by
  have HR : Hid (rl s i = if 2 ≤ s.size - i ∧ 128 ≤ bt s (i + 1) ∧ bt s (i + 1) < 192 ∧ 128 ≤ (s[i].toNat - 192) * 64 + (bt s (i + 1) - 128) then 2 else 0) := by
    show _ = _; unfold rl; rw [rlN_2 (by rw [bt_at s i hi]; exact h) (by rw [bt_at s i hi]; omega) (bt_lt _ _), bt_at s i hi]
  have hI : (192 : Int) ≤ (s[i].toNat : Int) := by omega
  have hI' : (s[i].toNat : Int) ≤ 223 := by omega
  by_cases hlen : i + 1 < s.size
  · have h1 : i + 1 < s.size := by omega
    rw [bt_at s (i + 1) h1] at HR
    go_enter Tryz.func173, Tryz.ntmps173
    go_wp2
    go_loop [7, 8] (fun r k => (k = .int .i64 1 ∧ r = .int .i64 ((s[i].toNat : Int) - 192)) ∨ (k = .int .i64 2 ∧ 128 ≤ s[i + 1].toNat ∧ s[i + 1].toNat < 192 ∧ r = .int .i64 (((s[i].toNat : Int) - 192) * 64 + (s[i + 1].toNat : Int) - 128))) (fun _ k => 2 - (intOf k).toNat)
    case atStart => exact .inl ⟨rfl, rfl⟩
    case round =>
      rcases hrel with ⟨rfl, rfl⟩ | ⟨rfl, p1, q1, rfl⟩
      · by_cases hc : 128 ≤ s[i + 1].toNat ∧ s[i + 1].toNat < 192
        · obtain ⟨c1, c2⟩ := hc
          have x1 : ¬ (s[i + 1].toNat : Int) < 128 := by omega
          have x2 : ¬ (192 : Int) ≤ (s[i + 1].toNat : Int) := by omega
          have x3 : decide ((s[i + 1].toNat : Int) < 128) = false := by simp; omega
          go_wp2
          go_round
          case rel => exact .inr (⟨by go_num, c1, c2, by go_num⟩)
          case measure => simp [intOf]
        · have HF : Hid (rl s i = 0) := by have e := unhide HR; show _ = _; rw [e, if_neg (by omega)]
          rcases (show s[i + 1].toNat < 128 ∨ 192 ≤ s[i + 1].toNat from by omega) with hlow | hhigh
          · have x1 : (s[i + 1].toNat : Int) < 128 := by omega
            clear hc
            go_wp2
            go_ret
            exact ⟨by rw [unhide HF]; rfl, Below.refl _ _⟩
          · have x1 : ¬ (s[i + 1].toNat : Int) < 128 := by omega
            have x2 : (192 : Int) ≤ (s[i + 1].toNat : Int) := by omega
            have x3 : decide ((s[i + 1].toNat : Int) < 128) = false := by simp; omega
            clear hc
            go_wp2
            go_ret
            exact ⟨by rw [unhide HF]; rfl, Below.refl _ _⟩
      · have HZ : Hid (((s[i].toNat : Int) - 192) * 64 + (s[i + 1].toNat : Int) - 128 = (((s[i].toNat - 192) * 64 + (s[i + 1].toNat - 128) : Nat) : Int)) := by show _ = _; omega
        have hz2 : (0 : Int) ≤ ((s[i].toNat : Int) - 192) * 64 + (s[i + 1].toNat : Int) - 128 ∧ ((s[i].toNat : Int) - 192) * 64 + (s[i + 1].toNat : Int) - 128 ≤ 2047 := by omega
        have HC := hide (cmp_2 s i hi h1 h h' p1 q1)
        have HE : Hid (rl s i = if 128 ≤ (s[i].toNat - 192) * 64 + (s[i + 1].toNat - 128) then 2 else 0) := by have e := unhide HR; show _ = _; rw [e]; exact (Decidable.em (128 ≤ (s[i].toNat - 192) * 64 + (s[i + 1].toNat - 128))).elim (fun hm => by rw [if_pos hm]; exact if_pos (by omega)) (fun hm => by rw [if_neg hm]; exact if_neg (by omega))
        generalize ((s[i].toNat - 192) * 64 + (s[i + 1].toNat - 128)) = R at *
        generalize ((s[i].toNat : Int) - 192) * 64 + (s[i + 1].toNat : Int) - 128 = z at *
        obtain ⟨z1, z2⟩ := hz2
        have i1 : (i : Int) + 2 ≤ (s.size : Int) := by omega
        have i2 : (i : Int) ≤ (i : Int) + 2 := by omega
        have i3 : (0 : Int) ≤ (i : Int) := by omega
        have hzR := unhide HZ
        have e1 : decide ((1114111 : Int) < z) = false := by simp; omega
        have e2 : decide ((55296 : Int) ≤ z) = false := by simp; omega
        have y1 : ¬ (1114111 : Int) < z := by omega
        have y2 : z < (55296 : Int) := by omega
        have HU : Hid (∀ d os, Calls Tryz.prog 176 #[.int .i64 z] (Sort.grow (redrawn w d) os) fun e w'' => e = .returned (.string (strOf (utf R))) ∧ ∃ p : Regrown, w'' = Sort.grow (redrawn w p.d) p.os) := fun d os => Calls.regrown_of (utf8_at _ _ hzR _ (by omega))
        have hm0 : 128 ≤ R ∨ ¬ 128 ≤ R := Decidable.em _
        rcases hm0 with hm | hm
        · have HEQ : Hid (rl s i = 2) := by have e := unhide HE; show _ = _; rw [e, if_pos hm]
          rw [decide_eq_true hm] at HC
          have hcmp := unhide HC
          clear hzR HC hm
          generalize strOf (utf R) = us at *
          go_wp2
          refine wp_region_quiet_below (by kernel_rfl) (by kernel_rfl) ?_
          repeat (first | go_big_quiet_step ((go_at_call 176; exact unhide HU _ _)) | quiet_step ((go_at_call 176; exact unhide HU _ _)))
          refine wpQuiet_nil ?_
          intro _ hw'
          obtain ⟨⟨dq, osq⟩, hw''⟩ := hw'
          subst hw''
          go_wp2
          go_ret
          exact ⟨by rw [unhide HEQ]; rfl, below_regrown w dq osq⟩
        · have HEQ : Hid (rl s i = 0) := by have e := unhide HE; show _ = _; rw [e, if_neg hm]
          rw [decide_eq_false hm] at HC
          have hcmp := unhide HC
          clear hzR HC hm
          generalize strOf (utf R) = us at *
          go_wp2
          refine wp_region_quiet_below (by kernel_rfl) (by kernel_rfl) ?_
          repeat (first | go_big_quiet_step ((go_at_call 176; exact unhide HU _ _)) | quiet_step ((go_at_call 176; exact unhide HU _ _)))
          refine wpQuiet_nil ?_
          intro _ hw'
          obtain ⟨⟨dq, osq⟩, hw''⟩ := hw'
          subst hw''
          go_wp2
          go_ret
          exact ⟨by rw [unhide HEQ]; rfl, below_regrown w dq osq⟩
  · have HF : Hid (rl s i = 0) := by have e := unhide HR; show _ = _; rw [e, if_neg (by omega)]
    have x1 : (s.size : Int) < (i : Int) + 2 := by omega
    go_enter Tryz.func173, Tryz.ntmps173
    go_wp2
    go_ret
    exact ⟨by rw [unhide HF]; rfl, Below.refl _ _⟩
end Go.Proofs.YtcjajchfjoffnaaGreatDoor

namespace Go.Proofs.YtcjajchfjoffnaaGreatDoor
open Go.RowKit

theorem ext_3 (s : ByteArray) (i : Nat) (hi : i < s.size) (h1 : i + 1 < s.size) (h2 : i + 2 < s.size) : (s.extract i (i + 3)).toList = [s[i], s[i + 1], s[i + 2]] := by
  rw [Lib.toList_data, Lib.extract_data]
  rw [drop_at s i hi]
  rw [drop_at s (i + 1) h1]
  rw [drop_at s (i + 2) h2]
  rw [show i + 3 - i = 3 from by omega]
  rfl
theorem cmp_3 (s : ByteArray) (i : Nat) (hi : i < s.size) (h1 : i + 1 < s.size) (h2 : i + 2 < s.size) (a : 224 ≤ s[i].toNat) (b : s[i].toNat ≤ 239) (p1 : 128 ≤ s[i + 1].toNat) (q1 : s[i + 1].toNat < 192) (p2 : 128 ≤ s[i + 2].toNat) (q2 : s[i + 2].toNat < 192) : ((strOf (utf ((s[i].toNat - 224) * 4096 + (s[i + 1].toNat - 128) * 64 + (s[i + 2].toNat - 128)))).toList == (s.extract i (i + 3)).toList) = decide (2048 ≤ (s[i].toNat - 224) * 4096 + (s[i + 1].toNat - 128) * 64 + (s[i + 2].toNat - 128)) := by
  rw [ext_3 s i hi h1 h2, Lib.toList_data, strOf_toList]
  by_cases hm : 2048 ≤ (s[i].toNat - 224) * 4096 + (s[i + 1].toNat - 128) * 64 + (s[i + 2].toNat - 128)
  · have hu : utf ((s[i].toNat - 224) * 4096 + (s[i + 1].toNat - 128) * 64 + (s[i + 2].toNat - 128)) = [s[i], s[i + 1], s[i + 2]] := by
      unfold utf utfZ
      rw [if_neg (by omega), if_neg (by omega), if_pos (by omega)]
      have e0 : 224 + ((s[i].toNat - 224) * 4096 + (s[i + 1].toNat - 128) * 64 + (s[i + 2].toNat - 128)) / 4096 = s[i].toNat := by omega
      have e1 : 128 + ((s[i].toNat - 224) * 4096 + (s[i + 1].toNat - 128) * 64 + (s[i + 2].toNat - 128)) / 64 % 64 = s[i + 1].toNat := by omega
      have e2 : 128 + ((s[i].toNat - 224) * 4096 + (s[i + 1].toNat - 128) * 64 + (s[i + 2].toNat - 128)) % 64 = s[i + 2].toNat := by omega
      rw [e0, e1, e2]
      simp only [List.map_cons, List.map_nil, byte_eq]
    rw [hu, decide_eq_true hm]; simp
  · rw [decide_eq_false hm, beq_eq_false_iff_ne]
    intro e
    have h := congrArg List.length e
    unfold utf utfZ at h
    simp only [List.length_map, List.length_cons, List.length_nil] at h
    split at h
    · simp at h
    · first | omega | (split at h; simp at h; first | omega | (split at h; simp at h; omega))

set_option maxHeartbeats 4000000 in
set_option maxRecDepth 100000 in
theorem rl_3 (s : ByteArray) (i : Nat) (w : World) (hi : i < s.size) (hs : s.size ≤ 1048576) (h : 224 ≤ s[i].toNat) (h' : s[i].toNat ≤ 239) :
    Calls Tryz.prog 173 #[.string s, .int .i64 i] w fun e w' => e = .returned (.int .i64 (rl s i)) ∧ Below w.heap.size w w' := by
  have HR : Hid (rl s i = if 3 ≤ s.size - i ∧ 128 ≤ bt s (i + 1) ∧ bt s (i + 1) < 192 ∧ 128 ≤ bt s (i + 2) ∧ bt s (i + 2) < 192 ∧ 2048 ≤ (s[i].toNat - 224) * 4096 + (bt s (i + 1) - 128) * 64 + (bt s (i + 2) - 128) ∧ ((s[i].toNat - 224) * 4096 + (bt s (i + 1) - 128) * 64 + (bt s (i + 2) - 128) < 55296 ∨ 57344 ≤ (s[i].toNat - 224) * 4096 + (bt s (i + 1) - 128) * 64 + (bt s (i + 2) - 128)) then 3 else 0) := by
    show _ = _; unfold rl; rw [rlN_3 (by rw [bt_at s i hi]; exact h) (by rw [bt_at s i hi]; omega) (bt_lt _ _) (bt_lt _ _), bt_at s i hi]
  have hI : (224 : Int) ≤ (s[i].toNat : Int) := by omega
  have hI' : (s[i].toNat : Int) ≤ 239 := by omega
  by_cases hlen : i + 2 < s.size
  · have h1 : i + 1 < s.size := by omega
    have h2 : i + 2 < s.size := by omega
    rw [bt_at s (i + 1) h1] at HR
    rw [bt_at s (i + 2) h2] at HR
    go_enter Tryz.func173, Tryz.ntmps173
    go_wp2
    go_loop [7, 8] (fun r k => (k = .int .i64 1 ∧ r = .int .i64 ((s[i].toNat : Int) - 224)) ∨ (k = .int .i64 2 ∧ 128 ≤ s[i + 1].toNat ∧ s[i + 1].toNat < 192 ∧ r = .int .i64 (((s[i].toNat : Int) - 224) * 64 + (s[i + 1].toNat : Int) - 128)) ∨ (k = .int .i64 3 ∧ 128 ≤ s[i + 1].toNat ∧ s[i + 1].toNat < 192 ∧ 128 ≤ s[i + 2].toNat ∧ s[i + 2].toNat < 192 ∧ r = .int .i64 ((((s[i].toNat : Int) - 224) * 64 + (s[i + 1].toNat : Int) - 128) * 64 + (s[i + 2].toNat : Int) - 128))) (fun _ k => 3 - (intOf k).toNat)
    case atStart => exact .inl ⟨rfl, rfl⟩
    case round =>
      rcases hrel with ⟨rfl, rfl⟩ | ⟨rfl, p1, q1, rfl⟩ | ⟨rfl, p1, q1, p2, q2, rfl⟩
      · by_cases hc : 128 ≤ s[i + 1].toNat ∧ s[i + 1].toNat < 192
        · obtain ⟨c1, c2⟩ := hc
          have x1 : ¬ (s[i + 1].toNat : Int) < 128 := by omega
          have x2 : ¬ (192 : Int) ≤ (s[i + 1].toNat : Int) := by omega
          have x3 : decide ((s[i + 1].toNat : Int) < 128) = false := by simp; omega
          go_wp2
          go_round
          case rel => exact .inr (.inl ⟨by go_num, c1, c2, by go_num⟩)
          case measure => simp [intOf]
        · have HF : Hid (rl s i = 0) := by have e := unhide HR; show _ = _; rw [e, if_neg (by omega)]
          rcases (show s[i + 1].toNat < 128 ∨ 192 ≤ s[i + 1].toNat from by omega) with hlow | hhigh
          · have x1 : (s[i + 1].toNat : Int) < 128 := by omega
            clear hc
            go_wp2
            go_ret
            exact ⟨by rw [unhide HF]; rfl, Below.refl _ _⟩
          · have x1 : ¬ (s[i + 1].toNat : Int) < 128 := by omega
            have x2 : (192 : Int) ≤ (s[i + 1].toNat : Int) := by omega
            have x3 : decide ((s[i + 1].toNat : Int) < 128) = false := by simp; omega
            clear hc
            go_wp2
            go_ret
            exact ⟨by rw [unhide HF]; rfl, Below.refl _ _⟩
      · by_cases hc : 128 ≤ s[i + 2].toNat ∧ s[i + 2].toNat < 192
        · obtain ⟨c1, c2⟩ := hc
          have x1 : ¬ (s[i + 2].toNat : Int) < 128 := by omega
          have x2 : ¬ (192 : Int) ≤ (s[i + 2].toNat : Int) := by omega
          have x3 : decide ((s[i + 2].toNat : Int) < 128) = false := by simp; omega
          go_wp2
          go_round
          case rel => exact .inr (.inr (⟨by go_num, p1, q1, c1, c2, by go_num⟩))
          case measure => simp [intOf]
        · have HF : Hid (rl s i = 0) := by have e := unhide HR; show _ = _; rw [e, if_neg (by omega)]
          rcases (show s[i + 2].toNat < 128 ∨ 192 ≤ s[i + 2].toNat from by omega) with hlow | hhigh
          · have x1 : (s[i + 2].toNat : Int) < 128 := by omega
            clear hc
            go_wp2
            go_ret
            exact ⟨by rw [unhide HF]; rfl, Below.refl _ _⟩
          · have x1 : ¬ (s[i + 2].toNat : Int) < 128 := by omega
            have x2 : (192 : Int) ≤ (s[i + 2].toNat : Int) := by omega
            have x3 : decide ((s[i + 2].toNat : Int) < 128) = false := by simp; omega
            clear hc
            go_wp2
            go_ret
            exact ⟨by rw [unhide HF]; rfl, Below.refl _ _⟩
      · have HZ : Hid ((((s[i].toNat : Int) - 224) * 64 + (s[i + 1].toNat : Int) - 128) * 64 + (s[i + 2].toNat : Int) - 128 = (((s[i].toNat - 224) * 4096 + (s[i + 1].toNat - 128) * 64 + (s[i + 2].toNat - 128) : Nat) : Int)) := by show _ = _; omega
        have hz2 : (0 : Int) ≤ (((s[i].toNat : Int) - 224) * 64 + (s[i + 1].toNat : Int) - 128) * 64 + (s[i + 2].toNat : Int) - 128 ∧ (((s[i].toNat : Int) - 224) * 64 + (s[i + 1].toNat : Int) - 128) * 64 + (s[i + 2].toNat : Int) - 128 ≤ 65535 := by omega
        have HC := hide (cmp_3 s i hi h1 h2 h h' p1 q1 p2 q2)
        have HE : Hid ((55296 ≤ (s[i].toNat - 224) * 4096 + (s[i + 1].toNat - 128) * 64 + (s[i + 2].toNat - 128) ∧ (s[i].toNat - 224) * 4096 + (s[i + 1].toNat - 128) * 64 + (s[i + 2].toNat - 128) < 57344) ∨ 1114111 < (s[i].toNat - 224) * 4096 + (s[i + 1].toNat - 128) * 64 + (s[i + 2].toNat - 128) → rl s i = 0) := fun hb => by have e := unhide HR; rw [e, if_neg (by omega)]
        have HE2 : Hid (¬ ((55296 ≤ (s[i].toNat - 224) * 4096 + (s[i + 1].toNat - 128) * 64 + (s[i + 2].toNat - 128) ∧ (s[i].toNat - 224) * 4096 + (s[i + 1].toNat - 128) * 64 + (s[i + 2].toNat - 128) < 57344) ∨ 1114111 < (s[i].toNat - 224) * 4096 + (s[i + 1].toNat - 128) * 64 + (s[i + 2].toNat - 128)) → rl s i = if 2048 ≤ (s[i].toNat - 224) * 4096 + (s[i + 1].toNat - 128) * 64 + (s[i + 2].toNat - 128) then 3 else 0) := fun hb => by have e := unhide HR; rw [e]; exact (Decidable.em (2048 ≤ (s[i].toNat - 224) * 4096 + (s[i + 1].toNat - 128) * 64 + (s[i + 2].toNat - 128))).elim (fun hm => by rw [if_pos hm]; exact if_pos (by omega)) (fun hm => by rw [if_neg hm]; exact if_neg (by omega))
        generalize ((s[i].toNat - 224) * 4096 + (s[i + 1].toNat - 128) * 64 + (s[i + 2].toNat - 128)) = R at *
        generalize (((s[i].toNat : Int) - 224) * 64 + (s[i + 1].toNat : Int) - 128) * 64 + (s[i + 2].toNat : Int) - 128 = z at *
        obtain ⟨z1, z2⟩ := hz2
        have i1 : (i : Int) + 3 ≤ (s.size : Int) := by omega
        have i2 : (i : Int) ≤ (i : Int) + 3 := by omega
        have i3 : (0 : Int) ≤ (i : Int) := by omega
        have hzR := unhide HZ
        by_cases ha : z < 55296
        · have e1 : decide ((1114111 : Int) < z) = false := by simp; omega
          have e2 : decide ((55296 : Int) ≤ z) = false := by simp; omega
          have y1 : ¬ (1114111 : Int) < z := by omega
          have y2 : z < (55296 : Int) := ha
          have HU : Hid (∀ d os, Calls Tryz.prog 176 #[.int .i64 z] (Sort.grow (redrawn w d) os) fun e w'' => e = .returned (.string (strOf (utf R))) ∧ ∃ p : Regrown, w'' = Sort.grow (redrawn w p.d) p.os) := fun d os => Calls.regrown_of (utf8_at _ _ hzR _ (by omega))
          have hm0 : 2048 ≤ R ∨ ¬ 2048 ≤ R := Decidable.em _
          rcases hm0 with hm | hm
          · have HEQ : Hid (rl s i = 3) := by have e := unhide HE2 (by omega); show _ = _; rw [e, if_pos hm]
            rw [decide_eq_true hm] at HC
            have hcmp := unhide HC
            clear hzR HC hm
            generalize strOf (utf R) = us at *
            go_wp2
            refine wp_region_quiet_below (by kernel_rfl) (by kernel_rfl) ?_
            repeat (first | go_big_quiet_step ((go_at_call 176; exact unhide HU _ _)) | quiet_step ((go_at_call 176; exact unhide HU _ _)))
            refine wpQuiet_nil ?_
            intro _ hw'
            obtain ⟨⟨dq, osq⟩, hw''⟩ := hw'
            subst hw''
            go_wp2
            go_ret
            exact ⟨by rw [unhide HEQ]; rfl, below_regrown w dq osq⟩
          · have HEQ : Hid (rl s i = 0) := by have e := unhide HE2 (by omega); show _ = _; rw [e, if_neg hm]
            rw [decide_eq_false hm] at HC
            have hcmp := unhide HC
            clear hzR HC hm
            generalize strOf (utf R) = us at *
            go_wp2
            refine wp_region_quiet_below (by kernel_rfl) (by kernel_rfl) ?_
            repeat (first | go_big_quiet_step ((go_at_call 176; exact unhide HU _ _)) | quiet_step ((go_at_call 176; exact unhide HU _ _)))
            refine wpQuiet_nil ?_
            intro _ hw'
            obtain ⟨⟨dq, osq⟩, hw''⟩ := hw'
            subst hw''
            go_wp2
            go_ret
            exact ⟨by rw [unhide HEQ]; rfl, below_regrown w dq osq⟩
        · by_cases hb : z < 57344
          · have e1 : decide ((1114111 : Int) < z) = false := by simp; omega
            have e2 : decide ((55296 : Int) ≤ z) = true := by simp; omega
            have e3 : decide (z < (57344 : Int)) = true := by simp; omega
            have y1 : ¬ (1114111 : Int) < z := by omega
            have y2 : (55296 : Int) ≤ z := by omega
            have HEQ : Hid (rl s i = 0) := unhide HE (by omega)
            clear hzR HC
            go_wp2
            refine wp_region_quiet_below (by kernel_rfl) (by kernel_rfl) ?_
            repeat (first | go_big_quiet_step (fail) | quiet_step (fail))
            refine wpQuiet_nil ?_
            intro _ hw'
            obtain ⟨⟨dq, osq⟩, hw''⟩ := hw'
            subst hw''
            go_wp2
            go_ret
            exact ⟨by rw [unhide HEQ]; rfl, below_regrown w dq osq⟩
          · have e1 : decide ((1114111 : Int) < z) = false := by simp; omega
            have e2 : decide ((55296 : Int) ≤ z) = true := by simp; omega
            have e3 : decide (z < (57344 : Int)) = false := by simp; omega
            have y1 : ¬ (1114111 : Int) < z := by omega
            have y2 : (55296 : Int) ≤ z := by omega
            have y3 : ¬ z < (57344 : Int) := hb
            have HU : Hid (∀ d os, Calls Tryz.prog 176 #[.int .i64 z] (Sort.grow (redrawn w d) os) fun e w'' => e = .returned (.string (strOf (utf R))) ∧ ∃ p : Regrown, w'' = Sort.grow (redrawn w p.d) p.os) := fun d os => Calls.regrown_of (utf8_at _ _ hzR _ (by omega))
            have hm0 : 2048 ≤ R ∨ ¬ 2048 ≤ R := Decidable.em _
            rcases hm0 with hm | hm
            · have HEQ : Hid (rl s i = 3) := by have e := unhide HE2 (by omega); show _ = _; rw [e, if_pos hm]
              rw [decide_eq_true hm] at HC
              have hcmp := unhide HC
              clear hzR HC hm
              generalize strOf (utf R) = us at *
              go_wp2
              refine wp_region_quiet_below (by kernel_rfl) (by kernel_rfl) ?_
              repeat (first | go_big_quiet_step ((go_at_call 176; exact unhide HU _ _)) | quiet_step ((go_at_call 176; exact unhide HU _ _)))
              refine wpQuiet_nil ?_
              intro _ hw'
              obtain ⟨⟨dq, osq⟩, hw''⟩ := hw'
              subst hw''
              go_wp2
              go_ret
              exact ⟨by rw [unhide HEQ]; rfl, below_regrown w dq osq⟩
            · have HEQ : Hid (rl s i = 0) := by have e := unhide HE2 (by omega); show _ = _; rw [e, if_neg hm]
              rw [decide_eq_false hm] at HC
              have hcmp := unhide HC
              clear hzR HC hm
              generalize strOf (utf R) = us at *
              go_wp2
              refine wp_region_quiet_below (by kernel_rfl) (by kernel_rfl) ?_
              repeat (first | go_big_quiet_step ((go_at_call 176; exact unhide HU _ _)) | quiet_step ((go_at_call 176; exact unhide HU _ _)))
              refine wpQuiet_nil ?_
              intro _ hw'
              obtain ⟨⟨dq, osq⟩, hw''⟩ := hw'
              subst hw''
              go_wp2
              go_ret
              exact ⟨by rw [unhide HEQ]; rfl, below_regrown w dq osq⟩
  · have HF : Hid (rl s i = 0) := by have e := unhide HR; show _ = _; rw [e, if_neg (by omega)]
    have x1 : (s.size : Int) < (i : Int) + 3 := by omega
    go_enter Tryz.func173, Tryz.ntmps173
    go_wp2
    go_ret
    exact ⟨by rw [unhide HF]; rfl, Below.refl _ _⟩
end Go.Proofs.YtcjajchfjoffnaaGreatDoor

namespace Go.Proofs.YtcjajchfjoffnaaGreatDoor
open Go.RowKit

theorem ext_4 (s : ByteArray) (i : Nat) (hi : i < s.size) (h1 : i + 1 < s.size) (h2 : i + 2 < s.size) (h3 : i + 3 < s.size) : (s.extract i (i + 4)).toList = [s[i], s[i + 1], s[i + 2], s[i + 3]] := by
  rw [Lib.toList_data, Lib.extract_data]
  rw [drop_at s i hi]
  rw [drop_at s (i + 1) h1]
  rw [drop_at s (i + 2) h2]
  rw [drop_at s (i + 3) h3]
  rw [show i + 4 - i = 4 from by omega]
  rfl
theorem cmp_4 (s : ByteArray) (i : Nat) (hi : i < s.size) (h1 : i + 1 < s.size) (h2 : i + 2 < s.size) (h3 : i + 3 < s.size) (a : 240 ≤ s[i].toNat) (b : s[i].toNat ≤ 255) (p1 : 128 ≤ s[i + 1].toNat) (q1 : s[i + 1].toNat < 192) (p2 : 128 ≤ s[i + 2].toNat) (q2 : s[i + 2].toNat < 192) (p3 : 128 ≤ s[i + 3].toNat) (q3 : s[i + 3].toNat < 192) : ((strOf (utf ((s[i].toNat - 240) * 262144 + (s[i + 1].toNat - 128) * 4096 + (s[i + 2].toNat - 128) * 64 + (s[i + 3].toNat - 128)))).toList == (s.extract i (i + 4)).toList) = decide (65536 ≤ (s[i].toNat - 240) * 262144 + (s[i + 1].toNat - 128) * 4096 + (s[i + 2].toNat - 128) * 64 + (s[i + 3].toNat - 128)) := by
  rw [ext_4 s i hi h1 h2 h3, Lib.toList_data, strOf_toList]
  by_cases hm : 65536 ≤ (s[i].toNat - 240) * 262144 + (s[i + 1].toNat - 128) * 4096 + (s[i + 2].toNat - 128) * 64 + (s[i + 3].toNat - 128)
  · have hu : utf ((s[i].toNat - 240) * 262144 + (s[i + 1].toNat - 128) * 4096 + (s[i + 2].toNat - 128) * 64 + (s[i + 3].toNat - 128)) = [s[i], s[i + 1], s[i + 2], s[i + 3]] := by
      unfold utf utfZ
      rw [if_neg (by omega), if_neg (by omega), if_neg (by omega)]
      have e0 : 240 + ((s[i].toNat - 240) * 262144 + (s[i + 1].toNat - 128) * 4096 + (s[i + 2].toNat - 128) * 64 + (s[i + 3].toNat - 128)) / 262144 = s[i].toNat := by omega
      have e1 : 128 + ((s[i].toNat - 240) * 262144 + (s[i + 1].toNat - 128) * 4096 + (s[i + 2].toNat - 128) * 64 + (s[i + 3].toNat - 128)) / 4096 % 64 = s[i + 1].toNat := by omega
      have e2 : 128 + ((s[i].toNat - 240) * 262144 + (s[i + 1].toNat - 128) * 4096 + (s[i + 2].toNat - 128) * 64 + (s[i + 3].toNat - 128)) / 64 % 64 = s[i + 2].toNat := by omega
      have e3 : 128 + ((s[i].toNat - 240) * 262144 + (s[i + 1].toNat - 128) * 4096 + (s[i + 2].toNat - 128) * 64 + (s[i + 3].toNat - 128)) % 64 = s[i + 3].toNat := by omega
      rw [e0, e1, e2, e3]
      simp only [List.map_cons, List.map_nil, byte_eq]
    rw [hu, decide_eq_true hm]; simp
  · rw [decide_eq_false hm, beq_eq_false_iff_ne]
    intro e
    have h := congrArg List.length e
    unfold utf utfZ at h
    simp only [List.length_map, List.length_cons, List.length_nil] at h
    split at h
    · simp at h
    · first | omega | (split at h; simp at h; first | omega | (split at h; simp at h; omega))

set_option maxHeartbeats 4000000 in
set_option maxRecDepth 100000 in
theorem rl_4 (s : ByteArray) (i : Nat) (w : World) (hi : i < s.size) (hs : s.size ≤ 1048576) (h : 240 ≤ s[i].toNat) (h' : s[i].toNat ≤ 255) :
    Calls Tryz.prog 173 #[.string s, .int .i64 i] w fun e w' => e = .returned (.int .i64 (rl s i)) ∧ Below w.heap.size w w' := by
  have HR : Hid (rl s i = if 4 ≤ s.size - i ∧ 128 ≤ bt s (i + 1) ∧ bt s (i + 1) < 192 ∧ 128 ≤ bt s (i + 2) ∧ bt s (i + 2) < 192 ∧ 128 ≤ bt s (i + 3) ∧ bt s (i + 3) < 192 ∧ 65536 ≤ (s[i].toNat - 240) * 262144 + (bt s (i + 1) - 128) * 4096 + (bt s (i + 2) - 128) * 64 + (bt s (i + 3) - 128) ∧ (s[i].toNat - 240) * 262144 + (bt s (i + 1) - 128) * 4096 + (bt s (i + 2) - 128) * 64 + (bt s (i + 3) - 128) ≤ 1114111 then 4 else 0) := by
    show _ = _; unfold rl; rw [rlN_4 (by rw [bt_at s i hi]; exact h) (by rw [bt_at s i hi]; omega) (bt_lt _ _) (bt_lt _ _) (bt_lt _ _), bt_at s i hi]
  have hI : (240 : Int) ≤ (s[i].toNat : Int) := by omega
  have hI' : (s[i].toNat : Int) ≤ 255 := by omega
  by_cases hlen : i + 3 < s.size
  · have h1 : i + 1 < s.size := by omega
    have h2 : i + 2 < s.size := by omega
    have h3 : i + 3 < s.size := by omega
    rw [bt_at s (i + 1) h1] at HR
    rw [bt_at s (i + 2) h2] at HR
    rw [bt_at s (i + 3) h3] at HR
    go_enter Tryz.func173, Tryz.ntmps173
    go_wp2
    go_loop [7, 8] (fun r k => (k = .int .i64 1 ∧ r = .int .i64 ((s[i].toNat : Int) - 240)) ∨ (k = .int .i64 2 ∧ 128 ≤ s[i + 1].toNat ∧ s[i + 1].toNat < 192 ∧ r = .int .i64 (((s[i].toNat : Int) - 240) * 64 + (s[i + 1].toNat : Int) - 128)) ∨ (k = .int .i64 3 ∧ 128 ≤ s[i + 1].toNat ∧ s[i + 1].toNat < 192 ∧ 128 ≤ s[i + 2].toNat ∧ s[i + 2].toNat < 192 ∧ r = .int .i64 ((((s[i].toNat : Int) - 240) * 64 + (s[i + 1].toNat : Int) - 128) * 64 + (s[i + 2].toNat : Int) - 128)) ∨ (k = .int .i64 4 ∧ 128 ≤ s[i + 1].toNat ∧ s[i + 1].toNat < 192 ∧ 128 ≤ s[i + 2].toNat ∧ s[i + 2].toNat < 192 ∧ 128 ≤ s[i + 3].toNat ∧ s[i + 3].toNat < 192 ∧ r = .int .i64 (((((s[i].toNat : Int) - 240) * 64 + (s[i + 1].toNat : Int) - 128) * 64 + (s[i + 2].toNat : Int) - 128) * 64 + (s[i + 3].toNat : Int) - 128))) (fun _ k => 4 - (intOf k).toNat)
    case atStart => exact .inl ⟨rfl, rfl⟩
    case round =>
      rcases hrel with ⟨rfl, rfl⟩ | ⟨rfl, p1, q1, rfl⟩ | ⟨rfl, p1, q1, p2, q2, rfl⟩ | ⟨rfl, p1, q1, p2, q2, p3, q3, rfl⟩
      · by_cases hc : 128 ≤ s[i + 1].toNat ∧ s[i + 1].toNat < 192
        · obtain ⟨c1, c2⟩ := hc
          have x1 : ¬ (s[i + 1].toNat : Int) < 128 := by omega
          have x2 : ¬ (192 : Int) ≤ (s[i + 1].toNat : Int) := by omega
          have x3 : decide ((s[i + 1].toNat : Int) < 128) = false := by simp; omega
          go_wp2
          go_round
          case rel => exact .inr (.inl ⟨by go_num, c1, c2, by go_num⟩)
          case measure => simp [intOf]
        · have HF : Hid (rl s i = 0) := by have e := unhide HR; show _ = _; rw [e, if_neg (by omega)]
          rcases (show s[i + 1].toNat < 128 ∨ 192 ≤ s[i + 1].toNat from by omega) with hlow | hhigh
          · have x1 : (s[i + 1].toNat : Int) < 128 := by omega
            clear hc
            go_wp2
            go_ret
            exact ⟨by rw [unhide HF]; rfl, Below.refl _ _⟩
          · have x1 : ¬ (s[i + 1].toNat : Int) < 128 := by omega
            have x2 : (192 : Int) ≤ (s[i + 1].toNat : Int) := by omega
            have x3 : decide ((s[i + 1].toNat : Int) < 128) = false := by simp; omega
            clear hc
            go_wp2
            go_ret
            exact ⟨by rw [unhide HF]; rfl, Below.refl _ _⟩
      · by_cases hc : 128 ≤ s[i + 2].toNat ∧ s[i + 2].toNat < 192
        · obtain ⟨c1, c2⟩ := hc
          have x1 : ¬ (s[i + 2].toNat : Int) < 128 := by omega
          have x2 : ¬ (192 : Int) ≤ (s[i + 2].toNat : Int) := by omega
          have x3 : decide ((s[i + 2].toNat : Int) < 128) = false := by simp; omega
          go_wp2
          go_round
          case rel => exact .inr (.inr (.inl ⟨by go_num, p1, q1, c1, c2, by go_num⟩))
          case measure => simp [intOf]
        · have HF : Hid (rl s i = 0) := by have e := unhide HR; show _ = _; rw [e, if_neg (by omega)]
          rcases (show s[i + 2].toNat < 128 ∨ 192 ≤ s[i + 2].toNat from by omega) with hlow | hhigh
          · have x1 : (s[i + 2].toNat : Int) < 128 := by omega
            clear hc
            go_wp2
            go_ret
            exact ⟨by rw [unhide HF]; rfl, Below.refl _ _⟩
          · have x1 : ¬ (s[i + 2].toNat : Int) < 128 := by omega
            have x2 : (192 : Int) ≤ (s[i + 2].toNat : Int) := by omega
            have x3 : decide ((s[i + 2].toNat : Int) < 128) = false := by simp; omega
            clear hc
            go_wp2
            go_ret
            exact ⟨by rw [unhide HF]; rfl, Below.refl _ _⟩
      · by_cases hc : 128 ≤ s[i + 3].toNat ∧ s[i + 3].toNat < 192
        · obtain ⟨c1, c2⟩ := hc
          have x1 : ¬ (s[i + 3].toNat : Int) < 128 := by omega
          have x2 : ¬ (192 : Int) ≤ (s[i + 3].toNat : Int) := by omega
          have x3 : decide ((s[i + 3].toNat : Int) < 128) = false := by simp; omega
          go_wp2
          go_round
          case rel => exact .inr (.inr (.inr (⟨by go_num, p1, q1, p2, q2, c1, c2, by go_num⟩)))
          case measure => simp [intOf]
        · have HF : Hid (rl s i = 0) := by have e := unhide HR; show _ = _; rw [e, if_neg (by omega)]
          rcases (show s[i + 3].toNat < 128 ∨ 192 ≤ s[i + 3].toNat from by omega) with hlow | hhigh
          · have x1 : (s[i + 3].toNat : Int) < 128 := by omega
            clear hc
            go_wp2
            go_ret
            exact ⟨by rw [unhide HF]; rfl, Below.refl _ _⟩
          · have x1 : ¬ (s[i + 3].toNat : Int) < 128 := by omega
            have x2 : (192 : Int) ≤ (s[i + 3].toNat : Int) := by omega
            have x3 : decide ((s[i + 3].toNat : Int) < 128) = false := by simp; omega
            clear hc
            go_wp2
            go_ret
            exact ⟨by rw [unhide HF]; rfl, Below.refl _ _⟩
      · have HZ : Hid (((((s[i].toNat : Int) - 240) * 64 + (s[i + 1].toNat : Int) - 128) * 64 + (s[i + 2].toNat : Int) - 128) * 64 + (s[i + 3].toNat : Int) - 128 = (((s[i].toNat - 240) * 262144 + (s[i + 1].toNat - 128) * 4096 + (s[i + 2].toNat - 128) * 64 + (s[i + 3].toNat - 128) : Nat) : Int)) := by show _ = _; omega
        have hz2 : (0 : Int) ≤ ((((s[i].toNat : Int) - 240) * 64 + (s[i + 1].toNat : Int) - 128) * 64 + (s[i + 2].toNat : Int) - 128) * 64 + (s[i + 3].toNat : Int) - 128 ∧ ((((s[i].toNat : Int) - 240) * 64 + (s[i + 1].toNat : Int) - 128) * 64 + (s[i + 2].toNat : Int) - 128) * 64 + (s[i + 3].toNat : Int) - 128 ≤ 4194303 := by omega
        have HC := hide (cmp_4 s i hi h1 h2 h3 h h' p1 q1 p2 q2 p3 q3)
        have HE : Hid ((55296 ≤ (s[i].toNat - 240) * 262144 + (s[i + 1].toNat - 128) * 4096 + (s[i + 2].toNat - 128) * 64 + (s[i + 3].toNat - 128) ∧ (s[i].toNat - 240) * 262144 + (s[i + 1].toNat - 128) * 4096 + (s[i + 2].toNat - 128) * 64 + (s[i + 3].toNat - 128) < 57344) ∨ 1114111 < (s[i].toNat - 240) * 262144 + (s[i + 1].toNat - 128) * 4096 + (s[i + 2].toNat - 128) * 64 + (s[i + 3].toNat - 128) → rl s i = 0) := fun hb => by have e := unhide HR; rw [e, if_neg (by omega)]
        have HE2 : Hid (¬ ((55296 ≤ (s[i].toNat - 240) * 262144 + (s[i + 1].toNat - 128) * 4096 + (s[i + 2].toNat - 128) * 64 + (s[i + 3].toNat - 128) ∧ (s[i].toNat - 240) * 262144 + (s[i + 1].toNat - 128) * 4096 + (s[i + 2].toNat - 128) * 64 + (s[i + 3].toNat - 128) < 57344) ∨ 1114111 < (s[i].toNat - 240) * 262144 + (s[i + 1].toNat - 128) * 4096 + (s[i + 2].toNat - 128) * 64 + (s[i + 3].toNat - 128)) → rl s i = if 65536 ≤ (s[i].toNat - 240) * 262144 + (s[i + 1].toNat - 128) * 4096 + (s[i + 2].toNat - 128) * 64 + (s[i + 3].toNat - 128) then 4 else 0) := fun hb => by have e := unhide HR; rw [e]; exact (Decidable.em (65536 ≤ (s[i].toNat - 240) * 262144 + (s[i + 1].toNat - 128) * 4096 + (s[i + 2].toNat - 128) * 64 + (s[i + 3].toNat - 128))).elim (fun hm => by rw [if_pos hm]; exact if_pos (by omega)) (fun hm => by rw [if_neg hm]; exact if_neg (by omega))
        generalize ((s[i].toNat - 240) * 262144 + (s[i + 1].toNat - 128) * 4096 + (s[i + 2].toNat - 128) * 64 + (s[i + 3].toNat - 128)) = R at *
        generalize ((((s[i].toNat : Int) - 240) * 64 + (s[i + 1].toNat : Int) - 128) * 64 + (s[i + 2].toNat : Int) - 128) * 64 + (s[i + 3].toNat : Int) - 128 = z at *
        obtain ⟨z1, z2⟩ := hz2
        have i1 : (i : Int) + 4 ≤ (s.size : Int) := by omega
        have i2 : (i : Int) ≤ (i : Int) + 4 := by omega
        have i3 : (0 : Int) ≤ (i : Int) := by omega
        have hzR := unhide HZ
        by_cases ha : z < 55296
        · have e1 : decide ((1114111 : Int) < z) = false := by simp; omega
          have e2 : decide ((55296 : Int) ≤ z) = false := by simp; omega
          have y1 : ¬ (1114111 : Int) < z := by omega
          have y2 : z < (55296 : Int) := ha
          have HU : Hid (∀ d os, Calls Tryz.prog 176 #[.int .i64 z] (Sort.grow (redrawn w d) os) fun e w'' => e = .returned (.string (strOf (utf R))) ∧ ∃ p : Regrown, w'' = Sort.grow (redrawn w p.d) p.os) := fun d os => Calls.regrown_of (utf8_at _ _ hzR _ (by omega))
          have hm0 : 65536 ≤ R ∨ ¬ 65536 ≤ R := Decidable.em _
          rcases hm0 with hm | hm
          · have HEQ : Hid (rl s i = 4) := by have e := unhide HE2 (by omega); show _ = _; rw [e, if_pos hm]
            rw [decide_eq_true hm] at HC
            have hcmp := unhide HC
            clear hzR HC hm
            generalize strOf (utf R) = us at *
            go_wp2
            refine wp_region_quiet_below (by kernel_rfl) (by kernel_rfl) ?_
            repeat (first | go_big_quiet_step ((go_at_call 176; exact unhide HU _ _)) | quiet_step ((go_at_call 176; exact unhide HU _ _)))
            refine wpQuiet_nil ?_
            intro _ hw'
            obtain ⟨⟨dq, osq⟩, hw''⟩ := hw'
            subst hw''
            go_wp2
            go_ret
            exact ⟨by rw [unhide HEQ]; rfl, below_regrown w dq osq⟩
          · have HEQ : Hid (rl s i = 0) := by have e := unhide HE2 (by omega); show _ = _; rw [e, if_neg hm]
            rw [decide_eq_false hm] at HC
            have hcmp := unhide HC
            clear hzR HC hm
            generalize strOf (utf R) = us at *
            go_wp2
            refine wp_region_quiet_below (by kernel_rfl) (by kernel_rfl) ?_
            repeat (first | go_big_quiet_step ((go_at_call 176; exact unhide HU _ _)) | quiet_step ((go_at_call 176; exact unhide HU _ _)))
            refine wpQuiet_nil ?_
            intro _ hw'
            obtain ⟨⟨dq, osq⟩, hw''⟩ := hw'
            subst hw''
            go_wp2
            go_ret
            exact ⟨by rw [unhide HEQ]; rfl, below_regrown w dq osq⟩
        · by_cases hb : z < 57344
          · have e1 : decide ((1114111 : Int) < z) = false := by simp; omega
            have e2 : decide ((55296 : Int) ≤ z) = true := by simp; omega
            have e3 : decide (z < (57344 : Int)) = true := by simp; omega
            have y1 : ¬ (1114111 : Int) < z := by omega
            have y2 : (55296 : Int) ≤ z := by omega
            have HEQ : Hid (rl s i = 0) := unhide HE (by omega)
            clear hzR HC
            go_wp2
            refine wp_region_quiet_below (by kernel_rfl) (by kernel_rfl) ?_
            repeat (first | go_big_quiet_step (fail) | quiet_step (fail))
            refine wpQuiet_nil ?_
            intro _ hw'
            obtain ⟨⟨dq, osq⟩, hw''⟩ := hw'
            subst hw''
            go_wp2
            go_ret
            exact ⟨by rw [unhide HEQ]; rfl, below_regrown w dq osq⟩
          · by_cases hd : z ≤ 1114111
            · have e1 : decide ((1114111 : Int) < z) = false := by simp; omega
              have e2 : decide ((55296 : Int) ≤ z) = true := by simp; omega
              have e3 : decide (z < (57344 : Int)) = false := by simp; omega
              have y1 : ¬ (1114111 : Int) < z := by omega
              have y2 : (55296 : Int) ≤ z := by omega
              have y3 : ¬ z < (57344 : Int) := hb
              have HU : Hid (∀ d os, Calls Tryz.prog 176 #[.int .i64 z] (Sort.grow (redrawn w d) os) fun e w'' => e = .returned (.string (strOf (utf R))) ∧ ∃ p : Regrown, w'' = Sort.grow (redrawn w p.d) p.os) := fun d os => Calls.regrown_of (utf8_at _ _ hzR _ (by omega))
              have hm0 : 65536 ≤ R ∨ ¬ 65536 ≤ R := Decidable.em _
              rcases hm0 with hm | hm
              · have HEQ : Hid (rl s i = 4) := by have e := unhide HE2 (by omega); show _ = _; rw [e, if_pos hm]
                rw [decide_eq_true hm] at HC
                have hcmp := unhide HC
                clear hzR HC hm
                generalize strOf (utf R) = us at *
                go_wp2
                refine wp_region_quiet_below (by kernel_rfl) (by kernel_rfl) ?_
                repeat (first | go_big_quiet_step ((go_at_call 176; exact unhide HU _ _)) | quiet_step ((go_at_call 176; exact unhide HU _ _)))
                refine wpQuiet_nil ?_
                intro _ hw'
                obtain ⟨⟨dq, osq⟩, hw''⟩ := hw'
                subst hw''
                go_wp2
                go_ret
                exact ⟨by rw [unhide HEQ]; rfl, below_regrown w dq osq⟩
              · have HEQ : Hid (rl s i = 0) := by have e := unhide HE2 (by omega); show _ = _; rw [e, if_neg hm]
                rw [decide_eq_false hm] at HC
                have hcmp := unhide HC
                clear hzR HC hm
                generalize strOf (utf R) = us at *
                go_wp2
                refine wp_region_quiet_below (by kernel_rfl) (by kernel_rfl) ?_
                repeat (first | go_big_quiet_step ((go_at_call 176; exact unhide HU _ _)) | quiet_step ((go_at_call 176; exact unhide HU _ _)))
                refine wpQuiet_nil ?_
                intro _ hw'
                obtain ⟨⟨dq, osq⟩, hw''⟩ := hw'
                subst hw''
                go_wp2
                go_ret
                exact ⟨by rw [unhide HEQ]; rfl, below_regrown w dq osq⟩
            · have e1 : decide ((1114111 : Int) < z) = true := by simp; omega
              have y1 : (1114111 : Int) < z := by omega
              have HEQ : Hid (rl s i = 0) := unhide HE (by omega)
              clear hzR HC
              go_wp2
              refine wp_region_quiet_below (by kernel_rfl) (by kernel_rfl) ?_
              repeat (first | go_big_quiet_step (fail) | quiet_step (fail))
              refine wpQuiet_nil ?_
              intro _ hw'
              obtain ⟨⟨dq, osq⟩, hw''⟩ := hw'
              subst hw''
              go_wp2
              go_ret
              exact ⟨by rw [unhide HEQ]; rfl, below_regrown w dq osq⟩
  · have HF : Hid (rl s i = 0) := by have e := unhide HR; show _ = _; rw [e, if_neg (by omega)]
    have x1 : (s.size : Int) < (i : Int) + 4 := by omega
    go_enter Tryz.func173, Tryz.ntmps173
    go_wp2
    go_ret
    exact ⟨by rw [unhide HF]; rfl, Below.refl _ _⟩
end Go.Proofs.YtcjajchfjoffnaaGreatDoor

namespace Go.Proofs.YtcjajchfjoffnaaGreatDoor
open Go.RowKit

set_option maxHeartbeats 800000 in
set_option maxRecDepth 100000 in
theorem rl_walk (s : ByteArray) (i : Nat) (w : World) (hi : i < s.size) (hs : s.size ≤ 1048576) :
    Calls Tryz.prog 173 #[.string s, .int .i64 i] w fun e w' => e = .returned (.int .i64 (rl s i)) ∧ Below w.heap.size w w' := by
  have hb : s[i].toNat < 256 := UInt8.toNat_lt _
  by_cases h1 : s[i].toNat ≤ 127
  · exact rl_1 s i w hi hs (Nat.zero_le _) h1
  · by_cases h2 : s[i].toNat < 192
    · have HF : Hid (rl s i = 0) := by show _ = _; unfold rl; rw [rlN_cont (by rw [bt_at s i hi]; omega) (by rw [bt_at s i hi]; omega)]
      have hI : (128 : Int) ≤ (s[i].toNat : Int) := by omega
      have hI' : (s[i].toNat : Int) < 192 := by omega
      clear h1 h2 hb
      go_enter Tryz.func173, Tryz.ntmps173
      go_wp2
      go_ret
      exact ⟨by rw [unhide HF]; rfl, Below.refl _ _⟩
    · by_cases h3 : s[i].toNat ≤ 223
      · exact rl_2 s i w hi hs (by omega) h3
      · by_cases h4 : s[i].toNat ≤ 239
        · exact rl_3 s i w hi hs (by omega) h4
        · exact rl_4 s i w hi hs (by omega) (by omega)

theorem decodeL_at (s : ByteArray) (i : Nat) : Lib.decodeL (s.data.toList.drop i) = Lib.decodeN (s.size - i) (bt s i) (bt s (i + 1)) (bt s (i + 2)) (bt s (i + 3)) := by
  rw [Lib.decodeL_drop, dec]
theorem rlN_le (n b0 b1 b2 b3 : Nat) (hn : 1 ≤ n) : rlN n b0 b1 b2 b3 ≤ n := by
  unfold rlN; split
  · exact hn
  · split
    · omega
    · unfold Lib.decodeN
      repeat' split
      all_goals first | omega | (simp only []; omega)
theorem rlN_bad {n b0 b1 b2 b3 : Nat} (h : rlN n b0 b1 b2 b3 = 0) : Lib.decodeN n b0 b1 b2 b3 = (65533, 1) := by
  unfold rlN at h
  split at h
  · omega
  · split at h
    · rename_i h1 h2
      revert h2
      unfold Lib.decodeN
      repeat' split
      all_goals first | (intro h2; rfl) | (intro h2; simp at h2; done) | (intro h2; exfalso; omega)
    · rename_i h1 h2
      have := Lib.decodeN_ge1 n b0 b1 b2 b3; omega
theorem rlN_good {n b0 b1 b2 b3 : Nat} (h : ¬ rlN n b0 b1 b2 b3 = 0) : (Lib.decodeN n b0 b1 b2 b3).2 = rlN n b0 b1 b2 b3 ∧ ¬ ((Lib.decodeN n b0 b1 b2 b3).1 = 65533 ∧ (Lib.decodeN n b0 b1 b2 b3).2 = 1) := by
  unfold rlN at h ⊢
  split at h
  · rename_i h1
    rw [if_pos h1]
    have e : Lib.decodeN n b0 b1 b2 b3 = (b0, 1) := by unfold Lib.decodeN; rw [if_pos h1]
    rw [e]; exact ⟨rfl, fun hh => by have := hh.1; simp at this; omega⟩
  · rename_i h1
    rw [if_neg h1]
    split at h
    · exact absurd rfl h
    · rename_i h2
      rw [if_neg h2]; exact ⟨rfl, fun hh => h2 hh.2⟩
theorem rl_le (s : ByteArray) (i : Nat) (hi : i < s.size) : i + rl s i ≤ s.size := by
  have := rlN_le (s.size - i) (bt s i) (bt s (i + 1)) (bt s (i + 2)) (bt s (i + 3)) (by omega)
  unfold rl; omega
theorem drop_ne (s : ByteArray) (i : Nat) (hi : i < s.size) : s.data.toList.drop i ≠ [] := by rw [drop_at s i hi]; simp
theorem valid_bad (s : ByteArray) (i : Nat) (hi : i < s.size) (h : rl s i = 0) : Lib.validD (s.data.toList.drop i) = false := by
  rw [Lib.validD_step _ (drop_ne s i hi), decodeL_at, rlN_bad h]; rfl
theorem valid_go (s : ByteArray) (i : Nat) (hi : i < s.size) (h : ¬ rl s i = 0) : Lib.validD (s.data.toList.drop i) = Lib.validD (s.data.toList.drop (i + rl s i)) := by
  obtain ⟨h1, h2⟩ := rlN_good h
  rw [Lib.validD_step _ (drop_ne s i hi), decodeL_at, if_neg h2, h1, List.drop_drop]; rfl

end Go.Proofs.YtcjajchfjoffnaaGreatDoor

namespace Go.Proofs.YtcjajchfjoffnaaGreatDoor
open Go.RowKit

theorem take_2 (s : ByteArray) (i : Nat) (hi : i < s.size) (h1 : i + 1 < s.size) : (s.data.toList.drop i).take 2 = [s[i], s[i + 1]] := by
  rw [drop_at s i hi, drop_at s (i + 1) h1]; rfl
theorem take_3 (s : ByteArray) (i : Nat) (hi : i < s.size) (h1 : i + 1 < s.size) (h2 : i + 2 < s.size) : (s.data.toList.drop i).take 3 = [s[i], s[i + 1], s[i + 2]] := by
  rw [drop_at s i hi, drop_at s (i + 1) h1, drop_at s (i + 2) h2]; rfl
theorem take_4 (s : ByteArray) (i : Nat) (hi : i < s.size) (h1 : i + 1 < s.size) (h2 : i + 2 < s.size) (h3 : i + 3 < s.size) : (s.data.toList.drop i).take 4 = [s[i], s[i + 1], s[i + 2], s[i + 3]] := by
  rw [drop_at s i hi, drop_at s (i + 1) h1, drop_at s (i + 2) h2, drop_at s (i + 3) h3]; rfl
theorem toU8 (c : UInt8) (x : Int) (h : x = (c.toNat : Int)) : x.toNat.toUInt8 = c := by
  subst h; rw [Int.toNat_natCast]; exact UInt8.ofNat_toNat

set_option maxRecDepth 100000 in
/-- A rune of several bytes, written again, is its bytes. -/
theorem enc_multi (s : ByteArray) (i : Nat) (hi : i < s.size) (hv : ¬ rl s i = 0) (h8 : ¬ s[i].toNat < 128) :
    Lib.encodeRune ((Utf8.decode s i).1 : Nat) = (s.data.toList.drop i).take (rl s i) ∧ (∀ c ∈ (s.data.toList.drop i).take (rl s i), 128 ≤ c.toNat) ∧ 128 ≤ (Utf8.decode s i).1 ∧ (Utf8.decode s i).2 = rl s i := by
  have hb0 := bt_at s i hi
  have hw : (Utf8.decode s i).2 = rl s i := by rw [dec]; exact (rlN_good hv).1
  have h192 : 192 ≤ s[i].toNat := by
    rcases Nat.lt_or_ge s[i].toNat 192 with h | h
    · exact absurd (show rl s i = 0 by unfold rl; rw [rlN_cont (by rw [hb0]; omega) (by rw [hb0]; exact h)]) hv
    · exact h
  by_cases h2 : s[i].toNat < 224
  · have e := rlN_2 (n := s.size - i) (b0 := bt s i) (b1 := bt s (i + 1)) (b2 := bt s (i + 2)) (b3 := bt s (i + 3)) (by rw [hb0]; exact h192) (by rw [hb0]; exact h2) (bt_lt _ _)
    change rl s i = _ at e
    by_cases hc : 2 ≤ s.size - i ∧ 128 ≤ bt s (i + 1) ∧ bt s (i + 1) < 192 ∧ 128 ≤ (bt s i - 192) * 64 + (bt s (i + 1) - 128)
    · rw [if_pos hc] at e
      obtain ⟨c1, c2, c3, c4⟩ := hc
      have h1 : i + 1 < s.size := by omega
      have b1 := bt_at s (i + 1) h1
      have ed : Utf8.decode s i = (bt s i % 32 * 64 + bt s (i + 1) % 64, 2) := by
        rw [dec]; unfold Lib.decodeN
        rw [if_neg (by omega), if_pos ⟨by omega, by omega, by omega⟩, if_pos (by omega)]
      rw [e, ed, take_2 s i hi h1]
      refine ⟨?_, ?_, by simp only; omega, rfl⟩
      · unfold Lib.encodeRune
        rw [Lib.encodeRuneZ_two (by simp only; omega) (by simp only; omega)]
        simp only [List.map_cons, List.map_nil]
        rw [toU8 s[i] _ (by omega), toU8 s[i + 1] _ (by omega)]
      · intro c hc; simp at hc; rcases hc with rfl | rfl <;> omega
    · rw [if_neg hc] at e; exact absurd e hv
  · by_cases h3 : s[i].toNat < 240
    · have e := rlN_3 (n := s.size - i) (b0 := bt s i) (b1 := bt s (i + 1)) (b2 := bt s (i + 2)) (b3 := bt s (i + 3)) (by rw [hb0]; omega) (by rw [hb0]; exact h3) (bt_lt _ _) (bt_lt _ _)
      change rl s i = _ at e
      split at e
      · rename_i hc
        obtain ⟨c1, c2, c3, c4, c5, c6, c7⟩ := hc
        have h1 : i + 1 < s.size := by omega
        have h2' : i + 2 < s.size := by omega
        have b1 := bt_at s (i + 1) h1
        have b2 := bt_at s (i + 2) h2'
        have ed : Utf8.decode s i = (bt s i % 16 * 4096 + bt s (i + 1) % 64 * 64 + bt s (i + 2) % 64, 3) := by
          rw [dec]; unfold Lib.decodeN
          rw [if_neg (by omega), if_neg (by omega), if_pos ⟨by omega, ⟨by omega, by omega⟩, by omega, by omega⟩, if_pos (by omega)]
        rw [e, ed, take_3 s i hi h1 h2']
        refine ⟨?_, ?_, by simp only; omega, rfl⟩
        · unfold Lib.encodeRune
          rw [Lib.encodeRuneZ_three (by simp only; omega)]
          simp only [List.map_cons, List.map_nil]
          rw [toU8 s[i] _ (by omega), toU8 s[i + 1] _ (by omega), toU8 s[i + 2] _ (by omega)]
        · intro c hc; simp at hc; rcases hc with rfl | rfl | rfl <;> omega
      · exact absurd e hv
    · have hlt : s[i].toNat < 256 := UInt8.toNat_lt _
      have e := rlN_4 (n := s.size - i) (b0 := bt s i) (b1 := bt s (i + 1)) (b2 := bt s (i + 2)) (b3 := bt s (i + 3)) (by rw [hb0]; omega) (by rw [hb0]; exact hlt) (bt_lt _ _) (bt_lt _ _) (bt_lt _ _)
      change rl s i = _ at e
      split at e
      · rename_i hc
        obtain ⟨c1, c2, c3, c4, c5, c6, c7, c8, c9⟩ := hc
        have h1 : i + 1 < s.size := by omega
        have h2' : i + 2 < s.size := by omega
        have h3' : i + 3 < s.size := by omega
        have b1 := bt_at s (i + 1) h1
        have b2 := bt_at s (i + 2) h2'
        have b3 := bt_at s (i + 3) h3'
        have ed : Utf8.decode s i = (bt s i % 8 * 262144 + bt s (i + 1) % 64 * 4096 + bt s (i + 2) % 64 * 64 + bt s (i + 3) % 64, 4) := by
          rw [dec]; unfold Lib.decodeN
          rw [if_neg (by omega), if_neg (by omega), if_neg (by omega), if_pos ⟨by omega, ⟨by omega, by omega⟩, ⟨by omega, by omega⟩, by omega, by omega⟩, if_pos (by omega)]
        rw [e, ed, take_4 s i hi h1 h2' h3']
        refine ⟨?_, ?_, by simp only; omega, rfl⟩
        · unfold Lib.encodeRune
          rw [Lib.encodeRuneZ_four (by simp only; omega) (by simp only; omega)]
          simp only [List.map_cons, List.map_nil]
          rw [toU8 s[i] _ (by omega), toU8 s[i + 1] _ (by omega), toU8 s[i + 2] _ (by omega), toU8 s[i + 3] _ (by omega)]
        · intro c hc; simp at hc; rcases hc with rfl | rfl | rfl | rfl <;> omega
      · exact absurd e hv
end Go.Proofs.YtcjajchfjoffnaaGreatDoor

namespace Go.Proofs.YtcjajchfjoffnaaGreatDoor
open Go.RowKit

end Go.Proofs.YtcjajchfjoffnaaGreatDoor

namespace Go.Proofs.YtcjajchfjoffnaaGreatDoor
open Go.RowKit

set_option maxRecDepth 100000 in
set_option maxHeartbeats 800000 in
theorem isPtrS_walk (s : ByteArray) (w : World) (hsz : s.size ≤ 1048576) :
    Calls Tryz.prog 81 #[.string s] w fun e w' => e = .returned (.bool (ptoks s.data.toList).isSome) ∧ Below w.heap.size w w' := by
  have HT := hide (specToks_walk s w hsz)
  obtain ⟨z, hz⟩ : ∃ z, (ptoks s.data.toList).isSome = z := ⟨_, rfl⟩
  rw [hz] at HT ⊢
  clear hz
  go_enter Tryz.func81, Tryz.ntmps81
  go_wp2_with fail
  refine (unhide HT).mono ?_
  rintro e w1 ⟨v, rfl, o1, b1⟩
  clear HT o1
  cases z
  all_goals (
    go_wp2
    go_ret
    exact ⟨rfl, b1⟩)
end Go.Proofs.YtcjajchfjoffnaaGreatDoor

namespace Go.Proofs.YtcjajchfjoffnaaGreatDoor
open Go.RowKit

def pre (ts us : List (List UInt8)) : Bool := decide (ts.length ≤ us.length ∧ ∀ j, j < ts.length → ts.getD j [] = us.getD j [])

theorem ss_getD {ts : List (List UInt8)} {j : Nat} (h : j < ts.length) : (ts.map baT).getD j ByteArray.empty = baT (ts.getD j []) := by simp [h]
theorem baT_inj {a b : List UInt8} (h : baT a = baT b) : a = b := by
  have : (baT a).data.toList = (baT b).data.toList := by rw [h]
  simpa [baT] using this

end Go.Proofs.YtcjajchfjoffnaaGreatDoor

namespace Go.Proofs.YtcjajchfjoffnaaGreatDoor

def wSpec (o1 o2 : Option (List (List UInt8))) : Int := match o1, o2 with
  | some ts, some us => if pre ts us = true ∧ pre us ts = true then 1 else if pre ts us = true then 2 else if pre us ts = true then 3 else 0
  | _, _ => -1
def sameTo (n : Nat) (ts us : List (List UInt8)) : Bool := decide ((ts.map baT).take n = (us.map baT).take n)
theorem sameTo_pre {ts us : List (List UInt8)} (h : ts.length ≤ us.length) : sameTo ts.length ts us = pre ts us := by
  unfold sameTo pre
  rw [decide_eq_decide]
  constructor
  · intro e
    refine ⟨h, fun j hj => ?_⟩
    have := congrArg (fun l => l[j]?) e
    simp [hj] at this
    have hj2 : j < us.length := by omega
    simp [hj2] at this
    simpa [hj, hj2] using baT_inj this
  · rintro ⟨_, e⟩
    apply List.ext_getElem?
    intro j
    by_cases hj : j < ts.length
    · have hj2 : j < us.length := by omega
      have := e j hj
      simp [hj, hj2] at this
      simp [hj, hj2, this]
    · simp [List.getElem?_take, hj]
theorem pre_len {ts us : List (List UInt8)} (h : pre ts us = true) : ts.length ≤ us.length := by
  unfold pre at h; exact (of_decide_eq_true h).1
theorem pre_false {ts us : List (List UInt8)} (h : us.length < ts.length) : pre ts us = false := by
  cases e : pre ts us with
  | false => rfl
  | true => have := pre_len e; omega
theorem sameTo_comm (n : Nat) (ts us : List (List UInt8)) : sameTo n ts us = sameTo n us ts := by
  unfold sameTo; rw [decide_eq_decide]; exact eq_comm

theorem w_diff {ts us : List (List UInt8)} (h : sameTo (min ts.length us.length) ts us = false) : wSpec (some ts) (some us) = 0 := by
  have a : pre ts us = false := by
    by_cases hl : ts.length ≤ us.length
    · rw [← sameTo_pre hl]; rw [Nat.min_eq_left hl] at h; exact h
    · exact pre_false (by omega)
  have b : pre us ts = false := by
    by_cases hl : us.length ≤ ts.length
    · rw [← sameTo_pre hl]; rw [Nat.min_eq_right hl, sameTo_comm] at h; exact h
    · exact pre_false (by omega)
  simp [wSpec, a, b]
theorem w_eq {ts us : List (List UInt8)} (h : sameTo (min ts.length us.length) ts us = true) (hl : ts.length = us.length) : wSpec (some ts) (some us) = 1 := by
  have a : pre ts us = true := by rw [← sameTo_pre (by omega)]; rw [Nat.min_eq_left (by omega)] at h; exact h
  have b : pre us ts = true := by rw [← sameTo_pre (by omega)]; rw [Nat.min_eq_right (by omega), sameTo_comm] at h; exact h
  simp [wSpec, a, b]
theorem w_lt {ts us : List (List UInt8)} (h : sameTo (min ts.length us.length) ts us = true) (hl : ts.length < us.length) : wSpec (some ts) (some us) = 2 := by
  have a : pre ts us = true := by rw [← sameTo_pre (by omega)]; rw [Nat.min_eq_left (by omega)] at h; exact h
  have b : pre us ts = false := pre_false hl
  simp [wSpec, a, b]
theorem w_gt {ts us : List (List UInt8)} (h : sameTo (min ts.length us.length) ts us = true) (hl : us.length < ts.length) : wSpec (some ts) (some us) = 3 := by
  have a : pre ts us = false := pre_false hl
  have b : pre us ts = true := by rw [← sameTo_pre (by omega)]; rw [Nat.min_eq_right (by omega), sameTo_comm] at h; exact h
  simp [wSpec, a, b]
end Go.Proofs.YtcjajchfjoffnaaGreatDoor

namespace Go.Proofs.YtcjajchfjoffnaaGreatDoor

theorem unesc_esc : ∀ t : List UInt8, unesc (esc t) = some t
  | [] => rfl
  | c :: t => by
    have ih := unesc_esc t
    have e : esc (c :: t) = escB c ++ esc t := by simp [esc]
    rw [e]
    by_cases h1 : (c.toNat : Int) = 126
    · rw [escB_126 h1]
      show unesc (126 :: 48 :: esc t) = _
      rw [unesc_0 _ (by decide) (by decide), ih]
      have : c = 126 := by have := UInt8.ofNat_toNat (x := c); rw [show c.toNat = 126 from by omega] at this; exact this.symm
      subst this; rfl
    · by_cases h2 : (c.toNat : Int) = 47
      · rw [escB_47 h2]
        show unesc (126 :: 49 :: esc t) = _
        rw [unesc_1 _ (by decide) (by decide), ih]
        have : c = 47 := by have := UInt8.ofNat_toNat (x := c); rw [show c.toNat = 47 from by omega] at this; exact this.symm
        subst this; rfl
      · rw [escB_other h1 h2]
        show unesc (c :: esc t) = _
        rw [unesc_lit _ h1, ih]; rfl
theorem esc_noR (t : List UInt8) : ∀ c ∈ esc t, ¬ c.toNat = 47 := by
  intro c hc
  unfold esc at hc
  obtain ⟨a, _, ha⟩ := List.mem_flatMap.1 hc
  unfold escB at ha
  split at ha
  · simp at ha; rcases ha with rfl | rfl <;> decide
  · split at ha
    · simp at ha; rcases ha with rfl | rfl <;> decide
    · simp at ha; subst ha; assumption
theorem ptrText_cons (s : ByteArray) (ss : List ByteArray) : ptrText (s :: ss) = 47 :: (esc s.data.toList ++ ptrText ss) := by simp [ptrText]
theorem pieces_text : ∀ (ss : List ByteArray) (t : List UInt8), pieces (esc t ++ ptrText ss) = esc t :: ss.map (fun s => esc s.data.toList)
  | [], t => by show pieces (esc t ++ []) = _; rw [List.append_nil, pieces_one (esc_noR t)]; rfl
  | s :: ss, t => by rw [ptrText_cons, pieces_app (esc_noR t) (by decide), pieces_text ss]; rfl
theorem mapM_esc : ∀ ts : List (List UInt8), (ts.map esc).mapM unesc = some ts
  | [] => rfl
  | t :: ts => by rw [List.map_cons, List.mapM_cons, unesc_esc, mapM_esc ts]; rfl
theorem ptoks_text (ts : List (List UInt8)) : ptoks (ptrText (ts.map baT)) = some ts := by
  cases ts with
  | nil => rfl
  | cons t ts =>
    rw [List.map_cons, ptrText_cons, ptoks, if_pos (by decide)]
    show toks (esc t ++ ptrText (ts.map baT)) = _
    unfold toks
    rw [pieces_text, List.map_map]
    have : (esc t :: List.map ((fun s => esc s.data.toList) ∘ baT) ts) = (t :: ts).map esc := by simp [baT]
    rw [this, mapM_esc]
theorem pre_self (ts us : List (List UInt8)) : pre ts (ts ++ us) = true := by
  unfold pre; rw [decide_eq_true_iff]
  exact ⟨by simp, fun j hj => by simp [List.getD, List.getElem?_append_left hj]⟩
theorem wS_eq (ts : List (List UInt8)) : wSpec (some ts) (some (ts ++ [])) = 1 := by
  have a := pre_self ts []
  rw [List.append_nil] at *
  simp [wSpec, a]
theorem wS_eq' (ts : List (List UInt8)) : wSpec (some (ts ++ [])) (some ts) = 1 := by
  have a := pre_self ts []
  rw [List.append_nil] at *
  simp [wSpec, a]
theorem pre_long (ts : List (List UInt8)) {us : List (List UInt8)} (h : 0 < us.length) : pre (ts ++ us) ts = false := pre_false (by simp; omega)
theorem wS_lt (ts : List (List UInt8)) {us : List (List UInt8)} (h : 0 < us.length) : wSpec (some ts) (some (ts ++ us)) = 2 := by
  simp [wSpec, pre_self ts us, pre_long ts h]
theorem wS_gt (ts : List (List UInt8)) {us : List (List UInt8)} (h : 0 < us.length) : wSpec (some (ts ++ us)) (some ts) = 3 := by
  simp [wSpec, pre_self ts us, pre_long ts h]
theorem tot_small (ts : List (List UInt8)) (h : ∀ t ∈ ts, t.length ≤ 3) : tot (ts.map baT) ≤ 3 * ts.length := by
  induction ts with
  | nil => simp [tot]
  | cons t ts ih =>
    have h1 := h t List.mem_cons_self
    have h2 := ih (fun q hq => h q (List.mem_cons_of_mem _ hq))
    have e : (baT t).size = t.length := by show t.toArray.size = _; simp
    simp only [tot, List.map_cons, List.sum_cons, List.length_cons] at *
    omega
end Go.Proofs.YtcjajchfjoffnaaGreatDoor

namespace Go.Proofs.YtcjajchfjoffnaaGreatDoor

theorem byte_is {c : UInt8} {n : Nat} (h : c.toNat = n) : c = UInt8.ofNat n := by rw [← h, UInt8.ofNat_toNat]
/-- A token is written in one way only. -/
theorem esc_unesc : ∀ (n : Nat) (l t : List UInt8), l.length ≤ n → unesc l = some t → (∀ c ∈ l, ¬ c.toNat = 47) → esc t = l
  | _, [], t, _, h, _ => by rw [unesc] at h; injection h with h; subst h; rfl
  | 0, c :: r, t, hn, _, _ => by simp at hn
  | n + 1, c :: r, t, hn, h, hc => by
    by_cases h1 : c.toNat = 126
    · have hcI : (c.toNat : Int) = 126 := by omega
      have ec := byte_is h1
      cases r with
      | nil => rw [unesc_end hcI] at h; cases h
      | cons d r =>
        have hl : r.length ≤ n := by simp at hn; omega
        have hc' : ∀ c ∈ r, ¬ c.toNat = 47 := fun x hx => hc x (List.mem_cons_of_mem _ (List.mem_cons_of_mem _ hx))
        by_cases h2 : d.toNat = 48
        · have ed := byte_is h2
          rw [unesc_0 r hcI (by omega)] at h
          simp only [Option.map_eq_some_iff] at h
          obtain ⟨t', ht, rfl⟩ := h
          have ih := esc_unesc n r t' hl ht hc'
          show escB 126 ++ esc t' = _
          rw [ih, ec, ed]; rfl
        · by_cases h3 : d.toNat = 49
          · have ed := byte_is h3
            rw [unesc_1 r hcI (by omega)] at h
            simp only [Option.map_eq_some_iff] at h
            obtain ⟨t', ht, rfl⟩ := h
            have ih := esc_unesc n r t' hl ht hc'
            show escB 47 ++ esc t' = _
            rw [ih, ec, ed]; rfl
          · rw [unesc_bad r hcI (by omega) (by omega)] at h; cases h
    · rw [unesc_lit r (by omega)] at h
      simp only [Option.map_eq_some_iff] at h
      obtain ⟨t', ht, rfl⟩ := h
      have ih := esc_unesc n r t' (by simp at hn; omega) ht (fun x hx => hc x (List.mem_cons_of_mem _ hx))
      show escB c ++ esc t' = _
      have h47 := hc c List.mem_cons_self
      rw [ih, escB_other (by omega) (by omega)]; rfl
/-- The pieces, put together again. -/
theorem pieces_join : ∀ (l p : List UInt8) (ps : List (List UInt8)), pieces l = p :: ps → l = p ++ ps.flatMap (47 :: ·) ∧ ∀ q ∈ p :: ps, ∀ c ∈ q, ¬ c.toNat = 47
  | [], p, ps, h => by
    rw [pieces] at h
    injection h with h1 h2
    subst h1; subst h2
    exact ⟨rfl, fun q hq c hc => by simp at hq; subst hq; simp at hc⟩
  | c :: r, p, ps, h => by
    obtain ⟨p', ps', e⟩ : ∃ p' ps', pieces r = p' :: ps' := by
      cases hp : pieces r with
      | nil => exact absurd hp (pieces_ne r)
      | cons a b => exact ⟨a, b, rfl⟩
    obtain ⟨h1, h2⟩ := pieces_join r p' ps' e
    by_cases hc : c.toNat = 47
    · rw [pieces_cut r hc, e] at h
      injection h with e1 e2
      subst e1; subst e2
      refine ⟨?_, fun q hq x hx => ?_⟩
      · have ec := byte_is hc
        rw [ec, h1]; rfl
      · rcases List.mem_cons.1 hq with rfl | hq
        · simp at hx
        · exact h2 q hq x hx
    · rw [pieces_go hc e] at h
      injection h with e1 e2
      subst e1; subst e2
      refine ⟨by rw [List.cons_append, ← h1], fun q hq x hx => ?_⟩
      rcases List.mem_cons.1 hq with rfl | hq
      · rcases List.mem_cons.1 hx with rfl | hx
        · exact hc
        · exact h2 p' List.mem_cons_self x hx
      · exact h2 q (List.mem_cons_of_mem _ hq) x hx
theorem mapM_unesc : ∀ (ps ts : List (List UInt8)), ps.mapM unesc = some ts → (∀ q ∈ ps, ∀ c ∈ q, ¬ c.toNat = 47) → ts.map esc = ps
  | [], ts, h, _ => by simp at h; subst h; rfl
  | p :: ps, ts, h, hp => by
    rw [List.mapM_cons] at h
    cases h1 : unesc p with
    | none => rw [h1] at h; cases h
    | some t =>
      cases h2 : ps.mapM unesc with
      | none => rw [h1, h2] at h; cases h
      | some ts' =>
        rw [h1, h2] at h
        injection h with h
        subst h
        rw [List.map_cons, esc_unesc p.length p t (Nat.le_refl _) h1 (hp p List.mem_cons_self), mapM_unesc ps ts' h2 (fun q hq => hp q (List.mem_cons_of_mem _ hq))]
theorem text_map (ts : List (List UInt8)) : ptrText (ts.map baT) = (ts.map esc).flatMap (47 :: ·) := by
  unfold ptrText
  rw [List.flatMap_map, List.flatMap_map]
  rfl
/-- The text of a pointer's tokens is the pointer. -/
theorem text_ptoks {l : List UInt8} {ts : List (List UInt8)} (h : ptoks l = some ts) : ptrText (ts.map baT) = l := by
  cases l with
  | nil => rw [ptoks] at h; injection h with h; subst h; rfl
  | cons c r =>
    rw [ptoks] at h
    split at h
    · rename_i hc
      obtain ⟨p, ps, e⟩ : ∃ p ps, pieces r = p :: ps := by
        cases hp : pieces r with
        | nil => exact absurd hp (pieces_ne r)
        | cons a b => exact ⟨a, b, rfl⟩
      obtain ⟨h1, h2⟩ := pieces_join r p ps e
      unfold toks at h
      rw [e] at h
      rw [text_map, mapM_unesc _ ts h h2]
      have ec := byte_is hc
      rw [ec, h1]; rfl
    · cases h
end Go.Proofs.YtcjajchfjoffnaaGreatDoor
