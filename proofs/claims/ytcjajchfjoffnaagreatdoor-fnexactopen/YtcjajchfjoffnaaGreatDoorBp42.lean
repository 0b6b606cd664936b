import Derived.Handy
import Derived.Test.YtcjajchfjoffnaaGreatDoorBp12
import Derived.Test.YtcjajchfjoffnaaGreatDoorBp10
import Derived.Deep.LoopGhost
import Derived.Test.YtcjajchfjoffnaaGreatDoorBp1
namespace Go.Proofs.YtcjajchfjoffnaaGreatDoor
open Go.RowKit

def gotV (t : ByteArray) (n : Nat) (ok b tw : Bool) : Value := .agg #[.string t, .int .i64 (n : Int), .bool ok, .bool b, .bool tw]
/-- A value of JSON, as the model reads it. -/
def GP (w : World) (o : Option (JV × Nat)) (e : Ending) (w' : World) : Prop :=
  Below w.heap.size w w' ∧ o.elim (∃ (t : ByteArray) (n : Nat) (b tw : Bool), e = .returned (gotV t n false b tw)) fun q => e = .returned (gotV (strOf (ct q.1)) q.2 true (bigV q.1) (twV q.1))
theorem GP.bad {w w' : World} {o : Option (JV × Nat)} (h : o = none) (b : Below w.heap.size w w') : GP w o (.returned (.agg #[.string ⟨#[]⟩, .int .i64 0, .bool false, .bool false, .bool false])) w' := by
  subst h; exact ⟨b, _, 0, _, _, rfl⟩

set_option maxHeartbeats 400000 in
theorem digit_walk (b : Nat) (w : World) :
    Calls Tryz.prog 97 #[.int .u8 b] w fun e w' => e = .returned (.bool (isDg b)) ∧ w = w' := by
  by_cases h : 48 ≤ b
  · have HD : Hid (isDg b = decide ((b : Int) ≤ 57)) := by
      show _ = _
      unfold isDg
      rw [decide_eq_true h, Bool.true_and]
      apply decide_eq_decide.2; omega
    have h1 : (48 : Int) ≤ (b : Int) := by omega
    go_enter Tryz.func97, Tryz.ntmps97
    go_wp2
    go_ret
    exact ⟨by rw [unhide HD]; rfl, rfl⟩
  · have HD : Hid (isDg b = false) := by
      show _ = _
      unfold isDg
      rw [decide_eq_false h, Bool.false_and]
    have h1 : ¬ (48 : Int) ≤ (b : Int) := by omega
    go_enter Tryz.func97, Tryz.ntmps97
    go_wp2
    go_ret
    exact ⟨by rw [unhide HD]; rfl, rfl⟩
theorem alloc_below (w : World) (o : Obj) : Below w.heap.size w (w.alloc o) := (Below.refl _ _).alloc (Nat.le_refl _) _


set_option maxRecDepth 100000 in
set_option maxHeartbeats 4000000 in
theorem num_neg (s : ByteArray) (i : Nat) (w : World) (hs : s.size ≤ 1048576) (hi : i ≤ s.size + 1) (h45 : bt s i = 45) :
    Calls Tryz.prog 123 #[.string s, .int .i64 i] w (GP w ((nm s i).map fun q => (.num q.1, q.2))) := by
  have HA : Hid (∀ w, Calls Tryz.prog 119 #[.string s, .int .i64 i, .int .u8 45] w fun e w' => e = .returned (.bool true) ∧ w = w') := fun w => by
    have h := at_walk s (i : Int) i rfl 45 w
    rw [show atB s i 45 = true from by
      have hlt : i < s.size := bt_in (by omega)
      rw [atB_in hlt, beq_iff_eq, ← bt_at s i hlt, h45]; rfl] at h
    exact h
  have hD : nmD s i = i + 1 := by unfold nmD; rw [if_pos h45]
  by_cases hin : i + 1 < s.size
  · have t1 : ((s.size : Int) ≤ (i : Int) + 1) = False := eq_false (by omega)
    have t1' : ((i : Int) + 1 < (s.size : Int)) = True := eq_true (by omega)
    have hbd := bt_at s (i + 1) hin
    have HG : Hid (∀ w, Calls Tryz.prog 97 #[.int .u8 (s[i + 1].toNat : Int)] w fun e w' => e = .returned (.bool (isDg (bt s (i + 1)))) ∧ w = w') := fun w => by
      rw [hbd]; exact digit_walk _ w
    cases hdg : isDg (bt s (i + 1)) with
    | false =>
      have HR : Hid (((nm s i).map fun q => (JV.num q.1, q.2)) = none) := by
        show _ = _
        unfold nm
        rw [hD, if_neg (by rw [hdg]; simp)]; rfl
      rw [hdg] at HG
      clear hdg hbd
      go_enter Tryz.func123, Tryz.ntmps123
      go_wp2_with fail
      refine (unhide HA _).mono ?_
      rintro e w1 ⟨rfl, rfl⟩
      go_wp2_with fail
      refine (unhide HG _).mono ?_
      rintro e w2 ⟨rfl, rfl⟩
      go_wp2
      go_returns
      exact GP.bad (unhide HR) (alloc_below w _)
    | true =>
      rw [hdg] at HG
      by_cases h48 : bt s (i + 1) = 48
      · have t2 : ((s[i + 1].toNat : Int) == 48) = true := by rw [beq_iff_eq]; omega
        have hE : nmE s i = i + 1 + 1 := by unfold nmE; rw [hD, if_pos h48]
        have i1 : (i : Int) ≤ (i : Int) + 1 + 1 := by omega
        have i2 : (i : Int) + 1 + 1 ≤ (s.size : Int) := by omega
        have i3 : (0 : Int) ≤ (i : Int) := by omega
        go_enter Tryz.func123, Tryz.ntmps123
        go_wp2_with fail
        refine (unhide HA _).mono ?_
        rintro e w1 ⟨rfl, rfl⟩
        go_wp2_with fail
        refine (unhide HG _).mono ?_
        rintro e w2 ⟨rfl, rfl⟩
        clear HA HG
        have HB : Hid (∀ w, Calls Tryz.prog 154 #[.string (s.extract i (i + 1 + 1))] w fun e' w' => e' = .returned (.bool (tooBig (cutB s i (i + 1 + 1)))) ∧ w = w') := fun w => by
          rw [strOf_cut]
          exact tooBig_walk (cutB s i (i + 1 + 1)) w (by
            intro h
            have := congrArg List.length h
            unfold cutB at this
            rw [List.length_take, List.length_drop, data_len, List.length_nil] at this
            omega) (by unfold cutB; rw [List.length_take, List.length_drop, data_len]; omega)
        by_cases hz : cutB s i (i + 1 + 1) = [45, 48]
        · have z1 : ((s.extract i (i + 1 + 1)).toList == [45, 48]) = true := by rw [ex_toList, hz]; rfl
          have HB0 : Hid (∀ w, Calls Tryz.prog 154 #[.string ⟨#[48]⟩] w fun e' w' => e' = .returned (.bool (tooBig [48])) ∧ w = w') := fun w => tooBig_walk [48] w (by simp) (by simp)
          have HR : Hid (nm s i = some ([48], i + 1 + 1)) := by
            show _ = _
            unfold nm
            rw [if_pos (by rw [hD]; exact hdg), hE]
            unfold norm0
            rw [if_pos hz]
          clear HB hz
          go_wp2_with fail
          refine (unhide HB0 _).mono ?_
          rintro e' w3 ⟨rfl, rfl⟩
          go_wp2
          go_returns
          rw [unhide HR]
          exact ⟨alloc_below w _, rfl⟩
        · have z1 : ((s.extract i (i + 1 + 1)).toList == [45, 48]) = false := by rw [ex_toList, beq_eq_false_iff_ne]; exact hz
          have HR : Hid (nm s i = some (cutB s i (i + 1 + 1), i + 1 + 1)) := by
            show _ = _
            unfold nm
            rw [if_pos (by rw [hD]; exact hdg), hE]
            unfold norm0
            rw [if_neg hz]
          have HX := hide (strOf_cut s i (i + 1 + 1))
          clear hz
          go_wp2_with fail
          refine (unhide HB _).mono ?_
          rintro e' w3 ⟨rfl, rfl⟩
          go_wp2
          go_returns
          rw [unhide HR, unhide HX]
          exact ⟨alloc_below w _, rfl⟩
      · have t2 : ((s[i + 1].toNat : Int) == 48) = false := by rw [beq_eq_false_iff_ne]; omega
        have hE : nmE s i = dg s (i + 1) := by unfold nmE; rw [hD, if_neg h48]
        have HGG : Hid (∀ (j : Nat) (hj : j < s.size) w, Calls Tryz.prog 97 #[.int .u8 (s[j].toNat : Int)] w fun e w' => e = .returned (.bool (isDg (bt s j))) ∧ w = w') := fun j hj w => by
          rw [bt_at s j hj]; exact digit_walk _ w
        clear h48 hbd
        go_enter Tryz.func123, Tryz.ntmps123
        go_wp2_with fail
        refine (unhide HA _).mono ?_
        rintro e w1 ⟨rfl, rfl⟩
        go_wp2_with fail
        refine (unhide HG _).mono ?_
        rintro e w2 ⟨rfl, rfl⟩
        clear HA HG
        go_wp2_with fail
        go_loopw [1] (fun k wr => wr = w.alloc (.cells #[.string ⟨#[]⟩, .int .i64 0, .bool false, .bool false, .bool false] 121) ∧ ∃ j : Nat, k = .int .i64 (j : Int) ∧ i + 1 ≤ j ∧ j ≤ s.size ∧ dg s (i + 1) = dg s j ∧ (i + 1 < j ∨ j = i + 1)) (fun k _ => s.size - (intOf k).toNat)
        case atStart => exact ⟨rfl, i + 1, by go_num, Nat.le_refl _, by omega, rfl, .inr rfl⟩
        case round =>
          obtain ⟨rfl, j, rfl, hj1, hj2, hst, hj3⟩ := hrel
          have HST := hide hst
          clear hst
          by_cases hjin : j < s.size
          · have u1 : ((j : Int) < (s.size : Int)) = True := eq_true (by omega)
            have HJ := hide (fun w => unhide HGG j hjin w)
            cases hjd : isDg (bt s j) with
            | true =>
              have HX : Hid (dg s (i + 1) = dg s (j + 1)) := by show _ = _; rw [unhide HST, dg_on hjd]
              rw [hjd] at HJ
              clear hjd
              go_wp2_with fail
              refine (unhide HJ _).mono ?_
              rintro e w3 ⟨rfl, rfl⟩
              clear HJ
              go_wp2
              go_roundw
              case rel => exact ⟨trivial, j + 1, by go_num, by omega, by omega, unhide HX, .inl (by omega)⟩
              case measure => simp [intOf]; omega
            | false =>
              have HX : dg s (i + 1) = j := by rw [unhide HST, dg_off (by rw [hjd]; simp)]
              rw [hjd] at HJ
              have hne : i + 1 < j := by
                rcases hj3 with h | h
                · exact h
                · subst h; rw [hdg] at hjd; cases hjd
              rw [HX] at hE
              clear hjd HX hj3
              have i1 : (i : Int) ≤ (j : Int) := by omega
              have i2 : (j : Int) ≤ (s.size : Int) := by omega
              have i3 : (0 : Int) ≤ (i : Int) := by omega
              go_wp2_with fail
              refine (unhide HJ _).mono ?_
              rintro e w3 ⟨rfl, rfl⟩
              clear HJ HGG
              have HB : Hid (∀ w, Calls Tryz.prog 154 #[.string (s.extract i (j))] w fun e' w' => e' = .returned (.bool (tooBig (cutB s i (j)))) ∧ w = w') := fun w => by
                rw [strOf_cut]
                exact tooBig_walk (cutB s i (j)) w (by
                  intro h
                  have := congrArg List.length h
                  unfold cutB at this
                  rw [List.length_take, List.length_drop, data_len, List.length_nil] at this
                  omega) (by unfold cutB; rw [List.length_take, List.length_drop, data_len]; omega)
              by_cases hz : cutB s i (j) = [45, 48]
              · have z1 : ((s.extract i (j)).toList == [45, 48]) = true := by rw [ex_toList, hz]; rfl
                have HB0 : Hid (∀ w, Calls Tryz.prog 154 #[.string ⟨#[48]⟩] w fun e' w' => e' = .returned (.bool (tooBig [48])) ∧ w = w') := fun w => tooBig_walk [48] w (by simp) (by simp)
                have HR : Hid (nm s i = some ([48], j)) := by
                  show _ = _
                  unfold nm
                  rw [if_pos (by rw [hD]; exact hdg), hE]
                  unfold norm0
                  rw [if_pos hz]
                clear HB hz
                go_wp2_with fail
                refine (unhide HB0 _).mono ?_
                rintro e' w3 ⟨rfl, rfl⟩
                go_wp2
                go_returns
                rw [unhide HR]
                exact ⟨alloc_below w _, rfl⟩
              · have z1 : ((s.extract i (j)).toList == [45, 48]) = false := by rw [ex_toList, beq_eq_false_iff_ne]; exact hz
                have HR : Hid (nm s i = some (cutB s i (j), j)) := by
                  show _ = _
                  unfold nm
                  rw [if_pos (by rw [hD]; exact hdg), hE]
                  unfold norm0
                  rw [if_neg hz]
                have HX := hide (strOf_cut s i (j))
                clear hz
                go_wp2_with fail
                refine (unhide HB _).mono ?_
                rintro e' w3 ⟨rfl, rfl⟩
                go_wp2
                go_returns
                rw [unhide HR, unhide HX]
                exact ⟨alloc_below w _, rfl⟩
          · have u1 : ((j : Int) < (s.size : Int)) = False := eq_false (by omega)
            have hjz : s.size ≤ j := by omega
            have HX : dg s (i + 1) = j := by rw [unhide HST, dg_off (by rw [bt_out s j (by omega)]; simp [isDg])]
            rw [HX] at hE
            clear HX hj3 HGG hjz
            have i1 : (i : Int) ≤ (j : Int) := by omega
            have i2 : (j : Int) ≤ (s.size : Int) := by omega
            have i3 : (0 : Int) ≤ (i : Int) := by omega
            have HB : Hid (∀ w, Calls Tryz.prog 154 #[.string (s.extract i (j))] w fun e' w' => e' = .returned (.bool (tooBig (cutB s i (j)))) ∧ w = w') := fun w => by
              rw [strOf_cut]
              exact tooBig_walk (cutB s i (j)) w (by
                intro h
                have := congrArg List.length h
                unfold cutB at this
                rw [List.length_take, List.length_drop, data_len, List.length_nil] at this
                omega) (by unfold cutB; rw [List.length_take, List.length_drop, data_len]; omega)
            by_cases hz : cutB s i (j) = [45, 48]
            · have z1 : ((s.extract i (j)).toList == [45, 48]) = true := by rw [ex_toList, hz]; rfl
              have HB0 : Hid (∀ w, Calls Tryz.prog 154 #[.string ⟨#[48]⟩] w fun e' w' => e' = .returned (.bool (tooBig [48])) ∧ w = w') := fun w => tooBig_walk [48] w (by simp) (by simp)
              have HR : Hid (nm s i = some ([48], j)) := by
                show _ = _
                unfold nm
                rw [if_pos (by rw [hD]; exact hdg), hE]
                unfold norm0
                rw [if_pos hz]
              clear HB hz
              go_wp2_with fail
              refine (unhide HB0 _).mono ?_
              rintro e' w3 ⟨rfl, rfl⟩
              go_wp2
              go_returns
              rw [unhide HR]
              exact ⟨alloc_below w _, rfl⟩
            · have z1 : ((s.extract i (j)).toList == [45, 48]) = false := by rw [ex_toList, beq_eq_false_iff_ne]; exact hz
              have HR : Hid (nm s i = some (cutB s i (j), j)) := by
                show _ = _
                unfold nm
                rw [if_pos (by rw [hD]; exact hdg), hE]
                unfold norm0
                rw [if_neg hz]
              have HX := hide (strOf_cut s i (j))
              clear hz
              go_wp2_with fail
              refine (unhide HB _).mono ?_
              rintro e' w3 ⟨rfl, rfl⟩
              go_wp2
              go_returns
              rw [unhide HR, unhide HX]
              exact ⟨alloc_below w _, rfl⟩
  · have t1 : ((s.size : Int) ≤ (i : Int) + 1) = True := eq_true (by omega)
    have HR : Hid (((nm s i).map fun q => (JV.num q.1, q.2)) = none) := by
      show _ = _
      unfold nm
      rw [hD, if_neg (by rw [bt_out s (i + 1) (by omega)]; simp [isDg])]; rfl
    go_enter Tryz.func123, Tryz.ntmps123
    go_wp2_with fail
    refine (unhide HA _).mono ?_
    rintro e w1 ⟨rfl, rfl⟩
    go_wp2
    go_returns
    exact GP.bad (unhide HR) (alloc_below w _)

set_option maxRecDepth 100000 in
set_option maxHeartbeats 4000000 in
theorem num_pos (s : ByteArray) (i : Nat) (w : World) (hs : s.size ≤ 1048576) (hi : i ≤ s.size + 1) (h45 : bt s i ≠ 45) :
    Calls Tryz.prog 123 #[.string s, .int .i64 i] w (GP w ((nm s i).map fun q => (.num q.1, q.2))) := by
  have HA : Hid (∀ w, Calls Tryz.prog 119 #[.string s, .int .i64 i, .int .u8 45] w fun e w' => e = .returned (.bool false) ∧ w = w') := fun w => by
    have h := at_walk s (i : Int) i rfl 45 w
    rw [show atB s i 45 = false from by
      by_cases hlt : i < s.size
      · rw [atB_in hlt, beq_eq_false_iff_ne, ← bt_at s i hlt]; omega
      · exact atB_out hlt] at h
    exact h
  have hD : nmD s i = i := by unfold nmD; rw [if_neg h45]
  by_cases hin : i < s.size
  · have t1 : ((s.size : Int) ≤ (i : Int)) = False := eq_false (by omega)
    have t1' : ((i : Int) < (s.size : Int)) = True := eq_true (by omega)
    have hbd := bt_at s (i) hin
    have HG : Hid (∀ w, Calls Tryz.prog 97 #[.int .u8 (s[i].toNat : Int)] w fun e w' => e = .returned (.bool (isDg (bt s (i)))) ∧ w = w') := fun w => by
      rw [hbd]; exact digit_walk _ w
    cases hdg : isDg (bt s (i)) with
    | false =>
      have HR : Hid (((nm s i).map fun q => (JV.num q.1, q.2)) = none) := by
        show _ = _
        unfold nm
        rw [hD, if_neg (by rw [hdg]; simp)]; rfl
      rw [hdg] at HG
      clear hdg hbd
      go_enter Tryz.func123, Tryz.ntmps123
      go_wp2_with fail
      refine (unhide HA _).mono ?_
      rintro e w1 ⟨rfl, rfl⟩
      go_wp2_with fail
      refine (unhide HG _).mono ?_
      rintro e w2 ⟨rfl, rfl⟩
      go_wp2
      go_returns
      exact GP.bad (unhide HR) (alloc_below w _)
    | true =>
      rw [hdg] at HG
      by_cases h48 : bt s (i) = 48
      · have t2 : ((s[i].toNat : Int) == 48) = true := by rw [beq_iff_eq]; omega
        have hE : nmE s i = i + 1 := by unfold nmE; rw [hD, if_pos h48]
        have i1 : (i : Int) ≤ (i : Int) + 1 := by omega
        have i2 : (i : Int) + 1 ≤ (s.size : Int) := by omega
        have i3 : (0 : Int) ≤ (i : Int) := by omega
        go_enter Tryz.func123, Tryz.ntmps123
        go_wp2_with fail
        refine (unhide HA _).mono ?_
        rintro e w1 ⟨rfl, rfl⟩
        go_wp2_with fail
        refine (unhide HG _).mono ?_
        rintro e w2 ⟨rfl, rfl⟩
        clear HA HG
        have HB : Hid (∀ w, Calls Tryz.prog 154 #[.string (s.extract i (i + 1))] w fun e' w' => e' = .returned (.bool (tooBig (cutB s i (i + 1)))) ∧ w = w') := fun w => by
          rw [strOf_cut]
          exact tooBig_walk (cutB s i (i + 1)) w (by
            intro h
            have := congrArg List.length h
            unfold cutB at this
            rw [List.length_take, List.length_drop, data_len, List.length_nil] at this
            omega) (by unfold cutB; rw [List.length_take, List.length_drop, data_len]; omega)
        by_cases hz : cutB s i (i + 1) = [45, 48]
        · have z1 : ((s.extract i (i + 1)).toList == [45, 48]) = true := by rw [ex_toList, hz]; rfl
          have HB0 : Hid (∀ w, Calls Tryz.prog 154 #[.string ⟨#[48]⟩] w fun e' w' => e' = .returned (.bool (tooBig [48])) ∧ w = w') := fun w => tooBig_walk [48] w (by simp) (by simp)
          have HR : Hid (nm s i = some ([48], i + 1)) := by
            show _ = _
            unfold nm
            rw [if_pos (by rw [hD]; exact hdg), hE]
            unfold norm0
            rw [if_pos hz]
          clear HB hz
          go_wp2_with fail
          refine (unhide HB0 _).mono ?_
          rintro e' w3 ⟨rfl, rfl⟩
          go_wp2
          go_returns
          rw [unhide HR]
          exact ⟨alloc_below w _, rfl⟩
        · have z1 : ((s.extract i (i + 1)).toList == [45, 48]) = false := by rw [ex_toList, beq_eq_false_iff_ne]; exact hz
          have HR : Hid (nm s i = some (cutB s i (i + 1), i + 1)) := by
            show _ = _
            unfold nm
            rw [if_pos (by rw [hD]; exact hdg), hE]
            unfold norm0
            rw [if_neg hz]
          have HX := hide (strOf_cut s i (i + 1))
          clear hz
          go_wp2_with fail
          refine (unhide HB _).mono ?_
          rintro e' w3 ⟨rfl, rfl⟩
          go_wp2
          go_returns
          rw [unhide HR, unhide HX]
          exact ⟨alloc_below w _, rfl⟩
      · have t2 : ((s[i].toNat : Int) == 48) = false := by rw [beq_eq_false_iff_ne]; omega
        have hE : nmE s i = dg s (i) := by unfold nmE; rw [hD, if_neg h48]
        have HGG : Hid (∀ (j : Nat) (hj : j < s.size) w, Calls Tryz.prog 97 #[.int .u8 (s[j].toNat : Int)] w fun e w' => e = .returned (.bool (isDg (bt s j))) ∧ w = w') := fun j hj w => by
          rw [bt_at s j hj]; exact digit_walk _ w
        clear h48 hbd
        go_enter Tryz.func123, Tryz.ntmps123
        go_wp2_with fail
        refine (unhide HA _).mono ?_
        rintro e w1 ⟨rfl, rfl⟩
        go_wp2_with fail
        refine (unhide HG _).mono ?_
        rintro e w2 ⟨rfl, rfl⟩
        clear HA HG
        go_wp2_with fail
        go_loopw [1] (fun k wr => wr = w.alloc (.cells #[.string ⟨#[]⟩, .int .i64 0, .bool false, .bool false, .bool false] 121) ∧ ∃ j : Nat, k = .int .i64 (j : Int) ∧ i ≤ j ∧ j ≤ s.size ∧ dg s (i) = dg s j ∧ (i < j ∨ j = i)) (fun k _ => s.size - (intOf k).toNat)
        case atStart => exact ⟨rfl, i, by go_num, Nat.le_refl _, by omega, rfl, .inr rfl⟩
        case round =>
          obtain ⟨rfl, j, rfl, hj1, hj2, hst, hj3⟩ := hrel
          have HST := hide hst
          clear hst
          by_cases hjin : j < s.size
          · have u1 : ((j : Int) < (s.size : Int)) = True := eq_true (by omega)
            have HJ := hide (fun w => unhide HGG j hjin w)
            cases hjd : isDg (bt s j) with
            | true =>
              have HX : Hid (dg s (i) = dg s (j + 1)) := by show _ = _; rw [unhide HST, dg_on hjd]
              rw [hjd] at HJ
              clear hjd
              go_wp2_with fail
              refine (unhide HJ _).mono ?_
              rintro e w3 ⟨rfl, rfl⟩
              clear HJ
              go_wp2
              go_roundw
              case rel => exact ⟨trivial, j + 1, by go_num, by omega, by omega, unhide HX, .inl (by omega)⟩
              case measure => simp [intOf]; omega
            | false =>
              have HX : dg s (i) = j := by rw [unhide HST, dg_off (by rw [hjd]; simp)]
              rw [hjd] at HJ
              have hne : i < j := by
                rcases hj3 with h | h
                · exact h
                · subst h; rw [hdg] at hjd; cases hjd
              rw [HX] at hE
              clear hjd HX hj3
              have i1 : (i : Int) ≤ (j : Int) := by omega
              have i2 : (j : Int) ≤ (s.size : Int) := by omega
              have i3 : (0 : Int) ≤ (i : Int) := by omega
              go_wp2_with fail
              refine (unhide HJ _).mono ?_
              rintro e w3 ⟨rfl, rfl⟩
              clear HJ HGG
              have HB : Hid (∀ w, Calls Tryz.prog 154 #[.string (s.extract i (j))] w fun e' w' => e' = .returned (.bool (tooBig (cutB s i (j)))) ∧ w = w') := fun w => by
                rw [strOf_cut]
                exact tooBig_walk (cutB s i (j)) w (by
                  intro h
                  have := congrArg List.length h
                  unfold cutB at this
                  rw [List.length_take, List.length_drop, data_len, List.length_nil] at this
                  omega) (by unfold cutB; rw [List.length_take, List.length_drop, data_len]; omega)
              by_cases hz : cutB s i (j) = [45, 48]
              · have z1 : ((s.extract i (j)).toList == [45, 48]) = true := by rw [ex_toList, hz]; rfl
                have HB0 : Hid (∀ w, Calls Tryz.prog 154 #[.string ⟨#[48]⟩] w fun e' w' => e' = .returned (.bool (tooBig [48])) ∧ w = w') := fun w => tooBig_walk [48] w (by simp) (by simp)
                have HR : Hid (nm s i = some ([48], j)) := by
                  show _ = _
                  unfold nm
                  rw [if_pos (by rw [hD]; exact hdg), hE]
                  unfold norm0
                  rw [if_pos hz]
                clear HB hz
                go_wp2_with fail
                refine (unhide HB0 _).mono ?_
                rintro e' w3 ⟨rfl, rfl⟩
                go_wp2
                go_returns
                rw [unhide HR]
                exact ⟨alloc_below w _, rfl⟩
              · have z1 : ((s.extract i (j)).toList == [45, 48]) = false := by rw [ex_toList, beq_eq_false_iff_ne]; exact hz
                have HR : Hid (nm s i = some (cutB s i (j), j)) := by
                  show _ = _
                  unfold nm
                  rw [if_pos (by rw [hD]; exact hdg), hE]
                  unfold norm0
                  rw [if_neg hz]
                have HX := hide (strOf_cut s i (j))
                clear hz
                go_wp2_with fail
                refine (unhide HB _).mono ?_
                rintro e' w3 ⟨rfl, rfl⟩
                go_wp2
                go_returns
                rw [unhide HR, unhide HX]
                exact ⟨alloc_below w _, rfl⟩
          · have u1 : ((j : Int) < (s.size : Int)) = False := eq_false (by omega)
            have hjz : s.size ≤ j := by omega
            have HX : dg s (i) = j := by rw [unhide HST, dg_off (by rw [bt_out s j (by omega)]; simp [isDg])]
            rw [HX] at hE
            clear HX hj3 HGG hjz
            have i1 : (i : Int) ≤ (j : Int) := by omega
            have i2 : (j : Int) ≤ (s.size : Int) := by omega
            have i3 : (0 : Int) ≤ (i : Int) := by omega
            have HB : Hid (∀ w, Calls Tryz.prog 154 #[.string (s.extract i (j))] w fun e' w' => e' = .returned (.bool (tooBig (cutB s i (j)))) ∧ w = w') := fun w => by
              rw [strOf_cut]
              exact tooBig_walk (cutB s i (j)) w (by
                intro h
                have := congrArg List.length h
                unfold cutB at this
                rw [List.length_take, List.length_drop, data_len, List.length_nil] at this
                omega) (by unfold cutB; rw [List.length_take, List.length_drop, data_len]; omega)
            by_cases hz : cutB s i (j) = [45, 48]
            · have z1 : ((s.extract i (j)).toList == [45, 48]) = true := by rw [ex_toList, hz]; rfl
              have HB0 : Hid (∀ w, Calls Tryz.prog 154 #[.string ⟨#[48]⟩] w fun e' w' => e' = .returned (.bool (tooBig [48])) ∧ w = w') := fun w => tooBig_walk [48] w (by simp) (by simp)
              have HR : Hid (nm s i = some ([48], j)) := by
                show _ = _
                unfold nm
                rw [if_pos (by rw [hD]; exact hdg), hE]
                unfold norm0
                rw [if_pos hz]
              clear HB hz
              go_wp2_with fail
              refine (unhide HB0 _).mono ?_
              rintro e' w3 ⟨rfl, rfl⟩
              go_wp2
              go_returns
              rw [unhide HR]
              exact ⟨alloc_below w _, rfl⟩
            · have z1 : ((s.extract i (j)).toList == [45, 48]) = false := by rw [ex_toList, beq_eq_false_iff_ne]; exact hz
              have HR : Hid (nm s i = some (cutB s i (j), j)) := by
                show _ = _
                unfold nm
                rw [if_pos (by rw [hD]; exact hdg), hE]
                unfold norm0
                rw [if_neg hz]
              have HX := hide (strOf_cut s i (j))
              clear hz
              go_wp2_with fail
              refine (unhide HB _).mono ?_
              rintro e' w3 ⟨rfl, rfl⟩
              go_wp2
              go_returns
              rw [unhide HR, unhide HX]
              exact ⟨alloc_below w _, rfl⟩
  · have t1 : ((s.size : Int) ≤ (i : Int)) = True := eq_true (by omega)
    have HR : Hid (((nm s i).map fun q => (JV.num q.1, q.2)) = none) := by
      show _ = _
      unfold nm
      rw [hD, if_neg (by rw [bt_out s (i) (by omega)]; simp [isDg])]; rfl
    go_enter Tryz.func123, Tryz.ntmps123
    go_wp2_with fail
    refine (unhide HA _).mono ?_
    rintro e w1 ⟨rfl, rfl⟩
    go_wp2
    go_returns
    exact GP.bad (unhide HR) (alloc_below w _)

theorem num_walk (s : ByteArray) (i : Nat) (w : World) (hs : s.size ≤ 1048576) (hi : i ≤ s.size + 1) :
    Calls Tryz.prog 123 #[.string s, .int .i64 i] w (GP w ((nm s i).map fun q => (.num q.1, q.2))) := by
  by_cases h : bt s i = 45
  · exact num_neg s i w hs hi h
  · exact num_pos s i w hs hi h
end Go.Proofs.YtcjajchfjoffnaaGreatDoor

namespace Go.Proofs.YtcjajchfjoffnaaGreatDoor
open Go.RowKit

/-- The text of items, a comma behind each. -/
def preA : JL → List UInt8
  | .nil => []
  | .cons v r => ct v ++ 44 :: preA r
theorem preA_snoc : ∀ (a : JL) (v : JV), preA (a.app (.cons v .nil)) = preA a ++ (ct v ++ [44])
  | .nil, v => by simp [JL.app, preA]
  | .cons u r, v => by simp [JL.app, preA, preA_snoc r v]
theorem joinT_pre : ∀ (a : JL) (v : JV), 44 :: (preA a ++ ct v) = joinT (ctL (a.app (.cons v .nil)))
  | .nil, v => by simp [JL.app, preA, ctL, joinT]
  | .cons u r, v => by
    have := joinT_pre r v
    simp [JL.app, preA, ctL, joinT, ← this]
theorem joinC_pre (a : JL) (v : JV) : preA a ++ ct v = joinC (ctL (a.app (.cons v .nil))) := by
  cases a with
  | nil => simp [JL.app, preA, ctL, joinC, joinT]
  | cons u r =>
    have := joinT_pre r v
    simp [JL.app, preA, ctL, joinC, ← this]

abbrev gotB (t : ByteArray) (n : Nat) (ok b tw : Bool) : Obj := .cells #[.string t, .int .i64 (n : Int), .bool ok, .bool b, .bool tw] 121 (0, 0)
/-- A block that holds what was read. -/
def Got (g : Nat) (t : ByteArray) (n : Nat) (ok b tw : Bool) (w : World) : Prop := w.heap[g]? = some (gotB t n ok b tw)
theorem Got.c0 {g n : Nat} {t : ByteArray} {ok b tw : Bool} {w : World} (h : Got g t n ok b tw w) : w.cell? ⟨g, 0, none⟩ = some (.string t) := by rw [Lib.cell_of_heap h]; rfl
theorem Got.c1 {g n : Nat} {t : ByteArray} {ok b tw : Bool} {w : World} (h : Got g t n ok b tw w) : w.cell? ⟨g, 1, none⟩ = some (.int .i64 (n : Int)) := by rw [Lib.cell_of_heap h]; rfl
theorem Got.c2 {g n : Nat} {t : ByteArray} {ok b tw : Bool} {w : World} (h : Got g t n ok b tw w) : w.cell? ⟨g, 2, none⟩ = some (.bool ok) := by rw [Lib.cell_of_heap h]; rfl
theorem Got.c3 {g n : Nat} {t : ByteArray} {ok b tw : Bool} {w : World} (h : Got g t n ok b tw w) : w.cell? ⟨g, 3, none⟩ = some (.bool b) := by rw [Lib.cell_of_heap h]; rfl
theorem Got.c4 {g n : Nat} {t : ByteArray} {ok b tw : Bool} {w : World} (h : Got g t n ok b tw w) : w.cell? ⟨g, 4, none⟩ = some (.bool tw) := by rw [Lib.cell_of_heap h]; rfl
theorem Got.fz {g n : Nat} {t : ByteArray} {ok b tw : Bool} {w : World} (h : Got g t n ok b tw w) (k : Nat) : w.frozen? ⟨g, k, none⟩ = false := Lib.frozen_of_heap h k
theorem Got.lt {g n : Nat} {t : ByteArray} {ok b tw : Bool} {w : World} (h : Got g t n ok b tw w) : g < w.heap.size := (Array.getElem?_eq_some_iff.1 h).1
theorem Got.below {g n : Nat} {t : ByteArray} {ok b tw : Bool} {w w' : World} (h : Got g t n ok b tw w) (hb : Below w.heap.size w w') : Got g t n ok b tw w' := (hb.block g h.lt).trans h
theorem Got.alloc {g n : Nat} {t : ByteArray} {ok b tw : Bool} {w : World} (h : Got g t n ok b tw w) (o : Obj) : Got g t n ok b tw (w.alloc o) := h.below (alloc_below w o)
theorem Got.other {g n : Nat} {t : ByteArray} {ok b tw : Bool} {w : World} (h : Got g t n ok b tw w) {p : Addr} (hp : g ≠ p.block) (v : Value) : Got g t n ok b tw (w.setCell p v) := (Below.heap_setCell w p v g hp).trans h
theorem Got.set0 {g n : Nat} {t : ByteArray} {ok b tw : Bool} {w : World} (h : Got g t n ok b tw w) (t' : ByteArray) : Got g t' n ok b tw (w.setCell ⟨g, 0, none⟩ (.string t')) := heap_setCell_same w g 0 _ 121 (.string t') h
theorem Got.set1 {g n : Nat} {t : ByteArray} {ok b tw : Bool} {w : World} (h : Got g t n ok b tw w) (z : Int) (n' : Nat) (hz : z = (n' : Int)) : Got g t n' ok b tw (w.setCell ⟨g, 1, none⟩ (.int .i64 z)) := by
  subst hz; exact heap_setCell_same w g 1 _ 121 (.int .i64 (n' : Int)) h
theorem Got.set3 {g n : Nat} {t : ByteArray} {ok b tw : Bool} {w : World} (h : Got g t n ok b tw w) (b' : Bool) : Got g t n ok b' tw (w.setCell ⟨g, 3, none⟩ (.bool b')) := heap_setCell_same w g 3 _ 121 (.bool b') h
theorem Got.set4 {g n : Nat} {t : ByteArray} {ok b tw : Bool} {w : World} (h : Got g t n ok b tw w) (b' : Bool) : Got g t n ok b b' (w.setCell ⟨g, 4, none⟩ (.bool b')) := heap_setCell_same w g 4 _ 121 (.bool b') h
theorem Got.set2 {g n : Nat} {t : ByteArray} {ok b tw : Bool} {w : World} (h : Got g t n ok b tw w) (b' : Bool) : Got g t n b' b tw (w.setCell ⟨g, 2, none⟩ (.bool b')) := heap_setCell_same w g 2 _ 121 (.bool b') h
theorem Got.put {g n : Nat} {t : ByteArray} {ok b tw : Bool} {w : World} (h : Got g t n ok b tw w) (t' : ByteArray) (z : Int) (n' : Nat) (hz : z = (n' : Int)) (ok' b' tw' : Bool) :
    Got g t' n' ok' b' tw' (((((w.setCell ⟨g, 0, none⟩ (.string t')).setCell ⟨g, 1, none⟩ (.int .i64 z)).setCell ⟨g, 2, none⟩ (.bool ok')).setCell ⟨g, 3, none⟩ (.bool b')).setCell ⟨g, 4, none⟩ (.bool tw')) :=
  ((((h.set0 t').set1 z n' hz).set2 ok').set3 b').set4 tw'
theorem Got.copyTo {r g n n0 : Nat} {t t0 : ByteArray} {ok b tw ok0 b0 tw0 : Bool} {w : World} (h : Got r t0 n0 ok0 b0 tw0 w) (_ : Got g t n ok b tw w) (z : Int) (hz : z = (n : Int)) :
    Got r t n ok b tw (((((w.setCell ⟨r, 0, none⟩ (.string t)).setCell ⟨r, 1, none⟩ (.int .i64 z)).setCell ⟨r, 2, none⟩ (.bool ok)).setCell ⟨r, 3, none⟩ (.bool b)).setCell ⟨r, 4, none⟩ (.bool tw)) := h.put t z n hz ok b tw
theorem below_put {B g : Nat} {w w' : World} (h : Below B w w') (hg : B ≤ g) (a b c d e : Value) :
    Below B w (((((w'.setCell ⟨g, 0, none⟩ a).setCell ⟨g, 1, none⟩ b).setCell ⟨g, 2, none⟩ c).setCell ⟨g, 3, none⟩ d).setCell ⟨g, 4, none⟩ e) :=
  ((((h.setCell (p := ⟨g, 0, none⟩) hg _).setCell (p := ⟨g, 1, none⟩) hg _).setCell (p := ⟨g, 2, none⟩) hg _).setCell (p := ⟨g, 3, none⟩) hg _).setCell (p := ⟨g, 4, none⟩) hg _
theorem got_ret {fn : Func} (hres : fn.results = #[.cell 4 121]) {tmps : Array Value} {g n : Nat} {t : ByteArray} {ok b tw : Bool} {w : World} (hp : tmps.getD 4 undef = .pointer (some ⟨g, 0, none⟩)) (h : Got g t n ok b tw w) :
    (results fn tmps).run Tryz.prog w = .ok (gotV t n ok b tw) w :=
  results_cell_row hres tmps w g 121 _ (0, 0) _ hp h Tryz.underlying121 rfl (by kernel_rfl)
theorem or_cases : ∀ a b c : Bool, (a || b) = c → a = true ∧ c = true ∨ a = false ∧ b = c := by decide
/-- All cells of a block, for the walk. -/
def Cells5 (g : Nat) (a b c d e : Value) (w : World) : Prop := w.cell? ⟨g, 0, none⟩ = some a ∧ w.cell? ⟨g, 1, none⟩ = some b ∧ w.cell? ⟨g, 2, none⟩ = some c ∧ w.cell? ⟨g, 3, none⟩ = some d ∧ w.cell? ⟨g, 4, none⟩ = some e
theorem Got.cells {g n : Nat} {t : ByteArray} {ok b tw : Bool} {w : World} (h : Got g t n ok b tw w) : Cells5 g (.string t) (.int .i64 (n : Int)) (.bool ok) (.bool b) (.bool tw) w := ⟨h.c0, h.c1, h.c2, h.c3, h.c4⟩
theorem Got.fzs {g n : Nat} {t : ByteArray} {ok b tw : Bool} {w : World} (h : Got g t n ok b tw w) : w.frozen? ⟨g, 0, none⟩ = false ∧ w.frozen? ⟨g, 1, none⟩ = false ∧ w.frozen? ⟨g, 2, none⟩ = false ∧ w.frozen? ⟨g, 3, none⟩ = false ∧ w.frozen? ⟨g, 4, none⟩ = false := ⟨h.fz 0, h.fz 1, h.fz 2, h.fz 3, h.fz 4⟩
theorem strOf_app (a b : List UInt8) : strOf a ++ strOf b = strOf (a ++ b) := by
  apply Go.WideShapes.bytes_inj
  rw [ByteArray.data_append, Array.toList_append, strOf_toList, strOf_toList, strOf_toList]
/-- The model's small readers, at a text. -/
def Small1 (s : ByteArray) : Prop :=
  (∀ (z : Int) (j : Nat) w, z = (j : Int) → Calls Tryz.prog 74 #[.string s, .int .i64 z] w fun e w' => e = .returned (.int .i64 (sk s j)) ∧ w = w') ∧
  (∀ (c j : Nat) w, c ≠ 0 → Calls Tryz.prog 119 #[.string s, .int .i64 j, .int .u8 c] w fun e w' => e = .returned (.bool (decide (bt s j = c))) ∧ w = w')
theorem small1 (s : ByteArray) (hs : s.size ≤ 1048576) : Small1 s := by
  refine ⟨fun z j w hz => ?_, fun c j w hc => ?_⟩
  · subst hz; exact l1Skip_walk s j w hs
  · have h := at_walk s (j : Int) j rfl c w
    have e : atB s j (c : Int) = decide (bt s j = c) := by
      by_cases hlt : j < s.size
      · rw [atB_in hlt, ← bt_at s j hlt]
        by_cases g : bt s j = c
        · rw [g]; simp
        · rw [decide_eq_false g, beq_eq_false_iff_ne]; omega
      · rw [atB_out hlt, bt_out s j (by omega)]
        exact (decide_eq_false (fun g => hc g.symm)).symm
    rw [e] at h
    exact h
end Go.Proofs.YtcjajchfjoffnaaGreatDoor

namespace Go.Proofs.YtcjajchfjoffnaaGreatDoor
open Go.RowKit

/-- The decimal text of a number, as the model writes it. -/
def decF : Nat → Nat → List UInt8
  | 0, _ => []
  | f + 1, n => if n < 10 then [UInt8.ofNat (48 + n)] else decF f (n / 10) ++ [UInt8.ofNat (48 + n % 10)]
def decT (n : Nat) : List UInt8 := decF (n + 1) n
theorem decF_same : ∀ (f g n : Nat), n < f → n < g → decF f n = decF g n
  | 0, _, _, h, _ => by omega
  | _ + 1, 0, _, _, h => by omega
  | f + 1, g + 1, n, hf, hg => by
    rw [decF, decF]
    by_cases h : n < 10
    · rw [if_pos h, if_pos h]
    · rw [if_neg h, if_neg h, decF_same f g (n / 10) (by omega) (by omega)]
theorem decT_lo {n : Nat} (h : n < 10) : decT n = [UInt8.ofNat (48 + n)] := by unfold decT; rw [decF, if_pos h]
theorem decT_hi {n : Nat} (h : ¬ n < 10) : decT n = decT (n / 10) ++ decT (n % 10) := by
  rw [decT_lo (n := n % 10) (by omega)]
  unfold decT
  rw [decF, if_neg h, decF_same n (n / 10 + 1) (n / 10) (by omega) (by omega)]
theorem decT_len : ∀ n : Nat, (decT n).length ≤ n + 1 := fun n => by
  have : ∀ f n, (decF f n).length ≤ f := by
    intro f
    induction f with
    | zero => intro n; simp [decF]
    | succ f ih =>
      intro n
      rw [decF]
      split
      · simp
      · have := ih (n / 10); simp; omega
  exact this (n + 1) n

set_option maxRecDepth 100000 in
set_option maxHeartbeats 1600000 in
theorem dec_walk : ∀ (b n : Nat) (w : World), n ≤ b → n ≤ 1000000000 → Calls Tryz.prog 107 #[.int .i64 (n : Int)] w fun e w' => e = .returned (.string (strOf (decT n))) ∧ Below w.heap.size w w' := by
  intro b
  induction b with
  | zero =>
    intro n w hn _
    obtain rfl : n = 0 := by omega
    have hcv := convert_bytes w (decT 0) #[.int .u8 48] 1 rfl rfl
    generalize decT 0 = u at *
    go_enter Tryz.func107, Tryz.ntmps107
    go_wp2
    go_ret
    exact ⟨rfl, (Below.refl _ _).alloc (Nat.le_refl _) _⟩
  | succ b ih =>
    intro n w hn hm
    by_cases h : n < 10
    · have hcv := convert_bytes w (decT n) #[.int .u8 (48 + (n : Int))] 1 (by rw [decT_lo h]; rfl) (by rw [decT_lo h]; simp [Lib.byteCells]; omega)
      have h1 : (n : Int) < 10 := by omega
      generalize decT n = u at *
      clear ih
      go_enter Tryz.func107, Tryz.ntmps107
      go_wp2
      go_ret
      exact ⟨rfl, (Below.refl _ _).alloc (Nat.le_refl _) _⟩
    · have h1 : ¬ (n : Int) < 10 := by omega
      have hd : (n : Int) / 10 = ((n / 10 : Nat) : Int) := by omega
      have hr : (n : Int) % 10 = ((n % 10 : Nat) : Int) := by omega
      have HA : Hid (∀ w, Calls Tryz.prog 107 #[.int .i64 ((n / 10 : Nat) : Int)] w fun e w' => e = .returned (.string (strOf (decT (n / 10)))) ∧ Below w.heap.size w w') := fun w => ih (n / 10) w (by omega) (by omega)
      have HB : Hid (∀ w, Calls Tryz.prog 107 #[.int .i64 ((n % 10 : Nat) : Int)] w fun e w' => e = .returned (.string (strOf (decT (n % 10)))) ∧ Below w.heap.size w w') := fun w => ih (n % 10) w (by omega) (by omega)
      have HE : Hid (strOf (decT (n / 10)) ++ strOf (decT (n % 10)) = strOf (decT n)) := by show _ = _; rw [strOf_app, ← decT_hi h]
      have z1 : (strOf (decT (n / 10))).size ≤ 1000000001 := by rw [strOf_size]; have := decT_len (n / 10); omega
      have z2 : (strOf (decT (n % 10))).size ≤ 1000000001 := by rw [strOf_size]; have := decT_len (n % 10); omega
      have z3 : (9223372036854775807 < (strOf (decT (n / 10))).size + (strOf (decT (n % 10))).size) = False := eq_false (by omega)
      generalize strOf (decT n) = u at *
      generalize strOf (decT (n / 10)) = u1 at *
      generalize strOf (decT (n % 10)) = u2 at *
      generalize n / 10 = q at *
      generalize n % 10 = r at *
      clear ih h
      go_enter Tryz.func107, Tryz.ntmps107
      go_wp2_with fail
      refine (unhide HA _).mono ?_
      rintro e w1 ⟨rfl, b1⟩
      go_wp2_with fail
      refine (unhide HB _).mono ?_
      rintro e w2 ⟨rfl, b2⟩
      have B2 := below_next b1 b2
      clear HA HB
      go_wp2
      go_ret
      exact ⟨by rw [← unhide HE]; rfl, B2⟩
end Go.Proofs.YtcjajchfjoffnaaGreatDoor

namespace Go.Proofs.YtcjajchfjoffnaaGreatDoor
open Go.RowKit

def idxF : Nat → List (List UInt8) → List (List UInt8 × List UInt8)
  | _, [] => []
  | b, t :: r => (decT b, t) :: idxF (b + 1) r
theorem idxF_snoc : ∀ (a : List (List UInt8)) (b : Nat) (t : List UInt8), idxF b (a ++ [t]) = idxF b a ++ [(decT (b + a.length), t)]
  | [], b, t => rfl
  | x :: r, b, t => by
    simp only [List.cons_append, idxF, idxF_snoc r (b + 1) t, List.length_cons]
    rw [show b + 1 + r.length = b + (r.length + 1) by omega]
theorem idxF_len : ∀ (a : List (List UInt8)) (b : Nat), (idxF b a).length = a.length
  | [], _ => rfl
  | _ :: r, b => by simp [idxF, idxF_len r (b + 1)]
/-- The parts of a value, as the model tells them. -/
def partsV : JV → List (List UInt8 × List UInt8)
  | .arr l => idxF 0 (ctL l)
  | .obj m => isort (ctM m)
  | _ => []
theorem ct_ne : ∀ v : JV, okV v → ct v ≠ []
  | .nul, _ => by simp [ct]
  | .tt, _ => by simp [ct]
  | .ff, _ => by simp [ct]
  | .num l, h => (num_plain h).1
  | .str l, _ => by simp [ct, quoted]
  | .arr l, _ => by simp [ct, mkA]
  | .obj m, _ => by simp [ct, mkO]
theorem ctL_top (T : ByteArray) : ∀ l : JL, okL l → ∀ t ∈ ctL l, TopP T t ∧ t ≠ []
  | .nil, _, t, ht => by simp [ctL] at ht
  | .cons v r, h, t, ht => by
    rw [okL] at h
    rw [ctL] at ht
    rcases List.mem_cons.1 ht with e | ht
    · rw [e]; exact ⟨(ctP v h.1).2, ct_ne v h.1⟩
    · exact ctL_top T r h.2 t ht
theorem ctM_top (T : ByteArray) : ∀ m : JM, okM m → ∀ p ∈ ctM m, TopP T p.2 ∧ p.2 ≠ [] ∧ Lib.validD p.1 = true
  | .nil, _, p, hp => by simp [ctM] at hp
  | .cons k v r, h, p, hp => by
    rw [okM] at h
    rw [ctM] at hp
    rcases List.mem_cons.1 hp with e | hp
    · rw [e]; exact ⟨(ctP v h.2.1).2, ct_ne v h.2.1, h.1⟩
    · exact ctM_top T r h.2.2 p hp
/-- Where part k begins. -/
def pk (cs : List (List UInt8)) (k : Nat) : Nat := 1 + (joinC (cs.take k)).length + (if k = 0 then 0 else 1)
theorem joinT_split : ∀ (cs : List (List UInt8)) (k : Nat), (h : k < cs.length) → joinT cs = joinT (cs.take k) ++ 44 :: (cs[k] ++ joinT (cs.drop (k + 1)))
  | t :: r, 0, _ => by simp [joinT]
  | t :: r, k + 1, h => by
    have := joinT_split r k (by simpa using h)
    simp only [List.take_succ_cons, joinT, List.getElem_cons_succ, List.drop_succ_cons]
    rw [this]; simp
theorem joinC_split (cs : List (List UInt8)) (k : Nat) (h : k < cs.length) : joinC cs = (joinC (cs.take k) ++ (if k = 0 then [] else [44])) ++ (cs[k] ++ joinT (cs.drop (k + 1))) := by
  cases cs with
  | nil => simp at h
  | cons t r =>
    cases k with
    | zero => simp [joinC]
    | succ k =>
      have := joinT_split r k (by simpa using h)
      simp only [joinC, List.take_succ_cons, List.getElem_cons_succ, List.drop_succ_cons]
      rw [this]
      simp
theorem stops_tail (cs : List (List UInt8)) (c : UInt8) (hc : c.toNat = 93 ∨ c.toNat = 125) : Stops (joinT cs ++ [c]) := by
  cases cs with
  | nil => exact .inr ⟨c, [], rfl, .inr hc⟩
  | cons t r => exact .inr ⟨44, _, rfl, .inl rfl⟩
theorem drop_pk {T : ByteArray} {cs : List (List UInt8)} {a c : UInt8} (hT : T.data.toList = a :: (joinC cs ++ [c])) (k : Nat) (h : k < cs.length) : T.data.toList.drop (pk cs k) = cs[k] ++ (joinT (cs.drop (k + 1)) ++ [c]) := by
  have e : T.data.toList = (a :: (joinC (cs.take k) ++ (if k = 0 then [] else [44]))) ++ (cs[k] ++ (joinT (cs.drop (k + 1)) ++ [c])) := by
    rw [hT, joinC_split cs k h]; simp
  have hl : (a :: (joinC (cs.take k) ++ (if k = 0 then [] else [44]))).length = pk cs k := by
    unfold pk
    split <;> simp <;> omega
  rw [e, ← hl, List.drop_left]
theorem pk_next (cs : List (List UInt8)) (k : Nat) (h : k < cs.length) : pk cs (k + 1) = pk cs k + cs[k].length + 1 := by
  have e : (joinC (cs.take (k + 1))).length = (joinC (cs.take k)).length + (if k = 0 then 0 else 1) + cs[k].length := by
    rw [List.take_succ_eq_append_getElem h, joinC_snoc]
    by_cases hk : k = 0
    · subst hk; simp [joinC]
    · have hne : cs.take k ≠ [] := by intro e; have := congrArg List.length e; rw [List.length_take, List.length_nil] at this; omega
      rw [if_neg hne, if_neg hk]
      simp; omega
  unfold pk
  rw [e, if_neg (Nat.succ_ne_zero k)]
  omega
theorem pk_in {T : ByteArray} {cs : List (List UInt8)} {a c : UInt8} (hT : T.data.toList = a :: (joinC cs ++ [c])) (k : Nat) (h : k < cs.length) : pk cs k + cs[k].length + 1 ≤ T.size := by
  have h1 := congrArg List.length (drop_pk hT k h)
  rw [List.length_drop, data_len] at h1
  simp at h1
  by_cases hle : pk cs k ≤ T.size
  · omega
  · omega
theorem pk_end {T : ByteArray} {cs : List (List UInt8)} {a c : UInt8} (hT : T.data.toList = a :: (joinC cs ++ [c])) : T.size ≤ pk cs cs.length + 1 := by
  have h1 := congrArg List.length hT
  rw [data_len] at h1
  simp at h1
  unfold pk
  rw [List.take_of_length_le (Nat.le_refl _)]
  omega
theorem cut_pk {T : ByteArray} {i : Nat} {t m : List UInt8} (h : T.data.toList.drop i = t ++ m) : T.extract i (i + t.length) = strOf t := by
  rw [strOf_cut]
  unfold cutB
  rw [h, Nat.add_sub_cancel_left]
  simp
end Go.Proofs.YtcjajchfjoffnaaGreatDoor

namespace Go.Proofs.YtcjajchfjoffnaaGreatDoor
open Go.RowKit

abbrev Part := List UInt8 × List UInt8
def partC (p : Part) : List Value := [.string (strOf p.1), .string (strOf p.2)]
/-- A row of parts that the call owns. -/
def PR (w : World) (B : Nat) (v : Value) (ps : List Part) : Prop := w.ownsRow B 78 2 v ps.length (ps.flatMap partC)
theorem part_at (ps : List Part) (j : Nat) (h : j < ps.length) : (ps.flatMap partC)[j * 2]? = some (.string (strOf ps[j].1)) ∧ (ps.flatMap partC)[j * 2 + 1]? = some (.string (strOf ps[j].2)) := by
  induction ps generalizing j with
  | nil => simp at h
  | cons p r ih =>
    cases j with
    | zero => exact ⟨rfl, rfl⟩
    | succ j =>
      have := ih j (by simpa using h)
      rw [List.flatMap_cons, show (j + 1) * 2 = j * 2 + 2 from by omega]
      exact this
theorem PR.cells {w : World} {B : Nat} {v : Value} {ps : List Part} (h : PR w B v ps) (j : Nat) (hj : j < ps.length) :
    ∃ g cap, v = .slice (some ⟨g, 0, none⟩) ps.length cap ∧ B ≤ g ∧ g < w.heap.size ∧ w.cell? ⟨g, j * 2, none⟩ = some (.string (strOf ps[j].1)) ∧ w.cell? ⟨g, j * 2 + 1, none⟩ = some (.string (strOf ps[j].2)) := by
  obtain ⟨hl, h0 | ⟨g, cap, cur, hv, hB, hg, hn, hc, hsz, ht⟩⟩ := h
  · omega
  · have hc0 := part_at ps j hj
    refine ⟨g, cap, hv, hB, (Array.getElem?_eq_some_iff.1 hg).1, ?_, ?_⟩
    · rw [Lib.cell_of_heap hg, ← Array.getElem?_toList, ← hc0.1, ← ht, List.getElem?_take_of_lt (by omega)]
    · rw [Lib.cell_of_heap hg, ← Array.getElem?_toList, ← hc0.2, ← ht, List.getElem?_take_of_lt (by omega)]
theorem PR.below {w w' : World} {B : Nat} {v : Value} {ps : List Part} (h : PR w B v ps) (hb : Below w.heap.size w w') : PR w' B v ps := own_below h hb
theorem PR.mono {w : World} {B B' : Nat} {v : Value} {ps : List Part} (h : PR w B v ps) (hB : B' ≤ B) : PR w B' v ps := own_mono h hB
/-- Whether a key is among those of the parts. -/
def hasK (ps : List Part) (key : List UInt8) : Bool := (ps.map (·.1)).contains key
theorem str_eq (a b : List UInt8) : ((strOf a).toList == (strOf b).toList) = (a == b) := by
  rw [ByteArray.toList_eq, ByteArray.toList_eq, strOf_toList, strOf_toList]

set_option maxHeartbeats 800000 in
theorem find_walk (B : Nat) (v : Value) (ps : List Part) (key : List UInt8) (w : World) (h : PR w B v ps) (hn : ps.length ≤ 40000000) :
    Calls Tryz.prog 105 #[v, .string (strOf key)] w fun e w' => ∃ z : Int, e = .returned (.int .i64 z) ∧ decide ((0 : Int) ≤ z) = hasK ps key ∧ w = w' := by
  obtain ⟨x, len, cap, rfl, hlen⟩ : ∃ x len cap, v = .slice x len cap ∧ len = ps.length := by
    rcases h.2 with ⟨hv, h0⟩ | ⟨g, cap, cur, hv, _⟩
    · exact ⟨_, _, _, hv, h0.symm⟩
    · exact ⟨_, _, _, hv, rfl⟩
  subst hlen
  have HP := hide h
  clear h
  go_enter Tryz.func105, Tryz.ntmps105
  go_wp2_with fail
  go_loopw [5] (fun k wr => w = wr ∧ ∃ j : Nat, k = .int .i64 (j : Int) ∧ j ≤ ps.length ∧ ((ps.take j).map (·.1)).contains key = false) (fun k _ => ps.length - (intOf k).toNat)
  case atStart => exact ⟨rfl, 0, rfl, Nat.zero_le _, by simp⟩
  case round =>
    obtain ⟨rfl, j, rfl, hj, hno⟩ := hrel
    have HNO := hide hno
    clear hno
    by_cases hin : j < ps.length
    · have t1 : ((j : Int) < (ps.length : Int)) = True := eq_true (by omega)
      obtain ⟨g, cap', he, hB, hgl, c0, c1⟩ := (unhide HP).cells j hin
      injection he with he1 he2 he3
      subst he1; subst he3
      have heq := str_eq ps[j].1 key
      by_cases hk : ps[j].1 = key
      · have t2 : (ps[j].1 == key) = true := by rw [beq_iff_eq]; exact hk
        have HY : Hid (hasK ps key = true) := by
          show _ = _
          unfold hasK
          rw [List.contains_iff_mem]
          exact List.mem_map.2 ⟨ps[j], List.getElem_mem _, hk⟩
        rw [t2] at heq
        clear hk t2
        go_wp2
        go_ret
        exact ⟨_, rfl, by rw [unhide HY]; exact decide_eq_true (by omega), rfl⟩
      · have t2 : (ps[j].1 == key) = false := by rw [beq_eq_false_iff_ne]; exact hk
        have HX : Hid (((ps.take (j + 1)).map (·.1)).contains key = false) := by
          show _ = _
          have := unhide HNO
          rw [List.take_succ_eq_append_getElem hin, List.map_append, List.contains_append, this]
          simp; exact fun e => hk e.symm
        rw [t2] at heq
        clear hk t2
        go_wp2
        go_roundw
        case rel => exact ⟨trivial, j + 1, by go_num, by omega, unhide HX⟩
        case measure => simp [intOf]; omega
    · have t1 : ((j : Int) < (ps.length : Int)) = False := eq_false (by omega)
      have HY : Hid (hasK ps key = false) := by
        show _ = _
        unfold hasK
        have := unhide HNO
        rwa [List.take_of_length_le (by omega)] at this
      go_wp2
      go_ret
      exact ⟨_, rfl, by rw [unhide HY]; rfl, rfl⟩
end Go.Proofs.YtcjajchfjoffnaaGreatDoor
