import Derived.Handy
import Derived.Test.YtcjajchfjoffnaaGreatDoorBch5
import Derived.Deep.LoopGhost
import Derived.Test.YtcjajchfjoffnaaGreatDoorBch1
namespace Go.Proofs.YtcjajchfjoffnaaGreatDoor
open Go.RowKit

def gotV (t : ByteArray) (n : Nat) (ok b tw : Bool) : Value := .agg #[.string t, .int .i64 (n : Int), .bool ok, .bool b, .bool tw]
/-- A value of JSON, as the model reads it. -/
def GP (w : World) (o : Option (JV × Nat)) (e : Ending) (w' : World) : Prop :=
  Below w.heap.size w w' ∧ o.elim (∃ (t : ByteArray) (n : Nat) (b tw : Bool), e = .returned (gotV t n false b tw)) fun q => e = .returned (gotV (strOf (ct q.1)) q.2 true (bigV q.1) (twV q.1))
theorem GP.bad {w w' : World} {o : Option (JV × Nat)} (h : o = none) (b : Below w.heap.size w w') : GP w o (.returned (.agg #[.string ⟨#[]⟩, .int .i64 0, .bool false, .bool false, .bool false])) w' := by
  subst h; exact ⟨b, _, 0, _, _, rfl⟩

set_option maxHeartbeats 400000 in
theorem digit_walk (b : Nat) (w : World) :
    Calls Tryz.prog 97 #[.int .u8 b] w fun e w' => e = .returned (.bool (isDg b)) ∧ w = w' := by
  by_cases h : 48 ≤ b
  · have HD : Hid (isDg b = decide ((b : Int) ≤ 57)) := by
      show _ = _
      unfold isDg
      rw [decide_eq_true h, Bool.true_and]
      apply decide_eq_decide.2; omega
    have h1 : (48 : Int) ≤ (b : Int) := by omega
    go_enter Tryz.func97, Tryz.ntmps97
    go_wp2
    go_ret
    exact ⟨by rw [unhide HD]; rfl, rfl⟩
  · have HD : Hid (isDg b = false) := by
      show _ = _
      unfold isDg
      rw [decide_eq_false h, Bool.false_and]
    have h1 : ¬ (48 : Int) ≤ (b : Int) := by omega
    go_enter Tryz.func97, Tryz.ntmps97
    go_wp2
    go_ret
    exact ⟨by rw [unhide HD]; rfl, rfl⟩
theorem alloc_below (w : World) (o : Obj) : Below w.heap.size w (w.alloc o) := (Below.refl _ _).alloc (Nat.le_refl _) _


set_option maxRecDepth 100000 in
set_option maxHeartbeats 4000000 in
theorem num_neg (s : ByteArray) (i : Nat) (w : World) (hs : s.size ≤ 1048576) (hi : i ≤ s.size + 1) (h45 : bt s i = 45) :
    Calls Tryz.prog 123 #[.string s, .int .i64 i] w (GP w ((nm s i).map fun q => (.num q.1, q.2))) := by
  have HA : Hid (∀ w, Calls Tryz.prog 119 #[.string s, .int .i64 i, .int .u8 45] w fun e w' => e = .returned (.bool true) ∧ w = w') := fun w => by
    have h := at_walk s (i : Int) i rfl 45 w
    rw [show atB s i 45 = true from by
      have hlt : i < s.size := bt_in (by omega)
      rw [atB_in hlt, beq_iff_eq, ← bt_at s i hlt, h45]; rfl] at h
    exact h
  have hD : nmD s i = i + 1 := by unfold nmD; rw [if_pos h45]
  by_cases hin : i + 1 < s.size
  · have t1 : ((s.size : Int) ≤ (i : Int) + 1) = False := eq_false (by omega)
    have t1' : ((i : Int) + 1 < (s.size : Int)) = True := eq_true (by omega)
    have hbd := bt_at s (i + 1) hin
    have HG : Hid (∀ w, Calls Tryz.prog 97 #[.int .u8 (s[i + 1].toNat : Int)] w fun e w' => e = .returned (.bool (isDg (bt s (i + 1)))) ∧ w = w') := fun w => by
      rw [hbd]; exact digit_walk _ w
    cases hdg : isDg (bt s (i + 1)) with
    | false =>
      have HR : Hid (((nm s i).map fun q => (JV.num q.1, q.2)) = none) := by
        show _ = _
        unfold nm
        rw [hD, if_neg (by rw [hdg]; simp)]; rfl
      rw [hdg] at HG
      clear hdg hbd
      go_enter Tryz.func123, Tryz.ntmps123
      go_wp2_with fail
      refine (unhide HA _).mono ?_
      rintro e w1 ⟨rfl, rfl⟩
      go_wp2_with fail
      refine (unhide HG _).mono ?_
      rintro e w2 ⟨rfl, rfl⟩
      go_wp2
      go_returns
      exact GP.bad (unhide HR) (alloc_below w _)
    | true =>
      rw [hdg] at HG
      by_cases h48 : bt s (i + 1) = 48
      · have t2 : ((s[i + 1].toNat : Int) == 48) = true := by rw [beq_iff_eq]; omega
        have hE : nmE s i = i + 1 + 1 := by unfold nmE; rw [hD, if_pos h48]
        have i1 : (i : Int) ≤ (i : Int) + 1 + 1 := by omega
        have i2 : (i : Int) + 1 + 1 ≤ (s.size : Int) := by omega
        have i3 : (0 : Int) ≤ (i : Int) := by omega
        go_enter Tryz.func123, Tryz.ntmps123
        go_wp2_with fail
        refine (unhide HA _).mono ?_
        rintro e w1 ⟨rfl, rfl⟩
        go_wp2_with fail
        refine (unhide HG _).mono ?_
        rintro e w2 ⟨rfl, rfl⟩
        clear HA HG
        have HB : Hid (∀ w, Calls Tryz.prog 154 #[.string (s.extract i (i + 1 + 1))] w fun e' w' => e' = .returned (.bool (tooBig (cutB s i (i + 1 + 1)))) ∧ w = w') := fun w => by
          rw [strOf_cut]
          exact tooBig_walk (cutB s i (i + 1 + 1)) w (by
            intro h
            have := congrArg List.length h
            unfold cutB at this
            rw [List.length_take, List.length_drop, data_len, List.length_nil] at this
            omega) (by unfold cutB; rw [List.length_take, List.length_drop, data_len]; omega)
        by_cases hz : cutB s i (i + 1 + 1) = [45, 48]
        · have z1 : ((s.extract i (i + 1 + 1)).toList == [45, 48]) = true := by rw [ex_toList, hz]; rfl
          have HB0 : Hid (∀ w, Calls Tryz.prog 154 #[.string ⟨#[48]⟩] w fun e' w' => e' = .returned (.bool (tooBig [48])) ∧ w = w') := fun w => tooBig_walk [48] w (by simp) (by simp)
          have HR : Hid (nm s i = some ([48], i + 1 + 1)) := by
            show _ = _
            unfold nm
            rw [if_pos (by rw [hD]; exact hdg), hE]
            unfold norm0
            rw [if_pos hz]
          clear HB hz
          go_wp2_with fail
          refine (unhide HB0 _).mono ?_
          rintro e' w3 ⟨rfl, rfl⟩
          go_wp2
          go_returns
          rw [unhide HR]
          exact ⟨alloc_below w _, rfl⟩
        · have z1 : ((s.extract i (i + 1 + 1)).toList == [45, 48]) = false := by rw [ex_toList, beq_eq_false_iff_ne]; exact hz
          have HR : Hid (nm s i = some (cutB s i (i + 1 + 1), i + 1 + 1)) := by
            show _ = _
            unfold nm
            rw [if_pos (by rw [hD]; exact hdg), hE]
            unfold norm0
            rw [if_neg hz]
          have HX := hide (strOf_cut s i (i + 1 + 1))
          clear hz
          go_wp2_with fail
          refine (unhide HB _).mono ?_
          rintro e' w3 ⟨rfl, rfl⟩
          go_wp2
          go_returns
          rw [unhide HR, unhide HX]
          exact ⟨alloc_below w _, rfl⟩
      · have t2 : ((s[i + 1].toNat : Int) == 48) = false := by rw [beq_eq_false_iff_ne]; omega
        have hE : nmE s i = dg s (i + 1) := by unfold nmE; rw [hD, if_neg h48]
        have HGG : Hid (∀ (j : Nat) (hj : j < s.size) w, Calls Tryz.prog 97 #[.int .u8 (s[j].toNat : Int)] w fun e w' => e = .returned (.bool (isDg (bt s j))) ∧ w = w') := fun j hj w => by
          rw [bt_at s j hj]; exact digit_walk _ w
        clear h48 hbd
        go_enter Tryz.func123, Tryz.ntmps123
        go_wp2_with fail
        refine (unhide HA _).mono ?_
        rintro e w1 ⟨rfl, rfl⟩
        go_wp2_with fail
        refine (unhide HG _).mono ?_
        rintro e w2 ⟨rfl, rfl⟩
        clear HA HG
        go_wp2_with fail
        go_loopw [1] (fun k wr => wr = w.alloc (.cells #[.string ⟨#[]⟩, .int .i64 0, .bool false, .bool false, .bool false] 121) ∧ ∃ j : Nat, k = .int .i64 (j : Int) ∧ i + 1 ≤ j ∧ j ≤ s.size ∧ dg s (i + 1) = dg s j ∧ (i + 1 < j ∨ j = i + 1)) (fun k _ => s.size - (intOf k).toNat)
        case atStart => exact ⟨rfl, i + 1, by go_num, Nat.le_refl _, by omega, rfl, .inr rfl⟩
        case round =>
          obtain ⟨rfl, j, rfl, hj1, hj2, hst, hj3⟩ := hrel
          have HST := hide hst
          clear hst
          by_cases hjin : j < s.size
          · have u1 : ((j : Int) < (s.size : Int)) = True := eq_true (by omega)
            have HJ := hide (fun w => unhide HGG j hjin w)
            cases hjd : isDg (bt s j) with
            | true =>
              have HX : Hid (dg s (i + 1) = dg s (j + 1)) := by show _ = _; rw [unhide HST, dg_on hjd]
              rw [hjd] at HJ
              clear hjd
              go_wp2_with fail
              refine (unhide HJ _).mono ?_
              rintro e w3 ⟨rfl, rfl⟩
              clear HJ
              go_wp2
              go_roundw
              case rel => exact ⟨trivial, j + 1, by go_num, by omega, by omega, unhide HX, .inl (by omega)⟩
              case measure => simp [intOf]; omega
            | false =>
              have HX : dg s (i + 1) = j := by rw [unhide HST, dg_off (by rw [hjd]; simp)]
              rw [hjd] at HJ
              have hne : i + 1 < j := by
                rcases hj3 with h | h
                · exact h
                · subst h; rw [hdg] at hjd; cases hjd
              rw [HX] at hE
              clear hjd HX hj3
              have i1 : (i : Int) ≤ (j : Int) := by omega
              have i2 : (j : Int) ≤ (s.size : Int) := by omega
              have i3 : (0 : Int) ≤ (i : Int) := by omega
              go_wp2_with fail
              refine (unhide HJ _).mono ?_
              rintro e w3 ⟨rfl, rfl⟩
              clear HJ HGG
              have HB : Hid (∀ w, Calls Tryz.prog 154 #[.string (s.extract i (j))] w fun e' w' => e' = .returned (.bool (tooBig (cutB s i (j)))) ∧ w = w') := fun w => by
                rw [strOf_cut]
                exact tooBig_walk (cutB s i (j)) w (by
                  intro h
                  have := congrArg List.length h
                  unfold cutB at this
                  rw [List.length_take, List.length_drop, data_len, List.length_nil] at this
                  omega) (by unfold cutB; rw [List.length_take, List.length_drop, data_len]; omega)
              by_cases hz : cutB s i (j) = [45, 48]
              · have z1 : ((s.extract i (j)).toList == [45, 48]) = true := by rw [ex_toList, hz]; rfl
                have HB0 : Hid (∀ w, Calls Tryz.prog 154 #[.string ⟨#[48]⟩] w fun e' w' => e' = .returned (.bool (tooBig [48])) ∧ w = w') := fun w => tooBig_walk [48] w (by simp) (by simp)
                have HR : Hid (nm s i = some ([48], j)) := by
                  show _ = _
                  unfold nm
                  rw [if_pos (by rw [hD]; exact hdg), hE]
                  unfold norm0
                  rw [if_pos hz]
                clear HB hz
                go_wp2_with fail
                refine (unhide HB0 _).mono ?_
                rintro e' w3 ⟨rfl, rfl⟩
                go_wp2
                go_returns
                rw [unhide HR]
                exact ⟨alloc_below w _, rfl⟩
              · have z1 : ((s.extract i (j)).toList == [45, 48]) = false := by rw [ex_toList, beq_eq_false_iff_ne]; exact hz
                have HR : Hid (nm s i = some (cutB s i (j), j)) := by
                  show _ = _
                  unfold nm
                  rw [if_pos (by rw [hD]; exact hdg), hE]
                  unfold norm0
                  rw [if_neg hz]
                have HX := hide (strOf_cut s i (j))
                clear hz
                go_wp2_with fail
                refine (unhide HB _).mono ?_
                rintro e' w3 ⟨rfl, rfl⟩
                go_wp2
                go_returns
                rw [unhide HR, unhide HX]
                exact ⟨alloc_below w _, rfl⟩
          · have u1 : ((j : Int) < (s.size : Int)) = False := eq_false (by omega)
            have hjz : s.size ≤ j := by omega
            have HX : dg s (i + 1) = j := by rw [unhide HST, dg_off (by rw [bt_out s j (by omega)]; simp [isDg])]
            rw [HX] at hE
            clear HX hj3 HGG hjz
            have i1 : (i : Int) ≤ (j : Int) := by omega
            have i2 : (j : Int) ≤ (s.size : Int) := by omega
            have i3 : (0 : Int) ≤ (i : Int) := by omega
            have HB : Hid (∀ w, Calls Tryz.prog 154 #[.string (s.extract i (j))] w fun e' w' => e' = .returned (.bool (tooBig (cutB s i (j)))) ∧ w = w') := fun w => by
              rw [strOf_cut]
              exact tooBig_walk (cutB s i (j)) w (by
                intro h
                have := congrArg List.length h
                unfold cutB at this
                rw [List.length_take, List.length_drop, data_len, List.length_nil] at this
                omega) (by unfold cutB; rw [List.length_take, List.length_drop, data_len]; omega)
            by_cases hz : cutB s i (j) = [45, 48]
            · have z1 : ((s.extract i (j)).toList == [45, 48]) = true := by rw [ex_toList, hz]; rfl
              have HB0 : Hid (∀ w, Calls Tryz.prog 154 #[.string ⟨#[48]⟩] w fun e' w' => e' = .returned (.bool (tooBig [48])) ∧ w = w') := fun w => tooBig_walk [48] w (by simp) (by simp)
              have HR : Hid (nm s i = some ([48], j)) := by
                show _ = _
                unfold nm
                rw [if_pos (by rw [hD]; exact hdg), hE]
                unfold norm0
                rw [if_pos hz]
              clear HB hz
              go_wp2_with fail
              refine (unhide HB0 _).mono ?_
              rintro e' w3 ⟨rfl, rfl⟩
              go_wp2
              go_returns
              rw [unhide HR]
              exact ⟨alloc_below w _, rfl⟩
            · have z1 : ((s.extract i (j)).toList == [45, 48]) = false := by rw [ex_toList, beq_eq_false_iff_ne]; exact hz
              have HR : Hid (nm s i = some (cutB s i (j), j)) := by
                show _ = _
                unfold nm
                rw [if_pos (by rw [hD]; exact hdg), hE]
                unfold norm0
                rw [if_neg hz]
              have HX := hide (strOf_cut s i (j))
              clear hz
              go_wp2_with fail
              refine (unhide HB _).mono ?_
              rintro e' w3 ⟨rfl, rfl⟩
              go_wp2
              go_returns
              rw [unhide HR, unhide HX]
              exact ⟨alloc_below w _, rfl⟩
  · have t1 : ((s.size : Int) ≤ (i : Int) + 1) = True := eq_true (by omega)
    have HR : Hid (((nm s i).map fun q => (JV.num q.1, q.2)) = none) := by
      show _ = _
      unfold nm
      rw [hD, if_neg (by rw [bt_out s (i + 1) (by omega)]; simp [isDg])]; rfl
    go_enter Tryz.func123, Tryz.ntmps123
    go_wp2_with fail
    refine (unhide HA _).mono ?_
    rintro e w1 ⟨rfl, rfl⟩
    go_wp2
    go_returns
    exact GP.bad (unhide HR) (alloc_below w _)

set_option maxRecDepth 100000 in
set_option maxHeartbeats 4000000 in
theorem num_pos (s : ByteArray) (i : Nat) (w : World) (hs : s.size ≤ 1048576) (hi : i ≤ s.size + 1) (h45 : bt s i ≠ 45) :
    Calls Tryz.prog 123 #[.string s, .int .i64 i] w (GP w ((nm s i).map fun q => (.num q.1, q.2))) := by
  have HA : Hid (∀ w, Calls Tryz.prog 119 #[.string s, .int .i64 i, .int .u8 45] w fun e w' => e = .returned (.bool false) ∧ w = w') := fun w => by
    have h := at_walk s (i : Int) i rfl 45 w
    rw [show atB s i 45 = false from by
      by_cases hlt : i < s.size
      · rw [atB_in hlt, beq_eq_false_iff_ne, ← bt_at s i hlt]; omega
      · exact atB_out hlt] at h
    exact h
  have hD : nmD s i = i := by unfold nmD; rw [if_neg h45]
  by_cases hin : i < s.size
  · have t1 : ((s.size : Int) ≤ (i : Int)) = False := eq_false (by omega)
    have t1' : ((i : Int) < (s.size : Int)) = True := eq_true (by omega)
    have hbd := bt_at s (i) hin
    have HG : Hid (∀ w, Calls Tryz.prog 97 #[.int .u8 (s[i].toNat : Int)] w fun e w' => e = .returned (.bool (isDg (bt s (i)))) ∧ w = w') := fun w => by
      rw [hbd]; exact digit_walk _ w
    cases hdg : isDg (bt s (i)) with
    | false =>
      have HR : Hid (((nm s i).map fun q => (JV.num q.1, q.2)) = none) := by
        show _ = _
        unfold nm
        rw [hD, if_neg (by rw [hdg]; simp)]; rfl
      rw [hdg] at HG
      clear hdg hbd
      go_enter Tryz.func123, Tryz.ntmps123
      go_wp2_with fail
      refine (unhide HA _).mono ?_
      rintro e w1 ⟨rfl, rfl⟩
      go_wp2_with fail
      refine (unhide HG _).mono ?_
      rintro e w2 ⟨rfl, rfl⟩
      go_wp2
      go_returns
      exact GP.bad (unhide HR) (alloc_below w _)
    | true =>
      rw [hdg] at HG
      by_cases h48 : bt s (i) = 48
      · have t2 : ((s[i].toNat : Int) == 48) = true := by rw [beq_iff_eq]; omega
        have hE : nmE s i = i + 1 := by unfold nmE; rw [hD, if_pos h48]
        have i1 : (i : Int) ≤ (i : Int) + 1 := by omega
        have i2 : (i : Int) + 1 ≤ (s.size : Int) := by omega
        have i3 : (0 : Int) ≤ (i : Int) := by omega
        go_enter Tryz.func123, Tryz.ntmps123
        go_wp2_with fail
        refine (unhide HA _).mono ?_
        rintro e w1 ⟨rfl, rfl⟩
        go_wp2_with fail
        refine (unhide HG _).mono ?_
        rintro e w2 ⟨rfl, rfl⟩
        clear HA HG
        have HB : Hid (∀ w, Calls Tryz.prog 154 #[.string (s.extract i (i + 1))] w fun e' w' => e' = .returned (.bool (tooBig (cutB s i (i + 1)))) ∧ w = w') := fun w => by
          rw [strOf_cut]
          exact tooBig_walk (cutB s i (i + 1)) w (by
            intro h
            have := congrArg List.length h
            unfold cutB at this
            rw [List.length_take, List.length_drop, data_len, List.length_nil] at this
            omega) (by unfold cutB; rw [List.length_take, List.length_drop, data_len]; omega)
        by_cases hz : cutB s i (i + 1) = [45, 48]
        · have z1 : ((s.extract i (i + 1)).toList == [45, 48]) = true := by rw [ex_toList, hz]; rfl
          have HB0 : Hid (∀ w, Calls Tryz.prog 154 #[.string ⟨#[48]⟩] w fun e' w' => e' = .returned (.bool (tooBig [48])) ∧ w = w') := fun w => tooBig_walk [48] w (by simp) (by simp)
          have HR : Hid (nm s i = some ([48], i + 1)) := by
            show _ = _
            unfold nm
            rw [if_pos (by rw [hD]; exact hdg), hE]
            unfold norm0
            rw [if_pos hz]
          clear HB hz
          go_wp2_with fail
          refine (unhide HB0 _).mono ?_
          rintro e' w3 ⟨rfl, rfl⟩
          go_wp2
          go_returns
          rw [unhide HR]
          exact ⟨alloc_below w _, rfl⟩
        · have z1 : ((s.extract i (i + 1)).toList == [45, 48]) = false := by rw [ex_toList, beq_eq_false_iff_ne]; exact hz
          have HR : Hid (nm s i = some (cutB s i (i + 1), i + 1)) := by
            show _ = _
            unfold nm
            rw [if_pos (by rw [hD]; exact hdg), hE]
            unfold norm0
            rw [if_neg hz]
          have HX := hide (strOf_cut s i (i + 1))
          clear hz
          go_wp2_with fail
          refine (unhide HB _).mono ?_
          rintro e' w3 ⟨rfl, rfl⟩
          go_wp2
          go_returns
          rw [unhide HR, unhide HX]
          exact ⟨alloc_below w _, rfl⟩
      · have t2 : ((s[i].toNat : Int) == 48) = false := by rw [beq_eq_false_iff_ne]; omega
        have hE : nmE s i = dg s (i) := by unfold nmE; rw [hD, if_neg h48]
        have HGG : Hid (∀ (j : Nat) (hj : j < s.size) w, Calls Tryz.prog 97 #[.int .u8 (s[j].toNat : Int)] w fun e w' => e = .returned (.bool (isDg (bt s j))) ∧ w = w') := fun j hj w => by
          rw [bt_at s j hj]; exact digit_walk _ w
        clear h48 hbd
        go_enter Tryz.func123, Tryz.ntmps123
        go_wp2_with fail
        refine (unhide HA _).mono ?_
        rintro e w1 ⟨rfl, rfl⟩
        go_wp2_with fail
        refine (unhide HG _).mono ?_
        rintro e w2 ⟨rfl, rfl⟩
        clear HA HG
        go_wp2_with fail
        go_loopw [1] (fun k wr => wr = w.alloc (.cells #[.string ⟨#[]⟩, .int .i64 0, .bool false, .bool false, .bool false] 121) ∧ ∃ j : Nat, k = .int .i64 (j : Int) ∧ i ≤ j ∧ j ≤ s.size ∧ dg s (i) = dg s j ∧ (i < j ∨ j = i)) (fun k _ => s.size - (intOf k).toNat)
        case atStart => exact ⟨rfl, i, by go_num, Nat.le_refl _, by omega, rfl, .inr rfl⟩
        case round =>
          obtain ⟨rfl, j, rfl, hj1, hj2, hst, hj3⟩ := hrel
          have HST := hide hst
          clear hst
          by_cases hjin : j < s.size
          · have u1 : ((j : Int) < (s.size : Int)) = True := eq_true (by omega)
            have HJ := hide (fun w => unhide HGG j hjin w)
            cases hjd : isDg (bt s j) with
            | true =>
              have HX : Hid (dg s (i) = dg s (j + 1)) := by show _ = _; rw [unhide HST, dg_on hjd]
              rw [hjd] at HJ
              clear hjd
              go_wp2_with fail
              refine (unhide HJ _).mono ?_
              rintro e w3 ⟨rfl, rfl⟩
              clear HJ
              go_wp2
              go_roundw
              case rel => exact ⟨trivial, j + 1, by go_num, by omega, by omega, unhide HX, .inl (by omega)⟩
              case measure => simp [intOf]; omega
            | false =>
              have HX : dg s (i) = j := by rw [unhide HST, dg_off (by rw [hjd]; simp)]
              rw [hjd] at HJ
              have hne : i < j := by
                rcases hj3 with h | h
                · exact h
                · subst h; rw [hdg] at hjd; cases hjd
              rw [HX] at hE
              clear hjd HX hj3
              have i1 : (i : Int) ≤ (j : Int) := by omega
              have i2 : (j : Int) ≤ (s.size : Int) := by omega
              have i3 : (0 : Int) ≤ (i : Int) := by omega
              go_wp2_with fail
              refine (unhide HJ _).mono ?_
              rintro e w3 ⟨rfl, rfl⟩
              clear HJ HGG
              have HB : Hid (∀ w, Calls Tryz.prog 154 #[.string (s.extract i (j))] w fun e' w' => e' = .returned (.bool (tooBig (cutB s i (j)))) ∧ w = w') := fun w => by
                rw [strOf_cut]
                exact tooBig_walk (cutB s i (j)) w (by
                  intro h
                  have := congrArg List.length h
                  unfold cutB at this
                  rw [List.length_take, List.length_drop, data_len, List.length_nil] at this
                  omega) (by unfold cutB; rw [List.length_take, List.length_drop, data_len]; omega)
              by_cases hz : cutB s i (j) = [45, 48]
              · have z1 : ((s.extract i (j)).toList == [45, 48]) = true := by rw [ex_toList, hz]; rfl
                have HB0 : Hid (∀ w, Calls Tryz.prog 154 #[.string ⟨#[48]⟩] w fun e' w' => e' = .returned (.bool (tooBig [48])) ∧ w = w') := fun w => tooBig_walk [48] w (by simp) (by simp)
                have HR : Hid (nm s i = some ([48], j)) := by
                  show _ = _
                  unfold nm
                  rw [if_pos (by rw [hD]; exact hdg), hE]
                  unfold norm0
                  rw [if_pos hz]
                clear HB hz
                go_wp2_with fail
                refine (unhide HB0 _).mono ?_
                rintro e' w3 ⟨rfl, rfl⟩
                go_wp2
                go_returns
                rw [unhide HR]
                exact ⟨alloc_below w _, rfl⟩
              · have z1 : ((s.extract i (j)).toList == [45, 48]) = false := by rw [ex_toList, beq_eq_false_iff_ne]; exact hz
                have HR : Hid (nm s i = some (cutB s i (j), j)) := by
                  show _ = _
                  unfold nm
                  rw [if_pos (by rw [hD]; exact hdg), hE]
                  unfold norm0
                  rw [if_neg hz]
                have HX := hide (strOf_cut s i (j))
                clear hz
                go_wp2_with fail
                refine (unhide HB _).mono ?_
                rintro e' w3 ⟨rfl, rfl⟩
                go_wp2
                go_returns
                rw [unhide HR, unhide HX]
                exact ⟨alloc_below w _, rfl⟩
          · have u1 : ((j : Int) < (s.size : Int)) = False := eq_false (by omega)
            have hjz : s.size ≤ j := by omega
            have HX : dg s (i) = j := by rw [unhide HST, dg_off (by rw [bt_out s j (by omega)]; simp [isDg])]
            rw [HX] at hE
            clear HX hj3 HGG hjz
            have i1 : (i : Int) ≤ (j : Int) := by omega
            have i2 : (j : Int) ≤ (s.size : Int) := by omega
            have i3 : (0 : Int) ≤ (i : Int) := by omega
            have HB : Hid (∀ w, Calls Tryz.prog 154 #[.string (s.extract i (j))] w fun e' w' => e' = .returned (.bool (tooBig (cutB s i (j)))) ∧ w = w') := fun w => by
              rw [strOf_cut]
              exact tooBig_walk (cutB s i (j)) w (by
                intro h
                have := congrArg List.length h
                unfold cutB at this
                rw [List.length_take, List.length_drop, data_len, List.length_nil] at this
                omega) (by unfold cutB; rw [List.length_take, List.length_drop, data_len]; omega)
            by_cases hz : cutB s i (j) = [45, 48]
            · have z1 : ((s.extract i (j)).toList == [45, 48]) = true := by rw [ex_toList, hz]; rfl
              have HB0 : Hid (∀ w, Calls Tryz.prog 154 #[.string ⟨#[48]⟩] w fun e' w' => e' = .returned (.bool (tooBig [48])) ∧ w = w') := fun w => tooBig_walk [48] w (by simp) (by simp)
              have HR : Hid (nm s i = some ([48], j)) := by
                show _ = _
                unfold nm
                rw [if_pos (by rw [hD]; exact hdg), hE]
                unfold norm0
                rw [if_pos hz]
              clear HB hz
              go_wp2_with fail
              refine (unhide HB0 _).mono ?_
              rintro e' w3 ⟨rfl, rfl⟩
              go_wp2
              go_returns
              rw [unhide HR]
              exact ⟨alloc_below w _, rfl⟩
            · have z1 : ((s.extract i (j)).toList == [45, 48]) = false := by rw [ex_toList, beq_eq_false_iff_ne]; exact hz
              have HR : Hid (nm s i = some (cutB s i (j), j)) := by
                show _ = _
                unfold nm
                rw [if_pos (by rw [hD]; exact hdg), hE]
                unfold norm0
                rw [if_neg hz]
              have HX := hide (strOf_cut s i (j))
              clear hz
              go_wp2_with fail
              refine (unhide HB _).mono ?_
              rintro e' w3 ⟨rfl, rfl⟩
              go_wp2
              go_returns
              rw [unhide HR, unhide HX]
              exact ⟨alloc_below w _, rfl⟩
  · have t1 : ((s.size : Int) ≤ (i : Int)) = True := eq_true (by omega)
    have HR : Hid (((nm s i).map fun q => (JV.num q.1, q.2)) = none) := by
      show _ = _
      unfold nm
      rw [hD, if_neg (by rw [bt_out s (i) (by omega)]; simp [isDg])]; rfl
    go_enter Tryz.func123, Tryz.ntmps123
    go_wp2_with fail
    refine (unhide HA _).mono ?_
    rintro e w1 ⟨rfl, rfl⟩
    go_wp2
    go_returns
    exact GP.bad (unhide HR) (alloc_below w _)

theorem num_walk (s : ByteArray) (i : Nat) (w : World) (hs : s.size ≤ 1048576) (hi : i ≤ s.size + 1) :
    Calls Tryz.prog 123 #[.string s, .int .i64 i] w (GP w ((nm s i).map fun q => (.num q.1, q.2))) := by
  by_cases h : bt s i = 45
  · exact num_neg s i w hs hi h
  · exact num_pos s i w hs hi h
end Go.Proofs.YtcjajchfjoffnaaGreatDoor

namespace Go.Proofs.YtcjajchfjoffnaaGreatDoor
open Go.RowKit

/-- The text of items, a comma behind each. -/
def preA : JL → List UInt8
  | .nil => []
  | .cons v r => ct v ++ 44 :: preA r
theorem preA_snoc : ∀ (a : JL) (v : JV), preA (a.app (.cons v .nil)) = preA a ++ (ct v ++ [44])
  | .nil, v => by simp [JL.app, preA]
  | .cons u r, v => by simp [JL.app, preA, preA_snoc r v]
theorem joinT_pre : ∀ (a : JL) (v : JV), 44 :: (preA a ++ ct v) = joinT (ctL (a.app (.cons v .nil)))
  | .nil, v => by simp [JL.app, preA, ctL, joinT]
  | .cons u r, v => by
    have := joinT_pre r v
    simp [JL.app, preA, ctL, joinT, ← this]
theorem joinC_pre (a : JL) (v : JV) : preA a ++ ct v = joinC (ctL (a.app (.cons v .nil))) := by
  cases a with
  | nil => simp [JL.app, preA, ctL, joinC, joinT]
  | cons u r =>
    have := joinT_pre r v
    simp [JL.app, preA, ctL, joinC, ← this]

abbrev gotB (t : ByteArray) (n : Nat) (ok b tw : Bool) : Obj := .cells #[.string t, .int .i64 (n : Int), .bool ok, .bool b, .bool tw] 121 (0, 0)
/-- A block that holds what was read. -/
def Got (g : Nat) (t : ByteArray) (n : Nat) (ok b tw : Bool) (w : World) : Prop := w.heap[g]? = some (gotB t n ok b tw)
theorem Got.c0 {g n : Nat} {t : ByteArray} {ok b tw : Bool} {w : World} (h : Got g t n ok b tw w) : w.cell? ⟨g, 0, none⟩ = some (.string t) := by rw [Lib.cell_of_heap h]; rfl
theorem Got.c1 {g n : Nat} {t : ByteArray} {ok b tw : Bool} {w : World} (h : Got g t n ok b tw w) : w.cell? ⟨g, 1, none⟩ = some (.int .i64 (n : Int)) := by rw [Lib.cell_of_heap h]; rfl
theorem Got.c2 {g n : Nat} {t : ByteArray} {ok b tw : Bool} {w : World} (h : Got g t n ok b tw w) : w.cell? ⟨g, 2, none⟩ = some (.bool ok) := by rw [Lib.cell_of_heap h]; rfl
theorem Got.c3 {g n : Nat} {t : ByteArray} {ok b tw : Bool} {w : World} (h : Got g t n ok b tw w) : w.cell? ⟨g, 3, none⟩ = some (.bool b) := by rw [Lib.cell_of_heap h]; rfl
theorem Got.c4 {g n : Nat} {t : ByteArray} {ok b tw : Bool} {w : World} (h : Got g t n ok b tw w) : w.cell? ⟨g, 4, none⟩ = some (.bool tw) := by rw [Lib.cell_of_heap h]; rfl
theorem Got.fz {g n : Nat} {t : ByteArray} {ok b tw : Bool} {w : World} (h : Got g t n ok b tw w) (k : Nat) : w.frozen? ⟨g, k, none⟩ = false := Lib.frozen_of_heap h k
theorem Got.lt {g n : Nat} {t : ByteArray} {ok b tw : Bool} {w : World} (h : Got g t n ok b tw w) : g < w.heap.size := (Array.getElem?_eq_some_iff.1 h).1
theorem Got.below {g n : Nat} {t : ByteArray} {ok b tw : Bool} {w w' : World} (h : Got g t n ok b tw w) (hb : Below w.heap.size w w') : Got g t n ok b tw w' := (hb.block g h.lt).trans h
theorem Got.alloc {g n : Nat} {t : ByteArray} {ok b tw : Bool} {w : World} (h : Got g t n ok b tw w) (o : Obj) : Got g t n ok b tw (w.alloc o) := h.below (alloc_below w o)
theorem Got.other {g n : Nat} {t : ByteArray} {ok b tw : Bool} {w : World} (h : Got g t n ok b tw w) {p : Addr} (hp : g ≠ p.block) (v : Value) : Got g t n ok b tw (w.setCell p v) := (Below.heap_setCell w p v g hp).trans h
theorem Got.set0 {g n : Nat} {t : ByteArray} {ok b tw : Bool} {w : World} (h : Got g t n ok b tw w) (t' : ByteArray) : Got g t' n ok b tw (w.setCell ⟨g, 0, none⟩ (.string t')) := heap_setCell_same w g 0 _ 121 (.string t') h
theorem Got.set1 {g n : Nat} {t : ByteArray} {ok b tw : Bool} {w : World} (h : Got g t n ok b tw w) (z : Int) (n' : Nat) (hz : z = (n' : Int)) : Got g t n' ok b tw (w.setCell ⟨g, 1, none⟩ (.int .i64 z)) := by
  subst hz; exact heap_setCell_same w g 1 _ 121 (.int .i64 (n' : Int)) h
theorem Got.set3 {g n : Nat} {t : ByteArray} {ok b tw : Bool} {w : World} (h : Got g t n ok b tw w) (b' : Bool) : Got g t n ok b' tw (w.setCell ⟨g, 3, none⟩ (.bool b')) := heap_setCell_same w g 3 _ 121 (.bool b') h
theorem Got.set4 {g n : Nat} {t : ByteArray} {ok b tw : Bool} {w : World} (h : Got g t n ok b tw w) (b' : Bool) : Got g t n ok b b' (w.setCell ⟨g, 4, none⟩ (.bool b')) := heap_setCell_same w g 4 _ 121 (.bool b') h
theorem Got.set2 {g n : Nat} {t : ByteArray} {ok b tw : Bool} {w : World} (h : Got g t n ok b tw w) (b' : Bool) : Got g t n b' b tw (w.setCell ⟨g, 2, none⟩ (.bool b')) := heap_setCell_same w g 2 _ 121 (.bool b') h
theorem Got.put {g n : Nat} {t : ByteArray} {ok b tw : Bool} {w : World} (h : Got g t n ok b tw w) (t' : ByteArray) (z : Int) (n' : Nat) (hz : z = (n' : Int)) (ok' b' tw' : Bool) :
    Got g t' n' ok' b' tw' (((((w.setCell ⟨g, 0, none⟩ (.string t')).setCell ⟨g, 1, none⟩ (.int .i64 z)).setCell ⟨g, 2, none⟩ (.bool ok')).setCell ⟨g, 3, none⟩ (.bool b')).setCell ⟨g, 4, none⟩ (.bool tw')) :=
  ((((h.set0 t').set1 z n' hz).set2 ok').set3 b').set4 tw'
theorem Got.copyTo {r g n n0 : Nat} {t t0 : ByteArray} {ok b tw ok0 b0 tw0 : Bool} {w : World} (h : Got r t0 n0 ok0 b0 tw0 w) (_ : Got g t n ok b tw w) (z : Int) (hz : z = (n : Int)) :
    Got r t n ok b tw (((((w.setCell ⟨r, 0, none⟩ (.string t)).setCell ⟨r, 1, none⟩ (.int .i64 z)).setCell ⟨r, 2, none⟩ (.bool ok)).setCell ⟨r, 3, none⟩ (.bool b)).setCell ⟨r, 4, none⟩ (.bool tw)) := h.put t z n hz ok b tw
theorem below_put {B g : Nat} {w w' : World} (h : Below B w w') (hg : B ≤ g) (a b c d e : Value) :
    Below B w (((((w'.setCell ⟨g, 0, none⟩ a).setCell ⟨g, 1, none⟩ b).setCell ⟨g, 2, none⟩ c).setCell ⟨g, 3, none⟩ d).setCell ⟨g, 4, none⟩ e) :=
  ((((h.setCell (p := ⟨g, 0, none⟩) hg _).setCell (p := ⟨g, 1, none⟩) hg _).setCell (p := ⟨g, 2, none⟩) hg _).setCell (p := ⟨g, 3, none⟩) hg _).setCell (p := ⟨g, 4, none⟩) hg _
theorem got_ret {fn : Func} (hres : fn.results = #[.cell 4 121]) {tmps : Array Value} {g n : Nat} {t : ByteArray} {ok b tw : Bool} {w : World} (hp : tmps.getD 4 undef = .pointer (some ⟨g, 0, none⟩)) (h : Got g t n ok b tw w) :
    (results fn tmps).run Tryz.prog w = .ok (gotV t n ok b tw) w :=
  results_cell_row hres tmps w g 121 _ (0, 0) _ hp h Tryz.underlying121 rfl (by kernel_rfl)
theorem or_cases : ∀ a b c : Bool, (a || b) = c → a = true ∧ c = true ∨ a = false ∧ b = c := by decide
/-- All cells of a block, for the walk. -/
def Cells5 (g : Nat) (a b c d e : Value) (w : World) : Prop := w.cell? ⟨g, 0, none⟩ = some a ∧ w.cell? ⟨g, 1, none⟩ = some b ∧ w.cell? ⟨g, 2, none⟩ = some c ∧ w.cell? ⟨g, 3, none⟩ = some d ∧ w.cell? ⟨g, 4, none⟩ = some e
theorem Got.cells {g n : Nat} {t : ByteArray} {ok b tw : Bool} {w : World} (h : Got g t n ok b tw w) : Cells5 g (.string t) (.int .i64 (n : Int)) (.bool ok) (.bool b) (.bool tw) w := ⟨h.c0, h.c1, h.c2, h.c3, h.c4⟩
theorem Got.fzs {g n : Nat} {t : ByteArray} {ok b tw : Bool} {w : World} (h : Got g t n ok b tw w) : w.frozen? ⟨g, 0, none⟩ = false ∧ w.frozen? ⟨g, 1, none⟩ = false ∧ w.frozen? ⟨g, 2, none⟩ = false ∧ w.frozen? ⟨g, 3, none⟩ = false ∧ w.frozen? ⟨g, 4, none⟩ = false := ⟨h.fz 0, h.fz 1, h.fz 2, h.fz 3, h.fz 4⟩
theorem strOf_app (a b : List UInt8) : strOf a ++ strOf b = strOf (a ++ b) := by
  apply Go.WideShapes.bytes_inj
  rw [ByteArray.data_append, Array.toList_append, strOf_toList, strOf_toList, strOf_toList]
/-- The model's small readers, at a text. -/
def Small1 (s : ByteArray) : Prop :=
  (∀ (z : Int) (j : Nat) w, z = (j : Int) → Calls Tryz.prog 74 #[.string s, .int .i64 z] w fun e w' => e = .returned (.int .i64 (sk s j)) ∧ w = w') ∧
  (∀ (c j : Nat) w, c ≠ 0 → Calls Tryz.prog 119 #[.string s, .int .i64 j, .int .u8 c] w fun e w' => e = .returned (.bool (decide (bt s j = c))) ∧ w = w')
theorem small1 (s : ByteArray) (hs : s.size ≤ 1048576) : Small1 s := by
  refine ⟨fun z j w hz => ?_, fun c j w hc => ?_⟩
  · subst hz; exact l1Skip_walk s j w hs
  · have h := at_walk s (j : Int) j rfl c w
    have e : atB s j (c : Int) = decide (bt s j = c) := by
      by_cases hlt : j < s.size
      · rw [atB_in hlt, ← bt_at s j hlt]
        by_cases g : bt s j = c
        · rw [g]; simp
        · rw [decide_eq_false g, beq_eq_false_iff_ne]; omega
      · rw [atB_out hlt, bt_out s j (by omega)]
        exact (decide_eq_false (fun g => hc g.symm)).symm
    rw [e] at h
    exact h
end Go.Proofs.YtcjajchfjoffnaaGreatDoor

namespace Go.Proofs.YtcjajchfjoffnaaGreatDoor
open Go.RowKit

/-- The decimal text of a number, as the model writes it. -/
def decF : Nat → Nat → List UInt8
  | 0, _ => []
  | f + 1, n => if n < 10 then [UInt8.ofNat (48 + n)] else decF f (n / 10) ++ [UInt8.ofNat (48 + n % 10)]
def decT (n : Nat) : List UInt8 := decF (n + 1) n
theorem decF_same : ∀ (f g n : Nat), n < f → n < g → decF f n = decF g n
  | 0, _, _, h, _ => by omega
  | _ + 1, 0, _, _, h => by omega
  | f + 1, g + 1, n, hf, hg => by
    rw [decF, decF]
    by_cases h : n < 10
    · rw [if_pos h, if_pos h]
    · rw [if_neg h, if_neg h, decF_same f g (n / 10) (by omega) (by omega)]
theorem decT_lo {n : Nat} (h : n < 10) : decT n = [UInt8.ofNat (48 + n)] := by unfold decT; rw [decF, if_pos h]
theorem decT_hi {n : Nat} (h : ¬ n < 10) : decT n = decT (n / 10) ++ decT (n % 10) := by
  rw [decT_lo (n := n % 10) (by omega)]
  unfold decT
  rw [decF, if_neg h, decF_same n (n / 10 + 1) (n / 10) (by omega) (by omega)]
theorem decT_len : ∀ n : Nat, (decT n).length ≤ n + 1 := fun n => by
  have : ∀ f n, (decF f n).length ≤ f := by
    intro f
    induction f with
    | zero => intro n; simp [decF]
    | succ f ih =>
      intro n
      rw [decF]
      split
      · simp
      · have := ih (n / 10); simp; omega
  exact this (n + 1) n

set_option maxRecDepth 100000 in
set_option maxHeartbeats 1600000 in
theorem dec_walk : ∀ (b n : Nat) (w : World), n ≤ b → n ≤ 1000000000 → Calls Tryz.prog 107 #[.int .i64 (n : Int)] w fun e w' => e = .returned (.string (strOf (decT n))) ∧ Below w.heap.size w w' := by
  intro b
  induction b with
  | zero =>
    intro n w hn _
    obtain rfl : n = 0 := by omega
    have hcv := convert_bytes w (decT 0) #[.int .u8 48] 1 rfl rfl
    generalize decT 0 = u at *
    go_enter Tryz.func107, Tryz.ntmps107
    go_wp2
    go_ret
    exact ⟨rfl, (Below.refl _ _).alloc (Nat.le_refl _) _⟩
  | succ b ih =>
    intro n w hn hm
    by_cases h : n < 10
    · have hcv := convert_bytes w (decT n) #[.int .u8 (48 + (n : Int))] 1 (by rw [decT_lo h]; rfl) (by rw [decT_lo h]; simp [Lib.byteCells]; omega)
      have h1 : (n : Int) < 10 := by omega
      generalize decT n = u at *
      clear ih
      go_enter Tryz.func107, Tryz.ntmps107
      go_wp2
      go_ret
      exact ⟨rfl, (Below.refl _ _).alloc (Nat.le_refl _) _⟩
    · have h1 : ¬ (n : Int) < 10 := by omega
      have hd : (n : Int) / 10 = ((n / 10 : Nat) : Int) := by omega
      have hr : (n : Int) % 10 = ((n % 10 : Nat) : Int) := by omega
      have HA : Hid (∀ w, Calls Tryz.prog 107 #[.int .i64 ((n / 10 : Nat) : Int)] w fun e w' => e = .returned (.string (strOf (decT (n / 10)))) ∧ Below w.heap.size w w') := fun w => ih (n / 10) w (by omega) (by omega)
      have HB : Hid (∀ w, Calls Tryz.prog 107 #[.int .i64 ((n % 10 : Nat) : Int)] w fun e w' => e = .returned (.string (strOf (decT (n % 10)))) ∧ Below w.heap.size w w') := fun w => ih (n % 10) w (by omega) (by omega)
      have HE : Hid (strOf (decT (n / 10)) ++ strOf (decT (n % 10)) = strOf (decT n)) := by show _ = _; rw [strOf_app, ← decT_hi h]
      have z1 : (strOf (decT (n / 10))).size ≤ 1000000001 := by rw [strOf_size]; have := decT_len (n / 10); omega
      have z2 : (strOf (decT (n % 10))).size ≤ 1000000001 := by rw [strOf_size]; have := decT_len (n % 10); omega
      have z3 : (9223372036854775807 < (strOf (decT (n / 10))).size + (strOf (decT (n % 10))).size) = False := eq_false (by omega)
      generalize strOf (decT n) = u at *
      generalize strOf (decT (n / 10)) = u1 at *
      generalize strOf (decT (n % 10)) = u2 at *
      generalize n / 10 = q at *
      generalize n % 10 = r at *
      clear ih h
      go_enter Tryz.func107, Tryz.ntmps107
      go_wp2_with fail
      refine (unhide HA _).mono ?_
      rintro e w1 ⟨rfl, b1⟩
      go_wp2_with fail
      refine (unhide HB _).mono ?_
      rintro e w2 ⟨rfl, b2⟩
      have B2 := below_next b1 b2
      clear HA HB
      go_wp2
      go_ret
      exact ⟨by rw [← unhide HE]; rfl, B2⟩
end Go.Proofs.YtcjajchfjoffnaaGreatDoor

namespace Go.Proofs.YtcjajchfjoffnaaGreatDoor
open Go.RowKit

def idxF : Nat → List (List UInt8) → List (List UInt8 × List UInt8)
  | _, [] => []
  | b, t :: r => (decT b, t) :: idxF (b + 1) r
theorem idxF_snoc : ∀ (a : List (List UInt8)) (b : Nat) (t : List UInt8), idxF b (a ++ [t]) = idxF b a ++ [(decT (b + a.length), t)]
  | [], b, t => rfl
  | x :: r, b, t => by
    simp only [List.cons_append, idxF, idxF_snoc r (b + 1) t, List.length_cons]
    rw [show b + 1 + r.length = b + (r.length + 1) by omega]
theorem idxF_len : ∀ (a : List (List UInt8)) (b : Nat), (idxF b a).length = a.length
  | [], _ => rfl
  | _ :: r, b => by simp [idxF, idxF_len r (b + 1)]
/-- The parts of a value, as the model tells them. -/
def partsV : JV → List (List UInt8 × List UInt8)
  | .arr l => idxF 0 (ctL l)
  | .obj m => isort (ctM m)
  | _ => []
theorem ct_ne : ∀ v : JV, okV v → ct v ≠ []
  | .nul, _ => by simp [ct]
  | .tt, _ => by simp [ct]
  | .ff, _ => by simp [ct]
  | .num l, h => (num_plain h).1
  | .str l, _ => by simp [ct, quoted]
  | .arr l, _ => by simp [ct, mkA]
  | .obj m, _ => by simp [ct, mkO]
theorem ctL_top (T : ByteArray) : ∀ l : JL, okL l → ∀ t ∈ ctL l, TopP T t ∧ t ≠ []
  | .nil, _, t, ht => by simp [ctL] at ht
  | .cons v r, h, t, ht => by
    rw [okL] at h
    rw [ctL] at ht
    rcases List.mem_cons.1 ht with e | ht
    · rw [e]; exact ⟨(ctP v h.1).2, ct_ne v h.1⟩
    · exact ctL_top T r h.2 t ht
theorem ctM_top (T : ByteArray) : ∀ m : JM, okM m → ∀ p ∈ ctM m, TopP T p.2 ∧ p.2 ≠ [] ∧ Lib.validD p.1 = true
  | .nil, _, p, hp => by simp [ctM] at hp
  | .cons k v r, h, p, hp => by
    rw [okM] at h
    rw [ctM] at hp
    rcases List.mem_cons.1 hp with e | hp
    · rw [e]; exact ⟨(ctP v h.2.1).2, ct_ne v h.2.1, h.1⟩
    · exact ctM_top T r h.2.2 p hp
/-- Where part k begins. -/
def pk (cs : List (List UInt8)) (k : Nat) : Nat := 1 + (joinC (cs.take k)).length + (if k = 0 then 0 else 1)
theorem joinT_split : ∀ (cs : List (List UInt8)) (k : Nat), (h : k < cs.length) → joinT cs = joinT (cs.take k) ++ 44 :: (cs[k] ++ joinT (cs.drop (k + 1)))
  | t :: r, 0, _ => by simp [joinT]
  | t :: r, k + 1, h => by
    have := joinT_split r k (by simpa using h)
    simp only [List.take_succ_cons, joinT, List.getElem_cons_succ, List.drop_succ_cons]
    rw [this]; simp
theorem joinC_split (cs : List (List UInt8)) (k : Nat) (h : k < cs.length) : joinC cs = (joinC (cs.take k) ++ (if k = 0 then [] else [44])) ++ (cs[k] ++ joinT (cs.drop (k + 1))) := by
  cases cs with
  | nil => simp at h
  | cons t r =>
    cases k with
    | zero => simp [joinC]
    | succ k =>
      have := joinT_split r k (by simpa using h)
      simp only [joinC, List.take_succ_cons, List.getElem_cons_succ, List.drop_succ_cons]
      rw [this]
      simp
theorem stops_tail (cs : List (List UInt8)) (c : UInt8) (hc : c.toNat = 93 ∨ c.toNat = 125) : Stops (joinT cs ++ [c]) := by
  cases cs with
  | nil => exact .inr ⟨c, [], rfl, .inr hc⟩
  | cons t r => exact .inr ⟨44, _, rfl, .inl rfl⟩
theorem drop_pk {T : ByteArray} {cs : List (List UInt8)} {a c : UInt8} (hT : T.data.toList = a :: (joinC cs ++ [c])) (k : Nat) (h : k < cs.length) : T.data.toList.drop (pk cs k) = cs[k] ++ (joinT (cs.drop (k + 1)) ++ [c]) := by
  have e : T.data.toList = (a :: (joinC (cs.take k) ++ (if k = 0 then [] else [44]))) ++ (cs[k] ++ (joinT (cs.drop (k + 1)) ++ [c])) := by
    rw [hT, joinC_split cs k h]; simp
  have hl : (a :: (joinC (cs.take k) ++ (if k = 0 then [] else [44]))).length = pk cs k := by
    unfold pk
    split <;> simp <;> omega
  rw [e, ← hl, List.drop_left]
theorem pk_next (cs : List (List UInt8)) (k : Nat) (h : k < cs.length) : pk cs (k + 1) = pk cs k + cs[k].length + 1 := by
  have e : (joinC (cs.take (k + 1))).length = (joinC (cs.take k)).length + (if k = 0 then 0 else 1) + cs[k].length := by
    rw [List.take_succ_eq_append_getElem h, joinC_snoc]
    by_cases hk : k = 0
    · subst hk; simp [joinC]
    · have hne : cs.take k ≠ [] := by intro e; have := congrArg List.length e; rw [List.length_take, List.length_nil] at this; omega
      rw [if_neg hne, if_neg hk]
      simp; omega
  unfold pk
  rw [e, if_neg (Nat.succ_ne_zero k)]
  omega
theorem pk_in {T : ByteArray} {cs : List (List UInt8)} {a c : UInt8} (hT : T.data.toList = a :: (joinC cs ++ [c])) (k : Nat) (h : k < cs.length) : pk cs k + cs[k].length + 1 ≤ T.size := by
  have h1 := congrArg List.length (drop_pk hT k h)
  rw [List.length_drop, data_len] at h1
  simp at h1
  by_cases hle : pk cs k ≤ T.size
  · omega
  · omega
theorem pk_end {T : ByteArray} {cs : List (List UInt8)} {a c : UInt8} (hT : T.data.toList = a :: (joinC cs ++ [c])) : T.size ≤ pk cs cs.length + 1 := by
  have h1 := congrArg List.length hT
  rw [data_len] at h1
  simp at h1
  unfold pk
  rw [List.take_of_length_le (Nat.le_refl _)]
  omega
theorem cut_pk {T : ByteArray} {i : Nat} {t m : List UInt8} (h : T.data.toList.drop i = t ++ m) : T.extract i (i + t.length) = strOf t := by
  rw [strOf_cut]
  unfold cutB
  rw [h, Nat.add_sub_cancel_left]
  simp
end Go.Proofs.YtcjajchfjoffnaaGreatDoor

namespace Go.Proofs.YtcjajchfjoffnaaGreatDoor
open Go.RowKit

/-- What digits stand for. -/
def digV (l : List UInt8) : Nat := l.foldl (fun v c => v * 10 + (c.toNat - 48)) 0
theorem digV_snoc (l : List UInt8) (c : UInt8) : digV (l ++ [c]) = digV l * 10 + (c.toNat - 48) := by unfold digV; rw [List.foldl_append]; rfl
def idxOk (t : List UInt8) : Bool := decide (1 ≤ t.length) && decide (t.length ≤ 6) && !(decide ((t.getD 0 0).toNat = 48) && decide (1 < t.length)) && t.all fun c => isDg c.toNat
/-- The index that a token is. -/
def idxT (t : List UInt8) : Option Nat := if idxOk t = true then some (digV t) else none
theorem idxOk_iff {t : List UInt8} : idxOk t = true ↔ 1 ≤ t.length ∧ t.length ≤ 6 ∧ ¬ ((t.getD 0 0).toNat = 48 ∧ 1 < t.length) ∧ ∀ c ∈ t, isDg c.toNat = true := by
  unfold idxOk
  simp only [Bool.and_eq_true, decide_eq_true_eq, Bool.not_eq_true', Bool.and_eq_false_iff, decide_eq_false_iff_not, List.all_eq_true]
  constructor
  · rintro ⟨⟨⟨a, b⟩, c⟩, d⟩
    exact ⟨a, b, fun ⟨x, y⟩ => c.elim (fun h => h x) (fun h => h y), d⟩
  · rintro ⟨a, b, c, d⟩
    refine ⟨⟨⟨a, b⟩, ?_⟩, d⟩
    by_cases h : (t.getD 0 0).toNat = 48
    · exact .inr fun y => c ⟨h, y⟩
    · exact .inl h
theorem digV_pos : ∀ (n : Nat) (t : List UInt8), t.length = n → t ≠ [] → (t.getD 0 0).toNat ≠ 48 → (∀ c ∈ t, isDg c.toNat = true) → 1 ≤ digV t := by
  intro n
  induction n with
  | zero => intro t h hn; exact absurd (List.eq_nil_of_length_eq_zero h) hn
  | succ n ih =>
    intro t h _ h0 hd
    rcases List.eq_nil_or_concat t with e | ⟨a, c, e⟩
    · subst e; simp at h
    · rw [List.concat_eq_append] at e
      subst e
      rw [digV_snoc]
      have hc := isDg_iff.1 (hd c (by simp))
      by_cases ha : a = []
      · subst ha
        have h0' : c.toNat ≠ 48 := h0
        simp [digV]; omega
      · have h1 : (a.getD 0 0).toNat ≠ 48 := by
          cases a with
          | nil => exact absurd rfl ha
          | cons x r => exact h0
        have := ih a (by simpa using h) ha h1 (fun x hx => hd x (by simp [hx]))
        omega
theorem dec_dig : ∀ (n : Nat) (t : List UInt8), t.length = n → t ≠ [] → ¬ ((t.getD 0 0).toNat = 48 ∧ 1 < t.length) → (∀ c ∈ t, isDg c.toNat = true) → decT (digV t) = t := by
  intro n
  induction n with
  | zero => intro t h hn; exact absurd (List.eq_nil_of_length_eq_zero h) hn
  | succ n ih =>
    intro t h _ h0 hd
    rcases List.eq_nil_or_concat t with e | ⟨a, c, e⟩
    · subst e; simp at h
    · rw [List.concat_eq_append] at e
      subst e
      have hc := isDg_iff.1 (hd c (by simp))
      have ec : UInt8.ofNat (48 + (c.toNat - 48)) = c := by rw [show 48 + (c.toNat - 48) = c.toNat by omega]; exact UInt8.ofNat_toNat
      rw [digV_snoc]
      by_cases ha : a = []
      · subst ha
        simp only [digV, List.foldl_nil, Nat.zero_mul, Nat.zero_add, List.nil_append]
        rw [decT_lo (by omega), ec]
      · have hal : 1 ≤ a.length := by cases a with
          | nil => exact absurd rfl ha
          | cons _ _ => simp
        have h1 : (a.getD 0 0).toNat ≠ 48 := by
          intro e
          refine h0 ⟨?_, by simp; omega⟩
          cases a with
          | nil => exact absurd rfl ha
          | cons x r => exact e
        have hda : ∀ x ∈ a, isDg x.toNat = true := fun x hx => hd x (by simp [hx])
        have hp := digV_pos _ a rfl ha h1 hda
        rw [decT_hi (by omega), show (digV a * 10 + (c.toNat - 48)) / 10 = digV a by omega, show (digV a * 10 + (c.toNat - 48)) % 10 = c.toNat - 48 by omega, decT_lo (n := c.toNat - 48) (by omega), ec]
        rw [ih a (by simpa using h) ha (fun e => h1 e.1) hda]
theorem idxT_dec {t : List UInt8} {i : Nat} (h : idxT t = some i) : decT i = t := by
  unfold idxT at h
  split at h
  · rename_i hk
    injection h with h
    subst h
    obtain ⟨a, b, c, d⟩ := idxOk_iff.1 hk
    exact dec_dig _ t rfl (by intro e; subst e; simp at a) c d
  · cases h
theorem dec_form : ∀ (n : Nat), decT n ≠ [] ∧ (∀ c ∈ decT n, isDg c.toNat = true) ∧ digV (decT n) = n ∧ ¬ (((decT n).getD 0 0).toNat = 48 ∧ 1 < (decT n).length) := by
  intro n
  induction n using Nat.strongRecOn with
  | _ n ih =>
    by_cases h : n < 10
    · rw [decT_lo h]
      have e : (UInt8.ofNat (48 + n)).toNat = 48 + n := ofNat_lt (by omega)
      refine ⟨by simp, fun c hc => ?_, ?_, by simp⟩
      · rw [List.mem_singleton] at hc; subst hc; rw [e]; exact isDg_iff.2 ⟨by omega, by omega⟩
      · simp only [digV, List.foldl_cons, List.foldl_nil, Nat.zero_mul, Nat.zero_add]; rw [e]; omega
    · obtain ⟨a1, a2, a3, a4⟩ := ih (n / 10) (by omega)
      rw [decT_hi h, decT_lo (n := n % 10) (by omega)]
      have e : (UInt8.ofNat (48 + n % 10)).toNat = 48 + n % 10 := ofNat_lt (by omega)
      refine ⟨by simp, fun c hc => ?_, ?_, ?_⟩
      · rcases List.mem_append.1 hc with hc | hc
        · exact a2 c hc
        · rw [List.mem_singleton] at hc; subst hc; rw [e]; exact isDg_iff.2 ⟨by omega, by omega⟩
      · rw [digV_snoc, a3, e]; omega
      · rintro ⟨b1, _⟩
        have hh : ((decT (n / 10) ++ [UInt8.ofNat (48 + n % 10)]).getD 0 0) = (decT (n / 10)).getD 0 0 := by
          cases hd : decT (n / 10) with
          | nil => exact absurd hd a1
          | cons x r => rfl
        rw [hh] at b1
        by_cases h10 : n / 10 < 10
        · rw [decT_lo h10] at b1
          have e2 : (UInt8.ofNat (48 + n / 10)).toNat = 48 + n / 10 := ofNat_lt (by omega)
          have : ([UInt8.ofNat (48 + n / 10)].getD 0 0).toNat = 48 + n / 10 := e2
          rw [this] at b1
          omega
        · refine a4 ⟨b1, ?_⟩
          rw [decT_hi h10, List.length_append]
          have q1 := (ih (n / 10 / 10) (by omega)).1
          have q2 : 1 ≤ (decT (n / 10 / 10)).length := by cases hq : decT (n / 10 / 10) with
            | nil => exact absurd hq q1
            | cons _ _ => simp
          rw [decT_lo (n := n / 10 % 10) (by omega)]
          simp; omega
theorem decT_inj {a b : Nat} (h : decT a = decT b) : a = b := by
  have h1 := (dec_form a).2.2.1
  have h2 := (dec_form b).2.2.1
  rw [h, h2] at h1
  exact h1.symm
/-- The value that a token leads to. -/
def childV : JV → List UInt8 → Option JV
  | .arr l, t => (idxT t).bind fun i => l.toL[i]?
  | .obj m, t => (m.toL.find? fun q => q.1 == t).map (·.2)
  | _, _ => none
def getV : JV → List (List UInt8) → Option JV
  | v, [] => some v
  | v, t :: ts => (childV v t).bind fun u => getV u ts
end Go.Proofs.YtcjajchfjoffnaaGreatDoor

namespace Go.Proofs.YtcjajchfjoffnaaGreatDoor
open Go.RowKit

theorem childV_arr (l : JL) (t : List UInt8) : childV (.arr l) t = (idxT t).bind fun i => l.toL[i]? := rfl
theorem childV_obj (m : JM) (t : List UInt8) : childV (.obj m) t = (m.toL.find? fun q => q.1 == t).map (·.2) := rfl
theorem getV_app : ∀ (a b : List (List UInt8)) (v : JV), getV v (a ++ b) = (getV v a).bind fun u => getV u b
  | [], b, v => rfl
  | t :: r, b, v => by
    rw [List.cons_append, getV, getV]
    cases childV v t with
    | none => rfl
    | some u => simp only [Option.bind_some]; exact getV_app r b u
theorem getV_step {v u : JV} {ts : List (List UInt8)} {k : Nat} (h : k < ts.length) (hu : getV v (ts.take k) = some u) : getV v (ts.take (k + 1)) = childV u ts[k] := by
  rw [List.take_succ_eq_append_getElem h, getV_app, hu]
  simp only [Option.bind_some, getV]
  cases childV u ts[k] <;> rfl
theorem getV_stop {v u : JV} {ts : List (List UInt8)} {k : Nat} (h : k < ts.length) (hu : getV v (ts.take k) = some u) (hc : childV u ts[k] = none) : getV v ts = none := by
  have e : ts = ts.take (k + 1) ++ ts.drop (k + 1) := (List.take_append_drop _ _).symm
  rw [e, getV_app, getV_step h hu, hc]
  rfl
theorem okL_at : ∀ (l : JL), okL l → twL l = false → ∀ v ∈ l.toL, okV v ∧ twV v = false
  | .nil, _, _, v, hv => by simp [JL.toL] at hv
  | .cons x r, h, t, v, hv => by
    rw [okL] at h
    rw [twL, Bool.or_eq_false_iff] at t
    rw [JL.toL] at hv
    rcases List.mem_cons.1 hv with e | hv
    · rw [e]; exact ⟨h.1, t.1⟩
    · exact okL_at r h.2 t.2 v hv
theorem okM_at : ∀ (m : JM) (ks : List (List UInt8)), okM m → twM ks m = false → ∀ q ∈ m.toL, okV q.2 ∧ twV q.2 = false
  | .nil, _, _, _, q, hq => by simp [JM.toL] at hq
  | .cons k x r, ks, h, t, q, hq => by
    rw [okM] at h
    rw [twM] at t
    simp only [Bool.or_eq_false_iff] at t
    rw [JM.toL] at hq
    rcases List.mem_cons.1 hq with e | hq
    · rw [e]; exact ⟨h.2.1, t.1.1⟩
    · exact okM_at r (ks ++ [k]) h.2.2 t.2 q hq
/-- A part of a tree is as good as the tree, and no longer. -/
theorem childV_ok {v u : JV} {t : List UInt8} (h : childV v t = some u) (hok : okV v) (htw : twV v = false) : okV u ∧ twV u = false ∧ (ct u).length ≤ (ct v).length ∧ cntV u ≤ cntV v := by
  cases v with
  | arr l =>
    rw [okV] at hok
    rw [twV] at htw
    rw [childV_arr] at h
    cases hi : idxT t with
    | none => rw [hi] at h; simp at h
    | some i =>
      rw [hi] at h
      simp only [Option.bind_some] at h
      obtain ⟨hl, rfl⟩ := List.getElem?_eq_some_iff.1 h
      have hm := List.getElem_mem hl
      obtain ⟨a, b⟩ := okL_at l hok htw _ hm
      refine ⟨a, b, ?_, ?_⟩
      · have hct : (ct (.arr l)).length = hold (ctL l).length + nl (ctL l) := by
          show (mkA (ctL l)).length = _
          have := joinC_nl (ctL l)
          simp [mkA]; omega
        have n1 : (ct l.toL[i]).length ≤ nl (ctL l) := by have := sum_at ((ctL l).map List.length) i (by rw [ctL_map]; simpa using hl); simpa [nl, ctL_map] using this
        omega
      · rw [cntV, cntL_cl]
        have := sum_at (l.toL.map cntV) i (by simpa using hl)
        have c1 : cntV l.toL[i] ≤ cl l.toL := by simpa [cl] using this
        omega
  | obj m =>
    rw [okV] at hok
    rw [twV] at htw
    rw [childV_obj] at h
    cases hf : m.toL.find? fun q => q.1 == t with
    | none => rw [hf] at h; simp at h
    | some q =>
      rw [hf] at h
      simp at h
      subst h
      have hm := List.mem_of_find?_eq_some hf
      obtain ⟨a, b⟩ := okM_at m [] hok htw _ hm
      refine ⟨a, b, ?_, ?_⟩
      · have hct := ctObj_len m
        have n1 := sumf_at memN hm
        simp only [memN] at n1
        omega
      · rw [cntV, cntM_sum]
        have : cntV q.2 ≤ _ := sumf_at (fun q => cntV q.2) hm
        omega
  | nul => simp [childV] at h
  | tt => simp [childV] at h
  | ff => simp [childV] at h
  | num l => simp [childV] at h
  | str l => simp [childV] at h
theorem idxF_at : ∀ (cs : List (List UInt8)) (b j : Nat) (h : j < (idxF b cs).length), (idxF b cs)[j] = (decT (b + j), cs[j]'(by rw [idxF_len] at h; exact h))
  | [], b, j, h => by simp [idxF] at h
  | t :: r, b, 0, h => rfl
  | t :: r, b, j + 1, h => by
    simp only [idxF, List.getElem_cons_succ]
    rw [idxF_at r (b + 1) j]
    rw [show b + 1 + j = b + (j + 1) by omega]
/-- What is found among the parts is the part that the token leads to. -/
theorem child_found {v : JV} {t : List UInt8} (hok : okV v) (htw : twV v = false) (hi : (∃ l, v = .arr l) → (idxT t).isSome = true) {j : Nat} (hj : j < (partsV v).length) (hk : (partsV v)[j].1 = t) : ∃ u, childV v t = some u ∧ (partsV v)[j].2 = ct u := by
  cases v with
  | arr l =>
    have hp : partsV (.arr l) = idxF 0 (ctL l) := rfl
    have hs := hi ⟨l, rfl⟩
    cases hx : idxT t with
    | none => rw [hx] at hs; simp at hs
    | some i =>
      have e1 := idxF_at (ctL l) 0 j hj
      have e2 : (partsV (.arr l))[j] = (decT (0 + j), (ctL l)[j]'(by rw [hp, idxF_len] at hj; exact hj)) := e1
      rw [e2] at hk ⊢
      simp only [Nat.zero_add] at hk ⊢
      have : j = i := decT_inj (hk.trans (idxT_dec hx).symm)
      subst this
      have hl : j < l.toL.length := by rw [hp, idxF_len, ctL_map, List.length_map] at hj; exact hj
      refine ⟨l.toL[j], ?_, ?_⟩
      · rw [childV_arr, hx]; simp [hl]
      · simp [ctL_map]
  | obj m =>
    have hm : (partsV (.obj m))[j] ∈ ctM m := (isort_perm _).subset (List.getElem_mem hj)
    generalize (partsV (.obj m))[j] = p at *
    rw [ctM_map] at hm
    obtain ⟨q, hq, rfl⟩ := List.mem_map.1 hm
    simp only at hk
    rw [twV] at htw
    have hnd : (m.toL.map (·.1)).Nodup := by rw [← keysM_map]; exact (twM_nodup m [] htw).1
    refine ⟨q.2, ?_, rfl⟩
    rw [childV_obj]
    have hf : m.toL.find? (fun q => q.1 == t) = some q := by
      have : ∀ l : List (List UInt8 × JV), (l.map (·.1)).Nodup → q ∈ l → l.find? (fun q => q.1 == t) = some q := by
        intro l
        induction l with
        | nil => intro _ h; simp at h
        | cons x r ih =>
          intro hn hin
          rw [List.map_cons, List.nodup_cons] at hn
          rw [List.find?_cons]
          rcases List.mem_cons.1 hin with e | hin
          · subst e; simp [hk]
          · have hne : (x.1 == t) = false := by
              rw [beq_eq_false_iff_ne]
              intro e
              exact hn.1 (by rw [e, ← hk]; exact List.mem_map.2 ⟨q, hin, rfl⟩)
            rw [hne]
            exact ih hn.2 hin
      exact this m.toL hnd hq
    rw [hf]; rfl
  | nul => simp [partsV] at hj
  | tt => simp [partsV] at hj
  | ff => simp [partsV] at hj
  | num l => simp [partsV] at hj
  | str l => simp [partsV] at hj
theorem child_missed {v : JV} {t : List UInt8} (h : ∀ j (hj : j < (partsV v).length), (partsV v)[j].1 ≠ t) : childV v t = none := by
  cases v with
  | arr l =>
    rw [childV_arr]
    cases hx : idxT t with
    | none => rfl
    | some i =>
      simp only [Option.bind_some]
      by_cases hl : i < l.toL.length
      · exfalso
        have hj : i < (partsV (.arr l)).length := by show i < (idxF 0 (ctL l)).length; rw [idxF_len, ctL_map, List.length_map]; exact hl
        refine h i hj ?_
        have e1 : (partsV (.arr l))[i] = _ := idxF_at (ctL l) 0 i hj
        rw [e1]
        simp only [Nat.zero_add]
        exact idxT_dec hx
      · rw [List.getElem?_eq_none (by omega)]
  | obj m =>
    rw [childV_obj]
    have hf : m.toL.find? (fun q => q.1 == t) = none := by
      rw [List.find?_eq_none]
      intro q hq e
      have hm : (q.1, ct q.2) ∈ ctM m := by rw [ctM_map]; exact List.mem_map.2 ⟨q, hq, rfl⟩
      have hp : (q.1, ct q.2) ∈ partsV (.obj m) := (isort_perm _).mem_iff.2 hm
      obtain ⟨j, hj, he⟩ := List.getElem_of_mem hp
      refine h j hj ?_
      rw [he]
      simpa using e
    rw [hf]; rfl
  | nul => rfl
  | tt => rfl
  | ff => rfl
  | num l => rfl
  | str l => rfl
end Go.Proofs.YtcjajchfjoffnaaGreatDoor

namespace Go.Proofs.YtcjajchfjoffnaaGreatDoor
open Go.RowKit

def insJ (p : List UInt8 × JV) : List (List UInt8 × JV) → List (List UInt8 × JV)
  | [] => [p]
  | q :: r => if p.1 < q.1 then q :: insJ p r else p :: q :: r
def isortJ (l : List (List UInt8 × JV)) : List (List UInt8 × JV) := (l.foldl (fun acc p => insJ p acc) []).reverse
def idxJ : Nat → List JV → List (List UInt8 × JV)
  | _, [] => []
  | b, v :: r => (decT b, v) :: idxJ (b + 1) r
/-- The parts of a value, as trees. -/
def kidsV : JV → List (List UInt8 × JV)
  | .arr l => idxJ 0 l.toL
  | .obj m => isortJ m.toL
  | _ => []
def kt (q : List UInt8 × JV) : List UInt8 × List UInt8 := (q.1, ct q.2)
theorem insJ_kt (p : List UInt8 × JV) : ∀ l : List (List UInt8 × JV), (insJ p l).map kt = insR (kt p) (l.map kt)
  | [] => rfl
  | q :: r => by
    rw [insJ, List.map_cons, insR]
    by_cases h : p.1 < q.1
    · have h' : (kt p).1 < (kt q).1 := h
      rw [if_pos h, if_pos h', List.map_cons, insJ_kt p r]
    · have h' : ¬ (kt p).1 < (kt q).1 := h
      rw [if_neg h, if_neg h', List.map_cons, List.map_cons]
theorem foldJ_kt : ∀ (l acc : List (List UInt8 × JV)), (l.foldl (fun acc p => insJ p acc) acc).map kt = (l.map kt).foldl (fun acc p => insR p acc) (acc.map kt)
  | [], acc => rfl
  | p :: l, acc => by rw [List.foldl_cons, List.map_cons, List.foldl_cons, foldJ_kt l, insJ_kt]
theorem isortJ_kt (l : List (List UInt8 × JV)) : (isortJ l).map kt = isort (l.map kt) := by
  unfold isortJ isort
  rw [List.map_reverse, foldJ_kt]
  rfl
theorem insJ_perm (p : List UInt8 × JV) : ∀ l, (insJ p l).Perm (p :: l)
  | [] => List.Perm.refl _
  | q :: r => by
    unfold insJ
    split
    · exact ((insJ_perm p r).cons q).trans (List.Perm.swap p q r)
    · exact List.Perm.refl _
theorem foldJ_perm : ∀ (l acc : List (List UInt8 × JV)), (l.foldl (fun acc p => insJ p acc) acc).Perm (l ++ acc)
  | [], acc => List.Perm.refl _
  | p :: l, acc => by
    rw [List.foldl_cons]
    exact (foldJ_perm l _).trans (((insJ_perm p acc).append_left l).trans (List.perm_middle))
theorem isortJ_perm (l : List (List UInt8 × JV)) : (isortJ l).Perm l := by
  unfold isortJ
  have := foldJ_perm l []
  rw [List.append_nil] at this
  exact (List.reverse_perm _).trans this
theorem idxJ_kt : ∀ (vs : List JV) (b : Nat), (idxJ b vs).map kt = idxF b (vs.map ct)
  | [], _ => rfl
  | v :: r, b => by rw [idxJ, List.map_cons, List.map_cons, idxF, idxJ_kt r]; rfl
theorem idxJ_len : ∀ (vs : List JV) (b : Nat), (idxJ b vs).length = vs.length
  | [], _ => rfl
  | v :: r, b => by rw [idxJ, List.length_cons, List.length_cons, idxJ_len r]
theorem idxJ_at : ∀ (vs : List JV) (b j : Nat) (h : j < (idxJ b vs).length), (idxJ b vs)[j] = (decT (b + j), vs[j]'(by rw [idxJ_len] at h; exact h))
  | [], b, j, h => by simp [idxJ] at h
  | t :: r, b, 0, h => rfl
  | t :: r, b, j + 1, h => by
    simp only [idxJ, List.getElem_cons_succ]
    rw [idxJ_at r (b + 1) j]
    rw [show b + 1 + j = b + (j + 1) by omega]
theorem idxJ_snd : ∀ (vs : List JV) (b : Nat), (idxJ b vs).map (·.2) = vs
  | [], _ => rfl
  | v :: r, b => by rw [idxJ, List.map_cons, idxJ_snd r]
theorem parts_kids (v : JV) : partsV v = (kidsV v).map kt := by
  cases v with
  | arr l => show idxF 0 (ctL l) = (idxJ 0 l.toL).map kt; rw [idxJ_kt, ctL_map]
  | obj m => show isort (ctM m) = (isortJ m.toL).map kt; rw [isortJ_kt, ctM_map]; rfl
  | nul => rfl
  | tt => rfl
  | ff => rfl
  | num l => rfl
  | str l => rfl
theorem dlK_at : ∀ (vs : List JV) (v : JV), v ∈ vs → depV v ≤ dl vs
  | [], v, h => by simp at h
  | x :: r, v, h => by
    rw [dl]
    rcases List.mem_cons.1 h with rfl | h
    · omega
    · have := dlK_at r v h; omega
/-- What holds of a part. -/
theorem kids_ok {v : JV} (hok : okV v) (htw : twV v = false) {q : List UInt8 × JV} (hq : q ∈ kidsV v) : okV q.2 ∧ twV q.2 = false ∧ depV q.2 + 1 ≤ depV v ∧ q.1.length + (ct q.2).length + 1 ≤ (ct v).length := by
  cases v with
  | arr l =>
    rw [okV] at hok
    rw [twV] at htw
    have hq' : q ∈ idxJ 0 l.toL := hq
    obtain ⟨j, hj, rfl⟩ := List.getElem_of_mem hq'
    have hl : j < l.toL.length := by rw [idxJ_len] at hj; exact hj
    rw [idxJ_at]
    simp only [Nat.zero_add]
    have hm := List.getElem_mem hl
    obtain ⟨a, b⟩ := okL_at l hok htw _ hm
    have hd := dlK_at _ _ hm
    have e := depL_dl l
    have hct : (ct (.arr l)).length = hold (ctL l).length + nl (ctL l) := by
      show (mkA (ctL l)).length = _
      have := joinC_nl (ctL l)
      simp [mkA]; omega
    have n1 : (ct l.toL[j]).length ≤ nl (ctL l) := by have := sum_at ((ctL l).map List.length) j (by rw [ctL_map]; simpa using hl); simpa [nl, ctL_map] using this
    have n2 := decT_len j
    have n3 : (ctL l).length = l.toL.length := by rw [ctL_map, List.length_map]
    refine ⟨a, b, ?_, ?_⟩
    · rw [depV]; omega
    · rw [hct]; unfold hold; omega
  | obj m =>
    rw [okV] at hok
    rw [twV] at htw
    have hm : q ∈ m.toL := (isortJ_perm _).subset hq
    obtain ⟨a, b⟩ := okM_at m [] hok htw _ hm
    have hd := dlK_at (m.toL.map (·.2)) q.2 (List.mem_map.2 ⟨q, hm, rfl⟩)
    have e := depM_dl m
    have hct := ctObj_len m
    have n1 := sumf_at memN hm
    simp only [memN] at n1
    have n2 := quoted_ge q.1
    refine ⟨a, b, ?_, ?_⟩
    · rw [depV]; omega
    · omega
  | nul => simp [kidsV] at hq
  | tt => simp [kidsV] at hq
  | ff => simp [kidsV] at hq
  | num l => simp [kidsV] at hq
  | str l => simp [kidsV] at hq
theorem kids_cnt (v : JV) : cntV v = ((kidsV v).map fun q => cntV q.2).sum + 1 := by
  cases v with
  | arr l =>
    rw [cntV, cntL_cl]
    show cl l.toL + 1 = ((idxJ 0 l.toL).map fun q => cntV q.2).sum + 1
    have e : ((idxJ 0 l.toL).map fun q => cntV q.2) = ((idxJ 0 l.toL).map (·.2)).map cntV := by rw [List.map_map]; rfl
    rw [e, idxJ_snd]; rfl
  | obj m =>
    rw [cntV, cntM_sum]
    show _ = ((isortJ m.toL).map fun q => cntV q.2).sum + 1
    rw [((isortJ_perm m.toL).map fun q => cntV q.2).sum_nat]
  | nul => rfl
  | tt => rfl
  | ff => rfl
  | num l => rfl
  | str l => rfl
/-- A pointer, one token further. -/
def ptrN (p k : List UInt8) : List UInt8 := p ++ 47 :: esc k
theorem ptrN_len (p k : List UInt8) : (ptrN p k).length ≤ p.length + 1 + 2 * k.length := by
  have := esc_le k
  simp [ptrN]; omega
/-- The places of a tree with the texts that lie there. -/
def hitF : Nat → List UInt8 → JV → List (List UInt8 × List UInt8)
  | 0, _, _ => []
  | n + 1, p, v => (p, ct v) :: (kidsV v).flatMap fun q => hitF n (ptrN p q.1) q.2
def plF (n : Nat) (p : List UInt8) (v : JV) : List (List UInt8) := (hitF n p v).map (·.1)
theorem plF_eq (n : Nat) (p : List UInt8) (v : JV) : plF (n + 1) p v = p :: (kidsV v).flatMap fun q => plF n (ptrN p q.1) q.2 := by
  unfold plF
  rw [hitF, List.map_cons, List.map_flatMap]
theorem flatK_len {α β : Type} (f : α → List β) (g : α → Nat) : ∀ l : List α, (∀ x ∈ l, (f x).length = g x) → (l.flatMap f).length = (l.map g).sum
  | [], _ => rfl
  | x :: r, h => by
    rw [List.flatMap_cons, List.length_append, List.map_cons, List.sum_cons, h x List.mem_cons_self, flatK_len f g r (fun y hy => h y (List.mem_cons_of_mem _ hy))]
theorem hitF_len : ∀ (n : Nat) (p : List UInt8) (v : JV), okV v → twV v = false → depV v ≤ n → (hitF n p v).length = cntV v
  | 0, p, v, _, _, h => by have := (dep_cnt v).2; omega
  | n + 1, p, v, h1, h2, h => by
    rw [hitF, List.length_cons, kids_cnt v]
    rw [flatK_len _ (fun q => cntV q.2) (kidsV v) (fun q hq => by
      obtain ⟨a, b, c, _⟩ := kids_ok h1 h2 hq
      exact hitF_len n _ q.2 a b (by omega))]
theorem plF_len {n : Nat} {p : List UInt8} {v : JV} (h1 : okV v) (h2 : twV v = false) (h : depV v ≤ n) : (plF n p v).length = cntV v := by
  unfold plF; rw [List.length_map, hitF_len n p v h1 h2 h]
/-- As many parts from the front. -/
theorem kids_take_cnt (v : JV) (k : Nat) : (((kidsV v).take k).map fun q => cntV q.2).sum + 1 ≤ cntV v := by
  rw [kids_cnt v]
  have e : (kidsV v) = (kidsV v).take k ++ (kidsV v).drop k := (List.take_append_drop _ _).symm
  have e2 : ((kidsV v).map fun q => cntV q.2).sum = (((kidsV v).take k).map fun q => cntV q.2).sum + (((kidsV v).drop k).map fun q => cntV q.2).sum := by
    conv => lhs; rw [e]
    rw [List.map_append, List.sum_append]
  omega
theorem flat_take {α β : Type} (f : α → List β) (l : List α) (k : Nat) (h : k < l.length) : (l.take (k + 1)).flatMap f = (l.take k).flatMap f ++ f l[k] := by
  rw [List.take_succ_eq_append_getElem h, List.flatMap_append]; simp
/-- Rows of different types lie apart. -/
theorem own_apart {w : World} {B B' e e' size size' n n' : Nat} {v v' : Value} {xs xs' : List Value} (h : w.ownsRow B e size v n xs) (h' : w.ownsRow B' e' size' v' n' xs') (hne : e ≠ e') : v.ownBlock = none ∨ v.ownBlock ≠ v'.ownBlock := by
  rcases h.2 with ⟨hv, _⟩ | ⟨g, cap, cur, hv, _, hg, _⟩
  · subst hv; exact .inl rfl
  · rcases h'.2 with ⟨hv', _⟩ | ⟨g', cap', cur', hv', _, hg', _⟩
    · subst hv; subst hv'; right; intro e; cases e
    · subst hv; subst hv'
      right
      intro e
      injection e with e
      simp only at e
      subst e
      rw [hg] at hg'
      injection hg' with e
      injection e with _ e
      exact hne e
end Go.Proofs.YtcjajchfjoffnaaGreatDoor

namespace Go.Proofs.YtcjajchfjoffnaaGreatDoor
open Go.RowKit

theorem endF_uniq {T : ByteArray} : ∀ (f f' op i k k' : Nat), endF T f op i = some k → endF T f' op i = some k' → k = k'
  | 0, _, _, _, _, _, h, _ => by simp [endF] at h
  | _ + 1, 0, _, _, _, _, _, h => by simp [endF] at h
  | f + 1, f' + 1, op, i, k, k', h, h' => by
    rw [endF] at h h'
    by_cases hi : i < T.size
    · rw [if_pos hi] at h h'
      cases hn : nxt T i with
      | none => rw [hn] at h; simp at h
      | some j =>
        rw [hn] at h h'
        simp only [Option.bind_some] at h h'
        cases ho : op1 (bt T i) op with
        | none => rw [ho] at h; simp at h
        | some o =>
          rw [ho] at h h'
          simp only [Option.bind_some] at h h'
          by_cases hs : o = 0 ∧ stopAt T j = true
          · rw [if_pos hs] at h h'
            injection h with h; injection h' with h'
            omega
          · rw [if_neg hs] at h h'
            exact endF_uniq f f' o j k k' h h'
    · rw [if_neg hi] at h; cases h
/-- A class of texts of which at most one stands at a place. -/
def Once (T : ByteArray) (P : List UInt8 → Prop) : Prop := ∀ t t', P t → P t' → ∀ i m m', T.data.toList.drop i = t ++ m → Stops m → T.data.toList.drop i = t' ++ m' → Stops m' → t = t'
theorem once_top (T : ByteArray) : Once T fun t => TopP T t ∧ t ≠ [] := fun t t' h h' i m m' d s d' s' => by
  obtain ⟨f, hf⟩ := h.1 i m d s
  obtain ⟨f', hf'⟩ := h'.1 i m' d' s'
  have := endF_uniq f f' 0 i _ _ hf hf'
  rw [d] at d'
  exact (List.append_inj d' (by omega)).1
theorem once_mem (T : ByteArray) : Once T fun t => ∃ p : List UInt8 × List UInt8, t = memT p ∧ TopP T p.2 ∧ p.2 ≠ [] ∧ Lib.validD p.1 = true := by
  rintro t t' ⟨p, rfl, h1, h2, h3⟩ ⟨q, rfl, k1, k2, k3⟩ i m m' d s d' s'
  have d1 : T.data.toList.drop i = quoted p.1 ++ (58 :: (p.2 ++ m)) := by rw [d]; simp [memT]
  have d2 : T.data.toList.drop i = quoted q.1 ++ (58 :: (q.2 ++ m')) := by rw [d']; simp [memT]
  have e1 := strQ_at p.1 T _ h3 i d1
  have e2 := strQ_at q.1 T _ k3 i d2
  rw [e1] at e2
  injection e2 with e2
  injection e2 with e2 _
  rw [← e2] at d2
  have d3 : T.data.toList.drop (i + (quoted p.1).length + 1) = p.2 ++ m := (at_head (T := T) (c := 58) (drop_past d1)).2.2
  have d4 : T.data.toList.drop (i + (quoted p.1).length + 1) = q.2 ++ m' := (at_head (T := T) (c := 58) (drop_past d2)).2.2
  have := once_top T p.2 q.2 ⟨h1, h2⟩ ⟨k1, k2⟩ _ m m' d3 s d4 s'
  unfold memT
  rw [e2, this]
theorem texts_inj {T : ByteArray} {P : List UInt8 → Prop} (hP : Once T P) (hne : ∀ t, P t → t ≠ []) {cs ds : List (List UInt8)} {a a' c c' : UInt8} (h : T.data.toList = a :: (joinC cs ++ [c])) (h' : T.data.toList = a' :: (joinC ds ++ [c'])) (hc : c.toNat = 93 ∨ c.toNat = 125) (hc' : c'.toNat = 93 ∨ c'.toNat = 125) (t1 : ∀ t ∈ cs, P t) (t2 : ∀ t ∈ ds, P t) : cs = ds := by
  have key : ∀ k, k ≤ cs.length → k ≤ ds.length → cs.take k = ds.take k := by
    intro k
    induction k with
    | zero => intro _ _; simp
    | succ k ih =>
      intro h1 h2
      have e := ih (by omega) (by omega)
      have d1 := drop_pk h k (by omega)
      have d2 := drop_pk h' k (by omega)
      have ep : pk cs k = pk ds k := by unfold pk; rw [e]
      rw [← ep] at d2
      have := hP _ _ (t1 _ (List.getElem_mem (by omega : k < cs.length))) (t2 _ (List.getElem_mem (by omega : k < ds.length))) _ _ _ d1 (stops_tail _ c hc) d2 (stops_tail _ c' hc')
      rw [List.take_succ_eq_append_getElem (by omega), List.take_succ_eq_append_getElem (by omega), e, this]
  have short : ∀ {xs ys : List (List UInt8)} {b b' e e' : UInt8}, T.data.toList = b :: (joinC xs ++ [e]) → T.data.toList = b' :: (joinC ys ++ [e']) → (∀ t ∈ ys, P t) → xs.take xs.length = ys.take xs.length → ¬ xs.length < ys.length := by
    intro xs ys b b' e e' hx hy ty hk hlt
    have p1 := pk_end hx
    have p2 := pk_in hy xs.length hlt
    have ep : pk xs xs.length = pk ys xs.length := by unfold pk; rw [hk]
    have hn := hne _ (ty _ (List.getElem_mem hlt))
    have : 1 ≤ (ys[xs.length]).length := by
      cases hq : ys[xs.length] with
      | nil => exact absurd hq hn
      | cons _ _ => simp
    omega
  have l1 : ¬ cs.length < ds.length := fun hl => short h h' t2 (key _ (Nat.le_refl _) (by omega)) hl
  have l2 : ¬ ds.length < cs.length := fun hl => short h' h t1 (key _ (by omega) (Nat.le_refl _)).symm hl
  have el : cs.length = ds.length := by omega
  have := key cs.length (Nat.le_refl _) (by omega)
  rwa [List.take_of_length_le (Nat.le_refl _), List.take_of_length_le (by omega)] at this
theorem ct_arr {l m : JL} (hl : okL l) (hm : okL m) (h : ct (.arr l) = ct (.arr m)) : ctL l = ctL m := by
  have e1 : (strOf (ct (.arr l))).data.toList = 91 :: (joinC (ctL l) ++ [93]) := by rw [strOf_toList]; rfl
  have e2 : (strOf (ct (.arr l))).data.toList = 91 :: (joinC (ctL m) ++ [93]) := by rw [strOf_toList, h]; rfl
  exact texts_inj (once_top _) (fun t ht => ht.2) e1 e2 (.inl rfl) (.inl rfl) (ctL_top _ l hl) (ctL_top _ m hm)
theorem memT_inj {p q : List UInt8 × List UInt8} (hp : Lib.validD p.1 = true) (hq : Lib.validD q.1 = true) (h : memT p = memT q) : p = q := by
  have d1 : (strOf (memT p)).data.toList.drop 0 = quoted p.1 ++ (58 :: p.2) := by rw [strOf_toList]; rfl
  have d2 : (strOf (memT p)).data.toList.drop 0 = quoted q.1 ++ (58 :: q.2) := by rw [strOf_toList, h]; rfl
  have e1 := strQ_at p.1 _ _ hp 0 d1
  have e2 := strQ_at q.1 _ _ hq 0 d2
  rw [e1] at e2
  injection e2 with e2
  injection e2 with e2 _
  rw [d1, e2] at d2
  have := List.append_cancel_left d2
  injection this with _ this
  exact Prod.ext e2 this
theorem map_memT_inj : ∀ {ps qs : List (List UInt8 × List UInt8)}, (∀ p ∈ ps, Lib.validD p.1 = true) → (∀ p ∈ qs, Lib.validD p.1 = true) → ps.map memT = qs.map memT → ps = qs
  | [], [], _, _, _ => rfl
  | [], _ :: _, _, _, h => by simp at h
  | _ :: _, [], _, _, h => by simp at h
  | p :: ps, q :: qs, h1, h2, h => by
    rw [List.map_cons, List.map_cons] at h
    injection h with a b
    rw [memT_inj (h1 p List.mem_cons_self) (h2 q List.mem_cons_self) a, map_memT_inj (fun x hx => h1 x (List.mem_cons_of_mem _ hx)) (fun x hx => h2 x (List.mem_cons_of_mem _ hx)) b]
theorem ct_obj {k m : JM} (hk : okM k) (hm : okM m) (h : ct (.obj k) = ct (.obj m)) : isort (ctM k) = isort (ctM m) := by
  have e1 : (strOf (ct (.obj k))).data.toList = 123 :: (joinC ((isort (ctM k)).map memT) ++ [125]) := by rw [strOf_toList]; rfl
  have e2 : (strOf (ct (.obj k))).data.toList = 123 :: (joinC ((isort (ctM m)).map memT) ++ [125]) := by rw [strOf_toList, h]; rfl
  have g1 := fun p (hp : p ∈ isort (ctM k)) => ctM_top (strOf (ct (.obj k))) k hk p ((isort_perm _).subset hp)
  have g2 := fun p (hp : p ∈ isort (ctM m)) => ctM_top (strOf (ct (.obj k))) m hm p ((isort_perm _).subset hp)
  have := texts_inj (once_mem _) (fun t ht => by obtain ⟨p, rfl, _⟩ := ht; simp [memT, quoted]) e1 e2 (.inr rfl) (.inr rfl)
    (fun t ht => by obtain ⟨p, hp, rfl⟩ := List.mem_map.1 ht; exact ⟨p, rfl, g1 p hp⟩) (fun t ht => by obtain ⟨p, hp, rfl⟩ := List.mem_map.1 ht; exact ⟨p, rfl, g2 p hp⟩)
  exact map_memT_inj (fun p hp => (g1 p hp).2.2) (fun p hp => (g2 p hp).2.2) this
theorem quoted_inj {a b : List UInt8} (ha : Lib.validD a = true) (hb : Lib.validD b = true) (h : quoted a = quoted b) : a = b := by
  have := memT_inj (p := (a, [])) (q := (b, [])) ha hb (by unfold memT; simp only; rw [h])
  injection this
/-- The kind of a value, and what its first byte says of it. -/
def kd : JV → Nat
  | .nul => 0 | .tt => 1 | .ff => 2 | .num _ => 3 | .str _ => 4 | .arr _ => 5 | .obj _ => 6
def fb (c : Nat) : Nat := if c = 110 then 0 else if c = 116 then 1 else if c = 102 then 2 else if c = 34 then 4 else if c = 91 then 5 else if c = 123 then 6 else 3
theorem ct_fb {v : JV} (h : okV v) : ∃ c r, ct v = c :: r ∧ fb c.toNat = kd v := by
  cases v with
  | nul => exact ⟨_, _, rfl, rfl⟩
  | tt => exact ⟨_, _, rfl, rfl⟩
  | ff => exact ⟨_, _, rfl, rfl⟩
  | num l =>
    rw [okV] at h
    obtain ⟨c, r, rfl, hc, _⟩ := h
    refine ⟨c, r, rfl, ?_⟩
    have : c.toNat = 45 ∨ (48 ≤ c.toNat ∧ c.toNat ≤ 57) := hc.imp id isDg_iff.1
    unfold fb kd
    repeat (rw [if_neg (by omega)])
  | str l => exact ⟨_, _, rfl, rfl⟩
  | arr l => exact ⟨_, _, rfl, rfl⟩
  | obj m => exact ⟨_, _, rfl, rfl⟩
theorem ct_kd {a b : JV} (ha : okV a) (hb : okV b) (h : ct a = ct b) : kd a = kd b := by
  obtain ⟨c, r, e, f⟩ := ct_fb ha
  obtain ⟨c', r', e', f'⟩ := ct_fb hb
  rw [e, e'] at h
  injection h with h _
  rw [← f, ← f', h]
/-- Whether two values that are no arrays and no objects are the same. -/
def leafEq : JV → JV → Bool
  | .nul, .nul => true
  | .tt, .tt => true
  | .ff, .ff => true
  | .num a, .num b => a == b
  | .str a, .str b => a == b
  | _, _ => false
theorem leaf_ct {a b : JV} (h : leafEq a b = true) : ct a = ct b := by
  unfold leafEq at h
  split at h <;> first | rfl | (rw [beq_iff_eq] at h; rw [h]) | cases h
theorem ct_leaf {a b : JV} (ha : okV a) (hb : okV b) (h : ct a = ct b) : leafEq a b = true ∨ (∃ l m, a = .arr l ∧ b = .arr m) ∨ ∃ k m, a = .obj k ∧ b = .obj m := by
  have hk := ct_kd ha hb h
  cases a with
  | nul => cases b <;> first | exact .inl rfl | (simp [kd] at hk)
  | tt => cases b <;> first | exact .inl rfl | (simp [kd] at hk)
  | ff => cases b <;> first | exact .inl rfl | (simp [kd] at hk)
  | num l => cases b with
    | num m => left; have : l = m := h; simp [leafEq, this]
    | _ => simp [kd] at hk
  | str l => cases b with
    | str m => left; rw [okV] at ha hb; have : l = m := quoted_inj ha hb h; simp [leafEq, this]
    | _ => simp [kd] at hk
  | arr l => cases b with
    | arr m => exact .inr (.inl ⟨l, m, rfl, rfl⟩)
    | _ => simp [kd] at hk
  | obj l => cases b with
    | obj m => exact .inr (.inr ⟨l, m, rfl, rfl⟩)
    | _ => simp [kd] at hk
end Go.Proofs.YtcjajchfjoffnaaGreatDoor
