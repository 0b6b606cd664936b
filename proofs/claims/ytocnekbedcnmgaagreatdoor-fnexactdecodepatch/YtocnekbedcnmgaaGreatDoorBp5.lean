import Derived.Handy
import Derived.Test.YtocnekbedcnmgaaGreatDoorBp3
import Derived.Deep.LoopGhost
import Derived.Test.YtocnekbedcnmgaaGreatDoorBp1
import Derived.Test.YtocnekbedcnmgaaGreatDoorBp4
namespace Go.Proofs.YtocnekbedcnmgaaGreatDoor
open Go.RowKit

def gotV (t : ByteArray) (n : Nat) (ok b tw : Bool) : Value := .agg #[.string t, .int .i64 (n : Int), .bool ok, .bool b, .bool tw]
/-- A value of JSON, as the model reads it. -/
def GP (w : World) (o : Option (JV × Nat)) (e : Ending) (w' : World) : Prop :=
  Below w.heap.size w w' ∧ o.elim (∃ (t : ByteArray) (n : Nat) (b tw : Bool), e = .returned (gotV t n false b tw)) fun q => e = .returned (gotV (strOf (ct q.1)) q.2 true (bigV q.1) (twV q.1))
theorem GP.bad {w w' : World} {o : Option (JV × Nat)} (h : o = none) (b : Below w.heap.size w w') : GP w o (.returned (.agg #[.string ⟨#[]⟩, .int .i64 0, .bool false, .bool false, .bool false])) w' := by
  subst h; exact ⟨b, _, 0, _, _, rfl⟩

set_option maxHeartbeats 400000 in
theorem digit_walk (b : Nat) (w : World) :
    Calls Tryz.prog 148 #[.int .u8 b] w fun e w' => e = .returned (.bool (isDg b)) ∧ w = w' := by
  by_cases h : 48 ≤ b
  · have HD : Hid (isDg b = decide ((b : Int) ≤ 57)) := by
      show _ = _
      unfold isDg
      rw [decide_eq_true h, Bool.true_and]
      apply decide_eq_decide.2; omega
    have h1 : (48 : Int) ≤ (b : Int) := by omega
    go_enter Tryz.func148, Tryz.ntmps148
    go_wp2
    go_ret
    exact ⟨by rw [unhide HD]; rfl, rfl⟩
  · have HD : Hid (isDg b = false) := by
      show _ = _
      unfold isDg
      rw [decide_eq_false h, Bool.false_and]
    have h1 : ¬ (48 : Int) ≤ (b : Int) := by omega
    go_enter Tryz.func148, Tryz.ntmps148
    go_wp2
    go_ret
    exact ⟨by rw [unhide HD]; rfl, rfl⟩
theorem alloc_below (w : World) (o : Obj) : Below w.heap.size w (w.alloc o) := (Below.refl _ _).alloc (Nat.le_refl _) _


set_option maxRecDepth 100000 in
set_option maxHeartbeats 4000000 in
theorem num_neg (s : ByteArray) (i : Nat) (w : World) (hs : s.size ≤ 1048576) (hi : i ≤ s.size + 1) (h45 : bt s i = 45) :
    Calls Tryz.prog 112 #[.string s, .int .i64 i] w (GP w ((nm s i).map fun q => (.num q.1, q.2))) := by
  have HA : Hid (∀ w, Calls Tryz.prog 107 #[.string s, .int .i64 i, .int .u8 45] w fun e w' => e = .returned (.bool true) ∧ w = w') := fun w => by
    have h := at_walk s (i : Int) i rfl 45 w
    rw [show atB s i 45 = true from by
      have hlt : i < s.size := bt_in (by omega)
      rw [atB_in hlt, beq_iff_eq, ← bt_at s i hlt, h45]; rfl] at h
    exact h
  have hD : nmD s i = i + 1 := by unfold nmD; rw [if_pos h45]
  by_cases hin : i + 1 < s.size
  · have t1 : ((s.size : Int) ≤ (i : Int) + 1) = False := eq_false (by omega)
    have t1' : ((i : Int) + 1 < (s.size : Int)) = True := eq_true (by omega)
    have hbd := bt_at s (i + 1) hin
    have HG : Hid (∀ w, Calls Tryz.prog 148 #[.int .u8 (s[i + 1].toNat : Int)] w fun e w' => e = .returned (.bool (isDg (bt s (i + 1)))) ∧ w = w') := fun w => by
      rw [hbd]; exact digit_walk _ w
    cases hdg : isDg (bt s (i + 1)) with
    | false =>
      have HR : Hid (((nm s i).map fun q => (JV.num q.1, q.2)) = none) := by
        show _ = _
        unfold nm
        rw [hD, if_neg (by rw [hdg]; simp)]; rfl
      rw [hdg] at HG
      clear hdg hbd
      go_enter Tryz.func112, Tryz.ntmps112
      go_wp2_with fail
      refine (unhide HA _).mono ?_
      rintro e w1 ⟨rfl, rfl⟩
      go_wp2_with fail
      refine (unhide HG _).mono ?_
      rintro e w2 ⟨rfl, rfl⟩
      go_wp2
      go_returns
      exact GP.bad (unhide HR) (alloc_below w _)
    | true =>
      rw [hdg] at HG
      by_cases h48 : bt s (i + 1) = 48
      · have t2 : ((s[i + 1].toNat : Int) == 48) = true := by rw [beq_iff_eq]; omega
        have hE : nmE s i = i + 1 + 1 := by unfold nmE; rw [hD, if_pos h48]
        have i1 : (i : Int) ≤ (i : Int) + 1 + 1 := by omega
        have i2 : (i : Int) + 1 + 1 ≤ (s.size : Int) := by omega
        have i3 : (0 : Int) ≤ (i : Int) := by omega
        go_enter Tryz.func112, Tryz.ntmps112
        go_wp2_with fail
        refine (unhide HA _).mono ?_
        rintro e w1 ⟨rfl, rfl⟩
        go_wp2_with fail
        refine (unhide HG _).mono ?_
        rintro e w2 ⟨rfl, rfl⟩
        clear HA HG
        have HB : Hid (∀ w, Calls Tryz.prog 149 #[.string (s.extract i (i + 1 + 1))] w fun e' w' => e' = .returned (.bool (tooBig (cutB s i (i + 1 + 1)))) ∧ w = w') := fun w => by
          rw [strOf_cut]
          exact tooBig_walk (cutB s i (i + 1 + 1)) w (by
            intro h
            have := congrArg List.length h
            unfold cutB at this
            rw [List.length_take, List.length_drop, data_len, List.length_nil] at this
            omega) (by unfold cutB; rw [List.length_take, List.length_drop, data_len]; omega)
        by_cases hz : cutB s i (i + 1 + 1) = [45, 48]
        · have z1 : ((s.extract i (i + 1 + 1)).toList == [45, 48]) = true := by rw [ex_toList, hz]; rfl
          have HB0 : Hid (∀ w, Calls Tryz.prog 149 #[.string ⟨#[48]⟩] w fun e' w' => e' = .returned (.bool (tooBig [48])) ∧ w = w') := fun w => tooBig_walk [48] w (by simp) (by simp)
          have HR : Hid (nm s i = some ([48], i + 1 + 1)) := by
            show _ = _
            unfold nm
            rw [if_pos (by rw [hD]; exact hdg), hE]
            unfold norm0
            rw [if_pos hz]
          clear HB hz
          go_wp2_with fail
          refine (unhide HB0 _).mono ?_
          rintro e' w3 ⟨rfl, rfl⟩
          go_wp2
          go_returns
          rw [unhide HR]
          exact ⟨alloc_below w _, rfl⟩
        · have z1 : ((s.extract i (i + 1 + 1)).toList == [45, 48]) = false := by rw [ex_toList, beq_eq_false_iff_ne]; exact hz
          have HR : Hid (nm s i = some (cutB s i (i + 1 + 1), i + 1 + 1)) := by
            show _ = _
            unfold nm
            rw [if_pos (by rw [hD]; exact hdg), hE]
            unfold norm0
            rw [if_neg hz]
          have HX := hide (strOf_cut s i (i + 1 + 1))
          clear hz
          go_wp2_with fail
          refine (unhide HB _).mono ?_
          rintro e' w3 ⟨rfl, rfl⟩
          go_wp2
          go_returns
          rw [unhide HR, unhide HX]
          exact ⟨alloc_below w _, rfl⟩
      · have t2 : ((s[i + 1].toNat : Int) == 48) = false := by rw [beq_eq_false_iff_ne]; omega
        have hE : nmE s i = dg s (i + 1) := by unfold nmE; rw [hD, if_neg h48]
        have HGG : Hid (∀ (j : Nat) (hj : j < s.size) w, Calls Tryz.prog 148 #[.int .u8 (s[j].toNat : Int)] w fun e w' => e = .returned (.bool (isDg (bt s j))) ∧ w = w') := fun j hj w => by
          rw [bt_at s j hj]; exact digit_walk _ w
        clear h48 hbd
        go_enter Tryz.func112, Tryz.ntmps112
        go_wp2_with fail
        refine (unhide HA _).mono ?_
        rintro e w1 ⟨rfl, rfl⟩
        go_wp2_with fail
        refine (unhide HG _).mono ?_
        rintro e w2 ⟨rfl, rfl⟩
        clear HA HG
        go_wp2_with fail
        go_loopw [1] (fun k wr => wr = w.alloc (.cells #[.string ⟨#[]⟩, .int .i64 0, .bool false, .bool false, .bool false] 96) ∧ ∃ j : Nat, k = .int .i64 (j : Int) ∧ i + 1 ≤ j ∧ j ≤ s.size ∧ dg s (i + 1) = dg s j ∧ (i + 1 < j ∨ j = i + 1)) (fun k _ => s.size - (intOf k).toNat)
        case atStart => exact ⟨rfl, i + 1, by go_num, Nat.le_refl _, by omega, rfl, .inr rfl⟩
        case round =>
          obtain ⟨rfl, j, rfl, hj1, hj2, hst, hj3⟩ := hrel
          have HST := hide hst
          clear hst
          by_cases hjin : j < s.size
          · have u1 : ((j : Int) < (s.size : Int)) = True := eq_true (by omega)
            have HJ := hide (fun w => unhide HGG j hjin w)
            cases hjd : isDg (bt s j) with
            | true =>
              have HX : Hid (dg s (i + 1) = dg s (j + 1)) := by show _ = _; rw [unhide HST, dg_on hjd]
              rw [hjd] at HJ
              clear hjd
              go_wp2_with fail
              refine (unhide HJ _).mono ?_
              rintro e w3 ⟨rfl, rfl⟩
              clear HJ
              go_wp2
              go_roundw
              case rel => exact ⟨trivial, j + 1, by go_num, by omega, by omega, unhide HX, .inl (by omega)⟩
              case measure => simp [intOf]; omega
            | false =>
              have HX : dg s (i + 1) = j := by rw [unhide HST, dg_off (by rw [hjd]; simp)]
              rw [hjd] at HJ
              have hne : i + 1 < j := by
                rcases hj3 with h | h
                · exact h
                · subst h; rw [hdg] at hjd; cases hjd
              rw [HX] at hE
              clear hjd HX hj3
              have i1 : (i : Int) ≤ (j : Int) := by omega
              have i2 : (j : Int) ≤ (s.size : Int) := by omega
              have i3 : (0 : Int) ≤ (i : Int) := by omega
              go_wp2_with fail
              refine (unhide HJ _).mono ?_
              rintro e w3 ⟨rfl, rfl⟩
              clear HJ HGG
              have HB : Hid (∀ w, Calls Tryz.prog 149 #[.string (s.extract i (j))] w fun e' w' => e' = .returned (.bool (tooBig (cutB s i (j)))) ∧ w = w') := fun w => by
                rw [strOf_cut]
                exact tooBig_walk (cutB s i (j)) w (by
                  intro h
                  have := congrArg List.length h
                  unfold cutB at this
                  rw [List.length_take, List.length_drop, data_len, List.length_nil] at this
                  omega) (by unfold cutB; rw [List.length_take, List.length_drop, data_len]; omega)
              by_cases hz : cutB s i (j) = [45, 48]
              · have z1 : ((s.extract i (j)).toList == [45, 48]) = true := by rw [ex_toList, hz]; rfl
                have HB0 : Hid (∀ w, Calls Tryz.prog 149 #[.string ⟨#[48]⟩] w fun e' w' => e' = .returned (.bool (tooBig [48])) ∧ w = w') := fun w => tooBig_walk [48] w (by simp) (by simp)
                have HR : Hid (nm s i = some ([48], j)) := by
                  show _ = _
                  unfold nm
                  rw [if_pos (by rw [hD]; exact hdg), hE]
                  unfold norm0
                  rw [if_pos hz]
                clear HB hz
                go_wp2_with fail
                refine (unhide HB0 _).mono ?_
                rintro e' w3 ⟨rfl, rfl⟩
                go_wp2
                go_returns
                rw [unhide HR]
                exact ⟨alloc_below w _, rfl⟩
              · have z1 : ((s.extract i (j)).toList == [45, 48]) = false := by rw [ex_toList, beq_eq_false_iff_ne]; exact hz
                have HR : Hid (nm s i = some (cutB s i (j), j)) := by
                  show _ = _
                  unfold nm
                  rw [if_pos (by rw [hD]; exact hdg), hE]
                  unfold norm0
                  rw [if_neg hz]
                have HX := hide (strOf_cut s i (j))
                clear hz
                go_wp2_with fail
                refine (unhide HB _).mono ?_
                rintro e' w3 ⟨rfl, rfl⟩
                go_wp2
                go_returns
                rw [unhide HR, unhide HX]
                exact ⟨alloc_below w _, rfl⟩
          · have u1 : ((j : Int) < (s.size : Int)) = False := eq_false (by omega)
            have hjz : s.size ≤ j := by omega
            have HX : dg s (i + 1) = j := by rw [unhide HST, dg_off (by rw [bt_out s j (by omega)]; simp [isDg])]
            rw [HX] at hE
            clear HX hj3 HGG hjz
            have i1 : (i : Int) ≤ (j : Int) := by omega
            have i2 : (j : Int) ≤ (s.size : Int) := by omega
            have i3 : (0 : Int) ≤ (i : Int) := by omega
            have HB : Hid (∀ w, Calls Tryz.prog 149 #[.string (s.extract i (j))] w fun e' w' => e' = .returned (.bool (tooBig (cutB s i (j)))) ∧ w = w') := fun w => by
              rw [strOf_cut]
              exact tooBig_walk (cutB s i (j)) w (by
                intro h
                have := congrArg List.length h
                unfold cutB at this
                rw [List.length_take, List.length_drop, data_len, List.length_nil] at this
                omega) (by unfold cutB; rw [List.length_take, List.length_drop, data_len]; omega)
            by_cases hz : cutB s i (j) = [45, 48]
            · have z1 : ((s.extract i (j)).toList == [45, 48]) = true := by rw [ex_toList, hz]; rfl
              have HB0 : Hid (∀ w, Calls Tryz.prog 149 #[.string ⟨#[48]⟩] w fun e' w' => e' = .returned (.bool (tooBig [48])) ∧ w = w') := fun w => tooBig_walk [48] w (by simp) (by simp)
              have HR : Hid (nm s i = some ([48], j)) := by
                show _ = _
                unfold nm
                rw [if_pos (by rw [hD]; exact hdg), hE]
                unfold norm0
                rw [if_pos hz]
              clear HB hz
              go_wp2_with fail
              refine (unhide HB0 _).mono ?_
              rintro e' w3 ⟨rfl, rfl⟩
              go_wp2
              go_returns
              rw [unhide HR]
              exact ⟨alloc_below w _, rfl⟩
            · have z1 : ((s.extract i (j)).toList == [45, 48]) = false := by rw [ex_toList, beq_eq_false_iff_ne]; exact hz
              have HR : Hid (nm s i = some (cutB s i (j), j)) := by
                show _ = _
                unfold nm
                rw [if_pos (by rw [hD]; exact hdg), hE]
                unfold norm0
                rw [if_neg hz]
              have HX := hide (strOf_cut s i (j))
              clear hz
              go_wp2_with fail
              refine (unhide HB _).mono ?_
              rintro e' w3 ⟨rfl, rfl⟩
              go_wp2
              go_returns
              rw [unhide HR, unhide HX]
              exact ⟨alloc_below w _, rfl⟩
  · have t1 : ((s.size : Int) ≤ (i : Int) + 1) = True := eq_true (by omega)
    have HR : Hid (((nm s i).map fun q => (JV.num q.1, q.2)) = none) := by
      show _ = _
      unfold nm
      rw [hD, if_neg (by rw [bt_out s (i + 1) (by omega)]; simp [isDg])]; rfl
    go_enter Tryz.func112, Tryz.ntmps112
    go_wp2_with fail
    refine (unhide HA _).mono ?_
    rintro e w1 ⟨rfl, rfl⟩
    go_wp2
    go_returns
    exact GP.bad (unhide HR) (alloc_below w _)

set_option maxRecDepth 100000 in
set_option maxHeartbeats 4000000 in
theorem num_pos (s : ByteArray) (i : Nat) (w : World) (hs : s.size ≤ 1048576) (hi : i ≤ s.size + 1) (h45 : bt s i ≠ 45) :
    Calls Tryz.prog 112 #[.string s, .int .i64 i] w (GP w ((nm s i).map fun q => (.num q.1, q.2))) := by
  have HA : Hid (∀ w, Calls Tryz.prog 107 #[.string s, .int .i64 i, .int .u8 45] w fun e w' => e = .returned (.bool false) ∧ w = w') := fun w => by
    have h := at_walk s (i : Int) i rfl 45 w
    rw [show atB s i 45 = false from by
      by_cases hlt : i < s.size
      · rw [atB_in hlt, beq_eq_false_iff_ne, ← bt_at s i hlt]; omega
      · exact atB_out hlt] at h
    exact h
  have hD : nmD s i = i := by unfold nmD; rw [if_neg h45]
  by_cases hin : i < s.size
  · have t1 : ((s.size : Int) ≤ (i : Int)) = False := eq_false (by omega)
    have t1' : ((i : Int) < (s.size : Int)) = True := eq_true (by omega)
    have hbd := bt_at s (i) hin
    have HG : Hid (∀ w, Calls Tryz.prog 148 #[.int .u8 (s[i].toNat : Int)] w fun e w' => e = .returned (.bool (isDg (bt s (i)))) ∧ w = w') := fun w => by
      rw [hbd]; exact digit_walk _ w
    cases hdg : isDg (bt s (i)) with
    | false =>
      have HR : Hid (((nm s i).map fun q => (JV.num q.1, q.2)) = none) := by
        show _ = _
        unfold nm
        rw [hD, if_neg (by rw [hdg]; simp)]; rfl
      rw [hdg] at HG
      clear hdg hbd
      go_enter Tryz.func112, Tryz.ntmps112
      go_wp2_with fail
      refine (unhide HA _).mono ?_
      rintro e w1 ⟨rfl, rfl⟩
      go_wp2_with fail
      refine (unhide HG _).mono ?_
      rintro e w2 ⟨rfl, rfl⟩
      go_wp2
      go_returns
      exact GP.bad (unhide HR) (alloc_below w _)
    | true =>
      rw [hdg] at HG
      by_cases h48 : bt s (i) = 48
      · have t2 : ((s[i].toNat : Int) == 48) = true := by rw [beq_iff_eq]; omega
        have hE : nmE s i = i + 1 := by unfold nmE; rw [hD, if_pos h48]
        have i1 : (i : Int) ≤ (i : Int) + 1 := by omega
        have i2 : (i : Int) + 1 ≤ (s.size : Int) := by omega
        have i3 : (0 : Int) ≤ (i : Int) := by omega
        go_enter Tryz.func112, Tryz.ntmps112
        go_wp2_with fail
        refine (unhide HA _).mono ?_
        rintro e w1 ⟨rfl, rfl⟩
        go_wp2_with fail
        refine (unhide HG _).mono ?_
        rintro e w2 ⟨rfl, rfl⟩
        clear HA HG
        have HB : Hid (∀ w, Calls Tryz.prog 149 #[.string (s.extract i (i + 1))] w fun e' w' => e' = .returned (.bool (tooBig (cutB s i (i + 1)))) ∧ w = w') := fun w => by
          rw [strOf_cut]
          exact tooBig_walk (cutB s i (i + 1)) w (by
            intro h
            have := congrArg List.length h
            unfold cutB at this
            rw [List.length_take, List.length_drop, data_len, List.length_nil] at this
            omega) (by unfold cutB; rw [List.length_take, List.length_drop, data_len]; omega)
        by_cases hz : cutB s i (i + 1) = [45, 48]
        · have z1 : ((s.extract i (i + 1)).toList == [45, 48]) = true := by rw [ex_toList, hz]; rfl
          have HB0 : Hid (∀ w, Calls Tryz.prog 149 #[.string ⟨#[48]⟩] w fun e' w' => e' = .returned (.bool (tooBig [48])) ∧ w = w') := fun w => tooBig_walk [48] w (by simp) (by simp)
          have HR : Hid (nm s i = some ([48], i + 1)) := by
            show _ = _
            unfold nm
            rw [if_pos (by rw [hD]; exact hdg), hE]
            unfold norm0
            rw [if_pos hz]
          clear HB hz
          go_wp2_with fail
          refine (unhide HB0 _).mono ?_
          rintro e' w3 ⟨rfl, rfl⟩
          go_wp2
          go_returns
          rw [unhide HR]
          exact ⟨alloc_below w _, rfl⟩
        · have z1 : ((s.extract i (i + 1)).toList == [45, 48]) = false := by rw [ex_toList, beq_eq_false_iff_ne]; exact hz
          have HR : Hid (nm s i = some (cutB s i (i + 1), i + 1)) := by
            show _ = _
            unfold nm
            rw [if_pos (by rw [hD]; exact hdg), hE]
            unfold norm0
            rw [if_neg hz]
          have HX := hide (strOf_cut s i (i + 1))
          clear hz
          go_wp2_with fail
          refine (unhide HB _).mono ?_
          rintro e' w3 ⟨rfl, rfl⟩
          go_wp2
          go_returns
          rw [unhide HR, unhide HX]
          exact ⟨alloc_below w _, rfl⟩
      · have t2 : ((s[i].toNat : Int) == 48) = false := by rw [beq_eq_false_iff_ne]; omega
        have hE : nmE s i = dg s (i) := by unfold nmE; rw [hD, if_neg h48]
        have HGG : Hid (∀ (j : Nat) (hj : j < s.size) w, Calls Tryz.prog 148 #[.int .u8 (s[j].toNat : Int)] w fun e w' => e = .returned (.bool (isDg (bt s j))) ∧ w = w') := fun j hj w => by
          rw [bt_at s j hj]; exact digit_walk _ w
        clear h48 hbd
        go_enter Tryz.func112, Tryz.ntmps112
        go_wp2_with fail
        refine (unhide HA _).mono ?_
        rintro e w1 ⟨rfl, rfl⟩
        go_wp2_with fail
        refine (unhide HG _).mono ?_
        rintro e w2 ⟨rfl, rfl⟩
        clear HA HG
        go_wp2_with fail
        go_loopw [1] (fun k wr => wr = w.alloc (.cells #[.string ⟨#[]⟩, .int .i64 0, .bool false, .bool false, .bool false] 96) ∧ ∃ j : Nat, k = .int .i64 (j : Int) ∧ i ≤ j ∧ j ≤ s.size ∧ dg s (i) = dg s j ∧ (i < j ∨ j = i)) (fun k _ => s.size - (intOf k).toNat)
        case atStart => exact ⟨rfl, i, by go_num, Nat.le_refl _, by omega, rfl, .inr rfl⟩
        case round =>
          obtain ⟨rfl, j, rfl, hj1, hj2, hst, hj3⟩ := hrel
          have HST := hide hst
          clear hst
          by_cases hjin : j < s.size
          · have u1 : ((j : Int) < (s.size : Int)) = True := eq_true (by omega)
            have HJ := hide (fun w => unhide HGG j hjin w)
            cases hjd : isDg (bt s j) with
            | true =>
              have HX : Hid (dg s (i) = dg s (j + 1)) := by show _ = _; rw [unhide HST, dg_on hjd]
              rw [hjd] at HJ
              clear hjd
              go_wp2_with fail
              refine (unhide HJ _).mono ?_
              rintro e w3 ⟨rfl, rfl⟩
              clear HJ
              go_wp2
              go_roundw
              case rel => exact ⟨trivial, j + 1, by go_num, by omega, by omega, unhide HX, .inl (by omega)⟩
              case measure => simp [intOf]; omega
            | false =>
              have HX : dg s (i) = j := by rw [unhide HST, dg_off (by rw [hjd]; simp)]
              rw [hjd] at HJ
              have hne : i < j := by
                rcases hj3 with h | h
                · exact h
                · subst h; rw [hdg] at hjd; cases hjd
              rw [HX] at hE
              clear hjd HX hj3
              have i1 : (i : Int) ≤ (j : Int) := by omega
              have i2 : (j : Int) ≤ (s.size : Int) := by omega
              have i3 : (0 : Int) ≤ (i : Int) := by omega
              go_wp2_with fail
              refine (unhide HJ _).mono ?_
              rintro e w3 ⟨rfl, rfl⟩
              clear HJ HGG
              have HB : Hid (∀ w, Calls Tryz.prog 149 #[.string (s.extract i (j))] w fun e' w' => e' = .returned (.bool (tooBig (cutB s i (j)))) ∧ w = w') := fun w => by
                rw [strOf_cut]
                exact tooBig_walk (cutB s i (j)) w (by
                  intro h
                  have := congrArg List.length h
                  unfold cutB at this
                  rw [List.length_take, List.length_drop, data_len, List.length_nil] at this
                  omega) (by unfold cutB; rw [List.length_take, List.length_drop, data_len]; omega)
              by_cases hz : cutB s i (j) = [45, 48]
              · have z1 : ((s.extract i (j)).toList == [45, 48]) = true := by rw [ex_toList, hz]; rfl
                have HB0 : Hid (∀ w, Calls Tryz.prog 149 #[.string ⟨#[48]⟩] w fun e' w' => e' = .returned (.bool (tooBig [48])) ∧ w = w') := fun w => tooBig_walk [48] w (by simp) (by simp)
                have HR : Hid (nm s i = some ([48], j)) := by
                  show _ = _
                  unfold nm
                  rw [if_pos (by rw [hD]; exact hdg), hE]
                  unfold norm0
                  rw [if_pos hz]
                clear HB hz
                go_wp2_with fail
                refine (unhide HB0 _).mono ?_
                rintro e' w3 ⟨rfl, rfl⟩
                go_wp2
                go_returns
                rw [unhide HR]
                exact ⟨alloc_below w _, rfl⟩
              · have z1 : ((s.extract i (j)).toList == [45, 48]) = false := by rw [ex_toList, beq_eq_false_iff_ne]; exact hz
                have HR : Hid (nm s i = some (cutB s i (j), j)) := by
                  show _ = _
                  unfold nm
                  rw [if_pos (by rw [hD]; exact hdg), hE]
                  unfold norm0
                  rw [if_neg hz]
                have HX := hide (strOf_cut s i (j))
                clear hz
                go_wp2_with fail
                refine (unhide HB _).mono ?_
                rintro e' w3 ⟨rfl, rfl⟩
                go_wp2
                go_returns
                rw [unhide HR, unhide HX]
                exact ⟨alloc_below w _, rfl⟩
          · have u1 : ((j : Int) < (s.size : Int)) = False := eq_false (by omega)
            have hjz : s.size ≤ j := by omega
            have HX : dg s (i) = j := by rw [unhide HST, dg_off (by rw [bt_out s j (by omega)]; simp [isDg])]
            rw [HX] at hE
            clear HX hj3 HGG hjz
            have i1 : (i : Int) ≤ (j : Int) := by omega
            have i2 : (j : Int) ≤ (s.size : Int) := by omega
            have i3 : (0 : Int) ≤ (i : Int) := by omega
            have HB : Hid (∀ w, Calls Tryz.prog 149 #[.string (s.extract i (j))] w fun e' w' => e' = .returned (.bool (tooBig (cutB s i (j)))) ∧ w = w') := fun w => by
              rw [strOf_cut]
              exact tooBig_walk (cutB s i (j)) w (by
                intro h
                have := congrArg List.length h
                unfold cutB at this
                rw [List.length_take, List.length_drop, data_len, List.length_nil] at this
                omega) (by unfold cutB; rw [List.length_take, List.length_drop, data_len]; omega)
            by_cases hz : cutB s i (j) = [45, 48]
            · have z1 : ((s.extract i (j)).toList == [45, 48]) = true := by rw [ex_toList, hz]; rfl
              have HB0 : Hid (∀ w, Calls Tryz.prog 149 #[.string ⟨#[48]⟩] w fun e' w' => e' = .returned (.bool (tooBig [48])) ∧ w = w') := fun w => tooBig_walk [48] w (by simp) (by simp)
              have HR : Hid (nm s i = some ([48], j)) := by
                show _ = _
                unfold nm
                rw [if_pos (by rw [hD]; exact hdg), hE]
                unfold norm0
                rw [if_pos hz]
              clear HB hz
              go_wp2_with fail
              refine (unhide HB0 _).mono ?_
              rintro e' w3 ⟨rfl, rfl⟩
              go_wp2
              go_returns
              rw [unhide HR]
              exact ⟨alloc_below w _, rfl⟩
            · have z1 : ((s.extract i (j)).toList == [45, 48]) = false := by rw [ex_toList, beq_eq_false_iff_ne]; exact hz
              have HR : Hid (nm s i = some (cutB s i (j), j)) := by
                show _ = _
                unfold nm
                rw [if_pos (by rw [hD]; exact hdg), hE]
                unfold norm0
                rw [if_neg hz]
              have HX := hide (strOf_cut s i (j))
              clear hz
              go_wp2_with fail
              refine (unhide HB _).mono ?_
              rintro e' w3 ⟨rfl, rfl⟩
              go_wp2
              go_returns
              rw [unhide HR, unhide HX]
              exact ⟨alloc_below w _, rfl⟩
  · have t1 : ((s.size : Int) ≤ (i : Int)) = True := eq_true (by omega)
    have HR : Hid (((nm s i).map fun q => (JV.num q.1, q.2)) = none) := by
      show _ = _
      unfold nm
      rw [hD, if_neg (by rw [bt_out s (i) (by omega)]; simp [isDg])]; rfl
    go_enter Tryz.func112, Tryz.ntmps112
    go_wp2_with fail
    refine (unhide HA _).mono ?_
    rintro e w1 ⟨rfl, rfl⟩
    go_wp2
    go_returns
    exact GP.bad (unhide HR) (alloc_below w _)

theorem num_walk (s : ByteArray) (i : Nat) (w : World) (hs : s.size ≤ 1048576) (hi : i ≤ s.size + 1) :
    Calls Tryz.prog 112 #[.string s, .int .i64 i] w (GP w ((nm s i).map fun q => (.num q.1, q.2))) := by
  by_cases h : bt s i = 45
  · exact num_neg s i w hs hi h
  · exact num_pos s i w hs hi h
end Go.Proofs.YtocnekbedcnmgaaGreatDoor


namespace Go.Proofs.YtocnekbedcnmgaaGreatDoor
open Go.RowKit

/-- The text of items, a comma behind each. -/
def preA : JL → List UInt8
  | .nil => []
  | .cons v r => ct v ++ 44 :: preA r
theorem preA_snoc : ∀ (a : JL) (v : JV), preA (a.app (.cons v .nil)) = preA a ++ (ct v ++ [44])
  | .nil, v => by simp [JL.app, preA]
  | .cons u r, v => by simp [JL.app, preA, preA_snoc r v]
theorem joinT_pre : ∀ (a : JL) (v : JV), 44 :: (preA a ++ ct v) = joinT (ctL (a.app (.cons v .nil)))
  | .nil, v => by simp [JL.app, preA, ctL, joinT]
  | .cons u r, v => by
    have := joinT_pre r v
    simp [JL.app, preA, ctL, joinT, ← this]
theorem joinC_pre (a : JL) (v : JV) : preA a ++ ct v = joinC (ctL (a.app (.cons v .nil))) := by
  cases a with
  | nil => simp [JL.app, preA, ctL, joinC, joinT]
  | cons u r =>
    have := joinT_pre r v
    simp [JL.app, preA, ctL, joinC, ← this]

abbrev gotB (t : ByteArray) (n : Nat) (ok b tw : Bool) : Obj := .cells #[.string t, .int .i64 (n : Int), .bool ok, .bool b, .bool tw] 96 (0, 0)
/-- A block that holds what was read. -/
def Got (g : Nat) (t : ByteArray) (n : Nat) (ok b tw : Bool) (w : World) : Prop := w.heap[g]? = some (gotB t n ok b tw)
theorem Got.c0 {g n : Nat} {t : ByteArray} {ok b tw : Bool} {w : World} (h : Got g t n ok b tw w) : w.cell? ⟨g, 0, none⟩ = some (.string t) := by rw [Lib.cell_of_heap h]; rfl
theorem Got.c1 {g n : Nat} {t : ByteArray} {ok b tw : Bool} {w : World} (h : Got g t n ok b tw w) : w.cell? ⟨g, 1, none⟩ = some (.int .i64 (n : Int)) := by rw [Lib.cell_of_heap h]; rfl
theorem Got.c2 {g n : Nat} {t : ByteArray} {ok b tw : Bool} {w : World} (h : Got g t n ok b tw w) : w.cell? ⟨g, 2, none⟩ = some (.bool ok) := by rw [Lib.cell_of_heap h]; rfl
theorem Got.c3 {g n : Nat} {t : ByteArray} {ok b tw : Bool} {w : World} (h : Got g t n ok b tw w) : w.cell? ⟨g, 3, none⟩ = some (.bool b) := by rw [Lib.cell_of_heap h]; rfl
theorem Got.c4 {g n : Nat} {t : ByteArray} {ok b tw : Bool} {w : World} (h : Got g t n ok b tw w) : w.cell? ⟨g, 4, none⟩ = some (.bool tw) := by rw [Lib.cell_of_heap h]; rfl
theorem Got.fz {g n : Nat} {t : ByteArray} {ok b tw : Bool} {w : World} (h : Got g t n ok b tw w) (k : Nat) : w.frozen? ⟨g, k, none⟩ = false := Lib.frozen_of_heap h k
theorem Got.lt {g n : Nat} {t : ByteArray} {ok b tw : Bool} {w : World} (h : Got g t n ok b tw w) : g < w.heap.size := (Array.getElem?_eq_some_iff.1 h).1
theorem Got.below {g n : Nat} {t : ByteArray} {ok b tw : Bool} {w w' : World} (h : Got g t n ok b tw w) (hb : Below w.heap.size w w') : Got g t n ok b tw w' := (hb.block g h.lt).trans h
theorem Got.alloc {g n : Nat} {t : ByteArray} {ok b tw : Bool} {w : World} (h : Got g t n ok b tw w) (o : Obj) : Got g t n ok b tw (w.alloc o) := h.below (alloc_below w o)
theorem Got.other {g n : Nat} {t : ByteArray} {ok b tw : Bool} {w : World} (h : Got g t n ok b tw w) {p : Addr} (hp : g ≠ p.block) (v : Value) : Got g t n ok b tw (w.setCell p v) := (Below.heap_setCell w p v g hp).trans h
theorem Got.set0 {g n : Nat} {t : ByteArray} {ok b tw : Bool} {w : World} (h : Got g t n ok b tw w) (t' : ByteArray) : Got g t' n ok b tw (w.setCell ⟨g, 0, none⟩ (.string t')) := heap_setCell_same w g 0 _ 96 (.string t') h
theorem Got.set1 {g n : Nat} {t : ByteArray} {ok b tw : Bool} {w : World} (h : Got g t n ok b tw w) (z : Int) (n' : Nat) (hz : z = (n' : Int)) : Got g t n' ok b tw (w.setCell ⟨g, 1, none⟩ (.int .i64 z)) := by
  subst hz; exact heap_setCell_same w g 1 _ 96 (.int .i64 (n' : Int)) h
theorem Got.set3 {g n : Nat} {t : ByteArray} {ok b tw : Bool} {w : World} (h : Got g t n ok b tw w) (b' : Bool) : Got g t n ok b' tw (w.setCell ⟨g, 3, none⟩ (.bool b')) := heap_setCell_same w g 3 _ 96 (.bool b') h
theorem Got.set4 {g n : Nat} {t : ByteArray} {ok b tw : Bool} {w : World} (h : Got g t n ok b tw w) (b' : Bool) : Got g t n ok b b' (w.setCell ⟨g, 4, none⟩ (.bool b')) := heap_setCell_same w g 4 _ 96 (.bool b') h
theorem Got.set2 {g n : Nat} {t : ByteArray} {ok b tw : Bool} {w : World} (h : Got g t n ok b tw w) (b' : Bool) : Got g t n b' b tw (w.setCell ⟨g, 2, none⟩ (.bool b')) := heap_setCell_same w g 2 _ 96 (.bool b') h
theorem Got.put {g n : Nat} {t : ByteArray} {ok b tw : Bool} {w : World} (h : Got g t n ok b tw w) (t' : ByteArray) (z : Int) (n' : Nat) (hz : z = (n' : Int)) (ok' b' tw' : Bool) :
    Got g t' n' ok' b' tw' (((((w.setCell ⟨g, 0, none⟩ (.string t')).setCell ⟨g, 1, none⟩ (.int .i64 z)).setCell ⟨g, 2, none⟩ (.bool ok')).setCell ⟨g, 3, none⟩ (.bool b')).setCell ⟨g, 4, none⟩ (.bool tw')) :=
  ((((h.set0 t').set1 z n' hz).set2 ok').set3 b').set4 tw'
theorem Got.copyTo {r g n n0 : Nat} {t t0 : ByteArray} {ok b tw ok0 b0 tw0 : Bool} {w : World} (h : Got r t0 n0 ok0 b0 tw0 w) (_ : Got g t n ok b tw w) (z : Int) (hz : z = (n : Int)) :
    Got r t n ok b tw (((((w.setCell ⟨r, 0, none⟩ (.string t)).setCell ⟨r, 1, none⟩ (.int .i64 z)).setCell ⟨r, 2, none⟩ (.bool ok)).setCell ⟨r, 3, none⟩ (.bool b)).setCell ⟨r, 4, none⟩ (.bool tw)) := h.put t z n hz ok b tw
theorem below_put {B g : Nat} {w w' : World} (h : Below B w w') (hg : B ≤ g) (a b c d e : Value) :
    Below B w (((((w'.setCell ⟨g, 0, none⟩ a).setCell ⟨g, 1, none⟩ b).setCell ⟨g, 2, none⟩ c).setCell ⟨g, 3, none⟩ d).setCell ⟨g, 4, none⟩ e) :=
  ((((h.setCell (p := ⟨g, 0, none⟩) hg _).setCell (p := ⟨g, 1, none⟩) hg _).setCell (p := ⟨g, 2, none⟩) hg _).setCell (p := ⟨g, 3, none⟩) hg _).setCell (p := ⟨g, 4, none⟩) hg _
theorem got_ret {fn : Func} (hres : fn.results = #[.cell 4 96]) {tmps : Array Value} {g n : Nat} {t : ByteArray} {ok b tw : Bool} {w : World} (hp : tmps.getD 4 undef = .pointer (some ⟨g, 0, none⟩)) (h : Got g t n ok b tw w) :
    (results fn tmps).run Tryz.prog w = .ok (gotV t n ok b tw) w :=
  results_cell_row hres tmps w g 96 _ (0, 0) _ hp h Tryz.underlying96 rfl (by kernel_rfl)
theorem or_cases : ∀ a b c : Bool, (a || b) = c → a = true ∧ c = true ∨ a = false ∧ b = c := by decide
/-- All cells of a block, for the walk. -/
def Cells5 (g : Nat) (a b c d e : Value) (w : World) : Prop := w.cell? ⟨g, 0, none⟩ = some a ∧ w.cell? ⟨g, 1, none⟩ = some b ∧ w.cell? ⟨g, 2, none⟩ = some c ∧ w.cell? ⟨g, 3, none⟩ = some d ∧ w.cell? ⟨g, 4, none⟩ = some e
theorem Got.cells {g n : Nat} {t : ByteArray} {ok b tw : Bool} {w : World} (h : Got g t n ok b tw w) : Cells5 g (.string t) (.int .i64 (n : Int)) (.bool ok) (.bool b) (.bool tw) w := ⟨h.c0, h.c1, h.c2, h.c3, h.c4⟩
theorem Got.fzs {g n : Nat} {t : ByteArray} {ok b tw : Bool} {w : World} (h : Got g t n ok b tw w) : w.frozen? ⟨g, 0, none⟩ = false ∧ w.frozen? ⟨g, 1, none⟩ = false ∧ w.frozen? ⟨g, 2, none⟩ = false ∧ w.frozen? ⟨g, 3, none⟩ = false ∧ w.frozen? ⟨g, 4, none⟩ = false := ⟨h.fz 0, h.fz 1, h.fz 2, h.fz 3, h.fz 4⟩
theorem strOf_app (a b : List UInt8) : strOf a ++ strOf b = strOf (a ++ b) := by
  apply Go.WideShapes.bytes_inj
  rw [ByteArray.data_append, Array.toList_append, strOf_toList, strOf_toList, strOf_toList]
/-- The model's small readers, at a text. -/
def Small1 (s : ByteArray) : Prop :=
  (∀ (z : Int) (j : Nat) w, z = (j : Int) → Calls Tryz.prog 57 #[.string s, .int .i64 z] w fun e w' => e = .returned (.int .i64 (sk s j)) ∧ w = w') ∧
  (∀ (c j : Nat) w, c ≠ 0 → Calls Tryz.prog 107 #[.string s, .int .i64 j, .int .u8 c] w fun e w' => e = .returned (.bool (decide (bt s j = c))) ∧ w = w')
theorem small1 (s : ByteArray) (hs : s.size ≤ 1048576) : Small1 s := by
  refine ⟨fun z j w hz => ?_, fun c j w hc => ?_⟩
  · subst hz; exact l1Skip_walk s j w hs
  · have h := at_walk s (j : Int) j rfl c w
    have e : atB s j (c : Int) = decide (bt s j = c) := by
      by_cases hlt : j < s.size
      · rw [atB_in hlt, ← bt_at s j hlt]
        by_cases g : bt s j = c
        · rw [g]; simp
        · rw [decide_eq_false g, beq_eq_false_iff_ne]; omega
      · rw [atB_out hlt, bt_out s j (by omega)]
        exact (decide_eq_false (fun g => hc g.symm)).symm
    rw [e] at h
    exact h
end Go.Proofs.YtocnekbedcnmgaaGreatDoor


namespace Go.Proofs.YtocnekbedcnmgaaGreatDoor
open Go.RowKit

/-- The decimal text of a number, as the model writes it. -/
def decF : Nat → Nat → List UInt8
  | 0, _ => []
  | f + 1, n => if n < 10 then [UInt8.ofNat (48 + n)] else decF f (n / 10) ++ [UInt8.ofNat (48 + n % 10)]
def decT (n : Nat) : List UInt8 := decF (n + 1) n
theorem decF_same : ∀ (f g n : Nat), n < f → n < g → decF f n = decF g n
  | 0, _, _, h, _ => by omega
  | _ + 1, 0, _, _, h => by omega
  | f + 1, g + 1, n, hf, hg => by
    rw [decF, decF]
    by_cases h : n < 10
    · rw [if_pos h, if_pos h]
    · rw [if_neg h, if_neg h, decF_same f g (n / 10) (by omega) (by omega)]
theorem decT_lo {n : Nat} (h : n < 10) : decT n = [UInt8.ofNat (48 + n)] := by unfold decT; rw [decF, if_pos h]
theorem decT_hi {n : Nat} (h : ¬ n < 10) : decT n = decT (n / 10) ++ decT (n % 10) := by
  rw [decT_lo (n := n % 10) (by omega)]
  unfold decT
  rw [decF, if_neg h, decF_same n (n / 10 + 1) (n / 10) (by omega) (by omega)]
theorem decT_len : ∀ n : Nat, (decT n).length ≤ n + 1 := fun n => by
  have : ∀ f n, (decF f n).length ≤ f := by
    intro f
    induction f with
    | zero => intro n; simp [decF]
    | succ f ih =>
      intro n
      rw [decF]
      split
      · simp
      · have := ih (n / 10); simp; omega
  exact this (n + 1) n

set_option maxRecDepth 100000 in
set_option maxHeartbeats 1600000 in
theorem dec_walk : ∀ (b n : Nat) (w : World), n ≤ b → n ≤ 1000000000 → Calls Tryz.prog 74 #[.int .i64 (n : Int)] w fun e w' => e = .returned (.string (strOf (decT n))) ∧ Below w.heap.size w w' := by
  intro b
  induction b with
  | zero =>
    intro n w hn _
    obtain rfl : n = 0 := by omega
    have hcv := convert_bytes w (decT 0) #[.int .u8 48] 1 rfl rfl
    generalize decT 0 = u at *
    go_enter Tryz.func74, Tryz.ntmps74
    go_wp2
    go_ret
    exact ⟨rfl, (Below.refl _ _).alloc (Nat.le_refl _) _⟩
  | succ b ih =>
    intro n w hn hm
    by_cases h : n < 10
    · have hcv := convert_bytes w (decT n) #[.int .u8 (48 + (n : Int))] 1 (by rw [decT_lo h]; rfl) (by rw [decT_lo h]; simp [Lib.byteCells]; omega)
      have h1 : (n : Int) < 10 := by omega
      generalize decT n = u at *
      clear ih
      go_enter Tryz.func74, Tryz.ntmps74
      go_wp2
      go_ret
      exact ⟨rfl, (Below.refl _ _).alloc (Nat.le_refl _) _⟩
    · have h1 : ¬ (n : Int) < 10 := by omega
      have hd : (n : Int) / 10 = ((n / 10 : Nat) : Int) := by omega
      have hr : (n : Int) % 10 = ((n % 10 : Nat) : Int) := by omega
      have HA : Hid (∀ w, Calls Tryz.prog 74 #[.int .i64 ((n / 10 : Nat) : Int)] w fun e w' => e = .returned (.string (strOf (decT (n / 10)))) ∧ Below w.heap.size w w') := fun w => ih (n / 10) w (by omega) (by omega)
      have HB : Hid (∀ w, Calls Tryz.prog 74 #[.int .i64 ((n % 10 : Nat) : Int)] w fun e w' => e = .returned (.string (strOf (decT (n % 10)))) ∧ Below w.heap.size w w') := fun w => ih (n % 10) w (by omega) (by omega)
      have HE : Hid (strOf (decT (n / 10)) ++ strOf (decT (n % 10)) = strOf (decT n)) := by show _ = _; rw [strOf_app, ← decT_hi h]
      have z1 : (strOf (decT (n / 10))).size ≤ 1000000001 := by rw [strOf_size]; have := decT_len (n / 10); omega
      have z2 : (strOf (decT (n % 10))).size ≤ 1000000001 := by rw [strOf_size]; have := decT_len (n % 10); omega
      have z3 : (9223372036854775807 < (strOf (decT (n / 10))).size + (strOf (decT (n % 10))).size) = False := eq_false (by omega)
      generalize strOf (decT n) = u at *
      generalize strOf (decT (n / 10)) = u1 at *
      generalize strOf (decT (n % 10)) = u2 at *
      generalize n / 10 = q at *
      generalize n % 10 = r at *
      clear ih h
      go_enter Tryz.func74, Tryz.ntmps74
      go_wp2_with fail
      refine (unhide HA _).mono ?_
      rintro e w1 ⟨rfl, b1⟩
      go_wp2_with fail
      refine (unhide HB _).mono ?_
      rintro e w2 ⟨rfl, b2⟩
      have B2 := below_next b1 b2
      clear HA HB
      go_wp2
      go_ret
      exact ⟨by rw [← unhide HE]; rfl, B2⟩
end Go.Proofs.YtocnekbedcnmgaaGreatDoor


namespace Go.Proofs.YtocnekbedcnmgaaGreatDoor
open Go.RowKit

def idxF : Nat → List (List UInt8) → List (List UInt8 × List UInt8)
  | _, [] => []
  | b, t :: r => (decT b, t) :: idxF (b + 1) r
theorem idxF_snoc : ∀ (a : List (List UInt8)) (b : Nat) (t : List UInt8), idxF b (a ++ [t]) = idxF b a ++ [(decT (b + a.length), t)]
  | [], b, t => rfl
  | x :: r, b, t => by
    simp only [List.cons_append, idxF, idxF_snoc r (b + 1) t, List.length_cons]
    rw [show b + 1 + r.length = b + (r.length + 1) by omega]
theorem idxF_len : ∀ (a : List (List UInt8)) (b : Nat), (idxF b a).length = a.length
  | [], _ => rfl
  | _ :: r, b => by simp [idxF, idxF_len r (b + 1)]
/-- The parts of a value, as the model tells them. -/
def partsV : JV → List (List UInt8 × List UInt8)
  | .arr l => idxF 0 (ctL l)
  | .obj m => isort (ctM m)
  | _ => []
theorem ct_ne : ∀ v : JV, okV v → ct v ≠ []
  | .nul, _ => by simp [ct]
  | .tt, _ => by simp [ct]
  | .ff, _ => by simp [ct]
  | .num l, h => (num_plain h).1
  | .str l, _ => by simp [ct, quoted]
  | .arr l, _ => by simp [ct, mkA]
  | .obj m, _ => by simp [ct, mkO]
theorem ctL_top (T : ByteArray) : ∀ l : JL, okL l → ∀ t ∈ ctL l, TopP T t ∧ t ≠ []
  | .nil, _, t, ht => by simp [ctL] at ht
  | .cons v r, h, t, ht => by
    rw [okL] at h
    rw [ctL] at ht
    rcases List.mem_cons.1 ht with e | ht
    · rw [e]; exact ⟨(ctP v h.1).2, ct_ne v h.1⟩
    · exact ctL_top T r h.2 t ht
theorem ctM_top (T : ByteArray) : ∀ m : JM, okM m → ∀ p ∈ ctM m, TopP T p.2 ∧ p.2 ≠ [] ∧ Lib.validD p.1 = true
  | .nil, _, p, hp => by simp [ctM] at hp
  | .cons k v r, h, p, hp => by
    rw [okM] at h
    rw [ctM] at hp
    rcases List.mem_cons.1 hp with e | hp
    · rw [e]; exact ⟨(ctP v h.2.1).2, ct_ne v h.2.1, h.1⟩
    · exact ctM_top T r h.2.2 p hp
/-- Where part k begins. -/
def pk (cs : List (List UInt8)) (k : Nat) : Nat := 1 + (joinC (cs.take k)).length + (if k = 0 then 0 else 1)
theorem joinT_split : ∀ (cs : List (List UInt8)) (k : Nat), (h : k < cs.length) → joinT cs = joinT (cs.take k) ++ 44 :: (cs[k] ++ joinT (cs.drop (k + 1)))
  | t :: r, 0, _ => by simp [joinT]
  | t :: r, k + 1, h => by
    have := joinT_split r k (by simpa using h)
    simp only [List.take_succ_cons, joinT, List.getElem_cons_succ, List.drop_succ_cons]
    rw [this]; simp
theorem joinC_split (cs : List (List UInt8)) (k : Nat) (h : k < cs.length) : joinC cs = (joinC (cs.take k) ++ (if k = 0 then [] else [44])) ++ (cs[k] ++ joinT (cs.drop (k + 1))) := by
  cases cs with
  | nil => simp at h
  | cons t r =>
    cases k with
    | zero => simp [joinC]
    | succ k =>
      have := joinT_split r k (by simpa using h)
      simp only [joinC, List.take_succ_cons, List.getElem_cons_succ, List.drop_succ_cons]
      rw [this]
      simp
theorem stops_tail (cs : List (List UInt8)) (c : UInt8) (hc : c.toNat = 93 ∨ c.toNat = 125) : Stops (joinT cs ++ [c]) := by
  cases cs with
  | nil => exact .inr ⟨c, [], rfl, .inr hc⟩
  | cons t r => exact .inr ⟨44, _, rfl, .inl rfl⟩
theorem drop_pk {T : ByteArray} {cs : List (List UInt8)} {a c : UInt8} (hT : T.data.toList = a :: (joinC cs ++ [c])) (k : Nat) (h : k < cs.length) : T.data.toList.drop (pk cs k) = cs[k] ++ (joinT (cs.drop (k + 1)) ++ [c]) := by
  have e : T.data.toList = (a :: (joinC (cs.take k) ++ (if k = 0 then [] else [44]))) ++ (cs[k] ++ (joinT (cs.drop (k + 1)) ++ [c])) := by
    rw [hT, joinC_split cs k h]; simp
  have hl : (a :: (joinC (cs.take k) ++ (if k = 0 then [] else [44]))).length = pk cs k := by
    unfold pk
    split <;> simp <;> omega
  rw [e, ← hl, List.drop_left]
theorem pk_next (cs : List (List UInt8)) (k : Nat) (h : k < cs.length) : pk cs (k + 1) = pk cs k + cs[k].length + 1 := by
  have e : (joinC (cs.take (k + 1))).length = (joinC (cs.take k)).length + (if k = 0 then 0 else 1) + cs[k].length := by
    rw [List.take_succ_eq_append_getElem h, joinC_snoc]
    by_cases hk : k = 0
    · subst hk; simp [joinC]
    · have hne : cs.take k ≠ [] := by intro e; have := congrArg List.length e; rw [List.length_take, List.length_nil] at this; omega
      rw [if_neg hne, if_neg hk]
      simp; omega
  unfold pk
  rw [e, if_neg (Nat.succ_ne_zero k)]
  omega
theorem pk_in {T : ByteArray} {cs : List (List UInt8)} {a c : UInt8} (hT : T.data.toList = a :: (joinC cs ++ [c])) (k : Nat) (h : k < cs.length) : pk cs k + cs[k].length + 1 ≤ T.size := by
  have h1 := congrArg List.length (drop_pk hT k h)
  rw [List.length_drop, data_len] at h1
  simp at h1
  by_cases hle : pk cs k ≤ T.size
  · omega
  · omega
theorem pk_end {T : ByteArray} {cs : List (List UInt8)} {a c : UInt8} (hT : T.data.toList = a :: (joinC cs ++ [c])) : T.size ≤ pk cs cs.length + 1 := by
  have h1 := congrArg List.length hT
  rw [data_len] at h1
  simp at h1
  unfold pk
  rw [List.take_of_length_le (Nat.le_refl _)]
  omega
theorem cut_pk {T : ByteArray} {i : Nat} {t m : List UInt8} (h : T.data.toList.drop i = t ++ m) : T.extract i (i + t.length) = strOf t := by
  rw [strOf_cut]
  unfold cutB
  rw [h, Nat.add_sub_cancel_left]
  simp
end Go.Proofs.YtocnekbedcnmgaaGreatDoor


namespace Go.Proofs.YtocnekbedcnmgaaGreatDoor
open Go.RowKit

/-- What digits stand for. -/
def digV (l : List UInt8) : Nat := l.foldl (fun v c => v * 10 + (c.toNat - 48)) 0
theorem digV_snoc (l : List UInt8) (c : UInt8) : digV (l ++ [c]) = digV l * 10 + (c.toNat - 48) := by unfold digV; rw [List.foldl_append]; rfl
def idxOk (t : List UInt8) : Bool := decide (1 ≤ t.length) && decide (t.length ≤ 6) && !(decide ((t.getD 0 0).toNat = 48) && decide (1 < t.length)) && t.all fun c => isDg c.toNat
/-- The index that a token is. -/
def idxT (t : List UInt8) : Option Nat := if idxOk t = true then some (digV t) else none
theorem idxOk_iff {t : List UInt8} : idxOk t = true ↔ 1 ≤ t.length ∧ t.length ≤ 6 ∧ ¬ ((t.getD 0 0).toNat = 48 ∧ 1 < t.length) ∧ ∀ c ∈ t, isDg c.toNat = true := by
  unfold idxOk
  simp only [Bool.and_eq_true, decide_eq_true_eq, Bool.not_eq_true', Bool.and_eq_false_iff, decide_eq_false_iff_not, List.all_eq_true]
  constructor
  · rintro ⟨⟨⟨a, b⟩, c⟩, d⟩
    exact ⟨a, b, fun ⟨x, y⟩ => c.elim (fun h => h x) (fun h => h y), d⟩
  · rintro ⟨a, b, c, d⟩
    refine ⟨⟨⟨a, b⟩, ?_⟩, d⟩
    by_cases h : (t.getD 0 0).toNat = 48
    · exact .inr fun y => c ⟨h, y⟩
    · exact .inl h
theorem digV_pos : ∀ (n : Nat) (t : List UInt8), t.length = n → t ≠ [] → (t.getD 0 0).toNat ≠ 48 → (∀ c ∈ t, isDg c.toNat = true) → 1 ≤ digV t := by
  intro n
  induction n with
  | zero => intro t h hn; exact absurd (List.eq_nil_of_length_eq_zero h) hn
  | succ n ih =>
    intro t h _ h0 hd
    rcases List.eq_nil_or_concat t with e | ⟨a, c, e⟩
    · subst e; simp at h
    · rw [List.concat_eq_append] at e
      subst e
      rw [digV_snoc]
      have hc := isDg_iff.1 (hd c (by simp))
      by_cases ha : a = []
      · subst ha
        have h0' : c.toNat ≠ 48 := h0
        simp [digV]; omega
      · have h1 : (a.getD 0 0).toNat ≠ 48 := by
          cases a with
          | nil => exact absurd rfl ha
          | cons x r => exact h0
        have := ih a (by simpa using h) ha h1 (fun x hx => hd x (by simp [hx]))
        omega
theorem dec_dig : ∀ (n : Nat) (t : List UInt8), t.length = n → t ≠ [] → ¬ ((t.getD 0 0).toNat = 48 ∧ 1 < t.length) → (∀ c ∈ t, isDg c.toNat = true) → decT (digV t) = t := by
  intro n
  induction n with
  | zero => intro t h hn; exact absurd (List.eq_nil_of_length_eq_zero h) hn
  | succ n ih =>
    intro t h _ h0 hd
    rcases List.eq_nil_or_concat t with e | ⟨a, c, e⟩
    · subst e; simp at h
    · rw [List.concat_eq_append] at e
      subst e
      have hc := isDg_iff.1 (hd c (by simp))
      have ec : UInt8.ofNat (48 + (c.toNat - 48)) = c := by rw [show 48 + (c.toNat - 48) = c.toNat by omega]; exact UInt8.ofNat_toNat
      rw [digV_snoc]
      by_cases ha : a = []
      · subst ha
        simp only [digV, List.foldl_nil, Nat.zero_mul, Nat.zero_add, List.nil_append]
        rw [decT_lo (by omega), ec]
      · have hal : 1 ≤ a.length := by cases a with
          | nil => exact absurd rfl ha
          | cons _ _ => simp
        have h1 : (a.getD 0 0).toNat ≠ 48 := by
          intro e
          refine h0 ⟨?_, by simp; omega⟩
          cases a with
          | nil => exact absurd rfl ha
          | cons x r => exact e
        have hda : ∀ x ∈ a, isDg x.toNat = true := fun x hx => hd x (by simp [hx])
        have hp := digV_pos _ a rfl ha h1 hda
        rw [decT_hi (by omega), show (digV a * 10 + (c.toNat - 48)) / 10 = digV a by omega, show (digV a * 10 + (c.toNat - 48)) % 10 = c.toNat - 48 by omega, decT_lo (n := c.toNat - 48) (by omega), ec]
        rw [ih a (by simpa using h) ha (fun e => h1 e.1) hda]
theorem idxT_dec {t : List UInt8} {i : Nat} (h : idxT t = some i) : decT i = t := by
  unfold idxT at h
  split at h
  · rename_i hk
    injection h with h
    subst h
    obtain ⟨a, b, c, d⟩ := idxOk_iff.1 hk
    exact dec_dig _ t rfl (by intro e; subst e; simp at a) c d
  · cases h
theorem dec_form : ∀ (n : Nat), decT n ≠ [] ∧ (∀ c ∈ decT n, isDg c.toNat = true) ∧ digV (decT n) = n ∧ ¬ (((decT n).getD 0 0).toNat = 48 ∧ 1 < (decT n).length) := by
  intro n
  induction n using Nat.strongRecOn with
  | _ n ih =>
    by_cases h : n < 10
    · rw [decT_lo h]
      have e : (UInt8.ofNat (48 + n)).toNat = 48 + n := ofNat_lt (by omega)
      refine ⟨by simp, fun c hc => ?_, ?_, by simp⟩
      · rw [List.mem_singleton] at hc; subst hc; rw [e]; exact isDg_iff.2 ⟨by omega, by omega⟩
      · simp only [digV, List.foldl_cons, List.foldl_nil, Nat.zero_mul, Nat.zero_add]; rw [e]; omega
    · obtain ⟨a1, a2, a3, a4⟩ := ih (n / 10) (by omega)
      rw [decT_hi h, decT_lo (n := n % 10) (by omega)]
      have e : (UInt8.ofNat (48 + n % 10)).toNat = 48 + n % 10 := ofNat_lt (by omega)
      refine ⟨by simp, fun c hc => ?_, ?_, ?_⟩
      · rcases List.mem_append.1 hc with hc | hc
        · exact a2 c hc
        · rw [List.mem_singleton] at hc; subst hc; rw [e]; exact isDg_iff.2 ⟨by omega, by omega⟩
      · rw [digV_snoc, a3, e]; omega
      · rintro ⟨b1, _⟩
        have hh : ((decT (n / 10) ++ [UInt8.ofNat (48 + n % 10)]).getD 0 0) = (decT (n / 10)).getD 0 0 := by
          cases hd : decT (n / 10) with
          | nil => exact absurd hd a1
          | cons x r => rfl
        rw [hh] at b1
        by_cases h10 : n / 10 < 10
        · rw [decT_lo h10] at b1
          have e2 : (UInt8.ofNat (48 + n / 10)).toNat = 48 + n / 10 := ofNat_lt (by omega)
          have : ([UInt8.ofNat (48 + n / 10)].getD 0 0).toNat = 48 + n / 10 := e2
          rw [this] at b1
          omega
        · refine a4 ⟨b1, ?_⟩
          rw [decT_hi h10, List.length_append]
          have q1 := (ih (n / 10 / 10) (by omega)).1
          have q2 : 1 ≤ (decT (n / 10 / 10)).length := by cases hq : decT (n / 10 / 10) with
            | nil => exact absurd hq q1
            | cons _ _ => simp
          rw [decT_lo (n := n / 10 % 10) (by omega)]
          simp; omega
theorem decT_inj {a b : Nat} (h : decT a = decT b) : a = b := by
  have h1 := (dec_form a).2.2.1
  have h2 := (dec_form b).2.2.1
  rw [h, h2] at h1
  exact h1.symm
/-- The value that a token leads to. -/
def childV : JV → List UInt8 → Option JV
  | .arr l, t => (idxT t).bind fun i => l.toL[i]?
  | .obj m, t => (m.toL.find? fun q => q.1 == t).map (·.2)
  | _, _ => none
def getV : JV → List (List UInt8) → Option JV
  | v, [] => some v
  | v, t :: ts => (childV v t).bind fun u => getV u ts
end Go.Proofs.YtocnekbedcnmgaaGreatDoor


namespace Go.Proofs.YtocnekbedcnmgaaGreatDoor
open Go.RowKit

theorem tokD (s : ByteArray) (k : Nat) (h : k < s.size) : s.data.toList[k]'(by rw [data_len]; exact h) = s[k] := rfl
theorem dig_lt : ∀ (n : Nat) (t : List UInt8), t.length = n → digV t < 10 ^ n ∨ ¬ (∀ c ∈ t, isDg c.toNat = true) := by
  intro n
  induction n with
  | zero => intro t h; rw [List.eq_nil_of_length_eq_zero h]; exact .inl (by simp [digV])
  | succ n ih =>
    intro t h
    rcases List.eq_nil_or_concat t with e | ⟨a, c, e⟩
    · subst e; simp at h
    · rw [List.concat_eq_append] at e
      subst e
      by_cases hd : ∀ x ∈ a ++ [c], isDg x.toNat = true
      · left
        have hc := isDg_iff.1 (hd c (by simp))
        rcases ih a (by simpa using h) with h1 | h1
        · rw [digV_snoc, Nat.pow_succ]; omega
        · exact absurd (fun x hx => hd x (by simp [hx])) h1
      · exact .inr hd

end Go.Proofs.YtocnekbedcnmgaaGreatDoor


namespace Go.Proofs.YtocnekbedcnmgaaGreatDoor
open Go.RowKit

theorem childV_arr (l : JL) (t : List UInt8) : childV (.arr l) t = (idxT t).bind fun i => l.toL[i]? := rfl
theorem childV_obj (m : JM) (t : List UInt8) : childV (.obj m) t = (m.toL.find? fun q => q.1 == t).map (·.2) := rfl
theorem okL_at : ∀ (l : JL), okL l → twL l = false → ∀ v ∈ l.toL, okV v ∧ twV v = false
  | .nil, _, _, v, hv => by simp [JL.toL] at hv
  | .cons x r, h, t, v, hv => by
    rw [okL] at h
    rw [twL, Bool.or_eq_false_iff] at t
    rw [JL.toL] at hv
    rcases List.mem_cons.1 hv with e | hv
    · rw [e]; exact ⟨h.1, t.1⟩
    · exact okL_at r h.2 t.2 v hv
theorem okM_at : ∀ (m : JM) (ks : List (List UInt8)), okM m → twM ks m = false → ∀ q ∈ m.toL, okV q.2 ∧ twV q.2 = false
  | .nil, _, _, _, q, hq => by simp [JM.toL] at hq
  | .cons k x r, ks, h, t, q, hq => by
    rw [okM] at h
    rw [twM] at t
    simp only [Bool.or_eq_false_iff] at t
    rw [JM.toL] at hq
    rcases List.mem_cons.1 hq with e | hq
    · rw [e]; exact ⟨h.2.1, t.1.1⟩
    · exact okM_at r (ks ++ [k]) h.2.2 t.2 q hq
/-- A part of a tree is as good as the tree, and no longer. -/
theorem childV_ok {v u : JV} {t : List UInt8} (h : childV v t = some u) (hok : okV v) (htw : twV v = false) : okV u ∧ twV u = false ∧ (ct u).length ≤ (ct v).length ∧ cntV u ≤ cntV v := by
  cases v with
  | arr l =>
    rw [okV] at hok
    rw [twV] at htw
    rw [childV_arr] at h
    cases hi : idxT t with
    | none => rw [hi] at h; simp at h
    | some i =>
      rw [hi] at h
      simp only [Option.bind_some] at h
      obtain ⟨hl, rfl⟩ := List.getElem?_eq_some_iff.1 h
      have hm := List.getElem_mem hl
      obtain ⟨a, b⟩ := okL_at l hok htw _ hm
      refine ⟨a, b, ?_, ?_⟩
      · have hct : (ct (.arr l)).length = hold (ctL l).length + nl (ctL l) := by
          show (mkA (ctL l)).length = _
          have := joinC_nl (ctL l)
          simp [mkA]; omega
        have n1 : (ct l.toL[i]).length ≤ nl (ctL l) := by have := sum_at ((ctL l).map List.length) i (by rw [ctL_map]; simpa using hl); simpa [nl, ctL_map] using this
        omega
      · rw [cntV, cntL_cl]
        have := sum_at (l.toL.map cntV) i (by simpa using hl)
        have c1 : cntV l.toL[i] ≤ cl l.toL := by simpa [cl] using this
        omega
  | obj m =>
    rw [okV] at hok
    rw [twV] at htw
    rw [childV_obj] at h
    cases hf : m.toL.find? fun q => q.1 == t with
    | none => rw [hf] at h; simp at h
    | some q =>
      rw [hf] at h
      simp at h
      subst h
      have hm := List.mem_of_find?_eq_some hf
      obtain ⟨a, b⟩ := okM_at m [] hok htw _ hm
      refine ⟨a, b, ?_, ?_⟩
      · have hct := ctObj_len m
        have n1 := sumf_at memN hm
        simp only [memN] at n1
        omega
      · rw [cntV, cntM_sum]
        have : cntV q.2 ≤ _ := sumf_at (fun q => cntV q.2) hm
        omega
  | nul => simp [childV] at h
  | tt => simp [childV] at h
  | ff => simp [childV] at h
  | num l => simp [childV] at h
  | str l => simp [childV] at h
theorem idxF_at : ∀ (cs : List (List UInt8)) (b j : Nat) (h : j < (idxF b cs).length), (idxF b cs)[j] = (decT (b + j), cs[j]'(by rw [idxF_len] at h; exact h))
  | [], b, j, h => by simp [idxF] at h
  | t :: r, b, 0, h => rfl
  | t :: r, b, j + 1, h => by
    simp only [idxF, List.getElem_cons_succ]
    rw [idxF_at r (b + 1) j]
    rw [show b + 1 + j = b + (j + 1) by omega]
/-- What is found among the parts is the part that the token leads to. -/
theorem child_found {v : JV} {t : List UInt8} (hok : okV v) (htw : twV v = false) (hi : (∃ l, v = .arr l) → (idxT t).isSome = true) {j : Nat} (hj : j < (partsV v).length) (hk : (partsV v)[j].1 = t) : ∃ u, childV v t = some u ∧ (partsV v)[j].2 = ct u := by
  cases v with
  | arr l =>
    have hp : partsV (.arr l) = idxF 0 (ctL l) := rfl
    have hs := hi ⟨l, rfl⟩
    cases hx : idxT t with
    | none => rw [hx] at hs; simp at hs
    | some i =>
      have e1 := idxF_at (ctL l) 0 j hj
      have e2 : (partsV (.arr l))[j] = (decT (0 + j), (ctL l)[j]'(by rw [hp, idxF_len] at hj; exact hj)) := e1
      rw [e2] at hk ⊢
      simp only [Nat.zero_add] at hk ⊢
      have : j = i := decT_inj (hk.trans (idxT_dec hx).symm)
      subst this
      have hl : j < l.toL.length := by rw [hp, idxF_len, ctL_map, List.length_map] at hj; exact hj
      refine ⟨l.toL[j], ?_, ?_⟩
      · rw [childV_arr, hx]; simp [hl]
      · simp [ctL_map]
  | obj m =>
    have hm : (partsV (.obj m))[j] ∈ ctM m := (isort_perm _).subset (List.getElem_mem hj)
    generalize (partsV (.obj m))[j] = p at *
    rw [ctM_map] at hm
    obtain ⟨q, hq, rfl⟩ := List.mem_map.1 hm
    simp only at hk
    rw [twV] at htw
    have hnd : (m.toL.map (·.1)).Nodup := by rw [← keysM_map]; exact (twM_nodup m [] htw).1
    refine ⟨q.2, ?_, rfl⟩
    rw [childV_obj]
    have hf : m.toL.find? (fun q => q.1 == t) = some q := by
      have : ∀ l : List (List UInt8 × JV), (l.map (·.1)).Nodup → q ∈ l → l.find? (fun q => q.1 == t) = some q := by
        intro l
        induction l with
        | nil => intro _ h; simp at h
        | cons x r ih =>
          intro hn hin
          rw [List.map_cons, List.nodup_cons] at hn
          rw [List.find?_cons]
          rcases List.mem_cons.1 hin with e | hin
          · subst e; simp [hk]
          · have hne : (x.1 == t) = false := by
              rw [beq_eq_false_iff_ne]
              intro e
              exact hn.1 (by rw [e, ← hk]; exact List.mem_map.2 ⟨q, hin, rfl⟩)
            rw [hne]
            exact ih hn.2 hin
      exact this m.toL hnd hq
    rw [hf]; rfl
  | nul => simp [partsV] at hj
  | tt => simp [partsV] at hj
  | ff => simp [partsV] at hj
  | num l => simp [partsV] at hj
  | str l => simp [partsV] at hj
theorem child_missed {v : JV} {t : List UInt8} (h : ∀ j (hj : j < (partsV v).length), (partsV v)[j].1 ≠ t) : childV v t = none := by
  cases v with
  | arr l =>
    rw [childV_arr]
    cases hx : idxT t with
    | none => rfl
    | some i =>
      simp only [Option.bind_some]
      by_cases hl : i < l.toL.length
      · exfalso
        have hj : i < (partsV (.arr l)).length := by show i < (idxF 0 (ctL l)).length; rw [idxF_len, ctL_map, List.length_map]; exact hl
        refine h i hj ?_
        have e1 : (partsV (.arr l))[i] = _ := idxF_at (ctL l) 0 i hj
        rw [e1]
        simp only [Nat.zero_add]
        exact idxT_dec hx
      · rw [List.getElem?_eq_none (by omega)]
  | obj m =>
    rw [childV_obj]
    have hf : m.toL.find? (fun q => q.1 == t) = none := by
      rw [List.find?_eq_none]
      intro q hq e
      have hm : (q.1, ct q.2) ∈ ctM m := by rw [ctM_map]; exact List.mem_map.2 ⟨q, hq, rfl⟩
      have hp : (q.1, ct q.2) ∈ partsV (.obj m) := (isort_perm _).mem_iff.2 hm
      obtain ⟨j, hj, he⟩ := List.getElem_of_mem hp
      refine h j hj ?_
      rw [he]
      simpa using e
    rw [hf]; rfl
  | nul => rfl
  | tt => rfl
  | ff => rfl
  | num l => rfl
  | str l => rfl
end Go.Proofs.YtocnekbedcnmgaaGreatDoor


namespace Go.Proofs.YtocnekbedcnmgaaGreatDoor
open Go.RowKit

abbrev Part := List UInt8 × List UInt8
def partC (p : Part) : List Value := [.string (strOf p.1), .string (strOf p.2)]
/-- A row of parts that the call owns. -/
def PR (w : World) (B : Nat) (v : Value) (ps : List Part) : Prop := w.ownsRow B 63 2 v ps.length (ps.flatMap partC)
theorem part_at (ps : List Part) (j : Nat) (h : j < ps.length) : (ps.flatMap partC)[j * 2]? = some (.string (strOf ps[j].1)) ∧ (ps.flatMap partC)[j * 2 + 1]? = some (.string (strOf ps[j].2)) := by
  induction ps generalizing j with
  | nil => simp at h
  | cons p r ih =>
    cases j with
    | zero => exact ⟨rfl, rfl⟩
    | succ j =>
      have := ih j (by simpa using h)
      rw [List.flatMap_cons, show (j + 1) * 2 = j * 2 + 2 from by omega]
      exact this
theorem PR.cells {w : World} {B : Nat} {v : Value} {ps : List Part} (h : PR w B v ps) (j : Nat) (hj : j < ps.length) :
    ∃ g cap, v = .slice (some ⟨g, 0, none⟩) ps.length cap ∧ B ≤ g ∧ g < w.heap.size ∧ w.cell? ⟨g, j * 2, none⟩ = some (.string (strOf ps[j].1)) ∧ w.cell? ⟨g, j * 2 + 1, none⟩ = some (.string (strOf ps[j].2)) := by
  obtain ⟨hl, h0 | ⟨g, cap, cur, hv, hB, hg, hn, hc, hsz, ht⟩⟩ := h
  · omega
  · have hc0 := part_at ps j hj
    refine ⟨g, cap, hv, hB, (Array.getElem?_eq_some_iff.1 hg).1, ?_, ?_⟩
    · rw [Lib.cell_of_heap hg, ← Array.getElem?_toList, ← hc0.1, ← ht, List.getElem?_take_of_lt (by omega)]
    · rw [Lib.cell_of_heap hg, ← Array.getElem?_toList, ← hc0.2, ← ht, List.getElem?_take_of_lt (by omega)]
theorem PR.below {w w' : World} {B : Nat} {v : Value} {ps : List Part} (h : PR w B v ps) (hb : Below w.heap.size w w') : PR w' B v ps := own_below h hb
theorem PR.mono {w : World} {B B' : Nat} {v : Value} {ps : List Part} (h : PR w B v ps) (hB : B' ≤ B) : PR w B' v ps := own_mono h hB
/-- Whether a key is among those of the parts. -/
def hasK (ps : List Part) (key : List UInt8) : Bool := (ps.map (·.1)).contains key
theorem str_eq (a b : List UInt8) : ((strOf a).toList == (strOf b).toList) = (a == b) := by
  rw [ByteArray.toList_eq, ByteArray.toList_eq, strOf_toList, strOf_toList]

set_option maxHeartbeats 800000 in
theorem find_walk (B : Nat) (v : Value) (ps : List Part) (key : List UInt8) (w : World) (h : PR w B v ps) (hn : ps.length ≤ 40000000) :
    Calls Tryz.prog 81 #[v, .string (strOf key)] w fun e w' => ∃ z : Int, e = .returned (.int .i64 z) ∧ decide ((0 : Int) ≤ z) = hasK ps key ∧ w = w' := by
  obtain ⟨x, len, cap, rfl, hlen⟩ : ∃ x len cap, v = .slice x len cap ∧ len = ps.length := by
    rcases h.2 with ⟨hv, h0⟩ | ⟨g, cap, cur, hv, _⟩
    · exact ⟨_, _, _, hv, h0.symm⟩
    · exact ⟨_, _, _, hv, rfl⟩
  subst hlen
  have HP := hide h
  clear h
  go_enter Tryz.func81, Tryz.ntmps81
  go_wp2_with fail
  go_loopw [5] (fun k wr => w = wr ∧ ∃ j : Nat, k = .int .i64 (j : Int) ∧ j ≤ ps.length ∧ ((ps.take j).map (·.1)).contains key = false) (fun k _ => ps.length - (intOf k).toNat)
  case atStart => exact ⟨rfl, 0, rfl, Nat.zero_le _, by simp⟩
  case round =>
    obtain ⟨rfl, j, rfl, hj, hno⟩ := hrel
    have HNO := hide hno
    clear hno
    by_cases hin : j < ps.length
    · have t1 : ((j : Int) < (ps.length : Int)) = True := eq_true (by omega)
      obtain ⟨g, cap', he, hB, hgl, c0, c1⟩ := (unhide HP).cells j hin
      injection he with he1 he2 he3
      subst he1; subst he3
      have heq := str_eq ps[j].1 key
      by_cases hk : ps[j].1 = key
      · have t2 : (ps[j].1 == key) = true := by rw [beq_iff_eq]; exact hk
        have HY : Hid (hasK ps key = true) := by
          show _ = _
          unfold hasK
          rw [List.contains_iff_mem]
          exact List.mem_map.2 ⟨ps[j], List.getElem_mem _, hk⟩
        rw [t2] at heq
        clear hk t2
        go_wp2
        go_ret
        exact ⟨_, rfl, by rw [unhide HY]; exact decide_eq_true (by omega), rfl⟩
      · have t2 : (ps[j].1 == key) = false := by rw [beq_eq_false_iff_ne]; exact hk
        have HX : Hid (((ps.take (j + 1)).map (·.1)).contains key = false) := by
          show _ = _
          have := unhide HNO
          rw [List.take_succ_eq_append_getElem hin, List.map_append, List.contains_append, this]
          simp; exact fun e => hk e.symm
        rw [t2] at heq
        clear hk t2
        go_wp2
        go_roundw
        case rel => exact ⟨trivial, j + 1, by go_num, by omega, unhide HX⟩
        case measure => simp [intOf]; omega
    · have t1 : ((j : Int) < (ps.length : Int)) = False := eq_false (by omega)
      have HY : Hid (hasK ps key = false) := by
        show _ = _
        unfold hasK
        have := unhide HNO
        rwa [List.take_of_length_le (by omega)] at this
      go_wp2
      go_ret
      exact ⟨_, rfl, by rw [unhide HY]; rfl, rfl⟩
end Go.Proofs.YtocnekbedcnmgaaGreatDoor


namespace Go.Proofs.YtocnekbedcnmgaaGreatDoor
open Go.RowKit

set_option maxRecDepth 100000 in
set_option maxHeartbeats 4000000 in
theorem arr_walk (s : ByteArray) (i : Nat) (w : World) (hs : s.size ≤ 1048576) (hi : i < s.size) (h91 : bt s i = 91)
    (IH : ∀ (j : Nat) (w : World), i < j → j ≤ s.size → Calls Tryz.prog 56 #[.string s, .int .i64 j] w (GP w (val s j))) :
    Calls Tryz.prog 108 #[.string s, .int .i64 i] w (GP w (val s i)) := by
  have HSM := hide (small1 s hs)
  have g0 := sk_ge s (i + 1)
  have g1 := (sk_le (s := s) (i := i + 1) (by omega)).2
  have HV := hide (val_arr h91)
  have HIH := hide IH
  clear IH
  generalize hk0 : sk s (i + 1) = k0 at *
  go_enter Tryz.func108, Tryz.ntmps108
  go_wp2_with fail
  refine ((unhide HSM).1 _ (i + 1) _ (by omega)).mono ?_
  rintro e w1 ⟨rfl, rfl⟩
  rw [hk0]
  go_wp2_with fail
  refine ((unhide HSM).2 93 k0 _ (by decide)).mono ?_
  rintro e w1 ⟨rfl, rfl⟩
  clear hk0
  by_cases h93 : bt s k0 = 93
  · rw [decide_eq_true h93]
    have HR : Hid (val s i = some (.arr .nil, k0 + 1)) := by show _ = _; rw [unhide HV, if_pos h93]
    clear h93 HV
    go_wp2
    go_returns
    rw [unhide HR]
    exact ⟨(alloc_below w _).trans ((Below.refl _ _).alloc (by simp) _), rfl⟩
  · rw [decide_eq_false h93]
    have HR : Hid (val s i = (elems s k0).map fun q => (.arr q.1, q.2)) := by show _ = _; rw [unhide HV, if_neg h93]
    clear h93 HV h91
    go_wp2_with fail
    go_loopg [1] (s.size + 1 - k0) (fun g k wr => ∃ (j : Nat) (acc : JL), g = s.size + 1 - j ∧ k = .int .i64 (j : Int) ∧ k0 ≤ j ∧ j ≤ s.size ∧ Got w.heap.size ⟨#[]⟩ 0 false false false wr ∧ Got (w.heap.size + 1) (strOf (91 :: preA acc)) 0 true (bigL acc) (twL acc) wr ∧ Below w.heap.size w wr ∧ (preA acc).length ≤ 31 * j ∧ elems s k0 = (elems s j).map fun q => (acc.app q.1, q.2))
    case atStart =>
      refine ⟨k0, .nil, rfl, rfl, Nat.le_refl _, g1, ?_, ?_, (alloc_below w _).trans ((Below.refl _ _).alloc (by simp) _), by simp [preA], by simp [JL.app]⟩
      · show (World.alloc _ _).heap[_]? = _
        rw [Lib.alloc_old _ _ _ (by simp)]; exact heap_alloc_new w _
      · have := heap_alloc_new (w.alloc (gotB ⟨#[]⟩ 0 false false false)) (gotB (strOf [91]) 0 true false false)
        rw [show (w.alloc (gotB ⟨#[]⟩ 0 false false false)).heap.size = w.heap.size + 1 from by simp] at this
        exact this
    case round =>
      obtain ⟨j, acc, hg, rfl, hj1, hj2, hr, hgot, hb, hpl, hst⟩ := hrel
      have HST := hide hst
      have HG := hide hgot
      have HRR := hide hr
      have HB := hide hb
      have hwsz := hb.size
      have hgl := hgot.lt
      clear hst hgot hr hb
      have HC := hide (unhide HIH j wr (by omega) (by omega))
      cases hv : val s j with
      | none =>
        have HN : Hid (val s i = none) := by
          show _ = _
          rw [unhide HR, unhide HST, elems_eq, hv]; rfl
        rw [hv] at HC
        clear hv
        go_wp2_with fail
        refine (unhide HC).mono ?_
        rintro e w2 ⟨b2, t, n, bb, tw, rfl⟩
        have R2 := (unhide HRR).below b2
        have B2 := below_next (unhide HB) b2
        have R3 := R2.alloc (gotB t n false bb tw)
        have B3 : Below w.heap.size w (w2.alloc (gotB t n false bb tw)) := B2.alloc (by have := b2.size; omega) _
        have c0 := R3.c0
        have c1 := R3.c1
        have c2 := R3.c2
        have c3 := R3.c3
        have c4 := R3.c4
        have f0 := R3.fz 0
        have f1 := R3.fz 1
        have f2 := R3.fz 2
        have f3 := R3.fz 3
        have f4 := R3.fz 4
        have RX := hide (R3.put ⟨#[]⟩ 0 0 rfl false false false)
        have BX := hide (below_put B3 (Nat.le_refl _) (.string ⟨#[]⟩) (.int .i64 0) (.bool false) (.bool false) (.bool false))
        clear HC HRR R2 R3 B2 B3
        simp only [gotV]
        go_wp2
        try simp only [Exit.inBlock, Exit.then]
        refine bodyPost_ret (got_ret rfl rfl (unhide RX)) rfl ?_
        exact GP.bad (unhide HN) (unhide BX)
      | some q =>
        obtain ⟨v, n⟩ := q
        have hvo := val_ok hv
        have hvl := val_len hv
        have HPL : Hid ((preA (acc.app (.cons v .nil))).length ≤ 31 * n) := by
          show _ ≤ _
          rw [preA_snoc]; simp only [List.length_append, List.length_cons, List.length_nil]; omega
        have z1 : (strOf (91 :: preA acc)).size ≤ 40000000 := by rw [strOf_size]; simp only [List.length_cons]; omega
        have z2 : (strOf (ct v)).size ≤ 40000000 := by rw [strOf_size]; omega
        have z3 : (strOf (91 :: (preA acc ++ ct v))).size ≤ 80000000 := by rw [strOf_size]; simp only [List.length_cons, List.length_append]; omega
        have hn1 := sk_ge s n
        have hn2 := (sk_le hvo.2).2
        have HEQ : Hid (elems s k0 = (if bt s (sk s n) = 93 then some (JL.cons v .nil, sk s n + 1) else if bt s (sk s n) = 44 then (elems s (sk s (sk s n + 1))).map fun r => (JL.cons v r.1, r.2) else none).map fun q => (acc.app q.1, q.2)) := by
          show _ = _
          rw [unhide HST, elems_eq, hv]; rfl
        rw [hv] at HC
        clear hv HST
        have hcat1 : strOf (91 :: preA acc) ++ strOf (ct v) = strOf (91 :: (preA acc ++ ct v)) := strOf_app _ _
        have HFI : Hid (strOf (91 :: (preA acc ++ ct v)) ++ ⟨#[93]⟩ = strOf (ct (.arr (acc.app (.cons v .nil))))) := by
          show _ = _
          rw [show (⟨#[93]⟩ : ByteArray) = strOf [93] from rfl, strOf_app, ct, mkA, ← joinC_pre]; simp
        have HCO : Hid (strOf (91 :: (preA acc ++ ct v)) ++ ⟨#[44]⟩ = strOf (91 :: preA (acc.app (.cons v .nil)))) := by
          show _ = _
          rw [show (⟨#[44]⟩ : ByteArray) = strOf [44] from rfl, strOf_app, preA_snoc]; simp
        have HBB : Hid (bigL (acc.app (.cons v .nil)) = (bigL acc || bigV v)) := by show _ = _; rw [bigL_app]; simp [bigL]
        have HTT : Hid (twL (acc.app (.cons v .nil)) = (twL acc || twV v)) := by show _ = _; rw [twL_app]; simp [twL]
        go_wp2_with fail
        refine (unhide HC).mono ?_
        rintro e w2 ⟨b2, rfl⟩
        simp only [gotV]
        have R3 := hide (((unhide HRR).below b2).alloc (gotB (strOf (ct v)) n true (bigV v) (twV v)))
        have G3 := ((unhide HG).below b2).alloc (gotB (strOf (ct v)) n true (bigV v) (twV v))
        have V3 : Got w2.heap.size (strOf (ct v)) n true (bigV v) (twV v) (w2.alloc (gotB (strOf (ct v)) n true (bigV v) (twV v))) := heap_alloc_new w2 _
        have B3 : Hid (Below w.heap.size w (w2.alloc (gotB (strOf (ct v)) n true (bigV v) (twV v)))) := (below_next (unhide HB) b2).alloc (by have := b2.size; omega) _
        have hw2 := b2.size
        clear HC HRR HG HB b2
        simp only [gotB] at G3 V3 R3 B3
        generalize bigL acc = ba at *
        generalize twL acc = ta at *
        generalize bigV v = bv at *
        generalize twV v = tv at *
        generalize strOf (91 :: preA acc) = sa at *
        generalize strOf (91 :: (preA acc ++ ct v)) = sb at *
        generalize strOf (ct v) = sc at *
        generalize hw3 : w2.alloc (.cells #[.string sc, .int .i64 (n : Int), .bool true, .bool bv, .bool tv] 96 (0, 0)) = w3 at *
        have hvg : w2.heap.size ≠ w.heap.size + 1 := by omega
        have ok3 := V3.c2
        have go0 := G3.c0
        have gf0 := G3.fz 0
        have gf3 := G3.fz 3
        have gf4 := G3.fz 4
        have v0 := V3.c0
        have G4 := G3.set0 sb
        have V4 := V3.other (p := ⟨w.heap.size + 1, 0, none⟩) hvg (.string sb)
        have G5 := G4.set3 (ba || bv)
        have V5 := V4.other (p := ⟨w.heap.size + 1, 3, none⟩) hvg (.bool (ba || bv))
        have G6 := G5.set4 (ta || tv)
        have V6 := V5.other (p := ⟨w.heap.size + 1, 4, none⟩) hvg (.bool (ta || tv))
        have g43 := G4.c3
        have v43 := V4.c3
        have f43 := G4.fz 3
        have g54 := G5.c4
        have v54 := V5.c4
        have f54 := G5.fz 4
        have v61 := V6.c1
        have HG6 := hide G6
        clear G3 V3 G4 V4 G5 V5 G6 V6
        generalize hbb : (ba || bv) = bb at *
        generalize htt : (ta || tv) = tt at *
        have hb' : ba = true ∧ bb = true ∨ ba = false ∧ bv = bb := or_cases _ _ _ hbb
        have ht' : ta = true ∧ tt = true ∨ ta = false ∧ tv = tt := or_cases _ _ _ htt
        clear hbb htt hpl hvl
        rcases hb' with ⟨rfl, rfl⟩ | ⟨rfl, rfl⟩ <;> rcases ht' with ⟨rfl, rfl⟩ | ⟨rfl, rfl⟩
        all_goals
          go_wp2_with fail
          refine ((unhide HSM).1 _ n _ rfl).mono ?_
          rintro e w6 ⟨rfl, hw6⟩
          have G6 := hw6 ▸ unhide HG6
          have R6 : Got w.heap.size ⟨#[]⟩ 0 false false false w6 := hw6 ▸ (((unhide R3).other (p := ⟨w.heap.size + 1, 0, none⟩) (by show _ ≠ w.heap.size + 1; omega) _).other (p := ⟨w.heap.size + 1, 3, none⟩) (by show _ ≠ w.heap.size + 1; omega) _).other (p := ⟨w.heap.size + 1, 4, none⟩) (by show _ ≠ w.heap.size + 1; omega) _
          have B6 : Below w.heap.size w w6 := hw6 ▸ (((unhide B3).setCell (p := ⟨w.heap.size + 1, 0, none⟩) (by show _ ≤ w.heap.size + 1; omega) _).setCell (p := ⟨w.heap.size + 1, 3, none⟩) (by show _ ≤ w.heap.size + 1; omega) _).setCell (p := ⟨w.heap.size + 1, 4, none⟩) (by show _ ≤ w.heap.size + 1; omega) _
          have HB6 := hide B6
          have HR6 := hide R6
          have HG6' := hide G6
          clear ok3 go0 gf0 gf3 gf4 v0 g43 v43 f43 g54 v54 f54 v61 HG6 R3 B3 hw6 hw3 hcat1 G6 R6 B6 hvg hw2 w3
          generalize sk s n = k at *
          go_wp2_with fail
          refine ((unhide HSM).2 93 k _ (by decide)).mono ?_
          rintro e w7 ⟨rfl, rfl⟩
          by_cases h93 : bt s k = 93
          · rw [decide_eq_true h93]
            have HVV : Hid (val s i = some (.arr (acc.app (.cons v .nil)), k + 1)) := by
              show _ = _
              rw [unhide HR, unhide HEQ, if_pos h93]; rfl
            have hfi := unhide HFI
            generalize hsf : strOf (ct (.arr (acc.app (.cons v .nil)))) = sf at *
            have HSF := hide hsf
            have G6 := unhide HG6'
            have c0 := G6.c0
            have f0 := G6.fz 0
            have G7 := G6.set0 sf
            have c71 := G7.c1
            have f71 := G7.fz 1
            have G8 := G7.set1 ((k : Int) + 1) (k + 1) (by omega)
            have R8 := ((unhide HR6).other (p := ⟨w.heap.size + 1, 0, none⟩) (by show _ ≠ w.heap.size + 1; omega) (.string sf)).other (p := ⟨w.heap.size + 1, 1, none⟩) (by show _ ≠ w.heap.size + 1; omega) (.int .i64 ((k : Int) + 1))
            have B8 := ((unhide HB6).setCell (p := ⟨w.heap.size + 1, 0, none⟩) (by show _ ≤ w.heap.size + 1; omega) (.string sf)).setCell (p := ⟨w.heap.size + 1, 1, none⟩) (by show _ ≤ w.heap.size + 1; omega) (.int .i64 ((k : Int) + 1))
            obtain ⟨a0, a1', a2, a3, a4⟩ := G8.cells
            have a1 := a1'.trans (show _ = some (Value.int .i64 ((k : Int) + 1)) by rw [show ((k + 1 : Nat) : Int) = (k : Int) + 1 from by omega])
            obtain ⟨r0, r1, r2, r3, r4⟩ := R8.cells
            obtain ⟨q0, q1, q2, q3, q4⟩ := R8.fzs
            have RX := hide (R8.copyTo G8 ((k : Int) + 1) (by omega))
            have BX := hide (fun a b c d e => below_put B8 (Nat.le_refl _) a b c d e)
            clear a1' G6 G7 G8 R8 B8 HG6' HR6 HB6 HFI hsf HCO HEQ HR h93
            go_wp2
            try simp only [Exit.inBlock, Exit.then]
            refine bodyPost_ret (got_ret rfl rfl (unhide RX)) rfl ?_
            rw [unhide HVV]
            refine ⟨unhide BX _ _ _ _ _, ?_⟩
            show _ = Ending.returned (gotV (strOf (ct (.arr (acc.app (.cons v .nil))))) (k + 1) true (bigL (acc.app (.cons v .nil))) (twL (acc.app (.cons v .nil))))
            rw [unhide HSF, unhide HBB, unhide HTT]
          · rw [decide_eq_false h93]
            go_wp2_with fail
            refine ((unhide HSM).2 44 k _ (by decide)).mono ?_
            rintro e w8 ⟨rfl, rfl⟩
            by_cases h44 : bt s k = 44
            · rw [decide_eq_true h44]
              have hkl : k < s.size := bt_in (by omega)
              have HST2 : Hid (elems s k0 = (elems s (sk s (k + 1))).map fun q => ((acc.app (.cons v .nil)).app q.1, q.2)) := by
                show _ = _
                rw [unhide HEQ, if_neg h93, if_pos h44, Option.map_map]
                congr 1
                funext q
                simp [JL.app_assoc, JL.app]
              have hco := unhide HCO
              generalize hsf : strOf (91 :: preA (acc.app (.cons v .nil))) = sf at *
              have HSF := hide hsf
              have G6 := unhide HG6'
              have c0 := G6.c0
              have f0 := G6.fz 0
              have G7 := hide (G6.set0 sf)
              have R7 := hide ((unhide HR6).other (p := ⟨w.heap.size + 1, 0, none⟩) (by show _ ≠ w.heap.size + 1; omega) (.string sf))
              have B7 := hide ((unhide HB6).setCell (p := ⟨w.heap.size + 1, 0, none⟩) (by show _ ≤ w.heap.size + 1; omega) (.string sf))
              clear G6 HG6' HR6 HB6 HFI hsf HCO HEQ h93 h44
              go_wp2_with fail
              refine ((unhide HSM).1 _ (k + 1) _ (by omega)).mono ?_
              rintro e w9 ⟨rfl, hw9⟩
              have G9 := hw9 ▸ unhide G7
              have R9 := hw9 ▸ unhide R7
              have B9 := hw9 ▸ unhide B7
              have hs1 := sk_ge s (k + 1)
              have hs2 := (sk_le (s := s) (i := k + 1) (by omega)).2
              clear G7 R7 B7 c0 f0
              go_wp2
              go_roundg (s.size + 1 - sk s (k + 1))
              case rel => exact ⟨sk s (k + 1), acc.app (.cons v .nil), rfl, rfl, by omega, hs2, R9, by rw [unhide HSF, unhide HBB, unhide HTT]; exact G9, B9, by have := unhide HPL; omega, unhide HST2⟩
              case measure => omega
            · rw [decide_eq_false h44]
              have HN : Hid (val s i = none) := by
                show _ = _
                rw [unhide HR, unhide HEQ, if_neg h93, if_neg h44]; rfl
              have R6 := unhide HR6
              obtain ⟨r0, r1, r2, r3, r4⟩ := R6.cells
              obtain ⟨q0, q1, q2, q3, q4⟩ := R6.fzs
              have RX := hide (R6.put ⟨#[]⟩ 0 0 rfl false false false)
              have BX := hide (below_put (unhide HB6) (Nat.le_refl _) (.string ⟨#[]⟩) (.int .i64 0) (.bool false) (.bool false) (.bool false))
              clear R6 HG6' HR6 HB6 HFI HCO HEQ h93 h44
              go_wp2
              try simp only [Exit.inBlock, Exit.then]
              refine bodyPost_ret (got_ret rfl rfl (unhide RX)) rfl ?_
              exact GP.bad (unhide HN) (unhide BX)
end Go.Proofs.YtocnekbedcnmgaaGreatDoor


namespace Go.Proofs.YtocnekbedcnmgaaGreatDoor
open Go.RowKit

def insJ (p : List UInt8 × JV) : List (List UInt8 × JV) → List (List UInt8 × JV)
  | [] => [p]
  | q :: r => if p.1 < q.1 then q :: insJ p r else p :: q :: r
def isortJ (l : List (List UInt8 × JV)) : List (List UInt8 × JV) := (l.foldl (fun acc p => insJ p acc) []).reverse
def idxJ : Nat → List JV → List (List UInt8 × JV)
  | _, [] => []
  | b, v :: r => (decT b, v) :: idxJ (b + 1) r
/-- The parts of a value, as trees. -/
def kidsV : JV → List (List UInt8 × JV)
  | .arr l => idxJ 0 l.toL
  | .obj m => isortJ m.toL
  | _ => []
def kt (q : List UInt8 × JV) : List UInt8 × List UInt8 := (q.1, ct q.2)
theorem insJ_kt (p : List UInt8 × JV) : ∀ l : List (List UInt8 × JV), (insJ p l).map kt = insR (kt p) (l.map kt)
  | [] => rfl
  | q :: r => by
    rw [insJ, List.map_cons, insR]
    by_cases h : p.1 < q.1
    · have h' : (kt p).1 < (kt q).1 := h
      rw [if_pos h, if_pos h', List.map_cons, insJ_kt p r]
    · have h' : ¬ (kt p).1 < (kt q).1 := h
      rw [if_neg h, if_neg h', List.map_cons, List.map_cons]
theorem foldJ_kt : ∀ (l acc : List (List UInt8 × JV)), (l.foldl (fun acc p => insJ p acc) acc).map kt = (l.map kt).foldl (fun acc p => insR p acc) (acc.map kt)
  | [], acc => rfl
  | p :: l, acc => by rw [List.foldl_cons, List.map_cons, List.foldl_cons, foldJ_kt l, insJ_kt]
theorem isortJ_kt (l : List (List UInt8 × JV)) : (isortJ l).map kt = isort (l.map kt) := by
  unfold isortJ isort
  rw [List.map_reverse, foldJ_kt]
  rfl
theorem insJ_perm (p : List UInt8 × JV) : ∀ l, (insJ p l).Perm (p :: l)
  | [] => List.Perm.refl _
  | q :: r => by
    unfold insJ
    split
    · exact ((insJ_perm p r).cons q).trans (List.Perm.swap p q r)
    · exact List.Perm.refl _
theorem foldJ_perm : ∀ (l acc : List (List UInt8 × JV)), (l.foldl (fun acc p => insJ p acc) acc).Perm (l ++ acc)
  | [], acc => List.Perm.refl _
  | p :: l, acc => by
    rw [List.foldl_cons]
    exact (foldJ_perm l _).trans (((insJ_perm p acc).append_left l).trans (List.perm_middle))
theorem isortJ_perm (l : List (List UInt8 × JV)) : (isortJ l).Perm l := by
  unfold isortJ
  have := foldJ_perm l []
  rw [List.append_nil] at this
  exact (List.reverse_perm _).trans this
theorem idxJ_len : ∀ (vs : List JV) (b : Nat), (idxJ b vs).length = vs.length
  | [], _ => rfl
  | v :: r, b => by rw [idxJ, List.length_cons, List.length_cons, idxJ_len r]
theorem idxJ_at : ∀ (vs : List JV) (b j : Nat) (h : j < (idxJ b vs).length), (idxJ b vs)[j] = (decT (b + j), vs[j]'(by rw [idxJ_len] at h; exact h))
  | [], b, j, h => by simp [idxJ] at h
  | t :: r, b, 0, h => rfl
  | t :: r, b, j + 1, h => by
    simp only [idxJ, List.getElem_cons_succ]
    rw [idxJ_at r (b + 1) j]
    rw [show b + 1 + j = b + (j + 1) by omega]
theorem idxJ_snd : ∀ (vs : List JV) (b : Nat), (idxJ b vs).map (·.2) = vs
  | [], _ => rfl
  | v :: r, b => by rw [idxJ, List.map_cons, idxJ_snd r]
theorem dlK_at : ∀ (vs : List JV) (v : JV), v ∈ vs → depV v ≤ dl vs
  | [], v, h => by simp at h
  | x :: r, v, h => by
    rw [dl]
    rcases List.mem_cons.1 h with rfl | h
    · omega
    · have := dlK_at r v h; omega
/-- What holds of a part. -/
theorem kids_ok {v : JV} (hok : okV v) (htw : twV v = false) {q : List UInt8 × JV} (hq : q ∈ kidsV v) : okV q.2 ∧ twV q.2 = false ∧ depV q.2 + 1 ≤ depV v ∧ q.1.length + (ct q.2).length + 1 ≤ (ct v).length := by
  cases v with
  | arr l =>
    rw [okV] at hok
    rw [twV] at htw
    have hq' : q ∈ idxJ 0 l.toL := hq
    obtain ⟨j, hj, rfl⟩ := List.getElem_of_mem hq'
    have hl : j < l.toL.length := by rw [idxJ_len] at hj; exact hj
    rw [idxJ_at]
    simp only [Nat.zero_add]
    have hm := List.getElem_mem hl
    obtain ⟨a, b⟩ := okL_at l hok htw _ hm
    have hd := dlK_at _ _ hm
    have e := depL_dl l
    have hct : (ct (.arr l)).length = hold (ctL l).length + nl (ctL l) := by
      show (mkA (ctL l)).length = _
      have := joinC_nl (ctL l)
      simp [mkA]; omega
    have n1 : (ct l.toL[j]).length ≤ nl (ctL l) := by have := sum_at ((ctL l).map List.length) j (by rw [ctL_map]; simpa using hl); simpa [nl, ctL_map] using this
    have n2 := decT_len j
    have n3 : (ctL l).length = l.toL.length := by rw [ctL_map, List.length_map]
    refine ⟨a, b, ?_, ?_⟩
    · rw [depV]; omega
    · rw [hct]; unfold hold; omega
  | obj m =>
    rw [okV] at hok
    rw [twV] at htw
    have hm : q ∈ m.toL := (isortJ_perm _).subset hq
    obtain ⟨a, b⟩ := okM_at m [] hok htw _ hm
    have hd := dlK_at (m.toL.map (·.2)) q.2 (List.mem_map.2 ⟨q, hm, rfl⟩)
    have e := depM_dl m
    have hct := ctObj_len m
    have n1 := sumf_at memN hm
    simp only [memN] at n1
    have n2 := quoted_ge q.1
    refine ⟨a, b, ?_, ?_⟩
    · rw [depV]; omega
    · omega
  | nul => simp [kidsV] at hq
  | tt => simp [kidsV] at hq
  | ff => simp [kidsV] at hq
  | num l => simp [kidsV] at hq
  | str l => simp [kidsV] at hq
theorem kids_cnt (v : JV) : cntV v = ((kidsV v).map fun q => cntV q.2).sum + 1 := by
  cases v with
  | arr l =>
    rw [cntV, cntL_cl]
    show cl l.toL + 1 = ((idxJ 0 l.toL).map fun q => cntV q.2).sum + 1
    have e : ((idxJ 0 l.toL).map fun q => cntV q.2) = ((idxJ 0 l.toL).map (·.2)).map cntV := by rw [List.map_map]; rfl
    rw [e, idxJ_snd]; rfl
  | obj m =>
    rw [cntV, cntM_sum]
    show _ = ((isortJ m.toL).map fun q => cntV q.2).sum + 1
    rw [((isortJ_perm m.toL).map fun q => cntV q.2).sum_nat]
  | nul => rfl
  | tt => rfl
  | ff => rfl
  | num l => rfl
  | str l => rfl
/-- A pointer, one token further. -/
def ptrN (p k : List UInt8) : List UInt8 := p ++ 47 :: esc k
end Go.Proofs.YtocnekbedcnmgaaGreatDoor


namespace Go.Proofs.YtocnekbedcnmgaaGreatDoor
open Go.RowKit

/-- A number's canonical text. -/
def numC (l : List UInt8) : Prop := ∃ (sg ds : List UInt8) (d : UInt8), l = sg ++ d :: ds ∧ (sg = [] ∨ sg = [45]) ∧ isDg d.toNat = true ∧ (∀ b ∈ ds, isDg b.toNat = true) ∧ (d.toNat = 48 → ds = [] ∧ sg = [])
mutual
/-- A tree that its canonical text is read as, when its members are in order. -/
def rdV : JV → Prop
  | .nul => True
  | .tt => True
  | .ff => True
  | .num l => numC l
  | .str l => Lib.validD l = true
  | .arr l => rdL l
  | .obj m => rdM m
def rdL : JL → Prop
  | .nil => True
  | .cons v r => rdV v ∧ rdL r
def rdM : JM → Prop
  | .nil => True
  | .cons k v r => Lib.validD k = true ∧ rdV v ∧ rdM r
end
mutual
/-- Whether the members are in order, everywhere. -/
def srV : JV → Prop
  | .arr l => srL l
  | .obj m => srM m ∧ isort (ctM m) = ctM m
  | _ => True
def srL : JL → Prop
  | .nil => True
  | .cons v r => srV v ∧ srL r
def srM : JM → Prop
  | .nil => True
  | .cons _ v r => srV v ∧ srM r
end
theorem numC_ok {l : List UInt8} (h : numC l) : ∃ (c : UInt8) (r : List UInt8), l = c :: r ∧ (c.toNat = 45 ∨ isDg c.toNat = true) ∧ ∀ b ∈ r, isDg b.toNat = true := by
  obtain ⟨sg, ds, d, rfl, hs, hd, hds, _⟩ := h
  rcases hs with rfl | rfl
  · exact ⟨d, ds, rfl, .inr hd, hds⟩
  · refine ⟨45, d :: ds, rfl, .inl rfl, fun b hb => ?_⟩
    rcases List.mem_cons.1 hb with rfl | hb
    · exact hd
    · exact hds b hb
mutual
theorem rd_ok : ∀ v : JV, rdV v → okV v
  | .nul, _ => by rw [okV]; trivial
  | .tt, _ => by rw [okV]; trivial
  | .ff, _ => by rw [okV]; trivial
  | .num l, h => by rw [rdV] at h; rw [okV]; exact numC_ok h
  | .str l, h => by rw [rdV] at h; rw [okV]; exact h
  | .arr l, h => by rw [rdV] at h; rw [okV]; exact rd_okL l h
  | .obj m, h => by rw [rdV] at h; rw [okV]; exact rd_okM m h
theorem rd_okL : ∀ l : JL, rdL l → okL l
  | .nil, _ => by rw [okL]; trivial
  | .cons v r, h => by rw [rdL] at h; rw [okL]; exact ⟨rd_ok v h.1, rd_okL r h.2⟩
theorem rd_okM : ∀ m : JM, rdM m → okM m
  | .nil, _ => by rw [okM]; trivial
  | .cons k v r, h => by rw [rdM] at h; rw [okM]; exact ⟨h.1, rd_ok v h.2.1, rd_okM r h.2.2⟩
end
/-- Digits that end before something else. -/
theorem dg_run {T : ByteArray} : ∀ (ds m : List UInt8) (i : Nat), T.data.toList.drop i = ds ++ m → (∀ b ∈ ds, isDg b.toNat = true) → Stops m → dg T i = i + ds.length
  | [], m, i, h, _, hm => by
    rcases hm with rfl | ⟨c, r, rfl, hc⟩
    · rw [List.nil_append] at h
      have : T.size ≤ i := by
        have := List.drop_eq_nil_iff.1 h
        rw [data_len] at this; exact this
      rw [dg_off (by rw [bt_out T i this]; decide)]; rfl
    · obtain ⟨_, hb, _⟩ := at_head (T := T) h
      rw [dg_off (by rw [hb, isDg_iff]; omega)]; rfl
  | d :: ds, m, i, h, hd, hm => by
    obtain ⟨_, hb, h2⟩ := at_head (T := T) h
    rw [dg_on (by rw [hb]; exact hd d List.mem_cons_self), dg_run ds m (i + 1) h2 (fun b hb => hd b (List.mem_cons_of_mem _ hb)) hm, List.length_cons]
    omega
theorem cutB_app {T : ByteArray} {i : Nat} {l m : List UInt8} (h : T.data.toList.drop i = l ++ m) : cutB T i (i + l.length) = l := by
  unfold cutB
  rw [h, show i + l.length - i = l.length by omega, List.take_left]
theorem nm_at {T : ByteArray} {i : Nat} {l m : List UInt8} (hn : numC l) (h : T.data.toList.drop i = l ++ m) (hm : Stops m) : nm T i = some (l, i + l.length) := by
  have hc := cutB_app h
  obtain ⟨sg, ds, d, rfl, hs, hd, hds, h0⟩ := hn
  have hdv := isDg_iff.1 hd
  have key : ∀ k, nmD T i = k → T.data.toList.drop k = d :: (ds ++ m) → k + 1 + ds.length = i + (sg ++ d :: ds).length → nm T i = some (sg ++ d :: ds, i + (sg ++ d :: ds).length) := by
    intro k e1 e2 e3
    obtain ⟨_, hb, h2⟩ := at_head (T := T) e2
    have e4 : nmE T i = i + (sg ++ d :: ds).length := by
      unfold nmE
      rw [e1, hb]
      split
      · rename_i hz
        obtain ⟨q1, q2⟩ := h0 hz
        subst q1
        simp only [List.length_nil] at e3
        omega
      · rw [dg_on (by rw [hb]; exact hd), dg_run ds m (k + 1) h2 hds hm]; omega
    unfold nm
    rw [e1, hb, if_pos hd, e4, hc]
    unfold norm0
    rw [if_neg]
    intro e
    rcases hs with rfl | rfl
    · rw [List.nil_append] at e; injection e with e _; subst e; simp [isDg] at hd
    · simp only [List.cons_append, List.nil_append, List.cons.injEq, true_and] at e
      have : d.toNat = 48 := by rw [e.1]; rfl
      have := (h0 this).2
      cases this
  rcases hs with rfl | rfl
  · rw [List.nil_append] at h
    rw [List.cons_append] at h
    obtain ⟨_, hb, h2⟩ := at_head (T := T) h
    refine key i ?_ h (by simp; omega)
    unfold nmD; rw [if_neg (by omega)]
  · rw [List.cons_append, List.nil_append, List.cons_append] at h
    obtain ⟨_, hb, h2⟩ := at_head (T := T) h
    refine key (i + 1) ?_ h2 (by simp; omega)
    unfold nmD; rw [if_pos (by rw [hb]; rfl)]
/-- The first byte of a canonical text. -/
theorem ct_first {v : JV} (h : okV v) : ∃ (c : UInt8) (r : List UInt8), ct v = c :: r ∧ c.toNat ≠ 32 ∧ c.toNat ≠ 9 ∧ c.toNat ≠ 10 ∧ c.toNat ≠ 13 ∧ c.toNat ≠ 93 ∧ c.toNat ≠ 125 := by
  cases v with
  | nul => exact ⟨_, _, rfl, by decide, by decide, by decide, by decide, by decide, by decide⟩
  | tt => exact ⟨_, _, rfl, by decide, by decide, by decide, by decide, by decide, by decide⟩
  | ff => exact ⟨_, _, rfl, by decide, by decide, by decide, by decide, by decide, by decide⟩
  | num l =>
    rw [okV] at h
    obtain ⟨c, r, rfl, hc, _⟩ := h
    have : c.toNat = 45 ∨ (48 ≤ c.toNat ∧ c.toNat ≤ 57) := hc.imp id isDg_iff.1
    exact ⟨c, r, rfl, by omega, by omega, by omega, by omega, by omega, by omega⟩
  | str l => exact ⟨34, _, rfl, by decide, by decide, by decide, by decide, by decide, by decide⟩
  | arr l => exact ⟨91, _, rfl, by decide, by decide, by decide, by decide, by decide, by decide⟩
  | obj m => exact ⟨123, _, rfl, by decide, by decide, by decide, by decide, by decide, by decide⟩
theorem sk_here {T : ByteArray} {i : Nat} {c : UInt8} {r : List UInt8} (h : T.data.toList.drop i = c :: r) (h1 : c.toNat ≠ 32) (h2 : c.toNat ≠ 9) (h3 : c.toNat ≠ 10) (h4 : c.toNat ≠ 13) : sk T i = i := by
  obtain ⟨_, hb, _⟩ := at_head (T := T) h
  exact sk_off (by omega)
mutual
/-- A canonical text is read as the tree that it was written of. -/
theorem rd_at {T : ByteArray} : ∀ v : JV, rdV v → srV v → ∀ i m, T.data.toList.drop i = ct v ++ m → Stops m → val T i = some (v, i + (ct v).length)
  | .nul, _, _, i, m, h, _ => by
    have h0 : T.data.toList.drop i = 110 :: 117 :: 108 :: 108 :: m := h
    obtain ⟨_, b0, h1⟩ := at_head (T := T) h0
    obtain ⟨_, b1, h2⟩ := at_head (T := T) h1
    obtain ⟨_, b2, h3⟩ := at_head (T := T) h2
    obtain ⟨_, b3, _⟩ := at_head (T := T) h3
    rw [val_else (by rw [b0]; decide) (by rw [b0]; decide) (by rw [b0]; decide), if_pos (by unfold wNull; rw [b0, b1, b2, b3]; rfl)]
    rfl
  | .tt, _, _, i, m, h, _ => by
    have h0 : T.data.toList.drop i = 116 :: 114 :: 117 :: 101 :: m := h
    obtain ⟨_, b0, h1⟩ := at_head (T := T) h0
    obtain ⟨_, b1, h2⟩ := at_head (T := T) h1
    obtain ⟨_, b2, h3⟩ := at_head (T := T) h2
    obtain ⟨_, b3, _⟩ := at_head (T := T) h3
    rw [val_else (by rw [b0]; decide) (by rw [b0]; decide) (by rw [b0]; decide), if_neg (by unfold wNull; rw [b0]; simp), if_pos (by unfold wTrue; rw [b0, b1, b2, b3]; rfl)]
    rfl
  | .ff, _, _, i, m, h, _ => by
    have h0 : T.data.toList.drop i = 102 :: 97 :: 108 :: 115 :: 101 :: m := h
    obtain ⟨_, b0, h1⟩ := at_head (T := T) h0
    obtain ⟨_, b1, h2⟩ := at_head (T := T) h1
    obtain ⟨_, b2, h3⟩ := at_head (T := T) h2
    obtain ⟨_, b3, h4⟩ := at_head (T := T) h3
    obtain ⟨_, b4, _⟩ := at_head (T := T) h4
    rw [val_else (by rw [b0]; decide) (by rw [b0]; decide) (by rw [b0]; decide), if_neg (by unfold wNull; rw [b0]; simp), if_neg (by unfold wTrue; rw [b0]; simp), if_pos (by unfold wFalse; rw [b0, b1, b2, b3, b4]; rfl)]
    rfl
  | .num l, hr, _, i, m, h, hm => by
    rw [rdV] at hr
    have hn := nm_at hr h hm
    obtain ⟨c, r, rfl, hc, _⟩ := numC_ok hr
    obtain ⟨_, b0, _⟩ := at_head (T := T) (c := c) (m := r ++ m) h
    have : c.toNat = 45 ∨ (48 ≤ c.toNat ∧ c.toNat ≤ 57) := hc.imp id isDg_iff.1
    rw [val_else (by omega) (by omega) (by omega), if_neg (by unfold wNull; simp; omega), if_neg (by unfold wTrue; simp; omega), if_neg (by unfold wFalse; simp; omega), hn]
    rfl
  | .str l, hr, _, i, m, h, _ => by
    rw [rdV] at hr
    obtain ⟨_, b0, _⟩ := at_head (T := T) (c := 34) (m := qs l ++ [34] ++ m) (by rw [h]; simp [ct, quoted])
    rw [val_str (by rw [b0]; rfl), strQ_at l T m hr i h]
    rfl
  | .arr .nil, _, _, i, m, h, _ => by
    have h0 : T.data.toList.drop i = 91 :: 93 :: m := h
    obtain ⟨_, b0, h1⟩ := at_head (T := T) h0
    obtain ⟨_, b1, _⟩ := at_head (T := T) h1
    rw [val_arr (by rw [b0]; rfl), sk_here h1 (by decide) (by decide) (by decide) (by decide), if_pos (by rw [b1]; rfl)]
    rfl
  | .arr (.cons v r), hr, hs, i, m, h, hm => by
    rw [rdV] at hr
    rw [srV] at hs
    have h0 : T.data.toList.drop i = 91 :: (joinC (ctL (.cons v r)) ++ 93 :: m) := by rw [h]; simp [ct, mkA]
    obtain ⟨_, b0, h1⟩ := at_head (T := T) h0
    have hrv := hr
    rw [rdL] at hrv
    obtain ⟨c, q, e, c1, c2, c3, c4, c5, _⟩ := ct_first (rd_ok v hrv.1)
    have h1' : T.data.toList.drop (i + 1) = c :: (q ++ (joinT (ctL r) ++ 93 :: m)) := by rw [h1, ctL, joinC, e]; simp
    obtain ⟨_, b1, _⟩ := at_head (T := T) h1'
    rw [val_arr (by rw [b0]; rfl), sk_here h1' c1 c2 c3 c4, if_neg (by rw [b1]; exact c5), rd_atL v r hr hs (i + 1) m h1]
    have e2 : (ct (.arr (.cons v r))).length = (joinC (ctL (.cons v r))).length + 2 := by simp [ct, mkA]
    rw [e2]
    simp only [Option.map_some, Option.some.injEq, Prod.mk.injEq, true_and]
    omega
  | .obj .nil, _, _, i, m, h, _ => by
    have h0 : T.data.toList.drop i = 123 :: 125 :: m := h
    obtain ⟨_, b0, h1⟩ := at_head (T := T) h0
    obtain ⟨_, b1, _⟩ := at_head (T := T) h1
    rw [val_obj (by rw [b0]; rfl), sk_here h1 (by decide) (by decide) (by decide) (by decide), if_pos (by rw [b1]; rfl)]
    rfl
  | .obj (.cons k v r), hr, hs, i, m, h, hm => by
    rw [rdV] at hr
    rw [srV] at hs
    have hc : ct (.obj (.cons k v r)) = 123 :: (joinC ((ctM (.cons k v r)).map memT) ++ [125]) := by rw [ct, hs.2]; rfl
    have h0 : T.data.toList.drop i = 123 :: (joinC ((ctM (.cons k v r)).map memT) ++ 125 :: m) := by rw [h, hc]; simp
    obtain ⟨_, b0, h1⟩ := at_head (T := T) h0
    have h1' : T.data.toList.drop (i + 1) = 34 :: (qs k ++ [34] ++ 58 :: ct v ++ (joinT ((ctM r).map memT) ++ 125 :: m)) := by rw [h1, ctM, List.map_cons, joinC]; simp [memT, quoted]
    obtain ⟨_, b1, _⟩ := at_head (T := T) h1'
    rw [val_obj (by rw [b0]; rfl), sk_here h1' (by decide) (by decide) (by decide) (by decide), if_neg (by rw [b1]; decide), rd_atM k v r hr hs.1 (i + 1) m h1]
    rw [hc]
    simp only [Option.map_some, Option.some.injEq, Prod.mk.injEq, true_and, List.length_cons, List.length_append, List.length_nil]
    omega
termination_by v => SizeOf.sizeOf v
decreasing_by all_goals simp_wf; all_goals omega
theorem rd_atL {T : ByteArray} : ∀ (v : JV) (r : JL), rdL (.cons v r) → srL (.cons v r) → ∀ i m, T.data.toList.drop i = joinC (ctL (.cons v r)) ++ 93 :: m → elems T i = some (.cons v r, i + (joinC (ctL (.cons v r))).length + 1)
  | v, .nil, hr, hs, i, m, h => by
    rw [rdL] at hr
    rw [srL] at hs
    have h' : T.data.toList.drop i = ct v ++ 93 :: m := by rw [h]; simp [ctL, joinC, joinT]
    have hv := rd_at v hr.1 hs.1 i (93 :: m) h' (.inr ⟨93, m, rfl, .inr (.inl rfl)⟩)
    have h2 : T.data.toList.drop (i + (ct v).length) = 93 :: m := drop_past h'
    obtain ⟨_, b2, _⟩ := at_head (T := T) h2
    rw [elems_eq, hv]
    simp only [Option.bind_some]
    rw [sk_here h2 (by decide) (by decide) (by decide) (by decide), if_pos (by rw [b2]; rfl)]
    simp [ctL, joinC, joinT]
  | v, .cons u r, hr, hs, i, m, h => by
    rw [rdL] at hr
    rw [srL] at hs
    have h' : T.data.toList.drop i = ct v ++ 44 :: (joinC (ctL (.cons u r)) ++ 93 :: m) := by rw [h]; simp [ctL, joinC, joinT]
    have hv := rd_at v hr.1 hs.1 i _ h' (.inr ⟨44, _, rfl, .inl rfl⟩)
    have h2 : T.data.toList.drop (i + (ct v).length) = 44 :: (joinC (ctL (.cons u r)) ++ 93 :: m) := drop_past h'
    obtain ⟨_, b2, h3⟩ := at_head (T := T) h2
    have hru := hr.2
    rw [rdL] at hru
    obtain ⟨c, q, e, c1, c2, c3, c4, _, _⟩ := ct_first (rd_ok u hru.1)
    have h3' : T.data.toList.drop (i + (ct v).length + 1) = c :: (q ++ (joinT (ctL r) ++ 93 :: m)) := by rw [h3, ctL, joinC, e]; simp
    rw [elems_eq, hv]
    simp only [Option.bind_some]
    rw [sk_here h2 (by decide) (by decide) (by decide) (by decide), if_neg (by rw [b2]; decide), if_pos (by rw [b2]; rfl), sk_here h3' c1 c2 c3 c4, rd_atL u r hr.2 hs.2 _ m h3]
    have e2 : (joinC (ctL (.cons v (.cons u r)))).length = (ct v).length + 1 + (joinC (ctL (.cons u r))).length := by simp [ctL, joinC, joinT]; omega
    rw [e2]
    simp only [Option.map_some, Option.some.injEq, Prod.mk.injEq, true_and]
    omega
termination_by v r => SizeOf.sizeOf v + SizeOf.sizeOf r
decreasing_by all_goals simp_wf; all_goals omega
theorem rd_atM {T : ByteArray} : ∀ (k : List UInt8) (v : JV) (r : JM), rdM (.cons k v r) → srM (.cons k v r) → ∀ i m, T.data.toList.drop i = joinC ((ctM (.cons k v r)).map memT) ++ 125 :: m → mems T i = some (.cons k v r, i + (joinC ((ctM (.cons k v r)).map memT)).length + 1)
  | k, v, .nil, hr, hs, i, m, h => by
    rw [rdM] at hr
    rw [srM] at hs
    have h' : T.data.toList.drop i = quoted k ++ (58 :: (ct v ++ 125 :: m)) := by rw [h]; simp [ctM, joinC, joinT, memT]
    have hk := strQ_at k T _ hr.1 i h'
    have h2 : T.data.toList.drop (i + (quoted k).length) = 58 :: (ct v ++ 125 :: m) := drop_past h'
    obtain ⟨_, b2, h3⟩ := at_head (T := T) h2
    obtain ⟨c, q, e, c1, c2, c3, c4, _, _⟩ := ct_first (rd_ok v hr.2.1)
    have h3' : T.data.toList.drop (i + (quoted k).length + 1) = c :: (q ++ 125 :: m) := by rw [h3, e]; simp
    have hv := rd_at v hr.2.1 hs.1 (i + (quoted k).length + 1) (125 :: m) h3 (.inr ⟨125, m, rfl, .inr (.inr rfl)⟩)
    have h4 : T.data.toList.drop (i + (quoted k).length + 1 + (ct v).length) = 125 :: m := drop_past h3
    obtain ⟨_, b4, _⟩ := at_head (T := T) h4
    rw [mems_eq, hk]
    simp only [Option.bind_some]
    rw [sk_here h2 (by decide) (by decide) (by decide) (by decide), if_pos (by rw [b2]; rfl), sk_here h3' c1 c2 c3 c4, hv]
    simp only [Option.bind_some]
    rw [sk_here h4 (by decide) (by decide) (by decide) (by decide), if_pos (by rw [b4]; rfl)]
    have e2 : (joinC ((ctM (.cons k v .nil)).map memT)).length = (quoted k).length + 1 + (ct v).length := by simp [ctM, joinC, joinT, memT]; omega
    rw [e2]
    simp only [Option.some.injEq, Prod.mk.injEq, true_and]
    omega
  | k, v, .cons k' u r, hr, hs, i, m, h => by
    rw [rdM] at hr
    rw [srM] at hs
    have h' : T.data.toList.drop i = quoted k ++ (58 :: (ct v ++ 44 :: (joinC ((ctM (.cons k' u r)).map memT) ++ 125 :: m))) := by rw [h]; simp [ctM, joinC, joinT, memT]
    have hk := strQ_at k T _ hr.1 i h'
    have h2 := drop_past h'
    obtain ⟨_, b2, h3⟩ := at_head (T := T) h2
    obtain ⟨c, q, e, c1, c2, c3, c4, _, _⟩ := ct_first (rd_ok v hr.2.1)
    have h3' : T.data.toList.drop (i + (quoted k).length + 1) = c :: (q ++ 44 :: (joinC ((ctM (.cons k' u r)).map memT) ++ 125 :: m)) := by rw [h3, e]; simp
    have hv := rd_at v hr.2.1 hs.1 (i + (quoted k).length + 1) _ h3 (.inr ⟨44, _, rfl, .inl rfl⟩)
    have h4 := drop_past h3
    obtain ⟨_, b4, h5⟩ := at_head (T := T) h4
    have h5' : T.data.toList.drop (i + (quoted k).length + 1 + (ct v).length + 1) = 34 :: (qs k' ++ [34] ++ 58 :: ct u ++ (joinT ((ctM r).map memT) ++ 125 :: m)) := by rw [h5, ctM, List.map_cons, joinC]; simp [memT, quoted]
    rw [mems_eq, hk]
    simp only [Option.bind_some]
    rw [sk_here h2 (by decide) (by decide) (by decide) (by decide), if_pos (by rw [b2]; rfl), sk_here h3' c1 c2 c3 c4, hv]
    simp only [Option.bind_some]
    rw [sk_here h4 (by decide) (by decide) (by decide) (by decide), if_neg (by rw [b4]; decide), if_pos (by rw [b4]; rfl), sk_here h5' (by decide) (by decide) (by decide) (by decide), rd_atM k' u r hr.2.2 hs.2 _ m h5]
    have e2 : (joinC ((ctM (.cons k v (.cons k' u r))).map memT)).length = (quoted k).length + 1 + (ct v).length + 1 + (joinC ((ctM (.cons k' u r)).map memT)).length := by simp [ctM, joinC, joinT, memT]; omega
    rw [e2]
    simp only [Option.map_some, Option.some.injEq, Prod.mk.injEq, true_and]
    omega
termination_by _ v r => SizeOf.sizeOf v + SizeOf.sizeOf r
decreasing_by all_goals simp_wf; all_goals omega
end
/-- The whole text. -/
theorem doc_ct {v : JV} (h : rdV v) (hs : srV v) : docR (strOf (ct v)) = some v := by
  obtain ⟨c, r, e, c1, c2, c3, c4, _, _⟩ := ct_first (rd_ok v h)
  have h0 : (strOf (ct v)).data.toList.drop 0 = ct v ++ [] := by rw [strOf_toList]; simp
  have h1 : (strOf (ct v)).data.toList.drop 0 = c :: r := by rw [strOf_toList]; simpa using e
  unfold docR
  rw [sk_here h1 c1 c2 c3 c4, rd_at v h hs 0 [] h0 (.inl rfl)]
  simp only [Option.bind_some, Nat.zero_add]
  rw [sk_past (by rw [strOf_size]; exact Nat.le_refl _), if_pos (strOf_size _).symm]
end Go.Proofs.YtocnekbedcnmgaaGreatDoor


namespace Go.Proofs.YtocnekbedcnmgaaGreatDoor
open Go.RowKit

theorem fold_id : ∀ (l acc : List (List UInt8 × List UInt8)), l.Pairwise (fun a b => a.1 ≤ b.1) → (∀ a ∈ acc, ∀ b ∈ l, a.1 ≤ b.1) → l.foldl (fun acc p => insR p acc) acc = l.reverse ++ acc
  | [], acc, _, _ => rfl
  | p :: l, acc, h, ha => by
    rw [List.pairwise_cons] at h
    have e : insR p acc = p :: acc := by
      cases acc with
      | nil => rfl
      | cons q r => rw [insR, if_neg (List.not_lt.2 (ha q List.mem_cons_self p List.mem_cons_self))]
    rw [List.foldl_cons, e, fold_id l (p :: acc) h.2 (fun a hm b hb => by
      rcases List.mem_cons.1 hm with rfl | hm
      · exact h.1 b hb
      · exact ha a hm b (List.mem_cons_of_mem _ hb))]
    simp
theorem isort_id {l : List (List UInt8 × List UInt8)} (h : l.Pairwise (fun a b => a.1 ≤ b.1)) : isort l = l := by
  unfold isort
  rw [fold_id l [] h (fun a ha => by simp at ha)]
  simp
theorem isort_twice (l : List (List UInt8 × List UInt8)) : isort (isort l) = isort l := isort_id (isort_up l)

def JM.ofL : List (List UInt8 × JV) → JM
  | [] => .nil
  | (k, v) :: r => .cons k v (JM.ofL r)
theorem JM.toL_ofL : ∀ l : List (List UInt8 × JV), (JM.ofL l).toL = l
  | [] => rfl
  | (k, v) :: r => by rw [JM.ofL, JM.toL, JM.toL_ofL r]
theorem rdM_iff : ∀ m : JM, rdM m ↔ ∀ q ∈ m.toL, Lib.validD q.1 = true ∧ rdV q.2
  | .nil => by rw [rdM]; simp [JM.toL]
  | .cons k v r => by rw [rdM, rdM_iff r, JM.toL]; simp [and_assoc]
theorem srM_iff : ∀ m : JM, srM m ↔ ∀ q ∈ m.toL, srV q.2
  | .nil => by rw [srM]; simp [JM.toL]
  | .cons k v r => by rw [srM, srM_iff r, JM.toL]; simp
theorem bigM_iff : ∀ m : JM, bigM m = true ↔ ∃ q ∈ m.toL, bigV q.2 = true
  | .nil => by rw [bigM]; simp [JM.toL]
  | .cons k v r => by rw [bigM, Bool.or_eq_true, bigM_iff r, JM.toL]; simp
theorem twM_iff : ∀ (m : JM) (ks : List (List UInt8)), twM ks m = false ↔ (∀ q ∈ m.toL, twV q.2 = false) ∧ (m.toL.map (·.1)).Nodup ∧ ∀ q ∈ m.toL, q.1 ∉ ks
  | .nil, ks => by rw [twM]; simp [JM.toL]
  | .cons k v r, ks => by
    rw [twM, JM.toL]
    simp only [Bool.or_eq_false_iff, twM_iff r, List.map_cons, List.nodup_cons, List.mem_cons, List.contains_eq_mem, decide_eq_false_iff_not, List.mem_append, List.mem_map]
    constructor
    · rintro ⟨⟨h1, h2⟩, h3, h4, h5⟩
      refine ⟨?_, ⟨?_, h4⟩, ?_⟩
      · rintro q (rfl | hq)
        · exact h1
        · exact h3 q hq
      · rintro ⟨q, hq, e⟩
        exact h5 q hq (.inr (by simp [e]))
      · rintro q (rfl | hq)
        · exact h2
        · exact fun hk => h5 q hq (.inl hk)
    · rintro ⟨h1, ⟨h2, h3⟩, h4⟩
      refine ⟨⟨h1 _ (.inl rfl), h4 _ (.inl rfl)⟩, fun q hq => h1 q (.inr hq), h3, fun q hq hk => ?_⟩
      rcases hk with hk | hk
      · exact h4 q (.inr hq) hk
      · simp only [List.not_mem_nil, or_false] at hk
        exact h2 ⟨q, hq, hk⟩
theorem dl_iff : ∀ (l : List JV) (n : Nat), dl l ≤ n ↔ ∀ v ∈ l, depV v ≤ n
  | [], n => by simp [dl]
  | v :: r, n => by rw [dl, Nat.max_le, dl_iff r]; simp
theorem dlN_perm {a b : List JV} (h : a.Perm b) : dl a = dl b := by
  have h1 := (dl_iff b (dl b)).1 (Nat.le_refl _)
  have h2 := (dl_iff a (dl a)).1 (Nat.le_refl _)
  exact Nat.le_antisymm ((dl_iff _ _).2 fun v hv => h1 v (h.subset hv)) ((dl_iff _ _).2 fun v hv => h2 v (h.symm.subset hv))
/-- Members put in order. -/
def srtM (m : JM) : JM := JM.ofL (isortJ m.toL)
theorem srtM_perm (m : JM) : (srtM m).toL.Perm m.toL := by unfold srtM; rw [JM.toL_ofL]; exact isortJ_perm _
theorem srtM_ct (m : JM) : ctM (srtM m) = isort (ctM m) := by
  have e1 : ctM m = m.toL.map kt := ctM_map m
  have e2 : ctM (srtM m) = (srtM m).toL.map kt := ctM_map _
  rw [e1, e2]
  unfold srtM
  rw [JM.toL_ofL, isortJ_kt]
theorem bool_of {a b : Bool} (h : a = false ↔ b = false) : a = b := by
  cases a <;> cases b <;> simp at h <;> rfl
theorem srtM_facts (m : JM) : (rdM m → rdM (srtM m)) ∧ (srM m → srM (srtM m)) ∧ depM (srtM m) = depM m ∧ cntM (srtM m) = cntM m ∧ bigM (srtM m) = bigM m ∧ twM [] (srtM m) = twM [] m := by
  have p := srtM_perm m
  refine ⟨fun h => ?_, fun h => ?_, ?_, ?_, ?_, ?_⟩
  · rw [rdM_iff] at *; exact fun q hq => h q (p.subset hq)
  · rw [srM_iff] at *; exact fun q hq => h q (p.subset hq)
  · rw [depM_dl, depM_dl]; exact dlN_perm (p.map _)
  · rw [cntM_sum, cntM_sum]; exact (p.map _).sum_nat
  · have : bigM (srtM m) = true ↔ bigM m = true := by
      rw [bigM_iff, bigM_iff]
      exact ⟨fun ⟨q, h1, h2⟩ => ⟨q, p.subset h1, h2⟩, fun ⟨q, h1, h2⟩ => ⟨q, p.symm.subset h1, h2⟩⟩
    exact Bool.eq_iff_iff.2 this
  · refine bool_of ?_
    rw [twM_iff, twM_iff]
    exact ⟨fun ⟨h1, h2, h3⟩ => ⟨fun q hq => h1 q (p.symm.subset hq), ((p.map _).nodup_iff).1 h2, fun q hq => h3 q (p.symm.subset hq)⟩, fun ⟨h1, h2, h3⟩ => ⟨fun q hq => h1 q (p.subset hq), ((p.map _).nodup_iff).2 h2, fun q hq => h3 q (p.subset hq)⟩⟩

mutual
/-- The tree that a canonical text is read as. -/
def nv : JV → JV
  | .arr l => .arr (nvL l)
  | .obj m => .obj (srtM (nvM m))
  | .nul => .nul
  | .tt => .tt
  | .ff => .ff
  | .num l => .num l
  | .str l => .str l
def nvL : JL → JL
  | .nil => .nil
  | .cons v r => .cons (nv v) (nvL r)
def nvM : JM → JM
  | .nil => .nil
  | .cons k v r => .cons k (nv v) (nvM r)
end
structure NF (a b : JV) : Prop where
  ct : ct a = ct b
  rd : rdV b → rdV a
  sr : srV a
  dep : depV a = depV b
  cnt : cntV a = cntV b
  big : bigV a = bigV b
  tw : twV a = twV b
theorem NF.leaf {v : JV} (h : srV v) : NF v v := ⟨rfl, id, h, rfl, rfl, rfl, rfl⟩
mutual
theorem nv_nf : ∀ v : JV, NF (nv v) v
  | .nul => by rw [nv]; exact NF.leaf (by rw [srV]; trivial; all_goals simp)
  | .tt => by rw [nv]; exact NF.leaf (by rw [srV]; trivial; all_goals simp)
  | .ff => by rw [nv]; exact NF.leaf (by rw [srV]; trivial; all_goals simp)
  | .num l => by rw [nv]; exact NF.leaf (by rw [srV]; trivial; all_goals simp)
  | .str l => by rw [nv]; exact NF.leaf (by rw [srV]; trivial; all_goals simp)
  | .arr l => by
    obtain ⟨h1, h2, h3, h4, h5, h6, h7⟩ := nv_nfL l
    rw [nv]
    exact ⟨by rw [Go.Proofs.YtocnekbedcnmgaaGreatDoor.ct, Go.Proofs.YtocnekbedcnmgaaGreatDoor.ct, h1], fun h => by rw [rdV] at *; exact h2 h, by rw [srV]; exact h3, by rw [depV, depV, h4], by rw [cntV, cntV, h5], by rw [bigV, bigV, h6], by rw [twV, twV, h7]⟩
  | .obj m => by
    obtain ⟨h1, h2, h3, h4, h5, h6, h7⟩ := nv_nfM m
    obtain ⟨g1, g2, g3, g4, g5, g6⟩ := srtM_facts (nvM m)
    rw [nv]
    exact ⟨by rw [Go.Proofs.YtocnekbedcnmgaaGreatDoor.ct, Go.Proofs.YtocnekbedcnmgaaGreatDoor.ct, srtM_ct, isort_twice, h1], fun h => by rw [rdV] at *; exact g1 (h2 h), by rw [srV, srtM_ct, isort_twice]; exact ⟨g2 h3, rfl⟩, by rw [depV, depV, g3, h4], by rw [cntV, cntV, g4, h5], by rw [bigV, bigV, g5, h6], by rw [twV, twV, g6, h7]⟩
theorem nv_nfL : ∀ l : JL, ctL (nvL l) = ctL l ∧ (rdL l → rdL (nvL l)) ∧ srL (nvL l) ∧ depL (nvL l) = depL l ∧ cntL (nvL l) = cntL l ∧ bigL (nvL l) = bigL l ∧ twL (nvL l) = twL l
  | .nil => by rw [nvL, srL]; exact ⟨rfl, id, trivial, rfl, rfl, rfl, rfl⟩
  | .cons v r => by
    have h := nv_nf v
    obtain ⟨h1, h2, h3, h4, h5, h6, h7⟩ := nv_nfL r
    rw [nvL]
    exact ⟨by rw [ctL, ctL, h.ct, h1], fun q => by rw [rdL] at *; exact ⟨h.rd q.1, h2 q.2⟩, by rw [srL]; exact ⟨h.sr, h3⟩, by rw [depL, depL, h.dep, h4], by rw [cntL, cntL, h.cnt, h5], by rw [bigL, bigL, h.big, h6], by rw [twL, twL, h.tw, h7]⟩
theorem nv_nfM : ∀ m : JM, ctM (nvM m) = ctM m ∧ (rdM m → rdM (nvM m)) ∧ srM (nvM m) ∧ depM (nvM m) = depM m ∧ cntM (nvM m) = cntM m ∧ bigM (nvM m) = bigM m ∧ ∀ ks, twM ks (nvM m) = twM ks m
  | .nil => by rw [nvM, srM]; exact ⟨rfl, id, trivial, rfl, rfl, rfl, fun _ => rfl⟩
  | .cons k v r => by
    have h := nv_nf v
    obtain ⟨h1, h2, h3, h4, h5, h6, h7⟩ := nv_nfM r
    rw [nvM]
    exact ⟨by rw [ctM, ctM, h.ct, h1], fun q => by rw [rdM] at *; exact ⟨q.1, h.rd q.2.1, h2 q.2.2⟩, by rw [srM]; exact ⟨h.sr, h3⟩, by rw [depM, depM, h.dep, h4], by rw [cntM, cntM, h.cnt, h5], by rw [bigM, bigM, h.big, h6], fun ks => by rw [twM, twM, h.tw, h7]⟩
end
/-- What a canonical text is read as. -/
theorem doc_nv {v : JV} (h : rdV v) : docR (strOf (ct v)) = some (nv v) := by
  have f := nv_nf v
  have := doc_ct (f.rd h) f.sr
  rwa [f.ct] at this
theorem readR_ct {v : JV} (h : rdV v) (hb : bigV v = false) (ht : twV v = false) : readR (strOf (ct v)) = if 20000 < (ct v).length then .inl 1 else if 100 < depV v ∨ 3000 < cntV v then .inl 5 else .inr (nv v) := by
  have f := nv_nf v
  unfold readR
  rw [strOf_size, doc_nv h]
  simp only [f.big, f.tw, f.dep, f.cnt, hb, ht]
  rfl

/-- Numbers as they are read are canonical. -/
theorem nm_numC {s : ByteArray} {i j : Nat} {l : List UInt8} (h : nm s i = some (l, j)) : numC l := by
  unfold nm at h
  split at h
  · rename_i hd
    injection h with h; injection h with h1 h2
    have hlt : nmD s i < s.size := bt_in (by have := isDg_iff.1 hd; omega)
    have hE : nmD s i < nmE s i := by
      unfold nmE
      split
      · omega
      · rw [dg_on hd]
        have := (dg_le (s := s) (i := nmD s i + 1) (by omega)).1
        omega
    have hall : ∀ k, nmD s i ≤ k → k < nmE s i → isDg (bt s k) = true := fun k h1 h2 => by
      unfold nmE at h2
      split at h2
      · have : k = nmD s i := by omega
        rw [this]; exact hd
      · exact dg_all h1 h2
    have hz : bt s (nmD s i) = 48 → cutB s (nmD s i + 1) (nmE s i) = [] := fun e => by
      unfold nmE
      rw [if_pos e]
      unfold cutB
      simp
    have hb : (s.data.toList.getD (nmD s i) 0).toNat = bt s (nmD s i) := rfl
    have hds : ∀ b ∈ cutB s (nmD s i + 1) (nmE s i), isDg b.toNat = true := fun b hb => by
      obtain ⟨k, k1, k2, k3⟩ := cutB_at hb
      rw [k3]
      exact hall k (by omega) k2
    have hcut : cutB s (nmD s i) (nmE s i) = s.data.toList.getD (nmD s i) 0 :: cutB s (nmD s i + 1) (nmE s i) := cutB_head hE hlt
    by_cases h45 : bt s i = 45
    · have e : nmD s i = i + 1 := by unfold nmD; rw [if_pos h45]
      have hraw : cutB s i (nmE s i) = [45] ++ s.data.toList.getD (nmD s i) 0 :: cutB s (nmD s i + 1) (nmE s i) := by
        rw [cutB_head (by omega) (by omega), ← e, hcut]
        have : s.data.toList.getD i 0 = 45 := UInt8.toNat_inj.1 h45
        rw [this]; rfl
      by_cases h48 : bt s (nmD s i) = 48
      · have hl : l = [48] := by
          rw [← h1, hraw, hz h48]
          have : s.data.toList.getD (nmD s i) 0 = 48 := UInt8.toNat_inj.1 h48
          rw [this]; rfl
        subst hl
        exact ⟨[], [], 48, rfl, .inl rfl, rfl, fun b hb => by simp at hb, fun _ => ⟨rfl, rfl⟩⟩
      · refine ⟨[45], _, _, ?_, .inr rfl, hd, hds, fun h => absurd h h48⟩
        rw [← h1, hraw]
        unfold norm0
        rw [if_neg]
        intro e
        simp only [List.cons_append, List.nil_append, List.cons.injEq, true_and] at e
        exact h48 (by rw [← hb, e.1]; rfl)
    · have e : nmD s i = i := by unfold nmD; rw [if_neg h45]
      refine ⟨[], cutB s (nmD s i + 1) (nmE s i), s.data.toList.getD (nmD s i) 0, ?_, .inl rfl, hd, hds, fun h => ⟨hz h, rfl⟩⟩
      rw [← h1, List.nil_append, ← hcut]
      unfold norm0
      rw [if_neg, e]
      intro e2
      have hcut' := hcut
      rw [e] at hcut'
      rw [hcut'] at e2
      injection e2 with e2 _
      exact h45 (by show (s.data.toList.getD i 0).toNat = 45; rw [e2]; rfl)
  · cases h
theorem p_rdV (s : ByteArray) : ∀ f i, (∀ v j, pv s f i = some (v, j) → rdV v) ∧ (∀ l j, pa s f i = some (l, j) → rdL l) ∧ (∀ m j, po s f i = some (m, j) → rdM m)
  | 0, i => ⟨fun v j h => by simp [pv] at h, fun v j h => by simp [pa] at h, fun v j h => by simp [po] at h⟩
  | f + 1, i => by
    refine ⟨fun v j h => ?_, fun l j h => ?_, fun m j h => ?_⟩
    · rw [pv] at h
      split at h
      · split at h
        · injection h with h; injection h with hv h; subst hv; rw [rdV, rdL]; trivial
        · simp only [Option.map_eq_some_iff] at h
          obtain ⟨⟨l, k⟩, hk, h⟩ := h
          injection h with hv h
          subst hv; rw [rdV]; exact (p_rdV s f (sk s (i + 1))).2.1 l k hk
      · split at h
        · split at h
          · injection h with h; injection h with hv h; subst hv; rw [rdV, rdM]; trivial
          · simp only [Option.map_eq_some_iff] at h
            obtain ⟨⟨l, k⟩, hk, h⟩ := h
            injection h with hv h
            subst hv; rw [rdV]; exact (p_rdV s f (sk s (i + 1))).2.2 l k hk
        · split at h
          · simp only [Option.map_eq_some_iff] at h
            obtain ⟨⟨l, k⟩, hk, h⟩ := h
            injection h with hv h
            subst hv; rw [rdV]; exact strQ_valid hk
          · split at h
            · injection h with h; injection h with hv h; subst hv; rw [rdV]; trivial
            · split at h
              · injection h with h; injection h with hv h; subst hv; rw [rdV]; trivial
              · split at h
                · injection h with h; injection h with hv h; subst hv; rw [rdV]; trivial
                · simp only [Option.map_eq_some_iff] at h
                  obtain ⟨⟨l, k⟩, hk, h⟩ := h
                  injection h with hv h
                  subst hv; rw [rdV]; exact nm_numC hk
    · rw [pa] at h
      simp only [Option.bind_eq_some_iff] at h
      obtain ⟨⟨v, k⟩, hk, h⟩ := h
      have h1 := (p_rdV s f i).1 v k hk
      simp only at h
      split at h
      · injection h with h; injection h with hv h; subst hv; rw [rdL, rdL]; exact ⟨h1, trivial⟩
      · split at h
        · simp only [Option.map_eq_some_iff] at h
          obtain ⟨⟨l, n⟩, hn, h⟩ := h
          injection h with hv h
          subst hv; rw [rdL]; exact ⟨h1, (p_rdV s f _).2.1 l n hn⟩
        · cases h
    · rw [po] at h
      simp only [Option.bind_eq_some_iff] at h
      obtain ⟨⟨key, a⟩, ha, h⟩ := h
      have h0 := strQ_valid ha
      simp only at h
      split at h
      · simp only [Option.bind_eq_some_iff] at h
        obtain ⟨⟨v, k⟩, hk, h⟩ := h
        have h1 := (p_rdV s f _).1 v k hk
        simp only at h
        split at h
        · injection h with h; injection h with hv h; subst hv; rw [rdM, rdM]; exact ⟨h0, h1, trivial⟩
        · split at h
          · simp only [Option.map_eq_some_iff] at h
            obtain ⟨⟨l, n⟩, hn, h⟩ := h
            injection h with hv h
            subst hv; rw [rdM]; exact ⟨h0, h1, (p_rdV s f _).2.2 l n hn⟩
          · cases h
      · cases h
theorem val_rdV {s : ByteArray} {i j : Nat} {v : JV} (h : val s i = some (v, j)) : rdV v := (p_rdV s _ i).1 v j h
theorem doc_rdV {s : ByteArray} {v : JV} (h : docR s = some v) : rdV v := by
  unfold docR at h
  cases hv : val s (sk s 0) with
  | none => rw [hv] at h; simp at h
  | some q =>
    obtain ⟨u, j⟩ := q
    rw [hv] at h
    simp only [Option.bind_some] at h
    split at h
    · injection h with h; subst h; exact val_rdV hv
    · cases h
end Go.Proofs.YtocnekbedcnmgaaGreatDoor


namespace Go.Proofs.YtocnekbedcnmgaaGreatDoor
open Go.RowKit

end Go.Proofs.YtocnekbedcnmgaaGreatDoor


namespace Go.Proofs.YtocnekbedcnmgaaGreatDoor
open Go.RowKit

/-- The kind of a value, and what its first byte says of it. -/
def kd : JV → Nat
  | .nul => 0 | .tt => 1 | .ff => 2 | .num _ => 3 | .str _ => 4 | .arr _ => 5 | .obj _ => 6
def fb (c : Nat) : Nat := if c = 110 then 0 else if c = 116 then 1 else if c = 102 then 2 else if c = 34 then 4 else if c = 91 then 5 else if c = 123 then 6 else 3
theorem ct_fb {v : JV} (h : okV v) : ∃ c r, ct v = c :: r ∧ fb c.toNat = kd v := by
  cases v with
  | nul => exact ⟨_, _, rfl, rfl⟩
  | tt => exact ⟨_, _, rfl, rfl⟩
  | ff => exact ⟨_, _, rfl, rfl⟩
  | num l =>
    rw [okV] at h
    obtain ⟨c, r, rfl, hc, _⟩ := h
    refine ⟨c, r, rfl, ?_⟩
    have : c.toNat = 45 ∨ (48 ≤ c.toNat ∧ c.toNat ≤ 57) := hc.imp id isDg_iff.1
    unfold fb kd
    repeat (rw [if_neg (by omega)])
  | str l => exact ⟨_, _, rfl, rfl⟩
  | arr l => exact ⟨_, _, rfl, rfl⟩
  | obj m => exact ⟨_, _, rfl, rfl⟩
/-- Whether two values that are no arrays and no objects are the same. -/
def leafEq : JV → JV → Bool
  | .nul, .nul => true
  | .tt, .tt => true
  | .ff, .ff => true
  | .num a, .num b => a == b
  | .str a, .str b => a == b
  | _, _ => false
end Go.Proofs.YtocnekbedcnmgaaGreatDoor


namespace Go.Proofs.YtocnekbedcnmgaaGreatDoor
open Go.RowKit

def insU (x : List UInt8) : List (List UInt8) → List (List UInt8)
  | [] => [x]
  | y :: r => if y < x then y :: insU x r else if y = x then y :: r else x :: y :: r
/-- Texts in order, each once. -/
def onceL (l : List (List UInt8)) : List (List UInt8) := l.foldl (fun acc x => insU x acc) []
/-- What a key leads to among parts. -/
def findK (K : List (List UInt8 × JV)) (key : List UInt8) : Option JV := (K.find? fun q => q.1 == key).map (·.2)
def comp : JV → JV → Bool
  | .arr l, .arr m => l.toL.length == m.toL.length
  | .obj _, .obj _ => true
  | _, _ => false
def keys2 (a b : JV) : List (List UInt8) := match a with
  | .arr _ => (kidsV a).map (·.1)
  | _ => onceL ((kidsV a).map (·.1) ++ (kidsV b).map (·.1))
/-- Where two values differ. -/
def chF : Nat → List UInt8 → JV → JV → List (List UInt8)
  | 0, _, _, _ => []
  | n + 1, p, a, b => if comp a b = true then (keys2 a b).flatMap fun key => match findK (kidsV a) key, findK (kidsV b) key with
      | some u, some v => chF n (ptrN p key) u v
      | _, _ => [ptrN p key]
    else if leafEq a b = true then [] else [p]
def chK (n : Nat) (p : List UInt8) (a b : JV) (key : List UInt8) : List (List UInt8) := match findK (kidsV a) key, findK (kidsV b) key with
  | some u, some v => chF n (ptrN p key) u v
  | _, _ => [ptrN p key]
end Go.Proofs.YtocnekbedcnmgaaGreatDoor


namespace Go.Proofs.YtocnekbedcnmgaaGreatDoor
open Go.RowKit

/-- The pointer that tokens lead on to. -/
def addP (p : List UInt8) : List (List UInt8) → List UInt8
  | [] => p
  | k :: r => addP (ptrN p k) r
def getO (o : Option JV) (ts : List (List UInt8)) : Option JV := o.bind fun u => getV u ts
end Go.Proofs.YtocnekbedcnmgaaGreatDoor

