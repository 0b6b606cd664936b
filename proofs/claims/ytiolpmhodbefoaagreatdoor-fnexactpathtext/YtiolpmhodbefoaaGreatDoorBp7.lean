import Derived.Test.YtiolpmhodbefoaaGreatDoorBp6
import Derived.Laws.EntriesVeiled
import Derived.Deep.RegionHeld
import Derived.Deep.RegionLaw
namespace Go.Proofs.YtiolpmhodbefoaaGreatDoor
open Go.RowKit

theorem startI_zero (n : Nat) (t : Bool) : startI n [] t = -1 := by cases n <;> rfl
theorem take_rev {ks : List Int} {i : Nat} (h : i < ks.length) : (ks.take (i + 1)).reverse = ks[i] :: (ks.take i).reverse := by
  rw [List.take_succ_eq_append_getElem h, List.reverse_append]; rfl
set_option maxRecDepth 100000 in
set_option maxHeartbeats 4000000 in
theorem start_walk (v : Value) (cond : List PFOp) (bl : List Nat) (hn : cond.length ≤ 1000) : ∀ (i : Nat) (n : Nat) (t : Bool) (w : World) (_ : i ≤ cond.length) (_ : i ≤ n) (_ : ORow fopE w v cond bl),
    Calls Tryz.prog 49 #[v, .int .i64 ((i : Int) - 1), .bool t] w fun e w' => e = .returned (.int .i64 (startI n ((cond.map (·.k)).take i).reverse t)) ∧ w = w' := by
  intro i
  induction i using Nat.strongRecOn with
  | _ i ih =>
  intro n t w hi hin h
  cases i with
  | zero =>
    have HX : Hid (startI n ((cond.map (·.k)).take 0).reverse t = -1) := by show _ = _; rw [List.take_zero]; exact startI_zero n t
    clear ih
    obtain ⟨a, c, rfl, -, -⟩ := h.form
    clear h
    rw [unhide HX]
    have h0 : ((0 : Nat) : Int) - 1 = -1 := rfl
    rw [h0]
    go_enter Tryz.func49, Tryz.ntmps49
    go_wp2
    go_ret
    exact ⟨rfl, rfl⟩
  | succ i =>
    have hlt : i < cond.length := by omega
    obtain ⟨m, rfl⟩ : ∃ m, n = m + 1 := ⟨n - 1, by omega⟩
    have hk : (cond.map (·.k))[i]'(by simpa using hlt) = cond[i].k := by simp
    have HX : Hid (∀ t, startI (m + 1) ((cond.map (·.k)).take (i + 1)).reverse t = startI (m + 1) (cond[i].k :: ((cond.map (·.k)).take i).reverse) t) := fun t => by rw [take_rev (by simpa using hlt), hk]
    have HI : Hid (∀ j ≤ i, ∀ t, Calls Tryz.prog 49 #[v, .int .i64 ((j : Int) - 1), .bool t] w fun e w' => e = .returned (.int .i64 (startI m ((cond.map (·.k)).take j).reverse t)) ∧ w = w') :=
      fun j hj t => ih j (by omega) m t w (by omega) (by omega) h
    have HB : Hid (∀ t r, backF m ((cond.map (·.k)).take i).reverse t = some r → r = ((cond.map (·.k)).take r.length).reverse ∧ r.length < i ∧ r.length < cond.length) := fun t r h => by simpa using back_take h
    obtain ⟨a, c, rfl, -, hxa⟩ := h.form
    obtain ⟨g, rfl⟩ := hxa (by omega)
    obtain ⟨vs, ib, hE, hc, -, -, -⟩ := h.at (List.getElem?_eq_getElem hlt)
    obtain ⟨q, rfl, -⟩ := hE
    have c0 := (hc 0 _ rfl).1
    simp only [show fopE.wd = 5 from rfl] at c0
    rw [show i * 5 + 0 = i * 5 from rfl] at c0
    clear ih hc hxa h hk
    have hx0 : ((i + 1 : Nat) : Int) - 1 = (i : Int) := by omega
    rw [hx0, unhide HX]
    clear hx0 HX hin
    generalize hT : ((cond.map (·.k)).take i).reverse = T at *
    generalize cond[i].k = k at *
    have hii : ¬ (i : Int) < 0 := by omega
    have hTl : T.length = i := by rw [← hT]; simp; omega
    have HI0 : Hid (∀ t, Calls Tryz.prog 49 #[.slice (some ⟨g, 0, none⟩) cond.length c, .int .i64 ((i : Int) - 1), .bool t] w fun e w' => e = .returned (.int .i64 (startI m T t)) ∧ w = w') := fun t => by
      have := unhide HI i (Nat.le_refl _) t
      rwa [hT] at this
    have HI2 : Hid (∀ t r, backF m T t = some r → (r.length : Int) < 1000 ∧ ∀ t', Calls Tryz.prog 49 #[.slice (some ⟨g, 0, none⟩) cond.length c, .int .i64 ((r.length : Int) - 1), .bool t'] w fun e w' => e = .returned (.int .i64 (startI m r t')) ∧ w = w') := fun t r e => by
      obtain ⟨h1, h2, h3⟩ := unhide HB t r e
      refine ⟨by omega, fun t' => ?_⟩
      have := unhide HI r.length (by omega) t'
      rwa [← h1] at this
    clear HI HB hT
    have hltI : (i : Int) < (cond.length : Int) := by omega
    have hnI : (cond.length : Int) ≤ 1000 := by omega
    clear hi hlt hn
    cases t with
    | false =>
      clear HI0 HI2
      by_cases h1 : 1 ≤ k
      · by_cases h7 : k ≤ 7
        · have HV : Hid (startI (m + 1) (k :: T) false = (i : Int)) := by show _ = _; simp [startI, backF, isVal, h1, h7, hTl]
          rw [unhide HV]
          clear HV hTl
          go_enter Tryz.func49, Tryz.ntmps49
          go_wp2
          go_ret
          exact ⟨rfl, rfl⟩
        · have HV : Hid (startI (m + 1) (k :: T) false = -1) := by show _ = _; simp [startI, backF, isVal, h7]
          rw [unhide HV]
          clear HV hTl
          go_enter Tryz.func49, Tryz.ntmps49
          go_wp2
          go_ret
          exact ⟨rfl, rfl⟩
      · have HV : Hid (startI (m + 1) (k :: T) false = -1) := by show _ = _; simp [startI, backF, isVal, h1]
        rw [unhide HV]
        clear HV hTl
        go_enter Tryz.func49, Tryz.ntmps49
        go_wp2
        go_ret
        exact ⟨rfl, rfl⟩
    | true =>
      by_cases h8 : k = 8
      · subst h8
        have HV : Hid (startI (m + 1) (8 :: T) true = (i : Int)) := by show _ = _; simp [startI, backF, hTl]
        rw [unhide HV]
        clear HV hTl HI0 HI2
        go_enter Tryz.func49, Tryz.ntmps49
        go_wp2
        go_ret
        exact ⟨rfl, rfl⟩
      by_cases h12 : k = 12
      · subst h12
        have HV : Hid (startI (m + 1) (12 :: T) true = startI m T true) := by show _ = _; simp [startI, backF]
        rw [unhide HV]
        clear HV hTl HI2 h8
        go_enter Tryz.func49, Tryz.ntmps49
        go_wp2_with fail
        refine (unhide HI0 true).mono ?_
        rintro e w1 ⟨rfl, rfl⟩
        go_wp2
        go_ret
        exact ⟨rfl, rfl⟩
      clear hTl
      by_cases h9 : k = 9
      · subst h9
        clear h8 h12
        · skip
          have HV1 : Hid (backF m T false = none → startI (m + 1) (9 :: T) true = -1) := fun e => by simp [startI, backF, e]
          have HV2 : Hid (∀ r, backF m T false = some r → startI (m + 1) (9 :: T) true = startI m r false) := fun r e => by simp [startI, backF, e]
          have HN : Hid (backF m T false = none → startI m T false = -1) := fun e => by unfold startI; rw [e]
          have HY : Hid (∀ r, backF m T false = some r → startI m T false = (r.length : Int)) := fun r e => by unfold startI; rw [e]
          go_enter Tryz.func49, Tryz.ntmps49
          go_wp2_with fail
          refine (unhide HI0 false).mono ?_
          rintro e w1 ⟨rfl, rfl⟩
          cases hb : backF m T false with
          | none =>
            rw [unhide HN hb]
            have HVN := hide (unhide HV1 hb)
            clear hb HV1 HV2 HN HY HI0 HI2
            go_wp2
            go_ret
            exact ⟨by rw [unhide HVN]; rfl, rfl⟩
          | some r =>
            obtain ⟨hr, hcall⟩ := unhide HI2 false r hb
            have HC := hide (hcall false)
            have hr0 : ¬ (r.length : Int) < 0 := by omega
            rw [unhide HY r hb]
            have HVN := hide (unhide HV2 r hb)
            clear hb HV1 HV2 HN HY HI0 HI2 hcall
            go_wp2_with fail
            refine (unhide HC).mono ?_
            rintro e w1 ⟨rfl, rfl⟩
            go_wp2
            go_ret
            exact ⟨by rw [unhide HVN]; rfl, rfl⟩
      by_cases h10 : k = 10
      · subst h10
        clear h8 h12 h9
        · skip
          have HV1 : Hid (backF m T true = none → startI (m + 1) (10 :: T) true = -1) := fun e => by simp [startI, backF, e]
          have HV2 : Hid (∀ r, backF m T true = some r → startI (m + 1) (10 :: T) true = startI m r true) := fun r e => by simp [startI, backF, e]
          have HN : Hid (backF m T true = none → startI m T true = -1) := fun e => by unfold startI; rw [e]
          have HY : Hid (∀ r, backF m T true = some r → startI m T true = (r.length : Int)) := fun r e => by unfold startI; rw [e]
          go_enter Tryz.func49, Tryz.ntmps49
          go_wp2_with fail
          refine (unhide HI0 true).mono ?_
          rintro e w1 ⟨rfl, rfl⟩
          cases hb : backF m T true with
          | none =>
            rw [unhide HN hb]
            have HVN := hide (unhide HV1 hb)
            clear hb HV1 HV2 HN HY HI0 HI2
            go_wp2
            go_ret
            exact ⟨by rw [unhide HVN]; rfl, rfl⟩
          | some r =>
            obtain ⟨hr, hcall⟩ := unhide HI2 true r hb
            have HC := hide (hcall true)
            have hr0 : ¬ (r.length : Int) < 0 := by omega
            rw [unhide HY r hb]
            have HVN := hide (unhide HV2 r hb)
            clear hb HV1 HV2 HN HY HI0 HI2 hcall
            go_wp2_with fail
            refine (unhide HC).mono ?_
            rintro e w1 ⟨rfl, rfl⟩
            go_wp2
            go_ret
            exact ⟨by rw [unhide HVN]; rfl, rfl⟩
      by_cases h11 : k = 11
      · subst h11
        clear h8 h12 h9 h10
        · skip
          have HV1 : Hid (backF m T true = none → startI (m + 1) (11 :: T) true = -1) := fun e => by simp [startI, backF, e]
          have HV2 : Hid (∀ r, backF m T true = some r → startI (m + 1) (11 :: T) true = startI m r true) := fun r e => by simp [startI, backF, e]
          have HN : Hid (backF m T true = none → startI m T true = -1) := fun e => by unfold startI; rw [e]
          have HY : Hid (∀ r, backF m T true = some r → startI m T true = (r.length : Int)) := fun r e => by unfold startI; rw [e]
          go_enter Tryz.func49, Tryz.ntmps49
          go_wp2_with fail
          refine (unhide HI0 true).mono ?_
          rintro e w1 ⟨rfl, rfl⟩
          cases hb : backF m T true with
          | none =>
            rw [unhide HN hb]
            have HVN := hide (unhide HV1 hb)
            clear hb HV1 HV2 HN HY HI0 HI2
            go_wp2
            go_ret
            exact ⟨by rw [unhide HVN]; rfl, rfl⟩
          | some r =>
            obtain ⟨hr, hcall⟩ := unhide HI2 true r hb
            have HC := hide (hcall true)
            have hr0 : ¬ (r.length : Int) < 0 := by omega
            rw [unhide HY r hb]
            have HVN := hide (unhide HV2 r hb)
            clear hb HV1 HV2 HN HY HI0 HI2 hcall
            go_wp2_with fail
            refine (unhide HC).mono ?_
            rintro e w1 ⟨rfl, rfl⟩
            go_wp2
            go_ret
            exact ⟨by rw [unhide HVN]; rfl, rfl⟩
      · have HV : Hid (startI (m + 1) (k :: T) true = -1) := by show _ = _; simp [startI, backF, h8, h9, h10, h11, h12]
        have b9 : (k != 9) = true := by simp [h9]
        have b10 : (k != 10) = true := by simp [h10]
        have b11 : (k != 11) = true := by simp [h11]
        rw [unhide HV]
        clear HV HI0 HI2
        go_enter Tryz.func49, Tryz.ntmps49
        go_wp2
        go_ret
        exact ⟨rfl, rfl⟩
end Go.Proofs.YtiolpmhodbefoaaGreatDoor


namespace Go.Proofs.YtiolpmhodbefoaaGreatDoor
open Go.RowKit

set_option maxRecDepth 100000 in
set_option maxHeartbeats 40000000 in
theorem selOk_walk (m : PSel) (v : Value) (bl : List Nat) (w : World) (h : ORow fopE w v m.cond bl) (hs : szSel m ≤ 1048576) :
    Calls Tryz.prog 27 #[.agg #[.int .i64 m.k, .string m.name, .bool m.hasA, .bool m.hasB, .bool m.hasC, .int .i64 m.a, .int .i64 m.b, .int .i64 m.c, v]] w fun e w' => e = .returned (.bool (selOk m)) ∧ Below w.heap.size w w' := by
  have HO := hide h
  have HZ := hide hs
  have hnz : m.name.size ≤ 1048576 := by unfold szSel at hs; omega
  have hcz : m.cond.length ≤ 1048576 := by unfold szSel szFops at hs; omega
  obtain ⟨K, name, ha, hb, hc, a, b, c, cond⟩ := m
  simp only at *
  have HP : Hid (∀ w, Calls Tryz.prog 46 #[.string name] w fun e w' => e = .returned (.bool (plainT name)) ∧ w = w') := fun w => plain_walk _ w hnz
  have HRa : Hid (∀ w, Calls Tryz.prog 47 #[.int .i64 a] w fun e w' => e = .returned (.bool (rangeI a)) ∧ w = w') := fun w => range_walk _ w
  have HRb : Hid (∀ w, Calls Tryz.prog 47 #[.int .i64 b] w fun e w' => e = .returned (.bool (rangeI b)) ∧ w = w') := fun w => range_walk _ w
  have HRc : Hid (∀ w, Calls Tryz.prog 47 #[.int .i64 c] w fun e w' => e = .returned (.bool (rangeI c)) ∧ w = w') := fun w => range_walk _ w
  have HB : Hid (∀ o, Below w.heap.size w (w.alloc o)) := fun o => alloc_b w o
  obtain ⟨ad, cp, rfl, -, hxa⟩ := h.form
  have HXA := hide hxa
  have hczI : (cond.length : Int) ≤ 1048576 := by omega
  clear h hs hnz hcz hxa
  have HA : Hid (selOk ⟨K, name, ha, hb, hc, a, b, c, cond⟩ = (decide (1 ≤ K) && decide (K ≤ 5) && plainT name && rangeI a && rangeI b && rangeI c && selB ⟨K, name, ha, hb, hc, a, b, c, cond⟩ && (K != 5 || condOk cond))) := rfl
  generalize selOk ⟨K, name, ha, hb, hc, a, b, c, cond⟩ = SO at *
  by_cases k1' : K < 1
  · have k1 : ¬ 1 ≤ K := by omega
    have HV : Hid (SO = false) := by show _ = _; rw [unhide HA]; simp [k1]
    clear HA HO HXA HZ
    go_enter Tryz.func27, Tryz.ntmps27
    go_wp2
    go_ret
    exact ⟨by rw [unhide HV]; rfl, unhide HB _⟩
  by_cases k5' : 5 < K
  · have k5 : ¬ K ≤ 5 := by omega
    have k1 : 1 ≤ K := by omega
    have HV : Hid (SO = false) := by show _ = _; rw [unhide HA]; simp [k5]
    clear HA HO HXA HZ
    go_enter Tryz.func27, Tryz.ntmps27
    go_wp2
    go_ret
    exact ⟨by rw [unhide HV]; rfl, unhide HB _⟩
  have k1 : 1 ≤ K := by omega
  have k5 : K ≤ 5 := by omega
  go_enter Tryz.func27, Tryz.ntmps27
  go_wp2_with fail
  refine (unhide HP _).mono ?_
  rintro e w1 ⟨rfl, rfl⟩
  cases hp : plainT name with
  | false =>
    have HV : Hid (SO = false) := by show _ = _; rw [unhide HA]; simp [hp]
    clear HA HO HXA HZ
    go_wp2
    go_ret
    exact ⟨by rw [unhide HV]; rfl, unhide HB _⟩
  | true =>
    go_wp2_with fail
    refine (unhide HRa _).mono ?_
    rintro e w1 ⟨rfl, rfl⟩
    cases har : rangeI a with
    | false =>
      have HV : Hid (SO = false) := by show _ = _; rw [unhide HA]; simp [har]
      clear HA HO HXA HZ
      go_wp2
      go_ret
      exact ⟨by rw [unhide HV]; rfl, unhide HB _⟩
    | true =>
      go_wp2_with fail
      refine (unhide HRb _).mono ?_
      rintro e w1 ⟨rfl, rfl⟩
      cases hbr : rangeI b with
      | false =>
        have HV : Hid (SO = false) := by show _ = _; rw [unhide HA]; simp [hbr]
        clear HA HO HXA HZ
        go_wp2
        go_ret
        exact ⟨by rw [unhide HV]; rfl, unhide HB _⟩
      | true =>
        go_wp2_with fail
        refine (unhide HRc _).mono ?_
        rintro e w1 ⟨rfl, rfl⟩
        cases hcr : rangeI c with
        | false =>
          have HV : Hid (SO = false) := by show _ = _; rw [unhide HA]; simp [hcr]
          clear HA HO HXA HZ
          go_wp2
          go_ret
          exact ⟨by rw [unhide HV]; rfl, unhide HB _⟩
        | true =>
          have HS : Hid (SO = (selB ⟨K, name, ha, hb, hc, a, b, c, cond⟩ && (K != 5 || condOk cond))) := by show _ = _; rw [unhide HA, hp, har, hbr, hcr, decide_eq_true k1, decide_eq_true k5]; rfl
          clear HA HP HRa HRb HRc hp har hbr hcr
          rcases (show K = 1 ∨ K = 2 ∨ K = 3 ∨ K = 4 ∨ K = 5 by omega) with rfl | rfl | rfl | rfl | rfl
          · clear k1 k5 k1' k5'
            cases ha with
            | true =>
              have HV : Hid (SO = false) := by show _ = _; rw [unhide HS]; simp [selB]
              clear HS
              go_wp2
              go_ret
              exact ⟨by rw [unhide HV]; rfl, unhide HB _⟩
            | false =>
              cases hb with
              | true =>
                have HV : Hid (SO = false) := by show _ = _; rw [unhide HS]; simp [selB]
                clear HS
                go_wp2
                go_ret
                exact ⟨by rw [unhide HV]; rfl, unhide HB _⟩
              | false =>
                cases hc with
                | true =>
                  have HV : Hid (SO = false) := by show _ = _; rw [unhide HS]; simp [selB]
                  clear HS
                  go_wp2
                  go_ret
                  exact ⟨by rw [unhide HV]; rfl, unhide HB _⟩
                | false =>
                  by_cases nb : b = 0
                  · subst nb
                    by_cases nc : c = 0
                    · subst nc
                      by_cases na : a = 0
                      · subst na
                        have HV : Hid (SO = decide ((cond.length : Int) = 0)) := by show _ = _; rw [unhide HS]; simp [selB]
                        clear HS HO HXA HZ
                        go_wp2
                        go_ret
                        exact ⟨by rw [unhide HV]; rfl, unhide HB _⟩
                      · skip
                        have na1 : (a != 0) = true := by simp [na]
                        have na2 : (a == 0) = false := by simp [na]
                        have HV : Hid (SO = false) := by show _ = _; rw [unhide HS]; simp [selB, na]
                        clear HS
                        go_wp2
                        go_ret
                        exact ⟨by rw [unhide HV]; rfl, unhide HB _⟩
                    · skip
                      have nc1 : (c != 0) = true := by simp [nc]
                      have nc2 : (c == 0) = false := by simp [nc]
                      have HV : Hid (SO = false) := by show _ = _; rw [unhide HS]; simp [selB, nc]
                      clear HS
                      go_wp2
                      go_ret
                      exact ⟨by rw [unhide HV]; rfl, unhide HB _⟩
                  · skip
                    have nb1 : (b != 0) = true := by simp [nb]
                    have nb2 : (b == 0) = false := by simp [nb]
                    have HV : Hid (SO = false) := by show _ = _; rw [unhide HS]; simp [selB, nb]
                    clear HS
                    go_wp2
                    go_ret
                    exact ⟨by rw [unhide HV]; rfl, unhide HB _⟩
          · clear k1 k5 k1' k5'
            cases he : name.toList.isEmpty with
            | false =>
              have HV : Hid (SO = false) := by show _ = _; rw [unhide HS]; simp [selB, empT, he]
              clear HS
              go_wp2
              go_ret
              exact ⟨by rw [unhide HV]; rfl, unhide HB _⟩
            | true =>
              cases ha with
              | true =>
                have HV : Hid (SO = false) := by show _ = _; rw [unhide HS]; simp [selB, empT, he]
                clear HS
                go_wp2
                go_ret
                exact ⟨by rw [unhide HV]; rfl, unhide HB _⟩
              | false =>
                cases hb with
                | true =>
                  have HV : Hid (SO = false) := by show _ = _; rw [unhide HS]; simp [selB, empT, he]
                  clear HS
                  go_wp2
                  go_ret
                  exact ⟨by rw [unhide HV]; rfl, unhide HB _⟩
                | false =>
                  cases hc with
                  | true =>
                    have HV : Hid (SO = false) := by show _ = _; rw [unhide HS]; simp [selB, empT, he]
                    clear HS
                    go_wp2
                    go_ret
                    exact ⟨by rw [unhide HV]; rfl, unhide HB _⟩
                  | false =>
                    by_cases nb : b = 0
                    · subst nb
                      by_cases nc : c = 0
                      · subst nc
                        by_cases na : a = 0
                        · subst na
                          have HV : Hid (SO = decide ((cond.length : Int) = 0)) := by show _ = _; rw [unhide HS]; simp [selB, empT, he]
                          clear HS HO HXA HZ
                          go_wp2
                          go_ret
                          exact ⟨by rw [unhide HV]; rfl, unhide HB _⟩
                        · skip
                          have na1 : (a != 0) = true := by simp [na]
                          have na2 : (a == 0) = false := by simp [na]
                          have HV : Hid (SO = false) := by show _ = _; rw [unhide HS]; simp [selB, empT, he, na]
                          clear HS
                          go_wp2
                          go_ret
                          exact ⟨by rw [unhide HV]; rfl, unhide HB _⟩
                      · skip
                        have nc1 : (c != 0) = true := by simp [nc]
                        have nc2 : (c == 0) = false := by simp [nc]
                        have HV : Hid (SO = false) := by show _ = _; rw [unhide HS]; simp [selB, empT, he, nc]
                        clear HS
                        go_wp2
                        go_ret
                        exact ⟨by rw [unhide HV]; rfl, unhide HB _⟩
                    · skip
                      have nb1 : (b != 0) = true := by simp [nb]
                      have nb2 : (b == 0) = false := by simp [nb]
                      have HV : Hid (SO = false) := by show _ = _; rw [unhide HS]; simp [selB, empT, he, nb]
                      clear HS
                      go_wp2
                      go_ret
                      exact ⟨by rw [unhide HV]; rfl, unhide HB _⟩
          · clear k1 k5 k1' k5'
            cases he : name.toList.isEmpty with
            | false =>
              have HV : Hid (SO = false) := by show _ = _; rw [unhide HS]; simp [selB, empT, he]
              clear HS
              go_wp2
              go_ret
              exact ⟨by rw [unhide HV]; rfl, unhide HB _⟩
            | true =>
              cases ha with
              | true =>
                have HV : Hid (SO = false) := by show _ = _; rw [unhide HS]; simp [selB, empT, he]
                clear HS
                go_wp2
                go_ret
                exact ⟨by rw [unhide HV]; rfl, unhide HB _⟩
              | false =>
                cases hb with
                | true =>
                  have HV : Hid (SO = false) := by show _ = _; rw [unhide HS]; simp [selB, empT, he]
                  clear HS
                  go_wp2
                  go_ret
                  exact ⟨by rw [unhide HV]; rfl, unhide HB _⟩
                | false =>
                  cases hc with
                  | true =>
                    have HV : Hid (SO = false) := by show _ = _; rw [unhide HS]; simp [selB, empT, he]
                    clear HS
                    go_wp2
                    go_ret
                    exact ⟨by rw [unhide HV]; rfl, unhide HB _⟩
                  | false =>
                    by_cases nb : b = 0
                    · subst nb
                      by_cases nc : c = 0
                      · subst nc
                        have HV : Hid (SO = decide ((cond.length : Int) = 0)) := by show _ = _; rw [unhide HS]; simp [selB, empT, he]
                        clear HS HO HXA HZ
                        go_wp2
                        go_ret
                        exact ⟨by rw [unhide HV]; rfl, unhide HB _⟩
                      · skip
                        have nc1 : (c != 0) = true := by simp [nc]
                        have nc2 : (c == 0) = false := by simp [nc]
                        have HV : Hid (SO = false) := by show _ = _; rw [unhide HS]; simp [selB, empT, he, nc]
                        clear HS
                        go_wp2
                        go_ret
                        exact ⟨by rw [unhide HV]; rfl, unhide HB _⟩
                    · skip
                      have nb1 : (b != 0) = true := by simp [nb]
                      have nb2 : (b == 0) = false := by simp [nb]
                      have HV : Hid (SO = false) := by show _ = _; rw [unhide HS]; simp [selB, empT, he, nb]
                      clear HS
                      go_wp2
                      go_ret
                      exact ⟨by rw [unhide HV]; rfl, unhide HB _⟩
          · clear k1 k5 k1' k5'
            cases he : name.toList.isEmpty with
            | false =>
              have HV : Hid (SO = false) := by show _ = _; rw [unhide HS]; simp [selB, empT, he]
              clear HS
              go_wp2
              go_ret
              exact ⟨by rw [unhide HV]; rfl, unhide HB _⟩
            | true =>
              cases ha with
              | true =>
                cases hb with
                | true =>
                  cases hc with
                  | true =>
                    have HV : Hid (SO = decide ((cond.length : Int) = 0)) := by show _ = _; rw [unhide HS]; simp [selB, empT, he]
                    clear HS HO HXA HZ
                    go_wp2
                    go_ret
                    exact ⟨by rw [unhide HV]; rfl, unhide HB _⟩
                  | false =>
                    by_cases nc : c = 0
                    · subst nc
                      have HV : Hid (SO = decide ((cond.length : Int) = 0)) := by show _ = _; rw [unhide HS]; simp [selB, empT, he]
                      clear HS HO HXA HZ
                      go_wp2
                      go_ret
                      exact ⟨by rw [unhide HV]; rfl, unhide HB _⟩
                    · skip
                      have nc1 : (c != 0) = true := by simp [nc]
                      have nc2 : (c == 0) = false := by simp [nc]
                      have HV : Hid (SO = false) := by show _ = _; rw [unhide HS]; simp [selB, empT, he, nc]
                      clear HS
                      go_wp2
                      go_ret
                      exact ⟨by rw [unhide HV]; rfl, unhide HB _⟩
                | false =>
                  by_cases nb : b = 0
                  · subst nb
                    cases hc with
                    | true =>
                      have HV : Hid (SO = decide ((cond.length : Int) = 0)) := by show _ = _; rw [unhide HS]; simp [selB, empT, he]
                      clear HS HO HXA HZ
                      go_wp2
                      go_ret
                      exact ⟨by rw [unhide HV]; rfl, unhide HB _⟩
                    | false =>
                      by_cases nc : c = 0
                      · subst nc
                        have HV : Hid (SO = decide ((cond.length : Int) = 0)) := by show _ = _; rw [unhide HS]; simp [selB, empT, he]
                        clear HS HO HXA HZ
                        go_wp2
                        go_ret
                        exact ⟨by rw [unhide HV]; rfl, unhide HB _⟩
                      · skip
                        have nc1 : (c != 0) = true := by simp [nc]
                        have nc2 : (c == 0) = false := by simp [nc]
                        have HV : Hid (SO = false) := by show _ = _; rw [unhide HS]; simp [selB, empT, he, nc]
                        clear HS
                        go_wp2
                        go_ret
                        exact ⟨by rw [unhide HV]; rfl, unhide HB _⟩
                  · skip
                    have nb1 : (b != 0) = true := by simp [nb]
                    have nb2 : (b == 0) = false := by simp [nb]
                    have HV : Hid (SO = false) := by show _ = _; rw [unhide HS]; simp [selB, empT, he, nb]
                    clear HS
                    go_wp2
                    go_ret
                    exact ⟨by rw [unhide HV]; rfl, unhide HB _⟩
              | false =>
                by_cases na : a = 0
                · subst na
                  cases hb with
                  | true =>
                    cases hc with
                    | true =>
                      have HV : Hid (SO = decide ((cond.length : Int) = 0)) := by show _ = _; rw [unhide HS]; simp [selB, empT, he]
                      clear HS HO HXA HZ
                      go_wp2
                      go_ret
                      exact ⟨by rw [unhide HV]; rfl, unhide HB _⟩
                    | false =>
                      by_cases nc : c = 0
                      · subst nc
                        have HV : Hid (SO = decide ((cond.length : Int) = 0)) := by show _ = _; rw [unhide HS]; simp [selB, empT, he]
                        clear HS HO HXA HZ
                        go_wp2
                        go_ret
                        exact ⟨by rw [unhide HV]; rfl, unhide HB _⟩
                      · skip
                        have nc1 : (c != 0) = true := by simp [nc]
                        have nc2 : (c == 0) = false := by simp [nc]
                        have HV : Hid (SO = false) := by show _ = _; rw [unhide HS]; simp [selB, empT, he, nc]
                        clear HS
                        go_wp2
                        go_ret
                        exact ⟨by rw [unhide HV]; rfl, unhide HB _⟩
                  | false =>
                    by_cases nb : b = 0
                    · subst nb
                      cases hc with
                      | true =>
                        have HV : Hid (SO = decide ((cond.length : Int) = 0)) := by show _ = _; rw [unhide HS]; simp [selB, empT, he]
                        clear HS HO HXA HZ
                        go_wp2
                        go_ret
                        exact ⟨by rw [unhide HV]; rfl, unhide HB _⟩
                      | false =>
                        by_cases nc : c = 0
                        · subst nc
                          have HV : Hid (SO = decide ((cond.length : Int) = 0)) := by show _ = _; rw [unhide HS]; simp [selB, empT, he]
                          clear HS HO HXA HZ
                          go_wp2
                          go_ret
                          exact ⟨by rw [unhide HV]; rfl, unhide HB _⟩
                        · skip
                          have nc1 : (c != 0) = true := by simp [nc]
                          have nc2 : (c == 0) = false := by simp [nc]
                          have HV : Hid (SO = false) := by show _ = _; rw [unhide HS]; simp [selB, empT, he, nc]
                          clear HS
                          go_wp2
                          go_ret
                          exact ⟨by rw [unhide HV]; rfl, unhide HB _⟩
                    · skip
                      have nb1 : (b != 0) = true := by simp [nb]
                      have nb2 : (b == 0) = false := by simp [nb]
                      have HV : Hid (SO = false) := by show _ = _; rw [unhide HS]; simp [selB, empT, he, nb]
                      clear HS
                      go_wp2
                      go_ret
                      exact ⟨by rw [unhide HV]; rfl, unhide HB _⟩
                · skip
                  have na1 : (a != 0) = true := by simp [na]
                  have na2 : (a == 0) = false := by simp [na]
                  have HV : Hid (SO = false) := by show _ = _; rw [unhide HS]; simp [selB, empT, he, na]
                  clear HS
                  go_wp2
                  go_ret
                  exact ⟨by rw [unhide HV]; rfl, unhide HB _⟩
          · clear k1 k5 k1' k5'
            cases he : name.toList.isEmpty with
            | false =>
              have HV : Hid (SO = false) := by show _ = _; rw [unhide HS]; simp [selB, empT, he]
              clear HS
              go_wp2
              go_ret
              exact ⟨by rw [unhide HV]; rfl, unhide HB _⟩
            | true =>
              cases ha with
              | true =>
                have HV : Hid (SO = false) := by show _ = _; rw [unhide HS]; simp [selB, empT, he]
                clear HS
                go_wp2
                go_ret
                exact ⟨by rw [unhide HV]; rfl, unhide HB _⟩
              | false =>
                cases hb with
                | true =>
                  have HV : Hid (SO = false) := by show _ = _; rw [unhide HS]; simp [selB, empT, he]
                  clear HS
                  go_wp2
                  go_ret
                  exact ⟨by rw [unhide HV]; rfl, unhide HB _⟩
                | false =>
                  cases hc with
                  | true =>
                    have HV : Hid (SO = false) := by show _ = _; rw [unhide HS]; simp [selB, empT, he]
                    clear HS
                    go_wp2
                    go_ret
                    exact ⟨by rw [unhide HV]; rfl, unhide HB _⟩
                  | false =>
                    by_cases nb : b = 0
                    · subst nb
                      by_cases nc : c = 0
                      · subst nc
                        by_cases na : a = 0
                        · subst na
                          have HV : Hid (SO = condOk cond) := by show _ = _; rw [unhide HS]; simp [selB, empT, he]
                          clear HS
                          obtain ⟨BX, hBX⟩ : ∃ BX : World → Prop, BX = fun wr => wr.heap[w.heap.size]? = some (Obj.cells #[.int .i64 5, .string name, .bool false, .bool false, .bool false, .int .i64 0, .int .i64 0, .int .i64 0, .slice ad cond.length cp] 46 (0, 0)) := ⟨_, rfl⟩
                          have HX0 : Hid (BX (w.alloc (Obj.cells #[.int .i64 5, .string name, .bool false, .bool false, .bool false, .int .i64 0, .int .i64 0, .int .i64 0, .slice ad cond.length cp] 46 (0, 0)))) := by rw [hBX]; exact heap_alloc_new w _
                          have HXN : Hid (∀ wr w', BX wr → Below wr.heap.size wr w' → BX w') := by rw [hBX]; exact fun wr w' h hb => (hb.block _ (Array.getElem?_eq_some_iff.1 h).1).trans h
                          have HBX : Hid (∀ wr, BX wr → wr.cell? ⟨w.heap.size, 8, none⟩ = some (.slice ad cond.length cp)) := by rw [hBX]; exact fun wr h => Lib.cell_of_heap h 8
                          have HB0 : Hid (Below w.heap.size w (w.alloc (Obj.cells #[.int .i64 5, .string name, .bool false, .bool false, .bool false, .int .i64 0, .int .i64 0, .int .i64 0, .slice ad cond.length cp] 46 (0, 0)))) := alloc_b w _
                          clear hBX
                          by_cases n1 : (cond.length : Int) < 1
                          · have HV2 : Hid (condOk cond = false) := by
                              show _ = _
                              rw [← condOk_start, decide_eq_false (show ¬ 1 ≤ cond.length by omega)]; rfl
                            clear HX0 HXN HBX HO HXA HZ
                            go_wp2
                            go_ret
                            exact ⟨by rw [unhide HV, unhide HV2]; rfl, unhide HB _⟩
                          by_cases n2 : (1000 : Int) < (cond.length : Int)
                          · have HV2 : Hid (condOk cond = false) := by
                              show _ = _
                              unfold condOk
                              rw [decide_eq_false (show ¬ cond.length ≤ 1000 by omega)]; rfl
                            clear HX0 HXN HBX HO HXA HZ
                            go_wp2
                            go_ret
                            exact ⟨by rw [unhide HV, unhide HV2]; rfl, unhide HB _⟩
                          have HNO : Hid (∀ j (hj : j < cond.length), fopOk cond[j] = false → condOk cond = false) := fun j hj e => by unfold condOk; rw [all_no hj e]; simp
                          have HYES : Hid ((∀ j (hj : j < cond.length), fopOk cond[j] = true) → condOk cond = decide (startI cond.length (cond.map (·.k)).reverse true = 0)) := fun e => by
                            rw [← condOk_start, all_yes e, decide_eq_true (show 1 ≤ cond.length by omega), decide_eq_true (show cond.length ≤ 1000 by omega)]
                            simp only [Bool.true_and]
                            rw [Bool.eq_iff_iff]; simp
                          obtain ⟨g, rfl⟩ : ∃ g : Nat, ad = some ⟨g, 0, none⟩ := unhide HXA (by omega)
                          have HROW : Hid (∀ (wr : World) (j : Nat) (hj : j < cond.length), Below w.heap.size w wr → ∃ q, wr.cell? ⟨g, j * 5, none⟩ = some (.int .i64 cond[j].k) ∧ wr.cell? ⟨g, j * 5 + 1, none⟩ = some (.int .i64 cond[j].n) ∧ wr.cell? ⟨g, j * 5 + 2, none⟩ = some (.string cond[j].s) ∧ wr.cell? ⟨g, j * 5 + 3, none⟩ = some (.bool cond[j].root) ∧ wr.cell? ⟨g, j * 5 + 4, none⟩ = some q ∧
                              Calls Tryz.prog 48 #[.agg #[.int .i64 cond[j].k, .int .i64 cond[j].n, .string cond[j].s, .bool cond[j].root, q]] wr fun e w' => e = .returned (.bool (fopOk cond[j])) ∧ Below wr.heap.size wr w') := by
                            intro wr j hj hb
                            obtain ⟨vs, ib, hE, hc, -, -, -⟩ := ((unhide HO).below hb).at (List.getElem?_eq_getElem hj)
                            obtain ⟨q, rfl, hst⟩ := hE
                            have hz := sz_fop (Nat.le_trans (Nat.le_add_left _ name.size) (unhide HZ)) (List.getElem_mem hj)
                            exact ⟨q, (hc 0 _ rfl).1, (hc 1 _ rfl).1, (hc 2 _ rfl).1, (hc 3 _ rfl).1, (hc 4 _ rfl).1, fopOk_walk _ q ib wr hst hz.1 hz.2⟩
                          have HST : Hid (∀ wr, Below w.heap.size w wr → Calls Tryz.prog 49 #[.slice (some ⟨g, 0, none⟩) cond.length cp, .int .i64 ((cond.length : Int) - 1), .bool true] wr fun e w' => e = .returned (.int .i64 (startI cond.length (cond.map (·.k)).reverse true)) ∧ wr = w') := fun wr hb => by
                            have := start_walk _ cond bl (by omega) cond.length cond.length true wr (Nat.le_refl _) (Nat.le_refl _) ((unhide HO).below hb)
                            rwa [List.take_of_length_le (by simp)] at this
                          clear HO HXA HZ
                          generalize condOk cond = CO at *
                          generalize startI cond.length (cond.map (·.k)).reverse true = SI at *
                          go_wp2
                          go_loopw [4] (fun iv wr => ∃ j : Nat, j ≤ cond.length ∧ iv = .int .i64 (j : Int) ∧ Below w.heap.size w wr ∧ BX wr ∧ Hid (∀ i (hi : i < cond.length), i < j → fopOk cond[i] = true)) (fun iv _ => cond.length - (intOf iv).toNat)
                          case atStart => exact ⟨0, Nat.zero_le _, rfl, unhide HB0, unhide HX0, fun i _ hi => by omega⟩
                          case round =>
                            obtain ⟨j, hj, rfl, hb, hbx, hd⟩ := hrel
                            have c8 := unhide HBX _ hbx
                            by_cases hlt : j < cond.length
                            · have hltI : (j : Int) < (cond.length : Int) := by omega
                              obtain ⟨q, d0, d1, d2, d3, d4, hcall⟩ := unhide HROW _ j hlt hb
                              have HC := hide hcall
                              have HBW := hide hb
                              have HBXW := hide hbx
                              have HJY : Hid (fopOk cond[j] = true → ∀ i (hi : i < cond.length), i < j + 1 → fopOk cond[i] = true) := fun e i hi h => by
                                by_cases ei : i = j
                                · subst ei; exact e
                                · exact unhide hd i hi (by omega)
                              have HJN : Hid (fopOk cond[j] = false → CO = false) := unhide HNO j hlt
                              clear hcall hb hbx hd HNO HROW HYES HST
                              generalize cond[j] = P at *
                              go_wp2_with fail
                              refine (unhide HC).mono ?_
                              rintro e w1 ⟨rfl, b1⟩
                              have HB2 := hide (below_next (unhide HBW) b1)
                              have HX2 := hide (unhide HXN _ _ (unhide HBXW) b1)
                              clear HC b1 d0 d1 d2 d3 d4 c8 HBW HBXW
                              cases hst : fopOk P with
                              | true =>
                                have HD := hide (unhide HJY hst)
                                clear hst HJY HJN
                                go_wp2
                                go_roundw
                                case rel => exact ⟨j + 1, by omega, by go_num, unhide HB2, unhide HX2, HD⟩
                                case measure => simp [intOf]; omega
                              | false =>
                                have HQ := hide (unhide HJN hst)
                                clear hst HJY HJN
                                go_wp2
                                go_ret
                                exact ⟨by rw [unhide HV, unhide HQ]; rfl, unhide HB2⟩
                            · have HQ := hide (unhide HYES fun i hi => unhide hd i hi (by omega))
                              have HC := hide (unhide HST _ hb)
                              have HBW := hide hb
                              clear hb hbx hd HNO HROW HYES HXN HBX HST
                              go_wp2_with fail
                              refine (unhide HC).mono ?_
                              rintro e w1 ⟨rfl, rfl⟩
                              clear HC
                              go_wp2
                              go_ret
                              exact ⟨by rw [unhide HV, unhide HQ]; rfl, unhide HBW⟩
                        · skip
                          have na1 : (a != 0) = true := by simp [na]
                          have na2 : (a == 0) = false := by simp [na]
                          have HV : Hid (SO = false) := by show _ = _; rw [unhide HS]; simp [selB, empT, he, na]
                          clear HS
                          go_wp2
                          go_ret
                          exact ⟨by rw [unhide HV]; rfl, unhide HB _⟩
                      · skip
                        have nc1 : (c != 0) = true := by simp [nc]
                        have nc2 : (c == 0) = false := by simp [nc]
                        have HV : Hid (SO = false) := by show _ = _; rw [unhide HS]; simp [selB, empT, he, nc]
                        clear HS
                        go_wp2
                        go_ret
                        exact ⟨by rw [unhide HV]; rfl, unhide HB _⟩
                    · skip
                      have nb1 : (b != 0) = true := by simp [nb]
                      have nb2 : (b == 0) = false := by simp [nb]
                      have HV : Hid (SO = false) := by show _ = _; rw [unhide HS]; simp [selB, empT, he, nb]
                      clear HS
                      go_wp2
                      go_ret
                      exact ⟨by rw [unhide HV]; rfl, unhide HB _⟩
end Go.Proofs.YtiolpmhodbefoaaGreatDoor


namespace Go.Proofs.YtiolpmhodbefoaaGreatDoor
open Go.RowKit

def segOk (g : PSeg) : Bool := decide (1 ≤ g.sels.length) && decide (g.sels.length ≤ 1000) && g.sels.all selOk
def pathOk (ms : List PSeg) : Bool := decide (ms.length ≤ 1000) && ms.all segOk
theorem sz_seg {ms : List PSeg} (h : szSegs ms ≤ 1048576) {g : PSeg} (hg : g ∈ ms) : szSels g.sels ≤ 1048576 := by
  have h1 := sum_mem szSeg hg
  have e1 : szSeg g = szSels g.sels := rfl
  have e2 : szSegs ms = ms.length + (ms.map szSeg).sum := rfl
  omega
theorem sz_sel {l : List PSel} (h : szSels l ≤ 1048576) {o : PSel} (ho : o ∈ l) : szSel o ≤ 1048576 := by
  have h1 := sum_mem szSel ho
  have e2 : szSels l = l.length + (l.map szSel).sum := rfl
  omega
set_option maxRecDepth 100000 in
set_option maxHeartbeats 8000000 in
theorem specPathOk_walk (v : Value) (ms : List PSeg) (bl : List Nat) (w : World) (h : ORow segE w v ms bl) (hs : szSegs ms ≤ 1048576) :
    Calls Tryz.prog 11 #[v] w fun e w' => e = .returned (.bool (pathOk ms)) ∧ Below w.heap.size w w' := by
  obtain ⟨a, c, rfl, -, hxa⟩ := h.form
  have hlen : ms.length ≤ 1048576 := by unfold szSegs at hs; omega
  have hlI : (ms.length : Int) ≤ 1048576 := by omega
  by_cases hbig : (1000 : Int) < (ms.length : Int)
  · have HV : Hid (pathOk ms = false) := by show _ = _; unfold pathOk; rw [decide_eq_false (show ¬ ms.length ≤ 1000 by omega)]; rfl
    clear h hxa hs
    go_enter Tryz.func11, Tryz.ntmps11
    go_wp2
    go_ret
    exact ⟨by rw [unhide HV]; rfl, Below.refl _ _⟩
  have HROW : Hid (∀ (wr : World) (i : Nat) (hi : i < ms.length), Below w.heap.size w wr → ∃ g sa sc, a = some ⟨g, 0, none⟩ ∧ (∀ w', Below w.heap.size w w' → w'.cell? ⟨g, i * 2 + 1, none⟩ = some (.slice sa ms[i].sels.length sc)) ∧
      ∀ (w' : World) (k : Nat) (hk : k < ms[i].sels.length), Below w.heap.size w w' → ∃ g' q, sa = some ⟨g', 0, none⟩ ∧ w'.cell? ⟨g', k * 9, none⟩ = some (.int .i64 ms[i].sels[k].k) ∧ w'.cell? ⟨g', k * 9 + 1, none⟩ = some (.string ms[i].sels[k].name) ∧ w'.cell? ⟨g', k * 9 + 2, none⟩ = some (.bool ms[i].sels[k].hasA) ∧ w'.cell? ⟨g', k * 9 + 3, none⟩ = some (.bool ms[i].sels[k].hasB) ∧ w'.cell? ⟨g', k * 9 + 4, none⟩ = some (.bool ms[i].sels[k].hasC) ∧ w'.cell? ⟨g', k * 9 + 5, none⟩ = some (.int .i64 ms[i].sels[k].a) ∧ w'.cell? ⟨g', k * 9 + 6, none⟩ = some (.int .i64 ms[i].sels[k].b) ∧ w'.cell? ⟨g', k * 9 + 7, none⟩ = some (.int .i64 ms[i].sels[k].c) ∧ w'.cell? ⟨g', k * 9 + 8, none⟩ = some q ∧
        Calls Tryz.prog 27 #[.agg #[.int .i64 ms[i].sels[k].k, .string ms[i].sels[k].name, .bool ms[i].sels[k].hasA, .bool ms[i].sels[k].hasB, .bool ms[i].sels[k].hasC, .int .i64 ms[i].sels[k].a, .int .i64 ms[i].sels[k].b, .int .i64 ms[i].sels[k].c, q]] w' fun e w'' => e = .returned (.bool (selOk ms[i].sels[k])) ∧ Below w'.heap.size w' w'') := by
    intro wr i hi hb
    obtain ⟨g, rfl⟩ := hxa (by omega)
    obtain ⟨vs, ib, hE, hc, -, -, -⟩ := h.at (List.getElem?_eq_getElem hi)
    obtain ⟨q, rfl, hr⟩ := hE
    obtain ⟨sa, sc, rfl, -, hsx⟩ := hr.form
    refine ⟨g, sa, sc, rfl, fun w' hb' => ?_, fun w' k hk hb' => ?_⟩
    · have h1 := (hc 1 _ rfl).1
      exact (hb'.cell (World.block_lt_of_cell? _ _ h1)).trans h1
    · obtain ⟨g', rfl⟩ := hsx (by omega)
      obtain ⟨vs2, ib2, hE2, hc2, -, -, -⟩ := (hr.below hb').at (List.getElem?_eq_getElem hk)
      obtain ⟨q2, rfl, hr2⟩ := hE2
      exact ⟨g', q2, rfl, (hc2 0 _ rfl).1, (hc2 1 _ rfl).1, (hc2 2 _ rfl).1, (hc2 3 _ rfl).1, (hc2 4 _ rfl).1, (hc2 5 _ rfl).1, (hc2 6 _ rfl).1, (hc2 7 _ rfl).1, (hc2 8 _ rfl).1, selOk_walk _ q2 ib2 w' hr2 (sz_sel (sz_seg hs (List.getElem_mem hi)) (List.getElem_mem hk))⟩
  have HNO : Hid (∀ i (hi : i < ms.length), segOk ms[i] = false → pathOk ms = false) := fun i hi e => by unfold pathOk; rw [all_no hi e, Bool.and_false]
  have HYES : Hid ((∀ i (hi : i < ms.length), segOk ms[i] = true) → pathOk ms = true) := fun e => by unfold pathOk; rw [all_yes e, decide_eq_true (by omega)]; rfl
  have HSL : Hid (∀ i (hi : i < ms.length), ms[i].sels.length ≤ 1048576) := fun i hi => by
    have := sz_seg hs (List.getElem_mem hi)
    unfold szSels at this
    omega
  clear h hxa hs
  generalize pathOk ms = PO at *
  go_enter Tryz.func11, Tryz.ntmps11
  go_wp2_with fail
  go_loopw [3] (fun iv wr => ∃ i : Nat, i ≤ ms.length ∧ iv = .int .i64 (i : Int) ∧ Below w.heap.size w wr ∧ Hid (∀ x (hx : x < ms.length), x < i → segOk ms[x] = true)) (fun i _ => ms.length - (intOf i).toNat)
  case atStart => exact ⟨0, by omega, rfl, Below.refl _ _, fun x _ hx => by omega⟩
  case round =>
    obtain ⟨i, hi, rfl, hb, hd⟩ := hrel
    by_cases hlt : i < ms.length
    · have hltI : (i : Int) < (ms.length : Int) := by omega
      obtain ⟨g, sa, sc, rfl, hc1, hin⟩ := unhide HROW _ i hlt hb
      have HC1 := hide hc1
      have HIN := hide hin
      have HJY : Hid (segOk ms[i] = true → ∀ x (hx : x < ms.length), x < i + 1 → segOk ms[x] = true) := fun e x hx h => by
        by_cases ex : x = i
        · subst ex; exact e
        · exact unhide hd x hx (by omega)
      have HJN : Hid (segOk ms[i] = false → PO = false) := unhide HNO i hlt
      have hsl := unhide HSL i hlt
      clear hc1 hin hd HNO HROW HYES HSL
      generalize ms[i] = G at *
      have hslI : (G.sels.length : Int) ≤ 1048576 := by omega
      have e1 := unhide HC1 _ hb
      have HBI := hide hb
      clear hb
      by_cases n1 : (G.sels.length : Int) < 1
      · have HQ := hide (unhide HJN (by unfold segOk; rw [decide_eq_false (show ¬ 1 ≤ G.sels.length by omega)]; rfl))
        clear HC1 HIN HJY HJN
        go_wp2
        go_ret
        exact ⟨by rw [unhide HQ]; rfl, unhide HBI⟩
      by_cases n2 : (1000 : Int) < (G.sels.length : Int)
      · have HQ := hide (unhide HJN (by unfold segOk; rw [decide_eq_false (show ¬ G.sels.length ≤ 1000 by omega), Bool.and_false]; rfl))
        clear HC1 HIN HJY HJN
        go_wp2
        go_ret
        exact ⟨by rw [unhide HQ]; rfl, unhide HBI⟩
      have HSN : Hid (∀ k (hk : k < G.sels.length), selOk G.sels[k] = false → PO = false) := fun k hk e => unhide HJN (by unfold segOk; rw [all_no hk e, Bool.and_false])
      have HSY : Hid ((∀ k (hk : k < G.sels.length), selOk G.sels[k] = true) → ∀ x (hx : x < ms.length), x < i + 1 → segOk ms[x] = true) := fun e => unhide HJY (by unfold segOk; rw [all_yes e, decide_eq_true (by omega), decide_eq_true (by omega)]; rfl)
      clear HJY HJN
      go_wp2_with fail
      go_loopw [5] (fun kv w2 => ∃ k : Nat, k ≤ G.sels.length ∧ kv = .int .i64 (k : Int) ∧ Below w.heap.size w w2 ∧ Hid (∀ x (hx : x < G.sels.length), x < k → selOk G.sels[x] = true)) (fun k _ => G.sels.length - (intOf k).toNat)
      case atStart => exact ⟨0, by omega, rfl, unhide HBI, fun x _ hx => by omega⟩
      case round =>
        obtain ⟨k, hk, rfl, hb2, hd2⟩ := hrel
        by_cases hlt2 : k < G.sels.length
        · have hlt2I : (k : Int) < (G.sels.length : Int) := by omega
          obtain ⟨g', q, rfl, d0, d1, d2, d3, d4, d5, d6, d7, d8, hcall⟩ := unhide HIN _ k hlt2 hb2
          have e2 := unhide HC1 _ hb2
          have HC := hide hcall
          have HBW := hide hb2
          have HKY : Hid (selOk G.sels[k] = true → ∀ x (hx : x < G.sels.length), x < k + 1 → selOk G.sels[x] = true) := fun e x hx h => by
            by_cases ex : x = k
            · subst ex; exact e
            · exact unhide hd2 x hx (by omega)
          have HKN : Hid (selOk G.sels[k] = false → PO = false) := unhide HSN k hlt2
          clear hcall hb2 hd2 HSN HSY HIN HC1
          generalize G.sels[k] = P at *
          go_wp2_with fail
          refine (unhide HC).mono ?_
          rintro e w1 ⟨rfl, b1⟩
          have HB2 := hide (below_next (unhide HBW) b1)
          clear HC b1 d0 d1 d2 d3 d4 d5 d6 d7 d8 e2 HBW
          cases hst : selOk P with
          | true =>
            have HD := hide (unhide HKY hst)
            clear hst HKY HKN
            go_wp2
            go_roundw
            case rel => exact ⟨k + 1, by omega, by go_num, unhide HB2, HD⟩
            case measure => simp [intOf]; omega
          | false =>
            have HQ := hide (unhide HKN hst)
            clear hst HKY HKN
            go_wp2
            go_ret
            exact ⟨by rw [unhide HQ]; rfl, unhide HB2⟩
        · have HD := hide (unhide HSY fun x hx => unhide hd2 x hx (by omega))
          have HBW := hide hb2
          clear hb2 hd2 HSN HSY HIN HC1
          go_wp2
          go_roundw
          case rel => exact ⟨i + 1, by omega, by go_num, unhide HBW, HD⟩
          case measure => simp [intOf]; omega
    · have HQ := hide (unhide HYES fun x hx => unhide hd x hx (by omega))
      have HBW := hide hb
      clear hb hd HNO HROW HYES HSL
      go_wp2
      go_ret
      exact ⟨by rw [unhide HQ]; rfl, unhide HBW⟩
end Go.Proofs.YtiolpmhodbefoaaGreatDoor


namespace Go.Proofs.YtiolpmhodbefoaaGreatDoor
open Go.RowKit

theorem goodInt_walk (n : Int) (w : World) : Calls Tryz.prog 89 #[.int .i64 n] w fun e w' => e = .returned (.bool (rangeI n)) ∧ w = w' := by
  unfold rangeI
  by_cases h1 : -1000000000 < n
  · by_cases h2 : n < 1000000000
    · have t1 : decide (-1000000000 < n) = true := decide_eq_true h1
      have t2 : decide (n < 1000000000) = true := decide_eq_true h2
      rw [t1, t2]
      go_enter Tryz.func89, Tryz.ntmps89
      go_wp2
      go_ret
      exact ⟨rfl, rfl⟩
    · have t1 : decide (-1000000000 < n) = true := decide_eq_true h1
      have t2 : decide (n < 1000000000) = false := decide_eq_false h2
      rw [t1, t2]
      go_enter Tryz.func89, Tryz.ntmps89
      go_wp2
      go_ret
      exact ⟨rfl, rfl⟩
  · have t1 : decide (-1000000000 < n) = false := decide_eq_false h1
    rw [t1]
    go_enter Tryz.func89, Tryz.ntmps89
    go_wp2
    go_ret
    exact ⟨rfl, rfl⟩
set_option maxRecDepth 100000 in
set_option maxHeartbeats 1000000 in
theorem goodText_walk (s : ByteArray) (w : World) (hs : s.size ≤ 1048576) : Calls Tryz.prog 88 #[.string s] w fun e w' => e = .returned (.bool (plainT s)) ∧ w = w' := by
  by_cases hl : (1000 : Int) < (s.size : Int)
  · have HQ : Hid (plainT s = false) := by
      show plainT s = false
      unfold plainT
      rw [decide_eq_false (show ¬ s.size ≤ 1000 by omega), Bool.and_false]
    go_enter Tryz.func88, Tryz.ntmps88
    go_wp2
    go_ret
    exact ⟨by rw [unhide HQ]; rfl, rfl⟩
  · have HL : Hid (s.size ≤ 1000) := by show _ ≤ _; omega
    go_enter Tryz.func88, Tryz.ntmps88
    go_wp2
    go_loopw [9] (fun iv wr => ∃ k : Nat, k ≤ s.size ∧ iv = .int .i64 (k : Int) ∧ w = wr ∧ Hid (∀ j (hj : j < s.size), j < k → 32 ≤ s[j].toNat)) (fun iv _ => s.size - (intOf iv).toNat)
    case atStart => exact ⟨0, Nat.zero_le _, rfl, rfl, fun j _ hj => by omega⟩
    case round =>
      obtain ⟨k, hk, rfl, rfl, hd⟩ := hrel
      by_cases hlt : k < s.size
      · have hltI : (k : Int) < (s.size : Int) := by omega
        by_cases hc : s[k].toNat < 32
        · have hcI : ((s[k].toNat : Nat) : Int) < 32 := by omega
          have HQ : Hid (plainT s = false) := by show plainT s = false; unfold plainT; rw [noLow_no hlt hc]; rfl
          clear hd
          go_wp2
          go_ret
          exact ⟨by rw [unhide HQ]; rfl, rfl⟩
        · have hcI : ¬ ((s[k].toNat : Nat) : Int) < 32 := by omega
          have HD : Hid (∀ j (hj : j < s.size), j < k + 1 → 32 ≤ s[j].toNat) := fun j hj h => by
            by_cases e : j = k
            · subst e; omega
            · exact unhide hd j hj (by omega)
          clear hd
          go_wp2
          go_roundw
          case rel => exact ⟨k + 1, by omega, by go_num, trivial, HD⟩
          case measure => simp [intOf]; omega
      · have HQ : Hid (plainT s = true) := by
          show plainT s = _
          unfold plainT
          rw [noLow_yes fun j hj => unhide hd j hj (by omega), decide_eq_true (unhide HL)]
          rfl
        clear hd
        go_wp2
        go_ret
        exact ⟨by rw [unhide HQ]; rfl, rfl⟩
theorem partsTaken_walk (k : Int) (w : World) : Calls Tryz.prog 90 #[.int .i64 k] w fun e w' => e = .returned (.int .i64 (parts k : Int)) ∧ w = w' := by
  unfold parts
  by_cases h9 : k = 9
  · subst h9
    go_enter Tryz.func90, Tryz.ntmps90
    go_wp2
    go_ret
    exact ⟨rfl, rfl⟩
  by_cases h10 : k = 10
  · subst h10
    go_enter Tryz.func90, Tryz.ntmps90
    go_wp2
    go_ret
    exact ⟨rfl, rfl⟩
  by_cases h11 : k = 11
  · subst h11
    go_enter Tryz.func90, Tryz.ntmps90
    go_wp2
    go_ret
    exact ⟨rfl, rfl⟩
  rw [if_neg (by omega)]
  by_cases h12 : k = 12
  · subst h12
    rw [if_pos rfl]
    go_enter Tryz.func90, Tryz.ntmps90
    go_wp2
    go_ret
    exact ⟨rfl, rfl⟩
  · rw [if_neg h12]
    go_enter Tryz.func90, Tryz.ntmps90
    go_wp2
    go_ret
    exact ⟨rfl, rfl⟩
theorem isRef_walk (k : Int) (w : World) : Calls Tryz.prog 112 #[.int .i64 k] w fun e w' => e = .returned (.bool (isRefK k)) ∧ w = w' := by
  by_cases h6 : k = 6
  · subst h6
    go_enter Tryz.func112, Tryz.ntmps112
    go_wp2
    go_ret
    exact ⟨rfl, rfl⟩
  by_cases h7 : k = 7
  · subst h7
    go_enter Tryz.func112, Tryz.ntmps112
    go_wp2
    go_ret
    exact ⟨rfl, rfl⟩
  by_cases h8 : k = 8
  · subst h8
    go_enter Tryz.func112, Tryz.ntmps112
    go_wp2
    go_ret
    exact ⟨rfl, rfl⟩
  go_enter Tryz.func112, Tryz.ntmps112
  go_wp2
  go_ret
  exact ⟨rfl, rfl⟩
set_option maxRecDepth 100000 in
set_option maxHeartbeats 1000000 in
theorem badStep_walk (m : PStep) (w : World) (hs : m.name.size ≤ 1048576) : Calls Tryz.prog 114 #[.agg #[.bool m.byI, .string m.name, .int .i64 m.idx]] w fun e w' => e = .returned (.bool (!stepOk m)) ∧ Below w.heap.size w w' := by
  have HR : Hid (∀ w, Calls Tryz.prog 89 #[.int .i64 m.idx] w fun e w' => e = .returned (.bool (rangeI m.idx)) ∧ w = w') := fun w => goodInt_walk _ w
  have HP : Hid (∀ w, Calls Tryz.prog 88 #[.string m.name] w fun e w' => e = .returned (.bool (plainT m.name)) ∧ w = w') := fun w => goodText_walk _ w hs
  have HE : Hid (stepOk m = if m.byI = true then empT m.name && rangeI m.idx else (m.idx == 0) && plainT m.name) := rfl
  have HB : Hid (∀ o, Below w.heap.size w (w.alloc o)) := fun o => alloc_b w o
  generalize rangeI m.idx = R at *
  generalize plainT m.name = Q at *
  obtain ⟨b, s, n⟩ := m
  simp only at *
  cases b with
  | true =>
    cases he : s.toList.isEmpty with
    | true =>
      have HX : Hid ((!stepOk ⟨true, s, n⟩) = !R) := by show _ = _; rw [unhide HE]; unfold empT; rw [he]; simp
      clear HE HP
      go_enter Tryz.func114, Tryz.ntmps114
      go_wp2_with fail
      refine (unhide HR _).mono ?_
      rintro e w1 ⟨rfl, rfl⟩
      go_wp2
      go_ret
      exact ⟨by rw [unhide HX]; rfl, unhide HB _⟩
    | false =>
      have HX : Hid ((!stepOk ⟨true, s, n⟩) = true) := by show _ = _; rw [unhide HE]; unfold empT; rw [he]; simp
      clear HE HP HR
      go_enter Tryz.func114, Tryz.ntmps114
      go_wp2
      go_ret
      exact ⟨by rw [unhide HX]; rfl, unhide HB _⟩
  | false =>
    by_cases hn : n = 0
    · subst hn
      have HX : Hid ((!stepOk ⟨false, s, 0⟩) = !Q) := by show _ = _; rw [unhide HE]; simp
      clear HE HR
      go_enter Tryz.func114, Tryz.ntmps114
      go_wp2_with fail
      refine (unhide HP _).mono ?_
      rintro e w1 ⟨rfl, rfl⟩
      go_wp2
      go_ret
      exact ⟨by rw [unhide HX]; rfl, unhide HB _⟩
    · have HX : Hid ((!stepOk ⟨false, s, n⟩) = true) := by show _ = _; rw [unhide HE]; simp [hn]
      clear HE HR HP
      go_enter Tryz.func114, Tryz.ntmps114
      go_wp2
      go_ret
      exact ⟨by rw [unhide HX]; rfl, unhide HB _⟩
/-- The table of comparisons: six of them. -/
theorem comparisons_walk (w : World) : Calls Tryz.prog 96 #[] w fun e w' => ∃ g, e = .returned (.slice (some ⟨g, 0, none⟩) 6 6) ∧ Below w.heap.size w w' := by
  have HB : Hid (∀ o, Below w.heap.size w (w.alloc o)) := fun o => alloc_b w o
  go_enter Tryz.func96, Tryz.ntmps96
  go_wp2
  go_ret
  exact ⟨_, rfl, unhide HB _⟩
end Go.Proofs.YtiolpmhodbefoaaGreatDoor

