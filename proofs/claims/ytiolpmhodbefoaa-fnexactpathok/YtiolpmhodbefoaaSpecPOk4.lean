import Derived.Test.YtiolpmhodbefoaaSpecPOk3
import Derived.Test.YtiolpmhodbefoaaCondT
namespace Go.Proofs.Ytiolpmhodbefoaa
open Go.RowKit

theorem startI_zero (n : Nat) (t : Bool) : startI n [] t = -1 := by cases n <;> rfl
theorem take_rev {ks : List Int} {i : Nat} (h : i < ks.length) : (ks.take (i + 1)).reverse = ks[i] :: (ks.take i).reverse := by
  rw [List.take_succ_eq_append_getElem h, List.reverse_append]; rfl
set_option maxRecDepth 100000 in
set_option maxHeartbeats 4000000 in
theorem start_walk (v : Value) (cond : List PFOp) (bl : List Nat) (hn : cond.length ≤ 1000) : ∀ (i : Nat) (n : Nat) (t : Bool) (w : World) (_ : i ≤ cond.length) (_ : i ≤ n) (_ : ORow fopE w v cond bl),
    Calls Try.prog 30 #[v, .int .i64 ((i : Int) - 1), .bool t] w fun e w' => e = .returned (.int .i64 (startI n ((cond.map (·.k)).take i).reverse t)) ∧ w = w' := by
  intro i
  induction i using Nat.strongRecOn with
  | _ i ih =>
  intro n t w hi hin h
  cases i with
  | zero =>
    have HX : Hid (startI n ((cond.map (·.k)).take 0).reverse t = -1) := by show _ = _; rw [List.take_zero]; exact startI_zero n t
    clear ih
    obtain ⟨a, c, rfl, -, -⟩ := h.form
    clear h
    rw [unhide HX]
    have h0 : ((0 : Nat) : Int) - 1 = -1 := rfl
    rw [h0]
    go_enter Try.func30, Try.ntmps30
    go_wp2
    go_ret
    exact ⟨rfl, rfl⟩
  | succ i =>
    have hlt : i < cond.length := by omega
    obtain ⟨m, rfl⟩ : ∃ m, n = m + 1 := ⟨n - 1, by omega⟩
    have hk : (cond.map (·.k))[i]'(by simpa using hlt) = cond[i].k := by simp
    have HX : Hid (∀ t, startI (m + 1) ((cond.map (·.k)).take (i + 1)).reverse t = startI (m + 1) (cond[i].k :: ((cond.map (·.k)).take i).reverse) t) := fun t => by rw [take_rev (by simpa using hlt), hk]
    have HI : Hid (∀ j ≤ i, ∀ t, Calls Try.prog 30 #[v, .int .i64 ((j : Int) - 1), .bool t] w fun e w' => e = .returned (.int .i64 (startI m ((cond.map (·.k)).take j).reverse t)) ∧ w = w') :=
      fun j hj t => ih j (by omega) m t w (by omega) (by omega) h
    have HB : Hid (∀ t r, backF m ((cond.map (·.k)).take i).reverse t = some r → r = ((cond.map (·.k)).take r.length).reverse ∧ r.length < i ∧ r.length < cond.length) := fun t r h => by simpa using back_take h
    obtain ⟨a, c, rfl, -, hxa⟩ := h.form
    obtain ⟨g, rfl⟩ := hxa (by omega)
    obtain ⟨vs, ib, hE, hc, -, -, -⟩ := h.at (List.getElem?_eq_getElem hlt)
    obtain ⟨q, rfl, -⟩ := hE
    have c0 := (hc 0 _ rfl).1
    simp only [show fopE.wd = 5 from rfl] at c0
    rw [show i * 5 + 0 = i * 5 from rfl] at c0
    clear ih hc hxa h hk
    have hx0 : ((i + 1 : Nat) : Int) - 1 = (i : Int) := by omega
    rw [hx0, unhide HX]
    clear hx0 HX hin
    generalize hT : ((cond.map (·.k)).take i).reverse = T at *
    generalize cond[i].k = k at *
    have hii : ¬ (i : Int) < 0 := by omega
    have hTl : T.length = i := by rw [← hT]; simp; omega
    have HI0 : Hid (∀ t, Calls Try.prog 30 #[.slice (some ⟨g, 0, none⟩) cond.length c, .int .i64 ((i : Int) - 1), .bool t] w fun e w' => e = .returned (.int .i64 (startI m T t)) ∧ w = w') := fun t => by
      have := unhide HI i (Nat.le_refl _) t
      rwa [hT] at this
    have HI2 : Hid (∀ t r, backF m T t = some r → (r.length : Int) < 1000 ∧ ∀ t', Calls Try.prog 30 #[.slice (some ⟨g, 0, none⟩) cond.length c, .int .i64 ((r.length : Int) - 1), .bool t'] w fun e w' => e = .returned (.int .i64 (startI m r t')) ∧ w = w') := fun t r e => by
      obtain ⟨h1, h2, h3⟩ := unhide HB t r e
      refine ⟨by omega, fun t' => ?_⟩
      have := unhide HI r.length (by omega) t'
      rwa [← h1] at this
    clear HI HB hT
    have hltI : (i : Int) < (cond.length : Int) := by omega
    have hnI : (cond.length : Int) ≤ 1000 := by omega
    clear hi hlt hn
    cases t with
    | false =>
      clear HI0 HI2
      by_cases h1 : 1 ≤ k
      · by_cases h7 : k ≤ 7
        · have HV : Hid (startI (m + 1) (k :: T) false = (i : Int)) := by show _ = _; simp [startI, backF, isVal, h1, h7, hTl]
          rw [unhide HV]
          clear HV hTl
          go_enter Try.func30, Try.ntmps30
          go_wp2
          go_ret
          exact ⟨rfl, rfl⟩
        · have HV : Hid (startI (m + 1) (k :: T) false = -1) := by show _ = _; simp [startI, backF, isVal, h7]
          rw [unhide HV]
          clear HV hTl
          go_enter Try.func30, Try.ntmps30
          go_wp2
          go_ret
          exact ⟨rfl, rfl⟩
      · have HV : Hid (startI (m + 1) (k :: T) false = -1) := by show _ = _; simp [startI, backF, isVal, h1]
        rw [unhide HV]
        clear HV hTl
        go_enter Try.func30, Try.ntmps30
        go_wp2
        go_ret
        exact ⟨rfl, rfl⟩
    | true =>
      by_cases h8 : k = 8
      · subst h8
        have HV : Hid (startI (m + 1) (8 :: T) true = (i : Int)) := by show _ = _; simp [startI, backF, hTl]
        rw [unhide HV]
        clear HV hTl HI0 HI2
        go_enter Try.func30, Try.ntmps30
        go_wp2
        go_ret
        exact ⟨rfl, rfl⟩
      by_cases h12 : k = 12
      · subst h12
        have HV : Hid (startI (m + 1) (12 :: T) true = startI m T true) := by show _ = _; simp [startI, backF]
        rw [unhide HV]
        clear HV hTl HI2 h8
        go_enter Try.func30, Try.ntmps30
        go_wp2_with fail
        refine (unhide HI0 true).mono ?_
        rintro e w1 ⟨rfl, rfl⟩
        go_wp2
        go_ret
        exact ⟨rfl, rfl⟩
      clear hTl
      by_cases h9 : k = 9
      · subst h9
        clear h8 h12
        · skip
          have HV1 : Hid (backF m T false = none → startI (m + 1) (9 :: T) true = -1) := fun e => by simp [startI, backF, e]
          have HV2 : Hid (∀ r, backF m T false = some r → startI (m + 1) (9 :: T) true = startI m r false) := fun r e => by simp [startI, backF, e]
          have HN : Hid (backF m T false = none → startI m T false = -1) := fun e => by unfold startI; rw [e]
          have HY : Hid (∀ r, backF m T false = some r → startI m T false = (r.length : Int)) := fun r e => by unfold startI; rw [e]
          go_enter Try.func30, Try.ntmps30
          go_wp2_with fail
          refine (unhide HI0 false).mono ?_
          rintro e w1 ⟨rfl, rfl⟩
          cases hb : backF m T false with
          | none =>
            rw [unhide HN hb]
            have HVN := hide (unhide HV1 hb)
            clear hb HV1 HV2 HN HY HI0 HI2
            go_wp2
            go_ret
            exact ⟨by rw [unhide HVN]; rfl, rfl⟩
          | some r =>
            obtain ⟨hr, hcall⟩ := unhide HI2 false r hb
            have HC := hide (hcall false)
            have hr0 : ¬ (r.length : Int) < 0 := by omega
            rw [unhide HY r hb]
            have HVN := hide (unhide HV2 r hb)
            clear hb HV1 HV2 HN HY HI0 HI2 hcall
            go_wp2_with fail
            refine (unhide HC).mono ?_
            rintro e w1 ⟨rfl, rfl⟩
            go_wp2
            go_ret
            exact ⟨by rw [unhide HVN]; rfl, rfl⟩
      by_cases h10 : k = 10
      · subst h10
        clear h8 h12 h9
        · skip
          have HV1 : Hid (backF m T true = none → startI (m + 1) (10 :: T) true = -1) := fun e => by simp [startI, backF, e]
          have HV2 : Hid (∀ r, backF m T true = some r → startI (m + 1) (10 :: T) true = startI m r true) := fun r e => by simp [startI, backF, e]
          have HN : Hid (backF m T true = none → startI m T true = -1) := fun e => by unfold startI; rw [e]
          have HY : Hid (∀ r, backF m T true = some r → startI m T true = (r.length : Int)) := fun r e => by unfold startI; rw [e]
          go_enter Try.func30, Try.ntmps30
          go_wp2_with fail
          refine (unhide HI0 true).mono ?_
          rintro e w1 ⟨rfl, rfl⟩
          cases hb : backF m T true with
          | none =>
            rw [unhide HN hb]
            have HVN := hide (unhide HV1 hb)
            clear hb HV1 HV2 HN HY HI0 HI2
            go_wp2
            go_ret
            exact ⟨by rw [unhide HVN]; rfl, rfl⟩
          | some r =>
            obtain ⟨hr, hcall⟩ := unhide HI2 true r hb
            have HC := hide (hcall true)
            have hr0 : ¬ (r.length : Int) < 0 := by omega
            rw [unhide HY r hb]
            have HVN := hide (unhide HV2 r hb)
            clear hb HV1 HV2 HN HY HI0 HI2 hcall
            go_wp2_with fail
            refine (unhide HC).mono ?_
            rintro e w1 ⟨rfl, rfl⟩
            go_wp2
            go_ret
            exact ⟨by rw [unhide HVN]; rfl, rfl⟩
      by_cases h11 : k = 11
      · subst h11
        clear h8 h12 h9 h10
        · skip
          have HV1 : Hid (backF m T true = none → startI (m + 1) (11 :: T) true = -1) := fun e => by simp [startI, backF, e]
          have HV2 : Hid (∀ r, backF m T true = some r → startI (m + 1) (11 :: T) true = startI m r true) := fun r e => by simp [startI, backF, e]
          have HN : Hid (backF m T true = none → startI m T true = -1) := fun e => by unfold startI; rw [e]
          have HY : Hid (∀ r, backF m T true = some r → startI m T true = (r.length : Int)) := fun r e => by unfold startI; rw [e]
          go_enter Try.func30, Try.ntmps30
          go_wp2_with fail
          refine (unhide HI0 true).mono ?_
          rintro e w1 ⟨rfl, rfl⟩
          cases hb : backF m T true with
          | none =>
            rw [unhide HN hb]
            have HVN := hide (unhide HV1 hb)
            clear hb HV1 HV2 HN HY HI0 HI2
            go_wp2
            go_ret
            exact ⟨by rw [unhide HVN]; rfl, rfl⟩
          | some r =>
            obtain ⟨hr, hcall⟩ := unhide HI2 true r hb
            have HC := hide (hcall true)
            have hr0 : ¬ (r.length : Int) < 0 := by omega
            rw [unhide HY r hb]
            have HVN := hide (unhide HV2 r hb)
            clear hb HV1 HV2 HN HY HI0 HI2 hcall
            go_wp2_with fail
            refine (unhide HC).mono ?_
            rintro e w1 ⟨rfl, rfl⟩
            go_wp2
            go_ret
            exact ⟨by rw [unhide HVN]; rfl, rfl⟩
      · have HV : Hid (startI (m + 1) (k :: T) true = -1) := by show _ = _; simp [startI, backF, h8, h9, h10, h11, h12]
        have b9 : (k != 9) = true := by simp [h9]
        have b10 : (k != 10) = true := by simp [h10]
        have b11 : (k != 11) = true := by simp [h11]
        rw [unhide HV]
        clear HV HI0 HI2
        go_enter Try.func30, Try.ntmps30
        go_wp2
        go_ret
        exact ⟨rfl, rfl⟩
end Go.Proofs.Ytiolpmhodbefoaa
