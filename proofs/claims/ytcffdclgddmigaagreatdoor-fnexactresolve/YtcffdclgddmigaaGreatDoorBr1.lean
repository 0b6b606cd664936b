import Derived.Test.YtcffdclgddmigaaGreatDoorBn41
import Derived.Test.YtcffdclgddmigaaGreatDoorBn10
namespace Go.Proofs.YtcffdclgddmigaaGreatDoor
open Go.RowKit

/-- A token's index as the model gives it. -/
def idxZ (t : List UInt8) : Int := match idxT t with
  | some i => (i : Int)
  | none => -1
theorem tokD (s : ByteArray) (k : Nat) (h : k < s.size) : s.data.toList[k]'(by rw [data_len]; exact h) = s[k] := rfl
theorem dig_lt : ∀ (n : Nat) (t : List UInt8), t.length = n → digV t < 10 ^ n ∨ ¬ (∀ c ∈ t, isDg c.toNat = true) := by
  intro n
  induction n with
  | zero => intro t h; rw [List.eq_nil_of_length_eq_zero h]; exact .inl (by simp [digV])
  | succ n ih =>
    intro t h
    rcases List.eq_nil_or_concat t with e | ⟨a, c, e⟩
    · subst e; simp at h
    · rw [List.concat_eq_append] at e
      subst e
      by_cases hd : ∀ x ∈ a ++ [c], isDg x.toNat = true
      · left
        have hc := isDg_iff.1 (hd c (by simp))
        rcases ih a (by simpa using h) with h1 | h1
        · rw [digV_snoc, Nat.pow_succ]; omega
        · exact absurd (fun x hx => hd x (by simp [hx])) h1
      · exact .inr hd

set_option maxRecDepth 100000 in
set_option maxHeartbeats 4000000 in
theorem l1Index_walk (s : ByteArray) (w : World) (hs : s.size ≤ 1048576) :
    Calls Tryz.prog 95 #[.string s] w fun e w' => e = .returned (.int .i64 (idxZ s.data.toList)) ∧ w = w' := by
  have hbad : ¬ idxOk s.data.toList = true → idxZ s.data.toList = -1 := fun h => by unfold idxZ idxT; rw [if_neg h]
  have hdl := data_len s
  by_cases h1 : s.size < 1
  · have HB := hide (hbad (fun h => by have := (idxOk_iff.1 h).1; omega))
    have t1 : (s.size : Int) < 1 := by omega
    clear hbad h1
    go_enter Tryz.func95, Tryz.ntmps95
    go_wp2
    go_ret
    exact ⟨by rw [unhide HB]; rfl, rfl⟩
  · have t1 : ¬ (s.size : Int) < 1 := by omega
    by_cases h6 : 6 < s.size
    · have HB := hide (hbad (fun h => by have := (idxOk_iff.1 h).2.1; omega))
      have t2 : (6 : Int) < (s.size : Int) := by omega
      clear hbad h1 h6
      go_enter Tryz.func95, Tryz.ntmps95
      go_wp2
      go_ret
      exact ⟨by rw [unhide HB]; rfl, rfl⟩
    · have t2 : ¬ (6 : Int) < (s.size : Int) := by omega
      have h0 : 0 < s.size := by omega
      have hg0 : (s.data.toList.getD 0 0) = s[0] := by rw [List.getD, List.getElem?_eq_getElem (by omega)]; rfl
      have hI : (0 : Int) < (s.size : Int) := by omega
      by_cases hz : s[0].toNat = 48 ∧ 1 < s.size
      · have HB := hide (hbad (fun h => (idxOk_iff.1 h).2.2.1 ⟨by rw [hg0]; exact hz.1, by omega⟩))
        have t3 : ((s[0].toNat : Int) == 48) = true := by rw [beq_iff_eq]; omega
        have t4 : (1 : Int) < (s.size : Int) := by omega
        clear hbad h1 h6 hz hg0
        go_enter Tryz.func95, Tryz.ntmps95
        go_wp2
        go_ret
        exact ⟨by rw [unhide HB]; rfl, rfl⟩
      · have HD : Hid (∀ (k : Nat) (hk : k < s.size) (w : World), Calls Tryz.prog 80 #[.int .u8 (s[k].toNat : Int)] w fun e w' => e = .returned (.bool (isDg s[k].toNat)) ∧ w = w') := fun k hk w => digit_walk s[k].toNat w
        have HBAD : Hid (∀ k (hk : k < s.size), isDg s[k].toNat = false → idxZ s.data.toList = -1) := fun k hk hd => hbad (fun h => by
          have := (idxOk_iff.1 h).2.2.2 s[k] (by rw [← tokD s k hk]; exact List.getElem_mem _)
          rw [hd] at this; cases this)
        have HGOOD : Hid ((∀ k (hk : k < s.size), isDg s[k].toNat = true) → idxZ s.data.toList = (digV s.data.toList : Int)) := fun hall => by
          have hok : idxOk s.data.toList = true := idxOk_iff.2 ⟨by omega, by omega, fun ⟨a, b⟩ => hz ⟨by rw [← hg0]; exact a, by omega⟩, fun c hc => by
            obtain ⟨j, hj, rfl⟩ := List.getElem_of_mem hc
            exact hall j (by omega)⟩
          unfold idxZ idxT; rw [if_pos hok]
        have t34 : ((s[0].toNat : Int) == 48) = false ∨ ((s[0].toNat : Int) == 48) = true ∧ ¬ (1 : Int) < (s.size : Int) := by
          by_cases e : s[0].toNat = 48
          · right; exact ⟨by rw [beq_iff_eq]; omega, by omega⟩
          · left; rw [beq_eq_false_iff_ne]; omega
        have h6' : s.size ≤ 6 := by omega
        clear hbad hz hg0 h1 h6
        rcases t34 with t3 | ⟨t3, t4⟩
        all_goals
          go_enter Tryz.func95, Tryz.ntmps95
          go_wp2
          go_loopw [3, 4] (fun vv iv wr => ∃ k : Nat, k ≤ s.size ∧ iv = .int .i64 (k : Int) ∧ vv = .int .i64 ((digV (s.data.toList.take k) : Nat) : Int) ∧ (∀ j (hj : j < s.size), j < k → isDg s[j].toNat = true) ∧ w = wr) (fun _ iv _ => s.size - (intOf iv).toNat)
          case atStart => exact ⟨0, Nat.zero_le _, rfl, rfl, fun j _ hj => by omega, rfl⟩
          case round =>
            obtain ⟨k, hk, rfl, rfl, hall, rfl⟩ := hrel
            have HALL := hide hall
            clear hall
            by_cases hlt : k < s.size
            · have hltI : (k : Int) < (s.size : Int) := by omega
              have HDk := hide (unhide HD k hlt w)
              have hst : s.data.toList.take (k + 1) = s.data.toList.take k ++ [s[k]] := bytes_snoc s k hlt
              have HST : Hid (digV (s.data.toList.take (k + 1)) = digV (s.data.toList.take k) * 10 + (s[k].toNat - 48)) := by show _ = _; rw [hst, digV_snoc]
              have hlo : digV (s.data.toList.take k) < 1000000 ∨ ¬ ∀ c ∈ s.data.toList.take k, isDg c.toNat = true := by
                rcases dig_lt k (s.data.toList.take k) (by rw [List.length_take]; omega) with h | h
                · left
                  have : 10 ^ k ≤ 10 ^ 6 := Nat.pow_le_pow_right (by omega) (by omega)
                  omega
                · exact .inr h
              have hlo' : digV (s.data.toList.take k) < 1000000 := hlo.elim id fun h => absurd (fun c hc => by
                obtain ⟨j, hj, rfl⟩ := List.getElem_of_mem hc
                rw [List.length_take] at hj
                rw [List.getElem_take]
                exact unhide HALL j (by omega) (by omega)) h
              cases hd : isDg s[k].toNat with
              | false =>
                have HV := hide (unhide HBAD k hlt hd)
                rw [hd] at HDk
                clear hd HST hst hlo hlo' HALL HBAD HGOOD HD
                go_wp2_with fail
                refine (unhide HDk).mono ?_
                rintro e w2 ⟨rfl, rfl⟩
                clear HDk
                go_wp2
                go_ret
                exact ⟨by rw [unhide HV]; rfl, rfl⟩
              | true =>
                have hb := isDg_iff.1 hd
                have HA2 : Hid (∀ j (hj : j < s.size), j < k + 1 → isDg s[j].toNat = true) := fun j hj hjk => by
                  by_cases e : j = k
                  · subst e; exact hd
                  · exact unhide HALL j hj (by omega)
                rw [hd] at HDk
                have hb1 : (48 : Int) ≤ (s[k].toNat : Int) := by omega
                have hb2 : (s[k].toNat : Int) ≤ 57 := by omega
                generalize digV (s.data.toList.take k) = D at *
                clear hd hst hlo HALL HBAD HGOOD HD
                go_wp2_with fail
                refine (unhide HDk).mono ?_
                rintro e w2 ⟨rfl, rfl⟩
                clear HDk
                go_wp2
                go_roundw
                case rel => exact ⟨k + 1, by omega, by go_num, by rw [unhide HST]; go_num, unhide HA2, trivial⟩
                case measure => simp [intOf]; omega
            · have e : s.data.toList.take k = s.data.toList := List.take_of_length_le (by omega)
              rw [e]
              have HV := hide (unhide HGOOD (fun j hj => unhide HALL j hj (by omega)))
              generalize digV s.data.toList = D at *
              clear HALL HBAD HGOOD HD e
              go_wp2
              go_ret
              exact ⟨by rw [unhide HV]; rfl, rfl⟩
end Go.Proofs.YtcffdclgddmigaaGreatDoor
