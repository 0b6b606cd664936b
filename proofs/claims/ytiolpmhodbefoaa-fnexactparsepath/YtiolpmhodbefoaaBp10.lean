import Derived.Test.YtiolpmhodbefoaaBp9
import Derived.Test.YtiolpmhodbefoaaBp1
namespace Go.Proofs.Ytiolpmhodbefoaa
open Go.RowKit

/-- What stands at a place and behind it. -/
def dr (s : ByteArray) (i : Nat) : Bs := s.data.toList.drop i
theorem dr_at {s : ByteArray} {i : Nat} (h : i < s.size) : dr s i = s[i] :: dr s (i + 1) := by
  have hl : i < s.data.toList.length := by rw [data_len]; exact h
  unfold dr
  rw [← List.getElem_cons_drop (h := hl)]; rfl
theorem dr_end {s : ByteArray} {i : Nat} (h : s.size ≤ i) : dr s i = [] := by
  unfold dr
  exact List.drop_of_length_le (by rw [data_len]; exact h)
theorem dr_len (s : ByteArray) (i : Nat) : (dr s i).length = s.size - i := by
  unfold dr
  rw [List.length_drop, data_len]
theorem dr_one {s : ByteArray} {m : Nat} (hm : m < (dr s 1).length) (h : m + 1 < s.size) : (dr s 1)[m] = s[m + 1] := by
  have e : (dr s 1)[m]? = some s[m + 1] := by
    unfold dr
    rw [List.getElem?_drop, Nat.add_comm, getElem_data s (m + 1) h]
  rw [List.getElem?_eq_getElem hm] at e
  injection e
theorem dr_zero (s : ByteArray) : dr s 0 = s.data.toList := rfl
set_option maxHeartbeats 800000 in
theorem letter_walk (c : UInt8) (w : World) : Calls Try.prog 38 #[.int .u8 (c.toNat : Int)] w fun e w' => e = .returned (.bool (isLet c)) ∧ w = w' := by
  have HV : Hid (isLet c = ((decide (97 ≤ c.toNat) && decide (c.toNat ≤ 122)) || (decide (65 ≤ c.toNat) && decide (c.toNat ≤ 90)) || decide (c.toNat = 95))) := rfl
  generalize isLet c = L at *
  generalize c.toNat = n at *
  by_cases h1 : 97 ≤ n
  · have i1 : (97 : Int) ≤ (n : Int) := by omega
    by_cases h2 : n ≤ 122
    · have i2 : (n : Int) ≤ 122 := by omega
      go_enter Try.func38, Try.ntmps38
      go_wp2
      go_ret
      exact ⟨by rw [unhide HV]; simp [h1, h2], rfl⟩
    · have i2 : ¬ (n : Int) ≤ 122 := by omega
      have i3 : (65 : Int) ≤ (n : Int) := by omega
      have i4 : ¬ (n : Int) ≤ 90 := by omega
      have i5 : ¬ (n : Int) = 95 := by omega
      go_enter Try.func38, Try.ntmps38
      go_wp2
      go_ret
      exact ⟨by rw [unhide HV]; simp [h2, show ¬ n ≤ 90 by omega, show ¬ n = 95 by omega, i5], rfl⟩
  · have i1 : ¬ (97 : Int) ≤ (n : Int) := by omega
    by_cases h3 : 65 ≤ n
    · have i3 : (65 : Int) ≤ (n : Int) := by omega
      by_cases h4 : n ≤ 90
      · have i4 : (n : Int) ≤ 90 := by omega
        go_enter Try.func38, Try.ntmps38
        go_wp2
        go_ret
        exact ⟨by rw [unhide HV]; simp [h3, h4], rfl⟩
      · have i4 : ¬ (n : Int) ≤ 90 := by omega
        by_cases h5 : n = 95
        · have i5 : (n : Int) = 95 := by omega
          go_enter Try.func38, Try.ntmps38
          go_wp2
          go_ret
          exact ⟨by rw [unhide HV]; simp [h5], rfl⟩
        · have i5 : ¬ (n : Int) = 95 := by omega
          go_enter Try.func38, Try.ntmps38
          go_wp2
          go_ret
          exact ⟨by rw [unhide HV]; simp [h1, h4, h5, i5], rfl⟩
    · have i3 : ¬ (65 : Int) ≤ (n : Int) := by omega
      have i5 : ¬ (n : Int) = 95 := by omega
      go_enter Try.func38, Try.ntmps38
      go_wp2
      go_ret
      exact ⟨by rw [unhide HV]; simp [h1, h3, show ¬ n = 95 by omega, i5], rfl⟩
set_option maxHeartbeats 800000 in
theorem digB_walk (c : UInt8) (w : World) : Calls Try.prog 39 #[.int .u8 (c.toNat : Int)] w fun e w' => e = .returned (.bool (isDg c.toNat)) ∧ w = w' := by
  generalize c.toNat = b
  by_cases h : 48 ≤ b
  · have HD : Hid (isDg b = decide ((b : Int) ≤ 57)) := by
      show _ = _
      unfold isDg
      rw [decide_eq_true h, Bool.true_and]
      apply decide_eq_decide.2; omega
    have h1 : (48 : Int) ≤ (b : Int) := by omega
    go_enter Try.func39, Try.ntmps39
    go_wp2
    go_ret
    exact ⟨by rw [unhide HD]; rfl, rfl⟩
  · have HD : Hid (isDg b = false) := by
      show _ = _
      unfold isDg
      rw [decide_eq_false h, Bool.false_and]
    have h1 : ¬ (48 : Int) ≤ (b : Int) := by omega
    go_enter Try.func39, Try.ntmps39
    go_wp2
    go_ret
    exact ⟨by rw [unhide HD]; rfl, rfl⟩
/-- Bytes of a name so far. -/
def NmUp (s : ByteArray) (k : Nat) : Prop := ∀ j (hj : j < s.size), j < k → isLet s[j] = true ∨ (j ≠ 0 ∧ isDg s[j].toNat = true)
theorem nm_yes {s : ByteArray} (h : NmUp s s.size) : sName s.data.toList = decide (0 < s.size) := by
  by_cases h0 : 0 < s.size
  · have e := dr_at h0
    rw [dr_zero] at e
    rw [e, decide_eq_true h0]
    show (isLet s[0] && (dr s 1).all isNm) = true
    rw [Bool.and_eq_true, List.all_eq_true]
    refine ⟨?_, fun c hc => ?_⟩
    · rcases h 0 h0 h0 with h | ⟨h, -⟩
      · exact h
      · exact absurd rfl h
    · obtain ⟨m, hm, rfl⟩ := List.mem_iff_getElem.1 hc
      have hm2 : m + 1 < s.size := by rw [dr_len] at hm; omega
      have e2 : (dr s 1)[m] = s[m + 1] := dr_one hm hm2
      rw [e2]
      unfold isNm
      rcases h (m + 1) hm2 hm2 with h | ⟨-, h⟩ <;> simp [h]
  · rw [decide_eq_false h0]
    have e : s.data.toList = [] := by rw [← dr_zero]; exact dr_end (by omega)
    rw [e]; rfl
theorem nm_no {s : ByteArray} {k : Nat} (hk : k < s.size) (h1 : isLet s[k] = false) (h2 : k = 0 ∨ isDg s[k].toNat = false) : sName s.data.toList = false := by
  have h0 : 0 < s.size := by omega
  have e := dr_at h0
  rw [dr_zero] at e
  rw [e]
  show (isLet s[0] && (dr s 1).all isNm) = false
  cases k with
  | zero => rw [h1]; rfl
  | succ m =>
    have h2' : isDg s[m + 1].toNat = false := by rcases h2 with h | h; cases h; exact h
    have : (dr s 1).all isNm = false := by
      rw [List.all_eq_false]
      refine ⟨s[m + 1], ?_, by unfold isNm; rw [h1, h2']; decide⟩
      have hm : m < (dr s 1).length := by rw [dr_len]; omega
      have e2 : (dr s 1)[m] = s[m + 1] := dr_one hm hk
      rw [← e2]
      exact List.getElem_mem hm
    rw [this, Bool.and_false]
set_option maxRecDepth 100000 in
set_option maxHeartbeats 1600000 in
theorem isName_walk (s : ByteArray) (w : World) (hs : s.size ≤ 1048576) : Calls Try.prog 40 #[.string s] w fun e w' => e = .returned (.bool (sName s.data.toList)) ∧ w = w' := by
  have HL : Hid (∀ (k : Nat) (hk : k < s.size) (w : World), Calls Try.prog 38 #[.int .u8 (s[k].toNat : Int)] w fun e w' => e = .returned (.bool (isLet s[k])) ∧ w = w') := fun k hk w => letter_walk _ w
  have HD : Hid (∀ (k : Nat) (hk : k < s.size) (w : World), Calls Try.prog 39 #[.int .u8 (s[k].toNat : Int)] w fun e w' => e = .returned (.bool (isDg s[k].toNat)) ∧ w = w') := fun k hk w => digB_walk _ w
  go_enter Try.func40, Try.ntmps40
  go_wp2
  go_loopw [3] (fun iv wr => ∃ k : Nat, k ≤ s.size ∧ iv = .int .i64 (k : Int) ∧ w = wr ∧ Hid (NmUp s k)) (fun iv _ => s.size - (intOf iv).toNat)
  case atStart => exact ⟨0, Nat.zero_le _, rfl, rfl, fun j _ hj => by omega⟩
  case round =>
    obtain ⟨k, hk, rfl, rfl, hd⟩ := hrel
    by_cases hlt : k < s.size
    · have hltI : (k : Int) < (s.size : Int) := by omega
      have HLk := hide (unhide HL k hlt w)
      have HDk := hide (unhide HD k hlt w)
      clear HL HD
      have step : ∀ (hok : isLet s[k] = true ∨ (k ≠ 0 ∧ isDg s[k].toNat = true)), Hid (NmUp s (k + 1)) := fun hok j hj h => by
        by_cases e : j = k
        · subst e; exact hok
        · exact unhide hd j hj (by omega)
      cases hl : isLet s[k] with
      | true =>
        rw [hl] at HLk
        have HN := step (.inl hl)
        clear hd step hl HDk
        go_wp2_with fail
        refine (unhide HLk).mono ?_
        rintro e w2 ⟨rfl, rfl⟩
        clear HLk
        go_wp2
        go_roundw
        case rel => exact ⟨k + 1, by omega, by go_num, trivial, HN⟩
        case measure => simp [intOf]; omega
      | false =>
        rw [hl] at HLk
        by_cases h0 : k = 0
        · have HQ : Hid (sName s.data.toList = false) := nm_no hlt hl (.inl h0)
          clear hd step hl HDk
          subst h0
          have hltI : (0 : Int) < (s.size : Int) := by omega
          go_wp2_with fail
          refine (unhide HLk).mono ?_
          rintro e w2 ⟨rfl, rfl⟩
          clear HLk
          go_wp2
          go_ret
          exact ⟨by rw [unhide HQ]; rfl, rfl⟩
        · have h0I : ¬ (k : Int) = 0 := by omega
          cases hg : isDg s[k].toNat with
          | true =>
            rw [hg] at HDk
            have HN := step (.inr ⟨h0, hg⟩)
            clear hd step hl hg
            go_wp2_with fail
            refine (unhide HLk).mono ?_
            rintro e w2 ⟨rfl, rfl⟩
            clear HLk
            go_wp2_with fail
            refine (unhide HDk).mono ?_
            rintro e w2 ⟨rfl, rfl⟩
            clear HDk
            go_wp2
            go_roundw
            case rel => exact ⟨k + 1, by omega, by go_num, trivial, HN⟩
            case measure => simp [intOf]; omega
          | false =>
            rw [hg] at HDk
            have HQ : Hid (sName s.data.toList = false) := nm_no hlt hl (.inr hg)
            clear hd step hl hg
            go_wp2_with fail
            refine (unhide HLk).mono ?_
            rintro e w2 ⟨rfl, rfl⟩
            clear HLk
            go_wp2_with fail
            refine (unhide HDk).mono ?_
            rintro e w2 ⟨rfl, rfl⟩
            clear HDk
            go_wp2
            go_ret
            exact ⟨by rw [unhide HQ]; rfl, rfl⟩
    · obtain rfl : k = s.size := by omega
      have HQ : Hid (sName s.data.toList = decide (0 < s.size)) := nm_yes (unhide hd)
      clear hd HL HD
      go_wp2
      go_ret
      exact ⟨by rw [unhide HQ]; simp, rfl⟩
end Go.Proofs.Ytiolpmhodbefoaa


namespace Go.Proofs.Ytiolpmhodbefoaa
open Go.RowKit

theorem u8_is {c d : UInt8} (h : c = d) : ((c.toNat : Nat) : Int) = ((d.toNat : Nat) : Int) := by rw [h]
theorem u8_not {c d : UInt8} (h : ¬ c = d) : ¬ ((c.toNat : Nat) : Int) = ((d.toNat : Nat) : Int) := fun e => h (UInt8.toNat_inj.1 (by omega))
/-- The place behind a string. -/
def plcO (s : ByteArray) (o : Option Bs) : Int := match o with
  | none => -1
  | some t => ((s.size - t.length : Nat) : Int)
set_option maxRecDepth 100000 in
set_option maxHeartbeats 1600000 in
theorem strEnd_walk (s : ByteArray) (i : Nat) (hi : i < s.size) (w : World) (hs : s.size ≤ 1048576) : Calls Try.prog 53 #[.string s, .int .i64 (i : Int)] w fun e w' => e = .returned (.int .i64 (plcO s (sE (dr s (i + 1))))) ∧ w = w' := by
  generalize hR : plcO s (sE (dr s (i + 1))) = R
  have HR := hide hR
  clear hR
  go_enter Try.func53, Try.ntmps53
  go_wp2
  go_loopw [1] (fun iv wr => ∃ k : Nat, k ≤ s.size + 1 ∧ iv = .int .i64 (k : Int) ∧ w = wr ∧ Hid (plcO s (sE (dr s k)) = R)) (fun iv _ => s.size + 1 - (intOf iv).toNat)
  case atStart => exact ⟨i + 1, by omega, by go_num, rfl, HR⟩
  case round =>
    obtain ⟨k, hk, rfl, rfl, hd⟩ := hrel
    clear HR
    by_cases hlt : k < s.size
    · have hltI : (k : Int) < (s.size : Int) := by omega
      have hE := dr_at hlt
      by_cases h92 : s[k] = 92
      · have h92I : ((s[k].toNat : Nat) : Int) = 92 := u8_is h92
        have HN : Hid (plcO s (sE (dr s (k + 2))) = R) := by
          show _ = _
          rw [← unhide hd, hE, sE_con, if_pos h92]
          by_cases h2 : k + 1 < s.size
          · rw [dr_at h2]
          · rw [dr_end (s := s) (i := k + 1) (by omega), dr_end (s := s) (i := k + 2) (by omega)]; rfl
        clear hd hE h92
        go_wp2
        go_roundw
        case rel => exact ⟨k + 2, by omega, by go_num, trivial, HN⟩
        case measure => simp [intOf]; omega
      · have h92I : ¬ ((s[k].toNat : Nat) : Int) = 92 := u8_not h92
        by_cases h39 : s[k] = 39
        · have h39I : ((s[k].toNat : Nat) : Int) = 39 := u8_is h39
          have HN : Hid ((k : Int) + 1 = R) := by
            show _ = _
            rw [← unhide hd, hE, sE_con, if_neg h92, if_pos h39]
            show _ = ((s.size - (dr s (k + 1)).length : Nat) : Int)
            rw [dr_len]; omega
          clear hd hE h39 h92
          go_wp2
          go_ret
          exact ⟨by rw [← unhide HN]; congr 2, rfl⟩
        · have h39I : ¬ ((s[k].toNat : Nat) : Int) = 39 := u8_not h39
          have HN : Hid (plcO s (sE (dr s (k + 1))) = R) := by
            show _ = _
            rw [← unhide hd, hE, sE_con, if_neg h92, if_neg h39]
          clear hd hE h39 h92
          go_wp2
          go_roundw
          case rel => exact ⟨k + 1, by omega, by go_num, trivial, HN⟩
          case measure => simp [intOf]; omega
    · have HN : Hid (R = -1) := by
        show _ = _
        rw [← unhide hd, dr_end (by omega)]; rfl
      have hltI : ¬ (k : Int) < (s.size : Int) := by omega
      clear hd
      go_wp2
      go_ret
      exact ⟨by rw [unhide HN]; rfl, rfl⟩
end Go.Proofs.Ytiolpmhodbefoaa


namespace Go.Proofs.Ytiolpmhodbefoaa
open Go.RowKit

theorem dr_dr (s : ByteArray) (i j : Nat) : (dr s i).drop j = dr s (i + j) := by unfold dr; rw [List.drop_drop]
/-- What comes behind a string, and where. -/
theorem sE_dr {s : ByteArray} {k : Nat} (hk : k < s.size) {t : Bs} (h : sE (dr s (k + 1)) = some t) : t = dr s (s.size - t.length) ∧ t.length + (k + 1) < s.size := by
  have h1 := sE_drop h
  have h2 := sE_len h
  rw [dr_len] at h1 h2
  rw [dr_dr, show k + 1 + (s.size - (k + 1) - t.length) = s.size - t.length by omega] at h1
  exact ⟨h1.symm, by omega⟩
theorem clo_39 (o : Int) (i : Nat) (r : Bs) : clo o i (39 :: r) = (match sE r with
    | none => none
    | some t => clo o (i + (r.length + 1 - t.length)) t) := by
  rw [clo, if_pos rfl]
  split <;> rename_i h <;> rw [h]
theorem clo_hit {o : Int} {i : Nat} {r : Bs} {c : UInt8} (hc : c ≠ 39) (h : brkO o c = 0) : clo o i (c :: r) = some (i + 1) := by rw [clo, if_neg hc, if_pos h]
theorem clo_nil (o : Int) (i : Nat) : clo o i [] = none := by rw [clo]
def natO (o : Option Nat) : Int := match o with
  | none => -1
  | some n => (n : Int)
set_option maxRecDepth 100000 in
set_option maxHeartbeats 3200000 in
theorem close_walk (s : ByteArray) (w : World) (hs : s.size ≤ 1048576) : Calls Try.prog 35 #[.string s] w fun e w' => e = .returned (.int .i64 (natO (clo 0 0 s.data.toList))) ∧ w = w' := by
  have HE : Hid (∀ (k : Nat) (hk : k < s.size) (w : World), Calls Try.prog 53 #[.string s, .int .i64 (k : Int)] w fun e w' => e = .returned (.int .i64 (plcO s (sE (dr s (k + 1))))) ∧ w = w') := fun k hk w => strEnd_walk s k hk w hs
  generalize hR : natO (clo 0 0 s.data.toList) = R
  have HR : Hid (natO (clo 0 0 (dr s 0)) = R) := hR
  clear hR
  go_enter Try.func35, Try.ntmps35
  go_wp2
  go_loopw [3, 4] (fun ov iv wr => ∃ (k : Nat) (o : Int), k ≤ s.size ∧ ov = .int .i64 o ∧ iv = .int .i64 (k : Int) ∧ -(k : Int) ≤ o ∧ o ≤ (k : Int) ∧ w = wr ∧ Hid (natO (clo o k (dr s k)) = R)) (fun _ iv _ => s.size - (intOf iv).toNat)
  case atStart => exact ⟨0, 0, by omega, rfl, rfl, by simp, by simp, rfl, HR⟩
  case round =>
    obtain ⟨k, o, hk, rfl, rfl, hO1, hO2, rfl, hd⟩ := hrel
    clear HR
    by_cases hlt : k < s.size
    · have hltI : (k : Int) < (s.size : Int) := by omega
      have hE := dr_at hlt
      have HEk := hide (unhide HE k hlt w)
      clear HE
      by_cases h39 : s[k] = 39
      · have h39I : ((s[k].toNat : Nat) : Int) = 39 := u8_is h39
        rw [hE, h39] at hd
        cases ht : sE (dr s (k + 1)) with
        | none =>
          rw [ht] at HEk
          have HN : Hid (R = -1) := by
            show _ = _
            rw [← unhide hd, clo_39, ht]; rfl
          clear hd hE h39 ht
          go_wp2_with fail
          refine (unhide HEk).mono ?_
          rintro e w2 ⟨rfl, rfl⟩
          clear HEk
          go_wp2
          go_ret
          exact ⟨by rw [unhide HN]; rfl, rfl⟩
        | some t =>
          rw [ht] at HEk
          obtain ⟨e1, e2⟩ := sE_dr hlt ht
          have HN : Hid (natO (clo o (s.size - t.length) (dr s (s.size - t.length))) = R) := by
            show _ = _
            rw [← unhide hd, clo_39, ht]
            simp only
            rw [← e1, dr_len]
            congr 2; omega
          have hq : ∃ q : Nat, s.size - t.length = q ∧ k < q ∧ q ≤ s.size := ⟨_, rfl, by omega, by omega⟩
          obtain ⟨q, hq, hq1, hq2⟩ := hq
          have HEq : Hid (Calls Try.prog 53 #[.string s, .int .i64 (k : Int)] w fun e w' => e = .returned (.int .i64 (q : Int)) ∧ w = w') := by
            have := unhide HEk
            unfold plcO at this
            simp only at this
            rw [hq] at this
            exact this
          rw [hq] at HN
          have hqI : ¬ (q : Int) < 0 := by omega
          clear hd hE h39 ht HEk e1 e2 hq
          go_wp2_with fail
          refine (unhide HEq).mono ?_
          rintro e w2 ⟨rfl, rfl⟩
          clear HEq
          go_wp2
          go_roundw
          case rel => exact ⟨q, o, hq2, rfl, rfl, by omega, by omega, trivial, HN⟩
          case measure => simp [intOf]; omega
      · have h39I : ¬ ((s[k].toNat : Nat) : Int) = 39 := u8_not h39
        clear HEk
        by_cases h40 : s[k] = 40
        · have h40I : ((s[k].toNat : Nat) : Int) = 40 := u8_is h40
          have HB : Hid (brkO o s[k] = o + 1) := by show _ = _; unfold brkO; rw [if_pos (.inl h40)]
          by_cases h0 : o + 1 = 0
          · have HN : Hid ((k : Int) + 1 = R) := by
              show _ = _
              rw [← unhide hd, hE, clo_hit h39 (by rw [unhide HB]; exact h0)]; rfl
            clear hd hE h39 HB h40
            go_wp2
            go_ret
            exact ⟨by rw [← unhide HN]; congr 2, rfl⟩
          · have HN : Hid (natO (clo (o + 1) (k + 1) (dr s (k + 1))) = R) := by
              show _ = _
              rw [← unhide hd, hE, clo_chr h39 (by rw [unhide HB]; exact h0), unhide HB]
            clear hd hE h39 HB h40
            go_wp2
            go_roundw
            case rel => exact ⟨k + 1, o + 1, by omega, by go_num, by go_num, by omega, by omega, trivial, HN⟩
            case measure => simp [intOf]; omega
        · have h40I : ¬ ((s[k].toNat : Nat) : Int) = 40 := u8_not h40
          by_cases h91 : s[k] = 91
          · have h91I : ((s[k].toNat : Nat) : Int) = 91 := u8_is h91
            have HB : Hid (brkO o s[k] = o + 1) := by show _ = _; unfold brkO; rw [if_pos (.inr h91)]
            by_cases h0 : o + 1 = 0
            · have HN : Hid ((k : Int) + 1 = R) := by
                show _ = _
                rw [← unhide hd, hE, clo_hit h39 (by rw [unhide HB]; exact h0)]; rfl
              clear hd hE h39 HB h40 h91
              go_wp2
              go_ret
              exact ⟨by rw [← unhide HN]; congr 2, rfl⟩
            · have HN : Hid (natO (clo (o + 1) (k + 1) (dr s (k + 1))) = R) := by
                show _ = _
                rw [← unhide hd, hE, clo_chr h39 (by rw [unhide HB]; exact h0), unhide HB]
              clear hd hE h39 HB h40 h91
              go_wp2
              go_roundw
              case rel => exact ⟨k + 1, o + 1, by omega, by go_num, by go_num, by omega, by omega, trivial, HN⟩
              case measure => simp [intOf]; omega
          · have h91I : ¬ ((s[k].toNat : Nat) : Int) = 91 := u8_not h91
            by_cases h41 : s[k] = 41
            · have h41I : ((s[k].toNat : Nat) : Int) = 41 := u8_is h41
              have HB : Hid (brkO o s[k] = o - 1) := by show _ = _; unfold brkO; rw [if_neg (by rintro (h | h); exact h40 h; exact h91 h), if_pos (.inl h41)]
              by_cases h0 : o - 1 = 0
              · have HN : Hid ((k : Int) + 1 = R) := by
                  show _ = _
                  rw [← unhide hd, hE, clo_hit h39 (by rw [unhide HB]; exact h0)]; rfl
                clear hd hE h39 HB h40 h91 h41
                go_wp2
                go_ret
                exact ⟨by rw [← unhide HN]; congr 2, rfl⟩
              · have HN : Hid (natO (clo (o - 1) (k + 1) (dr s (k + 1))) = R) := by
                  show _ = _
                  rw [← unhide hd, hE, clo_chr h39 (by rw [unhide HB]; exact h0), unhide HB]
                clear hd hE h39 HB h40 h91 h41
                go_wp2
                go_roundw
                case rel => exact ⟨k + 1, o - 1, by omega, by go_num, by go_num, by omega, by omega, trivial, HN⟩
                case measure => simp [intOf]; omega
            · have h41I : ¬ ((s[k].toNat : Nat) : Int) = 41 := u8_not h41
              by_cases h93 : s[k] = 93
              · have h93I : ((s[k].toNat : Nat) : Int) = 93 := u8_is h93
                have HB : Hid (brkO o s[k] = o - 1) := by show _ = _; unfold brkO; rw [if_neg (by rintro (h | h); exact h40 h; exact h91 h), if_pos (.inr h93)]
                by_cases h0 : o - 1 = 0
                · have HN : Hid ((k : Int) + 1 = R) := by
                    show _ = _
                    rw [← unhide hd, hE, clo_hit h39 (by rw [unhide HB]; exact h0)]; rfl
                  clear hd hE h39 HB h40 h91 h41 h93
                  go_wp2
                  go_ret
                  exact ⟨by rw [← unhide HN]; congr 2, rfl⟩
                · have HN : Hid (natO (clo (o - 1) (k + 1) (dr s (k + 1))) = R) := by
                    show _ = _
                    rw [← unhide hd, hE, clo_chr h39 (by rw [unhide HB]; exact h0), unhide HB]
                  clear hd hE h39 HB h40 h91 h41 h93
                  go_wp2
                  go_roundw
                  case rel => exact ⟨k + 1, o - 1, by omega, by go_num, by go_num, by omega, by omega, trivial, HN⟩
                  case measure => simp [intOf]; omega
              · have h93I : ¬ ((s[k].toNat : Nat) : Int) = 93 := u8_not h93
                have HB : Hid (brkO o s[k] = o) := by show _ = _; unfold brkO; rw [if_neg (by rintro (h | h); exact h40 h; exact h91 h), if_neg (by rintro (h | h); exact h41 h; exact h93 h)]
                by_cases h0 : o = 0
                · have HN : Hid ((k : Int) + 1 = R) := by
                    show _ = _
                    rw [← unhide hd, hE, clo_hit h39 (by rw [unhide HB]; exact h0)]; rfl
                  clear hd hE h39 HB h40 h91 h41 h93
                  subst h0
                  have b40 : (((s[k].toNat : Nat) : Int) == 40) = false := beq_eq_false_iff_ne.2 h40I
                  have b91 : (((s[k].toNat : Nat) : Int) == 91) = false := beq_eq_false_iff_ne.2 h91I
                  have b41 : (((s[k].toNat : Nat) : Int) == 41) = false := beq_eq_false_iff_ne.2 h41I
                  have b93 : (((s[k].toNat : Nat) : Int) == 93) = false := beq_eq_false_iff_ne.2 h93I
                  go_wp2
                  go_ret
                  exact ⟨by rw [← unhide HN]; congr 2, rfl⟩
                · have HN : Hid (natO (clo (o) (k + 1) (dr s (k + 1))) = R) := by
                    show _ = _
                    rw [← unhide hd, hE, clo_chr h39 (by rw [unhide HB]; exact h0), unhide HB]
                  clear hd hE h39 HB h40 h91 h41 h93
                  have b40 : (((s[k].toNat : Nat) : Int) == 40) = false := beq_eq_false_iff_ne.2 h40I
                  have b91 : (((s[k].toNat : Nat) : Int) == 91) = false := beq_eq_false_iff_ne.2 h91I
                  have b41 : (((s[k].toNat : Nat) : Int) == 41) = false := beq_eq_false_iff_ne.2 h41I
                  have b93 : (((s[k].toNat : Nat) : Int) == 93) = false := beq_eq_false_iff_ne.2 h93I
                  go_wp2
                  go_roundw
                  case rel => exact ⟨k + 1, o, by omega, by go_num, by go_num, by omega, by omega, trivial, HN⟩
                  case measure => simp [intOf]; omega
    · have HN : Hid (R = -1) := by
        show _ = _
        rw [← unhide hd, dr_end (by omega), clo_nil]; rfl
      have hltI : ¬ (k : Int) < (s.size : Int) := by omega
      clear hd HE
      go_wp2
      go_ret
      exact ⟨by rw [unhide HN]; rfl, rfl⟩
end Go.Proofs.Ytiolpmhodbefoaa

