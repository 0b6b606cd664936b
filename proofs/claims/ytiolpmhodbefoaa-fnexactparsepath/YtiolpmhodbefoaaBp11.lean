import Derived.Test.YtiolpmhodbefoaaBp10
import Derived.Test.YtiolpmhodbefoaaBp2

namespace Go.Proofs.Ytiolpmhodbefoaa
open Go.RowKit

theorem int_neg (D : Bs) : sInt (45 :: D) = if sNat D = true then some (-(digV D : Int)) else none := by
  show (if (45 :: D) = [48] then some 0 else if (45 : UInt8) = 45 then (if sNat D = true then some (-(digV D : Int)) else none) else (if sNat (45 :: D) = true then some (digV (45 :: D) : Int) else none)) = _
  rw [if_neg (by intro e; injection e with e _; exact absurd e (by decide)), if_pos rfl]
theorem int_pos {c : UInt8} {r : Bs} (h : ¬ c = 45) : sInt (c :: r) = if (c :: r) = [48] then some 0 else if sNat (c :: r) = true then some (digV (c :: r) : Int) else none := by
  show (if (c :: r) = [48] then some 0 else if c = 45 then (if sNat r = true then some (-(digV r : Int)) else none) else (if sNat (c :: r) = true then some (digV (c :: r) : Int) else none)) = _
  rw [if_neg h]
theorem sNat_iff {D : Bs} : sNat D = true ↔ 1 ≤ D.length ∧ D.length ≤ 9 ∧ (∀ c ∈ D, isDg c.toNat = true) ∧ D.head? ≠ some 48 := by
  unfold sNat
  simp only [Bool.and_eq_true, decide_eq_true_eq, List.all_eq_true]
  constructor
  · rintro ⟨⟨⟨a, b⟩, c⟩, d⟩; exact ⟨a, b, c, d⟩
  · rintro ⟨a, b, c, d⟩; exact ⟨⟨⟨a, b⟩, c⟩, d⟩
def intV (o : Option Int) : Value := .tuple #[.int .i64 (o.getD 0), .bool o.isSome]
theorem hd_data {d : ByteArray} (h : 0 < d.size) : d.data.toList.head? = some d[0] := by
  have e := dr_at h
  rw [dr_zero] at e
  rw [e]; rfl
theorem all_data {d : ByteArray} (h : ∀ k (hk : k < d.size), isDg d[k].toNat = true) : ∀ c ∈ d.data.toList, isDg c.toNat = true := by
  intro c hc
  obtain ⟨j, hj, rfl⟩ := List.getElem_of_mem hc
  exact h j (by rw [data_len] at hj; exact hj)
set_option maxRecDepth 100000 in
set_option maxHeartbeats 3200000 in
theorem int_walk (s : ByteArray) (w : World) (hs : s.size ≤ 1048576) : Calls Try.prog 57 #[.string s] w fun e w' => e = .returned (intV (sInt s.data.toList)) ∧ w = w' := by
  by_cases h0 : 0 < s.size
  · have h0I : (0 : Int) < (s.size : Int) := by omega
    have hE := dr_at h0
    rw [dr_zero] at hE
    by_cases h45 : s[0] = 45
    · have b45 : (((s[0].toNat : Nat) : Int) == 45) = true := by rw [beq_iff_eq]; exact u8_is h45
      have hS : sInt s.data.toList = if sNat (dr s 1) = true then some (-(digV (dr s 1) : Int)) else none := by rw [hE, h45, int_neg]
      have hx : ∃ d, s.extract 1 s.size = d ∧ d.size = s.size - 1 ∧ d.data.toList = dr s 1 := ⟨_, rfl, by simp, by rw [Lib.extract_data]; unfold dr; exact List.take_of_length_le (by rw [List.length_drop, data_len]; exact Nat.le_refl _)⟩
      obtain ⟨d, hX, hsz, hdt⟩ := hx
      rw [← hdt] at hS
      have h1I : (1 : Int) ≤ (s.size : Int) := by omega
      have hz : (s.toList == [48]) = false := by
        rw [beq_eq_false_iff_ne, ByteArray.toList_eq, hE, h45]
        intro e
        injection e with e _
        exact absurd e (by decide)
      have hdm : d.size ≤ 1048576 := by omega
      clear hE hdt h45 hsz
      by_cases h1 : d.size < 1
      · have HB : Hid (sInt s.data.toList = none) := by show _ = _; rw [hS, if_neg]; intro h; have := (sNat_iff.1 h).1; rw [data_len] at this; omega
        have t1 : ((d.size : Nat) : Int) < 1 := by omega
        clear hS h1 hz
        go_enter Try.func57, Try.ntmps57
        go_wp2
        go_ret2
        exact ⟨by rw [unhide HB]; rfl, rfl⟩
      · have t1 : ¬ ((d.size : Nat) : Int) < 1 := by omega
        by_cases h9 : 9 < d.size
        · have HB : Hid (sInt s.data.toList = none) := by show _ = _; rw [hS, if_neg]; intro h; have := (sNat_iff.1 h).2.1; rw [data_len] at this; omega
          have t2 : (9 : Int) < ((d.size : Nat) : Int) := by omega
          clear hS h1 hz
          go_enter Try.func57, Try.ntmps57
          go_wp2
          go_ret2
          exact ⟨by rw [unhide HB]; rfl, rfl⟩
        · have t2 : ¬ (9 : Int) < ((d.size : Nat) : Int) := by omega
          have hd0 : 0 < d.size := by omega
          have hd0I : (0 : Int) < ((d.size : Nat) : Int) := by omega
          by_cases h48 : d[0] = 48
          · have HB : Hid (sInt s.data.toList = none) := by show _ = _; rw [hS, if_neg]; intro h; exact (sNat_iff.1 h).2.2.2 (by rw [hd_data hd0, h48])
            have b48 : (((d[0].toNat : Nat) : Int) == 48) = true := by rw [beq_iff_eq]; exact u8_is h48
            clear hS h1 h48
            go_enter Try.func57, Try.ntmps57
            go_wp2
            go_ret2
            exact ⟨by rw [unhide HB]; rfl, rfl⟩
          · have b48 : (((d[0].toNat : Nat) : Int) == 48) = false := beq_eq_false_iff_ne.2 (u8_not h48)
            have HD : Hid (∀ (k : Nat) (hk : k < d.size) (w : World), Calls Try.prog 39 #[.int .u8 (d[k].toNat : Int)] w fun e w' => e = .returned (.bool (isDg d[k].toNat)) ∧ w = w') := fun k hk w => digB_walk _ w
            have HBAD : Hid (∀ k (hk : k < d.size), isDg d[k].toNat = false → sInt s.data.toList = none) := fun k hk hd => by
              rw [hS, if_neg]
              intro h
              have := (sNat_iff.1 h).2.2.1 d[k] (by rw [← tokD d k hk]; exact List.getElem_mem _)
              rw [hd] at this; cases this
            have HGOOD : Hid ((∀ k (hk : k < d.size), isDg d[k].toNat = true) → sInt s.data.toList = some (-(digV d.data.toList : Int))) := fun hall => by
              rw [hS, if_pos]
              exact sNat_iff.2 ⟨by rw [data_len]; omega, by rw [data_len]; omega, all_data hall, by rw [hd_data hd0]; intro e; injection e with e; exact h48 e⟩
            clear hS h1 h48 hz
            go_enter Try.func57, Try.ntmps57
            go_wp2
            go_loopw [6, 7] (fun vv iv wr => ∃ k : Nat, k ≤ d.size ∧ iv = .int .i64 (k : Int) ∧ vv = .int .i64 ((digV (d.data.toList.take k) : Nat) : Int) ∧ (∀ j (hj : j < d.size), j < k → isDg d[j].toNat = true) ∧ w = wr) (fun _ iv _ => d.size - (intOf iv).toNat)
            case atStart => exact ⟨0, Nat.zero_le _, rfl, rfl, fun j _ hj => by omega, rfl⟩
            case round =>
              obtain ⟨k, hk, rfl, rfl, hall, rfl⟩ := hrel
              have HALL := hide hall
              clear hall
              by_cases hlt : k < d.size
              · have hltI : (k : Int) < (d.size : Int) := by omega
                have HDk := hide (unhide HD k hlt w)
                have hst : d.data.toList.take (k + 1) = d.data.toList.take k ++ [d[k]] := bytes_snoc d k hlt
                have HST : Hid (digV (d.data.toList.take (k + 1)) = digV (d.data.toList.take k) * 10 + (d[k].toNat - 48)) := by show _ = _; rw [hst, digV_snoc]
                have hlo : digV (d.data.toList.take k) < 1000000000 ∨ ¬ ∀ c ∈ d.data.toList.take k, isDg c.toNat = true := by
                  rcases dig_lt k (d.data.toList.take k) (by rw [List.length_take, data_len]; omega) with h | h
                  · left
                    have : 10 ^ k ≤ 10 ^ 9 := Nat.pow_le_pow_right (by omega) (by omega)
                    omega
                  · exact .inr h
                have hlo' : digV (d.data.toList.take k) < 1000000000 := hlo.elim id fun h => absurd (fun c hc => by
                  obtain ⟨j, hj, rfl⟩ := List.getElem_of_mem hc
                  rw [List.length_take, data_len] at hj
                  rw [List.getElem_take]
                  exact unhide HALL j (by omega) (by omega)) h
                cases hd : isDg d[k].toNat with
                | false =>
                  have HV := hide (unhide HBAD k hlt hd)
                  rw [hd] at HDk
                  clear hd HST hst hlo hlo' HALL HBAD HGOOD HD
                  go_wp2_with fail
                  refine (unhide HDk).mono ?_
                  rintro e w2 ⟨rfl, rfl⟩
                  clear HDk
                  go_wp2
                  go_ret2
                  exact ⟨by rw [unhide HV]; rfl, rfl⟩
                | true =>
                  have hb := isDg_iff.1 hd
                  have HA2 : Hid (∀ j (hj : j < d.size), j < k + 1 → isDg d[j].toNat = true) := fun j hj hjk => by
                    by_cases e : j = k
                    · subst e; exact hd
                    · exact unhide HALL j hj (by omega)
                  rw [hd] at HDk
                  have hb1 : (48 : Int) ≤ (d[k].toNat : Int) := by omega
                  have hb2 : (d[k].toNat : Int) ≤ 57 := by omega
                  generalize digV (d.data.toList.take k) = D at *
                  clear hd hst hlo HALL HBAD HGOOD HD
                  go_wp2_with fail
                  refine (unhide HDk).mono ?_
                  rintro e w2 ⟨rfl, rfl⟩
                  clear HDk
                  go_wp2
                  go_roundw
                  case rel => exact ⟨k + 1, by omega, by go_num, by rw [unhide HST]; (congr 1; omega), fun j hj h => unhide HA2 j hj h, trivial⟩
                  case measure => simp [intOf]; omega
              · obtain rfl : k = d.size := by omega
                have HV := hide (unhide HGOOD (fun j hj => unhide HALL j hj hj))
                have HT : Hid (digV (d.data.toList.take d.size) = digV d.data.toList) := by show _ = _; rw [List.take_of_length_le (by rw [data_len]; exact Nat.le_refl _)]
                rw [unhide HT]
                have hlo2 : digV d.data.toList < 1000000000 := by
                  rcases dig_lt _ d.data.toList rfl with h | h
                  · have : 10 ^ d.data.toList.length ≤ 10 ^ 9 := Nat.pow_le_pow_right (by omega) (by rw [data_len]; omega)
                    omega
                  · exact absurd (all_data fun j hj => unhide HALL j hj hj) h
                clear HALL HBAD HGOOD HD HT
                generalize digV d.data.toList = D at *
                go_wp2
                go_ret2
                exact ⟨by rw [unhide HV]; rfl, rfl⟩
    · have b45 : (((s[0].toNat : Nat) : Int) == 45) = false := beq_eq_false_iff_ne.2 (u8_not h45)
      have hS : sInt s.data.toList = if s.data.toList = [48] then some 0 else if sNat s.data.toList = true then some (digV s.data.toList : Int) else none := by
        rw [hE, int_pos h45]
      have t1 : ¬ (s.size : Int) < 1 := by omega
      clear hE h45
      by_cases h9 : 9 < s.size
      · have HB : Hid (sInt s.data.toList = none) := by
          show _ = _
          rw [hS, if_neg (by intro e; have := congrArg List.length e; rw [data_len] at this; simp at this; omega), if_neg]
          intro h; have := (sNat_iff.1 h).2.1; rw [data_len] at this; omega
        have t2 : (9 : Int) < (s.size : Int) := by omega
        clear hS
        go_enter Try.func57, Try.ntmps57
        go_wp2
        go_ret2
        exact ⟨by rw [unhide HB]; rfl, rfl⟩
      · have t2 : ¬ (9 : Int) < (s.size : Int) := by omega
        by_cases hz : s[0] = 48 ∧ ¬ s.data.toList = [48]
        · have HB : Hid (sInt s.data.toList = none) := by
            show _ = _
            rw [hS, if_neg hz.2, if_neg]
            intro h; exact (sNat_iff.1 h).2.2.2 (by rw [hd_data h0, hz.1])
          have b48 : (((s[0].toNat : Nat) : Int) == 48) = true := by rw [beq_iff_eq]; exact u8_is hz.1
          have bz : (s.toList == [48]) = false := by rw [beq_eq_false_iff_ne, ByteArray.toList_eq]; exact hz.2
          clear hS hz
          go_enter Try.func57, Try.ntmps57
          go_wp2
          go_ret2
          exact ⟨by rw [unhide HB]; rfl, rfl⟩
        · have HD : Hid (∀ (k : Nat) (hk : k < s.size) (w : World), Calls Try.prog 39 #[.int .u8 (s[k].toNat : Int)] w fun e w' => e = .returned (.bool (isDg s[k].toNat)) ∧ w = w') := fun k hk w => digB_walk _ w
          have HBAD : Hid (∀ k (hk : k < s.size), isDg s[k].toNat = false → sInt s.data.toList = none) := fun k hk hd => by
            have hm : s[k] ∈ s.data.toList := by rw [← tokD s k hk]; exact List.getElem_mem _
            rw [hS, if_neg, if_neg]
            · intro h
              have := (sNat_iff.1 h).2.2.1 s[k] hm
              rw [hd] at this; cases this
            · intro e
              rw [e] at hm
              have : s[k] = 48 := by simpa using hm
              rw [this] at hd
              exact absurd hd (by decide)
          have HGOOD : Hid ((∀ k (hk : k < s.size), isDg s[k].toNat = true) → sInt s.data.toList = some (digV s.data.toList : Int)) := fun hall => by
            rw [hS]
            by_cases e : s.data.toList = [48]
            · rw [if_pos e, e]; rfl
            · rw [if_neg e, if_pos]
              exact sNat_iff.2 ⟨by rw [data_len]; omega, by rw [data_len]; omega, all_data hall, by rw [hd_data h0]; intro e2; injection e2 with e2; exact hz ⟨e2, e⟩⟩
          have t34 : (((s[0].toNat : Nat) : Int) == 48) = false ∨ (((s[0].toNat : Nat) : Int) == 48) = true ∧ (s.toList == [48]) = true := by
            by_cases e : s[0] = 48
            · right
              refine ⟨by rw [beq_iff_eq]; exact u8_is e, ?_⟩
              rw [beq_iff_eq, ByteArray.toList_eq]
              exact Classical.not_not.1 fun h => hz ⟨e, h⟩
            · left; exact beq_eq_false_iff_ne.2 (u8_not e)
          clear hS hz
          rcases t34 with t3 | ⟨t3, t4⟩
          · skip
            go_enter Try.func57, Try.ntmps57
            go_wp2
            go_loopw [6, 7] (fun vv iv wr => ∃ k : Nat, k ≤ s.size ∧ iv = .int .i64 (k : Int) ∧ vv = .int .i64 ((digV (s.data.toList.take k) : Nat) : Int) ∧ (∀ j (hj : j < s.size), j < k → isDg s[j].toNat = true) ∧ w = wr) (fun _ iv _ => s.size - (intOf iv).toNat)
            case atStart => exact ⟨0, Nat.zero_le _, rfl, rfl, fun j _ hj => by omega, rfl⟩
            case round =>
              obtain ⟨k, hk, rfl, rfl, hall, rfl⟩ := hrel
              have HALL := hide hall
              clear hall
              by_cases hlt : k < s.size
              · have hltI : (k : Int) < (s.size : Int) := by omega
                have HDk := hide (unhide HD k hlt w)
                have hst : s.data.toList.take (k + 1) = s.data.toList.take k ++ [s[k]] := bytes_snoc s k hlt
                have HST : Hid (digV (s.data.toList.take (k + 1)) = digV (s.data.toList.take k) * 10 + (s[k].toNat - 48)) := by show _ = _; rw [hst, digV_snoc]
                have hlo : digV (s.data.toList.take k) < 1000000000 ∨ ¬ ∀ c ∈ s.data.toList.take k, isDg c.toNat = true := by
                  rcases dig_lt k (s.data.toList.take k) (by rw [List.length_take, data_len]; omega) with h | h
                  · left
                    have : 10 ^ k ≤ 10 ^ 9 := Nat.pow_le_pow_right (by omega) (by omega)
                    omega
                  · exact .inr h
                have hlo' : digV (s.data.toList.take k) < 1000000000 := hlo.elim id fun h => absurd (fun c hc => by
                  obtain ⟨j, hj, rfl⟩ := List.getElem_of_mem hc
                  rw [List.length_take, data_len] at hj
                  rw [List.getElem_take]
                  exact unhide HALL j (by omega) (by omega)) h
                cases hd : isDg s[k].toNat with
                | false =>
                  have HV := hide (unhide HBAD k hlt hd)
                  rw [hd] at HDk
                  clear hd HST hst hlo hlo' HALL HBAD HGOOD HD
                  go_wp2_with fail
                  refine (unhide HDk).mono ?_
                  rintro e w2 ⟨rfl, rfl⟩
                  clear HDk
                  go_wp2
                  go_ret2
                  exact ⟨by rw [unhide HV]; rfl, rfl⟩
                | true =>
                  have hb := isDg_iff.1 hd
                  have HA2 : Hid (∀ j (hj : j < s.size), j < k + 1 → isDg s[j].toNat = true) := fun j hj hjk => by
                    by_cases e : j = k
                    · subst e; exact hd
                    · exact unhide HALL j hj (by omega)
                  rw [hd] at HDk
                  have hb1 : (48 : Int) ≤ (s[k].toNat : Int) := by omega
                  have hb2 : (s[k].toNat : Int) ≤ 57 := by omega
                  generalize digV (s.data.toList.take k) = D at *
                  clear hd hst hlo HALL HBAD HGOOD HD
                  go_wp2_with fail
                  refine (unhide HDk).mono ?_
                  rintro e w2 ⟨rfl, rfl⟩
                  clear HDk
                  go_wp2
                  go_roundw
                  case rel => exact ⟨k + 1, by omega, by go_num, by rw [unhide HST]; (congr 1; omega), fun j hj h => unhide HA2 j hj h, trivial⟩
                  case measure => simp [intOf]; omega
              · obtain rfl : k = s.size := by omega
                have HV := hide (unhide HGOOD (fun j hj => unhide HALL j hj hj))
                have HT : Hid (digV (s.data.toList.take s.size) = digV s.data.toList) := by show _ = _; rw [List.take_of_length_le (by rw [data_len]; exact Nat.le_refl _)]
                rw [unhide HT]
                have hlo2 : digV s.data.toList < 1000000000 := by
                  rcases dig_lt _ s.data.toList rfl with h | h
                  · have : 10 ^ s.data.toList.length ≤ 10 ^ 9 := Nat.pow_le_pow_right (by omega) (by rw [data_len]; omega)
                    omega
                  · exact absurd (all_data fun j hj => unhide HALL j hj hj) h
                clear HALL HBAD HGOOD HD HT
                generalize digV s.data.toList = D at *
                go_wp2
                go_ret2
                exact ⟨by rw [unhide HV]; rfl, rfl⟩
          · skip
            go_enter Try.func57, Try.ntmps57
            go_wp2
            go_loopw [6, 7] (fun vv iv wr => ∃ k : Nat, k ≤ s.size ∧ iv = .int .i64 (k : Int) ∧ vv = .int .i64 ((digV (s.data.toList.take k) : Nat) : Int) ∧ (∀ j (hj : j < s.size), j < k → isDg s[j].toNat = true) ∧ w = wr) (fun _ iv _ => s.size - (intOf iv).toNat)
            case atStart => exact ⟨0, Nat.zero_le _, rfl, rfl, fun j _ hj => by omega, rfl⟩
            case round =>
              obtain ⟨k, hk, rfl, rfl, hall, rfl⟩ := hrel
              have HALL := hide hall
              clear hall
              by_cases hlt : k < s.size
              · have hltI : (k : Int) < (s.size : Int) := by omega
                have HDk := hide (unhide HD k hlt w)
                have hst : s.data.toList.take (k + 1) = s.data.toList.take k ++ [s[k]] := bytes_snoc s k hlt
                have HST : Hid (digV (s.data.toList.take (k + 1)) = digV (s.data.toList.take k) * 10 + (s[k].toNat - 48)) := by show _ = _; rw [hst, digV_snoc]
                have hlo : digV (s.data.toList.take k) < 1000000000 ∨ ¬ ∀ c ∈ s.data.toList.take k, isDg c.toNat = true := by
                  rcases dig_lt k (s.data.toList.take k) (by rw [List.length_take, data_len]; omega) with h | h
                  · left
                    have : 10 ^ k ≤ 10 ^ 9 := Nat.pow_le_pow_right (by omega) (by omega)
                    omega
                  · exact .inr h
                have hlo' : digV (s.data.toList.take k) < 1000000000 := hlo.elim id fun h => absurd (fun c hc => by
                  obtain ⟨j, hj, rfl⟩ := List.getElem_of_mem hc
                  rw [List.length_take, data_len] at hj
                  rw [List.getElem_take]
                  exact unhide HALL j (by omega) (by omega)) h
                cases hd : isDg s[k].toNat with
                | false =>
                  have HV := hide (unhide HBAD k hlt hd)
                  rw [hd] at HDk
                  clear hd HST hst hlo hlo' HALL HBAD HGOOD HD
                  go_wp2_with fail
                  refine (unhide HDk).mono ?_
                  rintro e w2 ⟨rfl, rfl⟩
                  clear HDk
                  go_wp2
                  go_ret2
                  exact ⟨by rw [unhide HV]; rfl, rfl⟩
                | true =>
                  have hb := isDg_iff.1 hd
                  have HA2 : Hid (∀ j (hj : j < s.size), j < k + 1 → isDg s[j].toNat = true) := fun j hj hjk => by
                    by_cases e : j = k
                    · subst e; exact hd
                    · exact unhide HALL j hj (by omega)
                  rw [hd] at HDk
                  have hb1 : (48 : Int) ≤ (s[k].toNat : Int) := by omega
                  have hb2 : (s[k].toNat : Int) ≤ 57 := by omega
                  generalize digV (s.data.toList.take k) = D at *
                  clear hd hst hlo HALL HBAD HGOOD HD
                  go_wp2_with fail
                  refine (unhide HDk).mono ?_
                  rintro e w2 ⟨rfl, rfl⟩
                  clear HDk
                  go_wp2
                  go_roundw
                  case rel => exact ⟨k + 1, by omega, by go_num, by rw [unhide HST]; (congr 1; omega), fun j hj h => unhide HA2 j hj h, trivial⟩
                  case measure => simp [intOf]; omega
              · obtain rfl : k = s.size := by omega
                have HV := hide (unhide HGOOD (fun j hj => unhide HALL j hj hj))
                have HT : Hid (digV (s.data.toList.take s.size) = digV s.data.toList) := by show _ = _; rw [List.take_of_length_le (by rw [data_len]; exact Nat.le_refl _)]
                rw [unhide HT]
                have hlo2 : digV s.data.toList < 1000000000 := by
                  rcases dig_lt _ s.data.toList rfl with h | h
                  · have : 10 ^ s.data.toList.length ≤ 10 ^ 9 := Nat.pow_le_pow_right (by omega) (by rw [data_len]; omega)
                    omega
                  · exact absurd (all_data fun j hj => unhide HALL j hj hj) h
                clear HALL HBAD HGOOD HD HT
                generalize digV s.data.toList = D at *
                go_wp2
                go_ret2
                exact ⟨by rw [unhide HV]; rfl, rfl⟩
  · have HB : Hid (sInt s.data.toList = none) := by
      show _ = _
      rw [show s.data.toList = [] from dr_end (s := s) (i := 0) (by omega)]; rfl
    have h0I : ¬ (0 : Int) < (s.size : Int) := by omega
    have t1 : (s.size : Int) < 1 := by omega
    go_enter Try.func57, Try.ntmps57
    go_wp2
    go_ret2
    exact ⟨by rw [unhide HB]; rfl, rfl⟩
end Go.Proofs.Ytiolpmhodbefoaa


namespace Go.Proofs.Ytiolpmhodbefoaa
open Go.RowKit

/-- Kinds of a filter's operations: a value, a truth of no parts, of one, of two. -/
def isVal (k : Int) : Bool := decide (1 ≤ k) && decide (k ≤ 7)
def isTru (k : Int) : Bool := k == 8 || k == 9 || k == 10 || k == 11 || k == 12
def parts (k : Int) : Nat := if k = 9 ∨ k = 10 ∨ k = 11 then 2 else if k = 12 then 1 else 0
/-- One operation on the stack of what came out: whether each is a truth. -/
def stepS (S : List Bool) (k : Int) : Option (List Bool) :=
  if S.length < parts k then none
  else if (S.take (parts k)).all (fun t => t != (k == 9)) then some (isTru k :: S.drop (parts k)) else none
def runS : List Int → List Bool → Option (List Bool)
  | [], S => some S
  | k :: r, S => (stepS S k).bind fun S' => runS r S'
/-- Well formed: a value, or a truth. -/
inductive WF : Bool → List Int → Prop
  | val {k : Int} : isVal k = true → WF false [k]
  | ex : WF true [8]
  | cmp {l m : List Int} : WF false l → WF false m → WF true (l ++ m ++ [9])
  | two {l m : List Int} {k : Int} : k = 10 ∨ k = 11 → WF true l → WF true m → WF true (l ++ m ++ [k])
  | not {l : List Int} : WF true l → WF true (l ++ [12])
theorem runS_app (a b : List Int) (S : List Bool) : runS (a ++ b) S = (runS a S).bind fun S' => runS b S' := by
  induction a generalizing S with
  | nil => rfl
  | cons k r ih =>
    rw [List.cons_append, runS, runS]
    cases stepS S k with
    | none => rfl
    | some S' => exact ih S'
theorem isVal_tru {k : Int} (h : isVal k = true) : isTru k = false ∧ parts k = 0 ∧ k ≠ 9 := by
  unfold isVal at h
  simp only [Bool.and_eq_true, decide_eq_true_eq] at h
  refine ⟨?_, ?_, by omega⟩
  · unfold isTru
    simp only [Bool.or_eq_false_iff, beq_eq_false_iff_ne]
    omega
  · unfold parts
    rw [if_neg (by omega), if_neg (by omega)]
/-- A well formed row puts one thing more on the stack. -/
theorem WF.run {t : Bool} {l : List Int} (h : WF t l) : ∀ S, runS l S = some (t :: S) := by
  induction h with
  | val hk =>
    intro S
    obtain ⟨h1, h2, _⟩ := isVal_tru hk
    simp [runS, stepS, h1, h2]
  | ex => intro S; rfl
  | cmp _ _ i1 i2 => intro S; rw [runS_app, runS_app, i1]; simp only [Option.bind_some]; rw [i2]; rfl
  | two hk _ _ i1 i2 =>
    intro S; rw [runS_app, runS_app, i1]; simp only [Option.bind_some]; rw [i2]
    rcases hk with rfl | rfl <;> rfl
  | not _ i1 => intro S; rw [runS_app, i1]; rfl
/-- The rows of what lies on the stack, the uppermost first. -/
inductive WFs : List Bool → List Int → Prop
  | nil : WFs [] []
  | cons {t : Bool} {S : List Bool} {l m : List Int} : WF t l → WFs S m → WFs (t :: S) (m ++ l)
theorem WFs.one {S : List Bool} {m : List Int} (h : WFs S m) (hl : 1 ≤ S.length) : ∃ t S' l m', S = t :: S' ∧ m = m' ++ l ∧ WF t l ∧ WFs S' m' := by
  cases h with
  | nil => simp at hl
  | cons w h => exact ⟨_, _, _, _, rfl, rfl, w, h⟩
theorem WFs.two {S : List Bool} {m : List Int} (h : WFs S m) (hl : 2 ≤ S.length) : ∃ t1 t2 S' l1 l2 m', S = t1 :: t2 :: S' ∧ m = m' ++ l2 ++ l1 ∧ WF t1 l1 ∧ WF t2 l2 ∧ WFs S' m' := by
  obtain ⟨t1, S1, l1, m1, rfl, rfl, w1, h1⟩ := h.one (by omega)
  obtain ⟨t2, S2, l2, m2, rfl, rfl, w2, h2⟩ := h1.one (by simpa using hl)
  exact ⟨_, _, _, _, _, _, rfl, rfl, w1, w2, h2⟩
theorem WFs.step {S S' : List Bool} {m : List Int} {k : Int} (h : WFs S m) (hk : 1 ≤ k ∧ k ≤ 12) (hs : stepS S k = some S') : WFs S' (m ++ [k]) := by
  unfold stepS at hs
  split at hs
  · cases hs
  · rename_i hlen
    split at hs
    · rename_i hall
      injection hs with hs
      subst hs
      by_cases hv : isVal k = true
      · obtain ⟨h1, h2, _⟩ := isVal_tru hv
        rw [h1, h2, List.drop_zero]
        exact .cons (.val hv) h
      · have hk8 : 8 ≤ k := by
          unfold isVal at hv
          simp only [Bool.and_eq_true, decide_eq_true_eq, not_and] at hv
          have := hv hk.1
          omega
        have two : ∀ k' : Int, parts k' = 2 → k = k' → ∃ t1 t2 S'' l1 l2 m', S = t1 :: t2 :: S'' ∧ m = m' ++ l2 ++ l1 ∧ WF t1 l1 ∧ WF t2 l2 ∧ WFs S'' m' := fun k' e1 e2 => h.two (by rw [e2, e1] at hlen; omega)
        rcases (show k = 8 ∨ k = 9 ∨ k = 10 ∨ k = 11 ∨ k = 12 by omega) with e | e | e | e | e
        · subst e
          exact .cons .ex h
        · obtain ⟨t1, t2, S2, l1, l2, m', rfl, rfl, w1, w2, h2⟩ := two 9 rfl e
          subst e
          simp [parts] at hall
          obtain ⟨rfl, rfl⟩ := hall
          rw [List.append_assoc, List.append_assoc, ← List.append_assoc l2]
          exact .cons (.cmp w2 w1) h2
        · obtain ⟨t1, t2, S2, l1, l2, m', rfl, rfl, w1, w2, h2⟩ := two 10 rfl e
          subst e
          simp [parts] at hall
          obtain ⟨rfl, rfl⟩ := hall
          rw [List.append_assoc, List.append_assoc, ← List.append_assoc l2]
          exact .cons (.two (.inl rfl) w2 w1) h2
        · obtain ⟨t1, t2, S2, l1, l2, m', rfl, rfl, w1, w2, h2⟩ := two 11 rfl e
          subst e
          simp [parts] at hall
          obtain ⟨rfl, rfl⟩ := hall
          rw [List.append_assoc, List.append_assoc, ← List.append_assoc l2]
          exact .cons (.two (.inr rfl) w2 w1) h2
        · obtain ⟨t1, S2, l1, m', rfl, rfl, w1, h2⟩ := h.one (by rw [e, show parts 12 = 1 from rfl] at hlen; omega)
          subst e
          simp [parts] at hall
          subst hall
          rw [List.append_assoc]
          exact .cons (.not w1) h2
    · cases hs
end Go.Proofs.Ytiolpmhodbefoaa

