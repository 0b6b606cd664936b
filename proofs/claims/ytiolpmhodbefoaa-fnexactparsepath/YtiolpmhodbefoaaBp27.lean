import Derived.Deep.LoopGhost
import Derived.Test.YtiolpmhodbefoaaBp26
namespace Go.Proofs.Ytiolpmhodbefoaa
open Go.RowKit

theorem bt_u8 {s : ByteArray} {i : Nat} (c : UInt8) (h : i < s.size) : bt s i = c.toNat ↔ s[i] = c := by
  rw [bt_at s i h]; exact UInt8.toNat_inj
set_option maxRecDepth 100000 in
set_option maxHeartbeats 6400000 in
theorem readInt_walk (rb : Nat) (s : ByteArray) (i : Nat) (d : Int) (w : World) (h : PRd rb s i d w) (hs : s.size ≤ 1048576) (hi : i ≤ s.size) :
    Calls Try.prog 114 #[.pointer (some ⟨rb, 0, none⟩)] w fun e w' => KB rb w w' ∧ ((pInt (dr s i) = none ∧ e = mis) ∨ ∃ n j, pInt (dr s i) = some (n, dr s j) ∧ e = .returned (.int .i64 n) ∧ i ≤ j ∧ j ≤ s.size ∧ PRd rb s j d w') := by
  have HP : Hid (∀ j w, j ≤ s.size → PRd rb s j d w → Calls Try.prog 77 #[.pointer (some ⟨rb, 0, none⟩)] w fun e w' => e = .returned (.int .u8 (bt s j)) ∧ PRd rb s j d w' ∧ KB rb w w') := fun j w hj hr => ppeek rb s j d w hr hj
  have HX : Hid (∀ j w, j < s.size → PRd rb s j d w → Calls Try.prog 58 #[.pointer (some ⟨rb, 0, none⟩)] w fun e w' => e = .returned (.int .u8 (bt s j)) ∧ PRd rb s (j + 1) d w' ∧ KB rb w w') := fun j w hj hr => pnext_in rb s j d w hr hs hj
  have HD : Hid (∀ b w, Calls Try.prog 78 #[.int .u8 ((b : Nat) : Int)] w fun e w' => e = .returned (.bool (isDg b)) ∧ w = w') := fun b w => digN_walk b w
  by_cases h48 : ∃ h0 : i < s.size, s[i] = 48
  · obtain ⟨h0, h48⟩ := h48
    have HS := hide (pskip_yes rb s i d w h hs 48 ((bt_u8 48 h0).2 h48) h0)
    have HV : Hid (pInt (dr s i) = some (0, dr s (i + 1))) := by
      show _ = _
      rw [dr_at h0]
      show (if s[i] = 48 then some (0, dr s (i + 1)) else _) = _
      rw [if_pos h48]
    clear h h48 HP HX HD
    go_enter Try.func114, Try.ntmps114
    go_wp2_with fail
    refine (unhide HS).mono ?_
    rintro e w2 ⟨rfl, r2, k2⟩
    have R2 := hide r2
    clear HS r2
    go_wp2
    go_ret
    exact ⟨k2, .inr ⟨0, i + 1, unhide HV, rfl, by omega, by omega, unhide R2⟩⟩
  · have n48 : ∀ h0 : i < s.size, ¬ s[i] = 48 := fun h0 e => h48 ⟨h0, e⟩
    have HS := hide (pskip_no rb s i d w h hi 48 (by
      rcases Nat.lt_or_ge i s.size with h0 | h0
      · left; intro e; exact n48 h0 ((bt_u8 48 h0).1 e)
      · right; omega))
    clear h h48
    by_cases h45 : ∃ h0 : i < s.size, s[i] = 45
    · obtain ⟨h0, h45⟩ := h45
      have HS2 : Hid (∀ w, PRd rb s i d w → Calls Try.prog 59 #[.pointer (some ⟨rb, 0, none⟩), .int .u8 45] w fun e w' => e = .returned (.bool true) ∧ PRd rb s (i + 1) d w' ∧ KB rb w w') := fun w h => pskip_yes rb s i d w h hs 45 ((bt_u8 45 h0).2 h45) h0
      have HV : Hid (pInt (dr s i) = (pNat (dr s (i + 1))).map fun p => (-p.1, p.2)) := by
        show _ = _
        rw [dr_at h0]
        show (if s[i] = 48 then _ else if s[i] = 45 then (pNat (dr s (i + 1))).map (fun p => (-p.1, p.2)) else _) = _
        rw [if_neg (n48 h0), if_pos h45]
      have hp : i + 1 ≤ s.size := by omega
      clear h45 n48
      go_enter Try.func114, Try.ntmps114
      go_wp2_with fail
      refine (unhide HS).mono ?_
      rintro e w2 ⟨rfl, r2, k2⟩
      clear HS
      go_wp2_with fail
      refine (unhide HS2 _ r2).mono ?_
      rintro e w3 ⟨rfl, r3, k3⟩
      have HK3 := hide (k2.trans k3)
      clear HS2 r2 k2 k3
      go_wp2_with fail
      refine (unhide HP _ _ hp r3).mono ?_
      rintro e w4 ⟨rfl, r4, k4⟩
      have HK4 := hide ((unhide HK3).trans k4)
      have R4 := hide r4
      clear r3 k4 r4 HK3
      by_cases hz : bt s (i + 1) = 48
      · have bz : (((bt s (i + 1) : Nat) : Int) == 48) = true := by rw [beq_iff_eq]; omega
        have HF : Hid (pInt (dr s i) = none) := by
          show _ = _
          rw [unhide HV, nat_none (fun h0 => .inl ((bt_u8 48 h0).1 hz))]; rfl
        clear HV HP HX HD hz
        go_wp2
        exact ⟨rfl, unhide HK4, .inl ⟨unhide HF, rfl⟩⟩
      · have bz : (((bt s (i + 1) : Nat) : Int) == 48) = false := by rw [beq_eq_false_iff_ne]; omega
        have HDP := hide (unhide HD (bt s (i + 1)) w4)
        cases hdg : isDg (bt s (i + 1)) with
        | false =>
          rw [hdg] at HDP
          have HF : Hid (pInt (dr s i) = none) := by
            show _ = _
            rw [unhide HV, nat_none (fun h0 => .inr (by rw [← bt_at s _ h0]; exact hdg))]; rfl
          clear HV HP HX HD hz hdg
          go_wp2_with fail
          refine (unhide HDP).mono ?_
          rintro e w5 ⟨rfl, rfl⟩
          clear HDP
          go_wp2
          exact ⟨rfl, unhide HK4, .inl ⟨unhide HF, rfl⟩⟩
        | true =>
          rw [hdg] at HDP
          have hP : i + 1 < s.size := bt_in (by intro e; rw [e] at hdg; exact absurd hdg (by decide))
          have hz2 : ∀ hp : i + 1 < s.size, ¬ s[i + 1] = 48 := fun h0 e => hz ((bt_u8 48 h0).2 e)
          have HD0 : Hid (isDg s[i + 1].toNat = true) := by show _ = _; rw [← bt_at s _ hP]; exact hdg
          clear hz hdg
          go_wp2_with fail
          refine (unhide HDP).mono ?_
          rintro e w5 ⟨rfl, rfl⟩
          clear HDP bz
          generalize bt s (i + 1) = b0 at *
          go_wp2
          go_loopw [5, 6] (fun nv kv wr => ∃ k : Nat, nv = .int .i64 ((digV ((dr s (i + 1)).take k) : Nat) : Int) ∧ kv = .int .i64 (k : Int) ∧ Hid (DgRun s (i + 1) k) ∧ Hid (PRd rb s (i + 1 + k) d wr) ∧ KB rb w wr) (fun _ kv _ => 9 - (intOf kv).toNat)
          case atStart => exact ⟨0, rfl, rfl, ⟨by omega, by omega, fun m hm => by omega⟩, R4, unhide HK4⟩
          case round =>
            obtain ⟨k, rfl, rfl, hrun, hr, hk⟩ := hrel
            have hsz := (unhide hrun).sz
            have h9 := (unhide hrun).nine
            have HK := hide hk
            have hlen : ((dr s (i + 1)).take k).length = k := by rw [List.length_take, dr_len]; omega
            have hlo : digV ((dr s (i + 1)).take k) < 1000000000 := by
              rcases dig_lt k _ hlen with h | h
              · have : 10 ^ k ≤ 10 ^ 9 := Nat.pow_le_pow_right (by omega) h9
                omega
              · exact absurd (List.all_eq_true.1 (unhide hrun).all) h
            clear R4 HK4 hlen hk
            by_cases hk9 : k < 9
            · have k9 : (k : Int) < 9 := by omega
              have HPk := hide (unhide HP _ wr hsz (unhide hr))
              have HDk : Hid (∀ w, Calls Try.prog 78 #[.int .u8 ((bt s (i + 1 + k) : Nat) : Int)] w fun e w' => e = .returned (.bool (isDg (bt s (i + 1 + k)))) ∧ w = w') := fun w => unhide HD _ w
              cases hdk : isDg (bt s (i + 1 + k)) with
              | true =>
                rw [hdk] at HDk
                have hj : i + 1 + k < s.size := bt_in (by intro e; rw [e] at hdk; exact absurd hdk (by decide))
                have HR2 := hide ((unhide hrun).step hk9 hj (by rw [← bt_at s _ hj]; exact hdk))
                have HST : Hid (digV ((dr s (i + 1)).take (k + 1)) = digV ((dr s (i + 1)).take k) * 10 + (bt s (i + 1 + k) - 48)) := by
                  show _ = _
                  rw [List.take_succ_eq_append_getElem (by rw [dr_len]; omega), digV_snoc, dr_get (by rw [dr_len]; omega) hj, bt_at s _ hj]
                have hb := isDg_iff.1 hdk
                generalize hB : bt s (i + 1 + k) = b at *
                generalize hDV : digV ((dr s (i + 1)).take k) = DV at *
                have hb1 : (48 : Int) ≤ (b : Int) := by omega
                have hb2 : (b : Int) ≤ 57 := by omega
                clear hdk hDV
                go_wp2_with fail
                refine (unhide HPk).mono ?_
                rintro e w6 ⟨rfl, r6, k6⟩
                have HK6 := hide ((unhide HK).trans k6)
                have HN6 := hide (unhide HX _ w6 hj r6)
                rw [hB] at HN6
                clear HPk r6 k6 HK
                go_wp2_with fail
                refine (unhide HDk _).mono ?_
                rintro e w7 ⟨rfl, rfl⟩
                clear HDk
                go_wp2_with fail
                refine (unhide HN6).mono ?_
                rintro e w8 ⟨rfl, r8, k8⟩
                have HK8 := hide ((unhide HK6).trans k8)
                have R8 := hide r8
                clear HN6 r8 k8 HK6 hr hB
                go_wp2
                go_roundw
                case rel => exact ⟨k + 1, by rw [unhide HST]; go_num, by go_num, HR2, R8, unhide HK8⟩
                case measure => simp [intOf]; omega
              | false =>
                rw [hdk] at HDk
                have h0 : 0 < k := by
                  rcases Nat.eq_zero_or_pos k with e | e
                  · subst e
                    have := unhide HD0
                    rw [← bt_at s _ hP] at this
                    rw [Nat.add_zero, this] at hdk; cases hdk
                  · exact e
                have HF := hide ((unhide hrun).fin h0 hz2 (.inr fun hj => by rw [← bt_at s _ hj]; exact hdk))
                generalize bt s (i + 1 + k) = b at *
                clear hdk
                go_wp2_with fail
                refine (unhide HPk).mono ?_
                rintro e w6 ⟨rfl, r6, k6⟩
                have HK6 := hide ((unhide HK).trans k6)
                have R6 := hide r6
                clear HPk r6 k6 HK
                go_wp2_with fail
                refine (unhide HDk _).mono ?_
                rintro e w7 ⟨rfl, rfl⟩
                clear HDk
                go_wp2
                go_ret
                exact ⟨unhide HK6, .inr ⟨_, i + 1 + k, by rw [unhide HV, unhide HF]; rfl, by first | rfl | (congr 2; go_num), by omega, hsz, unhide R6⟩⟩
            · obtain rfl : k = 9 := by omega
              have HF := hide ((unhide hrun).fin (by omega) hz2 (.inl rfl))
              go_wp2
              go_ret
              exact ⟨unhide HK, .inr ⟨_, i + 1 + 9, by rw [unhide HV, unhide HF]; rfl, by first | rfl | (congr 2; go_num), by omega, hsz, unhide hr⟩⟩
    · have HS2 : Hid (∀ w, PRd rb s i d w → Calls Try.prog 59 #[.pointer (some ⟨rb, 0, none⟩), .int .u8 45] w fun e w' => e = .returned (.bool false) ∧ PRd rb s i d w' ∧ KB rb w w') := fun w h => pskip_no rb s i d w h hi 45 (by
        rcases Nat.lt_or_ge i s.size with h0 | h0
        · left; intro e; exact h45 ⟨h0, (bt_u8 45 h0).1 e⟩
        · right; omega)
      have HV : Hid (pInt (dr s i) = pNat (dr s i)) := by
        show _ = _
        rcases Nat.lt_or_ge i s.size with h0 | h0
        · rw [dr_at h0]
          show (if s[i] = 48 then _ else if s[i] = 45 then _ else pNat (s[i] :: dr s (i + 1))) = _
          rw [if_neg (n48 h0), if_neg (fun e => h45 ⟨h0, e⟩)]
        · rw [dr_end h0]; rfl
      have hp : i ≤ s.size := hi
      clear h45 n48
      go_enter Try.func114, Try.ntmps114
      go_wp2_with fail
      refine (unhide HS).mono ?_
      rintro e w2 ⟨rfl, r2, k2⟩
      clear HS
      go_wp2_with fail
      refine (unhide HS2 _ r2).mono ?_
      rintro e w3 ⟨rfl, r3, k3⟩
      have HK3 := hide (k2.trans k3)
      clear HS2 r2 k2 k3
      go_wp2_with fail
      refine (unhide HP _ _ hp r3).mono ?_
      rintro e w4 ⟨rfl, r4, k4⟩
      have HK4 := hide ((unhide HK3).trans k4)
      have R4 := hide r4
      clear r3 k4 r4 HK3
      by_cases hz : bt s (i) = 48
      · have bz : (((bt s (i) : Nat) : Int) == 48) = true := by rw [beq_iff_eq]; omega
        have HF : Hid (pInt (dr s i) = none) := by
          show _ = _
          rw [unhide HV, nat_none (fun h0 => .inl ((bt_u8 48 h0).1 hz))]
        clear HV HP HX HD hz
        go_wp2
        exact ⟨rfl, unhide HK4, .inl ⟨unhide HF, rfl⟩⟩
      · have bz : (((bt s (i) : Nat) : Int) == 48) = false := by rw [beq_eq_false_iff_ne]; omega
        have HDP := hide (unhide HD (bt s (i)) w4)
        cases hdg : isDg (bt s (i)) with
        | false =>
          rw [hdg] at HDP
          have HF : Hid (pInt (dr s i) = none) := by
            show _ = _
            rw [unhide HV, nat_none (fun h0 => .inr (by rw [← bt_at s _ h0]; exact hdg))]
          clear HV HP HX HD hz hdg
          go_wp2_with fail
          refine (unhide HDP).mono ?_
          rintro e w5 ⟨rfl, rfl⟩
          clear HDP
          go_wp2
          exact ⟨rfl, unhide HK4, .inl ⟨unhide HF, rfl⟩⟩
        | true =>
          rw [hdg] at HDP
          have hP : i < s.size := bt_in (by intro e; rw [e] at hdg; exact absurd hdg (by decide))
          have hz2 : ∀ hp : i < s.size, ¬ s[i] = 48 := fun h0 e => hz ((bt_u8 48 h0).2 e)
          have HD0 : Hid (isDg s[i].toNat = true) := by show _ = _; rw [← bt_at s _ hP]; exact hdg
          clear hz hdg
          go_wp2_with fail
          refine (unhide HDP).mono ?_
          rintro e w5 ⟨rfl, rfl⟩
          clear HDP bz
          generalize bt s (i) = b0 at *
          go_wp2
          go_loopw [5, 6] (fun nv kv wr => ∃ k : Nat, nv = .int .i64 ((digV ((dr s (i)).take k) : Nat) : Int) ∧ kv = .int .i64 (k : Int) ∧ Hid (DgRun s (i) k) ∧ Hid (PRd rb s (i + k) d wr) ∧ KB rb w wr) (fun _ kv _ => 9 - (intOf kv).toNat)
          case atStart => exact ⟨0, rfl, rfl, ⟨by omega, by omega, fun m hm => by omega⟩, R4, unhide HK4⟩
          case round =>
            obtain ⟨k, rfl, rfl, hrun, hr, hk⟩ := hrel
            have hsz := (unhide hrun).sz
            have h9 := (unhide hrun).nine
            have HK := hide hk
            have hlen : ((dr s (i)).take k).length = k := by rw [List.length_take, dr_len]; omega
            have hlo : digV ((dr s (i)).take k) < 1000000000 := by
              rcases dig_lt k _ hlen with h | h
              · have : 10 ^ k ≤ 10 ^ 9 := Nat.pow_le_pow_right (by omega) h9
                omega
              · exact absurd (List.all_eq_true.1 (unhide hrun).all) h
            clear R4 HK4 hlen hk
            by_cases hk9 : k < 9
            · have k9 : (k : Int) < 9 := by omega
              have HPk := hide (unhide HP _ wr hsz (unhide hr))
              have HDk : Hid (∀ w, Calls Try.prog 78 #[.int .u8 ((bt s (i + k) : Nat) : Int)] w fun e w' => e = .returned (.bool (isDg (bt s (i + k)))) ∧ w = w') := fun w => unhide HD _ w
              cases hdk : isDg (bt s (i + k)) with
              | true =>
                rw [hdk] at HDk
                have hj : i + k < s.size := bt_in (by intro e; rw [e] at hdk; exact absurd hdk (by decide))
                have HR2 := hide ((unhide hrun).step hk9 hj (by rw [← bt_at s _ hj]; exact hdk))
                have HST : Hid (digV ((dr s (i)).take (k + 1)) = digV ((dr s (i)).take k) * 10 + (bt s (i + k) - 48)) := by
                  show _ = _
                  rw [List.take_succ_eq_append_getElem (by rw [dr_len]; omega), digV_snoc, dr_get (by rw [dr_len]; omega) hj, bt_at s _ hj]
                have hb := isDg_iff.1 hdk
                generalize hB : bt s (i + k) = b at *
                generalize hDV : digV ((dr s (i)).take k) = DV at *
                have hb1 : (48 : Int) ≤ (b : Int) := by omega
                have hb2 : (b : Int) ≤ 57 := by omega
                clear hdk hDV
                go_wp2_with fail
                refine (unhide HPk).mono ?_
                rintro e w6 ⟨rfl, r6, k6⟩
                have HK6 := hide ((unhide HK).trans k6)
                have HN6 := hide (unhide HX _ w6 hj r6)
                rw [hB] at HN6
                clear HPk r6 k6 HK
                go_wp2_with fail
                refine (unhide HDk _).mono ?_
                rintro e w7 ⟨rfl, rfl⟩
                clear HDk
                go_wp2_with fail
                refine (unhide HN6).mono ?_
                rintro e w8 ⟨rfl, r8, k8⟩
                have HK8 := hide ((unhide HK6).trans k8)
                have R8 := hide r8
                clear HN6 r8 k8 HK6 hr hB
                go_wp2
                go_roundw
                case rel => exact ⟨k + 1, by rw [unhide HST]; go_num, by go_num, HR2, R8, unhide HK8⟩
                case measure => simp [intOf]; omega
              | false =>
                rw [hdk] at HDk
                have h0 : 0 < k := by
                  rcases Nat.eq_zero_or_pos k with e | e
                  · subst e
                    have := unhide HD0
                    rw [← bt_at s _ hP] at this
                    rw [Nat.add_zero, this] at hdk; cases hdk
                  · exact e
                have HF := hide ((unhide hrun).fin h0 hz2 (.inr fun hj => by rw [← bt_at s _ hj]; exact hdk))
                generalize bt s (i + k) = b at *
                clear hdk
                go_wp2_with fail
                refine (unhide HPk).mono ?_
                rintro e w6 ⟨rfl, r6, k6⟩
                have HK6 := hide ((unhide HK).trans k6)
                have R6 := hide r6
                clear HPk r6 k6 HK
                go_wp2_with fail
                refine (unhide HDk _).mono ?_
                rintro e w7 ⟨rfl, rfl⟩
                clear HDk
                go_wp2
                go_ret
                exact ⟨unhide HK6, .inr ⟨_, i + k, by rw [unhide HV, unhide HF], by first | rfl | (congr 2; go_num), by omega, hsz, unhide R6⟩⟩
            · obtain rfl : k = 9 := by omega
              have HF := hide ((unhide hrun).fin (by omega) hz2 (.inl rfl))
              go_wp2
              go_ret
              exact ⟨unhide HK, .inr ⟨_, i + 9, by rw [unhide HV, unhide HF], by first | rfl | (congr 2; go_num), by omega, hsz, unhide hr⟩⟩
end Go.Proofs.Ytiolpmhodbefoaa

