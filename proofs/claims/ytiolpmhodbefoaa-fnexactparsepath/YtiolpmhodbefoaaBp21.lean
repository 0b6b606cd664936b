import Derived.Laws.AppendOwn
import Derived.Test.YtiolpmhodbefoaaBp20
namespace Go.Proofs.Ytiolpmhodbefoaa
open Go.RowKit

/-- A row of places that the call owns. -/
def TI (w : World) (B : Nat) (v : Value) (ns : List Nat) : Prop := w.ownsRow B 3 1 v ns.length (ns.map fun (n : Nat) => Value.int .i64 (n : Int))
theorem infoIn : (Try.prog.info? 3).map (fun i => (i.zero, i.size, i.bytes)) = some (some (.int .i64 0), 1, 8) := by kernel_rfl
theorem TI.snoc {w : World} {B : Nat} {v : Value} {ns : List Nat} {n : Nat} (h : w.ownsRow B 3 1 v (ns.length + 1) ((ns.map fun (n : Nat) => Value.int .i64 (n : Int)) ++ [.int .i64 (n : Int)])) : TI w B v (ns ++ [n]) := by
  unfold TI
  rw [List.length_append, List.map_append]
  exact h
set_option maxHeartbeats 800000 in
theorem wordB_walk (s t : ByteArray) (i : Nat) (w : World) (hs : s.size ≤ 1048576) (ht : t.size ≤ 10) (hi : i ≤ s.size) :
    Calls Try.prog 34 #[.string s, .int .i64 (i : Int), .string t] w fun e w' => e = .returned (.bool (t.data.toList.isPrefixOf (dr s i))) ∧ w = w' := by
  have hdt := data_len t
  by_cases hin : i + t.size ≤ s.size
  · have h1 : (i : Int) + (t.size : Int) ≤ (s.size : Int) := by omega
    have h2 : (i : Int) ≤ (i : Int) + (t.size : Int) := by omega
    have h3 : (0 : Int) ≤ (i : Int) := by omega
    have HV : Hid (t.data.toList.isPrefixOf (dr s i) = ((s.extract i (i + t.size)).toList == t.toList)) := by
      show _ = _
      rw [ByteArray.toList_eq, ByteArray.toList_eq, Lib.extract_data, show i + t.size - i = t.size by omega]
      show _ = ((dr s i).take t.size == t.data.toList)
      rw [Bool.eq_iff_iff, List.isPrefixOf_iff_prefix, beq_iff_eq, List.prefix_iff_eq_take, hdt]
      exact ⟨Eq.symm, Eq.symm⟩
    clear hdt
    go_enter Try.func34, Try.ntmps34
    go_wp2
    go_ret
    exact ⟨by rw [unhide HV]; rfl, rfl⟩
  · have h1 : ¬ (i : Int) + (t.size : Int) ≤ (s.size : Int) := by omega
    have HV : Hid (t.data.toList.isPrefixOf (dr s i) = false) := by
      show _ = _
      rw [Bool.eq_false_iff]
      intro h
      have := (List.isPrefixOf_iff_prefix.1 h).length_le
      rw [hdt, dr_len] at this
      omega
    clear hdt
    go_enter Try.func34, Try.ntmps34
    go_wp2
    go_ret
    exact ⟨by rw [unhide HV]; rfl, rfl⟩
set_option maxRecDepth 100000 in
set_option maxHeartbeats 8000000 in
theorem tops_walk (s t : ByteArray) (c : UInt8) (ws : Bs) (w : World) (hs : s.size ≤ 1048576) (ht : t.data.toList = c :: ws) (hts : t.size ≤ 10) :
    Calls Try.prog 54 #[.string s, .string t] w fun e w' => ∃ v, e = .returned v ∧ TI w' w.heap.size v (tps c ws 0 0 s.data.toList) ∧ Below w.heap.size w w' := by
  obtain ⟨i0, hi, hz0, hz1, hz2⟩ := info_parts infoIn
  have HW : Hid (∀ (k : Nat) (hk : k ≤ s.size) (w : World), Calls Try.prog 34 #[.string s, .int .i64 (k : Int), .string t] w fun e w' => e = .returned (.bool ((c :: ws).isPrefixOf (dr s k))) ∧ w = w') := fun k hk w => by rw [← ht]; exact wordB_walk s t k w hs hts hk
  have HE : Hid (∀ (k : Nat) (hk : k < s.size) (w : World), Calls Try.prog 53 #[.string s, .int .i64 (k : Int)] w fun e w' => e = .returned (.int .i64 (plcO s (sE (dr s (k + 1))))) ∧ w = w') := fun k hk w => strEnd_walk s k hk w hs
  have htl : t.size = ws.length + 1 := by rw [← data_len, ht]; rfl
  generalize hR : tps c ws 0 0 s.data.toList = R
  have HR : Hid (tps c ws 0 0 (dr s 0) = R) := hR
  clear hR ht
  go_enter Try.func54, Try.ntmps54
  go_wp2
  go_loopw [5, 6, 7] (fun v ov iv wr => ∃ (k : Nat) (o : Int) (ns : List Nat), k ≤ s.size ∧ ns.length ≤ k ∧ ov = .int .i64 o ∧ iv = .int .i64 (k : Int) ∧ -(k : Int) ≤ o ∧ o ≤ (k : Int) ∧ Hid (ns ++ tps c ws o k (dr s k) = R) ∧ Hid (TI wr w.heap.size v ns) ∧ Below w.heap.size w wr) (fun _ _ iv _ => s.size - (intOf iv).toNat)
  case atStart => exact ⟨0, 0, [], by omega, by simp, rfl, rfl, by simp, by simp, HR, World.ownsRow_lit w #[] 0 (Nat.le_refl _) (by unfold maxLen; omega) rfl, (Below.refl _ _).alloc (Nat.le_refl _) _⟩
  case round =>
    obtain ⟨k, o, ns, hk, hns, rfl, rfl, hO1, hO2, hd, hown, hb⟩ := hrel
    clear HR
    have hwsz := hb.size
    have HB := hide hb
    clear hb
    by_cases hlt : k < s.size
    · have hltI : (k : Int) < (s.size : Int) := by omega
      have hE := dr_at hlt
      have HEk : Hid (∀ w, Calls Try.prog 53 #[.string s, .int .i64 (k : Int)] w fun e w' => e = .returned (.int .i64 (plcO s (sE (dr s (k + 1))))) ∧ w = w') := fun w => unhide HE k hlt w
      have HWk : Hid (∀ w, Calls Try.prog 34 #[.string s, .int .i64 (k : Int), .string t] w fun e w' => e = .returned (.bool ((c :: ws).isPrefixOf (dr s k))) ∧ w = w') := fun w => unhide HW k hk w
      clear HE HW
      by_cases ho : o = 0
      · subst ho
        cases hp : (c :: ws).isPrefixOf (dr s k) with
        | true =>
          rw [hp] at HWk
          have hle : k + t.size ≤ s.size := by
            have := (List.isPrefixOf_iff_prefix.1 hp).length_le
            rw [dr_len, List.length_cons] at this
            omega
          have HN : Hid ((ns ++ [k]) ++ tps c ws 0 (k + t.size) (dr s (k + t.size)) = R) := by
            show _ = _
            rw [← unhide hd, hE, tps_hit (by rw [← hE]; exact hp), dr_dr, htl, List.append_assoc, show k + 1 + ws.length = k + (ws.length + 1) by omega]; rfl
          clear hd hE hp HEk
          go_wp2_with fail
          refine (unhide HWk _).mono ?_
          rintro e w2 ⟨rfl, rfl⟩
          clear HWk
          go_wp2_with (at_builtin; refine wpList_append_own _ rfl (.tmp 21) (.tmp 23) 103 rfl w.heap.size 3 i0 (.int .i64 0) 1 8 Try.underlying103 hi hz0 hz1 hz2 rfl (by decide) _ _ _ rfl ((unhide hown).alloc _) ⟨wr.heap.size, 0, none⟩ 1 1 [.int .i64 (k : Int)] rfl rfl (lit1 _ _ _) (one1 _ _) (by unfold maxLen; omega) (by omega) (by simp; omega) ?_)
          intro v2 w2 hown2 hgrow2 _
          have HB2 : Hid (Below w.heap.size w w2) := ((unhide HB).alloc hwsz _).grown hgrow2 (by simp; omega) (fun k hk => ((unhide hown).lt k hk).1)
          have HO2 : Hid (TI w2 w.heap.size v2 (ns ++ [k])) := TI.snoc hown2
          clear hown2 hgrow2 hown HB
          go_wp2
          go_roundw
          case rel => exact ⟨k + t.size, 0, ns ++ [k], hle, by simp; omega, rfl, by go_num, by omega, by omega, HN, HO2, unhide HB2⟩
          case measure => simp [intOf]; omega
        | false =>
          rw [hp] at HWk
          have hno : ¬ ((0 : Int) = 0 ∧ (c :: ws).isPrefixOf (s[k] :: dr s (k + 1)) = true) := by rw [← hE, hp]; rintro ⟨-, h⟩; cases h
          clear hp
          by_cases h39 : s[k] = 39
          · have h39I : ((s[k].toNat : Nat) : Int) = 39 := u8_is h39
            rw [hE, h39] at hd
            rw [h39] at hno
            cases ht : sE (dr s (k + 1)) with
            | none =>
              rw [ht] at HEk
              have HN : Hid (ns = R) := by
                show _ = _
                rw [← unhide hd, tps_39 hno, ht]; simp
              clear hd hE h39 ht hno
              go_wp2_with fail
              refine (unhide HWk _).mono ?_
              rintro e w2 ⟨rfl, rfl⟩
              clear HWk
              go_wp2_with fail
              refine (unhide HEk _).mono ?_
              rintro e w2 ⟨rfl, rfl⟩
              clear HEk
              go_wp2
              go_ret
              exact ⟨_, rfl, by rw [← unhide HN]; exact unhide hown, unhide HB⟩
            | some x =>
              rw [ht] at HEk
              obtain ⟨e1, e2⟩ := sE_dr hlt ht
              have HN : Hid (ns ++ tps c ws (0) (s.size - x.length) (dr s (s.size - x.length)) = R) := by
                show _ = _
                rw [← unhide hd, tps_39 hno, ht]
                simp only
                rw [← e1, dr_len]
                congr 2; omega
              have hq : ∃ q : Nat, s.size - x.length = q ∧ k < q ∧ q ≤ s.size := ⟨_, rfl, by omega, by omega⟩
              obtain ⟨q, hq, hq1, hq2⟩ := hq
              have HEq : Hid (∀ w, Calls Try.prog 53 #[.string s, .int .i64 (k : Int)] w fun e w' => e = .returned (.int .i64 (q : Int)) ∧ w = w') := by
                have := unhide HEk
                unfold plcO at this
                simp only at this
                rw [hq] at this
                exact this
              rw [hq] at HN
              have hqI : ¬ (q : Int) < 0 := by omega
              clear hd hE h39 ht HEk e1 e2 hq hno
              go_wp2_with fail
              refine (unhide HWk _).mono ?_
              rintro e w2 ⟨rfl, rfl⟩
              clear HWk
              go_wp2_with fail
              refine (unhide HEq _).mono ?_
              rintro e w2 ⟨rfl, rfl⟩
              clear HEq
              go_wp2
              go_roundw
              case rel => exact ⟨q, 0, ns, hq2, by omega, rfl, rfl, by omega, by omega, HN, hown, unhide HB⟩
              case measure => simp [intOf]; omega
          · have h39I : ¬ ((s[k].toNat : Nat) : Int) = 39 := u8_not h39
            clear HEk
            by_cases h40 : s[k] = 40
            · have h40I : ((s[k].toNat : Nat) : Int) = 40 := u8_is h40
              have HN : Hid (ns ++ tps c ws (0 + 1) (k + 1) (dr s (k + 1)) = R) := by
                show _ = _
                rw [← unhide hd, hE, tps_chr hno h39, show brkO (0) s[k] = 0 + 1 by unfold brkO; rw [if_pos (.inl h40)]]
              clear hd hE h39 hno h40
              go_wp2_with fail
              refine (unhide HWk _).mono ?_
              rintro e w2 ⟨rfl, rfl⟩
              clear HWk
              go_wp2
              go_roundw
              case rel => exact ⟨k + 1, 0 + 1, ns, by omega, by omega, by go_num, by go_num, by omega, by omega, HN, hown, unhide HB⟩
              case measure => simp [intOf]; omega
            · have h40I : ¬ ((s[k].toNat : Nat) : Int) = 40 := u8_not h40
              by_cases h91 : s[k] = 91
              · have h91I : ((s[k].toNat : Nat) : Int) = 91 := u8_is h91
                have HN : Hid (ns ++ tps c ws (0 + 1) (k + 1) (dr s (k + 1)) = R) := by
                  show _ = _
                  rw [← unhide hd, hE, tps_chr hno h39, show brkO (0) s[k] = 0 + 1 by unfold brkO; rw [if_pos (.inr h91)]]
                clear hd hE h39 hno h40 h91
                go_wp2_with fail
                refine (unhide HWk _).mono ?_
                rintro e w2 ⟨rfl, rfl⟩
                clear HWk
                go_wp2
                go_roundw
                case rel => exact ⟨k + 1, 0 + 1, ns, by omega, by omega, by go_num, by go_num, by omega, by omega, HN, hown, unhide HB⟩
                case measure => simp [intOf]; omega
              · have h91I : ¬ ((s[k].toNat : Nat) : Int) = 91 := u8_not h91
                by_cases h41 : s[k] = 41
                · have h41I : ((s[k].toNat : Nat) : Int) = 41 := u8_is h41
                  have HN : Hid (ns ++ tps c ws (0 - 1) (k + 1) (dr s (k + 1)) = R) := by
                    show _ = _
                    rw [← unhide hd, hE, tps_chr hno h39, show brkO (0) s[k] = 0 - 1 by unfold brkO; rw [if_neg (by rintro (h | h); exact h40 h; exact h91 h), if_pos (.inl h41)]]
                  clear hd hE h39 hno h40 h91 h41
                  go_wp2_with fail
                  refine (unhide HWk _).mono ?_
                  rintro e w2 ⟨rfl, rfl⟩
                  clear HWk
                  go_wp2
                  go_roundw
                  case rel => exact ⟨k + 1, 0 - 1, ns, by omega, by omega, by go_num, by go_num, by omega, by omega, HN, hown, unhide HB⟩
                  case measure => simp [intOf]; omega
                · have h41I : ¬ ((s[k].toNat : Nat) : Int) = 41 := u8_not h41
                  by_cases h93 : s[k] = 93
                  · have h93I : ((s[k].toNat : Nat) : Int) = 93 := u8_is h93
                    have HN : Hid (ns ++ tps c ws (0 - 1) (k + 1) (dr s (k + 1)) = R) := by
                      show _ = _
                      rw [← unhide hd, hE, tps_chr hno h39, show brkO (0) s[k] = 0 - 1 by unfold brkO; rw [if_neg (by rintro (h | h); exact h40 h; exact h91 h), if_pos (.inr h93)]]
                    clear hd hE h39 hno h40 h91 h41 h93
                    go_wp2_with fail
                    refine (unhide HWk _).mono ?_
                    rintro e w2 ⟨rfl, rfl⟩
                    clear HWk
                    go_wp2
                    go_roundw
                    case rel => exact ⟨k + 1, 0 - 1, ns, by omega, by omega, by go_num, by go_num, by omega, by omega, HN, hown, unhide HB⟩
                    case measure => simp [intOf]; omega
                  · have h93I : ¬ ((s[k].toNat : Nat) : Int) = 93 := u8_not h93
                    have HN : Hid (ns ++ tps c ws (0) (k + 1) (dr s (k + 1)) = R) := by
                      show _ = _
                      rw [← unhide hd, hE, tps_chr hno h39, show brkO (0) s[k] = 0 by unfold brkO; rw [if_neg (by rintro (h | h); exact h40 h; exact h91 h), if_neg (by rintro (h | h); exact h41 h; exact h93 h)]]
                    clear hd hE h39 hno h40 h91 h41 h93
                    have b40 : (((s[k].toNat : Nat) : Int) == 40) = false := beq_eq_false_iff_ne.2 h40I
                    have b91 : (((s[k].toNat : Nat) : Int) == 91) = false := beq_eq_false_iff_ne.2 h91I
                    have b41 : (((s[k].toNat : Nat) : Int) == 41) = false := beq_eq_false_iff_ne.2 h41I
                    have b93 : (((s[k].toNat : Nat) : Int) == 93) = false := beq_eq_false_iff_ne.2 h93I
                    go_wp2_with fail
                    refine (unhide HWk _).mono ?_
                    rintro e w2 ⟨rfl, rfl⟩
                    clear HWk
                    go_wp2
                    go_roundw
                    case rel => exact ⟨k + 1, 0, ns, by omega, by omega, by go_num, by go_num, by omega, by omega, HN, hown, unhide HB⟩
                    case measure => simp [intOf]; omega
      · have hno : ¬ (o = 0 ∧ (c :: ws).isPrefixOf (s[k] :: dr s (k + 1)) = true) := fun h => ho h.1
        clear HWk
        by_cases h39 : s[k] = 39
        · have h39I : ((s[k].toNat : Nat) : Int) = 39 := u8_is h39
          rw [hE, h39] at hd
          rw [h39] at hno
          cases ht : sE (dr s (k + 1)) with
          | none =>
            rw [ht] at HEk
            have HN : Hid (ns = R) := by
              show _ = _
              rw [← unhide hd, tps_39 hno, ht]; simp
            clear hd hE h39 ht hno
            go_wp2_with fail
            refine (unhide HEk _).mono ?_
            rintro e w2 ⟨rfl, rfl⟩
            clear HEk
            go_wp2
            go_ret
            exact ⟨_, rfl, by rw [← unhide HN]; exact unhide hown, unhide HB⟩
          | some x =>
            rw [ht] at HEk
            obtain ⟨e1, e2⟩ := sE_dr hlt ht
            have HN : Hid (ns ++ tps c ws (o) (s.size - x.length) (dr s (s.size - x.length)) = R) := by
              show _ = _
              rw [← unhide hd, tps_39 hno, ht]
              simp only
              rw [← e1, dr_len]
              congr 2; omega
            have hq : ∃ q : Nat, s.size - x.length = q ∧ k < q ∧ q ≤ s.size := ⟨_, rfl, by omega, by omega⟩
            obtain ⟨q, hq, hq1, hq2⟩ := hq
            have HEq : Hid (∀ w, Calls Try.prog 53 #[.string s, .int .i64 (k : Int)] w fun e w' => e = .returned (.int .i64 (q : Int)) ∧ w = w') := by
              have := unhide HEk
              unfold plcO at this
              simp only at this
              rw [hq] at this
              exact this
            rw [hq] at HN
            have hqI : ¬ (q : Int) < 0 := by omega
            clear hd hE h39 ht HEk e1 e2 hq hno
            go_wp2_with fail
            refine (unhide HEq _).mono ?_
            rintro e w2 ⟨rfl, rfl⟩
            clear HEq
            go_wp2
            go_roundw
            case rel => exact ⟨q, o, ns, hq2, by omega, rfl, rfl, by omega, by omega, HN, hown, unhide HB⟩
            case measure => simp [intOf]; omega
        · have h39I : ¬ ((s[k].toNat : Nat) : Int) = 39 := u8_not h39
          clear HEk
          by_cases h40 : s[k] = 40
          · have h40I : ((s[k].toNat : Nat) : Int) = 40 := u8_is h40
            have HN : Hid (ns ++ tps c ws (o + 1) (k + 1) (dr s (k + 1)) = R) := by
              show _ = _
              rw [← unhide hd, hE, tps_chr hno h39, show brkO (o) s[k] = o + 1 by unfold brkO; rw [if_pos (.inl h40)]]
            clear hd hE h39 hno h40
            go_wp2
            go_roundw
            case rel => exact ⟨k + 1, o + 1, ns, by omega, by omega, by go_num, by go_num, by omega, by omega, HN, hown, unhide HB⟩
            case measure => simp [intOf]; omega
          · have h40I : ¬ ((s[k].toNat : Nat) : Int) = 40 := u8_not h40
            by_cases h91 : s[k] = 91
            · have h91I : ((s[k].toNat : Nat) : Int) = 91 := u8_is h91
              have HN : Hid (ns ++ tps c ws (o + 1) (k + 1) (dr s (k + 1)) = R) := by
                show _ = _
                rw [← unhide hd, hE, tps_chr hno h39, show brkO (o) s[k] = o + 1 by unfold brkO; rw [if_pos (.inr h91)]]
              clear hd hE h39 hno h40 h91
              go_wp2
              go_roundw
              case rel => exact ⟨k + 1, o + 1, ns, by omega, by omega, by go_num, by go_num, by omega, by omega, HN, hown, unhide HB⟩
              case measure => simp [intOf]; omega
            · have h91I : ¬ ((s[k].toNat : Nat) : Int) = 91 := u8_not h91
              by_cases h41 : s[k] = 41
              · have h41I : ((s[k].toNat : Nat) : Int) = 41 := u8_is h41
                have HN : Hid (ns ++ tps c ws (o - 1) (k + 1) (dr s (k + 1)) = R) := by
                  show _ = _
                  rw [← unhide hd, hE, tps_chr hno h39, show brkO (o) s[k] = o - 1 by unfold brkO; rw [if_neg (by rintro (h | h); exact h40 h; exact h91 h), if_pos (.inl h41)]]
                clear hd hE h39 hno h40 h91 h41
                go_wp2
                go_roundw
                case rel => exact ⟨k + 1, o - 1, ns, by omega, by omega, by go_num, by go_num, by omega, by omega, HN, hown, unhide HB⟩
                case measure => simp [intOf]; omega
              · have h41I : ¬ ((s[k].toNat : Nat) : Int) = 41 := u8_not h41
                by_cases h93 : s[k] = 93
                · have h93I : ((s[k].toNat : Nat) : Int) = 93 := u8_is h93
                  have HN : Hid (ns ++ tps c ws (o - 1) (k + 1) (dr s (k + 1)) = R) := by
                    show _ = _
                    rw [← unhide hd, hE, tps_chr hno h39, show brkO (o) s[k] = o - 1 by unfold brkO; rw [if_neg (by rintro (h | h); exact h40 h; exact h91 h), if_pos (.inr h93)]]
                  clear hd hE h39 hno h40 h91 h41 h93
                  go_wp2
                  go_roundw
                  case rel => exact ⟨k + 1, o - 1, ns, by omega, by omega, by go_num, by go_num, by omega, by omega, HN, hown, unhide HB⟩
                  case measure => simp [intOf]; omega
                · have h93I : ¬ ((s[k].toNat : Nat) : Int) = 93 := u8_not h93
                  have HN : Hid (ns ++ tps c ws (o) (k + 1) (dr s (k + 1)) = R) := by
                    show _ = _
                    rw [← unhide hd, hE, tps_chr hno h39, show brkO (o) s[k] = o by unfold brkO; rw [if_neg (by rintro (h | h); exact h40 h; exact h91 h), if_neg (by rintro (h | h); exact h41 h; exact h93 h)]]
                  clear hd hE h39 hno h40 h91 h41 h93
                  have b40 : (((s[k].toNat : Nat) : Int) == 40) = false := beq_eq_false_iff_ne.2 h40I
                  have b91 : (((s[k].toNat : Nat) : Int) == 91) = false := beq_eq_false_iff_ne.2 h91I
                  have b41 : (((s[k].toNat : Nat) : Int) == 41) = false := beq_eq_false_iff_ne.2 h41I
                  have b93 : (((s[k].toNat : Nat) : Int) == 93) = false := beq_eq_false_iff_ne.2 h93I
                  go_wp2
                  go_roundw
                  case rel => exact ⟨k + 1, o, ns, by omega, by omega, by go_num, by go_num, by omega, by omega, HN, hown, unhide HB⟩
                  case measure => simp [intOf]; omega
    · have HN : Hid (ns = R) := by
        show _ = _
        rw [← unhide hd, dr_end (by omega), tps_nil, List.append_nil]
      have hltI : ¬ (k : Int) < (s.size : Int) := by omega
      clear hd HE HW
      go_wp2
      go_ret
      exact ⟨_, rfl, by rw [← unhide HN]; exact unhide hown, unhide HB⟩
end Go.Proofs.Ytiolpmhodbefoaa

