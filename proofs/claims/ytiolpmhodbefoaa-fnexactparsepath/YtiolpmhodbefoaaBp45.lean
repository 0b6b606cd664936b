import Derived.Test.YtiolpmhodbefoaaBp44
namespace Go.Proofs.Ytiolpmhodbefoaa
open Go.RowKit

set_option maxRecDepth 100000 in
set_option maxHeartbeats 8000000 in
theorem rConj {rb : Nat} {s : ByteArray} {n m : Nat} (hs : s.size ≤ 1000000) (IH : Reads 113 rb s (pPr n) m) : Reads 101 rb s (pCj n) m := by
  intro i d nest w B v ops bl h hi hm hrow hF hB hrB hN hn
  have HC := hide (IH i d nest w B v ops bl h hi hm hrow hF hB hrB hN hn)
  have HIH := hide IH
  have HF := hide hF
  have HSM := hide (pPr_small n)
  have HV : Hid (pCj n (dr s i) = match pPr n (dr s i) with
    | none => none
    | some (x, t) => pTail (pPr n) 38 10 (t.length + 1) x t) := rfl
  obtain ⟨va, vc, rfl, -, -⟩ := hrow.form
  clear h hrow hF IH
  go_enter Try.func101, Try.ntmps101
  go_wp2_with fail
  refine (unhide HC).mono ?_
  rintro e w1 ⟨fr1, hno, hyes⟩
  clear HC
  cases hp : pPr n (dr s i) with
  | none =>
    obtain rfl := hno hp
    exact ⟨rfl, MS.bad fr1 (by rw [unhide HV, hp])⟩
  | some z =>
    obtain ⟨x, t⟩ := z
    obtain ⟨j, v1, b1, hj1, hj2, hj3, r1, rfl, row1, fsh1, new1⟩ := hyes x t hp
    subst hj1
    obtain ⟨qa, qc, rfl, -, -⟩ := row1.form
    have hsm := unhide HSM _ _ _ hp
    rw [dr_len, dr_len] at hsm
    have S1 : Hid (MS rb s i d nest w B ops bl w1 (.slice qa (ops ++ x.1).length qc) x j b1) := ⟨fr1, r1, row1, fsh1, new1, hrB, hj2, hj3⟩
    have U1 : Hid (MU (pPr n) 38 10 s (pCj n (dr s i)) x j) := ⟨_, Nat.lt_succ_self _, by rw [unhide HV, hp]⟩
    have HSY : Hid (∀ (q : Nat) (D : Int) (w : World), q < s.size → bt s q = 38 → PRd rb s q D w → Calls Try.prog 59 #[.pointer (some ⟨rb, 0, none⟩), .int .u8 ((38 : Nat) : Int)] w fun e w' => e = .returned (.bool true) ∧ PRd rb s (q + 1) D w' ∧ KB rb w w') := fun q D w hj hb hr => pskip_yes rb s q D w hr (by omega) 38 hb hj
    have HSN : Hid (∀ (q : Nat) (D : Int) (w : World), q ≤ s.size → ¬ bt s q = 38 → PRd rb s q D w → Calls Try.prog 59 #[.pointer (some ⟨rb, 0, none⟩), .int .u8 ((38 : Nat) : Int)] w fun e w' => e = .returned (.bool false) ∧ PRd rb s q D w' ∧ KB rb w w') := fun q D w hj hb hr => pskip_no rb s q D w hr hj 38 (.inl hb)
    have HEY : Hid (∀ (q : Nat) (D : Int) (w : World), q < s.size → bt s q = 38 → PRd rb s q D w → Calls Try.prog 42 #[.pointer (some ⟨rb, 0, none⟩), .int .u8 ((38 : Nat) : Int)] w fun e w' => e = .returned (.tuple #[]) ∧ PRd rb s (q + 1) D w' ∧ KB rb w w') := fun q D w hj hb hr => pexpect_yes rb s q D w hr (by omega) 38 hb hj
    have HEN : Hid (∀ (q : Nat) (D : Int) (w : World), q ≤ s.size → ¬ bt s q = 38 → PRd rb s q D w → Calls Try.prog 42 #[.pointer (some ⟨rb, 0, none⟩), .int .u8 ((38 : Nat) : Int)] w fun e w' => e = mis ∧ KB rb w w') := fun q D w hj hb hr => pexpect_no rb s q D w hr (by omega) hj 38 (.inl hb)
    have hjs : x.1.length + 3 * (s.size - j) ≤ 3 * (s.size - i) := by omega
    obtain ⟨L, hL⟩ : ∃ L, (ops ++ x.1).length = L := ⟨_, rfl⟩
    rw [hL] at S1 ⊢
    clear fr1 hno hyes hp r1 row1 fsh1 new1 HV hsm hL
    go_wp2_with fail
    go_loopg [1] (s.size + 1 - j) (fun gk ov wr => ∃ (j : Nat) (x : XC) (oa : Option Addr) (ol oc : Nat) (bc : List Nat), gk = s.size + 1 - j ∧ ov = .slice oa ol oc ∧ x.1.length + 3 * (s.size - j) ≤ 3 * (s.size - i) ∧ Hid (MU (pPr n) 38 10 s (pCj n (dr s i)) x j) ∧ Hid (MS rb s i d nest w B ops bl wr (.slice oa ol oc) x j bc))
    case atStart => exact ⟨j, x, qa, _, qc, b1, rfl, rfl, hjs, U1, S1⟩
    case round =>
      obtain ⟨j, x, oa, ol, oc, bc, hg, rfl, hjs, hu, hms⟩ := hrel
      clear S1 U1
      obtain ⟨hij, hjl⟩ := (unhide hms).le
      by_cases hc : bt s j = 38
      · obtain ⟨hjs2, -⟩ := bt_is 38 hc (by decide)
        have HC1 := hide (unhide HSY j _ wr hjs2 hc (unhide hms).rd)
        go_wp2_with fail
        refine (unhide HC1).mono ?_
        rintro e w2 ⟨rfl, r2, k2⟩
        have S2 := hide ((unhide hms).kb k2 r2 (by omega) (by omega))
        clear HC1 r2 k2 hms
        by_cases hd : bt s (j + 1) = 38
        · obtain ⟨hjs3, -⟩ := bt_is 38 hd (by decide)
          have HC2 := hide (unhide HEY (j + 1) _ w2 hjs3 hd (unhide S2).rd)
          obtain ⟨hu1, hu2⟩ := (unhide hu).two (by decide) hc hd
          have HU1 := hide hu1
          have HU2 := hide hu2
          clear hc hd hu hu1 hu2
          go_wp2_with fail
          refine (unhide HC2).mono ?_
          rintro e w3 ⟨rfl, r3, k3⟩
          have S3 := hide ((unhide S2).kb k3 r3 (by omega) (by omega))
          have hz3 := (unhide S3).fr.size
          have HC3 := hide (unhide HIH (j + 1 + 1) _ nest w3 B _ _ bc (unhide S3).rd (by omega) (by omega) (unhide S3).row (unhide S3).fsh (by omega) hrB (by rw [List.length_append]; omega) (by omega))
          clear HC2 r3 k3 S2
          go_wp2_with fail
          refine (unhide HC3).mono ?_
          rintro e w4 ⟨fr4, hno, hyes⟩
          clear HC3
          cases hp : pPr n (dr s (j + 1 + 1)) with
          | none =>
            obtain rfl := hno hp
            have hfr : Fr (rb :: bl) w w4 := (unhide S3).fr.trans' fr4 fun b hb => by
              rcases List.mem_cons.1 hb with rfl | hb
              · left; simp
              · rcases (unhide S3).new b hb with h3 | h3
                · left; exact List.mem_cons_of_mem _ h3
                · right; exact h3
            exact ⟨rfl, MS.bad hfr (unhide HU1 hp)⟩
          | some z =>
            obtain ⟨y, t⟩ := z
            obtain ⟨q, v4, b4, hq1, hq2, hq3, r4, rfl, row4, fsh4, new4⟩ := hyes y t hp
            subst hq1
            obtain ⟨ya, yc, rfl, -, -⟩ := row4.form
            have hsm := unhide HSM _ _ _ hp
            rw [dr_len, dr_len] at hsm
            have hs4 := (unhide S3).call fr4 r4 row4 fsh4 new4 hq2 hq3
            have hU4 := unhide HU2 y q hp (by omega) hq3
            have HU4 := hide hU4
            obtain ⟨L2, hL2⟩ : ∃ L, (ops ++ x.1 ++ y.1).length = L := ⟨_, rfl⟩
            have hl2 : L2 ≤ ops.length + 6 * (s.size - i) := by rw [← hL2, List.length_append, List.length_append]; omega
            rw [hL2] at hs4 ⊢
            have S4 := hide hs4
            have hz4 := hs4.fr.size
            have hlen4 : ((ops ++ (x.1 ++ y.1)).length) + 1 ≤ 40000000 := by rw [← List.append_assoc, hL2]; omega
            have hal := al_b w4 (.cells #[.int .i64 10, .int .i64 0, .string ⟨#[]⟩, .bool false, .slice none 0 0] 65)
            have ROW5 := hide (hs4.row.below hal)
            have FSH5 := hide hs4.fsh
            clear hno hyes hp fr4 r4 row4 fsh4 new4 hs4 hU4 HU1 HU2 S3 hL2 hal
            go_wp2_with (at_builtin; refine wpl_app1 ekFOp rfl (.tmp 22) (.tmp 24) rfl rfl (unhide ROW5) (unhide FSH5) (vs := [.int .i64 10, .int .i64 0, .string ⟨#[]⟩, .bool false, .slice none 0 0]) (y := opK 10) (fopE_lit _ _ _ _) (Fsh.nil _) (by simp) rfl (by exact lit_cells w4 [_, _, _, _, _] _) (fop_one _ _ _ _ _ _ _) (by simp; omega) hlen4 ?_)
            intro v5 w5 b5 hA
            rw [show ops ++ (x.1 ++ (y.1 ++ [opK 10])) = (ops ++ (x.1 ++ y.1)) ++ [opK 10] by simp] at hA
            have S5 := hide ((unhide S4).app (al_b w4 _) hA)
            obtain ⟨za, zc, hza, -, -⟩ := hA.row.form
            obtain ⟨L3, hL3⟩ : ∃ L, (ops ++ (x.1 ++ y.1) ++ [opK 10]).length = L := ⟨_, rfl⟩
            rw [hL3] at hza
            subst hza
            clear hL3
            clear hA
            go_wp2
            go_roundg (s.size + 1 - q)
            case rel =>
              refine ⟨q, joinX 10 x y, za, _, zc, b5, rfl, rfl, ?_, HU4, S5⟩
              show (x.1 ++ y.1 ++ [opK 10]).length + _ ≤ _
              simp only [List.length_append, List.length_singleton]
              omega
            case measure => omega
        · have HC2 := hide (unhide HEN (j + 1) _ w2 (by omega) hd (unhide S2).rd)
          have HF2 := hide ((unhide hu).one (by decide) hc hd)
          clear hc hd hu
          go_wp2_with fail
          refine (unhide HC2).mono ?_
          rintro e w3 ⟨rfl, k3⟩
          exact ⟨rfl, MS.bad ((unhide S2).fr.trans' (k3.fr []) (fun b hb => .inl (by simp at hb; simp [hb]))) (unhide HF2)⟩
      · have HC1 := hide (unhide HSN j _ wr hjl hc (unhide hms).rd)
        have HF1 := hide ((unhide hu).fin hc)
        clear hc hu
        go_wp2_with fail
        refine (unhide HC1).mono ?_
        rintro e w2 ⟨rfl, r2, k2⟩
        have S2 := hide ((unhide hms).kb k2 r2 (Nat.le_refl _) hjl)
        clear HC1 r2 k2 hms
        go_wp2
        try simp only [Exit.inBlock, Exit.then]
        go_ret
        exact (unhide S2).done (unhide HF1)
set_option maxRecDepth 100000 in
set_option maxHeartbeats 8000000 in
theorem rCond {rb : Nat} {s : ByteArray} {n m : Nat} (hs : s.size ≤ 1000000) (IH : Reads 101 rb s (pCj n) m) : Reads 91 rb s (pCd n) m := by
  intro i d nest w B v ops bl h hi hm hrow hF hB hrB hN hn
  have HC := hide (IH i d nest w B v ops bl h hi hm hrow hF hB hrB hN hn)
  have HIH := hide IH
  have HF := hide hF
  have HSM := hide (pCj_small n)
  have HV : Hid (pCd n (dr s i) = match pCj n (dr s i) with
    | none => none
    | some (x, t) => pTail (pCj n) 124 11 (t.length + 1) x t) := rfl
  obtain ⟨va, vc, rfl, -, -⟩ := hrow.form
  clear h hrow hF IH
  go_enter Try.func91, Try.ntmps91
  go_wp2_with fail
  refine (unhide HC).mono ?_
  rintro e w1 ⟨fr1, hno, hyes⟩
  clear HC
  cases hp : pCj n (dr s i) with
  | none =>
    obtain rfl := hno hp
    exact ⟨rfl, MS.bad fr1 (by rw [unhide HV, hp])⟩
  | some z =>
    obtain ⟨x, t⟩ := z
    obtain ⟨j, v1, b1, hj1, hj2, hj3, r1, rfl, row1, fsh1, new1⟩ := hyes x t hp
    subst hj1
    obtain ⟨qa, qc, rfl, -, -⟩ := row1.form
    have hsm := unhide HSM _ _ _ hp
    rw [dr_len, dr_len] at hsm
    have S1 : Hid (MS rb s i d nest w B ops bl w1 (.slice qa (ops ++ x.1).length qc) x j b1) := ⟨fr1, r1, row1, fsh1, new1, hrB, hj2, hj3⟩
    have U1 : Hid (MU (pCj n) 124 11 s (pCd n (dr s i)) x j) := ⟨_, Nat.lt_succ_self _, by rw [unhide HV, hp]⟩
    have HSY : Hid (∀ (q : Nat) (D : Int) (w : World), q < s.size → bt s q = 124 → PRd rb s q D w → Calls Try.prog 59 #[.pointer (some ⟨rb, 0, none⟩), .int .u8 ((124 : Nat) : Int)] w fun e w' => e = .returned (.bool true) ∧ PRd rb s (q + 1) D w' ∧ KB rb w w') := fun q D w hj hb hr => pskip_yes rb s q D w hr (by omega) 124 hb hj
    have HSN : Hid (∀ (q : Nat) (D : Int) (w : World), q ≤ s.size → ¬ bt s q = 124 → PRd rb s q D w → Calls Try.prog 59 #[.pointer (some ⟨rb, 0, none⟩), .int .u8 ((124 : Nat) : Int)] w fun e w' => e = .returned (.bool false) ∧ PRd rb s q D w' ∧ KB rb w w') := fun q D w hj hb hr => pskip_no rb s q D w hr hj 124 (.inl hb)
    have HEY : Hid (∀ (q : Nat) (D : Int) (w : World), q < s.size → bt s q = 124 → PRd rb s q D w → Calls Try.prog 42 #[.pointer (some ⟨rb, 0, none⟩), .int .u8 ((124 : Nat) : Int)] w fun e w' => e = .returned (.tuple #[]) ∧ PRd rb s (q + 1) D w' ∧ KB rb w w') := fun q D w hj hb hr => pexpect_yes rb s q D w hr (by omega) 124 hb hj
    have HEN : Hid (∀ (q : Nat) (D : Int) (w : World), q ≤ s.size → ¬ bt s q = 124 → PRd rb s q D w → Calls Try.prog 42 #[.pointer (some ⟨rb, 0, none⟩), .int .u8 ((124 : Nat) : Int)] w fun e w' => e = mis ∧ KB rb w w') := fun q D w hj hb hr => pexpect_no rb s q D w hr (by omega) hj 124 (.inl hb)
    have hjs : x.1.length + 3 * (s.size - j) ≤ 3 * (s.size - i) := by omega
    obtain ⟨L, hL⟩ : ∃ L, (ops ++ x.1).length = L := ⟨_, rfl⟩
    rw [hL] at S1 ⊢
    clear fr1 hno hyes hp r1 row1 fsh1 new1 HV hsm hL
    go_wp2_with fail
    go_loopg [1] (s.size + 1 - j) (fun gk ov wr => ∃ (j : Nat) (x : XC) (oa : Option Addr) (ol oc : Nat) (bc : List Nat), gk = s.size + 1 - j ∧ ov = .slice oa ol oc ∧ x.1.length + 3 * (s.size - j) ≤ 3 * (s.size - i) ∧ Hid (MU (pCj n) 124 11 s (pCd n (dr s i)) x j) ∧ Hid (MS rb s i d nest w B ops bl wr (.slice oa ol oc) x j bc))
    case atStart => exact ⟨j, x, qa, _, qc, b1, rfl, rfl, hjs, U1, S1⟩
    case round =>
      obtain ⟨j, x, oa, ol, oc, bc, hg, rfl, hjs, hu, hms⟩ := hrel
      clear S1 U1
      obtain ⟨hij, hjl⟩ := (unhide hms).le
      by_cases hc : bt s j = 124
      · obtain ⟨hjs2, -⟩ := bt_is 124 hc (by decide)
        have HC1 := hide (unhide HSY j _ wr hjs2 hc (unhide hms).rd)
        go_wp2_with fail
        refine (unhide HC1).mono ?_
        rintro e w2 ⟨rfl, r2, k2⟩
        have S2 := hide ((unhide hms).kb k2 r2 (by omega) (by omega))
        clear HC1 r2 k2 hms
        by_cases hd : bt s (j + 1) = 124
        · obtain ⟨hjs3, -⟩ := bt_is 124 hd (by decide)
          have HC2 := hide (unhide HEY (j + 1) _ w2 hjs3 hd (unhide S2).rd)
          obtain ⟨hu1, hu2⟩ := (unhide hu).two (by decide) hc hd
          have HU1 := hide hu1
          have HU2 := hide hu2
          clear hc hd hu hu1 hu2
          go_wp2_with fail
          refine (unhide HC2).mono ?_
          rintro e w3 ⟨rfl, r3, k3⟩
          have S3 := hide ((unhide S2).kb k3 r3 (by omega) (by omega))
          have hz3 := (unhide S3).fr.size
          have HC3 := hide (unhide HIH (j + 1 + 1) _ nest w3 B _ _ bc (unhide S3).rd (by omega) (by omega) (unhide S3).row (unhide S3).fsh (by omega) hrB (by rw [List.length_append]; omega) (by omega))
          clear HC2 r3 k3 S2
          go_wp2_with fail
          refine (unhide HC3).mono ?_
          rintro e w4 ⟨fr4, hno, hyes⟩
          clear HC3
          cases hp : pCj n (dr s (j + 1 + 1)) with
          | none =>
            obtain rfl := hno hp
            have hfr : Fr (rb :: bl) w w4 := (unhide S3).fr.trans' fr4 fun b hb => by
              rcases List.mem_cons.1 hb with rfl | hb
              · left; simp
              · rcases (unhide S3).new b hb with h3 | h3
                · left; exact List.mem_cons_of_mem _ h3
                · right; exact h3
            exact ⟨rfl, MS.bad hfr (unhide HU1 hp)⟩
          | some z =>
            obtain ⟨y, t⟩ := z
            obtain ⟨q, v4, b4, hq1, hq2, hq3, r4, rfl, row4, fsh4, new4⟩ := hyes y t hp
            subst hq1
            obtain ⟨ya, yc, rfl, -, -⟩ := row4.form
            have hsm := unhide HSM _ _ _ hp
            rw [dr_len, dr_len] at hsm
            have hs4 := (unhide S3).call fr4 r4 row4 fsh4 new4 hq2 hq3
            have hU4 := unhide HU2 y q hp (by omega) hq3
            have HU4 := hide hU4
            obtain ⟨L2, hL2⟩ : ∃ L, (ops ++ x.1 ++ y.1).length = L := ⟨_, rfl⟩
            have hl2 : L2 ≤ ops.length + 6 * (s.size - i) := by rw [← hL2, List.length_append, List.length_append]; omega
            rw [hL2] at hs4 ⊢
            have S4 := hide hs4
            have hz4 := hs4.fr.size
            have hlen4 : ((ops ++ (x.1 ++ y.1)).length) + 1 ≤ 40000000 := by rw [← List.append_assoc, hL2]; omega
            have hal := al_b w4 (.cells #[.int .i64 11, .int .i64 0, .string ⟨#[]⟩, .bool false, .slice none 0 0] 65)
            have ROW5 := hide (hs4.row.below hal)
            have FSH5 := hide hs4.fsh
            clear hno hyes hp fr4 r4 row4 fsh4 new4 hs4 hU4 HU1 HU2 S3 hL2 hal
            go_wp2_with (at_builtin; refine wpl_app1 ekFOp rfl (.tmp 22) (.tmp 24) rfl rfl (unhide ROW5) (unhide FSH5) (vs := [.int .i64 11, .int .i64 0, .string ⟨#[]⟩, .bool false, .slice none 0 0]) (y := opK 11) (fopE_lit _ _ _ _) (Fsh.nil _) (by simp) rfl (by exact lit_cells w4 [_, _, _, _, _] _) (fop_one _ _ _ _ _ _ _) (by simp; omega) hlen4 ?_)
            intro v5 w5 b5 hA
            rw [show ops ++ (x.1 ++ (y.1 ++ [opK 11])) = (ops ++ (x.1 ++ y.1)) ++ [opK 11] by simp] at hA
            have S5 := hide ((unhide S4).app (al_b w4 _) hA)
            obtain ⟨za, zc, hza, -, -⟩ := hA.row.form
            obtain ⟨L3, hL3⟩ : ∃ L, (ops ++ (x.1 ++ y.1) ++ [opK 11]).length = L := ⟨_, rfl⟩
            rw [hL3] at hza
            subst hza
            clear hL3
            clear hA
            go_wp2
            go_roundg (s.size + 1 - q)
            case rel =>
              refine ⟨q, joinX 11 x y, za, _, zc, b5, rfl, rfl, ?_, HU4, S5⟩
              show (x.1 ++ y.1 ++ [opK 11]).length + _ ≤ _
              simp only [List.length_append, List.length_singleton]
              omega
            case measure => omega
        · have HC2 := hide (unhide HEN (j + 1) _ w2 (by omega) hd (unhide S2).rd)
          have HF2 := hide ((unhide hu).one (by decide) hc hd)
          clear hc hd hu
          go_wp2_with fail
          refine (unhide HC2).mono ?_
          rintro e w3 ⟨rfl, k3⟩
          exact ⟨rfl, MS.bad ((unhide S2).fr.trans' (k3.fr []) (fun b hb => .inl (by simp at hb; simp [hb]))) (unhide HF2)⟩
      · have HC1 := hide (unhide HSN j _ wr hjl hc (unhide hms).rd)
        have HF1 := hide ((unhide hu).fin hc)
        clear hc hu
        go_wp2_with fail
        refine (unhide HC1).mono ?_
        rintro e w2 ⟨rfl, r2, k2⟩
        have S2 := hide ((unhide hms).kb k2 r2 (Nat.le_refl _) hjl)
        clear HC1 r2 k2 hms
        go_wp2
        try simp only [Exit.inBlock, Exit.then]
        go_ret
        exact (unhide S2).done (unhide HF1)
/-- The prim's reader: what it reads. -/
theorem pPr_not {n : Nat} {s : ByteArray} {i : Nat} (h : bt s i = 33) : pPr (n + 1) (dr s i) = (pPr n (dr s (i + 1))).map (fun p => ((p.1.1 ++ [opK 12], p.1.2 + 1), p.2)) := by
  obtain ⟨hi, hc⟩ := bt_is 33 h (by decide)
  rw [dr_at hi, pPr_con, if_pos hc]
theorem pPr_par {n : Nat} {s : ByteArray} {i : Nat} (h : bt s i = 40) : pPr (n + 1) (dr s i) = (match pCd n (dr s (i + 1)) with
    | none => none
    | some (x, t) => match t with
      | [] => none
      | d :: u => if d = 41 then some ((x.1, x.2 + 1), u) else none) := by
  obtain ⟨hi, hc⟩ := bt_is 40 h (by decide)
  rw [dr_at hi, pPr_con, if_neg (by rw [hc]; decide), if_pos hc]
  rfl
theorem pPr_else {n : Nat} {s : ByteArray} {i : Nat} (h1 : ¬ bt s i = 33) (h2 : ¬ bt s i = 40) : pPr (n + 1) (dr s i) = (pTest (dr s i)).map fun p => ((p.1, 0), p.2) := by
  by_cases hi : i < s.size
  · rw [dr_at hi, pPr_con, if_neg (bt_ne hi 33 h1), if_neg (bt_ne hi 40 h2)]
  · rw [dr_end (by omega)]; rfl
set_option maxRecDepth 100000 in
set_option maxHeartbeats 8000000 in
theorem rPrim {rb : Nat} {s : ByteArray} {n m : Nat} (hs : s.size ≤ 1000000) (IHp : Reads 113 rb s (pPr n) m) (IHc : Reads 91 rb s (pCd n) m) : Reads 113 rb s (pPr (n + 1)) (m + 1) := by
  intro i d nest w B v ops bl h hi hm hrow hF hB hrB hN hn
  obtain ⟨d1, hd1⟩ : ∃ d1, max d ((nest : Nat) : Int) = d1 := ⟨_, rfl⟩
  have hlt := h.lt
  obtain ⟨cd, fd⟩ := h.deep
  have hR1 := h.setD d1
  have hKB : KB rb w (w.setCell ⟨rb, 2, none⟩ (.int .i64 d1)) := (KB.refl rb w).set 2 _
  have hnb : rb ∉ bl := fun hb => by have := hF.2 _ hb; omega
  have hrow1 : ORow fopE (w.setCell ⟨rb, 2, none⟩ (.int .i64 d1)) v ops bl := hrow.set hnb _
  have hz : (w.setCell ⟨rb, 2, none⟩ (.int .i64 d1)).heap.size = w.heap.size := by simp [World.setCell]
  have HF := hide hF
  have HFR : Hid (Fr (rb :: bl) w (w.setCell ⟨rb, 2, none⟩ (.int .i64 d1))) := hKB.fr bl
  have HR1 := hide hR1
  have HROW1 := hide hrow1
  have HZ := hide hz
  have HD : Hid (max d ((nest : Nat) : Int) = d1) := hd1
  have HIHp := hide IHp
  have HIHc := hide IHc
  obtain ⟨va, vc, rfl, -, -⟩ := hrow.form
  have HSY : Hid (∀ (c : Nat) (w : World), i < s.size → bt s i = c → PRd rb s i d1 w → Calls Try.prog 59 #[.pointer (some ⟨rb, 0, none⟩), .int .u8 (c : Int)] w fun e w' => e = .returned (.bool true) ∧ PRd rb s (i + 1) d1 w' ∧ KB rb w w') := fun c w hj hb hr => pskip_yes rb s i d1 w hr (by omega) c hb hj
  have HSN : Hid (∀ (c : Nat) (w : World), ¬ bt s i = c → PRd rb s i d1 w → Calls Try.prog 59 #[.pointer (some ⟨rb, 0, none⟩), .int .u8 (c : Int)] w fun e w' => e = .returned (.bool false) ∧ PRd rb s i d1 w' ∧ KB rb w w') := fun c w hb hr => pskip_no rb s i d1 w hr hi c (.inl hb)
  have HNB := hide hnb
  have nI : (0 : Int) ≤ (nest : Int) := by omega
  clear h hrow hF hR1 hKB hrow1 hz IHp IHc hnb
  go_enter Try.func113, Try.ntmps113
  go_upto_region 2 with fail
  generalize (w.setCell ⟨rb, 2, none⟩ (.int .i64 d1)) = wS at *
  have hzS : w.heap.size ≤ wS.heap.size := by have := unhide HZ; omega
  clear cd fd
  have HKFR : Hid (∀ (wa wb : World), Fr (rb :: bl) w wa → KB rb wa wb → Fr (rb :: bl) w wb) := fun _ _ h k => h.trans' (k.fr []) (fun b hb => .inl (by simp at hb; simp [hb]))
  by_cases h33 : bt s i = 33
  · obtain ⟨hil, -⟩ := bt_is 33 h33 (by decide)
    have HC1 := hide (unhide HSY 33 wS hil h33 (unhide HR1))
    have HV := hide (pPr_not (n := n) h33)
    clear h33
    go_wp2_with fail
    refine (unhide HC1).mono ?_
    rintro e w2 ⟨rfl, r2, k2⟩
    have hz2 := k2.size
    have FR2 := hide (unhide HKFR _ _ (unhide HFR) k2)
    have ROW2 := (unhide HROW1).kb k2 (unhide HNB)
    have hC2 := unhide HIHp (i + 1) d1 (nest + 1) w2 B _ ops bl r2 (by omega) (by omega) ROW2 (unhide HF) (by omega) hrB (by omega) (by omega)
    rw [show ((nest + 1 : Nat) : Int) = (nest : Int) + 1 by omega] at hC2
    have HC2 := hide hC2
    clear HC1 r2 k2 ROW2 hC2 HFR HROW1 HR1
    go_wp2_with fail
    refine (unhide HC2).mono ?_
    rintro e w3 ⟨fr3, hno, hyes⟩
    clear HC2
    have FR3 : Fr (rb :: bl) w w3 := (unhide FR2).trans fr3
    cases hp : pPr n (dr s (i + 1)) with
    | none =>
      obtain rfl := hno hp
      exact ⟨rfl, MS.bad FR3 (by rw [unhide HV, hp]; rfl)⟩
    | some z =>
      obtain ⟨x, t⟩ := z
      obtain ⟨j, v3, b3, hj1, hj2, hj3, r3, rfl, row3, fsh3, new3⟩ := hyes x t hp
      subst hj1
      obtain ⟨ya, yc, rfl, -, -⟩ := row3.form
      have hsm := (pPr_small n _ _ _ hp).1
      rw [dr_len, dr_len] at hsm
      have hR : pPr (n + 1) (dr s i) = some ((x.1 ++ [opK 12], x.2 + 1), dr s j) := by rw [unhide HV, hp]; rfl
      have e : max d1 ((nest + 1 + x.2 : Nat) : Int) = max d ((nest + (x.2 + 1) : Nat) : Int) := by omega
      have r3' : PRd rb s j (max d1 ((nest + 1 + x.2 : Nat) : Int)) w3 := r3
      rw [e] at r3'
      obtain ⟨L2, hL2⟩ : ∃ L, (ops ++ x.1).length = L := ⟨_, rfl⟩
      have hl2 : (ops ++ x.1).length + 1 ≤ 40000000 := by rw [List.length_append]; omega
      rw [hL2] at row3 ⊢
      have S3 : Hid (MS rb s i d nest w B ops bl w3 (.slice ya L2 yc) (x.1, x.2 + 1) j b3) := ⟨FR3, r3', row3, fsh3, fun b hb => by
        rcases new3 b hb with h3 | h3
        · exact .inl h3
        · right; omega, hrB, by omega, hj3⟩
      have hal := al_b w3 (.cells #[.int .i64 12, .int .i64 0, .string ⟨#[]⟩, .bool false, .slice none 0 0] 65)
      have ROW5 := hide (row3.below hal)
      have FSH5 := hide fsh3
      have HR := hide hR
      have hz3 := FR3.size
      clear hno hyes hp fr3 FR3 r3 r3' row3 fsh3 new3 hal hR e hL2
      go_wp2_with (at_builtin; refine wpl_app1 ekFOp rfl (.tmp 25) (.tmp 27) rfl rfl (unhide ROW5) (unhide FSH5) (vs := [.int .i64 12, .int .i64 0, .string ⟨#[]⟩, .bool false, .slice none 0 0]) (y := opK 12) (fopE_lit _ _ _ _) (Fsh.nil _) (by simp) rfl (by exact lit_cells w3 [_, _, _, _, _] _) (fop_one _ _ _ _ _ _ _) (by simp; omega) hl2 ?_)
      intro v5 w5 b5 hA
      try rw [show ops ++ (x.1 ++ [opK 12]) = (ops ++ x.1) ++ [opK 12] by simp] at hA
      have S5 := hide ((unhide S3).app (al_b w3 _) hA)
      obtain ⟨za, zc, hza, -, -⟩ := hA.row.form
      obtain ⟨L3, hL3⟩ : ∃ L, (ops ++ x.1 ++ [opK 12]).length = L := ⟨_, rfl⟩
      rw [hL3] at hza
      subst hza
      clear hA hL3
      go_wp2
      try simp only [Exit.inBlock, Exit.then]
      go_ret
      exact (unhide S5).done (unhide HR)
  · have HC1 := hide (unhide HSN 33 wS h33 (unhide HR1))
    go_wp2_with fail
    refine (unhide HC1).mono ?_
    rintro e w2 ⟨rfl, r2, k2⟩
    have hz2 := k2.size
    have FR2 := hide (unhide HKFR _ _ (unhide HFR) k2)
    have ROW2 := hide ((unhide HROW1).kb k2 (unhide HNB))
    have HR2 := hide r2
    clear HC1 r2 k2 HFR HROW1 HR1
    by_cases h40 : bt s i = 40
    · obtain ⟨hil, -⟩ := bt_is 40 h40 (by decide)
      have HC2 := hide (unhide HSY 40 w2 hil h40 (unhide HR2))
      have HV := hide (pPr_par (n := n) h40)
      clear h33 h40
      go_wp2_with fail
      refine (unhide HC2).mono ?_
      rintro e w3 ⟨rfl, r3, k3⟩
      have hz3 := k3.size
      have FR3 := hide (unhide HKFR _ _ (unhide FR2) k3)
      have ROW3 := (unhide ROW2).kb k3 (unhide HNB)
      have hC3 := unhide HIHc (i + 1) d1 (nest + 1) w3 B _ ops bl r3 (by omega) (by omega) ROW3 (unhide HF) (by omega) hrB (by omega) (by omega)
      rw [show ((nest + 1 : Nat) : Int) = (nest : Int) + 1 by omega] at hC3
      have HC3 := hide hC3
      clear HC2 r3 k3 ROW3 hC3 FR2 ROW2 HR2
      go_wp2_with fail
      refine (unhide HC3).mono ?_
      rintro e w4 ⟨fr4, hno, hyes⟩
      clear HC3
      have FR4 : Fr (rb :: bl) w w4 := (unhide FR3).trans fr4
      cases hp : pCd n (dr s (i + 1)) with
      | none =>
        obtain rfl := hno hp
        exact ⟨rfl, MS.bad FR4 (by rw [unhide HV, hp])⟩
      | some z =>
        obtain ⟨x, t⟩ := z
        obtain ⟨j, v4, b4, hj1, hj2, hj3, r4, rfl, row4, fsh4, new4⟩ := hyes x t hp
        subst hj1
        obtain ⟨ya, yc, rfl, -, -⟩ := row4.form
        have e : max d1 ((nest + 1 + x.2 : Nat) : Int) = max d ((nest + (x.2 + 1) : Nat) : Int) := by omega
        have r4' : PRd rb s j (max d1 ((nest + 1 + x.2 : Nat) : Int)) w4 := r4
        rw [e] at r4'
        obtain ⟨L2, hL2⟩ : ∃ L, (ops ++ x.1).length = L := ⟨_, rfl⟩
        rw [hL2] at row4 ⊢
        have S4 : Hid (MS rb s i d nest w B ops bl w4 (.slice ya L2 yc) (x.1, x.2 + 1) j b4) := ⟨FR4, r4', row4, fsh4, fun b hb => by
          rcases new4 b hb with h3 | h3
          · exact .inl h3
          · right; omega, hrB, by omega, hj3⟩
        have HV2 : Hid (pPr (n + 1) (dr s i) = match dr s j with
          | [] => none
          | d :: u => if d = 41 then some ((x.1, x.2 + 1), u) else none) := by show _ = _; rw [unhide HV, hp]
        clear hno hyes hp fr4 FR4 r4 r4' row4 fsh4 new4 e hL2 HV FR3
        by_cases h41 : bt s j = 41
        · obtain ⟨hjl, hjc⟩ := bt_is 41 h41 (by decide)
          have HC5 := hide (pexpect_yes rb s j _ w4 (unhide S4).rd (by omega) 41 h41 hjl)
          have HV3 : Hid (pPr (n + 1) (dr s i) = some ((x.1, x.2 + 1), dr s (j + 1))) := by show _ = _; rw [unhide HV2, dr_at hjl]; simp only; rw [if_pos hjc]
          clear h41 hjc HV2
          go_wp2_with fail
          refine (unhide HC5).mono ?_
          rintro e w5 ⟨rfl, r5, k5⟩
          have S5 := hide ((unhide S4).kb k5 r5 (by omega) (by omega))
          clear HC5 r5 k5
          go_wp2
          try simp only [Exit.inBlock, Exit.then]
          go_ret
          exact (unhide S5).done (unhide HV3)
        · have HC5 := hide (pexpect_no rb s j _ w4 (unhide S4).rd (by omega) hj3 41 (.inl h41))
          have HF3 : Hid (pPr (n + 1) (dr s i) = none) := by
            show _ = _
            rw [unhide HV2]
            by_cases hjl : j < s.size
            · rw [dr_at hjl]; simp only; rw [if_neg (bt_ne hjl 41 h41)]
            · rw [dr_end (by omega)]
          clear h41 HV2
          go_wp2_with fail
          refine (unhide HC5).mono ?_
          rintro e w5 ⟨rfl, k5⟩
          exact ⟨rfl, MS.bad (unhide HKFR _ _ (unhide S4).fr k5) (unhide HF3)⟩
    · have HC2 := hide (unhide HSN 40 w2 h40 (unhide HR2))
      have HV := hide (pPr_else (n := n) h33 h40)
      clear h33 h40
      go_wp2_with fail
      refine (unhide HC2).mono ?_
      rintro e w3 ⟨rfl, r3, k3⟩
      have hz3 := k3.size
      have FR3 := hide (unhide HKFR _ _ (unhide FR2) k3)
      have HC3 := hide (rTest rb s i d1 w3 B _ ops bl r3 (by omega) hi ((unhide ROW2).kb k3 (unhide HNB)) (unhide HF) (by omega) hrB (by omega))
      clear HC2 r3 k3 FR2 ROW2 HR2
      go_wp2_with fail
      refine (unhide HC3).mono ?_
      rintro e w4 ⟨fr4, hno, hyes⟩
      clear HC3
      have FR4 : Fr (rb :: bl) w w4 := (unhide FR3).trans fr4
      cases hp : pTest (dr s i) with
      | none =>
        obtain rfl := hno (by rw [hp]; rfl)
        exact ⟨rfl, MS.bad FR4 (by rw [unhide HV, hp]; rfl)⟩
      | some z =>
        obtain ⟨x, t⟩ := z
        obtain ⟨j, v4, b4, hj1, hj2, hj3, r4, rfl, row4, fsh4, new4⟩ := hyes (x, 0) t (by rw [hp]; rfl)
        subst hj1
        have r4' : PRd rb s j d1 w4 := r4
        rw [show d1 = max d ((nest + 0 : Nat) : Int) by rw [← unhide HD]; rfl] at r4'
        have HS : Hid (MS rb s i d nest w B ops bl w4 v4 (x, 0) j b4) := ⟨FR4, r4', row4, fsh4, fun b hb => by
          rcases new4 b hb with h3 | h3
          · exact .inl h3
          · right; omega, hrB, hj2, hj3⟩
        have HR : Hid (pPr (n + 1) (dr s i) = some ((x, 0), dr s j)) := by show _ = _; rw [unhide HV, hp]; rfl
        obtain ⟨ya, yc, rfl, -, -⟩ := row4.form
        clear hno hyes hp fr4 FR4 r4 r4' row4 fsh4 new4 FR3
        go_wp2
        try simp only [Exit.inBlock, Exit.then]
        go_ret
        have hd := (unhide HS).done (unhide HR)
        simpa using hd
theorem rPrims {rb : Nat} {s : ByteArray} (hs : s.size ≤ 1000000) : ∀ n : Nat, Reads 113 rb s (pPr n) n
  | 0 => fun i d nest w B v ops bl h hi hm => by omega
  | n + 1 => rPrim hs (rPrims hs n) (rCond hs (rConj hs (rPrims hs n)))
theorem rConds {rb : Nat} {s : ByteArray} (hs : s.size ≤ 1000000) (n : Nat) : Reads 91 rb s (pCd n) n := rCond hs (rConj hs (rPrims hs n))
end Go.Proofs.Ytiolpmhodbefoaa

