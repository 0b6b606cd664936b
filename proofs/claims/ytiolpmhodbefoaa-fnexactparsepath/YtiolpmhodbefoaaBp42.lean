import Derived.Test.YtiolpmhodbefoaaBp41
namespace Go.Proofs.Ytiolpmhodbefoaa
open Go.RowKit

theorem FV.lit {rb : Nat} {w w1 : World} (k n : Int) (t : ByteArray) (hk : KB rb w w1) : KB rb w (putN w1 w.heap.size 0 [.int .i64 k, .int .i64 n, .string t, .bool false, .slice none 0 0]) ∧ FV w ⟨k, n, t, false, []⟩ (.returned (.agg #[.int .i64 k, .int .i64 n, .string t, .bool false, .slice none 0 0])) (putN w1 w.heap.size 0 [.int .i64 k, .int .i64 n, .string t, .bool false, .slice none 0 0]) :=
  ⟨kb_below hk (putN_below (Below.refl _ _) (Nat.le_refl _) _ _), _, [], rfl, ORow.nil _ _, Fsh.nil _⟩
theorem FV.fop {rb : Nat} {w w1 : World} {o : PFOp} {q : Value} {bl : List Nat} (hk : KB rb w w1) (row : ORow stepE w1 q o.steps bl) (fsh : Fsh (w.heap.size + 1) bl) : KB rb w (putN w1 w.heap.size 0 [.int .i64 o.k, .int .i64 o.n, .string o.s, .bool o.root, q]) ∧ FV w o (.returned (.agg #[.int .i64 o.k, .int .i64 o.n, .string o.s, .bool o.root, q])) (putN w1 w.heap.size 0 [.int .i64 o.k, .int .i64 o.n, .string o.s, .bool o.root, q]) :=
  ⟨kb_below hk (putN_below (Below.refl _ _) (Nat.le_refl _) _ _), q, bl, rfl, row.putN (fun hb => by have := fsh.2 _ hb; omega) _ _, fsh.mono (by omega)⟩
theorem opd_at {s : ByteArray} {i : Nat} (h : i < s.size) : pOpd (dr s i) = (if bt s i = 39 then (pStr (dr s i)).map (fun p => (opS p.1, p.2))
    else if bt s i = 116 then (pWd wdT (dr s i)).map (fun t => (opK 3, t))
    else if bt s i = 102 then (pWd wdF (dr s i)).map (fun t => (opK 4, t))
    else if bt s i = 110 then (pWd wdN (dr s i)).map (fun t => (opK 5, t))
    else if bt s i = 108 then (match pWd wdL (dr s i) with
      | none => none
      | some u => match pRef u with
        | none => none
        | some (x, t) => match t with
          | [] => none
          | d :: v => if d = 41 then some (opR' 7 x, v) else none)
    else if bt s i = 64 ∨ bt s i = 36 then (pRef (dr s i)).map (fun p => (opR' 6 p.1, p.2))
    else (pInt (dr s i)).map fun p => (opI p.1, p.2)) := by
  have key : ∀ n : Nat, n < 256 → ((bt s i = n) ↔ (s[i] = UInt8.ofNat n)) := fun n hn => by
    rw [bt_at s i h]
    constructor
    · intro e; apply UInt8.toNat_inj.1; rw [e]; simp; omega
    · intro e; rw [e]; simp; omega
  rw [dr_at h, pOpd_con]
  simp only [key 39 (by decide), key 116 (by decide), key 102 (by decide), key 110 (by decide), key 108 (by decide), key 64 (by decide), key 36 (by decide)]
  rfl
theorem opd_end {s : ByteArray} {i : Nat} (h : ¬ i < s.size) : pOpd (dr s i) = (pInt (dr s i)).map fun p => (opI p.1, p.2) := by
  rw [dr_end (by omega)]; rfl
set_option maxRecDepth 100000 in
set_option maxHeartbeats 8000000 in
theorem rOperand (rb : Nat) (s : ByteArray) (i : Nat) (d : Int) (w : World) (h : PRd rb s i d w) (hs : s.size ≤ 1048576) (hi : i ≤ s.size) :
    Calls Try.prog 119 #[.pointer (some ⟨rb, 0, none⟩)] w (Rd rb s i d w (pOpd (dr s i)) (FV w)) := by
  have hlt := h.lt
  have hal := al_b w (.cells #[.int .i64 0, .int .i64 0, .string ⟨#[]⟩, .bool false, .slice none 0 0] 65)
  have hK : FB (w.alloc (.cells #[.int .i64 0, .int .i64 0, .string ⟨#[]⟩, .bool false, .slice none 0 0] 65)) w.heap.size 0 0 ⟨#[]⟩ false (.slice none 0 0) := heap_alloc_new w _
  have hz : w.heap.size < (w.alloc (.cells #[.int .i64 0, .int .i64 0, .string ⟨#[]⟩, .bool false, .slice none 0 0] 65)).heap.size := by simp
  have HP := hide (ppeek rb s i d _ (h.below hal) hi)
  have HKB : Hid (KB rb w (w.alloc (.cells #[.int .i64 0, .int .i64 0, .string ⟨#[]⟩, .bool false, .slice none 0 0] 65))) := KB.of_below hal
  have HK := hide hK
  have HZ := hide hz
  have HQ := hide (fun w h => rQuoted rb s i d w h hs hi)
  have HI := hide (fun w h => rInt rb s i d w h hs hi)
  have HWD := hide (fun (t : ByteArray) w h (ht : t.size ≤ 10) => rWord rb s t i d w h hs hi ht)
  have HRF := hide (fun (k : Int) (j : Nat) (hj : j ≤ s.size) w h => rRef rb s j d k w h hs hj)
  clear h hal hK hz
  by_cases h39 : bt s i = 39
  · have hil : i < s.size := bt_in (by rw [h39]; decide)
    have HV : Hid (pOpd (dr s i) = (pStr (dr s i)).map (fun p => (opS p.1, p.2))) := by show _ = _; rw [opd_at hil, if_pos h39]
    have b39 : ((bt s i : Int) == 39) = true := by rw [h39]; rfl
    clear h39
    go_enter Try.func119, Try.ntmps119
    go_wp2_with fail
    generalize (w.alloc (.cells #[.int .i64 0, .int .i64 0, .string ⟨#[]⟩, .bool false, .slice none 0 0] 65)) = wA at *
    refine (unhide HP).mono ?_
    rintro e w1 ⟨rfl, r1, k1⟩
    have HR1 := hide r1
    have hz1 : w.heap.size < w1.heap.size := by have := k1.size; have := unhide HZ; omega
    have HK1 := hide ((unhide HK).kb k1 (by omega))
    have HKB1 := hide ((unhide HKB).trans k1)
    clear HP r1 k1 HZ HK HKB
    have HC := hide (unhide HQ w1 (unhide HR1))
    go_wp2_with fail
    refine (unhide HC).mono ?_
    rintro e w2 ⟨k2, hno, hyes⟩
    clear HC
    cases hp : pStr (dr s i) with
    | none =>
      obtain rfl := hno (by rw [hp] <;> rfl)
      exact ⟨rfl, (unhide HKB1).trans k2, fun _ => rfl, fun x t h => by rw [unhide HV, hp] at h; cases h⟩
    | some q =>
      obtain ⟨j, hj1, hj2, hj3, r2, rfl⟩ := hyes q.1 q.2 (by rw [hp] <;> rfl)
      have KB2 := hide ((unhide HK1).kb k2 (by omega))
      have HKB2 := hide ((unhide HKB1).trans k2)
      have HR2 := hide r2
      have HV2 : Hid (pOpd (dr s i) = some (opS q.1, dr s j)) := by show _ = _; rw [unhide HV, hp, ← hj1]; rfl
      obtain ⟨c0, c1, c2, c3, c4⟩ := (unhide KB2).c
      obtain ⟨f0, f1, f2, f3, f4⟩ := (unhide KB2).fz
      clear hno hyes hp k2 r2 hj1 HKB1 HK1 HR1
      go_wp2
      refine bodyPost_ret (results_cell_row rfl _ _ w.heap.size 65 #[_, _, _, _, _] (0, 0) _ rfl (putN_full (unhide KB2) [_, _, _, _, _] rfl) Try.underlying65 rfl (by kernel_rfl)) rfl ?_
      have hd := FV.lit (rb := rb) 2 0 (bsT q.1) (unhide HKB2)
      refine ⟨hd.1, fun h => (by rw [unhide HV2] at h; cases h), fun x t h => ?_⟩
      rw [unhide HV2] at h
      injection h with h
      injection h with h1 h2
      subst h1; subst h2
      exact ⟨j, rfl, hj2, hj3, (putN_other (by omega) [_, _, _, _, _] 0).trans (unhide HR2), hd.2⟩
  · skip
    by_cases h116 : bt s i = 116
    · have hil : i < s.size := bt_in (by rw [h116]; decide)
      have HV : Hid (pOpd (dr s i) = (pWd wdT (dr s i)).map (fun t => (opK 3, t))) := by show _ = _; rw [opd_at hil, if_neg h39, if_pos h116]
      have b116 : ((bt s i : Int) == 116) = true := by rw [h116]; rfl
      have b39 : ((bt s i : Int) == 39) = false := by rw [beq_eq_false_iff_ne]; omega
      clear h39 h116
      go_enter Try.func119, Try.ntmps119
      go_wp2_with fail
      generalize (w.alloc (.cells #[.int .i64 0, .int .i64 0, .string ⟨#[]⟩, .bool false, .slice none 0 0] 65)) = wA at *
      refine (unhide HP).mono ?_
      rintro e w1 ⟨rfl, r1, k1⟩
      have HR1 := hide r1
      have hz1 : w.heap.size < w1.heap.size := by have := k1.size; have := unhide HZ; omega
      have HK1 := hide ((unhide HK).kb k1 (by omega))
      have HKB1 := hide ((unhide HKB).trans k1)
      clear HP r1 k1 HZ HK HKB
      have HC0 := hide (unhide HWD ⟨#[116, 114, 117, 101]⟩ w1 (unhide HR1) (by decide))
      have eW : (ByteArray.mk #[116, 114, 117, 101]).data.toList = wdT := rfl
      rw [eW] at HC0
      clear eW
      have HC := hide (unhide HC0)
      go_wp2_with fail
      refine (unhide HC).mono ?_
      rintro e w2 ⟨k2, hno, hyes⟩
      clear HC
      cases hp : pWd wdT (dr s i) with
      | none =>
        obtain rfl := hno (by rw [hp] <;> rfl)
        exact ⟨rfl, (unhide HKB1).trans k2, fun _ => rfl, fun x t h => by rw [unhide HV, hp] at h; cases h⟩
      | some q =>
        obtain ⟨j, hj1, hj2, hj3, r2, rfl⟩ := hyes () q (by rw [hp] <;> rfl)
        have KB2 := hide ((unhide HK1).kb k2 (by omega))
        have HKB2 := hide ((unhide HKB1).trans k2)
        have HR2 := hide r2
        have HV2 : Hid (pOpd (dr s i) = some (opK 3, dr s j)) := by show _ = _; rw [unhide HV, hp, ← hj1]; rfl
        obtain ⟨c0, c1, c2, c3, c4⟩ := (unhide KB2).c
        obtain ⟨f0, f1, f2, f3, f4⟩ := (unhide KB2).fz
        clear hno hyes hp k2 r2 hj1 HKB1 HK1 HR1
        go_wp2
        refine bodyPost_ret (results_cell_row rfl _ _ w.heap.size 65 #[_, _, _, _, _] (0, 0) _ rfl (putN_full (unhide KB2) [_, _, _, _, _] rfl) Try.underlying65 rfl (by kernel_rfl)) rfl ?_
        have hd := FV.lit (rb := rb) 3 0 ⟨#[]⟩ (unhide HKB2)
        refine ⟨hd.1, fun h => (by rw [unhide HV2] at h; cases h), fun x t h => ?_⟩
        rw [unhide HV2] at h
        injection h with h
        injection h with h1 h2
        subst h1; subst h2
        exact ⟨j, rfl, hj2, hj3, (putN_other (by omega) [_, _, _, _, _] 0).trans (unhide HR2), hd.2⟩
    · skip
      by_cases h102 : bt s i = 102
      · have hil : i < s.size := bt_in (by rw [h102]; decide)
        have HV : Hid (pOpd (dr s i) = (pWd wdF (dr s i)).map (fun t => (opK 4, t))) := by show _ = _; rw [opd_at hil, if_neg h39, if_neg h116, if_pos h102]
        have b102 : ((bt s i : Int) == 102) = true := by rw [h102]; rfl
        have b39 : ((bt s i : Int) == 39) = false := by rw [beq_eq_false_iff_ne]; omega
        have b116 : ((bt s i : Int) == 116) = false := by rw [beq_eq_false_iff_ne]; omega
        clear h39 h116 h102
        go_enter Try.func119, Try.ntmps119
        go_wp2_with fail
        generalize (w.alloc (.cells #[.int .i64 0, .int .i64 0, .string ⟨#[]⟩, .bool false, .slice none 0 0] 65)) = wA at *
        refine (unhide HP).mono ?_
        rintro e w1 ⟨rfl, r1, k1⟩
        have HR1 := hide r1
        have hz1 : w.heap.size < w1.heap.size := by have := k1.size; have := unhide HZ; omega
        have HK1 := hide ((unhide HK).kb k1 (by omega))
        have HKB1 := hide ((unhide HKB).trans k1)
        clear HP r1 k1 HZ HK HKB
        have HC0 := hide (unhide HWD ⟨#[102, 97, 108, 115, 101]⟩ w1 (unhide HR1) (by decide))
        have eW : (ByteArray.mk #[102, 97, 108, 115, 101]).data.toList = wdF := rfl
        rw [eW] at HC0
        clear eW
        have HC := hide (unhide HC0)
        go_wp2_with fail
        refine (unhide HC).mono ?_
        rintro e w2 ⟨k2, hno, hyes⟩
        clear HC
        cases hp : pWd wdF (dr s i) with
        | none =>
          obtain rfl := hno (by rw [hp] <;> rfl)
          exact ⟨rfl, (unhide HKB1).trans k2, fun _ => rfl, fun x t h => by rw [unhide HV, hp] at h; cases h⟩
        | some q =>
          obtain ⟨j, hj1, hj2, hj3, r2, rfl⟩ := hyes () q (by rw [hp] <;> rfl)
          have KB2 := hide ((unhide HK1).kb k2 (by omega))
          have HKB2 := hide ((unhide HKB1).trans k2)
          have HR2 := hide r2
          have HV2 : Hid (pOpd (dr s i) = some (opK 4, dr s j)) := by show _ = _; rw [unhide HV, hp, ← hj1]; rfl
          obtain ⟨c0, c1, c2, c3, c4⟩ := (unhide KB2).c
          obtain ⟨f0, f1, f2, f3, f4⟩ := (unhide KB2).fz
          clear hno hyes hp k2 r2 hj1 HKB1 HK1 HR1
          go_wp2
          refine bodyPost_ret (results_cell_row rfl _ _ w.heap.size 65 #[_, _, _, _, _] (0, 0) _ rfl (putN_full (unhide KB2) [_, _, _, _, _] rfl) Try.underlying65 rfl (by kernel_rfl)) rfl ?_
          have hd := FV.lit (rb := rb) 4 0 ⟨#[]⟩ (unhide HKB2)
          refine ⟨hd.1, fun h => (by rw [unhide HV2] at h; cases h), fun x t h => ?_⟩
          rw [unhide HV2] at h
          injection h with h
          injection h with h1 h2
          subst h1; subst h2
          exact ⟨j, rfl, hj2, hj3, (putN_other (by omega) [_, _, _, _, _] 0).trans (unhide HR2), hd.2⟩
      · skip
        by_cases h110 : bt s i = 110
        · have hil : i < s.size := bt_in (by rw [h110]; decide)
          have HV : Hid (pOpd (dr s i) = (pWd wdN (dr s i)).map (fun t => (opK 5, t))) := by show _ = _; rw [opd_at hil, if_neg h39, if_neg h116, if_neg h102, if_pos h110]
          have b110 : ((bt s i : Int) == 110) = true := by rw [h110]; rfl
          have b39 : ((bt s i : Int) == 39) = false := by rw [beq_eq_false_iff_ne]; omega
          have b116 : ((bt s i : Int) == 116) = false := by rw [beq_eq_false_iff_ne]; omega
          have b102 : ((bt s i : Int) == 102) = false := by rw [beq_eq_false_iff_ne]; omega
          clear h39 h116 h102 h110
          go_enter Try.func119, Try.ntmps119
          go_wp2_with fail
          generalize (w.alloc (.cells #[.int .i64 0, .int .i64 0, .string ⟨#[]⟩, .bool false, .slice none 0 0] 65)) = wA at *
          refine (unhide HP).mono ?_
          rintro e w1 ⟨rfl, r1, k1⟩
          have HR1 := hide r1
          have hz1 : w.heap.size < w1.heap.size := by have := k1.size; have := unhide HZ; omega
          have HK1 := hide ((unhide HK).kb k1 (by omega))
          have HKB1 := hide ((unhide HKB).trans k1)
          clear HP r1 k1 HZ HK HKB
          have HC0 := hide (unhide HWD ⟨#[110, 117, 108, 108]⟩ w1 (unhide HR1) (by decide))
          have eW : (ByteArray.mk #[110, 117, 108, 108]).data.toList = wdN := rfl
          rw [eW] at HC0
          clear eW
          have HC := hide (unhide HC0)
          go_wp2_with fail
          refine (unhide HC).mono ?_
          rintro e w2 ⟨k2, hno, hyes⟩
          clear HC
          cases hp : pWd wdN (dr s i) with
          | none =>
            obtain rfl := hno (by rw [hp] <;> rfl)
            exact ⟨rfl, (unhide HKB1).trans k2, fun _ => rfl, fun x t h => by rw [unhide HV, hp] at h; cases h⟩
          | some q =>
            obtain ⟨j, hj1, hj2, hj3, r2, rfl⟩ := hyes () q (by rw [hp] <;> rfl)
            have KB2 := hide ((unhide HK1).kb k2 (by omega))
            have HKB2 := hide ((unhide HKB1).trans k2)
            have HR2 := hide r2
            have HV2 : Hid (pOpd (dr s i) = some (opK 5, dr s j)) := by show _ = _; rw [unhide HV, hp, ← hj1]; rfl
            obtain ⟨c0, c1, c2, c3, c4⟩ := (unhide KB2).c
            obtain ⟨f0, f1, f2, f3, f4⟩ := (unhide KB2).fz
            clear hno hyes hp k2 r2 hj1 HKB1 HK1 HR1
            go_wp2
            refine bodyPost_ret (results_cell_row rfl _ _ w.heap.size 65 #[_, _, _, _, _] (0, 0) _ rfl (putN_full (unhide KB2) [_, _, _, _, _] rfl) Try.underlying65 rfl (by kernel_rfl)) rfl ?_
            have hd := FV.lit (rb := rb) 5 0 ⟨#[]⟩ (unhide HKB2)
            refine ⟨hd.1, fun h => (by rw [unhide HV2] at h; cases h), fun x t h => ?_⟩
            rw [unhide HV2] at h
            injection h with h
            injection h with h1 h2
            subst h1; subst h2
            exact ⟨j, rfl, hj2, hj3, (putN_other (by omega) [_, _, _, _, _] 0).trans (unhide HR2), hd.2⟩
        · skip
          by_cases h108 : bt s i = 108
          · have hil : i < s.size := bt_in (by rw [h108]; decide)
            have HV : Hid (pOpd (dr s i) = (match pWd wdL (dr s i) with
                | none => none
                | some u => match pRef u with
                  | none => none
                  | some (x, t) => match t with
                    | [] => none
                    | d :: v => if d = 41 then some (opR' 7 x, v) else none)) := by show _ = _; rw [opd_at hil, if_neg h39, if_neg h116, if_neg h102, if_neg h110, if_pos h108]
            have b108 : ((bt s i : Int) == 108) = true := by rw [h108]; rfl
            have b39 : ((bt s i : Int) == 39) = false := by rw [beq_eq_false_iff_ne]; omega
            have b116 : ((bt s i : Int) == 116) = false := by rw [beq_eq_false_iff_ne]; omega
            have b102 : ((bt s i : Int) == 102) = false := by rw [beq_eq_false_iff_ne]; omega
            have b110 : ((bt s i : Int) == 110) = false := by rw [beq_eq_false_iff_ne]; omega
            clear h39 h116 h102 h110 h108
            go_enter Try.func119, Try.ntmps119
            go_wp2_with fail
            generalize (w.alloc (.cells #[.int .i64 0, .int .i64 0, .string ⟨#[]⟩, .bool false, .slice none 0 0] 65)) = wA at *
            refine (unhide HP).mono ?_
            rintro e w1 ⟨rfl, r1, k1⟩
            have HR1 := hide r1
            have hz1 : w.heap.size < w1.heap.size := by have := k1.size; have := unhide HZ; omega
            have HK1 := hide ((unhide HK).kb k1 (by omega))
            have HKB1 := hide ((unhide HKB).trans k1)
            clear HP r1 k1 HZ HK HKB
            have HC := hide (unhide HWD ⟨#[108, 101, 110, 103, 116, 104, 40]⟩ w1 (unhide HR1) (by decide))
            have eW : (ByteArray.mk #[108, 101, 110, 103, 116, 104, 40]).data.toList = wdL := rfl
            rw [eW] at HC
            clear eW
            go_wp2_with fail
            refine (unhide HC).mono ?_
            rintro e w2 ⟨k2, hno, hyes⟩
            clear HC
            cases hp : pWd wdL (dr s i) with
            | none =>
              obtain rfl := hno (by rw [hp]; rfl)
              exact ⟨rfl, (unhide HKB1).trans k2, fun _ => rfl, fun x t h => by rw [unhide HV, hp] at h; cases h⟩
            | some q =>
              obtain ⟨j, hj1, hj2, hj3, r2, rfl⟩ := hyes () q (by rw [hp]; rfl)
              have HK2 := hide ((unhide HK1).kb k2 (by omega))
              have HKB2 := hide ((unhide HKB1).trans k2)
              have hz2 := k2.size
              have HC2 := hide (unhide HRF 7 j hj3 w2 r2)
              have HV2 : Hid (pOpd (dr s i) = (match pRef (dr s j) with
                  | none => none
                  | some (x, t) => match t with
                    | [] => none
                    | d :: v => if d = 41 then some (opR' 7 x, v) else none)) := by show _ = _; rw [unhide HV, hp, ← hj1]
              clear hno hyes hp k2 r2 hj1 HKB1 HK1 HR1 HV
              go_wp2_with fail
              refine (unhide HC2).mono ?_
              rintro e w3 ⟨k3, hno, hyes⟩
              clear HC2
              cases hp : pRef (dr s j) with
              | none =>
                obtain rfl := hno (by rw [hp]; rfl)
                exact ⟨rfl, (unhide HKB2).trans k3, fun _ => rfl, fun x t h => by rw [unhide HV2, hp] at h; cases h⟩
              | some z =>
                obtain ⟨j2, hj4, hj5, hj6, r3, qv, bl, rfl, row, fsh⟩ := hyes (opR' 7 z.1) z.2 (by rw [hp]; rfl)
                obtain ⟨qa, qc, rfl, -, -⟩ := row.form
                have hz3 := k3.size
                have hal := al_b w3 (.cells #[.int .i64 7, .int .i64 0, .string ⟨#[]⟩, .bool z.1.1, .slice qa (opR' 7 z.1).steps.length qc] 65)
                have k4 : FB (w3.alloc (.cells #[.int .i64 7, .int .i64 0, .string ⟨#[]⟩, .bool z.1.1, .slice qa (opR' 7 z.1).steps.length qc] 65)) w3.heap.size 7 0 ⟨#[]⟩ z.1.1 (.slice qa (opR' 7 z.1).steps.length qc) := heap_alloc_new w3 _
                have HK3 := hide (((unhide HK2).kb k3 (by omega)).below hal)
                have HKB3 := hide (((unhide HKB2).trans k3).trans (KB.of_below hal))
                have HROW := hide (row.below hal)
                have HFSH := hide (fsh.mono (show w.heap.size + 1 ≤ w2.heap.size by omega))
                have HR3 := hide (r3.below hal)
                have HK4 := hide k4
                have z3 : (w3.alloc (.cells #[.int .i64 7, .int .i64 0, .string ⟨#[]⟩, .bool z.1.1, .slice qa (opR' 7 z.1).steps.length qc] 65)).heap.size = w3.heap.size + 1 := by simp
                have HV3 : Hid (pOpd (dr s i) = (match dr s j2 with
                    | [] => none
                    | d :: v => if d = 41 then some (opR' 7 z.1, v) else none)) := by show _ = _; rw [unhide HV2, hp, ← hj4]
                have e1 : (opR' 7 z.1).k = 7 := rfl
                have e2 : (opR' 7 z.1).n = 0 := rfl
                have e3 : (opR' 7 z.1).s = ⟨#[]⟩ := rfl
                have e4 : (opR' 7 z.1).root = z.1.1 := rfl
                rw [e1, e2, e3, e4]
                clear hno hyes hp k3 r3 hj4 row fsh k4 hal HV2 HK2 HKB2 e1 e2 e3 e4
                go_upto_region 16 with fail
                generalize (w3.alloc (.cells #[.int .i64 7, .int .i64 0, .string ⟨#[]⟩, .bool z.1.1, .slice qa (opR' 7 z.1).steps.length qc] 65)) = w4 at *
                by_cases h41 : bt s j2 = 41
                · obtain ⟨hjl, hjc⟩ := bt_is 41 h41 (by decide)
                  have HC3 := hide (pexpect_yes rb s j2 d w4 (unhide HR3) hs 41 h41 hjl)
                  have HV4 : Hid (pOpd (dr s i) = some (opR' 7 z.1, dr s (j2 + 1))) := by show _ = _; rw [unhide HV3, dr_at hjl]; simp only; rw [if_pos hjc]
                  clear h41 hjc HV3 HR3
                  go_wp2_with fail
                  refine (unhide HC3).mono ?_
                  rintro e w5 ⟨rfl, r5, k5⟩
                  have KB2 := hide ((unhide HK3).kb k5 (by omega))
                  have HKB5 := hide ((unhide HKB3).trans k5)
                  have HR5 := hide r5
                  have HROW5 := hide ((unhide HROW).kb k5 (fun hb => by have := (unhide HFSH).2 _ hb; omega))
                  obtain ⟨c0, c1, c2, c3, c4⟩ := (unhide KB2).c
                  obtain ⟨f0, f1, f2, f3, f4⟩ := (unhide KB2).fz
                  obtain ⟨q0, q1, q2, q3, q4⟩ := ((unhide HK4).kb k5 (by omega)).c
                  clear HC3 r5 k5
                  go_wp2
                  refine bodyPost_ret (results_cell_row rfl _ _ w.heap.size 65 #[_, _, _, _, _] (0, 0) _ rfl (putN_full (unhide KB2) [_, _, _, _, _] rfl) Try.underlying65 rfl (by kernel_rfl)) rfl ?_
                  have hd := FV.fop (o := opR' 7 z.1) (unhide HKB5) (unhide HROW5) (unhide HFSH)
                  refine ⟨hd.1, fun h => (by rw [unhide HV4] at h; cases h), fun x t h => ?_⟩
                  rw [unhide HV4] at h
                  injection h with h
                  injection h with h1 h2
                  subst h1; subst h2
                  exact ⟨j2 + 1, rfl, by omega, by omega, (putN_other (by omega) [_, _, _, _, _] 0).trans (unhide HR5), hd.2⟩
                · have HC3 := hide (pexpect_no rb s j2 d w4 (unhide HR3) hs hj6 41 (.inl h41))
                  have HF : Hid (pOpd (dr s i) = none) := by
                    show _ = _
                    rw [unhide HV3]
                    by_cases hjl : j2 < s.size
                    · rw [dr_at hjl]; simp only; rw [if_neg (bt_ne hjl 41 h41)]
                    · rw [dr_end (by omega)]
                  clear h41
                  go_wp2_with fail
                  refine (unhide HC3).mono ?_
                  rintro e w5 ⟨rfl, k5⟩
                  exact ⟨rfl, (unhide HKB3).trans k5, fun _ => rfl, fun x t h => by rw [unhide HF] at h; cases h⟩
          · skip
            by_cases hrf : bt s i = 64 ∨ bt s i = 36
            · have hil : i < s.size := bt_in (by rcases hrf with h | h <;> rw [h] <;> decide)
              have HV : Hid (pOpd (dr s i) = (pRef (dr s i)).map (fun p => (opR' 6 p.1, p.2))) := by show _ = _; rw [opd_at hil, if_neg h39, if_neg h116, if_neg h102, if_neg h110, if_neg h108, if_pos hrf]
              have b39 : ((bt s i : Int) == 39) = false := by rw [beq_eq_false_iff_ne]; omega
              have b116 : ((bt s i : Int) == 116) = false := by rw [beq_eq_false_iff_ne]; omega
              have b102 : ((bt s i : Int) == 102) = false := by rw [beq_eq_false_iff_ne]; omega
              have b110 : ((bt s i : Int) == 110) = false := by rw [beq_eq_false_iff_ne]; omega
              have b108 : ((bt s i : Int) == 108) = false := by rw [beq_eq_false_iff_ne]; omega
              have HRFB : Hid (((bt s i : Int) == 64) = true ∨ (((bt s i : Int) == 64) = false ∧ ((bt s i : Int) == 36) = true)) := by
                rcases hrf with h | h
                · left; rw [h]; rfl
                · right; rw [h]; exact ⟨rfl, rfl⟩
              clear hrf h39 h116 h102 h110 h108
              go_enter Try.func119, Try.ntmps119
              go_wp2_with fail
              generalize (w.alloc (.cells #[.int .i64 0, .int .i64 0, .string ⟨#[]⟩, .bool false, .slice none 0 0] 65)) = wA at *
              refine (unhide HP).mono ?_
              rintro e w1 ⟨rfl, r1, k1⟩
              have HR1 := hide r1
              have hz1 : w.heap.size < w1.heap.size := by have := k1.size; have := unhide HZ; omega
              have HK1 := hide ((unhide HK).kb k1 (by omega))
              have HKB1 := hide ((unhide HKB).trans k1)
              clear HP r1 k1 HZ HK HKB
              have HC := hide (unhide HRF 6 i hi w1 (unhide HR1))
              rcases unhide HRFB with b64 | ⟨b64, b36⟩
              all_goals
                go_wp2_with fail
                refine (unhide HC).mono ?_
                rintro e w2 ⟨k2, hno, hyes⟩
                clear HC HRFB
                cases hp : pRef (dr s i) with
                | none =>
                  obtain rfl := hno (by rw [hp]; rfl)
                  exact ⟨rfl, (unhide HKB1).trans k2, fun _ => rfl, fun x t h => by rw [unhide HV, hp] at h; cases h⟩
                | some z =>
                  obtain ⟨j, hj1, hj2, hj3, r2, qv, bl, rfl, row, fsh⟩ := hyes (opR' 6 z.1) z.2 (by rw [hp]; rfl)
                  obtain ⟨qa, qc, rfl, -, -⟩ := row.form
                  have KB2 := hide ((unhide HK1).kb k2 (by omega))
                  have HKB2 := hide ((unhide HKB1).trans k2)
                  have HR2 := hide r2
                  have HROW := hide row
                  have HFSH := hide (fsh.mono (show w.heap.size + 1 ≤ w1.heap.size by omega))
                  have HV2 : Hid (pOpd (dr s i) = some (opR' 6 z.1, dr s j)) := by show _ = _; rw [unhide HV, hp, ← hj1]; rfl
                  obtain ⟨c0, c1, c2, c3, c4⟩ := (unhide KB2).c
                  obtain ⟨f0, f1, f2, f3, f4⟩ := (unhide KB2).fz
                  clear hno hyes hp k2 r2 hj1 HKB1 HK1 HR1 row fsh
                  go_wp2
                  refine bodyPost_ret (results_cell_row rfl _ _ w.heap.size 65 #[_, _, _, _, _] (0, 0) _ rfl (putN_full (unhide KB2) [_, _, _, _, _] rfl) Try.underlying65 rfl (by kernel_rfl)) rfl ?_
                  have hd := FV.fop (o := opR' 6 z.1) (unhide HKB2) (unhide HROW) (unhide HFSH)
                  refine ⟨hd.1, fun h => (by rw [unhide HV2] at h; cases h), fun x t h => ?_⟩
                  rw [unhide HV2] at h
                  injection h with h
                  injection h with h1 h2
                  subst h1; subst h2
                  exact ⟨j, rfl, hj2, hj3, (putN_other (by omega) [_, _, _, _, _] 0).trans (unhide HR2), hd.2⟩
            · have HV : Hid (pOpd (dr s i) = (pInt (dr s i)).map fun p => (opI p.1, p.2)) := by
                show _ = _
                by_cases hil : i < s.size
                · rw [opd_at hil, if_neg h39, if_neg h116, if_neg h102, if_neg h110, if_neg h108, if_neg hrf]
                · exact opd_end hil
              have b39 : ((bt s i : Int) == 39) = false := by rw [beq_eq_false_iff_ne]; omega
              have b116 : ((bt s i : Int) == 116) = false := by rw [beq_eq_false_iff_ne]; omega
              have b102 : ((bt s i : Int) == 102) = false := by rw [beq_eq_false_iff_ne]; omega
              have b110 : ((bt s i : Int) == 110) = false := by rw [beq_eq_false_iff_ne]; omega
              have b108 : ((bt s i : Int) == 108) = false := by rw [beq_eq_false_iff_ne]; omega
              have b64 : ((bt s i : Int) == 64) = false := by rw [beq_eq_false_iff_ne]; omega
              have b36 : ((bt s i : Int) == 36) = false := by rw [beq_eq_false_iff_ne]; omega
              clear hrf h39 h116 h102 h110 h108
              go_enter Try.func119, Try.ntmps119
              go_wp2_with fail
              generalize (w.alloc (.cells #[.int .i64 0, .int .i64 0, .string ⟨#[]⟩, .bool false, .slice none 0 0] 65)) = wA at *
              refine (unhide HP).mono ?_
              rintro e w1 ⟨rfl, r1, k1⟩
              have HR1 := hide r1
              have hz1 : w.heap.size < w1.heap.size := by have := k1.size; have := unhide HZ; omega
              have HK1 := hide ((unhide HK).kb k1 (by omega))
              have HKB1 := hide ((unhide HKB).trans k1)
              clear HP r1 k1 HZ HK HKB
              have HC := hide (unhide HI w1 (unhide HR1))
              go_wp2_with fail
              refine (unhide HC).mono ?_
              rintro e w2 ⟨k2, hno, hyes⟩
              clear HC
              cases hp : pInt (dr s i) with
              | none =>
                obtain rfl := hno (by rw [hp] <;> rfl)
                exact ⟨rfl, (unhide HKB1).trans k2, fun _ => rfl, fun x t h => by rw [unhide HV, hp] at h; cases h⟩
              | some q =>
                obtain ⟨j, hj1, hj2, hj3, r2, rfl⟩ := hyes q.1 q.2 (by rw [hp] <;> rfl)
                have KB2 := hide ((unhide HK1).kb k2 (by omega))
                have HKB2 := hide ((unhide HKB1).trans k2)
                have HR2 := hide r2
                have HV2 : Hid (pOpd (dr s i) = some (opI q.1, dr s j)) := by show _ = _; rw [unhide HV, hp, ← hj1]; rfl
                obtain ⟨c0, c1, c2, c3, c4⟩ := (unhide KB2).c
                obtain ⟨f0, f1, f2, f3, f4⟩ := (unhide KB2).fz
                clear hno hyes hp k2 r2 hj1 HKB1 HK1 HR1
                go_wp2
                refine bodyPost_ret (results_cell_row rfl _ _ w.heap.size 65 #[_, _, _, _, _] (0, 0) _ rfl (putN_full (unhide KB2) [_, _, _, _, _] rfl) Try.underlying65 rfl (by kernel_rfl)) rfl ?_
                have hd := FV.lit (rb := rb) 1 q.1 ⟨#[]⟩ (unhide HKB2)
                refine ⟨hd.1, fun h => (by rw [unhide HV2] at h; cases h), fun x t h => ?_⟩
                rw [unhide HV2] at h
                injection h with h
                injection h with h1 h2
                subst h1; subst h2
                exact ⟨j, rfl, hj2, hj3, (putN_other (by omega) [_, _, _, _, _] 0).trans (unhide HR2), hd.2⟩
end Go.Proofs.Ytiolpmhodbefoaa

