import Derived.Test.YtiolpmhodbefoaaBp30
import Derived.Test.YtiolpmhodbefoaaBp29
namespace Go.Proofs.Ytiolpmhodbefoaa
open Go.RowKit

theorem FRet.lit {w w1 : World} {R : Option PFOp} {k n : Int} {t : ByteArray} (hb : Below w.heap.size w w1) (hR : R = some ⟨k, n, t, false, []⟩) : FRet w R (.returned (.tuple #[.agg #[.int .i64 k, .int .i64 n, .string t, .bool false, .slice none 0 0], .bool true])) w1 :=
  ⟨hb, ⟨k, n, t, false, []⟩, .slice none 0 0, [], by rw [hR]; rfl, ORow.nil _ _, Fsh.nil _, fun x hx => by rw [hR] at hx; injection hx⟩
theorem FRet.ref {w w3 : World} {R : Option PFOp} {k : Int} {r0 : Option (Bool × List PStep)} (hR : R = r0.map (opR' k)) {o : PFOp} {q : Value} {bl : List Nat} (hb : Below w.heap.size w w3) (row : ORow stepE w3 q o.steps bl) (fsh : Fsh w.heap.size bl) (hx : ∀ x, r0.map (opR' 8) = some x → o = x) :
    FRet w R (.returned (.tuple #[.agg #[.int .i64 k, .int .i64 o.n, .string o.s, .bool o.root, q], .bool r0.isSome])) w3 := by
  refine ⟨hb, { o with k := k }, q, bl, by rw [hR]; cases r0 <;> rfl, row, fsh, fun x h => ?_⟩
  rw [hR] at h
  cases r0 with
  | none => cases h
  | some y =>
    injection h with h
    rw [hx _ rfl, ← h]; rfl
theorem sOpd_int {l : Bs} {n : Int} (h : sInt l = some n) : sOpd l = some (opI n) := by unfold sOpd; rw [h]
theorem sOpd_str {l : Bs} {v : Bs} (h : sInt l = none) (h2 : sStr l = some v) : sOpd l = some (opS v) := by unfold sOpd; rw [h, h2]
theorem sOpd_else {l : Bs} (h : sInt l = none) (h2 : sStr l = none) : sOpd l = (if l = wdT then some (opK 3) else if l = wdF then some (opK 4) else if l = wdN then some (opK 5)
      else if wdL.isPrefixOf l = true ∧ l.getLast? = some 41 then (sRef ((l.drop 7).take (l.length - 8))).map (opR' 7) else (sRef l).map (opR' 6)) := by unfold sOpd; rw [h, h2]
theorem last_at {s : ByteArray} (h : 0 < s.size) : s.data.toList.getLast? = some s[s.size - 1] := by
  rw [List.getLast?_eq_getElem?, List.getElem?_eq_getElem (by rw [data_len]; omega)]
  simp [ByteArray.getElem_eq_getElem_data]
set_option maxRecDepth 100000 in
set_option maxHeartbeats 8000000 in
theorem operand_walk (s : ByteArray) (w : World) (hs : s.size ≤ 1048576) : Calls Try.prog 89 #[.string s] w (FRet w (sOpd s.data.toList)) := by
  have HI := hide fun w => int_walk s w hs
  have HS := hide fun w => str_walk s w hs
  have hA : FB (w.alloc (.cells #[.int .i64 0, .int .i64 0, .string ⟨#[]⟩, .bool false, .slice none 0 0] 65)) w.heap.size 0 0 ⟨#[]⟩ false (.slice none 0 0) := heap_alloc_new w _
  have hB := al_b w (.cells #[.int .i64 0, .int .i64 0, .string ⟨#[]⟩, .bool false, .slice none 0 0] 65)
  have HA := hide hA
  have HB := hide hB
  clear hA hB
  cases hi : sInt s.data.toList with
  | some n =>
    rw [hi] at HI
    have HR := hide (sOpd_int hi)
    clear hi HS HA HB
    have e : intV (some n) = .tuple #[.int .i64 n, .bool true] := rfl
    rw [e] at HI
    clear e
    go_enter Try.func89, Try.ntmps89
    go_wp2_with fail
    refine (unhide HI _).mono ?_
    rintro e w1 ⟨rfl, rfl⟩
    go_wp2
    go_returns
    exact FRet.lit (al_b w _) (unhide HR)
  | none =>
    rw [hi] at HI
    have e : intV none = .tuple #[.int .i64 0, .bool false] := rfl
    rw [e] at HI
    clear e
    cases ht : sStr s.data.toList with
    | some v =>
      rw [ht] at HS
      have e : strV (some v) = .tuple #[.string (bsT v), .bool true] := rfl
      rw [e] at HS
      clear e
      have HR := hide (sOpd_str hi ht)
      clear hi ht
      go_enter Try.func89, Try.ntmps89
      go_wp2_with fail
      refine (unhide HI _).mono ?_
      rintro e w1 ⟨rfl, rfl⟩
      go_wp2_with fail
      refine (unhide HS _).mono ?_
      rintro e w1 ⟨rfl, b1⟩
      have h1 := (unhide HA).below b1
      have HB1 := hide (below_next (unhide HB) b1)
      obtain ⟨c0, c1, c2, c3, c4⟩ := h1.c
      obtain ⟨f0, f1, f2, f3, f4⟩ := h1.fz
      have H1 := hide h1
      clear h1 b1 HI HS HA HB
      go_wp2
      refine bodyPost_ret (results_cell_tmp rfl _ _ w.heap.size 65 #[_, _, _, _, _] (0, 0) _ _ rfl rfl (putN_full (unhide H1) [_, _, _, _, _] rfl) Try.underlying65 rfl (by kernel_rfl)) rfl ?_
      exact FRet.lit (putN_below (unhide HB1) (Nat.le_refl _) [_, _, _, _, _] 0) (unhide HR)
    | none =>
      rw [ht] at HS
      have e : strV none = .tuple #[.string (bsT []), .bool false] := rfl
      rw [e] at HS
      clear e
      have HR := hide (sOpd_else hi ht)
      clear hi ht
      have HW := hide fun w => wordB_walk s ⟨#[108, 101, 110, 103, 116, 104, 40]⟩ 0 w hs (by decide) (Nat.zero_le _)
      have HRF := hide fun w => ref_walk s w hs
      have HRL := hide fun w => ref_walk (s.extract 7 (s.size - 1)) w (by simp; omega)
      have eL : (s.extract 7 (s.size - 1)).data.toList = (s.data.toList.drop 7).take (s.data.toList.length - 8) := by
        rw [Lib.extract_data, data_len, show s.size - 1 - 7 = s.size - 8 by omega]
      rw [eL] at HRL
      clear eL
      by_cases hT : s.data.toList = wdT
      · have HR2 : Hid (sOpd s.data.toList = some (opK 3)) := by show _ = _; rw [unhide HR, if_pos hT]
        have t1 : (s.toList == [116, 114, 117, 101]) = true := by rw [beq_iff_eq, ByteArray.toList_eq]; exact hT
        clear hT HR HW HRF HRL
        go_enter Try.func89, Try.ntmps89
        go_wp2_with fail
        refine (unhide HI _).mono ?_
        rintro e w1 ⟨rfl, rfl⟩
        go_wp2_with fail
        refine (unhide HS _).mono ?_
        rintro e w1 ⟨rfl, b1⟩
        have h1 := (unhide HA).below b1
        have HB1 := hide (below_next (unhide HB) b1)
        obtain ⟨c0, c1, c2, c3, c4⟩ := h1.c
        obtain ⟨f0, f1, f2, f3, f4⟩ := h1.fz
        have H1 := hide h1
        clear h1 b1 HI HS HA HB
        go_wp2
        refine bodyPost_ret (results_cell_tmp rfl _ _ w.heap.size 65 #[_, _, _, _, _] (0, 0) _ _ rfl rfl (putN_full (unhide H1) [_, _, _, _, _] rfl) Try.underlying65 rfl (by kernel_rfl)) rfl ?_
        exact FRet.lit (putN_below (unhide HB1) (Nat.le_refl _) [_, _, _, _, _] 0) (unhide HR2)
      · have t1 : (s.toList == [116, 114, 117, 101]) = false := by rw [beq_eq_false_iff_ne, ByteArray.toList_eq]; exact hT
        go_enter Try.func89, Try.ntmps89
        go_wp2_with fail
        refine (unhide HI _).mono ?_
        rintro e w1 ⟨rfl, rfl⟩
        go_wp2_with fail
        refine (unhide HS _).mono ?_
        rintro e w1 ⟨rfl, b1⟩
        have h1 := (unhide HA).below b1
        have HB1 := hide (below_next (unhide HB) b1)
        have hz1 := b1.size
        obtain ⟨c0, c1, c2, c3, c4⟩ := h1.c
        obtain ⟨f0, f1, f2, f3, f4⟩ := h1.fz
        have H1 := hide h1
        clear h1 b1 HI HS HA HB
        have hz : w.heap.size < w1.heap.size := by simp at hz1; omega
        clear hz1
        by_cases hF : s.data.toList = wdF
        · have HR2 : Hid (sOpd s.data.toList = some (opK 4)) := by show _ = _; rw [unhide HR, if_neg hT, if_pos hF]
          have t2 : (s.toList == [102, 97, 108, 115, 101]) = true := by rw [beq_iff_eq, ByteArray.toList_eq]; exact hF
          clear hT HR HW HRF HRL hF
          go_wp2
          refine bodyPost_ret (results_cell_tmp rfl _ _ w.heap.size 65 #[_, _, _, _, _] (0, 0) _ _ rfl rfl (putN_full (unhide H1) [_, _, _, _, _] rfl) Try.underlying65 rfl (by kernel_rfl)) rfl ?_
          exact FRet.lit (putN_below (unhide HB1) (Nat.le_refl _) [_, _, _, _, _] 0) (unhide HR2)
        · have t2 : (s.toList == [102, 97, 108, 115, 101]) = false := by rw [beq_eq_false_iff_ne, ByteArray.toList_eq]; exact hF
          by_cases hN : s.data.toList = wdN
          · have HR2 : Hid (sOpd s.data.toList = some (opK 5)) := by show _ = _; rw [unhide HR, if_neg hT, if_neg hF, if_pos hN]
            have t3 : (s.toList == [110, 117, 108, 108]) = true := by rw [beq_iff_eq, ByteArray.toList_eq]; exact hN
            clear hT HR HW HRF HRL hF hN
            go_wp2
            refine bodyPost_ret (results_cell_tmp rfl _ _ w.heap.size 65 #[_, _, _, _, _] (0, 0) _ _ rfl rfl (putN_full (unhide H1) [_, _, _, _, _] rfl) Try.underlying65 rfl (by kernel_rfl)) rfl ?_
            exact FRet.lit (putN_below (unhide HB1) (Nat.le_refl _) [_, _, _, _, _] 0) (unhide HR2)
          · have t3 : (s.toList == [110, 117, 108, 108]) = false := by rw [beq_eq_false_iff_ne, ByteArray.toList_eq]; exact hN
            have HR2 : Hid (sOpd s.data.toList = (if wdL.isPrefixOf s.data.toList = true ∧ s.data.toList.getLast? = some 41 then (sRef ((s.data.toList.drop 7).take (s.data.toList.length - 8))).map (opR' 7) else (sRef s.data.toList).map (opR' 6))) := by show _ = _; rw [unhide HR, if_neg hT, if_neg hF, if_neg hN]
            clear hT HR hF hN
            go_wp2_with fail
            refine (unhide HW _).mono ?_
            rintro e w2 ⟨rfl, rfl⟩
            have eW : List.isPrefixOf (ByteArray.mk #[108, 101, 110, 103, 116, 104, 40]).data.toList (dr s 0) = wdL.isPrefixOf s.data.toList := rfl
            rw [eW]
            clear eW HW
            cases hw : wdL.isPrefixOf s.data.toList with
            | true =>
              have hlen := (List.isPrefixOf_iff_prefix.1 hw).length_le
              rw [data_len] at hlen
              have h7 : 7 ≤ s.size := hlen
              have h7I : (7 : Int) ≤ (s.size : Int) := by omega
              have hlx := last_at (s := s) (by omega)
              have hx : s.size - 1 < s.size := by omega
              by_cases h41 : s[s.size - 1] = 41
              · have HR3 : Hid (sOpd s.data.toList = (sRef ((s.data.toList.drop 7).take (s.data.toList.length - 8))).map (opR' 7)) := by show _ = _; rw [unhide HR2, if_pos ⟨hw, by rw [hlx, h41]⟩]
                have b41 : (((s[s.size - 1].toNat : Nat) : Int) == 41) = true := eq_t h41
                have h8 : 8 ≤ s.size := by
                  apply Classical.byContradiction
                  intro h
                  have h8 : s.size = 7 := by omega
                  have hp := List.isPrefixOf_iff_prefix.1 hw
                  have : wdL = s.data.toList := hp.eq_of_length (by rw [data_len, h8]; rfl)
                  rw [← this] at hlx
                  have e41 : wdL.getLast? = some 40 := rfl
                  rw [e41] at hlx
                  injection hlx with hlx
                  rw [h41] at hlx
                  exact absurd hlx (by decide)
                clear hlx h41 HR2 hw hlen h7
                go_wp2_with fail
                refine (unhide HRL _).mono ?_
                rintro e w3 ⟨b3, o, q, bl, rfl, row, fsh, hx⟩
                obtain ⟨qa, qc, rfl, -, -⟩ := row.form
                have h3 := (unhide H1).below b3
                have HB3 := hide (below_next (unhide HB1) b3)
                have hz3 := b3.size
                clear b3 HRF HRL H1 HB1 c0 c1 c2 c3 c4 f0 f1 f2 f3 f4
                have hb4 := al_b w3 (.cells #[.int .i64 7, .int .i64 o.n, .string o.s, .bool o.root, .slice qa o.steps.length qc] 65)
                have h4 := h3.below hb4
                obtain ⟨c0, c1, c2, c3, c4⟩ := h4.c
                obtain ⟨f0, f1, f2, f3, f4⟩ := h4.fz
                have H4 := hide h4
                have HB4 := hide (below_next (unhide HB3) hb4)
                have HROW := hide (row.below hb4)
                have HFSH := hide fsh
                have HX := hide hx
                clear h3 h4 hb4 row fsh hx HB3
                go_wp2
                refine bodyPost_ret (results_cell_tmp rfl _ _ w.heap.size 65 #[_, _, _, _, _] (0, 0) _ _ rfl rfl (putN_full (unhide H4) [_, _, _, _, _] rfl) Try.underlying65 rfl (by kernel_rfl)) rfl ?_
                exact FRet.ref (unhide HR3) (putN_below (unhide HB4) (Nat.le_refl _) [_, _, _, _, _] 0) ((unhide HROW).putN (fun hb => by have := (unhide HFSH).2 _ hb; omega) [_, _, _, _, _] 0) ((unhide HFSH).mono (by omega)) (unhide HX)
              · have HR3 : Hid (sOpd s.data.toList = (sRef s.data.toList).map (opR' 6)) := by show _ = _; rw [unhide HR2, if_neg (by rintro ⟨-, h⟩; rw [hlx] at h; injection h with h; exact h41 h)]
                have b41 : (((s[s.size - 1].toNat : Nat) : Int) == 41) = false := eq_f (d := 41) h41
                clear hlx h41 HR2 hw hlen h7
                go_wp2_with fail
                refine (unhide HRF _).mono ?_
                rintro e w3 ⟨b3, o, q, bl, rfl, row, fsh, hx⟩
                obtain ⟨qa, qc, rfl, -, -⟩ := row.form
                have h3 := (unhide H1).below b3
                have HB3 := hide (below_next (unhide HB1) b3)
                have hz3 := b3.size
                clear b3 HRF HRL H1 HB1 c0 c1 c2 c3 c4 f0 f1 f2 f3 f4
                have hb4 := al_b w3 (.cells #[.int .i64 6, .int .i64 o.n, .string o.s, .bool o.root, .slice qa o.steps.length qc] 65)
                have h4 := h3.below hb4
                obtain ⟨c0, c1, c2, c3, c4⟩ := h4.c
                obtain ⟨f0, f1, f2, f3, f4⟩ := h4.fz
                have H4 := hide h4
                have HB4 := hide (below_next (unhide HB3) hb4)
                have HROW := hide (row.below hb4)
                have HFSH := hide fsh
                have HX := hide hx
                clear h3 h4 hb4 row fsh hx HB3
                go_wp2
                refine bodyPost_ret (results_cell_tmp rfl _ _ w.heap.size 65 #[_, _, _, _, _] (0, 0) _ _ rfl rfl (putN_full (unhide H4) [_, _, _, _, _] rfl) Try.underlying65 rfl (by kernel_rfl)) rfl ?_
                exact FRet.ref (unhide HR3) (putN_below (unhide HB4) (Nat.le_refl _) [_, _, _, _, _] 0) ((unhide HROW).putN (fun hb => by have := (unhide HFSH).2 _ hb; omega) [_, _, _, _, _] 0) ((unhide HFSH).mono (by omega)) (unhide HX)
            | false =>
              have HR3 : Hid (sOpd s.data.toList = (sRef s.data.toList).map (opR' 6)) := by show _ = _; rw [unhide HR2, if_neg (by rw [hw]; simp)]
              clear HR2 hw
              go_wp2_with fail
              refine (unhide HRF _).mono ?_
              rintro e w3 ⟨b3, o, q, bl, rfl, row, fsh, hx⟩
              obtain ⟨qa, qc, rfl, -, -⟩ := row.form
              have h3 := (unhide H1).below b3
              have HB3 := hide (below_next (unhide HB1) b3)
              have hz3 := b3.size
              clear b3 HRF HRL H1 HB1 c0 c1 c2 c3 c4 f0 f1 f2 f3 f4
              have hb4 := al_b w3 (.cells #[.int .i64 6, .int .i64 o.n, .string o.s, .bool o.root, .slice qa o.steps.length qc] 65)
              have h4 := h3.below hb4
              obtain ⟨c0, c1, c2, c3, c4⟩ := h4.c
              obtain ⟨f0, f1, f2, f3, f4⟩ := h4.fz
              have H4 := hide h4
              have HB4 := hide (below_next (unhide HB3) hb4)
              have HROW := hide (row.below hb4)
              have HFSH := hide fsh
              have HX := hide hx
              clear h3 h4 hb4 row fsh hx HB3
              go_wp2
              refine bodyPost_ret (results_cell_tmp rfl _ _ w.heap.size 65 #[_, _, _, _, _] (0, 0) _ _ rfl rfl (putN_full (unhide H4) [_, _, _, _, _] rfl) Try.underlying65 rfl (by kernel_rfl)) rfl ?_
              exact FRet.ref (unhide HR3) (putN_below (unhide HB4) (Nat.le_refl _) [_, _, _, _, _] 0) ((unhide HROW).putN (fun hb => by have := (unhide HFSH).2 _ hb; omega) [_, _, _, _, _] 0) ((unhide HFSH).mono (by omega)) (unhide HX)
end Go.Proofs.Ytiolpmhodbefoaa


namespace Go.Proofs.Ytiolpmhodbefoaa
open Go.RowKit

theorem minO_or {a b : Option Nat} {c : Nat} (h : minO a b = some c) : a = some c ∨ b = some c := by
  cases a with
  | none => cases b with
    | none => cases h
    | some y => exact .inr h
  | some x => cases b with
    | none => exact .inl h
    | some y =>
      have h1 : some (if y < x then y else x) = some c := h
      injection h1 with h1
      split at h1
      · exact .inr (by rw [h1])
      · exact .inl (by rw [h1])
theorem cmp_60 (t : Bs) : ∃ p, pCmp (60 :: t) = some p := by
  cases t with
  | nil => exact ⟨_, rfl⟩
  | cons d q =>
    show ∃ p, (if d = 61 then some ((4 : Int), q) else some (3, d :: q)) = some p
    split <;> exact ⟨_, rfl⟩
theorem cmp_62 (t : Bs) : ∃ p, pCmp (62 :: t) = some p := by
  cases t with
  | nil => exact ⟨_, rfl⟩
  | cons d q =>
    show ∃ p, (if d = 61 then some ((6 : Int), q) else some (5, d :: q)) = some p
    split <;> exact ⟨_, rfl⟩
theorem fCmp_pre {l : Bs} {c : Nat} (h : fCmp l = some c) : c < l.length ∧ ∃ p, pCmp (l.drop c) = some p := by
  unfold fCmp at h
  have key : ∀ (w : UInt8) (ws : Bs), fT w ws 0 0 l = some c → c < l.length ∧ ∃ t, l.drop c = (w :: ws) ++ t := fun w ws h => by
    obtain ⟨-, h2, h3⟩ := fT_at l 0 0 c h
    rw [Nat.sub_zero] at h2 h3
    obtain ⟨t, ht⟩ := h3
    exact ⟨h2, t, ht.symm⟩
  rcases minO_or h with h | h
  · rcases minO_or h with h | h
    · rcases minO_or h with h | h
      · obtain ⟨h1, t, ht⟩ := key _ _ h
        exact ⟨h1, by rw [ht]; exact ⟨_, rfl⟩⟩
      · obtain ⟨h1, t, ht⟩ := key _ _ h
        exact ⟨h1, by rw [ht]; exact ⟨_, rfl⟩⟩
    · obtain ⟨h1, t, ht⟩ := key _ _ h
      exact ⟨h1, by rw [ht]; exact cmp_60 t⟩
  · obtain ⟨h1, t, ht⟩ := key _ _ h
    exact ⟨h1, by rw [ht]; exact cmp_62 t⟩
theorem sTest_len {l : Bs} {o : List PFOp} (h : sTest l = some o) : o.length ≤ 3 ∧ 1 ≤ l.length := by
  cases l with
  | nil => rw [sTest_nil] at h; cases h
  | cons c r =>
    refine ⟨?_, by simp⟩
    unfold sTest at h
    split at h
    · cases hr : sRef (c :: r) with
      | none => rw [hr] at h; cases h
      | some x => rw [hr] at h; injection h with h; rw [← h]; simp
    · split at h
      · cases h
      · split at h
        · injection h with h; rw [← h]; simp
        · cases h
def Small (g : Bs → Option XC) : Prop := ∀ p y, g p = some y → y.1.length ≤ 3 * p.length ∧ y.2 ≤ p.length
theorem sMore_len {g : Bs → Option XC} (hg : Small g) (k : Int) (c : UInt8) : ∀ (ps : List Bs) (x y : XC), sMore g k x ps = some y → y.1.length ≤ x.1.length + 3 * (cat2 c ps).length ∧ y.2 ≤ max x.2 (cat2 c ps).length
  | [], x, y, h => by injection h with h; rw [← h]; exact ⟨by omega, by omega⟩
  | p :: r, x, y, h => by
    have h1 : (match g p with | none => none | some z => sMore g k (joinX k x z) r) = some y := h
    have e : (cat2 c (p :: r)).length = p.length + 2 + (cat2 c r).length := by unfold cat2; simp; omega
    cases hp : g p with
    | none => rw [hp] at h1; cases h1
    | some z =>
      rw [hp] at h1
      obtain ⟨h2, h3⟩ := hg p z hp
      obtain ⟨h4, h5⟩ := sMore_len hg k c r _ y h1
      have e1 : (joinX k x z).1.length = x.1.length + z.1.length + 1 := by simp [joinX]; omega
      have e2 : (joinX k x z).2 = max x.2 z.2 := rfl
      rw [e1] at h4
      rw [e2] at h5
      rw [e]
      omega
theorem sJoin_len {g : Bs → Option XC} (hg : Small g) (k : Int) (c : UInt8) : Small fun l => sJoin g k (spl c [c] 0 [] l) := by
  intro l y h
  have hj := spl_jn c [c] l 0 []
  rw [List.nil_append] at hj
  have h' : sJoin g k (spl c [c] 0 [] l) = some y := h
  generalize spl c [c] 0 [] l = ps at *
  cases ps with
  | nil => exact absurd rfl hj.1
  | cons p r =>
    have h1 : (match g p with | none => none | some z => sMore g k z r) = some y := h'
    have e : l.length = p.length + (cat2 c r).length := by rw [← hj.2, jn_cat]; simp
    cases hp : g p with
    | none => rw [hp] at h1; cases h1
    | some z =>
      rw [hp] at h1
      obtain ⟨h2, h3⟩ := hg p z hp
      obtain ⟨h4, h5⟩ := sMore_len hg k c r _ y h1
      omega
theorem sCd_len {g : Bs → Option XC} (hg : Small g) : Small (sCdOf g) := sJoin_len (sJoin_len hg 10 38) 11 124
theorem sPr_len : ∀ n, Small (sPr n)
  | 0 => fun p y h => by cases h
  | n + 1 => fun p y h => by
    cases p with
    | nil => rw [sPr_nil] at h; cases h
    | cons c r =>
      rw [sPr_con] at h
      rw [List.length_cons]
      split at h
      · cases hr : sPr n r with
        | none => rw [hr] at h; cases h
        | some z =>
          rw [hr] at h
          injection h with h
          obtain ⟨h1, h2⟩ := sPr_len n r z hr
          rw [← h]
          simp only [List.length_append, List.length_singleton]
          omega
      · split at h
        · cases hr : sCdOf (sPr n) r.dropLast with
          | none => rw [hr] at h; cases h
          | some z =>
            rw [hr] at h
            injection h with h
            obtain ⟨h1, h2⟩ := sCd_len (sPr_len n) _ z hr
            rw [List.length_dropLast] at h1 h2
            rw [← h]
            simp only
            omega
        · cases ht : sTest (c :: r) with
          | none => rw [ht] at h; cases h
          | some o =>
            rw [ht] at h
            injection h with h
            obtain ⟨h1, h2⟩ := sTest_len ht
            rw [← h]
            simp only
            omega
/-- What the model's reader of a condition answers. -/
def CRet (w : World) (B : Nat) (ops : List PFOp) (bl : List Nat) (N : Nat) (R : Option XC) (e : Ending) (w' : World) : Prop :=
  Below B w w' ∧ Shp w w' ∧ ∃ (v' : Value) (ok : Bool) (d : Int), e = .returned (.tuple #[v', .bool ok, .int .i64 d]) ∧ (R = none → ok = false ∧ AnyR w' B 65 5 v' N) ∧
    ∀ x, R = some x → ok = true ∧ d = (x.2 : Int) ∧ Fr bl w w' ∧ ∃ bl', ORow fopE w' v' (ops ++ x.1) bl' ∧ Fsh B bl' ∧ ∀ b ∈ bl', b ∈ bl ∨ w.heap.size ≤ b
theorem AnyR.form {w : World} {B : Nat} {T : TypeId} {wd : Nat} {v : Value} {N : Nat} (h : AnyR w B T wd v N) : ∃ a l c, v = .slice a l c := by
  obtain ⟨n, cs, -, -, h⟩ := h
  rcases h with ⟨hv, -⟩ | ⟨g, cap, cur, hv, -⟩
  · exact ⟨_, _, _, hv⟩
  · exact ⟨_, _, _, hv⟩
theorem AnyR.own {w : World} {B : Nat} {T : TypeId} {wd : Nat} {v : Value} {N : Nat} (h : AnyR w B T wd v N) : ∀ g, v.ownBlock = some g → B ≤ g := by
  obtain ⟨n, cs, -, h⟩ := h
  exact fun g hg => (h.lt g hg).1
def PrimOk (m : Nat) (g : Bs → Option XC) : Prop := ∀ (s : ByteArray) (v : Value) (ops : List PFOp) (bl : List Nat) (B : Nat) (w : World), s.size < m → s.size ≤ 1048576 → ORow fopE w v ops bl → Fsh B bl → B ≤ w.heap.size → ops.length + 3 * s.size + 3 ≤ 10000000 →
  Calls Try.prog 74 #[.string s, v] w (CRet w B ops bl (ops.length + 3 * s.size + 3) (g s.data.toList))
def CondOk (m : Nat) (lv : Int) (g : Bs → Option XC) : Prop := ∀ (s : ByteArray) (v : Value) (ops : List PFOp) (bl : List Nat) (B : Nat) (w : World), s.size < m → s.size ≤ 1048576 → ORow fopE w v ops bl → Fsh B bl → B ≤ w.heap.size → ops.length + 3 * s.size + 3 ≤ 10000000 →
  Calls Try.prog 55 #[.string s, .int .i64 lv, v] w (CRet w B ops bl (ops.length + 3 * s.size + 3) (g s.data.toList))
theorem Appd.fr {α : Type} {e : Elem α} {B : Nat} {w w' : World} {v v' : Value} {xs zs : List α} {bl ib bl' : List Nat} (h : Appd e B w w' v v' bl ib bl' zs) (h0 : ORow e w v xs bl) : Fr bl w w' :=
  ⟨h.grown.os, h.grown.tape, h.grown.output, h.grown.size, fun _ hk hn => h.block h0 hk hn⟩
theorem fop_one (k n : Int) (t : ByteArray) (r : Bool) (a : Option Addr) (l c : Nat) : ∀ u ∈ [Value.int .i64 k, .int .i64 n, .string t, .bool r, .slice a l c], u.oneCell' = true := by
  intro u hu; simp at hu; rcases hu with rfl | rfl | rfl | rfl | rfl <;> rfl
theorem fopE_lit (w : World) (k n : Int) (t : ByteArray) : fopE.E w [.int .i64 k, .int .i64 n, .string t, .bool false, .slice none 0 0] ⟨k, n, t, false, []⟩ [] := ⟨_, rfl, ORow.nil _ _⟩
end Go.Proofs.Ytiolpmhodbefoaa

