import Derived.Test.YtiolpmhodbefoaaBp46
import Derived.Test.YtiolpmhodbefoaaBp38
namespace Go.Proofs.Ytiolpmhodbefoaa
open Go.RowKit

/-- What a reader that may deepen answers. -/
def RdD {α : Type} (rb : Nat) (s : ByteArray) (i : Nat) (d : Int) (w : World) (R : Option ((α × Nat) × Bs)) (V : α → Ending → World → Prop) (e : Ending) (w' : World) : Prop :=
  KB rb w w' ∧ (R = none → e = mis) ∧ ∀ x t, R = some (x, t) → ∃ j, t = dr s j ∧ i ≤ j ∧ j ≤ s.size ∧ PRd rb s j (max d (x.2 : Int)) w' ∧ V x.1 e w'
theorem Fr.kb {rb : Nat} {w w' : World} (h : Fr [rb] w w') : KB rb w w' := ⟨h.os, h.tape, h.output, h.size, fun k hk hn => h.block k hk (by simp [hn])⟩
theorem SV.put {w w1 : World} {o : PSel} {q : Value} {bl : List Nat} {rb : Nat} (hk : KB rb w w1) (row : ORow fopE w1 q o.cond bl) (fsh : Fsh (w.heap.size + 1) bl) : KB rb w (putN w1 w.heap.size 0 [.int .i64 o.k, .string o.name, .bool o.hasA, .bool o.hasB, .bool o.hasC, .int .i64 o.a, .int .i64 o.b, .int .i64 o.c, q]) ∧ SV w o (.returned (.agg #[.int .i64 o.k, .string o.name, .bool o.hasA, .bool o.hasB, .bool o.hasC, .int .i64 o.a, .int .i64 o.b, .int .i64 o.c, q])) (putN w1 w.heap.size 0 [.int .i64 o.k, .string o.name, .bool o.hasA, .bool o.hasB, .bool o.hasC, .int .i64 o.a, .int .i64 o.b, .int .i64 o.c, q]) :=
  ⟨kb_below hk (putN_below (Below.refl _ _) (Nat.le_refl _) _ _), q, bl, rfl, row.putN (fun hb => by have := fsh.2 _ hb; omega) _ _, fsh.mono (by omega)⟩
theorem sel_at {n : Nat} {s : ByteArray} {i : Nat} : (bt s i = 39 → pSel n (dr s i) = (pStr (dr s i)).map fun p => ((nameS p.1, 0), p.2)) ∧ (bt s i = 42 → pSel n (dr s i) = some ((allS, 0), dr s (i + 1))) ∧ (bt s i = 63 → pSel n (dr s i) = (pCd n (dr s (i + 1))).map fun p => ((filS p.1.1, p.1.2), p.2)) ∧ (¬ bt s i = 39 → ¬ bt s i = 42 → ¬ bt s i = 63 → pSel n (dr s i) = (pIS (dr s i)).map fun p => ((p.1, 0), p.2)) := by
  refine ⟨fun h => ?_, fun h => ?_, fun h => ?_, fun h1 h2 h3 => ?_⟩
  · obtain ⟨hi, hc⟩ := bt_is 39 h (by decide)
    rw [dr_at hi, pSel_con, if_pos hc]
  · obtain ⟨hi, hc⟩ := bt_is 42 h (by decide)
    rw [dr_at hi, pSel_con, if_neg (by rw [hc]; decide), if_pos hc]
  · obtain ⟨hi, hc⟩ := bt_is 63 h (by decide)
    rw [dr_at hi, pSel_con, if_neg (by rw [hc]; decide), if_neg (by rw [hc]; decide), if_pos hc]
  · by_cases hi : i < s.size
    · rw [dr_at hi, pSel_con, if_neg (bt_ne hi 39 h1), if_neg (bt_ne hi 42 h2), if_neg (bt_ne hi 63 h3)]
    · rw [dr_end (by omega)]; rfl
set_option maxRecDepth 100000 in
set_option maxHeartbeats 8000000 in
theorem rSel (n rb : Nat) (s : ByteArray) (i : Nat) (d : Int) (w : World) (h : PRd rb s i d w) (hs : s.size ≤ 1000000) (hi : i ≤ s.size) (hd : 0 ≤ d) (hn : s.size < n) :
    Calls Try.prog 75 #[.pointer (some ⟨rb, 0, none⟩)] w (RdD rb s i d w (pSel n (dr s i)) (SV w)) := by
  have hlt := h.lt
  have hal := al_b w (.cells #[.int .i64 0, .string ⟨#[]⟩, .bool false, .bool false, .bool false, .int .i64 0, .int .i64 0, .int .i64 0, .slice none 0 0] 43)
  have h2 : SB (w.alloc (.cells #[.int .i64 0, .string ⟨#[]⟩, .bool false, .bool false, .bool false, .int .i64 0, .int .i64 0, .int .i64 0, .slice none 0 0] 43)) w.heap.size 0 ⟨#[]⟩ false false false 0 0 0 (.slice none 0 0) := heap_alloc_new w _
  have hz : w.heap.size < (w.alloc (.cells #[.int .i64 0, .string ⟨#[]⟩, .bool false, .bool false, .bool false, .int .i64 0, .int .i64 0, .int .i64 0, .slice none 0 0] 43)).heap.size := by simp
  have HP := hide (ppeek rb s i d _ (h.below hal) hi)
  have HKB : Hid (KB rb w (w.alloc (.cells #[.int .i64 0, .string ⟨#[]⟩, .bool false, .bool false, .bool false, .int .i64 0, .int .i64 0, .int .i64 0, .slice none 0 0] 43))) := KB.of_below hal
  have HK := hide h2
  have HZ := hide hz
  obtain ⟨v39, v42, v63, vE⟩ := sel_at (n := n) (s := s) (i := i)
  have V39 := hide v39
  have V42 := hide v42
  have V63 := hide v63
  have VE := hide vE
  have hm : max d 0 = d := by omega
  have HMX := hide hm
  clear h hal h2 hz v39 v42 v63 vE hm
  go_enter Try.func75, Try.ntmps75
  go_wp2_with fail
  generalize (w.alloc (.cells #[.int .i64 0, .string ⟨#[]⟩, .bool false, .bool false, .bool false, .int .i64 0, .int .i64 0, .int .i64 0, .slice none 0 0] 43)) = wA at *
  refine (unhide HP).mono ?_
  rintro e w1 ⟨rfl, r1, k1⟩
  have hz1 : w.heap.size < w1.heap.size := by have := k1.size; have := unhide HZ; omega
  have HR1 := hide r1
  have HK1 := hide ((unhide HK).kb k1 (by omega))
  have HKB1 := hide ((unhide HKB).trans k1)
  clear HP r1 k1 HK HKB HZ
  by_cases h39 : bt s i = 39
  · have b39 : ((bt s i : Int) == 39) = true := by rw [h39]; rfl
    have HV := hide (unhide V39 h39)
    have HC := hide (rQuoted rb s i d w1 (unhide HR1) (by omega) hi)
    clear h39 V39 V42 V63 VE
    go_wp2_with fail
    refine (unhide HC).mono ?_
    rintro e w2 ⟨k2, hno, hyes⟩
    clear HC
    cases hp : pStr (dr s i) with
    | none =>
      obtain rfl := hno hp
      exact ⟨rfl, (unhide HKB1).trans k2, fun _ => rfl, fun x t h => by rw [unhide HV, hp] at h; cases h⟩
    | some q =>
      obtain ⟨j, hj1, hj2, hj3, r2, rfl⟩ := hyes q.1 q.2 hp
      have HK2 := hide ((unhide HK1).kb k2 (by omega))
      have HKB2 := hide ((unhide HKB1).trans k2)
      have HR2 := hide r2
      have HV2 : Hid (pSel n (dr s i) = some ((nameS q.1, 0), dr s j)) := by show _ = _; rw [unhide HV, hp, ← hj1]; rfl
      obtain ⟨c0, c1, c2, c3, c4, c5, c6, c7, c8⟩ := (unhide HK2).cs
      obtain ⟨f0, f1, f2, f3, f4, f5, f6, f7, f8⟩ := (unhide HK2).fz
      clear hno hyes hp k2 r2 hj1 HKB1 HK1 HR1
      go_wp2
      try simp only [Exit.inBlock, Exit.then]
      refine bodyPost_ret (results_cell_row rfl _ _ w.heap.size 43 #[_, _, _, _, _, _, _, _, _] (0, 0) _ rfl (putN_full (unhide HK2) [_, _, _, _, _, _, _, _, _] rfl) Try.underlying43 rfl (by kernel_rfl)) rfl ?_
      have hp := SV.put (o := nameS q.1) (q := .slice none 0 0) (bl := []) (unhide HKB2) (ORow.nil _ _) (Fsh.nil _)
      refine ⟨hp.1, fun h => (by rw [unhide HV2] at h; cases h), fun x t h => ?_⟩
      rw [unhide HV2] at h
      injection h with h
      injection h with h1 h2
      subst h1; subst h2
      exact ⟨j, rfl, hj2, hj3, by show PRd rb s j (max d 0) _; rw [unhide HMX]; exact (putN_other (by omega) [_, _, _, _, _, _, _, _, _] 0).trans (unhide HR2), hp.2⟩
  · have b39 : ((bt s i : Int) == 39) = false := by rw [beq_eq_false_iff_ne]; omega
    by_cases h42 : bt s i = 42
    · obtain ⟨hil, -⟩ := bt_is 42 h42 (by decide)
      have HC := hide (pskip_yes rb s i d w1 (unhide HR1) (by omega) 42 h42 hil)
      have HV2 := hide (unhide V42 h42)
      clear h39 h42 V39 V42 V63 VE
      go_wp2_with fail
      refine (unhide HC).mono ?_
      rintro e w2 ⟨rfl, r2, k2⟩
      have HK2 := hide ((unhide HK1).kb k2 (by omega))
      have HKB2 := hide ((unhide HKB1).trans k2)
      have HR2 := hide r2
      obtain ⟨c0, c1, c2, c3, c4, c5, c6, c7, c8⟩ := (unhide HK2).cs
      obtain ⟨f0, f1, f2, f3, f4, f5, f6, f7, f8⟩ := (unhide HK2).fz
      clear HC k2 r2 HKB1 HK1 HR1
      go_wp2
      try simp only [Exit.inBlock, Exit.then]
      refine bodyPost_ret (results_cell_row rfl _ _ w.heap.size 43 #[_, _, _, _, _, _, _, _, _] (0, 0) _ rfl (putN_full (unhide HK2) [_, _, _, _, _, _, _, _, _] rfl) Try.underlying43 rfl (by kernel_rfl)) rfl ?_
      have hp := SV.put (o := allS) (q := .slice none 0 0) (bl := []) (unhide HKB2) (ORow.nil _ _) (Fsh.nil _)
      refine ⟨hp.1, fun h => (by rw [unhide HV2] at h; cases h), fun x t h => ?_⟩
      rw [unhide HV2] at h
      injection h with h
      injection h with h1 h2
      subst h1; subst h2
      exact ⟨i + 1, rfl, by omega, by omega, by show PRd rb s (i + 1) (max d 0) _; rw [unhide HMX]; exact (putN_other (by omega) [_, _, _, _, _, _, _, _, _] 0).trans (unhide HR2), hp.2⟩
    · have HC := hide (pskip_no rb s i d w1 (unhide HR1) hi 42 (.inl h42))
      go_wp2_with fail
      refine (unhide HC).mono ?_
      rintro e w2 ⟨rfl, r2, k2⟩
      have HK2 := hide ((unhide HK1).kb k2 (by omega))
      have HKB2 := hide ((unhide HKB1).trans k2)
      have HR2 := hide r2
      have hz2 := k2.size
      clear HC k2 r2 HKB1 HK1 HR1
      by_cases h63 : bt s i = 63
      · obtain ⟨hil, -⟩ := bt_is 63 h63 (by decide)
        have HC := hide (pskip_yes rb s i d w2 (unhide HR2) (by omega) 63 h63 hil)
        have HV := hide (unhide V63 h63)
        clear h39 h42 h63 V39 V42 V63 VE
        go_wp2_with fail
        refine (unhide HC).mono ?_
        rintro e w3 ⟨rfl, r3, k3⟩
        have HK3 := hide ((unhide HK2).kb k3 (by omega))
        have HKB3 := hide ((unhide HKB2).trans k3)
        have hz3 := k3.size
        have HC2 : Hid (Calls Try.prog 91 #[.pointer (some ⟨rb, 0, none⟩), .slice none 0 0, .int .i64 0] w3 (TRd rb s (i + 1) (fun x => max d ((0 + x : Nat) : Int)) w3 w3.heap.size [] [] (pCd n (dr s (i + 1))))) :=
          rConds hs n (i + 1) d 0 w3 w3.heap.size (.slice none 0 0) [] [] r3 (by omega) (by omega) (ORow.nil _ _) (Fsh.nil _) (Nat.le_refl _) (by omega) (by simp; omega) (by omega)
        clear HC r3 k3 HK2 HKB2 HR2
        go_wp2_with fail
        refine (unhide HC2).mono ?_
        rintro e w4 ⟨fr4, hno, hyes⟩
        clear HC2
        have k4 := fr4.kb
        cases hp : pCd n (dr s (i + 1)) with
        | none =>
          obtain rfl := hno hp
          exact ⟨rfl, (unhide HKB3).trans k4, fun _ => rfl, fun x t h => by rw [unhide HV, hp] at h; cases h⟩
        | some z =>
          obtain ⟨x, t⟩ := z
          obtain ⟨j, v4, b4, hj1, hj2, hj3, r4, rfl, row4, fsh4, new4⟩ := hyes x t hp
          subst hj1
          rw [List.nil_append] at row4
          obtain ⟨ya, yc, rfl, -, -⟩ := row4.form
          have HK4 := hide ((unhide HK3).kb k4 (by omega))
          have HKB4 := hide ((unhide HKB3).trans k4)
          have r4' : PRd rb s j (max d ((0 + x.2 : Nat) : Int)) w4 := r4
          rw [Nat.zero_add] at r4'
          have HR4 := hide r4'
          have HROW := hide row4
          have HFSH := hide (fsh4.mono (show w.heap.size + 1 ≤ w3.heap.size by omega))
          have HV2 : Hid (pSel n (dr s i) = some ((filS x.1, x.2), dr s j)) := by show _ = _; rw [unhide HV, hp]; rfl
          obtain ⟨c0, c1, c2, c3, c4, c5, c6, c7, c8⟩ := (unhide HK4).cs
          obtain ⟨f0, f1, f2, f3, f4, f5, f6, f7, f8⟩ := (unhide HK4).fz
          clear hno hyes hp fr4 k4 r4 r4' row4 fsh4 new4 HK3 HKB3
          go_wp2
          try simp only [Exit.inBlock, Exit.then]
          refine bodyPost_ret (results_cell_row rfl _ _ w.heap.size 43 #[_, _, _, _, _, _, _, _, _] (0, 0) _ rfl (putN_full (unhide HK4) [_, _, _, _, _, _, _, _, _] rfl) Try.underlying43 rfl (by kernel_rfl)) rfl ?_
          have hp := SV.put (o := filS x.1) (unhide HKB4) (unhide HROW) (unhide HFSH)
          refine ⟨hp.1, fun h => (by rw [unhide HV2] at h; cases h), fun y t h => ?_⟩
          rw [unhide HV2] at h
          injection h with h
          injection h with h1 h2
          subst h1; subst h2
          exact ⟨j, rfl, by omega, hj3, (putN_other (by omega) [_, _, _, _, _, _, _, _, _] 0).trans (unhide HR4), hp.2⟩
      · have HC := hide (pskip_no rb s i d w2 (unhide HR2) hi 63 (.inl h63))
        have HV := hide (unhide VE h39 h42 h63)
        clear h39 h42 h63 V39 V42 V63 VE
        go_wp2_with fail
        refine (unhide HC).mono ?_
        rintro e w3 ⟨rfl, r3, k3⟩
        have HK3 := hide ((unhide HK2).kb k3 (by omega))
        have HKB3 := hide ((unhide HKB2).trans k3)
        have hz3 := k3.size
        have HC2 := hide (rIndex rb s i d w3 r3 (by omega) hi)
        clear HC r3 k3 HK2 HKB2 HR2
        go_wp2_with fail
        refine (unhide HC2).mono ?_
        rintro e w4 ⟨k4, hno, hyes⟩
        clear HC2
        cases hp : pIS (dr s i) with
        | none =>
          obtain rfl := hno hp
          exact ⟨rfl, (unhide HKB3).trans k4, fun _ => rfl, fun x t h => by rw [unhide HV, hp] at h; cases h⟩
        | some z =>
          obtain ⟨x, t⟩ := z
          obtain ⟨j, hj1, hj2, hj3, r4, qv, b4, rfl, row4, fsh4⟩ := hyes x t hp
          subst hj1
          obtain ⟨ya, yc, rfl, -, -⟩ := row4.form
          have HK4 := hide ((unhide HK3).kb k4 (by omega))
          have HKB4 := hide ((unhide HKB3).trans k4)
          have HR4 := hide r4
          have HROW := hide row4
          have HFSH := hide (fsh4.mono (show w.heap.size + 1 ≤ w3.heap.size by omega))
          have HV2 : Hid (pSel n (dr s i) = some ((x, 0), dr s j)) := by show _ = _; rw [unhide HV, hp]; rfl
          obtain ⟨c0, c1, c2, c3, c4, c5, c6, c7, c8⟩ := (unhide HK4).cs
          obtain ⟨f0, f1, f2, f3, f4, f5, f6, f7, f8⟩ := (unhide HK4).fz
          clear hno hyes hp k4 r4 row4 fsh4 HK3 HKB3
          go_wp2
          try simp only [Exit.inBlock, Exit.then]
          refine bodyPost_ret (results_cell_row rfl _ _ w.heap.size 43 #[_, _, _, _, _, _, _, _, _] (0, 0) _ rfl (putN_full (unhide HK4) [_, _, _, _, _, _, _, _, _] rfl) Try.underlying43 rfl (by kernel_rfl)) rfl ?_
          have hp := SV.put (o := x) (unhide HKB4) (unhide HROW) (unhide HFSH)
          refine ⟨hp.1, fun h => (by rw [unhide HV2] at h; cases h), fun y t h => ?_⟩
          rw [unhide HV2] at h
          injection h with h
          injection h with h1 h2
          subst h1; subst h2
          exact ⟨j, rfl, hj2, hj3, by show PRd rb s j (max d 0) _; rw [unhide HMX]; exact (putN_other (by omega) [_, _, _, _, _, _, _, _, _] 0).trans (unhide HR4), hp.2⟩
end Go.Proofs.Ytiolpmhodbefoaa


namespace Go.Proofs.Ytiolpmhodbefoaa
open Go.RowKit

/-- A row of one element, as a literal lays it. -/
theorem orow_one {α : Type} {e : Elem α} {w : World} {vs : List Value} {x : α} {ib : List Nat} (hE : e.E (w.alloc (.cells vs.toArray e.T)) vs x ib) (hl : vs.length = e.wd) : ORow e (w.alloc (.cells vs.toArray e.T)) (.slice (some ⟨w.heap.size, 0, none⟩) 1 1) [x] (w.heap.size :: ib) := by
  refine ⟨[(vs, ib)], rfl, fun j p y h1 h2 => ?_, ?_, by simp [Value.ownBlock]⟩
  · match j, h1, h2 with
    | 0, h1, h2 => simp at h1 h2; subst h1; subst h2; exact hE
    | j + 1, h1, _ => simp at h1
  · have := w.ownsRow_made (e := e.T) (size := e.wd) (base := 0) vs.toArray 1 (Nat.zero_le _) (by unfold maxLen; omega) (by simp [hl])
    refine ⟨by simp [hl], .inr ⟨w.heap.size, 1, vs.toArray, rfl, Nat.zero_le _, heap_alloc_new w _, Nat.le_refl _, by unfold maxLen; omega, by simp [hl], ?_⟩⟩
    simp [← hl]
/-- A row of selectors that the program has read. -/
def LV (w : World) (L : List PSel) (e : Ending) (w' : World) : Prop := ∃ (v : Value) (bl : List Nat), e = .returned v ∧ ORow selE w' v L bl ∧ Fsh w.heap.size bl
/-- Selectors under way. -/
structure LS (rb : Nat) (s : ByteArray) (d : Int) (w wr : World) (x : XL) (j : Nat) (v : Value) (bl : List Nat) : Prop where
  kb : KB rb w wr
  rd : PRd rb s j (max d (x.2 : Int)) wr
  row : ORow selE wr v x.1 bl
  fsh : Fsh w.heap.size bl
  nb : rb < w.heap.size
section
variable {rb : Nat} {s : ByteArray} {d : Int} {w wr : World} {x : XL} {j : Nat} {v : Value} {bl : List Nat}
theorem LS.far (h : LS rb s d w wr x j v bl) : rb ∉ bl := fun hb => by have := h.fsh.2 _ hb; have := h.nb; omega
theorem LS.step (h : LS rb s d w wr x j v bl) {w2 : World} {j2 : Nat} (hk : KB rb wr w2) (hr : PRd rb s j2 (max d (x.2 : Int)) w2) : LS rb s d w w2 x j2 v bl :=
  ⟨h.kb.trans hk, hr, h.row.kb hk h.far, h.fsh, h.nb⟩
theorem LS.app (h : LS rb s d w wr x j v bl) {w1 w5 w2 : World} {v2 : Value} {b2 ib : List Nat} {y : PSel} {dy : Nat} {j2 : Nat} (hk : KB rb wr w1) (hb : Below w1.heap.size w1 w5) (hr : PRd rb s j2 (max (max d (x.2 : Int)) (dy : Int)) w1) (hrow : ORow selE w5 v x.1 bl) (hA : Appd selE w.heap.size w5 w2 v v2 bl ib b2 (x.1 ++ [y])) : LS rb s d w w2 (joinS x (y, dy)) j2 v2 b2 := by
  have hk5 : KB rb w w5 := (h.kb.trans hk).trans (KB.of_below hb)
  refine ⟨kb_below hk5 ((Below.refl _ _).grown hA.grown hk5.size fun g hg => h.fsh.2 _ (hrow.head hg)), ?_, hA.row, hA.fsh, h.nb⟩
  have e : max (max d (x.2 : Int)) (dy : Int) = max d ((max x.2 dy : Nat) : Int) := by omega
  rw [e] at hr
  exact (hA.block hrow (hr.below hb).lt h.far).trans (hr.below hb)
end
/-- What is left of the selectors. -/
def LU (n : Nat) (s : ByteArray) (R : Option (XL × Bs)) (x : XL) (j : Nat) : Prop := ∃ m, (dr s j).length < m ∧ R = pSMore n m x (dr s j)
theorem LU.fin {n : Nat} {s : ByteArray} {R : Option (XL × Bs)} {x : XL} {j : Nat} (h : LU n s R x j) (hc : ¬ bt s j = 44) : R = some (x, dr s j) := by
  obtain ⟨m, hm, hR⟩ := h
  obtain ⟨q, rfl⟩ : ∃ q, m = q + 1 := ⟨m - 1, by omega⟩
  by_cases hj : j < s.size
  · rw [hR, dr_at hj, pSMore_con, if_neg (bt_ne hj 44 hc)]
  · rw [hR, dr_end (by omega), pSMore_nil]
theorem LU.go {n : Nat} {s : ByteArray} {R : Option (XL × Bs)} {x : XL} {j : Nat} (h : LU n s R x j) (hc : bt s j = 44) : (pSel n (dr s (j + 1)) = none → R = none) ∧ ∀ y q, pSel n (dr s (j + 1)) = some (y, dr s q) → j + 1 ≤ q → q ≤ s.size → LU n s R (joinS x y) q := by
  obtain ⟨m, hm, hR⟩ := h
  obtain ⟨m, rfl⟩ : ∃ q, m = q + 1 := ⟨m - 1, by omega⟩
  obtain ⟨hj, hcc⟩ := bt_is 44 hc (by decide)
  have e : R = match pSel n (dr s (j + 1)) with
      | none => none
      | some (y, u) => pSMore n m (joinS x y) u := by
    rw [hR, dr_at hj, pSMore_con, if_pos hcc]
    rfl
  exact ⟨fun hn => by rw [e, hn], fun y q hy hq1 hq2 => ⟨m, by rw [dr_len] at hm ⊢; omega, by rw [e, hy]⟩⟩
set_option maxRecDepth 100000 in
set_option maxHeartbeats 8000000 in
theorem rSels (n rb : Nat) (s : ByteArray) (i : Nat) (d : Int) (w : World) (h : PRd rb s i d w) (hs : s.size ≤ 1000000) (hi : i ≤ s.size) (hd : 0 ≤ d) (hn : s.size < n) :
    Calls Try.prog 60 #[.pointer (some ⟨rb, 0, none⟩)] w (RdD rb s i d w (pBr n (dr s i)) (LV w)) := by
  have hlt := h.lt
  have HC := hide (rSel n rb s i d w h hs hi hd hn)
  have HSEL := hide (fun (j : Nat) (D : Int) (w : World) (hj : j ≤ s.size) (hD : 0 ≤ D) h => rSel n rb s j D w h hs hj hD hn)
  have HV : Hid (pBr n (dr s i) = match pSels n (dr s i) with
    | none => none
    | some (x, t) => match t with
      | [] => none
      | d :: u => if d = 93 then some (x, u) else none) := rfl
  have HV0 : Hid (pSels n (dr s i) = match pSel n (dr s i) with
    | none => none
    | some (y, t) => pSMore n (t.length + 1) ([y.1], y.2) t) := rfl
  clear h
  go_enter Try.func60, Try.ntmps60
  go_wp2_with fail
  refine (unhide HC).mono ?_
  rintro e w1 ⟨k1, hno, hyes⟩
  clear HC
  cases hp : pSel n (dr s i) with
  | none =>
    obtain rfl := hno hp
    exact ⟨rfl, k1, fun _ => rfl, fun x t h => by rw [unhide HV, unhide HV0, hp] at h; cases h⟩
  | some z =>
    obtain ⟨⟨y, dy⟩, t⟩ := z
    obtain ⟨j, hj1, hj2, hj3, r1, qv, ib, rfl, row1, fsh1⟩ := hyes (y, dy) t hp
    subst hj1
    obtain ⟨qa, qc, rfl, -, -⟩ := row1.form
    have hz1 := k1.size
    have hal := al_b w1 (.cells #[.int .i64 y.k, .string y.name, .bool y.hasA, .bool y.hasB, .bool y.hasC, .int .i64 y.a, .int .i64 y.b, .int .i64 y.c, .slice qa y.cond.length qc] 43)
    have hro := orow_one (e := selE) (w := w1) (vs := [.int .i64 y.k, .string y.name, .bool y.hasA, .bool y.hasB, .bool y.hasC, .int .i64 y.a, .int .i64 y.b, .int .i64 y.c, .slice qa y.cond.length qc]) (x := y) (ib := ib) ⟨_, rfl, row1.below hal⟩ rfl
    have S1 : Hid (LS rb s d w (w1.alloc (.cells #[.int .i64 y.k, .string y.name, .bool y.hasA, .bool y.hasB, .bool y.hasC, .int .i64 y.a, .int .i64 y.b, .int .i64 y.c, .slice qa y.cond.length qc] 43)) ([y], dy) j (.slice (some ⟨w1.heap.size, 0, none⟩) 1 1) (w1.heap.size :: ib)) :=
      ⟨k1.trans (KB.of_below hal), r1.below hal, hro, ⟨List.nodup_cons.2 ⟨fun hb => by have := row1.lt _ hb; omega, fsh1.1⟩, fun b hb => by
        rcases List.mem_cons.1 hb with rfl | hb
        · omega
        · exact fsh1.2 b hb⟩, hlt⟩
    have U1 : Hid (LU n s (pSels n (dr s i)) ([y], dy) j) := ⟨_, Nat.lt_succ_self _, by rw [unhide HV0, hp]⟩
    clear hno hyes hp k1 r1 row1 fsh1 hal hro HV0
    generalize pSels n (dr s i) = R at *
    go_wp2_with fail
    generalize (w1.alloc (.cells #[.int .i64 y.k, .string y.name, .bool y.hasA, .bool y.hasB, .bool y.hasC, .int .i64 y.a, .int .i64 y.b, .int .i64 y.c, .slice qa y.cond.length qc] 43)) = w2 at *
    go_loopg [3] (s.size + 1 - j) (fun gk ov wr => ∃ (j : Nat) (x : XL) (oa : Option Addr) (ol oc : Nat) (bc : List Nat), gk = s.size + 1 - j ∧ i ≤ j ∧ j ≤ s.size ∧ x.1.length ≤ j + 1 ∧ ov = .slice oa ol oc ∧ Hid (LU n s R x j) ∧ Hid (LS rb s d w wr x j (.slice oa ol oc) bc))
    case atStart => exact ⟨j, ([y], dy), _, _, _, _, rfl, hj2, hj3, by simp, rfl, U1, S1⟩
    case round =>
      obtain ⟨j, x, oa, ol, oc, bc, hg, hij, hjl, hxl, rfl, hu, hls⟩ := hrel
      clear S1 U1
      have hD : 0 ≤ max d (x.2 : Int) := by omega
      by_cases hc : bt s j = 44
      · obtain ⟨hjs, -⟩ := bt_is 44 hc (by decide)
        have HC1 := hide (pskip_yes rb s j _ wr (unhide hls).rd (by omega) 44 hc hjs)
        obtain ⟨hu1, hu2⟩ := (unhide hu).go hc
        have HU1 := hide hu1
        have HU2 := hide hu2
        clear hc hu hu1 hu2
        go_wp2_with fail
        refine (unhide HC1).mono ?_
        rintro e w3 ⟨rfl, r3, k3⟩
        have S3 := hide ((unhide hls).step k3 r3)
        have HC2 := hide (unhide HSEL (j + 1) _ w3 (by omega) hD r3)
        clear HC1 r3 k3 hls
        go_wp2_with fail
        refine (unhide HC2).mono ?_
        rintro e w4 ⟨k4, hno, hyes⟩
        clear HC2
        cases hp : pSel n (dr s (j + 1)) with
        | none =>
          obtain rfl := hno hp
          exact ⟨rfl, (unhide S3).kb.trans k4, fun _ => rfl, fun x t h => by rw [unhide HV, unhide HU1 hp] at h; cases h⟩
        | some z =>
          obtain ⟨⟨y, dy⟩, t⟩ := z
          obtain ⟨q, hq1, hq2, hq3, r4, qv, ib, rfl, row4, fsh4⟩ := hyes (y, dy) t hp
          subst hq1
          obtain ⟨ya, yc, rfl, -, -⟩ := row4.form
          have hz3 := (unhide S3).kb.size
          have hz4 := k4.size
          have hal := al_b w4 (.cells #[.int .i64 y.k, .string y.name, .bool y.hasA, .bool y.hasB, .bool y.hasC, .int .i64 y.a, .int .i64 y.b, .int .i64 y.c, .slice ya y.cond.length yc] 43)
          have ROW5 := hide ((((unhide S3).row).kb k4 (unhide S3).far).below hal)
          have EL := hide (show selE.E (w4.alloc (.cells #[.int .i64 y.k, .string y.name, .bool y.hasA, .bool y.hasB, .bool y.hasC, .int .i64 y.a, .int .i64 y.b, .int .i64 y.c, .slice ya y.cond.length yc] 43)) [.int .i64 y.k, .string y.name, .bool y.hasA, .bool y.hasB, .bool y.hasC, .int .i64 y.a, .int .i64 y.b, .int .i64 y.c, .slice ya y.cond.length yc] y ib from ⟨_, rfl, row4.below hal⟩)
          have FSH5 := hide (unhide S3).fsh
          have FI := hide (fsh4.mono hz3)
          have AP : Hid (∀ b ∈ ib, b ∉ bc) := fun b hb hbl => by have h1 := fsh4.2 b hb; have h2 := (unhide S3).row.lt b hbl; omega
          have HU4 := hide (unhide HU2 (y, dy) q hp (by omega) hq3)
          have HR4 := hide r4
          have HK4 := hide k4
          clear hno hyes hp k4 r4 row4 fsh4 hal HU1 HU2
          go_wp2_with (at_builtin; refine wpl_app1 ekSel rfl (.tmp 11) (.tmp 14) rfl rfl (unhide ROW5) (unhide FSH5) (vs := [.int .i64 y.k, .string y.name, .bool y.hasA, .bool y.hasB, .bool y.hasC, .int .i64 y.a, .int .i64 y.b, .int .i64 y.c, .slice ya y.cond.length yc]) (y := y) (unhide EL) (unhide FI) (unhide AP) rfl (by exact lit_cells w4 [_, _, _, _, _, _, _, _, _] _) (sel_one _ _ _ _ _ _ _ _ _ _ _) (by simp; omega) (by omega) ?_)
          intro v5 w5 b5 hA
          have S5 := hide ((unhide S3).app (dy := dy) (unhide HK4) (al_b w4 _) (unhide HR4) (unhide ROW5) hA)
          obtain ⟨za, zc, hza, -, -⟩ := hA.row.form
          obtain ⟨L3, hL3⟩ : ∃ L, (x.1 ++ [y]).length = L := ⟨_, rfl⟩
          rw [hL3] at hza
          subst hza
          clear hA hL3
          go_wp2
          go_roundg (s.size + 1 - q)
          case rel => exact ⟨q, joinS x (y, dy), za, _, zc, b5, rfl, by omega, hq3, by show (x.1 ++ [y]).length ≤ _; simp; omega, rfl, HU4, S5⟩
          case measure => omega
      · have HC1 := hide (pskip_no rb s j _ wr (unhide hls).rd hjl 44 (.inl hc))
        have HF1 := hide ((unhide hu).fin hc)
        clear hc hu
        go_wp2_with fail
        refine (unhide HC1).mono ?_
        rintro e w3 ⟨rfl, r3, k3⟩
        have S3 := hide ((unhide hls).step k3 r3)
        clear HC1 r3 k3 hls
        have HV2 : Hid (pBr n (dr s i) = match dr s j with
          | [] => none
          | d :: u => if d = 93 then some (x, u) else none) := by show _ = _; rw [unhide HV, unhide HF1]
        by_cases h93 : bt s j = 93
        · obtain ⟨hjs, hjc⟩ := bt_is 93 h93 (by decide)
          have HC2 := hide (pexpect_yes rb s j _ w3 (unhide S3).rd (by omega) 93 h93 hjs)
          have HR : Hid (pBr n (dr s i) = some (x, dr s (j + 1))) := by show _ = _; rw [unhide HV2, dr_at hjs]; simp only; rw [if_pos hjc]
          clear h93 hjc HV2
          go_wp2_with fail
          refine (unhide HC2).mono ?_
          rintro e w4 ⟨rfl, r4, k4⟩
          have S4 := hide ((unhide S3).step k4 r4)
          clear HC2 r4 k4
          go_wp2
          try simp only [Exit.inBlock, Exit.then]
          go_ret
          refine ⟨(unhide S4).kb, fun h => (by rw [unhide HR] at h; cases h), fun x t h => ?_⟩
          rw [unhide HR] at h
          injection h with h
          injection h with h1 h2
          subst h1; subst h2
          exact ⟨j + 1, rfl, by omega, by omega, (unhide S4).rd, _, bc, rfl, (unhide S4).row, (unhide S4).fsh⟩
        · have HC2 := hide (pexpect_no rb s j _ w3 (unhide S3).rd (by omega) hjl 93 (.inl h93))
          have HF2 : Hid (pBr n (dr s i) = none) := by
            show _ = _
            rw [unhide HV2]
            by_cases hjs : j < s.size
            · rw [dr_at hjs]; simp only; rw [if_neg (bt_ne hjs 93 h93)]
            · rw [dr_end (by omega)]
          clear h93 HV2
          go_wp2_with fail
          refine (unhide HC2).mono ?_
          rintro e w4 ⟨rfl, k4⟩
          exact ⟨rfl, (unhide S3).kb.trans k4, fun _ => rfl, fun x t h => by rw [unhide HF2] at h; cases h⟩
end Go.Proofs.Ytiolpmhodbefoaa

