import Derived.Test.YtiolpmhodbefoaaBp38
namespace Go.Proofs.Ytiolpmhodbefoaa
open Go.RowKit

def GUp (n : Nat) (s : ByteArray) (R : Option XP) (i : Nat) (x : XP) : Prop := ∃ m, (dr s i).length < m ∧ R = segsP (sBr n) m x (dr s i)
theorem seg_rest {n : Nat} {s : ByteArray} {i : Nat} {y : XG} {t : Bs} (h : segP (sBr n) (dr s i) = some (y, t)) : t.length < (dr s i).length := by
  rw [← seg_same] at h
  exact seg_len h
theorem segP_suffix {n : Nat} {l : Bs} {y : XG} {t : Bs} (h : segP (sBr n) l = some (y, t)) : ∃ g, l = g ++ t := by
  have hnm : ∀ {deep l t y}, nmP deep l = some (y, t) → ∃ g, l = g ++ t := fun {deep l t y} h => by
    cases l with
    | nil => cases h
    | cons c r =>
      have h1 : (if c = 42 then some ((⟨deep, [allS]⟩, 0), r) else (pName (c :: r)).map fun p => ((⟨deep, [nameS p.1]⟩, 0), p.2)) = some (y, t) := h
      split at h1
      · injection h1 with h1; injection h1 with _ h1; exact ⟨[c], by rw [← h1]; rfl⟩
      · cases hp : pName (c :: r) with
        | none => rw [hp] at h1; cases h1
        | some z =>
          rw [hp] at h1
          injection h1 with h1
          injection h1 with _ h1
          have := (pName_some (s := z.1) (t := z.2) (by rw [hp])).1
          exact ⟨z.1, by rw [this, ← h1]⟩
  have hbr : ∀ {deep r t y}, brP (sBr n) deep r = some (y, t) → ∃ g, r = g ++ t := fun {deep r t y} h => by
    unfold brP at h
    cases hb : sBr n r with
    | none => rw [hb] at h; cases h
    | some z =>
      rw [hb] at h
      injection h with h
      injection h with _ h
      unfold sBr at hb
      split at hb
      · cases hb
      · split at hb
        · rename_i k _ _
          cases hs : sSels n (r.take (k - 2)) with
          | none => rw [hs] at hb; cases hb
          | some q =>
            rw [hs] at hb
            injection hb with hb
            exact ⟨r.take (k - 1), by rw [← h, ← hb]; exact (List.take_append_drop _ _).symm⟩
        · cases hb
  cases l with
  | nil => cases h
  | cons c r =>
    have h1 : (if c = 91 then brP (sBr n) false r else if c = 46 then dotP (sBr n) r else none) = some (y, t) := h
    split at h1
    · obtain ⟨g, hg⟩ := hbr h1; exact ⟨c :: g, by rw [hg]; rfl⟩
    · split at h1
      · cases r with
        | nil => cases h1
        | cons d u =>
          rw [dotP_con] at h1
          split at h1
          · cases u with
            | nil => cases h1
            | cons e v =>
              simp only at h1
              split at h1
              · obtain ⟨g, hg⟩ := hbr h1; exact ⟨c :: d :: e :: g, by rw [hg]; rfl⟩
              · obtain ⟨g, hg⟩ := hnm h1; exact ⟨c :: d :: g, by rw [hg]; rfl⟩
          · obtain ⟨g, hg⟩ := hnm h1; exact ⟨c :: g, by rw [hg]; rfl⟩
      · cases h1
theorem GUp.no {n : Nat} {s : ByteArray} {R : Option XP} {i : Nat} {x : XP} (h : GUp n s R i x) (hi : i < s.size) (hp : segP (sBr n) (dr s i) = none) : R = none := by
  obtain ⟨m, hm, hR⟩ := h
  obtain ⟨k, rfl⟩ : ∃ k, m = k + 1 := ⟨m - 1, by omega⟩
  rw [dr_at hi] at hR hp
  rw [hR]
  show (match segP (sBr n) (s[i] :: dr s (i + 1)) with | none => none | some (y, t) => segsP (sBr n) k (joinG x y) t) = none
  rw [hp]
theorem GUp.next {n : Nat} {s : ByteArray} {R : Option XP} {i : Nat} {x : XP} (h : GUp n s R i x) (hi : i < s.size) {y : XG} {t : Bs} (hp : segP (sBr n) (dr s i) = some (y, t)) : ∃ k, i + k ≤ s.size ∧ 0 < k ∧ (dr s i).length - t.length = k ∧ GUp n s R (i + k) (joinG x y) := by
  obtain ⟨m, hm, hR⟩ := h
  obtain ⟨q, rfl⟩ : ∃ q, m = q + 1 := ⟨m - 1, by omega⟩
  have hl := seg_rest hp
  obtain ⟨g, hg⟩ := segP_suffix hp
  have hgl : g.length + t.length = s.size - i := by have := dr_len s i; rw [hg, List.length_append] at this; exact this
  have ht : dr s (i + g.length) = t := by rw [← dr_dr, hg]; simp
  refine ⟨g.length, by omega, ?_, ?_, q, ?_, ?_⟩
  · rw [hg, List.length_append] at hl; omega
  · rw [hg, List.length_append]; omega
  · rw [dr_len] at hm ⊢
    rw [dr_len, ← ht, dr_len] at hl
    omega
  · rw [ht]
    rw [dr_at hi] at hR hp
    rw [hR]
    show (match segP (sBr n) (s[i] :: dr s (i + 1)) with | none => none | some (y, t) => segsP (sBr n) q (joinG x y) t) = _
    rw [hp]
theorem GUp.fin {n : Nat} {s : ByteArray} {R : Option XP} {i : Nat} {x : XP} (h : GUp n s R i x) (hi : s.size ≤ i) : R = some x := by
  obtain ⟨m, hm, hR⟩ := h
  obtain ⟨q, rfl⟩ : ∃ q, m = q + 1 := ⟨m - 1, by omega⟩
  rw [hR, dr_end hi]; rfl
/-- What the reader of a path answers. -/
def PRet (w : World) (r : List PSeg × Int) (e : Ending) (w' : World) : Prop :=
  Below w.heap.size w w' ∧ ∃ (v : Value) (bl : List Nat), e = .returned (.tuple #[v, .int .i64 r.2]) ∧ ORow segE w' v r.1 bl ∧ Fsh w.heap.size bl
theorem seg_one (d : Bool) (q : Option Addr) (l m : Nat) : ∀ u ∈ [Value.bool d, .slice q l m], u.oneCell' = true := by
  intro u hu; simp at hu; rcases hu with rfl | rfl <;> rfl
/-- A path under way. -/
structure PS (w wr : World) (L : List PSeg) (q : Value) (bl : List Nat) : Prop where
  bel : Below w.heap.size w wr
  r0 : ORow segE wr (.slice (some ⟨w.heap.size, 0, none⟩) 0 0) [] [w.heap.size]
  row : ORow segE wr q L bl
  fsh : Fsh (w.heap.size + 1) bl
  sz : w.heap.size + 1 ≤ wr.heap.size
section
variable {w wr w1 w2 : World} {L : List PSeg} {q v' : Value} {bl bl' ib : List Nat} {x : PSeg}
theorem PS.below (h : PS w wr L q bl) (hb : Below wr.heap.size wr w1) : PS w w1 L q bl := ⟨below_next h.bel hb, h.r0.below hb, h.row.below hb, h.fsh, by have := h.sz; have := hb.size; omega⟩
theorem PS.app (h : PS w w1 L q bl) (hA : Appd segE (w.heap.size + 1) w1 w2 q v' bl ib bl' (L ++ [x])) : PS w w2 (L ++ [x]) v' bl' :=
  ⟨hA.below h.row (h.fsh.mono (by omega)) h.bel (by have := h.sz; omega), h.r0.keep fun b hb => hA.block h.row (h.r0.lt b hb) fun hbl => by
    have := h.fsh.2 b hbl
    simp at hb; omega, hA.row, hA.fsh, by have := h.sz; have := hA.grown.size; omega⟩
theorem PS.none (h : PS w wr L q bl) {r : List PSeg × Int} {c : Int} (hr : r = ([], c)) : PRet w r (.returned (.tuple #[.slice (some ⟨w.heap.size, 0, none⟩) 0 0, .int .i64 c])) wr := by
  subst hr
  exact ⟨h.bel, _, _, rfl, h.r0, by simp, by simp⟩
theorem PS.done (h : PS w wr L q bl) {r : List PSeg × Int} {c : Int} (hr : r = (L, c)) : PRet w r (.returned (.tuple #[q, .int .i64 c])) wr := by
  subst hr
  exact ⟨h.bel, _, _, rfl, h.row, h.fsh.mono (by omega)⟩
end
set_option maxRecDepth 100000 in
set_option maxHeartbeats 8000000 in
theorem specParse_walk (s : ByteArray) (w : World) (hs : s.size ≤ 1048576) : Calls Try.prog 10 #[.string s] w (PRet w (pathR (sBr 1001) s.data.toList)) := by
  have hro := orow_empty segE w
  have hal := al_b w (.cells #[] 39)
  have hz : (w.alloc (.cells #[] 39)).heap.size = w.heap.size + 1 := by simp
  by_cases h1 : 1000 < s.size
  · have HR : Hid (pathR (sBr 1001) s.data.toList = ([], 1)) := by show _ = _; unfold pathR; rw [if_pos (by rw [data_len]; exact h1)]
    have h1I : (1000 : Int) < (s.size : Int) := by omega
    have HX : Hid (PRet w (pathR (sBr 1001) s.data.toList) (.returned (.tuple #[.slice (some ⟨w.heap.size, 0, none⟩) 0 0, .int .i64 1])) (w.alloc (.cells #[] 39))) := by
      show PRet _ _ _ _
      rw [unhide HR]
      exact ⟨hal, _, _, rfl, hro, by simp, by simp⟩
    clear hro hal hz h1
    go_enter Try.func10, Try.ntmps10
    go_wp2
    go_ret2
    exact unhide HX
  · have h1I : ¬ (1000 : Int) < (s.size : Int) := by omega
    have HA := hide (atD_walk s 36 0 (w.alloc (.cells #[] 39)) (by decide))
    by_cases h36 : bt s 0 = 36
    · have hib : 0 < s.size := bt_in (by rw [h36]; decide)
      have hc : s[0] = 36 := by have h := h36; rw [bt_at s 0 hib] at h; exact (toNat_is (by decide)).1 h
      have hd := dr_at hib
      rw [dr_zero, hc] at hd
      have HR : Hid (pathR (sBr 1001) s.data.toList = match segsP (sBr 1001) ((dr s 1).length + 1) ([], 0) (dr s 1) with
          | none => ([], 2)
          | some x => if 50 < x.2 then ([], 3) else (x.1, 0)) := by
        show _ = _
        have e : pathR (sBr 1001) (36 :: dr s 1) = (if 1000 < (36 :: dr s 1 : Bs).length then (([], 1) : List PSeg × Int) else (if (36 : UInt8) = 36 then (match segsP (sBr 1001) ((dr s 1).length + 1) ([], 0) (dr s 1) with
          | none => ([], 2)
          | some x => if 50 < x.2 then ([], 3) else (x.1, 0)) else ([], 2))) := rfl
        rw [hd, e, if_neg (by have := data_len s; rw [hd] at this; rw [this]; exact h1), if_pos rfl]
      have HU : Hid (GUp 1001 s (segsP (sBr 1001) ((dr s 1).length + 1) ([], 0) (dr s 1)) 1 ([], 0)) := ⟨_, Nat.lt_succ_self _, rfl⟩
      generalize segsP (sBr 1001) ((dr s 1).length + 1) ([], 0) (dr s 1) = RS at *
      rw [decide_eq_true h36] at HA
      have hal2 := al_b (w.alloc (.cells #[] 39)) (.cells #[] 39)
      have hro2 := orow_empty segE (w.alloc (.cells #[] 39))
      rw [hz] at hro2
      have S0 : Hid (PS w ((w.alloc (.cells #[] 39)).alloc (.cells #[] 39)) [] (.slice (some ⟨w.heap.size + 1, 0, none⟩) 0 0) [w.heap.size + 1]) := ⟨below_next hal hal2, hro.below hal2, hro2, ⟨by simp, by simp⟩, by simp⟩
      generalize pathR (sBr 1001) s.data.toList = RR at *
      clear hro hal hz hc hd h36 hal2 hro2
      go_enter Try.func10, Try.ntmps10
      go_wp2_with fail
      refine (unhide HA).mono ?_
      rintro e w1 ⟨rfl, rfl⟩
      clear HA
      go_wp2
      generalize ((w.alloc (.cells #[] 39)).alloc (.cells #[] 39)) = w0 at *
      go_loopw [5, 6, 7] (fun ov dv iv wr => ∃ (i : Nat) (x : XP) (qa : Option Addr) (ql qc : Nat) (bl : List Nat), i ≤ s.size ∧ 1 ≤ i ∧ x.1.length ≤ i ∧ iv = .int .i64 (i : Int) ∧ dv = .int .i64 (x.2 : Int) ∧ ov = .slice qa ql qc ∧ Hid (GUp 1001 s RS i x) ∧ Hid (PS w wr x.1 (.slice qa ql qc) bl)) (fun _ _ iv _ => s.size - (intOf iv).toNat)
      case atStart => exact ⟨1, ([], 0), _, _, _, _, by omega, Nat.le_refl _, by simp, rfl, rfl, rfl, HU, S0⟩
      case round =>
        obtain ⟨i, x, qa, ql, qc, bl, hi, hi1, hxl, rfl, rfl, rfl, hu, hps⟩ := hrel
        clear HU S0
        by_cases hlt : i < s.size
        · have hltI : (i : Int) < (s.size : Int) := by omega
          have hleI : (i : Int) ≤ (s.size : Int) := by omega
          have hsz := (unhide hps).sz
          have HW := hide (seg_walk 1001 (s.extract i s.size) wr (by simp; omega) (by simp; omega))
          rw [dr_ext] at HW
          go_wp2_with fail
          refine (unhide HW).mono ?_
          rintro e w2 ⟨b2, deep, ya, yl, yc, n, d, rfl, hno, hyes⟩
          have hz2 := b2.size
          have hal := al_b w2 (.cells #[.bool deep, .slice ya yl yc] 39)
          have k3 : GB (w2.alloc (.cells #[.bool deep, .slice ya yl yc] 39)) w2.heap.size deep (.slice ya yl yc) := heap_alloc_new w2 _
          have P3 := hide ((unhide hps).below (below_next b2 hal))
          clear HW
          cases hp : segP (sBr 1001) (dr s i) with
          | none =>
            have hn := hno hp
            subst hn
            have HR2 : Hid (RR = ([], 2)) := by show _ = _; rw [unhide HR, (unhide hu).no hlt hp]
            clear hno hyes hp hu k3 hal b2
            go_wp2
            try simp only [Exit.inBlock, Exit.then]
            go_ret2
            exact (unhide P3).none (unhide HR2)
          | some z =>
            obtain ⟨y, t⟩ := z
            obtain ⟨h1, h2, h3, ib, row, fsh⟩ := hyes y t hp
            obtain ⟨k, hk1, hk2, hk3, hup⟩ := (unhide hu).next hlt hp
            rw [hk3] at h2
            subst h2; subst h3
            have nI : ((k : Int) == 0) = false := by rw [beq_eq_false_iff_ne]; omega
            have hal4 := al_b (w2.alloc (.cells #[.bool deep, .slice ya yl yc] 39)) (.cells #[.bool deep, .slice ya yl yc] 39)
            have z3 : (w2.alloc (.cells #[.bool deep, .slice ya yl yc] 39)).heap.size = w2.heap.size + 1 := by simp
            have P4 := hide ((unhide P3).below hal4)
            have EL := hide (show segE.E ((w2.alloc (.cells #[.bool deep, .slice ya yl yc] 39)).alloc (.cells #[.bool deep, .slice ya yl yc] 39)) [.bool deep, .slice ya yl yc] y.1 ib from ⟨_, by rw [h1], row.below (below_next hal hal4)⟩)
            have FI := hide (fsh.mono (show w.heap.size + 1 ≤ wr.heap.size by omega))
            have AP : Hid (∀ b ∈ ib, b ∉ bl) := fun b hb hbl => by have h1 := fsh.2 b hb; have h2 := (unhide hps).row.lt b hbl; omega
            have HUP := hide hup
            obtain ⟨e0, e1⟩ := k3.cs
            clear hno hyes hp hu hal hal4 b2 row fsh hup h1 hk3 P3 k3
            go_upto_region 13 with fail
            generalize (w2.alloc (.cells #[.bool deep, .slice ya yl yc] 39)) = w3 at *
            have h3b : w.heap.size + 1 ≤ w3.heap.size := by omega
            clear z3
            go_wp2_with (at_builtin; refine wpl_app1 ekSeg rfl (.tmp 36) (.tmp 38) rfl rfl (unhide P4).row (unhide P4).fsh (vs := [.bool deep, .slice ya yl yc]) (y := y.1) (unhide EL) (unhide FI) (unhide AP) rfl (by exact lit_cells w3 [_, _] _) (seg_one _ _ _ _) (by simp; omega) (by omega) ?_)
            intro v5 w5 bl5 hA
            have P5 := hide ((unhide P4).app hA)
            obtain ⟨va, vc, rfl, -, -⟩ := hA.row.form
            have hln : (x.1 ++ [y.1]).length = x.1.length + 1 := by simp
            have HJ : Hid (x.1 ++ [y.1] = (joinG x y).1) := rfl
            have HJ2 : Hid ((joinG x y).2 = max x.2 y.2) := rfl
            have HJL : Hid ((joinG x y).1.length ≤ i + k) := by show _ ≤ _; rw [← unhide HJ, hln]; omega
            clear hA hln
            by_cases hd : x.2 < y.2
            · have hdI : (x.2 : Int) < (y.2 : Int) := by omega
              have HM : Hid ((y.2 : Int) = ((joinG x y).2 : Int)) := by show _ = _; rw [unhide HJ2]; omega
              go_wp2
              go_roundw
              case rel => exact ⟨i + k, joinG x y, va, _, vc, bl5, hk1, by omega, unhide HJL, by go_num, by rw [unhide HM], rfl, HUP, P5⟩
              case measure => simp [intOf]; omega
            · have hdI : ¬ (x.2 : Int) < (y.2 : Int) := by omega
              have HM : Hid ((x.2 : Int) = ((joinG x y).2 : Int)) := by show _ = _; rw [unhide HJ2]; omega
              go_wp2
              go_roundw
              case rel => exact ⟨i + k, joinG x y, va, _, vc, bl5, hk1, by omega, unhide HJL, by go_num, by rw [unhide HM], rfl, HUP, P5⟩
              case measure => simp [intOf]; omega
        · have hltI : ¬ (i : Int) < (s.size : Int) := by omega
          have HF := hide ((unhide hu).fin (by omega))
          by_cases h50 : 50 < x.2
          · have h50I : (50 : Int) < (x.2 : Int) := by omega
            have HR2 : Hid (RR = ([], 3)) := by show _ = _; rw [unhide HR, unhide HF]; simp only; rw [if_pos h50]
            clear hu
            go_wp2
            try simp only [Exit.inBlock, Exit.then]
            go_ret2
            exact (unhide hps).none (unhide HR2)
          · have h50I : ¬ (50 : Int) < (x.2 : Int) := by omega
            have HR2 : Hid (RR = (x.1, 0)) := by show _ = _; rw [unhide HR, unhide HF]; simp only; rw [if_neg h50]
            clear hu
            go_wp2
            try simp only [Exit.inBlock, Exit.then]
            go_ret2
            exact (unhide hps).done (unhide HR2)
    · have HR : Hid (pathR (sBr 1001) s.data.toList = ([], 2)) := by
        show _ = _
        unfold pathR
        rw [if_neg (by rw [data_len]; exact h1)]
        cases hd : s.data.toList with
        | nil => rfl
        | cons c r =>
          rw [← dr_zero] at hd
          obtain ⟨-, hb, -⟩ := bt_dr hd
          rw [hb] at h36
          simp only
          rw [if_neg (fun e => h36 (by rw [e]; rfl))]
      have HX : Hid (PRet w (pathR (sBr 1001) s.data.toList) (.returned (.tuple #[.slice (some ⟨w.heap.size, 0, none⟩) 0 0, .int .i64 2])) (w.alloc (.cells #[] 39))) := by
        show PRet _ _ _ _
        rw [unhide HR]
        exact ⟨hal, _, _, rfl, hro, by simp, by simp⟩
      rw [decide_eq_false h36] at HA
      clear hro hal hz h1 h36
      go_enter Try.func10, Try.ntmps10
      go_wp2_with fail
      refine (unhide HA).mono ?_
      rintro e w1 ⟨rfl, rfl⟩
      go_wp2
      go_ret2
      exact unhide HX
end Go.Proofs.Ytiolpmhodbefoaa

