import Derived.Test.YtiolpmhodbefoaaBp35
namespace Go.Proofs.Ytiolpmhodbefoaa
open Go.RowKit

/-- A block that holds a segment. -/
def GB (w : World) (g : Nat) (d : Bool) (q : Value) : Prop := w.heap[g]? = some (.cells #[.bool d, q] 39 (0, 0))
section
variable {w w' : World} {g : Nat} {d : Bool} {q : Value}
theorem GB.cs (h : GB w g d q) : w.cell? ⟨g, 0, none⟩ = some (.bool d) ∧ w.cell? ⟨g, 1, none⟩ = some q := ⟨Lib.cell_of_heap h 0, Lib.cell_of_heap h 1⟩
theorem GB.fz (h : GB w g d q) : w.frozen? ⟨g, 0, none⟩ = false ∧ w.frozen? ⟨g, 1, none⟩ = false := ⟨Lib.frozen_of_heap h 0, Lib.frozen_of_heap h 1⟩
theorem GB.lt (h : GB w g d q) : g < w.heap.size := (Array.getElem?_eq_some_iff.1 h).1
theorem GB.below (h : GB w g d q) (hl : Below w.heap.size w w') : GB w' g d q := (hl.block g h.lt).trans h
theorem GB.other (h : GB w g d q) {p : Addr} (hp : g ≠ p.block) (v : Value) : GB (w.setCell p v) g d q := (Below.heap_setCell w p v g hp).trans h
theorem GB.set1 (h : GB w g d q) (q' : Value) : GB (w.setCell ⟨g, 1, none⟩ q') g d q' := Go.heap_setCell_same w g 1 _ 39 _ h
theorem GB.appd {α : Type} {e : Elem α} {B : Nat} {v v' : Value} {xs zs : List α} {bl ib bl' : List Nat} (h : GB w g d q) (hA : Appd e B w w' v v' bl ib bl' zs) (h0 : ORow e w v xs bl) (hn : g ∉ bl) : GB w' g d q := (hA.block h0 h.lt hn).trans h
end
/-- A segment under way. -/
structure GS (w wr : World) (deep : Bool) (L : List PSel) (q : Value) (bl : List Nat) : Prop where
  bel : Below w.heap.size w wr
  r2 : GB wr w.heap.size false (.slice none 0 0)
  r5 : GB wr (w.heap.size + 1 + 1) deep q
  row : ORow selE wr q L bl
  fsh : Fsh (w.heap.size + 1) bl
  n5 : w.heap.size + 1 + 1 ∉ bl
section
variable {w wr w1 w2 : World} {deep : Bool} {L : List PSel} {q v' : Value} {bl bl' ib : List Nat} {x : PSel}
theorem GS.below (h : GS w wr deep L q bl) (hb : Below wr.heap.size wr w1) : GS w w1 deep L q bl :=
  ⟨below_next h.bel hb, h.r2.below hb, h.r5.below hb, h.row.below hb, h.fsh, h.n5⟩
theorem GS.app (h : GS w w1 deep L q bl) (hib : ∀ b ∈ ib, w.heap.size + 1 + 1 < b) (hA : Appd selE (w.heap.size + 1) w1 w2 q v' bl ib bl' (L ++ [x])) :
    GS w (w2.setCell ⟨w.heap.size + 1 + 1, 1, none⟩ v') deep (L ++ [x]) v' bl' := by
  have h2 : w.heap.size ∉ bl := fun hb => by have := h.fsh.2 _ hb; omega
  have h5 := h.r5.lt
  have n5' : w.heap.size + 1 + 1 ∉ bl' := fun hb => by
    rcases hA.sub _ hb with hb | hb | hb
    · exact h.n5 hb
    · have := hib _ hb; omega
    · omega
  exact ⟨(hA.below h.row (h.fsh.mono (by omega)) h.bel (by omega)).setCell (by show _ ≤ w.heap.size + 1 + 1; omega) _, (h.r2.appd hA h.row h2).other (by show _ ≠ w.heap.size + 1 + 1; omega) _, (h.r5.appd hA h.row h.n5).set1 _, hA.row.set n5' _, hA.fsh, n5'⟩
/-- What the model's reader of a segment answers. -/
def GRet (w : World) (l : Bs) (R : Option (XG × Bs)) (e : Ending) (w' : World) : Prop :=
  Below w.heap.size w w' ∧ ∃ (deep : Bool) (qa : Option Addr) (ql qc : Nat) (n d : Int), e = .returned (.tuple #[.agg #[.bool deep, .slice qa ql qc], .int .i64 n, .int .i64 d]) ∧ (R = none → n = 0) ∧
    ∀ x t, R = some (x, t) → deep = x.1.deep ∧ n = ((l.length - t.length : Nat) : Int) ∧ d = (x.2 : Int) ∧ ∃ bl, ORow selE w' (.slice qa ql qc) x.1.sels bl ∧ Fsh w.heap.size bl
theorem GS.bad {qa : Option Addr} {ql qc : Nat} {l : Bs} {R : Option (XG × Bs)} (h : GS w wr deep L (.slice qa ql qc) bl) (hR : R = none) : GRet w l R (.returned (.tuple #[.agg #[.bool deep, .slice qa ql qc], .int .i64 0, .int .i64 0])) (putN wr w.heap.size 0 [.bool deep, .slice qa ql qc]) :=
  ⟨putN_below h.bel (Nat.le_refl _) _ _, deep, qa, ql, qc, 0, 0, rfl, fun _ => rfl, fun x t hx => by rw [hR] at hx; cases hx⟩
theorem GS.good {qa : Option Addr} {ql qc : Nat} {l : Bs} {R : Option (XG × Bs)} (h : GS w wr deep L (.slice qa ql qc) bl) {t : Bs} {d : Nat} (hR : R = some ((⟨deep, L⟩, d), t)) {n : Int} (hn : n = ((l.length - t.length : Nat) : Int)) :
    GRet w l R (.returned (.tuple #[.agg #[.bool deep, .slice qa ql qc], .int .i64 n, .int .i64 (d : Int)])) (putN wr w.heap.size 0 [.bool deep, .slice qa ql qc]) := by
  refine ⟨putN_below h.bel (Nat.le_refl _) _ _, deep, qa, ql, qc, n, d, rfl, fun e => (by rw [hR] at e; cases e), fun x t' hx => ?_⟩
  rw [hR] at hx
  injection hx with hx
  injection hx with hx1 hx2
  subst hx1; subst hx2
  refine ⟨rfl, hn, rfl, bl, h.row.putN (fun hb => ?_) _ _, h.fsh.mono (by omega)⟩
  have := h.fsh.2 _ hb; omega
end
theorem GS.start (w : World) : GS w (((w.alloc (.cells #[.bool false, .slice none 0 0] 39)).alloc (.cells #[] 43)).alloc (.cells #[.bool false, .slice (some ⟨w.heap.size + 1, 0, none⟩) 0 0] 39)) false [] (.slice (some ⟨w.heap.size + 1, 0, none⟩) 0 0) [w.heap.size + 1] := by
  generalize hA : (w.alloc (.cells #[.bool false, .slice none 0 0] 39)) = wA
  have a1 : GB wA w.heap.size false (.slice none 0 0) := by rw [← hA]; exact heap_alloc_new w _
  have a2 : Below w.heap.size w wA := by rw [← hA]; exact al_b w _
  have a3 : wA.heap.size = w.heap.size + 1 := by rw [← hA]; simp
  have hE := orow_empty selE wA
  rw [a3] at hE
  have b0 : Below wA.heap.size wA (wA.alloc (.cells #[] 43)) := al_b wA _
  have b3 : (wA.alloc (.cells #[] 43)).heap.size = w.heap.size + 1 + 1 := by rw [← a3]; simp
  have hE2 : ORow selE (wA.alloc (.cells #[] 43)) (.slice (some ⟨w.heap.size + 1, 0, none⟩) 0 0) [] [w.heap.size + 1] := hE
  generalize (wA.alloc (.cells #[] 43)) = wB at *
  have c0 := al_b wB (.cells #[.bool false, .slice (some ⟨w.heap.size + 1, 0, none⟩) 0 0] 39)
  have c1 := heap_alloc_new wB (.cells #[.bool false, .slice (some ⟨w.heap.size + 1, 0, none⟩) 0 0] 39)
  rw [b3] at c1
  exact ⟨below_next (below_next a2 b0) c0, (a1.below b0).below c0, c1, hE2.below c0, ⟨by simp, by simp⟩, by simp⟩
theorem GS.deepen {w wr : World} {L : List PSel} {q : Value} {bl : List Nat} {deep : Bool} (h : GS w wr deep L q bl) (b : Bool) : GS w (wr.setCell ⟨w.heap.size + 1 + 1, 0, none⟩ (.bool b)) b L q bl :=
  ⟨h.bel.setCell (by show _ ≤ w.heap.size + 1 + 1; omega) _, h.r2.other (by show _ ≠ w.heap.size + 1 + 1; omega) _, Go.heap_setCell_same wr _ 0 _ 39 _ h.r5, h.row.set h.n5 _, h.fsh, h.n5⟩
/-- A segment, by the place that comes behind its dots. -/
def segAt (n : Nat) (s : ByteArray) (i : Nat) (deep : Bool) : Option (XG × Bs) := if i ≠ 1 ∧ bt s i = 91 then brP (sBr n) deep (dr s (i + 1)) else if i = 0 then none else nmP deep (dr s i)
def Dots (s : ByteArray) (i : Nat) (deep : Bool) : Prop := (i = 0 ∧ deep = false ∧ ¬ bt s 0 = 46) ∨ (i = 1 ∧ deep = false ∧ bt s 0 = 46 ∧ ¬ bt s 1 = 46) ∨ (i = 2 ∧ deep = true ∧ bt s 0 = 46 ∧ bt s 1 = 46)
theorem bt_dr {s : ByteArray} {i : Nat} {c : UInt8} {r : Bs} (h : dr s i = c :: r) : i < s.size ∧ bt s i = c.toNat ∧ dr s (i + 1) = r := by
  have hi : i < s.size := by
    apply Classical.byContradiction
    intro hn
    rw [dr_end (by omega)] at h; cases h
  rw [dr_at hi] at h
  injection h with h1 h2
  exact ⟨hi, by rw [bt_at s i hi, h1], h2⟩
theorem bt_nil {s : ByteArray} {i : Nat} (h : dr s i = []) : bt s i = 0 := by
  refine bt_out s i ?_
  apply Classical.byContradiction
  intro hn
  rw [dr_at (by omega)] at h; cases h
theorem toNat_is {c : UInt8} {n : Nat} (hn : n < 256) : c.toNat = n ↔ c = UInt8.ofNat n := by
  constructor
  · intro h; apply UInt8.toNat_inj.1; rw [h]; simp; omega
  · intro h; rw [h]; simp; omega
theorem seg_at {n : Nat} {s : ByteArray} {i : Nat} {deep : Bool} (h : Dots s i deep) : segP (sBr n) s.data.toList = segAt n s i deep := by
  have e46 : ∀ c : UInt8, c.toNat = 46 ↔ c = 46 := fun c => toNat_is (by decide)
  have e91 : ∀ c : UInt8, c.toNat = 91 ↔ c = 91 := fun c => toNat_is (by decide)
  unfold segAt
  rw [← dr_zero]
  rcases h with ⟨rfl, rfl, h0⟩ | ⟨rfl, rfl, h0, h1⟩ | ⟨rfl, rfl, h0, h1⟩
  · cases hd : dr s 0 with
    | nil => rw [if_neg (by rw [bt_nil hd]; simp)]; rfl
    | cons c r =>
      obtain ⟨-, hb, hr⟩ := bt_dr hd
      rw [hb] at h0 ⊢
      show (if c = 91 then brP (sBr n) false r else if c = 46 then dotP (sBr n) r else none) = _
      rw [e46] at h0
      by_cases h91 : c = 91
      · rw [if_pos h91, if_pos ⟨by decide, (e91 c).2 h91⟩, hr]
      · rw [if_neg h91, if_neg h0, if_neg (fun h => h91 ((e91 c).1 h.2)), if_pos rfl]
  · cases hd : dr s 0 with
    | nil => rw [bt_nil hd] at h0; cases h0
    | cons c r =>
      obtain ⟨-, hb, hr⟩ := bt_dr hd
      rw [hb, e46] at h0
      subst h0
      show (if (46 : UInt8) = 91 then brP (sBr n) false r else if (46 : UInt8) = 46 then dotP (sBr n) r else none) = _
      rw [if_neg (by decide), if_pos rfl, if_neg (by simp), if_neg (by decide)]
      rw [Nat.zero_add] at hr
      rw [hr]
      cases r with
      | nil => rfl
      | cons d u =>
        obtain ⟨-, hb1, -⟩ := bt_dr hr
        rw [hb1, e46] at h1
        rw [dotP_con, if_neg h1]
  · cases hd : dr s 0 with
    | nil => rw [bt_nil hd] at h0; cases h0
    | cons c r =>
      obtain ⟨-, hb, hr⟩ := bt_dr hd
      rw [hb, e46] at h0
      subst h0
      show (if (46 : UInt8) = 91 then brP (sBr n) false r else if (46 : UInt8) = 46 then dotP (sBr n) r else none) = _
      rw [if_neg (by decide), if_pos rfl]
      rw [Nat.zero_add] at hr
      cases r with
      | nil => rw [bt_nil hr] at h1; cases h1
      | cons d u =>
        obtain ⟨-, hb1, hu⟩ := bt_dr hr
        rw [hb1, e46] at h1
        subst h1
        rw [dotP_con, if_pos rfl]
        cases hv : u with
        | nil =>
          rw [hv] at hu
          rw [bt_nil hu, if_neg (by simp), if_neg (by decide), hu]; rfl
        | cons e v =>
          rw [hv] at hu
          obtain ⟨-, hb2, hw⟩ := bt_dr hu
          rw [hb2]
          simp only
          by_cases h91 : e = 91
          · rw [if_pos h91, if_pos ⟨by decide, (e91 e).2 h91⟩, hw]
          · rw [if_neg h91, if_neg (fun h => h91 ((e91 e).1 h.2)), if_neg (by decide), hu]
/-- Selectors under way. -/
def LUp (n : Nat) (R : Option XL) (ps : List Bs) (i : Nat) (x : XL) : Prop := R = sSMore n x (ps.drop i) ∧ x.1.length ≤ i ∧ x.2 ≤ 1000000
theorem LUp.no {n : Nat} {R : Option XL} {ps : List Bs} {i : Nat} {x : XL} (h : LUp n R ps i x) (hi : i < ps.length) (hp : sSel n ps[i] = none) : R = none := by
  have e : ps.drop i = ps[i] :: ps.drop (i + 1) := by rw [← List.getElem_cons_drop (h := hi)]
  rw [h.1, e]
  show (match sSel n ps[i] with | none => none | some y => sSMore n (joinS x y) (ps.drop (i + 1))) = none
  rw [hp]
theorem sSel_len {n : Nat} {p : Bs} {y : XS} (h : sSel n p = some y) : y.2 ≤ p.length := by
  unfold sSel at h
  split at h
  · injection h with h; rw [← h]; exact Nat.zero_le _
  · split at h
    · cases hc : sCdOf (sPr n) p.tail with
      | none => rw [hc] at h; cases h
      | some z =>
        rw [hc] at h
        injection h with h
        have := (sCd_len (sPr_len n) _ z hc).2
        rw [List.length_tail] at this
        rw [← h]; show z.2 ≤ _; omega
    · split at h
      · injection h with h; rw [← h]; exact Nat.zero_le _
      · split at h
        · injection h with h; rw [← h]; exact Nat.zero_le _
        · cases hc : sSlc p with
          | none => rw [hc] at h; cases h
          | some z => rw [hc] at h; injection h with h; rw [← h]; exact Nat.zero_le _
theorem LUp.next {n : Nat} {R : Option XL} {ps : List Bs} {i : Nat} {x : XL} {y : XS} (h : LUp n R ps i x) (hi : i < ps.length) (hl : ps[i].length ≤ 1000000) (hp : sSel n ps[i] = some y) : LUp n R ps (i + 1) (joinS x y) := by
  have e : ps.drop i = ps[i] :: ps.drop (i + 1) := by rw [← List.getElem_cons_drop (h := hi)]
  have hy := sSel_len hp
  refine ⟨?_, ?_, ?_⟩
  · rw [h.1, e]
    show (match sSel n ps[i] with | none => none | some y => sSMore n (joinS x y) (ps.drop (i + 1))) = _
    rw [hp]
  · have := h.2.1; simp [joinS]; omega
  · have := h.2.2; show max x.2 y.2 ≤ _; omega
theorem LUp.fin {n : Nat} {R : Option XL} {ps : List Bs} {i : Nat} {x : XL} (h : LUp n R ps i x) (hi : ps.length ≤ i) : R = some x := by
  rw [h.1, List.drop_of_length_le hi]; rfl
end Go.Proofs.Ytiolpmhodbefoaa

