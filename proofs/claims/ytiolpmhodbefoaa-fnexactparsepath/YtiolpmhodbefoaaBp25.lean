import Derived.Test.YtiolpmhodbefoaaBp13
import Derived.Test.YtiolpmhodbefoaaBp2
import Derived.Test.YtiolpmhodbefoaaBp24
namespace Go.Proofs.Ytiolpmhodbefoaa
open Go.RowKit

/-- What an append to a row of such elements needs to know of them. -/
structure EK {α : Type} (e : Elem α) (t : TypeId) : Prop where
  ty : ∃ ts, (∀ {w vs x bl}, e.E w vs x bl → Tys ts w bl) ∧ e.T ∉ ts
  und : Try.prog.underlying t = some (.slice e.T)
  info : ∃ z bytes, (Try.prog.info? e.T).map (fun i => (i.zero, i.size, i.bytes)) = some (some z, e.wd, bytes) ∧ z.cells.size = e.wd ∧ bytes ≤ 100
  pos : 0 < e.wd
theorem step_ty {w : World} {vs : List Value} {m : PStep} {bl : List Nat} (h : stepE.E w vs m bl) : Tys [] w bl := by
  obtain ⟨_, rfl⟩ := h; intro b hb; simp at hb
theorem fop_ty {w : World} {vs : List Value} {m : PFOp} {bl : List Nat} (h : fopE.E w vs m bl) : Tys [94] w bl := by obtain ⟨q, _, h⟩ := h; exact orow_ty (e := stepE) step_ty h
theorem sel_ty {w : World} {vs : List Value} {m : PSel} {bl : List Nat} (h : selE.E w vs m bl) : Tys [65, 94] w bl := by obtain ⟨q, _, h⟩ := h; exact orow_ty (e := fopE) fop_ty h
theorem seg_ty {w : World} {vs : List Value} {m : PSeg} {bl : List Nat} (h : segE.E w vs m bl) : Tys [43, 65, 94] w bl := by obtain ⟨q, _, h⟩ := h; exact orow_ty (e := selE) sel_ty h
theorem ekStep : EK stepE 63 := ⟨⟨[], step_ty, by simp⟩, Try.underlying63, ⟨.agg #[.bool false, .string ByteArray.empty, .int .i64 0], 32, by kernel_rfl, rfl, by decide⟩, by decide⟩
theorem ekFOp : EK fopE 41 := ⟨⟨_, fop_ty, by decide⟩, Try.underlying41, ⟨.agg #[.int .i64 0, .int .i64 0, .string ByteArray.empty, .bool false, .slice none 0 0], 64, by kernel_rfl, rfl, by decide⟩, by decide⟩
theorem ekSel : EK selE 37 := ⟨⟨_, sel_ty, by decide⟩, Try.underlying37, ⟨.agg #[.int .i64 0, .string ByteArray.empty, .bool false, .bool false, .bool false, .int .i64 0, .int .i64 0, .int .i64 0, .slice none 0 0], 80, by kernel_rfl, rfl, by decide⟩, by decide⟩
theorem ekSeg : EK segE 25 := ⟨⟨_, seg_ty, by decide⟩, Try.underlying25, ⟨.agg #[.bool false, .slice none 0 0], 32, by kernel_rfl, rfl, by decide⟩, by decide⟩
section
variable {α : Type} {e : Elem α} {t : TypeId}
theorem run_app (K : EK e t) (w : World) (ty : TypeId) {B : Nat} {v : Value} {xs : List α} {bl : List Nat} (h : ORow e w v xs bl) (hF : Fsh B bl)
    {qs : List (List Value × List Nat)} {ys : List α} (hql : qs.length = ys.length) (h0 : 0 < ys.length) (hE : ∀ (j : Nat) (p : List Value × List Nat) (y : α), qs[j]? = some p → ys[j]? = some y → e.E w p.1 y p.2) (hFi : Fsh B (qs.flatMap (·.2))) (hap : ∀ b ∈ qs.flatMap (·.2), b ∉ bl)
    {g c : Nat} (hcell : ∀ (j : Nat) (u : Value), (qs.flatMap (·.1))[j]? = some u → w.cell? ((⟨g, 0, none⟩ : Addr).add j) = some u) (h1 : ∀ u ∈ qs.flatMap (·.1), u.oneCell' = true) (hB : B ≤ w.heap.size) (hl : xs.length + ys.length ≤ 40000000) :
    ∃ v' w' bl', (Builtin.append_ #[t, t] ty #[v, .slice (some ⟨g, 0, none⟩) ys.length c]).run Try.prog w = .ok v' w' ∧ Appd e B w w' v v' bl (qs.flatMap (·.2)) bl' (xs ++ ys) := by
  obtain ⟨ts, he, hts⟩ := K.ty
  obtain ⟨z, by0, hi, hz, hb⟩ := K.info
  exact run_append_elems he hts K.und hi hz K.pos hb w ty h hF hql h0 hE hFi hap hcell h1 hB hl
theorem run_app1 (K : EK e t) (w : World) (ty : TypeId) {B : Nat} {v : Value} {xs : List α} {bl : List Nat} (h : ORow e w v xs bl) (hF : Fsh B bl)
    {vs : List Value} {ib : List Nat} {y : α} (hE : e.E w vs y ib) (hFi : Fsh B ib) (hap : ∀ b ∈ ib, b ∉ bl)
    {g c : Nat} (hcell : ∀ (j : Nat) (u : Value), vs[j]? = some u → w.cell? ((⟨g, 0, none⟩ : Addr).add j) = some u) (h1 : ∀ u ∈ vs, u.oneCell' = true) (hB : B ≤ w.heap.size) (hl : xs.length + 1 ≤ 40000000) :
    ∃ v' w' bl', (Builtin.append_ #[t, t] ty #[v, .slice (some ⟨g, 0, none⟩) 1 c]).run Try.prog w = .ok v' w' ∧ Appd e B w w' v v' bl ib bl' (xs ++ [y]) := by
  have e1 : ([(vs, ib)] : List (List Value × List Nat)).flatMap (·.1) = vs := by simp
  have e2 : ([(vs, ib)] : List (List Value × List Nat)).flatMap (·.2) = ib := by simp
  have := run_app K w ty h hF (qs := [(vs, ib)]) (ys := [y]) rfl (by simp) (fun j p z h1 h2 => by
    match j, h1, h2 with
    | 0, h1, h2 => simp at h1 h2; subst h1; subst h2; exact hE) (by rw [e2]; exact hFi) (by rw [e2]; exact hap) (g := g) (c := c) (by rw [e1]; exact hcell) (by rw [e1]; exact h1) hB hl
  rw [e2] at this
  exact this
/-- An append of one element. -/
theorem wpl_app1 (K : EK e t) {w : World} {ops : Array Oper} {rest : List Oper} {o : Oper} {a : Act} {Q : Exit → Act → World → Prop} (hg : o.guard = none) (s x : Operand)
    (ho : o.op = .call { callee := .builtin .append, args := #[s, x], argTypes := #[t, t] }) {B : Nat} {v : Value} {xs : List α} {bl : List Nat} (hs : a.eval s = v) (h : ORow e w v xs bl) (hF : Fsh B bl)
    {vs : List Value} {ib : List Nat} {y : α} (hE : e.E w vs y ib) (hFi : Fsh B ib) (hap : ∀ b ∈ ib, b ∉ bl) {g c : Nat} (hx : a.eval x = .slice (some ⟨g, 0, none⟩) 1 c)
    (hcell : ∀ (j : Nat) (u : Value), vs[j]? = some u → w.cell? ((⟨g, 0, none⟩ : Addr).add j) = some u) (h1 : ∀ u ∈ vs, u.oneCell' = true) (hB : B ≤ w.heap.size) (hl : xs.length + 1 ≤ 40000000)
    (hK : ∀ v' w' bl', Appd e B w w' v v' bl ib bl' (xs ++ [y]) → wpList Try.prog ops Q rest (a.put o.dst v') w') : wpList Try.prog ops Q (o :: rest) a w := by
  obtain ⟨v', w', bl', hr, hA⟩ := run_app1 K w o.type h hF hE hFi hap (g := g) (c := c) hcell h1 hB hl
  exact wpList_plain hg fun _ hk => wp_append_run s x t ho hs hx hr (hk _ _ (hK v' w' bl' hA))
/-- The same, in a drawn region. -/
theorem stp_app1 (K : EK e t) {w : World} {ops : Array Oper} {o : Oper} {a : Act} {Kt : Act → World → Prop} {Q : Exit → Act → World → Prop} {F : Prop} (hg : o.guard = none) (s x : Operand)
    (ho : o.op = .call { callee := .builtin .append, args := #[s, x], argTypes := #[t, t] }) {B : Nat} {v : Value} {xs : List α} {bl : List Nat} (hs : a.eval s = v) (h : ORow e w v xs bl) (hF : Fsh B bl)
    {vs : List Value} {ib : List Nat} {y : α} (hE : e.E w vs y ib) (hFi : Fsh B ib) (hap : ∀ b ∈ ib, b ∉ bl) {g c : Nat} (hx : a.eval x = .slice (some ⟨g, 0, none⟩) 1 c)
    (hcell : ∀ (j : Nat) (u : Value), vs[j]? = some u → w.cell? ((⟨g, 0, none⟩ : Addr).add j) = some u) (h1 : ∀ u ∈ vs, u.oneCell' = true) (hB : B ≤ w.heap.size) (hl : xs.length + 1 ≤ 40000000)
    (hK : ∀ v' w' bl', Appd e B w w' v v' bl ib bl' (xs ++ [y]) → Kt (a.put o.dst v') w') :
    if Region.wanted o (yielded ops a.tmps) = true then Oper.wp Try.prog o a w Kt Q else F := by
  have hw : Region.wanted o (yielded ops a.tmps) = true := by simp [Region.wanted, hg]
  rw [if_pos hw]
  obtain ⟨v', w', bl', hr, hA⟩ := run_app1 K w o.type h hF hE hFi hap (g := g) (c := c) hcell h1 hB hl
  exact wp_append_run s x t ho hs hx hr (hK v' w' bl' hA)
/-- An append of several elements. -/
theorem wpl_apps (K : EK e t) {w : World} {ops : Array Oper} {rest : List Oper} {o : Oper} {a : Act} {Q : Exit → Act → World → Prop} (hg : o.guard = none) (s x : Operand)
    (ho : o.op = .call { callee := .builtin .append, args := #[s, x], argTypes := #[t, t] }) {B : Nat} {v : Value} {xs : List α} {bl : List Nat} (hs : a.eval s = v) (h : ORow e w v xs bl) (hF : Fsh B bl)
    {qs : List (List Value × List Nat)} {ys : List α} (hql : qs.length = ys.length) (h0 : 0 < ys.length) (hE : ∀ (j : Nat) (p : List Value × List Nat) (y : α), qs[j]? = some p → ys[j]? = some y → e.E w p.1 y p.2) (hFi : Fsh B (qs.flatMap (·.2))) (hap : ∀ b ∈ qs.flatMap (·.2), b ∉ bl)
    {g c : Nat} (hx : a.eval x = .slice (some ⟨g, 0, none⟩) ys.length c) (hcell : ∀ (j : Nat) (u : Value), (qs.flatMap (·.1))[j]? = some u → w.cell? ((⟨g, 0, none⟩ : Addr).add j) = some u) (h1 : ∀ u ∈ qs.flatMap (·.1), u.oneCell' = true) (hB : B ≤ w.heap.size) (hl : xs.length + ys.length ≤ 40000000)
    (hK : ∀ v' w' bl', Appd e B w w' v v' bl (qs.flatMap (·.2)) bl' (xs ++ ys) → wpList Try.prog ops Q rest (a.put o.dst v') w') : wpList Try.prog ops Q (o :: rest) a w := by
  obtain ⟨v', w', bl', hr, hA⟩ := run_app K w o.type h hF hql h0 hE hFi hap (g := g) (c := c) hcell h1 hB hl
  exact wpList_plain hg fun _ hk => wp_append_run s x t ho hs hx hr (hk _ _ (hK v' w' bl' hA))
/-- An append of one element to whatever row. -/
theorem wpl_any (K : EK e t) {w : World} {ops : Array Oper} {rest : List Oper} {o : Oper} {a : Act} {Q : Exit → Act → World → Prop} (hg : o.guard = none) (s x : Operand)
    (ho : o.op = .call { callee := .builtin .append, args := #[s, x], argTypes := #[t, t] }) {B N : Nat} {v : Value} (hs : a.eval s = v) (h : AnyR w B e.T e.wd v N)
    {vs : List Value} (hlen : vs.length = e.wd) {g c : Nat} (hx : a.eval x = .slice (some ⟨g, 0, none⟩) 1 c)
    (hcell : ∀ (j : Nat) (u : Value), vs[j]? = some u → w.cell? ((⟨g, 0, none⟩ : Addr).add j) = some u) (h1 : ∀ u ∈ vs, u.oneCell' = true) (hB : B ≤ w.heap.size) (hl : N + 1 ≤ 40000000)
    (hK : ∀ v' w', AnyR w' B e.T e.wd v' (N + 1) → w.grownBy w' v.ownBlock → Shp w w' → wpList Try.prog ops Q rest (a.put o.dst v') w') : wpList Try.prog ops Q (o :: rest) a w := by
  obtain ⟨z, by0, hi, hz, hb⟩ := K.info
  obtain ⟨v', w', hr, h2, h3, h4⟩ := run_append_any K.und hi hz K.pos hb w o.type h hlen (g := g) (c := c) hcell h1 hB hl
  exact wpList_plain hg fun _ hk => wp_append_run s x t ho hs hx hr (hk _ _ (hK v' w' h2 h3 h4))
end
/-- A row that grows leaves alone what is not its own. -/
theorem Appd.below {α : Type} {e : Elem α} {B B' : Nat} {w0 w w' : World} {v v' : Value} {xs zs : List α} {bl ib bl' : List Nat} (h : Appd e B w w' v v' bl ib bl' zs) (h0 : ORow e w v xs bl) (hF : Fsh B' bl) (hb : Below B' w0 w) (hs : B' ≤ w.heap.size) : Below B' w0 w' :=
  hb.grown h.grown hs fun k hk => hF.2 k (h0.head hk)
theorem Appd.block {α : Type} {e : Elem α} {B : Nat} {w w' : World} {v v' : Value} {xs zs : List α} {bl ib bl' : List Nat} (h : Appd e B w w' v v' bl ib bl' zs) (h0 : ORow e w v xs bl) {k : Nat} (hk : k < w.heap.size) (hn : k ∉ bl) : w'.heap[k]? = w.heap[k]? :=
  h.grown.block k hk fun e1 => hn (h0.head e1.symm)
/-- A block that holds an operation. -/
def FB (w : World) (g : Nat) (k n : Int) (t : ByteArray) (r : Bool) (q : Value) : Prop := w.heap[g]? = some (.cells #[.int .i64 k, .int .i64 n, .string t, .bool r, q] 65 (0, 0))
theorem FB.c {w : World} {g : Nat} {k n : Int} {t : ByteArray} {r : Bool} {q : Value} (h : FB w g k n t r q) : w.cell? ⟨g, 0, none⟩ = some (.int .i64 k) ∧ w.cell? ⟨g, 1, none⟩ = some (.int .i64 n) ∧ w.cell? ⟨g, 2, none⟩ = some (.string t) ∧ w.cell? ⟨g, 3, none⟩ = some (.bool r) ∧ w.cell? ⟨g, 4, none⟩ = some q :=
  ⟨Lib.cell_of_heap h 0, Lib.cell_of_heap h 1, Lib.cell_of_heap h 2, Lib.cell_of_heap h 3, Lib.cell_of_heap h 4⟩
theorem FB.fz {w : World} {g : Nat} {k n : Int} {t : ByteArray} {r : Bool} {q : Value} (h : FB w g k n t r q) : w.frozen? ⟨g, 0, none⟩ = false ∧ w.frozen? ⟨g, 1, none⟩ = false ∧ w.frozen? ⟨g, 2, none⟩ = false ∧ w.frozen? ⟨g, 3, none⟩ = false ∧ w.frozen? ⟨g, 4, none⟩ = false :=
  ⟨Lib.frozen_of_heap h 0, Lib.frozen_of_heap h 1, Lib.frozen_of_heap h 2, Lib.frozen_of_heap h 3, Lib.frozen_of_heap h 4⟩
theorem FB.lt {w : World} {g : Nat} {k n : Int} {t : ByteArray} {r : Bool} {q : Value} (h : FB w g k n t r q) : g < w.heap.size := (Array.getElem?_eq_some_iff.1 h).1
theorem FB.below {w w' : World} {g : Nat} {k n : Int} {t : ByteArray} {r : Bool} {q : Value} (h : FB w g k n t r q) (hb : Below w.heap.size w w') : FB w' g k n t r q := (hb.block g h.lt).trans h
theorem FB.appd {α : Type} {e : Elem α} {B : Nat} {w w' : World} {v v' : Value} {xs zs : List α} {bl ib bl' : List Nat} {g : Nat} {k n : Int} {t : ByteArray} {r : Bool} {q : Value} (h : FB w g k n t r q) (hA : Appd e B w w' v v' bl ib bl' zs) (h0 : ORow e w v xs bl) (hn : g ∉ bl) : FB w' g k n t r q := (hA.block h0 h.lt hn).trans h
theorem FB.set0 {w : World} {g : Nat} {k n : Int} {t : ByteArray} {r : Bool} {q : Value} (h : FB w g k n t r q) (k' : Int) : FB (w.setCell ⟨g, 0, none⟩ (.int .i64 k')) g k' n t r q := Go.heap_setCell_same w g 0 _ 65 _ h
theorem FB.set4 {w : World} {g : Nat} {k n : Int} {t : ByteArray} {r : Bool} {q : Value} (h : FB w g k n t r q) (q' : Value) : FB (w.setCell ⟨g, 4, none⟩ q') g k n t r q' := Go.heap_setCell_same w g 4 _ 65 _ h
theorem FB.other {w : World} {g : Nat} {k n : Int} {t : ByteArray} {r : Bool} {q : Value} (h : FB w g k n t r q) {p : Addr} (hp : g ≠ p.block) (v : Value) : FB (w.setCell p v) g k n t r q := (Below.heap_setCell w p v g hp).trans h
theorem ORow.set {α : Type} {e : Elem α} {w : World} {v : Value} {xs : List α} {bl : List Nat} (h : ORow e w v xs bl) {p : Addr} (hp : p.block ∉ bl) (u : Value) : ORow e (w.setCell p u) v xs bl := h.keep fun b hb => Below.heap_setCell w p u b fun e => hp (e ▸ hb)
theorem ORow.drew {α : Type} {e : Elem α} {w : World} {v : Value} {xs : List α} {bl : List Nat} (h : ORow e w v xs bl) (n : Nat) : ORow e (w.drewN n) v xs bl := h.keep fun _ _ => rfl
end Go.Proofs.Ytiolpmhodbefoaa

