import Derived.Deep.RegionHeld
import Derived.Test.YtlfonikfjibloaaGreatDoorBt30
namespace Go.Proofs.YtlfonikfjibloaaGreatDoor
open Go.RowKit

/-- Five new blocks. -/
structure New5 (w : World) (a b c d e : Obj) (w' : World) : Prop where
  bel : Below w.heap.size w w'
  size : w'.heap.size = w.heap.size + 1 + 1 + 1 + 1 + 1
  k0 : w'.heap[w.heap.size]? = some a
  k1 : w'.heap[w.heap.size + 1]? = some b
  k2 : w'.heap[w.heap.size + 1 + 1]? = some c
  k3 : w'.heap[w.heap.size + 1 + 1 + 1]? = some d
  k4 : w'.heap[w.heap.size + 1 + 1 + 1 + 1]? = some e
theorem new5 (w : World) (a b c d e : Obj) : New5 w a b c d e (((((w.alloc a).alloc b).alloc c).alloc d).alloc e) := by
  have h := new3 w a b c
  generalize ((w.alloc a).alloc b).alloc c = w3 at *
  have k := new2 w3 d e
  have hs := h.size
  generalize (w3.alloc d).alloc e = w5 at *
  have b5 := k.bel
  have s5 := k.size
  have k3 := k.k0
  have k4 := k.k1
  rw [hs] at b5 s5 k3 k4
  exact ⟨h.bel.trans (b5.mono (by omega)), s5, (b5.block _ (by omega)).trans h.k0, (b5.block _ (by omega)).trans h.k1, (b5.block _ (by omega)).trans h.k2, k3, k4⟩

/-- What the second region reads. -/
def HS3 (N g m n yc : Nat) (z : Int) (qv : Value) (w : World) : Prop := w.cell? ⟨N, 1, none⟩ = some (.slice (some ⟨g, 0, none⟩) n yc) ∧ w.cell? ⟨g, m * 2, none⟩ = some (.int .i64 z) ∧ w.cell? ⟨g, m * 2 + 1, none⟩ = some qv
section
variable {N g m n yc : Nat} {z : Int} {qv : Value} {w w' : World}
theorem HS3.keep (h : HS3 N g m n yc z qv w) (hb : Below w.heap.size w w') : HS3 N g m n yc z qv w' :=
  ⟨(hb.cell (World.block_lt_of_cell? _ _ h.1)).trans h.1, (hb.cell (World.block_lt_of_cell? _ _ h.2.1)).trans h.2.1, (hb.cell (World.block_lt_of_cell? _ _ h.2.2)).trans h.2.2⟩
theorem HS3.grown {row : Option Nat} (h : HS3 N g m n yc z qv w) (hg : w.grownBy w' row) (hr : ∀ b, row = some b → N + 1 + 1 ≤ b) (hN : g < N) : HS3 N g m n yc z qv w' :=
  ⟨hg.cell h.1 fun e => by have := hr N e.symm; omega, hg.cell h.2.1 fun e => by have := hr g e.symm; omega, hg.cell h.2.2 fun e => by have := hr g e.symm; omega⟩
theorem HS3.set (h : HS3 N g m n yc z qv w) (hN : g < N) (o : Nat) (u : Value) : HS3 N g m n yc z qv (w.setCell ⟨N + 1 + 1 + 1 + 1, o, none⟩ u) :=
  ⟨(World.cell?_of_block (w := w) (Below.heap_setCell _ _ _ _ (by simp; omega))).trans h.1, (World.cell?_of_block (w := w) (Below.heap_setCell _ _ _ _ (by simp; omega))).trans h.2.1, (World.cell?_of_block (w := w) (Below.heap_setCell _ _ _ _ (by simp; omega))).trans h.2.2⟩
end
end Go.Proofs.YtlfonikfjibloaaGreatDoor

namespace Go.Proofs.YtlfonikfjibloaaGreatDoor
open Go.RowKit

theorem skipT_none (ws : List Wat) : ∀ k, k ≤ ws.length → skipT ws (-1) k = ws.take k
  | 0, _ => by simp [skipT]
  | k + 1, h => by
    rw [skipT, skipT_none ws k (by omega), if_neg (by omega), List.take_add_one]
theorem copyH_none (h : Hb) : copyH h (-1) 0 = h := by
  unfold copyH
  rw [skipT_none _ _ (Nat.le_refl _), List.take_length]; rfl

/-- A hub in a block of its own, its rows the call's own. -/
structure HB (w0 : World) (G F : Nat) (wr : World) (p q : Value) (ws : List Wat) (ns : List Nws) (b1 b2 : List Nat) : Prop where
  bel : Below w0.heap.size w0 wr
  ko : wr.heap[G]? = some (.cells #[p, q] 47 (0, 0))
  o1 : ORow watE wr p ws b1
  o2 : ORow nwsE wr q ns b2
  fs : Fsh F (b1 ++ b2)
  hF : w0.heap.size ≤ F
  hG : w0.heap.size ≤ G
section
variable {w0 : World} {G F : Nat} {wr w3 : World} {p p' q q' : Value} {ws : List Wat} {ns : List Nws} {b1 b2 b1' b2' ib : List Nat}
theorem HB.below (h : HB w0 G F wr p q ws ns b1 b2) (hb : Below wr.heap.size wr w3) : HB w0 G F w3 p q ws ns b1 b2 :=
  ⟨below_next h.bel hb, (hb.block _ (Array.getElem?_eq_some_iff.1 h.ko).1).trans h.ko, h.o1.below hb, h.o2.below hb, h.fs, h.hF, h.hG⟩
theorem HB.koN (h : HB w0 G F wr p q ws ns b1 b2) (hg : wr.grownBy w3 q.ownBlock) : w3.heap[G]? = some (.cells #[p, q] 47 (0, 0)) :=
  (hg.block _ (Array.getElem?_eq_some_iff.1 h.ko).1 fun e => hub_not h.ko (nwss_ty h.o2) (by decide) (h.o2.head e.symm)).trans h.ko
theorem HB.news (h : HB w0 G F wr p q ws ns b1 b2) (hg : wr.grownBy w3 q.ownBlock) {x : Nws} (ho : ORow nwsE w3 q' (ns ++ [x]) b2') (hF : Fsh F b2') (hm : ∀ b ∈ b2', b ∈ b2 ∨ b ∈ ib ∨ q'.ownBlock = some b) (hi : ∀ b ∈ ib, b ∉ b1) :
    HB w0 G F (w3.setCell ⟨G, 1, none⟩ q') p q' ws (ns ++ [x]) b1 b2' := by
  have hko := (Array.getElem?_eq_some_iff.1 h.ko).1
  have hfs := h.fs
  have hd := hfs.1
  rw [List.nodup_append] at hd
  have hown : ∀ g, q.ownBlock = some g → g ∈ b2 := fun g hg => h.o2.head hg
  have hn1 := hub_not h.ko (wats_ty h.o1) (by decide)
  have ko3 := h.koN hg
  have hn3 := hub_not ko3 (nwss_ty ho) (by decide)
  have q3 : ORow watE w3 p ws b1 := h.o1.keep fun b hb => hg.block b (h.o1.lt b hb) fun e => hd.2.2 b hb b (hown b e.symm) rfl
  have hs := h.bel.size
  refine ⟨(h.bel.grown hg hs fun k hk => Nat.le_trans h.hF (hfs.2 k (List.mem_append.2 (.inr (hown k hk))))).setCell (p := ⟨G, 1, none⟩) h.hG _, heap_setCell_same _ _ 1 _ _ _ ko3, q3.other hn1 1 q', ho.other hn3 1 q', ?_, h.hF, h.hG⟩
  refine ⟨List.nodup_append.2 ⟨hd.1, hF.1, fun a ha b hb e => ?_⟩, fun b hb => ?_⟩
  · subst e
    rcases hm a hb with h1 | h1 | h1
    · exact hd.2.2 a ha a h1 rfl
    · exact hi a h1 ha
    · obtain ⟨cs, hcs⟩ := ho.own
      obtain ⟨cur, t, e1, e2⟩ := own_ty hcs a (by simp [h1])
      obtain ⟨cur', t', e3, e4⟩ := wats_ty q3 a ha
      rw [e1] at e3
      injection e3 with e3; injection e3 with _ e3
      simp at e2
      rw [← e3, e2] at e4
      exact absurd e4 (by decide)
  · rcases List.mem_append.1 hb with hb | hb
    · exact hfs.2 b (List.mem_append.2 (.inl hb))
    · exact hF.2 b hb
end

end Go.Proofs.YtlfonikfjibloaaGreatDoor

namespace Go.Proofs.YtlfonikfjibloaaGreatDoor
open Go.RowKit

/-- What the elements of a row hold of blocks. -/
theorem orow_inner_ty {α : Type} {e : Elem α} {ts : List TypeId} (he : ∀ {w vs x bl}, e.E w vs x bl → Tys ts w bl) {w : World} {v : Value} {xs : List α} {bl cb : List Nat} (h : ORow e w v xs bl) (hc : bl = v.ownBlock.toList ++ cb) : Tys ts w cb := by
  obtain ⟨ps, hl, hE, ho, hb⟩ := h
  rw [hb] at hc
  have := List.append_cancel_left hc
  subst this
  intro b hb
  obtain ⟨p, hp, hb⟩ := List.mem_flatMap.1 hb
  obtain ⟨j, hj, rfl⟩ := List.mem_iff_getElem.1 hp
  exact he (hE j ps[j] (xs[j]'(by omega)) (List.getElem?_eq_getElem hj) (List.getElem?_eq_getElem (by omega))) b hb
theorem Tys.not {ts : List TypeId} {w : World} {bl : List Nat} (h : Tys ts w bl) {B e size n : Nat} {v : Value} {xs : List Value} (ho : w.ownsRow B e size v n xs) (hn : e ∉ ts) {g : Nat} (hg : v.ownBlock = some g) : g ∉ bl := fun hm => by
  obtain ⟨cur, t, h1, h2⟩ := h g hm
  obtain ⟨cur', t', h3, h4⟩ := own_ty ho g (by simp [hg])
  rw [h1] at h3
  injection h3 with h3; injection h3 with _ h3
  simp at h4
  exact hn (h4 ▸ h3 ▸ h2)
/-- One more element at the end of a row that the call owns; what lies in the elements may be shared. -/
theorem ORow.app2 {α : Type} {e : Elem α} {ts : List TypeId} (he : ∀ {w vs x bl}, e.E w vs x bl → Tys ts w bl) (hts : e.T ∉ ts) {B : Nat} {w : World} {v : Value} {xs : List α} {cb : List Nat} (h : ORow e w v xs (v.ownBlock.toList ++ cb)) (hB : ∀ g, v.ownBlock = some g → B ≤ g)
    {vs : List Value} {x : α} {ib : List Nat} (hE : e.E w vs x ib) :
    ∃ cs, w.ownsRow B e.T e.wd v xs.length cs ∧ ∀ v' w', w'.ownsRow B e.T e.wd v' (xs.length + 1) (cs ++ vs) → w.grownBy w' v.ownBlock → ORow e w' v' (xs ++ [x]) (v'.ownBlock.toList ++ (cb ++ ib)) := by
  have hlt := h.lt
  have hlti := e.lt hE
  have hty := orow_inner_ty he h rfl
  have htyi := he hE
  obtain ⟨ps, hl, hE0, ho, hb⟩ := h
  have hcb := List.append_cancel_left hb
  subst hcb
  refine ⟨ps.flatMap (·.1), own_base ho hB, fun v' w' ho' hg => ?_⟩
  have hk : Kp (ps.flatMap (·.2)) w w' := fun b hb => hg.block b (hlt b (List.mem_append.2 (.inr hb))) fun e1 => hty.not ho hts e1.symm hb
  have hki : Kp ib w w' := fun b hb => hg.block b (hlti b hb) fun e1 => htyi.not ho hts e1.symm hb
  refine ⟨ps ++ [(vs, ib)], by simp [hl], ?_, ?_, by simp⟩
  · intro j p y hp hy
    by_cases hj : j < xs.length
    · rw [List.getElem?_append_left (by omega)] at hp hy
      exact e.keep (hE0 j p y hp hy) fun b hb => hk b (List.mem_flatMap.2 ⟨p, List.mem_of_getElem? hp, hb⟩)
    · have hy' := (List.getElem?_eq_some_iff.1 hy).1
      rw [List.length_append, List.length_singleton] at hy'
      have : j = xs.length := by omega
      subst this
      rw [← hl] at hp
      simp at hp hy
      subst hp; subst hy; exact e.keep hE hki
  · rw [List.flatMap_append, List.length_append]
    have := own_mono ho' (Nat.zero_le B)
    simpa using this
theorem wpList_append_elem2 {α : Type} {e : Elem α} {ts : List TypeId} (he : ∀ {w vs x bl}, e.E w vs x bl → Tys ts w bl) (hts : e.T ∉ ts) {t : TypeId} (ht : Tryz.prog.underlying t = some (.slice e.T)) {z : Value} {bytes : Nat}
    (hinfo : (Tryz.prog.info? e.T).map (fun i => (i.zero, i.size, i.bytes)) = some (some z, e.wd, bytes)) (hzs : z.cells.size = e.wd) (hsz : 0 < e.wd) (hby : bytes ≤ 100)
    {w : World} {ops : Array Oper} {rest : List Oper} {o : Oper} {a : Act} {Q : Exit → Act → World → Prop} (hg : o.guard = none) (s x : Operand)
    (ho : o.op = .call { callee := .builtin .append, args := #[s, x], argTypes := #[t, t] }) {B : Nat} {v : Value} {xs : List α} {cb : List Nat} (hs : a.eval s = v)
    (h : ORow e w v xs (v.ownBlock.toList ++ cb)) (hB0 : ∀ g, v.ownBlock = some g → B ≤ g) {vs : List Value} {y : α} {ib : List Nat} (hE : e.E w vs y ib) {g : Nat} (hx : a.eval x = .slice (some ⟨g, 0, none⟩) 1 1)
    (hcell : ∀ (j : Nat) (u : Value), vs[j]? = some u → w.cell? ((⟨g, 0, none⟩ : Addr).add j) = some u) (h1 : ∀ u ∈ vs, u.oneCell' = true) (hB : B ≤ w.heap.size) (hl : xs.length ≤ 40000000)
    (hK : ∀ v' w', ORow e w' v' (xs ++ [y]) (v'.ownBlock.toList ++ (cb ++ ib)) → (∀ g, v'.ownBlock = some g → B ≤ g) → w.grownBy w' v.ownBlock → wpList Tryz.prog ops Q rest (a.put o.dst v') w') : wpList Tryz.prog ops Q (o :: rest) a w := by
  obtain ⟨i0, hi, hz0, hz1, hz2⟩ := info_parts hinfo
  obtain ⟨cs, hown, hfin⟩ := h.app2 he hts hB0 hE
  refine wpList_append_own _ hg s x t ho B e.T i0 z e.wd bytes ht hi hz0 hz1 hz2 hzs hsz v _ cs hs hown ⟨g, 0, none⟩ 1 1 vs hx (by rw [e.len hE]; omega) hcell h1 (by unfold maxLen; omega) ?_ hB ?_
  · have : (xs.length + 1) * bytes ≤ (xs.length + 1) * 100 := Nat.mul_le_mul_left _ hby
    omega
  · intro v' w' h1 h2 _
    exact hK v' w' (hfin v' w' h1 h2) (fun g hg => (h1.lt g hg).1) h2
theorem step_append_elem2 {α : Type} {e : Elem α} {ts : List TypeId} (he : ∀ {w vs x bl}, e.E w vs x bl → Tys ts w bl) (hts : e.T ∉ ts) {t : TypeId} (ht : Tryz.prog.underlying t = some (.slice e.T)) {z : Value} {bytes : Nat}
    (hinfo : (Tryz.prog.info? e.T).map (fun i => (i.zero, i.size, i.bytes)) = some (some z, e.wd, bytes)) (hzs : z.cells.size = e.wd) (hsz : 0 < e.wd) (hby : bytes ≤ 100)
    {w : World} {ops : Array Oper} {o : Oper} {a : Act} {K : Act → World → Prop} {Q : Exit → Act → World → Prop} {F : Prop} (hg : o.guard = none) (s x : Operand)
    (ho : o.op = .call { callee := .builtin .append, args := #[s, x], argTypes := #[t, t] }) {B : Nat} {v : Value} {xs : List α} {cb : List Nat} (hs : a.eval s = v)
    (h : ORow e w v xs (v.ownBlock.toList ++ cb)) (hB0 : ∀ g, v.ownBlock = some g → B ≤ g) {vs : List Value} {y : α} {ib : List Nat} (hE : e.E w vs y ib) {g : Nat} (hx : a.eval x = .slice (some ⟨g, 0, none⟩) 1 1)
    (hcell : ∀ (j : Nat) (u : Value), vs[j]? = some u → w.cell? ((⟨g, 0, none⟩ : Addr).add j) = some u) (h1 : ∀ u ∈ vs, u.oneCell' = true) (hB : B ≤ w.heap.size) (hl : xs.length ≤ 40000000)
    (hK : ∀ v' w', ORow e w' v' (xs ++ [y]) (v'.ownBlock.toList ++ (cb ++ ib)) → (∀ g, v'.ownBlock = some g → B ≤ g) → w.grownBy w' v.ownBlock → K (a.put o.dst v') w') :
    if Region.wanted o (yielded ops a.tmps) = true then Oper.wp Tryz.prog o a w K Q else F := by
  have hw : Region.wanted o (yielded ops a.tmps) = true := by simp [Region.wanted, hg]
  rw [if_pos hw]
  obtain ⟨i0, hi, hz0, hz1, hz2⟩ := info_parts hinfo
  obtain ⟨cs, hown, hfin⟩ := h.app2 he hts hB0 hE
  refine wp_append_own w s x t ho B e.T i0 z e.wd bytes ht hi hz0 hz1 hz2 hzs hsz v _ cs hs hown ⟨g, 0, none⟩ 1 1 vs hx (by rw [e.len hE]; omega) hcell h1 (by unfold maxLen; omega) ?_ hB ?_
  · have : (xs.length + 1) * bytes ≤ (xs.length + 1) * 100 := Nat.mul_le_mul_left _ hby
    omega
  · intro v' w' h1 h2 _
    exact hK v' w' (hfin v' w' h1 h2) (fun g hg => (h1.lt g hg).1) h2
/-- A whole row behind nil: a copy; what lies in the elements is shared. -/
theorem wpList_append_nil {α : Type} {e : Elem α} (hone : ∀ {w vs x bl}, e.E w vs x bl → ∀ u ∈ vs, u.oneCell' = true) {t : TypeId} (ht : Tryz.prog.underlying t = some (.slice e.T)) {z : Value} {bytes : Nat}
    (hinfo : (Tryz.prog.info? e.T).map (fun i => (i.zero, i.size, i.bytes)) = some (some z, e.wd, bytes)) (hzs : z.cells.size = e.wd) (hsz : 0 < e.wd) (hby : bytes ≤ 100)
    {w : World} {ops : Array Oper} {rest : List Oper} {o : Oper} {a : Act} {Q : Exit → Act → World → Prop} (hg : o.guard = none) (s x : Operand)
    (ho : o.op = .call { callee := .builtin .append, args := #[s, x], argTypes := #[t, t] }) {v : Value} {xs : List α} {cb : List Nat} (hs : a.eval s = .slice none 0 0) (hx : a.eval x = v)
    (h : ORow e w v xs (v.ownBlock.toList ++ cb)) (hl : xs.length ≤ 40000000)
    (hK : ∀ v' w', ORow e w' v' xs (v'.ownBlock.toList ++ cb) → (∀ g, v'.ownBlock = some g → w.heap.size ≤ g) → Below w.heap.size w w' → wpList Tryz.prog ops Q rest (a.put o.dst v') w') : wpList Tryz.prog ops Q (o :: rest) a w := by
  obtain ⟨i0, hi, hz0, hz1, hz2⟩ := info_parts hinfo
  have hlt := h.lt
  obtain ⟨ps, hl0, hE, ho0, hb⟩ := h
  have hcb := List.append_cancel_left hb
  have hnil := w.ownsRow_nil w.heap.size e.T e.wd
  rcases ho0.2 with ⟨hv, h0⟩ | ⟨g, cap, cur, hv, _⟩
  · subst hv
    refine wpList_append_own_none hg s x t ho w.heap.size e.T i0 e.wd ht hi _ _ _ hs hnil hx ?_
    exact hK _ w ⟨ps, hl0, hE, ho0, hb⟩ (fun g hg => by simp [Value.ownBlock] at hg) (Below.refl _ _)
  · have hwd := orow_wd hl0 hE
    have hones : ∀ u ∈ ps.flatMap (·.1), u.oneCell' = true := by
      intro u hu
      obtain ⟨p, hp, hu⟩ := List.mem_flatMap.1 hu
      obtain ⟨j, hj, rfl⟩ := List.mem_iff_getElem.1 hp
      exact hone (hE j ps[j] (xs[j]'(by omega)) (List.getElem?_eq_getElem hj) (List.getElem?_eq_getElem (by omega))) u hu
    have hob : v.ownBlock = some g := by rw [hv]; rfl
    refine wpList_append_own _ hg s x t ho w.heap.size e.T i0 z e.wd bytes ht hi hz0 hz1 hz2 hzs hsz _ 0 [] hs hnil ⟨g, 0, none⟩ xs.length cap (ps.flatMap (·.1)) (hx.trans hv) ho0.1 (fun j u hu => ho0.cells hob j u hu) hones (by unfold maxLen; omega) ?_ (Nat.le_refl _) ?_
    · have : (0 + xs.length) * bytes ≤ (0 + xs.length) * 100 := Nat.mul_le_mul_left _ hby
      omega
    · intro v' w' h1 h2 _
      have hbel : Below w.heap.size w w' := (Below.refl _ _).grown h2 (Nat.le_refl _) (fun k hk => by simp [Value.ownBlock] at hk)
      refine hK v' w' ⟨ps, hl0, fun j p y hp hy => e.keep (hE j p y hp hy) fun b hb1 => hbel.block b (hlt b (by rw [hb]; exact List.mem_append.2 (.inr (List.mem_flatMap.2 ⟨p, List.mem_of_getElem? hp, hb1⟩)))), ?_, by rw [hcb]⟩ (fun g hg => (h1.lt g hg).1) hbel
      have := own_mono h1 (Nat.zero_le _)
      simpa using this
theorem str_ones {w : World} {vs : List Value} {x : ByteArray} {bl : List Nat} (h : strE.E w vs x bl) : ∀ u ∈ vs, u.oneCell' = true := by
  obtain ⟨rfl, _⟩ := h; intro u hu; simp at hu; subst hu; rfl
theorem msg_ones {w : World} {vs : List Value} {x : Msg} {bl : List Nat} (h : msgE.E w vs x bl) : ∀ u ∈ vs, u.oneCell' = true := by
  obtain ⟨q, rfl, h⟩ := h
  obtain ⟨a, c, rfl, _⟩ := h.form
  intro u hu; simp at hu; rcases hu with rfl | rfl | rfl <;> rfl
theorem nws_ones {w : World} {vs : List Value} {x : Nws} {bl : List Nat} (h : nwsE.E w vs x bl) : ∀ u ∈ vs, u.oneCell' = true := by
  obtain ⟨q, rfl, h⟩ := h
  obtain ⟨a, c, rfl, _⟩ := h.form
  intro u hu; simp at hu; rcases hu with rfl | rfl <;> rfl
theorem infoStrE : (Tryz.prog.info? strE.T).map (fun i => (i.zero, i.size, i.bytes)) = some (some (.string ByteArray.empty), strE.wd, 16) := infoStr

set_option maxHeartbeats 400000 in
set_option maxRecDepth 100000 in
theorem copiedStr_walk (v : Value) (xs : List ByteArray) (bl : List Nat) (w : World) (h : OStr w v xs bl) (hm : xs.length ≤ 2097154) :
    Calls Tryz.prog 121 #[v] w fun e w' => ∃ v' bl', e = .returned v' ∧ OStr w' v' xs bl' ∧ Fsh w.heap.size bl' ∧ Below w.heap.size w w' := by
  have hc : bl = v.ownBlock.toList ++ [] := by rw [List.append_nil]; exact (ostr_iff.1 h).2
  subst hc
  have H := hide h
  clear h
  go_enter Tryz.func121, Tryz.ntmps121
  go_wp2_with (at_builtin; refine wpList_append_nil (e := strE) str_ones Tryz.underlying51 infoStrE rfl (by decide) (by decide) rfl (.const (.slice none 0 0)) (.tmp 3) rfl rfl rfl (unhide H) (by omega) ?_)
  intro v' w' ho hB hb
  have HO := hide ho
  have HBB := hide hB
  have HBE := hide hb
  clear ho hB hb H
  go_wp2
  go_ret
  refine ⟨_, _, rfl, unhide HO, ⟨?_, fun b hb => unhide HBB b (by simpa using hb)⟩, unhide HBE⟩
  cases v'.ownBlock <;> simp
set_option maxHeartbeats 400000 in
set_option maxRecDepth 100000 in
theorem copiedMsg_walk (v : Value) (xs : List Msg) (cb : List Nat) (w : World) (h : ORow msgE w v xs (v.ownBlock.toList ++ cb)) (hm : xs.length ≤ 1048577) :
    Calls Tryz.prog 169 #[v] w fun e w' => ∃ v', e = .returned v' ∧ ORow msgE w' v' xs (v'.ownBlock.toList ++ cb) ∧ (∀ g, v'.ownBlock = some g → w.heap.size ≤ g) ∧ Below w.heap.size w w' := by
  have H := hide h
  clear h
  go_enter Tryz.func169, Tryz.ntmps169
  go_wp2_with (at_builtin; refine wpList_append_nil (e := msgE) msg_ones Tryz.underlying217 infoMsg rfl (by decide) (by decide) rfl (.const (.slice none 0 0)) (.tmp 3) rfl rfl rfl (unhide H) (by omega) ?_)
  intro v' w' ho hB hb
  have HO := hide ho
  have HBB := hide hB
  have HBE := hide hb
  clear ho hB hb H
  go_wp2
  go_ret
  exact ⟨_, rfl, unhide HO, unhide HBB, unhide HBE⟩
set_option maxHeartbeats 400000 in
set_option maxRecDepth 100000 in
theorem ringOfMsg_walk (v : Value) (xs : List Msg) (cb : List Nat) (w : World) (h : ORow msgE w v xs (v.ownBlock.toList ++ cb)) (hm : xs.length ≤ 1048577) :
    Calls Tryz.prog 116 #[v] w fun e w' => ∃ v', e = .returned (.agg #[v', .int .i64 0, .int .i64 xs.length]) ∧ ORow msgE w' v' xs (v'.ownBlock.toList ++ cb) ∧ (∀ g, v'.ownBlock = some g → w.heap.size ≤ g) ∧ Below w.heap.size w w' := by
  obtain ⟨xa, xc, rfl, hx1, hx2⟩ := h.form
  have H := hide h
  clear h hx1 hx2
  go_enter Tryz.func116, Tryz.ntmps116
  go_wp2_with fail
  have hlt := (unhide H).lt
  have k0 := heap_alloc_new w (Obj.cells #[Value.slice none 0 0, Value.int IntKind.i64 0, Value.int IntKind.i64 0] 221)
  have hA := alloc_b w (Obj.cells #[Value.slice none 0 0, Value.int IntKind.i64 0, Value.int IntKind.i64 0] 221)
  have hsz : (w.alloc (Obj.cells #[Value.slice none 0 0, Value.int IntKind.i64 0, Value.int IntKind.i64 0] 221)).heap.size = w.heap.size + 1 := by simp
  generalize (w.alloc (Obj.cells #[Value.slice none 0 0, Value.int IntKind.i64 0, Value.int IntKind.i64 0] 221)) = wA at *
  refine (copiedMsg_walk _ xs cb wA ((unhide H).below hA) hm).mono ?_
  rintro e w1 ⟨v1, rfl, o1, g1, b1⟩
  obtain ⟨ya, yc, rfl, hy1, hy2⟩ := o1.form
  have k1 := (b1.block w.heap.size (by omega)).trans k0
  have c0 : w1.cell? ⟨w.heap.size, 0, none⟩ = some (.slice none 0 0) := Lib.cell_of_heap k1 0
  have c1 : w1.cell? ⟨w.heap.size, 1, none⟩ = some (.int .i64 0) := Lib.cell_of_heap k1 1
  have c2 : w1.cell? ⟨w.heap.size, 2, none⟩ = some (.int .i64 0) := Lib.cell_of_heap k1 2
  have f1 := Lib.frozen_of_heap k1
  have hno : w.heap.size ∉ (Value.slice ya xs.length yc).ownBlock.toList ++ cb := fun hm => by
    rcases List.mem_append.1 hm with hm | hm
    · have := g1 _ (by simpa using hm); omega
    · have := hlt _ (List.mem_append.2 (.inr hm)); omega
  have HO := hide o1
  have HG := hide g1
  have HB := hide (below_next hA b1)
  have HK := hide k1
  have HNO := hide hno
  clear o1 g1 b1 k1 hA hlt hy1 hy2 H hno k0
  go_wp2
  refine bodyPost_ret (results_cell_row rfl _ _ w.heap.size 221 #[_, _, _] (0, 0) _ rfl (putN_full (unhide HK) [_, _, _] rfl) Tryz.underlying221 rfl (by kernel_rfl)) rfl ?_
  refine ⟨_, rfl, (unhide HO).putN (unhide HNO) [_, _, _] 0, fun g hg => by have := unhide HG g hg; omega, ?_⟩
  exact putN_below (g := w.heap.size) (unhide HB) (Nat.le_refl _) [_, _, _] 0
set_option maxHeartbeats 400000 in
set_option maxRecDepth 100000 in
theorem copiedNws_walk (v : Value) (xs : List Nws) (cb : List Nat) (w : World) (h : ORow nwsE w v xs (v.ownBlock.toList ++ cb)) (hm : xs.length ≤ 1048577) :
    Calls Tryz.prog 168 #[v] w fun e w' => ∃ v', e = .returned v' ∧ ORow nwsE w' v' xs (v'.ownBlock.toList ++ cb) ∧ (∀ g, v'.ownBlock = some g → w.heap.size ≤ g) ∧ Below w.heap.size w w' := by
  have H := hide h
  clear h
  go_enter Tryz.func168, Tryz.ntmps168
  go_wp2_with (at_builtin; refine wpList_append_nil (e := nwsE) nws_ones Tryz.underlying42 infoNws rfl (by decide) (by decide) rfl (.const (.slice none 0 0)) (.tmp 3) rfl rfl rfl (unhide H) (by omega) ?_)
  intro v' w' ho hB hb
  have HO := hide ho
  have HBB := hide hB
  have HBE := hide hb
  clear ho hB hb H
  go_wp2
  go_ret
  exact ⟨_, rfl, unhide HO, unhide HBB, unhide HBE⟩
set_option maxHeartbeats 400000 in
set_option maxRecDepth 100000 in
theorem ringOfNws_walk (v : Value) (xs : List Nws) (cb : List Nat) (w : World) (h : ORow nwsE w v xs (v.ownBlock.toList ++ cb)) (hm : xs.length ≤ 1048577) :
    Calls Tryz.prog 115 #[v] w fun e w' => ∃ v', e = .returned (.agg #[v', .int .i64 0, .int .i64 xs.length]) ∧ ORow nwsE w' v' xs (v'.ownBlock.toList ++ cb) ∧ (∀ g, v'.ownBlock = some g → w.heap.size ≤ g) ∧ Below w.heap.size w w' := by
  obtain ⟨xa, xc, rfl, hx1, hx2⟩ := h.form
  have H := hide h
  clear h hx1 hx2
  go_enter Tryz.func115, Tryz.ntmps115
  go_wp2_with fail
  have hlt := (unhide H).lt
  have k0 := heap_alloc_new w (Obj.cells #[Value.slice none 0 0, Value.int IntKind.i64 0, Value.int IntKind.i64 0] 139)
  have hA := alloc_b w (Obj.cells #[Value.slice none 0 0, Value.int IntKind.i64 0, Value.int IntKind.i64 0] 139)
  have hsz : (w.alloc (Obj.cells #[Value.slice none 0 0, Value.int IntKind.i64 0, Value.int IntKind.i64 0] 139)).heap.size = w.heap.size + 1 := by simp
  generalize (w.alloc (Obj.cells #[Value.slice none 0 0, Value.int IntKind.i64 0, Value.int IntKind.i64 0] 139)) = wA at *
  refine (copiedNws_walk _ xs cb wA ((unhide H).below hA) hm).mono ?_
  rintro e w1 ⟨v1, rfl, o1, g1, b1⟩
  obtain ⟨ya, yc, rfl, hy1, hy2⟩ := o1.form
  have k1 := (b1.block w.heap.size (by omega)).trans k0
  have c0 : w1.cell? ⟨w.heap.size, 0, none⟩ = some (.slice none 0 0) := Lib.cell_of_heap k1 0
  have c1 : w1.cell? ⟨w.heap.size, 1, none⟩ = some (.int .i64 0) := Lib.cell_of_heap k1 1
  have c2 : w1.cell? ⟨w.heap.size, 2, none⟩ = some (.int .i64 0) := Lib.cell_of_heap k1 2
  have f1 := Lib.frozen_of_heap k1
  have hno : w.heap.size ∉ (Value.slice ya xs.length yc).ownBlock.toList ++ cb := fun hm => by
    rcases List.mem_append.1 hm with hm | hm
    · have := g1 _ (by simpa using hm); omega
    · have := hlt _ (List.mem_append.2 (.inr hm)); omega
  have HO := hide o1
  have HG := hide g1
  have HB := hide (below_next hA b1)
  have HK := hide k1
  have HNO := hide hno
  clear o1 g1 b1 k1 hA hlt hy1 hy2 H hno k0
  go_wp2
  refine bodyPost_ret (results_cell_row rfl _ _ w.heap.size 139 #[_, _, _] (0, 0) _ rfl (putN_full (unhide HK) [_, _, _] rfl) Tryz.underlying139 rfl (by kernel_rfl)) rfl ?_
  refine ⟨_, rfl, (unhide HO).putN (unhide HNO) [_, _, _] 0, fun g hg => by have := unhide HG g hg; omega, ?_⟩
  exact putN_below (g := w.heap.size) (unhide HB) (Nat.le_refl _) [_, _, _] 0

/-- What a ring holds, in order. -/
structure RingIs {α : Type} (cells : List α) (f c : Nat) (q : List α) : Prop where
  cnt : c = q.length
  le : c ≤ cells.length
  lt : f < cells.length ∨ cells = []
  at_ : ∀ (i : Nat) (x : α), q[i]? = some x → cells[(f + i) % cells.length]? = some x
theorem RingIs.fresh {α : Type} (q : List α) : RingIs q 0 q.length q := by
  refine ⟨rfl, Nat.le_refl _, ?_, fun i x h => ?_⟩
  · cases q with
    | nil => exact .inr rfl
    | cons a r => exact .inl (by simp)
  · have hi := (List.getElem?_eq_some_iff.1 h).1
    rw [Nat.zero_add, Nat.mod_eq_of_lt hi]; exact h
/-- A ring in three cells of a block. -/
structure RingAt {α : Type} (e : Elem α) (w : World) (g o : Nat) (cv : Value) (f c : Nat) (ms : List α) (q : List α) (cb : List Nat) : Prop where
  c0 : w.cell? ⟨g, o, none⟩ = some cv
  c1 : w.cell? ⟨g, o + 1, none⟩ = some (.int .i64 (f : Int))
  c2 : w.cell? ⟨g, o + 2, none⟩ = some (.int .i64 (c : Int))
  row : ORow e w cv ms (cv.ownBlock.toList ++ cb)
  ring : RingIs ms f c q
theorem RingAt.below {α : Type} {e : Elem α} {w w' : World} {g o : Nat} {cv : Value} {f c : Nat} {ms q : List α} {cb : List Nat} (h : RingAt e w g o cv f c ms q cb) (hb : Below w.heap.size w w') : RingAt e w' g o cv f c ms q cb :=
  ⟨(hb.cell (World.block_lt_of_cell? _ _ h.c0)).trans h.c0, (hb.cell (World.block_lt_of_cell? _ _ h.c1)).trans h.c1, (hb.cell (World.block_lt_of_cell? _ _ h.c2)).trans h.c2, h.row.below hb, h.ring⟩
end Go.Proofs.YtlfonikfjibloaaGreatDoor

namespace Go.Proofs.YtlfonikfjibloaaGreatDoor
open Go.RowKit

set_option maxHeartbeats 400000 in
set_option maxRecDepth 100000 in
theorem cellMsg_walk (g o : Nat) (cv : Value) (f c : Nat) (ms q : List Msg) (cb : List Nat) (i : Nat) (w : World) (h : RingAt msgE w g o cv f c ms q cb) (hi : i < ms.length) (hm : ms.length ≤ 4000000) :
    Calls Tryz.prog 175 #[.pointer (some ⟨g, o, none⟩), .int .i64 i] w fun e w' => ∃ gc, e = .returned (.pointer (some ⟨gc, (f + i) % ms.length * 3, none⟩)) ∧ cv.ownBlock = some gc ∧ ∃ n, w' = w.drewN n := by
  obtain ⟨xa, xc, rfl, hx1, hx2⟩ := h.row.form
  obtain ⟨gc, rfl⟩ := hx2 (by omega)
  have c0 := h.c0
  have c1 := h.c1
  have c2 := h.c2
  have hf : f < ms.length := by rcases h.ring.lt with h1 | h1; exact h1; rw [h1] at hi; simp at hi
  have hr : (f + i) % ms.length < ms.length := Nat.mod_lt _ (by omega)
  have t2 : ((f : Int) + (i : Int)) % (ms.length : Int) = (((f + i) % ms.length : Nat) : Int) := by rw [Int.natCast_emod, Int.natCast_add]
  have t1 : ((f : Int) + (i : Int)).tmod (ms.length : Int) = (((f + i) % ms.length : Nat) : Int) := by rw [Int.tmod_eq_emod_of_nonneg (by omega)]; exact t2
  have nz : ((ms.length : Int) = 0) = False := eq_false (by omega)
  have nz' : (ms.length = 0) = False := eq_false (by omega)
  generalize (f + i) % ms.length = r at *
  have i1 : (0 : Int) ≤ (r : Int) := by omega
  have i2 : (r : Int) < (ms.length : Int) := by omega
  clear h hx1 hx2
  go_enter Tryz.func175, Tryz.ntmps175
  go_wp2
  go_quiet (fail)
  go_wp2
  go_ret
  exact ⟨gc, rfl, rfl, _, rfl⟩
set_option maxHeartbeats 800000 in
set_option maxRecDepth 100000 in
theorem listMsg_walk (g o : Nat) (cv : Value) (f c : Nat) (ms q : List Msg) (cb : List Nat) (w : World) (h : RingAt msgE w g o cv f c ms q cb) (hm : ms.length ≤ 4000000) :
    Calls Tryz.prog 171 #[.pointer (some ⟨g, o, none⟩)] w fun e w' => ∃ v' cb', e = .returned v' ∧ ORow msgE w' v' q (v'.ownBlock.toList ++ cb') ∧ (∀ g, v'.ownBlock = some g → w.heap.size ≤ g) ∧ (∀ b ∈ cb', b ∈ cb) ∧ Below w.heap.size w w' := by
  have hcq := h.ring.cnt
  have hle := h.ring.le
  have c2 := h.c2
  have H := hide h
  clear h
  go_enter Tryz.func171, Tryz.ntmps171
  go_wp2
  go_loopw [3, 9] (fun lv i wr => ∃ k : Nat, k ≤ q.length ∧ i = .int .i64 (k : Int) ∧ Below w.heap.size w wr ∧ ∃ cb', ORow msgE wr lv (q.take k) (lv.ownBlock.toList ++ cb') ∧ (∀ g, lv.ownBlock = some g → w.heap.size ≤ g) ∧ ∀ b ∈ cb', b ∈ cb) (fun _ i _ => q.length - (intOf i).toNat)
  case atStart => exact ⟨0, Nat.zero_le _, rfl, Below.refl _ _, [], ORow.nil _ _, fun g hg => by simp [Value.ownBlock] at hg, fun b hb => by simp at hb⟩
  case round =>
    obtain ⟨k, hk, rfl, hb, cb', ho, hB, hsub⟩ := hrel
    by_cases hlt : k < q.length
    · have hR := (unhide H).below hb
      have hkm : k < ms.length := by omega
      have hat := hR.ring.at_ k q[k] (List.getElem?_eq_getElem hlt)
      have HC := hide (cellMsg_walk g o cv f c ms q cb k wr hR hkm hm)
      obtain ⟨xa, xc, hcv, hx1, hx2⟩ := hR.row.form
      obtain ⟨gc, rfl⟩ := hx2 (by omega)
      have hrow := hR.row
      rw [hcv] at hrow
      obtain ⟨vs, ib, hE, hc, hibs, _, _⟩ := hrow.at hat
      have hE0 := hE
      obtain ⟨qv, hvs, hq⟩ := hE0
      subst hvs
      obtain ⟨ya, yc, rfl, hy1, hy2⟩ := hq.form
      generalize hr : (f + k) % ms.length = r at *
      have hone := msg_ones hE
      have hibc : ∀ b ∈ ib, b ∈ cb := fun b hb => by
        rcases List.mem_append.1 (hibs b hb) with h1 | h1
        · exfalso
          obtain ⟨cs, hcs⟩ := hrow.own
          exact (msg_ty hE).not hcs (by decide) (by simpa using h1) hb
        · exact h1
      have hnx : q.take (k + 1) = q.take k ++ [q[k]] := by rw [List.take_add_one, List.getElem?_eq_getElem hlt]; rfl
      have hll : (q.take k).length = k := by rw [List.length_take]; omega
      have c0' : wr.cell? ⟨gc, r * 3, none⟩ = _ := (hc 0 _ rfl).1
      have c1' : wr.cell? ⟨gc, r * 3 + 1, none⟩ = _ := (hc 1 _ rfl).1
      have c2' : wr.cell? ⟨gc, r * 3 + 2, none⟩ = _ := (hc 2 _ rfl).1
      have HE := hide hE
      have HO := hide ho
      have HB := hide hb
      have HBB := hide hB
      have HS := hide hsub
      have HI := hide hibc
      have HNX := hide hnx
      have HLL := hide hll
      have HON := hide hone
      have hob : cv.ownBlock = some gc := by rw [hcv]; rfl
      have HOB := hide hob
      clear hR hat hcv hx1 hx2 hrow hc hibs hE hq hy1 hy2 ho hb hB hsub hibc hnx hll hone hob hr
      go_wp2_with fail
      refine (unhide HC).mono ?_
      rintro e w1 ⟨gd, rfl, hgd, n1, rfl⟩
      have hge : gd = gc := by rw [unhide HOB] at hgd; exact (Option.some.inj hgd).symm
      subst hge
      have d0 : (wr.drewN n1).cell? ⟨gd, r * 3, none⟩ = _ := c0'
      have d1 : (wr.drewN n1).cell? ⟨gd, r * 3 + 1, none⟩ = _ := c1'
      have d2 : (wr.drewN n1).cell? ⟨gd, r * 3 + 2, none⟩ = _ := c2'
      have hdb : Below wr.heap.size wr (wr.drewN n1) := draws_b wr n1
      have hab := alloc_b (wr.drewN n1) (.cells #[.int .i64 q[k].ver, .slice ya q[k].ptrs.length yc, .bool q[k].over] 58)
      have hbb := below_next hdb hab
      have O3 := hide ((unhide HO).below hbb)
      have E3 := hide (msgE.keep (unhide HE) (.of_below hbb (msgE.lt (unhide HE))))
      have HB3 := hide (below_next (unhide HB) hbb)
      clear hgd hdb hab hbb HC HO HE HB c0' c1' c2'
      generalize wr.drewN n1 = wd at *
      go_wp2_with (at_builtin; refine wpList_append_elem2 (e := msgE) msg_ty (by decide) Tryz.underlying217 infoMsg rfl (by decide) (by decide) rfl (.tmp 12) (.tmp 18) rfl (B := w.heap.size) rfl (unhide O3) (unhide HBB) (unhide E3) rfl (lit_cells wd [_, _, _] _) (unhide HON) (by have := (unhide HB3).size; simpa using this) (by rw [unhide HLL]; omega) ?_)
      intro v' w3 o4 hB4 hg4
      try rw [← unhide HNX] at o4
      have HB4 := hide ((unhide HB3).grown hg4 (unhide HB3).size (fun j hj => unhide HBB j hj))
      have HO4 := hide o4
      have HBB4 := hide hB4
      have HS4 : Hid (∀ b ∈ cb' ++ ib, b ∈ cb) := fun b hb => by
        rcases List.mem_append.1 hb with h1 | h1
        · exact unhide HS b h1
        · exact unhide HI b h1
      clear o4 hB4 hg4 O3 E3 HB3 d0 d1 d2 HBB HS HI HON
      go_wp2
      go_roundw
      case rel => exact ⟨k + 1, by omega, by go_num, unhide HB4, _, unhide HO4, unhide HBB4, unhide HS4⟩
      case measure => simp [intOf]; omega
    · have hk' : k = q.length := by omega
      subst hk'
      rw [List.take_length] at ho
      have HO := hide ho
      have HB := hide hb
      have HBB := hide hB
      have HS := hide hsub
      clear ho hb hB hsub
      go_wp2
      go_ret
      exact ⟨_, cb', rfl, unhide HO, unhide HBB, unhide HS, unhide HB⟩
set_option maxHeartbeats 400000 in
set_option maxRecDepth 100000 in
theorem cellNws_walk (g o : Nat) (cv : Value) (f c : Nat) (ms q : List Nws) (cb : List Nat) (i : Nat) (w : World) (h : RingAt nwsE w g o cv f c ms q cb) (hi : i < ms.length) (hm : ms.length ≤ 4000000) :
    Calls Tryz.prog 122 #[.pointer (some ⟨g, o, none⟩), .int .i64 i] w fun e w' => ∃ gc, e = .returned (.pointer (some ⟨gc, (f + i) % ms.length * 2, none⟩)) ∧ cv.ownBlock = some gc ∧ ∃ n, w' = w.drewN n := by
  obtain ⟨xa, xc, rfl, hx1, hx2⟩ := h.row.form
  obtain ⟨gc, rfl⟩ := hx2 (by omega)
  have c0 := h.c0
  have c1 := h.c1
  have c2 := h.c2
  have hf : f < ms.length := by rcases h.ring.lt with h1 | h1; exact h1; rw [h1] at hi; simp at hi
  have hr : (f + i) % ms.length < ms.length := Nat.mod_lt _ (by omega)
  have t2 : ((f : Int) + (i : Int)) % (ms.length : Int) = (((f + i) % ms.length : Nat) : Int) := by rw [Int.natCast_emod, Int.natCast_add]
  have t1 : ((f : Int) + (i : Int)).tmod (ms.length : Int) = (((f + i) % ms.length : Nat) : Int) := by rw [Int.tmod_eq_emod_of_nonneg (by omega)]; exact t2
  have nz : ((ms.length : Int) = 0) = False := eq_false (by omega)
  have nz' : (ms.length = 0) = False := eq_false (by omega)
  generalize (f + i) % ms.length = r at *
  have i1 : (0 : Int) ≤ (r : Int) := by omega
  have i2 : (r : Int) < (ms.length : Int) := by omega
  clear h hx1 hx2
  go_enter Tryz.func122, Tryz.ntmps122
  go_wp2
  go_quiet (fail)
  go_wp2
  go_ret
  exact ⟨gc, rfl, rfl, _, rfl⟩
set_option maxHeartbeats 800000 in
set_option maxRecDepth 100000 in
theorem listNws_walk (g o : Nat) (cv : Value) (f c : Nat) (ms q : List Nws) (cb : List Nat) (w : World) (h : RingAt nwsE w g o cv f c ms q cb) (hm : ms.length ≤ 4000000) :
    Calls Tryz.prog 120 #[.pointer (some ⟨g, o, none⟩)] w fun e w' => ∃ v' cb', e = .returned v' ∧ ORow nwsE w' v' q (v'.ownBlock.toList ++ cb') ∧ (∀ g, v'.ownBlock = some g → w.heap.size ≤ g) ∧ (∀ b ∈ cb', b ∈ cb) ∧ Below w.heap.size w w' := by
  have hcq := h.ring.cnt
  have hle := h.ring.le
  have c2 := h.c2
  have H := hide h
  clear h
  go_enter Tryz.func120, Tryz.ntmps120
  go_wp2
  go_loopw [3, 9] (fun lv i wr => ∃ k : Nat, k ≤ q.length ∧ i = .int .i64 (k : Int) ∧ Below w.heap.size w wr ∧ ∃ cb', ORow nwsE wr lv (q.take k) (lv.ownBlock.toList ++ cb') ∧ (∀ g, lv.ownBlock = some g → w.heap.size ≤ g) ∧ ∀ b ∈ cb', b ∈ cb) (fun _ i _ => q.length - (intOf i).toNat)
  case atStart => exact ⟨0, Nat.zero_le _, rfl, Below.refl _ _, [], ORow.nil _ _, fun g hg => by simp [Value.ownBlock] at hg, fun b hb => by simp at hb⟩
  case round =>
    obtain ⟨k, hk, rfl, hb, cb', ho, hB, hsub⟩ := hrel
    by_cases hlt : k < q.length
    · have hR := (unhide H).below hb
      have hkm : k < ms.length := by omega
      have hat := hR.ring.at_ k q[k] (List.getElem?_eq_getElem hlt)
      have HC := hide (cellNws_walk g o cv f c ms q cb k wr hR hkm hm)
      obtain ⟨xa, xc, hcv, hx1, hx2⟩ := hR.row.form
      obtain ⟨gc, rfl⟩ := hx2 (by omega)
      have hrow := hR.row
      rw [hcv] at hrow
      obtain ⟨vs, ib, hE, hc, hibs, _, _⟩ := hrow.at hat
      have hE0 := hE
      obtain ⟨qv, hvs, hq⟩ := hE0
      subst hvs
      obtain ⟨ya, yc, rfl, hy1, hy2⟩ := hq.form
      generalize hr : (f + k) % ms.length = r at *
      have hone := nws_ones hE
      have hibc : ∀ b ∈ ib, b ∈ cb := fun b hb => by
        rcases List.mem_append.1 (hibs b hb) with h1 | h1
        · exfalso
          obtain ⟨cs, hcs⟩ := hrow.own
          exact (nws_ty hE).not hcs (by decide) (by simpa using h1) hb
        · exact h1
      have hnx : q.take (k + 1) = q.take k ++ [q[k]] := by rw [List.take_add_one, List.getElem?_eq_getElem hlt]; rfl
      have hll : (q.take k).length = k := by rw [List.length_take]; omega
      have c0' : wr.cell? ⟨gc, r * 2, none⟩ = _ := (hc 0 _ rfl).1
      have c1' : wr.cell? ⟨gc, r * 2 + 1, none⟩ = _ := (hc 1 _ rfl).1
      have HE := hide hE
      have HO := hide ho
      have HB := hide hb
      have HBB := hide hB
      have HS := hide hsub
      have HI := hide hibc
      have HNX := hide hnx
      have HLL := hide hll
      have HON := hide hone
      have hob : cv.ownBlock = some gc := by rw [hcv]; rfl
      have HOB := hide hob
      clear hR hat hcv hx1 hx2 hrow hc hibs hE hq hy1 hy2 ho hb hB hsub hibc hnx hll hone hob hr
      go_wp2_with fail
      refine (unhide HC).mono ?_
      rintro e w1 ⟨gd, rfl, hgd, n1, rfl⟩
      have hge : gd = gc := by rw [unhide HOB] at hgd; exact (Option.some.inj hgd).symm
      subst hge
      have d0 : (wr.drewN n1).cell? ⟨gd, r * 2, none⟩ = _ := c0'
      have d1 : (wr.drewN n1).cell? ⟨gd, r * 2 + 1, none⟩ = _ := c1'
      have hdb : Below wr.heap.size wr (wr.drewN n1) := draws_b wr n1
      have hab := alloc_b (wr.drewN n1) (.cells #[.int .i64 q[k].ver, .slice ya q[k].ptrs.length yc] 53)
      have hbb := below_next hdb hab
      have O3 := hide ((unhide HO).below hbb)
      have E3 := hide (nwsE.keep (unhide HE) (.of_below hbb (nwsE.lt (unhide HE))))
      have HB3 := hide (below_next (unhide HB) hbb)
      clear hgd hdb hab hbb HC HO HE HB c0' c1'
      generalize wr.drewN n1 = wd at *
      go_wp2_with (at_builtin; refine wpList_append_elem2 (e := nwsE) nws_ty (by decide) Tryz.underlying42 infoNws rfl (by decide) (by decide) rfl (.tmp 12) (.tmp 18) rfl (B := w.heap.size) rfl (unhide O3) (unhide HBB) (unhide E3) rfl (lit_cells wd [_, _] _) (unhide HON) (by have := (unhide HB3).size; simpa using this) (by rw [unhide HLL]; omega) ?_)
      intro v' w3 o4 hB4 hg4
      try rw [← unhide HNX] at o4
      have HB4 := hide ((unhide HB3).grown hg4 (unhide HB3).size (fun j hj => unhide HBB j hj))
      have HO4 := hide o4
      have HBB4 := hide hB4
      have HS4 : Hid (∀ b ∈ cb' ++ ib, b ∈ cb) := fun b hb => by
        rcases List.mem_append.1 hb with h1 | h1
        · exact unhide HS b h1
        · exact unhide HI b h1
      clear o4 hB4 hg4 O3 E3 HB3 d0 d1 HBB HS HI HON
      go_wp2
      go_roundw
      case rel => exact ⟨k + 1, by omega, by go_num, unhide HB4, _, unhide HO4, unhide HBB4, unhide HS4⟩
      case measure => simp [intOf]; omega
    · have hk' : k = q.length := by omega
      subst hk'
      rw [List.take_length] at ho
      have HO := hide ho
      have HB := hide hb
      have HBB := hide hB
      have HS := hide hsub
      clear ho hb hB hsub
      go_wp2
      go_ret
      exact ⟨_, cb', rfl, unhide HO, unhide HBB, unhide HS, unhide HB⟩
end Go.Proofs.YtlfonikfjibloaaGreatDoor
