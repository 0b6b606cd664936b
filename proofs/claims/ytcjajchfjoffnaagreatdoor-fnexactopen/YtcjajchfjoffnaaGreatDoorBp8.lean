import Derived.Deep.RegionHeld
import Derived.Test.YtcjajchfjoffnaaGreatDoorBp7
namespace Go.Proofs.YtcjajchfjoffnaaGreatDoor
open Go.RowKit

/-- Five new blocks. -/
structure New5 (w : World) (a b c d e : Obj) (w' : World) : Prop where
  bel : Below w.heap.size w w'
  size : w'.heap.size = w.heap.size + 1 + 1 + 1 + 1 + 1
  k0 : w'.heap[w.heap.size]? = some a
  k1 : w'.heap[w.heap.size + 1]? = some b
  k2 : w'.heap[w.heap.size + 1 + 1]? = some c
  k3 : w'.heap[w.heap.size + 1 + 1 + 1]? = some d
  k4 : w'.heap[w.heap.size + 1 + 1 + 1 + 1]? = some e
theorem new5 (w : World) (a b c d e : Obj) : New5 w a b c d e (((((w.alloc a).alloc b).alloc c).alloc d).alloc e) := by
  have h := new3 w a b c
  generalize ((w.alloc a).alloc b).alloc c = w3 at *
  have k := new2 w3 d e
  have hs := h.size
  generalize (w3.alloc d).alloc e = w5 at *
  have b5 := k.bel
  have s5 := k.size
  have k3 := k.k0
  have k4 := k.k1
  rw [hs] at b5 s5 k3 k4
  exact ⟨h.bel.trans (b5.mono (by omega)), s5, (b5.block _ (by omega)).trans h.k0, (b5.block _ (by omega)).trans h.k1, (b5.block _ (by omega)).trans h.k2, k3, k4⟩

/-- What the second region reads. -/
def HS3 (N g m n yc : Nat) (z : Int) (qv : Value) (w : World) : Prop := w.cell? ⟨N, 1, none⟩ = some (.slice (some ⟨g, 0, none⟩) n yc) ∧ w.cell? ⟨g, m * 2, none⟩ = some (.int .i64 z) ∧ w.cell? ⟨g, m * 2 + 1, none⟩ = some qv
section
variable {N g m n yc : Nat} {z : Int} {qv : Value} {w w' : World}
theorem HS3.keep (h : HS3 N g m n yc z qv w) (hb : Below w.heap.size w w') : HS3 N g m n yc z qv w' :=
  ⟨(hb.cell (World.block_lt_of_cell? _ _ h.1)).trans h.1, (hb.cell (World.block_lt_of_cell? _ _ h.2.1)).trans h.2.1, (hb.cell (World.block_lt_of_cell? _ _ h.2.2)).trans h.2.2⟩
theorem HS3.grown {row : Option Nat} (h : HS3 N g m n yc z qv w) (hg : w.grownBy w' row) (hr : ∀ b, row = some b → N + 1 + 1 ≤ b) (hN : g < N) : HS3 N g m n yc z qv w' :=
  ⟨hg.cell h.1 fun e => by have := hr N e.symm; omega, hg.cell h.2.1 fun e => by have := hr g e.symm; omega, hg.cell h.2.2 fun e => by have := hr g e.symm; omega⟩
theorem HS3.set (h : HS3 N g m n yc z qv w) (hN : g < N) (o : Nat) (u : Value) : HS3 N g m n yc z qv (w.setCell ⟨N + 1 + 1 + 1 + 1, o, none⟩ u) :=
  ⟨(World.cell?_of_block (w := w) (Below.heap_setCell _ _ _ _ (by simp; omega))).trans h.1, (World.cell?_of_block (w := w) (Below.heap_setCell _ _ _ _ (by simp; omega))).trans h.2.1, (World.cell?_of_block (w := w) (Below.heap_setCell _ _ _ _ (by simp; omega))).trans h.2.2⟩
end
end Go.Proofs.YtcjajchfjoffnaaGreatDoor

namespace Go.Proofs.YtcjajchfjoffnaaGreatDoor
open Go.RowKit

theorem skipT_none (ws : List Wat) : ∀ k, k ≤ ws.length → skipT ws (-1) k = ws.take k
  | 0, _ => by simp [skipT]
  | k + 1, h => by
    rw [skipT, skipT_none ws k (by omega), if_neg (by omega), List.take_add_one]
theorem copyH_none (h : Hb) : copyH h (-1) 0 = h := by
  unfold copyH
  rw [skipT_none _ _ (Nat.le_refl _), List.take_length]; rfl

section
variable {w0 : World} {G F : Nat} {wr w3 : World} {p p' q q' : Value} {ws : List Wat} {ns : List Nws} {b1 b2 b1' b2' ib : List Nat}
end

end Go.Proofs.YtcjajchfjoffnaaGreatDoor

namespace Go.Proofs.YtcjajchfjoffnaaGreatDoor
open Go.RowKit

/-- What the elements of a row hold of blocks. -/
theorem orow_inner_ty {α : Type} {e : Elem α} {ts : List TypeId} (he : ∀ {w vs x bl}, e.E w vs x bl → Tys ts w bl) {w : World} {v : Value} {xs : List α} {bl cb : List Nat} (h : ORow e w v xs bl) (hc : bl = v.ownBlock.toList ++ cb) : Tys ts w cb := by
  obtain ⟨ps, hl, hE, ho, hb⟩ := h
  rw [hb] at hc
  have := List.append_cancel_left hc
  subst this
  intro b hb
  obtain ⟨p, hp, hb⟩ := List.mem_flatMap.1 hb
  obtain ⟨j, hj, rfl⟩ := List.mem_iff_getElem.1 hp
  exact he (hE j ps[j] (xs[j]'(by omega)) (List.getElem?_eq_getElem hj) (List.getElem?_eq_getElem (by omega))) b hb
theorem Tys.not {ts : List TypeId} {w : World} {bl : List Nat} (h : Tys ts w bl) {B e size n : Nat} {v : Value} {xs : List Value} (ho : w.ownsRow B e size v n xs) (hn : e ∉ ts) {g : Nat} (hg : v.ownBlock = some g) : g ∉ bl := fun hm => by
  obtain ⟨cur, t, h1, h2⟩ := h g hm
  obtain ⟨cur', t', h3, h4⟩ := own_ty ho g (by simp [hg])
  rw [h1] at h3
  injection h3 with h3; injection h3 with _ h3
  simp at h4
  exact hn (h4 ▸ h3 ▸ h2)
/-- One more element at the end of a row that the call owns; what lies in the elements may be shared. -/
theorem ORow.app2 {α : Type} {e : Elem α} {ts : List TypeId} (he : ∀ {w vs x bl}, e.E w vs x bl → Tys ts w bl) (hts : e.T ∉ ts) {B : Nat} {w : World} {v : Value} {xs : List α} {cb : List Nat} (h : ORow e w v xs (v.ownBlock.toList ++ cb)) (hB : ∀ g, v.ownBlock = some g → B ≤ g)
    {vs : List Value} {x : α} {ib : List Nat} (hE : e.E w vs x ib) :
    ∃ cs, w.ownsRow B e.T e.wd v xs.length cs ∧ ∀ v' w', w'.ownsRow B e.T e.wd v' (xs.length + 1) (cs ++ vs) → w.grownBy w' v.ownBlock → ORow e w' v' (xs ++ [x]) (v'.ownBlock.toList ++ (cb ++ ib)) := by
  have hlt := h.lt
  have hlti := e.lt hE
  have hty := orow_inner_ty he h rfl
  have htyi := he hE
  obtain ⟨ps, hl, hE0, ho, hb⟩ := h
  have hcb := List.append_cancel_left hb
  subst hcb
  refine ⟨ps.flatMap (·.1), own_base ho hB, fun v' w' ho' hg => ?_⟩
  have hk : Kp (ps.flatMap (·.2)) w w' := fun b hb => hg.block b (hlt b (List.mem_append.2 (.inr hb))) fun e1 => hty.not ho hts e1.symm hb
  have hki : Kp ib w w' := fun b hb => hg.block b (hlti b hb) fun e1 => htyi.not ho hts e1.symm hb
  refine ⟨ps ++ [(vs, ib)], by simp [hl], ?_, ?_, by simp⟩
  · intro j p y hp hy
    by_cases hj : j < xs.length
    · rw [List.getElem?_append_left (by omega)] at hp hy
      exact e.keep (hE0 j p y hp hy) fun b hb => hk b (List.mem_flatMap.2 ⟨p, List.mem_of_getElem? hp, hb⟩)
    · have hy' := (List.getElem?_eq_some_iff.1 hy).1
      rw [List.length_append, List.length_singleton] at hy'
      have : j = xs.length := by omega
      subst this
      rw [← hl] at hp
      simp at hp hy
      subst hp; subst hy; exact e.keep hE hki
  · rw [List.flatMap_append, List.length_append]
    have := own_mono ho' (Nat.zero_le B)
    simpa using this
theorem wpList_append_elem2 {α : Type} {e : Elem α} {ts : List TypeId} (he : ∀ {w vs x bl}, e.E w vs x bl → Tys ts w bl) (hts : e.T ∉ ts) {t : TypeId} (ht : Tryz.prog.underlying t = some (.slice e.T)) {z : Value} {bytes : Nat}
    (hinfo : (Tryz.prog.info? e.T).map (fun i => (i.zero, i.size, i.bytes)) = some (some z, e.wd, bytes)) (hzs : z.cells.size = e.wd) (hsz : 0 < e.wd) (hby : bytes ≤ 100)
    {w : World} {ops : Array Oper} {rest : List Oper} {o : Oper} {a : Act} {Q : Exit → Act → World → Prop} (hg : o.guard = none) (s x : Operand)
    (ho : o.op = .call { callee := .builtin .append, args := #[s, x], argTypes := #[t, t] }) {B : Nat} {v : Value} {xs : List α} {cb : List Nat} (hs : a.eval s = v)
    (h : ORow e w v xs (v.ownBlock.toList ++ cb)) (hB0 : ∀ g, v.ownBlock = some g → B ≤ g) {vs : List Value} {y : α} {ib : List Nat} (hE : e.E w vs y ib) {g : Nat} (hx : a.eval x = .slice (some ⟨g, 0, none⟩) 1 1)
    (hcell : ∀ (j : Nat) (u : Value), vs[j]? = some u → w.cell? ((⟨g, 0, none⟩ : Addr).add j) = some u) (h1 : ∀ u ∈ vs, u.oneCell' = true) (hB : B ≤ w.heap.size) (hl : xs.length ≤ 40000000)
    (hK : ∀ v' w', ORow e w' v' (xs ++ [y]) (v'.ownBlock.toList ++ (cb ++ ib)) → (∀ g, v'.ownBlock = some g → B ≤ g) → w.grownBy w' v.ownBlock → wpList Tryz.prog ops Q rest (a.put o.dst v') w') : wpList Tryz.prog ops Q (o :: rest) a w := by
  obtain ⟨i0, hi, hz0, hz1, hz2⟩ := info_parts hinfo
  obtain ⟨cs, hown, hfin⟩ := h.app2 he hts hB0 hE
  refine wpList_append_own _ hg s x t ho B e.T i0 z e.wd bytes ht hi hz0 hz1 hz2 hzs hsz v _ cs hs hown ⟨g, 0, none⟩ 1 1 vs hx (by rw [e.len hE]; omega) hcell h1 (by unfold maxLen; omega) ?_ hB ?_
  · have : (xs.length + 1) * bytes ≤ (xs.length + 1) * 100 := Nat.mul_le_mul_left _ hby
    omega
  · intro v' w' h1 h2 _
    exact hK v' w' (hfin v' w' h1 h2) (fun g hg => (h1.lt g hg).1) h2
theorem step_append_elem2 {α : Type} {e : Elem α} {ts : List TypeId} (he : ∀ {w vs x bl}, e.E w vs x bl → Tys ts w bl) (hts : e.T ∉ ts) {t : TypeId} (ht : Tryz.prog.underlying t = some (.slice e.T)) {z : Value} {bytes : Nat}
    (hinfo : (Tryz.prog.info? e.T).map (fun i => (i.zero, i.size, i.bytes)) = some (some z, e.wd, bytes)) (hzs : z.cells.size = e.wd) (hsz : 0 < e.wd) (hby : bytes ≤ 100)
    {w : World} {ops : Array Oper} {o : Oper} {a : Act} {K : Act → World → Prop} {Q : Exit → Act → World → Prop} {F : Prop} (hg : o.guard = none) (s x : Operand)
    (ho : o.op = .call { callee := .builtin .append, args := #[s, x], argTypes := #[t, t] }) {B : Nat} {v : Value} {xs : List α} {cb : List Nat} (hs : a.eval s = v)
    (h : ORow e w v xs (v.ownBlock.toList ++ cb)) (hB0 : ∀ g, v.ownBlock = some g → B ≤ g) {vs : List Value} {y : α} {ib : List Nat} (hE : e.E w vs y ib) {g : Nat} (hx : a.eval x = .slice (some ⟨g, 0, none⟩) 1 1)
    (hcell : ∀ (j : Nat) (u : Value), vs[j]? = some u → w.cell? ((⟨g, 0, none⟩ : Addr).add j) = some u) (h1 : ∀ u ∈ vs, u.oneCell' = true) (hB : B ≤ w.heap.size) (hl : xs.length ≤ 40000000)
    (hK : ∀ v' w', ORow e w' v' (xs ++ [y]) (v'.ownBlock.toList ++ (cb ++ ib)) → (∀ g, v'.ownBlock = some g → B ≤ g) → w.grownBy w' v.ownBlock → K (a.put o.dst v') w') :
    if Region.wanted o (yielded ops a.tmps) = true then Oper.wp Tryz.prog o a w K Q else F := by
  have hw : Region.wanted o (yielded ops a.tmps) = true := by simp [Region.wanted, hg]
  rw [if_pos hw]
  obtain ⟨i0, hi, hz0, hz1, hz2⟩ := info_parts hinfo
  obtain ⟨cs, hown, hfin⟩ := h.app2 he hts hB0 hE
  refine wp_append_own w s x t ho B e.T i0 z e.wd bytes ht hi hz0 hz1 hz2 hzs hsz v _ cs hs hown ⟨g, 0, none⟩ 1 1 vs hx (by rw [e.len hE]; omega) hcell h1 (by unfold maxLen; omega) ?_ hB ?_
  · have : (xs.length + 1) * bytes ≤ (xs.length + 1) * 100 := Nat.mul_le_mul_left _ hby
    omega
  · intro v' w' h1 h2 _
    exact hK v' w' (hfin v' w' h1 h2) (fun g hg => (h1.lt g hg).1) h2
/-- A whole row behind nil: a copy; what lies in the elements is shared. -/
theorem wpList_append_nil {α : Type} {e : Elem α} (hone : ∀ {w vs x bl}, e.E w vs x bl → ∀ u ∈ vs, u.oneCell' = true) {t : TypeId} (ht : Tryz.prog.underlying t = some (.slice e.T)) {z : Value} {bytes : Nat}
    (hinfo : (Tryz.prog.info? e.T).map (fun i => (i.zero, i.size, i.bytes)) = some (some z, e.wd, bytes)) (hzs : z.cells.size = e.wd) (hsz : 0 < e.wd) (hby : bytes ≤ 100)
    {w : World} {ops : Array Oper} {rest : List Oper} {o : Oper} {a : Act} {Q : Exit → Act → World → Prop} (hg : o.guard = none) (s x : Operand)
    (ho : o.op = .call { callee := .builtin .append, args := #[s, x], argTypes := #[t, t] }) {v : Value} {xs : List α} {cb : List Nat} (hs : a.eval s = .slice none 0 0) (hx : a.eval x = v)
    (h : ORow e w v xs (v.ownBlock.toList ++ cb)) (hl : xs.length ≤ 40000000)
    (hK : ∀ v' w', ORow e w' v' xs (v'.ownBlock.toList ++ cb) → (∀ g, v'.ownBlock = some g → w.heap.size ≤ g) → Below w.heap.size w w' → wpList Tryz.prog ops Q rest (a.put o.dst v') w') : wpList Tryz.prog ops Q (o :: rest) a w := by
  obtain ⟨i0, hi, hz0, hz1, hz2⟩ := info_parts hinfo
  have hlt := h.lt
  obtain ⟨ps, hl0, hE, ho0, hb⟩ := h
  have hcb := List.append_cancel_left hb
  have hnil := w.ownsRow_nil w.heap.size e.T e.wd
  rcases ho0.2 with ⟨hv, h0⟩ | ⟨g, cap, cur, hv, _⟩
  · subst hv
    refine wpList_append_own_none hg s x t ho w.heap.size e.T i0 e.wd ht hi _ _ _ hs hnil hx ?_
    exact hK _ w ⟨ps, hl0, hE, ho0, hb⟩ (fun g hg => by simp [Value.ownBlock] at hg) (Below.refl _ _)
  · have hwd := orow_wd hl0 hE
    have hones : ∀ u ∈ ps.flatMap (·.1), u.oneCell' = true := by
      intro u hu
      obtain ⟨p, hp, hu⟩ := List.mem_flatMap.1 hu
      obtain ⟨j, hj, rfl⟩ := List.mem_iff_getElem.1 hp
      exact hone (hE j ps[j] (xs[j]'(by omega)) (List.getElem?_eq_getElem hj) (List.getElem?_eq_getElem (by omega))) u hu
    have hob : v.ownBlock = some g := by rw [hv]; rfl
    refine wpList_append_own _ hg s x t ho w.heap.size e.T i0 z e.wd bytes ht hi hz0 hz1 hz2 hzs hsz _ 0 [] hs hnil ⟨g, 0, none⟩ xs.length cap (ps.flatMap (·.1)) (hx.trans hv) ho0.1 (fun j u hu => ho0.cells hob j u hu) hones (by unfold maxLen; omega) ?_ (Nat.le_refl _) ?_
    · have : (0 + xs.length) * bytes ≤ (0 + xs.length) * 100 := Nat.mul_le_mul_left _ hby
      omega
    · intro v' w' h1 h2 _
      have hbel : Below w.heap.size w w' := (Below.refl _ _).grown h2 (Nat.le_refl _) (fun k hk => by simp [Value.ownBlock] at hk)
      refine hK v' w' ⟨ps, hl0, fun j p y hp hy => e.keep (hE j p y hp hy) fun b hb1 => hbel.block b (hlt b (by rw [hb]; exact List.mem_append.2 (.inr (List.mem_flatMap.2 ⟨p, List.mem_of_getElem? hp, hb1⟩)))), ?_, by rw [hcb]⟩ (fun g hg => (h1.lt g hg).1) hbel
      have := own_mono h1 (Nat.zero_le _)
      simpa using this
theorem str_ones {w : World} {vs : List Value} {x : ByteArray} {bl : List Nat} (h : strE.E w vs x bl) : ∀ u ∈ vs, u.oneCell' = true := by
  obtain ⟨rfl, _⟩ := h; intro u hu; simp at hu; subst hu; rfl
theorem infoStrE : (Tryz.prog.info? strE.T).map (fun i => (i.zero, i.size, i.bytes)) = some (some (.string ByteArray.empty), strE.wd, 16) := infoStr

set_option maxHeartbeats 400000 in
set_option maxRecDepth 100000 in
theorem copiedStr_walk (v : Value) (xs : List ByteArray) (bl : List Nat) (w : World) (h : OStr w v xs bl) (hm : xs.length ≤ 2097154) :
    Calls Tryz.prog 76 #[v] w fun e w' => ∃ v' bl', e = .returned v' ∧ OStr w' v' xs bl' ∧ Fsh w.heap.size bl' ∧ Below w.heap.size w w' := by
  have hc : bl = v.ownBlock.toList ++ [] := by rw [List.append_nil]; exact (ostr_iff.1 h).2
  subst hc
  have H := hide h
  clear h
  go_enter Tryz.func76, Tryz.ntmps76
  go_wp2_with (at_builtin; refine wpList_append_nil (e := strE) str_ones Tryz.underlying45 infoStrE rfl (by decide) (by decide) rfl (.const (.slice none 0 0)) (.tmp 3) rfl rfl rfl (unhide H) (by omega) ?_)
  intro v' w' ho hB hb
  have HO := hide ho
  have HBB := hide hB
  have HBE := hide hb
  clear ho hB hb H
  go_wp2
  go_ret
  refine ⟨_, _, rfl, unhide HO, ⟨?_, fun b hb => unhide HBB b (by simpa using hb)⟩, unhide HBE⟩
  cases v'.ownBlock <;> simp
/-- What a ring holds, in order. -/
structure RingIs {α : Type} (cells : List α) (f c : Nat) (q : List α) : Prop where
  cnt : c = q.length
  le : c ≤ cells.length
  lt : f < cells.length ∨ cells = []
  at_ : ∀ (i : Nat) (x : α), q[i]? = some x → cells[(f + i) % cells.length]? = some x
theorem RingIs.fresh {α : Type} (q : List α) : RingIs q 0 q.length q := by
  refine ⟨rfl, Nat.le_refl _, ?_, fun i x h => ?_⟩
  · cases q with
    | nil => exact .inr rfl
    | cons a r => exact .inl (by simp)
  · have hi := (List.getElem?_eq_some_iff.1 h).1
    rw [Nat.zero_add, Nat.mod_eq_of_lt hi]; exact h
/-- A ring in three cells of a block. -/
structure RingAt {α : Type} (e : Elem α) (w : World) (g o : Nat) (cv : Value) (f c : Nat) (ms : List α) (q : List α) (cb : List Nat) : Prop where
  c0 : w.cell? ⟨g, o, none⟩ = some cv
  c1 : w.cell? ⟨g, o + 1, none⟩ = some (.int .i64 (f : Int))
  c2 : w.cell? ⟨g, o + 2, none⟩ = some (.int .i64 (c : Int))
  row : ORow e w cv ms (cv.ownBlock.toList ++ cb)
  ring : RingIs ms f c q
theorem RingAt.below {α : Type} {e : Elem α} {w w' : World} {g o : Nat} {cv : Value} {f c : Nat} {ms q : List α} {cb : List Nat} (h : RingAt e w g o cv f c ms q cb) (hb : Below w.heap.size w w') : RingAt e w' g o cv f c ms q cb :=
  ⟨(hb.cell (World.block_lt_of_cell? _ _ h.c0)).trans h.c0, (hb.cell (World.block_lt_of_cell? _ _ h.c1)).trans h.c1, (hb.cell (World.block_lt_of_cell? _ _ h.c2)).trans h.c2, h.row.below hb, h.ring⟩
end Go.Proofs.YtcjajchfjoffnaaGreatDoor

namespace Go.Proofs.YtcjajchfjoffnaaGreatDoor
open Go.RowKit

/-- A store of its own memory. -/
def TellP (vs : List Ver) (w : World) (e : Ending) (w' : World) : Prop := ∃ v bl, e = .returned (.agg #[v]) ∧ ORow verE w' v vs bl ∧ Fsh w.heap.size bl ∧ Below w.heap.size w w'
theorem ver_ty {w : World} {vs : List Value} {m : Ver} {bl : List Nat} (h : verE.E w vs m bl) : Tys [9] w bl := by obtain ⟨q, _, h⟩ := h; exact ostr_ty h
theorem infoVerE : (Tryz.prog.info? verE.T).map (fun i => (i.zero, i.size, i.bytes)) = some (some (.agg #[.int .i64 0, .string ByteArray.empty, .slice none 0 0]), verE.wd, 48) := by kernel_rfl
set_option maxRecDepth 100000 in
set_option maxHeartbeats 800000 in
theorem reverse1_walk (a : Option Addr) (n c : Nat) (hn : n ≤ 1) (w : World) : Calls Tryz.prog 77 #[.slice a n c] w fun e w' => e = .returned (.tuple #[]) ∧ w = w' := by
  rcases (show n = 0 ∨ n = 1 by omega) with rfl | rfl
  · go_enter Tryz.func77, Tryz.ntmps77
    go_wp2
    go_loopw [2, 3] (fun i j wr => i = .int .i64 0 ∧ j = .int .i64 (-1) ∧ w = wr) (fun _ _ _ => 0)
    case atStart => exact ⟨rfl, rfl, rfl⟩
    case round =>
      obtain ⟨rfl, rfl, rfl⟩ := hrel
      go_wp2
      go_end0
      exact ⟨rfl, rfl⟩
  · go_enter Tryz.func77, Tryz.ntmps77
    go_wp2
    go_loopw [2, 3] (fun i j wr => i = .int .i64 0 ∧ j = .int .i64 0 ∧ w = wr) (fun _ _ _ => 0)
    case atStart => exact ⟨rfl, rfl, rfl⟩
    case round =>
      obtain ⟨rfl, rfl, rfl⟩ := hrel
      go_wp2
      go_end0
      exact ⟨rfl, rfl⟩
set_option maxRecDepth 100000 in
set_option maxHeartbeats 800000 in
theorem tell0_walk (w : World) : Calls Tryz.prog 36 #[.pointer none] w (TellP [] w) := by
  have HR := hide (fun (w : World) => reverse1_walk none 0 0 (by decide) w)
  go_enter Tryz.func36, Tryz.ntmps36
  go_wp2
  have hA := alloc_b w (Obj.cells #[Value.slice none 0 0] 24)
  have kA := heap_alloc_new w (Obj.cells #[Value.slice none 0 0] 24)
  generalize (w.alloc (Obj.cells #[Value.slice none 0 0] 24)) = wA at *
  have HA := hide hA
  have HKA := hide kA
  clear hA kA
  go_loopw [3, 4] (fun lv at' wr => lv = .slice none 0 0 ∧ at' = .pointer none ∧ wA = wr) (fun _ _ _ => 0)
  case atStart => exact ⟨rfl, rfl, rfl⟩
  case round =>
    obtain ⟨rfl, rfl, rfl⟩ := hrel
    go_wp2_with fail
    refine (unhide HR _).mono ?_
    rintro e w1 ⟨rfl, rfl⟩
    have c0 : wA.cell? ⟨w.heap.size, 0, none⟩ = some (.slice none 0 0) := Lib.cell_of_heap (unhide HKA) 0
    have f0 := Lib.frozen_of_heap (unhide HKA)
    clear HR
    go_wp2
    refine bodyPost_ret (results_cell_row rfl _ _ w.heap.size 24 #[_] (0, 0) _ rfl (putN_full (unhide HKA) [_] rfl) Tryz.underlying24 rfl (by kernel_rfl)) rfl ?_
    exact ⟨_, [], rfl, ORow.nil _ _, Fsh.nil _, putN_below (unhide HA) (Nat.le_refl _) [_] 0⟩
/-- The one revision of a store that was opened. -/
def revB (d : ByteArray) (rt : Value) : Obj := .cells #[.int .i64 0, .string d, .slice none 0 0, rt, .pointer none] 125 (0, 0)
def atN : Value → Nat
  | .pointer (some _) => 1
  | _ => 0
set_option maxRecDepth 100000 in
set_option maxHeartbeats 1600000 in
theorem tell1_walk (g : Nat) (d : ByteArray) (rt : Value) (w : World) (h : w.heap[g]? = some (revB d rt)) : Calls Tryz.prog 36 #[.pointer (some ⟨g, 0, none⟩)] w (TellP [⟨0, d, []⟩] w) := by
  have HR := hide (fun (a : Option Addr) (c : Nat) (w : World) => reverse1_walk a 1 c (by decide) w)
  have HC := hide (fun w => copiedStr_walk (.slice none 0 0) [] [] w (ORow.nil _ _) (by decide))
  have HK := hide h
  have hlt : g < w.heap.size := (Array.getElem?_eq_some_iff.1 h).1
  clear h
  go_enter Tryz.func36, Tryz.ntmps36
  go_wp2
  have hA := alloc_b w (Obj.cells #[Value.slice none 0 0] 24)
  have kA := heap_alloc_new w (Obj.cells #[Value.slice none 0 0] 24)
  have zA : (w.alloc (Obj.cells #[Value.slice none 0 0] 24)).heap.size = w.heap.size + 1 := by simp
  generalize (w.alloc (Obj.cells #[Value.slice none 0 0] 24)) = wA at *
  have HA := hide hA
  have HKA := hide kA
  have HKW : Hid (∀ wx, Below wA.heap.size wA wx → wx.heap[g]? = some (revB d rt)) := fun wx hx => (hx.block g (by omega)).trans ((hA.block g hlt).trans (unhide HK))
  clear hA kA HK
  go_loopw [3, 4] (fun lv at' wr => (lv = .slice none 0 0 ∧ at' = .pointer (some ⟨g, 0, none⟩) ∧ wA = wr) ∨ (at' = .pointer none ∧ ∃ bl, ORow verE wr lv [⟨0, d, []⟩] bl ∧ Fsh (w.heap.size + 1) bl ∧ Below wA.heap.size wA wr)) (fun _ at' _ => atN at')
  case atStart => exact .inl ⟨rfl, rfl, rfl⟩
  case round =>
    rcases hrel with ⟨rfl, rfl, rfl⟩ | ⟨rfl, bl, ho, hf, hb⟩
    · have hd : Below wA.heap.size wA wA.drew := (Below.refl _ _).drew
      have k1 := unhide HKW _ hd
      have c0 : wA.drew.cell? ⟨g, 0, none⟩ = some (.int .i64 0) := Lib.cell_of_heap k1 0
      have c1 : wA.drew.cell? ⟨g, 1, none⟩ = some (.string d) := Lib.cell_of_heap k1 1
      have c2 : wA.drew.cell? ⟨g, 2, none⟩ = some (.slice none 0 0) := Lib.cell_of_heap k1 2
      have HM := hide (unhide HC wA.drew)
      clear k1 HC
      go_wp2_with fail
      go_region_law (first
        | (refine step_append_elem (e := verE) ver_ty (by decide) Tryz.underlying22 infoVerE rfl (by decide) (by decide) rfl (.tmp 12) (.tmp 30) rfl (B := w.heap.size + 1) rfl (ORow.nil _ _) (Fsh.nil _) (unhide E3) (unhide HFI) (fun b hb hx => by simp at hx) rfl (by exact lit_cells w2 [_, _, _] _) (by exact unhide HONE) (by simp; omega) (by decide) ?_
           intro v' w3 bl' o4 f4 m4 hg4
           obtain ⟨va, vc, rfl, hv1, hv2⟩ := o4.form
           have b3 : Below wA.heap.size wA w3 := (unhide B2).grown hg4 (unhide B2).size (fun k hk => by cases hk)
           have k4 := unhide HKW _ b3
           have c4 : w3.cell? ⟨g, 4, none⟩ = some (.pointer none) := Lib.cell_of_heap k4 4)
        | (go_simp; refine (unhide HM).mono ?_
           rintro e w2 ⟨v2, bl2, rfl, o2, f2, b2⟩
           obtain ⟨za, zc, rfl, hy1, hy2⟩ := o2.form
           have k2 := unhide HKW _ (below_next hd b2)
           have d0 : w2.cell? ⟨g, 0, none⟩ = some (.int .i64 0) := Lib.cell_of_heap k2 0
           have d1 : w2.cell? ⟨g, 1, none⟩ = some (.string d) := Lib.cell_of_heap k2 1
           have hE2 : verE.E w2 [.int .i64 0, .string d, .slice za 0 zc] ⟨0, d, []⟩ bl2 := ⟨_, rfl, o2⟩
           have hab : Below w2.heap.size w2 (w2.alloc (.cells #[.int .i64 0, .string d, .slice za 0 zc] 58)) := alloc_b _ _
           have E3 := hide (verE.keep hE2 (.of_below hab (verE.lt hE2)))
           have HFI := hide (f2.mono (B' := w.heap.size + 1) (by simp; omega))
           have B2 := hide (below_next (below_next hd b2) hab)
           have hsz2 : wA.heap.size ≤ w2.heap.size := b2.size
           have HONE : Hid (∀ u ∈ [Value.int .i64 0, .string d, .slice za 0 zc], u.oneCell' = true) := fun u hu => by simp at hu; rcases hu with rfl | rfl | rfl <;> rfl))
      all_goals (
        have HO4 := hide o4
        have HF4 := hide f4
        have HB3 := hide b3
        clear o4 f4 m4 hg4 b3 k4 hE2 E3 HFI B2 HONE o2 f2 b2 hab
        go_wp2
        go_roundw)
      all_goals first
        | exact .inr ⟨rfl, _, unhide HO4, unhide HF4, unhide HB3⟩
        | exact Nat.zero_lt_one
    · obtain ⟨xa, xc, rfl, hx1, hx2⟩ := ho.form
      have HO := hide ho
      clear ho hx1 hx2
      go_wp2_with fail
      refine (unhide HR _ _ _).mono ?_
      rintro e w1 ⟨rfl, rfl⟩
      have k1 := (hb.block w.heap.size (by omega)).trans (unhide HKA)
      have c0 : wr.cell? ⟨w.heap.size, 0, none⟩ = some (.slice none 0 0) := Lib.cell_of_heap k1 0
      have f0 := Lib.frozen_of_heap k1
      have HB := hide hb
      have HK1 := hide k1
      clear HR hb k1
      go_wp2
      refine bodyPost_ret (results_cell_row rfl _ _ w.heap.size 24 #[_] (0, 0) _ rfl (putN_full (unhide HK1) [_] rfl) Tryz.underlying24 rfl (by kernel_rfl)) rfl ?_
      exact ⟨_, bl, rfl, (unhide HO).putN (hf.not (by omega)) [_] 0, hf.mono (by omega), putN_below (below_next (unhide HA) (unhide HB)) (Nat.le_refl _) [_] 0⟩
end Go.Proofs.YtcjajchfjoffnaaGreatDoor
