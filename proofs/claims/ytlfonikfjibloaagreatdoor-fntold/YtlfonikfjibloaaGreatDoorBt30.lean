import Derived.Deep.RegionWith
import Derived.Deep.RegionLaw
import Derived.Test.YtlfonikfjibloaaGreatDoorBt29
import Derived.Test.YtlfonikfjibloaaGreatDoorBt4
import Derived.Test.YtlfonikfjibloaaGreatDoorBt24
import Derived.Laws.AppendOwnNone
namespace Go.Proofs.YtlfonikfjibloaaGreatDoor
open Go.RowKit

theorem draws_b (w : World) (n : Nat) : Below w.heap.size w (w.drewN n) := ⟨rfl, rfl, rfl, Nat.le_refl _, fun _ _ => rfl⟩
theorem ORow.len {α : Type} {e : Elem α} {w : World} {v : Value} {xs : List α} {bl : List Nat} (h : ORow e w v xs bl) : xs.length ≤ maxLen := by
  obtain ⟨ps, hl, hE, ho, _⟩ := h
  rcases ho.2 with ⟨hv, h0⟩ | ⟨g, cap, cur, hv, _, _, h1, h2, _⟩
  · omega
  · omega

/-- Two new blocks. -/
structure New2 (w : World) (a b : Obj) (w' : World) : Prop where
  bel : Below w.heap.size w w'
  size : w'.heap.size = w.heap.size + 1 + 1
  k0 : w'.heap[w.heap.size]? = some a
  k1 : w'.heap[w.heap.size + 1]? = some b
theorem new2 (w : World) (a b : Obj) : New2 w a b ((w.alloc a).alloc b) := by
  refine ⟨below_next (alloc_b w _) (alloc_b _ _), by simp, ?_, ?_⟩
  · exact ((alloc_b _ b).block _ (by simp)).trans (heap_alloc_new w a)
  · have := heap_alloc_new (w.alloc a) b
    rw [show (w.alloc a).heap.size = w.heap.size + 1 from by simp] at this
    exact this
/-- A hub that the call owns. -/
theorem OHub.below {w w' : World} {v : Value} {h : Hb} {bl : List Nat} (ho : OHub w v h bl) (hb : Below w.heap.size w w') : OHub w' v h bl := by
  obtain ⟨p, q, b1, b2, hv, h1, h2, he⟩ := ho
  exact ⟨p, q, b1, b2, hv, h1.below hb, h2.below hb, he⟩
theorem OHub.keep {w w' : World} {v : Value} {h : Hb} {bl : List Nat} (ho : OHub w v h bl) (hb : Kp bl w w') : OHub w' v h bl := by
  obtain ⟨p, q, b1, b2, hv, h1, h2, rfl⟩ := ho
  exact ⟨p, q, b1, b2, hv, h1.keep fun b hm => hb b (List.mem_append.2 (.inl hm)), h2.keep fun b hm => hb b (List.mem_append.2 (.inr hm)), rfl⟩
theorem OHub.lt {w : World} {v : Value} {h : Hb} {bl : List Nat} (ho : OHub w v h bl) : ∀ b ∈ bl, b < w.heap.size := by
  obtain ⟨p, q, b1, b2, hv, h1, h2, rfl⟩ := ho
  intro b hm
  rcases List.mem_append.1 hm with hm | hm
  · exact h1.lt b hm
  · exact h2.lt b hm
end Go.Proofs.YtlfonikfjibloaaGreatDoor

namespace Go.Proofs.YtlfonikfjibloaaGreatDoor
open Go.RowKit

/-- The texts that mark a row, from k on. -/
def mkS (k n : Nat) : List ByteArray := (List.range n).map fun j => mkText (k + j)
theorem mkS_len (k n : Nat) : (mkS k n).length = n := by simp [mkS]
theorem mkS_at {k n j : Nat} (h : j < n) : (mkS k n)[j]? = some (mkText (k + j)) := by simp [mkS, h]
/-- A row under way: its first j texts marked. -/
def mkAt (k : Nat) (ss : List ByteArray) (j : Nat) : List ByteArray := mkS k j ++ ss.drop j
theorem mkAt_len (k : Nat) (ss : List ByteArray) {j : Nat} (h : j ≤ ss.length) : (mkAt k ss j).length = ss.length := by unfold mkAt; rw [List.length_append, mkS_len, List.length_drop]; omega
theorem mkAt_set (k : Nat) (ss : List ByteArray) {j : Nat} (h : j < ss.length) : (mkAt k ss j).set j (mkText (k + j)) = mkAt k ss (j + 1) := by
  unfold mkAt
  rw [List.set_append_right _ _ (by rw [mkS_len]; omega), mkS_len, Nat.sub_self, List.drop_eq_getElem_cons h, List.set_cons_zero]
  unfold mkS
  rw [List.range_succ, List.map_append, List.append_assoc]; rfl
theorem mkAt_0 (k : Nat) (ss : List ByteArray) : mkAt k ss 0 = ss := by simp [mkAt, mkS]
theorem mkAt_all (k : Nat) (ss : List ByteArray) : mkAt k ss ss.length = mkS k ss.length := by simp [mkAt]

theorem marks_mkS (k n : Nat) : (mkS k n).map Value.string = marks k n := by simp [mkS, marks]
/-- Rows marked from k on, by what marks an element and how many marks it takes. -/
def mkRow {α : Type} (f : Nat → α → α) (c : α → Nat) : Nat → List α → List α
  | _, [] => []
  | k, x :: r => f k x :: mkRow f c (k + c x) r
def cntR {α : Type} (c : α → Nat) (l : List α) : Nat := (l.map c).sum
theorem mkRow_len {α : Type} (f : Nat → α → α) (c : α → Nat) : ∀ (l : List α) (k : Nat), (mkRow f c k l).length = l.length
  | [], _ => rfl
  | x :: r, k => by rw [mkRow, List.length_cons, mkRow_len f c r, List.length_cons]
theorem mkRow_snoc {α : Type} (f : Nat → α → α) (c : α → Nat) (x : α) : ∀ (l : List α) (k : Nat), mkRow f c k (l ++ [x]) = mkRow f c k l ++ [f (k + cntR c l) x]
  | [], k => by simp [mkRow, cntR]
  | y :: r, k => by
    rw [List.cons_append, mkRow, mkRow, mkRow_snoc f c x r, List.cons_append]
    unfold cntR
    rw [List.map_cons, List.sum_cons, Nat.add_assoc]
/-- A row under way. -/
def mkRowAt {α : Type} (f : Nat → α → α) (c : α → Nat) (k : Nat) (l : List α) (j : Nat) : List α := mkRow f c k (l.take j) ++ l.drop j
section
variable {α : Type} {f : Nat → α → α} {c : α → Nat} {k : Nat} {l : List α} {j : Nat}
theorem mkRowAt_0 : mkRowAt f c k l 0 = l := by simp [mkRowAt, mkRow]
theorem mkRowAt_all : mkRowAt f c k l l.length = mkRow f c k l := by simp [mkRowAt]
theorem mkRowAt_at (h : j < l.length) : (mkRowAt f c k l j)[j]? = some l[j] := by
  have hl : (mkRow f c k (l.take j)).length = j := by rw [mkRow_len, List.length_take]; omega
  unfold mkRowAt
  rw [List.getElem?_append_right (by omega), hl, Nat.sub_self, List.getElem?_drop]
  simp [h]
theorem mkRowAt_set (h : j < l.length) (x : α) : (mkRowAt f c k l j).set j x = mkRow f c k (l.take j) ++ x :: l.drop (j + 1) := by
  have hl : (mkRow f c k (l.take j)).length = j := by rw [mkRow_len, List.length_take]; omega
  unfold mkRowAt
  rw [List.set_append_right _ _ (by omega), hl, Nat.sub_self, List.drop_eq_getElem_cons h, List.set_cons_zero]
theorem mkRowAt_succ (h : j < l.length) : mkRow f c k (l.take j) ++ f (k + cntR c (l.take j)) l[j] :: l.drop (j + 1) = mkRowAt f c k l (j + 1) := by
  unfold mkRowAt
  rw [List.take_succ_eq_append_getElem h, mkRow_snoc, List.append_assoc]; rfl
theorem cnt_succ (h : j < l.length) : cntR c (l.take (j + 1)) = cntR c (l.take j) + c l[j] := by
  exact sum_take_snoc c l j l[j] (List.getElem?_eq_getElem h)
theorem cnt_le : cntR c (l.take j) ≤ cntR c l := by
  unfold cntR
  rw [List.map_take]; exact sum_take_le _ _
theorem mkRow_at (h : j < l.length) : (mkRow f c k l)[j]? = some (f (k + cntR c (l.take j)) l[j]) := by
  induction l generalizing j k with
  | nil => simp at h
  | cons x r ih =>
    cases j with
    | zero => simp [mkRow, cntR]
    | succ j =>
      rw [mkRow, List.getElem?_cons_succ, ih (by simpa using h), List.take_succ_cons, List.getElem_cons_succ]
      unfold cntR
      rw [List.map_cons, List.sum_cons, Nat.add_assoc]
theorem mid_at {A B : List α} {x : α} (h : A.length = j) : (A ++ x :: B)[j]? = some x := by
  rw [List.getElem?_append_right (by omega), h, Nat.sub_self]; rfl
theorem mid_set {A B : List α} {x : α} (h : A.length = j) (y : α) : (A ++ x :: B).set j y = A ++ y :: B := by
  rw [List.set_append_right _ _ (by omega), h, Nat.sub_self, List.set_cons_zero]
theorem cell_set_off (w : World) (g i j : Nat) (v : Value) (h : i ≠ j) : (w.setCell ⟨g, i, none⟩ v).cell? ⟨g, j, none⟩ = w.cell? ⟨g, j, none⟩ := World.cell?_setCell_other _ _ _ _ (by intro e; injection e with _ e; exact h e)
theorem mkRow_take_len (h : j < l.length) : (mkRow f c k (l.take j)).length = j := by rw [mkRow_len, List.length_take]; omega
end
def cntMsg (m : Msg) : Nat := m.ptrs.length + 2
def mkMsg (k : Nat) (m : Msg) : Msg := ⟨(k : Int), mkS (k + 1) m.ptrs.length, ((k : Int) + 1 + (m.ptrs.length : Int)) % 3 == 0⟩

end Go.Proofs.YtlfonikfjibloaaGreatDoor

namespace Go.Proofs.YtlfonikfjibloaaGreatDoor
open Go.RowKit

def cntWat (m : Wat) : Nat := 5 + cntR cntMsg m.queue
def mkWat (k : Nat) (m : Wat) : Wat := ⟨(k : Int), mkText (k + 1), (k : Int) + 1 + 1, (k : Int) + 1 + 1 + 1, ((k : Int) + 1 + 1 + 1 + 1) % 3 == 0, mkRow mkMsg cntMsg (k + 1 + 1 + 1 + 1 + 1) m.queue⟩
end Go.Proofs.YtlfonikfjibloaaGreatDoor

namespace Go.Proofs.YtlfonikfjibloaaGreatDoor
open Go.RowKit

def cntNws (m : Nws) : Nat := m.ptrs.length + 1
def mkNws (k : Nat) (m : Nws) : Nws := ⟨(k : Int), mkS (k + 1) m.ptrs.length⟩
end Go.Proofs.YtlfonikfjibloaaGreatDoor

namespace Go.Proofs.YtlfonikfjibloaaGreatDoor
open Go.RowKit

end Go.Proofs.YtlfonikfjibloaaGreatDoor

namespace Go.Proofs.YtlfonikfjibloaaGreatDoor
open Go.RowKit

/-- The element types of the blocks. -/
def Tys (ts : List TypeId) (w : World) (bl : List Nat) : Prop := ∀ b ∈ bl, ∃ cur t, w.heap[b]? = some (.cells cur t (0, 0)) ∧ t ∈ ts
theorem own_ty {w : World} {B e size n : Nat} {v : Value} {xs : List Value} (h : w.ownsRow B e size v n xs) : Tys [e] w v.ownBlock.toList := by
  intro b hb
  rcases h.2 with ⟨hv, _⟩ | ⟨g, cap, cur, hv, _, hg, _⟩
  · rw [hv] at hb; simp [Value.ownBlock] at hb
  · rw [hv] at hb; simp [Value.ownBlock] at hb
    subst hb; exact ⟨cur, e, hg, by simp⟩
theorem Tys.mono {ts ts' : List TypeId} {w : World} {bl : List Nat} (h : Tys ts w bl) (hs : ∀ t ∈ ts, t ∈ ts') : Tys ts' w bl := fun b hb => by
  obtain ⟨cur, t, h1, h2⟩ := h b hb; exact ⟨cur, t, h1, hs t h2⟩
theorem Tys.app {ts : List TypeId} {w : World} {bl cl : List Nat} (h : Tys ts w bl) (k : Tys ts w cl) : Tys ts w (bl ++ cl) := fun b hb => by
  rcases List.mem_append.1 hb with hb | hb
  · exact h b hb
  · exact k b hb
theorem Tys.keep {ts : List TypeId} {w w' : World} {bl : List Nat} (h : Tys ts w bl) (hk : Kp bl w w') : Tys ts w' bl := fun b hb => by
  obtain ⟨cur, t, h1, h2⟩ := h b hb; exact ⟨cur, t, (hk b hb).trans h1, h2⟩
theorem orow_ty {α : Type} {e : Elem α} {ts : List TypeId} (he : ∀ {w vs x bl}, e.E w vs x bl → Tys ts w bl) {w : World} {v : Value} {xs : List α} {bl : List Nat} (h : ORow e w v xs bl) : Tys (e.T :: ts) w bl := by
  obtain ⟨ps, hl, hE, ho, rfl⟩ := h
  refine ((own_ty ho).mono (by simp)).app fun b hb => ?_
  obtain ⟨p, hp, hb⟩ := List.mem_flatMap.1 hb
  obtain ⟨j, hj, rfl⟩ := List.mem_iff_getElem.1 hp
  obtain ⟨cur, t, h1, h2⟩ := he (hE j ps[j] (xs[j]'(by omega)) (List.getElem?_eq_getElem hj) (List.getElem?_eq_getElem (by omega))) b hb
  exact ⟨cur, t, h1, List.mem_cons_of_mem _ h2⟩
theorem str_ty {w : World} {vs : List Value} {s : ByteArray} {bl : List Nat} (h : strE.E w vs s bl) : Tys [] w bl := by
  obtain ⟨_, rfl⟩ := h; intro b hb; simp at hb
theorem ostr_ty {w : World} {v : Value} {ss : List ByteArray} {bl : List Nat} (h : OStr w v ss bl) : Tys [9] w bl := orow_ty (e := strE) str_ty h
theorem msg_ty {w : World} {vs : List Value} {m : Msg} {bl : List Nat} (h : msgE.E w vs m bl) : Tys [9] w bl := by obtain ⟨q, _, h⟩ := h; exact ostr_ty h
theorem nws_ty {w : World} {vs : List Value} {m : Nws} {bl : List Nat} (h : nwsE.E w vs m bl) : Tys [9] w bl := by obtain ⟨q, _, h⟩ := h; exact ostr_ty h
theorem wat_ty {w : World} {vs : List Value} {m : Wat} {bl : List Nat} (h : watE.E w vs m bl) : Tys [58, 9] w bl := by obtain ⟨q, _, h⟩ := h; exact orow_ty (e := msgE) msg_ty h
theorem own_base {w : World} {B e size n : Nat} {v : Value} {xs : List Value} (h : w.ownsRow 0 e size v n xs) (hB : ∀ g, v.ownBlock = some g → B ≤ g) : w.ownsRow B e size v n xs := by
  refine ⟨h.1, ?_⟩
  rcases h.2 with h0 | ⟨g, cap, cur, hv, _, r⟩
  · exact .inl h0
  · exact .inr ⟨g, cap, cur, hv, hB g (by rw [hv]; rfl), r⟩
/-- One more element at the end of a row that the call owns: what is asked of the append, and what comes of it. -/
theorem ORow.app {α : Type} {e : Elem α} {ts : List TypeId} (he : ∀ {w vs x bl}, e.E w vs x bl → Tys ts w bl) (hts : e.T ∉ ts) {B : Nat} {w : World} {v : Value} {xs : List α} {bl : List Nat} (h : ORow e w v xs bl) (hF : Fsh B bl)
    {vs : List Value} {x : α} {ib : List Nat} (hE : e.E w vs x ib) (hFi : Fsh B ib) (hap : ∀ b ∈ ib, b ∉ bl) :
    ∃ cs, w.ownsRow B e.T e.wd v xs.length cs ∧ ∀ v' w', w'.ownsRow B e.T e.wd v' (xs.length + 1) (cs ++ vs) → w.grownBy w' v.ownBlock → ∃ bl', ORow e w' v' (xs ++ [x]) bl' ∧ Fsh B bl' ∧ ∀ b ∈ bl', b ∈ bl ∨ b ∈ ib ∨ v'.ownBlock = some b := by
  have hlt := h.lt
  have hlti := e.lt hE
  obtain ⟨ps, hl, hE0, ho, rfl⟩ := h
  refine ⟨ps.flatMap (·.1), own_base ho fun g hg => hF.2 g (by simp [hg]), fun v' w' ho' hg => ?_⟩
  have hd := hF.1
  rw [List.nodup_append] at hd
  have hk : Kp (ps.flatMap (·.2)) w w' := fun b hb => hg.block b (hlt b (List.mem_append.2 (.inr hb))) fun e1 => hd.2.2 b (by simp [← e1]) b hb rfl
  have hki : Kp ib w w' := fun b hb => hg.block b (hlti b hb) fun e1 => hap b hb (List.mem_append.2 (.inl (by simp [← e1])))
  have hE' := e.keep hE hki
  have hT : Tys ts w' (ps.flatMap (·.2) ++ ib) := by
    refine Tys.app (Tys.keep (fun b hb => ?_) hk) (he hE')
    obtain ⟨p, hp, hb⟩ := List.mem_flatMap.1 hb
    obtain ⟨j, hj, rfl⟩ := List.mem_iff_getElem.1 hp
    exact he (hE0 j ps[j] (xs[j]'(by omega)) (List.getElem?_eq_getElem hj) (List.getElem?_eq_getElem (by omega))) b hb
  refine ⟨v'.ownBlock.toList ++ (ps.flatMap (·.2) ++ ib), ⟨ps ++ [(vs, ib)], by simp [hl], ?_, ?_, by simp⟩, ⟨?_, ?_⟩, ?_⟩
  · intro j p y hp hy
    by_cases hj : j < xs.length
    · rw [List.getElem?_append_left (by omega)] at hp hy
      exact e.keep (hE0 j p y hp hy) fun b hb => hk b (List.mem_flatMap.2 ⟨p, List.mem_of_getElem? hp, hb⟩)
    · have hy' := (List.getElem?_eq_some_iff.1 hy).1
      rw [List.length_append, List.length_singleton] at hy'
      have : j = xs.length := by omega
      subst this
      rw [← hl] at hp
      simp at hp hy
      subst hp; subst hy; exact hE'
  · rw [List.flatMap_append, List.length_append]
    have := own_mono ho' (Nat.zero_le B)
    simpa using this
  · rw [List.nodup_append]
    refine ⟨by cases v'.ownBlock <;> simp, ?_, ?_⟩
    · rw [List.nodup_append]
      exact ⟨hd.2.1, hFi.1, fun a ha b hb e1 => hap b hb (List.mem_append.2 (.inr (e1 ▸ ha)))⟩
    · intro a ha b hb e1
      subst e1
      obtain ⟨cur, t, h1, h2⟩ := own_ty ho' a ha
      obtain ⟨cur', t', h1', h2'⟩ := hT a hb
      rw [h1] at h1'
      simp at h1' h2
      exact hts (h2 ▸ h1'.2 ▸ h2')
  · intro b hb
    rcases List.mem_append.1 hb with hb | hb
    · exact (ho'.lt b (by simpa using hb)).1
    · rcases List.mem_append.1 hb with hb | hb
      · exact hF.2 b (List.mem_append.2 (.inr hb))
      · exact hFi.2 b hb
  · intro b hb
    rcases List.mem_append.1 hb with hb | hb
    · exact .inr (.inr (by simpa using hb))
    · rcases List.mem_append.1 hb with hb | hb
      · exact .inl (List.mem_append.2 (.inr hb))
      · exact .inr (.inl hb)
theorem OStr.cells {w : World} {v : Value} {ss : List ByteArray} {bl : List Nat} (h : OStr w v ss bl) : (v = .slice none 0 0 ∧ ss = []) ∨ ∃ g cap, v = .slice (some ⟨g, 0, none⟩) ss.length cap ∧ ∀ (j : Nat) (u : Value), (ss.map Value.string)[j]? = some u → w.cell? ((⟨g, 0, none⟩ : Addr).add j) = some u := by
  obtain ⟨ho, _⟩ := ostr_iff.1 h
  rcases ho.2 with ⟨hv, h0⟩ | ⟨g, cap, cur, hv, _⟩
  · exact .inl ⟨hv, List.eq_nil_of_length_eq_zero h0⟩
  · exact .inr ⟨g, cap, hv, fun j u hu => ho.cells (by rw [hv]; rfl) j u hu⟩
theorem ORow.head {α : Type} {e : Elem α} {w : World} {v : Value} {xs : List α} {bl : List Nat} (h : ORow e w v xs bl) {g : Nat} (hg : v.ownBlock = some g) : g ∈ bl := by
  obtain ⟨cb, h⟩ := h.split
  rw [h, hg]; simp
theorem str_one (ss : List ByteArray) : ∀ u ∈ ss.map Value.string, u.oneCell' = true := by
  intro u hu; obtain ⟨s, _, rfl⟩ := List.mem_map.1 hu; rfl

theorem wpList_append_str {w : World} {ops : Array Oper} {rest : List Oper} {o : Oper} {a : Act} {Q : Exit → Act → World → Prop} (hg : o.guard = none) (s x : Operand)
    (ho : o.op = .call { callee := .builtin .append, args := #[s, x], argTypes := #[51, 51] }) {B : Nat} {v u : Value} {ss us : List ByteArray} {bk : List Nat} (hs : a.eval s = v) (hx : a.eval x = u)
    (h : w.ownsRow B 9 1 v ss.length (ss.map .string)) (k : OStr w u us bk) (hB : B ≤ w.heap.size) (hl : ss.length + us.length ≤ 4000000)
    (hK : ∀ v' w', w'.ownsRow B 9 1 v' (ss ++ us).length ((ss ++ us).map .string) → w.grownBy w' v.ownBlock → wpList Tryz.prog ops Q rest (a.put o.dst v') w') : wpList Tryz.prog ops Q (o :: rest) a w := by
  obtain ⟨i0, hi, hz0, hz1, hz2⟩ := info_parts infoStr
  rcases k.cells with ⟨rfl, rfl⟩ | ⟨g, cap, rfl, hcell⟩
  · refine wpList_append_own_none hg s x 51 ho B 9 i0 1 Tryz.underlying51 hi v _ _ hs h hx ?_
    exact hK v w (by rw [List.append_nil]; exact h) (World.grownBy.refl _ _)
  · refine wpList_append_own _ hg s x 51 ho B 9 i0 (.string ByteArray.empty) 1 16 Tryz.underlying51 hi hz0 hz1 hz2 rfl (by decide) v _ _ hs h ⟨g, 0, none⟩ us.length cap (us.map .string) hx (by simp) hcell (str_one us) (by unfold maxLen; omega) (by omega) hB ?_
    intro v' w' h1 h2 _
    refine hK v' w' ?_ h2
    rw [List.length_append, List.map_append]; exact h1
theorem wpList_append_elem {α : Type} {e : Elem α} {ts : List TypeId} (he : ∀ {w vs x bl}, e.E w vs x bl → Tys ts w bl) (hts : e.T ∉ ts) {t : TypeId} (ht : Tryz.prog.underlying t = some (.slice e.T)) {z : Value} {bytes : Nat}
    (hinfo : (Tryz.prog.info? e.T).map (fun i => (i.zero, i.size, i.bytes)) = some (some z, e.wd, bytes)) (hzs : z.cells.size = e.wd) (hsz : 0 < e.wd) (hby : bytes ≤ 100)
    {w : World} {ops : Array Oper} {rest : List Oper} {o : Oper} {a : Act} {Q : Exit → Act → World → Prop} (hg : o.guard = none) (s x : Operand)
    (ho : o.op = .call { callee := .builtin .append, args := #[s, x], argTypes := #[t, t] }) {B : Nat} {v : Value} {xs : List α} {bl : List Nat} (hs : a.eval s = v)
    (h : ORow e w v xs bl) (hF : Fsh B bl) {vs : List Value} {y : α} {ib : List Nat} (hE : e.E w vs y ib) (hFi : Fsh B ib) (hap : ∀ b ∈ ib, b ∉ bl) {g : Nat} (hx : a.eval x = .slice (some ⟨g, 0, none⟩) 1 1)
    (hcell : ∀ (j : Nat) (u : Value), vs[j]? = some u → w.cell? ((⟨g, 0, none⟩ : Addr).add j) = some u) (h1 : ∀ u ∈ vs, u.oneCell' = true) (hB : B ≤ w.heap.size) (hl : xs.length ≤ 40000000)
    (hK : ∀ v' w' bl', ORow e w' v' (xs ++ [y]) bl' → Fsh B bl' → (∀ b ∈ bl', b ∈ bl ∨ b ∈ ib ∨ v'.ownBlock = some b) → w.grownBy w' v.ownBlock → wpList Tryz.prog ops Q rest (a.put o.dst v') w') : wpList Tryz.prog ops Q (o :: rest) a w := by
  obtain ⟨i0, hi, hz0, hz1, hz2⟩ := info_parts hinfo
  obtain ⟨cs, hown, hfin⟩ := h.app he hts hF hE hFi hap
  refine wpList_append_own _ hg s x t ho B e.T i0 z e.wd bytes ht hi hz0 hz1 hz2 hzs hsz v _ cs hs hown ⟨g, 0, none⟩ 1 1 vs hx (by rw [e.len hE]; omega) hcell h1 (by unfold maxLen; omega) ?_ hB ?_
  · have : (xs.length + 1) * bytes ≤ (xs.length + 1) * 100 := Nat.mul_le_mul_left _ hby
    omega
  · intro v' w' h1 h2 _
    obtain ⟨bl', h3, h4, h5⟩ := hfin v' w' h1 h2
    exact hK v' w' bl' h3 h4 h5 h2
theorem step_append_elem {α : Type} {e : Elem α} {ts : List TypeId} (he : ∀ {w vs x bl}, e.E w vs x bl → Tys ts w bl) (hts : e.T ∉ ts) {t : TypeId} (ht : Tryz.prog.underlying t = some (.slice e.T)) {z : Value} {bytes : Nat}
    (hinfo : (Tryz.prog.info? e.T).map (fun i => (i.zero, i.size, i.bytes)) = some (some z, e.wd, bytes)) (hzs : z.cells.size = e.wd) (hsz : 0 < e.wd) (hby : bytes ≤ 100)
    {w : World} {ops : Array Oper} {o : Oper} {a : Act} {K : Act → World → Prop} {Q : Exit → Act → World → Prop} {F : Prop} (hg : o.guard = none) (s x : Operand)
    (ho : o.op = .call { callee := .builtin .append, args := #[s, x], argTypes := #[t, t] }) {B : Nat} {v : Value} {xs : List α} {bl : List Nat} (hs : a.eval s = v)
    (h : ORow e w v xs bl) (hF : Fsh B bl) {vs : List Value} {y : α} {ib : List Nat} (hE : e.E w vs y ib) (hFi : Fsh B ib) (hap : ∀ b ∈ ib, b ∉ bl) {g : Nat} (hx : a.eval x = .slice (some ⟨g, 0, none⟩) 1 1)
    (hcell : ∀ (j : Nat) (u : Value), vs[j]? = some u → w.cell? ((⟨g, 0, none⟩ : Addr).add j) = some u) (h1 : ∀ u ∈ vs, u.oneCell' = true) (hB : B ≤ w.heap.size) (hl : xs.length ≤ 40000000)
    (hK : ∀ v' w' bl', ORow e w' v' (xs ++ [y]) bl' → Fsh B bl' → (∀ b ∈ bl', b ∈ bl ∨ b ∈ ib ∨ v'.ownBlock = some b) → w.grownBy w' v.ownBlock → K (a.put o.dst v') w') :
    if Region.wanted o (yielded ops a.tmps) = true then Oper.wp Tryz.prog o a w K Q else F := by
  have hw : Region.wanted o (yielded ops a.tmps) = true := by simp [Region.wanted, hg]
  rw [if_pos hw]
  obtain ⟨i0, hi, hz0, hz1, hz2⟩ := info_parts hinfo
  obtain ⟨cs, hown, hfin⟩ := h.app he hts hF hE hFi hap
  refine wp_append_own w s x t ho B e.T i0 z e.wd bytes ht hi hz0 hz1 hz2 hzs hsz v _ cs hs hown ⟨g, 0, none⟩ 1 1 vs hx (by rw [e.len hE]; omega) hcell h1 (by unfold maxLen; omega) ?_ hB ?_
  · have : (xs.length + 1) * bytes ≤ (xs.length + 1) * 100 := Nat.mul_le_mul_left _ hby
    omega
  · intro v' w' h1 h2 _
    obtain ⟨bl', h3, h4, h5⟩ := hfin v' w' h1 h2
    exact hK v' w' bl' h3 h4 h5 h2
theorem lit_cells (w : World) (vs : List Value) (T : TypeId) : ∀ (j : Nat) (u : Value), vs[j]? = some u → (w.alloc (.cells vs.toArray T)).cell? ((⟨w.heap.size, 0, none⟩ : Addr).add j) = some u := by
  intro j u hu
  have h := Lib.cell_of_heap (heap_alloc_new w (.cells vs.toArray T)) j
  rw [Go.WideShapes.add_plain, Nat.zero_add, h]
  simpa using hu
theorem ostr_own {w : World} {v : Value} {ss : List ByteArray} {B : Nat} (h : w.ownsRow B 9 1 v ss.length (ss.map .string)) : OStr w v ss v.ownBlock.toList ∧ Fsh B v.ownBlock.toList :=
  ⟨ostr_iff.2 ⟨own_mono h (Nat.zero_le _), rfl⟩, by cases v.ownBlock <;> simp, fun b hb => (h.lt b (by simpa using hb)).1⟩
theorem empty_row (w : World) (e size : Nat) : (w.alloc (.cells #[] e)).ownsRow w.heap.size e size (.slice (some ⟨w.heap.size, 0, none⟩) 0 0) 0 [] := by
  exact w.ownsRow_made #[] 0 (Nat.le_refl _) (Nat.zero_le _) (by simp)
end Go.Proofs.YtlfonikfjibloaaGreatDoor

namespace Go.Proofs.YtlfonikfjibloaaGreatDoor
open Go.RowKit

end Go.Proofs.YtlfonikfjibloaaGreatDoor

namespace Go.Proofs.YtlfonikfjibloaaGreatDoor
open Go.RowKit

/-- The place of a client's first watch, -1 when there is none. -/
def findI (ws : List Wat) (c : Int) : Int := match ws.findIdx? (fun x => x.client == c) with
  | some i => (i : Int)
  | none => -1
theorem findI_at {ws : List Wat} {c : Int} {j : Nat} (hj : j < ws.length) (hc : ws[j].client = c) (hb : ∀ i (h : i < ws.length), i < j → ws[i].client ≠ c) : findI ws c = (j : Int) := by
  have : ws.findIdx? (fun x => x.client == c) = some j := by
    rw [List.findIdx?_eq_some_iff_getElem]
    exact ⟨hj, by simp [hc], fun i hi => by simpa using hb i (by omega) hi⟩
  unfold findI; rw [this]
theorem findI_no {ws : List Wat} {c : Int} (hb : ∀ i (h : i < ws.length), ws[i].client ≠ c) : findI ws c = -1 := by
  have : ws.findIdx? (fun x => x.client == c) = none := by
    rw [List.findIdx?_eq_none_iff]
    intro x hx
    obtain ⟨i, hi, rfl⟩ := List.mem_iff_getElem.1 hx
    simpa using hb i hi
  unfold findI; rw [this]
theorem findI_cases (ws : List Wat) (c : Int) : findI ws c = -1 ∨ ∃ j : Nat, ∃ h : j < ws.length, findI ws c = (j : Int) ∧ ws[j].client = c := by
  unfold findI
  cases h : ws.findIdx? (fun x => x.client == c) with
  | none => exact .inl rfl
  | some j =>
    rw [List.findIdx?_eq_some_iff_getElem] at h
    obtain ⟨hj, hc, _⟩ := h
    exact .inr ⟨j, hj, rfl, by simpa using hc⟩

/-- The watches up to place k but the one at place s. -/
def skipT (ws : List Wat) (s : Int) : Nat → List Wat
  | 0 => []
  | k + 1 => skipT ws s k ++ (if (k : Int) = s then [] else ws[k]?.toList)
theorem skipT_len (ws : List Wat) (s : Int) : ∀ k, (skipT ws s k).length ≤ k
  | 0 => Nat.le_refl _
  | k + 1 => by
    have h1 := skipT_len ws s k
    rw [skipT, List.length_append]
    have : (if (k : Int) = s then [] else ws[k]?.toList).length ≤ 1 := by
      split
      · simp
      · cases ws[k]? <;> simp
    omega
def copyH (h : Hb) (s : Int) (d : Nat) : Hb := ⟨skipT h.watches s h.watches.length, h.waiting.drop d⟩

/-- The state of l5Copy: the argument, the result, the copy under way. -/
structure CS (w : World) (A B : Obj) (wr : World) (p q : Value) (ws : List Wat) (ns : List Nws) (b1 b2 : List Nat) : Prop where
  bel : Below w.heap.size w wr
  k0 : wr.heap[w.heap.size]? = some A
  k1 : wr.heap[w.heap.size + 1]? = some B
  ko : wr.heap[w.heap.size + 1 + 1 + 1 + 1]? = some (.cells #[p, q] 47 (0, 0))
  o1 : ORow watE wr p ws b1
  o2 : ORow nwsE wr q ns b2
  fs : Fsh (w.heap.size + 1 + 1) (b1 ++ b2)
section
variable {w : World} {A B : Obj} {wr w3 : World} {p p' q q' : Value} {ws : List Wat} {ns : List Nws} {b1 b2 b1' b2' ib : List Nat}
theorem hub_not {w : World} {g : Nat} {cur : Array Value} {bl : List Nat} {ts : List TypeId} (hk : w.heap[g]? = some (.cells cur 47 (0, 0))) (ht : Tys ts w bl) (hn : 47 ∉ ts) : g ∉ bl := fun hm => by
  obtain ⟨cur', t, h1, h2⟩ := ht g hm
  rw [hk] at h1; injection h1 with h1; injection h1 with _ h1
  exact hn (h1 ▸ h2)
theorem wats_ty {w : World} {v : Value} {xs : List Wat} {bl : List Nat} (h : ORow watE w v xs bl) : Tys [219, 58, 9] w bl := orow_ty (e := watE) wat_ty h
theorem nwss_ty {w : World} {v : Value} {xs : List Nws} {bl : List Nat} (h : ORow nwsE w v xs bl) : Tys [53, 9] w bl := orow_ty (e := nwsE) nws_ty h
theorem CS.below (h : CS w A B wr p q ws ns b1 b2) (hb : Below wr.heap.size wr w3) : CS w A B w3 p q ws ns b1 b2 := by
  have hs := h.bel.size
  have hko := (Array.getElem?_eq_some_iff.1 h.ko).1
  exact ⟨below_next h.bel hb, (hb.block _ (by omega)).trans h.k0, (hb.block _ (by omega)).trans h.k1, (hb.block _ hko).trans h.ko, h.o1.below hb, h.o2.below hb, h.fs⟩
theorem CS.koW (h : CS w A B wr p q ws ns b1 b2) (hg : wr.grownBy w3 p.ownBlock) : w3.heap[w.heap.size + 1 + 1 + 1 + 1]? = some (.cells #[p, q] 47 (0, 0)) :=
  (hg.block _ (Array.getElem?_eq_some_iff.1 h.ko).1 fun e => hub_not h.ko (wats_ty h.o1) (by decide) (h.o1.head e.symm)).trans h.ko
theorem CS.koN (h : CS w A B wr p q ws ns b1 b2) (hg : wr.grownBy w3 q.ownBlock) : w3.heap[w.heap.size + 1 + 1 + 1 + 1]? = some (.cells #[p, q] 47 (0, 0)) :=
  (hg.block _ (Array.getElem?_eq_some_iff.1 h.ko).1 fun e => hub_not h.ko (nwss_ty h.o2) (by decide) (h.o2.head e.symm)).trans h.ko
theorem CS.watch (h : CS w A B wr p q ws ns b1 b2) (hg : wr.grownBy w3 p.ownBlock) {x : Wat} (ho : ORow watE w3 p' (ws ++ [x]) b1') (hF : Fsh (w.heap.size + 1 + 1) b1') (hm : ∀ b ∈ b1', b ∈ b1 ∨ b ∈ ib ∨ p'.ownBlock = some b) (hi : ∀ b ∈ ib, b ∉ b2) :
    CS w A B (w3.setCell ⟨w.heap.size + 1 + 1 + 1 + 1, 0, none⟩ p') p' q (ws ++ [x]) ns b1' b2 := by
  have hko := (Array.getElem?_eq_some_iff.1 h.ko).1
  have hfs := h.fs
  have hd := hfs.1
  rw [List.nodup_append] at hd
  have hown : ∀ g, p.ownBlock = some g → g ∈ b1 := fun g hg => h.o1.head hg
  have hge : ∀ g, p.ownBlock = some g → w.heap.size + 1 + 1 ≤ g := fun g hg => hfs.2 g (List.mem_append.2 (.inl (hown g hg)))
  have hn1 := hub_not h.ko (wats_ty h.o1) (by decide)
  have hn2 := hub_not h.ko (nwss_ty h.o2) (by decide)
  have ko3 : w3.heap[w.heap.size + 1 + 1 + 1 + 1]? = some (.cells #[p, q] 47 (0, 0)) := (hg.block _ hko fun e => hn1 (hown _ e.symm)).trans h.ko
  have hn3 := hub_not ko3 (wats_ty ho) (by decide)
  have q3 : ORow nwsE w3 q ns b2 := h.o2.keep fun b hb => hg.block b (h.o2.lt b hb) fun e => hd.2.2 b (hown b e.symm) b hb rfl
  have hs := h.bel.size
  refine ⟨(h.bel.grown hg hs fun k hk => by have := hge k hk; omega).setCell (p := ⟨w.heap.size + 1 + 1 + 1 + 1, 0, none⟩) (by simp; omega) _, ?_, ?_, ?_, ho.other hn3 0 p', q3.other hn2 0 p', ?_⟩
  · exact (Below.heap_setCell _ _ _ _ (by simp; omega)).trans ((hg.block _ (by omega) fun e => by have := hge _ e.symm; omega).trans h.k0)
  · exact (Below.heap_setCell _ _ _ _ (by simp)).trans ((hg.block _ (by omega) fun e => by have := hge _ e.symm; omega).trans h.k1)
  · exact heap_setCell_same _ _ 0 _ _ _ ko3
  · refine ⟨List.nodup_append.2 ⟨hF.1, hd.2.1, fun a ha b hb e => ?_⟩, fun b hb => ?_⟩
    · subst e
      rcases hm a ha with h1 | h1 | h1
      · exact hd.2.2 a h1 a hb rfl
      · exact hi a h1 hb
      · obtain ⟨cs, hcs⟩ := ho.own
        obtain ⟨cur, t, e1, e2⟩ := own_ty hcs a (by simp [h1])
        obtain ⟨cur', t', e3, e4⟩ := nwss_ty q3 a hb
        rw [e1] at e3
        injection e3 with e3; injection e3 with _ e3
        simp at e2
        rw [← e3, e2] at e4
        exact absurd e4 (by decide)
    · rcases List.mem_append.1 hb with hb | hb
      · exact hF.2 b hb
      · exact hfs.2 b (List.mem_append.2 (.inr hb))
theorem CS.news (h : CS w A B wr p q ws ns b1 b2) (hg : wr.grownBy w3 q.ownBlock) {x : Nws} (ho : ORow nwsE w3 q' (ns ++ [x]) b2') (hF : Fsh (w.heap.size + 1 + 1) b2') (hm : ∀ b ∈ b2', b ∈ b2 ∨ b ∈ ib ∨ q'.ownBlock = some b) (hi : ∀ b ∈ ib, b ∉ b1) :
    CS w A B (w3.setCell ⟨w.heap.size + 1 + 1 + 1 + 1, 1, none⟩ q') p q' ws (ns ++ [x]) b1 b2' := by
  have hko := (Array.getElem?_eq_some_iff.1 h.ko).1
  have hfs := h.fs
  have hd := hfs.1
  rw [List.nodup_append] at hd
  have hown : ∀ g, q.ownBlock = some g → g ∈ b2 := fun g hg => h.o2.head hg
  have hge : ∀ g, q.ownBlock = some g → w.heap.size + 1 + 1 ≤ g := fun g hg => hfs.2 g (List.mem_append.2 (.inr (hown g hg)))
  have hn1 := hub_not h.ko (wats_ty h.o1) (by decide)
  have hn2 := hub_not h.ko (nwss_ty h.o2) (by decide)
  have ko3 : w3.heap[w.heap.size + 1 + 1 + 1 + 1]? = some (.cells #[p, q] 47 (0, 0)) := (hg.block _ hko fun e => hn2 (hown _ e.symm)).trans h.ko
  have hn3 := hub_not ko3 (nwss_ty ho) (by decide)
  have q3 : ORow watE w3 p ws b1 := h.o1.keep fun b hb => hg.block b (h.o1.lt b hb) fun e => hd.2.2 b hb b (hown b e.symm) rfl
  have hs := h.bel.size
  refine ⟨(h.bel.grown hg hs fun k hk => by have := hge k hk; omega).setCell (p := ⟨w.heap.size + 1 + 1 + 1 + 1, 1, none⟩) (by simp; omega) _, ?_, ?_, ?_, q3.other hn1 1 q', ho.other hn3 1 q', ?_⟩
  · exact (Below.heap_setCell _ _ _ _ (by simp; omega)).trans ((hg.block _ (by omega) fun e => by have := hge _ e.symm; omega).trans h.k0)
  · exact (Below.heap_setCell _ _ _ _ (by simp)).trans ((hg.block _ (by omega) fun e => by have := hge _ e.symm; omega).trans h.k1)
  · exact heap_setCell_same _ _ 1 _ _ _ ko3
  · refine ⟨List.nodup_append.2 ⟨hd.1, hF.1, fun a ha b hb e => ?_⟩, fun b hb => ?_⟩
    · subst e
      rcases hm a hb with h1 | h1 | h1
      · exact hd.2.2 a ha a h1 rfl
      · exact hi a h1 ha
      · obtain ⟨cs, hcs⟩ := ho.own
        obtain ⟨cur, t, e1, e2⟩ := own_ty hcs a (by simp [h1])
        obtain ⟨cur', t', e3, e4⟩ := wats_ty q3 a ha
        rw [e1] at e3
        injection e3 with e3; injection e3 with _ e3
        simp at e2
        rw [← e3, e2] at e4
        exact absurd e4 (by decide)
    · rcases List.mem_append.1 hb with hb | hb
      · exact hfs.2 b (List.mem_append.2 (.inl hb))
      · exact hF.2 b hb
end
end Go.Proofs.YtlfonikfjibloaaGreatDoor
