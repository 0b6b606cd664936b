import Derived.Deep.RegionWith
import Derived.Deep.RegionLaw
import Derived.Test.YtocnekbedcnmgaaGreatDoorBf38
import Derived.Test.YtocnekbedcnmgaaGreatDoorBf2
import Derived.Test.YtocnekbedcnmgaaGreatDoorBf1
import Derived.Laws.AppendOwnNone
import Derived.Deep.RegionHeld3
namespace Go.Proofs.YtocnekbedcnmgaaGreatDoor
open Go.RowKit

theorem ORow.len {α : Type} {e : Elem α} {w : World} {v : Value} {xs : List α} {bl : List Nat} (h : ORow e w v xs bl) : xs.length ≤ maxLen := by
  obtain ⟨ps, hl, hE, ho, _⟩ := h
  rcases ho.2 with ⟨hv, h0⟩ | ⟨g, cap, cur, hv, _, _, h1, h2, _⟩
  · omega
  · omega

end Go.Proofs.YtocnekbedcnmgaaGreatDoor


namespace Go.Proofs.YtocnekbedcnmgaaGreatDoor
open Go.RowKit

/-- An operation. -/
structure POp where
  kind : Int
  path : ByteArray
  src : ByteArray
  val : ByteArray
def opV (m : POp) : List Value := [.int .i64 m.kind, .string m.path, .string m.src, .string m.val]
def opE : Elem POp where
  T := 59
  wd := 4
  E := fun _ vs m bl => vs = [.int .i64 m.kind, .string m.path, .string m.src, .string m.val] ∧ bl = []
  len := fun h => by rw [h.1]; rfl
  lt := fun h b hb => by rw [h.2] at hb; cases hb
  keep := fun h _ => h
set_option maxRecDepth 100000 in
set_option maxHeartbeats 1600000 in
theorem eqOp_walk (a0 a1 a2 a3 b0 b1 b2 b3 : Value) (m : POp) (ib jb : List Nat) (w : World) (h : opE.E w [a0, a1, a2, a3] m ib) (k : opE.E w [b0, b1, b2, b3] m jb) :
    Calls Tryz.prog 40 #[.agg #[a0, a1, a2, a3], .agg #[b0, b1, b2, b3]] w fun e w' => e = .returned (.bool true) ∧ Below w.heap.size w w' := by
  have hq := h.1
  injection hq with e0 hq
  subst e0
  injection hq with e1 hq
  subst e1
  injection hq with e2 hq
  subst e2
  injection hq with e3 hq
  subst e3
  clear hq
  have hq := k.1
  injection hq with e0 hq
  subst e0
  injection hq with e1 hq
  subst e1
  injection hq with e2 hq
  subst e2
  injection hq with e3 hq
  subst e3
  clear hq
  go_enter Tryz.func40, Tryz.ntmps40
  go_wp2
  go_ret
  exact ⟨rfl, below_next (alloc_b w _) (alloc_b _ _)⟩
set_option maxRecDepth 100000 in
set_option maxHeartbeats 1600000 in
theorem eqOps_walk (v v' : Value) (ms : List POp) (bl bl' : List Nat) (w : World) (h : ORow opE w v ms bl) (k : ORow opE w v' ms bl') :
    Calls Tryz.prog 11 #[v, v'] w fun e w' => e = .returned (.bool true) ∧ Below w.heap.size w w' := by
  have hm := h.len
  unfold maxLen at hm
  obtain ⟨xa, xc, rfl, _, hxa⟩ := h.form
  obtain ⟨ya, yc, rfl, _, hya⟩ := k.form
  have H := hide h
  have K := hide k
  clear h k
  go_enter Tryz.func11, Tryz.ntmps11
  go_wp2
  go_loopw [5] (fun i wr => ∃ k : Nat, k ≤ ms.length ∧ i = .int .i64 k ∧ Below w.heap.size w wr) (fun i _ => ms.length - (intOf i).toNat)
  case atStart => exact ⟨0, Nat.zero_le _, rfl, Below.refl _ _⟩
  case round =>
    obtain ⟨k, hk, rfl, hb⟩ := hrel
    by_cases hlt : k < ms.length
    · obtain ⟨g, rfl⟩ := hxa (by omega)
      obtain ⟨g', rfl⟩ := hya (by omega)
      obtain ⟨vs, ib, hE, hc, _⟩ := ((unhide H).below hb).at (List.getElem?_eq_getElem hlt)
      obtain ⟨a0, a1, a2, a3, rfl⟩ := list4 (opE.len hE)
      have c0 : wr.cell? ⟨g, k * 4, none⟩ = _ := (hc 0 _ rfl).1
      have c1 : wr.cell? ⟨g, k * 4 + 1, none⟩ = _ := (hc 1 _ rfl).1
      have c2 : wr.cell? ⟨g, k * 4 + 2, none⟩ = _ := (hc 2 _ rfl).1
      have c3 : wr.cell? ⟨g, k * 4 + 3, none⟩ = _ := (hc 3 _ rfl).1
      obtain ⟨vs, jb, hE', hc', _⟩ := ((unhide K).below hb).at (List.getElem?_eq_getElem hlt)
      obtain ⟨b0, b1, b2, b3, rfl⟩ := list4 (opE.len hE')
      have d0 : wr.cell? ⟨g', k * 4, none⟩ = _ := (hc' 0 _ rfl).1
      have d1 : wr.cell? ⟨g', k * 4 + 1, none⟩ = _ := (hc' 1 _ rfl).1
      have d2 : wr.cell? ⟨g', k * 4 + 2, none⟩ = _ := (hc' 2 _ rfl).1
      have d3 : wr.cell? ⟨g', k * 4 + 3, none⟩ = _ := (hc' 3 _ rfl).1
      have hx : Below wr.heap.size wr wr.drew := (Below.refl _ _).drew
      have HM := hide (eqOp_walk a0 a1 a2 a3 b0 b1 b2 b3 ms[k] ib jb wr.drew (opE.keep hE (.of_below hx (opE.lt hE))) (opE.keep hE' (.of_below hx (opE.lt hE'))))
      have HB := hide hb
      have hlt' : (k : Int) < (ms.length : Int) := by omega
      clear hxa hya hc hc' hE hE' hb hx
      go_wp2
      go_region_law (go_simp; refine (unhide HM).mono ?_; rintro e w1 ⟨rfl, b1⟩)
      all_goals go_wp2
      all_goals go_roundw
      all_goals first
        | exact ⟨k + 1, by omega, by go_num, (unhide HB).drew.trans (b1.mono (by have := (unhide HB).size; simp; omega))⟩
        | (simp [intOf]; omega)
    · clear hxa hya
      go_wp2
      go_ret
      exact ⟨rfl, hb⟩
end Go.Proofs.YtocnekbedcnmgaaGreatDoor


namespace Go.Proofs.YtocnekbedcnmgaaGreatDoor
open Go.RowKit

/-- Rows marked from k on, by what marks an element and how many marks it takes. -/
def mkRow {α : Type} (f : Nat → α → α) (c : α → Nat) : Nat → List α → List α
  | _, [] => []
  | k, x :: r => f k x :: mkRow f c (k + c x) r
def cntR {α : Type} (c : α → Nat) (l : List α) : Nat := (l.map c).sum
theorem mkRow_len {α : Type} (f : Nat → α → α) (c : α → Nat) : ∀ (l : List α) (k : Nat), (mkRow f c k l).length = l.length
  | [], _ => rfl
  | x :: r, k => by rw [mkRow, List.length_cons, mkRow_len f c r, List.length_cons]
theorem mkRow_snoc {α : Type} (f : Nat → α → α) (c : α → Nat) (x : α) : ∀ (l : List α) (k : Nat), mkRow f c k (l ++ [x]) = mkRow f c k l ++ [f (k + cntR c l) x]
  | [], k => by simp [mkRow, cntR]
  | y :: r, k => by
    rw [List.cons_append, mkRow, mkRow, mkRow_snoc f c x r, List.cons_append]
    unfold cntR
    rw [List.map_cons, List.sum_cons, Nat.add_assoc]
/-- A row under way. -/
def mkRowAt {α : Type} (f : Nat → α → α) (c : α → Nat) (k : Nat) (l : List α) (j : Nat) : List α := mkRow f c k (l.take j) ++ l.drop j
section
variable {α : Type} {f : Nat → α → α} {c : α → Nat} {k : Nat} {l : List α} {j : Nat}
theorem mkRowAt_0 : mkRowAt f c k l 0 = l := by simp [mkRowAt, mkRow]
theorem mkRowAt_all : mkRowAt f c k l l.length = mkRow f c k l := by simp [mkRowAt]
theorem mkRowAt_at (h : j < l.length) : (mkRowAt f c k l j)[j]? = some l[j] := by
  have hl : (mkRow f c k (l.take j)).length = j := by rw [mkRow_len, List.length_take]; omega
  unfold mkRowAt
  rw [List.getElem?_append_right (by omega), hl, Nat.sub_self, List.getElem?_drop]
  simp [h]
theorem mkRowAt_set (h : j < l.length) (x : α) : (mkRowAt f c k l j).set j x = mkRow f c k (l.take j) ++ x :: l.drop (j + 1) := by
  have hl : (mkRow f c k (l.take j)).length = j := by rw [mkRow_len, List.length_take]; omega
  unfold mkRowAt
  rw [List.set_append_right _ _ (by omega), hl, Nat.sub_self, List.drop_eq_getElem_cons h, List.set_cons_zero]
theorem mkRowAt_succ (h : j < l.length) : mkRow f c k (l.take j) ++ f (k + cntR c (l.take j)) l[j] :: l.drop (j + 1) = mkRowAt f c k l (j + 1) := by
  unfold mkRowAt
  rw [List.take_succ_eq_append_getElem h, mkRow_snoc, List.append_assoc]; rfl
theorem cnt_succ (h : j < l.length) : cntR c (l.take (j + 1)) = cntR c (l.take j) + c l[j] := by
  exact sum_take_snoc c l j l[j] (List.getElem?_eq_getElem h)
theorem cnt_le : cntR c (l.take j) ≤ cntR c l := by
  unfold cntR
  rw [List.map_take]; exact sum_take_le _ _
theorem mkRow_at (h : j < l.length) : (mkRow f c k l)[j]? = some (f (k + cntR c (l.take j)) l[j]) := by
  induction l generalizing j k with
  | nil => simp at h
  | cons x r ih =>
    cases j with
    | zero => simp [mkRow, cntR]
    | succ j =>
      rw [mkRow, List.getElem?_cons_succ, ih (by simpa using h), List.take_succ_cons, List.getElem_cons_succ]
      unfold cntR
      rw [List.map_cons, List.sum_cons, Nat.add_assoc]
theorem mid_at {A B : List α} {x : α} (h : A.length = j) : (A ++ x :: B)[j]? = some x := by
  rw [List.getElem?_append_right (by omega), h, Nat.sub_self]; rfl
theorem mid_set {A B : List α} {x : α} (h : A.length = j) (y : α) : (A ++ x :: B).set j y = A ++ y :: B := by
  rw [List.set_append_right _ _ (by omega), h, Nat.sub_self, List.set_cons_zero]
theorem mkRow_take_len (h : j < l.length) : (mkRow f c k (l.take j)).length = j := by rw [mkRow_len, List.length_take]; omega
end
end Go.Proofs.YtocnekbedcnmgaaGreatDoor


namespace Go.Proofs.YtocnekbedcnmgaaGreatDoor
open Go.RowKit

end Go.Proofs.YtocnekbedcnmgaaGreatDoor


namespace Go.Proofs.YtocnekbedcnmgaaGreatDoor
open Go.RowKit

end Go.Proofs.YtocnekbedcnmgaaGreatDoor


namespace Go.Proofs.YtocnekbedcnmgaaGreatDoor
open Go.RowKit

end Go.Proofs.YtocnekbedcnmgaaGreatDoor


namespace Go.Proofs.YtocnekbedcnmgaaGreatDoor
open Go.RowKit

/-- The element types of the blocks. -/
def Tys (ts : List TypeId) (w : World) (bl : List Nat) : Prop := ∀ b ∈ bl, ∃ cur t, w.heap[b]? = some (.cells cur t (0, 0)) ∧ t ∈ ts
theorem own_ty {w : World} {B e size n : Nat} {v : Value} {xs : List Value} (h : w.ownsRow B e size v n xs) : Tys [e] w v.ownBlock.toList := by
  intro b hb
  rcases h.2 with ⟨hv, _⟩ | ⟨g, cap, cur, hv, _, hg, _⟩
  · rw [hv] at hb; simp [Value.ownBlock] at hb
  · rw [hv] at hb; simp [Value.ownBlock] at hb
    subst hb; exact ⟨cur, e, hg, by simp⟩
theorem Tys.mono {ts ts' : List TypeId} {w : World} {bl : List Nat} (h : Tys ts w bl) (hs : ∀ t ∈ ts, t ∈ ts') : Tys ts' w bl := fun b hb => by
  obtain ⟨cur, t, h1, h2⟩ := h b hb; exact ⟨cur, t, h1, hs t h2⟩
theorem Tys.app {ts : List TypeId} {w : World} {bl cl : List Nat} (h : Tys ts w bl) (k : Tys ts w cl) : Tys ts w (bl ++ cl) := fun b hb => by
  rcases List.mem_append.1 hb with hb | hb
  · exact h b hb
  · exact k b hb
theorem Tys.keep {ts : List TypeId} {w w' : World} {bl : List Nat} (h : Tys ts w bl) (hk : Kp bl w w') : Tys ts w' bl := fun b hb => by
  obtain ⟨cur, t, h1, h2⟩ := h b hb; exact ⟨cur, t, (hk b hb).trans h1, h2⟩
theorem own_base {w : World} {B e size n : Nat} {v : Value} {xs : List Value} (h : w.ownsRow 0 e size v n xs) (hB : ∀ g, v.ownBlock = some g → B ≤ g) : w.ownsRow B e size v n xs := by
  refine ⟨h.1, ?_⟩
  rcases h.2 with h0 | ⟨g, cap, cur, hv, _, r⟩
  · exact .inl h0
  · exact .inr ⟨g, cap, cur, hv, hB g (by rw [hv]; rfl), r⟩
/-- One more element at the end of a row that the call owns: what is asked of the append, and what comes of it. -/
theorem ORow.app {α : Type} {e : Elem α} {ts : List TypeId} (he : ∀ {w vs x bl}, e.E w vs x bl → Tys ts w bl) (hts : e.T ∉ ts) {B : Nat} {w : World} {v : Value} {xs : List α} {bl : List Nat} (h : ORow e w v xs bl) (hF : Fsh B bl)
    {vs : List Value} {x : α} {ib : List Nat} (hE : e.E w vs x ib) (hFi : Fsh B ib) (hap : ∀ b ∈ ib, b ∉ bl) :
    ∃ cs, w.ownsRow B e.T e.wd v xs.length cs ∧ ∀ v' w', w'.ownsRow B e.T e.wd v' (xs.length + 1) (cs ++ vs) → w.grownBy w' v.ownBlock → ∃ bl', ORow e w' v' (xs ++ [x]) bl' ∧ Fsh B bl' ∧ ∀ b ∈ bl', b ∈ bl ∨ b ∈ ib ∨ v'.ownBlock = some b := by
  have hlt := h.lt
  have hlti := e.lt hE
  obtain ⟨ps, hl, hE0, ho, rfl⟩ := h
  refine ⟨ps.flatMap (·.1), own_base ho fun g hg => hF.2 g (by simp [hg]), fun v' w' ho' hg => ?_⟩
  have hd := hF.1
  rw [List.nodup_append] at hd
  have hk : Kp (ps.flatMap (·.2)) w w' := fun b hb => hg.block b (hlt b (List.mem_append.2 (.inr hb))) fun e1 => hd.2.2 b (by simp [← e1]) b hb rfl
  have hki : Kp ib w w' := fun b hb => hg.block b (hlti b hb) fun e1 => hap b hb (List.mem_append.2 (.inl (by simp [← e1])))
  have hE' := e.keep hE hki
  have hT : Tys ts w' (ps.flatMap (·.2) ++ ib) := by
    refine Tys.app (Tys.keep (fun b hb => ?_) hk) (he hE')
    obtain ⟨p, hp, hb⟩ := List.mem_flatMap.1 hb
    obtain ⟨j, hj, rfl⟩ := List.mem_iff_getElem.1 hp
    exact he (hE0 j ps[j] (xs[j]'(by omega)) (List.getElem?_eq_getElem hj) (List.getElem?_eq_getElem (by omega))) b hb
  refine ⟨v'.ownBlock.toList ++ (ps.flatMap (·.2) ++ ib), ⟨ps ++ [(vs, ib)], by simp [hl], ?_, ?_, by simp⟩, ⟨?_, ?_⟩, ?_⟩
  · intro j p y hp hy
    by_cases hj : j < xs.length
    · rw [List.getElem?_append_left (by omega)] at hp hy
      exact e.keep (hE0 j p y hp hy) fun b hb => hk b (List.mem_flatMap.2 ⟨p, List.mem_of_getElem? hp, hb⟩)
    · have hy' := (List.getElem?_eq_some_iff.1 hy).1
      rw [List.length_append, List.length_singleton] at hy'
      have : j = xs.length := by omega
      subst this
      rw [← hl] at hp
      simp at hp hy
      subst hp; subst hy; exact hE'
  · rw [List.flatMap_append, List.length_append]
    have := own_mono ho' (Nat.zero_le B)
    simpa using this
  · rw [List.nodup_append]
    refine ⟨by cases v'.ownBlock <;> simp, ?_, ?_⟩
    · rw [List.nodup_append]
      exact ⟨hd.2.1, hFi.1, fun a ha b hb e1 => hap b hb (List.mem_append.2 (.inr (e1 ▸ ha)))⟩
    · intro a ha b hb e1
      subst e1
      obtain ⟨cur, t, h1, h2⟩ := own_ty ho' a ha
      obtain ⟨cur', t', h1', h2'⟩ := hT a hb
      rw [h1] at h1'
      simp at h1' h2
      exact hts (h2 ▸ h1'.2 ▸ h2')
  · intro b hb
    rcases List.mem_append.1 hb with hb | hb
    · exact (ho'.lt b (by simpa using hb)).1
    · rcases List.mem_append.1 hb with hb | hb
      · exact hF.2 b (List.mem_append.2 (.inr hb))
      · exact hFi.2 b hb
  · intro b hb
    rcases List.mem_append.1 hb with hb | hb
    · exact .inr (.inr (by simpa using hb))
    · rcases List.mem_append.1 hb with hb | hb
      · exact .inl (List.mem_append.2 (.inr hb))
      · exact .inr (.inl hb)
theorem OStr.cells {w : World} {v : Value} {ss : List ByteArray} {bl : List Nat} (h : OStr w v ss bl) : (v = .slice none 0 0 ∧ ss = []) ∨ ∃ g cap, v = .slice (some ⟨g, 0, none⟩) ss.length cap ∧ ∀ (j : Nat) (u : Value), (ss.map Value.string)[j]? = some u → w.cell? ((⟨g, 0, none⟩ : Addr).add j) = some u := by
  obtain ⟨ho, _⟩ := ostr_iff.1 h
  rcases ho.2 with ⟨hv, h0⟩ | ⟨g, cap, cur, hv, _⟩
  · exact .inl ⟨hv, List.eq_nil_of_length_eq_zero h0⟩
  · exact .inr ⟨g, cap, hv, fun j u hu => ho.cells (by rw [hv]; rfl) j u hu⟩
theorem ORow.head {α : Type} {e : Elem α} {w : World} {v : Value} {xs : List α} {bl : List Nat} (h : ORow e w v xs bl) {g : Nat} (hg : v.ownBlock = some g) : g ∈ bl := by
  obtain ⟨cb, h⟩ := h.split
  rw [h, hg]; simp
theorem lit_cells (w : World) (vs : List Value) (T : TypeId) : ∀ (j : Nat) (u : Value), vs[j]? = some u → (w.alloc (.cells vs.toArray T)).cell? ((⟨w.heap.size, 0, none⟩ : Addr).add j) = some u := by
  intro j u hu
  have h := Lib.cell_of_heap (heap_alloc_new w (.cells vs.toArray T)) j
  rw [Go.WideShapes.add_plain, Nat.zero_add, h]
  simpa using hu
theorem empty_row (w : World) (e size : Nat) : (w.alloc (.cells #[] e)).ownsRow w.heap.size e size (.slice (some ⟨w.heap.size, 0, none⟩) 0 0) 0 [] := by
  exact w.ownsRow_made #[] 0 (Nat.le_refl _) (Nat.zero_le _) (by simp)
end Go.Proofs.YtocnekbedcnmgaaGreatDoor


namespace Go.Proofs.YtocnekbedcnmgaaGreatDoor
open Go.RowKit

end Go.Proofs.YtocnekbedcnmgaaGreatDoor


namespace Go.Proofs.YtocnekbedcnmgaaGreatDoor
open Go.RowKit

def cntOp (_ : POp) : Nat := 4
def mkOp (k : Nat) (_ : POp) : POp := ⟨(k : Int), mkText (k + 1), mkText (k + 1 + 1), mkText (k + 1 + 1 + 1)⟩
theorem cntOps (ms : List POp) : cntR cntOp ms = 4 * ms.length := by
  unfold cntR
  induction ms with
  | nil => rfl
  | cons m r ih => rw [List.map_cons, List.sum_cons, ih, List.length_cons]; unfold cntOp; omega
set_option maxRecDepth 100000 in
set_option maxHeartbeats 1600000 in
theorem markOps_walk (v : Value) (ms : List POp) (bl : List Nat) (k0 : Nat) (w : World) (hv : ORow opE w v ms bl) (hd : bl.Nodup) (hn : ms.length ≤ 268435456) (h2 : k0 + cntR cntOp ms ≤ 1099200000000) :
    Calls Tryz.prog 12 #[v, .int .i64 k0] w fun e w' => e = .returned (.int .i64 (k0 + cntR cntOp ms : Nat)) ∧ ORow opE w' v (mkRow mkOp cntOp k0 ms) bl ∧ Fr bl w w' := by
  obtain ⟨a, cap, rfl, hform, hsh⟩ := hv.form
  clear hform
  have HV := hide hv
  have HD := hide hd
  clear hv hd
  go_enter Tryz.func12, Tryz.ntmps12
  go_wp2
  go_loopw [1, 5] (fun q i wr => ∃ (j : Nat), j ≤ ms.length ∧ i = .int .i64 j ∧ q = .int .i64 (k0 + cntR cntOp (ms.take j) : Nat) ∧ Fr bl w wr ∧ ORow opE wr (.slice a ms.length cap) (mkRowAt mkOp cntOp k0 ms j) bl) (fun _ i _ => ms.length - (intOf i).toNat)
  case atStart => exact ⟨0, Nat.zero_le _, rfl, by simp [cntR], Fr.refl _ _, by rw [mkRowAt_0]; exact unhide HV⟩
  case round =>
    obtain ⟨j, hj, rfl, rfl, hb, ho⟩ := hrel
    by_cases hlt : j < ms.length
    · obtain ⟨g, rfl⟩ := hsh (by omega)
      have hle2 := cnt_le (c := cntOp) (l := ms) (j := j + 1)
      rw [cnt_succ hlt] at hle2
      have hcm : cntOp ms[j] = 4 := rfl
      have hs := cnt_succ (c := cntOp) hlt
      have hnx := mkRowAt_succ (f := mkOp) (c := cntOp) (k := k0) hlt
      have hset := fun x => mkRowAt_set (f := mkOp) (c := cntOp) (k := k0) hlt x
      have hat := mkRowAt_at (f := mkOp) (c := cntOp) (k := k0) hlt
      generalize hK : k0 + cntR cntOp (ms.take j) = K at *
      generalize ms[j] = m at *
      -- the kind is marked
      obtain ⟨vs, ib, hE, hc, hx1, hg, hx2⟩ := ho.at hat
      obtain ⟨rfl, _⟩ := hE
      have c0 : wr.cell? ⟨g, j * 4, none⟩ = _ := (hc 0 _ rfl).1
      have f0 : wr.frozen? ⟨g, j * 4, none⟩ = _ := (hc 0 _ rfl).2
      have p1 : ORow opE (wr.setCell ⟨g, j * 4, none⟩ (.int .i64 (K : Int))) _ _ bl := ho.put (unhide HD) hat 0 (by decide) (.int .i64 (K : Int)) ⟨(K : Int), m.path, m.src, m.val⟩ (fun w' vs ib h => by obtain ⟨rfl, h⟩ := h; exact ⟨rfl, h⟩)
      rw [hset] at p1
      have fr1 := hb.set hg (j * 4) (.int .i64 (K : Int))
      have hA := mkRow_take_len (f := mkOp) (c := cntOp) (k := k0) hlt
      generalize mkRow mkOp cntOp k0 (ms.take j) = A at *
      generalize ms.drop (j + 1) = B at *
      have hKb : K + 4 ≤ 1099200000000 := by omega
      have hKc : K ≤ 1099200000000 := by omega
      have HM := hide (mark_walk (K + 1) (wr.setCell ⟨g, j * 4, none⟩ (.int .i64 (K : Int))) (by omega) (by omega))
      have HFR := hide fr1
      have HP1 := hide p1
      have HNX := hide hnx
      have HS := hide hs
      have HA := hide hA
      have HK := hide hK
      have HKB := hide hKb
      clear ho hb hc p1 fr1 hset hat hg hnx hs hA hK hle2 hcm h2 hx1 hx2 hsh hKb
      go_wp2_with fail
      refine (unhide HM).mono ?_
      rintro e w2 ⟨rfl, b2⟩
      have o2 := (unhide HP1).below b2
      obtain ⟨vs2, kb, hE2, hc2, _, hg, _⟩ := o2.at (mid_at (unhide HA))
      obtain ⟨rfl, _⟩ := hE2
      have d1 : w2.cell? ⟨g, j * 4 + 1, none⟩ = _ := (hc2 1 _ rfl).1
      have e1 : w2.frozen? ⟨g, j * 4 + 1, none⟩ = _ := (hc2 1 _ rfl).2
      have p2 : ORow opE (w2.setCell ⟨g, j * 4 + 1, none⟩ (.string (mkText (K + 1)))) _ _ bl := o2.put (unhide HD) (mid_at (unhide HA)) 1 (by decide) (.string (mkText (K + 1))) ⟨(K : Int), mkText (K + 1), m.src, m.val⟩ (fun w' vs ib h => by obtain ⟨rfl, h⟩ := h; exact ⟨rfl, h⟩)
      rw [mid_set (unhide HA)] at p2
      have HF2 := hide (((unhide HFR).next b2).set hg (j * 4 + 1) (.string (mkText (K + 1))))
      have HP2 := hide p2
      have HM2 := hide (mark_walk (K + 1 + 1) (w2.setCell ⟨g, j * 4 + 1, none⟩ (.string (mkText (K + 1)))) (by omega) (by have := unhide HKB; omega))
      clear HM HFR HP1 b2 o2 hc2 hg p2 c0 f0
      go_wp2_with fail
      refine (unhide HM2).mono ?_
      rintro e w3 ⟨rfl, b3⟩
      have o3 := (unhide HP2).below b3
      obtain ⟨vs3, kb3, hE3, hc3, _, hg, _⟩ := o3.at (mid_at (unhide HA))
      obtain ⟨rfl, _⟩ := hE3
      have d2 : w3.cell? ⟨g, j * 4 + 2, none⟩ = _ := (hc3 2 _ rfl).1
      have e2 : w3.frozen? ⟨g, j * 4 + 2, none⟩ = _ := (hc3 2 _ rfl).2
      have p3 : ORow opE (w3.setCell ⟨g, j * 4 + 2, none⟩ (.string (mkText (K + 1 + 1)))) _ _ bl := o3.put (unhide HD) (mid_at (unhide HA)) 2 (by decide) (.string (mkText (K + 1 + 1))) ⟨(K : Int), mkText (K + 1), mkText (K + 1 + 1), m.val⟩ (fun w' vs ib h => by obtain ⟨rfl, h⟩ := h; exact ⟨rfl, h⟩)
      rw [mid_set (unhide HA)] at p3
      have HF3 := hide (((unhide HF2).next b3).set hg (j * 4 + 2) (.string (mkText (K + 1 + 1))))
      have HP3 := hide p3
      have HM3 := hide (mark_walk (K + 1 + 1 + 1) (w3.setCell ⟨g, j * 4 + 2, none⟩ (.string (mkText (K + 1 + 1)))) (by omega) (by have := unhide HKB; omega))
      clear HM2 HF2 HP2 b3 o3 hc3 hg p3 d1 e1
      go_wp2_with fail
      refine (unhide HM3).mono ?_
      rintro e w4 ⟨rfl, b4⟩
      have o4 := (unhide HP3).below b4
      obtain ⟨vs4, kb4, hE4, hc4, _, hg, _⟩ := o4.at (mid_at (unhide HA))
      obtain ⟨rfl, _⟩ := hE4
      have d3 : w4.cell? ⟨g, j * 4 + 3, none⟩ = _ := (hc4 3 _ rfl).1
      have e3 : w4.frozen? ⟨g, j * 4 + 3, none⟩ = _ := (hc4 3 _ rfl).2
      have p4 : ORow opE (w4.setCell ⟨g, j * 4 + 3, none⟩ (.string (mkText (K + 1 + 1 + 1)))) _ _ bl := o4.put (unhide HD) (mid_at (unhide HA)) 3 (by decide) (.string (mkText (K + 1 + 1 + 1))) (mkOp K m) (fun w' vs ib h => by obtain ⟨rfl, h⟩ := h; exact ⟨rfl, h⟩)
      rw [mid_set (unhide HA), unhide HNX] at p4
      have HF4 := hide (((unhide HF3).next b4).set hg (j * 4 + 3) (.string (mkText (K + 1 + 1 + 1))))
      have HP4 := hide p4
      have hKB := unhide HKB
      clear HM3 HF3 HP3 b4 o4 hc4 hg p4 d2 e2
      go_wp2
      go_roundw
      case rel =>
        have hk1 := unhide HK
        have hk2 := unhide HS
        have hk3 : cntOp m = 4 := rfl
        exact ⟨j + 1, by omega, by go_num, by rw [hk2, hk3, ← hk1]; go_num, unhide HF4, unhide HP4⟩
      case measure => simp [intOf]; omega
    · have hjn : j = ms.length := by omega
      subst hjn
      rw [mkRowAt_all] at ho
      rw [List.take_length]
      go_wp2
      go_ret
      exact ⟨rfl, ho, hb⟩
end Go.Proofs.YtocnekbedcnmgaaGreatDoor


namespace Go.Proofs.YtocnekbedcnmgaaGreatDoor
open Go.RowKit

set_option maxRecDepth 100000 in
set_option maxHeartbeats 1600000 in
theorem heldOps_walk (v : Value) (ms : List POp) (bl : List Nat) (k0 : Nat) (w : World) (hv : ORow opE w v (mkRow mkOp cntOp k0 ms) bl) (hn : ms.length ≤ 268435456) (h2 : k0 + cntR cntOp ms ≤ 1099200000000) :
    Calls Tryz.prog 13 #[v, .int .i64 k0] w fun e w' => e = .returned (.int .i64 (k0 + cntR cntOp ms : Nat)) ∧ Below w.heap.size w w' := by
  obtain ⟨a, cap, rfl, hform, hsh⟩ := hv.form
  rw [mkRow_len] at hsh
  have HV := hide hv
  have HSH := hide hsh
  rw [mkRow_len] at HV ⊢
  clear hv hform hsh
  go_enter Tryz.func13, Tryz.ntmps13
  go_wp2
  go_loopw [1, 5] (fun q i wr => ∃ (j : Nat), j ≤ ms.length ∧ i = .int .i64 j ∧ q = .int .i64 (k0 + cntR cntOp (ms.take j) : Nat) ∧ Below w.heap.size w wr) (fun _ i _ => ms.length - (intOf i).toNat)
  case atStart => exact ⟨0, Nat.zero_le _, rfl, by simp [cntR], Below.refl _ _⟩
  case round =>
    obtain ⟨j, hj, rfl, rfl, hb⟩ := hrel
    by_cases hlt : j < ms.length
    · obtain ⟨g, rfl⟩ := unhide HSH (by omega)
      have hle2 := cnt_le (c := cntOp) (l := ms) (j := j + 1)
      rw [cnt_succ hlt] at hle2
      have hcm : cntOp ms[j] = 4 := rfl
      have hs := cnt_succ (c := cntOp) hlt
      have hat := mkRow_at (f := mkOp) (c := cntOp) (k := k0) hlt
      generalize hK : k0 + cntR cntOp (ms.take j) = K at *
      generalize ms[j] = m at *
      obtain ⟨vs, ib, hE, hc, hx1, hg, hx2⟩ := ((unhide HV).below hb).at hat
      obtain ⟨rfl, -⟩ := hE
      have c0 : wr.cell? ⟨g, j * 4, none⟩ = some (.int .i64 (K : Int)) := (hc 0 _ rfl).1
      have hgr : g < wr.heap.size := World.block_lt_of_cell? _ _ c0
      have HC1 : Hid (∀ X : World, Below wr.heap.size wr X → X.cell? ⟨g, j * 4 + 1, none⟩ = some (.string (mkText (K + 1)))) := fun X hX => (hX.cell (p := ⟨g, j * 4 + 1, none⟩) hgr).trans (hc 1 _ rfl).1
      have HC2 : Hid (∀ X : World, Below wr.heap.size wr X → X.cell? ⟨g, j * 4 + 2, none⟩ = some (.string (mkText (K + 1 + 1)))) := fun X hX => (hX.cell (p := ⟨g, j * 4 + 2, none⟩) hgr).trans (hc 2 _ rfl).1
      have HC3 : Hid (∀ X : World, Below wr.heap.size wr X → X.cell? ⟨g, j * 4 + 3, none⟩ = some (.string (mkText (K + 1 + 1 + 1)))) := fun X hX => (hX.cell (p := ⟨g, j * 4 + 3, none⟩) hgr).trans (hc 3 _ rfl).1
      have hKb : K + 4 ≤ 1099200000000 := by omega
      have HMK : Hid (∀ n, 1 ≤ n → n ≤ K + 4 → ∀ X : World, Calls Tryz.prog 41 #[.int .i64 (n : Nat)] X fun e w' => e = .returned (.string (mkText n)) ∧ Below X.heap.size X w') := fun n h1 h2 X => mark_walk n X h1 (by omega)
      have HB := hide hb
      have HS := hide hs
      have HK := hide hK
      have hKc : K ≤ 1099200000000 := by omega
      have HKB := hide hKb
      have bD : Below wr.heap.size wr wr.drew := (Below.refl _ _).drew
      have S0 := hide (unhide HC1 _ bD)
      have HM := hide (unhide HMK (K + 1) (by omega) (by omega) wr.drew)
      clear hx1 hx2 hc hb hat hle2 hcm hs hK hg h2 hKb
      go_wp2_with fail
      go_region_held3 (fun w' => w'.cell? ⟨g, j * 4 + 1, none⟩ = some (.string (mkText (K + 1))))
        (first | exact unhide S1 | exact unhide S0)
        (first
          | (go_simp; refine (unhide HM).mono ?_; rintro e w1 ⟨rfl, b1⟩
             have b01 : Below wr.heap.size wr w1 := below_next bD b1
             have S1 := hide (unhide HC1 _ b01)))
      have bD1 : Below wr.heap.size wr w1.drew := b01.drew
      have S2 := hide (unhide HC2 _ bD1)
      have HM1 := hide (unhide HMK (K + 1 + 1) (by omega) (by omega) w1.drew)
      clear S0 S1 HM b1 b01 bD c0
      go_wp2_with fail
      go_region_held3 (fun w' => w'.cell? ⟨g, j * 4 + 2, none⟩ = some (.string (mkText (K + 1 + 1))))
        (first | exact unhide S3 | exact unhide S2)
        (first
          | (go_simp; refine (unhide HM1).mono ?_; rintro e w2 ⟨rfl, b2⟩
             have b02 : Below wr.heap.size wr w2 := below_next bD1 b2
             have S3 := hide (unhide HC2 _ b02)))
      have bD2 : Below wr.heap.size wr w2.drew := b02.drew
      have S4 := hide (unhide HC3 _ bD2)
      have HM2 := hide (unhide HMK (K + 1 + 1 + 1) (by omega) (by omega) w2.drew)
      clear S2 S3 HM1 b2 b02 bD1
      go_wp2_with fail
      go_region_held3 (fun w' => w'.cell? ⟨g, j * 4 + 3, none⟩ = some (.string (mkText (K + 1 + 1 + 1))))
        (first | exact unhide S5 | exact unhide S4)
        (first
          | (go_simp; refine (unhide HM2).mono ?_; rintro e w3 ⟨rfl, b3⟩
             have b03 : Below wr.heap.size wr w3 := below_next bD2 b3
             have S5 := hide (unhide HC3 _ b03)))
      have HB3 := hide (below_next (unhide HB) b03)
      have hKB := unhide HKB
      clear S4 S5 HM2 b3 b03 bD2
      go_wp2
      go_roundw
      case rel =>
        have hk1 := unhide HK
        have hk2 := unhide HS
        have hk3 : cntOp m = 4 := rfl
        exact ⟨j + 1, by omega, by go_num, by rw [hk2, hk3, ← hk1]; go_num, unhide HB3⟩
      case measure => simp [intOf]; omega
    · have hjn : j = ms.length := by omega
      subst hjn
      rw [List.take_length]
      go_wp2
      go_ret
      exact ⟨rfl, hb⟩
end Go.Proofs.YtocnekbedcnmgaaGreatDoor

