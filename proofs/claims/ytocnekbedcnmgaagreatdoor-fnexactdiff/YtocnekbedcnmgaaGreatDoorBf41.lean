import Derived.Test.YtocnekbedcnmgaaGreatDoorBf26
import Derived.Test.YtocnekbedcnmgaaGreatDoorBf40
import Derived.Test.YtocnekbedcnmgaaGreatDoorBf4
import Derived.Test.YtocnekbedcnmgaaGreatDoorBf5
import Derived.Test.YtocnekbedcnmgaaGreatDoorBf39
import Derived.Test.YtocnekbedcnmgaaGreatDoorBf6
import Derived.Test.YtocnekbedcnmgaaGreatDoorBf25
import Derived.Test.YtocnekbedcnmgaaGreatDoorBf2
namespace Go.Proofs.YtocnekbedcnmgaaGreatDoor
open Go.RowKit

end Go.Proofs.YtocnekbedcnmgaaGreatDoor


namespace Go.Proofs.YtocnekbedcnmgaaGreatDoor
open Go.RowKit

end Go.Proofs.YtocnekbedcnmgaaGreatDoor


namespace Go.Proofs.YtocnekbedcnmgaaGreatDoor
open Go.RowKit

abbrev opCs (m : POp) : Array Value := #[.int .i64 m.kind, .string m.path, .string m.src, .string m.val]
/-- A block that holds an operation. -/
def OpIn (w : World) (g : Nat) (m : POp) : Prop := w.heap[g]? = some (.cells (opCs m) 59 (0, 0))
theorem OpIn.lt {w : World} {g : Nat} {m : POp} (h : OpIn w g m) : g < w.heap.size := (Array.getElem?_eq_some_iff.1 h).1
theorem OpIn.below {w w' : World} {g : Nat} {m : POp} (h : OpIn w g m) (hb : Below w.heap.size w w') : OpIn w' g m := (hb.block g h.lt).trans h
theorem OpIn.c {w : World} {g : Nat} {m : POp} (h : OpIn w g m) : w.cell? ⟨g, 0, none⟩ = some (.int .i64 m.kind) ∧ w.cell? ⟨g, 1, none⟩ = some (.string m.path) ∧ w.cell? ⟨g, 2, none⟩ = some (.string m.src) ∧ w.cell? ⟨g, 3, none⟩ = some (.string m.val) := ⟨Lib.cell_of_heap h 0, Lib.cell_of_heap h 1, Lib.cell_of_heap h 2, Lib.cell_of_heap h 3⟩
theorem OpIn.fz {w : World} {g : Nat} {m : POp} (h : OpIn w g m) (j : Nat) : w.frozen? ⟨g, j, none⟩ = false := Lib.frozen_of_heap h j
theorem OpIn.s0 {w : World} {g : Nat} {m : POp} (h : OpIn w g m) (z : Int) : OpIn (w.setCell ⟨g, 0, none⟩ (.int .i64 z)) g ⟨z, m.path, m.src, m.val⟩ := heap_setCell_same w g 0 _ _ _ h
theorem OpIn.s1 {w : World} {g : Nat} {m : POp} (h : OpIn w g m) (z : ByteArray) : OpIn (w.setCell ⟨g, 1, none⟩ (.string z)) g ⟨m.kind, z, m.src, m.val⟩ := heap_setCell_same w g 1 _ _ _ h
theorem OpIn.s2 {w : World} {g : Nat} {m : POp} (h : OpIn w g m) (z : ByteArray) : OpIn (w.setCell ⟨g, 2, none⟩ (.string z)) g ⟨m.kind, m.path, z, m.val⟩ := heap_setCell_same w g 2 _ _ _ h
theorem OpIn.s3 {w : World} {g : Nat} {m : POp} (h : OpIn w g m) (z : ByteArray) : OpIn (w.setCell ⟨g, 3, none⟩ (.string z)) g ⟨m.kind, m.path, m.src, z⟩ := heap_setCell_same w g 3 _ _ _ h
end Go.Proofs.YtocnekbedcnmgaaGreatDoor


namespace Go.Proofs.YtocnekbedcnmgaaGreatDoor
open Go.RowKit

/-- What is good of a tree is good of its parts. -/
structure GdV (v : JV) : Prop where
  rd : rdV v
  big : bigV v = false
  dep : depV v ≤ 100
  cnt : cntV v ≤ 3000
  tw : twV v = false
  ok : okV v
  len : (ct v).length ≤ 20000
theorem rdL_mem : ∀ {l : JL} {u : JV}, rdL l → bigL l = false → u ∈ l.toL → rdV u ∧ bigV u = false ∧ depV u ≤ depL l
  | .nil, u, _, _, h => by simp [JL.toL] at h
  | .cons v r, u, h1, h2, h => by
    rw [rdL] at h1
    rw [bigL, Bool.or_eq_false_iff] at h2
    rw [JL.toL, List.mem_cons] at h
    rw [depL]
    rcases h with rfl | h
    · exact ⟨h1.1, h2.1, Nat.le_max_left _ _⟩
    · obtain ⟨a, b, c⟩ := rdL_mem h1.2 h2.2 h
      exact ⟨a, b, Nat.le_trans c (Nat.le_max_right _ _)⟩
theorem rdM_mem : ∀ {l : JM} {k : List UInt8} {u : JV}, rdM l → bigM l = false → (k, u) ∈ l.toL → rdV u ∧ bigV u = false ∧ depV u ≤ depM l
  | .nil, k, u, _, _, h => by simp [JM.toL] at h
  | .cons k' v r, k, u, h1, h2, h => by
    rw [rdM] at h1
    rw [bigM, Bool.or_eq_false_iff] at h2
    rw [JM.toL, List.mem_cons] at h
    rw [depM]
    rcases h with h | h
    · injection h with _ h
      subst h
      exact ⟨h1.2.1, h2.1, Nat.le_max_left _ _⟩
    · obtain ⟨a, b, c⟩ := rdM_mem h1.2.2 h2.2 h
      exact ⟨a, b, Nat.le_trans c (Nat.le_max_right _ _)⟩
theorem GdV.child {v u : JV} {t : List UInt8} (h : GdV v) (hc : childV v t = some u) : GdV u := by
  obtain ⟨a1, a2, a3, a4⟩ := childV_ok hc h.ok h.tw
  have hl := h.len
  have hn := h.cnt
  have hd := h.dep
  have key : rdV u ∧ bigV u = false ∧ depV u ≤ depV v := by
    cases v with
    | arr l =>
      rw [childV_arr] at hc
      obtain ⟨i, _, hi⟩ := Option.bind_eq_some_iff.1 hc
      have := rdL_mem h.rd h.big (List.mem_of_getElem? hi)
      exact ⟨this.1, this.2.1, by rw [depV]; omega⟩
    | obj m =>
      rw [childV_obj] at hc
      obtain ⟨q, hq, e⟩ := Option.map_eq_some_iff.1 hc
      have := rdM_mem (k := q.1) (u := q.2) h.rd h.big (List.mem_of_find?_eq_some hq)
      rw [← e]
      exact ⟨this.1, this.2.1, by rw [depV]; omega⟩
    | _ => cases hc
  exact ⟨key.1, key.2.1, by omega, by omega, a2, a1, by omega⟩
theorem GdV.good {v : JV} (h : GdV v) : goodT (strOf (ct v)) = true := by
  rw [goodT_ct h.rd h.big h.tw]
  exact decide_eq_true ⟨h.dep, h.cnt, h.len⟩
theorem GdV.of {s : ByteArray} {v : JV} (h : readR s = .inr v) : GdV v := by
  obtain ⟨h1, h2, h3, h4, h5, h6⟩ := read_facts h
  exact ⟨doc_rdV h2, h4, h5, h6, h3, (doc_facts h2).1, by have := doc_sharp h2; omega⟩
theorem GdV.item {l : JL} {u : JV} (h : GdV (.arr l)) (hu : u ∈ l.toL) : GdV u := by
  obtain ⟨j, hj, rfl⟩ := List.mem_iff_getElem.1 hu
  have hlt : j < (idxJ 0 l.toL).length := by rw [idxJ_len]; exact hj
  have hm : (decT j, l.toL[j]) ∈ kidsV (.arr l) := by
    have e := idxJ_at l.toL 0 j hlt
    rw [Nat.zero_add] at e
    show _ ∈ idxJ 0 l.toL
    rw [← e]
    exact List.getElem_mem hlt
  obtain ⟨o1, o2, o3, o4⟩ := kids_ok h.ok h.tw hm
  simp only at o1 o2 o3 o4
  have hr := rdL_mem h.rd h.big hu
  have h1 := kids_cnt (.arr l)
  have h2 : cntV l.toL[j] ≤ _ := sumf_at (fun q => cntV q.2) hm
  have hd := h.dep
  have hc := h.cnt
  have hl := h.len
  exact ⟨hr.1, hr.2.1, by omega, by omega, o2, o1, by omega⟩
end Go.Proofs.YtocnekbedcnmgaaGreatDoor


namespace Go.Proofs.YtocnekbedcnmgaaGreatDoor
open Go.RowKit

theorem infoPOp : (Tryz.prog.info? 59).map (fun i => (i.zero, i.size, i.bytes)) = some (some (.agg #[.int .i64 0, .string ByteArray.empty, .string ByteArray.empty, .string ByteArray.empty]), 4, 56) := by kernel_rfl
/-- A row of operations that the call owns. -/
def OPr (w : World) (B : Nat) (v : Value) (ms : List POp) : Prop := w.ownsRow B 59 4 v ms.length (ms.flatMap opV)
theorem OPr.step {w : World} {B : Nat} {v : Value} {ms : List POp} {m : POp} (h : w.ownsRow B 59 4 v (ms.length + 1) (ms.flatMap opV ++ opV m)) : OPr w B v (ms ++ [m]) := by
  unfold OPr
  rw [List.length_append, List.flatMap_append, List.flatMap_singleton]
  exact h
theorem OPr.orow {w : World} {B : Nat} {v : Value} {ms : List POp} (h : OPr w B v ms) : ORow opE w v ms v.ownBlock.toList ∧ Fsh B v.ownBlock.toList := by
  refine ⟨⟨ms.map fun m => (opV m, []), by simp, fun j p x hp hx => ?_, ?_, ?_⟩, ?_⟩
  · rw [List.getElem?_map, hx] at hp
    injection hp with hp
    subst hp
    exact ⟨rfl, rfl⟩
  · have e : (ms.map fun m => ((opV m, []) : List Value × List Nat)).flatMap (·.1) = ms.flatMap opV := by rw [List.flatMap_map]
    rw [e]
    exact own_mono h (Nat.zero_le _)
  · have e : (ms.map fun m => ((opV m, []) : List Value × List Nat)).flatMap (·.2) = [] := by rw [List.flatMap_map]; simp
    rw [e, List.append_nil]
  · refine ⟨?_, fun b hb => (h.lt b (by simpa using hb)).1⟩
    cases v.ownBlock <;> simp
theorem lit4 (w : World) (m : POp) : ∀ j u, (opV m)[j]? = some u → (w.alloc (.cells (opCs m) 59)).cell? ((⟨w.heap.size, 0, none⟩ : Addr).add j) = some u := lit_cells w (opV m) 59
theorem one4 (m : POp) : ∀ u ∈ opV m, u.oneCell' = true := by
  intro u hu
  simp only [opV, List.mem_cons, List.not_mem_nil, or_false] at hu
  rcases hu with rfl | rfl | rfl | rfl <;> rfl
end Go.Proofs.YtocnekbedcnmgaaGreatDoor


namespace Go.Proofs.YtocnekbedcnmgaaGreatDoor
open Go.RowKit

/-- The pointer of tokens. -/
def ptrP (ts : List (List UInt8)) : List UInt8 := ptrText (ts.map baT)
theorem ptrP_snoc (ts : List (List UInt8)) (k : List UInt8) : ptrP (ts ++ [k]) = ptrN (ptrP ts) k := by
  unfold ptrP ptrText ptrN
  simp [baT]
theorem getV_cons (v : JV) (t : List UInt8) (ts : List (List UInt8)) : getV v (t :: ts) = (childV v t).bind fun u => getV u ts := by
  have := getV_app [t] ts v
  have e : getV v [t] = childV v t := by
    simp only [getV]
    cases childV v t <;> rfl
  rwa [e] at this
theorem GdV.kid {v : JV} {q : List UInt8 × JV} (h : GdV v) (hq : q ∈ kidsV v) : childV v q.1 = some q.2 ∧ GdV q.2 := by
  have hc := kid_child h.tw (by have := h.cnt; omega) hq
  exact ⟨hc, h.child hc⟩
end Go.Proofs.YtocnekbedcnmgaaGreatDoor


namespace Go.Proofs.YtocnekbedcnmgaaGreatDoor
open Go.RowKit

end Go.Proofs.YtocnekbedcnmgaaGreatDoor

