import Derived.Deep.RegionWith
import Derived.Deep.RegionLaw
import Derived.Test.YtiolpmhodbefoaaBp13
import Derived.Test.YtiolpmhodbefoaaBp14
import Derived.Test.YtiolpmhodbefoaaBp11
import Derived.Test.YtiolpmhodbefoaaBp1
namespace Go.Proofs.Ytiolpmhodbefoaa
open Go.RowKit

theorem ORow.len {α : Type} {e : Elem α} {w : World} {v : Value} {xs : List α} {bl : List Nat} (h : ORow e w v xs bl) : xs.length ≤ maxLen := by
  obtain ⟨ps, hl, hE, ho, _⟩ := h
  rcases ho.2 with ⟨hv, h0⟩ | ⟨g, cap, cur, hv, _, _, h1, h2, _⟩
  · omega
  · omega

/-- Two new blocks. -/
structure New2 (w : World) (a b : Obj) (w' : World) : Prop where
  bel : Below w.heap.size w w'
  size : w'.heap.size = w.heap.size + 1 + 1
  k0 : w'.heap[w.heap.size]? = some a
  k1 : w'.heap[w.heap.size + 1]? = some b
theorem new2 (w : World) (a b : Obj) : New2 w a b ((w.alloc a).alloc b) := by
  refine ⟨below_next (alloc_b w _) (alloc_b _ _), by simp, ?_, ?_⟩
  · exact ((alloc_b _ b).block _ (by simp)).trans (heap_alloc_new w a)
  · have := heap_alloc_new (w.alloc a) b
    rw [show (w.alloc a).heap.size = w.heap.size + 1 from by simp] at this
    exact this
end Go.Proofs.Ytiolpmhodbefoaa


namespace Go.Proofs.Ytiolpmhodbefoaa
open Go.RowKit

set_option maxRecDepth 100000 in
set_option maxHeartbeats 1600000 in
theorem eqStep_walk (a0 a1 a2 b0 b1 b2 : Value) (m : PStep) (ib jb : List Nat) (w : World) (h : stepE.E w [a0, a1, a2] m ib) (k : stepE.E w [b0, b1, b2] m jb) :
    Calls Try.prog 111 #[.agg #[a0, a1, a2], .agg #[b0, b1, b2]] w fun e w' => e = .returned (.bool true) ∧ Below w.heap.size w w' := by
  have hq := h.1
  injection hq with e0 hq
  subst e0
  injection hq with e1 hq
  subst e1
  injection hq with e2 hq
  subst e2
  clear hq
  have hq := k.1
  injection hq with e0 hq
  subst e0
  injection hq with e1 hq
  subst e1
  injection hq with e2 hq
  subst e2
  clear hq
  go_enter Try.func111, Try.ntmps111
  go_wp2
  go_ret
  exact ⟨rfl, below_next (alloc_b w _) (alloc_b _ _)⟩
set_option maxRecDepth 100000 in
set_option maxHeartbeats 1600000 in
theorem eqSteps_walk (v v' : Value) (ms : List PStep) (bl bl' : List Nat) (w : World) (h : ORow stepE w v ms bl) (k : ORow stepE w v' ms bl') :
    Calls Try.prog 97 #[v, v'] w fun e w' => e = .returned (.bool true) ∧ Below w.heap.size w w' := by
  have hm := h.len
  unfold maxLen at hm
  obtain ⟨xa, xc, rfl, _, hxa⟩ := h.form
  obtain ⟨ya, yc, rfl, _, hya⟩ := k.form
  have H := hide h
  have K := hide k
  clear h k
  go_enter Try.func97, Try.ntmps97
  go_wp2
  go_loopw [5] (fun i wr => ∃ k : Nat, k ≤ ms.length ∧ i = .int .i64 k ∧ Below w.heap.size w wr) (fun i _ => ms.length - (intOf i).toNat)
  case atStart => exact ⟨0, Nat.zero_le _, rfl, Below.refl _ _⟩
  case round =>
    obtain ⟨k, hk, rfl, hb⟩ := hrel
    by_cases hlt : k < ms.length
    · obtain ⟨g, rfl⟩ := hxa (by omega)
      obtain ⟨g', rfl⟩ := hya (by omega)
      obtain ⟨vs, ib, hE, hc, _⟩ := ((unhide H).below hb).at (List.getElem?_eq_getElem hlt)
      obtain ⟨a0, a1, a2, rfl⟩ := list3 (stepE.len hE)
      have c0 : wr.cell? ⟨g, k * 3, none⟩ = _ := (hc 0 _ rfl).1
      have c1 : wr.cell? ⟨g, k * 3 + 1, none⟩ = _ := (hc 1 _ rfl).1
      have c2 : wr.cell? ⟨g, k * 3 + 2, none⟩ = _ := (hc 2 _ rfl).1
      obtain ⟨vs, jb, hE', hc', _⟩ := ((unhide K).below hb).at (List.getElem?_eq_getElem hlt)
      obtain ⟨b0, b1, b2, rfl⟩ := list3 (stepE.len hE')
      have d0 : wr.cell? ⟨g', k * 3, none⟩ = _ := (hc' 0 _ rfl).1
      have d1 : wr.cell? ⟨g', k * 3 + 1, none⟩ = _ := (hc' 1 _ rfl).1
      have d2 : wr.cell? ⟨g', k * 3 + 2, none⟩ = _ := (hc' 2 _ rfl).1
      have hx : Below wr.heap.size wr wr.drew := (Below.refl _ _).drew
      have HM := hide (eqStep_walk a0 a1 a2 b0 b1 b2 ms[k] ib jb wr.drew (stepE.keep hE (.of_below hx (stepE.lt hE))) (stepE.keep hE' (.of_below hx (stepE.lt hE'))))
      have HB := hide hb
      have hlt' : (k : Int) < (ms.length : Int) := by omega
      clear hxa hya hc hc' hE hE' hb hx
      go_wp2
      go_region_law (go_simp; refine (unhide HM).mono ?_; rintro e w1 ⟨rfl, b1⟩)
      all_goals go_wp2
      all_goals go_roundw
      all_goals first
        | exact ⟨k + 1, by omega, by go_num, (unhide HB).drew.trans (b1.mono (by have := (unhide HB).size; simp; omega))⟩
        | (simp [intOf]; omega)
    · clear hxa hya
      go_wp2
      go_ret
      exact ⟨rfl, hb⟩
set_option maxRecDepth 100000 in
set_option maxHeartbeats 1600000 in
theorem eqFop_walk (a0 a1 a2 a3 a4 b0 b1 b2 b3 b4 : Value) (m : PFOp) (ib jb : List Nat) (w : World) (h : fopE.E w [a0, a1, a2, a3, a4] m ib) (k : fopE.E w [b0, b1, b2, b3, b4] m jb) :
    Calls Try.prog 85 #[.agg #[a0, a1, a2, a3, a4], .agg #[b0, b1, b2, b3, b4]] w fun e w' => e = .returned (.bool true) ∧ Below w.heap.size w w' := by
  obtain ⟨q, hq, h1⟩ := h
  injection hq with e0 hq
  subst e0
  injection hq with e1 hq
  subst e1
  injection hq with e2 hq
  subst e2
  injection hq with e3 hq
  subst e3
  injection hq with e4 hq
  subst e4
  clear hq
  obtain ⟨q, hq, k1⟩ := k
  injection hq with e0 hq
  subst e0
  injection hq with e1 hq
  subst e1
  injection hq with e2 hq
  subst e2
  injection hq with e3 hq
  subst e3
  injection hq with e4 hq
  subst e4
  clear hq
  have H1 := hide h1
  have K1 := hide k1
  clear h1 k1
  go_enter Try.func85, Try.ntmps85
  go_wp2_with fail
  have hA := new2 w (Obj.cells #[Value.int IntKind.i64 m.k, Value.int IntKind.i64 m.n, Value.string m.s, Value.bool m.root, a4] 65) (Obj.cells #[Value.int IntKind.i64 m.k, Value.int IntKind.i64 m.n, Value.string m.s, Value.bool m.root, b4] 65)
  generalize ((w.alloc (Obj.cells #[Value.int IntKind.i64 m.k, Value.int IntKind.i64 m.n, Value.string m.s, Value.bool m.root, a4] 65)).alloc (Obj.cells #[Value.int IntKind.i64 m.k, Value.int IntKind.i64 m.n, Value.string m.s, Value.bool m.root, b4] 65)) = wA at *
  refine (eqSteps_walk a4 b4 m.steps ib jb wA ((unhide H1).below hA.bel) ((unhide K1).below hA.bel)).mono ?_
  rintro e w1 ⟨rfl, bb1⟩
  have hsz := hA.size
  have k0 := (bb1.block w.heap.size (by omega)).trans hA.k0
  have k1 := (bb1.block (w.heap.size + 1) (by omega)).trans hA.k1
  have HB := hide (below_next hA.bel bb1)
  clear hA bb1 k0 k1 H1 K1
  go_wp2
  go_ret
  exact ⟨rfl, unhide HB⟩
set_option maxRecDepth 100000 in
set_option maxHeartbeats 1600000 in
theorem eqFops_walk (v v' : Value) (ms : List PFOp) (bl bl' : List Nat) (w : World) (h : ORow fopE w v ms bl) (k : ORow fopE w v' ms bl') :
    Calls Try.prog 73 #[v, v'] w fun e w' => e = .returned (.bool true) ∧ Below w.heap.size w w' := by
  have hm := h.len
  unfold maxLen at hm
  obtain ⟨xa, xc, rfl, _, hxa⟩ := h.form
  obtain ⟨ya, yc, rfl, _, hya⟩ := k.form
  have H := hide h
  have K := hide k
  clear h k
  go_enter Try.func73, Try.ntmps73
  go_wp2
  go_loopw [5] (fun i wr => ∃ k : Nat, k ≤ ms.length ∧ i = .int .i64 k ∧ Below w.heap.size w wr) (fun i _ => ms.length - (intOf i).toNat)
  case atStart => exact ⟨0, Nat.zero_le _, rfl, Below.refl _ _⟩
  case round =>
    obtain ⟨k, hk, rfl, hb⟩ := hrel
    by_cases hlt : k < ms.length
    · obtain ⟨g, rfl⟩ := hxa (by omega)
      obtain ⟨g', rfl⟩ := hya (by omega)
      obtain ⟨vs, ib, hE, hc, _⟩ := ((unhide H).below hb).at (List.getElem?_eq_getElem hlt)
      obtain ⟨a0, a1, a2, a3, a4, rfl⟩ := list5 (fopE.len hE)
      have c0 : wr.cell? ⟨g, k * 5, none⟩ = _ := (hc 0 _ rfl).1
      have c1 : wr.cell? ⟨g, k * 5 + 1, none⟩ = _ := (hc 1 _ rfl).1
      have c2 : wr.cell? ⟨g, k * 5 + 2, none⟩ = _ := (hc 2 _ rfl).1
      have c3 : wr.cell? ⟨g, k * 5 + 3, none⟩ = _ := (hc 3 _ rfl).1
      have c4 : wr.cell? ⟨g, k * 5 + 4, none⟩ = _ := (hc 4 _ rfl).1
      obtain ⟨vs, jb, hE', hc', _⟩ := ((unhide K).below hb).at (List.getElem?_eq_getElem hlt)
      obtain ⟨b0, b1, b2, b3, b4, rfl⟩ := list5 (fopE.len hE')
      have d0 : wr.cell? ⟨g', k * 5, none⟩ = _ := (hc' 0 _ rfl).1
      have d1 : wr.cell? ⟨g', k * 5 + 1, none⟩ = _ := (hc' 1 _ rfl).1
      have d2 : wr.cell? ⟨g', k * 5 + 2, none⟩ = _ := (hc' 2 _ rfl).1
      have d3 : wr.cell? ⟨g', k * 5 + 3, none⟩ = _ := (hc' 3 _ rfl).1
      have d4 : wr.cell? ⟨g', k * 5 + 4, none⟩ = _ := (hc' 4 _ rfl).1
      have hx : Below wr.heap.size wr wr.drew := (Below.refl _ _).drew
      have HM := hide (eqFop_walk a0 a1 a2 a3 a4 b0 b1 b2 b3 b4 ms[k] ib jb wr.drew (fopE.keep hE (.of_below hx (fopE.lt hE))) (fopE.keep hE' (.of_below hx (fopE.lt hE'))))
      have HB := hide hb
      have hlt' : (k : Int) < (ms.length : Int) := by omega
      clear hxa hya hc hc' hE hE' hb hx
      go_wp2
      go_region_law (go_simp; refine (unhide HM).mono ?_; rintro e w1 ⟨rfl, b1⟩)
      all_goals go_wp2
      all_goals go_roundw
      all_goals first
        | exact ⟨k + 1, by omega, by go_num, (unhide HB).drew.trans (b1.mono (by have := (unhide HB).size; simp; omega))⟩
        | (simp [intOf]; omega)
    · clear hxa hya
      go_wp2
      go_ret
      exact ⟨rfl, hb⟩
set_option maxRecDepth 100000 in
set_option maxHeartbeats 1600000 in
theorem eqSel_walk (a0 a1 a2 a3 a4 a5 a6 a7 a8 b0 b1 b2 b3 b4 b5 b6 b7 b8 : Value) (m : PSel) (ib jb : List Nat) (w : World) (h : selE.E w [a0, a1, a2, a3, a4, a5, a6, a7, a8] m ib) (k : selE.E w [b0, b1, b2, b3, b4, b5, b6, b7, b8] m jb) :
    Calls Try.prog 52 #[.agg #[a0, a1, a2, a3, a4, a5, a6, a7, a8], .agg #[b0, b1, b2, b3, b4, b5, b6, b7, b8]] w fun e w' => e = .returned (.bool true) ∧ Below w.heap.size w w' := by
  obtain ⟨q, hq, h1⟩ := h
  injection hq with e0 hq
  subst e0
  injection hq with e1 hq
  subst e1
  injection hq with e2 hq
  subst e2
  injection hq with e3 hq
  subst e3
  injection hq with e4 hq
  subst e4
  injection hq with e5 hq
  subst e5
  injection hq with e6 hq
  subst e6
  injection hq with e7 hq
  subst e7
  injection hq with e8 hq
  subst e8
  clear hq
  obtain ⟨q, hq, k1⟩ := k
  injection hq with e0 hq
  subst e0
  injection hq with e1 hq
  subst e1
  injection hq with e2 hq
  subst e2
  injection hq with e3 hq
  subst e3
  injection hq with e4 hq
  subst e4
  injection hq with e5 hq
  subst e5
  injection hq with e6 hq
  subst e6
  injection hq with e7 hq
  subst e7
  injection hq with e8 hq
  subst e8
  clear hq
  have H1 := hide h1
  have K1 := hide k1
  clear h1 k1
  go_enter Try.func52, Try.ntmps52
  go_wp2_with fail
  have hA := new2 w (Obj.cells #[Value.int IntKind.i64 m.k, Value.string m.name, Value.bool m.hasA, Value.bool m.hasB, Value.bool m.hasC, Value.int IntKind.i64 m.a, Value.int IntKind.i64 m.b, Value.int IntKind.i64 m.c, a8] 43) (Obj.cells #[Value.int IntKind.i64 m.k, Value.string m.name, Value.bool m.hasA, Value.bool m.hasB, Value.bool m.hasC, Value.int IntKind.i64 m.a, Value.int IntKind.i64 m.b, Value.int IntKind.i64 m.c, b8] 43)
  generalize ((w.alloc (Obj.cells #[Value.int IntKind.i64 m.k, Value.string m.name, Value.bool m.hasA, Value.bool m.hasB, Value.bool m.hasC, Value.int IntKind.i64 m.a, Value.int IntKind.i64 m.b, Value.int IntKind.i64 m.c, a8] 43)).alloc (Obj.cells #[Value.int IntKind.i64 m.k, Value.string m.name, Value.bool m.hasA, Value.bool m.hasB, Value.bool m.hasC, Value.int IntKind.i64 m.a, Value.int IntKind.i64 m.b, Value.int IntKind.i64 m.c, b8] 43)) = wA at *
  refine (eqFops_walk a8 b8 m.cond ib jb wA ((unhide H1).below hA.bel) ((unhide K1).below hA.bel)).mono ?_
  rintro e w1 ⟨rfl, bb1⟩
  have hsz := hA.size
  have k0 := (bb1.block w.heap.size (by omega)).trans hA.k0
  have k1 := (bb1.block (w.heap.size + 1) (by omega)).trans hA.k1
  have HB := hide (below_next hA.bel bb1)
  clear hA bb1 k0 k1 H1 K1
  go_wp2
  go_ret
  exact ⟨rfl, unhide HB⟩
set_option maxRecDepth 100000 in
set_option maxHeartbeats 1600000 in
theorem eqSels_walk (v v' : Value) (ms : List PSel) (bl bl' : List Nat) (w : World) (h : ORow selE w v ms bl) (k : ORow selE w v' ms bl') :
    Calls Try.prog 33 #[v, v'] w fun e w' => e = .returned (.bool true) ∧ Below w.heap.size w w' := by
  have hm := h.len
  unfold maxLen at hm
  obtain ⟨xa, xc, rfl, _, hxa⟩ := h.form
  obtain ⟨ya, yc, rfl, _, hya⟩ := k.form
  have H := hide h
  have K := hide k
  clear h k
  go_enter Try.func33, Try.ntmps33
  go_wp2
  go_loopw [5] (fun i wr => ∃ k : Nat, k ≤ ms.length ∧ i = .int .i64 k ∧ Below w.heap.size w wr) (fun i _ => ms.length - (intOf i).toNat)
  case atStart => exact ⟨0, Nat.zero_le _, rfl, Below.refl _ _⟩
  case round =>
    obtain ⟨k, hk, rfl, hb⟩ := hrel
    by_cases hlt : k < ms.length
    · obtain ⟨g, rfl⟩ := hxa (by omega)
      obtain ⟨g', rfl⟩ := hya (by omega)
      obtain ⟨vs, ib, hE, hc, _⟩ := ((unhide H).below hb).at (List.getElem?_eq_getElem hlt)
      obtain ⟨a0, a1, a2, a3, a4, a5, a6, a7, a8, rfl⟩ := list9 (selE.len hE)
      have c0 : wr.cell? ⟨g, k * 9, none⟩ = _ := (hc 0 _ rfl).1
      have c1 : wr.cell? ⟨g, k * 9 + 1, none⟩ = _ := (hc 1 _ rfl).1
      have c2 : wr.cell? ⟨g, k * 9 + 2, none⟩ = _ := (hc 2 _ rfl).1
      have c3 : wr.cell? ⟨g, k * 9 + 3, none⟩ = _ := (hc 3 _ rfl).1
      have c4 : wr.cell? ⟨g, k * 9 + 4, none⟩ = _ := (hc 4 _ rfl).1
      have c5 : wr.cell? ⟨g, k * 9 + 5, none⟩ = _ := (hc 5 _ rfl).1
      have c6 : wr.cell? ⟨g, k * 9 + 6, none⟩ = _ := (hc 6 _ rfl).1
      have c7 : wr.cell? ⟨g, k * 9 + 7, none⟩ = _ := (hc 7 _ rfl).1
      have c8 : wr.cell? ⟨g, k * 9 + 8, none⟩ = _ := (hc 8 _ rfl).1
      obtain ⟨vs, jb, hE', hc', _⟩ := ((unhide K).below hb).at (List.getElem?_eq_getElem hlt)
      obtain ⟨b0, b1, b2, b3, b4, b5, b6, b7, b8, rfl⟩ := list9 (selE.len hE')
      have d0 : wr.cell? ⟨g', k * 9, none⟩ = _ := (hc' 0 _ rfl).1
      have d1 : wr.cell? ⟨g', k * 9 + 1, none⟩ = _ := (hc' 1 _ rfl).1
      have d2 : wr.cell? ⟨g', k * 9 + 2, none⟩ = _ := (hc' 2 _ rfl).1
      have d3 : wr.cell? ⟨g', k * 9 + 3, none⟩ = _ := (hc' 3 _ rfl).1
      have d4 : wr.cell? ⟨g', k * 9 + 4, none⟩ = _ := (hc' 4 _ rfl).1
      have d5 : wr.cell? ⟨g', k * 9 + 5, none⟩ = _ := (hc' 5 _ rfl).1
      have d6 : wr.cell? ⟨g', k * 9 + 6, none⟩ = _ := (hc' 6 _ rfl).1
      have d7 : wr.cell? ⟨g', k * 9 + 7, none⟩ = _ := (hc' 7 _ rfl).1
      have d8 : wr.cell? ⟨g', k * 9 + 8, none⟩ = _ := (hc' 8 _ rfl).1
      have hx : Below wr.heap.size wr wr.drew := (Below.refl _ _).drew
      have HM := hide (eqSel_walk a0 a1 a2 a3 a4 a5 a6 a7 a8 b0 b1 b2 b3 b4 b5 b6 b7 b8 ms[k] ib jb wr.drew (selE.keep hE (.of_below hx (selE.lt hE))) (selE.keep hE' (.of_below hx (selE.lt hE'))))
      have HB := hide hb
      have hlt' : (k : Int) < (ms.length : Int) := by omega
      clear hxa hya hc hc' hE hE' hb hx
      go_wp2
      go_region_law (go_simp; refine (unhide HM).mono ?_; rintro e w1 ⟨rfl, b1⟩)
      all_goals go_wp2
      all_goals go_roundw
      all_goals first
        | exact ⟨k + 1, by omega, by go_num, (unhide HB).drew.trans (b1.mono (by have := (unhide HB).size; simp; omega))⟩
        | (simp [intOf]; omega)
    · clear hxa hya
      go_wp2
      go_ret
      exact ⟨rfl, hb⟩
set_option maxRecDepth 100000 in
set_option maxHeartbeats 1600000 in
theorem eqSeg_walk (a0 a1 b0 b1 : Value) (m : PSeg) (ib jb : List Nat) (w : World) (h : segE.E w [a0, a1] m ib) (k : segE.E w [b0, b1] m jb) :
    Calls Try.prog 18 #[.agg #[a0, a1], .agg #[b0, b1]] w fun e w' => e = .returned (.bool true) ∧ Below w.heap.size w w' := by
  obtain ⟨q, hq, h1⟩ := h
  injection hq with e0 hq
  subst e0
  injection hq with e1 hq
  subst e1
  clear hq
  obtain ⟨q, hq, k1⟩ := k
  injection hq with e0 hq
  subst e0
  injection hq with e1 hq
  subst e1
  clear hq
  have H1 := hide h1
  have K1 := hide k1
  clear h1 k1
  go_enter Try.func18, Try.ntmps18
  go_wp2_with fail
  have hA := new2 w (Obj.cells #[Value.bool m.deep, a1] 39) (Obj.cells #[Value.bool m.deep, b1] 39)
  generalize ((w.alloc (Obj.cells #[Value.bool m.deep, a1] 39)).alloc (Obj.cells #[Value.bool m.deep, b1] 39)) = wA at *
  refine (eqSels_walk a1 b1 m.sels ib jb wA ((unhide H1).below hA.bel) ((unhide K1).below hA.bel)).mono ?_
  rintro e w1 ⟨rfl, bb1⟩
  have hsz := hA.size
  have k0 := (bb1.block w.heap.size (by omega)).trans hA.k0
  have k1 := (bb1.block (w.heap.size + 1) (by omega)).trans hA.k1
  have HB := hide (below_next hA.bel bb1)
  clear hA bb1 k0 k1 H1 K1
  go_wp2
  go_ret
  exact ⟨rfl, unhide HB⟩
set_option maxRecDepth 100000 in
set_option maxHeartbeats 1600000 in
theorem eqSegs_walk (v v' : Value) (ms : List PSeg) (bl bl' : List Nat) (w : World) (h : ORow segE w v ms bl) (k : ORow segE w v' ms bl') :
    Calls Try.prog 9 #[v, v'] w fun e w' => e = .returned (.bool true) ∧ Below w.heap.size w w' := by
  have hm := h.len
  unfold maxLen at hm
  obtain ⟨xa, xc, rfl, _, hxa⟩ := h.form
  obtain ⟨ya, yc, rfl, _, hya⟩ := k.form
  have H := hide h
  have K := hide k
  clear h k
  go_enter Try.func9, Try.ntmps9
  go_wp2
  go_loopw [5] (fun i wr => ∃ k : Nat, k ≤ ms.length ∧ i = .int .i64 k ∧ Below w.heap.size w wr) (fun i _ => ms.length - (intOf i).toNat)
  case atStart => exact ⟨0, Nat.zero_le _, rfl, Below.refl _ _⟩
  case round =>
    obtain ⟨k, hk, rfl, hb⟩ := hrel
    by_cases hlt : k < ms.length
    · obtain ⟨g, rfl⟩ := hxa (by omega)
      obtain ⟨g', rfl⟩ := hya (by omega)
      obtain ⟨vs, ib, hE, hc, _⟩ := ((unhide H).below hb).at (List.getElem?_eq_getElem hlt)
      obtain ⟨a0, a1, rfl⟩ := list2 (segE.len hE)
      have c0 : wr.cell? ⟨g, k * 2, none⟩ = _ := (hc 0 _ rfl).1
      have c1 : wr.cell? ⟨g, k * 2 + 1, none⟩ = _ := (hc 1 _ rfl).1
      obtain ⟨vs, jb, hE', hc', _⟩ := ((unhide K).below hb).at (List.getElem?_eq_getElem hlt)
      obtain ⟨b0, b1, rfl⟩ := list2 (segE.len hE')
      have d0 : wr.cell? ⟨g', k * 2, none⟩ = _ := (hc' 0 _ rfl).1
      have d1 : wr.cell? ⟨g', k * 2 + 1, none⟩ = _ := (hc' 1 _ rfl).1
      have hx : Below wr.heap.size wr wr.drew := (Below.refl _ _).drew
      have HM := hide (eqSeg_walk a0 a1 b0 b1 ms[k] ib jb wr.drew (segE.keep hE (.of_below hx (segE.lt hE))) (segE.keep hE' (.of_below hx (segE.lt hE'))))
      have HB := hide hb
      have hlt' : (k : Int) < (ms.length : Int) := by omega
      clear hxa hya hc hc' hE hE' hb hx
      go_wp2
      go_region_law (go_simp; refine (unhide HM).mono ?_; rintro e w1 ⟨rfl, b1⟩)
      all_goals go_wp2
      all_goals go_roundw
      all_goals first
        | exact ⟨k + 1, by omega, by go_num, (unhide HB).drew.trans (b1.mono (by have := (unhide HB).size; simp; omega))⟩
        | (simp [intOf]; omega)
    · clear hxa hya
      go_wp2
      go_ret
      exact ⟨rfl, hb⟩
end Go.Proofs.Ytiolpmhodbefoaa


namespace Go.Proofs.Ytiolpmhodbefoaa
open Go.RowKit

def rangeI (n : Int) : Bool := decide (-1000000000 < n) && decide (n < 1000000000)
def noLow (s : ByteArray) : Bool := s.data.toList.all fun c => decide (32 ≤ c.toNat)
def plainT (s : ByteArray) : Bool := noLow s && decide (s.size ≤ 1000)
def empT (s : ByteArray) : Bool := s.toList.isEmpty
def stepOk (p : PStep) : Bool := if p.byI = true then empT p.name && rangeI p.idx else (p.idx == 0) && plainT p.name
end Go.Proofs.Ytiolpmhodbefoaa


namespace Go.Proofs.Ytiolpmhodbefoaa
open Go.RowKit

def isRefK (k : Int) : Bool := k == 6 || k == 7 || k == 8
/-- The number of an operation. -/
def numOk (k n : Int) : Bool := if k = 1 then rangeI n else if k = 9 then decide (1 ≤ n) && decide (n ≤ 6) else n == 0
def fopOk (o : PFOp) : Bool := decide (1 ≤ o.k) && decide (o.k ≤ 12) && decide (o.steps.length ≤ 1000) && (isRefK o.k || (!o.root && decide (o.steps.length = 0))) && o.steps.all stepOk && (o.k == 2 || empT o.s) && numOk o.k o.n && plainT o.s
end Go.Proofs.Ytiolpmhodbefoaa


namespace Go.Proofs.Ytiolpmhodbefoaa
open Go.RowKit

/-- An operation with those that it took from the stack. -/
inductive CT where
  | mk (op : PFOp) (ps : List CT)
def CT.op : CT → PFOp
  | .mk op _ => op
def CT.ps : CT → List CT
  | .mk _ ps => ps
def CT.tru (c : CT) : Bool := isTru c.op.k
/-- One operation on the stack, the uppermost last. -/
def stepT (st : List CT) (op : PFOp) : Option (List CT) :=
  if st.length < parts op.k then none
  else if fopOk op = false then none
  else if (st.drop (st.length - parts op.k)).all (fun c => c.tru != (op.k == 9)) = true then some (st.take (st.length - parts op.k) ++ [.mk op (st.drop (st.length - parts op.k))]) else none
def runT : List PFOp → List CT → Option (List CT)
  | [], st => some st
  | o :: r, st => (stepT st o).bind fun st' => runT r st'
theorem fop_k {o : PFOp} (h : fopOk o = true) : 1 ≤ o.k ∧ o.k ≤ 12 := by
  unfold fopOk at h
  simp only [Bool.and_eq_true, decide_eq_true_eq] at h
  exact ⟨h.1.1.1.1.1.1.1, h.1.1.1.1.1.1.2⟩
end Go.Proofs.Ytiolpmhodbefoaa


namespace Go.Proofs.Ytiolpmhodbefoaa
open Go.RowKit

end Go.Proofs.Ytiolpmhodbefoaa


namespace Go.Proofs.Ytiolpmhodbefoaa
open Go.RowKit

/-- Rows marked from k on, by what marks an element and how many marks it takes. -/
def mkRow {α : Type} (f : Nat → α → α) (c : α → Nat) : Nat → List α → List α
  | _, [] => []
  | k, x :: r => f k x :: mkRow f c (k + c x) r
def cntR {α : Type} (c : α → Nat) (l : List α) : Nat := (l.map c).sum
theorem mkRow_len {α : Type} (f : Nat → α → α) (c : α → Nat) : ∀ (l : List α) (k : Nat), (mkRow f c k l).length = l.length
  | [], _ => rfl
  | x :: r, k => by rw [mkRow, List.length_cons, mkRow_len f c r, List.length_cons]
theorem mkRow_snoc {α : Type} (f : Nat → α → α) (c : α → Nat) (x : α) : ∀ (l : List α) (k : Nat), mkRow f c k (l ++ [x]) = mkRow f c k l ++ [f (k + cntR c l) x]
  | [], k => by simp [mkRow, cntR]
  | y :: r, k => by
    rw [List.cons_append, mkRow, mkRow, mkRow_snoc f c x r, List.cons_append]
    unfold cntR
    rw [List.map_cons, List.sum_cons, Nat.add_assoc]
/-- A row under way. -/
def mkRowAt {α : Type} (f : Nat → α → α) (c : α → Nat) (k : Nat) (l : List α) (j : Nat) : List α := mkRow f c k (l.take j) ++ l.drop j
section
variable {α : Type} {f : Nat → α → α} {c : α → Nat} {k : Nat} {l : List α} {j : Nat}
theorem mkRowAt_0 : mkRowAt f c k l 0 = l := by simp [mkRowAt, mkRow]
theorem mkRowAt_all : mkRowAt f c k l l.length = mkRow f c k l := by simp [mkRowAt]
theorem mkRowAt_at (h : j < l.length) : (mkRowAt f c k l j)[j]? = some l[j] := by
  have hl : (mkRow f c k (l.take j)).length = j := by rw [mkRow_len, List.length_take]; omega
  unfold mkRowAt
  rw [List.getElem?_append_right (by omega), hl, Nat.sub_self, List.getElem?_drop]
  simp [h]
theorem mkRowAt_set (h : j < l.length) (x : α) : (mkRowAt f c k l j).set j x = mkRow f c k (l.take j) ++ x :: l.drop (j + 1) := by
  have hl : (mkRow f c k (l.take j)).length = j := by rw [mkRow_len, List.length_take]; omega
  unfold mkRowAt
  rw [List.set_append_right _ _ (by omega), hl, Nat.sub_self, List.drop_eq_getElem_cons h, List.set_cons_zero]
theorem mkRowAt_succ (h : j < l.length) : mkRow f c k (l.take j) ++ f (k + cntR c (l.take j)) l[j] :: l.drop (j + 1) = mkRowAt f c k l (j + 1) := by
  unfold mkRowAt
  rw [List.take_succ_eq_append_getElem h, mkRow_snoc, List.append_assoc]; rfl
theorem cnt_succ (h : j < l.length) : cntR c (l.take (j + 1)) = cntR c (l.take j) + c l[j] := by
  exact sum_take_snoc c l j l[j] (List.getElem?_eq_getElem h)
theorem cnt_le : cntR c (l.take j) ≤ cntR c l := by
  unfold cntR
  rw [List.map_take]; exact sum_take_le _ _
theorem mkRow_at (h : j < l.length) : (mkRow f c k l)[j]? = some (f (k + cntR c (l.take j)) l[j]) := by
  induction l generalizing j k with
  | nil => simp at h
  | cons x r ih =>
    cases j with
    | zero => simp [mkRow, cntR]
    | succ j =>
      rw [mkRow, List.getElem?_cons_succ, ih (by simpa using h), List.take_succ_cons, List.getElem_cons_succ]
      unfold cntR
      rw [List.map_cons, List.sum_cons, Nat.add_assoc]
theorem mid_at {A B : List α} {x : α} (h : A.length = j) : (A ++ x :: B)[j]? = some x := by
  rw [List.getElem?_append_right (by omega), h, Nat.sub_self]; rfl
theorem mid_set {A B : List α} {x : α} (h : A.length = j) (y : α) : (A ++ x :: B).set j y = A ++ y :: B := by
  rw [List.set_append_right _ _ (by omega), h, Nat.sub_self, List.set_cons_zero]
theorem cell_set_off (w : World) (g i j : Nat) (v : Value) (h : i ≠ j) : (w.setCell ⟨g, i, none⟩ v).cell? ⟨g, j, none⟩ = w.cell? ⟨g, j, none⟩ := World.cell?_setCell_other _ _ _ _ (by intro e; injection e with _ e; exact h e)
theorem mkRow_take_len (h : j < l.length) : (mkRow f c k (l.take j)).length = j := by rw [mkRow_len, List.length_take]; omega
end
end Go.Proofs.Ytiolpmhodbefoaa

