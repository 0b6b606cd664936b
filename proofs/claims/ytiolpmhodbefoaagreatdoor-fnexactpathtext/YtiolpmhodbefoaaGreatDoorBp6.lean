import Derived.Deep.RegionWith
import Derived.Deep.RegionLaw
import Derived.Test.YtiolpmhodbefoaaGreatDoorBp4
import Derived.Test.YtiolpmhodbefoaaGreatDoorBp5
import Derived.Test.YtiolpmhodbefoaaGreatDoorBp2
import Derived.Deep.CutRange
namespace Go.Proofs.YtiolpmhodbefoaaGreatDoor
open Go.RowKit

theorem ORow.len {α : Type} {e : Elem α} {w : World} {v : Value} {xs : List α} {bl : List Nat} (h : ORow e w v xs bl) : xs.length ≤ maxLen := by
  obtain ⟨ps, hl, hE, ho, _⟩ := h
  rcases ho.2 with ⟨hv, h0⟩ | ⟨g, cap, cur, hv, _, _, h1, h2, _⟩
  · omega
  · omega

/-- Two new blocks. -/
structure New2 (w : World) (a b : Obj) (w' : World) : Prop where
  bel : Below w.heap.size w w'
  size : w'.heap.size = w.heap.size + 1 + 1
  k0 : w'.heap[w.heap.size]? = some a
  k1 : w'.heap[w.heap.size + 1]? = some b
theorem new2 (w : World) (a b : Obj) : New2 w a b ((w.alloc a).alloc b) := by
  refine ⟨below_next (alloc_b w _) (alloc_b _ _), by simp, ?_, ?_⟩
  · exact ((alloc_b _ b).block _ (by simp)).trans (heap_alloc_new w a)
  · have := heap_alloc_new (w.alloc a) b
    rw [show (w.alloc a).heap.size = w.heap.size + 1 from by simp] at this
    exact this
end Go.Proofs.YtiolpmhodbefoaaGreatDoor


namespace Go.Proofs.YtiolpmhodbefoaaGreatDoor
open Go.RowKit

set_option maxRecDepth 100000 in
set_option maxHeartbeats 1600000 in
theorem eqStep_walk (a0 a1 a2 b0 b1 b2 : Value) (m : PStep) (ib jb : List Nat) (w : World) (h : stepE.E w [a0, a1, a2] m ib) (k : stepE.E w [b0, b1, b2] m jb) :
    Calls Tryz.prog 153 #[.agg #[a0, a1, a2], .agg #[b0, b1, b2]] w fun e w' => e = .returned (.bool true) ∧ Below w.heap.size w w' := by
  have hq := h.1
  injection hq with e0 hq
  subst e0
  injection hq with e1 hq
  subst e1
  injection hq with e2 hq
  subst e2
  clear hq
  have hq := k.1
  injection hq with e0 hq
  subst e0
  injection hq with e1 hq
  subst e1
  injection hq with e2 hq
  subst e2
  clear hq
  go_enter Tryz.func153, Tryz.ntmps153
  go_wp2
  go_ret
  exact ⟨rfl, below_next (alloc_b w _) (alloc_b _ _)⟩
set_option maxRecDepth 100000 in
set_option maxHeartbeats 1600000 in
theorem eqSteps_walk (v v' : Value) (ms : List PStep) (bl bl' : List Nat) (w : World) (h : ORow stepE w v ms bl) (k : ORow stepE w v' ms bl') :
    Calls Tryz.prog 142 #[v, v'] w fun e w' => e = .returned (.bool true) ∧ Below w.heap.size w w' := by
  have hm := h.len
  unfold maxLen at hm
  obtain ⟨xa, xc, rfl, _, hxa⟩ := h.form
  obtain ⟨ya, yc, rfl, _, hya⟩ := k.form
  have H := hide h
  have K := hide k
  clear h k
  go_enter Tryz.func142, Tryz.ntmps142
  go_wp2
  go_loopw [5] (fun i wr => ∃ k : Nat, k ≤ ms.length ∧ i = .int .i64 k ∧ Below w.heap.size w wr) (fun i _ => ms.length - (intOf i).toNat)
  case atStart => exact ⟨0, Nat.zero_le _, rfl, Below.refl _ _⟩
  case round =>
    obtain ⟨k, hk, rfl, hb⟩ := hrel
    by_cases hlt : k < ms.length
    · obtain ⟨g, rfl⟩ := hxa (by omega)
      obtain ⟨g', rfl⟩ := hya (by omega)
      obtain ⟨vs, ib, hE, hc, _⟩ := ((unhide H).below hb).at (List.getElem?_eq_getElem hlt)
      obtain ⟨a0, a1, a2, rfl⟩ := list3 (stepE.len hE)
      have c0 : wr.cell? ⟨g, k * 3, none⟩ = _ := (hc 0 _ rfl).1
      have c1 : wr.cell? ⟨g, k * 3 + 1, none⟩ = _ := (hc 1 _ rfl).1
      have c2 : wr.cell? ⟨g, k * 3 + 2, none⟩ = _ := (hc 2 _ rfl).1
      obtain ⟨vs, jb, hE', hc', _⟩ := ((unhide K).below hb).at (List.getElem?_eq_getElem hlt)
      obtain ⟨b0, b1, b2, rfl⟩ := list3 (stepE.len hE')
      have d0 : wr.cell? ⟨g', k * 3, none⟩ = _ := (hc' 0 _ rfl).1
      have d1 : wr.cell? ⟨g', k * 3 + 1, none⟩ = _ := (hc' 1 _ rfl).1
      have d2 : wr.cell? ⟨g', k * 3 + 2, none⟩ = _ := (hc' 2 _ rfl).1
      have hx : Below wr.heap.size wr wr.drew := (Below.refl _ _).drew
      have HM := hide (eqStep_walk a0 a1 a2 b0 b1 b2 ms[k] ib jb wr.drew (stepE.keep hE (.of_below hx (stepE.lt hE))) (stepE.keep hE' (.of_below hx (stepE.lt hE'))))
      have HB := hide hb
      have hlt' : (k : Int) < (ms.length : Int) := by omega
      clear hxa hya hc hc' hE hE' hb hx
      go_wp2
      go_region_law (go_simp; refine (unhide HM).mono ?_; rintro e w1 ⟨rfl, b1⟩)
      all_goals go_wp2
      all_goals go_roundw
      all_goals first
        | exact ⟨k + 1, by omega, by go_num, (unhide HB).drew.trans (b1.mono (by have := (unhide HB).size; simp; omega))⟩
        | (simp [intOf]; omega)
    · clear hxa hya
      go_wp2
      go_ret
      exact ⟨rfl, hb⟩
set_option maxRecDepth 100000 in
set_option maxHeartbeats 1600000 in
theorem eqFop_walk (a0 a1 a2 a3 a4 b0 b1 b2 b3 b4 : Value) (m : PFOp) (ib jb : List Nat) (w : World) (h : fopE.E w [a0, a1, a2, a3, a4] m ib) (k : fopE.E w [b0, b1, b2, b3, b4] m jb) :
    Calls Tryz.prog 122 #[.agg #[a0, a1, a2, a3, a4], .agg #[b0, b1, b2, b3, b4]] w fun e w' => e = .returned (.bool true) ∧ Below w.heap.size w w' := by
  obtain ⟨q, hq, h1⟩ := h
  injection hq with e0 hq
  subst e0
  injection hq with e1 hq
  subst e1
  injection hq with e2 hq
  subst e2
  injection hq with e3 hq
  subst e3
  injection hq with e4 hq
  subst e4
  clear hq
  obtain ⟨q, hq, k1⟩ := k
  injection hq with e0 hq
  subst e0
  injection hq with e1 hq
  subst e1
  injection hq with e2 hq
  subst e2
  injection hq with e3 hq
  subst e3
  injection hq with e4 hq
  subst e4
  clear hq
  have H1 := hide h1
  have K1 := hide k1
  clear h1 k1
  go_enter Tryz.func122, Tryz.ntmps122
  go_wp2_with fail
  have hA := new2 w (Obj.cells #[Value.int IntKind.i64 m.k, Value.int IntKind.i64 m.n, Value.string m.s, Value.bool m.root, a4] 68) (Obj.cells #[Value.int IntKind.i64 m.k, Value.int IntKind.i64 m.n, Value.string m.s, Value.bool m.root, b4] 68)
  generalize ((w.alloc (Obj.cells #[Value.int IntKind.i64 m.k, Value.int IntKind.i64 m.n, Value.string m.s, Value.bool m.root, a4] 68)).alloc (Obj.cells #[Value.int IntKind.i64 m.k, Value.int IntKind.i64 m.n, Value.string m.s, Value.bool m.root, b4] 68)) = wA at *
  refine (eqSteps_walk a4 b4 m.steps ib jb wA ((unhide H1).below hA.bel) ((unhide K1).below hA.bel)).mono ?_
  rintro e w1 ⟨rfl, bb1⟩
  have hsz := hA.size
  have k0 := (bb1.block w.heap.size (by omega)).trans hA.k0
  have k1 := (bb1.block (w.heap.size + 1) (by omega)).trans hA.k1
  have HB := hide (below_next hA.bel bb1)
  clear hA bb1 k0 k1 H1 K1
  go_wp2
  go_ret
  exact ⟨rfl, unhide HB⟩
set_option maxRecDepth 100000 in
set_option maxHeartbeats 1600000 in
theorem eqFops_walk (v v' : Value) (ms : List PFOp) (bl bl' : List Nat) (w : World) (h : ORow fopE w v ms bl) (k : ORow fopE w v' ms bl') :
    Calls Tryz.prog 100 #[v, v'] w fun e w' => e = .returned (.bool true) ∧ Below w.heap.size w w' := by
  have hm := h.len
  unfold maxLen at hm
  obtain ⟨xa, xc, rfl, _, hxa⟩ := h.form
  obtain ⟨ya, yc, rfl, _, hya⟩ := k.form
  have H := hide h
  have K := hide k
  clear h k
  go_enter Tryz.func100, Tryz.ntmps100
  go_wp2
  go_loopw [5] (fun i wr => ∃ k : Nat, k ≤ ms.length ∧ i = .int .i64 k ∧ Below w.heap.size w wr) (fun i _ => ms.length - (intOf i).toNat)
  case atStart => exact ⟨0, Nat.zero_le _, rfl, Below.refl _ _⟩
  case round =>
    obtain ⟨k, hk, rfl, hb⟩ := hrel
    by_cases hlt : k < ms.length
    · obtain ⟨g, rfl⟩ := hxa (by omega)
      obtain ⟨g', rfl⟩ := hya (by omega)
      obtain ⟨vs, ib, hE, hc, _⟩ := ((unhide H).below hb).at (List.getElem?_eq_getElem hlt)
      obtain ⟨a0, a1, a2, a3, a4, rfl⟩ := list5 (fopE.len hE)
      have c0 : wr.cell? ⟨g, k * 5, none⟩ = _ := (hc 0 _ rfl).1
      have c1 : wr.cell? ⟨g, k * 5 + 1, none⟩ = _ := (hc 1 _ rfl).1
      have c2 : wr.cell? ⟨g, k * 5 + 2, none⟩ = _ := (hc 2 _ rfl).1
      have c3 : wr.cell? ⟨g, k * 5 + 3, none⟩ = _ := (hc 3 _ rfl).1
      have c4 : wr.cell? ⟨g, k * 5 + 4, none⟩ = _ := (hc 4 _ rfl).1
      obtain ⟨vs, jb, hE', hc', _⟩ := ((unhide K).below hb).at (List.getElem?_eq_getElem hlt)
      obtain ⟨b0, b1, b2, b3, b4, rfl⟩ := list5 (fopE.len hE')
      have d0 : wr.cell? ⟨g', k * 5, none⟩ = _ := (hc' 0 _ rfl).1
      have d1 : wr.cell? ⟨g', k * 5 + 1, none⟩ = _ := (hc' 1 _ rfl).1
      have d2 : wr.cell? ⟨g', k * 5 + 2, none⟩ = _ := (hc' 2 _ rfl).1
      have d3 : wr.cell? ⟨g', k * 5 + 3, none⟩ = _ := (hc' 3 _ rfl).1
      have d4 : wr.cell? ⟨g', k * 5 + 4, none⟩ = _ := (hc' 4 _ rfl).1
      have hx : Below wr.heap.size wr wr.drew := (Below.refl _ _).drew
      have HM := hide (eqFop_walk a0 a1 a2 a3 a4 b0 b1 b2 b3 b4 ms[k] ib jb wr.drew (fopE.keep hE (.of_below hx (fopE.lt hE))) (fopE.keep hE' (.of_below hx (fopE.lt hE'))))
      have HB := hide hb
      have hlt' : (k : Int) < (ms.length : Int) := by omega
      clear hxa hya hc hc' hE hE' hb hx
      go_wp2
      go_region_law (go_simp; refine (unhide HM).mono ?_; rintro e w1 ⟨rfl, b1⟩)
      all_goals go_wp2
      all_goals go_roundw
      all_goals first
        | exact ⟨k + 1, by omega, by go_num, (unhide HB).drew.trans (b1.mono (by have := (unhide HB).size; simp; omega))⟩
        | (simp [intOf]; omega)
    · clear hxa hya
      go_wp2
      go_ret
      exact ⟨rfl, hb⟩
set_option maxRecDepth 100000 in
set_option maxHeartbeats 1600000 in
theorem eqSel_walk (a0 a1 a2 a3 a4 a5 a6 a7 a8 b0 b1 b2 b3 b4 b5 b6 b7 b8 : Value) (m : PSel) (ib jb : List Nat) (w : World) (h : selE.E w [a0, a1, a2, a3, a4, a5, a6, a7, a8] m ib) (k : selE.E w [b0, b1, b2, b3, b4, b5, b6, b7, b8] m jb) :
    Calls Tryz.prog 73 #[.agg #[a0, a1, a2, a3, a4, a5, a6, a7, a8], .agg #[b0, b1, b2, b3, b4, b5, b6, b7, b8]] w fun e w' => e = .returned (.bool true) ∧ Below w.heap.size w w' := by
  obtain ⟨q, hq, h1⟩ := h
  injection hq with e0 hq
  subst e0
  injection hq with e1 hq
  subst e1
  injection hq with e2 hq
  subst e2
  injection hq with e3 hq
  subst e3
  injection hq with e4 hq
  subst e4
  injection hq with e5 hq
  subst e5
  injection hq with e6 hq
  subst e6
  injection hq with e7 hq
  subst e7
  injection hq with e8 hq
  subst e8
  clear hq
  obtain ⟨q, hq, k1⟩ := k
  injection hq with e0 hq
  subst e0
  injection hq with e1 hq
  subst e1
  injection hq with e2 hq
  subst e2
  injection hq with e3 hq
  subst e3
  injection hq with e4 hq
  subst e4
  injection hq with e5 hq
  subst e5
  injection hq with e6 hq
  subst e6
  injection hq with e7 hq
  subst e7
  injection hq with e8 hq
  subst e8
  clear hq
  have H1 := hide h1
  have K1 := hide k1
  clear h1 k1
  go_enter Tryz.func73, Tryz.ntmps73
  go_wp2_with fail
  have hA := new2 w (Obj.cells #[Value.int IntKind.i64 m.k, Value.string m.name, Value.bool m.hasA, Value.bool m.hasB, Value.bool m.hasC, Value.int IntKind.i64 m.a, Value.int IntKind.i64 m.b, Value.int IntKind.i64 m.c, a8] 46) (Obj.cells #[Value.int IntKind.i64 m.k, Value.string m.name, Value.bool m.hasA, Value.bool m.hasB, Value.bool m.hasC, Value.int IntKind.i64 m.a, Value.int IntKind.i64 m.b, Value.int IntKind.i64 m.c, b8] 46)
  generalize ((w.alloc (Obj.cells #[Value.int IntKind.i64 m.k, Value.string m.name, Value.bool m.hasA, Value.bool m.hasB, Value.bool m.hasC, Value.int IntKind.i64 m.a, Value.int IntKind.i64 m.b, Value.int IntKind.i64 m.c, a8] 46)).alloc (Obj.cells #[Value.int IntKind.i64 m.k, Value.string m.name, Value.bool m.hasA, Value.bool m.hasB, Value.bool m.hasC, Value.int IntKind.i64 m.a, Value.int IntKind.i64 m.b, Value.int IntKind.i64 m.c, b8] 46)) = wA at *
  refine (eqFops_walk a8 b8 m.cond ib jb wA ((unhide H1).below hA.bel) ((unhide K1).below hA.bel)).mono ?_
  rintro e w1 ⟨rfl, bb1⟩
  have hsz := hA.size
  have k0 := (bb1.block w.heap.size (by omega)).trans hA.k0
  have k1 := (bb1.block (w.heap.size + 1) (by omega)).trans hA.k1
  have HB := hide (below_next hA.bel bb1)
  clear hA bb1 k0 k1 H1 K1
  go_wp2
  go_ret
  exact ⟨rfl, unhide HB⟩
set_option maxRecDepth 100000 in
set_option maxHeartbeats 1600000 in
theorem eqSels_walk (v v' : Value) (ms : List PSel) (bl bl' : List Nat) (w : World) (h : ORow selE w v ms bl) (k : ORow selE w v' ms bl') :
    Calls Tryz.prog 43 #[v, v'] w fun e w' => e = .returned (.bool true) ∧ Below w.heap.size w w' := by
  have hm := h.len
  unfold maxLen at hm
  obtain ⟨xa, xc, rfl, _, hxa⟩ := h.form
  obtain ⟨ya, yc, rfl, _, hya⟩ := k.form
  have H := hide h
  have K := hide k
  clear h k
  go_enter Tryz.func43, Tryz.ntmps43
  go_wp2
  go_loopw [5] (fun i wr => ∃ k : Nat, k ≤ ms.length ∧ i = .int .i64 k ∧ Below w.heap.size w wr) (fun i _ => ms.length - (intOf i).toNat)
  case atStart => exact ⟨0, Nat.zero_le _, rfl, Below.refl _ _⟩
  case round =>
    obtain ⟨k, hk, rfl, hb⟩ := hrel
    by_cases hlt : k < ms.length
    · obtain ⟨g, rfl⟩ := hxa (by omega)
      obtain ⟨g', rfl⟩ := hya (by omega)
      obtain ⟨vs, ib, hE, hc, _⟩ := ((unhide H).below hb).at (List.getElem?_eq_getElem hlt)
      obtain ⟨a0, a1, a2, a3, a4, a5, a6, a7, a8, rfl⟩ := list9 (selE.len hE)
      have c0 : wr.cell? ⟨g, k * 9, none⟩ = _ := (hc 0 _ rfl).1
      have c1 : wr.cell? ⟨g, k * 9 + 1, none⟩ = _ := (hc 1 _ rfl).1
      have c2 : wr.cell? ⟨g, k * 9 + 2, none⟩ = _ := (hc 2 _ rfl).1
      have c3 : wr.cell? ⟨g, k * 9 + 3, none⟩ = _ := (hc 3 _ rfl).1
      have c4 : wr.cell? ⟨g, k * 9 + 4, none⟩ = _ := (hc 4 _ rfl).1
      have c5 : wr.cell? ⟨g, k * 9 + 5, none⟩ = _ := (hc 5 _ rfl).1
      have c6 : wr.cell? ⟨g, k * 9 + 6, none⟩ = _ := (hc 6 _ rfl).1
      have c7 : wr.cell? ⟨g, k * 9 + 7, none⟩ = _ := (hc 7 _ rfl).1
      have c8 : wr.cell? ⟨g, k * 9 + 8, none⟩ = _ := (hc 8 _ rfl).1
      obtain ⟨vs, jb, hE', hc', _⟩ := ((unhide K).below hb).at (List.getElem?_eq_getElem hlt)
      obtain ⟨b0, b1, b2, b3, b4, b5, b6, b7, b8, rfl⟩ := list9 (selE.len hE')
      have d0 : wr.cell? ⟨g', k * 9, none⟩ = _ := (hc' 0 _ rfl).1
      have d1 : wr.cell? ⟨g', k * 9 + 1, none⟩ = _ := (hc' 1 _ rfl).1
      have d2 : wr.cell? ⟨g', k * 9 + 2, none⟩ = _ := (hc' 2 _ rfl).1
      have d3 : wr.cell? ⟨g', k * 9 + 3, none⟩ = _ := (hc' 3 _ rfl).1
      have d4 : wr.cell? ⟨g', k * 9 + 4, none⟩ = _ := (hc' 4 _ rfl).1
      have d5 : wr.cell? ⟨g', k * 9 + 5, none⟩ = _ := (hc' 5 _ rfl).1
      have d6 : wr.cell? ⟨g', k * 9 + 6, none⟩ = _ := (hc' 6 _ rfl).1
      have d7 : wr.cell? ⟨g', k * 9 + 7, none⟩ = _ := (hc' 7 _ rfl).1
      have d8 : wr.cell? ⟨g', k * 9 + 8, none⟩ = _ := (hc' 8 _ rfl).1
      have hx : Below wr.heap.size wr wr.drew := (Below.refl _ _).drew
      have HM := hide (eqSel_walk a0 a1 a2 a3 a4 a5 a6 a7 a8 b0 b1 b2 b3 b4 b5 b6 b7 b8 ms[k] ib jb wr.drew (selE.keep hE (.of_below hx (selE.lt hE))) (selE.keep hE' (.of_below hx (selE.lt hE'))))
      have HB := hide hb
      have hlt' : (k : Int) < (ms.length : Int) := by omega
      clear hxa hya hc hc' hE hE' hb hx
      go_wp2
      go_region_law (go_simp; refine (unhide HM).mono ?_; rintro e w1 ⟨rfl, b1⟩)
      all_goals go_wp2
      all_goals go_roundw
      all_goals first
        | exact ⟨k + 1, by omega, by go_num, (unhide HB).drew.trans (b1.mono (by have := (unhide HB).size; simp; omega))⟩
        | (simp [intOf]; omega)
    · clear hxa hya
      go_wp2
      go_ret
      exact ⟨rfl, hb⟩
set_option maxRecDepth 100000 in
set_option maxHeartbeats 1600000 in
theorem eqSeg_walk (a0 a1 b0 b1 : Value) (m : PSeg) (ib jb : List Nat) (w : World) (h : segE.E w [a0, a1] m ib) (k : segE.E w [b0, b1] m jb) :
    Calls Tryz.prog 23 #[.agg #[a0, a1], .agg #[b0, b1]] w fun e w' => e = .returned (.bool true) ∧ Below w.heap.size w w' := by
  obtain ⟨q, hq, h1⟩ := h
  injection hq with e0 hq
  subst e0
  injection hq with e1 hq
  subst e1
  clear hq
  obtain ⟨q, hq, k1⟩ := k
  injection hq with e0 hq
  subst e0
  injection hq with e1 hq
  subst e1
  clear hq
  have H1 := hide h1
  have K1 := hide k1
  clear h1 k1
  go_enter Tryz.func23, Tryz.ntmps23
  go_wp2_with fail
  have hA := new2 w (Obj.cells #[Value.bool m.deep, a1] 42) (Obj.cells #[Value.bool m.deep, b1] 42)
  generalize ((w.alloc (Obj.cells #[Value.bool m.deep, a1] 42)).alloc (Obj.cells #[Value.bool m.deep, b1] 42)) = wA at *
  refine (eqSels_walk a1 b1 m.sels ib jb wA ((unhide H1).below hA.bel) ((unhide K1).below hA.bel)).mono ?_
  rintro e w1 ⟨rfl, bb1⟩
  have hsz := hA.size
  have k0 := (bb1.block w.heap.size (by omega)).trans hA.k0
  have k1 := (bb1.block (w.heap.size + 1) (by omega)).trans hA.k1
  have HB := hide (below_next hA.bel bb1)
  clear hA bb1 k0 k1 H1 K1
  go_wp2
  go_ret
  exact ⟨rfl, unhide HB⟩
set_option maxRecDepth 100000 in
set_option maxHeartbeats 1600000 in
theorem eqSegs_walk (v v' : Value) (ms : List PSeg) (bl bl' : List Nat) (w : World) (h : ORow segE w v ms bl) (k : ORow segE w v' ms bl') :
    Calls Tryz.prog 9 #[v, v'] w fun e w' => e = .returned (.bool true) ∧ Below w.heap.size w w' := by
  have hm := h.len
  unfold maxLen at hm
  obtain ⟨xa, xc, rfl, _, hxa⟩ := h.form
  obtain ⟨ya, yc, rfl, _, hya⟩ := k.form
  have H := hide h
  have K := hide k
  clear h k
  go_enter Tryz.func9, Tryz.ntmps9
  go_wp2
  go_loopw [5] (fun i wr => ∃ k : Nat, k ≤ ms.length ∧ i = .int .i64 k ∧ Below w.heap.size w wr) (fun i _ => ms.length - (intOf i).toNat)
  case atStart => exact ⟨0, Nat.zero_le _, rfl, Below.refl _ _⟩
  case round =>
    obtain ⟨k, hk, rfl, hb⟩ := hrel
    by_cases hlt : k < ms.length
    · obtain ⟨g, rfl⟩ := hxa (by omega)
      obtain ⟨g', rfl⟩ := hya (by omega)
      obtain ⟨vs, ib, hE, hc, _⟩ := ((unhide H).below hb).at (List.getElem?_eq_getElem hlt)
      obtain ⟨a0, a1, rfl⟩ := list2 (segE.len hE)
      have c0 : wr.cell? ⟨g, k * 2, none⟩ = _ := (hc 0 _ rfl).1
      have c1 : wr.cell? ⟨g, k * 2 + 1, none⟩ = _ := (hc 1 _ rfl).1
      obtain ⟨vs, jb, hE', hc', _⟩ := ((unhide K).below hb).at (List.getElem?_eq_getElem hlt)
      obtain ⟨b0, b1, rfl⟩ := list2 (segE.len hE')
      have d0 : wr.cell? ⟨g', k * 2, none⟩ = _ := (hc' 0 _ rfl).1
      have d1 : wr.cell? ⟨g', k * 2 + 1, none⟩ = _ := (hc' 1 _ rfl).1
      have hx : Below wr.heap.size wr wr.drew := (Below.refl _ _).drew
      have HM := hide (eqSeg_walk a0 a1 b0 b1 ms[k] ib jb wr.drew (segE.keep hE (.of_below hx (segE.lt hE))) (segE.keep hE' (.of_below hx (segE.lt hE'))))
      have HB := hide hb
      have hlt' : (k : Int) < (ms.length : Int) := by omega
      clear hxa hya hc hc' hE hE' hb hx
      go_wp2
      go_region_law (go_simp; refine (unhide HM).mono ?_; rintro e w1 ⟨rfl, b1⟩)
      all_goals go_wp2
      all_goals go_roundw
      all_goals first
        | exact ⟨k + 1, by omega, by go_num, (unhide HB).drew.trans (b1.mono (by have := (unhide HB).size; simp; omega))⟩
        | (simp [intOf]; omega)
    · clear hxa hya
      go_wp2
      go_ret
      exact ⟨rfl, hb⟩
end Go.Proofs.YtiolpmhodbefoaaGreatDoor


namespace Go.Proofs.YtiolpmhodbefoaaGreatDoor
open Go.RowKit

def rangeI (n : Int) : Bool := decide (-1000000000 < n) && decide (n < 1000000000)
def noLow (s : ByteArray) : Bool := s.data.toList.all fun c => decide (32 ≤ c.toNat)
def plainT (s : ByteArray) : Bool := noLow s && decide (s.size ≤ 1000)
def empT (s : ByteArray) : Bool := s.toList.isEmpty
def stepOk (p : PStep) : Bool := if p.byI = true then empT p.name && rangeI p.idx else (p.idx == 0) && plainT p.name
theorem range_walk (n : Int) (w : World) : Calls Tryz.prog 47 #[.int .i64 n] w fun e w' => e = .returned (.bool (rangeI n)) ∧ w = w' := by
  unfold rangeI
  by_cases h1 : -1000000000 < n
  · by_cases h2 : n < 1000000000
    · have t1 : decide (-1000000000 < n) = true := decide_eq_true h1
      have t2 : decide (n < 1000000000) = true := decide_eq_true h2
      rw [t1, t2]
      go_enter Tryz.func47, Tryz.ntmps47
      go_wp2
      go_ret
      exact ⟨rfl, rfl⟩
    · have t1 : decide (-1000000000 < n) = true := decide_eq_true h1
      have t2 : decide (n < 1000000000) = false := decide_eq_false h2
      rw [t1, t2]
      go_enter Tryz.func47, Tryz.ntmps47
      go_wp2
      go_ret
      exact ⟨rfl, rfl⟩
  · have t1 : decide (-1000000000 < n) = false := decide_eq_false h1
    rw [t1]
    go_enter Tryz.func47, Tryz.ntmps47
    go_wp2
    go_ret
    exact ⟨rfl, rfl⟩
theorem noLow_no {s : ByteArray} {j : Nat} (hj : j < s.size) (h : s[j].toNat < 32) : noLow s = false := by
  unfold noLow
  rw [List.all_eq_false]
  refine ⟨s[j], ?_, by simp; omega⟩
  rw [show s[j] = s.data[j] from rfl, Array.mem_toList_iff]
  exact Array.getElem_mem _
theorem noLow_yes {s : ByteArray} (h : ∀ j (hj : j < s.size), 32 ≤ s[j].toNat) : noLow s = true := by
  unfold noLow
  rw [List.all_eq_true]
  intro c hc
  obtain ⟨j, hj, rfl⟩ := List.mem_iff_getElem.1 hc
  have := h j (by simpa using hj)
  exact decide_eq_true this
set_option maxRecDepth 100000 in
set_option maxHeartbeats 1000000 in
theorem plain_walk (s : ByteArray) (w : World) (hs : s.size ≤ 1048576) : Calls Tryz.prog 46 #[.string s] w fun e w' => e = .returned (.bool (plainT s)) ∧ w = w' := by
  go_enter Tryz.func46, Tryz.ntmps46
  go_wp2
  go_loopw [3] (fun iv wr => ∃ k : Nat, k ≤ s.size ∧ iv = .int .i64 (k : Int) ∧ w = wr ∧ Hid (∀ j (hj : j < s.size), j < k → 32 ≤ s[j].toNat)) (fun iv _ => s.size - (intOf iv).toNat)
  case atStart => exact ⟨0, Nat.zero_le _, rfl, rfl, fun j _ hj => by omega⟩
  case round =>
    obtain ⟨k, hk, rfl, rfl, hd⟩ := hrel
    by_cases hlt : k < s.size
    · have hltI : (k : Int) < (s.size : Int) := by omega
      by_cases hc : s[k].toNat < 32
      · have hcI : ((s[k].toNat : Nat) : Int) < 32 := by omega
        have HQ : Hid (plainT s = false) := by show plainT s = false; unfold plainT; rw [noLow_no hlt hc]; rfl
        clear hd
        go_wp2
        go_ret
        exact ⟨by rw [unhide HQ]; rfl, rfl⟩
      · have hcI : ¬ ((s[k].toNat : Nat) : Int) < 32 := by omega
        have HD : Hid (∀ j (hj : j < s.size), j < k + 1 → 32 ≤ s[j].toNat) := fun j hj h => by
          by_cases e : j = k
          · subst e; omega
          · exact unhide hd j hj (by omega)
        clear hd
        go_wp2
        go_roundw
        case rel => exact ⟨k + 1, by omega, by go_num, trivial, HD⟩
        case measure => simp [intOf]; omega
    · have HQ : Hid (plainT s = decide ((s.size : Int) ≤ 1000)) := by
        show plainT s = _
        unfold plainT
        rw [noLow_yes fun j hj => unhide hd j hj (by omega), Bool.true_and]
        congr 1
        simp only [eq_iff_iff]
        omega
      clear hd
      go_wp2
      go_ret
      exact ⟨by rw [unhide HQ]; rfl, rfl⟩
theorem emp_iff (s : ByteArray) : empT s = true ↔ s.size = 0 := by
  unfold empT
  rw [ByteArray.toList_eq, List.isEmpty_iff, List.eq_nil_iff_length_eq_zero]
  simp
set_option maxRecDepth 100000 in
set_option maxHeartbeats 1000000 in
theorem stepOk_walk (m : PStep) (w : World) (hs : m.name.size ≤ 1048576) : Calls Tryz.prog 75 #[.agg #[.bool m.byI, .string m.name, .int .i64 m.idx]] w fun e w' => e = .returned (.bool (stepOk m)) ∧ Below w.heap.size w w' := by
  have HR : Hid (∀ w, Calls Tryz.prog 47 #[.int .i64 m.idx] w fun e w' => e = .returned (.bool (rangeI m.idx)) ∧ w = w') := fun w => range_walk _ w
  have HP : Hid (∀ w, Calls Tryz.prog 46 #[.string m.name] w fun e w' => e = .returned (.bool (plainT m.name)) ∧ w = w') := fun w => plain_walk _ w hs
  have HE : Hid (stepOk m = if m.byI = true then empT m.name && rangeI m.idx else (m.idx == 0) && plainT m.name) := rfl
  have HB : Hid (∀ o, Below w.heap.size w (w.alloc o)) := fun o => alloc_b w o
  generalize rangeI m.idx = R at *
  generalize plainT m.name = Q at *
  obtain ⟨b, s, n⟩ := m
  simp only at *
  cases b with
  | true =>
    cases he : s.toList.isEmpty with
    | true =>
      have HX : Hid (stepOk ⟨true, s, n⟩ = R) := by show _ = _; rw [unhide HE]; unfold empT; rw [he]; simp
      clear HE HP
      go_enter Tryz.func75, Tryz.ntmps75
      go_wp2_with fail
      refine (unhide HR _).mono ?_
      rintro e w1 ⟨rfl, rfl⟩
      go_wp2
      go_ret
      exact ⟨by rw [unhide HX]; rfl, unhide HB _⟩
    | false =>
      have HX : Hid (stepOk ⟨true, s, n⟩ = false) := by show _ = _; rw [unhide HE]; unfold empT; rw [he]; simp
      clear HE HP HR
      go_enter Tryz.func75, Tryz.ntmps75
      go_wp2
      go_ret
      exact ⟨by rw [unhide HX]; rfl, unhide HB _⟩
  | false =>
    by_cases hn : n = 0
    · subst hn
      have HX : Hid (stepOk ⟨false, s, 0⟩ = Q) := by show _ = _; rw [unhide HE]; simp
      clear HE HR
      go_enter Tryz.func75, Tryz.ntmps75
      go_wp2_with fail
      refine (unhide HP _).mono ?_
      rintro e w1 ⟨rfl, rfl⟩
      go_wp2
      go_ret
      exact ⟨by rw [unhide HX]; rfl, unhide HB _⟩
    · have HX : Hid (stepOk ⟨false, s, n⟩ = false) := by show _ = _; rw [unhide HE]; simp [hn]
      clear HE HR HP
      go_enter Tryz.func75, Tryz.ntmps75
      go_wp2
      go_ret
      exact ⟨by rw [unhide HX]; rfl, unhide HB _⟩
end Go.Proofs.YtiolpmhodbefoaaGreatDoor


namespace Go.Proofs.YtiolpmhodbefoaaGreatDoor
open Go.RowKit

def isRefK (k : Int) : Bool := k == 6 || k == 7 || k == 8
/-- The number of an operation. -/
def numOk (k n : Int) : Bool := if k = 1 then rangeI n else if k = 9 then decide (1 ≤ n) && decide (n ≤ 6) else n == 0
def fopOk (o : PFOp) : Bool := decide (1 ≤ o.k) && decide (o.k ≤ 12) && decide (o.steps.length ≤ 1000) && (isRefK o.k || (!o.root && decide (o.steps.length = 0))) && o.steps.all stepOk && (o.k == 2 || empT o.s) && numOk o.k o.n && plainT o.s
theorem plain_emp {s : ByteArray} (h : empT s = true) : plainT s = true := by
  have := (emp_iff s).1 h
  unfold plainT
  rw [noLow_yes fun j hj => by omega, Bool.true_and, decide_eq_true_eq]
  omega
theorem all_no {α : Type} {f : α → Bool} {l : List α} {j : Nat} (hj : j < l.length) (h : f l[j] = false) : l.all f = false := by
  rw [List.all_eq_false]
  exact ⟨l[j], List.getElem_mem _, by rw [h]; simp⟩
theorem all_yes {α : Type} {f : α → Bool} {l : List α} (h : ∀ j (hj : j < l.length), f l[j] = true) : l.all f = true := by
  rw [List.all_eq_true]
  intro x hx
  obtain ⟨j, hj, rfl⟩ := List.mem_iff_getElem.1 hx
  exact h j hj
set_option maxRecDepth 100000 in
set_option maxHeartbeats 1000000 in
theorem fopOk_out (m : PFOp) (v : Value) (w : World) (h : ¬ (1 ≤ m.k ∧ m.k ≤ 12)) :
    Calls Tryz.prog 48 #[.agg #[.int .i64 m.k, .int .i64 m.n, .string m.s, .bool m.root, v]] w fun e w' => e = .returned (.bool (fopOk m)) ∧ Below w.heap.size w w' := by
  have HX : Hid (fopOk m = false) := by
    show _ = _
    unfold fopOk
    by_cases h1 : 1 ≤ m.k
    · have : ¬ m.k ≤ 12 := fun h2 => h ⟨h1, h2⟩
      simp [this]
    · simp [h1]
  have HB : Hid (∀ o, Below w.heap.size w (w.alloc o)) := fun o => alloc_b w o
  obtain ⟨k, n, s, r, st⟩ := m
  simp only at *
  have h6 : ¬ k = 6 := by omega
  have h7 : ¬ k = 7 := by omega
  have h8 : ¬ k = 8 := by omega
  by_cases h1 : k < 1
  · clear h
    go_enter Tryz.func48, Tryz.ntmps48
    go_wp2
    go_ret
    exact ⟨by rw [unhide HX]; rfl, unhide HB _⟩
  · have h2 : 12 < k := by omega
    clear h
    go_enter Tryz.func48, Tryz.ntmps48
    go_wp2
    go_ret
    exact ⟨by rw [unhide HX]; rfl, unhide HB _⟩
set_option maxRecDepth 100000 in
set_option maxHeartbeats 2000000 in
theorem fopOk_long (m : PFOp) (v : Value) (bl : List Nat) (w : World) (h : ORow stepE w v m.steps bl) (hk : 1 ≤ m.k ∧ m.k ≤ 12) (hn : 1000 < m.steps.length) :
    Calls Tryz.prog 48 #[.agg #[.int .i64 m.k, .int .i64 m.n, .string m.s, .bool m.root, v]] w fun e w' => e = .returned (.bool (fopOk m)) ∧ Below w.heap.size w w' := by
  have HX : Hid (fopOk m = false) := by
    show _ = _
    unfold fopOk
    have : ¬ m.steps.length ≤ 1000 := by omega
    simp [this]
  have HB : Hid (∀ o, Below w.heap.size w (w.alloc o)) := fun o => alloc_b w o
  obtain ⟨a, c, rfl, -, -⟩ := h.form
  obtain ⟨k, n, s, r, st⟩ := m
  simp only at *
  have hnI : (1000 : Int) < (st.length : Int) := by omega
  clear h
  generalize st.length = L at *
  rcases (show k = 1 ∨ k = 2 ∨ k = 3 ∨ k = 4 ∨ k = 5 ∨ k = 6 ∨ k = 7 ∨ k = 8 ∨ k = 9 ∨ k = 10 ∨ k = 11 ∨ k = 12 by omega) with rfl | rfl | rfl | rfl | rfl | rfl | rfl | rfl | rfl | rfl | rfl | rfl
  all_goals
    clear hk
    go_enter Tryz.func48, Tryz.ntmps48
    go_wp2
    go_ret
    exact ⟨by rw [unhide HX]; rfl, unhide HB _⟩
set_option maxRecDepth 100000 in
set_option maxHeartbeats 2000000 in
theorem fopOk_ref (m : PFOp) (v : Value) (bl : List Nat) (w : World) (h : ORow stepE w v m.steps bl) (hk : 1 ≤ m.k ∧ m.k ≤ 12) (hn : ¬ 1000 < m.steps.length) (hr : isRefK m.k = false) (hs : m.root = true ∨ 0 < m.steps.length) :
    Calls Tryz.prog 48 #[.agg #[.int .i64 m.k, .int .i64 m.n, .string m.s, .bool m.root, v]] w fun e w' => e = .returned (.bool (fopOk m)) ∧ Below w.heap.size w w' := by
  have HX : Hid (fopOk m = false) := by
    show _ = _
    unfold fopOk
    rw [hr]
    rcases hs with h | h
    · simp [h]
    · have : ¬ m.steps.length = 0 := by omega
      simp [this]
  have HB : Hid (∀ o, Below w.heap.size w (w.alloc o)) := fun o => alloc_b w o
  obtain ⟨a, c, rfl, -, -⟩ := h.form
  obtain ⟨k, n, s, r, st⟩ := m
  simp only at *
  have hnI : ¬ (1000 : Int) < (st.length : Int) := by omega
  clear h
  generalize st.length = L at *
  rcases (show k = 1 ∨ k = 2 ∨ k = 3 ∨ k = 4 ∨ k = 5 ∨ k = 6 ∨ k = 7 ∨ k = 8 ∨ k = 9 ∨ k = 10 ∨ k = 11 ∨ k = 12 by omega) with rfl | rfl | rfl | rfl | rfl | rfl | rfl | rfl | rfl | rfl | rfl | rfl
  all_goals first | exact absurd hr (by decide) | skip
  all_goals
    clear hk hr
    cases r with
    | true =>
      go_enter Tryz.func48, Tryz.ntmps48
      go_wp2
      go_ret
      exact ⟨by rw [unhide HX]; rfl, unhide HB _⟩
    | false =>
      have hL : (0 : Int) < (L : Int) := by
        rcases hs with h | h
        · cases h
        · omega
      clear hs
      go_enter Tryz.func48, Tryz.ntmps48
      go_wp2
      go_ret
      exact ⟨by rw [unhide HX]; rfl, unhide HB _⟩
end Go.Proofs.YtiolpmhodbefoaaGreatDoor


namespace Go.Proofs.YtiolpmhodbefoaaGreatDoor
open Go.RowKit

/-- An operation with those that it took from the stack. -/
inductive CT where
  | mk (op : PFOp) (ps : List CT)
def CT.op : CT → PFOp
  | .mk op _ => op
def CT.ps : CT → List CT
  | .mk _ ps => ps
def CT.tru (c : CT) : Bool := isTru c.op.k
/-- One operation on the stack, the uppermost last. -/
def stepT (st : List CT) (op : PFOp) : Option (List CT) :=
  if st.length < parts op.k then none
  else if fopOk op = false then none
  else if (st.drop (st.length - parts op.k)).all (fun c => c.tru != (op.k == 9)) = true then some (st.take (st.length - parts op.k) ++ [.mk op (st.drop (st.length - parts op.k))]) else none
def runT : List PFOp → List CT → Option (List CT)
  | [], st => some st
  | o :: r, st => (stepT st o).bind fun st' => runT r st'
theorem runT_app (a b : List PFOp) (st : List CT) : runT (a ++ b) st = (runT a st).bind fun st' => runT b st' := by
  induction a generalizing st with
  | nil => rfl
  | cons k r ih =>
    rw [List.cons_append, runT, runT]
    cases stepT st k with
    | none => rfl
    | some S' => exact ih S'
theorem runT_snoc {a : List PFOp} {st st' : List CT} (h : runT a st = some st') (o : PFOp) : runT (a ++ [o]) st = stepT st' o := by
  rw [runT_app, h, Option.bind_some, runT]
  cases stepT st' o <;> rfl
def condR (ops : List PFOp) : Option CT :=
  if 1000 < ops.length then none else
  match runT ops [] with
  | some [c] => if c.tru = true then some c else none
  | _ => none
theorem stepT_S {st : List CT} {op : PFOp} (hf : fopOk op = true) : (stepT st op).map (fun s => (s.map CT.tru).reverse) = stepS (st.map CT.tru).reverse op.k := by
  unfold stepT stepS
  rw [List.length_reverse, List.length_map]
  by_cases hl : st.length < parts op.k
  · rw [if_pos hl, if_pos hl]; rfl
  · rw [if_neg hl, if_neg hl, if_neg (by rw [hf]; simp)]
    have e1 : ((st.map CT.tru).reverse).take (parts op.k) = ((st.drop (st.length - parts op.k)).map CT.tru).reverse := by
      rw [List.take_reverse, List.length_map, List.map_drop]
    have e2 : ((st.map CT.tru).reverse).drop (parts op.k) = ((st.take (st.length - parts op.k)).map CT.tru).reverse := by
      rw [List.drop_reverse, List.length_map, List.map_take]
    rw [e1, e2, List.all_reverse, List.all_map]
    by_cases ha : (st.drop (st.length - parts op.k)).all (fun c => c.tru != (op.k == 9)) = true
    · rw [if_pos ha, if_pos (by rw [← ha]; rfl)]
      simp [CT.tru, CT.op]
    · rw [if_neg ha, if_neg (by intro h; apply ha; rw [← h]; rfl)]
      rfl
theorem runT_S : ∀ (ops : List PFOp) (st : List CT), ops.all fopOk = true → (runT ops st).map (fun s => (s.map CT.tru).reverse) = runS (ops.map (·.k)) (st.map CT.tru).reverse
  | [], st, _ => rfl
  | o :: r, st, h => by
    rw [List.all_cons, Bool.and_eq_true] at h
    rw [runT, List.map_cons, runS, ← stepT_S h.1]
    cases stepT st o with
    | none => rfl
    | some st' => exact runT_S r st' h.2
theorem runT_bad : ∀ (ops : List PFOp) (st : List CT), ops.all fopOk = false → runT ops st = none
  | [], st, h => by simp at h
  | o :: r, st, h => by
    rw [List.all_cons, Bool.and_eq_false_iff] at h
    rw [runT]
    by_cases ho : fopOk o = true
    · cases stepT st o with
      | none => rfl
      | some st' => exact runT_bad r st' (by rcases h with h | h; rw [ho] at h; cases h; exact h)
    · have : stepT st o = none := by
        unfold stepT
        split
        · rfl
        · rw [if_pos (by cases hq : fopOk o with | false => rfl | true => exact absurd hq ho)]
      rw [this]; rfl
theorem fop_k {o : PFOp} (h : fopOk o = true) : 1 ≤ o.k ∧ o.k ≤ 12 := by
  unfold fopOk at h
  simp only [Bool.and_eq_true, decide_eq_true_eq] at h
  exact ⟨h.1.1.1.1.1.1.1, h.1.1.1.1.1.1.2⟩
/-- Whether a filter's operations are valid. -/
def condOk (ops : List PFOp) : Bool := decide (ops.length ≤ 1000) && ops.all fopOk && (runS (ops.map (·.k)) [] == some [true])
theorem condR_some (ops : List PFOp) : (condR ops).isSome = condOk ops := by
  unfold condR condOk
  by_cases hl : 1000 < ops.length
  · rw [if_pos hl, decide_eq_false (by omega)]; rfl
  · rw [if_neg hl, decide_eq_true (by omega), Bool.true_and]
    cases ha : ops.all fopOk with
    | false => rw [runT_bad _ _ ha]; rfl
    | true =>
      have h := runT_S ops [] ha
      simp only [List.map_nil, List.reverse_nil] at h
      rw [← h, Bool.true_and]
      cases hr : runT ops [] with
      | none => rfl
      | some st =>
        simp only [Option.map_some]
        match st with
        | [] => rfl
        | [c] =>
          simp only [List.map_cons, List.map_nil, List.reverse_singleton]
          cases c.tru <;> rfl
        | c :: d :: r =>
          symm
          rw [Option.isSome_none, beq_eq_false_iff_ne]
          intro e
          injection e with e
          have := congrArg List.length e
          simp at this
/-- Found backwards: where what ends at a place begins. -/
def startI (n : Nat) (l : List Int) (t : Bool) : Int := match backF n l t with
  | some r => (r.length : Int)
  | none => -1
theorem back_len {n : Nat} {l : List Int} {t : Bool} {r : List Int} (h : backF n l t = some r) : r.length < l.length ∧ ∃ p, l = p ++ r := by
  obtain ⟨m, e, hw⟩ := back_sound n l t r h
  refine ⟨?_, _, e⟩
  have : m ≠ [] := by
    intro hm
    rw [hm] at hw
    have := hw.run []
    simp [runS] at this
  have : 0 < m.length := List.length_pos_iff.2 this
  rw [e]; simp; omega
theorem back_take {n i : Nat} {ks : List Int} {t : Bool} {r : List Int} (h : backF n (ks.take i).reverse t = some r) : r = (ks.take r.length).reverse ∧ r.length < i ∧ r.length < ks.length := by
  obtain ⟨h1, p, e⟩ := back_len h
  rw [List.length_reverse, List.length_take] at h1
  refine ⟨?_, by omega, by omega⟩
  have e2 : ks.take i = r.reverse ++ p.reverse := by rw [← List.reverse_append, ← e, List.reverse_reverse]
  have e3 : (ks.take i).take r.length = r.reverse := by rw [e2]; simp
  rw [List.take_take, Nat.min_eq_left (by omega)] at e3
  rw [e3, List.reverse_reverse]
theorem condOk_start (ops : List PFOp) : (decide (1 ≤ ops.length) && decide (ops.length ≤ 1000) && ops.all fopOk && (startI ops.length (ops.map (·.k)).reverse true == 0)) = condOk ops := by
  unfold condOk
  rw [Bool.eq_iff_iff]
  simp only [Bool.and_eq_true, decide_eq_true_eq, beq_iff_eq]
  constructor
  · rintro ⟨⟨⟨h1, h2⟩, h3⟩, h4⟩
    refine ⟨⟨h2, h3⟩, ?_⟩
    rw [cond_agree _ _ ops.length (by simp)]
    · unfold startI at h4
      split at h4
      · rename_i r hr
        rw [hr]
        congr 1
        exact List.eq_nil_of_length_eq_zero (by omega)
      · omega
    · intro k hk
      obtain ⟨o, ho, rfl⟩ := List.mem_map.1 hk
      exact fop_k (List.all_eq_true.1 h3 o ho)
  · rintro ⟨⟨h2, h3⟩, h4⟩
    have h5 := (cond_agree _ (fun k hk => by obtain ⟨o, ho, rfl⟩ := List.mem_map.1 hk; exact fop_k (List.all_eq_true.1 h3 o ho)) ops.length (by simp)).1 h4
    refine ⟨⟨⟨?_, h2⟩, h3⟩, ?_⟩
    · cases ops with
      | nil => simp [runS] at h4
      | cons a r => simp
    · unfold startI; rw [h5]; rfl
end Go.Proofs.YtiolpmhodbefoaaGreatDoor


namespace Go.Proofs.YtiolpmhodbefoaaGreatDoor
open Go.RowKit

/-- What is asked of a Sel beside its texts and numbers. -/
def selB (o : PSel) : Bool := (o.k == 1 || empT o.name) && (o.k == 4 || (!o.hasA && !o.hasB && !o.hasC)) && (o.hasA || o.k == 3 || o.a == 0) && (o.hasB || o.b == 0) && (o.hasC || o.c == 0) && (o.k == 5 || decide ((o.cond.length : Int) = 0))
def goodS (o : PSel) : Bool := decide (1 ≤ o.k) && decide (o.k ≤ 5) && plainT o.name && rangeI o.a && rangeI o.b && rangeI o.c && selB o
def selOk (o : PSel) : Bool := decide (1 ≤ o.k) && decide (o.k ≤ 5) && plainT o.name && rangeI o.a && rangeI o.b && rangeI o.c && selB o && (o.k != 5 || condOk o.cond)
theorem selOk_good (o : PSel) : selOk o = (goodS o && (o.k != 5 || condOk o.cond)) := rfl
theorem sum_mem {α : Type} (f : α → Nat) {l : List α} {x : α} (h : x ∈ l) : f x ≤ (l.map f).sum := by
  induction l with
  | nil => cases h
  | cons y r ih =>
    rw [List.map_cons, List.sum_cons]
    rcases List.mem_cons.1 h with rfl | h
    · omega
    · have := ih h; omega
theorem sz_fop {l : List PFOp} (h : szFops l ≤ 1048576) {o : PFOp} (ho : o ∈ l) : o.s.size ≤ 1048576 ∧ ∀ p ∈ o.steps, p.name.size ≤ 1048576 := by
  have h1 := sum_mem szFop ho
  have e1 : szFop o = o.s.size + szSteps o.steps := rfl
  have e2 : szSteps o.steps = o.steps.length + (o.steps.map szStep).sum := rfl
  have e3 : szFops l = l.length + (l.map szFop).sum := rfl
  refine ⟨by omega, fun p hp => ?_⟩
  have h2 := sum_mem szStep hp
  have e4 : szStep p = p.name.size := rfl
  omega
end Go.Proofs.YtiolpmhodbefoaaGreatDoor


namespace Go.Proofs.YtiolpmhodbefoaaGreatDoor
open Go.RowKit

/-- What is left to ask behind the steps. -/
def tailOk (o : PFOp) : Bool := (o.k == 2 || empT o.s) && numOk o.k o.n && plainT o.s
theorem fop_tail {o : PFOp} (hk : 1 ≤ o.k ∧ o.k ≤ 12) (hn : ¬ 1000 < o.steps.length) (hr : isRefK o.k = true ∨ (o.root = false ∧ o.steps.length = 0)) : fopOk o = (o.steps.all stepOk && tailOk o) := by
  unfold fopOk tailOk
  have h1 : (isRefK o.k || (!o.root && decide (o.steps.length = 0))) = true := by
    rcases hr with h | ⟨h, h'⟩
    · simp [h]
    · simp [h, h']
  rw [h1, decide_eq_true hk.1, decide_eq_true hk.2, decide_eq_true (show o.steps.length ≤ 1000 by omega)]
  simp only [Bool.true_and, Bool.and_assoc]
set_option maxRecDepth 100000 in
set_option maxHeartbeats 8000000 in
theorem fopOk_main (m : PFOp) (v : Value) (bl : List Nat) (w : World) (h : ORow stepE w v m.steps bl) (hk : 1 ≤ m.k ∧ m.k ≤ 12) (hn : ¬ 1000 < m.steps.length) (hr : isRefK m.k = true ∨ (m.root = false ∧ m.steps.length = 0)) (hs : m.s.size ≤ 1048576) (hns : ∀ p ∈ m.steps, p.name.size ≤ 1048576) :
    Calls Tryz.prog 48 #[.agg #[.int .i64 m.k, .int .i64 m.n, .string m.s, .bool m.root, v]] w fun e w' => e = .returned (.bool (fopOk m)) ∧ Below w.heap.size w w' := by
  have HF := hide (fop_tail hk hn hr)
  have HR : Hid (∀ w, Calls Tryz.prog 47 #[.int .i64 m.n] w fun e w' => e = .returned (.bool (rangeI m.n)) ∧ w = w') := fun w => range_walk _ w
  have HP : Hid (∀ w, Calls Tryz.prog 46 #[.string m.s] w fun e w' => e = .returned (.bool (plainT m.s)) ∧ w = w') := fun w => plain_walk _ w hs
  obtain ⟨a, c, rfl, -, hxa⟩ := h.form
  have HROW : Hid (∀ (wr : World) (j : Nat) (hj : j < m.steps.length), Below w.heap.size w wr → ∃ g, a = some ⟨g, 0, none⟩ ∧ wr.cell? ⟨g, j * 3, none⟩ = some (.bool m.steps[j].byI) ∧ wr.cell? ⟨g, j * 3 + 1, none⟩ = some (.string m.steps[j].name) ∧ wr.cell? ⟨g, j * 3 + 2, none⟩ = some (.int .i64 m.steps[j].idx) ∧
      Calls Tryz.prog 75 #[.agg #[.bool m.steps[j].byI, .string m.steps[j].name, .int .i64 m.steps[j].idx]] wr fun e w' => e = .returned (.bool (stepOk m.steps[j])) ∧ Below wr.heap.size wr w') := by
    intro wr j hj hb
    obtain ⟨g, rfl⟩ := hxa (by omega)
    obtain ⟨vs, ib, hE, hc, _⟩ := (h.below hb).at (List.getElem?_eq_getElem hj)
    obtain ⟨rfl, _⟩ := hE
    exact ⟨g, rfl, (hc 0 _ rfl).1, (hc 1 _ rfl).1, (hc 2 _ rfl).1, stepOk_walk _ wr (hns _ (List.getElem_mem hj))⟩
  have HNO : Hid (∀ j (hj : j < m.steps.length), stepOk m.steps[j] = false → fopOk m = false) := fun j hj e => by rw [unhide HF, all_no hj e]; rfl
  have HYES : Hid ((∀ j (hj : j < m.steps.length), stepOk m.steps[j] = true) → fopOk m = tailOk m) := fun e => by rw [unhide HF, all_yes e]; rfl
  have HT : Hid (tailOk m = ((m.k == 2 || empT m.s) && numOk m.k m.n && plainT m.s)) := rfl
  have HPE : Hid (empT m.s = true → plainT m.s = true) := plain_emp
  have HB : Hid (∀ o, Below w.heap.size w (w.alloc o)) := fun o => alloc_b w o
  obtain ⟨k, n, s, r, st⟩ := m
  simp only at *
  have hnI : ¬ (1000 : Int) < (st.length : Int) := by omega
  clear h hxa HF hs hns
  generalize fopOk ⟨k, n, s, r, st⟩ = FO at *
  generalize tailOk ⟨k, n, s, r, st⟩ = TO at *
  obtain ⟨BX, hBX⟩ : ∃ BX : World → Prop, BX = fun wr => wr.heap[w.heap.size]? = some (Obj.cells #[.int .i64 k, .int .i64 n, .string s, .bool r, .slice a st.length c] 68 (0, 0)) := ⟨_, rfl⟩
  have HX0 : Hid (BX (w.alloc (Obj.cells #[.int .i64 k, .int .i64 n, .string s, .bool r, .slice a st.length c] 68 (0, 0)))) := by rw [hBX]; exact heap_alloc_new w _
  have HXN : Hid (∀ wr w', BX wr → Below wr.heap.size wr w' → BX w') := by rw [hBX]; exact fun wr w' h hb => (hb.block _ (Array.getElem?_eq_some_iff.1 h).1).trans h
  have HBX : Hid (∀ wr, BX wr → wr.cell? ⟨w.heap.size, 0, none⟩ = some (.int .i64 k) ∧ wr.cell? ⟨w.heap.size, 1, none⟩ = some (.int .i64 n) ∧ wr.cell? ⟨w.heap.size, 2, none⟩ = some (.string s) ∧ wr.cell? ⟨w.heap.size, 4, none⟩ = some (.slice a st.length c)) := by
    rw [hBX]; exact fun wr h => ⟨Lib.cell_of_heap h 0, Lib.cell_of_heap h 1, Lib.cell_of_heap h 2, Lib.cell_of_heap h 4⟩
  clear hBX
  have hk1 : ¬ k < 1 := by omega
  have hk2 : ¬ 12 < k := by omega
  have hr0 : isRefK k = true ∨ (isRefK k = false ∧ r = false ∧ ¬ (0 : Int) < (st.length : Int)) := by
    cases hq : isRefK k with
    | true => exact .inl rfl
    | false =>
      rw [hq] at hr
      rcases hr with h | ⟨h, h'⟩
      · cases h
      · exact .inr ⟨rfl, h, by omega⟩
  have HR0 := hide hr0
  clear hr hk hn hr0
  go_enter Tryz.func48, Tryz.ntmps48
  go_upto_region 1 with fail
  go_cut [3] from 5 to 17 (fun x wx => x = .bool (isRefK k) ∧ wx = w.alloc (Obj.cells #[.int .i64 k, .int .i64 n, .string s, .bool r, .slice a st.length c] 68 (0, 0)))
  case first =>
    by_cases h6 : k = 6
    · subst h6
      go_wp2
      go_meet
      case rel => exact ⟨rfl, rfl⟩
    · by_cases h7 : k = 7
      · subst h7
        go_wp2
        go_meet
        case rel => exact ⟨rfl, rfl⟩
      · by_cases h8 : k = 8
        · subst h8
          go_wp2
          go_meet
          case rel => exact ⟨rfl, rfl⟩
        · go_wp2
          go_meet
          case rel => exact ⟨rfl, rfl⟩
  case rest =>
    obtain ⟨rfl, hwc⟩ := hcut
    have HX1 : Hid (BX wc) := by rw [hwc]; exact unhide HX0
    have HB1 : Hid (Below w.heap.size w wc) := by rw [hwc]; exact unhide HB _
    obtain ⟨c0, c1, c2, c4⟩ := unhide HBX _ (unhide HX1)
    have c3 : wc.cell? ⟨w.heap.size, 3, none⟩ = some (.bool r) := by rw [hwc]; exact Lib.cell_of_heap (heap_alloc_new w _) 3
    clear hwc HX0
    rcases unhide HR0 with hq | ⟨hq, rfl, hst0⟩
    all_goals
      rw [hq]
      clear hq
      go_wp2_with fail
      clear c0 c1 c2 c3 c4
      go_loopw [4] (fun iv wr => ∃ j : Nat, j ≤ st.length ∧ iv = .int .i64 (j : Int) ∧ Below w.heap.size w wr ∧ BX wr ∧ Hid (∀ i (hi : i < st.length), i < j → stepOk st[i] = true)) (fun iv _ => st.length - (intOf iv).toNat)
      case atStart => exact ⟨0, Nat.zero_le _, rfl, unhide HB1, unhide HX1, fun i _ hi => by omega⟩
    · case round =>
        obtain ⟨j, hj, rfl, hb, hbx, hd⟩ := hrel
        obtain ⟨c0, c1, c2, c4⟩ := unhide HBX _ hbx
        by_cases hlt : j < st.length
        · have hltI : (j : Int) < (st.length : Int) := by omega
          obtain ⟨g, rfl, d0, d1, d2, hcall⟩ := unhide HROW _ j hlt hb
          have HC := hide hcall
          have HBW := hide hb
          have HBXW := hide hbx
          have HJY : Hid (stepOk st[j] = true → ∀ i (hi : i < st.length), i < j + 1 → stepOk st[i] = true) := fun e i hi h => by
            by_cases ei : i = j
            · subst ei; exact e
            · exact unhide hd i hi (by omega)
          have HJN : Hid (stepOk st[j] = false → FO = false) := unhide HNO j hlt
          clear hcall hb hbx hd HNO HROW HYES HT HPE HR HP c0 c1 c2
          generalize st[j] = P at *
          go_wp2_with fail
          refine (unhide HC).mono ?_
          rintro e w1 ⟨rfl, b1⟩
          have HB2 := hide (below_next (unhide HBW) b1)
          have HX2 := hide (unhide HXN _ _ (unhide HBXW) b1)
          clear HC b1 d0 d1 d2 c4 HBW HBXW
          cases hst : stepOk P with
          | true =>
            have HD := hide (unhide HJY hst)
            clear hst HJY HJN
            go_wp2
            go_roundw
            case rel => exact ⟨j + 1, by omega, by go_num, unhide HB2, unhide HX2, HD⟩
            case measure => simp [intOf]; omega
          | false =>
            have HQ := hide (unhide HJN hst)
            clear hst HJY HJN
            go_wp2
            go_ret
            exact ⟨by rw [unhide HQ]; rfl, unhide HB2⟩
        · have HQ := hide (unhide HYES fun i hi => unhide hd i hi (by omega))
          have HBW := hide hb
          clear hb hbx hd HNO HROW HYES HXN HBX HB1 HX1
          have HTV : Hid (FO = ((k == 2 || empT s) && numOk k n && plainT s)) := (unhide HQ).trans (unhide HT)
          clear HQ HT
          by_cases h2 : k = 2
          · subst h2
            by_cases hn0 : n = 0
            · subst hn0
              have HV : Hid (FO = plainT s) := by show _ = _; rw [unhide HTV]; simp [numOk]
              clear HTV
              go_wp2_with fail
              refine (unhide HP _).mono ?_
              rintro e w1 ⟨rfl, rfl⟩
              go_wp2
              go_ret
              exact ⟨by rw [unhide HV]; rfl, unhide HBW⟩
            · have HV : Hid (FO = false) := by show _ = _; rw [unhide HTV]; simp [numOk, hn0]
              clear HTV
              go_wp2
              go_ret
              exact ⟨by rw [unhide HV]; rfl, unhide HBW⟩
          · cases he : s.toList.isEmpty with
            | false =>
              have HV : Hid (FO = false) := by show _ = _; rw [unhide HTV]; unfold empT; rw [he]; simp [h2]
              clear HTV
              go_wp2
              go_ret
              exact ⟨by rw [unhide HV]; rfl, unhide HBW⟩
            | true =>
              have hpl : plainT s = true := unhide HPE he
              have HV0 : Hid (FO = (numOk k n && plainT s)) := by show _ = _; rw [unhide HTV]; unfold empT; rw [he]; simp
              clear HTV
              by_cases h1 : k = 1
              · subst h1
                have HV : Hid (FO = rangeI n) := by show _ = _; rw [unhide HV0, hpl]; simp [numOk]
                clear HV0 hpl
                go_wp2_with fail
                refine (unhide HR _).mono ?_
                rintro e w1 ⟨rfl, rfl⟩
                go_wp2
                go_ret
                exact ⟨by rw [unhide HV]; rfl, unhide HBW⟩
              · by_cases h9 : k = 9
                · subst h9
                  by_cases a1 : 1 ≤ n
                  · by_cases a2 : n ≤ 6
                    · have HV : Hid (FO = true) := by show _ = _; rw [unhide HV0, hpl]; simp [numOk, a1, a2]
                      clear HV0 hpl
                      go_wp2
                      go_ret
                      exact ⟨by rw [unhide HV]; rfl, unhide HBW⟩
                    · have HV : Hid (FO = false) := by show _ = _; rw [unhide HV0, hpl]; simp [numOk, a2]
                      clear HV0 hpl
                      go_wp2
                      go_ret
                      exact ⟨by rw [unhide HV]; rfl, unhide HBW⟩
                  · have HV : Hid (FO = false) := by show _ = _; rw [unhide HV0, hpl]; simp [numOk, a1]
                    clear HV0 hpl
                    go_wp2
                    go_ret
                    exact ⟨by rw [unhide HV]; rfl, unhide HBW⟩
                · by_cases hn0 : n = 0
                  · subst hn0
                    have HV : Hid (FO = plainT s) := by show _ = _; rw [unhide HV0]; simp [numOk, h1, h9]
                    clear HV0 hpl
                    go_wp2_with fail
                    refine (unhide HP _).mono ?_
                    rintro e w1 ⟨rfl, rfl⟩
                    go_wp2
                    go_ret
                    exact ⟨by rw [unhide HV]; rfl, unhide HBW⟩
                  · have HV : Hid (FO = false) := by show _ = _; rw [unhide HV0]; simp [numOk, h1, h9, hn0]
                    clear HV0 hpl
                    go_wp2
                    go_ret
                    exact ⟨by rw [unhide HV]; rfl, unhide HBW⟩
    · case round =>
        obtain ⟨j, hj, rfl, hb, hbx, hd⟩ := hrel
        obtain ⟨c0, c1, c2, c4⟩ := unhide HBX _ hbx
        have hlt : ¬ j < st.length := by omega
        have HQ := hide (unhide HYES fun i hi => unhide hd i hi (by omega))
        have HBW := hide hb
        clear hb hbx hd HNO HROW HYES HXN HBX HB1 HX1
        have HTV : Hid (FO = ((k == 2 || empT s) && numOk k n && plainT s)) := (unhide HQ).trans (unhide HT)
        clear HQ HT
        by_cases h2 : k = 2
        · subst h2
          by_cases hn0 : n = 0
          · subst hn0
            have HV : Hid (FO = plainT s) := by show _ = _; rw [unhide HTV]; simp [numOk]
            clear HTV
            go_wp2_with fail
            refine (unhide HP _).mono ?_
            rintro e w1 ⟨rfl, rfl⟩
            go_wp2
            go_ret
            exact ⟨by rw [unhide HV]; rfl, unhide HBW⟩
          · have HV : Hid (FO = false) := by show _ = _; rw [unhide HTV]; simp [numOk, hn0]
            clear HTV
            go_wp2
            go_ret
            exact ⟨by rw [unhide HV]; rfl, unhide HBW⟩
        · cases he : s.toList.isEmpty with
          | false =>
            have HV : Hid (FO = false) := by show _ = _; rw [unhide HTV]; unfold empT; rw [he]; simp [h2]
            clear HTV
            go_wp2
            go_ret
            exact ⟨by rw [unhide HV]; rfl, unhide HBW⟩
          | true =>
            have hpl : plainT s = true := unhide HPE he
            have HV0 : Hid (FO = (numOk k n && plainT s)) := by show _ = _; rw [unhide HTV]; unfold empT; rw [he]; simp
            clear HTV
            by_cases h1 : k = 1
            · subst h1
              have HV : Hid (FO = rangeI n) := by show _ = _; rw [unhide HV0, hpl]; simp [numOk]
              clear HV0 hpl
              go_wp2_with fail
              refine (unhide HR _).mono ?_
              rintro e w1 ⟨rfl, rfl⟩
              go_wp2
              go_ret
              exact ⟨by rw [unhide HV]; rfl, unhide HBW⟩
            · by_cases h9 : k = 9
              · subst h9
                by_cases a1 : 1 ≤ n
                · by_cases a2 : n ≤ 6
                  · have HV : Hid (FO = true) := by show _ = _; rw [unhide HV0, hpl]; simp [numOk, a1, a2]
                    clear HV0 hpl
                    go_wp2
                    go_ret
                    exact ⟨by rw [unhide HV]; rfl, unhide HBW⟩
                  · have HV : Hid (FO = false) := by show _ = _; rw [unhide HV0, hpl]; simp [numOk, a2]
                    clear HV0 hpl
                    go_wp2
                    go_ret
                    exact ⟨by rw [unhide HV]; rfl, unhide HBW⟩
                · have HV : Hid (FO = false) := by show _ = _; rw [unhide HV0, hpl]; simp [numOk, a1]
                  clear HV0 hpl
                  go_wp2
                  go_ret
                  exact ⟨by rw [unhide HV]; rfl, unhide HBW⟩
              · by_cases hn0 : n = 0
                · subst hn0
                  have HV : Hid (FO = plainT s) := by show _ = _; rw [unhide HV0]; simp [numOk, h1, h9]
                  clear HV0 hpl
                  go_wp2_with fail
                  refine (unhide HP _).mono ?_
                  rintro e w1 ⟨rfl, rfl⟩
                  go_wp2
                  go_ret
                  exact ⟨by rw [unhide HV]; rfl, unhide HBW⟩
                · have HV : Hid (FO = false) := by show _ = _; rw [unhide HV0]; simp [numOk, h1, h9, hn0]
                  clear HV0 hpl
                  go_wp2
                  go_ret
                  exact ⟨by rw [unhide HV]; rfl, unhide HBW⟩
theorem fopOk_walk (m : PFOp) (v : Value) (bl : List Nat) (w : World) (h : ORow stepE w v m.steps bl) (hs : m.s.size ≤ 1048576) (hns : ∀ p ∈ m.steps, p.name.size ≤ 1048576) :
    Calls Tryz.prog 48 #[.agg #[.int .i64 m.k, .int .i64 m.n, .string m.s, .bool m.root, v]] w fun e w' => e = .returned (.bool (fopOk m)) ∧ Below w.heap.size w w' := by
  by_cases hk : 1 ≤ m.k ∧ m.k ≤ 12
  · by_cases hn : 1000 < m.steps.length
    · exact fopOk_long m v bl w h hk hn
    · cases hr : isRefK m.k with
      | true => exact fopOk_main m v bl w h hk hn (.inl hr) hs hns
      | false =>
        by_cases hx : m.root = true ∨ 0 < m.steps.length
        · exact fopOk_ref m v bl w h hk hn hr hx
        · exact fopOk_main m v bl w h hk hn (.inr ⟨by cases hq : m.root with | false => rfl | true => exact absurd (.inl hq) hx, by have : ¬ 0 < m.steps.length := fun h => hx (.inr h); omega⟩) hs hns
  · exact fopOk_out m v w hk
end Go.Proofs.YtiolpmhodbefoaaGreatDoor

