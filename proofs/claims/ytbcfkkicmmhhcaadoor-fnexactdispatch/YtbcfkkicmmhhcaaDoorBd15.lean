import Derived.Deep.RegionWith
import Derived.Deep.RegionLaw
import Derived.Test.YtbcfkkicmmhhcaaDoorBd11
import Derived.Test.YtbcfkkicmmhhcaaDoorBd12
namespace Go.Proofs.YtbcfkkicmmhhcaaDoor
open Go.RowKit

theorem draws_b (w : World) (n : Nat) : Below w.heap.size w (w.drewN n) := ⟨rfl, rfl, rfl, Nat.le_refl _, fun _ _ => rfl⟩
theorem ORow.len {α : Type} {e : Elem α} {w : World} {v : Value} {xs : List α} {bl : List Nat} (h : ORow e w v xs bl) : xs.length ≤ maxLen := by
  obtain ⟨ps, hl, hE, ho, _⟩ := h
  rcases ho.2 with ⟨hv, h0⟩ | ⟨g, cap, cur, hv, _, _, h1, h2, _⟩
  · omega
  · omega

theorem eqStr_walk (v v' : Value) (ss : List ByteArray) (bl bl' : List Nat) (w : World) (h : OStr w v ss bl) (k : OStr w v' ss bl') :
    Calls Tryd.prog 107 #[v, v'] w fun e w' => e = .returned (.bool true) ∧ Below w.heap.size w w' := by
  obtain ⟨a, g, cap, rfl, hs⟩ := h.ss
  obtain ⟨a', g', cap', rfl, ks⟩ := k.ss
  refine (eq_walk a a' g 0 cap g' 0 cap' ss w hs ks (by have := h.len; unfold maxLen at this; omega)).mono ?_
  rintro e w' ⟨rfl, n, rfl⟩
  exact ⟨rfl, draws_b w n⟩
/-- Two new blocks. -/
structure New2 (w : World) (a b : Obj) (w' : World) : Prop where
  bel : Below w.heap.size w w'
  size : w'.heap.size = w.heap.size + 1 + 1
  k0 : w'.heap[w.heap.size]? = some a
  k1 : w'.heap[w.heap.size + 1]? = some b
theorem new2 (w : World) (a b : Obj) : New2 w a b ((w.alloc a).alloc b) := by
  refine ⟨below_next (alloc_b w _) (alloc_b _ _), by simp, ?_, ?_⟩
  · exact ((alloc_b _ b).block _ (by simp)).trans (heap_alloc_new w a)
  · have := heap_alloc_new (w.alloc a) b
    rw [show (w.alloc a).heap.size = w.heap.size + 1 from by simp] at this
    exact this
set_option maxHeartbeats 1600000 in
theorem eqMsg_walk (a0 a1 a2 b0 b1 b2 : Value) (m : Msg) (ib jb : List Nat) (w : World) (h : msgE.E w [a0, a1, a2] m ib) (k : msgE.E w [b0, b1, b2] m jb) :
    Calls Tryd.prog 122 #[.agg #[a0, a1, a2], .agg #[b0, b1, b2]] w fun e w' => e = .returned (.bool true) ∧ Below w.heap.size w w' := by
  obtain ⟨q, hq, h1⟩ := h
  injection hq with e0 hq
  subst e0
  injection hq with e1 hq
  subst e1
  injection hq with e2 hq
  subst e2
  clear hq
  obtain ⟨q, hq, k1⟩ := k
  injection hq with e0 hq
  subst e0
  injection hq with e1 hq
  subst e1
  injection hq with e2 hq
  subst e2
  clear hq
  have H1 := hide h1
  have K1 := hide k1
  clear h1 k1
  go_enter Tryd.func122, Tryd.ntmps122
  go_wp2_with fail
  have hA := new2 w (Obj.cells #[Value.int IntKind.i64 m.ver, a1, Value.bool m.over] 115) (Obj.cells #[Value.int IntKind.i64 m.ver, b1, Value.bool m.over] 115)
  generalize ((w.alloc (Obj.cells #[Value.int IntKind.i64 m.ver, a1, Value.bool m.over] 115)).alloc (Obj.cells #[Value.int IntKind.i64 m.ver, b1, Value.bool m.over] 115)) = wA at *
  refine (eqStr_walk a1 b1 m.ptrs ib jb wA ((unhide H1).below hA.bel) ((unhide K1).below hA.bel)).mono ?_
  rintro e w1 ⟨rfl, bb1⟩
  have hsz := hA.size
  have k0 := (bb1.block w.heap.size (by omega)).trans hA.k0
  have k1 := (bb1.block (w.heap.size + 1) (by omega)).trans hA.k1
  have HB := hide (below_next hA.bel bb1)
  have c02 : w1.cell? ⟨w.heap.size, 2, none⟩ = some (.bool m.over) := Lib.cell_of_heap k0 2
  have c12 : w1.cell? ⟨w.heap.size + 1, 2, none⟩ = some (.bool m.over) := Lib.cell_of_heap k1 2
  clear hA bb1 k0 k1 H1 K1
  go_wp2
  go_ret
  exact ⟨rfl, unhide HB⟩
set_option maxHeartbeats 1600000 in
theorem eqMsgs_walk (v v' : Value) (ms : List Msg) (bl bl' : List Nat) (w : World) (h : ORow msgE w v ms bl) (k : ORow msgE w v' ms bl') :
    Calls Tryd.prog 106 #[v, v'] w fun e w' => e = .returned (.bool true) ∧ Below w.heap.size w w' := by
  have hm := h.len
  unfold maxLen at hm
  obtain ⟨xa, xc, rfl, _, hxa⟩ := h.form
  obtain ⟨ya, yc, rfl, _, hya⟩ := k.form
  have H := hide h
  have K := hide k
  clear h k
  go_enter Tryd.func106, Tryd.ntmps106
  go_wp2
  go_loopw [5] (fun i wr => ∃ k : Nat, k ≤ ms.length ∧ i = .int .i64 k ∧ Below w.heap.size w wr) (fun i _ => ms.length - (intOf i).toNat)
  case atStart => exact ⟨0, Nat.zero_le _, rfl, Below.refl _ _⟩
  case round =>
    obtain ⟨k, hk, rfl, hb⟩ := hrel
    by_cases hlt : k < ms.length
    · obtain ⟨g, rfl⟩ := hxa (by omega)
      obtain ⟨g', rfl⟩ := hya (by omega)
      obtain ⟨vs, ib, hE, hc, _⟩ := ((unhide H).below hb).at (List.getElem?_eq_getElem hlt)
      obtain ⟨a0, a1, a2, rfl⟩ := list3 (msgE.len hE)
      have c0 : wr.cell? ⟨g, k * 3, none⟩ = _ := (hc 0 _ rfl).1
      have c1 : wr.cell? ⟨g, k * 3 + 1, none⟩ = _ := (hc 1 _ rfl).1
      have c2 : wr.cell? ⟨g, k * 3 + 2, none⟩ = _ := (hc 2 _ rfl).1
      obtain ⟨vs, jb, hE', hc', _⟩ := ((unhide K).below hb).at (List.getElem?_eq_getElem hlt)
      obtain ⟨b0, b1, b2, rfl⟩ := list3 (msgE.len hE')
      have d0 : wr.cell? ⟨g', k * 3, none⟩ = _ := (hc' 0 _ rfl).1
      have d1 : wr.cell? ⟨g', k * 3 + 1, none⟩ = _ := (hc' 1 _ rfl).1
      have d2 : wr.cell? ⟨g', k * 3 + 2, none⟩ = _ := (hc' 2 _ rfl).1
      have hx : Below wr.heap.size wr wr.drew := (Below.refl _ _).drew
      have HM := hide (eqMsg_walk a0 a1 a2 b0 b1 b2 ms[k] ib jb wr.drew (msgE.keep hE (.of_below hx (msgE.lt hE))) (msgE.keep hE' (.of_below hx (msgE.lt hE'))))
      have HB := hide hb
      have hlt' : (k : Int) < (ms.length : Int) := by omega
      clear hxa hya hc hc' hE hE' hb hx
      go_wp2
      go_region_law (go_simp; refine (unhide HM).mono ?_; rintro e w1 ⟨rfl, b1⟩)
      all_goals go_wp2
      all_goals go_roundw
      all_goals first
        | exact ⟨k + 1, by omega, by go_num, (unhide HB).drew.trans (b1.mono (by have := (unhide HB).size; simp; omega))⟩
        | (simp [intOf]; omega)
    · clear hxa hya
      go_wp2
      go_ret
      exact ⟨rfl, hb⟩
set_option maxHeartbeats 1600000 in
theorem eqNws_walk (a0 a1 b0 b1 : Value) (m : Nws) (ib jb : List Nat) (w : World) (h : nwsE.E w [a0, a1] m ib) (k : nwsE.E w [b0, b1] m jb) :
    Calls Tryd.prog 74 #[.agg #[a0, a1], .agg #[b0, b1]] w fun e w' => e = .returned (.bool true) ∧ Below w.heap.size w w' := by
  obtain ⟨q, hq, h1⟩ := h
  injection hq with e0 hq
  subst e0
  injection hq with e1 hq
  subst e1
  clear hq
  obtain ⟨q, hq, k1⟩ := k
  injection hq with e0 hq
  subst e0
  injection hq with e1 hq
  subst e1
  clear hq
  have H1 := hide h1
  have K1 := hide k1
  clear h1 k1
  go_enter Tryd.func74, Tryd.ntmps74
  go_wp2_with fail
  have hA := new2 w (Obj.cells #[Value.int IntKind.i64 m.ver, a1] 85) (Obj.cells #[Value.int IntKind.i64 m.ver, b1] 85)
  generalize ((w.alloc (Obj.cells #[Value.int IntKind.i64 m.ver, a1] 85)).alloc (Obj.cells #[Value.int IntKind.i64 m.ver, b1] 85)) = wA at *
  refine (eqStr_walk a1 b1 m.ptrs ib jb wA ((unhide H1).below hA.bel) ((unhide K1).below hA.bel)).mono ?_
  rintro e w1 ⟨rfl, bb1⟩
  have hsz := hA.size
  have k0 := (bb1.block w.heap.size (by omega)).trans hA.k0
  have k1 := (bb1.block (w.heap.size + 1) (by omega)).trans hA.k1
  have HB := hide (below_next hA.bel bb1)
  clear hA bb1 k0 k1 H1 K1
  go_wp2
  go_ret
  exact ⟨rfl, unhide HB⟩
set_option maxHeartbeats 1600000 in
theorem eqNwss_walk (v v' : Value) (ms : List Nws) (bl bl' : List Nat) (w : World) (h : ORow nwsE w v ms bl) (k : ORow nwsE w v' ms bl') :
    Calls Tryd.prog 43 #[v, v'] w fun e w' => e = .returned (.bool true) ∧ Below w.heap.size w w' := by
  have hm := h.len
  unfold maxLen at hm
  obtain ⟨xa, xc, rfl, _, hxa⟩ := h.form
  obtain ⟨ya, yc, rfl, _, hya⟩ := k.form
  have H := hide h
  have K := hide k
  clear h k
  go_enter Tryd.func43, Tryd.ntmps43
  go_wp2
  go_loopw [5] (fun i wr => ∃ k : Nat, k ≤ ms.length ∧ i = .int .i64 k ∧ Below w.heap.size w wr) (fun i _ => ms.length - (intOf i).toNat)
  case atStart => exact ⟨0, Nat.zero_le _, rfl, Below.refl _ _⟩
  case round =>
    obtain ⟨k, hk, rfl, hb⟩ := hrel
    by_cases hlt : k < ms.length
    · obtain ⟨g, rfl⟩ := hxa (by omega)
      obtain ⟨g', rfl⟩ := hya (by omega)
      obtain ⟨vs, ib, hE, hc, _⟩ := ((unhide H).below hb).at (List.getElem?_eq_getElem hlt)
      obtain ⟨a0, a1, rfl⟩ := list2 (nwsE.len hE)
      have c0 : wr.cell? ⟨g, k * 2, none⟩ = _ := (hc 0 _ rfl).1
      have c1 : wr.cell? ⟨g, k * 2 + 1, none⟩ = _ := (hc 1 _ rfl).1
      obtain ⟨vs, jb, hE', hc', _⟩ := ((unhide K).below hb).at (List.getElem?_eq_getElem hlt)
      obtain ⟨b0, b1, rfl⟩ := list2 (nwsE.len hE')
      have d0 : wr.cell? ⟨g', k * 2, none⟩ = _ := (hc' 0 _ rfl).1
      have d1 : wr.cell? ⟨g', k * 2 + 1, none⟩ = _ := (hc' 1 _ rfl).1
      have hx : Below wr.heap.size wr wr.drew := (Below.refl _ _).drew
      have HM := hide (eqNws_walk a0 a1 b0 b1 ms[k] ib jb wr.drew (nwsE.keep hE (.of_below hx (nwsE.lt hE))) (nwsE.keep hE' (.of_below hx (nwsE.lt hE'))))
      have HB := hide hb
      have hlt' : (k : Int) < (ms.length : Int) := by omega
      clear hxa hya hc hc' hE hE' hb hx
      go_wp2
      go_region_law (go_simp; refine (unhide HM).mono ?_; rintro e w1 ⟨rfl, b1⟩)
      all_goals go_wp2
      all_goals go_roundw
      all_goals first
        | exact ⟨k + 1, by omega, by go_num, (unhide HB).drew.trans (b1.mono (by have := (unhide HB).size; simp; omega))⟩
        | (simp [intOf]; omega)
    · clear hxa hya
      go_wp2
      go_ret
      exact ⟨rfl, hb⟩
set_option maxHeartbeats 1600000 in
theorem eqWat_walk (a0 a1 a2 a3 a4 a5 b0 b1 b2 b3 b4 b5 : Value) (m : Wat) (ib jb : List Nat) (w : World) (h : watE.E w [a0, a1, a2, a3, a4, a5] m ib) (k : watE.E w [b0, b1, b2, b3, b4, b5] m jb) :
    Calls Tryd.prog 73 #[.agg #[a0, a1, a2, a3, a4, a5], .agg #[b0, b1, b2, b3, b4, b5]] w fun e w' => e = .returned (.bool true) ∧ Below w.heap.size w w' := by
  obtain ⟨q, hq, h1⟩ := h
  injection hq with e0 hq
  subst e0
  injection hq with e1 hq
  subst e1
  injection hq with e2 hq
  subst e2
  injection hq with e3 hq
  subst e3
  injection hq with e4 hq
  subst e4
  injection hq with e5 hq
  subst e5
  clear hq
  obtain ⟨q, hq, k1⟩ := k
  injection hq with e0 hq
  subst e0
  injection hq with e1 hq
  subst e1
  injection hq with e2 hq
  subst e2
  injection hq with e3 hq
  subst e3
  injection hq with e4 hq
  subst e4
  injection hq with e5 hq
  subst e5
  clear hq
  have H1 := hide h1
  have K1 := hide k1
  clear h1 k1
  go_enter Tryd.func73, Tryd.ntmps73
  go_wp2_with fail
  have hA := new2 w (Obj.cells #[Value.int IntKind.i64 m.client, Value.string m.ptr, Value.int IntKind.i64 m.cap, Value.int IntKind.i64 m.since, Value.bool m.closed, a5] 72) (Obj.cells #[Value.int IntKind.i64 m.client, Value.string m.ptr, Value.int IntKind.i64 m.cap, Value.int IntKind.i64 m.since, Value.bool m.closed, b5] 72)
  generalize ((w.alloc (Obj.cells #[Value.int IntKind.i64 m.client, Value.string m.ptr, Value.int IntKind.i64 m.cap, Value.int IntKind.i64 m.since, Value.bool m.closed, a5] 72)).alloc (Obj.cells #[Value.int IntKind.i64 m.client, Value.string m.ptr, Value.int IntKind.i64 m.cap, Value.int IntKind.i64 m.since, Value.bool m.closed, b5] 72)) = wA at *
  refine (eqMsgs_walk a5 b5 m.queue ib jb wA ((unhide H1).below hA.bel) ((unhide K1).below hA.bel)).mono ?_
  rintro e w1 ⟨rfl, bb1⟩
  have hsz := hA.size
  have k0 := (bb1.block w.heap.size (by omega)).trans hA.k0
  have k1 := (bb1.block (w.heap.size + 1) (by omega)).trans hA.k1
  have HB := hide (below_next hA.bel bb1)
  clear hA bb1 k0 k1 H1 K1
  go_wp2
  go_ret
  exact ⟨rfl, unhide HB⟩
set_option maxHeartbeats 1600000 in
theorem eqWats_walk (v v' : Value) (ms : List Wat) (bl bl' : List Nat) (w : World) (h : ORow watE w v ms bl) (k : ORow watE w v' ms bl') :
    Calls Tryd.prog 42 #[v, v'] w fun e w' => e = .returned (.bool true) ∧ Below w.heap.size w w' := by
  have hm := h.len
  unfold maxLen at hm
  obtain ⟨xa, xc, rfl, _, hxa⟩ := h.form
  obtain ⟨ya, yc, rfl, _, hya⟩ := k.form
  have H := hide h
  have K := hide k
  clear h k
  go_enter Tryd.func42, Tryd.ntmps42
  go_wp2
  go_loopw [5] (fun i wr => ∃ k : Nat, k ≤ ms.length ∧ i = .int .i64 k ∧ Below w.heap.size w wr) (fun i _ => ms.length - (intOf i).toNat)
  case atStart => exact ⟨0, Nat.zero_le _, rfl, Below.refl _ _⟩
  case round =>
    obtain ⟨k, hk, rfl, hb⟩ := hrel
    by_cases hlt : k < ms.length
    · obtain ⟨g, rfl⟩ := hxa (by omega)
      obtain ⟨g', rfl⟩ := hya (by omega)
      obtain ⟨vs, ib, hE, hc, _⟩ := ((unhide H).below hb).at (List.getElem?_eq_getElem hlt)
      obtain ⟨a0, a1, a2, a3, a4, a5, rfl⟩ := list6 (watE.len hE)
      have c0 : wr.cell? ⟨g, k * 6, none⟩ = _ := (hc 0 _ rfl).1
      have c1 : wr.cell? ⟨g, k * 6 + 1, none⟩ = _ := (hc 1 _ rfl).1
      have c2 : wr.cell? ⟨g, k * 6 + 2, none⟩ = _ := (hc 2 _ rfl).1
      have c3 : wr.cell? ⟨g, k * 6 + 3, none⟩ = _ := (hc 3 _ rfl).1
      have c4 : wr.cell? ⟨g, k * 6 + 4, none⟩ = _ := (hc 4 _ rfl).1
      have c5 : wr.cell? ⟨g, k * 6 + 5, none⟩ = _ := (hc 5 _ rfl).1
      obtain ⟨vs, jb, hE', hc', _⟩ := ((unhide K).below hb).at (List.getElem?_eq_getElem hlt)
      obtain ⟨b0, b1, b2, b3, b4, b5, rfl⟩ := list6 (watE.len hE')
      have d0 : wr.cell? ⟨g', k * 6, none⟩ = _ := (hc' 0 _ rfl).1
      have d1 : wr.cell? ⟨g', k * 6 + 1, none⟩ = _ := (hc' 1 _ rfl).1
      have d2 : wr.cell? ⟨g', k * 6 + 2, none⟩ = _ := (hc' 2 _ rfl).1
      have d3 : wr.cell? ⟨g', k * 6 + 3, none⟩ = _ := (hc' 3 _ rfl).1
      have d4 : wr.cell? ⟨g', k * 6 + 4, none⟩ = _ := (hc' 4 _ rfl).1
      have d5 : wr.cell? ⟨g', k * 6 + 5, none⟩ = _ := (hc' 5 _ rfl).1
      have hx : Below wr.heap.size wr wr.drew := (Below.refl _ _).drew
      have HM := hide (eqWat_walk a0 a1 a2 a3 a4 a5 b0 b1 b2 b3 b4 b5 ms[k] ib jb wr.drew (watE.keep hE (.of_below hx (watE.lt hE))) (watE.keep hE' (.of_below hx (watE.lt hE'))))
      have HB := hide hb
      have hlt' : (k : Int) < (ms.length : Int) := by omega
      clear hxa hya hc hc' hE hE' hb hx
      go_wp2
      go_region_law (go_simp; refine (unhide HM).mono ?_; rintro e w1 ⟨rfl, b1⟩)
      all_goals go_wp2
      all_goals go_roundw
      all_goals first
        | exact ⟨k + 1, by omega, by go_num, (unhide HB).drew.trans (b1.mono (by have := (unhide HB).size; simp; omega))⟩
        | (simp [intOf]; omega)
    · clear hxa hya
      go_wp2
      go_ret
      exact ⟨rfl, hb⟩
/-- A hub that the call owns. -/
theorem OHub.below {w w' : World} {v : Value} {h : Hb} {bl : List Nat} (ho : OHub w v h bl) (hb : Below w.heap.size w w') : OHub w' v h bl := by
  obtain ⟨p, q, b1, b2, hv, h1, h2, he⟩ := ho
  exact ⟨p, q, b1, b2, hv, h1.below hb, h2.below hb, he⟩
theorem OHub.keep {w w' : World} {v : Value} {h : Hb} {bl : List Nat} (ho : OHub w v h bl) (hb : Kp bl w w') : OHub w' v h bl := by
  obtain ⟨p, q, b1, b2, hv, h1, h2, rfl⟩ := ho
  exact ⟨p, q, b1, b2, hv, h1.keep fun b hm => hb b (List.mem_append.2 (.inl hm)), h2.keep fun b hm => hb b (List.mem_append.2 (.inr hm)), rfl⟩
theorem OHub.lt {w : World} {v : Value} {h : Hb} {bl : List Nat} (ho : OHub w v h bl) : ∀ b ∈ bl, b < w.heap.size := by
  obtain ⟨p, q, b1, b2, hv, h1, h2, rfl⟩ := ho
  intro b hm
  rcases List.mem_append.1 hm with hm | hm
  · exact h1.lt b hm
  · exact h2.lt b hm
set_option maxHeartbeats 1600000 in
theorem eqHub_walk (v v' : Value) (h : Hb) (ib jb : List Nat) (w : World) (ha : OHub w v h ib) (hb : OHub w v' h jb) :
    Calls Tryd.prog 15 #[v, v'] w fun e w' => e = .returned (.bool true) ∧ Below w.heap.size w w' := by
  obtain ⟨a0, a1, i1, i2, rfl, h1, h2, _⟩ := ha
  obtain ⟨b0, b1, j1, j2, rfl, k1, k2, _⟩ := hb
  have H1 := hide h1
  have H2 := hide h2
  have K1 := hide k1
  have K2 := hide k2
  clear h1 h2 k1 k2
  go_enter Tryd.func15, Tryd.ntmps15
  go_wp2_with fail
  have hA := new2 w (Obj.cells #[a0, a1] 39) (Obj.cells #[b0, b1] 39)
  generalize ((w.alloc (Obj.cells #[a0, a1] 39)).alloc (Obj.cells #[b0, b1] 39)) = wA at *
  refine (eqWats_walk a0 b0 h.watches i1 j1 wA ((unhide H1).below hA.bel) ((unhide K1).below hA.bel)).mono ?_
  rintro e w1 ⟨rfl, bb1⟩
  have hsz := hA.size
  have k0 := (bb1.block w.heap.size (by omega)).trans hA.k0
  have k1 := (bb1.block (w.heap.size + 1) (by omega)).trans hA.k1
  have HB := hide (below_next hA.bel bb1)
  have c01 : w1.cell? ⟨w.heap.size, 1, none⟩ = some a1 := Lib.cell_of_heap k0 1
  have c11 : w1.cell? ⟨w.heap.size + 1, 1, none⟩ = some b1 := Lib.cell_of_heap k1 1
  clear hA bb1 k0 k1 H1 K1
  go_wp2_with fail
  refine (eqNwss_walk a1 b1 h.waiting i2 j2 w1 ((unhide H2).below (unhide HB)) ((unhide K2).below (unhide HB))).mono ?_
  rintro e w2 ⟨rfl, bb2⟩
  have HB2 := hide (below_next (unhide HB) bb2)
  clear bb2 HB H2 K2 c01 c11
  go_wp2
  go_ret
  exact ⟨rfl, unhide HB2⟩
end Go.Proofs.YtbcfkkicmmhhcaaDoor
