import Derived.Deep.RegionWith
import Derived.Deep.RegionLaw
import Derived.Test.YtbcfkkicmmhhcaaDoorBu4
import Derived.Test.YtbcfkkicmmhhcaaDoorBu5
import Derived.Test.YtbcfkkicmmhhcaaDoorBu6
import Derived.Laws.AppendOwnNone
namespace Go.Proofs.YtbcfkkicmmhhcaaDoor
open Go.RowKit

theorem draws_b (w : World) (n : Nat) : Below w.heap.size w (w.drewN n) := ⟨rfl, rfl, rfl, Nat.le_refl _, fun _ _ => rfl⟩
theorem ORow.len {α : Type} {e : Elem α} {w : World} {v : Value} {xs : List α} {bl : List Nat} (h : ORow e w v xs bl) : xs.length ≤ maxLen := by
  obtain ⟨ps, hl, hE, ho, _⟩ := h
  rcases ho.2 with ⟨hv, h0⟩ | ⟨g, cap, cur, hv, _, _, h1, h2, _⟩
  · omega
  · omega

theorem eqStr_walk (v v' : Value) (ss : List ByteArray) (bl bl' : List Nat) (w : World) (h : OStr w v ss bl) (k : OStr w v' ss bl') :
    Calls Tryd.prog 107 #[v, v'] w fun e w' => e = .returned (.bool true) ∧ Below w.heap.size w w' := by
  obtain ⟨a, g, cap, rfl, hs⟩ := h.ss
  obtain ⟨a', g', cap', rfl, ks⟩ := k.ss
  refine (eq_walk a a' g 0 cap g' 0 cap' ss w hs ks (by have := h.len; unfold maxLen at this; omega)).mono ?_
  rintro e w' ⟨rfl, n, rfl⟩
  exact ⟨rfl, draws_b w n⟩
/-- Two new blocks. -/
structure New2 (w : World) (a b : Obj) (w' : World) : Prop where
  bel : Below w.heap.size w w'
  size : w'.heap.size = w.heap.size + 1 + 1
  k0 : w'.heap[w.heap.size]? = some a
  k1 : w'.heap[w.heap.size + 1]? = some b
theorem new2 (w : World) (a b : Obj) : New2 w a b ((w.alloc a).alloc b) := by
  refine ⟨below_next (alloc_b w _) (alloc_b _ _), by simp, ?_, ?_⟩
  · exact ((alloc_b _ b).block _ (by simp)).trans (heap_alloc_new w a)
  · have := heap_alloc_new (w.alloc a) b
    rw [show (w.alloc a).heap.size = w.heap.size + 1 from by simp] at this
    exact this
set_option maxHeartbeats 1600000 in
theorem eqMsg_walk (a0 a1 a2 b0 b1 b2 : Value) (m : Msg) (ib jb : List Nat) (w : World) (h : msgE.E w [a0, a1, a2] m ib) (k : msgE.E w [b0, b1, b2] m jb) :
    Calls Tryd.prog 122 #[.agg #[a0, a1, a2], .agg #[b0, b1, b2]] w fun e w' => e = .returned (.bool true) ∧ Below w.heap.size w w' := by
  obtain ⟨q, hq, h1⟩ := h
  injection hq with e0 hq
  subst e0
  injection hq with e1 hq
  subst e1
  injection hq with e2 hq
  subst e2
  clear hq
  obtain ⟨q, hq, k1⟩ := k
  injection hq with e0 hq
  subst e0
  injection hq with e1 hq
  subst e1
  injection hq with e2 hq
  subst e2
  clear hq
  have H1 := hide h1
  have K1 := hide k1
  clear h1 k1
  go_enter Tryd.func122, Tryd.ntmps122
  go_wp2_with fail
  have hA := new2 w (Obj.cells #[Value.int IntKind.i64 m.ver, a1, Value.bool m.over] 115) (Obj.cells #[Value.int IntKind.i64 m.ver, b1, Value.bool m.over] 115)
  generalize ((w.alloc (Obj.cells #[Value.int IntKind.i64 m.ver, a1, Value.bool m.over] 115)).alloc (Obj.cells #[Value.int IntKind.i64 m.ver, b1, Value.bool m.over] 115)) = wA at *
  refine (eqStr_walk a1 b1 m.ptrs ib jb wA ((unhide H1).below hA.bel) ((unhide K1).below hA.bel)).mono ?_
  rintro e w1 ⟨rfl, bb1⟩
  have hsz := hA.size
  have k0 := (bb1.block w.heap.size (by omega)).trans hA.k0
  have k1 := (bb1.block (w.heap.size + 1) (by omega)).trans hA.k1
  have HB := hide (below_next hA.bel bb1)
  have c02 : w1.cell? ⟨w.heap.size, 2, none⟩ = some (.bool m.over) := Lib.cell_of_heap k0 2
  have c12 : w1.cell? ⟨w.heap.size + 1, 2, none⟩ = some (.bool m.over) := Lib.cell_of_heap k1 2
  clear hA bb1 k0 k1 H1 K1
  go_wp2
  go_ret
  exact ⟨rfl, unhide HB⟩
set_option maxHeartbeats 1600000 in
theorem eqMsgs_walk (v v' : Value) (ms : List Msg) (bl bl' : List Nat) (w : World) (h : ORow msgE w v ms bl) (k : ORow msgE w v' ms bl') :
    Calls Tryd.prog 106 #[v, v'] w fun e w' => e = .returned (.bool true) ∧ Below w.heap.size w w' := by
  have hm := h.len
  unfold maxLen at hm
  obtain ⟨xa, xc, rfl, _, hxa⟩ := h.form
  obtain ⟨ya, yc, rfl, _, hya⟩ := k.form
  have H := hide h
  have K := hide k
  clear h k
  go_enter Tryd.func106, Tryd.ntmps106
  go_wp2
  go_loopw [5] (fun i wr => ∃ k : Nat, k ≤ ms.length ∧ i = .int .i64 k ∧ Below w.heap.size w wr) (fun i _ => ms.length - (intOf i).toNat)
  case atStart => exact ⟨0, Nat.zero_le _, rfl, Below.refl _ _⟩
  case round =>
    obtain ⟨k, hk, rfl, hb⟩ := hrel
    by_cases hlt : k < ms.length
    · obtain ⟨g, rfl⟩ := hxa (by omega)
      obtain ⟨g', rfl⟩ := hya (by omega)
      obtain ⟨vs, ib, hE, hc, _⟩ := ((unhide H).below hb).at (List.getElem?_eq_getElem hlt)
      obtain ⟨a0, a1, a2, rfl⟩ := list3 (msgE.len hE)
      have c0 : wr.cell? ⟨g, k * 3, none⟩ = _ := (hc 0 _ rfl).1
      have c1 : wr.cell? ⟨g, k * 3 + 1, none⟩ = _ := (hc 1 _ rfl).1
      have c2 : wr.cell? ⟨g, k * 3 + 2, none⟩ = _ := (hc 2 _ rfl).1
      obtain ⟨vs, jb, hE', hc', _⟩ := ((unhide K).below hb).at (List.getElem?_eq_getElem hlt)
      obtain ⟨b0, b1, b2, rfl⟩ := list3 (msgE.len hE')
      have d0 : wr.cell? ⟨g', k * 3, none⟩ = _ := (hc' 0 _ rfl).1
      have d1 : wr.cell? ⟨g', k * 3 + 1, none⟩ = _ := (hc' 1 _ rfl).1
      have d2 : wr.cell? ⟨g', k * 3 + 2, none⟩ = _ := (hc' 2 _ rfl).1
      have hx : Below wr.heap.size wr wr.drew := (Below.refl _ _).drew
      have HM := hide (eqMsg_walk a0 a1 a2 b0 b1 b2 ms[k] ib jb wr.drew (msgE.keep hE (.of_below hx (msgE.lt hE))) (msgE.keep hE' (.of_below hx (msgE.lt hE'))))
      have HB := hide hb
      have hlt' : (k : Int) < (ms.length : Int) := by omega
      clear hxa hya hc hc' hE hE' hb hx
      go_wp2
      go_region_law (go_simp; refine (unhide HM).mono ?_; rintro e w1 ⟨rfl, b1⟩)
      all_goals go_wp2
      all_goals go_roundw
      all_goals first
        | exact ⟨k + 1, by omega, by go_num, (unhide HB).drew.trans (b1.mono (by have := (unhide HB).size; simp; omega))⟩
        | (simp [intOf]; omega)
    · clear hxa hya
      go_wp2
      go_ret
      exact ⟨rfl, hb⟩
set_option maxHeartbeats 1600000 in
theorem eqNws_walk (a0 a1 b0 b1 : Value) (m : Nws) (ib jb : List Nat) (w : World) (h : nwsE.E w [a0, a1] m ib) (k : nwsE.E w [b0, b1] m jb) :
    Calls Tryd.prog 74 #[.agg #[a0, a1], .agg #[b0, b1]] w fun e w' => e = .returned (.bool true) ∧ Below w.heap.size w w' := by
  obtain ⟨q, hq, h1⟩ := h
  injection hq with e0 hq
  subst e0
  injection hq with e1 hq
  subst e1
  clear hq
  obtain ⟨q, hq, k1⟩ := k
  injection hq with e0 hq
  subst e0
  injection hq with e1 hq
  subst e1
  clear hq
  have H1 := hide h1
  have K1 := hide k1
  clear h1 k1
  go_enter Tryd.func74, Tryd.ntmps74
  go_wp2_with fail
  have hA := new2 w (Obj.cells #[Value.int IntKind.i64 m.ver, a1] 85) (Obj.cells #[Value.int IntKind.i64 m.ver, b1] 85)
  generalize ((w.alloc (Obj.cells #[Value.int IntKind.i64 m.ver, a1] 85)).alloc (Obj.cells #[Value.int IntKind.i64 m.ver, b1] 85)) = wA at *
  refine (eqStr_walk a1 b1 m.ptrs ib jb wA ((unhide H1).below hA.bel) ((unhide K1).below hA.bel)).mono ?_
  rintro e w1 ⟨rfl, bb1⟩
  have hsz := hA.size
  have k0 := (bb1.block w.heap.size (by omega)).trans hA.k0
  have k1 := (bb1.block (w.heap.size + 1) (by omega)).trans hA.k1
  have HB := hide (below_next hA.bel bb1)
  clear hA bb1 k0 k1 H1 K1
  go_wp2
  go_ret
  exact ⟨rfl, unhide HB⟩
set_option maxHeartbeats 1600000 in
theorem eqNwss_walk (v v' : Value) (ms : List Nws) (bl bl' : List Nat) (w : World) (h : ORow nwsE w v ms bl) (k : ORow nwsE w v' ms bl') :
    Calls Tryd.prog 43 #[v, v'] w fun e w' => e = .returned (.bool true) ∧ Below w.heap.size w w' := by
  have hm := h.len
  unfold maxLen at hm
  obtain ⟨xa, xc, rfl, _, hxa⟩ := h.form
  obtain ⟨ya, yc, rfl, _, hya⟩ := k.form
  have H := hide h
  have K := hide k
  clear h k
  go_enter Tryd.func43, Tryd.ntmps43
  go_wp2
  go_loopw [5] (fun i wr => ∃ k : Nat, k ≤ ms.length ∧ i = .int .i64 k ∧ Below w.heap.size w wr) (fun i _ => ms.length - (intOf i).toNat)
  case atStart => exact ⟨0, Nat.zero_le _, rfl, Below.refl _ _⟩
  case round =>
    obtain ⟨k, hk, rfl, hb⟩ := hrel
    by_cases hlt : k < ms.length
    · obtain ⟨g, rfl⟩ := hxa (by omega)
      obtain ⟨g', rfl⟩ := hya (by omega)
      obtain ⟨vs, ib, hE, hc, _⟩ := ((unhide H).below hb).at (List.getElem?_eq_getElem hlt)
      obtain ⟨a0, a1, rfl⟩ := list2 (nwsE.len hE)
      have c0 : wr.cell? ⟨g, k * 2, none⟩ = _ := (hc 0 _ rfl).1
      have c1 : wr.cell? ⟨g, k * 2 + 1, none⟩ = _ := (hc 1 _ rfl).1
      obtain ⟨vs, jb, hE', hc', _⟩ := ((unhide K).below hb).at (List.getElem?_eq_getElem hlt)
      obtain ⟨b0, b1, rfl⟩ := list2 (nwsE.len hE')
      have d0 : wr.cell? ⟨g', k * 2, none⟩ = _ := (hc' 0 _ rfl).1
      have d1 : wr.cell? ⟨g', k * 2 + 1, none⟩ = _ := (hc' 1 _ rfl).1
      have hx : Below wr.heap.size wr wr.drew := (Below.refl _ _).drew
      have HM := hide (eqNws_walk a0 a1 b0 b1 ms[k] ib jb wr.drew (nwsE.keep hE (.of_below hx (nwsE.lt hE))) (nwsE.keep hE' (.of_below hx (nwsE.lt hE'))))
      have HB := hide hb
      have hlt' : (k : Int) < (ms.length : Int) := by omega
      clear hxa hya hc hc' hE hE' hb hx
      go_wp2
      go_region_law (go_simp; refine (unhide HM).mono ?_; rintro e w1 ⟨rfl, b1⟩)
      all_goals go_wp2
      all_goals go_roundw
      all_goals first
        | exact ⟨k + 1, by omega, by go_num, (unhide HB).drew.trans (b1.mono (by have := (unhide HB).size; simp; omega))⟩
        | (simp [intOf]; omega)
    · clear hxa hya
      go_wp2
      go_ret
      exact ⟨rfl, hb⟩
set_option maxHeartbeats 1600000 in
theorem eqWat_walk (a0 a1 a2 a3 a4 a5 b0 b1 b2 b3 b4 b5 : Value) (m : Wat) (ib jb : List Nat) (w : World) (h : watE.E w [a0, a1, a2, a3, a4, a5] m ib) (k : watE.E w [b0, b1, b2, b3, b4, b5] m jb) :
    Calls Tryd.prog 73 #[.agg #[a0, a1, a2, a3, a4, a5], .agg #[b0, b1, b2, b3, b4, b5]] w fun e w' => e = .returned (.bool true) ∧ Below w.heap.size w w' := by
  obtain ⟨q, hq, h1⟩ := h
  injection hq with e0 hq
  subst e0
  injection hq with e1 hq
  subst e1
  injection hq with e2 hq
  subst e2
  injection hq with e3 hq
  subst e3
  injection hq with e4 hq
  subst e4
  injection hq with e5 hq
  subst e5
  clear hq
  obtain ⟨q, hq, k1⟩ := k
  injection hq with e0 hq
  subst e0
  injection hq with e1 hq
  subst e1
  injection hq with e2 hq
  subst e2
  injection hq with e3 hq
  subst e3
  injection hq with e4 hq
  subst e4
  injection hq with e5 hq
  subst e5
  clear hq
  have H1 := hide h1
  have K1 := hide k1
  clear h1 k1
  go_enter Tryd.func73, Tryd.ntmps73
  go_wp2_with fail
  have hA := new2 w (Obj.cells #[Value.int IntKind.i64 m.client, Value.string m.ptr, Value.int IntKind.i64 m.cap, Value.int IntKind.i64 m.since, Value.bool m.closed, a5] 72) (Obj.cells #[Value.int IntKind.i64 m.client, Value.string m.ptr, Value.int IntKind.i64 m.cap, Value.int IntKind.i64 m.since, Value.bool m.closed, b5] 72)
  generalize ((w.alloc (Obj.cells #[Value.int IntKind.i64 m.client, Value.string m.ptr, Value.int IntKind.i64 m.cap, Value.int IntKind.i64 m.since, Value.bool m.closed, a5] 72)).alloc (Obj.cells #[Value.int IntKind.i64 m.client, Value.string m.ptr, Value.int IntKind.i64 m.cap, Value.int IntKind.i64 m.since, Value.bool m.closed, b5] 72)) = wA at *
  refine (eqMsgs_walk a5 b5 m.queue ib jb wA ((unhide H1).below hA.bel) ((unhide K1).below hA.bel)).mono ?_
  rintro e w1 ⟨rfl, bb1⟩
  have hsz := hA.size
  have k0 := (bb1.block w.heap.size (by omega)).trans hA.k0
  have k1 := (bb1.block (w.heap.size + 1) (by omega)).trans hA.k1
  have HB := hide (below_next hA.bel bb1)
  clear hA bb1 k0 k1 H1 K1
  go_wp2
  go_ret
  exact ⟨rfl, unhide HB⟩
set_option maxHeartbeats 1600000 in
theorem eqWats_walk (v v' : Value) (ms : List Wat) (bl bl' : List Nat) (w : World) (h : ORow watE w v ms bl) (k : ORow watE w v' ms bl') :
    Calls Tryd.prog 42 #[v, v'] w fun e w' => e = .returned (.bool true) ∧ Below w.heap.size w w' := by
  have hm := h.len
  unfold maxLen at hm
  obtain ⟨xa, xc, rfl, _, hxa⟩ := h.form
  obtain ⟨ya, yc, rfl, _, hya⟩ := k.form
  have H := hide h
  have K := hide k
  clear h k
  go_enter Tryd.func42, Tryd.ntmps42
  go_wp2
  go_loopw [5] (fun i wr => ∃ k : Nat, k ≤ ms.length ∧ i = .int .i64 k ∧ Below w.heap.size w wr) (fun i _ => ms.length - (intOf i).toNat)
  case atStart => exact ⟨0, Nat.zero_le _, rfl, Below.refl _ _⟩
  case round =>
    obtain ⟨k, hk, rfl, hb⟩ := hrel
    by_cases hlt : k < ms.length
    · obtain ⟨g, rfl⟩ := hxa (by omega)
      obtain ⟨g', rfl⟩ := hya (by omega)
      obtain ⟨vs, ib, hE, hc, _⟩ := ((unhide H).below hb).at (List.getElem?_eq_getElem hlt)
      obtain ⟨a0, a1, a2, a3, a4, a5, rfl⟩ := list6 (watE.len hE)
      have c0 : wr.cell? ⟨g, k * 6, none⟩ = _ := (hc 0 _ rfl).1
      have c1 : wr.cell? ⟨g, k * 6 + 1, none⟩ = _ := (hc 1 _ rfl).1
      have c2 : wr.cell? ⟨g, k * 6 + 2, none⟩ = _ := (hc 2 _ rfl).1
      have c3 : wr.cell? ⟨g, k * 6 + 3, none⟩ = _ := (hc 3 _ rfl).1
      have c4 : wr.cell? ⟨g, k * 6 + 4, none⟩ = _ := (hc 4 _ rfl).1
      have c5 : wr.cell? ⟨g, k * 6 + 5, none⟩ = _ := (hc 5 _ rfl).1
      obtain ⟨vs, jb, hE', hc', _⟩ := ((unhide K).below hb).at (List.getElem?_eq_getElem hlt)
      obtain ⟨b0, b1, b2, b3, b4, b5, rfl⟩ := list6 (watE.len hE')
      have d0 : wr.cell? ⟨g', k * 6, none⟩ = _ := (hc' 0 _ rfl).1
      have d1 : wr.cell? ⟨g', k * 6 + 1, none⟩ = _ := (hc' 1 _ rfl).1
      have d2 : wr.cell? ⟨g', k * 6 + 2, none⟩ = _ := (hc' 2 _ rfl).1
      have d3 : wr.cell? ⟨g', k * 6 + 3, none⟩ = _ := (hc' 3 _ rfl).1
      have d4 : wr.cell? ⟨g', k * 6 + 4, none⟩ = _ := (hc' 4 _ rfl).1
      have d5 : wr.cell? ⟨g', k * 6 + 5, none⟩ = _ := (hc' 5 _ rfl).1
      have hx : Below wr.heap.size wr wr.drew := (Below.refl _ _).drew
      have HM := hide (eqWat_walk a0 a1 a2 a3 a4 a5 b0 b1 b2 b3 b4 b5 ms[k] ib jb wr.drew (watE.keep hE (.of_below hx (watE.lt hE))) (watE.keep hE' (.of_below hx (watE.lt hE'))))
      have HB := hide hb
      have hlt' : (k : Int) < (ms.length : Int) := by omega
      clear hxa hya hc hc' hE hE' hb hx
      go_wp2
      go_region_law (go_simp; refine (unhide HM).mono ?_; rintro e w1 ⟨rfl, b1⟩)
      all_goals go_wp2
      all_goals go_roundw
      all_goals first
        | exact ⟨k + 1, by omega, by go_num, (unhide HB).drew.trans (b1.mono (by have := (unhide HB).size; simp; omega))⟩
        | (simp [intOf]; omega)
    · clear hxa hya
      go_wp2
      go_ret
      exact ⟨rfl, hb⟩
/-- A hub that the call owns. -/
theorem OHub.below {w w' : World} {v : Value} {h : Hb} {bl : List Nat} (ho : OHub w v h bl) (hb : Below w.heap.size w w') : OHub w' v h bl := by
  obtain ⟨p, q, b1, b2, hv, h1, h2, he⟩ := ho
  exact ⟨p, q, b1, b2, hv, h1.below hb, h2.below hb, he⟩
theorem OHub.keep {w w' : World} {v : Value} {h : Hb} {bl : List Nat} (ho : OHub w v h bl) (hb : Kp bl w w') : OHub w' v h bl := by
  obtain ⟨p, q, b1, b2, hv, h1, h2, rfl⟩ := ho
  exact ⟨p, q, b1, b2, hv, h1.keep fun b hm => hb b (List.mem_append.2 (.inl hm)), h2.keep fun b hm => hb b (List.mem_append.2 (.inr hm)), rfl⟩
theorem OHub.lt {w : World} {v : Value} {h : Hb} {bl : List Nat} (ho : OHub w v h bl) : ∀ b ∈ bl, b < w.heap.size := by
  obtain ⟨p, q, b1, b2, hv, h1, h2, rfl⟩ := ho
  intro b hm
  rcases List.mem_append.1 hm with hm | hm
  · exact h1.lt b hm
  · exact h2.lt b hm
set_option maxHeartbeats 1600000 in
theorem eqHub_walk (v v' : Value) (h : Hb) (ib jb : List Nat) (w : World) (ha : OHub w v h ib) (hb : OHub w v' h jb) :
    Calls Tryd.prog 15 #[v, v'] w fun e w' => e = .returned (.bool true) ∧ Below w.heap.size w w' := by
  obtain ⟨a0, a1, i1, i2, rfl, h1, h2, _⟩ := ha
  obtain ⟨b0, b1, j1, j2, rfl, k1, k2, _⟩ := hb
  have H1 := hide h1
  have H2 := hide h2
  have K1 := hide k1
  have K2 := hide k2
  clear h1 h2 k1 k2
  go_enter Tryd.func15, Tryd.ntmps15
  go_wp2_with fail
  have hA := new2 w (Obj.cells #[a0, a1] 39) (Obj.cells #[b0, b1] 39)
  generalize ((w.alloc (Obj.cells #[a0, a1] 39)).alloc (Obj.cells #[b0, b1] 39)) = wA at *
  refine (eqWats_walk a0 b0 h.watches i1 j1 wA ((unhide H1).below hA.bel) ((unhide K1).below hA.bel)).mono ?_
  rintro e w1 ⟨rfl, bb1⟩
  have hsz := hA.size
  have k0 := (bb1.block w.heap.size (by omega)).trans hA.k0
  have k1 := (bb1.block (w.heap.size + 1) (by omega)).trans hA.k1
  have HB := hide (below_next hA.bel bb1)
  have c01 : w1.cell? ⟨w.heap.size, 1, none⟩ = some a1 := Lib.cell_of_heap k0 1
  have c11 : w1.cell? ⟨w.heap.size + 1, 1, none⟩ = some b1 := Lib.cell_of_heap k1 1
  clear hA bb1 k0 k1 H1 K1
  go_wp2_with fail
  refine (eqNwss_walk a1 b1 h.waiting i2 j2 w1 ((unhide H2).below (unhide HB)) ((unhide K2).below (unhide HB))).mono ?_
  rintro e w2 ⟨rfl, bb2⟩
  have HB2 := hide (below_next (unhide HB) bb2)
  clear bb2 HB H2 K2 c01 c11
  go_wp2
  go_ret
  exact ⟨rfl, unhide HB2⟩
end Go.Proofs.YtbcfkkicmmhhcaaDoor

namespace Go.Proofs.YtbcfkkicmmhhcaaDoor
open Go.RowKit

/-- The texts that mark a row, from k on. -/
def mkS (k n : Nat) : List ByteArray := (List.range n).map fun j => mkText (k + j)
theorem mkS_len (k n : Nat) : (mkS k n).length = n := by simp [mkS]
theorem mkS_at {k n j : Nat} (h : j < n) : (mkS k n)[j]? = some (mkText (k + j)) := by simp [mkS, h]
/-- A row under way: its first j texts marked. -/
def mkAt (k : Nat) (ss : List ByteArray) (j : Nat) : List ByteArray := mkS k j ++ ss.drop j
theorem mkAt_len (k : Nat) (ss : List ByteArray) {j : Nat} (h : j ≤ ss.length) : (mkAt k ss j).length = ss.length := by unfold mkAt; rw [List.length_append, mkS_len, List.length_drop]; omega
theorem mkAt_set (k : Nat) (ss : List ByteArray) {j : Nat} (h : j < ss.length) : (mkAt k ss j).set j (mkText (k + j)) = mkAt k ss (j + 1) := by
  unfold mkAt
  rw [List.set_append_right _ _ (by rw [mkS_len]; omega), mkS_len, Nat.sub_self, List.drop_eq_getElem_cons h, List.set_cons_zero]
  unfold mkS
  rw [List.range_succ, List.map_append, List.append_assoc]; rfl
theorem mkAt_0 (k : Nat) (ss : List ByteArray) : mkAt k ss 0 = ss := by simp [mkAt, mkS]
theorem mkAt_all (k : Nat) (ss : List ByteArray) : mkAt k ss ss.length = mkS k ss.length := by simp [mkAt]

set_option maxHeartbeats 400000 in
theorem markStr_walk (v : Value) (ss : List ByteArray) (bl : List Nat) (k0 : Nat) (w : World) (hv : OStr w v ss bl) (hd : bl.Nodup) (hn : ss.length ≤ 268435456) (h1 : 1 ≤ k0) (h2 : k0 ≤ 1099200000000) :
    Calls Tryd.prog 76 #[v, .int .i64 k0] w fun e w' => e = .returned (.int .i64 (k0 + ss.length : Nat)) ∧ OStr w' v (mkS k0 ss.length) bl ∧ Fr bl w w' := by
  obtain ⟨a, cap, rfl, _, hsh⟩ := hv.form
  have HV := hide hv
  have HD := hide hd
  clear hv hd
  go_enter Tryd.func76, Tryd.ntmps76
  go_wp2
  go_loopw [1, 5] (fun q i wr => ∃ (j : Nat), j ≤ ss.length ∧ i = .int .i64 j ∧ q = .int .i64 (k0 + j : Nat) ∧ Fr bl w wr ∧ OStr wr (.slice a ss.length cap) (mkAt k0 ss j) bl) (fun _ i _ => ss.length - (intOf i).toNat)
  case atStart => exact ⟨0, Nat.zero_le _, rfl, rfl, Fr.refl _ _, by rw [mkAt_0]; exact unhide HV⟩
  case round =>
    obtain ⟨j, hj, rfl, rfl, hb, ho⟩ := hrel
    by_cases hlt : j < ss.length
    · obtain ⟨g, rfl⟩ := hsh (by omega)
      have HC := hide (mark_walk (k0 + j) wr (by omega) (by omega))
      have hl := mkAt_len k0 ss (Nat.le_of_lt hlt)
      have HS := hide (mkAt_set k0 ss hlt)
      have HO := hide ho
      have HF := hide hb
      have HL := hide hl
      clear ho hb hl
      go_wp2_with fail
      refine (unhide HC).mono ?_
      rintro e w1 ⟨rfl, b1⟩
      have ho := (unhide HO).below b1
      obtain ⟨vs, ib, hE, hc, _, hg, _⟩ := ho.at (List.getElem?_eq_getElem (show j < (mkAt k0 ss j).length by rw [unhide HL]; exact hlt))
      obtain ⟨rfl, rfl⟩ := hE
      have c0 := (hc 0 _ rfl).1
      have f0 := (hc 0 _ rfl).2
      rw [show j * strE.wd + 0 = j from by simp [strE]] at c0 f0
      have hp := ho.put (unhide HD) (List.getElem?_eq_getElem (show j < (mkAt k0 ss j).length by rw [unhide HL]; exact hlt)) 0 (by decide) (.string (mkText (k0 + j))) (mkText (k0 + j)) (fun w' vs ib h => ⟨by rw [h.1]; rfl, h.2⟩)
      rw [unhide HS] at hp
      have hp' : OStr (w1.setCell ⟨g, j, none⟩ (.string (mkText (k0 + j)))) (.slice (some ⟨g, 0, none⟩) ss.length cap) (mkAt k0 ss (j + 1)) bl := by
        rw [show j * strE.wd + 0 = j from by simp [strE]] at hp; exact hp
      have HP := hide hp'
      have HF1 := hide (((unhide HF).next b1).set hg j (.string (mkText (k0 + j))))
      clear hp hp' ho hc b1 HC HO HF hg
      go_wp2
      go_roundw
      case rel => exact ⟨j + 1, by omega, by go_num, by go_num, unhide HF1, unhide HP⟩
      case measure => simp [intOf]; omega
    · have hjn : j = ss.length := by omega
      subst hjn
      rw [mkAt_all] at ho
      go_wp2
      go_ret
      exact ⟨rfl, ho, hb⟩
theorem marks_mkS (k n : Nat) : (mkS k n).map Value.string = marks k n := by simp [mkS, marks]
theorem heldStr_walk (v : Value) (bl : List Nat) (n k0 : Nat) (w : World) (hv : OStr w v (mkS k0 n) bl) (hn : n ≤ 268435456) (h1 : 1 ≤ k0) (h2 : k0 ≤ 1099200000000) :
    Calls Tryd.prog 78 #[v, .int .i64 k0] w fun e w' => e = .returned (.int .i64 (k0 + n : Nat)) ∧ Below w.heap.size w w' := by
  have h := (ostr_iff.1 hv).1
  rw [mkS_len, marks_mkS] at h
  exact heldS_walk 0 v n k0 w h hn h1 h2

/-- Rows marked from k on, by what marks an element and how many marks it takes. -/
def mkRow {α : Type} (f : Nat → α → α) (c : α → Nat) : Nat → List α → List α
  | _, [] => []
  | k, x :: r => f k x :: mkRow f c (k + c x) r
def cntR {α : Type} (c : α → Nat) (l : List α) : Nat := (l.map c).sum
theorem mkRow_len {α : Type} (f : Nat → α → α) (c : α → Nat) : ∀ (l : List α) (k : Nat), (mkRow f c k l).length = l.length
  | [], _ => rfl
  | x :: r, k => by rw [mkRow, List.length_cons, mkRow_len f c r, List.length_cons]
theorem mkRow_snoc {α : Type} (f : Nat → α → α) (c : α → Nat) (x : α) : ∀ (l : List α) (k : Nat), mkRow f c k (l ++ [x]) = mkRow f c k l ++ [f (k + cntR c l) x]
  | [], k => by simp [mkRow, cntR]
  | y :: r, k => by
    rw [List.cons_append, mkRow, mkRow, mkRow_snoc f c x r, List.cons_append]
    unfold cntR
    rw [List.map_cons, List.sum_cons, Nat.add_assoc]
/-- A row under way. -/
def mkRowAt {α : Type} (f : Nat → α → α) (c : α → Nat) (k : Nat) (l : List α) (j : Nat) : List α := mkRow f c k (l.take j) ++ l.drop j
section
variable {α : Type} {f : Nat → α → α} {c : α → Nat} {k : Nat} {l : List α} {j : Nat}
theorem mkRowAt_0 : mkRowAt f c k l 0 = l := by simp [mkRowAt, mkRow]
theorem mkRowAt_all : mkRowAt f c k l l.length = mkRow f c k l := by simp [mkRowAt]
theorem mkRowAt_at (h : j < l.length) : (mkRowAt f c k l j)[j]? = some l[j] := by
  have hl : (mkRow f c k (l.take j)).length = j := by rw [mkRow_len, List.length_take]; omega
  unfold mkRowAt
  rw [List.getElem?_append_right (by omega), hl, Nat.sub_self, List.getElem?_drop]
  simp [h]
theorem mkRowAt_set (h : j < l.length) (x : α) : (mkRowAt f c k l j).set j x = mkRow f c k (l.take j) ++ x :: l.drop (j + 1) := by
  have hl : (mkRow f c k (l.take j)).length = j := by rw [mkRow_len, List.length_take]; omega
  unfold mkRowAt
  rw [List.set_append_right _ _ (by omega), hl, Nat.sub_self, List.drop_eq_getElem_cons h, List.set_cons_zero]
theorem mkRowAt_succ (h : j < l.length) : mkRow f c k (l.take j) ++ f (k + cntR c (l.take j)) l[j] :: l.drop (j + 1) = mkRowAt f c k l (j + 1) := by
  unfold mkRowAt
  rw [List.take_succ_eq_append_getElem h, mkRow_snoc, List.append_assoc]; rfl
theorem cnt_succ (h : j < l.length) : cntR c (l.take (j + 1)) = cntR c (l.take j) + c l[j] := by
  exact sum_take_snoc c l j l[j] (List.getElem?_eq_getElem h)
theorem cnt_le : cntR c (l.take j) ≤ cntR c l := by
  unfold cntR
  rw [List.map_take]; exact sum_take_le _ _
theorem mkRow_at (h : j < l.length) : (mkRow f c k l)[j]? = some (f (k + cntR c (l.take j)) l[j]) := by
  induction l generalizing j k with
  | nil => simp at h
  | cons x r ih =>
    cases j with
    | zero => simp [mkRow, cntR]
    | succ j =>
      rw [mkRow, List.getElem?_cons_succ, ih (by simpa using h), List.take_succ_cons, List.getElem_cons_succ]
      unfold cntR
      rw [List.map_cons, List.sum_cons, Nat.add_assoc]
theorem mid_at {A B : List α} {x : α} (h : A.length = j) : (A ++ x :: B)[j]? = some x := by
  rw [List.getElem?_append_right (by omega), h, Nat.sub_self]; rfl
theorem mid_set {A B : List α} {x : α} (h : A.length = j) (y : α) : (A ++ x :: B).set j y = A ++ y :: B := by
  rw [List.set_append_right _ _ (by omega), h, Nat.sub_self, List.set_cons_zero]
theorem cell_set_off (w : World) (g i j : Nat) (v : Value) (h : i ≠ j) : (w.setCell ⟨g, i, none⟩ v).cell? ⟨g, j, none⟩ = w.cell? ⟨g, j, none⟩ := World.cell?_setCell_other _ _ _ _ (by intro e; injection e with _ e; exact h e)
theorem mkRow_take_len (h : j < l.length) : (mkRow f c k (l.take j)).length = j := by rw [mkRow_len, List.length_take]; omega
end
def cntMsg (m : Msg) : Nat := m.ptrs.length + 2
def mkMsg (k : Nat) (m : Msg) : Msg := ⟨(k : Int), mkS (k + 1) m.ptrs.length, ((k : Int) + 1 + (m.ptrs.length : Int)) % 3 == 0⟩

set_option maxHeartbeats 800000 in
theorem markMsgs_walk (v : Value) (ms : List Msg) (bl : List Nat) (k0 : Nat) (w : World) (hv : ORow msgE w v ms bl) (hd : bl.Nodup) (hn : szMsgs ms ≤ 268435456) (h2 : k0 + cntR cntMsg ms ≤ 1099200000000) :
    Calls Tryd.prog 75 #[v, .int .i64 k0] w fun e w' => e = .returned (.int .i64 (k0 + cntR cntMsg ms : Nat)) ∧ ORow msgE w' v (mkRow mkMsg cntMsg k0 ms) bl ∧ Fr bl w w' := by
  have hln : ms.length ≤ 268435456 := by unfold szMsgs at hn; omega
  have hsz : ∀ k (hk : k < ms.length), ms[k].ptrs.length ≤ 268435456 := fun k hk => by
    have h1 := sum_take_snoc szMsg ms k ms[k] (List.getElem?_eq_getElem hk)
    have h2 := sum_take_le (ms.map szMsg) (k + 1)
    rw [← List.map_take] at h2
    unfold szMsgs at hn
    have h3 : ms[k].ptrs.length ≤ szMsg ms[k] := by unfold szMsg szStr; omega
    omega
  have HSZ := hide hsz
  obtain ⟨a, cap, rfl, hform, hsh⟩ := hv.form
  clear hform
  have HV := hide hv
  have HD := hide hd
  clear hv hd hn hsz
  go_enter Tryd.func75, Tryd.ntmps75
  go_wp2
  go_loopw [1, 5] (fun q i wr => ∃ (j : Nat), j ≤ ms.length ∧ i = .int .i64 j ∧ q = .int .i64 (k0 + cntR cntMsg (ms.take j) : Nat) ∧ Fr bl w wr ∧ ORow msgE wr (.slice a ms.length cap) (mkRowAt mkMsg cntMsg k0 ms j) bl) (fun _ i _ => ms.length - (intOf i).toNat)
  case atStart => exact ⟨0, Nat.zero_le _, rfl, by simp [cntR], Fr.refl _ _, by rw [mkRowAt_0]; exact unhide HV⟩
  case round =>
    obtain ⟨j, hj, rfl, rfl, hb, ho⟩ := hrel
    by_cases hlt : j < ms.length
    · obtain ⟨g, rfl⟩ := hsh (by omega)
      have hle := cnt_le (c := cntMsg) (l := ms) (j := j)
      have hle2 := cnt_le (c := cntMsg) (l := ms) (j := j + 1)
      rw [cnt_succ hlt] at hle2
      have hcm : cntMsg ms[j] = ms[j].ptrs.length + 2 := rfl
      have hpl := unhide HSZ j hlt
      have hs := cnt_succ (c := cntMsg) hlt
      have hnx := mkRowAt_succ (f := mkMsg) (c := cntMsg) (k := k0) hlt
      have hset := fun x => mkRowAt_set (f := mkMsg) (c := cntMsg) (k := k0) hlt x
      have hat := mkRowAt_at (f := mkMsg) (c := cntMsg) (k := k0) hlt
      generalize hK : k0 + cntR cntMsg (ms.take j) = K at *
      generalize ms[j] = m at *
      -- the version is marked
      obtain ⟨vs, ib, hE, hc, hx1, hg, hx2⟩ := ho.at hat
      clear hx1 hx2
      obtain ⟨q, rfl, hq⟩ := hE
      have c0 : wr.cell? ⟨g, j * 3, none⟩ = _ := (hc 0 _ rfl).1
      have f0 : wr.frozen? ⟨g, j * 3, none⟩ = _ := (hc 0 _ rfl).2
      have c1 : wr.cell? ⟨g, j * 3 + 1, none⟩ = _ := (hc 1 _ rfl).1
      have p1 : ORow msgE (wr.setCell ⟨g, j * 3, none⟩ (.int .i64 (K : Int))) _ _ bl := ho.put (unhide HD) hat 0 (by decide) (.int .i64 (K : Int)) ⟨(K : Int), m.ptrs, m.over⟩ (fun w' vs ib h => by obtain ⟨q, rfl, h⟩ := h; exact ⟨q, rfl, h⟩)
      rw [hset] at p1
      have fr1 := hb.set hg (j * 3) (.int .i64 (K : Int))
      have hA := mkRow_take_len (f := mkMsg) (c := cntMsg) (k := k0) hlt
      generalize mkRow mkMsg cntMsg k0 (ms.take j) = A at *
      generalize ms.drop (j + 1) = B at *
      -- the pointers
      obtain ⟨vs', jb, hE', hc', hjs, hx1, hjd, hclose⟩ := p1.inner (unhide HD) (mid_at hA)
      obtain ⟨q', rfl, hq'⟩ := hE'
      have c1' : (wr.setCell ⟨g, j * 3, none⟩ (.int .i64 (K : Int))).cell? ⟨g, j * 3 + 1, none⟩ = _ := (hc' 1 _ rfl).1
      have hqq : q' = q := by
        rw [cell_set_off _ _ _ _ _ (by omega)] at c1'
        rw [c1] at c1'; exact (Option.some.inj c1').symm
      subst hqq
      have HM := hide (markStr_walk q' m.ptrs jb (K + 1) (wr.setCell ⟨g, j * 3, none⟩ (.int .i64 (K : Int))) hq' hjd hpl (by omega) (by omega))
      have HFR := hide fr1
      have HCL := hide hclose
      have HJS := hide hjs
      have HHG := hide hg
      have HNX := hide hnx
      have HS := hide hs
      have HA := hide hA
      have HK := hide hK
      have HLE := hide hle2
      have hKb : K ≤ 1099200000000 := by omega
      clear ho hb hc hc' p1 fr1 hclose hq hq' hjs hjd c1' hset hat hg hnx hs hA hK hle hle2 hcm h2 hx1 hsh
      go_wp2_with fail
      refine (unhide HM).mono ?_
      rintro e w2 ⟨rfl, ho2, fr2⟩
      have o2 := unhide HCL w2 ⟨(K : Int), mkS (K + 1) m.ptrs.length, m.over⟩ fr2 ⟨q', rfl, ho2⟩
      rw [mid_set (unhide HA)] at o2
      obtain ⟨vs2, kb, hE2, hc2, _, hg, _⟩ := o2.at (mid_at (unhide HA))
      obtain ⟨q2, rfl, _⟩ := hE2
      have c2 : w2.cell? ⟨g, j * 3 + 2, none⟩ = _ := (hc2 2 _ rfl).1
      have f2 : w2.frozen? ⟨g, j * 3 + 2, none⟩ = _ := (hc2 2 _ rfl).2
      have p2 : ORow msgE (w2.setCell ⟨g, j * 3 + 2, none⟩ (.bool (((K : Int) + 1 + (m.ptrs.length : Int)) % 3 == 0))) _ _ bl := o2.put (unhide HD) (mid_at (unhide HA)) 2 (by decide) (.bool (((K : Int) + 1 + (m.ptrs.length : Int)) % 3 == 0)) (mkMsg K m) (fun w' vs ib h => by obtain ⟨q, rfl, h⟩ := h; exact ⟨q, rfl, h⟩)
      rw [mid_set (unhide HA), unhide HNX] at p2
      have HP2 := hide p2
      have HFR2 := hide (((unhide HFR).trans (fr2.mono (unhide HJS))).set hg (j * 3 + 2) (.bool (((K : Int) + 1 + (m.ptrs.length : Int)) % 3 == 0)))
      clear HM HCL HFR HJS ho2 fr2 o2 hc2 p2 hg c0 c1 f0
      go_wp2
      go_roundw
      case rel =>
        have hk1 := unhide HK
        have hk2 := unhide HS
        have hk3 : cntMsg m = m.ptrs.length + 2 := rfl
        exact ⟨j + 1, by omega, by go_num, by rw [hk2, hk3, ← hk1]; go_num, unhide HFR2, unhide HP2⟩
      case measure => simp [intOf]; omega
    · have hjn : j = ms.length := by omega
      subst hjn
      rw [mkRowAt_all] at ho
      rw [List.take_length]
      go_wp2
      go_ret
      exact ⟨rfl, ho, hb⟩
set_option maxHeartbeats 800000 in
theorem heldMsgs_walk (v : Value) (ms : List Msg) (bl : List Nat) (k0 : Nat) (w : World) (hv : ORow msgE w v (mkRow mkMsg cntMsg k0 ms) bl) (hn : szMsgs ms ≤ 268435456) (h2 : k0 + cntR cntMsg ms ≤ 1099200000000) :
    Calls Tryd.prog 77 #[v, .int .i64 k0] w fun e w' => e = .returned (.int .i64 (k0 + cntR cntMsg ms : Nat)) ∧ Below w.heap.size w w' := by
  have hln : ms.length ≤ 268435456 := by unfold szMsgs at hn; omega
  have hsz : ∀ k (hk : k < ms.length), ms[k].ptrs.length ≤ 268435456 := fun k hk => by
    have h1 := sum_take_snoc szMsg ms k ms[k] (List.getElem?_eq_getElem hk)
    have h2 := sum_take_le (ms.map szMsg) (k + 1)
    rw [← List.map_take] at h2
    unfold szMsgs at hn
    have h3 : ms[k].ptrs.length ≤ szMsg ms[k] := by unfold szMsg szStr; omega
    omega
  have HSZ := hide hsz
  obtain ⟨a, cap, rfl, hform, hsh⟩ := hv.form
  rw [mkRow_len] at hsh
  have HV := hide hv
  have HSH := hide hsh
  rw [mkRow_len] at HV ⊢
  clear hv hn hsz hform hsh
  go_enter Tryd.func77, Tryd.ntmps77
  go_wp2
  go_loopw [1, 5] (fun q i wr => ∃ (j : Nat), j ≤ ms.length ∧ i = .int .i64 j ∧ q = .int .i64 (k0 + cntR cntMsg (ms.take j) : Nat) ∧ Below w.heap.size w wr) (fun _ i _ => ms.length - (intOf i).toNat)
  case atStart => exact ⟨0, Nat.zero_le _, rfl, by simp [cntR], Below.refl _ _⟩
  case round =>
    obtain ⟨j, hj, rfl, rfl, hb⟩ := hrel
    by_cases hlt : j < ms.length
    · obtain ⟨g, rfl⟩ := unhide HSH (by omega)
      have hle2 := cnt_le (c := cntMsg) (l := ms) (j := j + 1)
      rw [cnt_succ hlt] at hle2
      have hcm : cntMsg ms[j] = ms[j].ptrs.length + 2 := rfl
      have hpl := unhide HSZ j hlt
      have hs := cnt_succ (c := cntMsg) hlt
      have hat := mkRow_at (f := mkMsg) (c := cntMsg) (k := k0) hlt
      generalize hK : k0 + cntR cntMsg (ms.take j) = K at *
      generalize ms[j] = m at *
      obtain ⟨vs, ib, hE, hc, hx1, hg, hx2⟩ := ((unhide HV).below hb).at hat
      obtain ⟨q, rfl, hq⟩ := hE
      have c0 : wr.cell? ⟨g, j * 3, none⟩ = some (.int .i64 (K : Int)) := (hc 0 _ rfl).1
      have c1 : wr.cell? ⟨g, j * 3 + 1, none⟩ = some q := (hc 1 _ rfl).1
      have c2 : wr.cell? ⟨g, j * 3 + 2, none⟩ = some (.bool (((K : Int) + 1 + (m.ptrs.length : Int)) % 3 == 0)) := (hc 2 _ rfl).1
      have HM : Hid (Calls _ _ _ _ _) := heldStr_walk q ib m.ptrs.length (K + 1) wr hq hpl (by omega) (by omega)
      have HB := hide hb
      have HS := hide hs
      have HK := hide hK
      have hKb : K ≤ 1099200000000 := by omega
      have hgr : g < wr.heap.size := World.block_lt_of_cell? _ _ c0
      clear hx1 hx2 hc hq hb hat hle2 hcm hs hK hg h2
      go_wp2_with fail
      refine (unhide HM).mono ?_
      rintro e w2 ⟨rfl, b2⟩
      have c2' : w2.cell? ⟨g, j * 3 + 2, none⟩ = some (.bool (((K : Int) + 1 + (m.ptrs.length : Int)) % 3 == 0)) := (b2.cell (p := ⟨g, j * 3 + 2, none⟩) hgr).trans c2
      have HB2 := hide (below_next (unhide HB) b2)
      clear HM HB b2 c0 c1 c2
      go_wp2
      go_roundw
      case rel =>
        have hk1 := unhide HK
        have hk2 := unhide HS
        have hk3 : cntMsg m = m.ptrs.length + 2 := rfl
        exact ⟨j + 1, by omega, by go_num, by rw [hk2, hk3, ← hk1]; go_num, unhide HB2⟩
      case measure => simp [intOf]; omega
    · have hjn : j = ms.length := by omega
      subst hjn
      rw [List.take_length]
      go_wp2
      go_ret
      exact ⟨rfl, hb⟩
end Go.Proofs.YtbcfkkicmmhhcaaDoor

namespace Go.Proofs.YtbcfkkicmmhhcaaDoor
open Go.RowKit

def cntWat (m : Wat) : Nat := 5 + cntR cntMsg m.queue
def mkWat (k : Nat) (m : Wat) : Wat := ⟨(k : Int), mkText (k + 1), (k : Int) + 1 + 1, (k : Int) + 1 + 1 + 1, ((k : Int) + 1 + 1 + 1 + 1) % 3 == 0, mkRow mkMsg cntMsg (k + 1 + 1 + 1 + 1 + 1) m.queue⟩
set_option maxHeartbeats 800000 in
theorem markWats_walk (v : Value) (ms : List Wat) (bl : List Nat) (k0 : Nat) (w : World) (hv : ORow watE w v ms bl) (hd : bl.Nodup) (hn : szWats ms ≤ 268435456) (h2 : k0 + cntR cntWat ms ≤ 1099200000000) :
    Calls Tryd.prog 44 #[v, .int .i64 k0] w fun e w' => e = .returned (.int .i64 (k0 + cntR cntWat ms : Nat)) ∧ ORow watE w' v (mkRow mkWat cntWat k0 ms) bl ∧ Fr bl w w' := by
  have hln : ms.length ≤ 268435456 := by unfold szWats at hn; omega
  have hsz : ∀ k (hk : k < ms.length), szMsgs ms[k].queue ≤ 268435456 := fun k hk => by
    have h1 := sum_take_snoc szWat ms k ms[k] (List.getElem?_eq_getElem hk)
    have h2 := sum_take_le (ms.map szWat) (k + 1)
    rw [← List.map_take] at h2
    unfold szWats at hn
    have h3 : szMsgs ms[k].queue ≤ szWat ms[k] := by unfold szWat; omega
    omega
  have HSZ := hide hsz
  obtain ⟨a, cap, rfl, hform, hsh⟩ := hv.form
  clear hform
  have HV := hide hv
  have HD := hide hd
  clear hv hd hn hsz
  go_enter Tryd.func44, Tryd.ntmps44
  go_wp2
  go_loopw [1, 5] (fun q i wr => ∃ (j : Nat), j ≤ ms.length ∧ i = .int .i64 j ∧ q = .int .i64 (k0 + cntR cntWat (ms.take j) : Nat) ∧ Fr bl w wr ∧ ORow watE wr (.slice a ms.length cap) (mkRowAt mkWat cntWat k0 ms j) bl) (fun _ i _ => ms.length - (intOf i).toNat)
  case atStart => exact ⟨0, Nat.zero_le _, rfl, by simp [cntR], Fr.refl _ _, by rw [mkRowAt_0]; exact unhide HV⟩
  case round =>
    obtain ⟨j, hj, rfl, rfl, hb, ho⟩ := hrel
    by_cases hlt : j < ms.length
    · obtain ⟨g, rfl⟩ := hsh (by omega)
      have hle := cnt_le (c := cntWat) (l := ms) (j := j)
      have hle2 := cnt_le (c := cntWat) (l := ms) (j := j + 1)
      rw [cnt_succ hlt] at hle2
      have hcm : cntWat ms[j] = 5 + cntR cntMsg ms[j].queue := rfl
      have hpl := unhide HSZ j hlt
      have hs := cnt_succ (c := cntWat) hlt
      have hnx := mkRowAt_succ (f := mkWat) (c := cntWat) (k := k0) hlt
      have hset := fun x => mkRowAt_set (f := mkWat) (c := cntWat) (k := k0) hlt x
      have hat := mkRowAt_at (f := mkWat) (c := cntWat) (k := k0) hlt
      generalize hK : k0 + cntR cntWat (ms.take j) = K at *
      generalize ms[j] = m at *
      -- the client is marked
      obtain ⟨vs, ib, hE, hc, hx1, hg, hx2⟩ := ho.at hat
      obtain ⟨q, rfl, hq⟩ := hE
      have c0 : wr.cell? ⟨g, j * 6, none⟩ = _ := (hc 0 _ rfl).1
      have f0 : wr.frozen? ⟨g, j * 6, none⟩ = _ := (hc 0 _ rfl).2
      have p1 : ORow watE (wr.setCell ⟨g, j * 6, none⟩ (.int .i64 (K : Int))) _ _ bl := ho.put (unhide HD) hat 0 (by decide) (.int .i64 (K : Int)) ⟨(K : Int), m.ptr, m.cap, m.since, m.closed, m.queue⟩ (fun w' vs ib h => by obtain ⟨q, rfl, h⟩ := h; exact ⟨q, rfl, h⟩)
      rw [hset] at p1
      have fr1 := hb.set hg (j * 6) (.int .i64 (K : Int))
      have hA := mkRow_take_len (f := mkWat) (c := cntWat) (k := k0) hlt
      generalize mkRow mkWat cntWat k0 (ms.take j) = A at *
      generalize ms.drop (j + 1) = B at *
      have HM := hide (mark_walk (K + 1) (wr.setCell ⟨g, j * 6, none⟩ (.int .i64 (K : Int))) (by omega) (by omega))
      have HFR := hide fr1
      have HP1 := hide p1
      have HHG := hide hg
      have HNX := hide hnx
      have HS := hide hs
      have HA := hide hA
      have HK := hide hK
      have HLE := hide hle2
      have hKb : K + 5 + cntR cntMsg m.queue ≤ 1099200000000 := by omega
      have HKB := hide hKb
      have hKc : K ≤ 1099200000000 := by omega
      have HQL := hide hpl
      clear ho hb hc p1 fr1 hq hset hat hg hnx hs hA hK hle hle2 hcm h2 hx1 hx2 hsh hKb hpl
      go_wp2_with fail
      refine (unhide HM).mono ?_
      rintro e w2 ⟨rfl, b2⟩
      have o2 := (unhide HP1).below b2
      obtain ⟨vs2, kb, hE2, hc2, hy1, hg, hy2⟩ := o2.at (mid_at (unhide HA))
      obtain ⟨q2, rfl, hq2⟩ := hE2
      have d1 : w2.cell? ⟨g, j * 6 + 1, none⟩ = _ := (hc2 1 _ rfl).1
      have d2 : w2.cell? ⟨g, j * 6 + 2, none⟩ = _ := (hc2 2 _ rfl).1
      have d3 : w2.cell? ⟨g, j * 6 + 3, none⟩ = _ := (hc2 3 _ rfl).1
      have d4 : w2.cell? ⟨g, j * 6 + 4, none⟩ = _ := (hc2 4 _ rfl).1
      have d5 : w2.cell? ⟨g, j * 6 + 5, none⟩ = some q2 := (hc2 5 _ rfl).1
      have e1 : w2.frozen? ⟨g, j * 6 + 1, none⟩ = _ := (hc2 1 _ rfl).2
      have e2 : w2.frozen? ⟨g, j * 6 + 2, none⟩ = _ := (hc2 2 _ rfl).2
      have e3 : w2.frozen? ⟨g, j * 6 + 3, none⟩ = _ := (hc2 3 _ rfl).2
      have e4 : w2.frozen? ⟨g, j * 6 + 4, none⟩ = _ := (hc2 4 _ rfl).2
      have p2 : ORow watE (w2.setCell ⟨g, j * 6 + 1, none⟩ (.string (mkText (K + 1)))) _ _ bl := o2.put (unhide HD) (mid_at (unhide HA)) 1 (by decide) (.string (mkText (K + 1))) ⟨(K : Int), mkText (K + 1), m.cap, m.since, m.closed, m.queue⟩ (fun w' vs ib h => by obtain ⟨q, rfl, h⟩ := h; exact ⟨q, rfl, h⟩)
      rw [mid_set (unhide HA)] at p2
      have p3 : ORow watE ((w2.setCell ⟨g, j * 6 + 1, none⟩ (.string (mkText (K + 1)))).setCell ⟨g, j * 6 + 2, none⟩ (.int .i64 ((K : Int) + 1 + 1))) _ _ bl := p2.put (unhide HD) (mid_at (unhide HA)) 2 (by decide) (.int .i64 ((K : Int) + 1 + 1)) ⟨(K : Int), mkText (K + 1), (K : Int) + 1 + 1, m.since, m.closed, m.queue⟩ (fun w' vs ib h => by obtain ⟨q, rfl, h⟩ := h; exact ⟨q, rfl, h⟩)
      rw [mid_set (unhide HA)] at p3
      have p4 : ORow watE (((w2.setCell ⟨g, j * 6 + 1, none⟩ (.string (mkText (K + 1)))).setCell ⟨g, j * 6 + 2, none⟩ (.int .i64 ((K : Int) + 1 + 1))).setCell ⟨g, j * 6 + 3, none⟩ (.int .i64 ((K : Int) + 1 + 1 + 1))) _ _ bl := p3.put (unhide HD) (mid_at (unhide HA)) 3 (by decide) (.int .i64 ((K : Int) + 1 + 1 + 1)) ⟨(K : Int), mkText (K + 1), (K : Int) + 1 + 1, (K : Int) + 1 + 1 + 1, m.closed, m.queue⟩ (fun w' vs ib h => by obtain ⟨q, rfl, h⟩ := h; exact ⟨q, rfl, h⟩)
      rw [mid_set (unhide HA)] at p4
      have p5 : ORow watE ((((w2.setCell ⟨g, j * 6 + 1, none⟩ (.string (mkText (K + 1)))).setCell ⟨g, j * 6 + 2, none⟩ (.int .i64 ((K : Int) + 1 + 1))).setCell ⟨g, j * 6 + 3, none⟩ (.int .i64 ((K : Int) + 1 + 1 + 1))).setCell ⟨g, j * 6 + 4, none⟩ (.bool (((K : Int) + 1 + 1 + 1 + 1) % 3 == 0))) _ _ bl := p4.put (unhide HD) (mid_at (unhide HA)) 4 (by decide) (.bool (((K : Int) + 1 + 1 + 1 + 1) % 3 == 0)) ⟨(K : Int), mkText (K + 1), (K : Int) + 1 + 1, (K : Int) + 1 + 1 + 1, ((K : Int) + 1 + 1 + 1 + 1) % 3 == 0, m.queue⟩ (fun w' vs ib h => by obtain ⟨q, rfl, h⟩ := h; exact ⟨q, rfl, h⟩)
      rw [mid_set (unhide HA)] at p5
      have fr5 := (((((unhide HFR).next b2).set hg (j * 6 + 1) (.string (mkText (K + 1)))).set hg (j * 6 + 2) (.int .i64 ((K : Int) + 1 + 1))).set hg (j * 6 + 3) (.int .i64 ((K : Int) + 1 + 1 + 1))).set hg (j * 6 + 4) (.bool (((K : Int) + 1 + 1 + 1 + 1) % 3 == 0))
      obtain ⟨vs5, jb, hE5, hc5, hjs, hz1, hjd, hclose⟩ := p5.inner (unhide HD) (mid_at (unhide HA))
      obtain ⟨q5, rfl, hq5⟩ := hE5
      have hqq : q5 = q2 := by
        have c5 : ((((w2.setCell ⟨g, j * 6 + 1, none⟩ (.string (mkText (K + 1)))).setCell ⟨g, j * 6 + 2, none⟩ (.int .i64 ((K : Int) + 1 + 1))).setCell ⟨g, j * 6 + 3, none⟩ (.int .i64 ((K : Int) + 1 + 1 + 1))).setCell ⟨g, j * 6 + 4, none⟩ (.bool (((K : Int) + 1 + 1 + 1 + 1) % 3 == 0))).cell? ⟨g, j * 6 + 5, none⟩ = some q5 := (hc5 5 _ rfl).1
        rw [cell_set_off _ _ _ _ _ (by omega), cell_set_off _ _ _ _ _ (by omega), cell_set_off _ _ _ _ _ (by omega), cell_set_off _ _ _ _ _ (by omega), d5] at c5
        exact (Option.some.inj c5).symm
      subst hqq
      have HM2 := hide (markMsgs_walk q5 m.queue jb (K + 1 + 1 + 1 + 1 + 1) _ hq5 hjd (unhide HQL) (by have := unhide HKB; omega))
      have HFR5 := hide fr5
      have HCL := hide hclose
      have HJS := hide hjs
      clear HM HFR HP1 b2 o2 hc2 hy1 hg hy2 hq2 p2 p3 p4 p5 fr5 hc5 hjs hz1 hjd hclose hq5 c0 f0
      go_wp2_with fail
      refine (unhide HM2).mono ?_
      rintro e w3 ⟨rfl, ho3, fr3⟩
      have o3 := unhide HCL w3 (mkWat K m) fr3 ⟨q5, rfl, ho3⟩
      rw [mid_set (unhide HA), unhide HNX] at o3
      have HP2 := hide o3
      have HFR2 := hide ((unhide HFR5).trans (fr3.mono (unhide HJS)))
      have hKB := unhide HKB
      clear HM2 HFR5 HCL HJS ho3 fr3 o3 d1 d2 d3 d4 d5 e1 e2 e3 e4
      go_wp2
      go_roundw
      case rel =>
        have hk1 := unhide HK
        have hk2 := unhide HS
        have hk3 : cntWat m = 5 + cntR cntMsg m.queue := rfl
        exact ⟨j + 1, by omega, by go_num, by rw [hk2, hk3, ← hk1]; go_num, unhide HFR2, unhide HP2⟩
      case measure => simp [intOf]; omega
    · have hjn : j = ms.length := by omega
      subst hjn
      rw [mkRowAt_all] at ho
      rw [List.take_length]
      go_wp2
      go_ret
      exact ⟨rfl, ho, hb⟩
end Go.Proofs.YtbcfkkicmmhhcaaDoor

namespace Go.Proofs.YtbcfkkicmmhhcaaDoor
open Go.RowKit

def cntNws (m : Nws) : Nat := m.ptrs.length + 1
def mkNws (k : Nat) (m : Nws) : Nws := ⟨(k : Int), mkS (k + 1) m.ptrs.length⟩
set_option maxHeartbeats 800000 in
theorem markNwss_walk (v : Value) (ms : List Nws) (bl : List Nat) (k0 : Nat) (w : World) (hv : ORow nwsE w v ms bl) (hd : bl.Nodup) (hn : szNwss ms ≤ 268435456) (h2 : k0 + cntR cntNws ms ≤ 1099200000000) :
    Calls Tryd.prog 45 #[v, .int .i64 k0] w fun e w' => e = .returned (.int .i64 (k0 + cntR cntNws ms : Nat)) ∧ ORow nwsE w' v (mkRow mkNws cntNws k0 ms) bl ∧ Fr bl w w' := by
  have hln : ms.length ≤ 268435456 := by unfold szNwss at hn; omega
  have hsz : ∀ k (hk : k < ms.length), ms[k].ptrs.length ≤ 268435456 := fun k hk => by
    have h1 := sum_take_snoc szNws ms k ms[k] (List.getElem?_eq_getElem hk)
    have h2 := sum_take_le (ms.map szNws) (k + 1)
    rw [← List.map_take] at h2
    unfold szNwss at hn
    have h3 : ms[k].ptrs.length ≤ szNws ms[k] := by unfold szNws szStr; omega
    omega
  have HSZ := hide hsz
  obtain ⟨a, cap, rfl, hform, hsh⟩ := hv.form
  clear hform
  have HV := hide hv
  have HD := hide hd
  clear hv hd hn hsz
  go_enter Tryd.func45, Tryd.ntmps45
  go_wp2
  go_loopw [1, 5] (fun q i wr => ∃ (j : Nat), j ≤ ms.length ∧ i = .int .i64 j ∧ q = .int .i64 (k0 + cntR cntNws (ms.take j) : Nat) ∧ Fr bl w wr ∧ ORow nwsE wr (.slice a ms.length cap) (mkRowAt mkNws cntNws k0 ms j) bl) (fun _ i _ => ms.length - (intOf i).toNat)
  case atStart => exact ⟨0, Nat.zero_le _, rfl, by simp [cntR], Fr.refl _ _, by rw [mkRowAt_0]; exact unhide HV⟩
  case round =>
    obtain ⟨j, hj, rfl, rfl, hb, ho⟩ := hrel
    by_cases hlt : j < ms.length
    · obtain ⟨g, rfl⟩ := hsh (by omega)
      have hle := cnt_le (c := cntNws) (l := ms) (j := j)
      have hle2 := cnt_le (c := cntNws) (l := ms) (j := j + 1)
      rw [cnt_succ hlt] at hle2
      have hcm : cntNws ms[j] = ms[j].ptrs.length + 1 := rfl
      have hpl := unhide HSZ j hlt
      have hs := cnt_succ (c := cntNws) hlt
      have hnx := mkRowAt_succ (f := mkNws) (c := cntNws) (k := k0) hlt
      have hset := fun x => mkRowAt_set (f := mkNws) (c := cntNws) (k := k0) hlt x
      have hat := mkRowAt_at (f := mkNws) (c := cntNws) (k := k0) hlt
      generalize hK : k0 + cntR cntNws (ms.take j) = K at *
      generalize ms[j] = m at *
      -- the version is marked
      obtain ⟨vs, ib, hE, hc, hx1, hg, hx2⟩ := ho.at hat
      clear hx1 hx2
      obtain ⟨q, rfl, hq⟩ := hE
      have c0 : wr.cell? ⟨g, j * 2, none⟩ = _ := (hc 0 _ rfl).1
      have f0 : wr.frozen? ⟨g, j * 2, none⟩ = _ := (hc 0 _ rfl).2
      have c1 : wr.cell? ⟨g, j * 2 + 1, none⟩ = _ := (hc 1 _ rfl).1
      have p1 : ORow nwsE (wr.setCell ⟨g, j * 2, none⟩ (.int .i64 (K : Int))) _ _ bl := ho.put (unhide HD) hat 0 (by decide) (.int .i64 (K : Int)) ⟨(K : Int), m.ptrs⟩ (fun w' vs ib h => by obtain ⟨q, rfl, h⟩ := h; exact ⟨q, rfl, h⟩)
      rw [hset] at p1
      have fr1 := hb.set hg (j * 2) (.int .i64 (K : Int))
      have hA := mkRow_take_len (f := mkNws) (c := cntNws) (k := k0) hlt
      generalize mkRow mkNws cntNws k0 (ms.take j) = A at *
      generalize ms.drop (j + 1) = B at *
      -- the pointers
      obtain ⟨vs', jb, hE', hc', hjs, hx1, hjd, hclose⟩ := p1.inner (unhide HD) (mid_at hA)
      obtain ⟨q', rfl, hq'⟩ := hE'
      have c1' : (wr.setCell ⟨g, j * 2, none⟩ (.int .i64 (K : Int))).cell? ⟨g, j * 2 + 1, none⟩ = _ := (hc' 1 _ rfl).1
      have hqq : q' = q := by
        rw [cell_set_off _ _ _ _ _ (by omega)] at c1'
        rw [c1] at c1'; exact (Option.some.inj c1').symm
      subst hqq
      have HM := hide (markStr_walk q' m.ptrs jb (K + 1) (wr.setCell ⟨g, j * 2, none⟩ (.int .i64 (K : Int))) hq' hjd hpl (by omega) (by omega))
      have HFR := hide fr1
      have HCL := hide hclose
      have HJS := hide hjs
      have HHG := hide hg
      have HNX := hide hnx
      have HS := hide hs
      have HA := hide hA
      have HK := hide hK
      have HLE := hide hle2
      have hKb : K ≤ 1099200000000 := by omega
      clear ho hb hc hc' p1 fr1 hclose hq hq' hjs hjd c1' hset hat hg hnx hs hA hK hle hle2 hcm h2 hx1 hsh
      go_wp2_with fail
      refine (unhide HM).mono ?_
      rintro e w2 ⟨rfl, ho2, fr2⟩
      have o2 := unhide HCL w2 (mkNws K m) fr2 ⟨q', rfl, ho2⟩
      rw [mid_set (unhide HA), unhide HNX] at o2
      have HP2 := hide o2
      have HFR2 := hide ((unhide HFR).trans (fr2.mono (unhide HJS)))
      clear HM HCL HFR HJS ho2 fr2 o2 c0 c1 f0
      go_wp2
      go_roundw
      case rel =>
        have hk1 := unhide HK
        have hk2 := unhide HS
        have hk3 : cntNws m = m.ptrs.length + 1 := rfl
        exact ⟨j + 1, by omega, by go_num, by rw [hk2, hk3, ← hk1]; go_num, unhide HFR2, unhide HP2⟩
      case measure => simp [intOf]; omega
    · have hjn : j = ms.length := by omega
      subst hjn
      rw [mkRowAt_all] at ho
      rw [List.take_length]
      go_wp2
      go_ret
      exact ⟨rfl, ho, hb⟩
set_option maxHeartbeats 800000 in
theorem heldNwss_walk (v : Value) (ms : List Nws) (bl : List Nat) (k0 : Nat) (w : World) (hv : ORow nwsE w v (mkRow mkNws cntNws k0 ms) bl) (hn : szNwss ms ≤ 268435456) (h2 : k0 + cntR cntNws ms ≤ 1099200000000) :
    Calls Tryd.prog 47 #[v, .int .i64 k0] w fun e w' => e = .returned (.int .i64 (k0 + cntR cntNws ms : Nat)) ∧ Below w.heap.size w w' := by
  have hln : ms.length ≤ 268435456 := by unfold szNwss at hn; omega
  have hsz : ∀ k (hk : k < ms.length), ms[k].ptrs.length ≤ 268435456 := fun k hk => by
    have h1 := sum_take_snoc szNws ms k ms[k] (List.getElem?_eq_getElem hk)
    have h2 := sum_take_le (ms.map szNws) (k + 1)
    rw [← List.map_take] at h2
    unfold szNwss at hn
    have h3 : ms[k].ptrs.length ≤ szNws ms[k] := by unfold szNws szStr; omega
    omega
  have HSZ := hide hsz
  obtain ⟨a, cap, rfl, hform, hsh⟩ := hv.form
  rw [mkRow_len] at hsh
  have HV := hide hv
  have HSH := hide hsh
  rw [mkRow_len] at HV ⊢
  clear hv hn hsz hform hsh
  go_enter Tryd.func47, Tryd.ntmps47
  go_wp2
  go_loopw [1, 5] (fun q i wr => ∃ (j : Nat), j ≤ ms.length ∧ i = .int .i64 j ∧ q = .int .i64 (k0 + cntR cntNws (ms.take j) : Nat) ∧ Below w.heap.size w wr) (fun _ i _ => ms.length - (intOf i).toNat)
  case atStart => exact ⟨0, Nat.zero_le _, rfl, by simp [cntR], Below.refl _ _⟩
  case round =>
    obtain ⟨j, hj, rfl, rfl, hb⟩ := hrel
    by_cases hlt : j < ms.length
    · obtain ⟨g, rfl⟩ := unhide HSH (by omega)
      have hle2 := cnt_le (c := cntNws) (l := ms) (j := j + 1)
      rw [cnt_succ hlt] at hle2
      have hcm : cntNws ms[j] = ms[j].ptrs.length + 1 := rfl
      have hpl := unhide HSZ j hlt
      have hs := cnt_succ (c := cntNws) hlt
      have hat := mkRow_at (f := mkNws) (c := cntNws) (k := k0) hlt
      generalize hK : k0 + cntR cntNws (ms.take j) = K at *
      generalize ms[j] = m at *
      obtain ⟨vs, ib, hE, hc, hx1, hg, hx2⟩ := ((unhide HV).below hb).at hat
      obtain ⟨q, rfl, hq⟩ := hE
      have c0 : wr.cell? ⟨g, j * 2, none⟩ = some (.int .i64 (K : Int)) := (hc 0 _ rfl).1
      have c1 : wr.cell? ⟨g, j * 2 + 1, none⟩ = some q := (hc 1 _ rfl).1
      have HM : Hid (Calls _ _ _ _ _) := heldStr_walk q ib m.ptrs.length (K + 1) wr hq hpl (by omega) (by omega)
      have HB := hide hb
      have HS := hide hs
      have HK := hide hK
      have hKb : K ≤ 1099200000000 := by omega
      have hgr : g < wr.heap.size := World.block_lt_of_cell? _ _ c0
      clear hx1 hx2 hc hq hb hat hle2 hcm hs hK hg h2
      go_wp2_with fail
      refine (unhide HM).mono ?_
      rintro e w2 ⟨rfl, b2⟩
      have HB2 := hide (below_next (unhide HB) b2)
      clear HM HB b2 c0 c1
      go_wp2
      go_roundw
      case rel =>
        have hk1 := unhide HK
        have hk2 := unhide HS
        have hk3 : cntNws m = m.ptrs.length + 1 := rfl
        exact ⟨j + 1, by omega, by go_num, by rw [hk2, hk3, ← hk1]; go_num, unhide HB2⟩
      case measure => simp [intOf]; omega
    · have hjn : j = ms.length := by omega
      subst hjn
      rw [List.take_length]
      go_wp2
      go_ret
      exact ⟨rfl, hb⟩
end Go.Proofs.YtbcfkkicmmhhcaaDoor

namespace Go.Proofs.YtbcfkkicmmhhcaaDoor
open Go.RowKit

set_option maxHeartbeats 800000 in
theorem heldWats_walk (v : Value) (ms : List Wat) (bl : List Nat) (k0 : Nat) (w : World) (hv : ORow watE w v (mkRow mkWat cntWat k0 ms) bl) (hn : szWats ms ≤ 268435456) (h2 : k0 + cntR cntWat ms ≤ 1099200000000) :
    Calls Tryd.prog 46 #[v, .int .i64 k0] w fun e w' => e = .returned (.int .i64 (k0 + cntR cntWat ms : Nat)) ∧ Below w.heap.size w w' := by
  have hln : ms.length ≤ 268435456 := by unfold szWats at hn; omega
  have hsz : ∀ k (hk : k < ms.length), szMsgs ms[k].queue ≤ 268435456 := fun k hk => by
    have h1 := sum_take_snoc szWat ms k ms[k] (List.getElem?_eq_getElem hk)
    have h2 := sum_take_le (ms.map szWat) (k + 1)
    rw [← List.map_take] at h2
    unfold szWats at hn
    have h3 : szMsgs ms[k].queue ≤ szWat ms[k] := by unfold szWat; omega
    omega
  have HSZ := hide hsz
  obtain ⟨a, cap, rfl, hform, hsh⟩ := hv.form
  rw [mkRow_len] at hsh
  have HV := hide hv
  have HSH := hide hsh
  rw [mkRow_len] at HV ⊢
  clear hv hn hsz hform hsh
  go_enter Tryd.func46, Tryd.ntmps46
  go_wp2
  go_loopw [1, 5] (fun q i wr => ∃ (j : Nat), j ≤ ms.length ∧ i = .int .i64 j ∧ q = .int .i64 (k0 + cntR cntWat (ms.take j) : Nat) ∧ Below w.heap.size w wr) (fun _ i _ => ms.length - (intOf i).toNat)
  case atStart => exact ⟨0, Nat.zero_le _, rfl, by simp [cntR], Below.refl _ _⟩
  case round =>
    obtain ⟨j, hj, rfl, rfl, hb⟩ := hrel
    by_cases hlt : j < ms.length
    · obtain ⟨g, rfl⟩ := unhide HSH (by omega)
      have hle2 := cnt_le (c := cntWat) (l := ms) (j := j + 1)
      rw [cnt_succ hlt] at hle2
      have hcm : cntWat ms[j] = 5 + cntR cntMsg ms[j].queue := rfl
      have hpl := unhide HSZ j hlt
      have hs := cnt_succ (c := cntWat) hlt
      have hat := mkRow_at (f := mkWat) (c := cntWat) (k := k0) hlt
      generalize hK : k0 + cntR cntWat (ms.take j) = K at *
      generalize ms[j] = m at *
      obtain ⟨vs, ib, hE, hc, hx1, hg, hx2⟩ := ((unhide HV).below hb).at hat
      obtain ⟨q, rfl, hq⟩ := hE
      have c0 : wr.cell? ⟨g, j * 6, none⟩ = some (.int .i64 (K : Int)) := (hc 0 _ rfl).1
      have c1 : wr.cell? ⟨g, j * 6 + 1, none⟩ = some (.string (mkText (K + 1))) := (hc 1 _ rfl).1
      have c2 : wr.cell? ⟨g, j * 6 + 2, none⟩ = some (.int .i64 ((K : Int) + 1 + 1)) := (hc 2 _ rfl).1
      have c3 : wr.cell? ⟨g, j * 6 + 3, none⟩ = some (.int .i64 ((K : Int) + 1 + 1 + 1)) := (hc 3 _ rfl).1
      have c4 : wr.cell? ⟨g, j * 6 + 4, none⟩ = some (.bool (((K : Int) + 1 + 1 + 1 + 1) % 3 == 0)) := (hc 4 _ rfl).1
      have c5 : wr.cell? ⟨g, j * 6 + 5, none⟩ = some q := (hc 5 _ rfl).1
      have HM := hide (mark_walk (K + 1) wr.drew (by omega) (by omega))
      have hKb : K + 5 + cntR cntMsg m.queue ≤ 1099200000000 := by omega
      have HM2 : Hid (∀ wx, Below wr.heap.size wr wx → Calls _ _ _ wx _) := fun wx hx => heldMsgs_walk q m.queue ib (K + 1 + 1 + 1 + 1 + 1) wx (hq.below hx) hpl (by omega)
      have HB := hide hb
      have HS := hide hs
      have HK := hide hK
      have hgr : g < wr.heap.size := World.block_lt_of_cell? _ _ c0
      have hKc : K ≤ 1099200000000 := by omega
      have HKB := hide hKb
      clear hx1 hx2 hc hq hb hat hle2 hcm hs hK hg h2 hKb hpl
      go_wp2
      go_region_law (go_simp; refine (unhide HM).mono ?_; rintro e w1 ⟨rfl, b1⟩; have bx : Below wr.heap.size wr w1 := ((Below.refl _ _).drew).trans (b1.mono (by simp)); have d1 := (bx.cell (p := ⟨g, j * 6 + 1, none⟩) hgr).trans c1)
      all_goals (
        have d2 := (bx.cell (p := ⟨g, j * 6 + 2, none⟩) hgr).trans c2
        have d3 := (bx.cell (p := ⟨g, j * 6 + 3, none⟩) hgr).trans c3
        have d4 := (bx.cell (p := ⟨g, j * 6 + 4, none⟩) hgr).trans c4
        have d5 := (bx.cell (p := ⟨g, j * 6 + 5, none⟩) hgr).trans c5
        have HM3 := hide (unhide HM2 w1 bx)
        have HB1 := hide (below_next (unhide HB) bx)
        clear HM HM2 HB b1 bx c0 c1 c2 c3 c4 c5 d1
        go_wp2_with fail
        refine (unhide HM3).mono ?_
        rintro e w2 ⟨rfl, b2⟩
        have HB2 := hide (below_next (unhide HB1) b2)
        have hKB := unhide HKB
        clear HM3 HB1 b2 d2 d3 d4 d5
        go_wp2)
      all_goals go_roundw
      all_goals first
        | (refine ⟨j + 1, by omega, by go_num, ?_, unhide HB2⟩
           have hk1 := unhide HK
           have hk2 := unhide HS
           have hk3 : cntWat m = 5 + cntR cntMsg m.queue := rfl
           rw [hk2, hk3, ← hk1]; go_num)
        | (simp [intOf]; omega)
    · have hjn : j = ms.length := by omega
      subst hjn
      rw [List.take_length]
      go_wp2
      go_ret
      exact ⟨rfl, hb⟩
set_option maxHeartbeats 800000 in
theorem markHub_walk (v : Value) (h : Hb) (bl : List Nat) (w : World) (hv : OHub w v h bl) (hd : bl.Nodup) (hn : szHb h ≤ 268435456) (k0 : Nat) (h2 : k0 + cntR cntWat h.watches + cntR cntNws h.waiting ≤ 1099200000000) :
    Calls Tryd.prog 16 #[v, .int .i64 k0] w fun e w' => e = .returned (.int .i64 (k0 + cntR cntWat h.watches + cntR cntNws h.waiting : Nat)) ∧ OHub w' v ⟨mkRow mkWat cntWat k0 h.watches, mkRow mkNws cntNws (k0 + cntR cntWat h.watches) h.waiting⟩ bl ∧ Fr bl w w' := by
  obtain ⟨p, q, b1, b2, rfl, o1, o2, rfl⟩ := hv
  rw [List.nodup_append] at hd
  obtain ⟨d1, d2, d3⟩ := hd
  have hn1 : szWats h.watches ≤ 268435456 := by unfold szHb at hn; omega
  have hn2 : szNwss h.waiting ≤ 268435456 := by unfold szHb at hn; omega
  have O1 := hide o1
  have O2 := hide o2
  have D1 := hide d1
  have D2 := hide d2
  have D3 := hide d3
  have L1 := hide o1.lt
  have L2 := hide o2.lt
  clear o1 o2 d1 d2 d3 hn
  go_enter Tryd.func16, Tryd.ntmps16
  go_wp2_with fail
  refine (markWats_walk p h.watches b1 k0 _ ((unhide O1).below (alloc_b w _)) (unhide D1) hn1 (by omega)).mono ?_
  rintro e w1 ⟨rfl, p1, f1⟩
  have hnw : w.heap.size ∉ b1 := fun hm => by have := unhide L1 _ hm; omega
  have c1 : w1.cell? ⟨w.heap.size, 1, none⟩ = some q := (World.cell?_of_block (f1.block w.heap.size (by simp) hnw)).trans (by simp)
  have fr1 : Fr b1 w w1 := (Fr.of_below (alloc_b w _)).trans f1
  have q1 : ORow nwsE w1 q h.waiting b2 := (unhide O2).keep (fr1.kp (unhide L2) fun b hb hb1 => unhide D3 b hb1 b hb rfl)
  have P1 := hide p1
  have F1 := hide fr1
  have Q1 := hide q1
  clear p1 f1 q1 fr1 hnw O1 O2
  go_wp2_with fail
  refine (markNwss_walk q h.waiting b2 (k0 + cntR cntWat h.watches) w1 (unhide Q1) (unhide D2) hn2 (by omega)).mono ?_
  rintro e w2 ⟨rfl, p2, f2⟩
  have p1' := (unhide P1).keep (f2.kp (unhide P1).lt fun b hb hb2 => unhide D3 b hb b hb2 rfl)
  have HR := hide (show OHub w2 (.agg #[p, q]) ⟨mkRow mkWat cntWat k0 h.watches, mkRow mkNws cntNws (k0 + cntR cntWat h.watches) h.waiting⟩ (b1 ++ b2) from ⟨p, q, b1, b2, rfl, p1', p2, rfl⟩)
  have HF := hide (((unhide F1).mono (bl' := b1 ++ b2) fun i hi => List.mem_append.2 (.inl hi)).trans (f2.mono fun i hi => List.mem_append.2 (.inr hi)))
  clear p2 f2 p1' P1 F1 Q1 c1
  go_wp2
  go_ret
  exact ⟨rfl, unhide HR, unhide HF⟩
set_option maxHeartbeats 800000 in
theorem heldHub_walk (v : Value) (h : Hb) (bl : List Nat) (w : World) (k0 : Nat) (hv : OHub w v ⟨mkRow mkWat cntWat k0 h.watches, mkRow mkNws cntNws (k0 + cntR cntWat h.watches) h.waiting⟩ bl) (hn : szHb h ≤ 268435456) (h2 : k0 + cntR cntWat h.watches + cntR cntNws h.waiting ≤ 1099200000000) :
    Calls Tryd.prog 17 #[v, .int .i64 k0] w fun e w' => e = .returned (.int .i64 (k0 + cntR cntWat h.watches + cntR cntNws h.waiting : Nat)) ∧ Below w.heap.size w w' := by
  obtain ⟨p, q, b1, b2, rfl, o1, o2, rfl⟩ := hv
  have hn1 : szWats h.watches ≤ 268435456 := by unfold szHb at hn; omega
  have hn2 : szNwss h.waiting ≤ 268435456 := by unfold szHb at hn; omega
  have O1 := hide o1
  have O2 := hide o2
  clear o1 o2 hn
  go_enter Tryd.func17, Tryd.ntmps17
  go_wp2_with fail
  refine (heldWats_walk p h.watches b1 k0 _ ((unhide O1).below (alloc_b w _)) hn1 (by omega)).mono ?_
  rintro e w1 ⟨rfl, bb1⟩
  have c1 : w1.cell? ⟨w.heap.size, 1, none⟩ = some q := (bb1.cell (p := ⟨w.heap.size, 1, none⟩) (by simp)).trans (by simp)
  have HB := hide (below_next (alloc_b w _) bb1)
  clear bb1 O1
  go_wp2_with fail
  refine (heldNwss_walk q h.waiting b2 (k0 + cntR cntWat h.watches) w1 ((unhide O2).below (unhide HB)) hn2 (by omega)).mono ?_
  rintro e w2 ⟨rfl, bb2⟩
  have HB2 := hide (below_next (unhide HB) bb2)
  clear bb2 HB O2 c1
  go_wp2
  go_ret
  exact ⟨rfl, unhide HB2⟩
end Go.Proofs.YtbcfkkicmmhhcaaDoor

namespace Go.Proofs.YtbcfkkicmmhhcaaDoor
open Go.RowKit

/-- The element types of the blocks. -/
def Tys (ts : List TypeId) (w : World) (bl : List Nat) : Prop := ∀ b ∈ bl, ∃ cur t, w.heap[b]? = some (.cells cur t (0, 0)) ∧ t ∈ ts
theorem own_ty {w : World} {B e size n : Nat} {v : Value} {xs : List Value} (h : w.ownsRow B e size v n xs) : Tys [e] w v.ownBlock.toList := by
  intro b hb
  rcases h.2 with ⟨hv, _⟩ | ⟨g, cap, cur, hv, _, hg, _⟩
  · rw [hv] at hb; simp [Value.ownBlock] at hb
  · rw [hv] at hb; simp [Value.ownBlock] at hb
    subst hb; exact ⟨cur, e, hg, by simp⟩
theorem Tys.mono {ts ts' : List TypeId} {w : World} {bl : List Nat} (h : Tys ts w bl) (hs : ∀ t ∈ ts, t ∈ ts') : Tys ts' w bl := fun b hb => by
  obtain ⟨cur, t, h1, h2⟩ := h b hb; exact ⟨cur, t, h1, hs t h2⟩
theorem Tys.app {ts : List TypeId} {w : World} {bl cl : List Nat} (h : Tys ts w bl) (k : Tys ts w cl) : Tys ts w (bl ++ cl) := fun b hb => by
  rcases List.mem_append.1 hb with hb | hb
  · exact h b hb
  · exact k b hb
theorem Tys.keep {ts : List TypeId} {w w' : World} {bl : List Nat} (h : Tys ts w bl) (hk : Kp bl w w') : Tys ts w' bl := fun b hb => by
  obtain ⟨cur, t, h1, h2⟩ := h b hb; exact ⟨cur, t, (hk b hb).trans h1, h2⟩
theorem orow_ty {α : Type} {e : Elem α} {ts : List TypeId} (he : ∀ {w vs x bl}, e.E w vs x bl → Tys ts w bl) {w : World} {v : Value} {xs : List α} {bl : List Nat} (h : ORow e w v xs bl) : Tys (e.T :: ts) w bl := by
  obtain ⟨ps, hl, hE, ho, rfl⟩ := h
  refine ((own_ty ho).mono (by simp)).app fun b hb => ?_
  obtain ⟨p, hp, hb⟩ := List.mem_flatMap.1 hb
  obtain ⟨j, hj, rfl⟩ := List.mem_iff_getElem.1 hp
  obtain ⟨cur, t, h1, h2⟩ := he (hE j ps[j] (xs[j]'(by omega)) (List.getElem?_eq_getElem hj) (List.getElem?_eq_getElem (by omega))) b hb
  exact ⟨cur, t, h1, List.mem_cons_of_mem _ h2⟩
theorem str_ty {w : World} {vs : List Value} {s : ByteArray} {bl : List Nat} (h : strE.E w vs s bl) : Tys [] w bl := by
  obtain ⟨_, rfl⟩ := h; intro b hb; simp at hb
theorem ostr_ty {w : World} {v : Value} {ss : List ByteArray} {bl : List Nat} (h : OStr w v ss bl) : Tys [9] w bl := orow_ty (e := strE) str_ty h
theorem msg_ty {w : World} {vs : List Value} {m : Msg} {bl : List Nat} (h : msgE.E w vs m bl) : Tys [9] w bl := by obtain ⟨q, _, h⟩ := h; exact ostr_ty h
theorem nws_ty {w : World} {vs : List Value} {m : Nws} {bl : List Nat} (h : nwsE.E w vs m bl) : Tys [9] w bl := by obtain ⟨q, _, h⟩ := h; exact ostr_ty h
theorem wat_ty {w : World} {vs : List Value} {m : Wat} {bl : List Nat} (h : watE.E w vs m bl) : Tys [115, 9] w bl := by obtain ⟨q, _, h⟩ := h; exact orow_ty (e := msgE) msg_ty h
theorem own_base {w : World} {B e size n : Nat} {v : Value} {xs : List Value} (h : w.ownsRow 0 e size v n xs) (hB : ∀ g, v.ownBlock = some g → B ≤ g) : w.ownsRow B e size v n xs := by
  refine ⟨h.1, ?_⟩
  rcases h.2 with h0 | ⟨g, cap, cur, hv, _, r⟩
  · exact .inl h0
  · exact .inr ⟨g, cap, cur, hv, hB g (by rw [hv]; rfl), r⟩
/-- One more element at the end of a row that the call owns: what is asked of the append, and what comes of it. -/
theorem ORow.app {α : Type} {e : Elem α} {ts : List TypeId} (he : ∀ {w vs x bl}, e.E w vs x bl → Tys ts w bl) (hts : e.T ∉ ts) {B : Nat} {w : World} {v : Value} {xs : List α} {bl : List Nat} (h : ORow e w v xs bl) (hF : Fsh B bl)
    {vs : List Value} {x : α} {ib : List Nat} (hE : e.E w vs x ib) (hFi : Fsh B ib) (hap : ∀ b ∈ ib, b ∉ bl) :
    ∃ cs, w.ownsRow B e.T e.wd v xs.length cs ∧ ∀ v' w', w'.ownsRow B e.T e.wd v' (xs.length + 1) (cs ++ vs) → w.grownBy w' v.ownBlock → ∃ bl', ORow e w' v' (xs ++ [x]) bl' ∧ Fsh B bl' ∧ ∀ b ∈ bl', b ∈ bl ∨ b ∈ ib ∨ v'.ownBlock = some b := by
  have hlt := h.lt
  have hlti := e.lt hE
  obtain ⟨ps, hl, hE0, ho, rfl⟩ := h
  refine ⟨ps.flatMap (·.1), own_base ho fun g hg => hF.2 g (by simp [hg]), fun v' w' ho' hg => ?_⟩
  have hd := hF.1
  rw [List.nodup_append] at hd
  have hk : Kp (ps.flatMap (·.2)) w w' := fun b hb => hg.block b (hlt b (List.mem_append.2 (.inr hb))) fun e1 => hd.2.2 b (by simp [← e1]) b hb rfl
  have hki : Kp ib w w' := fun b hb => hg.block b (hlti b hb) fun e1 => hap b hb (List.mem_append.2 (.inl (by simp [← e1])))
  have hE' := e.keep hE hki
  have hT : Tys ts w' (ps.flatMap (·.2) ++ ib) := by
    refine Tys.app (Tys.keep (fun b hb => ?_) hk) (he hE')
    obtain ⟨p, hp, hb⟩ := List.mem_flatMap.1 hb
    obtain ⟨j, hj, rfl⟩ := List.mem_iff_getElem.1 hp
    exact he (hE0 j ps[j] (xs[j]'(by omega)) (List.getElem?_eq_getElem hj) (List.getElem?_eq_getElem (by omega))) b hb
  refine ⟨v'.ownBlock.toList ++ (ps.flatMap (·.2) ++ ib), ⟨ps ++ [(vs, ib)], by simp [hl], ?_, ?_, by simp⟩, ⟨?_, ?_⟩, ?_⟩
  · intro j p y hp hy
    by_cases hj : j < xs.length
    · rw [List.getElem?_append_left (by omega)] at hp hy
      exact e.keep (hE0 j p y hp hy) fun b hb => hk b (List.mem_flatMap.2 ⟨p, List.mem_of_getElem? hp, hb⟩)
    · have hy' := (List.getElem?_eq_some_iff.1 hy).1
      rw [List.length_append, List.length_singleton] at hy'
      have : j = xs.length := by omega
      subst this
      rw [← hl] at hp
      simp at hp hy
      subst hp; subst hy; exact hE'
  · rw [List.flatMap_append, List.length_append]
    have := own_mono ho' (Nat.zero_le B)
    simpa using this
  · rw [List.nodup_append]
    refine ⟨by cases v'.ownBlock <;> simp, ?_, ?_⟩
    · rw [List.nodup_append]
      exact ⟨hd.2.1, hFi.1, fun a ha b hb e1 => hap b hb (List.mem_append.2 (.inr (e1 ▸ ha)))⟩
    · intro a ha b hb e1
      subst e1
      obtain ⟨cur, t, h1, h2⟩ := own_ty ho' a ha
      obtain ⟨cur', t', h1', h2'⟩ := hT a hb
      rw [h1] at h1'
      simp at h1' h2
      exact hts (h2 ▸ h1'.2 ▸ h2')
  · intro b hb
    rcases List.mem_append.1 hb with hb | hb
    · exact (ho'.lt b (by simpa using hb)).1
    · rcases List.mem_append.1 hb with hb | hb
      · exact hF.2 b (List.mem_append.2 (.inr hb))
      · exact hFi.2 b hb
  · intro b hb
    rcases List.mem_append.1 hb with hb | hb
    · exact .inr (.inr (by simpa using hb))
    · rcases List.mem_append.1 hb with hb | hb
      · exact .inl (List.mem_append.2 (.inr hb))
      · exact .inr (.inl hb)
theorem OStr.cells {w : World} {v : Value} {ss : List ByteArray} {bl : List Nat} (h : OStr w v ss bl) : (v = .slice none 0 0 ∧ ss = []) ∨ ∃ g cap, v = .slice (some ⟨g, 0, none⟩) ss.length cap ∧ ∀ (j : Nat) (u : Value), (ss.map Value.string)[j]? = some u → w.cell? ((⟨g, 0, none⟩ : Addr).add j) = some u := by
  obtain ⟨ho, _⟩ := ostr_iff.1 h
  rcases ho.2 with ⟨hv, h0⟩ | ⟨g, cap, cur, hv, _⟩
  · exact .inl ⟨hv, List.eq_nil_of_length_eq_zero h0⟩
  · exact .inr ⟨g, cap, hv, fun j u hu => ho.cells (by rw [hv]; rfl) j u hu⟩
theorem ORow.head {α : Type} {e : Elem α} {w : World} {v : Value} {xs : List α} {bl : List Nat} (h : ORow e w v xs bl) {g : Nat} (hg : v.ownBlock = some g) : g ∈ bl := by
  obtain ⟨cb, h⟩ := h.split
  rw [h, hg]; simp
theorem str_one (ss : List ByteArray) : ∀ u ∈ ss.map Value.string, u.oneCell' = true := by
  intro u hu; obtain ⟨s, _, rfl⟩ := List.mem_map.1 hu; rfl

theorem wpList_append_str {w : World} {ops : Array Oper} {rest : List Oper} {o : Oper} {a : Act} {Q : Exit → Act → World → Prop} (hg : o.guard = none) (s x : Operand)
    (ho : o.op = .call { callee := .builtin .append, args := #[s, x], argTypes := #[49, 49] }) {B : Nat} {v u : Value} {ss us : List ByteArray} {bk : List Nat} (hs : a.eval s = v) (hx : a.eval x = u)
    (h : w.ownsRow B 9 1 v ss.length (ss.map .string)) (k : OStr w u us bk) (hB : B ≤ w.heap.size) (hl : ss.length + us.length ≤ 4000000)
    (hK : ∀ v' w', w'.ownsRow B 9 1 v' (ss ++ us).length ((ss ++ us).map .string) → w.grownBy w' v.ownBlock → wpList Tryd.prog ops Q rest (a.put o.dst v') w') : wpList Tryd.prog ops Q (o :: rest) a w := by
  obtain ⟨i0, hi, hz0, hz1, hz2⟩ := info_parts infoStr
  rcases k.cells with ⟨rfl, rfl⟩ | ⟨g, cap, rfl, hcell⟩
  · refine wpList_append_own_none hg s x 49 ho B 9 i0 1 Tryd.underlying49 hi v _ _ hs h hx ?_
    exact hK v w (by rw [List.append_nil]; exact h) (World.grownBy.refl _ _)
  · refine wpList_append_own _ hg s x 49 ho B 9 i0 (.string ByteArray.empty) 1 16 Tryd.underlying49 hi hz0 hz1 hz2 rfl (by decide) v _ _ hs h ⟨g, 0, none⟩ us.length cap (us.map .string) hx (by simp) hcell (str_one us) (by unfold maxLen; omega) (by omega) hB ?_
    intro v' w' h1 h2 _
    refine hK v' w' ?_ h2
    rw [List.length_append, List.map_append]; exact h1
theorem wpList_append_elem {α : Type} {e : Elem α} {ts : List TypeId} (he : ∀ {w vs x bl}, e.E w vs x bl → Tys ts w bl) (hts : e.T ∉ ts) {t : TypeId} (ht : Tryd.prog.underlying t = some (.slice e.T)) {z : Value} {bytes : Nat}
    (hinfo : (Tryd.prog.info? e.T).map (fun i => (i.zero, i.size, i.bytes)) = some (some z, e.wd, bytes)) (hzs : z.cells.size = e.wd) (hsz : 0 < e.wd) (hby : bytes ≤ 100)
    {w : World} {ops : Array Oper} {rest : List Oper} {o : Oper} {a : Act} {Q : Exit → Act → World → Prop} (hg : o.guard = none) (s x : Operand)
    (ho : o.op = .call { callee := .builtin .append, args := #[s, x], argTypes := #[t, t] }) {B : Nat} {v : Value} {xs : List α} {bl : List Nat} (hs : a.eval s = v)
    (h : ORow e w v xs bl) (hF : Fsh B bl) {vs : List Value} {y : α} {ib : List Nat} (hE : e.E w vs y ib) (hFi : Fsh B ib) (hap : ∀ b ∈ ib, b ∉ bl) {g : Nat} (hx : a.eval x = .slice (some ⟨g, 0, none⟩) 1 1)
    (hcell : ∀ (j : Nat) (u : Value), vs[j]? = some u → w.cell? ((⟨g, 0, none⟩ : Addr).add j) = some u) (h1 : ∀ u ∈ vs, u.oneCell' = true) (hB : B ≤ w.heap.size) (hl : xs.length ≤ 40000000)
    (hK : ∀ v' w' bl', ORow e w' v' (xs ++ [y]) bl' → Fsh B bl' → (∀ b ∈ bl', b ∈ bl ∨ b ∈ ib ∨ v'.ownBlock = some b) → w.grownBy w' v.ownBlock → wpList Tryd.prog ops Q rest (a.put o.dst v') w') : wpList Tryd.prog ops Q (o :: rest) a w := by
  obtain ⟨i0, hi, hz0, hz1, hz2⟩ := info_parts hinfo
  obtain ⟨cs, hown, hfin⟩ := h.app he hts hF hE hFi hap
  refine wpList_append_own _ hg s x t ho B e.T i0 z e.wd bytes ht hi hz0 hz1 hz2 hzs hsz v _ cs hs hown ⟨g, 0, none⟩ 1 1 vs hx (by rw [e.len hE]; omega) hcell h1 (by unfold maxLen; omega) ?_ hB ?_
  · have : (xs.length + 1) * bytes ≤ (xs.length + 1) * 100 := Nat.mul_le_mul_left _ hby
    omega
  · intro v' w' h1 h2 _
    obtain ⟨bl', h3, h4, h5⟩ := hfin v' w' h1 h2
    exact hK v' w' bl' h3 h4 h5 h2
theorem step_append_elem {α : Type} {e : Elem α} {ts : List TypeId} (he : ∀ {w vs x bl}, e.E w vs x bl → Tys ts w bl) (hts : e.T ∉ ts) {t : TypeId} (ht : Tryd.prog.underlying t = some (.slice e.T)) {z : Value} {bytes : Nat}
    (hinfo : (Tryd.prog.info? e.T).map (fun i => (i.zero, i.size, i.bytes)) = some (some z, e.wd, bytes)) (hzs : z.cells.size = e.wd) (hsz : 0 < e.wd) (hby : bytes ≤ 100)
    {w : World} {ops : Array Oper} {o : Oper} {a : Act} {K : Act → World → Prop} {Q : Exit → Act → World → Prop} {F : Prop} (hg : o.guard = none) (s x : Operand)
    (ho : o.op = .call { callee := .builtin .append, args := #[s, x], argTypes := #[t, t] }) {B : Nat} {v : Value} {xs : List α} {bl : List Nat} (hs : a.eval s = v)
    (h : ORow e w v xs bl) (hF : Fsh B bl) {vs : List Value} {y : α} {ib : List Nat} (hE : e.E w vs y ib) (hFi : Fsh B ib) (hap : ∀ b ∈ ib, b ∉ bl) {g : Nat} (hx : a.eval x = .slice (some ⟨g, 0, none⟩) 1 1)
    (hcell : ∀ (j : Nat) (u : Value), vs[j]? = some u → w.cell? ((⟨g, 0, none⟩ : Addr).add j) = some u) (h1 : ∀ u ∈ vs, u.oneCell' = true) (hB : B ≤ w.heap.size) (hl : xs.length ≤ 40000000)
    (hK : ∀ v' w' bl', ORow e w' v' (xs ++ [y]) bl' → Fsh B bl' → (∀ b ∈ bl', b ∈ bl ∨ b ∈ ib ∨ v'.ownBlock = some b) → w.grownBy w' v.ownBlock → K (a.put o.dst v') w') :
    if Region.wanted o (yielded ops a.tmps) = true then Oper.wp Tryd.prog o a w K Q else F := by
  have hw : Region.wanted o (yielded ops a.tmps) = true := by simp [Region.wanted, hg]
  rw [if_pos hw]
  obtain ⟨i0, hi, hz0, hz1, hz2⟩ := info_parts hinfo
  obtain ⟨cs, hown, hfin⟩ := h.app he hts hF hE hFi hap
  refine wp_append_own w s x t ho B e.T i0 z e.wd bytes ht hi hz0 hz1 hz2 hzs hsz v _ cs hs hown ⟨g, 0, none⟩ 1 1 vs hx (by rw [e.len hE]; omega) hcell h1 (by unfold maxLen; omega) ?_ hB ?_
  · have : (xs.length + 1) * bytes ≤ (xs.length + 1) * 100 := Nat.mul_le_mul_left _ hby
    omega
  · intro v' w' h1 h2 _
    obtain ⟨bl', h3, h4, h5⟩ := hfin v' w' h1 h2
    exact hK v' w' bl' h3 h4 h5 h2
theorem lit_cells (w : World) (vs : List Value) (T : TypeId) : ∀ (j : Nat) (u : Value), vs[j]? = some u → (w.alloc (.cells vs.toArray T)).cell? ((⟨w.heap.size, 0, none⟩ : Addr).add j) = some u := by
  intro j u hu
  have h := Lib.cell_of_heap (heap_alloc_new w (.cells vs.toArray T)) j
  rw [Go.WideShapes.add_plain, Nat.zero_add, h]
  simpa using hu
theorem ostr_own {w : World} {v : Value} {ss : List ByteArray} {B : Nat} (h : w.ownsRow B 9 1 v ss.length (ss.map .string)) : OStr w v ss v.ownBlock.toList ∧ Fsh B v.ownBlock.toList :=
  ⟨ostr_iff.2 ⟨own_mono h (Nat.zero_le _), rfl⟩, by cases v.ownBlock <;> simp, fun b hb => (h.lt b (by simpa using hb)).1⟩
theorem empty_row (w : World) (e size : Nat) : (w.alloc (.cells #[] e)).ownsRow w.heap.size e size (.slice (some ⟨w.heap.size, 0, none⟩) 0 0) 0 [] := by
  exact w.ownsRow_made #[] 0 (Nat.le_refl _) (Nat.zero_le _) (by simp)
set_option maxHeartbeats 400000 in
theorem l5Texts_walk (v : Value) (ss : List ByteArray) (bl : List Nat) (w : World) (h : OStr w v ss bl) (hm : ss.length ≤ 1048577) :
    Calls Tryd.prog 62 #[v] w fun e w' => ∃ v' bl', e = .returned v' ∧ OStr w' v' ss bl' ∧ Fsh w.heap.size bl' ∧ Below w.heap.size w w' := by
  have H := hide h
  clear h
  have he := empty_row w 9 1
  go_enter Tryd.func62, Tryd.ntmps62
  go_wp2_with (at_builtin; refine wpList_append_str rfl (.tmp 5) (.tmp 6) rfl (ss := []) rfl rfl he ((unhide H).below (alloc_b w _)) (by simp) (by simp; omega) ?_)
  intro v' w' ho hg
  have HB := hide (((alloc_b w (.cells #[] 9)).grown hg (by simp) (fun k hk => by injection hk with hk; simp at hk; omega)))
  have HO := hide ho
  clear ho hg he
  go_wp2
  go_ret
  exact ⟨_, _, rfl, (ostr_own (unhide HO)).1, (ostr_own (unhide HO)).2, unhide HB⟩
end Go.Proofs.YtbcfkkicmmhhcaaDoor

namespace Go.Proofs.YtbcfkkicmmhhcaaDoor
open Go.RowKit

set_option maxHeartbeats 800000 in
theorem l5Msg_walk (a0 a1 a2 : Value) (m : Msg) (ib : List Nat) (w : World) (h : msgE.E w [a0, a1, a2] m ib) (hs : szMsg m ≤ 1048577) :
    Calls Tryd.prog 94 #[.agg #[a0, a1, a2]] w fun e w' => ∃ b0 b1 b2 jb, e = .returned (.agg #[b0, b1, b2]) ∧ msgE.E w' [b0, b1, b2] m jb ∧ Fsh (w.heap.size + 1) jb ∧ Below w.heap.size w w' := by
  obtain ⟨q, hq, h1⟩ := h
  injection hq with e0 hq; injection hq with e1 hq; injection hq with e2 hq
  subst e0; subst e1; subst e2
  have hl : m.ptrs.length ≤ 1048577 := by unfold szMsg szStr at hs; omega
  clear hs hq
  have H1 := hide h1
  clear h1
  go_enter Tryd.func94, Tryd.ntmps94
  go_wp2_with fail
  have hA := new2 w (Obj.cells #[Value.int IntKind.i64 m.ver, a1, Value.bool m.over] 115) (Obj.cells #[Value.int IntKind.i64 0, Value.slice none 0 0, Value.bool false] 115)
  generalize ((w.alloc (Obj.cells #[Value.int IntKind.i64 m.ver, a1, Value.bool m.over] 115)).alloc (Obj.cells #[Value.int IntKind.i64 0, Value.slice none 0 0, Value.bool false] 115)) = wA at *
  refine (l5Texts_walk a1 m.ptrs ib wA ((unhide H1).below hA.bel) hl).mono ?_
  rintro e w1 ⟨v', bl, rfl, ho, hf, b1⟩
  obtain ⟨xa, xc, rfl, _, _⟩ := ho.form
  have hsz := hA.size
  have k0 := (b1.block w.heap.size (by omega)).trans hA.k0
  have k1 := (b1.block (w.heap.size + 1) (by omega)).trans hA.k1
  have c00 : w1.cell? ⟨w.heap.size, 0, none⟩ = some (.int .i64 m.ver) := Lib.cell_of_heap k0 0
  have c01 : w1.cell? ⟨w.heap.size, 1, none⟩ = some a1 := Lib.cell_of_heap k0 1
  have c02 : w1.cell? ⟨w.heap.size, 2, none⟩ = some (.bool m.over) := Lib.cell_of_heap k0 2
  have c10 : w1.cell? ⟨w.heap.size + 1, 0, none⟩ = some (.int .i64 0) := Lib.cell_of_heap k1 0
  have c11 : w1.cell? ⟨w.heap.size + 1, 1, none⟩ = some (.slice none 0 0) := Lib.cell_of_heap k1 1
  have c12 : w1.cell? ⟨w.heap.size + 1, 2, none⟩ = some (.bool false) := Lib.cell_of_heap k1 2
  have f0 := Lib.frozen_of_heap k0
  have f1 := Lib.frozen_of_heap k1
  have HB := hide (below_next hA.bel b1)
  have HO := hide ho
  have HF := hide hf
  have HK := hide k1
  clear b1 ho hf hA H1 k0 k1
  go_wp2
  refine bodyPost_ret (results_cell_row rfl _ _ (w.heap.size + 1) 115 #[_, _, _] (0, 0) _ rfl (putN_full (w := putN w1 w.heap.size 1 [_]) ((putN_other (by omega) _ _).trans (unhide HK)) [_, _, _] rfl) Tryd.underlying115 rfl (by kernel_rfl)) rfl ?_
  have n1 := (unhide HF).not (g := w.heap.size) (by omega)
  have n2 := (unhide HF).not (g := w.heap.size + 1) (by omega)
  refine ⟨_, _, _, bl, rfl, ⟨_, rfl, ((unhide HO).putN n1 [_] 1).putN n2 [_, _, _] 0⟩, (unhide HF).mono (by omega), ?_⟩
  exact putN_below (g := w.heap.size + 1) (putN_below (g := w.heap.size) (unhide HB) (by omega) [_] 1) (by omega) [_, _, _] 0

set_option maxHeartbeats 800000 in
theorem l5Wat_walk (a0 a1 a2 a3 a4 a5 : Value) (m : Wat) (d : Nat) (ib : List Nat) (w : World) (h : watE.E w [a0, a1, a2, a3, a4, a5] m ib) (hs : szWat m ≤ 1048577) (hd : d ≤ 1) :
    Calls Tryd.prog 61 #[.agg #[a0, a1, a2, a3, a4, a5], .int .i64 d] w fun e w' => ∃ b0 b1 b2 b3 b4 b5 jb, e = .returned (.agg #[b0, b1, b2, b3, b4, b5]) ∧ watE.E w' [b0, b1, b2, b3, b4, b5] ⟨m.client, m.ptr, m.cap, m.since, m.closed, m.queue.drop d⟩ jb ∧ Fsh (w.heap.size + 1) jb ∧ Below w.heap.size w w' := by
  obtain ⟨q, hq, h1⟩ := h
  injection hq with e0 hq; injection hq with e1 hq; injection hq with e2 hq; injection hq with e3 hq; injection hq with e4 hq; injection hq with e5 hq
  subst e0; subst e1; subst e2; subst e3; subst e4; subst e5
  have hl : szMsgs m.queue ≤ 1048577 := by unfold szWat at hs; omega
  clear hs hq
  obtain ⟨xa, xc, rfl, hfm, hsh⟩ := h1.form
  have H1 := hide h1
  clear h1 hfm
  have hqn : m.queue.length ≤ 1048577 := by unfold szMsgs at hl; omega
  have hsz : ∀ k (hk : k < m.queue.length), szMsg m.queue[k] ≤ 1048577 := fun k hk => by
    have h1 := sum_take_snoc szMsg m.queue k m.queue[k] (List.getElem?_eq_getElem hk)
    have h2 := sum_take_le (m.queue.map szMsg) (k + 1)
    rw [← List.map_take] at h2
    unfold szMsgs at hl; omega
  have HZ := hide hsz
  have HSH := hide hsh
  clear hsz hsh hl
  go_enter Tryd.func61, Tryd.ntmps61
  go_wp2
  have hA := new3 w (Obj.cells #[Value.int IntKind.i64 m.client, Value.string m.ptr, Value.int IntKind.i64 m.cap, Value.int IntKind.i64 m.since, Value.bool m.closed, Value.slice xa m.queue.length xc] 72) (Obj.cells #[Value.int IntKind.i64 0, Value.string ⟨#[]⟩, Value.int IntKind.i64 0, Value.int IntKind.i64 0, Value.bool false, Value.slice none 0 0] 72) (Obj.cells #[] 115)
  generalize (((w.alloc (Obj.cells #[Value.int IntKind.i64 m.client, Value.string m.ptr, Value.int IntKind.i64 m.cap, Value.int IntKind.i64 m.since, Value.bool m.closed, Value.slice xa m.queue.length xc] 72)).alloc (Obj.cells #[Value.int IntKind.i64 0, Value.string ⟨#[]⟩, Value.int IntKind.i64 0, Value.int IntKind.i64 0, Value.bool false, Value.slice none 0 0] 72)).alloc (Obj.cells #[] 115)) = wA at *
  have hasz := hA.size
  have HA := hide hA
  clear hA
  go_loopw [5, 6] (fun qv i wr => ∃ k : Nat, d ≤ k ∧ k ≤ max d m.queue.length ∧ i = .int .i64 (k : Int) ∧ Below (w.heap.size + 1 + 1) wA wr ∧ ∃ bl, ORow msgE wr qv ((m.queue.drop d).take (k - d)) bl ∧ Fsh (w.heap.size + 1 + 1) bl) (fun _ i _ => m.queue.length - (intOf i).toNat)
  case atStart =>
    refine ⟨d, Nat.le_refl _, by omega, rfl, Below.refl _ _, [w.heap.size + 1 + 1], ?_, by simp, fun b hb => by simp at hb; omega⟩
    rw [Nat.sub_self]
    refine ⟨[], rfl, fun _ _ _ h => by simp at h, ?_, rfl⟩
    exact ⟨by simp, .inr ⟨w.heap.size + 1 + 1, 0, #[], rfl, Nat.zero_le _, (unhide HA).k2, Nat.zero_le _, Nat.zero_le _, by simp, by simp⟩⟩
  case round =>
    obtain ⟨k, hdk, hk, rfl, hb, bl, ho, hF⟩ := hrel
    have hbw : Below w.heap.size w wr := (unhide HA).bel.trans (hb.mono (by omega))
    have hbs := hb.size
    have k0 := (hb.block w.heap.size (by omega)).trans (unhide HA).k0
    have k1 := (hb.block (w.heap.size + 1) (by omega)).trans (unhide HA).k1
    have c05 : wr.cell? ⟨w.heap.size, 5, none⟩ = some (.slice xa m.queue.length xc) := Lib.cell_of_heap k0 5
    by_cases hlt : k < m.queue.length
    · obtain ⟨g, rfl⟩ := unhide HSH (by omega)
      obtain ⟨vs, jb, hE, hc, hx1, hx2, hx3⟩ := ((unhide H1).below hbw).at (List.getElem?_eq_getElem hlt)
      obtain ⟨a0, a1, a2, rfl⟩ := list3 (msgE.len hE)
      have c0 : wr.cell? ⟨g, k * 3, none⟩ = _ := (hc 0 _ rfl).1
      have c1 : wr.cell? ⟨g, k * 3 + 1, none⟩ = _ := (hc 1 _ rfl).1
      have c2 : wr.cell? ⟨g, k * 3 + 2, none⟩ = _ := (hc 2 _ rfl).1
      have HM := hide (l5Msg_walk a0 a1 a2 m.queue[k] jb wr hE (unhide HZ k hlt))
      have hll : ((m.queue.drop d).take (k - d)).length = k - d := by rw [List.length_take, List.length_drop]; omega
      have hnx : (m.queue.drop d).take (k + 1 - d) = (m.queue.drop d).take (k - d) ++ [m.queue[k]] := by
        rw [show k + 1 - d = k - d + 1 from by omega, List.take_add_one, List.getElem?_drop, show d + (k - d) = k from by omega, List.getElem?_eq_getElem hlt]; rfl
      have HO := hide ho
      have HF := hide hF
      have HB := hide hb
      have HLL := hide hll
      have HNX := hide hnx
      clear hx1 hx2 hx3 hc hE ho hF hb hbw k0 k1 hll hnx
      go_wp2_with fail
      refine (unhide HM).mono ?_
      rintro e w2 ⟨b0, b1, b2, ib, rfl, hE, hFi, b2'⟩
      have hsz2 := b2'.size
      have hE0 := hE
      obtain ⟨q0, hbs0, hE2⟩ := hE0
      injection hbs0 with e0 hbs0; injection hbs0 with e1 hbs0; injection hbs0 with e2 hbs0
      subst e0; subst e1; subst e2
      obtain ⟨ya, yc, rfl, hy1, hy2⟩ := hE2.form
      have o2 := (unhide HO).below b2'
      have hap : ∀ b ∈ ib, b ∉ bl := fun b hb hbl => by have := hFi.2 b hb; have := (unhide HO).lt b hbl; omega
      have hFi' := hFi.mono (B' := w.heap.size + 1 + 1) (by omega)
      have hab : Below w2.heap.size w2 (w2.alloc (.cells #[.int .i64 m.queue[k].ver, .slice ya m.queue[k].ptrs.length yc, .bool m.queue[k].over] 115)) := alloc_b _ _
      have O3 := hide (o2.below hab)
      have E3 := hide (msgE.keep hE (.of_below hab (msgE.lt hE)))
      have HFI := hide hFi'
      have HAP := hide hap
      have HB2 := hide ((unhide HB).trans ((b2'.mono (by omega)).trans (hab.mono (by omega))))
      clear hE hFi b2' hE2 hy1 hy2 o2 hap hFi' hab HO HM HB hbs0
      go_wp2_with (at_builtin; refine wpList_append_elem (e := msgE) msg_ty (by decide) Tryd.underlying70 infoMsg rfl (by decide) (by decide) rfl (.tmp 16) (.tmp 23) rfl rfl (unhide O3) (unhide HF) (unhide E3) (unhide HFI) (unhide HAP) rfl ?_ ?_ ?_ ?_ ?_)
      · exact lit_cells w2 [_, _, _] _
      · intro u hu
        simp at hu
        rcases hu with rfl | rfl | rfl <;> rfl
      · simp; omega
      · rw [unhide HLL]; omega
      intro v' w3 bl' o4 f4 _ hg
      rw [← unhide HNX] at o4
      have HB3 := hide ((unhide HB2).grown hg (by simp; omega) (fun j hj => (unhide HF).2 j ((unhide O3).head hj)))
      have HO4 := hide o4
      have HF4 := hide f4
      clear o4 f4 hg HB2 HF O3 E3 HFI HAP c0 c1 c2 c05
      go_wp2
      go_roundw
      case rel => exact ⟨k + 1, by omega, by omega, by go_num, unhide HB3, bl', unhide HO4, unhide HF4⟩
      case measure => simp [intOf]; omega
    · have hkl : (m.queue.drop d).take (k - d) = m.queue.drop d := List.take_of_length_le (by rw [List.length_drop]; omega)
      rw [hkl] at ho
      obtain ⟨ya, yc, rfl, hy1, hy2⟩ := ho.form
      rw [List.length_drop] at ho
      have c00 : wr.cell? ⟨w.heap.size, 0, none⟩ = some (.int .i64 m.client) := Lib.cell_of_heap k0 0
      have c01 : wr.cell? ⟨w.heap.size, 1, none⟩ = some (.string m.ptr) := Lib.cell_of_heap k0 1
      have c02 : wr.cell? ⟨w.heap.size, 2, none⟩ = some (.int .i64 m.cap) := Lib.cell_of_heap k0 2
      have c03 : wr.cell? ⟨w.heap.size, 3, none⟩ = some (.int .i64 m.since) := Lib.cell_of_heap k0 3
      have c04 : wr.cell? ⟨w.heap.size, 4, none⟩ = some (.bool m.closed) := Lib.cell_of_heap k0 4
      have c10 : wr.cell? ⟨w.heap.size + 1, 0, none⟩ = some (.int .i64 0) := Lib.cell_of_heap k1 0
      have c11 : wr.cell? ⟨w.heap.size + 1, 1, none⟩ = some (.string ⟨#[]⟩) := Lib.cell_of_heap k1 1
      have c12 : wr.cell? ⟨w.heap.size + 1, 2, none⟩ = some (.int .i64 0) := Lib.cell_of_heap k1 2
      have c13 : wr.cell? ⟨w.heap.size + 1, 3, none⟩ = some (.int .i64 0) := Lib.cell_of_heap k1 3
      have c14 : wr.cell? ⟨w.heap.size + 1, 4, none⟩ = some (.bool false) := Lib.cell_of_heap k1 4
      have c15 : wr.cell? ⟨w.heap.size + 1, 5, none⟩ = some (.slice none 0 0) := Lib.cell_of_heap k1 5
      have f0 := Lib.frozen_of_heap k0
      have f1 := Lib.frozen_of_heap k1
      have HB := hide hbw
      have HO := hide ho
      have HF := hide hF
      have HK := hide k1
      clear hb hbw ho hF k0 k1 hy1 hy2 hkl
      go_wp2
      refine bodyPost_ret (results_cell_row rfl _ _ (w.heap.size + 1) 72 #[_, _, _, _, _, _] (0, 0) _ rfl (putN_full (w := putN wr w.heap.size 5 [_]) ((putN_other (by omega) _ _).trans (unhide HK)) [_, _, _, _, _, _] rfl) Tryd.underlying72 rfl (by kernel_rfl)) rfl ?_
      have n1 := (unhide HF).not (g := w.heap.size) (by omega)
      have n2 := (unhide HF).not (g := w.heap.size + 1) (by omega)
      refine ⟨_, _, _, _, _, _, bl, rfl, ⟨_, rfl, ((unhide HO).putN n1 [_] 5).putN n2 [_, _, _, _, _, _] 0⟩, (unhide HF).mono (by omega), ?_⟩
      exact putN_below (g := w.heap.size + 1) (putN_below (g := w.heap.size) (unhide HB) (by omega) [_] 5) (by omega) [_, _, _, _, _, _] 0
end Go.Proofs.YtbcfkkicmmhhcaaDoor

namespace Go.Proofs.YtbcfkkicmmhhcaaDoor
open Go.RowKit

/-- The place of a client's first watch, -1 when there is none. -/
def findI (ws : List Wat) (c : Int) : Int := match ws.findIdx? (fun x => x.client == c) with
  | some i => (i : Int)
  | none => -1
theorem findI_at {ws : List Wat} {c : Int} {j : Nat} (hj : j < ws.length) (hc : ws[j].client = c) (hb : ∀ i (h : i < ws.length), i < j → ws[i].client ≠ c) : findI ws c = (j : Int) := by
  have : ws.findIdx? (fun x => x.client == c) = some j := by
    rw [List.findIdx?_eq_some_iff_getElem]
    exact ⟨hj, by simp [hc], fun i hi => by simpa using hb i (by omega) hi⟩
  unfold findI; rw [this]
theorem findI_no {ws : List Wat} {c : Int} (hb : ∀ i (h : i < ws.length), ws[i].client ≠ c) : findI ws c = -1 := by
  have : ws.findIdx? (fun x => x.client == c) = none := by
    rw [List.findIdx?_eq_none_iff]
    intro x hx
    obtain ⟨i, hi, rfl⟩ := List.mem_iff_getElem.1 hx
    simpa using hb i hi
  unfold findI; rw [this]
theorem findI_cases (ws : List Wat) (c : Int) : findI ws c = -1 ∨ ∃ j : Nat, ∃ h : j < ws.length, findI ws c = (j : Int) ∧ ws[j].client = c := by
  unfold findI
  cases h : ws.findIdx? (fun x => x.client == c) with
  | none => exact .inl rfl
  | some j =>
    rw [List.findIdx?_eq_some_iff_getElem] at h
    obtain ⟨hj, hc, _⟩ := h
    exact .inr ⟨j, hj, rfl, by simpa using hc⟩

set_option maxHeartbeats 800000 in
theorem l5Find_walk (v : Value) (h : Hb) (client : Int) (bl : List Nat) (w : World) (ho : OHub w v h bl) :
    Calls Tryd.prog 36 #[v, .int .i64 client] w fun e w' => e = .returned (.int .i64 (findI h.watches client)) ∧ Below w.heap.size w w' := by
  obtain ⟨p, q, b1, b2, rfl, o1, o2, rfl⟩ := ho
  have hm := o1.len
  unfold maxLen at hm
  obtain ⟨xa, xc, rfl, hfm, hsh⟩ := o1.form
  have O1 := hide o1
  have HSH := hide hsh
  clear o1 o2 hfm hsh
  go_enter Tryd.func36, Tryd.ntmps36
  go_wp2
  have hA := alloc_b w (Obj.cells #[Value.slice xa h.watches.length xc, q] 39)
  have c0 : (w.alloc (Obj.cells #[Value.slice xa h.watches.length xc, q] 39)).cell? ⟨w.heap.size, 0, none⟩ = some (.slice xa h.watches.length xc) := Lib.cell_of_heap (heap_alloc_new w _) 0
  generalize (w.alloc (Obj.cells #[Value.slice xa h.watches.length xc, q] 39)) = wA at *
  have HA := hide hA
  have HO := hide ((unhide O1).below hA)
  clear hA O1
  go_loopw [5] (fun i wr => wA = wr ∧ ∃ k : Nat, k ≤ h.watches.length ∧ i = .int .i64 (k : Int) ∧ ∀ i (hi : i < h.watches.length), i < k → h.watches[i].client ≠ client) (fun i _ => h.watches.length - (intOf i).toNat)
  case atStart => exact ⟨rfl, 0, Nat.zero_le _, rfl, fun i hi h => by omega⟩
  case round =>
    obtain ⟨rfl, k, hk, rfl, hno⟩ := hrel
    have HN := hide hno
    clear hno
    by_cases hlt : k < h.watches.length
    · obtain ⟨g, rfl⟩ := unhide HSH (by omega)
      obtain ⟨vs, jb, hE, hc, hx1, hx2, hx3⟩ := (unhide HO).at (List.getElem?_eq_getElem hlt)
      obtain ⟨qq, rfl, hqq⟩ := hE
      have d0 : wA.cell? ⟨g, k * 6, none⟩ = _ := (hc 0 _ rfl).1
      clear hx1 hx2 hx3 hc hqq
      by_cases hcl : h.watches[k].client = client
      · have HR := hide (findI_at hlt hcl (unhide HN))
        have hcl' : (h.watches[k].client == client) = true := by simpa using hcl
        clear hcl
        go_wp2
        go_ret
        exact ⟨ret_int (unhide HR).symm, unhide HA⟩
      · have hcl' : (h.watches[k].client == client) = false := by simpa using hcl
        have HC := hide hcl
        clear hcl
        go_wp2
        go_roundw
        case rel =>
          refine ⟨trivial, k + 1, by omega, by go_num, fun i hi hik => ?_⟩
          by_cases e : i = k
          · subst e; exact unhide HC
          · exact unhide HN i hi (by omega)
        case measure => simp [intOf]; omega
    · have HR := hide (findI_no (ws := h.watches) (c := client) fun i hi => unhide HN i hi (by omega))
      go_wp2
      go_ret
      exact ⟨ret_int (unhide HR).symm, unhide HA⟩

/-- The watches up to place k but the one at place s. -/
def skipT (ws : List Wat) (s : Int) : Nat → List Wat
  | 0 => []
  | k + 1 => skipT ws s k ++ (if (k : Int) = s then [] else ws[k]?.toList)
theorem skipT_len (ws : List Wat) (s : Int) : ∀ k, (skipT ws s k).length ≤ k
  | 0 => Nat.le_refl _
  | k + 1 => by
    have h1 := skipT_len ws s k
    rw [skipT, List.length_append]
    have : (if (k : Int) = s then [] else ws[k]?.toList).length ≤ 1 := by
      split
      · simp
      · cases ws[k]? <;> simp
    omega
def copyH (h : Hb) (s : Int) (d : Nat) : Hb := ⟨skipT h.watches s h.watches.length, h.waiting.drop d⟩

/-- The state of l5Copy: the argument, the result, the copy under way. -/
structure CS (w : World) (A B : Obj) (wr : World) (p q : Value) (ws : List Wat) (ns : List Nws) (b1 b2 : List Nat) : Prop where
  bel : Below w.heap.size w wr
  k0 : wr.heap[w.heap.size]? = some A
  k1 : wr.heap[w.heap.size + 1]? = some B
  ko : wr.heap[w.heap.size + 1 + 1 + 1 + 1]? = some (.cells #[p, q] 39 (0, 0))
  o1 : ORow watE wr p ws b1
  o2 : ORow nwsE wr q ns b2
  fs : Fsh (w.heap.size + 1 + 1) (b1 ++ b2)
section
variable {w : World} {A B : Obj} {wr w3 : World} {p p' q q' : Value} {ws : List Wat} {ns : List Nws} {b1 b2 b1' b2' ib : List Nat}
theorem hub_not {w : World} {g : Nat} {cur : Array Value} {bl : List Nat} {ts : List TypeId} (hk : w.heap[g]? = some (.cells cur 39 (0, 0))) (ht : Tys ts w bl) (hn : 39 ∉ ts) : g ∉ bl := fun hm => by
  obtain ⟨cur', t, h1, h2⟩ := ht g hm
  rw [hk] at h1; injection h1 with h1; injection h1 with _ h1
  exact hn (h1 ▸ h2)
theorem wats_ty {w : World} {v : Value} {xs : List Wat} {bl : List Nat} (h : ORow watE w v xs bl) : Tys [72, 115, 9] w bl := orow_ty (e := watE) wat_ty h
theorem nwss_ty {w : World} {v : Value} {xs : List Nws} {bl : List Nat} (h : ORow nwsE w v xs bl) : Tys [85, 9] w bl := orow_ty (e := nwsE) nws_ty h
theorem CS.below (h : CS w A B wr p q ws ns b1 b2) (hb : Below wr.heap.size wr w3) : CS w A B w3 p q ws ns b1 b2 := by
  have hs := h.bel.size
  have hko := (Array.getElem?_eq_some_iff.1 h.ko).1
  exact ⟨below_next h.bel hb, (hb.block _ (by omega)).trans h.k0, (hb.block _ (by omega)).trans h.k1, (hb.block _ hko).trans h.ko, h.o1.below hb, h.o2.below hb, h.fs⟩
theorem CS.koW (h : CS w A B wr p q ws ns b1 b2) (hg : wr.grownBy w3 p.ownBlock) : w3.heap[w.heap.size + 1 + 1 + 1 + 1]? = some (.cells #[p, q] 39 (0, 0)) :=
  (hg.block _ (Array.getElem?_eq_some_iff.1 h.ko).1 fun e => hub_not h.ko (wats_ty h.o1) (by decide) (h.o1.head e.symm)).trans h.ko
theorem CS.koN (h : CS w A B wr p q ws ns b1 b2) (hg : wr.grownBy w3 q.ownBlock) : w3.heap[w.heap.size + 1 + 1 + 1 + 1]? = some (.cells #[p, q] 39 (0, 0)) :=
  (hg.block _ (Array.getElem?_eq_some_iff.1 h.ko).1 fun e => hub_not h.ko (nwss_ty h.o2) (by decide) (h.o2.head e.symm)).trans h.ko
theorem CS.watch (h : CS w A B wr p q ws ns b1 b2) (hg : wr.grownBy w3 p.ownBlock) {x : Wat} (ho : ORow watE w3 p' (ws ++ [x]) b1') (hF : Fsh (w.heap.size + 1 + 1) b1') (hm : ∀ b ∈ b1', b ∈ b1 ∨ b ∈ ib ∨ p'.ownBlock = some b) (hi : ∀ b ∈ ib, b ∉ b2) :
    CS w A B (w3.setCell ⟨w.heap.size + 1 + 1 + 1 + 1, 0, none⟩ p') p' q (ws ++ [x]) ns b1' b2 := by
  have hko := (Array.getElem?_eq_some_iff.1 h.ko).1
  have hfs := h.fs
  have hd := hfs.1
  rw [List.nodup_append] at hd
  have hown : ∀ g, p.ownBlock = some g → g ∈ b1 := fun g hg => h.o1.head hg
  have hge : ∀ g, p.ownBlock = some g → w.heap.size + 1 + 1 ≤ g := fun g hg => hfs.2 g (List.mem_append.2 (.inl (hown g hg)))
  have hn1 := hub_not h.ko (wats_ty h.o1) (by decide)
  have hn2 := hub_not h.ko (nwss_ty h.o2) (by decide)
  have ko3 : w3.heap[w.heap.size + 1 + 1 + 1 + 1]? = some (.cells #[p, q] 39 (0, 0)) := (hg.block _ hko fun e => hn1 (hown _ e.symm)).trans h.ko
  have hn3 := hub_not ko3 (wats_ty ho) (by decide)
  have q3 : ORow nwsE w3 q ns b2 := h.o2.keep fun b hb => hg.block b (h.o2.lt b hb) fun e => hd.2.2 b (hown b e.symm) b hb rfl
  have hs := h.bel.size
  refine ⟨(h.bel.grown hg hs fun k hk => by have := hge k hk; omega).setCell (p := ⟨w.heap.size + 1 + 1 + 1 + 1, 0, none⟩) (by simp; omega) _, ?_, ?_, ?_, ho.other hn3 0 p', q3.other hn2 0 p', ?_⟩
  · exact (Below.heap_setCell _ _ _ _ (by simp; omega)).trans ((hg.block _ (by omega) fun e => by have := hge _ e.symm; omega).trans h.k0)
  · exact (Below.heap_setCell _ _ _ _ (by simp)).trans ((hg.block _ (by omega) fun e => by have := hge _ e.symm; omega).trans h.k1)
  · exact heap_setCell_same _ _ 0 _ _ _ ko3
  · refine ⟨List.nodup_append.2 ⟨hF.1, hd.2.1, fun a ha b hb e => ?_⟩, fun b hb => ?_⟩
    · subst e
      rcases hm a ha with h1 | h1 | h1
      · exact hd.2.2 a h1 a hb rfl
      · exact hi a h1 hb
      · obtain ⟨cs, hcs⟩ := ho.own
        obtain ⟨cur, t, e1, e2⟩ := own_ty hcs a (by simp [h1])
        obtain ⟨cur', t', e3, e4⟩ := nwss_ty q3 a hb
        rw [e1] at e3
        injection e3 with e3; injection e3 with _ e3
        simp at e2
        rw [← e3, e2] at e4
        exact absurd e4 (by decide)
    · rcases List.mem_append.1 hb with hb | hb
      · exact hF.2 b hb
      · exact hfs.2 b (List.mem_append.2 (.inr hb))
theorem CS.news (h : CS w A B wr p q ws ns b1 b2) (hg : wr.grownBy w3 q.ownBlock) {x : Nws} (ho : ORow nwsE w3 q' (ns ++ [x]) b2') (hF : Fsh (w.heap.size + 1 + 1) b2') (hm : ∀ b ∈ b2', b ∈ b2 ∨ b ∈ ib ∨ q'.ownBlock = some b) (hi : ∀ b ∈ ib, b ∉ b1) :
    CS w A B (w3.setCell ⟨w.heap.size + 1 + 1 + 1 + 1, 1, none⟩ q') p q' ws (ns ++ [x]) b1 b2' := by
  have hko := (Array.getElem?_eq_some_iff.1 h.ko).1
  have hfs := h.fs
  have hd := hfs.1
  rw [List.nodup_append] at hd
  have hown : ∀ g, q.ownBlock = some g → g ∈ b2 := fun g hg => h.o2.head hg
  have hge : ∀ g, q.ownBlock = some g → w.heap.size + 1 + 1 ≤ g := fun g hg => hfs.2 g (List.mem_append.2 (.inr (hown g hg)))
  have hn1 := hub_not h.ko (wats_ty h.o1) (by decide)
  have hn2 := hub_not h.ko (nwss_ty h.o2) (by decide)
  have ko3 : w3.heap[w.heap.size + 1 + 1 + 1 + 1]? = some (.cells #[p, q] 39 (0, 0)) := (hg.block _ hko fun e => hn2 (hown _ e.symm)).trans h.ko
  have hn3 := hub_not ko3 (nwss_ty ho) (by decide)
  have q3 : ORow watE w3 p ws b1 := h.o1.keep fun b hb => hg.block b (h.o1.lt b hb) fun e => hd.2.2 b hb b (hown b e.symm) rfl
  have hs := h.bel.size
  refine ⟨(h.bel.grown hg hs fun k hk => by have := hge k hk; omega).setCell (p := ⟨w.heap.size + 1 + 1 + 1 + 1, 1, none⟩) (by simp; omega) _, ?_, ?_, ?_, q3.other hn1 1 q', ho.other hn3 1 q', ?_⟩
  · exact (Below.heap_setCell _ _ _ _ (by simp; omega)).trans ((hg.block _ (by omega) fun e => by have := hge _ e.symm; omega).trans h.k0)
  · exact (Below.heap_setCell _ _ _ _ (by simp)).trans ((hg.block _ (by omega) fun e => by have := hge _ e.symm; omega).trans h.k1)
  · exact heap_setCell_same _ _ 1 _ _ _ ko3
  · refine ⟨List.nodup_append.2 ⟨hd.1, hF.1, fun a ha b hb e => ?_⟩, fun b hb => ?_⟩
    · subst e
      rcases hm a hb with h1 | h1 | h1
      · exact hd.2.2 a ha a h1 rfl
      · exact hi a h1 ha
      · obtain ⟨cs, hcs⟩ := ho.own
        obtain ⟨cur, t, e1, e2⟩ := own_ty hcs a (by simp [h1])
        obtain ⟨cur', t', e3, e4⟩ := wats_ty q3 a ha
        rw [e1] at e3
        injection e3 with e3; injection e3 with _ e3
        simp at e2
        rw [← e3, e2] at e4
        exact absurd e4 (by decide)
    · rcases List.mem_append.1 hb with hb | hb
      · exact hfs.2 b (List.mem_append.2 (.inl hb))
      · exact hF.2 b hb
end
end Go.Proofs.YtbcfkkicmmhhcaaDoor

namespace Go.Proofs.YtbcfkkicmmhhcaaDoor
open Go.RowKit

theorem sum_le_sum {α : Type} (f g : α → Nat) (l : List α) (h : ∀ x ∈ l, f x ≤ g x) : (l.map f).sum ≤ (l.map g).sum := by
  induction l with
  | nil => simp
  | cons a r ih =>
    have h1 := h a List.mem_cons_self
    have h2 := ih fun x hx => h x (List.mem_cons_of_mem _ hx)
    simp only [List.map_cons, List.sum_cons]; omega
theorem cntMsgs_le (ms : List Msg) : cntR cntMsg ms ≤ 2 * szMsgs ms := by
  unfold cntR szMsgs
  induction ms with
  | nil => simp
  | cons a r ih =>
    have : cntMsg a ≤ 2 + szMsg a := by unfold cntMsg szMsg szStr; omega
    simp only [List.map_cons, List.sum_cons, List.length_cons]; omega
theorem cntWats_le (ms : List Wat) : cntR cntWat ms ≤ 5 * szWats ms := by
  unfold cntR szWats
  induction ms with
  | nil => simp
  | cons a r ih =>
    have h1 := cntMsgs_le a.queue
    have : cntWat a ≤ 5 + 2 * szWat a := by unfold cntWat szWat; omega
    simp only [List.map_cons, List.sum_cons, List.length_cons]; omega
theorem cntNwss_le (ms : List Nws) : cntR cntNws ms ≤ szNwss ms := by
  unfold cntR szNwss
  induction ms with
  | nil => simp
  | cons a r ih =>
    have : cntNws a ≤ 1 + szNws a := by unfold cntNws szNws szStr; omega
    simp only [List.map_cons, List.sum_cons, List.length_cons]; omega
theorem cntHb_le (h : Hb) : cntR cntWat h.watches + cntR cntNws h.waiting ≤ 6 * szHb h := by
  have h1 := cntWats_le h.watches
  have h2 := cntNwss_le h.waiting
  unfold szHb; omega
theorem OHub.fr {w w' : World} {v : Value} {h : Hb} {bl bx : List Nat} (ho : OHub w v h bl) (hf : Fr bx w w') (hd : ∀ b ∈ bl, b ∉ bx) : OHub w' v h bl := ho.keep (hf.kp ho.lt hd)

end Go.Proofs.YtbcfkkicmmhhcaaDoor
