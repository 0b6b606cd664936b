import Derived.Lib.Builder
import Derived.Handy
import Derived.Test.YtbcfkkicmmhhcaaDoorBd9
import Derived.Test.YtbcfkkicmmhhcaaDoorBd7
import Derived.Test.YtbcfkkicmmhhcaaDoorBd1
namespace Go.Proofs.YtbcfkkicmmhhcaaDoor
open Go.RowKit

set_option maxHeartbeats 400000 in
theorem toStr_walk (v : Value) (ss : List ByteArray) (w : World) (hr : RRow strR w v ss) (hm : ss.length ≤ 1048576) :
    Calls Tryd.prog 97 #[v] w fun e w' => ∃ v' bl, e = .returned v' ∧ OStr w' v' ss bl ∧ Fsh w.heap.size bl ∧ Below w.heap.size w w' := by
  obtain ⟨xa, xb, xo, xc, rfl, h, _, _⟩ := RStr.ss hr
  obtain ⟨i0, hi, hz0, hz1, hz2⟩ := info_parts infoStr
  have hadr := h.ad
  have HC := hide h.cell
  clear h hr
  go_enter Tryd.func97, Tryd.ntmps97
  go_wp2_with (at_make; refine wpList_make_full _ rfl _ _ 49 rfl w.heap.size 9 i0 (.string ByteArray.empty) 1 Tryd.underlying49 hi hz0 hz1 .i64 .i64 _ _ ss.length rfl rfl rfl rfl (by rw [hz2]; omega) (by unfold maxLen; omega) (Nat.le_refl _) ?_)
  intro w1 hown hgrow
  have hbel : Below w.heap.size w w1 := (Below.refl _ _).grown hgrow (Nat.le_refl _) (by intro k hk; cases hk)
  clear hgrow hi hz0 hz1 hz2
  go_wp2
  go_loopw [4] (fun i wr => ∃ k : Nat, k ≤ ss.length ∧ i = .int .i64 k ∧ Below w.heap.size w wr ∧ ∃ xs, wr.ownsRow w.heap.size 9 1 (.slice (some ⟨w.heap.size, 0, none⟩) ss.length ss.length) ss.length xs ∧ ∀ j, j < k → xs[j]? = some (.string (ss.getD j ByteArray.empty))) (fun i _ => ss.length - (intOf i).toNat)
  case atStart => exact ⟨0, Nat.zero_le _, rfl, hbel, _, hown, fun j hj => by omega⟩
  case round =>
    obtain ⟨k, hk, rfl, hb, xs, hown, hxs⟩ := hrel
    by_cases hlt : k < ss.length
    · have hc0 := unhide HC k hlt
      have hxl := hown.1
      have hc := (hb.cell (p := ⟨xb, xo + k, none⟩) (World.block_lt_of_cell? _ _ hc0)).trans hc0
      have hfz := hown.frozenAt k
      have hce := hown.cellAt k (by omega)
      have hst := hown.stored k (.string (ss.getD k ByteArray.empty))
      obtain ⟨old, hold⟩ : ∃ old, xs[k]? = some old := ⟨xs[k]'(by omega), by simp⟩
      rw [hold] at hce
      have HST := hide hst
      have HX := hide hxs
      have HL := hide hxl
      have HB := hide hb
      obtain rfl := hadr (by omega)
      clear hc0 hst hxs hown hold hadr hxl hb
      generalize hs : ss.getD k ByteArray.empty = s at *
      have HS := hide hs
      clear hs
      go_wp2
      go_roundw
      case rel =>
        refine ⟨k + 1, by omega, by go_num, (unhide HB).setCell (Nat.le_refl _) _, _, (unhide HST).1, ?_⟩
        intro j hj
        have hxl := unhide HL
        by_cases e : j = k
        · subst e; rw [unhide HS]; rw [List.getElem?_set_self (by omega)]
        · rw [List.getElem?_set_ne (by omega)]; exact unhide HX j (by omega)
      case measure => simp [intOf]; omega
    · have hk' : k = ss.length := by omega
      subst hk'
      clear hadr HC
      go_wp2
      go_ret
      have hxl := hown.1
      have hxe : xs = ss.map .string := by
        apply List.ext_getElem?
        intro j
        by_cases hj : j < ss.length
        · rw [hxs j hj, List.getElem?_map, List.getElem?_eq_getElem hj]; simp [List.getD, hj]
        · rw [List.getElem?_eq_none (by omega), List.getElem?_eq_none (by rw [List.length_map]; omega)]
      subst hxe
      exact ⟨_, [w.heap.size], rfl, ostr_iff.2 ⟨own_mono hown (Nat.zero_le _), rfl⟩, ⟨by simp, fun b hb => by simp at hb; omega⟩, hb⟩

theorem ORow.other {α : Type} {e : Elem α} {w : World} {v : Value} {xs : List α} {bl : List Nat} (h : ORow e w v xs bl) {g : Nat} (hg : g ∉ bl) (o : Nat) (u : Value) : ORow e (w.setCell ⟨g, o, none⟩ u) v xs bl :=
  h.keep fun b hb => Below.heap_setCell _ _ _ _ fun he => hg (by subst he; exact hb)
theorem Fsh.not {B g : Nat} {bl : List Nat} (h : Fsh B bl) (hg : g < B) : g ∉ bl := fun hm => by have := h.2 g hm; omega
/-- Three new blocks. -/
structure New3 (w : World) (a b c : Obj) (w' : World) : Prop where
  bel : Below w.heap.size w w'
  size : w'.heap.size = w.heap.size + 1 + 1 + 1
  k0 : w'.heap[w.heap.size]? = some a
  k1 : w'.heap[w.heap.size + 1]? = some b
  k2 : w'.heap[w.heap.size + 1 + 1]? = some c
theorem new3 (w : World) (a b c : Obj) : New3 w a b c (((w.alloc a).alloc b).alloc c) := by
  refine ⟨below_next (below_next (alloc_b w _) (alloc_b _ _)) (alloc_b _ _), by simp, ?_, ?_, ?_⟩
  · exact ((alloc_b _ c).block _ (by simp; omega)).trans (((alloc_b _ b).block _ (by simp)).trans (heap_alloc_new w a))
  · have := heap_alloc_new (w.alloc a) b
    rw [show (w.alloc a).heap.size = w.heap.size + 1 from by simp] at this
    exact ((alloc_b _ c).block _ (by simp)).trans this
  · have := heap_alloc_new ((w.alloc a).alloc b) c
    simpa using this
theorem ORow.putN {α : Type} {e : Elem α} {w : World} {v : Value} {xs : List α} {bl : List Nat} (h : ORow e w v xs bl) {g : Nat} (hg : g ∉ bl) (vs : List Value) (o : Nat) : ORow e (putN w g o vs) v xs bl :=
  h.keep fun b hb => putN_other (fun he => hg (by subst he; exact hb)) _ _
set_option maxHeartbeats 1600000 in
theorem toMsg_walk (a0 a1 a2 : Value) (m : Msg) (w : World) (h : msgR.R w [a0, a1, a2] m) (hs : szMsg m ≤ 1048576) :
    Calls Tryd.prog 119 #[.agg #[a0, a1, a2]] w fun e w' => ∃ b0 b1 b2 ib, e = .returned (.agg #[b0, b1, b2]) ∧ msgE.E w' [b0, b1, b2] m ib ∧ Fsh (w.heap.size + 1) ib ∧ Below w.heap.size w w' := by
  obtain ⟨q, hq, h1⟩ := h
  injection hq with e0 hq
  subst e0
  injection hq with e1 hq
  subst e1
  injection hq with e2 hq
  subst e2
  have hl : m.ptrs.length ≤ 1048576 := by unfold szMsg szStr at hs; omega
  clear hs hq
  have H1 := hide h1
  clear h1
  go_enter Tryd.func119, Tryd.ntmps119
  go_wp2_with fail
  have hA := new3 w (Obj.cells #[Value.int IntKind.i64 m.ver, a1, Value.bool m.over] 161) (Obj.cells #[Value.int IntKind.i64 0, Value.slice none 0 0, Value.bool false] 115) (Obj.cells #[Value.int IntKind.i64 m.ver, Value.slice none 0 0, Value.bool false] 115)
  generalize (((w.alloc (Obj.cells #[Value.int IntKind.i64 m.ver, a1, Value.bool m.over] 161)).alloc (Obj.cells #[Value.int IntKind.i64 0, Value.slice none 0 0, Value.bool false] 115)).alloc (Obj.cells #[Value.int IntKind.i64 m.ver, Value.slice none 0 0, Value.bool false] 115)) = wA at *
  refine (toStr_walk a1 m.ptrs wA ((unhide H1).below hA.bel) hl).mono ?_
  rintro e w1 ⟨v', bl, rfl, ho, hf, b1⟩
  obtain ⟨xa, xc, rfl, _, _⟩ := ho.form
  have hsz := hA.size
  have k0 := (b1.block w.heap.size (by omega)).trans hA.k0
  have k1 := (b1.block (w.heap.size + 1) (by omega)).trans hA.k1
  have k2 := (b1.block (w.heap.size + 1 + 1) (by omega)).trans hA.k2
  have c02 : w1.cell? ⟨w.heap.size, 2, none⟩ = some (.bool m.over) := Lib.cell_of_heap k0 2
  have c20 : w1.cell? ⟨w.heap.size + 1 + 1, 0, none⟩ = some (.int .i64 m.ver) := Lib.cell_of_heap k2 0
  have c21 : w1.cell? ⟨w.heap.size + 1 + 1, 1, none⟩ = some (.slice none 0 0) := Lib.cell_of_heap k2 1
  have c22 : w1.cell? ⟨w.heap.size + 1 + 1, 2, none⟩ = some (.bool false) := Lib.cell_of_heap k2 2
  have c10 : w1.cell? ⟨w.heap.size + 1, 0, none⟩ = some (.int .i64 0) := Lib.cell_of_heap k1 0
  have c11 : w1.cell? ⟨w.heap.size + 1, 1, none⟩ = some (.slice none 0 0) := Lib.cell_of_heap k1 1
  have c12 : w1.cell? ⟨w.heap.size + 1, 2, none⟩ = some (.bool false) := Lib.cell_of_heap k1 2
  have f2 := Lib.frozen_of_heap k2
  have f1 := Lib.frozen_of_heap k1
  have HB := hide (below_next hA.bel b1)
  have HO := hide ho
  have HF := hide hf
  have HK := hide k1
  clear b1 ho hf hA H1 k0 k1 k2
  go_wp2
  refine bodyPost_ret (results_cell_row rfl _ _ (w.heap.size + 1) 115 #[_, _, _] (0, 0) _ rfl (putN_full (w := putN w1 (w.heap.size + 1 + 1) 1 [_, _]) ((putN_other (by omega) _ _).trans (unhide HK)) [_, _, _] rfl) Tryd.underlying115 rfl (by kernel_rfl)) rfl ?_
  have n1 := (unhide HF).not (g := w.heap.size + 1) (by omega)
  have n2 := (unhide HF).not (g := w.heap.size + 1 + 1) (by omega)
  refine ⟨_, _, _, bl, rfl, ⟨_, rfl, ((unhide HO).putN n2 [_, _] 1).putN n1 [_, _, _] 0⟩, (unhide HF).mono (by omega), ?_⟩
  exact putN_below (g := w.heap.size + 1) (putN_below (g := w.heap.size + 1 + 1) (unhide HB) (by omega) [_, _] 1) (by omega) [_, _, _] 0
theorem infoMsg : (Tryd.prog.info? 115).map (fun i => (i.zero, i.size, i.bytes)) = some (some (.agg #[.int .i64 0, .slice none 0 0, .bool false]), 3, 40) := by kernel_rfl
set_option maxHeartbeats 1600000 in
theorem toMsgs_walk (v : Value) (ms : List Msg) (w : World) (h : RRow msgR w v ms) (hs : szMsgs ms ≤ 1048576) :
    Calls Tryd.prog 96 #[v] w fun e w' => ∃ v' bl, e = .returned v' ∧ ORow msgE w' v' ms bl ∧ Fsh w.heap.size bl ∧ Below w.heap.size w w' := by
  have hl : ms.length ≤ 1048576 := by unfold szMsgs at hs; omega
  have hsz : ∀ k (hk : k < ms.length), szMsg ms[k] ≤ 1048576 := fun k hk => by
    have h1 := sum_take_snoc szMsg ms k ms[k] (List.getElem?_eq_getElem hk)
    have h2 := sum_take_le (ms.map szMsg) (k + 1)
    rw [← List.map_take] at h2
    unfold szMsgs at hs; omega
  have HZ := hide hsz
  clear hs hsz
  have H := hide h
  obtain ⟨hm, a, cap, rfl, hrow⟩ := h
  clear hrow hm
  obtain ⟨i0, hi, hz0, hz1, hz2⟩ := info_parts infoMsg
  go_enter Tryd.func96, Tryd.ntmps96
  go_wp2_with (at_make; refine wpList_make_full _ rfl _ _ 70 rfl 0 115 i0 (.agg #[.int .i64 0, .slice none 0 0, .bool false]) 3 Tryd.underlying70 hi hz0 hz1 .i64 .i64 _ _ ms.length rfl rfl rfl rfl (by rw [hz2]; omega) (by unfold maxLen; omega) (Nat.zero_le _) ?_)
  intro w1 hown hgrow
  have hbel : Below w.heap.size w w1 := (Below.refl _ _).grown hgrow (Nat.le_refl _) (by intro k hk; cases hk)
  have hP : PRow msgE w1 w.heap.size ms.length ms.length [] [] := PRow.start hown
  have hg1 := hP.lt.1
  have HP := hide hP
  have HB := hide hbel
  clear hgrow hi hz0 hz1 hz2 hown hP hbel
  go_wp2
  go_loopw [4] (fun i wr => ∃ k : Nat, k ≤ ms.length ∧ i = .int .i64 k ∧ Below w.heap.size w wr ∧ ∃ bl, PRow msgE wr w.heap.size ms.length ms.length (ms.take k) bl ∧ Fsh (w.heap.size + 1) bl) (fun i _ => ms.length - (intOf i).toNat)
  case atStart => exact ⟨0, Nat.zero_le _, rfl, unhide HB, [], unhide HP, Fsh.nil _⟩
  case round =>
    obtain ⟨k, hk, rfl, hb, bl, hP, hF⟩ := hrel
    by_cases hlt : k < ms.length
    · have hgr := hP.lt.1
      obtain ⟨_, a', cap', he, hrow⟩ := (unhide H).below hb
      injection he with he1 he2 he3; subst he1; subst he3; clear he2
      obtain ⟨b, o, rfl, vs, hR, hc⟩ := hrow k ms[k] (List.getElem?_eq_getElem hlt)
      obtain ⟨a0, a1, a2, rfl⟩ := list3 (msgR.len hR)
      have c0 : wr.cell? ⟨b, o + k * 3, none⟩ = _ := hc 0 _ rfl
      have c1 : wr.cell? ⟨b, o + k * 3 + 1, none⟩ = _ := hc 1 _ rfl
      have c2 : wr.cell? ⟨b, o + k * 3 + 2, none⟩ = _ := hc 2 _ rfl
      have HM := hide (toMsg_walk a0 a1 a2 ms[k] wr hR (unhide HZ k hlt))
      have hkl : (ms.take k).length = k := by rw [List.length_take]; omega
      have HPR := hide hP
      have HFB := hide hF
      have HBR := hide hb
      have HKL := hide hkl
      clear hrow hc hR hP hF hb hkl
      go_wp2_with fail
      refine (unhide HM).mono ?_
      rintro e w2 ⟨b0, b1, b2, ib, rfl, hE, hFi, b2⟩
      have P2 := (unhide HPR).below b2
      have hkl := unhide HKL
      have hlt' : (ms.take k).length < ms.length := by rw [hkl]; exact hlt
      obtain ⟨u0, d0⟩ := P2.cell hlt' 0 (by decide)
      rw [hkl] at d0
      have d0 : w2.cell? ⟨w.heap.size, k * 3, none⟩ = some u0 := d0
      obtain ⟨u1, d1⟩ := P2.cell hlt' 1 (by decide)
      rw [hkl] at d1
      have d1 : w2.cell? ⟨w.heap.size, k * 3 + 1, none⟩ = some u1 := d1
      obtain ⟨u2, d2⟩ := P2.cell hlt' 2 (by decide)
      rw [hkl] at d2
      have d2 : w2.cell? ⟨w.heap.size, k * 3 + 2, none⟩ = some u2 := d2
      have fz := P2.frozen
      have hng : w.heap.size ∉ bl := (unhide HFB).not (by omega)
      have hngi : w.heap.size ∉ ib := hFi.not (by omega)
      have HPN := hide (P2.put hlt' hng hE hngi)
      have HFN := hide ((unhide HFB).app (C := wr.heap.size + 1) (fun b hb => by have := (unhide HPR).lt.2 b hb; omega) hFi (by omega))
      have HBN := hide (below_next (unhide HBR) b2)
      have hE0 := hE
      obtain ⟨q0, hbs, hE2⟩ := hE0
      injection hbs with e0 hbs
      subst e0
      injection hbs with e1 hbs
      subst e1
      injection hbs with e2 hbs
      subst e2
      clear hbs
      obtain ⟨xa0, xc0, rfl, _, _⟩ := hE2.form
      clear hE2
      rw [hkl] at HPN
      clear P2 hE hFi b2 HM hng hngi HPR HFB HBR hkl hlt' HKL
      go_wp2
      go_roundw
      case rel => exact ⟨k + 1, by omega, by go_num, putN_below (unhide HBN) (Nat.le_refl _) [_, _, _] (k * 3), _, by rw [List.take_add_one, List.getElem?_eq_getElem hlt]; exact unhide HPN, unhide HFN⟩
      case measure => simp [intOf]; omega
    · have hk' : k = ms.length := by omega
      subst hk'
      rw [List.take_length] at hP
      go_wp2
      go_ret
      exact ⟨_, _, rfl, hP.full rfl, hF.cons (Nat.le_refl _) (by omega), hb⟩
set_option maxHeartbeats 1600000 in
theorem toNws_walk (a0 a1 : Value) (m : Nws) (w : World) (h : nwsR.R w [a0, a1] m) (hs : szNws m ≤ 1048576) :
    Calls Tryd.prog 65 #[.agg #[a0, a1]] w fun e w' => ∃ b0 b1 ib, e = .returned (.agg #[b0, b1]) ∧ nwsE.E w' [b0, b1] m ib ∧ Fsh (w.heap.size + 1) ib ∧ Below w.heap.size w w' := by
  obtain ⟨q, hq, h1⟩ := h
  injection hq with e0 hq
  subst e0
  injection hq with e1 hq
  subst e1
  have hl : m.ptrs.length ≤ 1048576 := by unfold szNws szStr at hs; omega
  clear hs hq
  have H1 := hide h1
  clear h1
  go_enter Tryd.func65, Tryd.ntmps65
  go_wp2_with fail
  have hA := new3 w (Obj.cells #[Value.int IntKind.i64 m.ver, a1] 98) (Obj.cells #[Value.int IntKind.i64 0, Value.slice none 0 0] 85) (Obj.cells #[Value.int IntKind.i64 m.ver, Value.slice none 0 0] 85)
  generalize (((w.alloc (Obj.cells #[Value.int IntKind.i64 m.ver, a1] 98)).alloc (Obj.cells #[Value.int IntKind.i64 0, Value.slice none 0 0] 85)).alloc (Obj.cells #[Value.int IntKind.i64 m.ver, Value.slice none 0 0] 85)) = wA at *
  refine (toStr_walk a1 m.ptrs wA ((unhide H1).below hA.bel) hl).mono ?_
  rintro e w1 ⟨v', bl, rfl, ho, hf, b1⟩
  obtain ⟨xa, xc, rfl, _, _⟩ := ho.form
  have hsz := hA.size
  have k0 := (b1.block w.heap.size (by omega)).trans hA.k0
  have k1 := (b1.block (w.heap.size + 1) (by omega)).trans hA.k1
  have k2 := (b1.block (w.heap.size + 1 + 1) (by omega)).trans hA.k2
  have c20 : w1.cell? ⟨w.heap.size + 1 + 1, 0, none⟩ = some (.int .i64 m.ver) := Lib.cell_of_heap k2 0
  have c21 : w1.cell? ⟨w.heap.size + 1 + 1, 1, none⟩ = some (.slice none 0 0) := Lib.cell_of_heap k2 1
  have c10 : w1.cell? ⟨w.heap.size + 1, 0, none⟩ = some (.int .i64 0) := Lib.cell_of_heap k1 0
  have c11 : w1.cell? ⟨w.heap.size + 1, 1, none⟩ = some (.slice none 0 0) := Lib.cell_of_heap k1 1
  have f2 := Lib.frozen_of_heap k2
  have f1 := Lib.frozen_of_heap k1
  have HB := hide (below_next hA.bel b1)
  have HO := hide ho
  have HF := hide hf
  have HK := hide k1
  clear b1 ho hf hA H1 k0 k1 k2
  go_wp2
  refine bodyPost_ret (results_cell_row rfl _ _ (w.heap.size + 1) 85 #[_, _] (0, 0) _ rfl (putN_full (w := putN w1 (w.heap.size + 1 + 1) 1 [_]) ((putN_other (by omega) _ _).trans (unhide HK)) [_, _] rfl) Tryd.underlying85 rfl (by kernel_rfl)) rfl ?_
  have n1 := (unhide HF).not (g := w.heap.size + 1) (by omega)
  have n2 := (unhide HF).not (g := w.heap.size + 1 + 1) (by omega)
  refine ⟨_, _, bl, rfl, ⟨_, rfl, ((unhide HO).putN n2 [_] 1).putN n1 [_, _] 0⟩, (unhide HF).mono (by omega), ?_⟩
  exact putN_below (g := w.heap.size + 1) (putN_below (g := w.heap.size + 1 + 1) (unhide HB) (by omega) [_] 1) (by omega) [_, _] 0
theorem infoNws : (Tryd.prog.info? 85).map (fun i => (i.zero, i.size, i.bytes)) = some (some (.agg #[.int .i64 0, .slice none 0 0]), 2, 32) := by kernel_rfl
set_option maxHeartbeats 1600000 in
theorem toNwss_walk (v : Value) (ms : List Nws) (w : World) (h : RRow nwsR w v ms) (hs : szNwss ms ≤ 1048576) :
    Calls Tryd.prog 38 #[v] w fun e w' => ∃ v' bl, e = .returned v' ∧ ORow nwsE w' v' ms bl ∧ Fsh w.heap.size bl ∧ Below w.heap.size w w' := by
  have hl : ms.length ≤ 1048576 := by unfold szNwss at hs; omega
  have hsz : ∀ k (hk : k < ms.length), szNws ms[k] ≤ 1048576 := fun k hk => by
    have h1 := sum_take_snoc szNws ms k ms[k] (List.getElem?_eq_getElem hk)
    have h2 := sum_take_le (ms.map szNws) (k + 1)
    rw [← List.map_take] at h2
    unfold szNwss at hs; omega
  have HZ := hide hsz
  clear hs hsz
  have H := hide h
  obtain ⟨hm, a, cap, rfl, hrow⟩ := h
  clear hrow hm
  obtain ⟨i0, hi, hz0, hz1, hz2⟩ := info_parts infoNws
  go_enter Tryd.func38, Tryd.ntmps38
  go_wp2_with (at_make; refine wpList_make_full _ rfl _ _ 37 rfl 0 85 i0 (.agg #[.int .i64 0, .slice none 0 0]) 2 Tryd.underlying37 hi hz0 hz1 .i64 .i64 _ _ ms.length rfl rfl rfl rfl (by rw [hz2]; omega) (by unfold maxLen; omega) (Nat.zero_le _) ?_)
  intro w1 hown hgrow
  have hbel : Below w.heap.size w w1 := (Below.refl _ _).grown hgrow (Nat.le_refl _) (by intro k hk; cases hk)
  have hP : PRow nwsE w1 w.heap.size ms.length ms.length [] [] := PRow.start hown
  have hg1 := hP.lt.1
  have HP := hide hP
  have HB := hide hbel
  clear hgrow hi hz0 hz1 hz2 hown hP hbel
  go_wp2
  go_loopw [4] (fun i wr => ∃ k : Nat, k ≤ ms.length ∧ i = .int .i64 k ∧ Below w.heap.size w wr ∧ ∃ bl, PRow nwsE wr w.heap.size ms.length ms.length (ms.take k) bl ∧ Fsh (w.heap.size + 1) bl) (fun i _ => ms.length - (intOf i).toNat)
  case atStart => exact ⟨0, Nat.zero_le _, rfl, unhide HB, [], unhide HP, Fsh.nil _⟩
  case round =>
    obtain ⟨k, hk, rfl, hb, bl, hP, hF⟩ := hrel
    by_cases hlt : k < ms.length
    · have hgr := hP.lt.1
      obtain ⟨_, a', cap', he, hrow⟩ := (unhide H).below hb
      injection he with he1 he2 he3; subst he1; subst he3; clear he2
      obtain ⟨b, o, rfl, vs, hR, hc⟩ := hrow k ms[k] (List.getElem?_eq_getElem hlt)
      obtain ⟨a0, a1, rfl⟩ := list2 (nwsR.len hR)
      have c0 : wr.cell? ⟨b, o + k * 2, none⟩ = _ := hc 0 _ rfl
      have c1 : wr.cell? ⟨b, o + k * 2 + 1, none⟩ = _ := hc 1 _ rfl
      have HM := hide (toNws_walk a0 a1 ms[k] wr hR (unhide HZ k hlt))
      have hkl : (ms.take k).length = k := by rw [List.length_take]; omega
      have HPR := hide hP
      have HFB := hide hF
      have HBR := hide hb
      have HKL := hide hkl
      clear hrow hc hR hP hF hb hkl
      go_wp2_with fail
      refine (unhide HM).mono ?_
      rintro e w2 ⟨b0, b1, ib, rfl, hE, hFi, b2⟩
      have P2 := (unhide HPR).below b2
      have hkl := unhide HKL
      have hlt' : (ms.take k).length < ms.length := by rw [hkl]; exact hlt
      obtain ⟨u0, d0⟩ := P2.cell hlt' 0 (by decide)
      rw [hkl] at d0
      have d0 : w2.cell? ⟨w.heap.size, k * 2, none⟩ = some u0 := d0
      obtain ⟨u1, d1⟩ := P2.cell hlt' 1 (by decide)
      rw [hkl] at d1
      have d1 : w2.cell? ⟨w.heap.size, k * 2 + 1, none⟩ = some u1 := d1
      have fz := P2.frozen
      have hng : w.heap.size ∉ bl := (unhide HFB).not (by omega)
      have hngi : w.heap.size ∉ ib := hFi.not (by omega)
      have HPN := hide (P2.put hlt' hng hE hngi)
      have HFN := hide ((unhide HFB).app (C := wr.heap.size + 1) (fun b hb => by have := (unhide HPR).lt.2 b hb; omega) hFi (by omega))
      have HBN := hide (below_next (unhide HBR) b2)
      have hE0 := hE
      obtain ⟨q0, hbs, hE2⟩ := hE0
      injection hbs with e0 hbs
      subst e0
      injection hbs with e1 hbs
      subst e1
      clear hbs
      obtain ⟨xa0, xc0, rfl, _, _⟩ := hE2.form
      clear hE2
      rw [hkl] at HPN
      clear P2 hE hFi b2 HM hng hngi HPR HFB HBR hkl hlt' HKL
      go_wp2
      go_roundw
      case rel => exact ⟨k + 1, by omega, by go_num, putN_below (unhide HBN) (Nat.le_refl _) [_, _] (k * 2), _, by rw [List.take_add_one, List.getElem?_eq_getElem hlt]; exact unhide HPN, unhide HFN⟩
      case measure => simp [intOf]; omega
    · have hk' : k = ms.length := by omega
      subst hk'
      rw [List.take_length] at hP
      go_wp2
      go_ret
      exact ⟨_, _, rfl, hP.full rfl, hF.cons (Nat.le_refl _) (by omega), hb⟩
set_option maxHeartbeats 1600000 in
theorem toWat_walk (a0 a1 a2 a3 a4 a5 : Value) (m : Wat) (w : World) (h : watR.R w [a0, a1, a2, a3, a4, a5] m) (hs : szWat m ≤ 1048576) :
    Calls Tryd.prog 64 #[.agg #[a0, a1, a2, a3, a4, a5]] w fun e w' => ∃ b0 b1 b2 b3 b4 b5 ib, e = .returned (.agg #[b0, b1, b2, b3, b4, b5]) ∧ watE.E w' [b0, b1, b2, b3, b4, b5] m ib ∧ Fsh (w.heap.size + 1) ib ∧ Below w.heap.size w w' := by
  obtain ⟨q, hq, _, h1⟩ := h
  injection hq with e0 hq
  subst e0
  injection hq with e1 hq
  subst e1
  injection hq with e2 hq
  subst e2
  injection hq with e3 hq
  subst e3
  injection hq with e4 hq
  subst e4
  injection hq with e5 hq
  subst e5
  have hl : szMsgs m.queue ≤ 1048576 := by unfold szWat at hs; omega
  clear hs hq
  have H1 := hide h1
  clear h1
  go_enter Tryd.func64, Tryd.ntmps64
  go_wp2_with fail
  have hA := new3 w (Obj.cells #[Value.int IntKind.i64 m.client, Value.string m.ptr, Value.int IntKind.i64 m.cap, Value.int IntKind.i64 m.since, Value.bool m.closed, a5] 96) (Obj.cells #[Value.int IntKind.i64 0, Value.string ⟨#[]⟩, Value.int IntKind.i64 0, Value.int IntKind.i64 0, Value.bool false, Value.slice none 0 0] 72) (Obj.cells #[Value.int IntKind.i64 m.client, Value.string m.ptr, Value.int IntKind.i64 m.cap, Value.int IntKind.i64 m.since, Value.bool m.closed, Value.slice none 0 0] 72)
  generalize (((w.alloc (Obj.cells #[Value.int IntKind.i64 m.client, Value.string m.ptr, Value.int IntKind.i64 m.cap, Value.int IntKind.i64 m.since, Value.bool m.closed, a5] 96)).alloc (Obj.cells #[Value.int IntKind.i64 0, Value.string ⟨#[]⟩, Value.int IntKind.i64 0, Value.int IntKind.i64 0, Value.bool false, Value.slice none 0 0] 72)).alloc (Obj.cells #[Value.int IntKind.i64 m.client, Value.string m.ptr, Value.int IntKind.i64 m.cap, Value.int IntKind.i64 m.since, Value.bool m.closed, Value.slice none 0 0] 72)) = wA at *
  refine (toMsgs_walk a5 m.queue wA ((unhide H1).below hA.bel) hl).mono ?_
  rintro e w1 ⟨v', bl, rfl, ho, hf, b1⟩
  obtain ⟨xa, xc, rfl, _, _⟩ := ho.form
  have hsz := hA.size
  have k0 := (b1.block w.heap.size (by omega)).trans hA.k0
  have k1 := (b1.block (w.heap.size + 1) (by omega)).trans hA.k1
  have k2 := (b1.block (w.heap.size + 1 + 1) (by omega)).trans hA.k2
  have c20 : w1.cell? ⟨w.heap.size + 1 + 1, 0, none⟩ = some (.int .i64 m.client) := Lib.cell_of_heap k2 0
  have c21 : w1.cell? ⟨w.heap.size + 1 + 1, 1, none⟩ = some (.string m.ptr) := Lib.cell_of_heap k2 1
  have c22 : w1.cell? ⟨w.heap.size + 1 + 1, 2, none⟩ = some (.int .i64 m.cap) := Lib.cell_of_heap k2 2
  have c23 : w1.cell? ⟨w.heap.size + 1 + 1, 3, none⟩ = some (.int .i64 m.since) := Lib.cell_of_heap k2 3
  have c24 : w1.cell? ⟨w.heap.size + 1 + 1, 4, none⟩ = some (.bool m.closed) := Lib.cell_of_heap k2 4
  have c25 : w1.cell? ⟨w.heap.size + 1 + 1, 5, none⟩ = some (.slice none 0 0) := Lib.cell_of_heap k2 5
  have c10 : w1.cell? ⟨w.heap.size + 1, 0, none⟩ = some (.int .i64 0) := Lib.cell_of_heap k1 0
  have c11 : w1.cell? ⟨w.heap.size + 1, 1, none⟩ = some (.string ⟨#[]⟩) := Lib.cell_of_heap k1 1
  have c12 : w1.cell? ⟨w.heap.size + 1, 2, none⟩ = some (.int .i64 0) := Lib.cell_of_heap k1 2
  have c13 : w1.cell? ⟨w.heap.size + 1, 3, none⟩ = some (.int .i64 0) := Lib.cell_of_heap k1 3
  have c14 : w1.cell? ⟨w.heap.size + 1, 4, none⟩ = some (.bool false) := Lib.cell_of_heap k1 4
  have c15 : w1.cell? ⟨w.heap.size + 1, 5, none⟩ = some (.slice none 0 0) := Lib.cell_of_heap k1 5
  have f2 := Lib.frozen_of_heap k2
  have f1 := Lib.frozen_of_heap k1
  have HB := hide (below_next hA.bel b1)
  have HO := hide ho
  have HF := hide hf
  have HK := hide k1
  clear b1 ho hf hA H1 k0 k1 k2
  go_wp2
  refine bodyPost_ret (results_cell_row rfl _ _ (w.heap.size + 1) 72 #[_, _, _, _, _, _] (0, 0) _ rfl (putN_full (w := putN w1 (w.heap.size + 1 + 1) 5 [_]) ((putN_other (by omega) _ _).trans (unhide HK)) [_, _, _, _, _, _] rfl) Tryd.underlying72 rfl (by kernel_rfl)) rfl ?_
  have n1 := (unhide HF).not (g := w.heap.size + 1) (by omega)
  have n2 := (unhide HF).not (g := w.heap.size + 1 + 1) (by omega)
  refine ⟨_, _, _, _, _, _, bl, rfl, ⟨_, rfl, ((unhide HO).putN n2 [_] 5).putN n1 [_, _, _, _, _, _] 0⟩, (unhide HF).mono (by omega), ?_⟩
  exact putN_below (g := w.heap.size + 1) (putN_below (g := w.heap.size + 1 + 1) (unhide HB) (by omega) [_] 5) (by omega) [_, _, _, _, _, _] 0
theorem infoWat : (Tryd.prog.info? 72).map (fun i => (i.zero, i.size, i.bytes)) = some (some (.agg #[.int .i64 0, .string ByteArray.empty, .int .i64 0, .int .i64 0, .bool false, .slice none 0 0]), 6, 72) := by kernel_rfl
set_option maxHeartbeats 1600000 in
theorem toWats_walk (v : Value) (ms : List Wat) (w : World) (h : RRow watR w v ms) (hs : szWats ms ≤ 1048576) :
    Calls Tryd.prog 37 #[v] w fun e w' => ∃ v' bl, e = .returned v' ∧ ORow watE w' v' ms bl ∧ Fsh w.heap.size bl ∧ Below w.heap.size w w' := by
  have hl : ms.length ≤ 1048576 := by unfold szWats at hs; omega
  have hsz : ∀ k (hk : k < ms.length), szWat ms[k] ≤ 1048576 := fun k hk => by
    have h1 := sum_take_snoc szWat ms k ms[k] (List.getElem?_eq_getElem hk)
    have h2 := sum_take_le (ms.map szWat) (k + 1)
    rw [← List.map_take] at h2
    unfold szWats at hs; omega
  have HZ := hide hsz
  clear hs hsz
  have H := hide h
  obtain ⟨hm, a, cap, rfl, hrow⟩ := h
  clear hrow hm
  obtain ⟨i0, hi, hz0, hz1, hz2⟩ := info_parts infoWat
  go_enter Tryd.func37, Tryd.ntmps37
  go_wp2_with (at_make; refine wpList_make_full _ rfl _ _ 36 rfl 0 72 i0 (.agg #[.int .i64 0, .string ByteArray.empty, .int .i64 0, .int .i64 0, .bool false, .slice none 0 0]) 6 Tryd.underlying36 hi hz0 hz1 .i64 .i64 _ _ ms.length rfl rfl rfl rfl (by rw [hz2]; omega) (by unfold maxLen; omega) (Nat.zero_le _) ?_)
  intro w1 hown hgrow
  have hbel : Below w.heap.size w w1 := (Below.refl _ _).grown hgrow (Nat.le_refl _) (by intro k hk; cases hk)
  have hP : PRow watE w1 w.heap.size ms.length ms.length [] [] := PRow.start hown
  have hg1 := hP.lt.1
  have HP := hide hP
  have HB := hide hbel
  clear hgrow hi hz0 hz1 hz2 hown hP hbel
  go_wp2
  go_loopw [4] (fun i wr => ∃ k : Nat, k ≤ ms.length ∧ i = .int .i64 k ∧ Below w.heap.size w wr ∧ ∃ bl, PRow watE wr w.heap.size ms.length ms.length (ms.take k) bl ∧ Fsh (w.heap.size + 1) bl) (fun i _ => ms.length - (intOf i).toNat)
  case atStart => exact ⟨0, Nat.zero_le _, rfl, unhide HB, [], unhide HP, Fsh.nil _⟩
  case round =>
    obtain ⟨k, hk, rfl, hb, bl, hP, hF⟩ := hrel
    by_cases hlt : k < ms.length
    · have hgr := hP.lt.1
      obtain ⟨_, a', cap', he, hrow⟩ := (unhide H).below hb
      injection he with he1 he2 he3; subst he1; subst he3; clear he2
      obtain ⟨b, o, rfl, vs, hR, hc⟩ := hrow k ms[k] (List.getElem?_eq_getElem hlt)
      obtain ⟨a0, a1, a2, a3, a4, a5, rfl⟩ := list6 (watR.len hR)
      have c0 : wr.cell? ⟨b, o + k * 6, none⟩ = _ := hc 0 _ rfl
      have c1 : wr.cell? ⟨b, o + k * 6 + 1, none⟩ = _ := hc 1 _ rfl
      have c2 : wr.cell? ⟨b, o + k * 6 + 2, none⟩ = _ := hc 2 _ rfl
      have c3 : wr.cell? ⟨b, o + k * 6 + 3, none⟩ = _ := hc 3 _ rfl
      have c4 : wr.cell? ⟨b, o + k * 6 + 4, none⟩ = _ := hc 4 _ rfl
      have c5 : wr.cell? ⟨b, o + k * 6 + 5, none⟩ = _ := hc 5 _ rfl
      have HM := hide (toWat_walk a0 a1 a2 a3 a4 a5 ms[k] wr hR (unhide HZ k hlt))
      have hkl : (ms.take k).length = k := by rw [List.length_take]; omega
      have HPR := hide hP
      have HFB := hide hF
      have HBR := hide hb
      have HKL := hide hkl
      clear hrow hc hR hP hF hb hkl
      go_wp2_with fail
      refine (unhide HM).mono ?_
      rintro e w2 ⟨b0, b1, b2, b3, b4, b5, ib, rfl, hE, hFi, b2⟩
      have P2 := (unhide HPR).below b2
      have hkl := unhide HKL
      have hlt' : (ms.take k).length < ms.length := by rw [hkl]; exact hlt
      obtain ⟨u0, d0⟩ := P2.cell hlt' 0 (by decide)
      rw [hkl] at d0
      have d0 : w2.cell? ⟨w.heap.size, k * 6, none⟩ = some u0 := d0
      obtain ⟨u1, d1⟩ := P2.cell hlt' 1 (by decide)
      rw [hkl] at d1
      have d1 : w2.cell? ⟨w.heap.size, k * 6 + 1, none⟩ = some u1 := d1
      obtain ⟨u2, d2⟩ := P2.cell hlt' 2 (by decide)
      rw [hkl] at d2
      have d2 : w2.cell? ⟨w.heap.size, k * 6 + 2, none⟩ = some u2 := d2
      obtain ⟨u3, d3⟩ := P2.cell hlt' 3 (by decide)
      rw [hkl] at d3
      have d3 : w2.cell? ⟨w.heap.size, k * 6 + 3, none⟩ = some u3 := d3
      obtain ⟨u4, d4⟩ := P2.cell hlt' 4 (by decide)
      rw [hkl] at d4
      have d4 : w2.cell? ⟨w.heap.size, k * 6 + 4, none⟩ = some u4 := d4
      obtain ⟨u5, d5⟩ := P2.cell hlt' 5 (by decide)
      rw [hkl] at d5
      have d5 : w2.cell? ⟨w.heap.size, k * 6 + 5, none⟩ = some u5 := d5
      have fz := P2.frozen
      have hng : w.heap.size ∉ bl := (unhide HFB).not (by omega)
      have hngi : w.heap.size ∉ ib := hFi.not (by omega)
      have HPN := hide (P2.put hlt' hng hE hngi)
      have HFN := hide ((unhide HFB).app (C := wr.heap.size + 1) (fun b hb => by have := (unhide HPR).lt.2 b hb; omega) hFi (by omega))
      have HBN := hide (below_next (unhide HBR) b2)
      have hE0 := hE
      obtain ⟨q0, hbs, hE2⟩ := hE0
      injection hbs with e0 hbs
      subst e0
      injection hbs with e1 hbs
      subst e1
      injection hbs with e2 hbs
      subst e2
      injection hbs with e3 hbs
      subst e3
      injection hbs with e4 hbs
      subst e4
      injection hbs with e5 hbs
      subst e5
      clear hbs
      obtain ⟨xa0, xc0, rfl, _, _⟩ := hE2.form
      clear hE2
      rw [hkl] at HPN
      clear P2 hE hFi b2 HM hng hngi HPR HFB HBR hkl hlt' HKL
      go_wp2
      go_roundw
      case rel => exact ⟨k + 1, by omega, by go_num, putN_below (unhide HBN) (Nat.le_refl _) [_, _, _, _, _, _] (k * 6), _, by rw [List.take_add_one, List.getElem?_eq_getElem hlt]; exact unhide HPN, unhide HFN⟩
      case measure => simp [intOf]; omega
    · have hk' : k = ms.length := by omega
      subst hk'
      rw [List.take_length] at hP
      go_wp2
      go_ret
      exact ⟨_, _, rfl, hP.full rfl, hF.cons (Nat.le_refl _) (by omega), hb⟩
set_option maxHeartbeats 1600000 in
theorem toHub_walk (v : Value) (h : Hb) (w : World) (hr : RHub w v h) (hs : szHb h ≤ 1048576) :
    Calls Tryd.prog 13 #[v] w fun e w' => ∃ p q b1 b2, e = .returned (.agg #[p, q]) ∧ ORow watE w' p h.watches b1 ∧ ORow nwsE w' q h.waiting b2 ∧ Fsh w.heap.size (b1 ++ b2) ∧ Below w.heap.size w w' := by
  obtain ⟨p, q, rfl, h1, h2⟩ := hr
  have hl1 : szWats h.watches ≤ 1048576 := by unfold szHb at hs; omega
  have hl2 : szNwss h.waiting ≤ 1048576 := by unfold szHb at hs; omega
  have H1 := hide h1
  have H2 := hide h2
  clear hs h1 h2
  go_enter Tryd.func13, Tryd.ntmps13
  go_wp2_with fail
  have hA := new3 w (Obj.cells #[p, q] 34) (Obj.cells #[Value.slice none 0 0, Value.slice none 0 0] 39) (Obj.cells #[Value.slice none 0 0, Value.slice none 0 0] 39)
  generalize (((w.alloc (Obj.cells #[p, q] 34)).alloc (Obj.cells #[Value.slice none 0 0, Value.slice none 0 0] 39)).alloc (Obj.cells #[Value.slice none 0 0, Value.slice none 0 0] 39)) = wA at *
  refine (toWats_walk p h.watches wA ((unhide H1).below hA.bel) hl1).mono ?_
  rintro e w1 ⟨v1, b1, rfl, ho1, hf1, bb1⟩
  obtain ⟨xa, xc, rfl, _, _⟩ := ho1.form
  have hsz := hA.size
  have k0 := (bb1.block w.heap.size (by omega)).trans hA.k0
  have k1 := (bb1.block (w.heap.size + 1) (by omega)).trans hA.k1
  have k2 := (bb1.block (w.heap.size + 1 + 1) (by omega)).trans hA.k2
  have B1 := below_next hA.bel bb1
  have hz1 := bb1.size
  have c01 : w1.cell? ⟨w.heap.size, 1, none⟩ = some q := Lib.cell_of_heap k0 1
  have c20 : w1.cell? ⟨w.heap.size + 1 + 1, 0, none⟩ = some (.slice none 0 0) := Lib.cell_of_heap k2 0
  have f2 := Lib.frozen_of_heap k2
  have n2 := hf1.not (g := w.heap.size + 1 + 1) (by omega)
  have hs2 : ∀ u, (w1.setCell ⟨w.heap.size + 1 + 1, 0, none⟩ u).heap.size = w1.heap.size := fun u => by simp [World.setCell]
  have KK0 := hide k0
  have KK1 := hide k1
  have KK2 := hide k2
  have HB := hide B1
  have HO := hide ho1
  have HF := hide hf1
  have HS2 := hide hs2
  clear hA bb1 ho1 hf1 k0 k1 k2 B1 H1 hs2
  go_wp2_with fail
  have hB1' := (unhide HB).setCell (p := ⟨w.heap.size + 1 + 1, 0, none⟩) (by simp; omega) (Value.slice xa h.watches.length xc)
  refine (toNwss_walk q h.waiting _ ((unhide H2).below hB1') hl2).mono ?_
  rintro e w2 ⟨v2, b2, rfl, ho2, hf2, bb2⟩
  obtain ⟨ya, yc, rfl, _, _⟩ := ho2.form
  rw [unhide HS2 _] at hf2 bb2
  have hz2 := bb2.size
  rw [unhide HS2 _] at hz2
  have k1 := (bb2.block (w.heap.size + 1) (by omega)).trans ((Below.heap_setCell _ _ _ _ (by simp)).trans (unhide KK1))
  have k2 := (bb2.block (w.heap.size + 1 + 1) (by omega)).trans (heap_setCell_same w1 (w.heap.size + 1 + 1) 0 _ _ (Value.slice xa h.watches.length xc) (unhide KK2))
  have ho1 := ((unhide HO).other n2 0 (Value.slice xa h.watches.length xc)).below (w' := w2) ⟨bb2.os, bb2.tape, bb2.output, bb2.size, fun k hk => bb2.block k (by rw [unhide HS2 _] at hk; exact hk)⟩
  have B2 := hB1'.trans (bb2.mono (by have := (unhide HB).size; omega))
  have c20 : w2.cell? ⟨w.heap.size + 1 + 1, 0, none⟩ = some (.slice xa h.watches.length xc) := Lib.cell_of_heap k2 0
  have c21 : w2.cell? ⟨w.heap.size + 1 + 1, 1, none⟩ = some (.slice none 0 0) := Lib.cell_of_heap k2 1
  have c10 : w2.cell? ⟨w.heap.size + 1, 0, none⟩ = some (.slice none 0 0) := Lib.cell_of_heap k1 0
  have c11 : w2.cell? ⟨w.heap.size + 1, 1, none⟩ = some (.slice none 0 0) := Lib.cell_of_heap k1 1
  have f2 := Lib.frozen_of_heap k2
  have f1 := Lib.frozen_of_heap k1
  have hlt1 := (unhide HO).lt
  have HK := hide k1
  have HB2 := hide B2
  have HO1 := hide ho1
  have HO2 := hide ho2
  have HF2 := hide hf2
  have HL1 := hide hlt1
  clear bb2 ho1 ho2 hf2 k1 k2 B2 hB1' H2 KK0 KK1 KK2 HB HO HS2 hlt1 n2
  go_wp2
  refine bodyPost_ret (results_cell_row rfl _ _ (w.heap.size + 1) 39 #[_, _] (0, 0) _ rfl (putN_full (w := putN w2 (w.heap.size + 1 + 1) 1 [_]) ((putN_other (by omega) _ _).trans (unhide HK)) [_, _] rfl) Tryd.underlying39 rfl (by kernel_rfl)) rfl ?_
  have m1 := (unhide HF).not (g := w.heap.size + 1) (by omega)
  have m2 := (unhide HF).not (g := w.heap.size + 1 + 1) (by omega)
  have l1 := (unhide HF2).not (g := w.heap.size + 1) (by omega)
  have l2 := (unhide HF2).not (g := w.heap.size + 1 + 1) (by omega)
  refine ⟨_, _, b1, b2, rfl, ((unhide HO1).putN m2 [_] 1).putN m1 [_, _] 0, ((unhide HO2).putN l2 [_] 1).putN l1 [_, _] 0, ((unhide HF).app (unhide HL1) (unhide HF2) (by omega)).mono (by omega), ?_⟩
  exact putN_below (g := w.heap.size + 1) (putN_below (g := w.heap.size + 1 + 1) (unhide HB2) (by omega) [_] 1) (by omega) [_, _] 0
end Go.Proofs.YtbcfkkicmmhhcaaDoor
