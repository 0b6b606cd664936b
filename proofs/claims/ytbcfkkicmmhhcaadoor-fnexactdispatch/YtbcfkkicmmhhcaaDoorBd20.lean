import Derived.Test.YtbcfkkicmmhhcaaDoorBd19
namespace Go.Proofs.YtbcfkkicmmhhcaaDoor
open Go.RowKit

set_option maxHeartbeats 800000 in
theorem l5Msg_walk (a0 a1 a2 : Value) (m : Msg) (ib : List Nat) (w : World) (h : msgE.E w [a0, a1, a2] m ib) (hs : szMsg m ≤ 1048577) :
    Calls Tryd.prog 94 #[.agg #[a0, a1, a2]] w fun e w' => ∃ b0 b1 b2 jb, e = .returned (.agg #[b0, b1, b2]) ∧ msgE.E w' [b0, b1, b2] m jb ∧ Fsh (w.heap.size + 1) jb ∧ Below w.heap.size w w' := by
  obtain ⟨q, hq, h1⟩ := h
  injection hq with e0 hq; injection hq with e1 hq; injection hq with e2 hq
  subst e0; subst e1; subst e2
  have hl : m.ptrs.length ≤ 1048577 := by unfold szMsg szStr at hs; omega
  clear hs hq
  have H1 := hide h1
  clear h1
  go_enter Tryd.func94, Tryd.ntmps94
  go_wp2_with fail
  have hA := new2 w (Obj.cells #[Value.int IntKind.i64 m.ver, a1, Value.bool m.over] 115) (Obj.cells #[Value.int IntKind.i64 0, Value.slice none 0 0, Value.bool false] 115)
  generalize ((w.alloc (Obj.cells #[Value.int IntKind.i64 m.ver, a1, Value.bool m.over] 115)).alloc (Obj.cells #[Value.int IntKind.i64 0, Value.slice none 0 0, Value.bool false] 115)) = wA at *
  refine (l5Texts_walk a1 m.ptrs ib wA ((unhide H1).below hA.bel) hl).mono ?_
  rintro e w1 ⟨v', bl, rfl, ho, hf, b1⟩
  obtain ⟨xa, xc, rfl, _, _⟩ := ho.form
  have hsz := hA.size
  have k0 := (b1.block w.heap.size (by omega)).trans hA.k0
  have k1 := (b1.block (w.heap.size + 1) (by omega)).trans hA.k1
  have c00 : w1.cell? ⟨w.heap.size, 0, none⟩ = some (.int .i64 m.ver) := Lib.cell_of_heap k0 0
  have c01 : w1.cell? ⟨w.heap.size, 1, none⟩ = some a1 := Lib.cell_of_heap k0 1
  have c02 : w1.cell? ⟨w.heap.size, 2, none⟩ = some (.bool m.over) := Lib.cell_of_heap k0 2
  have c10 : w1.cell? ⟨w.heap.size + 1, 0, none⟩ = some (.int .i64 0) := Lib.cell_of_heap k1 0
  have c11 : w1.cell? ⟨w.heap.size + 1, 1, none⟩ = some (.slice none 0 0) := Lib.cell_of_heap k1 1
  have c12 : w1.cell? ⟨w.heap.size + 1, 2, none⟩ = some (.bool false) := Lib.cell_of_heap k1 2
  have f0 := Lib.frozen_of_heap k0
  have f1 := Lib.frozen_of_heap k1
  have HB := hide (below_next hA.bel b1)
  have HO := hide ho
  have HF := hide hf
  have HK := hide k1
  clear b1 ho hf hA H1 k0 k1
  go_wp2
  refine bodyPost_ret (results_cell_row rfl _ _ (w.heap.size + 1) 115 #[_, _, _] (0, 0) _ rfl (putN_full (w := putN w1 w.heap.size 1 [_]) ((putN_other (by omega) _ _).trans (unhide HK)) [_, _, _] rfl) Tryd.underlying115 rfl (by kernel_rfl)) rfl ?_
  have n1 := (unhide HF).not (g := w.heap.size) (by omega)
  have n2 := (unhide HF).not (g := w.heap.size + 1) (by omega)
  refine ⟨_, _, _, bl, rfl, ⟨_, rfl, ((unhide HO).putN n1 [_] 1).putN n2 [_, _, _] 0⟩, (unhide HF).mono (by omega), ?_⟩
  exact putN_below (g := w.heap.size + 1) (putN_below (g := w.heap.size) (unhide HB) (by omega) [_] 1) (by omega) [_, _, _] 0

set_option maxHeartbeats 800000 in
theorem l5Wat_walk (a0 a1 a2 a3 a4 a5 : Value) (m : Wat) (d : Nat) (ib : List Nat) (w : World) (h : watE.E w [a0, a1, a2, a3, a4, a5] m ib) (hs : szWat m ≤ 1048577) (hd : d ≤ 1) :
    Calls Tryd.prog 61 #[.agg #[a0, a1, a2, a3, a4, a5], .int .i64 d] w fun e w' => ∃ b0 b1 b2 b3 b4 b5 jb, e = .returned (.agg #[b0, b1, b2, b3, b4, b5]) ∧ watE.E w' [b0, b1, b2, b3, b4, b5] ⟨m.client, m.ptr, m.cap, m.since, m.closed, m.queue.drop d⟩ jb ∧ Fsh (w.heap.size + 1) jb ∧ Below w.heap.size w w' := by
  obtain ⟨q, hq, h1⟩ := h
  injection hq with e0 hq; injection hq with e1 hq; injection hq with e2 hq; injection hq with e3 hq; injection hq with e4 hq; injection hq with e5 hq
  subst e0; subst e1; subst e2; subst e3; subst e4; subst e5
  have hl : szMsgs m.queue ≤ 1048577 := by unfold szWat at hs; omega
  clear hs hq
  obtain ⟨xa, xc, rfl, hfm, hsh⟩ := h1.form
  have H1 := hide h1
  clear h1 hfm
  have hqn : m.queue.length ≤ 1048577 := by unfold szMsgs at hl; omega
  have hsz : ∀ k (hk : k < m.queue.length), szMsg m.queue[k] ≤ 1048577 := fun k hk => by
    have h1 := sum_take_snoc szMsg m.queue k m.queue[k] (List.getElem?_eq_getElem hk)
    have h2 := sum_take_le (m.queue.map szMsg) (k + 1)
    rw [← List.map_take] at h2
    unfold szMsgs at hl; omega
  have HZ := hide hsz
  have HSH := hide hsh
  clear hsz hsh hl
  go_enter Tryd.func61, Tryd.ntmps61
  go_wp2
  have hA := new3 w (Obj.cells #[Value.int IntKind.i64 m.client, Value.string m.ptr, Value.int IntKind.i64 m.cap, Value.int IntKind.i64 m.since, Value.bool m.closed, Value.slice xa m.queue.length xc] 72) (Obj.cells #[Value.int IntKind.i64 0, Value.string ⟨#[]⟩, Value.int IntKind.i64 0, Value.int IntKind.i64 0, Value.bool false, Value.slice none 0 0] 72) (Obj.cells #[] 115)
  generalize (((w.alloc (Obj.cells #[Value.int IntKind.i64 m.client, Value.string m.ptr, Value.int IntKind.i64 m.cap, Value.int IntKind.i64 m.since, Value.bool m.closed, Value.slice xa m.queue.length xc] 72)).alloc (Obj.cells #[Value.int IntKind.i64 0, Value.string ⟨#[]⟩, Value.int IntKind.i64 0, Value.int IntKind.i64 0, Value.bool false, Value.slice none 0 0] 72)).alloc (Obj.cells #[] 115)) = wA at *
  have hasz := hA.size
  have HA := hide hA
  clear hA
  go_loopw [5, 6] (fun qv i wr => ∃ k : Nat, d ≤ k ∧ k ≤ max d m.queue.length ∧ i = .int .i64 (k : Int) ∧ Below (w.heap.size + 1 + 1) wA wr ∧ ∃ bl, ORow msgE wr qv ((m.queue.drop d).take (k - d)) bl ∧ Fsh (w.heap.size + 1 + 1) bl) (fun _ i _ => m.queue.length - (intOf i).toNat)
  case atStart =>
    refine ⟨d, Nat.le_refl _, by omega, rfl, Below.refl _ _, [w.heap.size + 1 + 1], ?_, by simp, fun b hb => by simp at hb; omega⟩
    rw [Nat.sub_self]
    refine ⟨[], rfl, fun _ _ _ h => by simp at h, ?_, rfl⟩
    exact ⟨by simp, .inr ⟨w.heap.size + 1 + 1, 0, #[], rfl, Nat.zero_le _, (unhide HA).k2, Nat.zero_le _, Nat.zero_le _, by simp, by simp⟩⟩
  case round =>
    obtain ⟨k, hdk, hk, rfl, hb, bl, ho, hF⟩ := hrel
    have hbw : Below w.heap.size w wr := (unhide HA).bel.trans (hb.mono (by omega))
    have hbs := hb.size
    have k0 := (hb.block w.heap.size (by omega)).trans (unhide HA).k0
    have k1 := (hb.block (w.heap.size + 1) (by omega)).trans (unhide HA).k1
    have c05 : wr.cell? ⟨w.heap.size, 5, none⟩ = some (.slice xa m.queue.length xc) := Lib.cell_of_heap k0 5
    by_cases hlt : k < m.queue.length
    · obtain ⟨g, rfl⟩ := unhide HSH (by omega)
      obtain ⟨vs, jb, hE, hc, hx1, hx2, hx3⟩ := ((unhide H1).below hbw).at (List.getElem?_eq_getElem hlt)
      obtain ⟨a0, a1, a2, rfl⟩ := list3 (msgE.len hE)
      have c0 : wr.cell? ⟨g, k * 3, none⟩ = _ := (hc 0 _ rfl).1
      have c1 : wr.cell? ⟨g, k * 3 + 1, none⟩ = _ := (hc 1 _ rfl).1
      have c2 : wr.cell? ⟨g, k * 3 + 2, none⟩ = _ := (hc 2 _ rfl).1
      have HM := hide (l5Msg_walk a0 a1 a2 m.queue[k] jb wr hE (unhide HZ k hlt))
      have hll : ((m.queue.drop d).take (k - d)).length = k - d := by rw [List.length_take, List.length_drop]; omega
      have hnx : (m.queue.drop d).take (k + 1 - d) = (m.queue.drop d).take (k - d) ++ [m.queue[k]] := by
        rw [show k + 1 - d = k - d + 1 from by omega, List.take_add_one, List.getElem?_drop, show d + (k - d) = k from by omega, List.getElem?_eq_getElem hlt]; rfl
      have HO := hide ho
      have HF := hide hF
      have HB := hide hb
      have HLL := hide hll
      have HNX := hide hnx
      clear hx1 hx2 hx3 hc hE ho hF hb hbw k0 k1 hll hnx
      go_wp2_with fail
      refine (unhide HM).mono ?_
      rintro e w2 ⟨b0, b1, b2, ib, rfl, hE, hFi, b2'⟩
      have hsz2 := b2'.size
      have hE0 := hE
      obtain ⟨q0, hbs0, hE2⟩ := hE0
      injection hbs0 with e0 hbs0; injection hbs0 with e1 hbs0; injection hbs0 with e2 hbs0
      subst e0; subst e1; subst e2
      obtain ⟨ya, yc, rfl, hy1, hy2⟩ := hE2.form
      have o2 := (unhide HO).below b2'
      have hap : ∀ b ∈ ib, b ∉ bl := fun b hb hbl => by have := hFi.2 b hb; have := (unhide HO).lt b hbl; omega
      have hFi' := hFi.mono (B' := w.heap.size + 1 + 1) (by omega)
      have hab : Below w2.heap.size w2 (w2.alloc (.cells #[.int .i64 m.queue[k].ver, .slice ya m.queue[k].ptrs.length yc, .bool m.queue[k].over] 115)) := alloc_b _ _
      have O3 := hide (o2.below hab)
      have E3 := hide (msgE.keep hE (.of_below hab (msgE.lt hE)))
      have HFI := hide hFi'
      have HAP := hide hap
      have HB2 := hide ((unhide HB).trans ((b2'.mono (by omega)).trans (hab.mono (by omega))))
      clear hE hFi b2' hE2 hy1 hy2 o2 hap hFi' hab HO HM HB hbs0
      go_wp2_with (at_builtin; refine wpList_append_elem (e := msgE) msg_ty (by decide) Tryd.underlying70 infoMsg rfl (by decide) (by decide) rfl (.tmp 16) (.tmp 23) rfl rfl (unhide O3) (unhide HF) (unhide E3) (unhide HFI) (unhide HAP) rfl ?_ ?_ ?_ ?_ ?_)
      · exact lit_cells w2 [_, _, _] _
      · intro u hu
        simp at hu
        rcases hu with rfl | rfl | rfl <;> rfl
      · simp; omega
      · rw [unhide HLL]; omega
      intro v' w3 bl' o4 f4 _ hg
      rw [← unhide HNX] at o4
      have HB3 := hide ((unhide HB2).grown hg (by simp; omega) (fun j hj => (unhide HF).2 j ((unhide O3).head hj)))
      have HO4 := hide o4
      have HF4 := hide f4
      clear o4 f4 hg HB2 HF O3 E3 HFI HAP c0 c1 c2 c05
      go_wp2
      go_roundw
      case rel => exact ⟨k + 1, by omega, by omega, by go_num, unhide HB3, bl', unhide HO4, unhide HF4⟩
      case measure => simp [intOf]; omega
    · have hkl : (m.queue.drop d).take (k - d) = m.queue.drop d := List.take_of_length_le (by rw [List.length_drop]; omega)
      rw [hkl] at ho
      obtain ⟨ya, yc, rfl, hy1, hy2⟩ := ho.form
      rw [List.length_drop] at ho
      have c00 : wr.cell? ⟨w.heap.size, 0, none⟩ = some (.int .i64 m.client) := Lib.cell_of_heap k0 0
      have c01 : wr.cell? ⟨w.heap.size, 1, none⟩ = some (.string m.ptr) := Lib.cell_of_heap k0 1
      have c02 : wr.cell? ⟨w.heap.size, 2, none⟩ = some (.int .i64 m.cap) := Lib.cell_of_heap k0 2
      have c03 : wr.cell? ⟨w.heap.size, 3, none⟩ = some (.int .i64 m.since) := Lib.cell_of_heap k0 3
      have c04 : wr.cell? ⟨w.heap.size, 4, none⟩ = some (.bool m.closed) := Lib.cell_of_heap k0 4
      have c10 : wr.cell? ⟨w.heap.size + 1, 0, none⟩ = some (.int .i64 0) := Lib.cell_of_heap k1 0
      have c11 : wr.cell? ⟨w.heap.size + 1, 1, none⟩ = some (.string ⟨#[]⟩) := Lib.cell_of_heap k1 1
      have c12 : wr.cell? ⟨w.heap.size + 1, 2, none⟩ = some (.int .i64 0) := Lib.cell_of_heap k1 2
      have c13 : wr.cell? ⟨w.heap.size + 1, 3, none⟩ = some (.int .i64 0) := Lib.cell_of_heap k1 3
      have c14 : wr.cell? ⟨w.heap.size + 1, 4, none⟩ = some (.bool false) := Lib.cell_of_heap k1 4
      have c15 : wr.cell? ⟨w.heap.size + 1, 5, none⟩ = some (.slice none 0 0) := Lib.cell_of_heap k1 5
      have f0 := Lib.frozen_of_heap k0
      have f1 := Lib.frozen_of_heap k1
      have HB := hide hbw
      have HO := hide ho
      have HF := hide hF
      have HK := hide k1
      clear hb hbw ho hF k0 k1 hy1 hy2 hkl
      go_wp2
      refine bodyPost_ret (results_cell_row rfl _ _ (w.heap.size + 1) 72 #[_, _, _, _, _, _] (0, 0) _ rfl (putN_full (w := putN wr w.heap.size 5 [_]) ((putN_other (by omega) _ _).trans (unhide HK)) [_, _, _, _, _, _] rfl) Tryd.underlying72 rfl (by kernel_rfl)) rfl ?_
      have n1 := (unhide HF).not (g := w.heap.size) (by omega)
      have n2 := (unhide HF).not (g := w.heap.size + 1) (by omega)
      refine ⟨_, _, _, _, _, _, bl, rfl, ⟨_, rfl, ((unhide HO).putN n1 [_] 5).putN n2 [_, _, _, _, _, _] 0⟩, (unhide HF).mono (by omega), ?_⟩
      exact putN_below (g := w.heap.size + 1) (putN_below (g := w.heap.size) (unhide HB) (by omega) [_] 5) (by omega) [_, _, _, _, _, _] 0
end Go.Proofs.YtbcfkkicmmhhcaaDoor
