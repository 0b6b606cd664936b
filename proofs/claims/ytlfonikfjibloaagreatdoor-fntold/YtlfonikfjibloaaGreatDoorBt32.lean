import Derived.Test.YtlfonikfjibloaaGreatDoorBt31
namespace Go.Proofs.YtlfonikfjibloaaGreatDoor
open Go.RowKit

set_option maxHeartbeats 800000 in
set_option maxRecDepth 100000 in
theorem copyMsg_walk (a0 a1 a2 : Value) (m : Msg) (ib : List Nat) (w : World) (h : msgE.E w [a0, a1, a2] m ib) (hs : szMsg m ≤ 2097154) :
    Calls Tryz.prog 67 #[.agg #[a0, a1, a2]] w fun e w' => ∃ b0 b1 b2 jb, e = .returned (.agg #[b0, b1, b2]) ∧ msgE.E w' [b0, b1, b2] m jb ∧ Fsh (w.heap.size + 1) jb ∧ Below w.heap.size w w' := by
  obtain ⟨q, hq, h1⟩ := h
  injection hq with e0 hq; injection hq with e1 hq; injection hq with e2 hq
  subst e0; subst e1; subst e2
  have hl : m.ptrs.length ≤ 2097154 := by unfold szMsg szStr at hs; omega
  clear hs hq
  have H1 := hide h1
  clear h1
  go_enter Tryz.func67, Tryz.ntmps67
  go_wp2_with fail
  have hA := new2 w (Obj.cells #[Value.int IntKind.i64 m.ver, a1, Value.bool m.over] 58) (Obj.cells #[Value.int IntKind.i64 0, Value.slice none 0 0, Value.bool false] 58)
  generalize ((w.alloc (Obj.cells #[Value.int IntKind.i64 m.ver, a1, Value.bool m.over] 58)).alloc (Obj.cells #[Value.int IntKind.i64 0, Value.slice none 0 0, Value.bool false] 58)) = wA at *
  refine (copiedStr_walk a1 m.ptrs ib wA ((unhide H1).below hA.bel) hl).mono ?_
  rintro e w1 ⟨v', bl, rfl, ho, hf, b1⟩
  obtain ⟨xa, xc, rfl, _, _⟩ := ho.form
  have hsz := hA.size
  have k0 := (b1.block w.heap.size (by omega)).trans hA.k0
  have k1 := (b1.block (w.heap.size + 1) (by omega)).trans hA.k1
  have c00 : w1.cell? ⟨w.heap.size, 0, none⟩ = some (.int .i64 m.ver) := Lib.cell_of_heap k0 0
  have c01 : w1.cell? ⟨w.heap.size, 1, none⟩ = some a1 := Lib.cell_of_heap k0 1
  have c02 : w1.cell? ⟨w.heap.size, 2, none⟩ = some (.bool m.over) := Lib.cell_of_heap k0 2
  have c10 : w1.cell? ⟨w.heap.size + 1, 0, none⟩ = some (.int .i64 0) := Lib.cell_of_heap k1 0
  have c11 : w1.cell? ⟨w.heap.size + 1, 1, none⟩ = some (.slice none 0 0) := Lib.cell_of_heap k1 1
  have c12 : w1.cell? ⟨w.heap.size + 1, 2, none⟩ = some (.bool false) := Lib.cell_of_heap k1 2
  have f0 := Lib.frozen_of_heap k0
  have f1 := Lib.frozen_of_heap k1
  have HB := hide (below_next hA.bel b1)
  have HO := hide ho
  have HF := hide hf
  have HK := hide k1
  clear b1 ho hf hA H1 k0 k1
  go_wp2
  refine bodyPost_ret (results_cell_row rfl _ _ (w.heap.size + 1) 58 #[_, _, _] (0, 0) _ rfl (putN_full (w := putN w1 w.heap.size 1 [_]) ((putN_other (by omega) _ _).trans (unhide HK)) [_, _, _] rfl) Tryz.underlying58 rfl (by kernel_rfl)) rfl ?_
  have n1 := (unhide HF).not (g := w.heap.size) (by omega)
  have n2 := (unhide HF).not (g := w.heap.size + 1) (by omega)
  refine ⟨_, _, _, bl, rfl, ⟨_, rfl, ((unhide HO).putN n1 [_] 1).putN n2 [_, _, _] 0⟩, (unhide HF).mono (by omega), ?_⟩
  exact putN_below (g := w.heap.size + 1) (putN_below (g := w.heap.size) (unhide HB) (by omega) [_] 1) (by omega) [_, _, _] 0


theorem Fr.grown {bl : List Nat} {a w w' : World} {row : Option Nat} (h : Fr bl a w) (hg : w.grownBy w' row) (hr : ∀ k, row = some k → a.heap.size ≤ k) : Fr bl a w' :=
  ⟨hg.os.trans h.os, hg.tape.trans h.tape, hg.output.trans h.output, Nat.le_trans h.size hg.size, fun i hi hn => (hg.block i (Nat.lt_of_lt_of_le hi h.size) fun e => by have := hr i e.symm; omega).trans (h.block i hi hn)⟩
/-- A watch at work: a pointer to its block, its messages in a ring. -/
def wtrE : Elem Wat where
  T := 223
  wd := 1
  E := fun w vs m bl => ∃ g cv f c ms cb, vs = [.pointer (some ⟨g, 0, none⟩)] ∧ w.heap[g]? = some (.cells #[.int .i64 m.client, .string m.ptr, .int .i64 m.cap, .int .i64 m.since, .bool m.closed, .slice none 0 0, cv, .int .i64 (f : Nat), .int .i64 (c : Nat)] 225 (0, 0)) ∧
    ORow msgE w cv ms (cv.ownBlock.toList ++ cb) ∧ RingIs ms f c m.queue ∧ ms.length ≤ 4000000 ∧ bl = g :: (cv.ownBlock.toList ++ cb)
  len := fun h => by obtain ⟨g, cv, f, c, ms, cb, h, _⟩ := h; rw [h]; rfl
  lt := fun h => by
    obtain ⟨g, cv, f, c, ms, cb, _, h1, h2, _, _, rfl⟩ := h
    intro b hb
    rcases List.mem_cons.1 hb with rfl | hb
    · exact (Array.getElem?_eq_some_iff.1 h1).1
    · exact h2.lt b hb
  keep := fun h hk => by
    obtain ⟨g, cv, f, c, ms, cb, h0, h1, h2, h3, h4, rfl⟩ := h
    exact ⟨g, cv, f, c, ms, cb, h0, (hk g (by simp)).trans h1, h2.keep fun b hb => hk b (List.mem_cons_of_mem _ hb), h3, h4, rfl⟩

set_option maxHeartbeats 800000 in
set_option maxRecDepth 100000 in
theorem tellWat_walk (v : Value) (m : Wat) (bl : List Nat) (w : World) (h : wtrE.E w [v] m bl) (hs : szWat m ≤ 2097154) :
    Calls Tryz.prog 119 #[v] w fun e w' => ∃ b0 b1 b2 b3 b4 b5 jb, e = .returned (.agg #[b0, b1, b2, b3, b4, b5]) ∧ watE.E w' [b0, b1, b2, b3, b4, b5] m jb ∧ Fsh w.heap.size jb ∧ Below w.heap.size w w' := by
  obtain ⟨g, cv, f, c, ms, cb, hv, hk, ho, hr, hml, rfl⟩ := h
  injection hv with hv _
  subst hv
  have hgl : g < w.heap.size := (Array.getElem?_eq_some_iff.1 hk).1
  have hl : szMsgs m.queue ≤ 2097154 := by unfold szWat at hs; omega
  have hqn : m.queue.length ≤ 2097154 := by unfold szMsgs at hl; omega
  have hsz : ∀ k (hk : k < m.queue.length), szMsg m.queue[k] ≤ 2097154 := fun k hk => by
    have h1 := sum_take_snoc szMsg m.queue k m.queue[k] (List.getElem?_eq_getElem hk)
    have h2 := sum_take_le (m.queue.map szMsg) (k + 1)
    rw [← List.map_take] at h2
    unfold szMsgs at hl; omega
  have HZ := hide hsz
  have HO := hide ho
  have HR := hide hr
  have HK := hide hk
  have c0 : w.cell? ⟨g, 0, none⟩ = some (.int .i64 m.client) := Lib.cell_of_heap hk 0
  have c1 : w.cell? ⟨g, 1, none⟩ = some (.string m.ptr) := Lib.cell_of_heap hk 1
  have c2 : w.cell? ⟨g, 2, none⟩ = some (.int .i64 m.cap) := Lib.cell_of_heap hk 2
  have c3 : w.cell? ⟨g, 3, none⟩ = some (.int .i64 m.since) := Lib.cell_of_heap hk 3
  have c4 : w.cell? ⟨g, 4, none⟩ = some (.bool m.closed) := Lib.cell_of_heap hk 4
  have c5 : w.cell? ⟨g, 5, none⟩ = some (.slice none 0 0) := Lib.cell_of_heap hk 5
  clear ho hr hk hsz hs hl
  go_enter Tryz.func119, Tryz.ntmps119
  go_wp2_with fail
  have hA := new2 w (Obj.cells #[Value.int IntKind.i64 0, Value.string ⟨#[]⟩, Value.int IntKind.i64 0, Value.int IntKind.i64 0, Value.bool false, Value.slice none 0 0] 219) (Obj.cells #[Value.int IntKind.i64 m.client, Value.string m.ptr, Value.int IntKind.i64 m.cap, Value.int IntKind.i64 m.since, Value.bool m.closed, Value.slice none 0 0] 219)
  generalize ((w.alloc (Obj.cells #[Value.int IntKind.i64 0, Value.string ⟨#[]⟩, Value.int IntKind.i64 0, Value.int IntKind.i64 0, Value.bool false, Value.slice none 0 0] 219)).alloc (Obj.cells #[Value.int IntKind.i64 m.client, Value.string m.ptr, Value.int IntKind.i64 m.cap, Value.int IntKind.i64 m.since, Value.bool m.closed, Value.slice none 0 0] 219)) = wA at *
  have kA := (hA.bel.block g hgl).trans (unhide HK)
  have hRA : RingAt msgE wA g 6 cv f c ms m.queue cb := ⟨Lib.cell_of_heap kA 6, Lib.cell_of_heap kA 7, Lib.cell_of_heap kA 8, (unhide HO).below hA.bel, unhide HR⟩
  refine (listMsg_walk g 6 cv f c ms m.queue cb wA hRA hml).mono ?_
  rintro e w1 ⟨lv, cb', rfl, ol, gl, sl, bl1⟩
  obtain ⟨la, lc, rfl, hl1, hl2⟩ := ol.form
  have hsz := hA.size
  have B1 := below_next hA.bel bl1
  have k0 := (bl1.block w.heap.size (by omega)).trans hA.k0
  have k1 := (bl1.block (w.heap.size + 1) (by omega)).trans hA.k1
  have hz1 := bl1.size
  have hno : ∀ b ∈ (Value.slice la m.queue.length lc).ownBlock.toList ++ cb', b ∉ [w.heap.size + 1] := fun b hb hm => by
    simp at hm
    rcases List.mem_append.1 hb with h1 | h1
    · have := gl b (by simpa using h1); omega
    · have := (unhide HO).lt b (List.mem_append.2 (.inr (sl b h1))); omega
  have HL := hide ol
  have HB1 := hide B1
  have HK0 := hide k0
  have HK1 := hide k1
  have HSH := hide hl2
  have HNO := hide hno
  clear hA kA hRA ol gl sl bl1 hl1 hl2 B1 k0 k1 HO HR HK c0 c1 c2 c3 c4 c5 hno
  go_wp2
  go_loopw [15] (fun i wr => ∃ k : Nat, k ≤ m.queue.length ∧ i = .int .i64 (k : Int) ∧ Fr [w.heap.size + 1] w1 wr ∧ ∃ tv bl, wr.heap[w.heap.size + 1]? = some (.cells #[.int .i64 m.client, .string m.ptr, .int .i64 m.cap, .int .i64 m.since, .bool m.closed, tv] 219 (0, 0)) ∧ ORow msgE wr tv (m.queue.take k) bl ∧ Fsh w1.heap.size bl) (fun i _ => m.queue.length - (intOf i).toNat)
  case atStart => exact ⟨0, Nat.zero_le _, rfl, Fr.refl _ _, _, [], unhide HK1, ORow.nil _ _, Fsh.nil _⟩
  case round =>
    obtain ⟨k, hk, rfl, hfr, tv, bl, hkt, ho, hF⟩ := hrel
    have hfs := hfr.size
    have kr : wr.heap[w.heap.size]? = _ := (hfr.block w.heap.size (by omega) (by simp)).trans (unhide HK0)
    have hbw : Below w.heap.size w wr := (unhide HB1).trans (hfr.below (fun b hb => by simp at hb; omega) (by omega))
    by_cases hlt : k < m.queue.length
    · obtain ⟨gl, rfl⟩ := unhide HSH (by omega)
      obtain ⟨ta, tc, rfl, ht1, ht2⟩ := ho.form
      have hL := (unhide HL).keep (hfr.kp (unhide HL).lt (unhide HNO))
      obtain ⟨vs, jb, hE, hc, hx1, hx2, hx3⟩ := hL.at (List.getElem?_eq_getElem hlt)
      have hE0 := hE
      obtain ⟨qv, hvs, hq⟩ := hE0
      subst hvs
      obtain ⟨ya, yc, rfl, hy1, hy2⟩ := hq.form
      have c0 : wr.cell? ⟨gl, k * 3, none⟩ = some (.int .i64 m.queue[k].ver) := (hc 0 _ rfl).1
      have c1 : wr.cell? ⟨gl, k * 3 + 1, none⟩ = some (.slice ya m.queue[k].ptrs.length yc) := (hc 1 _ rfl).1
      have c2 : wr.cell? ⟨gl, k * 3 + 2, none⟩ = some (.bool m.queue[k].over) := (hc 2 _ rfl).1
      have hnx : m.queue.take (k + 1) = m.queue.take k ++ [m.queue[k]] := by rw [List.take_add_one, List.getElem?_eq_getElem hlt]; rfl
      have hll : (m.queue.take k).length = k := by rw [List.length_take]; omega
      generalize m.queue.take k = ns at *
      have hab := alloc_b wr (.cells #[.int .i64 m.queue[k].ver, .slice ya m.queue[k].ptrs.length yc, .bool m.queue[k].over] 58)
      have kt : (wr.alloc (.cells #[.int .i64 m.queue[k].ver, .slice ya m.queue[k].ptrs.length yc, .bool m.queue[k].over] 58)).heap[w.heap.size + 1]? = _ := (hab.block _ (Array.getElem?_eq_some_iff.1 hkt).1).trans hkt
      have cT : (wr.alloc (.cells #[.int .i64 m.queue[k].ver, .slice ya m.queue[k].ptrs.length yc, .bool m.queue[k].over] 58)).cell? ⟨w.heap.size + 1, 5, none⟩ = some (.slice ta ns.length tc) := Lib.cell_of_heap kt 5
      have kM := heap_alloc_new wr (.cells #[.int .i64 m.queue[k].ver, .slice ya m.queue[k].ptrs.length yc, .bool m.queue[k].over] 58)
      have hdr : ∀ w' : World, Below w'.heap.size w' w'.drew := fun w' => (Below.refl _ _).drew
      have hbd := below_next hab (hdr _)
      have HM := hide (copyMsg_walk _ _ _ m.queue[k] jb _ (msgE.keep hE (.of_below hbd (msgE.lt hE))) (unhide HZ k hlt))
      have hasz : (wr.alloc (.cells #[.int .i64 m.queue[k].ver, .slice ya m.queue[k].ptrs.length yc, .bool m.queue[k].over] 58)).heap.size = wr.heap.size + 1 := by simp
      have HO := hide (ho.below hbd)
      have HFR := hide (hfr.next hbd)
      have HF := hide hF
      have HKT := hide kt
      have HNX := hide hnx
      have HLL := hide hll
      have hltI : (k : Int) < (m.queue.length : Int) := by omega
      have hnl : ns.length ≤ 2097154 := by omega
      have HAS := hide hasz
      have HBW := hide hbw
      clear hL hx1 hx2 hx3 hc hE hq hy1 hy2 ht1 ht2 ho hfr hF hnx hll hkt kt hbd hab hdr kM hasz kr hbw
      go_wp2
      have kM := heap_alloc_new wr (.cells #[.int .i64 m.queue[k].ver, .slice ya m.queue[k].ptrs.length yc, .bool m.queue[k].over] 58)
      generalize (wr.alloc (.cells #[.int .i64 m.queue[k].ver, .slice ya m.queue[k].ptrs.length yc, .bool m.queue[k].over] 58)) = wB at *
      generalize wr.heap.size = M at *
      have hbs := unhide HAS
      have e0 : wB.cell? ⟨M, 0, none⟩ = some (.int .i64 m.queue[k].ver) := Lib.cell_of_heap kM 0
      have e1 : wB.cell? ⟨M, 1, none⟩ = some (.slice ya m.queue[k].ptrs.length yc) := Lib.cell_of_heap kM 1
      have e2 : wB.cell? ⟨M, 2, none⟩ = some (.bool m.queue[k].over) := Lib.cell_of_heap kM 2
      clear kM HAS c0 c1 c2
      go_region_law (first
        | (refine step_append_elem (e := msgE) msg_ty (by decide) Tryz.underlying217 infoMsg rfl (by decide) (by decide) rfl (.tmp 20) (.tmp 23) rfl rfl (unhide O3) (unhide HF) (unhide E3) (unhide HFI) (unhide HAP) rfl (by exact lit_cells w2 [_, _, _] _) (by exact unhide HONE) (by simp; omega) (by omega) ?_
           intro v' w3 bl' o4 f4 m4 hg4
           obtain ⟨va, vc, rfl, hv1, hv2⟩ := o4.form
           have ko3 := (hg4.block (w.heap.size + 1) (by simp; omega) fun e => by have := (unhide HF).2 _ ((unhide O3).head e.symm); omega).trans kt3
           have cO3 : w3.cell? ⟨w.heap.size + 1, 5, none⟩ = some (.slice ta ns.length tc) := Lib.cell_of_heap ko3 5
           have fO3 := Lib.frozen_of_heap ko3)
        | (go_simp; refine (unhide HM).mono ?_
           rintro e w2 ⟨b0, b1, b2, ib, rfl, hE2, hFi, bb2⟩
           have hE0 := hE2
           obtain ⟨q0, hbs0, hE1⟩ := hE0
           injection hbs0 with f0 hbs0; injection hbs0 with f1 hbs0; injection hbs0 with f2 hbs0
           subst f0; subst f1; subst f2
           obtain ⟨za, zc, rfl, hy1, hy2⟩ := hE1.form
           have hsz2 : wB.heap.size ≤ w2.heap.size := bb2.size
           have kt2 := (bb2.block (w.heap.size + 1) (by simp; omega)).trans (unhide HKT)
           have hab : Below w2.heap.size w2 (w2.alloc (.cells #[.int .i64 m.queue[k].ver, .slice za m.queue[k].ptrs.length zc, .bool m.queue[k].over] 58)) := alloc_b _ _
           have kt3 := (hab.block (w.heap.size + 1) (by omega)).trans kt2
           have O3 := hide (((unhide HO).below bb2).below hab)
           have E3 := hide (msgE.keep hE2 (.of_below hab (msgE.lt hE2)))
           have HFI := hide (hFi.mono (B' := w1.heap.size) (by have := (unhide HFR).size; simp at this ⊢; omega))
           have HAP : Hid (∀ b ∈ ib, b ∉ bl) := fun b hb hbl => by have h1 := hFi.2 b hb; have h2 := (unhide HO).lt b hbl; simp at h1 h2; omega
           have HONE : Hid (∀ u ∈ [Value.int .i64 m.queue[k].ver, .slice za m.queue[k].ptrs.length zc, .bool m.queue[k].over], u.oneCell' = true) := fun u hu => by simp at hu; rcases hu with rfl | rfl | rfl <;> rfl
           have HF2 := hide (((unhide HFR).next bb2).next hab)
           have cO2 : w2.cell? ⟨w.heap.size + 1, 5, none⟩ = some (.slice ta ns.length tc) := Lib.cell_of_heap kt2 5
           have cO4 : (w2.alloc (.cells #[.int .i64 m.queue[k].ver, .slice za m.queue[k].ptrs.length zc, .bool m.queue[k].over] 58)).cell? ⟨w.heap.size + 1, 5, none⟩ = some (.slice ta ns.length tc) := Lib.cell_of_heap kt3 5))
      all_goals (
        have hl1 : (ns ++ [m.queue[k]]).length = ns.length + 1 := by rw [List.length_append]; rfl
        have kn := heap_setCell_same _ _ 5 _ _ (.slice va (ns ++ [m.queue[k]]).length vc) ko3
        have on := o4.other (g := w.heap.size + 1) (fun hm => by have := f4.2 _ hm; omega) 5 (.slice va (ns ++ [m.queue[k]]).length vc)
        have fn := ((unhide HF2).grown hg4 (fun j hj => (unhide HF).2 _ ((unhide O3).head hj))).set (g := w.heap.size + 1) (by simp) 5 (.slice va (ns ++ [m.queue[k]]).length vc)
        rw [hl1] at kn on fn
        rw [← unhide HNX] at on
        have KN := hide kn
        have ON := hide on
        have FN := hide fn
        have F4 := hide f4
        clear kn on fn o4 f4 m4 hg4 hv1 hv2 ko3 cO3 fO3 cO2 cO4 HF2 HONE HAP HFI E3 O3 kt3 hab kt2 hy1 hy2 hE1 hbs0 hE2 hFi bb2 HM HO HFR HF HKT e0 e1 e2 cT hl1
        go_wp2
        go_roundw)
      all_goals first
        | (refine ⟨k + 1, by omega, by go_num, unhide FN, _, bl', unhide KN, unhide ON, unhide F4⟩)
        | (simp [intOf]; omega)
    · have hk' : k = m.queue.length := by omega
      subst hk'
      rw [List.take_length] at ho
      obtain ⟨ta, tc, rfl, ht1, ht2⟩ := ho.form
      have d0 : wr.cell? ⟨w.heap.size + 1, 0, none⟩ = some (.int .i64 m.client) := Lib.cell_of_heap hkt 0
      have d1 : wr.cell? ⟨w.heap.size + 1, 1, none⟩ = some (.string m.ptr) := Lib.cell_of_heap hkt 1
      have d2 : wr.cell? ⟨w.heap.size + 1, 2, none⟩ = some (.int .i64 m.cap) := Lib.cell_of_heap hkt 2
      have d3 : wr.cell? ⟨w.heap.size + 1, 3, none⟩ = some (.int .i64 m.since) := Lib.cell_of_heap hkt 3
      have d4 : wr.cell? ⟨w.heap.size + 1, 4, none⟩ = some (.bool m.closed) := Lib.cell_of_heap hkt 4
      have d5 : wr.cell? ⟨w.heap.size + 1, 5, none⟩ = some (.slice ta m.queue.length tc) := Lib.cell_of_heap hkt 5
      have r0 : wr.cell? ⟨w.heap.size, 0, none⟩ = some (.int .i64 0) := Lib.cell_of_heap kr 0
      have r1 : wr.cell? ⟨w.heap.size, 1, none⟩ = some (.string ⟨#[]⟩) := Lib.cell_of_heap kr 1
      have r2 : wr.cell? ⟨w.heap.size, 2, none⟩ = some (.int .i64 0) := Lib.cell_of_heap kr 2
      have r3 : wr.cell? ⟨w.heap.size, 3, none⟩ = some (.int .i64 0) := Lib.cell_of_heap kr 3
      have r4 : wr.cell? ⟨w.heap.size, 4, none⟩ = some (.bool false) := Lib.cell_of_heap kr 4
      have r5 : wr.cell? ⟨w.heap.size, 5, none⟩ = some (.slice none 0 0) := Lib.cell_of_heap kr 5
      have fr := Lib.frozen_of_heap kr
      have HB := hide hbw
      have HO := hide ho
      have HF := hide hF
      have HKR := hide kr
      clear hbw ho hF kr hkt hfr ht1 ht2
      go_wp2
      refine bodyPost_ret (results_cell_row rfl _ _ w.heap.size 219 #[_, _, _, _, _, _] (0, 0) _ rfl (putN_full (unhide HKR) [_, _, _, _, _, _] rfl) Tryz.underlying219 rfl (by kernel_rfl)) rfl ?_
      have n1 := (unhide HF).not (g := w.heap.size) (by omega)
      refine ⟨_, _, _, _, _, _, bl, rfl, ⟨_, rfl, (unhide HO).putN n1 [_, _, _, _, _, _] 0⟩, (unhide HF).mono (by omega), ?_⟩
      exact putN_below (g := w.heap.size) (unhide HB) (Nat.le_refl _) [_, _, _, _, _, _] 0
end Go.Proofs.YtlfonikfjibloaaGreatDoor

namespace Go.Proofs.YtlfonikfjibloaaGreatDoor
open Go.RowKit

section
variable {w0 : World} {G F : Nat} {wr w3 : World} {p p' q q' : Value} {ws : List Wat} {ns : List Nws} {b1 b2 b1' b2' ib : List Nat}
theorem HB.koW (h : HB w0 G F wr p q ws ns b1 b2) (hg : wr.grownBy w3 p.ownBlock) : w3.heap[G]? = some (.cells #[p, q] 47 (0, 0)) :=
  (hg.block _ (Array.getElem?_eq_some_iff.1 h.ko).1 fun e => hub_not h.ko (wats_ty h.o1) (by decide) (h.o1.head e.symm)).trans h.ko
theorem HB.watch (h : HB w0 G F wr p q ws ns b1 b2) (hg : wr.grownBy w3 p.ownBlock) {x : Wat} (ho : ORow watE w3 p' (ws ++ [x]) b1') (hF : Fsh F b1') (hm : ∀ b ∈ b1', b ∈ b1 ∨ b ∈ ib ∨ p'.ownBlock = some b) (hi : ∀ b ∈ ib, b ∉ b2) :
    HB w0 G F (w3.setCell ⟨G, 0, none⟩ p') p' q (ws ++ [x]) ns b1' b2 := by
  have hfs := h.fs
  have hd := hfs.1
  rw [List.nodup_append] at hd
  have hown : ∀ g, p.ownBlock = some g → g ∈ b1 := fun g hg => h.o1.head hg
  have hn2 := hub_not h.ko (nwss_ty h.o2) (by decide)
  have ko3 := h.koW hg
  have hn3 := hub_not ko3 (wats_ty ho) (by decide)
  have q3 : ORow nwsE w3 q ns b2 := h.o2.keep fun b hb => hg.block b (h.o2.lt b hb) fun e => hd.2.2 b (hown b e.symm) b hb rfl
  have hs := h.bel.size
  refine ⟨(h.bel.grown hg hs fun k hk => Nat.le_trans h.hF (hfs.2 k (List.mem_append.2 (.inl (hown k hk))))).setCell (p := ⟨G, 0, none⟩) h.hG _, heap_setCell_same _ _ 0 _ _ _ ko3, ho.other hn3 0 p', q3.other hn2 0 p', ?_, h.hF, h.hG⟩
  refine ⟨List.nodup_append.2 ⟨hF.1, hd.2.1, fun a ha b hb e => ?_⟩, fun b hb => ?_⟩
  · subst e
    rcases hm a ha with h1 | h1 | h1
    · exact hd.2.2 a h1 a hb rfl
    · exact hi a h1 hb
    · obtain ⟨cs, hcs⟩ := ho.own
      obtain ⟨cur, t, e1, e2⟩ := own_ty hcs a (by simp [h1])
      obtain ⟨cur', t', e3, e4⟩ := nwss_ty q3 a hb
      rw [e1] at e3
      injection e3 with e3; injection e3 with _ e3
      simp at e2
      rw [← e3, e2] at e4
      exact absurd e4 (by decide)
  · rcases List.mem_append.1 hb with hb | hb
    · exact hF.2 b hb
    · exact hfs.2 b (List.mem_append.2 (.inr hb))
end

/-- A hub at work: its block, its watchers, its ring of news. -/
structure Brd (w : World) (B : Nat) (h : Hb) (pv cv : Value) (f c : Nat) (ns : List Nws) (cb bw : List Nat) : Prop where
  ko : w.heap[B]? = some (.cells #[pv, cv, .int .i64 (f : Int), .int .i64 (c : Int)] 141 (0, 0))
  o1 : ORow wtrE w pv h.watches bw
  o2 : ORow nwsE w cv ns (cv.ownBlock.toList ++ cb)
  ring : RingIs ns f c h.waiting
  len : ns.length ≤ 4000000
theorem Brd.below {w w' : World} {B : Nat} {h : Hb} {pv cv : Value} {f c : Nat} {ns : List Nws} {cb bw : List Nat} (hb : Brd w B h pv cv f c ns cb bw) (hw : Below w.heap.size w w') : Brd w' B h pv cv f c ns cb bw :=
  ⟨(hw.block _ (Array.getElem?_eq_some_iff.1 hb.ko).1).trans hb.ko, hb.o1.below hw, hb.o2.below hw, hb.ring, hb.len⟩

set_option maxHeartbeats 1600000 in
set_option maxRecDepth 100000 in
theorem tellHub2_walk (B : Nat) (h : Hb) (pv cv : Value) (f c : Nat) (ns : List Nws) (cb bw : List Nat) (w : World) (hb : Brd w B h pv cv f c ns cb bw) (hl1 : h.watches.length ≤ 2097154) (hl2 : h.waiting.length ≤ 2097154) (hs1 : ∀ x ∈ h.watches, szWat x ≤ 2097154) (hs2 : ∀ x ∈ h.waiting, x.ptrs.length ≤ 1048577) :
    Calls Tryz.prog 62 #[.pointer (some ⟨B, 0, none⟩)] w fun e w' => ∃ v' bl', e = .returned v' ∧ OHub w' v' h bl' ∧ Fsh w.heap.size bl' ∧ Below w.heap.size w w' := by
  obtain ⟨xa, xc, rfl, hfm, hsh⟩ := hb.o1.form
  have HBD := hide hb
  have HSH := hide hsh
  have HS1 := hide hs1
  have HS2 := hide hs2
  have hBl : B < w.heap.size := (Array.getElem?_eq_some_iff.1 hb.ko).1
  have c0 : w.cell? ⟨B, 0, none⟩ = some (.slice xa h.watches.length xc) := Lib.cell_of_heap hb.ko 0
  clear hb hfm hsh hs1 hs2
  go_enter Tryz.func62, Tryz.ntmps62
  go_wp2
  have hA := new2 w (Obj.cells #[Value.slice none 0 0, Value.slice none 0 0] 47) (Obj.cells #[Value.slice none 0 0, Value.slice none 0 0] 47)
  generalize ((w.alloc (Obj.cells #[Value.slice none 0 0, Value.slice none 0 0] 47)).alloc (Obj.cells #[Value.slice none 0 0, Value.slice none 0 0] 47)) = wA at *
  have hsz := hA.size
  have hH : HB w (w.heap.size + 1) (w.heap.size + 1 + 1) wA (.slice none 0 0) (.slice none 0 0) [] [] [] [] := ⟨hA.bel, hA.k1, ORow.nil _ _, ORow.nil _ _, Fsh.nil _, by omega, by omega⟩
  have HHB := hide hH
  have HK0 := hide hA.k0
  clear hA hH c0
  go_loopw [13] (fun i wr => ∃ k : Nat, k ≤ h.watches.length ∧ i = .int .i64 (k : Int) ∧ wr.heap[w.heap.size]? = some (.cells #[Value.slice none 0 0, Value.slice none 0 0] 47 (0, 0)) ∧ ∃ p b1, HB w (w.heap.size + 1) (w.heap.size + 1 + 1) wr p (.slice none 0 0) (h.watches.take k) [] b1 []) (fun i _ => h.watches.length - (intOf i).toNat)
  case atStart => exact ⟨0, Nat.zero_le _, rfl, unhide HK0, _, _, unhide HHB⟩
  case round =>
    obtain ⟨k, hk, rfl, hkr, p, b1, hcs⟩ := hrel
    have hws := hcs.bel.size
    have hko := (Array.getElem?_eq_some_iff.1 hcs.ko).1
    by_cases hlt : k < h.watches.length
    · obtain ⟨gp, rfl⟩ := unhide HSH (by omega)
      obtain ⟨pa, pc, rfl, hfp, hfp2⟩ := hcs.o1.form
      obtain ⟨vs, jb, hE, hc, hx1, hx2, hx3⟩ := ((unhide HBD).below hcs.bel).o1.at (List.getElem?_eq_getElem hlt)
      obtain ⟨a0, rfl⟩ : ∃ a0, vs = [a0] := by
        have := wtrE.len hE
        match vs, this with
        | [a], _ => exact ⟨a, rfl⟩
      have c0 := (hc 0 _ rfl).1
      rw [show k * wtrE.wd + 0 = k from by simp [wtrE]] at c0
      have hszk := unhide HS1 h.watches[k] (List.getElem_mem _)
      have hnx : h.watches.take (k + 1) = h.watches.take k ++ [h.watches[k]] := by rw [List.take_add_one, List.getElem?_eq_getElem hlt]; rfl
      have hll : (h.watches.take k).length = k := by rw [List.length_take]; omega
      generalize h.watches.take k = ws at *
      have hdr : Below wr.heap.size wr wr.drew := (Below.refl _ _).drew
      have HM := hide (tellWat_walk a0 h.watches[k] jb wr.drew (wtrE.keep hE (.of_below hdr (wtrE.lt hE))) hszk)
      have HCD := hide (hcs.below hdr)
      have cO0 : wr.cell? ⟨w.heap.size + 1, 0, none⟩ = some (.slice pa ws.length pc) := Lib.cell_of_heap hcs.ko 0
      have HKR := hide hkr
      have HNX := hide hnx
      have hnl : ws.length ≤ 2097154 := by omega
      have hltI : (k : Int) < (h.watches.length : Int) := by omega
      obtain ⟨ga, _, _, _, _, _, hva, _⟩ := hE
      injection hva with hva _
      subst hva
      clear hx1 hx2 hx3 hc hfp hfp2 hszk hnx hll hdr hcs hkr
      go_wp2
      go_region_law (first
        | (refine step_append_elem (e := watE) wat_ty (by decide) Tryz.underlying45 infoWat rfl (by decide) (by decide) rfl (.tmp 18) (.tmp 21) rfl rfl (unhide O3) (unhide HF3) (unhide E3) (unhide HFI) (unhide HAP) rfl (by exact lit_cells w2 [_, _, _, _, _, _] _) (by exact unhide HONE) (by simp; omega) (by omega) ?_
           intro v' w3 bl' o4 f4 m4 hg4
           obtain ⟨va, vc, rfl, hv1, hv2⟩ := o4.form
           have ko3 := (unhide HC3).koW hg4
           have cO3 : w3.cell? ⟨w.heap.size + 1, 0, none⟩ = some (.slice pa ws.length pc) := Lib.cell_of_heap ko3 0
           have fO3 := Lib.frozen_of_heap ko3)
        | (go_simp; refine (unhide HM).mono ?_
           rintro e w2 ⟨b0, b1', b2', b3, b4, b5, ib, rfl, hE2, hFi, bb2⟩
           have hE0 := hE2
           obtain ⟨q0, hbs0, hE1⟩ := hE0
           injection hbs0 with e0 hbs0; injection hbs0 with e1 hbs0; injection hbs0 with e2 hbs0; injection hbs0 with e3 hbs0; injection hbs0 with e4 hbs0; injection hbs0 with e5 hbs0
           subst e0; subst e1; subst e2; subst e3; subst e4; subst e5
           obtain ⟨za, zc, rfl, hy1, hy2⟩ := hE1.form
           have hsz2 : wr.heap.size ≤ w2.heap.size := bb2.size
           have hCS2 := (unhide HCD).below bb2
           have hab : Below w2.heap.size w2 (w2.alloc (.cells #[.int .i64 h.watches[k].client, .string h.watches[k].ptr, .int .i64 h.watches[k].cap, .int .i64 h.watches[k].since, .bool h.watches[k].closed, .slice za h.watches[k].queue.length zc] 219)) := alloc_b _ _
           have hCS3 := hCS2.below hab
           have O3 := hide hCS3.o1
           have HF3 := hide (show Fsh (w.heap.size + 1 + 1) b1 from ⟨(List.nodup_append.1 hCS3.fs.1).1, fun b hb => hCS3.fs.2 b (List.mem_append.2 (.inl hb))⟩)
           have E3 := hide (watE.keep hE2 (.of_below hab (watE.lt hE2)))
           have HFI := hide (hFi.mono (B' := w.heap.size + 1 + 1) (by simp; omega))
           have HAP : Hid (∀ b ∈ ib, b ∉ b1) := fun b hb hbl => by have h1 := hFi.2 b hb; have h2 := (unhide HCD).o1.lt b hbl; simp at h1 h2; omega
           have HONE : Hid (∀ u ∈ [Value.int .i64 h.watches[k].client, .string h.watches[k].ptr, .int .i64 h.watches[k].cap, .int .i64 h.watches[k].since, .bool h.watches[k].closed, .slice za h.watches[k].queue.length zc], u.oneCell' = true) := fun u hu => by simp at hu; rcases hu with rfl | rfl | rfl | rfl | rfl | rfl <;> rfl
           have HC3 := hide hCS3
           have kR3 := (hab.block w.heap.size (by omega)).trans ((bb2.block w.heap.size (by simp; omega)).trans (unhide HKR))
           have cO2 : w2.cell? ⟨w.heap.size + 1, 0, none⟩ = some (.slice pa ws.length pc) := Lib.cell_of_heap hCS2.ko 0
           have cO4 : (w2.alloc (.cells #[.int .i64 h.watches[k].client, .string h.watches[k].ptr, .int .i64 h.watches[k].cap, .int .i64 h.watches[k].since, .bool h.watches[k].closed, .slice za h.watches[k].queue.length zc] 219)).cell? ⟨w.heap.size + 1, 0, none⟩ = some (.slice pa ws.length pc) := Lib.cell_of_heap hCS3.ko 0))
      all_goals (
        have hn := (unhide HC3).watch hg4 o4 f4 m4 (fun b _ hb => by simp at hb)
        have kR4 := (hg4.block w.heap.size (by simp; omega) fun e => by have := (unhide HF3).2 _ ((unhide O3).head e.symm); omega).trans kR3
        have kR5 := (Below.heap_setCell w3 ⟨w.heap.size + 1, 0, none⟩ (.slice va (ws ++ [h.watches[k]]).length vc) w.heap.size (by simp)).trans kR4
        rw [List.length_append, List.length_singleton] at hn kR5
        rw [← unhide HNX] at hn
        have HN := hide hn
        have HKN := hide kR5
        clear hn kR3 kR4 kR5 o4 f4 m4 hg4 hv1 hv2 ko3 cO3 fO3 cO2 cO4 HC3 HONE HAP HFI E3 HF3 O3 hCS3 hab hCS2 hy1 hy2 hE1 hbs0 hE2 hFi bb2 HM HCD cO0 c0
        go_wp2
        go_roundw)
      all_goals first
        | exact ⟨k + 1, by omega, by go_num, unhide HKN, _, _, unhide HN⟩
        | (simp [intOf]; omega)
    · have hk' : k = h.watches.length := by omega
      subst hk'
      rw [List.take_length] at hcs
      have hBr := (unhide HBD).below hcs.bel
      have HM := hide (listNws_walk B 1 cv f c ns h.waiting cb wr ⟨Lib.cell_of_heap hBr.ko 1, Lib.cell_of_heap hBr.ko 2, Lib.cell_of_heap hBr.ko 3, hBr.o2, hBr.ring⟩ hBr.len)
      have HC := hide hcs
      have HKR := hide hkr
      clear hcs hkr hBr
      go_wp2_with fail
      refine (unhide HM).mono ?_
      rintro e w2 ⟨lv, cb', rfl, ol, gl, sl, bl2⟩
      obtain ⟨la, lc, rfl, hl1', hl2'⟩ := ol.form
      have hC2 := (unhide HC).below bl2
      have hz2 := bl2.size
      have kr2 := (bl2.block w.heap.size (by omega)).trans (unhide HKR)
      have hno : ∀ b ∈ (Value.slice la h.waiting.length lc).ownBlock.toList ++ cb', b ∉ [w.heap.size + 1] := fun b hb hm => by
        simp at hm
        rcases List.mem_append.1 hb with h1 | h1
        · have := gl b (by simpa using h1); omega
        · have := (unhide HBD).o2.lt b (List.mem_append.2 (.inr (sl b h1))); omega
      have HL := hide ol
      have HNO := hide hno
      have HC2 := hide hC2
      have HKR2 := hide kr2
      have HSL := hide hl2'
      clear ol gl sl bl2 hl1' hl2' hno hC2 kr2 HM HC HKR
      go_wp2
      go_loopw [30] (fun i wx => ∃ m : Nat, m ≤ h.waiting.length ∧ i = .int .i64 (m : Int) ∧ Fr [w.heap.size + 1] w2 wx ∧ ∃ q b2, HB w (w.heap.size + 1) (w.heap.size + 1 + 1) wx p q h.watches (h.waiting.take m) b1 b2 ∧ Fsh w2.heap.size b2) (fun i _ => h.waiting.length - (intOf i).toNat)
      case atStart => exact ⟨0, Nat.zero_le _, rfl, Fr.refl _ _, _, _, unhide HC2, Fsh.nil _⟩
      case round =>
        obtain ⟨m, hm, rfl, hfr, q, b2, hcs, hF⟩ := hrel
        have hfs := hfr.size
        have hws' := hcs.bel.size
        have kr : wr.heap[w.heap.size]? = _ := (hfr.block w.heap.size (by omega) (by simp)).trans (unhide HKR2)
        by_cases hlt2 : m < h.waiting.length
        · obtain ⟨gl, rfl⟩ := unhide HSL (by omega)
          obtain ⟨qa, qc, rfl, ht1, ht2⟩ := hcs.o2.form
          have hL := (unhide HL).keep (hfr.kp (unhide HL).lt (unhide HNO))
          obtain ⟨vs, jb, hE, hc, hx1, hx2, hx3⟩ := hL.at (List.getElem?_eq_getElem hlt2)
          obtain ⟨qv, hvs, hq⟩ := hE
          subst hvs
          obtain ⟨ya, yc, rfl, hy1, hy2⟩ := hq.form
          have c0 : wr.cell? ⟨gl, m * 2, none⟩ = some (.int .i64 h.waiting[m].ver) := (hc 0 _ rfl).1
          have c1 : wr.cell? ⟨gl, m * 2 + 1, none⟩ = some (.slice ya h.waiting[m].ptrs.length yc) := (hc 1 _ rfl).1
          have hszm := unhide HS2 h.waiting[m] (List.getElem_mem _)
          have hnx : h.waiting.take (m + 1) = h.waiting.take m ++ [h.waiting[m]] := by rw [List.take_add_one, List.getElem?_eq_getElem hlt2]; rfl
          have hll : (h.waiting.take m).length = m := by rw [List.length_take]; omega
          generalize h.waiting.take m = nn at *
          have hab := alloc_b wr (.cells #[.int .i64 h.waiting[m].ver, .slice ya h.waiting[m].ptrs.length yc] 53)
          have hdr : ∀ w' : World, Below w'.heap.size w' w'.drew := fun w' => (Below.refl _ _).drew
          have hbd := below_next hab (hdr _)
          have HM := hide (copiedStr_walk _ h.waiting[m].ptrs jb _ (hq.below hbd) (by omega))
          have hasz : (wr.alloc (.cells #[.int .i64 h.waiting[m].ver, .slice ya h.waiting[m].ptrs.length yc] 53)).heap.size = wr.heap.size + 1 := by simp
          have cT : (wr.alloc (.cells #[.int .i64 h.waiting[m].ver, .slice ya h.waiting[m].ptrs.length yc] 53)).cell? ⟨w.heap.size + 1, 1, none⟩ = some (.slice qa nn.length qc) := Lib.cell_of_heap (hcs.below hab).ko 1
          have HCB := hide (hcs.below hbd)
          have HFR := hide (hfr.next hbd)
          have HF := hide hF
          have HNX := hide hnx
          have hnl : nn.length ≤ 2097154 := by omega
          have hltI : (m : Int) < (h.waiting.length : Int) := by omega
          have HAS := hide hasz
          clear hL hx1 hx2 hx3 hc hq hy1 hy2 ht1 ht2 hfr hF hnx hll hbd hab hdr hasz kr hcs hszm
          go_wp2
          have kM := heap_alloc_new wr (.cells #[.int .i64 h.waiting[m].ver, .slice ya h.waiting[m].ptrs.length yc] 53)
          generalize (wr.alloc (.cells #[.int .i64 h.waiting[m].ver, .slice ya h.waiting[m].ptrs.length yc] 53)) = wB at *
          generalize hMM : wr.heap.size = M at *
          have hbs := unhide HAS
          have e0 : wB.cell? ⟨M, 0, none⟩ = some (.int .i64 h.waiting[m].ver) := Lib.cell_of_heap kM 0
          have e1 : wB.cell? ⟨M, 1, none⟩ = some (.slice ya h.waiting[m].ptrs.length yc) := Lib.cell_of_heap kM 1
          have KM := hide kM
          clear kM HAS c0 c1 hMM
          go_region_law (first
            | (refine step_append_elem (e := nwsE) nws_ty (by decide) Tryz.underlying42 infoNws rfl (by decide) (by decide) rfl (.tmp 35) (.tmp 42) rfl rfl (unhide O3) (unhide HF) (unhide E3) (unhide HFI) (unhide HAP) rfl (by exact lit_cells w4 [_, _] _) (by exact unhide HONE) (by simp; omega) (by omega) ?_
               intro v' w3 bl' o4 f4 m4 hg4
               obtain ⟨va, vc, rfl, hv1, hv2⟩ := o4.form
               have ko3 := (unhide HC3).koN hg4
               have cO3 : w3.cell? ⟨w.heap.size + 1, 1, none⟩ = some (.slice qa nn.length qc) := Lib.cell_of_heap ko3 1
               have fO3 := Lib.frozen_of_heap ko3)
            | (go_simp; refine (unhide HM).mono ?_
               rintro e w4 ⟨r4, ib, rfl, hE2, hFi, bb2⟩
               obtain ⟨za, zc, rfl, hy1, hy2⟩ := hE2.form
               have hsz2 : wB.heap.size ≤ w4.heap.size := bb2.size
               have hCS2 := (unhide HCB).below bb2
               have hab : Below w4.heap.size w4 (w4.alloc (.cells #[.int .i64 h.waiting[m].ver, .slice za h.waiting[m].ptrs.length zc] 53)) := alloc_b _ _
               have hCS3 := hCS2.below hab
               have O3 := hide hCS3.o2
               have E3 := hide (show nwsE.E (w4.alloc (.cells #[.int .i64 h.waiting[m].ver, .slice za h.waiting[m].ptrs.length zc] 53)) [.int .i64 h.waiting[m].ver, .slice za h.waiting[m].ptrs.length zc] h.waiting[m] ib from ⟨_, rfl, hE2.below hab⟩)
               have HFI := hide (hFi.mono (B' := w2.heap.size) (by have := (unhide HFR).size; simp at this ⊢; omega))
               have HAP : Hid (∀ b ∈ ib, b ∉ b2) := fun b hb hbl => by have h1 := hFi.2 b hb; have h2 := (unhide HCB).o2.lt b hbl; simp at h1 h2; omega
               have HAP2 : Hid (∀ b ∈ ib, b ∉ b1) := fun b hb hbl => by have h1 := hFi.2 b hb; have h2 := (unhide HCB).o1.lt b hbl; simp at h1 h2; omega
               have HONE : Hid (∀ u ∈ [Value.int .i64 h.waiting[m].ver, .slice za h.waiting[m].ptrs.length zc], u.oneCell' = true) := fun u hu => by simp at hu; rcases hu with rfl | rfl <;> rfl
               have HC3 := hide hCS3
               have HF2 := hide (((unhide HFR).next bb2).next hab)
               have e0' : w4.cell? ⟨M, 0, none⟩ = some (.int .i64 h.waiting[m].ver) := (bb2.cell (p := ⟨M, 0, none⟩) (by simp; omega)).trans e0
               have cO2 : w4.cell? ⟨w.heap.size + 1, 1, none⟩ = some (.slice qa nn.length qc) := Lib.cell_of_heap hCS2.ko 1
               have cO4 : (w4.alloc (.cells #[.int .i64 h.waiting[m].ver, .slice za h.waiting[m].ptrs.length zc] 53)).cell? ⟨w.heap.size + 1, 1, none⟩ = some (.slice qa nn.length qc) := Lib.cell_of_heap hCS3.ko 1))
          all_goals (
            have hn := (unhide HC3).news hg4 o4 (f4.mono (by omega)) m4 (unhide HAP2)
            have fn := ((unhide HF2).grown hg4 (fun j hj => (unhide HF).2 _ ((unhide O3).head hj))).set (g := w.heap.size + 1) (by simp) 1 (.slice va (nn ++ [h.waiting[m]]).length vc)
            rw [List.length_append, List.length_singleton] at hn fn
            rw [← unhide HNX] at hn
            have HN := hide hn
            have FN := hide fn
            have F4 := hide f4
            clear hn fn o4 f4 m4 hg4 hv1 hv2 ko3 cO3 fO3 cO2 cO4 HC3 HF2 HONE HAP HAP2 HFI E3 O3 hCS3 hab hCS2 hy1 hy2 hE2 hFi bb2 HM HCB HFR HF e0 e1 e0' cT KM
            go_wp2
            go_roundw)
          all_goals first
            | exact ⟨m + 1, by omega, by go_num, unhide FN, _, _, unhide HN, unhide F4⟩
            | (simp [intOf]; omega)
        · have hm' : m = h.waiting.length := by omega
          subst hm'
          rw [List.take_length] at hcs
          obtain ⟨pa, pc, rfl, hfp, hfp2⟩ := hcs.o1.form
          obtain ⟨qa, qc, rfl, hfq, hfq2⟩ := hcs.o2.form
          have d0 : wr.cell? ⟨w.heap.size + 1, 0, none⟩ = some (.slice pa h.watches.length pc) := Lib.cell_of_heap hcs.ko 0
          have d1 : wr.cell? ⟨w.heap.size + 1, 1, none⟩ = some (.slice qa h.waiting.length qc) := Lib.cell_of_heap hcs.ko 1
          have r0 : wr.cell? ⟨w.heap.size, 0, none⟩ = some (.slice none 0 0) := Lib.cell_of_heap kr 0
          have r1 : wr.cell? ⟨w.heap.size, 1, none⟩ = some (.slice none 0 0) := Lib.cell_of_heap kr 1
          have fr := Lib.frozen_of_heap kr
          have HC := hide hcs
          have HKR := hide kr
          clear hcs kr hfr hF hfp hfp2 hfq hfq2
          go_wp2
          refine bodyPost_ret (results_cell_row rfl _ _ w.heap.size 47 #[_, _] (0, 0) _ rfl (putN_full (unhide HKR) [_, _] rfl) Tryz.underlying47 rfl (by kernel_rfl)) rfl ?_
          have hn : w.heap.size ∉ b1 ++ b2 := fun hm => by have := (unhide HC).fs.2 _ hm; omega
          have n1 : w.heap.size ∉ b1 := fun hm => hn (List.mem_append.2 (.inl hm))
          have n2 : w.heap.size ∉ b2 := fun hm => hn (List.mem_append.2 (.inr hm))
          refine ⟨_, b1 ++ b2, rfl, ⟨_, _, b1, b2, rfl, (unhide HC).o1.putN n1 [_, _] 0, (unhide HC).o2.putN n2 [_, _] 0, rfl⟩, (unhide HC).fs.mono (by omega), ?_⟩
          exact putN_below (g := w.heap.size) (unhide HC).bel (Nat.le_refl _) [_, _] 0
theorem tellHub_walk (B : Nat) (h : Hb) (pv cv : Value) (f c : Nat) (ns : List Nws) (cb bw : List Nat) (w : World) (hb : Brd w B h pv cv f c ns cb bw) (hs : szHb h ≤ 2097154) (hs1 : ∀ x ∈ h.watches, szWat x ≤ 1048577) (hs2 : ∀ x ∈ h.waiting, x.ptrs.length ≤ 1048577) :
    Calls Tryz.prog 62 #[.pointer (some ⟨B, 0, none⟩)] w fun e w' => ∃ v' bl', e = .returned v' ∧ OHub w' v' h bl' ∧ Fsh w.heap.size bl' ∧ Below w.heap.size w w' :=
  tellHub2_walk B h pv cv f c ns cb bw w hb (by unfold szHb szWats at hs; omega) (by unfold szHb szNwss at hs; omega) (fun x hx => by have := hs1 x hx; omega) hs2
end Go.Proofs.YtlfonikfjibloaaGreatDoor
