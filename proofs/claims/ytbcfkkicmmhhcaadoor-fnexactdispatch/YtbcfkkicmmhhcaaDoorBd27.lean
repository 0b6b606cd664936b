import Derived.Test.YtbcfkkicmmhhcaaDoorBd26
namespace Go.Proofs.YtbcfkkicmmhhcaaDoor
open Go.RowKit

set_option maxHeartbeats 800000 in
set_option maxRecDepth 100000 in
theorem copyMsg_walk (a0 a1 a2 : Value) (m : Msg) (ib : List Nat) (w : World) (h : msgE.E w [a0, a1, a2] m ib) (hs : szMsg m ≤ 2097154) :
    Calls Tryd.prog 104 #[.agg #[a0, a1, a2]] w fun e w' => ∃ b0 b1 b2 jb, e = .returned (.agg #[b0, b1, b2]) ∧ msgE.E w' [b0, b1, b2] m jb ∧ Fsh (w.heap.size + 1) jb ∧ Below w.heap.size w w' := by
  obtain ⟨q, hq, h1⟩ := h
  injection hq with e0 hq; injection hq with e1 hq; injection hq with e2 hq
  subst e0; subst e1; subst e2
  have hl : m.ptrs.length ≤ 2097154 := by unfold szMsg szStr at hs; omega
  clear hs hq
  have H1 := hide h1
  clear h1
  go_enter Tryd.func104, Tryd.ntmps104
  go_wp2_with fail
  have hA := new2 w (Obj.cells #[Value.int IntKind.i64 m.ver, a1, Value.bool m.over] 115) (Obj.cells #[Value.int IntKind.i64 0, Value.slice none 0 0, Value.bool false] 115)
  generalize ((w.alloc (Obj.cells #[Value.int IntKind.i64 m.ver, a1, Value.bool m.over] 115)).alloc (Obj.cells #[Value.int IntKind.i64 0, Value.slice none 0 0, Value.bool false] 115)) = wA at *
  refine (copiedStr_walk a1 m.ptrs ib wA ((unhide H1).below hA.bel) hl).mono ?_
  rintro e w1 ⟨v', bl, rfl, ho, hf, b1⟩
  obtain ⟨xa, xc, rfl, _, _⟩ := ho.form
  have hsz := hA.size
  have k0 := (b1.block w.heap.size (by omega)).trans hA.k0
  have k1 := (b1.block (w.heap.size + 1) (by omega)).trans hA.k1
  have c00 : w1.cell? ⟨w.heap.size, 0, none⟩ = some (.int .i64 m.ver) := Lib.cell_of_heap k0 0
  have c01 : w1.cell? ⟨w.heap.size, 1, none⟩ = some a1 := Lib.cell_of_heap k0 1
  have c02 : w1.cell? ⟨w.heap.size, 2, none⟩ = some (.bool m.over) := Lib.cell_of_heap k0 2
  have c10 : w1.cell? ⟨w.heap.size + 1, 0, none⟩ = some (.int .i64 0) := Lib.cell_of_heap k1 0
  have c11 : w1.cell? ⟨w.heap.size + 1, 1, none⟩ = some (.slice none 0 0) := Lib.cell_of_heap k1 1
  have c12 : w1.cell? ⟨w.heap.size + 1, 2, none⟩ = some (.bool false) := Lib.cell_of_heap k1 2
  have f0 := Lib.frozen_of_heap k0
  have f1 := Lib.frozen_of_heap k1
  have HB := hide (below_next hA.bel b1)
  have HO := hide ho
  have HF := hide hf
  have HK := hide k1
  clear b1 ho hf hA H1 k0 k1
  go_wp2
  refine bodyPost_ret (results_cell_row rfl _ _ (w.heap.size + 1) 115 #[_, _, _] (0, 0) _ rfl (putN_full (w := putN w1 w.heap.size 1 [_]) ((putN_other (by omega) _ _).trans (unhide HK)) [_, _, _] rfl) Tryd.underlying115 rfl (by kernel_rfl)) rfl ?_
  have n1 := (unhide HF).not (g := w.heap.size) (by omega)
  have n2 := (unhide HF).not (g := w.heap.size + 1) (by omega)
  refine ⟨_, _, _, bl, rfl, ⟨_, rfl, ((unhide HO).putN n1 [_] 1).putN n2 [_, _, _] 0⟩, (unhide HF).mono (by omega), ?_⟩
  exact putN_below (g := w.heap.size + 1) (putN_below (g := w.heap.size) (unhide HB) (by omega) [_] 1) (by omega) [_, _, _] 0


theorem Fr.grown {bl : List Nat} {a w w' : World} {row : Option Nat} (h : Fr bl a w) (hg : w.grownBy w' row) (hr : ∀ k, row = some k → a.heap.size ≤ k) : Fr bl a w' :=
  ⟨hg.os.trans h.os, hg.tape.trans h.tape, hg.output.trans h.output, Nat.le_trans h.size hg.size, fun i hi hn => (hg.block i (Nat.lt_of_lt_of_le hi h.size) fun e => by have := hr i e.symm; omega).trans (h.block i hi hn)⟩
/-- A watch at work: a pointer to its block, its messages in a ring. -/
def wtrE : Elem Wat where
  T := 116
  wd := 1
  E := fun w vs m bl => ∃ g cv f c ms cb, vs = [.pointer (some ⟨g, 0, none⟩)] ∧ w.heap[g]? = some (.cells #[.int .i64 m.client, .string m.ptr, .int .i64 m.cap, .int .i64 m.since, .bool m.closed, .slice none 0 0, cv, .int .i64 (f : Nat), .int .i64 (c : Nat)] 118 (0, 0)) ∧
    ORow msgE w cv ms (cv.ownBlock.toList ++ cb) ∧ RingIs ms f c m.queue ∧ ms.length ≤ 4000000 ∧ bl = g :: (cv.ownBlock.toList ++ cb)
  len := fun h => by obtain ⟨g, cv, f, c, ms, cb, h, _⟩ := h; rw [h]; rfl
  lt := fun h => by
    obtain ⟨g, cv, f, c, ms, cb, _, h1, h2, _, _, rfl⟩ := h
    intro b hb
    rcases List.mem_cons.1 hb with rfl | hb
    · exact (Array.getElem?_eq_some_iff.1 h1).1
    · exact h2.lt b hb
  keep := fun h hk => by
    obtain ⟨g, cv, f, c, ms, cb, h0, h1, h2, h3, h4, rfl⟩ := h
    exact ⟨g, cv, f, c, ms, cb, h0, (hk g (by simp)).trans h1, h2.keep fun b hb => hk b (List.mem_cons_of_mem _ hb), h3, h4, rfl⟩

set_option maxHeartbeats 800000 in
set_option maxRecDepth 100000 in
theorem tellWat_walk (v : Value) (m : Wat) (bl : List Nat) (w : World) (h : wtrE.E w [v] m bl) (hs : szWat m ≤ 2097154) :
    Calls Tryd.prog 70 #[v] w fun e w' => ∃ b0 b1 b2 b3 b4 b5 jb, e = .returned (.agg #[b0, b1, b2, b3, b4, b5]) ∧ watE.E w' [b0, b1, b2, b3, b4, b5] m jb ∧ Fsh w.heap.size jb ∧ Below w.heap.size w w' := by
  obtain ⟨g, cv, f, c, ms, cb, hv, hk, ho, hr, hml, rfl⟩ := h
  injection hv with hv _
  subst hv
  have hgl : g < w.heap.size := (Array.getElem?_eq_some_iff.1 hk).1
  have hl : szMsgs m.queue ≤ 2097154 := by unfold szWat at hs; omega
  have hqn : m.queue.length ≤ 2097154 := by unfold szMsgs at hl; omega
  have hsz : ∀ k (hk : k < m.queue.length), szMsg m.queue[k] ≤ 2097154 := fun k hk => by
    have h1 := sum_take_snoc szMsg m.queue k m.queue[k] (List.getElem?_eq_getElem hk)
    have h2 := sum_take_le (m.queue.map szMsg) (k + 1)
    rw [← List.map_take] at h2
    unfold szMsgs at hl; omega
  have HZ := hide hsz
  have HO := hide ho
  have HR := hide hr
  have HK := hide hk
  have c0 : w.cell? ⟨g, 0, none⟩ = some (.int .i64 m.client) := Lib.cell_of_heap hk 0
  have c1 : w.cell? ⟨g, 1, none⟩ = some (.string m.ptr) := Lib.cell_of_heap hk 1
  have c2 : w.cell? ⟨g, 2, none⟩ = some (.int .i64 m.cap) := Lib.cell_of_heap hk 2
  have c3 : w.cell? ⟨g, 3, none⟩ = some (.int .i64 m.since) := Lib.cell_of_heap hk 3
  have c4 : w.cell? ⟨g, 4, none⟩ = some (.bool m.closed) := Lib.cell_of_heap hk 4
  have c5 : w.cell? ⟨g, 5, none⟩ = some (.slice none 0 0) := Lib.cell_of_heap hk 5
  clear ho hr hk hsz hs hl
  go_enter Tryd.func70, Tryd.ntmps70
  go_wp2_with fail
  have hA := new2 w (Obj.cells #[Value.int IntKind.i64 0, Value.string ⟨#[]⟩, Value.int IntKind.i64 0, Value.int IntKind.i64 0, Value.bool false, Value.slice none 0 0] 72) (Obj.cells #[Value.int IntKind.i64 m.client, Value.string m.ptr, Value.int IntKind.i64 m.cap, Value.int IntKind.i64 m.since, Value.bool m.closed, Value.slice none 0 0] 72)
  generalize ((w.alloc (Obj.cells #[Value.int IntKind.i64 0, Value.string ⟨#[]⟩, Value.int IntKind.i64 0, Value.int IntKind.i64 0, Value.bool false, Value.slice none 0 0] 72)).alloc (Obj.cells #[Value.int IntKind.i64 m.client, Value.string m.ptr, Value.int IntKind.i64 m.cap, Value.int IntKind.i64 m.since, Value.bool m.closed, Value.slice none 0 0] 72)) = wA at *
  have kA := (hA.bel.block g hgl).trans (unhide HK)
  have hRA : RingAt msgE wA g 6 cv f c ms m.queue cb := ⟨Lib.cell_of_heap kA 6, Lib.cell_of_heap kA 7, Lib.cell_of_heap kA 8, (unhide HO).below hA.bel, unhide HR⟩
  refine (listMsg_walk g 6 cv f c ms m.queue cb wA hRA hml).mono ?_
  rintro e w1 ⟨lv, cb', rfl, ol, gl, sl, bl1⟩
  obtain ⟨la, lc, rfl, hl1, hl2⟩ := ol.form
  have hsz := hA.size
  have B1 := below_next hA.bel bl1
  have k0 := (bl1.block w.heap.size (by omega)).trans hA.k0
  have k1 := (bl1.block (w.heap.size + 1) (by omega)).trans hA.k1
  have hz1 := bl1.size
  have hno : ∀ b ∈ (Value.slice la m.queue.length lc).ownBlock.toList ++ cb', b ∉ [w.heap.size + 1] := fun b hb hm => by
    simp at hm
    rcases List.mem_append.1 hb with h1 | h1
    · have := gl b (by simpa using h1); omega
    · have := (unhide HO).lt b (List.mem_append.2 (.inr (sl b h1))); omega
  have HL := hide ol
  have HB1 := hide B1
  have HK0 := hide k0
  have HK1 := hide k1
  have HSH := hide hl2
  have HNO := hide hno
  clear hA kA hRA ol gl sl bl1 hl1 hl2 B1 k0 k1 HO HR HK c0 c1 c2 c3 c4 c5 hno
  go_wp2
  go_loopw [15] (fun i wr => ∃ k : Nat, k ≤ m.queue.length ∧ i = .int .i64 (k : Int) ∧ Fr [w.heap.size + 1] w1 wr ∧ ∃ tv bl, wr.heap[w.heap.size + 1]? = some (.cells #[.int .i64 m.client, .string m.ptr, .int .i64 m.cap, .int .i64 m.since, .bool m.closed, tv] 72 (0, 0)) ∧ ORow msgE wr tv (m.queue.take k) bl ∧ Fsh w1.heap.size bl) (fun i _ => m.queue.length - (intOf i).toNat)
  case atStart => exact ⟨0, Nat.zero_le _, rfl, Fr.refl _ _, _, [], unhide HK1, ORow.nil _ _, Fsh.nil _⟩
  case round =>
    obtain ⟨k, hk, rfl, hfr, tv, bl, hkt, ho, hF⟩ := hrel
    have hfs := hfr.size
    have kr : wr.heap[w.heap.size]? = _ := (hfr.block w.heap.size (by omega) (by simp)).trans (unhide HK0)
    have hbw : Below w.heap.size w wr := (unhide HB1).trans (hfr.below (fun b hb => by simp at hb; omega) (by omega))
    by_cases hlt : k < m.queue.length
    · obtain ⟨gl, rfl⟩ := unhide HSH (by omega)
      obtain ⟨ta, tc, rfl, ht1, ht2⟩ := ho.form
      have hL := (unhide HL).keep (hfr.kp (unhide HL).lt (unhide HNO))
      obtain ⟨vs, jb, hE, hc, hx1, hx2, hx3⟩ := hL.at (List.getElem?_eq_getElem hlt)
      have hE0 := hE
      obtain ⟨qv, hvs, hq⟩ := hE0
      subst hvs
      obtain ⟨ya, yc, rfl, hy1, hy2⟩ := hq.form
      have c0 : wr.cell? ⟨gl, k * 3, none⟩ = some (.int .i64 m.queue[k].ver) := (hc 0 _ rfl).1
      have c1 : wr.cell? ⟨gl, k * 3 + 1, none⟩ = some (.slice ya m.queue[k].ptrs.length yc) := (hc 1 _ rfl).1
      have c2 : wr.cell? ⟨gl, k * 3 + 2, none⟩ = some (.bool m.queue[k].over) := (hc 2 _ rfl).1
      have hnx : m.queue.take (k + 1) = m.queue.take k ++ [m.queue[k]] := by rw [List.take_add_one, List.getElem?_eq_getElem hlt]; rfl
      have hll : (m.queue.take k).length = k := by rw [List.length_take]; omega
      generalize m.queue.take k = ns at *
      have hab := alloc_b wr (.cells #[.int .i64 m.queue[k].ver, .slice ya m.queue[k].ptrs.length yc, .bool m.queue[k].over] 115)
      have kt : (wr.alloc (.cells #[.int .i64 m.queue[k].ver, .slice ya m.queue[k].ptrs.length yc, .bool m.queue[k].over] 115)).heap[w.heap.size + 1]? = _ := (hab.block _ (Array.getElem?_eq_some_iff.1 hkt).1).trans hkt
      have cT : (wr.alloc (.cells #[.int .i64 m.queue[k].ver, .slice ya m.queue[k].ptrs.length yc, .bool m.queue[k].over] 115)).cell? ⟨w.heap.size + 1, 5, none⟩ = some (.slice ta ns.length tc) := Lib.cell_of_heap kt 5
      have kM := heap_alloc_new wr (.cells #[.int .i64 m.queue[k].ver, .slice ya m.queue[k].ptrs.length yc, .bool m.queue[k].over] 115)
      have hdr : ∀ w' : World, Below w'.heap.size w' w'.drew := fun w' => (Below.refl _ _).drew
      have hbd := below_next hab (hdr _)
      have HM := hide (copyMsg_walk _ _ _ m.queue[k] jb _ (msgE.keep hE (.of_below hbd (msgE.lt hE))) (unhide HZ k hlt))
      have hasz : (wr.alloc (.cells #[.int .i64 m.queue[k].ver, .slice ya m.queue[k].ptrs.length yc, .bool m.queue[k].over] 115)).heap.size = wr.heap.size + 1 := by simp
      have HO := hide (ho.below hbd)
      have HFR := hide (hfr.next hbd)
      have HF := hide hF
      have HKT := hide kt
      have HNX := hide hnx
      have HLL := hide hll
      have hltI : (k : Int) < (m.queue.length : Int) := by omega
      have hnl : ns.length ≤ 2097154 := by omega
      have HAS := hide hasz
      have HBW := hide hbw
      clear hL hx1 hx2 hx3 hc hE hq hy1 hy2 ht1 ht2 ho hfr hF hnx hll hkt kt hbd hab hdr kM hasz kr hbw
      go_wp2
      have kM := heap_alloc_new wr (.cells #[.int .i64 m.queue[k].ver, .slice ya m.queue[k].ptrs.length yc, .bool m.queue[k].over] 115)
      generalize (wr.alloc (.cells #[.int .i64 m.queue[k].ver, .slice ya m.queue[k].ptrs.length yc, .bool m.queue[k].over] 115)) = wB at *
      generalize wr.heap.size = M at *
      have hbs := unhide HAS
      have e0 : wB.cell? ⟨M, 0, none⟩ = some (.int .i64 m.queue[k].ver) := Lib.cell_of_heap kM 0
      have e1 : wB.cell? ⟨M, 1, none⟩ = some (.slice ya m.queue[k].ptrs.length yc) := Lib.cell_of_heap kM 1
      have e2 : wB.cell? ⟨M, 2, none⟩ = some (.bool m.queue[k].over) := Lib.cell_of_heap kM 2
      clear kM HAS c0 c1 c2
      go_region_law (first
        | (refine step_append_elem (e := msgE) msg_ty (by decide) Tryd.underlying70 infoMsg rfl (by decide) (by decide) rfl (.tmp 20) (.tmp 23) rfl rfl (unhide O3) (unhide HF) (unhide E3) (unhide HFI) (unhide HAP) rfl (by exact lit_cells w2 [_, _, _] _) (by exact unhide HONE) (by simp; omega) (by omega) ?_
           intro v' w3 bl' o4 f4 m4 hg4
           obtain ⟨va, vc, rfl, hv1, hv2⟩ := o4.form
           have ko3 := (hg4.block (w.heap.size + 1) (by simp; omega) fun e => by have := (unhide HF).2 _ ((unhide O3).head e.symm); omega).trans kt3
           have cO3 : w3.cell? ⟨w.heap.size + 1, 5, none⟩ = some (.slice ta ns.length tc) := Lib.cell_of_heap ko3 5
           have fO3 := Lib.frozen_of_heap ko3)
        | (go_simp; refine (unhide HM).mono ?_
           rintro e w2 ⟨b0, b1, b2, ib, rfl, hE2, hFi, bb2⟩
           have hE0 := hE2
           obtain ⟨q0, hbs0, hE1⟩ := hE0
           injection hbs0 with f0 hbs0; injection hbs0 with f1 hbs0; injection hbs0 with f2 hbs0
           subst f0; subst f1; subst f2
           obtain ⟨za, zc, rfl, hy1, hy2⟩ := hE1.form
           have hsz2 : wB.heap.size ≤ w2.heap.size := bb2.size
           have kt2 := (bb2.block (w.heap.size + 1) (by simp; omega)).trans (unhide HKT)
           have hab : Below w2.heap.size w2 (w2.alloc (.cells #[.int .i64 m.queue[k].ver, .slice za m.queue[k].ptrs.length zc, .bool m.queue[k].over] 115)) := alloc_b _ _
           have kt3 := (hab.block (w.heap.size + 1) (by omega)).trans kt2
           have O3 := hide (((unhide HO).below bb2).below hab)
           have E3 := hide (msgE.keep hE2 (.of_below hab (msgE.lt hE2)))
           have HFI := hide (hFi.mono (B' := w1.heap.size) (by have := (unhide HFR).size; simp at this ⊢; omega))
           have HAP : Hid (∀ b ∈ ib, b ∉ bl) := fun b hb hbl => by have h1 := hFi.2 b hb; have h2 := (unhide HO).lt b hbl; simp at h1 h2; omega
           have HONE : Hid (∀ u ∈ [Value.int .i64 m.queue[k].ver, .slice za m.queue[k].ptrs.length zc, .bool m.queue[k].over], u.oneCell' = true) := fun u hu => by simp at hu; rcases hu with rfl | rfl | rfl <;> rfl
           have HF2 := hide (((unhide HFR).next bb2).next hab)
           have cO2 : w2.cell? ⟨w.heap.size + 1, 5, none⟩ = some (.slice ta ns.length tc) := Lib.cell_of_heap kt2 5
           have cO4 : (w2.alloc (.cells #[.int .i64 m.queue[k].ver, .slice za m.queue[k].ptrs.length zc, .bool m.queue[k].over] 115)).cell? ⟨w.heap.size + 1, 5, none⟩ = some (.slice ta ns.length tc) := Lib.cell_of_heap kt3 5))
      all_goals (
        have hl1 : (ns ++ [m.queue[k]]).length = ns.length + 1 := by rw [List.length_append]; rfl
        have kn := heap_setCell_same _ _ 5 _ _ (.slice va (ns ++ [m.queue[k]]).length vc) ko3
        have on := o4.other (g := w.heap.size + 1) (fun hm => by have := f4.2 _ hm; omega) 5 (.slice va (ns ++ [m.queue[k]]).length vc)
        have fn := ((unhide HF2).grown hg4 (fun j hj => (unhide HF).2 _ ((unhide O3).head hj))).set (g := w.heap.size + 1) (by simp) 5 (.slice va (ns ++ [m.queue[k]]).length vc)
        rw [hl1] at kn on fn
        rw [← unhide HNX] at on
        have KN := hide kn
        have ON := hide on
        have FN := hide fn
        have F4 := hide f4
        clear kn on fn o4 f4 m4 hg4 hv1 hv2 ko3 cO3 fO3 cO2 cO4 HF2 HONE HAP HFI E3 O3 kt3 hab kt2 hy1 hy2 hE1 hbs0 hE2 hFi bb2 HM HO HFR HF HKT e0 e1 e2 cT hl1
        go_wp2
        go_roundw)
      all_goals first
        | (refine ⟨k + 1, by omega, by go_num, unhide FN, _, bl', unhide KN, unhide ON, unhide F4⟩)
        | (simp [intOf]; omega)
    · have hk' : k = m.queue.length := by omega
      subst hk'
      rw [List.take_length] at ho
      obtain ⟨ta, tc, rfl, ht1, ht2⟩ := ho.form
      have d0 : wr.cell? ⟨w.heap.size + 1, 0, none⟩ = some (.int .i64 m.client) := Lib.cell_of_heap hkt 0
      have d1 : wr.cell? ⟨w.heap.size + 1, 1, none⟩ = some (.string m.ptr) := Lib.cell_of_heap hkt 1
      have d2 : wr.cell? ⟨w.heap.size + 1, 2, none⟩ = some (.int .i64 m.cap) := Lib.cell_of_heap hkt 2
      have d3 : wr.cell? ⟨w.heap.size + 1, 3, none⟩ = some (.int .i64 m.since) := Lib.cell_of_heap hkt 3
      have d4 : wr.cell? ⟨w.heap.size + 1, 4, none⟩ = some (.bool m.closed) := Lib.cell_of_heap hkt 4
      have d5 : wr.cell? ⟨w.heap.size + 1, 5, none⟩ = some (.slice ta m.queue.length tc) := Lib.cell_of_heap hkt 5
      have r0 : wr.cell? ⟨w.heap.size, 0, none⟩ = some (.int .i64 0) := Lib.cell_of_heap kr 0
      have r1 : wr.cell? ⟨w.heap.size, 1, none⟩ = some (.string ⟨#[]⟩) := Lib.cell_of_heap kr 1
      have r2 : wr.cell? ⟨w.heap.size, 2, none⟩ = some (.int .i64 0) := Lib.cell_of_heap kr 2
      have r3 : wr.cell? ⟨w.heap.size, 3, none⟩ = some (.int .i64 0) := Lib.cell_of_heap kr 3
      have r4 : wr.cell? ⟨w.heap.size, 4, none⟩ = some (.bool false) := Lib.cell_of_heap kr 4
      have r5 : wr.cell? ⟨w.heap.size, 5, none⟩ = some (.slice none 0 0) := Lib.cell_of_heap kr 5
      have fr := Lib.frozen_of_heap kr
      have HB := hide hbw
      have HO := hide ho
      have HF := hide hF
      have HKR := hide kr
      clear hbw ho hF kr hkt hfr ht1 ht2
      go_wp2
      refine bodyPost_ret (results_cell_row rfl _ _ w.heap.size 72 #[_, _, _, _, _, _] (0, 0) _ rfl (putN_full (unhide HKR) [_, _, _, _, _, _] rfl) Tryd.underlying72 rfl (by kernel_rfl)) rfl ?_
      have n1 := (unhide HF).not (g := w.heap.size) (by omega)
      refine ⟨_, _, _, _, _, _, bl, rfl, ⟨_, rfl, (unhide HO).putN n1 [_, _, _, _, _, _] 0⟩, (unhide HF).mono (by omega), ?_⟩
      exact putN_below (g := w.heap.size) (unhide HB) (Nat.le_refl _) [_, _, _, _, _, _] 0
end Go.Proofs.YtbcfkkicmmhhcaaDoor
