import Derived.Test.YtlfonikfjibloaaGreatDoorBt38
namespace Go.Proofs.YtlfonikfjibloaaGreatDoor
open Go.RowKit

set_option maxHeartbeats 1600000 in
set_option maxRecDepth 100000 in
theorem popMsg_walk (g o : Nat) (cs : Array Value) (T : TypeId) (cv : Value) (f c : Nat) (ms q : List Msg) (cb : List Nat) (w : World) (hk : w.heap[g]? = some (.cells cs T (0, 0))) (hT : T ≠ 58 ∧ T ≠ 9) (h : RingAt msgE w g o cv f c ms q cb) (hm : ms.length ≤ 4000000) :
    Calls Tryz.prog 128 #[.pointer (some ⟨g, o, none⟩)] w fun e w' => (q = [] ∧ e = .returned (.tuple #[.agg #[.int .i64 0, .slice none 0 0, .bool false], .bool false]) ∧ Below w.heap.size w w') ∨
      ∃ m q' gc a1 ib cb', q = m :: q' ∧ e = .returned (.tuple #[.agg #[.int .i64 m.ver, a1, .bool m.over], .bool true]) ∧ cv.ownBlock = some gc ∧ OStr w' a1 m.ptrs ib ∧ ORow msgE w' cv (ms.set f msg0) (gc :: cb') ∧ (∀ b ∈ cb', b ∈ cb) ∧ (Once 0 cb → Once 0 cb') ∧ RingIs (ms.set f msg0) ((f + 1) % ms.length) (c - 1) q' ∧
        w'.heap[g]? = some (.cells ((cs.setIfInBounds (o + 1) (.int .i64 (((f + 1) % ms.length : Nat) : Int))).setIfInBounds (o + 2) (.int .i64 ((c - 1 : Nat) : Int))) T (0, 0)) ∧ Fr [g, gc] w w' := by
  have c2 := h.c2
  have c1 := h.c1
  have c0 := h.c0
  have hcnt := h.ring.cnt
  have H := hide h
  have HK := hide hk
  clear h hk
  have hA := new2 w (Obj.cells #[Value.int IntKind.i64 0, Value.slice none 0 0, Value.bool false] 58) (Obj.cells #[Value.int IntKind.i64 0, Value.slice none 0 0, Value.bool false] 58)
  have d2 := (hA.bel.cell (World.block_lt_of_cell? _ _ c2)).trans c2
  cases q with
  | nil =>
    have hc0 : c = 0 := by simpa using hcnt
    subst hc0
    have HA := hide hA
    clear hcnt hT hA c0 c1 c2
    go_enter Tryz.func128, Tryz.ntmps128
    go_wp2
    refine bodyPost_ret (results_cell_tmp rfl _ _ w.heap.size 58 #[_, _, _] (0, 0) _ _ rfl rfl (unhide HA).k0 Tryz.underlying58 rfl (by kernel_rfl)) rfl ?_
    exact .inl ⟨trivial, rfl, (unhide HA).bel⟩
  | cons m q =>
    have hc1 : c = q.length + 1 := by simpa using hcnt
    have hnz : ((c : Int) == 0) = false := by simp; omega
    have hnz' : (c = 0) = False := eq_false (by omega)
    obtain ⟨hring, hf, hat, -⟩ := (unhide H).ring.popped (z := msg0)
    have hl0 : 0 < ms.length := by omega
    have hmod : (f + 0) % ms.length = f := by rw [Nat.add_zero, Nat.mod_eq_of_lt hf]
    have HR := hide hring
    have HAT := hide hat
    have HA := hide hA
    obtain ⟨xa, xc, hcv, -, hxs⟩ := (unhide H).row.form
    obtain ⟨gc, rfl⟩ := hxs (by omega)
    subst hcv
    have HC := hide (cellMsg_walk g o _ f c ms (m :: q) cb 0 _ ((unhide H).below hA.bel) hl0 hm)
    rw [hmod] at HC
    have hrow := (unhide H).row.below hA.bel
    obtain ⟨vs, ib, hE, hce, hibs, -, -⟩ := hrow.at hat
    have hE0 := hE
    obtain ⟨qv, hvs, hq⟩ := hE0
    subst hvs
    obtain ⟨ya, yc, rfl, hy1, hy2⟩ := hq.form
    have y0 := (hce 0 _ rfl).1
    have y1 := (hce 1 _ rfl).1
    have y2 := (hce 2 _ rfl).1
    have z0 := (hce 0 _ rfl).2
    have z1 := (hce 1 _ rfl).2
    have z2 := (hce 2 _ rfl).2
    have HC1 := hide hc1
    have HIBS := hide hibs
    clear hcnt hring hat hmod hxs hE hce hibs hy1 hy2 hnz' hc1
    simp only [show f * msgE.wd = f * 3 from rfl, Nat.add_zero] at y0 y1 y2 z0 z1 z2
    have d0 := (hA.bel.cell (World.block_lt_of_cell? _ _ c0)).trans c0
    have d1 := (hA.bel.cell (World.block_lt_of_cell? _ _ c1)).trans c1
    have kA := (hA.bel.block g (Array.getElem?_eq_some_iff.1 (unhide HK)).1).trans (unhide HK)
    have KA := hide kA
    have HROW := hide hrow
    have HQ := hide hq
    have hsz := hA.size
    have HBE := hide hA.bel
    clear hA kA hrow hq c0 c1 c2
    go_enter Tryz.func128, Tryz.ntmps128
    go_wp2_with fail
    generalize ((w.alloc (Obj.cells #[Value.int IntKind.i64 0, Value.slice none 0 0, Value.bool false] 58)).alloc (Obj.cells #[Value.int IntKind.i64 0, Value.slice none 0 0, Value.bool false] 58)) = wA at *
    refine (unhide HC).mono ?_
    rintro e w1 ⟨gd, rfl, hgd, n1, rfl⟩
    obtain rfl : gc = gd := Option.some.inj hgd
    clear hgd HC
    have n0 : wA.cell? ⟨w.heap.size + 1, 0, none⟩ = some (.int .i64 0) := Lib.cell_of_heap (unhide HA).k1 0
    have n1' : wA.cell? ⟨w.heap.size + 1, 1, none⟩ = some (.slice none 0 0) := Lib.cell_of_heap (unhide HA).k1 1
    have n2 : wA.cell? ⟨w.heap.size + 1, 2, none⟩ = some (.bool false) := Lib.cell_of_heap (unhide HA).k1 2
    have hb1 : Below wA.heap.size wA ((wA.drewN n1).alloc (Obj.cells #[Value.int IntKind.i64 m.ver, Value.slice ya m.ptrs.length yc, Value.bool m.over] 58)) := below_next (draws_b wA n1) (alloc_b _ _)
    have kX : ((wA.drewN n1).alloc (Obj.cells #[Value.int IntKind.i64 m.ver, Value.slice ya m.ptrs.length yc, Value.bool m.over] 58)).heap[w.heap.size + 1 + 1]? = some (Obj.cells #[Value.int IntKind.i64 m.ver, Value.slice ya m.ptrs.length yc, Value.bool m.over] 58) := by rw [← hsz]; exact heap_alloc_new (wA.drewN n1) _
    have hs1 : ((wA.drewN n1).alloc (Obj.cells #[Value.int IntKind.i64 m.ver, Value.slice ya m.ptrs.length yc, Value.bool m.over] 58)).heap.size = w.heap.size + 1 + 1 + 1 := by rw [← hsz]; simp
    have HB1 := hide hb1
    have KX := hide kX
    clear hb1 kX
    go_wp2_with fail
    generalize ((wA.drewN n1).alloc (Obj.cells #[Value.int IntKind.i64 m.ver, Value.slice ya m.ptrs.length yc, Value.bool m.over] 58)) = w1 at *
    have hb1 := unhide HB1
    have d0' := (hb1.cell (World.block_lt_of_cell? _ _ d0)).trans d0
    have d1' := (hb1.cell (World.block_lt_of_cell? _ _ d1)).trans d1
    have d2' := (hb1.cell (World.block_lt_of_cell? _ _ d2)).trans d2
    have m0 := (hb1.cell (World.block_lt_of_cell? _ _ n0)).trans n0
    have m1 := (hb1.cell (World.block_lt_of_cell? _ _ n1')).trans n1'
    have m2 := (hb1.cell (World.block_lt_of_cell? _ _ n2)).trans n2
    have s0 := (hb1.cell (World.block_lt_of_cell? _ _ y0)).trans y0
    have s1 := (hb1.cell (World.block_lt_of_cell? _ _ y1)).trans y1
    have s2 := (hb1.cell (World.block_lt_of_cell? _ _ y2)).trans y2
    have t0 := (hb1.frozen (World.block_lt_of_cell? _ _ y0)).trans z0
    have t1 := (hb1.frozen (World.block_lt_of_cell? _ _ y1)).trans z1
    have t2 := (hb1.frozen (World.block_lt_of_cell? _ _ y2)).trans z2
    have k1 := (hb1.block g (Array.getElem?_eq_some_iff.1 (unhide KA)).1).trans (unhide KA)
    have row1 := (unhide HROW).below hb1
    have q1 := (unhide HQ).below hb1
    have hdr : Below w1.heap.size w1 w1.drew := (Below.refl _ _).drew
    have HC2 := hide (cellMsg_walk g o _ f c ms (m :: q) cb 0 w1.drew ((RingAt.mk d0' d1' d2' row1 (unhide H).ring).below hdr) hl0 hm)
    rw [show (f + 0) % ms.length = f from by rw [Nat.add_zero, Nat.mod_eq_of_lt hf]] at HC2
    have K1 := hide k1
    have ROW1 := hide row1
    have Q1 := hide q1
    have R0 := hide ((hb1.block w.heap.size (by omega)).trans (unhide HA).k0)
    have BW1 := hide (below_next (unhide HBE) hb1)
    clear d0 d1 d2 n0 n1' n2 y0 y1 y2 z0 z1 z2 hb1 HB1 k1 row1 q1 hdr KA HROW HQ HBE HA
    go_region_law (go_simp; refine (unhide HC2).mono ?_; rintro e w6 ⟨gd, rfl, hgd, n6, rfl⟩; obtain rfl : gd = gc := (Option.some.inj hgd).symm; have b6 : Below w1.heap.size w1 (w1.drew.drewN n6) := ⟨rfl, rfl, rfl, Nat.le_refl _, fun _ _ => rfl⟩; have m0' := (b6.cell (World.block_lt_of_cell? _ _ m0)).trans m0; have m1' := (b6.cell (World.block_lt_of_cell? _ _ m1)).trans m1; have m2' := (b6.cell (World.block_lt_of_cell? _ _ m2)).trans m2; have s0' := (b6.cell (World.block_lt_of_cell? _ _ s0)).trans s0; have s1' := (b6.cell (World.block_lt_of_cell? _ _ s1)).trans s1; have s2' := (b6.cell (World.block_lt_of_cell? _ _ s2)).trans s2; have t0' := (b6.frozen (World.block_lt_of_cell? _ _ s0)).trans t0; have t1' := (b6.frozen (World.block_lt_of_cell? _ _ s1)).trans t1; have t2' := (b6.frozen (World.block_lt_of_cell? _ _ s2)).trans t2)
    all_goals (
      have e6 : w1.drew.drewN n6 = w1.drewN (1 + n6) := by simp
      rw [e6] at b6
      have hgl : gd < w.heap.size := (unhide H).row.lt gd (by simp [Value.ownBlock])
      have hgw : g < w.heap.size := (Array.getElem?_eq_some_iff.1 (unhide HK)).1
      have row6 : ORow msgE (w1.drewN (1 + n6)) (.slice (some ⟨gd, 0, none⟩) ms.length xc) ms (gd :: cb) := (unhide ROW1).below b6
      obtain ⟨cb', row7, sub7, on7⟩ := orow_putAll2 msg_ty (by decide) row6 (j := f) hf (vs := [.int .i64 0, .slice none 0 0, .bool false]) (x := msg0) (ib := []) ⟨_, rfl, ORow.nil _ _⟩
      obtain ⟨w7, hw7⟩ : ∃ w7, w7 = (((w1.drewN (1 + n6)).setCell ⟨gd, f * 3, none⟩ (.int .i64 0)).setCell ⟨gd, f * 3 + 1, none⟩ (.slice none 0 0)).setCell ⟨gd, f * 3 + 2, none⟩ (.bool false) := ⟨_, rfl⟩
      have hw7' : w7 = putN (w1.drewN (1 + n6)) gd (f * 3) [.int .i64 0, .slice none 0 0, .bool false] := hw7
      have tyG : ∃ cur, (w1.drewN (1 + n6)).heap[gd]? = some (.cells cur 58 (0, 0)) := by
        obtain ⟨cs9, hcs9⟩ := row6.own
        obtain ⟨cur, t, e1, e2⟩ := own_ty hcs9 gd (by simp [Value.ownBlock])
        simp at e2
        exact ⟨cur, by rw [e1, e2]; rfl⟩
      have k6 := (b6.block g (by omega)).trans (unhide K1)
      have hgg : g ≠ gd := fun e => by
        obtain ⟨cur, e1⟩ := tyG
        rw [e, e1] at k6
        injection k6 with k6; injection k6 with _ k6
        exact hT.1 k6.symm
      have hib : gd ∉ ib := fun hm => by
        obtain ⟨cur, e1⟩ := tyG
        obtain ⟨cur', t, e2, e3⟩ := ostr_ty ((unhide Q1).below b6) gd hm
        rw [e1] at e2
        injection e2 with e2; injection e2 with _ e2
        rw [← e2] at e3
        exact absurd e3 (by decide)
      have hgib : g ∉ ib := fun hm => by
        obtain ⟨cur', t, e2, e3⟩ := ostr_ty ((unhide Q1).below b6) g hm
        rw [k6] at e2
        injection e2 with e2; injection e2 with _ e2
        rw [← e2] at e3
        simp at e3
        exact hT.2 e3
      have k7 : w7.heap[g]? = some (.cells cs T (0, 0)) := by rw [hw7']; exact (putN_other hgg _ _).trans k6
      have q7 : OStr w7 (.slice ya m.ptrs.length yc) m.ptrs ib := by rw [hw7']; exact ((unhide Q1).below b6).putN hib _ _
      have x7 : w7.heap[w.heap.size + 1 + 1]? = some (.cells #[.int .i64 m.ver, .slice ya m.ptrs.length yc, .bool m.over] 58) := by rw [hw7']; exact (putN_other (by omega) _ _).trans ((b6.block _ (by omega)).trans (unhide KX))
      have r7 : w7.heap[w.heap.size]? = some (.cells #[.int .i64 0, .slice none 0 0, .bool false] 58) := by rw [hw7']; exact (putN_other (by omega) _ _).trans ((b6.block _ (by omega)).trans (unhide R0))
      have hs7 : w7.heap.size = w.heap.size + 1 + 1 + 1 := by rw [hw7]; simp [World.setCell]; exact hs1
      have fr7 : Fr [g, gd] w w7 := by
        rw [hw7']
        exact ((Fr.of_below (unhide BW1)).next b6).trans ⟨rfl, rfl, rfl, by simp [putN, World.setCell], fun k _ hn => putN_other (fun e => hn (by simp [e])) _ _⟩
      have row7' : ORow msgE w7 (.slice (some ⟨gd, 0, none⟩) ms.length xc) (ms.set f msg0) (gd :: cb') := by rw [hw7']; exact row7
      have hgcb : g ∉ gd :: cb' := fun hm => by
        obtain ⟨cur', t, e2, e3⟩ := orow_ty (e := msgE) msg_ty row7' g hm
        rw [k7] at e2
        injection e2 with e2; injection e2 with _ e2
        rw [← e2] at e3
        simp at e3
        rcases e3 with e3 | e3
        · exact hT.1 e3
        · exact hT.2 e3
      have c0e : cs[o]? = some (.slice (some ⟨gd, 0, none⟩) ms.length xc) := (Lib.cell_of_heap (unhide K1) o).symm.trans d0'
      have c1e : cs[o + 1]? = some (.int .i64 (f : Int)) := (Lib.cell_of_heap (unhide K1) (o + 1)).symm.trans d1'
      have c2e : cs[o + 2]? = some (.int .i64 (c : Int)) := (Lib.cell_of_heap (unhide K1) (o + 2)).symm.trans d2'
      have a0 := (Lib.cell_of_heap k7 o).trans c0e
      have a1 := (Lib.cell_of_heap k7 (o + 1)).trans c1e
      have fz := Lib.frozen_of_heap k7 (o + 1)
      have HW7 := hide hw7
      rw [← unhide HW7]
      have u2 : ((f : Int) + 1) % (ms.length : Int) = (((f + 1) % ms.length : Nat) : Int) := by rw [Int.natCast_emod, Int.natCast_add]; rfl
      have u1 : ((f : Int) + 1).tmod (ms.length : Int) = (((f + 1) % ms.length : Nat) : Int) := by rw [Int.tmod_eq_emod_of_nonneg (by omega)]; exact u2
      have hwr : IntKind.i64.wrap ((f : Int) + 1) = (f : Int) + 1 := by rw [IntKind.wrap_i64]; omega
      have nz : ((ms.length : Int) = 0) = False := eq_false (by omega)
      have nz' : (ms.length = 0) = False := eq_false (by omega)
      have hrl : (f + 1) % ms.length < ms.length := Nat.mod_lt _ (by omega)
      generalize hr : (f + 1) % ms.length = r at *
      have HRR := hide hr
      clear hr
      have K7 := hide k7
      have Q7 := hide q7
      have X7 := hide x7
      have R7 := hide r7
      have FR7 := hide fr7
      have ROW7 := hide row7'
      have SUB7 := hide sub7
      have ON7 := hide on7
      have C2E := hide c2e
      clear hw7 hw7' HW7 k6 k7 q7 x7 r7 fr7 row7 row7' row6 sub7 on7 tyG c0e c1e c2e HC2 m0 m1 m2 m0' m1' m2' s0 s1 s2 s0' s1' s2' t0 t1 t2 t0' t1' t2' d0' d1' d2' b6 e6 K1 Q1 R0 BW1 KX ROW1 hgd
      go_wp2_with fail
      go_region_law (fail))
    all_goals (
      have k8 : ((w7.setCell ⟨g, o + 1, none⟩ (.int .i64 (r : Int))).drew).heap[g]? = some (.cells (cs.setIfInBounds (o + 1) (.int .i64 (r : Int))) T (0, 0)) := heap_setCell_same w7 g (o + 1) cs T (.int .i64 (r : Int)) (unhide K7)
      have oth : ∀ k, k ≠ g → ((w7.setCell ⟨g, o + 1, none⟩ (.int .i64 (r : Int))).drew).heap[k]? = w7.heap[k]? := fun k hk => Below.heap_setCell w7 ⟨g, o + 1, none⟩ (.int .i64 (r : Int)) k (by simpa using hk)
      have x8 := (oth (w.heap.size + 1 + 1) (by omega)).trans (unhide X7)
      have r8 := (oth w.heap.size (by omega)).trans (unhide R7)
      have q8 : OStr ((w7.setCell ⟨g, o + 1, none⟩ (.int .i64 (r : Int))).drew) (.slice ya m.ptrs.length yc) m.ptrs ib := (unhide Q7).keep fun b hb => oth b fun e => hgib (e ▸ hb)
      have row8 : ORow msgE ((w7.setCell ⟨g, o + 1, none⟩ (.int .i64 (r : Int))).drew) (.slice (some ⟨gd, 0, none⟩) ms.length xc) (ms.set f msg0) (gd :: cb') := (unhide ROW7).keep fun b hb => oth b fun e => hgcb (e ▸ hb)
      have fr8 : Fr [g, gd] w ((w7.setCell ⟨g, o + 1, none⟩ (.int .i64 (r : Int))).drew) := ((unhide FR7).set (g := g) (by simp) (o + 1) (.int .i64 (r : Int))).drew
      have hs8 : ((w7.setCell ⟨g, o + 1, none⟩ (.int .i64 (r : Int))).drew).heap.size = w.heap.size + 1 + 1 + 1 := by rw [← hs7]; simp [World.setCell]
      have c2e : (cs.setIfInBounds (o + 1) (.int .i64 (r : Int)))[o + 2]? = some (.int .i64 (c : Int)) := by
        rw [Array.getElem?_setIfInBounds_ne (by omega)]; exact unhide C2E
      have a2 := (Lib.cell_of_heap k8 (o + 2)).trans c2e
      have f2 := Lib.frozen_of_heap k8 (o + 2)
      have p0 : ((w7.setCell ⟨g, o + 1, none⟩ (.int .i64 (r : Int))).drew).cell? ⟨w.heap.size + 1 + 1, 0, none⟩ = some (.int .i64 m.ver) := Lib.cell_of_heap x8 0
      have p1 : ((w7.setCell ⟨g, o + 1, none⟩ (.int .i64 (r : Int))).drew).cell? ⟨w.heap.size + 1 + 1, 1, none⟩ = some (.slice ya m.ptrs.length yc) := Lib.cell_of_heap x8 1
      have p2 : ((w7.setCell ⟨g, o + 1, none⟩ (.int .i64 (r : Int))).drew).cell? ⟨w.heap.size + 1 + 1, 2, none⟩ = some (.bool m.over) := Lib.cell_of_heap x8 2
      have r0 : ((w7.setCell ⟨g, o + 1, none⟩ (.int .i64 (r : Int))).drew).cell? ⟨w.heap.size, 0, none⟩ = some (.int .i64 0) := Lib.cell_of_heap r8 0
      have r1 : ((w7.setCell ⟨g, o + 1, none⟩ (.int .i64 (r : Int))).drew).cell? ⟨w.heap.size, 1, none⟩ = some (.slice none 0 0) := Lib.cell_of_heap r8 1
      have r2 : ((w7.setCell ⟨g, o + 1, none⟩ (.int .i64 (r : Int))).drew).cell? ⟨w.heap.size, 2, none⟩ = some (.bool false) := Lib.cell_of_heap r8 2
      have fr := Lib.frozen_of_heap r8
      have hwc : IntKind.i64.wrap ((c : Int) - 1) = (c : Int) - 1 := by
        have := unhide HC1; have := (unhide H).ring.le
        rw [IntKind.wrap_i64]; omega
      have hcm : (c : Int) - 1 = ((c - 1 : Nat) : Int) := by have := unhide HC1; omega
      have hw64 : wrap64 ((c - 1 : Nat) : Int) = ((c - 1 : Nat) : Int) := by
        have := unhide HC1; have := (unhide H).ring.le
        unfold wrap64; omega
      have hgx : w.heap.size + 1 + 1 ≠ g := by omega
      have hgr : w.heap.size ≠ g := by omega
      have K8 := hide k8
      have X8 := hide x8
      have R8 := hide r8
      have Q8 := hide q8
      have ROW8 := hide row8
      have FR8 := hide fr8
      clear k8 oth x8 r8 q8 row8 fr8 c2e K7 X7 R7 Q7 ROW7 FR7 a0 a1 fz u1 u2 nz nz' hwr hs7 C2E
      generalize (w7.setCell ⟨g, o + 1, none⟩ (.int .i64 (r : Int))).drew = w8 at *
      go_wp2
      have k9 := heap_setCell_same w8 g (o + 2) _ T (.int .i64 ((c - 1 : Nat) : Int)) (unhide K8)
      have oth9 : ∀ k, k ≠ g → (w8.setCell ⟨g, o + 2, none⟩ (.int .i64 ((c - 1 : Nat) : Int))).heap[k]? = w8.heap[k]? := fun k hk => Below.heap_setCell w8 ⟨g, o + 2, none⟩ (.int .i64 ((c - 1 : Nat) : Int)) k (by simpa using hk)
      have r9 := (oth9 w.heap.size hgr).trans (unhide R8)
      have hil : ∀ b ∈ ib, b < w.heap.size := fun b hb => (unhide H).row.lt b (unhide HIBS b hb)
      have hcl : ∀ b ∈ cb', b < w.heap.size := fun b hb => (unhide H).row.lt b (List.mem_append.2 (.inr (by have := unhide SUB7 b hb; simpa using this)))
      refine bodyPost_ret (results_cell_tmp rfl _ _ w.heap.size 58 #[_, _, _] (0, 0) _ _ rfl rfl (putN_full r9 [_, _, _] rfl) Tryz.underlying58 rfl (by kernel_rfl)) rfl ?_
      rw [unhide HRR]
      refine .inr ⟨m, q, gd, .slice ya m.ptrs.length yc, ib, cb', rfl, rfl, rfl, ?_, ?_, fun b hb => by have := unhide SUB7 b hb; simpa using this, ?_, unhide HR, ?_, ?_⟩
      · exact ((unhide Q8).other hgib (o + 2) _).putN (fun hm => by have := hil _ hm; omega) [_, _, _] 0
      · exact ((unhide ROW8).other hgcb (o + 2) _).putN (fun hm => by
          rcases List.mem_cons.1 hm with h1 | h1
          · omega
          · have := hcl _ h1; omega) [_, _, _] 0
      · exact fun h1 => unhide ON7 h1 (Once.nil _) (fun b hb => by simp at hb)
      · exact (putN_other (g := w.heap.size) (k := g) (by omega) [_, _, _] 0).trans k9
      · exact ((unhide FR8).set (g := g) (by simp) (o + 2) _).trans' (bl' := [w.heap.size]) ⟨rfl, rfl, rfl, by simp [World.setCell], fun k _ hn => putN_other (fun e => hn (by simp [e])) [_, _, _] 0⟩ (fun i hi => .inr (by simp at hi; omega)))
end Go.Proofs.YtlfonikfjibloaaGreatDoor

namespace Go.Proofs.YtlfonikfjibloaaGreatDoor
open Go.RowKit

/-- A watch without its first message; what Take leaves of a hub, its message and its code. -/
def takW (m : Wat) : Wat := ⟨m.client, m.ptr, m.cap, m.since, m.closed, m.queue.drop 1⟩
def takAt (h : Hb) (c : Int) : Option Wat := if findI h.watches c < 0 then none else h.watches[(findI h.watches c).toNat]?
def takH (h : Hb) (c : Int) : Hb := match takAt h c with
  | none => h
  | some x => ⟨h.watches.set (findI h.watches c).toNat (takW x), h.waiting⟩
def takM (h : Hb) (c : Int) : Msg := match takAt h c with
  | none => msg0
  | some x => x.queue.headD msg0
def takC (h : Hb) (c : Int) : Int := match takAt h c with
  | none => 1
  | some x => match x.queue with
    | [] => if x.closed then 3 else 2
    | m :: _ => if m.over then 4 else 0
theorem tak_no {h : Hb} {c : Int} (h0 : findI h.watches c = -1) : takH h c = h ∧ takM h c = msg0 ∧ takC h c = 1 := by
  have : takAt h c = none := by unfold takAt; rw [h0]; rfl
  unfold takH takM takC
  rw [this]; exact ⟨rfl, rfl, rfl⟩
theorem takAt_at {h : Hb} {c : Int} {j : Nat} (hj : j < h.watches.length) (h0 : findI h.watches c = (j : Int)) : takAt h c = some h.watches[j] := by
  unfold takAt
  rw [h0, if_neg (by omega), Int.toNat_natCast, List.getElem?_eq_getElem hj]
theorem tak_nil {h : Hb} {c : Int} {j : Nat} (hj : j < h.watches.length) (h0 : findI h.watches c = (j : Int)) (hq : h.watches[j].queue = []) : takH h c = h ∧ takM h c = msg0 ∧ takC h c = if h.watches[j].closed then 3 else 2 := by
  have ht := takAt_at hj h0
  unfold takH takM takC
  rw [ht, h0]
  refine ⟨?_, ?_, ?_⟩
  · have : takW h.watches[j] = h.watches[j] := by
      unfold takW; rw [hq]
      cases hx : h.watches[j]
      rw [hx] at hq
      simp at hq ⊢
      exact hq
    simp only [Int.toNat_natCast, this, List.set_getElem_self]
  · simp [hq]
  · simp [hq]
theorem tak_cons {h : Hb} {c : Int} {j : Nat} (hj : j < h.watches.length) (h0 : findI h.watches c = (j : Int)) {m : Msg} {q : List Msg} (hq : h.watches[j].queue = m :: q) :
    takH h c = ⟨h.watches.set j ⟨h.watches[j].client, h.watches[j].ptr, h.watches[j].cap, h.watches[j].since, h.watches[j].closed, q⟩, h.waiting⟩ ∧ takM h c = m ∧ takC h c = if m.over then 4 else 0 := by
  have ht := takAt_at hj h0
  unfold takH takM takC
  rw [ht, h0]
  refine ⟨?_, ?_, ?_⟩
  · simp [takW, hq]
  · simp [hq]
  · simp [hq]

theorem ty_not {ts : List TypeId} {w : World} {bl : List Nat} (ht : Tys ts w bl) {g : Nat} {cur : Array Value} {T : TypeId} (hk : w.heap[g]? = some (.cells cur T (0, 0))) (hn : T ∉ ts) : g ∉ bl := fun hm => by
  obtain ⟨cur', t, h1, h2⟩ := ht g hm
  rw [hk] at h1; injection h1 with h1; injection h1 with _ h1
  exact hn (h1 ▸ h2)
theorem ty_ne {w : World} {a b : Nat} {cu cv : Array Value} {S T : TypeId} (ha : w.heap[a]? = some (.cells cu S (0, 0))) (hb : w.heap[b]? = some (.cells cv T (0, 0))) (hn : S ≠ T) : a ≠ b := fun e => by
  subst e
  rw [ha] at hb; injection hb with hb; injection hb with _ hb
  exact hn hb
/-- A board whose watcher at a place has lost its first message. -/
theorem Brd.popped {w : World} {B gp n pc : Nat} {h : Hb} {cv : Value} {f c : Nat} {ns : List Nws} {cb cbk : List Nat} (hb : Brd w B h (.slice (some ⟨gp, 0, none⟩) n pc) cv f c ns cb ((Value.slice (some ⟨gp, 0, none⟩) n pc).ownBlock.toList ++ cbk)) (hon : Once 0 cbk) {D : Nat} (hst : ∀ b ∈ cbk, D ≤ b ∨ ∃ cur, w.heap[b]? = some (.cells cur 9 (0, 0))) (hD : D ≤ w.heap.size)
    {j g : Nat} (hj : j < h.watches.length) (hc : w.cell? ⟨gp, j, none⟩ = some (.pointer (some ⟨g, 0, none⟩))) :
    ∃ cw fw kw ms cbw, w.heap[g]? = some (.cells #[.int .i64 h.watches[j].client, .string h.watches[j].ptr, .int .i64 h.watches[j].cap, .int .i64 h.watches[j].since, .bool h.watches[j].closed, .slice none 0 0, cw, .int .i64 (fw : Nat), .int .i64 (kw : Nat)] 225 (0, 0)) ∧ g ∈ cbk ∧ (∀ gc, cw.ownBlock = some gc → gc ∈ cbk) ∧ ms.length ≤ 4000000 ∧ RingAt msgE w g 6 cw fw kw ms h.watches[j].queue cbw ∧
      ∀ w2 gc cb' f' k' ms' q', cw.ownBlock = some gc → Fr [g, gc] w w2 → ORow msgE w2 cw ms' (gc :: cb') → (∀ b ∈ cb', b ∈ cbw) → (Once 0 cbw → Once 0 cb') → ms'.length = ms.length → RingIs ms' f' k' q' →
        w2.heap[g]? = some (.cells #[.int .i64 h.watches[j].client, .string h.watches[j].ptr, .int .i64 h.watches[j].cap, .int .i64 h.watches[j].since, .bool h.watches[j].closed, .slice none 0 0, cw, .int .i64 (f' : Nat), .int .i64 (k' : Nat)] 225 (0, 0)) →
        Below D w w2 ∧ ∃ bw', Brd w2 B ⟨h.watches.set j ⟨h.watches[j].client, h.watches[j].ptr, h.watches[j].cap, h.watches[j].since, h.watches[j].closed, q'⟩, h.waiting⟩ (.slice (some ⟨gp, 0, none⟩) n pc) cv f c ns cb bw' ∧ ∀ b ∈ bw', b = gp ∨ b ∈ cbk ∨ w.heap.size ≤ b := by
  obtain ⟨vs, ib, hE, hcs, hsub, honi, hnew⟩ := ORow.swap (D := 0) hb.o1 hon (List.getElem?_eq_getElem hj)
  obtain ⟨g', cw, fw, kw, ms, cbw, rfl, hkw, how, hrw, hml, rfl⟩ := hE
  have hd0 := hcs 0 _ rfl
  rw [show j * wtrE.wd + 0 = j from by simp [wtrE], hc] at hd0
  obtain rfl : g = g' := by injection hd0 with e; injection e with e; injection e with e; injection e
  refine ⟨cw, fw, kw, ms, cbw, hkw, hsub g (by simp), fun gc hgc => hsub gc (by simp [hgc]), hml, ⟨Lib.cell_of_heap hkw 6, Lib.cell_of_heap hkw 7, Lib.cell_of_heap hkw 8, how, hrw⟩, ?_⟩
  intro w2 gc cb' f' k' ms' q' hgc fr ho hs hon' hl hr hk
  obtain ⟨cs9, hcs9⟩ := how.own
  obtain ⟨cur, t, e1, e2⟩ := own_ty hcs9 gc (by simp [hgc])
  obtain rfl : t = msgE.T := by simpa using e2
  have hgib : g ∈ g :: (cw.ownBlock.toList ++ cbw) := by simp
  have hgcb : gc ∈ g :: (cw.ownBlock.toList ++ cbw) := by simp [hgc]
  have hDg : D ≤ g := by
    rcases hst g (hsub g hgib) with h1 | ⟨cur', h1⟩
    · exact h1
    · exact absurd rfl (ty_ne hkw h1 (by decide))
  have hDc : D ≤ gc := by
    rcases hst gc (hsub gc hgcb) with h1 | ⟨cur', h1⟩
    · exact h1
    · exact absurd rfl (ty_ne e1 h1 (by decide))
  obtain ⟨cs8, hcs8⟩ := hb.o1.own
  obtain ⟨cur8, t8, e8, e9⟩ := own_ty hcs8 gp (by simp [Value.ownBlock])
  obtain rfl : t8 = wtrE.T := by simpa using e9
  obtain ⟨cbn, hswap, _, hcbn⟩ := hnew w2 ⟨h.watches[j].client, h.watches[j].ptr, h.watches[j].cap, h.watches[j].since, h.watches[j].closed, q'⟩ (g :: (cw.ownBlock.toList ++ cb')) [g, gc] fr (fun b hb => ⟨Nat.zero_le _, by
      simp at hb
      rcases hb with rfl | rfl
      · exact hgib
      · exact hgcb⟩) (fun hm => by
      simp at hm
      rcases hm with hm | hm
      · exact absurd hm (ty_ne e8 hkw (by decide))
      · exact absurd hm (ty_ne e8 e1 (by decide))) ⟨g, cw, f', k', ms', cb', rfl, hk, by rw [hgc]; exact ho, hr, by omega, rfl⟩ (by
      rw [once_zero, List.nodup_cons, List.nodup_append] at honi ⊢
      obtain ⟨n1, n2, n3, n4⟩ := honi
      refine ⟨fun hm => n1 ?_, n2, once_zero.1 (hon' (once_zero.2 n3)), fun a ha b hb e => n4 a ha b (hs b hb) e⟩
      rcases List.mem_append.1 hm with hm | hm
      · exact List.mem_append.2 (.inl hm)
      · exact List.mem_append.2 (.inr (hs _ hm))) (fun b hb => .inl (by
      rcases List.mem_cons.1 hb with hb | hb
      · rw [hb]; exact hgib
      · rcases List.mem_append.1 hb with hb | hb
        · exact List.mem_cons_of_mem _ (List.mem_append.2 (.inl hb))
        · exact List.mem_cons_of_mem _ (List.mem_append.2 (.inr (hs b hb)))))
  have hgl : g < w.heap.size := (Array.getElem?_eq_some_iff.1 hkw).1
  refine ⟨fr.below (fun b hb => by simp at hb; rcases hb with rfl | rfl <;> assumption) hD, _, ⟨?_, hswap, ?_, hb.ring, hb.len⟩, fun b hm => ?_⟩
  · refine (fr.block B (Array.getElem?_eq_some_iff.1 hb.ko).1 fun hm => ?_).trans hb.ko
    simp at hm
    rcases hm with hm | hm
    · exact absurd hm (ty_ne hb.ko hkw (by decide))
    · exact absurd hm (ty_ne hb.ko e1 (by decide))
  · refine hb.o2.keep (fr.kp hb.o2.lt fun b hb1 hm => ?_)
    simp at hm
    rcases hm with rfl | rfl
    · exact ty_not (nwss_ty hb.o2) hkw (by decide) hb1
    · exact ty_not (nwss_ty hb.o2) e1 (by decide) hb1
  · rcases List.mem_append.1 hm with hm | hm
    · exact .inl (by simpa [Value.ownBlock] using hm)
    · exact .inr (hcbn b hm)

theorem Brd.put {w : World} {B : Nat} {h : Hb} {pv cv : Value} {f c : Nat} {ns : List Nws} {cb bw : List Nat} (hb : Brd w B h pv cv f c ns cb bw) {g : Nat} (hB : B ≠ g) (h1 : g ∉ bw) (h2 : g ∉ cv.ownBlock.toList ++ cb) (vs : List Value) (o : Nat) : Brd (putN w g o vs) B h pv cv f c ns cb bw :=
  ⟨(putN_other hB vs o).trans hb.ko, hb.o1.putN h1 vs o, hb.o2.putN h2 vs o, hb.ring, hb.len⟩
set_option maxHeartbeats 1600000 in
theorem takeBrd_walk (B : Nat) (h : Hb) (pv cv : Value) (f c : Nat) (ns : List Nws) (cb cbk : List Nat) (client : Int) (w : World) (hb : Brd w B h pv cv f c ns cb (pv.ownBlock.toList ++ cbk)) (hon : Once 0 cbk) (D : Nat) (hst : ∀ b ∈ cbk, D ≤ b ∨ ∃ cur, w.heap[b]? = some (.cells cur 9 (0, 0))) (hD : D ≤ w.heap.size) :
    Calls Tryz.prog 66 #[.pointer (some ⟨B, 0, none⟩), .int .i64 client] w fun e w' => ∃ a1 ib bw', e = .returned (.tuple #[.agg #[.int .i64 (takM h client).ver, a1, .bool (takM h client).over], .int .i64 (takC h client)]) ∧ OStr w' a1 (takM h client).ptrs ib ∧ Brd w' B (takH h client) pv cv f c ns cb bw' ∧ Below D w w' := by
  have hcl : ∀ b ∈ cbk, b < w.heap.size := fun b hm => hb.o1.lt b (List.mem_append.2 (.inr hm))
  have HCL := hide hcl
  have HBD := hide hb
  have HON := hide hon
  have HST := hide hst
  clear hb hon hst hcl
  go_enter Tryz.func66, Tryz.ntmps66
  go_wp2_with fail
  have hA := alloc_b w (Obj.cells #[Value.int IntKind.i64 0, Value.slice none 0 0, Value.bool false] 58)
  have kA := heap_alloc_new w (Obj.cells #[Value.int IntKind.i64 0, Value.slice none 0 0, Value.bool false] 58)
  have hsz : (w.alloc (Obj.cells #[Value.int IntKind.i64 0, Value.slice none 0 0, Value.bool false] 58)).heap.size = w.heap.size + 1 := by simp
  generalize (w.alloc (Obj.cells #[Value.int IntKind.i64 0, Value.slice none 0 0, Value.bool false] 58)) = wA at *
  refine (findWtr_walk B h pv cv f c ns cb _ client wA ((unhide HBD).below hA)).mono ?_
  rintro e w1 ⟨rfl, ⟨h0, rfl⟩ | ⟨j, g, hj, h0, rfl, hcell⟩⟩
  · have HT := hide (tak_no h0)
    have r0 : wA.cell? ⟨w.heap.size, 0, none⟩ = some (.int .i64 0) := Lib.cell_of_heap kA 0
    have r1 : wA.cell? ⟨w.heap.size, 1, none⟩ = some (.slice none 0 0) := Lib.cell_of_heap kA 1
    have r2 : wA.cell? ⟨w.heap.size, 2, none⟩ = some (.bool false) := Lib.cell_of_heap kA 2
    have fr := Lib.frozen_of_heap kA
    have HA := hide hA
    have KA := hide kA
    clear h0 hA kA
    go_wp2
    refine bodyPost_ret (results_cell_tmp rfl _ _ w.heap.size 58 #[_, _, _] (0, 0) _ _ rfl rfl (putN_full (unhide KA) [_, _, _] rfl) Tryz.underlying58 rfl (by kernel_rfl)) rfl ?_
    obtain ⟨t1, t2, t3⟩ := unhide HT
    rw [t1, t2, t3]
    have hbb := putN_below (g := w.heap.size) (unhide HA) (Nat.le_refl _) [.int .i64 0, .slice none 0 0, .bool false] 0
    exact ⟨.slice none 0 0, [], _, rfl, ORow.nil _ _, (unhide HBD).below hbb, hbb.mono hD⟩
  · obtain ⟨pa, pc, rfl, hp1, hp2⟩ := (unhide HBD).o1.form
    obtain ⟨gp, rfl⟩ := hp2 (by omega)
    have hc9 := hcell gp _ _ rfl
    have hbA := (unhide HBD).below hA
    have hstA : ∀ b ∈ cbk, D ≤ b ∨ ∃ cur, wA.heap[b]? = some (.cells cur 9 (0, 0)) := fun b hm => by
      rcases unhide HST b hm with h1 | ⟨cur, h1⟩
      · exact .inl h1
      · exact .inr ⟨cur, (hA.block b (unhide HCL b hm)).trans h1⟩
    have HH := hide h0
    obtain ⟨cw, fw, kw, ms, cbw, hkw, hgk, hgck, hml, hring, hnew⟩ := Brd.popped hbA (unhide HON) hstA (by omega) hj hc9
    have hgl : g < w.heap.size := unhide HCL g hgk
    have HGC : Hid (∀ gc, cw.ownBlock = some gc → gc < w.heap.size) := fun gc hgc => unhide HCL gc (hgck gc hgc)
    have HCK : Hid (∀ b ∈ cbk, b < w.heap.size) := unhide HCL
    clear hgk hgck
    have HP := hide (popMsg_walk g 6 _ 225 cw fw kw ms h.watches[j].queue cbw _ hkw (by decide) hring hml)
    have HN := hide hnew
    have KA := hide kA
    have HA := hide hA
    have HKW := hide hkw
    have HRG := hide hring
    clear hA kA hp1 hp2 hcell hc9 hstA h0 HON HST HCL hring hnew hkw hbA
    go_wp2_with fail
    refine (unhide HP).mono ?_
    rintro e w2 (⟨hq, rfl, b2⟩ | ⟨m, q, gc, a1, ib, cb', hq, rfl, hgc, oa, orow, sub, on, hr, k2, fr2⟩)
    · have HT := hide (tak_nil hj (unhide HH) hq)
      have hz2 := b2.size
      have kw2 := (b2.block g (by omega)).trans (unhide HKW)
      have ka2 := (b2.block w.heap.size (by omega)).trans (unhide KA)
      have hab := alloc_b w2 (Obj.cells #[Value.int IntKind.i64 0, Value.slice none 0 0, Value.bool false] 58)
      have kw3 := (hab.block g (by omega)).trans kw2
      have ka3 := (hab.block w.heap.size (by omega)).trans ka2
      have c4 : (w2.alloc (Obj.cells #[Value.int IntKind.i64 0, Value.slice none 0 0, Value.bool false] 58)).cell? ⟨g, 4, none⟩ = some (.bool h.watches[j].closed) := Lib.cell_of_heap kw3 4
      have fa := Lib.frozen_of_heap ka3
      have r0 : (w2.alloc (Obj.cells #[Value.int IntKind.i64 0, Value.slice none 0 0, Value.bool false] 58)).cell? ⟨w.heap.size, 0, none⟩ = some (.int .i64 0) := Lib.cell_of_heap ka3 0
      have r1 : (w2.alloc (Obj.cells #[Value.int IntKind.i64 0, Value.slice none 0 0, Value.bool false] 58)).cell? ⟨w.heap.size, 1, none⟩ = some (.slice none 0 0) := Lib.cell_of_heap ka3 1
      have r2 : (w2.alloc (Obj.cells #[Value.int IntKind.i64 0, Value.slice none 0 0, Value.bool false] 58)).cell? ⟨w.heap.size, 2, none⟩ = some (.bool false) := Lib.cell_of_heap ka3 2
      have BB2 := hide (below_next (below_next (unhide HA) b2) hab)
      have KA3 := hide ka3
      clear b2 kw2 ka2 hq HP HN HKW KA HH hab kw3 ka3 HRG
      by_cases hcl : h.watches[j].closed = true
      all_goals (
        go_wp2
        generalize (w2.alloc (Obj.cells #[Value.int IntKind.i64 0, Value.slice none 0 0, Value.bool false] 58)) = w3 at *
        refine bodyPost_ret (results_cell_tmp rfl _ _ w.heap.size 58 #[_, _, _] (0, 0) _ _ rfl rfl (putN_full (unhide KA3) [_, _, _] rfl) Tryz.underlying58 rfl (by kernel_rfl)) rfl ?_
        obtain ⟨t1, t2, t3⟩ := unhide HT
        rw [t1, t2, t3]
        have hbb := putN_below (g := w.heap.size) (unhide BB2) (Nat.le_refl _) [.int .i64 0, .slice none 0 0, .bool false] 0
        exact ⟨.slice none 0 0, [], _, by simp [hcl, msg0], ORow.nil _ _, (unhide HBD).below hbb, hbb.mono hD⟩)
    · have HT := hide (tak_cons hj (unhide HH) hq)
      obtain ⟨mo, hmo⟩ : ∃ mo, m.over = mo := ⟨_, rfl⟩
      rw [hmo]
      have HMO := hide hmo
      clear hmo
      obtain ⟨ya, yc, rfl, hy1, hy2⟩ := oa.form
      have hz2 := fr2.size
      obtain ⟨bD, bw', bN, hbN⟩ := unhide HN w2 gc cb' _ _ _ q hgc fr2 orow sub on (by simp) hr (by simpa using k2)
      have hne : w.heap.size ∉ [g, gc] := fun hm => by
        simp at hm
        rcases hm with hm | hm
        · omega
        · have := unhide HGC gc hgc; omega
      have ka2 := (fr2.block w.heap.size (by omega) hne).trans (unhide KA)
      have hab := alloc_b w2 (Obj.cells #[Value.int IntKind.i64 m.ver, .slice ya m.ptrs.length yc, Value.bool mo] 58)
      have kM := heap_alloc_new w2 (Obj.cells #[Value.int IntKind.i64 m.ver, .slice ya m.ptrs.length yc, Value.bool mo] 58)
      have ka3 := (hab.block w.heap.size (by omega)).trans ka2
      have fa := Lib.frozen_of_heap ka3
      have r0 : (w2.alloc (Obj.cells #[Value.int IntKind.i64 m.ver, .slice ya m.ptrs.length yc, Value.bool mo] 58)).cell? ⟨w.heap.size, 0, none⟩ = some (.int .i64 0) := Lib.cell_of_heap ka3 0
      have r1 : (w2.alloc (Obj.cells #[Value.int IntKind.i64 m.ver, .slice ya m.ptrs.length yc, Value.bool mo] 58)).cell? ⟨w.heap.size, 1, none⟩ = some (.slice none 0 0) := Lib.cell_of_heap ka3 1
      have r2 : (w2.alloc (Obj.cells #[Value.int IntKind.i64 m.ver, .slice ya m.ptrs.length yc, Value.bool mo] 58)).cell? ⟨w.heap.size, 2, none⟩ = some (.bool false) := Lib.cell_of_heap ka3 2
      have m0 : (w2.alloc (Obj.cells #[Value.int IntKind.i64 m.ver, .slice ya m.ptrs.length yc, Value.bool mo] 58)).cell? ⟨w2.heap.size, 0, none⟩ = some (.int .i64 m.ver) := Lib.cell_of_heap kM 0
      have m1 : (w2.alloc (Obj.cells #[Value.int IntKind.i64 m.ver, .slice ya m.ptrs.length yc, Value.bool mo] 58)).cell? ⟨w2.heap.size, 1, none⟩ = some (.slice ya m.ptrs.length yc) := Lib.cell_of_heap kM 1
      have m2 : (w2.alloc (Obj.cells #[Value.int IntKind.i64 m.ver, .slice ya m.ptrs.length yc, Value.bool mo] 58)).cell? ⟨w2.heap.size, 2, none⟩ = some (.bool mo) := Lib.cell_of_heap kM 2
      have BD := hide bD
      have BN := hide bN
      have hgpl : gp < w.heap.size := (unhide HBD).o1.lt gp (by simp [Value.ownBlock])
      have hnb : w.heap.size ∉ bw' := fun hm => by
        rcases hbN _ hm with h1 | h1 | h1
        · omega
        · have := unhide HCK _ h1; omega
        · omega
      have HNB := hide hnb
      have HIB := hide (ty_not (ostr_ty oa) ka2 (by decide))
      have HAB := hide hab
      have KA3 := hide ka3
      have OA := hide oa
      clear hbN hnb oa hy1 hy2 orow sub on hr k2 fr2 bD bN hq hne ka2 hab kM ka3 HP HN HKW KA HH HRG
      cases mo
      all_goals (
        go_wp2
        have hab := unhide HAB
        have ka3 := unhide KA3
        clear HAB KA3 r0 r1 r2 m0 m1 m2 fa
        generalize (w2.alloc (Obj.cells _ _)) = w3 at *
        have HAB := hide hab
        have KA3 := hide ka3
        refine bodyPost_ret (results_cell_tmp rfl _ _ w.heap.size 58 #[_, _, _] (0, 0) _ _ rfl rfl (putN_full (unhide KA3) [_, _, _] rfl) Tryz.underlying58 rfl (by kernel_rfl)) rfl ?_
        obtain ⟨t1, t2, t3⟩ := unhide HT
        rw [t1, t2, t3]
        have hbB := (unhide HBD)
        have hB : B ≠ w.heap.size := by have := (Array.getElem?_eq_some_iff.1 hbB.ko).1; omega
        refine ⟨.slice ya m.ptrs.length yc, ib, bw', by rw [unhide HMO]; simp, ((unhide OA).below (unhide HAB)).putN (unhide HIB) [_, _, _] 0, ((unhide BN).below (unhide HAB)).put hB (unhide HNB) (fun hm => by have := hbB.o2.lt _ hm; omega) [_, _, _] 0, ?_⟩
        exact putN_below (g := w.heap.size) ((((unhide HA).mono hD).trans (unhide BD)).trans ((unhide HAB).mono (by omega))) hD [_, _, _] 0)

theorem results_cell2_tmp {P : Program} {fn : Func} {p p2 r : Tmp} {ty ty2 : TypeId} (h : fn.results = #[.cell p ty, .cell p2 ty2, .tmp r]) (tmps : Array Value) (w : World) (g : Nat) (t : TypeId) (cs : Array Value) (fr : Nat × Nat) (d : TypeDesc) (g2 : Nat) (t2 : TypeId) (cs2 : Array Value) (fr2 : Nat × Nat) (d2 : TypeDesc) (v : Value)
    (hp : tmps.getD p undef = .pointer (some ⟨g, 0, none⟩)) (hp2 : tmps.getD p2 undef = .pointer (some ⟨g2, 0, none⟩)) (hr : tmps.getD r undef = v) (hg : w.heap[g]? = some (.cells cs t fr)) (hg2 : w.heap[g2]? = some (.cells cs2 t2 fr2))
    (hu : P.underlying ty = some d) (hd : (match d with | .struct _ | .array _ _ => true | _ => false) = true) (hi : (P.info? ty).map (·.size) = some cs.size)
    (hu2 : P.underlying ty2 = some d2) (hd2 : (match d2 with | .struct _ | .array _ _ => true | _ => false) = true) (hi2 : (P.info? ty2).map (·.size) = some cs2.size) :
    (results fn tmps).run P w = .ok (.tuple #[.agg cs, .agg cs2, v]) w := by
  have hp' : tmps[p]?.getD undef = .pointer (some ⟨g, 0, none⟩) := by simpa using hp
  have hp2' : tmps[p2]?.getD undef = .pointer (some ⟨g2, 0, none⟩) := by simpa using hp2
  have hr' : tmps[r]?.getD undef = v := by simpa using hr
  simp [results, h, hp', hp2', hr', asAddr, run_loadVar_row w g t ty cs fr d hg hu hd hi, run_loadVar_row w g2 t2 ty2 cs2 fr2 d2 hg2 hu2 hd2 hi2]
theorem sum_set_le : ∀ (l : List Nat) (j a : Nat) {b : Nat}, l[j]? = some b → a ≤ b → (l.set j a).sum ≤ l.sum
  | [], j, a, b, h, _ => by simp at h
  | x :: r, 0, a, b, h, hl => by simp at h; simp; omega
  | x :: r, j + 1, a, b, h, hl => by
    have := sum_set_le r j a (by simpa using h) hl
    simp; omega
theorem takH_sz {h : Hb} {c : Int} (hs : szHb h ≤ 1048576) : szHb (takH h c) ≤ 1048576 ∧ (∀ x ∈ (takH h c).watches, szWat x ≤ 1048577) ∧ (∀ x ∈ (takH h c).waiting, x.ptrs.length ≤ 1048577) ∧ szMsg (takM h c) ≤ 1048577 := by
  have hz1 : szWats h.watches ≤ 1048576 := by unfold szHb at hs; omega
  have hz2 : szNwss h.waiting ≤ 1048576 := by unfold szHb at hs; omega
  have hs1 : ∀ (k : Nat) (hk : k < h.watches.length), szWat h.watches[k] ≤ 1048576 := fun k hk => by
    have h1 := sum_take_snoc szWat h.watches k h.watches[k] (List.getElem?_eq_getElem hk)
    have h2 := sum_take_le (h.watches.map szWat) (k + 1)
    rw [← List.map_take] at h2
    unfold szWats at hz1; omega
  have hs2 : ∀ x ∈ h.waiting, x.ptrs.length ≤ 1048577 := fun x hx => by
    obtain ⟨k, hk, rfl⟩ := List.mem_iff_getElem.1 hx
    have h1 := sum_take_snoc szNws h.waiting k h.waiting[k] (List.getElem?_eq_getElem hk)
    have h2 := sum_take_le (h.waiting.map szNws) (k + 1)
    rw [← List.map_take] at h2
    unfold szNwss at hz2
    have h3 : h.waiting[k].ptrs.length ≤ szNws h.waiting[k] := by unfold szNws szStr; omega
    omega
  have hm0 : szMsg msg0 ≤ 1048577 := by decide
  have hall : ∀ x ∈ h.watches, szWat x ≤ 1048577 := fun x hx => by
    obtain ⟨k, hk, rfl⟩ := List.mem_iff_getElem.1 hx
    have := hs1 k hk; omega
  rcases findI_cases h.watches c with h1 | ⟨j, hj, h1, _⟩
  · obtain ⟨t1, t2, _⟩ := tak_no h1
    rw [t1, t2]
    exact ⟨hs, hall, hs2, hm0⟩
  · cases hq : h.watches[j].queue with
    | nil =>
      obtain ⟨t1, t2, _⟩ := tak_nil hj h1 hq
      rw [t1, t2]
      exact ⟨hs, hall, hs2, hm0⟩
    | cons m q =>
      obtain ⟨t1, t2, _⟩ := tak_cons hj h1 hq
      rw [t1, t2]
      have hw := hs1 j hj
      have hle : szWat ⟨h.watches[j].client, h.watches[j].ptr, h.watches[j].cap, h.watches[j].since, h.watches[j].closed, q⟩ ≤ szWat h.watches[j] := by
        unfold szWat szMsgs; rw [hq]; simp; omega
      have hm : szMsg m ≤ szWat h.watches[j] := by
        unfold szWat szMsgs; rw [hq]; simp; omega
      refine ⟨?_, fun x hx => ?_, hs2, by omega⟩
      · have hsum : ((h.watches.set j ⟨h.watches[j].client, h.watches[j].ptr, h.watches[j].cap, h.watches[j].since, h.watches[j].closed, q⟩).map szWat).sum ≤ (h.watches.map szWat).sum := by
          rw [List.map_set]
          exact sum_set_le _ _ _ (by rw [List.getElem?_map, List.getElem?_eq_getElem hj]; rfl) hle
        show szWats (h.watches.set j _) + szNwss h.waiting ≤ 1048576
        unfold szWats
        unfold szHb szWats at hs
        rw [List.length_set]
        omega
      · rcases List.mem_or_eq_of_mem_set hx with hx | hx
        · exact hall x hx
        · rw [hx]; omega
end Go.Proofs.YtlfonikfjibloaaGreatDoor
