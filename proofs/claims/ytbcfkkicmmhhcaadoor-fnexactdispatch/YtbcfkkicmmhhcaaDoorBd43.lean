import Derived.Test.YtbcfkkicmmhhcaaDoorBd39
namespace Go.Proofs.YtbcfkkicmmhhcaaDoor
open Go.RowKit

set_option maxHeartbeats 1600000 in
set_option maxRecDepth 100000 in
theorem popNws_walk (g o : Nat) (cs : Array Value) (T : TypeId) (cv : Value) (f c : Nat) (ms q : List Nws) (cb : List Nat) (w : World) (hk : w.heap[g]? = some (.cells cs T (0, 0))) (hT : T ≠ 85 ∧ T ≠ 9) (h : RingAt nwsE w g o cv f c ms q cb) (hm : ms.length ≤ 4000000) :
    Calls Tryd.prog 80 #[.pointer (some ⟨g, o, none⟩)] w fun e w' => (q = [] ∧ e = .returned (.tuple #[.agg #[.int .i64 0, .slice none 0 0], .bool false]) ∧ Below w.heap.size w w') ∨
      ∃ m q' gc a1 ib cb', q = m :: q' ∧ e = .returned (.tuple #[.agg #[.int .i64 m.ver, a1], .bool true]) ∧ cv.ownBlock = some gc ∧ OStr w' a1 m.ptrs ib ∧ ORow nwsE w' cv (ms.set f nws0) (gc :: cb') ∧ (∀ b ∈ cb', b ∈ cb) ∧ (Once 0 cb → Once 0 cb') ∧ RingIs (ms.set f nws0) ((f + 1) % ms.length) (c - 1) q' ∧
        w'.heap[g]? = some (.cells ((cs.setIfInBounds (o + 1) (.int .i64 (((f + 1) % ms.length : Nat) : Int))).setIfInBounds (o + 2) (.int .i64 ((c - 1 : Nat) : Int))) T (0, 0)) ∧ Fr [g, gc] w w' := by
  have c2 := h.c2
  have c1 := h.c1
  have c0 := h.c0
  have hcnt := h.ring.cnt
  have H := hide h
  have HK := hide hk
  clear h hk
  have hA := new2 w (Obj.cells #[Value.int IntKind.i64 0, Value.slice none 0 0] 85) (Obj.cells #[Value.int IntKind.i64 0, Value.slice none 0 0] 85)
  have d2 := (hA.bel.cell (World.block_lt_of_cell? _ _ c2)).trans c2
  cases q with
  | nil =>
    have hc0 : c = 0 := by simpa using hcnt
    subst hc0
    have HA := hide hA
    clear hcnt hT hA c0 c1 c2
    go_enter Tryd.func80, Tryd.ntmps80
    go_wp2
    refine bodyPost_ret (results_cell_tmp rfl _ _ w.heap.size 85 #[_, _] (0, 0) _ _ rfl rfl (unhide HA).k0 Tryd.underlying85 rfl (by kernel_rfl)) rfl ?_
    exact .inl ⟨trivial, rfl, (unhide HA).bel⟩
  | cons m q =>
    have hc1 : c = q.length + 1 := by simpa using hcnt
    have hnz : ((c : Int) == 0) = false := by simp; omega
    have hnz' : (c = 0) = False := eq_false (by omega)
    obtain ⟨hring, hf, hat, -⟩ := (unhide H).ring.popped (z := nws0)
    have hl0 : 0 < ms.length := by omega
    have hmod : (f + 0) % ms.length = f := by rw [Nat.add_zero, Nat.mod_eq_of_lt hf]
    have HR := hide hring
    have HAT := hide hat
    have HA := hide hA
    obtain ⟨xa, xc, hcv, -, hxs⟩ := (unhide H).row.form
    obtain ⟨gc, rfl⟩ := hxs (by omega)
    subst hcv
    have HC := hide (cellNws_walk g o _ f c ms (m :: q) cb 0 _ ((unhide H).below hA.bel) hl0 hm)
    rw [hmod] at HC
    have hrow := (unhide H).row.below hA.bel
    obtain ⟨vs, ib, hE, hce, hibs, -, -⟩ := hrow.at hat
    have hE0 := hE
    obtain ⟨qv, hvs, hq⟩ := hE0
    subst hvs
    obtain ⟨ya, yc, rfl, hy1, hy2⟩ := hq.form
    have y0 := (hce 0 _ rfl).1
    have y1 := (hce 1 _ rfl).1
    have z0 := (hce 0 _ rfl).2
    have z1 := (hce 1 _ rfl).2
    have HC1 := hide hc1
    have HIBS := hide hibs
    clear hcnt hring hat hmod hxs hE hce hibs hy1 hy2 hnz' hc1
    simp only [show f * nwsE.wd = f * 2 from rfl, Nat.add_zero] at y0 y1 z0 z1
    have d0 := (hA.bel.cell (World.block_lt_of_cell? _ _ c0)).trans c0
    have d1 := (hA.bel.cell (World.block_lt_of_cell? _ _ c1)).trans c1
    have kA := (hA.bel.block g (Array.getElem?_eq_some_iff.1 (unhide HK)).1).trans (unhide HK)
    have KA := hide kA
    have HROW := hide hrow
    have HQ := hide hq
    have hsz := hA.size
    have HBE := hide hA.bel
    clear hA kA hrow hq c0 c1 c2
    go_enter Tryd.func80, Tryd.ntmps80
    go_wp2_with fail
    generalize ((w.alloc (Obj.cells #[Value.int IntKind.i64 0, Value.slice none 0 0] 85)).alloc (Obj.cells #[Value.int IntKind.i64 0, Value.slice none 0 0] 85)) = wA at *
    refine (unhide HC).mono ?_
    rintro e w1 ⟨gd, rfl, hgd, n1, rfl⟩
    obtain rfl : gc = gd := Option.some.inj hgd
    clear hgd HC
    have n0 : wA.cell? ⟨w.heap.size + 1, 0, none⟩ = some (.int .i64 0) := Lib.cell_of_heap (unhide HA).k1 0
    have n1' : wA.cell? ⟨w.heap.size + 1, 1, none⟩ = some (.slice none 0 0) := Lib.cell_of_heap (unhide HA).k1 1
    have hb1 : Below wA.heap.size wA ((wA.drewN n1).alloc (Obj.cells #[Value.int IntKind.i64 m.ver, Value.slice ya m.ptrs.length yc] 85)) := below_next (draws_b wA n1) (alloc_b _ _)
    have kX : ((wA.drewN n1).alloc (Obj.cells #[Value.int IntKind.i64 m.ver, Value.slice ya m.ptrs.length yc] 85)).heap[w.heap.size + 1 + 1]? = some (Obj.cells #[Value.int IntKind.i64 m.ver, Value.slice ya m.ptrs.length yc] 85) := by rw [← hsz]; exact heap_alloc_new (wA.drewN n1) _
    have hs1 : ((wA.drewN n1).alloc (Obj.cells #[Value.int IntKind.i64 m.ver, Value.slice ya m.ptrs.length yc] 85)).heap.size = w.heap.size + 1 + 1 + 1 := by rw [← hsz]; simp
    have HB1 := hide hb1
    have KX := hide kX
    clear hb1 kX
    go_wp2_with fail
    generalize ((wA.drewN n1).alloc (Obj.cells #[Value.int IntKind.i64 m.ver, Value.slice ya m.ptrs.length yc] 85)) = w1 at *
    have hb1 := unhide HB1
    have d0' := (hb1.cell (World.block_lt_of_cell? _ _ d0)).trans d0
    have d1' := (hb1.cell (World.block_lt_of_cell? _ _ d1)).trans d1
    have d2' := (hb1.cell (World.block_lt_of_cell? _ _ d2)).trans d2
    have m0 := (hb1.cell (World.block_lt_of_cell? _ _ n0)).trans n0
    have m1 := (hb1.cell (World.block_lt_of_cell? _ _ n1')).trans n1'
    have s0 := (hb1.cell (World.block_lt_of_cell? _ _ y0)).trans y0
    have s1 := (hb1.cell (World.block_lt_of_cell? _ _ y1)).trans y1
    have t0 := (hb1.frozen (World.block_lt_of_cell? _ _ y0)).trans z0
    have t1 := (hb1.frozen (World.block_lt_of_cell? _ _ y1)).trans z1
    have k1 := (hb1.block g (Array.getElem?_eq_some_iff.1 (unhide KA)).1).trans (unhide KA)
    have row1 := (unhide HROW).below hb1
    have q1 := (unhide HQ).below hb1
    have hdr : Below w1.heap.size w1 w1.drew := (Below.refl _ _).drew
    have HC2 := hide (cellNws_walk g o _ f c ms (m :: q) cb 0 w1.drew ((RingAt.mk d0' d1' d2' row1 (unhide H).ring).below hdr) hl0 hm)
    rw [show (f + 0) % ms.length = f from by rw [Nat.add_zero, Nat.mod_eq_of_lt hf]] at HC2
    have K1 := hide k1
    have ROW1 := hide row1
    have Q1 := hide q1
    have R0 := hide ((hb1.block w.heap.size (by omega)).trans (unhide HA).k0)
    have BW1 := hide (below_next (unhide HBE) hb1)
    clear d0 d1 d2 n0 n1' y0 y1 z0 z1 hb1 HB1 k1 row1 q1 hdr KA HROW HQ HBE HA
    go_region_law (go_simp; refine (unhide HC2).mono ?_; rintro e w6 ⟨gd, rfl, hgd, n6, rfl⟩; obtain rfl : gd = gc := (Option.some.inj hgd).symm; have b6 : Below w1.heap.size w1 (w1.drew.drewN n6) := ⟨rfl, rfl, rfl, Nat.le_refl _, fun _ _ => rfl⟩; have m0' := (b6.cell (World.block_lt_of_cell? _ _ m0)).trans m0; have m1' := (b6.cell (World.block_lt_of_cell? _ _ m1)).trans m1; have s0' := (b6.cell (World.block_lt_of_cell? _ _ s0)).trans s0; have s1' := (b6.cell (World.block_lt_of_cell? _ _ s1)).trans s1; have t0' := (b6.frozen (World.block_lt_of_cell? _ _ s0)).trans t0; have t1' := (b6.frozen (World.block_lt_of_cell? _ _ s1)).trans t1)
    all_goals (
      have e6 : w1.drew.drewN n6 = w1.drewN (1 + n6) := by simp
      rw [e6] at b6
      have hgl : gd < w.heap.size := (unhide H).row.lt gd (by simp [Value.ownBlock])
      have hgw : g < w.heap.size := (Array.getElem?_eq_some_iff.1 (unhide HK)).1
      have row6 : ORow nwsE (w1.drewN (1 + n6)) (.slice (some ⟨gd, 0, none⟩) ms.length xc) ms (gd :: cb) := (unhide ROW1).below b6
      obtain ⟨cb', row7, sub7, on7⟩ := orow_putAll2 nws_ty (by decide) row6 (j := f) hf (vs := [.int .i64 0, .slice none 0 0]) (x := nws0) (ib := []) ⟨_, rfl, ORow.nil _ _⟩
      obtain ⟨w7, hw7⟩ : ∃ w7, w7 = (((w1.drewN (1 + n6)).setCell ⟨gd, f * 2, none⟩ (.int .i64 0)).setCell ⟨gd, f * 2 + 1, none⟩ (.slice none 0 0)) := ⟨_, rfl⟩
      have hw7' : w7 = putN (w1.drewN (1 + n6)) gd (f * 2) [.int .i64 0, .slice none 0 0] := hw7
      have tyG : ∃ cur, (w1.drewN (1 + n6)).heap[gd]? = some (.cells cur 85 (0, 0)) := by
        obtain ⟨cs9, hcs9⟩ := row6.own
        obtain ⟨cur, t, e1, e2⟩ := own_ty hcs9 gd (by simp [Value.ownBlock])
        simp at e2
        exact ⟨cur, by rw [e1, e2]; rfl⟩
      have k6 := (b6.block g (by omega)).trans (unhide K1)
      have hgg : g ≠ gd := fun e => by
        obtain ⟨cur, e1⟩ := tyG
        rw [e, e1] at k6
        injection k6 with k6; injection k6 with _ k6
        exact hT.1 k6.symm
      have hib : gd ∉ ib := fun hm => by
        obtain ⟨cur, e1⟩ := tyG
        obtain ⟨cur', t, e2, e3⟩ := ostr_ty ((unhide Q1).below b6) gd hm
        rw [e1] at e2
        injection e2 with e2; injection e2 with _ e2
        rw [← e2] at e3
        exact absurd e3 (by decide)
      have hgib : g ∉ ib := fun hm => by
        obtain ⟨cur', t, e2, e3⟩ := ostr_ty ((unhide Q1).below b6) g hm
        rw [k6] at e2
        injection e2 with e2; injection e2 with _ e2
        rw [← e2] at e3
        simp at e3
        exact hT.2 e3
      have k7 : w7.heap[g]? = some (.cells cs T (0, 0)) := by rw [hw7']; exact (putN_other hgg _ _).trans k6
      have q7 : OStr w7 (.slice ya m.ptrs.length yc) m.ptrs ib := by rw [hw7']; exact ((unhide Q1).below b6).putN hib _ _
      have x7 : w7.heap[w.heap.size + 1 + 1]? = some (.cells #[.int .i64 m.ver, .slice ya m.ptrs.length yc] 85) := by rw [hw7']; exact (putN_other (by omega) _ _).trans ((b6.block _ (by omega)).trans (unhide KX))
      have r7 : w7.heap[w.heap.size]? = some (.cells #[.int .i64 0, .slice none 0 0] 85) := by rw [hw7']; exact (putN_other (by omega) _ _).trans ((b6.block _ (by omega)).trans (unhide R0))
      have hs7 : w7.heap.size = w.heap.size + 1 + 1 + 1 := by rw [hw7]; simp [World.setCell]; exact hs1
      have fr7 : Fr [g, gd] w w7 := by
        rw [hw7']
        exact ((Fr.of_below (unhide BW1)).next b6).trans ⟨rfl, rfl, rfl, by simp [putN, World.setCell], fun k _ hn => putN_other (fun e => hn (by simp [e])) _ _⟩
      have row7' : ORow nwsE w7 (.slice (some ⟨gd, 0, none⟩) ms.length xc) (ms.set f nws0) (gd :: cb') := by rw [hw7']; exact row7
      have hgcb : g ∉ gd :: cb' := fun hm => by
        obtain ⟨cur', t, e2, e3⟩ := orow_ty (e := nwsE) nws_ty row7' g hm
        rw [k7] at e2
        injection e2 with e2; injection e2 with _ e2
        rw [← e2] at e3
        simp at e3
        rcases e3 with e3 | e3
        · exact hT.1 e3
        · exact hT.2 e3
      have c0e : cs[o]? = some (.slice (some ⟨gd, 0, none⟩) ms.length xc) := (Lib.cell_of_heap (unhide K1) o).symm.trans d0'
      have c1e : cs[o + 1]? = some (.int .i64 (f : Int)) := (Lib.cell_of_heap (unhide K1) (o + 1)).symm.trans d1'
      have c2e : cs[o + 2]? = some (.int .i64 (c : Int)) := (Lib.cell_of_heap (unhide K1) (o + 2)).symm.trans d2'
      have a0 := (Lib.cell_of_heap k7 o).trans c0e
      have a1 := (Lib.cell_of_heap k7 (o + 1)).trans c1e
      have fz := Lib.frozen_of_heap k7 (o + 1)
      have HW7 := hide hw7
      rw [← unhide HW7]
      have u2 : ((f : Int) + 1) % (ms.length : Int) = (((f + 1) % ms.length : Nat) : Int) := by rw [Int.natCast_emod, Int.natCast_add]; rfl
      have u1 : ((f : Int) + 1).tmod (ms.length : Int) = (((f + 1) % ms.length : Nat) : Int) := by rw [Int.tmod_eq_emod_of_nonneg (by omega)]; exact u2
      have hwr : IntKind.i64.wrap ((f : Int) + 1) = (f : Int) + 1 := by rw [IntKind.wrap_i64]; omega
      have nz : ((ms.length : Int) = 0) = False := eq_false (by omega)
      have nz' : (ms.length = 0) = False := eq_false (by omega)
      have hrl : (f + 1) % ms.length < ms.length := Nat.mod_lt _ (by omega)
      generalize hr : (f + 1) % ms.length = r at *
      have HRR := hide hr
      clear hr
      have K7 := hide k7
      have Q7 := hide q7
      have X7 := hide x7
      have R7 := hide r7
      have FR7 := hide fr7
      have ROW7 := hide row7'
      have SUB7 := hide sub7
      have ON7 := hide on7
      have C2E := hide c2e
      clear hw7 hw7' HW7 k6 k7 q7 x7 r7 fr7 row7 row7' row6 sub7 on7 tyG c0e c1e c2e HC2 m0 m1 m0' m1' s0 s1 s0' s1' t0 t1 t0' t1' d0' d1' d2' b6 e6 K1 Q1 R0 BW1 KX ROW1 hgd
      go_wp2_with fail
      go_region_law (fail))
    all_goals (
      have k8 : ((w7.setCell ⟨g, o + 1, none⟩ (.int .i64 (r : Int))).drew).heap[g]? = some (.cells (cs.setIfInBounds (o + 1) (.int .i64 (r : Int))) T (0, 0)) := heap_setCell_same w7 g (o + 1) cs T (.int .i64 (r : Int)) (unhide K7)
      have oth : ∀ k, k ≠ g → ((w7.setCell ⟨g, o + 1, none⟩ (.int .i64 (r : Int))).drew).heap[k]? = w7.heap[k]? := fun k hk => Below.heap_setCell w7 ⟨g, o + 1, none⟩ (.int .i64 (r : Int)) k (by simpa using hk)
      have x8 := (oth (w.heap.size + 1 + 1) (by omega)).trans (unhide X7)
      have r8 := (oth w.heap.size (by omega)).trans (unhide R7)
      have q8 : OStr ((w7.setCell ⟨g, o + 1, none⟩ (.int .i64 (r : Int))).drew) (.slice ya m.ptrs.length yc) m.ptrs ib := (unhide Q7).keep fun b hb => oth b fun e => hgib (e ▸ hb)
      have row8 : ORow nwsE ((w7.setCell ⟨g, o + 1, none⟩ (.int .i64 (r : Int))).drew) (.slice (some ⟨gd, 0, none⟩) ms.length xc) (ms.set f nws0) (gd :: cb') := (unhide ROW7).keep fun b hb => oth b fun e => hgcb (e ▸ hb)
      have fr8 : Fr [g, gd] w ((w7.setCell ⟨g, o + 1, none⟩ (.int .i64 (r : Int))).drew) := ((unhide FR7).set (g := g) (by simp) (o + 1) (.int .i64 (r : Int))).drew
      have hs8 : ((w7.setCell ⟨g, o + 1, none⟩ (.int .i64 (r : Int))).drew).heap.size = w.heap.size + 1 + 1 + 1 := by rw [← hs7]; simp [World.setCell]
      have c2e : (cs.setIfInBounds (o + 1) (.int .i64 (r : Int)))[o + 2]? = some (.int .i64 (c : Int)) := by
        rw [Array.getElem?_setIfInBounds_ne (by omega)]; exact unhide C2E
      have a2 := (Lib.cell_of_heap k8 (o + 2)).trans c2e
      have f2 := Lib.frozen_of_heap k8 (o + 2)
      have p0 : ((w7.setCell ⟨g, o + 1, none⟩ (.int .i64 (r : Int))).drew).cell? ⟨w.heap.size + 1 + 1, 0, none⟩ = some (.int .i64 m.ver) := Lib.cell_of_heap x8 0
      have p1 : ((w7.setCell ⟨g, o + 1, none⟩ (.int .i64 (r : Int))).drew).cell? ⟨w.heap.size + 1 + 1, 1, none⟩ = some (.slice ya m.ptrs.length yc) := Lib.cell_of_heap x8 1
      have r0 : ((w7.setCell ⟨g, o + 1, none⟩ (.int .i64 (r : Int))).drew).cell? ⟨w.heap.size, 0, none⟩ = some (.int .i64 0) := Lib.cell_of_heap r8 0
      have r1 : ((w7.setCell ⟨g, o + 1, none⟩ (.int .i64 (r : Int))).drew).cell? ⟨w.heap.size, 1, none⟩ = some (.slice none 0 0) := Lib.cell_of_heap r8 1
      have fr := Lib.frozen_of_heap r8
      have hwc : IntKind.i64.wrap ((c : Int) - 1) = (c : Int) - 1 := by
        have := unhide HC1; have := (unhide H).ring.le
        rw [IntKind.wrap_i64]; omega
      have hcm : (c : Int) - 1 = ((c - 1 : Nat) : Int) := by have := unhide HC1; omega
      have hw64 : wrap64 ((c - 1 : Nat) : Int) = ((c - 1 : Nat) : Int) := by
        have := unhide HC1; have := (unhide H).ring.le
        unfold wrap64; omega
      have hgx : w.heap.size + 1 + 1 ≠ g := by omega
      have hgr : w.heap.size ≠ g := by omega
      have K8 := hide k8
      have X8 := hide x8
      have R8 := hide r8
      have Q8 := hide q8
      have ROW8 := hide row8
      have FR8 := hide fr8
      clear k8 oth x8 r8 q8 row8 fr8 c2e K7 X7 R7 Q7 ROW7 FR7 a0 a1 fz u1 u2 nz nz' hwr hs7 C2E
      generalize (w7.setCell ⟨g, o + 1, none⟩ (.int .i64 (r : Int))).drew = w8 at *
      go_wp2
      have k9 := heap_setCell_same w8 g (o + 2) _ T (.int .i64 ((c - 1 : Nat) : Int)) (unhide K8)
      have oth9 : ∀ k, k ≠ g → (w8.setCell ⟨g, o + 2, none⟩ (.int .i64 ((c - 1 : Nat) : Int))).heap[k]? = w8.heap[k]? := fun k hk => Below.heap_setCell w8 ⟨g, o + 2, none⟩ (.int .i64 ((c - 1 : Nat) : Int)) k (by simpa using hk)
      have r9 := (oth9 w.heap.size hgr).trans (unhide R8)
      have hil : ∀ b ∈ ib, b < w.heap.size := fun b hb => (unhide H).row.lt b (unhide HIBS b hb)
      have hcl : ∀ b ∈ cb', b < w.heap.size := fun b hb => (unhide H).row.lt b (List.mem_append.2 (.inr (by have := unhide SUB7 b hb; simpa using this)))
      refine bodyPost_ret (results_cell_tmp rfl _ _ w.heap.size 85 #[_, _] (0, 0) _ _ rfl rfl (putN_full r9 [_, _] rfl) Tryd.underlying85 rfl (by kernel_rfl)) rfl ?_
      rw [unhide HRR]
      refine .inr ⟨m, q, gd, .slice ya m.ptrs.length yc, ib, cb', rfl, rfl, rfl, ?_, ?_, fun b hb => by have := unhide SUB7 b hb; simpa using this, ?_, unhide HR, ?_, ?_⟩
      · exact ((unhide Q8).other hgib (o + 2) _).putN (fun hm => by have := hil _ hm; omega) [_, _] 0
      · exact ((unhide ROW8).other hgcb (o + 2) _).putN (fun hm => by
          rcases List.mem_cons.1 hm with h1 | h1
          · omega
          · have := hcl _ h1; omega) [_, _] 0
      · exact fun h1 => unhide ON7 h1 (Once.nil _) (fun b hb => by simp at hb)
      · exact (putN_other (g := w.heap.size) (k := g) (by omega) [_, _] 0).trans k9
      · exact ((unhide FR8).set (g := g) (by simp) (o + 2) _).trans' (bl' := [w.heap.size]) ⟨rfl, rfl, rfl, by simp [World.setCell], fun k _ hn => putN_other (fun e => hn (by simp [e])) [_, _] 0⟩ (fun i hi => .inr (by simp at hi; omega)))
end Go.Proofs.YtbcfkkicmmhhcaaDoor
