import Derived.Test.YtbcfkkicmmhhcaaDoorBd46
import Derived.Test.YtbcfkkicmmhhcaaDoorBd47
import Derived.Test.YtbcfkkicmmhhcaaDoorBd44
namespace Go.Proofs.YtbcfkkicmmhhcaaDoor
open Go.RowKit

theorem sd_end {w wr : World} {F O : Nat} {hv rv : Obj} {pv qv : Value} {xs : List Wat} {ns : List Nws} {b1 b2 : List Nat} (h : SD w wr F O hv rv pv qv xs ns b1 b2) :
    ∃ bl', OHub (putN wr (w.heap.size + 1) 0 [pv, qv]) (.agg #[pv, qv]) ⟨xs, ns⟩ bl' ∧ Fsh w.heap.size bl' ∧ Below w.heap.size w (putN wr (w.heap.size + 1) 0 [pv, qv]) := by
  have hF := h.hF
  have hn : w.heap.size + 1 ∉ b1 ++ b2 := fun hm => by have := h.fs.2 _ hm; omega
  have n1 : w.heap.size + 1 ∉ b1 := fun hm => hn (List.mem_append.2 (.inl hm))
  have n2 : w.heap.size + 1 ∉ b2 := fun hm => hn (List.mem_append.2 (.inr hm))
  exact ⟨b1 ++ b2, ⟨_, _, b1, b2, rfl, h.o1.putN n1 [pv, qv] 0, h.o2.putN n2 [pv, qv] 0, rfl⟩, h.fs.mono (by omega), putN_below (g := w.heap.size + 1) h.bel (by omega) [pv, qv] 0⟩
theorem le_tot0 : ∀ (ss : List ByteArray) (j : Nat), (ss.getD j ByteArray.empty).size ≤ tot ss
  | [], j => by simp [tot]
  | s :: r, 0 => by simp [tot]
  | s :: r, j + 1 => by have := le_tot0 r j; unfold tot at *; simp at this ⊢; omega
theorem le_tot {n : Nws} (h : szNws n ≤ 1048576) (j : Nat) : (n.ptrs.getD j ByteArray.empty).size ≤ 1048576 := by
  have := le_tot0 n.ptrs j
  unfold szNws szStr at h; omega
set_option maxHeartbeats 3000000 in
set_option maxRecDepth 100000 in
theorem specDispatch_walk (v : Value) (h : Hb) (bl : List Nat) (w : World) (ho : OHub w v h bl) (hs : szHb h ≤ 1048576) :
    Calls Tryd.prog 18 #[v] w fun e w' => ∃ v' bl', e = .returned (.tuple #[v', .bool (dispOk h)]) ∧ OHub w' v' (dispH h) bl' ∧ Fsh w.heap.size bl' ∧ Below w.heap.size w w' := by
  obtain ⟨p, q, i1, i2, rfl, o1, o2, rfl⟩ := ho
  have HO : Hid (OHub w (.agg #[p, q]) h (i1 ++ i2)) := ⟨p, q, i1, i2, rfl, o1, o2, rfl⟩
  obtain ⟨p1, p2, p3, p4⟩ := hub_parts hs
  obtain ⟨ya, yc, rfl, hfm, hsh⟩ := o2.form
  have O2 := hide o2
  have HP1 := hide p1
  have HP2 := hide p2
  have hsb : szHb h ≤ 1048577 := by omega
  obtain ⟨H', hH'⟩ : ∃ H', dispH h = H' := ⟨_, rfl⟩
  obtain ⟨ok, hok⟩ : ∃ ok, dispOk h = ok := ⟨_, rfl⟩
  rw [hH', hok]
  have HH := hide hH'
  have HK := hide hok
  have HSH := hide hsh
  have hA := new2 w (Obj.cells #[p, .slice ya h.waiting.length yc] 39) (Obj.cells #[Value.slice none 0 0, Value.slice none 0 0] 39)
  have hAs := hA.size
  have q0 : ((w.alloc (Obj.cells #[p, .slice ya h.waiting.length yc] 39)).alloc (Obj.cells #[Value.slice none 0 0, Value.slice none 0 0] 39)).cell? ⟨w.heap.size, 0, none⟩ = some p := Lib.cell_of_heap hA.k0 0
  have q1 : ((w.alloc (Obj.cells #[p, .slice ya h.waiting.length yc] 39)).alloc (Obj.cells #[Value.slice none 0 0, Value.slice none 0 0] 39)).cell? ⟨w.heap.size, 1, none⟩ = some (.slice ya h.waiting.length yc) := Lib.cell_of_heap hA.k0 1
  have HA := hide hA
  clear o1 o2 p1 p2 hs hH' hok hfm hsh hA
  cases hwt : h.waiting with
  | nil =>
    have hH : dispH h = h := by unfold dispH; rw [hwt]
    have hO : dispOk h = false := by unfold dispOk; rw [hwt]; rfl
    obtain rfl : h = H' := hH.symm.trans (unhide HH)
    obtain rfl : ok = false := (unhide HK).symm.trans hO
    have hl0 : ((h.waiting.length : Int) == 0) = true := by rw [hwt]; rfl
    have hch : copyH h (-1) 0 = h := by
      unfold copyH; rw [skipT_none _ _ (Nat.le_refl _), List.take_length]; rfl
    have HC := hide (l5Copy_walk _ h (-1) 0 _ _ ((unhide HO).below (unhide HA).bel) hsb (by omega))
    rw [hch] at HC
    rw [← hwt]
    clear hwt hH hO hch HH HK HSH
    go_enter Tryd.func18, Tryd.ntmps18
    go_wp2_with fail
    generalize ((w.alloc (Obj.cells #[p, .slice ya h.waiting.length yc] 39)).alloc (Obj.cells #[Value.slice none 0 0, Value.slice none 0 0] 39)) = wA at *
    refine (unhide HC).mono ?_
    rintro e w3 ⟨v3, bl3, rfl, o3, f3, b3⟩
    obtain ⟨p3, q3, j1, j2, rfl, po, qo, rfl⟩ := o3
    obtain ⟨pa, pc, rfl, hp1, hp2⟩ := po.form
    obtain ⟨qa, qc, rfl, hq1, hq2⟩ := qo.form
    have k3 := (b3.block (w.heap.size + 1) (by omega)).trans (unhide HA).k1
    have hz3 := b3.size
    have r0 : w3.cell? ⟨w.heap.size + 1, 0, none⟩ = some (.slice none 0 0) := Lib.cell_of_heap k3 0
    have r1 : w3.cell? ⟨w.heap.size + 1, 1, none⟩ = some (.slice none 0 0) := Lib.cell_of_heap k3 1
    have fr := Lib.frozen_of_heap k3
    have HB3 := hide (below_next (unhide HA).bel b3)
    have HPO := hide po
    have HQO := hide qo
    have HF3 := hide f3
    have HK3 := hide k3
    clear b3 po qo f3 k3 hp1 hp2 hq1 hq2 HC HA q0 q1
    go_wp2
    refine bodyPost_ret (results_cell_tmp rfl _ _ (w.heap.size + 1) 39 #[_, _] (0, 0) _ _ rfl rfl (putN_full (unhide HK3) [_, _] rfl) Tryd.underlying39 rfl (by kernel_rfl)) rfl ?_
    have hn : w.heap.size + 1 ∉ j1 ++ j2 := fun hm => by have := (unhide HF3).2 _ hm; omega
    have n1 : w.heap.size + 1 ∉ j1 := fun hm => hn (List.mem_append.2 (.inl hm))
    have n2 : w.heap.size + 1 ∉ j2 := fun hm => hn (List.mem_append.2 (.inr hm))
    exact ⟨_, j1 ++ j2, rfl, ⟨_, _, j1, j2, rfl, (unhide HPO).putN n1 [_, _] 0, (unhide HQO).putN n2 [_, _] 0, rfl⟩, (unhide HF3).mono (by omega), putN_below (g := w.heap.size + 1) (unhide HB3) (by omega) [_, _] 0⟩
  | cons n r =>
    have hH : dispH h = ⟨dispW n h.watches, r⟩ := by unfold dispH; rw [hwt]
    have hO : dispOk h = true := by unfold dispOk; rw [hwt]; rfl
    obtain rfl : H' = ⟨dispW n h.watches, r⟩ := (unhide HH).symm.trans hH
    obtain rfl : ok = true := (unhide HK).symm.trans hO
    have hl0 : ((h.waiting.length : Int) == 0) = false := by rw [hwt]; simp; omega
    have hch : copyH h (-1) 1 = ⟨h.watches, r⟩ := by
      unfold copyH; rw [skipT_none _ _ (Nat.le_refl _), List.take_length, hwt]; rfl
    have HC := hide (l5Copy_walk _ h (-1) 1 _ _ ((unhide HO).below (unhide HA).bel) hsb (by omega))
    rw [hch] at HC
    have hat : h.waiting[0]? = some n := by rw [hwt]; rfl
    have hnz := unhide HP2 n (by rw [hwt]; simp)
    have hpos : 0 < h.waiting.length := by rw [hwt]; simp
    rw [← hwt]
    have HAT := hide hat
    clear hwt hH hO hch HH HK hat
    go_enter Tryd.func18, Tryd.ntmps18
    go_wp2_with fail
    generalize ((w.alloc (Obj.cells #[p, .slice ya h.waiting.length yc] 39)).alloc (Obj.cells #[Value.slice none 0 0, Value.slice none 0 0] 39)) = wA at *
    refine (unhide HC).mono ?_
    rintro e w2 ⟨v3, bl3, rfl, o3, f3, b3⟩
    obtain ⟨p3, q3, j1, j2, rfl, po, qo, rfl⟩ := o3
    obtain ⟨pa, pc, rfl, hp1, hp2⟩ := po.form
    obtain ⟨qa, qc, rfl, hq1, hq2⟩ := qo.form
    have hz3 := b3.size
    have hab := alloc_b w2 (Obj.cells #[.slice pa h.watches.length pc, .slice qa r.length qc] 39)
    have kO := heap_alloc_new w2 (Obj.cells #[.slice pa h.watches.length pc, .slice qa r.length qc] 39)
    have bb := below_next b3 hab
    have SD0 : SD w (w2.alloc (Obj.cells #[.slice pa h.watches.length pc, .slice qa r.length qc] 39)) wA.heap.size w2.heap.size (Obj.cells #[p, .slice ya h.waiting.length yc] 39) (Obj.cells #[Value.slice none 0 0, Value.slice none 0 0] 39) (.slice pa h.watches.length pc) (.slice qa r.length qc) ((toldK n.ver (n.ptrs.filter fun s => (ptoks s.data.toList).isSome) h.watches 0).map (·.1)) r j1 j2 := by
      refine ⟨below_next (unhide HA).bel bb, (bb.block _ (by omega)).trans (unhide HA).k0, (bb.block _ (by omega)).trans (unhide HA).k1, kO, ?_, qo.below hab, f3, by omega, by omega⟩
      rw [toldF_zero]; exact po.below hab
    have HSD := hide SD0
    have HPA := hide hp2
    have hzO : (w2.alloc (Obj.cells #[.slice pa h.watches.length pc, .slice qa r.length qc] 39)).heap.size = w2.heap.size + 1 := by simp
    have hFO : wA.heap.size ≤ w2.heap.size := hz3
    clear b3 po qo f3 hp1 hp2 hq1 hq2 HC HA q0 q1 hab kO bb SD0 hz3
    go_wp2_with fail
    generalize (w2.alloc (Obj.cells #[.slice pa h.watches.length pc, .slice qa r.length qc] 39)) = w3 at *
    obtain ⟨ss, hss⟩ : ∃ ss, n.ptrs.filter (fun s => (ptoks s.data.toList).isSome) = ss := ⟨_, rfl⟩
    rw [hss] at HSD
    have HSS := hide hss
    clear hss
    obtain ⟨gy, rfl⟩ := unhide HSH hpos
    go_loopw [5] (fun i wr => ∃ k : Nat, k ≤ min h.watches.length 100 ∧ i = .int .i64 (k : Int) ∧ ∃ b1, SD w wr wA.heap.size w2.heap.size (Obj.cells #[p, .slice (some ⟨gy, 0, none⟩) h.waiting.length yc] 39) (Obj.cells #[Value.slice none 0 0, Value.slice none 0 0] 39) (.slice pa h.watches.length pc) (.slice qa r.length qc) ((toldK n.ver ss h.watches k).map (·.1)) r b1 j2) (fun i _ => 100 - (intOf i).toNat)
    case atStart => exact ⟨0, Nat.zero_le _, rfl, _, unhide HSD⟩
    case round =>
      obtain ⟨k, hk, rfl, b1, hsd⟩ := hrel
      have HR := hide hsd
      have e0 : wr.cell? ⟨w2.heap.size, 0, none⟩ = some (.slice pa h.watches.length pc) := Lib.cell_of_heap hsd.ko 0
      have hws := hsd.bel.size
      clear hsd HSD
      by_cases hlt : k < min h.watches.length 100
      · have hl1 : (k : Int) < (h.watches.length : Int) := by omega
        have hl2 : (k : Int) < 100 := by omega
        have hkl : k < h.watches.length := by omega
        obtain ⟨gp, rfl⟩ := unhide HPA (by omega)
        have hdr : Below wr.heap.size wr wr.drew := (Below.refl _ _).drew
        have hsd := (unhide HR).below hdr
        obtain ⟨q1, jb, oq, fq, hc, hnew⟩ := hsd.step rfl (toldF_at (n := n.ver) (ss := ss) hkl)
        obtain ⟨x1, x2, rfl, hx1, hx2⟩ := oq.form
        obtain ⟨vs, nb, hE, hcn, _, _, _⟩ := ((unhide O2).below hsd.bel).at (unhide HAT)
        obtain ⟨nv, rfl, on⟩ := hE
        obtain ⟨y1, y2, rfl, hy1, hy2⟩ := on.form
        have g0 : wr.cell? ⟨gy, 0, none⟩ = some (.int .i64 n.ver) := (hcn 0 _ rfl).1
        have g1 : wr.cell? ⟨gy, 1, none⟩ = some (.slice y1 n.ptrs.length y2) := (hcn 1 _ rfl).1
        have e1 : wr.cell? ⟨w.heap.size, 1, none⟩ = some (.slice (some ⟨gy, 0, none⟩) h.waiting.length yc) := Lib.cell_of_heap hsd.kh 1
        have hp1 := unhide HP1 h.watches[k] (List.getElem_mem _)
        have hfw : wA.heap.size ≤ wr.drew.heap.size := by
          have h1 := (Array.getElem?_eq_some_iff.1 hsd.ko).1
          omega
        obtain ⟨mm, hmm⟩ : ∃ mm, tellW h.watches[k] n.ver ss = mm := ⟨_, rfl⟩
        have hfix := tellW_fix h.watches[k] n.ver ss
        rw [hmm] at hfix
        have HT : Hid (Calls Tryd.prog 48 #[.agg #[.int .i64 h.watches[k].client, .string h.watches[k].ptr, .int .i64 h.watches[k].cap, .int .i64 h.watches[k].since, .bool h.watches[k].closed, .slice x1 h.watches[k].queue.length x2], .agg #[.int .i64 n.ver, .slice y1 n.ptrs.length y2]] wr.drew fun e w' => ∃ q' jb', e = .returned (.agg #[.int .i64 h.watches[k].client, .string h.watches[k].ptr, .int .i64 h.watches[k].cap, .int .i64 h.watches[k].since, .bool mm.closed, q']) ∧ ORow msgE w' q' mm.queue jb' ∧ Fsh wA.heap.size jb' ∧ (∀ b ∈ jb', b ∈ jb ∨ wr.drew.heap.size ≤ b) ∧ Fr (Value.slice x1 h.watches[k].queue.length x2).ownBlock.toList wr.drew w') :=
          (l5Tell_walk h.watches[k] _ _ n jb nb wA.heap.size wr.drew oq fq hfw on (by unfold szWat at hp1; omega) (fun j => le_tot hnz j) (by unfold szNws szStr at hnz; omega) (by unfold szWat szMsgs at hp1; omega)).mono fun e w' ht => by
            unfold TP at ht
            rw [unhide HSS, hmm] at ht
            exact ht
        have HFIX := hide hfix
        have hset := toldF_set (n := n.ver) (ss := ss) hkl
        rw [hmm] at hset
        have HSET := hide hset
        have c0 : wr.cell? ⟨gp, k * 6, none⟩ = some (.int .i64 h.watches[k].client) := hc 0 _ rfl
        have c1 : wr.cell? ⟨gp, k * 6 + 1, none⟩ = some (.string h.watches[k].ptr) := hc 1 _ rfl
        have c2 : wr.cell? ⟨gp, k * 6 + 2, none⟩ = some (.int .i64 h.watches[k].cap) := hc 2 _ rfl
        have c3 : wr.cell? ⟨gp, k * 6 + 3, none⟩ = some (.int .i64 h.watches[k].since) := hc 3 _ rfl
        have c4 : wr.cell? ⟨gp, k * 6 + 4, none⟩ = some (.bool h.watches[k].closed) := hc 4 _ rfl
        have c5 : wr.cell? ⟨gp, k * 6 + 5, none⟩ = some (.slice x1 h.watches[k].queue.length x2) := hc 5 _ rfl
        have HNEW := hide hnew
        generalize h.watches[k] = m at *
        clear hdr hsd oq fq hc hnew hmm hset hfix hx1 hx2 hcn on hy1 hy2 hp1 hfw HR
        go_wp2_with fail
        go_region_law (
          go_simp
          refine (unhide HT).mono ?_
          rintro e w4 ⟨q4, jb4, rfl, o4, f4, m4, fr4⟩
          obtain ⟨z1, z2, rfl, hz1, hz2⟩ := o4.form
          clear hz1 hz2
          obtain ⟨hcells, hko, b5, hsd5⟩ := unhide HNEW w4 mm _ jb4 o4 f4 m4 fr4
          rw [unhide HSET, (unhide HFIX).1, (unhide HFIX).2.1, (unhide HFIX).2.2.1, (unhide HFIX).2.2.2] at hsd5
          have HS5 := hide hsd5
          have d0 : w4.cell? ⟨gp, k * 6, none⟩ = some (.int .i64 m.client) := (hcells 0 _ rfl).1
          have d1 : w4.cell? ⟨gp, k * 6 + 1, none⟩ = some (.string m.ptr) := (hcells 1 _ rfl).1
          have d2 : w4.cell? ⟨gp, k * 6 + 2, none⟩ = some (.int .i64 m.cap) := (hcells 2 _ rfl).1
          have d3 : w4.cell? ⟨gp, k * 6 + 3, none⟩ = some (.int .i64 m.since) := (hcells 3 _ rfl).1
          have d4 : w4.cell? ⟨gp, k * 6 + 4, none⟩ = some (.bool m.closed) := (hcells 4 _ rfl).1
          have d5 : w4.cell? ⟨gp, k * 6 + 5, none⟩ = some (.slice x1 m.queue.length x2) := (hcells 5 _ rfl).1
          have v0 : w4.frozen? ⟨gp, k * 6, none⟩ = false := (hcells 0 _ rfl).2
          have v1 : w4.frozen? ⟨gp, k * 6 + 1, none⟩ = false := (hcells 1 _ rfl).2
          have v2 : w4.frozen? ⟨gp, k * 6 + 2, none⟩ = false := (hcells 2 _ rfl).2
          have v3 : w4.frozen? ⟨gp, k * 6 + 3, none⟩ = false := (hcells 3 _ rfl).2
          have v4 : w4.frozen? ⟨gp, k * 6 + 4, none⟩ = false := (hcells 4 _ rfl).2
          have v5 : w4.frozen? ⟨gp, k * 6 + 5, none⟩ = false := (hcells 5 _ rfl).2
          have e4 : w4.cell? ⟨w2.heap.size, 0, none⟩ = some (.slice (some ⟨gp, 0, none⟩) h.watches.length pc) := Lib.cell_of_heap hko 0
          clear hcells hko hsd5 o4 f4 m4 fr4)
        all_goals (
          clear HT HNEW HSET HFIX c0 c1 c2 c3 c4 c5 d0 d1 d2 d3 d4 d5 v0 v1 v2 v3 v4 v5 e4 e0 e1 g0 g1
          go_wp2
          go_roundw)
        all_goals first
          | exact ⟨k + 1, by omega, by go_num, b5, unhide HS5⟩
          | (simp [intOf]; omega)
      · have hkm : k = min h.watches.length 100 := by omega
        have hE := toldK_end n.ver ss h.watches
        rw [← hkm] at hE
        have hsd := unhide HR
        rw [hE] at hsd
        have hdw : dispW n h.watches = (h.watches.take 100).map (fun m => tellW m n.ver ss) ++ h.watches.drop 100 := by
          unfold dispW; rw [unhide HSS]
        rw [← hdw] at hsd
        have hF := hsd.hF
        have e1 : wr.cell? ⟨w2.heap.size, 1, none⟩ = some (.slice qa r.length qc) := Lib.cell_of_heap hsd.ko 1
        have r0 : wr.cell? ⟨w.heap.size + 1, 0, none⟩ = some (.slice none 0 0) := Lib.cell_of_heap hsd.kr 0
        have r1 : wr.cell? ⟨w.heap.size + 1, 1, none⟩ = some (.slice none 0 0) := Lib.cell_of_heap hsd.kr 1
        have fr := Lib.frozen_of_heap hsd.kr
        have HS := hide hsd
        clear hE hsd hdw HR
        by_cases hl1 : (k : Int) < (h.watches.length : Int)
        · have hl2 : ¬ (k : Int) < 100 := by omega
          clear hkm
          go_wp2
          refine bodyPost_ret (results_cell_tmp rfl _ _ (w.heap.size + 1) 39 #[_, _] (0, 0) _ _ rfl rfl (putN_full (unhide HS).kr [_, _] rfl) Tryd.underlying39 rfl (by kernel_rfl)) rfl ?_
          obtain ⟨bl9, o9, f9, b9⟩ := sd_end (unhide HS)
          first
            | exact ⟨_, rfl, bl9, o9, f9, b9⟩
            | exact ⟨_, bl9, rfl, o9, f9, b9⟩
            | exact ⟨_, rfl, ⟨bl9, o9, f9⟩, b9⟩
        · clear hkm
          go_wp2
          refine bodyPost_ret (results_cell_tmp rfl _ _ (w.heap.size + 1) 39 #[_, _] (0, 0) _ _ rfl rfl (putN_full (unhide HS).kr [_, _] rfl) Tryd.underlying39 rfl (by kernel_rfl)) rfl ?_
          obtain ⟨bl9, o9, f9, b9⟩ := sd_end (unhide HS)
          first
            | exact ⟨_, rfl, bl9, o9, f9, b9⟩
            | exact ⟨_, bl9, rfl, o9, f9, b9⟩
            | exact ⟨_, rfl, ⟨bl9, o9, f9⟩, b9⟩
end Go.Proofs.YtbcfkkicmmhhcaaDoor
