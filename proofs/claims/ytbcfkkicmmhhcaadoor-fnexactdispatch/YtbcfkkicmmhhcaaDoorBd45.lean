import Derived.Test.YtbcfkkicmmhhcaaDoorBd44
import Derived.Test.YtbcfkkicmmhhcaaDoorBd39
namespace Go.Proofs.YtbcfkkicmmhhcaaDoor
open Go.RowKit

set_option maxHeartbeats 1600000 in
set_option maxRecDepth 100000 in
theorem dispBrd_walk (B : Nat) (h : Hb) (pv cv : Value) (cb cbk : List Nat) (w0 w : World) (hb : Brd w B h pv cv 0 h.waiting.length h.waiting cb (pv.ownBlock.toList ++ cbk)) (hw : ORow (wtrF w0.heap.size) w pv h.watches (pv.ownBlock.toList ++ cbk)) (hon : Once 0 cbk) (hbel : Below w0.heap.size w0 w) (hDB : w0.heap.size ≤ B) (hcv : ∀ g, cv.ownBlock = some g → w0.heap.size ≤ g) (hML : ML w0) (hs : szHb h ≤ 1048576) :
    Calls Tryd.prog 49 #[.pointer (some ⟨B, 0, none⟩)] w fun e w' => Below w0.heap.size w w' ∧ ∃ f' c' ns' cb' bw', e = .returned (.bool (dispOk h)) ∧ Brd w' B (dispH h) pv cv f' c' ns' cb' bw' := by
  obtain ⟨p1, p2, p3, p4⟩ := hub_parts hs
  have hRA : RingAt nwsE w B 1 cv 0 h.waiting.length h.waiting h.waiting cb := ⟨Lib.cell_of_heap hb.ko 1, Lib.cell_of_heap hb.ko 2, Lib.cell_of_heap hb.ko 3, hb.o2, hb.ring⟩
  have HP := hide (popNws_walk B 1 _ 110 cv 0 h.waiting.length h.waiting h.waiting cb w hb.ko (by decide) hRA hb.len)
  have hD : w0.heap.size ≤ w.heap.size := hbel.size
  have HBD := hide hb
  have HW := hide hw
  have HON := hide hon
  have HBEL := hide hbel
  have HCV := hide hcv
  have HML := hide hML
  have HP1 := hide p1
  have HP2 := hide p2
  clear hb hw hon hbel hcv hML p1 p2 hs hRA
  obtain ⟨H', hH'⟩ : ∃ H', dispH h = H' := ⟨_, rfl⟩
  obtain ⟨ok, hok⟩ : ∃ ok, dispOk h = ok := ⟨_, rfl⟩
  rw [hH', hok]
  have HH := hide hH'
  have HK := hide hok
  clear hH' hok
  go_enter Tryd.func49, Tryd.ntmps49
  go_wp2_with fail
  refine (unhide HP).mono ?_
  rintro e w2 (⟨hq, rfl, b2⟩ | ⟨n, q, gc, a1, ib, cb', hq, rfl, hgc, oa, orow, sub, on, hr, k2, fr2⟩)
  · have hH : dispH h = h := by unfold dispH; rw [hq]
    have hO : dispOk h = false := by unfold dispOk; rw [hq]; rfl
    obtain rfl : H' = h := (unhide HH).symm.trans hH
    obtain rfl : ok = false := (unhide HK).symm.trans hO
    have hbb := below_next b2 (alloc_b w2 (Obj.cells #[Value.int IntKind.i64 0, Value.slice none 0 0] 85))
    have HBB := hide hbb
    clear hH hO hq b2 hbb HP HH HK
    go_wp2
    go_ret
    exact ⟨(unhide HBB).mono hD, _, _, _, _, _, rfl, (unhide HBD).below (unhide HBB)⟩
  · have hH : dispH h = ⟨dispW n h.watches, q⟩ := by unfold dispH; rw [hq]
    have hO : dispOk h = true := by unfold dispOk; rw [hq]; rfl
    obtain rfl : H' = ⟨dispW n h.watches, q⟩ := (unhide HH).symm.trans hH
    obtain rfl : ok = true := (unhide HK).symm.trans hO
    have hnq := unhide HP2 n (by rw [hq]; simp)
    have DS0 := DS.start (ver := n.ver) (f' := (0 + 1) % h.waiting.length) (c' := h.waiting.length - 1) (unhide HBD) (unhide HW) (unhide HON) hD hDB hgc (unhide HCV gc hgc) fr2 k2 orow oa
    obtain ⟨xa, xb, xc, rfl, hS⟩ := oa.ss
    have hab := alloc_b w2 (Obj.cells #[Value.int IntKind.i64 n.ver, Value.slice xa n.ptrs.length xc] 85)
    have kN := heap_alloc_new w2 (Obj.cells #[Value.int IntKind.i64 n.ver, Value.slice xa n.ptrs.length xc] 85)
    have hML2 := (unhide HML).below ((unhide HBEL).trans DS0.bel)
    have HO := hide (only_walk xa xb 0 xc n.ptrs _ (hML2.below hab) (hS.below hab) hnq)
    have HML2 := hide hML2
    have HDS := hide DS0
    have HR := hide hr
    have n1 := Lib.cell_of_heap kN 1
    have HKN := hide kN
    have HAB := hide hab
    clear HH HK hH hO hq hr k2 fr2 orow oa sub on DS0 hS hML2 HP hab kN hgc
    go_wp2_with fail
    refine (unhide HO).mono ?_
    rintro e w3 ⟨v3, rfl, o3, b3⟩
    rw [onlyP_map] at o3
    obtain ⟨os3, hv3⟩ := ot_ostr o3
    obtain ⟨ss, hss⟩ : ∃ ss, n.ptrs.filter (fun s => (ptoks s.data.toList).isSome) = ss := ⟨_, rfl⟩
    rw [hss] at os3
    have hsl : ss.length ≤ 1048577 := by have := List.length_filter_le (fun s => (ptoks s.data.toList).isSome) n.ptrs; rw [hss] at this; unfold szNws szStr at hnq; omega
    obtain ⟨za, zb, zc, rfl, hS3⟩ := os3.ss
    have hzA : (w2.alloc (Obj.cells #[Value.int IntKind.i64 n.ver, Value.slice xa n.ptrs.length xc] 85)).heap.size = w2.heap.size + 1 := by simp
    have k3 := (b3.block w2.heap.size (by omega)).trans (unhide HKN)
    have k4 := heap_setCell_same _ _ 1 _ _ (.slice za ss.length zc) k3
    have fz := Lib.frozen_of_heap k3
    have m1 : w3.cell? ⟨w2.heap.size, 1, none⟩ = some (.slice xa n.ptrs.length xc) := Lib.cell_of_heap k3 1
    have hz3 := b3.size
    have b24 : Below w2.heap.size w2 (w3.setCell ⟨w2.heap.size, 1, none⟩ (.slice za ss.length zc)) := (below_next (unhide HAB) b3).setCell (p := ⟨w2.heap.size, 1, none⟩) (Nat.le_refl _) _
    have os4 := os3.other (g := w2.heap.size) (fun hm => by have := hv3 _ (by simpa using hm); omega) 1 (.slice za ss.length zc)
    have DS4 := ((unhide HDS).below b24).texts (ver := n.ver) os4
    have HML4 := hide ((unhide HML2).below b24)
    have h0 : (w3.setCell ⟨w2.heap.size, 1, none⟩ (.slice za ss.length zc)).cell? ⟨B, 0, none⟩ = some pv := Lib.cell_of_heap DS4.ko 0
    obtain ⟨pa, pc, rfl, hp1, hp2⟩ := (unhide HBD).o1.form
    have hcap : h.watches.length ≤ pc := by
      obtain ⟨cs, hcs⟩ := (unhide HBD).o1.own
      rcases hcs.2 with ⟨hv, h0⟩ | ⟨g, cap, cur, hv, _, _, hn, _⟩
      · injection hv with _ h1 h2; omega
      · injection hv with _ h1 h2; omega
    have HSS := hide hss
    have HD4 := hide DS4
    have HK4 := hide k4
    have HPA := hide hp2
    clear hss o3 os3 hv3 b3 k3 k4 b24 os4 DS4 hS3 hp1 hp2 HO HDS HML2 HKN HAB HW HON hnq
    go_wp2_with fail
    obtain ⟨mk, hmk⟩ : ∃ mk : Nat, mk = min h.watches.length 100 := ⟨_, rfl⟩
    have hmin : min (h.watches.length : Int) 100 = (mk : Int) := by omega
    have hm1 : mk ≤ h.watches.length := by omega
    have hm2 : mk ≤ pc := by omega
    have HMK := hide hmk
    clear hmk
    go_quiet (fail)
    go_wp2_with fail
    have dr := draws_b (w3.setCell ⟨w2.heap.size, 1, none⟩ (.slice za ss.length zc)) nq
    have HD5 := hide ((unhide HD4).below dr)
    have HML5 := hide ((unhide HML4).below dr)
    have HK5 := hide ((dr.block w2.heap.size (Array.getElem?_eq_some_iff.1 (unhide HK4)).1).trans (unhide HK4))
    clear dr HD4 HML4 HK4 h0 m1 fz n1 hmin
    generalize ((w3.setCell ⟨w2.heap.size, 1, none⟩ (.slice za ss.length zc)).drewN nq) = w5 at *
    generalize w2.heap.size = G at *
    go_loopw [32] (fun i wr => ∃ k : Nat, k ≤ mk ∧ i = .int .i64 (k : Int) ∧ DS w0.heap.size w B (.slice pa h.watches.length pc) cv ((0 + 1) % h.waiting.length) (h.waiting.length - 1) (h.waiting.set 0 nws0) cb' (.slice za ss.length zc) ss (toldK n.ver ss h.watches k) wr ∧ ML wr ∧ wr.heap[G]? = some (.cells #[.int .i64 n.ver, .slice za ss.length zc] 85 (0, 0))) (fun i _ => mk - (intOf i).toNat)
    case atStart => exact ⟨0, Nat.zero_le _, rfl, unhide HD5, unhide HML5, unhide HK5⟩
    case round =>
      obtain ⟨k, hk, rfl, hds, hml, hkg⟩ := hrel
      have HDR := hide hds
      have HMR := hide hml
      have HKR := hide hkg
      clear hds hml hkg HD5 HML5 HK5
      by_cases hlt : k < mk
      · have hltI : (k : Int) < (mk : Int) := by omega
        obtain ⟨gp, rfl⟩ := unhide HPA (by omega)
        obtain ⟨g, cw, cbw, hc, hkg, ho, hl, hst⟩ := (unhide HDR).step rfl (toldK_at (n := n.ver) (ss := ss) (show k < h.watches.length by omega)) n.ver
        obtain ⟨bl, hos⟩ := (unhide HDR).os
        obtain ⟨ua, ub, uc, hu, hS⟩ := hos.ss
        injection hu with hu1 hu2 hu3
        subst hu1
        have hpp := unhide HP1 h.watches[k] (List.getElem_mem _)
        have HM := hide (hear_walk g h.watches[k] cw cbw n.ver za ub 0 zc ss wr hkg ho (unhide HMR) (by unfold szWat at hpp; omega) hS hsl hl)
        have c0 : wr.cell? ⟨gp, k, none⟩ = some (.pointer (some ⟨g, 0, none⟩)) := hc
        have n0 : wr.cell? ⟨G, 0, none⟩ = some (.int .i64 n.ver) := Lib.cell_of_heap (unhide HKR) 0
        have n1 : wr.cell? ⟨G, 1, none⟩ = some (.slice za ss.length zc) := Lib.cell_of_heap (unhide HKR) 1
        have hGg : G ≠ g := fun e => by
          have := unhide HKR
          rw [e, hkg] at this
          injection this with this; injection this with _ this
          exact absurd this (by decide)
        have HST := hide hst
        have HSET := hide (toldK_set (n := n.ver) (ss := ss) (show k < h.watches.length by omega))
        clear hc hkg ho hl hst hos hu2 hu3 hS hpp
        go_wp2_with fail
        refine (unhide HM).mono ?_
        rintro e w6 ⟨rfl, hh⟩
        have D6 := unhide HST w6 hh
        rw [unhide HSET] at D6
        have k6 := (hh.fr.block G (Array.getElem?_eq_some_iff.1 (unhide HKR)).1 (by simpa using hGg)).trans (unhide HKR)
        have m6 : ML w6 := by
          have h0 := (unhide HML)
          exact h0.below ((unhide HBEL).trans D6.bel)
        have HD6 := hide D6
        have HK6 := hide k6
        have HM6 := hide m6
        clear D6 k6 m6 hh HM HST HSET hGg c0 n0 n1
        go_wp2
        go_roundw
        case rel => exact ⟨k + 1, by omega, by go_num, unhide HD6, unhide HM6, unhide HK6⟩
        case measure => simp [intOf]; omega
      · have hltI : ¬ (k : Int) < (mk : Int) := by omega
        obtain rfl : k = mk := by omega
        have hE := toldK_end n.ver ss h.watches
        rw [← unhide HMK, ← unhide HSS] at hE
        obtain ⟨bw, hbr⟩ := (unhide HDR).brd (unhide HR) (by rw [List.length_set]; exact (unhide HBD).len)
        rw [← unhide HSS, hE] at hbr
        have HBR := hide hbr
        have HBE := hide (unhide HDR).bel
        clear hE hbr HDR HMR HKR
        go_wp2
        go_ret
        first
          | exact ⟨unhide HBE, _, _, _, _, _, rfl, unhide HBR⟩
          | exact ⟨unhide HBE, rfl, _, _, _, _, _, unhide HBR⟩
          | exact ⟨unhide HBE, _, _, _, _, _, unhide HBR⟩
end Go.Proofs.YtbcfkkicmmhhcaaDoor

namespace Go.Proofs.YtbcfkkicmmhhcaaDoor
open Go.RowKit

set_option maxHeartbeats 1600000 in
set_option maxRecDepth 100000 in
theorem implDispatch_walk (v : Value) (h : Hb) (bl : List Nat) (w : World) (ho : OHub w v h bl) (hnd : bl.Nodup) (hML : ML w) (hs : szHb h ≤ 1048576) :
    Calls Tryd.prog 19 #[v] w fun e w' => ∃ v' bl', e = .returned (.tuple #[v', .bool (dispOk h)]) ∧ OHub w' v' (dispH h) bl' ∧ Fsh w.heap.size bl' ∧ Below w.heap.size w w' := by
  obtain ⟨p, q, i1, i2, rfl, o1, o2, rfl⟩ := ho
  have HO : Hid (OHub w (.agg #[p, q]) h (i1 ++ i2)) := ⟨p, q, i1, i2, rfl, o1, o2, rfl⟩
  have hsb : szHb h ≤ 1048577 := by omega
  have HSZ := hide (dispH_sz hs)
  have HML := hide hML
  have HND := hide hnd
  clear o1 o2 hML hnd
  go_enter Tryd.func19, Tryd.ntmps19
  go_wp2_with fail
  have hA := new2 w (Obj.cells #[p, q] 39) (Obj.cells #[Value.slice none 0 0, Value.slice none 0 0] 39)
  generalize ((w.alloc (Obj.cells #[p, q] 39)).alloc (Obj.cells #[Value.slice none 0 0, Value.slice none 0 0] 39)) = wA at *
  have hsz := hA.size
  refine (readHub3_walk _ h (i1 ++ i2) wA ((unhide HO).below hA.bel) hsb).mono ?_
  rintro e w1 ⟨B, pv, cv, cb, bw, rfl, hB, hBn, hcn, hpn, hcb, b1, cbk, rfl, hwt, honce, _⟩
  have hz1 := b1.size
  have B1 := below_next hA.bel b1
  have k1 := (b1.block (w.heap.size + 1) (by omega)).trans hA.k1
  have HM := hide (dispBrd_walk B h pv cv cb cbk wA w1 hB hwt (honce (unhide HND)) b1 hBn hcn ((unhide HML).below hA.bel) hs)
  have HB1 := hide B1
  have HK1 := hide k1
  clear hA b1 B1 k1 hB HO hpn hcn hcb hwt honce HND hs
  go_wp2_with fail
  refine (unhide HM).mono ?_
  rintro e w2 ⟨b2, f', c', ns', cb', bw', rfl, hB2⟩
  obtain ⟨hse, hs1', hs2', hs3', hs4'⟩ := unhide HSZ
  obtain ⟨h', hh'⟩ : ∃ h', dispH h = h' := ⟨_, rfl⟩
  obtain ⟨cd, hcd⟩ : ∃ cd, dispOk h = cd := ⟨_, rfl⟩
  rw [hh'] at hB2 hs1' hs2' hs3' hs4'
  rw [hcd]
  have hz2 := b2.size
  have B2 : Below w.heap.size w w2 := (unhide HB1).trans (b2.mono (by omega))
  have k2 := (b2.block (w.heap.size + 1) (by omega)).trans (unhide HK1)
  have HTL := hide (tellHub2_walk B _ pv cv f' c' ns' cb' bw' w2 hB2 hs3' hs4' hs1' hs2')
  have HB2 := hide B2
  have HK2 := hide k2
  have HH := hide hh'
  have HCD := hide hcd
  clear b2 hB2 B2 k2 HM HB1 HK1 hse hs1' hs2' hs3' hs4' hh' hcd HSZ
  cases cd
  all_goals (
    go_wp2_with fail
    refine (unhide HTL).mono ?_
    rintro e w3 ⟨v3, bl3, rfl, o3, f3, b3⟩
    obtain ⟨p3, q3, j1, j2, rfl, po, qo, rfl⟩ := o3
    obtain ⟨pa, pc, rfl, hp1, hp2⟩ := po.form
    obtain ⟨qa, qc, rfl, hq1, hq2⟩ := qo.form
    have k3 := (b3.block (w.heap.size + 1) (by omega)).trans (unhide HK2)
    have hz3 := b3.size
    have r0 : w3.cell? ⟨w.heap.size + 1, 0, none⟩ = some (.slice none 0 0) := Lib.cell_of_heap k3 0
    have r1 : w3.cell? ⟨w.heap.size + 1, 1, none⟩ = some (.slice none 0 0) := Lib.cell_of_heap k3 1
    have fr := Lib.frozen_of_heap k3
    have HB3 := hide (below_next (unhide HB2) b3)
    have HPO := hide po
    have HQO := hide qo
    have HF3 := hide f3
    have HK3 := hide k3
    clear b3 po qo f3 k3 hp1 hp2 hq1 hq2 HTL HB2 HK2
    go_wp2
    refine bodyPost_ret (results_cell_tmp rfl _ _ (w.heap.size + 1) 39 #[_, _] (0, 0) _ _ rfl rfl (putN_full (unhide HK3) [_, _] rfl) Tryd.underlying39 rfl (by kernel_rfl)) rfl ?_
    have hn : w.heap.size + 1 ∉ j1 ++ j2 := fun hm => by have := (unhide HF3).2 _ hm; omega
    have n1 : w.heap.size + 1 ∉ j1 := fun hm => hn (List.mem_append.2 (.inl hm))
    have n2 : w.heap.size + 1 ∉ j2 := fun hm => hn (List.mem_append.2 (.inr hm))
    rw [unhide HH, unhide HCD]
    exact ⟨_, j1 ++ j2, rfl, ⟨_, _, j1, j2, rfl, (unhide HPO).putN n1 [_, _] 0, (unhide HQO).putN n2 [_, _] 0, rfl⟩, (unhide HF3).mono (by omega), putN_below (g := w.heap.size + 1) (unhide HB3) (by omega) [_, _] 0⟩)
end Go.Proofs.YtbcfkkicmmhhcaaDoor

namespace Go.Proofs.YtbcfkkicmmhhcaaDoor
open Go.RowKit

/-- An element of a row is changed and written anew. -/
theorem orow_replace {α : Type} {e : Elem α} {w : World} {g n cap : Nat} {xs : List α} {cb : List Nat} (h : ORow e w (.slice (some ⟨g, 0, none⟩) n cap) xs (g :: cb)) (hd : (g :: cb).Nodup) {j : Nat} {x : α} (hx : xs[j]? = some x) :
    ∃ vs ib, e.E w vs x ib ∧ (∀ m u, vs[m]? = some u → w.cell? ⟨g, j * e.wd + m, none⟩ = some u ∧ w.frozen? ⟨g, j * e.wd + m, none⟩ = false) ∧ (∀ b ∈ ib, b ∈ cb) ∧ ib.Nodup ∧ (∀ w', Fr ib w w' → ∀ m u, vs[m]? = some u → w'.cell? ⟨g, j * e.wd + m, none⟩ = some u ∧ w'.frozen? ⟨g, j * e.wd + m, none⟩ = false) ∧ ∀ w' vs' x' ib', Fr ib w w' → e.E w' vs' x' ib' → g ∉ ib' → ib'.Nodup → (∀ b ∈ ib', b ∈ ib ∨ w.heap.size ≤ b) →
      ∃ cb', ORow e (putN w' g (j * e.wd) vs') (.slice (some ⟨g, 0, none⟩) n cap) (xs.set j x') (g :: cb') ∧ (g :: cb').Nodup ∧ ∀ b ∈ cb', b ∈ cb ∨ b ∈ ib' := by
  have hlt := h.lt
  obtain ⟨ps, hl, hE0, ho, hb⟩ := h
  have hj : j < xs.length := (List.getElem?_eq_some_iff.1 hx).1
  have hn : n = xs.length := by
    rcases ho.2 with ⟨hv, h0⟩ | ⟨g', cap', cur, hv, _⟩
    · cases hv
    · injection hv
  subst hn
  have hcb : cb = ps.flatMap (·.2) := by
    simp [Value.ownBlock] at hb; exact hb
  have hwd := orow_wd hl hE0
  rw [List.nodup_cons] at hd
  have hnot : ∀ p ∈ ps, g ∉ p.2 := fun p hp hg => hd.1 (by rw [hcb]; exact List.mem_flatMap.2 ⟨p, hp, hg⟩)
  have hp : ps[j]? = some ps[j] := List.getElem?_eq_getElem (by omega)
  have hdp : (ps.flatMap (·.2)).Nodup := hcb ▸ hd.2
  refine ⟨ps[j].1, ps[j].2, hE0 j _ x hp hx, ?_, fun b hb => by rw [hcb]; exact List.mem_flatMap.2 ⟨_, List.getElem_mem _, hb⟩, nodup_at hdp hp, fun w' hfr m u hm => ?_, fun w' vs' x' ib' hfr hE' hg' hnd hsub => ?_⟩
  · intro m u hm
    have hm' : m < e.wd := by
      have := (List.getElem?_eq_some_iff.1 hm).1
      rwa [hwd _ (List.getElem_mem (by omega))] at this
    have hlt : j * e.wd + m < xs.length * e.wd := by
      have : (j + 1) * e.wd ≤ xs.length * e.wd := Nat.mul_le_mul_right _ hj
      rw [Nat.add_mul] at this; omega
    refine ⟨?_, ho.frozenAt _⟩
    rw [ho.cellAt _ hlt, flat_at hwd hp m hm']; exact hm
  · have hog : Kp (Value.slice (some ⟨g, 0, none⟩) xs.length cap).ownBlock.toList w w' := hfr.kp (fun b hb => by simp [Value.ownBlock] at hb; subst hb; exact hlt _ List.mem_cons_self) (fun b hb => by simp [Value.ownBlock] at hb; rw [hb]; exact hnot _ (List.getElem_mem _))
    have ho' := own_keep ho hog
    have hm' : m < e.wd := by
      have := (List.getElem?_eq_some_iff.1 hm).1
      rwa [hwd _ (List.getElem_mem (by omega))] at this
    have hlt : j * e.wd + m < xs.length * e.wd := by
      have : (j + 1) * e.wd ≤ xs.length * e.wd := Nat.mul_le_mul_right _ hj
      rw [Nat.add_mul] at this; omega
    refine ⟨?_, ho'.frozenAt _⟩
    rw [ho'.cellAt _ hlt, flat_at hwd hp m hm']; exact hm
  have hk : ∀ bl : List Nat, g ∉ bl → Kp bl w' (putN w' g (j * e.wd) vs') := fun bl hg b hb => putN_other (k := b) (g := g) (fun e => hg (by rw [← e]; exact hb)) _ _
  have hk1 : ∀ (i : Nat) (p : List Value × List Nat), ps[i]? = some p → i ≠ j → Kp p.2 w w' := fun i p hpi hij => hfr.kp (fun b hb => hlt b (List.mem_cons_of_mem _ (by rw [hcb]; exact List.mem_flatMap.2 ⟨p, List.mem_of_getElem? hpi, hb⟩))) (nodup_apart hdp hpi hp hij)
  have hog : Kp (Value.slice (some ⟨g, 0, none⟩) xs.length cap).ownBlock.toList w w' := hfr.kp (fun b hb => by simp [Value.ownBlock] at hb; subst hb; exact hlt _ List.mem_cons_self) (fun b hb => by simp [Value.ownBlock] at hb; rw [hb]; exact hnot _ (List.getElem_mem _))
  refine ⟨(ps.set j (vs', ib')).flatMap (·.2), ⟨ps.set j (vs', ib'), by simp [hl], ?_, ?_, by simp [Value.ownBlock]⟩, ?_, fun b hb => ?_⟩
  · intro i p y hpi hy
    by_cases hij : i = j
    · subst hij
      rw [List.getElem?_set_self (by omega)] at hpi hy
      cases hpi; cases hy
      exact e.keep hE' (hk _ hg')
    · rw [List.getElem?_set_ne (by omega)] at hpi hy
      exact e.keep (e.keep (hE0 i p y hpi hy) (hk1 i p hpi hij)) (hk _ (hnot p (List.mem_of_getElem? hpi)))
  · rw [List.length_set, flat_setN hwd (by omega) vs' (e.len hE') ib']
    exact putN_own (own_keep ho hog) vs' (j * e.wd)
  · rw [List.nodup_cons]
    have h1 := once_set (once_zero.2 hdp) (j := j) (by omega) (q := (vs', ib')) (once_zero.2 hnd) fun b hb => by
      rcases hsub b hb with h2 | h2
      · exact .inl h2
      · refine .inr fun hm => ?_
        have := hlt b (List.mem_cons_of_mem _ (by rw [hcb]; exact hm)); omega
    refine ⟨fun hg => ?_, once_zero.1 h1⟩
    obtain ⟨p, hpm, hb⟩ := List.mem_flatMap.1 hg
    rcases List.mem_or_eq_of_mem_set hpm with hpm | rfl
    · exact hnot p hpm hb
    · exact hg' hb
  · obtain ⟨p, hpm, hb⟩ := List.mem_flatMap.1 hb
    rcases List.mem_or_eq_of_mem_set hpm with hpm | rfl
    · left; rw [hcb]; exact List.mem_flatMap.2 ⟨p, hpm, hb⟩
    · exact .inr hb
end Go.Proofs.YtbcfkkicmmhhcaaDoor
