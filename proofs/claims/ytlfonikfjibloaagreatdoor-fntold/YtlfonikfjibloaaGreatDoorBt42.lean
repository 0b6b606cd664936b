import Derived.Test.YtlfonikfjibloaaGreatDoorBt41
import Derived.Test.YtlfonikfjibloaaGreatDoorBt40
import Derived.Test.YtlfonikfjibloaaGreatDoorBt38
import Derived.Test.YtlfonikfjibloaaGreatDoorBt37
namespace Go.Proofs.YtlfonikfjibloaaGreatDoor
open Go.RowKit

set_option maxHeartbeats 1600000 in
set_option maxRecDepth 100000 in
theorem dispBrd_walk (B : Nat) (h : Hb) (pv cv : Value) (cb cbk : List Nat) (w0 w : World) (hb : Brd w B h pv cv 0 h.waiting.length h.waiting cb (pv.ownBlock.toList ++ cbk)) (hw : ORow (wtrF w0.heap.size) w pv h.watches (pv.ownBlock.toList ++ cbk)) (hon : Once 0 cbk) (hbel : Below w0.heap.size w0 w) (hDB : w0.heap.size ≤ B) (hcv : ∀ g, cv.ownBlock = some g → w0.heap.size ≤ g) (hML : ML w0) (hs : szHb h ≤ 1048576) :
    Calls Tryz.prog 64 #[.pointer (some ⟨B, 0, none⟩)] w fun e w' => Below w0.heap.size w w' ∧ ∃ f' c' ns' cb' bw', e = .returned (.bool (dispOk h)) ∧ Brd w' B (dispH h) pv cv f' c' ns' cb' bw' := by
  obtain ⟨p1, p2, p3, p4⟩ := hub_parts hs
  have hRA : RingAt nwsE w B 1 cv 0 h.waiting.length h.waiting h.waiting cb := ⟨Lib.cell_of_heap hb.ko 1, Lib.cell_of_heap hb.ko 2, Lib.cell_of_heap hb.ko 3, hb.o2, hb.ring⟩
  have HP := hide (popNws_walk B 1 _ 141 cv 0 h.waiting.length h.waiting h.waiting cb w hb.ko (by decide) hRA hb.len)
  have hD : w0.heap.size ≤ w.heap.size := hbel.size
  have HBD := hide hb
  have HW := hide hw
  have HON := hide hon
  have HBEL := hide hbel
  have HCV := hide hcv
  have HML := hide hML
  have HP1 := hide p1
  have HP2 := hide p2
  clear hb hw hon hbel hcv hML p1 p2 hs hRA
  obtain ⟨H', hH'⟩ : ∃ H', dispH h = H' := ⟨_, rfl⟩
  obtain ⟨ok, hok⟩ : ∃ ok, dispOk h = ok := ⟨_, rfl⟩
  rw [hH', hok]
  have HH := hide hH'
  have HK := hide hok
  clear hH' hok
  go_enter Tryz.func64, Tryz.ntmps64
  go_wp2_with fail
  refine (unhide HP).mono ?_
  rintro e w2 (⟨hq, rfl, b2⟩ | ⟨n, q, gc, a1, ib, cb', hq, rfl, hgc, oa, orow, sub, on, hr, k2, fr2⟩)
  · have hH : dispH h = h := by unfold dispH; rw [hq]
    have hO : dispOk h = false := by unfold dispOk; rw [hq]; rfl
    obtain rfl : H' = h := (unhide HH).symm.trans hH
    obtain rfl : ok = false := (unhide HK).symm.trans hO
    have hbb := below_next b2 (alloc_b w2 (Obj.cells #[Value.int IntKind.i64 0, Value.slice none 0 0] 53))
    have HBB := hide hbb
    clear hH hO hq b2 hbb HP HH HK
    go_wp2
    go_ret
    exact ⟨(unhide HBB).mono hD, _, _, _, _, _, rfl, (unhide HBD).below (unhide HBB)⟩
  · have hH : dispH h = ⟨dispW n h.watches, q⟩ := by unfold dispH; rw [hq]
    have hO : dispOk h = true := by unfold dispOk; rw [hq]; rfl
    obtain rfl : H' = ⟨dispW n h.watches, q⟩ := (unhide HH).symm.trans hH
    obtain rfl : ok = true := (unhide HK).symm.trans hO
    have hnq := unhide HP2 n (by rw [hq]; simp)
    have DS0 := DS.start (ver := n.ver) (f' := (0 + 1) % h.waiting.length) (c' := h.waiting.length - 1) (unhide HBD) (unhide HW) (unhide HON) hD hDB hgc (unhide HCV gc hgc) fr2 k2 orow oa
    obtain ⟨xa, xb, xc, rfl, hS⟩ := oa.ss
    have hab := alloc_b w2 (Obj.cells #[Value.int IntKind.i64 n.ver, Value.slice xa n.ptrs.length xc] 53)
    have kN := heap_alloc_new w2 (Obj.cells #[Value.int IntKind.i64 n.ver, Value.slice xa n.ptrs.length xc] 53)
    have hML2 := (unhide HML).below ((unhide HBEL).trans DS0.bel)
    have HO := hide (only_walk xa xb 0 xc n.ptrs _ (hML2.below hab) (hS.below hab) hnq)
    have HML2 := hide hML2
    have HDS := hide DS0
    have HR := hide hr
    have n1 := Lib.cell_of_heap kN 1
    have HKN := hide kN
    have HAB := hide hab
    clear HH HK hH hO hq hr k2 fr2 orow oa sub on DS0 hS hML2 HP hab kN hgc
    go_wp2_with fail
    refine (unhide HO).mono ?_
    rintro e w3 ⟨v3, rfl, o3, b3⟩
    rw [onlyP_map] at o3
    obtain ⟨os3, hv3⟩ := ot_ostr o3
    obtain ⟨ss, hss⟩ : ∃ ss, n.ptrs.filter (fun s => (ptoks s.data.toList).isSome) = ss := ⟨_, rfl⟩
    rw [hss] at os3
    have hsl : ss.length ≤ 1048577 := by have := List.length_filter_le (fun s => (ptoks s.data.toList).isSome) n.ptrs; rw [hss] at this; unfold szNws szStr at hnq; omega
    obtain ⟨za, zb, zc, rfl, hS3⟩ := os3.ss
    have hzA : (w2.alloc (Obj.cells #[Value.int IntKind.i64 n.ver, Value.slice xa n.ptrs.length xc] 53)).heap.size = w2.heap.size + 1 := by simp
    have k3 := (b3.block w2.heap.size (by omega)).trans (unhide HKN)
    have k4 := heap_setCell_same _ _ 1 _ _ (.slice za ss.length zc) k3
    have fz := Lib.frozen_of_heap k3
    have m1 : w3.cell? ⟨w2.heap.size, 1, none⟩ = some (.slice xa n.ptrs.length xc) := Lib.cell_of_heap k3 1
    have hz3 := b3.size
    have b24 : Below w2.heap.size w2 (w3.setCell ⟨w2.heap.size, 1, none⟩ (.slice za ss.length zc)) := (below_next (unhide HAB) b3).setCell (p := ⟨w2.heap.size, 1, none⟩) (Nat.le_refl _) _
    have os4 := os3.other (g := w2.heap.size) (fun hm => by have := hv3 _ (by simpa using hm); omega) 1 (.slice za ss.length zc)
    have DS4 := ((unhide HDS).below b24).texts (ver := n.ver) os4
    have HML4 := hide ((unhide HML2).below b24)
    have h0 : (w3.setCell ⟨w2.heap.size, 1, none⟩ (.slice za ss.length zc)).cell? ⟨B, 0, none⟩ = some pv := Lib.cell_of_heap DS4.ko 0
    obtain ⟨pa, pc, rfl, hp1, hp2⟩ := (unhide HBD).o1.form
    have hcap : h.watches.length ≤ pc := by
      obtain ⟨cs, hcs⟩ := (unhide HBD).o1.own
      rcases hcs.2 with ⟨hv, h0⟩ | ⟨g, cap, cur, hv, _, _, hn, _⟩
      · injection hv with _ h1 h2; omega
      · injection hv with _ h1 h2; omega
    have HSS := hide hss
    have HD4 := hide DS4
    have HK4 := hide k4
    have HPA := hide hp2
    clear hss o3 os3 hv3 b3 k3 k4 b24 os4 DS4 hS3 hp1 hp2 HO HDS HML2 HKN HAB HW HON hnq
    go_wp2_with fail
    obtain ⟨mk, hmk⟩ : ∃ mk : Nat, mk = min h.watches.length 100 := ⟨_, rfl⟩
    have hmin : min (h.watches.length : Int) 100 = (mk : Int) := by omega
    have hm1 : mk ≤ h.watches.length := by omega
    have hm2 : mk ≤ pc := by omega
    have HMK := hide hmk
    clear hmk
    go_quiet (fail)
    go_wp2_with fail
    have dr := draws_b (w3.setCell ⟨w2.heap.size, 1, none⟩ (.slice za ss.length zc)) nq
    have HD5 := hide ((unhide HD4).below dr)
    have HML5 := hide ((unhide HML4).below dr)
    have HK5 := hide ((dr.block w2.heap.size (Array.getElem?_eq_some_iff.1 (unhide HK4)).1).trans (unhide HK4))
    clear dr HD4 HML4 HK4 h0 m1 fz n1 hmin
    generalize ((w3.setCell ⟨w2.heap.size, 1, none⟩ (.slice za ss.length zc)).drewN nq) = w5 at *
    generalize w2.heap.size = G at *
    go_loopw [32] (fun i wr => ∃ k : Nat, k ≤ mk ∧ i = .int .i64 (k : Int) ∧ DS w0.heap.size w B (.slice pa h.watches.length pc) cv ((0 + 1) % h.waiting.length) (h.waiting.length - 1) (h.waiting.set 0 nws0) cb' (.slice za ss.length zc) ss (toldK n.ver ss h.watches k) wr ∧ ML wr ∧ wr.heap[G]? = some (.cells #[.int .i64 n.ver, .slice za ss.length zc] 53 (0, 0))) (fun i _ => mk - (intOf i).toNat)
    case atStart => exact ⟨0, Nat.zero_le _, rfl, unhide HD5, unhide HML5, unhide HK5⟩
    case round =>
      obtain ⟨k, hk, rfl, hds, hml, hkg⟩ := hrel
      have HDR := hide hds
      have HMR := hide hml
      have HKR := hide hkg
      clear hds hml hkg HD5 HML5 HK5
      by_cases hlt : k < mk
      · have hltI : (k : Int) < (mk : Int) := by omega
        obtain ⟨gp, rfl⟩ := unhide HPA (by omega)
        obtain ⟨g, cw, cbw, hc, hkg, ho, hl, hst⟩ := (unhide HDR).step rfl (toldK_at (n := n.ver) (ss := ss) (show k < h.watches.length by omega)) n.ver
        obtain ⟨bl, hos⟩ := (unhide HDR).os
        obtain ⟨ua, ub, uc, hu, hS⟩ := hos.ss
        injection hu with hu1 hu2 hu3
        subst hu1
        have hpp := unhide HP1 h.watches[k] (List.getElem_mem _)
        have HM := hide (hear_walk g h.watches[k] cw cbw n.ver za ub 0 zc ss wr hkg ho (unhide HMR) (by unfold szWat at hpp; omega) hS hsl hl)
        have c0 : wr.cell? ⟨gp, k, none⟩ = some (.pointer (some ⟨g, 0, none⟩)) := hc
        have n0 : wr.cell? ⟨G, 0, none⟩ = some (.int .i64 n.ver) := Lib.cell_of_heap (unhide HKR) 0
        have n1 : wr.cell? ⟨G, 1, none⟩ = some (.slice za ss.length zc) := Lib.cell_of_heap (unhide HKR) 1
        have hGg : G ≠ g := fun e => by
          have := unhide HKR
          rw [e, hkg] at this
          injection this with this; injection this with _ this
          exact absurd this (by decide)
        have HST := hide hst
        have HSET := hide (toldK_set (n := n.ver) (ss := ss) (show k < h.watches.length by omega))
        clear hc hkg ho hl hst hos hu2 hu3 hS hpp
        go_wp2_with fail
        refine (unhide HM).mono ?_
        rintro e w6 ⟨rfl, hh⟩
        have D6 := unhide HST w6 hh
        rw [unhide HSET] at D6
        have k6 := (hh.fr.block G (Array.getElem?_eq_some_iff.1 (unhide HKR)).1 (by simpa using hGg)).trans (unhide HKR)
        have m6 : ML w6 := by
          have h0 := (unhide HML)
          exact h0.below ((unhide HBEL).trans D6.bel)
        have HD6 := hide D6
        have HK6 := hide k6
        have HM6 := hide m6
        clear D6 k6 m6 hh HM HST HSET hGg c0 n0 n1
        go_wp2
        go_roundw
        case rel => exact ⟨k + 1, by omega, by go_num, unhide HD6, unhide HM6, unhide HK6⟩
        case measure => simp [intOf]; omega
      · have hltI : ¬ (k : Int) < (mk : Int) := by omega
        obtain rfl : k = mk := by omega
        have hE := toldK_end n.ver ss h.watches
        rw [← unhide HMK, ← unhide HSS] at hE
        obtain ⟨bw, hbr⟩ := (unhide HDR).brd (unhide HR) (by rw [List.length_set]; exact (unhide HBD).len)
        rw [← unhide HSS, hE] at hbr
        have HBR := hide hbr
        have HBE := hide (unhide HDR).bel
        clear hE hbr HDR HMR HKR
        go_wp2
        go_ret
        first
          | exact ⟨unhide HBE, _, _, _, _, _, rfl, unhide HBR⟩
          | exact ⟨unhide HBE, rfl, _, _, _, _, _, unhide HBR⟩
          | exact ⟨unhide HBE, _, _, _, _, _, unhide HBR⟩
end Go.Proofs.YtlfonikfjibloaaGreatDoor

namespace Go.Proofs.YtlfonikfjibloaaGreatDoor
open Go.RowKit

set_option maxHeartbeats 1600000 in
set_option maxRecDepth 100000 in
theorem implDispatch_walk (v : Value) (h : Hb) (bl : List Nat) (w : World) (ho : OHub w v h bl) (hnd : bl.Nodup) (hML : ML w) (hs : szHb h ≤ 1048576) :
    Calls Tryz.prog 24 #[v] w fun e w' => ∃ v' bl', e = .returned (.tuple #[v', .bool (dispOk h)]) ∧ OHub w' v' (dispH h) bl' ∧ Fsh w.heap.size bl' ∧ Below w.heap.size w w' := by
  obtain ⟨p, q, i1, i2, rfl, o1, o2, rfl⟩ := ho
  have HO : Hid (OHub w (.agg #[p, q]) h (i1 ++ i2)) := ⟨p, q, i1, i2, rfl, o1, o2, rfl⟩
  have hsb : szHb h ≤ 1048577 := by omega
  have HSZ := hide (dispH_sz hs)
  have HML := hide hML
  have HND := hide hnd
  clear o1 o2 hML hnd
  go_enter Tryz.func24, Tryz.ntmps24
  go_wp2_with fail
  have hA := new2 w (Obj.cells #[p, q] 47) (Obj.cells #[Value.slice none 0 0, Value.slice none 0 0] 47)
  generalize ((w.alloc (Obj.cells #[p, q] 47)).alloc (Obj.cells #[Value.slice none 0 0, Value.slice none 0 0] 47)) = wA at *
  have hsz := hA.size
  refine (readHub3_walk _ h (i1 ++ i2) wA ((unhide HO).below hA.bel) hsb).mono ?_
  rintro e w1 ⟨B, pv, cv, cb, bw, rfl, hB, hBn, hcn, hpn, hcb, b1, cbk, rfl, hwt, honce, _⟩
  have hz1 := b1.size
  have B1 := below_next hA.bel b1
  have k1 := (b1.block (w.heap.size + 1) (by omega)).trans hA.k1
  have HM := hide (dispBrd_walk B h pv cv cb cbk wA w1 hB hwt (honce (unhide HND)) b1 hBn hcn ((unhide HML).below hA.bel) hs)
  have HB1 := hide B1
  have HK1 := hide k1
  clear hA b1 B1 k1 hB HO hpn hcn hcb hwt honce HND hs
  go_wp2_with fail
  refine (unhide HM).mono ?_
  rintro e w2 ⟨b2, f', c', ns', cb', bw', rfl, hB2⟩
  obtain ⟨hse, hs1', hs2', hs3', hs4'⟩ := unhide HSZ
  obtain ⟨h', hh'⟩ : ∃ h', dispH h = h' := ⟨_, rfl⟩
  obtain ⟨cd, hcd⟩ : ∃ cd, dispOk h = cd := ⟨_, rfl⟩
  rw [hh'] at hB2 hs1' hs2' hs3' hs4'
  rw [hcd]
  have hz2 := b2.size
  have B2 : Below w.heap.size w w2 := (unhide HB1).trans (b2.mono (by omega))
  have k2 := (b2.block (w.heap.size + 1) (by omega)).trans (unhide HK1)
  have HTL := hide (tellHub2_walk B _ pv cv f' c' ns' cb' bw' w2 hB2 hs3' hs4' hs1' hs2')
  have HB2 := hide B2
  have HK2 := hide k2
  have HH := hide hh'
  have HCD := hide hcd
  clear b2 hB2 B2 k2 HM HB1 HK1 hse hs1' hs2' hs3' hs4' hh' hcd HSZ
  cases cd
  all_goals (
    go_wp2_with fail
    refine (unhide HTL).mono ?_
    rintro e w3 ⟨v3, bl3, rfl, o3, f3, b3⟩
    obtain ⟨p3, q3, j1, j2, rfl, po, qo, rfl⟩ := o3
    obtain ⟨pa, pc, rfl, hp1, hp2⟩ := po.form
    obtain ⟨qa, qc, rfl, hq1, hq2⟩ := qo.form
    have k3 := (b3.block (w.heap.size + 1) (by omega)).trans (unhide HK2)
    have hz3 := b3.size
    have r0 : w3.cell? ⟨w.heap.size + 1, 0, none⟩ = some (.slice none 0 0) := Lib.cell_of_heap k3 0
    have r1 : w3.cell? ⟨w.heap.size + 1, 1, none⟩ = some (.slice none 0 0) := Lib.cell_of_heap k3 1
    have fr := Lib.frozen_of_heap k3
    have HB3 := hide (below_next (unhide HB2) b3)
    have HPO := hide po
    have HQO := hide qo
    have HF3 := hide f3
    have HK3 := hide k3
    clear b3 po qo f3 k3 hp1 hp2 hq1 hq2 HTL HB2 HK2
    go_wp2
    refine bodyPost_ret (results_cell_tmp rfl _ _ (w.heap.size + 1) 47 #[_, _] (0, 0) _ _ rfl rfl (putN_full (unhide HK3) [_, _] rfl) Tryz.underlying47 rfl (by kernel_rfl)) rfl ?_
    have hn : w.heap.size + 1 ∉ j1 ++ j2 := fun hm => by have := (unhide HF3).2 _ hm; omega
    have n1 : w.heap.size + 1 ∉ j1 := fun hm => hn (List.mem_append.2 (.inl hm))
    have n2 : w.heap.size + 1 ∉ j2 := fun hm => hn (List.mem_append.2 (.inr hm))
    rw [unhide HH, unhide HCD]
    exact ⟨_, j1 ++ j2, rfl, ⟨_, _, j1, j2, rfl, (unhide HPO).putN n1 [_, _] 0, (unhide HQO).putN n2 [_, _] 0, rfl⟩, (unhide HF3).mono (by omega), putN_below (g := w.heap.size + 1) (unhide HB3) (by omega) [_, _] 0⟩)
end Go.Proofs.YtlfonikfjibloaaGreatDoor

namespace Go.Proofs.YtlfonikfjibloaaGreatDoor
open Go.RowKit

set_option maxHeartbeats 1600000 in
theorem implTake_walk (v : Value) (h : Hb) (client : Int) (bl : List Nat) (w : World) (ho : OHub w v h bl) (hn : bl.Nodup) (hs : szHb h ≤ 1048576) :
    Calls Tryz.prog 26 #[v, .int .i64 client] w fun e w' => ∃ v' bl' a0 a1 a2 jb, e = .returned (.tuple #[v', .agg #[a0, a1, a2], .int .i64 (takC h client)]) ∧ OHub w' v' (takH h client) bl' ∧ msgE.E w' [a0, a1, a2] (takM h client) jb ∧ Fsh w.heap.size (bl' ++ jb) ∧ Below w.heap.size w w' := by
  obtain ⟨p, q, i1, i2, rfl, o1, o2, rfl⟩ := ho
  have HO : Hid (OHub w (.agg #[p, q]) h (i1 ++ i2)) := ⟨p, q, i1, i2, rfl, o1, o2, rfl⟩
  have hsb : szHb h ≤ 1048577 := by omega
  obtain ⟨tz, t1, t2, t3⟩ := takH_sz (c := client) hs
  have htz : szHb (takH h client) ≤ 2097154 := by omega
  have HT1 := hide t1
  have HT2 := hide t2
  have HND := hide hn
  clear o1 o2 t1 t2 tz hn
  go_enter Tryz.func26, Tryz.ntmps26
  go_wp2_with fail
  have hA := new3 w (Obj.cells #[p, q] 47) (Obj.cells #[Value.slice none 0 0, Value.slice none 0 0] 47) (Obj.cells #[Value.int IntKind.i64 0, Value.slice none 0 0, Value.bool false] 58)
  generalize (((w.alloc (Obj.cells #[p, q] 47)).alloc (Obj.cells #[Value.slice none 0 0, Value.slice none 0 0] 47)).alloc (Obj.cells #[Value.int IntKind.i64 0, Value.slice none 0 0, Value.bool false] 58)) = wA at *
  have hsz := hA.size
  refine (readHub2_walk _ h (i1 ++ i2) wA ((unhide HO).below hA.bel) hsb).mono ?_
  rintro e w1 ⟨B, bv, cv, cb, bw, rfl, hB, hBn, _, hpn, _, b1, cbk, rfl, hon, hst⟩
  have hz1 := b1.size
  have B1 := below_next hA.bel b1
  have k1 := (b1.block (w.heap.size + 1) (by omega)).trans hA.k1
  have k2 := (b1.block (w.heap.size + 1 + 1) (by omega)).trans hA.k2
  have HM := hide (takeBrd_walk B h bv cv 0 h.waiting.length h.waiting cb cbk client w1 hB (hon (unhide HND)) wA.heap.size hst hz1)
  have HB1 := hide B1
  have HK1 := hide k1
  have HK2 := hide k2
  clear hA b1 B1 k1 k2 hB HO hpn hon hst HND
  go_wp2_with fail
  refine (unhide HM).mono ?_
  rintro e w2 ⟨a1, ib, bw', rfl, oa, hB2, b2⟩
  have H1 := unhide HT1
  have H2 := unhide HT2
  clear HT1 HT2 HM
  obtain ⟨h', hh'⟩ : ∃ h', takH h client = h' := ⟨_, rfl⟩
  obtain ⟨m', hm'⟩ : ∃ m', takM h client = m' := ⟨_, rfl⟩
  obtain ⟨cd, hcd⟩ : ∃ cd, takC h client = cd := ⟨_, rfl⟩
  rw [hh'] at hB2 htz H1 H2
  rw [hm'] at oa t3
  rw [hm', hcd]
  have HH' := hide hh'
  have HM' := hide hm'
  have HCD := hide hcd
  clear hh' hm' hcd
  obtain ⟨ya, yc, rfl, _, _⟩ := oa.form
  have hz2 := b2.size
  have hab := alloc_b w2 (Obj.cells #[Value.int IntKind.i64 m'.ver, .slice ya m'.ptrs.length yc, Value.bool m'.over] 58)
  have kM := heap_alloc_new w2 (Obj.cells #[Value.int IntKind.i64 m'.ver, .slice ya m'.ptrs.length yc, Value.bool m'.over] 58)
  have hsm : (w2.alloc (Obj.cells #[Value.int IntKind.i64 m'.ver, .slice ya m'.ptrs.length yc, Value.bool m'.over] 58)).heap.size = w2.heap.size + 1 := by simp
  have hdr : Below (w2.alloc (Obj.cells #[Value.int IntKind.i64 m'.ver, .slice ya m'.ptrs.length yc, Value.bool m'.over] 58)).heap.size (w2.alloc (Obj.cells #[Value.int IntKind.i64 m'.ver, .slice ya m'.ptrs.length yc, Value.bool m'.over] 58)) (w2.alloc (Obj.cells #[Value.int IntKind.i64 m'.ver, .slice ya m'.ptrs.length yc, Value.bool m'.over] 58)).drew := (Below.refl _ _).drew
  have hbd := below_next hab hdr
  have HTL := hide (tellHub_walk B h' bv cv 0 h.waiting.length h.waiting cb bw' (w2.alloc (Obj.cells #[Value.int IntKind.i64 m'.ver, .slice ya m'.ptrs.length yc, Value.bool m'.over] 58)).drew (hB2.below hbd) htz H1 H2)
  have OA := hide (oa.below hbd)
  have BW := hide ((unhide HB1).trans ((b2.mono (by omega)).trans (hbd.mono (by omega))))
  have K1 := hide ((hbd.block (w.heap.size + 1) (by omega)).trans ((b2.block (w.heap.size + 1) (by omega)).trans (unhide HK1)))
  have K2 := hide ((hbd.block (w.heap.size + 1 + 1) (by omega)).trans ((b2.block (w.heap.size + 1 + 1) (by omega)).trans (unhide HK2)))
  have m0 : (w2.alloc (Obj.cells #[Value.int IntKind.i64 m'.ver, .slice ya m'.ptrs.length yc, Value.bool m'.over] 58)).cell? ⟨w2.heap.size, 0, none⟩ = some (.int .i64 m'.ver) := Lib.cell_of_heap kM 0
  have m1 : (w2.alloc (Obj.cells #[Value.int IntKind.i64 m'.ver, .slice ya m'.ptrs.length yc, Value.bool m'.over] 58)).cell? ⟨w2.heap.size, 1, none⟩ = some (.slice ya m'.ptrs.length yc) := Lib.cell_of_heap kM 1
  have m2 : (w2.alloc (Obj.cells #[Value.int IntKind.i64 m'.ver, .slice ya m'.ptrs.length yc, Value.bool m'.over] 58)).cell? ⟨w2.heap.size, 2, none⟩ = some (.bool m'.over) := Lib.cell_of_heap kM 2
  have KM := hide kM
  clear oa hB2 b2 hab kM hdr hbd H1 H2 htz HB1 HK1 HK2
  go_wp2_with fail
  generalize (w2.alloc (Obj.cells #[Value.int IntKind.i64 m'.ver, .slice ya m'.ptrs.length yc, Value.bool m'.over] 58)) = wM at *
  generalize w2.heap.size = M at *
  go_region_law (first
    | (go_simp; refine (unhide HCM).mono ?_
       rintro e w4 ⟨b0, b1', b2', jb, rfl, hE, hF, b4⟩
       have hE0 := hE
       obtain ⟨q0, hbs0, hE1⟩ := hE0
       injection hbs0 with f0 hbs0; injection hbs0 with f1 hbs0; injection hbs0 with f2 hbs0
       subst f0; subst f1; subst f2
       obtain ⟨za, zc, rfl, hy1, hy2⟩ := hE1.form
       have k14 := (b4.block (w.heap.size + 1) (by omega)).trans k13
       have k24 := (b4.block (w.heap.size + 1 + 1) (by omega)).trans k23
       have r0 : w4.cell? ⟨w.heap.size + 1, 0, none⟩ = some (.slice none 0 0) := Lib.cell_of_heap k14 0
       have r1 : w4.cell? ⟨w.heap.size + 1, 1, none⟩ = some (.slice none 0 0) := Lib.cell_of_heap k14 1
       have fr1 := Lib.frozen_of_heap k14
       have s0 : w4.cell? ⟨w.heap.size + 1 + 1, 0, none⟩ = some (.int .i64 0) := Lib.cell_of_heap k24 0
       have s1 : w4.cell? ⟨w.heap.size + 1 + 1, 1, none⟩ = some (.slice none 0 0) := Lib.cell_of_heap k24 1
       have s2 : w4.cell? ⟨w.heap.size + 1 + 1, 2, none⟩ = some (.bool false) := Lib.cell_of_heap k24 2
       have fr2 := Lib.frozen_of_heap k24)
    | (go_simp; refine (unhide HTL).mono ?_
       rintro e w3 ⟨v3, bl3, rfl, o3, f3, b3⟩
       obtain ⟨p3, q3, j1, j2, rfl, po, qo, rfl⟩ := o3
       obtain ⟨pa, pc, rfl, hp1, hp2⟩ := po.form
       obtain ⟨qa, qc, rfl, hq1, hq2⟩ := qo.form
       have hz3 : wM.heap.size ≤ w3.heap.size := b3.size
       have HCM := hide (copyMsg_walk _ _ _ m' ib w3 ⟨_, rfl, (unhide OA).below b3⟩ (by omega))
       have kM3 := (b3.block M (by simp; omega)).trans (unhide KM)
       have k13 := (b3.block (w.heap.size + 1) (by simp; omega)).trans (unhide K1)
       have k23 := (b3.block (w.heap.size + 1 + 1) (by simp; omega)).trans (unhide K2)
       have m0' : w3.cell? ⟨M, 0, none⟩ = some (.int .i64 m'.ver) := Lib.cell_of_heap kM3 0
       have m1' : w3.cell? ⟨M, 1, none⟩ = some (.slice ya m'.ptrs.length yc) := Lib.cell_of_heap kM3 1
       have m2' : w3.cell? ⟨M, 2, none⟩ = some (.bool m'.over) := Lib.cell_of_heap kM3 2))
  all_goals (
    have hlt : ∀ b ∈ j1 ++ j2, b < w3.heap.size := fun b hb => by
      rcases List.mem_append.1 hb with hb | hb
      · exact po.lt b hb
      · exact qo.lt b hb
    have hwM : w.heap.size ≤ wM.heap.size := (unhide BW).size
    have hfs : Fsh w.heap.size ((j1 ++ j2) ++ jb) := ⟨List.nodup_append.2 ⟨f3.1, hF.1, fun a ha b hb e => by have := hlt a ha; have := hF.2 b hb; omega⟩, fun b hb => by
      rcases List.mem_append.1 hb with hb | hb
      · have h1 : wM.heap.size ≤ b := f3.2 b hb
        omega
      · have := hF.2 b hb; omega⟩
    have hn : ∀ g, g < wM.heap.size → g ∉ j1 ++ j2 := fun g hg hm => by
      have h1 : wM.heap.size ≤ g := f3.2 g hm
      omega
    have hnj : ∀ g, g < wM.heap.size → g ∉ jb := fun g hg hm => by have := hF.2 g hm; omega
    have hsM : w.heap.size + 1 + 1 < wM.heap.size := by omega
    have kf1 : (putN (putN w4 (w.heap.size + 1) 0 [.slice pa h'.watches.length pc, .slice qa h'.waiting.length qc]) (w.heap.size + 1 + 1) 0 [.int .i64 m'.ver, .slice za m'.ptrs.length zc, .bool m'.over]).heap[w.heap.size + 1]? = some (.cells #[.slice pa h'.watches.length pc, .slice qa h'.waiting.length qc] 47 (0, 0)) := (putN_other (by omega) _ _).trans (putN_full k14 [.slice pa h'.watches.length pc, .slice qa h'.waiting.length qc] rfl)
    have kf2 : (putN (putN w4 (w.heap.size + 1) 0 [.slice pa h'.watches.length pc, .slice qa h'.waiting.length qc]) (w.heap.size + 1 + 1) 0 [.int .i64 m'.ver, .slice za m'.ptrs.length zc, .bool m'.over]).heap[w.heap.size + 1 + 1]? = some (.cells #[.int .i64 m'.ver, .slice za m'.ptrs.length zc, .bool m'.over] 58 (0, 0)) := putN_full ((putN_other (by omega) _ _).trans k24) [.int .i64 m'.ver, .slice za m'.ptrs.length zc, .bool m'.over] rfl
    have HFS := hide hfs
    have HN : Hid ((∀ g, g < wM.heap.size → g ∉ j1 ++ j2) ∧ ∀ g, g < wM.heap.size → g ∉ jb) := ⟨hn, hnj⟩
    have PO := hide (po.below b4)
    have QO := hide (qo.below b4)
    have HE1 := hide hE1
    have BB : Hid (Below w.heap.size w w4) := (unhide BW).trans ((Below.mono b3 hwM).trans (b4.mono (by omega)))
    have KF1 := hide kf1
    have KF2 := hide kf2
    clear hlt hfs hn hnj po qo hE1 kf1 kf2 hE hF b4 f3 b3 k13 k23 k14 k24 hy1 hy2 hp1 hp2 hq1 hq2 HTL HCM OA K1 K2 KM kM3 m0 m1 m2 m0' m1' m2' BW
    go_wp2
    refine bodyPost_ret (results_cell2_tmp rfl _ _ (w.heap.size + 1) 47 #[_, _] (0, 0) _ (w.heap.size + 1 + 1) 58 #[_, _, _] (0, 0) _ _ rfl rfl rfl (unhide KF1) (unhide KF2) Tryz.underlying47 rfl (by kernel_rfl) Tryz.underlying58 rfl (by kernel_rfl)) rfl ?_
    obtain ⟨n1, n2⟩ := unhide HN
    have na := n1 (w.heap.size + 1) (by omega)
    have nb := n1 (w.heap.size + 1 + 1) (by omega)
    rw [unhide HH', unhide HM', unhide HCD]
    refine ⟨_, j1 ++ j2, _, _, _, rfl, ⟨_, _, j1, j2, rfl, ((unhide PO).putN (fun hm => na (List.mem_append.2 (.inl hm))) [_, _] 0).putN (fun hm => nb (List.mem_append.2 (.inl hm))) [_, _, _] 0, ((unhide QO).putN (fun hm => na (List.mem_append.2 (.inr hm))) [_, _] 0).putN (fun hm => nb (List.mem_append.2 (.inr hm))) [_, _, _] 0, rfl⟩, jb, ⟨_, rfl, ((unhide HE1).putN (n2 (w.heap.size + 1) (by omega)) [_, _] 0).putN (n2 (w.heap.size + 1 + 1) (by omega)) [_, _, _] 0⟩, unhide HFS, ?_⟩
    exact putN_below (g := w.heap.size + 1 + 1) (putN_below (g := w.heap.size + 1) (unhide BB) (by omega) [_, _] 0) (by omega) [_, _, _] 0)
end Go.Proofs.YtlfonikfjibloaaGreatDoor

namespace Go.Proofs.YtlfonikfjibloaaGreatDoor
open Go.RowKit

/-- The watch that Subscribe makes, its code and what it leaves of a hub. -/
def subW (c : Int) (p : ByteArray) (r v : Int) : Wat := ⟨c, p, r, v, false, []⟩
def subC (c : Int) (p : ByteArray) (r : Int) : Int := if c < 0 ∨ 8 ≤ c then 1 else if (ptoks p.data.toList).isSome = false then 2 else if r < 1 ∨ 100 < r then 3 else 0
def subH (h : Hb) (c : Int) (p : ByteArray) (r v : Int) : Hb := if subC c p r = 0 then ⟨(canH h c).watches ++ [subW c p r v], h.waiting⟩ else h
theorem subH_no {h : Hb} {c : Int} {p : ByteArray} {r v k : Int} (hk : subC c p r = k) (h0 : k ≠ 0) : subH h c p r v = h := by
  unfold subH; rw [hk, if_neg h0]
theorem subC_1 {c : Int} {p : ByteArray} {r : Int} (h : c < 0 ∨ 8 ≤ c) : subC c p r = 1 := by unfold subC; rw [if_pos h]
theorem subC_2 {c : Int} {p : ByteArray} {r : Int} (h : ¬ c < 0) (h' : ¬ 8 ≤ c) (hz : (ptoks p.data.toList).isSome = false) : subC c p r = 2 := by
  unfold subC; rw [if_neg (by omega), if_pos hz]
theorem subC_3 {c : Int} {p : ByteArray} {r : Int} (h : ¬ c < 0) (h' : ¬ 8 ≤ c) (hz : (ptoks p.data.toList).isSome = true) (h3 : r < 1 ∨ 100 < r) : subC c p r = 3 := by
  unfold subC; rw [if_neg (by omega), if_neg (by simp [hz]), if_pos h3]
theorem subC_0 {c : Int} {p : ByteArray} {r : Int} (h : ¬ c < 0) (h' : ¬ 8 ≤ c) (hz : (ptoks p.data.toList).isSome = true) (h3 : ¬ r < 1) (h4 : ¬ 100 < r) : subC c p r = 0 := by
  unfold subC; rw [if_neg (by omega), if_neg (by simp [hz]), if_neg (by omega)]

set_option maxHeartbeats 1600000 in
set_option maxRecDepth 100000 in
theorem subBrd_walk (B : Nat) (h : Hb) (pv cv : Value) (f c : Nat) (ns : List Nws) (cb bw : List Nat) (client : Int) (ptr : ByteArray) (room ver : Int) (w : World) (hb : Brd w B h pv cv f c ns cb bw) (hML : ML w) (hp : ptr.size ≤ 1048576) (D : Nat) (hB : D ≤ B) (hpv : ∀ g, pv.ownBlock = some g → D ≤ g) (hD : D ≤ w.heap.size) (hl : h.watches.length ≤ 1048577) :
    Calls Tryz.prog 61 #[.pointer (some ⟨B, 0, none⟩), .int .i64 client, .string ptr, .int .i64 room, .int .i64 ver] w fun e w' => Below D w w' ∧ ∃ pv' bw', e = .returned (.int .i64 (subC client ptr room)) ∧ Brd w' B (subH h client ptr room ver) pv' cv f c ns cb bw' := by
  have HBD := hide hb
  have HPV := hide hpv
  have HPT := hide (isPtr_walk ptr w hML hp)
  clear hb hpv hML
  obtain ⟨z, hz⟩ : ∃ z, (ptoks ptr.data.toList).isSome = z := ⟨_, rfl⟩
  rw [hz] at HPT
  have HZ := hide hz
  clear hz
  by_cases c1 : client < 0
  · have hC : subC client ptr room = 1 := subC_1 (.inl c1)
    rw [subH_no hC (by omega), hC]
    clear hC
    go_enter Tryz.func61, Tryz.ntmps61
    go_wp2
    go_ret
    first
      | exact ⟨Below.refl _ _, _, _, rfl, unhide HBD⟩
      | exact ⟨Below.refl _ _, rfl, _, _, unhide HBD⟩
  · by_cases c2 : 8 ≤ client
    · have hC : subC client ptr room = 1 := subC_1 (.inr c2)
      rw [subH_no hC (by omega), hC]
      clear hC
      go_enter Tryz.func61, Tryz.ntmps61
      go_wp2
      go_ret
      first
        | exact ⟨Below.refl _ _, _, _, rfl, unhide HBD⟩
        | exact ⟨Below.refl _ _, rfl, _, _, unhide HBD⟩
    · cases z
      · have hC : subC client ptr room = 2 := subC_2 c1 c2 (unhide HZ)
        rw [subH_no hC (by omega), hC]
        clear hC
        go_enter Tryz.func61, Tryz.ntmps61
        go_wp2_with fail
        refine (unhide HPT).mono ?_
        rintro e w1 ⟨rfl, b1⟩
        have B1 := hide b1
        clear b1 HPT
        go_wp2
        go_ret
        exact ⟨(unhide B1).mono hD, _, _, rfl, (unhide HBD).below (unhide B1)⟩
      · by_cases c3 : room < 1
        · have hC : subC client ptr room = 3 := subC_3 c1 c2 (unhide HZ) (.inl c3)
          rw [subH_no hC (by omega), hC]
          clear hC
          go_enter Tryz.func61, Tryz.ntmps61
          go_wp2_with fail
          refine (unhide HPT).mono ?_
          rintro e w1 ⟨rfl, b1⟩
          have B1 := hide b1
          clear b1 HPT
          go_wp2
          go_ret
          exact ⟨(unhide B1).mono hD, _, _, rfl, (unhide HBD).below (unhide B1)⟩
        · by_cases c4 : 100 < room
          · have hC : subC client ptr room = 3 := subC_3 c1 c2 (unhide HZ) (.inr c4)
            rw [subH_no hC (by omega), hC]
            clear hC
            go_enter Tryz.func61, Tryz.ntmps61
            go_wp2_with fail
            refine (unhide HPT).mono ?_
            rintro e w1 ⟨rfl, b1⟩
            have B1 := hide b1
            clear b1 HPT
            go_wp2
            go_ret
            exact ⟨(unhide B1).mono hD, _, _, rfl, (unhide HBD).below (unhide B1)⟩
          · have hC : subC client ptr room = 0 := subC_0 c1 c2 (unhide HZ) c3 c4
            have hH : subH h client ptr room ver = ⟨(canH h client).watches ++ [subW client ptr room ver], h.waiting⟩ := by unfold subH; rw [if_pos hC]
            rw [hH, hC]
            clear hC hH
            go_enter Tryz.func61, Tryz.ntmps61
            go_wp2_with fail
            refine (unhide HPT).mono ?_
            rintro e w1 ⟨rfl, b1⟩
            have hz1 := b1.size
            have HC := hide (cancelBrd_walk B h pv cv f c ns cb bw client w1 ((unhide HBD).below b1) D hB (unhide HPV) (by omega) hl)
            have B1 := hide (b1.mono hD)
            clear b1 HPT
            go_wp2_with fail
            refine (unhide HC).mono ?_
            rintro e w2 ⟨b2, pv', bw', hpv', hcase⟩
            obtain ⟨h', cd, hh', rfl, hB2, hl'⟩ : ∃ h' cd, canH h client = h' ∧ e = .returned (.int .i64 cd) ∧ Brd w2 B h' pv' cv f c ns cb bw' ∧ h'.watches.length ≤ 1048577 := by
              rcases hcase with ⟨h0, he, hb⟩ | ⟨j, hj, h0, he, hb⟩
              · exact ⟨h, 1, canH_none h0, he, hb, hl⟩
              · exact ⟨_, 0, canH_some h0, he, hb, by have : (h.watches.eraseIdx j).length ≤ h.watches.length := List.length_eraseIdx_le _ _; simp only; omega⟩
            have hw' : h'.waiting = h.waiting := by rw [← hh']; rfl
            have HH' := hide hh'
            have BD2 := hide hB2
            have B2 := hide ((unhide B1).trans b2)
            have HPV' := hide hpv'
            have HW' := hide hw'
            clear b2 hcase hB2 HC B1 hh' hpv' hw'
            obtain ⟨pa, pc, rfl, hp1, hp2⟩ := (unhide BD2).o1.form
            obtain ⟨cbk, rfl⟩ := (unhide BD2).o1.split
            have hab := alloc_b w2 (.cells #[.int .i64 client, .string ptr, .int .i64 room, .int .i64 ver, .bool false, .slice none 0 0] 219)
            have kM := heap_alloc_new w2 (.cells #[.int .i64 client, .string ptr, .int .i64 room, .int .i64 ver, .bool false, .slice none 0 0] 219)
            have hs5 : (w2.alloc (.cells #[.int .i64 client, .string ptr, .int .i64 room, .int .i64 ver, .bool false, .slice none 0 0] 219)).heap.size = w2.heap.size + 1 := by simp
            have b5 := (unhide BD2).below hab
            have B5 := hide ((unhide B2).trans (hab.mono (by have := (unhide B2).size; omega)))
            have hDs : D ≤ w2.heap.size := by have := (unhide B2).size; omega
            have KM := hide kM
            have BD5 := hide b5
            have HAB := hide hab
            clear hab kM b5 hp1 hp2 BD2
            go_wp2_with fail
            generalize (w2.alloc (.cells #[.int .i64 client, .string ptr, .int .i64 room, .int .i64 ver, .bool false, .slice none 0 0] 219)) = w5 at *
            have hD5 : D ≤ w5.heap.size := by omega
            have HS5 := hide hs5
            clear hs5
            have kM5 := unhide KM
            have hb5 := unhide BD5
            have e0 : w5.cell? ⟨w2.heap.size, 0, none⟩ = some (.int .i64 client) := Lib.cell_of_heap kM5 0
            have e1 : w5.cell? ⟨w2.heap.size, 1, none⟩ = some (.string ptr) := Lib.cell_of_heap kM5 1
            have e2 : w5.cell? ⟨w2.heap.size, 2, none⟩ = some (.int .i64 room) := Lib.cell_of_heap kM5 2
            have e3 : w5.cell? ⟨w2.heap.size, 3, none⟩ = some (.int .i64 ver) := Lib.cell_of_heap kM5 3
            have e4 : w5.cell? ⟨w2.heap.size, 4, none⟩ = some (.bool false) := Lib.cell_of_heap kM5 4
            have e5 : w5.cell? ⟨w2.heap.size, 5, none⟩ = some (.slice none 0 0) := Lib.cell_of_heap kM5 5
            have bO : w5.cell? ⟨B, 0, none⟩ = some (.slice pa h'.watches.length pc) := Lib.cell_of_heap hb5.ko 0
            have hxy : Below w5.heap.size w5 ((w5.alloc (.cells #[.int .i64 client, .string ptr, .int .i64 room, .int .i64 ver, .bool false, .slice none 0 0, .slice none 0 0, .int .i64 0, .int .i64 0] 225)).alloc (.cells #[.pointer (some ⟨w5.heap.size, 0, none⟩)] 223)).drew := (below_next (alloc_b _ _) (alloc_b _ _)).drew
            have kX : ((w5.alloc (.cells #[.int .i64 client, .string ptr, .int .i64 room, .int .i64 ver, .bool false, .slice none 0 0, .slice none 0 0, .int .i64 0, .int .i64 0] 225)).alloc (.cells #[.pointer (some ⟨w5.heap.size, 0, none⟩)] 223)).drew.heap[w5.heap.size]? = some (.cells #[.int .i64 client, .string ptr, .int .i64 room, .int .i64 ver, .bool false, .slice none 0 0, .slice none 0 0, .int .i64 0, .int .i64 0] 225) := (Below.block (alloc_b (w5.alloc (.cells #[.int .i64 client, .string ptr, .int .i64 room, .int .i64 ver, .bool false, .slice none 0 0, .slice none 0 0, .int .i64 0, .int .i64 0] 225)) (.cells #[.pointer (some ⟨w5.heap.size, 0, none⟩)] 223)) w5.heap.size (by simp)).trans (heap_alloc_new w5 (.cells #[.int .i64 client, .string ptr, .int .i64 room, .int .i64 ver, .bool false, .slice none 0 0, .slice none 0 0, .int .i64 0, .int .i64 0] 225))
            have E3 : Hid (wtrE.E ((w5.alloc (.cells #[.int .i64 client, .string ptr, .int .i64 room, .int .i64 ver, .bool false, .slice none 0 0, .slice none 0 0, .int .i64 0, .int .i64 0] 225)).alloc (.cells #[.pointer (some ⟨w5.heap.size, 0, none⟩)] 223)).drew [.pointer (some ⟨w5.heap.size, 0, none⟩)] (subW client ptr room ver) (w5.heap.size :: ((Value.slice none 0 0).ownBlock.toList ++ []))) :=
              ⟨w5.heap.size, .slice none 0 0, 0, 0, [], [], rfl, kX, ORow.nil _ _, RingIs.fresh [], by simp, rfl⟩
            have hsx : (w5.alloc (.cells #[.int .i64 client, .string ptr, .int .i64 room, .int .i64 ver, .bool false, .slice none 0 0, .slice none 0 0, .int .i64 0, .int .i64 0] 225)).heap.size = w5.heap.size + 1 := by simp
            have HCE : Hid (∀ (j : Nat) (u : Value), [Value.pointer (some ⟨w5.heap.size, 0, none⟩)][j]? = some u → ((w5.alloc (.cells #[.int .i64 client, .string ptr, .int .i64 room, .int .i64 ver, .bool false, .slice none 0 0, .slice none 0 0, .int .i64 0, .int .i64 0] 225)).alloc (.cells #[.pointer (some ⟨w5.heap.size, 0, none⟩)] 223)).drew.cell? ((⟨w5.heap.size + 1, 0, none⟩ : Addr).add j) = some u) := fun j u hu => by
              have := lit_cells (w5.alloc (.cells #[.int .i64 client, .string ptr, .int .i64 room, .int .i64 ver, .bool false, .slice none 0 0, .slice none 0 0, .int .i64 0, .int .i64 0] 225)) [Value.pointer (some ⟨w5.heap.size, 0, none⟩)] 223 j u hu
              rw [hsx] at this; exact this
            have kB6 := (hxy.block B (Array.getElem?_eq_some_iff.1 hb5.ko).1).trans hb5.ko
            have OP6 := hide (hb5.o1.below hxy)
            have KB6 := hide kB6
            have bO6 : ((w5.alloc (.cells #[.int .i64 client, .string ptr, .int .i64 room, .int .i64 ver, .bool false, .slice none 0 0, .slice none 0 0, .int .i64 0, .int .i64 0] 225)).alloc (.cells #[.pointer (some ⟨w5.heap.size, 0, none⟩)] 223)).drew.cell? ⟨B, 0, none⟩ = some (.slice pa h'.watches.length pc) := Lib.cell_of_heap kB6 0
            have bO7 : (w5.alloc (.cells #[.int .i64 client, .string ptr, .int .i64 room, .int .i64 ver, .bool false, .slice none 0 0, .slice none 0 0, .int .i64 0, .int .i64 0] 225)).cell? ⟨B, 0, none⟩ = some (.slice pa h'.watches.length pc) := ((alloc_b w5 (.cells #[.int .i64 client, .string ptr, .int .i64 room, .int .i64 ver, .bool false, .slice none 0 0, .slice none 0 0, .int .i64 0, .int .i64 0] 225)).cell (p := ⟨B, 0, none⟩) (Array.getElem?_eq_some_iff.1 hb5.ko).1).trans bO
            have HXY := hide hxy
            have hone : Hid (∀ u ∈ [Value.pointer (some ⟨w5.heap.size, 0, none⟩)], u.oneCell' = true) := fun u hu => by simp at hu; subst hu; rfl
            have ON5 := hide (hb5.o2.below hxy)
            have tyB5 : B ∉ cv.ownBlock.toList ++ cb := fun hm => by
              obtain ⟨cur', t, e1, e2⟩ := nwss_ty hb5.o2 B hm
              rw [hb5.ko] at e1
              injection e1 with e1; injection e1 with _ e1
              subst e1
              exact absurd e2 (by decide)
            have TYB := hide tyB5
            have HRG := hide hb5.ring
            have hnl := hb5.len
            clear hxy kX kB6 hsx kM5 hb5 tyB5
            go_region_law (first
              | (refine step_append_elem2 (e := wtrE) wtr_ty (by decide) Tryz.underlying137 infoWtr rfl (by decide) (by decide) rfl (.tmp 42) (.tmp 46) rfl (B := D) rfl (unhide OP6) (unhide HPV') (unhide E3) rfl (by exact unhide HCE) (by exact unhide hone) (by simp; omega) (by omega) ?_
                 intro v' w7 o7 g7 hg7
                 obtain ⟨va, vc, rfl, hv1, hv2⟩ := o7.form
                 have ko7 := (hg7.block B (by simp; have := (Array.getElem?_eq_some_iff.1 (unhide KB6)).1; simp at this; omega) fun e => by
                   obtain ⟨cur', t, e1, e2⟩ := orow_ty (e := wtrE) wtr_ty (unhide OP6) B ((unhide OP6).head e.symm)
                   rw [unhide KB6] at e1
                   injection e1 with e1; injection e1 with _ e1
                   subst e1
                   exact absurd e2 (by decide)).trans (unhide KB6)
                 have cO7 : w7.cell? ⟨B, 0, none⟩ = some (.slice pa h'.watches.length pc) := Lib.cell_of_heap ko7 0
                 have fO7 := Lib.frozen_of_heap ko7))
            all_goals (
              have tyN : ∀ {wx : World} {bl : List Nat} {ts : List TypeId} {cur : Array Value}, wx.heap[B]? = some (.cells cur 141 (0, 0)) → Tys ts wx bl → 141 ∉ ts → B ∉ bl := fun hk ht hn hm => by
                obtain ⟨cur', t, e1, e2⟩ := ht B hm
                rw [hk] at e1
                injection e1 with e1; injection e1 with _ e1
                exact hn (e1 ▸ e2)
              have on7 := (unhide ON5).keep fun b hb => hg7.block b ((unhide ON5).lt b hb) fun e => by
                obtain ⟨cs9, hcs9⟩ := (unhide OP6).own
                exact (nwss_ty (unhide ON5)).not hcs9 (by decide) e.symm hb
              have kn := heap_setCell_same _ _ 0 _ _ (.slice va (h'.watches ++ [subW client ptr room ver]).length vc) ko7
              have ow := o7.other (g := B) (tyN ko7 (orow_ty (e := wtrE) wtr_ty o7) (by decide)) 0 (.slice va (h'.watches ++ [subW client ptr room ver]).length vc)
              have on := on7.other (g := B) (tyN ko7 (nwss_ty on7) (by decide)) 0 (.slice va (h'.watches ++ [subW client ptr room ver]).length vc)
              have bl7 := (((unhide B5).trans ((unhide HXY).mono hD5)).grown hg7 (by simp; omega) (unhide HPV')).setCell (p := ⟨B, 0, none⟩) hB (.slice va (h'.watches ++ [subW client ptr room ver]).length vc)
              rw [List.length_append, List.length_singleton] at kn ow on bl7
              have HR : Hid (Brd (w7.setCell ⟨B, 0, none⟩ (.slice va (h'.watches.length + 1) vc)) B ⟨h'.watches ++ [subW client ptr room ver], h.waiting⟩ (.slice va (h'.watches.length + 1) vc) cv f c ns cb _) := ⟨kn, ow, on, (unhide HW') ▸ unhide HRG, hnl⟩
              have HBL := hide bl7
              clear tyN on7 kn ow on bl7 o7 g7 hg7 hv1 hv2 ko7 cO7 fO7 OP6 E3 HCE hone KB6 HXY ON5 TYB HRG bO bO6 bO7 e0 e1 e2 e3 e4 e5 KM BD5 HAB
              go_wp2
              go_ret
              rw [unhide HH']
              first
                | exact ⟨unhide HBL, _, _, rfl, unhide HR⟩
                | exact ⟨unhide HBL, rfl, _, _, unhide HR⟩)
end Go.Proofs.YtlfonikfjibloaaGreatDoor
