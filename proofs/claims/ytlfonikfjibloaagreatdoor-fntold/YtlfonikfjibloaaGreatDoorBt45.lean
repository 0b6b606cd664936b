import Derived.Test.YtlfonikfjibloaaGreatDoorBt44
namespace Go.Proofs.YtlfonikfjibloaaGreatDoor
open Go.RowKit

set_option maxRecDepth 100000 in
set_option maxHeartbeats 6000000 in
theorem toldLaw_walk (xa : Option Addr) (xb xo xc : Nat) (l : List UInt8) (w : World) (hML : ML w) (h : BS w xa xb xo l) (hc : l.length ≤ xc) :
    Calls Tryz.prog 6 #[.slice xa l.length xc] w fun e w' => e = .returned (.bool true) ∧ Below w.heap.size w w' := by
  by_cases hl : 1048576 < l.length
  · have hlI : (1048576 : Int) < (l.length : Int) := by omega
    clear h hML
    go_enter Tryz.func6, Tryz.ntmps6
    go_wp2
    go_ret
    exact ⟨rfl, Below.refl _ _⟩
  · have hlI : ¬ (1048576 : Int) < (l.length : Int) := by omega
    have HNL := hide (newsList_walk xa xb xo xc l w h (by omega) hc)
    have HML := hide hML
    clear h hML
    go_enter Tryz.func6, Tryz.ntmps6
    go_wp2_with fail
    refine (unhide HNL).mono ?_
    rintro e w1 ⟨ptr, room, nv, ns, rb, F, nb, rfl, hps, hpt, hr1, hr4, hn8, hN⟩
    obtain ⟨hsc, hsh⟩ := sub_hubT hpt hr1 hr4
    obtain ⟨na, nc, rfl, hn1, hn2⟩ := hN.row.form
    have hsn := sz_news hn8 hN.ok
    have HSB := hide (implSubscribe_walk (.agg #[.slice none 0 0, .slice none 0 0]) ⟨[], []⟩ 3 ptr (room : Int) 0 [] w1 ⟨_, _, [], [], rfl, ORow.nil _ _, ORow.nil _ _, rfl⟩ ((unhide HML).below hN.bel) (by omega) (by decide))
    rw [hsc, hsh] at HSB
    have HOK := hide hN.ok
    have HB1 := hide hN.bel
    have HRW := hide hN.row
    have HNA := hide hn2
    clear HNL hN hpt hsc hsh hn1 hn2
    go_wp2_with fail
    refine (unhide HSB).mono ?_
    rintro e w2 ⟨v2, bl2, rfl, o2, f2, b2⟩
    obtain ⟨p2, q2, c1, c2, rfl, o21, o22, rfl⟩ := o2
    obtain ⟨pa, pc, rfl, hp1, hp2⟩ := o21.form
    obtain ⟨qa, qc, rfl, hq1, hq2⟩ := o22.form
    have hnd := f2.1
    generalize (hubT ptr room room [] []).watches.length = wl at *
    generalize (hubT ptr room room [] []).waiting.length = ql at *
    have hab := alloc_b w2 (.cells #[.slice pa wl pc, .slice qa ql qc] 47)
    have hT0 : TS w (.slice na ns.length nc) ns nb w2.heap.size (.slice pa wl pc) (.slice qa ql qc) (hubT ptr room room [] []) (w2.alloc (.cells #[.slice pa wl pc, .slice qa ql qc] 47)) :=
      ⟨below_next (unhide HB1) (below_next b2 hab), ((unhide HRW).below (below_next b2 hab)), heap_alloc_new w2 _, ⟨c1 ++ c2, ⟨_, _, c1, c2, rfl, o21.below hab, o22.below hab, rfl⟩, hnd⟩, by have := (unhide HB1).size; have := b2.size; omega⟩
    have HT0 := hide hT0
    clear HSB o21 o22 f2 b2 hp1 hp2 hq1 hq2 hnd hab hT0 HB1 HRW
    go_wp2_with fail
    generalize (w2.alloc (.cells #[.slice pa wl pc, .slice qa ql qc] 47)) = w3 at *
    generalize w2.heap.size = H at *
    go_loopw [8] (fun i wr => ∃ (k : Nat) (pa : Option Addr) (wl pc : Nat) (qa : Option Addr) (ql qc : Nat), i = .int .i64 k ∧ k ≤ ns.length ∧ TS w (.slice na ns.length nc) ns nb H (.slice pa wl pc) (.slice qa ql qc) (hubT ptr room room [] (ns.take k)) wr) (fun i _ => ns.length - (intOf i).toNat)
    case atStart => exact ⟨0, _, _, _, _, _, _, rfl, Nat.zero_le _, unhide HT0⟩
    case round =>
      obtain ⟨k, ra, rl, rc, sa, sl, sc, rfl, hk, hT⟩ := hrel
      have HT := hide hT
      clear hT HT0
      by_cases hlt : k < ns.length
      · have hltI : (k : Int) < (ns.length : Int) := by omega
        obtain ⟨gn, rfl⟩ := unhide HNA (by omega)
        obtain ⟨vs, ib, hE, hcn, _, _, _⟩ := (unhide HT).row.at (List.getElem?_eq_getElem hlt)
        obtain ⟨nq, rfl, on⟩ := hE
        obtain ⟨ua, uc, rfl, hu1, hu2⟩ := on.form
        have g0 : wr.cell? ⟨gn, k * 2, none⟩ = some (.int .i64 ns[k].ver) := (hcn 0 _ rfl).1
        have g1 : wr.cell? ⟨gn, k * 2 + 1, none⟩ = some (.slice ua ns[k].ptrs.length uc) := (hcn 1 _ rfl).1
        have e0 : wr.cell? ⟨H, 0, none⟩ = some (.slice ra rl rc) := Lib.cell_of_heap (unhide HT).kh 0
        have e1 : wr.cell? ⟨H, 1, none⟩ = some (.slice sa sl sc) := Lib.cell_of_heap (unhide HT).kh 1
        have hbd : Below wr.heap.size wr wr.drew := (Below.refl _ _).drew
        have HTD := hide ((unhide HT).below hbd)
        obtain ⟨bl, oh, hnd⟩ := (unhide HTD).oh
        have hsz := sz_hubT ptr room room [] (ns.take k)
        have htk : ns.take (k + 1) = ns.take k ++ [ns[k]] := by rw [List.take_add_one, List.getElem?_eq_getElem hlt]; rfl
        have hdr := congrArg szNwss (List.take_append_drop (k + 1) ns)
        rw [htk, szNwss_app, szNwss_app] at hdr
        have hs1 : szNwss [ns[k]] = 1 + szStr ns[k].ptrs := by simp [szNwss, szNws]
        have hw0 : wE [] = 0 := rfl
        have HP := hide (implPublish_walk _ _ _ ns[k].ver ns[k].ptrs bl ib wr.drew oh (on.below hbd) (by omega))
        have hub1 : (⟨(hubT ptr room room [] (ns.take k)).watches, (hubT ptr room room [] (ns.take k)).waiting ++ [⟨ns[k].ver, ns[k].ptrs⟩]⟩ : Hb) = hubT ptr room room [] (ns.take (k + 1)) := by
          rw [htk]; rfl
        rw [hub1] at HP
        clear hcn on hu1 hu2 oh hnd hsz htk hdr hs1 hw0 hub1 hbd HT
        generalize hnk : ns[k] = n at *
        clear hnk
        go_wp2_with fail
        go_region_law (
          go_simp
          refine (unhide HP).mono ?_
          rintro e w4 ⟨v4, bl4, rfl, o4, f4, b4⟩
          obtain ⟨p4, q4, d1, d2, rfl, o41, o42, rfl⟩ := o4
          obtain ⟨va, vc, rfl, hv1, hv2⟩ := o41.form
          obtain ⟨ta, tc, rfl, ht1, ht2⟩ := o42.form
          obtain ⟨kh4, hT4⟩ := (unhide HTD).put b4 ⟨_, _, d1, d2, rfl, o41, o42, rfl⟩ f4.1
          generalize (hubT ptr room room [] (ns.take (k + 1))).watches.length = vl at *
          generalize (hubT ptr room room [] (ns.take (k + 1))).waiting.length = tl at *
          have r0 : w4.cell? ⟨H, 0, none⟩ = some (.slice ra rl rc) := Lib.cell_of_heap kh4 0
          have r1 : w4.cell? ⟨H, 1, none⟩ = some (.slice sa sl sc) := Lib.cell_of_heap kh4 1
          have fr := Lib.frozen_of_heap kh4
          have HT4 := hide hT4
          clear o41 o42 f4 b4 hv1 hv2 ht1 ht2 kh4 hT4)
        all_goals (
          clear HP HTD g0 g1 e0 e1 r0 r1 fr
          go_wp2
          go_roundw)
        all_goals first
          | exact ⟨k + 1, va, vl, vc, ta, tl, tc, by go_num, by omega, unhide HT4⟩
          | (simp [intOf]; omega)
      · have hltI : ¬ (k : Int) < (ns.length : Int) := by omega
        have htk : ns.take k = ns := List.take_of_length_le (by omega)
        have hT := unhide HT
        rw [htk] at hT
        have HT1 := hide hT
        clear HT hT htk
        have hE0 : hubT ptr room room [] ns = hubT ptr room room (lT ptr (ns.take 0)) (ns.drop 0) := by simp [lT]
        rw [hE0] at HT1
        clear hE0
        go_wp2_with fail
        go_loopw [9] (fun i wr => ∃ (k : Nat) (pa : Option Addr) (wl pc : Nat) (qa : Option Addr) (ql qc : Nat), i = .int .i64 k ∧ k ≤ ns.length ∧ TS w (.slice na ns.length nc) ns nb H (.slice pa wl pc) (.slice qa ql qc) (hubT ptr room room (lT ptr (ns.take k)) (ns.drop k)) wr) (fun i _ => ns.length - (intOf i).toNat)
        case atStart => exact ⟨0, _, _, _, _, _, _, rfl, Nat.zero_le _, unhide HT1⟩
        case round =>
          obtain ⟨j, ra, rl, rc, sa, sl, sc, rfl, hj, hT⟩ := hrel
          have HT := hide hT
          clear hT HT1
          by_cases hjt : j < ns.length
          · have hjI : (j : Int) < (ns.length : Int) := by omega
            have e0 : wr.cell? ⟨H, 0, none⟩ = some (.slice ra rl rc) := Lib.cell_of_heap (unhide HT).kh 0
            have e1 : wr.cell? ⟨H, 1, none⟩ = some (.slice sa sl sc) := Lib.cell_of_heap (unhide HT).kh 1
            obtain ⟨bl, oh, hnd⟩ := (unhide HT).oh
            have hsz := sz_hubT ptr room room (lT ptr (ns.take j)) (ns.drop j)
            have hwl := wE_lT ptr (ns.take j)
            have hcat := congrArg szNwss (List.take_append_drop j ns)
            rw [szNwss_app] at hcat
            have HD := hide (implDispatch_walk _ _ bl wr oh hnd ((unhide HML).below (unhide HT).bel) (by omega))
            have hdk : ns.drop j = ns[j] :: ns.drop (j + 1) := List.drop_eq_getElem_cons hjt
            have htk : ns.take (j + 1) = ns.take j ++ [ns[j]] := by rw [List.take_add_one, List.getElem?_eq_getElem hjt]; rfl
            have hver := (unhide HOK j ns[j] (List.getElem?_eq_getElem hjt)).1
            obtain ⟨hd1, hd2⟩ := disp_hubT ptr room (lT ptr (ns.take j)) ns[j] (ns.drop (j + 1)) (by omega)
            rw [← lT_snoc, ← htk, ← hdk] at hd1
            rw [← hdk] at hd2
            rw [hd1, hd2] at HD
            clear oh hnd hsz hwl hcat hdk htk hver hd1 hd2
            go_wp2_with fail
            refine (unhide HD).mono ?_
            rintro e w4 ⟨v4, bl4, rfl, o4, f4, b4⟩
            obtain ⟨p4, q4, d1, d2, rfl, o41, o42, rfl⟩ := o4
            obtain ⟨va, vc, rfl, hv1, hv2⟩ := o41.form
            obtain ⟨ta, tc, rfl, ht1, ht2⟩ := o42.form
            generalize (hubT ptr room room (lT ptr (ns.take (j + 1))) (ns.drop (j + 1))).watches.length = vl at *
            generalize (hubT ptr room room (lT ptr (ns.take (j + 1))) (ns.drop (j + 1))).waiting.length = tl at *
            have hab := alloc_b w4 (.cells #[.slice va vl vc, .slice ta tl tc] 47)
            have kx := heap_alloc_new w4 (.cells #[.slice va vl vc, .slice ta tl tc] 47)
            obtain ⟨kh4, hT4⟩ := (unhide HT).put (below_next b4 hab) ⟨_, _, d1, d2, rfl, o41.below hab, o42.below hab, rfl⟩ f4.1
            have r0 : (w4.alloc (.cells #[.slice va vl vc, .slice ta tl tc] 47)).cell? ⟨H, 0, none⟩ = some (.slice ra rl rc) := Lib.cell_of_heap kh4 0
            have r1 : (w4.alloc (.cells #[.slice va vl vc, .slice ta tl tc] 47)).cell? ⟨H, 1, none⟩ = some (.slice sa sl sc) := Lib.cell_of_heap kh4 1
            have x0 : (w4.alloc (.cells #[.slice va vl vc, .slice ta tl tc] 47)).cell? ⟨w4.heap.size, 0, none⟩ = some (.slice va vl vc) := Lib.cell_of_heap kx 0
            have x1 : (w4.alloc (.cells #[.slice va vl vc, .slice ta tl tc] 47)).cell? ⟨w4.heap.size, 1, none⟩ = some (.slice ta tl tc) := Lib.cell_of_heap kx 1
            have fr := Lib.frozen_of_heap kh4
            have HT4 := hide hT4
            clear HD o41 o42 f4 b4 hv1 hv2 ht1 ht2 kh4 hT4 HT e0 e1 hab kx
            go_wp2
            go_roundw
            case rel => exact ⟨j + 1, va, vl, vc, ta, tl, tc, by go_num, by omega, unhide HT4⟩
            case measure => simp [intOf]; omega
          · have hjI : ¬ (j : Int) < (ns.length : Int) := by omega
            have htk : ns.take j = ns := List.take_of_length_le (by omega)
            have hdk : ns.drop j = [] := List.drop_of_length_le (by omega)
            have hT := unhide HT
            rw [htk, hdk] at hT
            have HT2 := hide hT
            clear HT hT htk hdk
            have hR0 : hubT ptr room room (lT ptr ns) [] = hubT ptr room (room - 0) (lT ptr (ns.drop 0)) [] := by simp
            rw [hR0] at HT2
            clear hR0
            go_wp2_with fail
            go_loopw [12, 13] (fun tk i wr => ∃ (k t : Nat) (pa : Option Addr) (wl pc : Nat) (qa : Option Addr) (ql qc : Nat), i = .int .i64 k ∧ tk = .int .i64 t ∧ k ≤ ns.length ∧ t ≤ room ∧ TS w (.slice na ns.length nc) ns nb H (.slice pa wl pc) (.slice qa ql qc) (hubT ptr room (room - t) (lT ptr (ns.drop k)) []) wr) (fun _ i _ => ns.length - (intOf i).toNat)
            case atStart => exact ⟨0, 0, _, _, _, _, _, _, rfl, rfl, Nat.zero_le _, Nat.zero_le _, unhide HT2⟩
            case round =>
              obtain ⟨m, t, ra, rl, rc, sa, sl, sc, rfl, rfl, hm, ht, hT⟩ := hrel
              have HT := hide hT
              clear hT HT2
              by_cases hmt : m < ns.length
              · have hmI : (m : Int) < (ns.length : Int) := by omega
                obtain ⟨gn, rfl⟩ := unhide HNA (by omega)
                obtain ⟨vs, ib, hE, hcn, _, _, _⟩ := (unhide HT).row.at (List.getElem?_eq_getElem hmt)
                obtain ⟨nq, rfl, on⟩ := hE
                obtain ⟨ua, ub, uc, rfl, hS⟩ := on.ss
                have g0 : wr.cell? ⟨gn, m * 2, none⟩ = some (.int .i64 ns[m].ver) := (hcn 0 _ rfl).1
                have g1 : wr.cell? ⟨gn, m * 2 + 1, none⟩ = some (.slice ua ns[m].ptrs.length uc) := (hcn 1 _ rfl).1
                have hok := unhide HOK m ns[m] (List.getElem?_eq_getElem hmt)
                have HNR := hide (nearSpec_walk ptr ua ub 0 uc ns[m].ptrs wr (by omega) hS (fun j => by
                  by_cases hj : j < ns[m].ptrs.length
                  · rw [List.getD_eq_getElem?_getD, List.getElem?_eq_getElem hj]
                    have := hok.2.2 _ (List.getElem_mem hj)
                    simp; omega
                  · rw [List.getD_eq_getElem?_getD, List.getElem?_eq_none (by omega)]; simp) (by omega))
                have hnl : (nrT ptr ns[m]).length ≤ 3 := by
                  have := List.length_filter_le (fun s => meet s.data.toList ptr.data.toList) ns[m].ptrs
                  unfold nrT; omega
                have HNO := hide (fun h => lT_drop_no (ptr := ptr) hmt h)
                have HYES := hide (fun h => lT_drop_yes (ptr := ptr) hmt h)
                obtain ⟨nr, hnr⟩ : ∃ nr, nrT ptr ns[m] = nr := ⟨_, rfl⟩
                rw [hnr] at hnl HNO HYES
                have hq : nearQ ptr ns[m].ptrs = nr.map (·.data.toList) := by rw [nearQ_map, ← hnr]; rfl
                rw [hq] at HNR
                have hgl : gn < wr.heap.size := World.block_lt_of_cell? _ _ g0
                clear hcn on hS hok hnr hq
                generalize hnm : ns[m] = n at *
                have HNM : Hid (ns[m]? = some n) := by show (_ = _); rw [List.getElem?_eq_getElem hmt, hnm]
                clear hnm
                go_wp2_with fail
                refine (unhide HNR).mono ?_
                rintro e w4 ⟨v4, rfl, o4, b4⟩
                obtain ⟨os4, hv4⟩ := ot_ostr o4
                obtain ⟨ya, yb, yc, rfl, hS4⟩ := os4.ss
                have HT4 := hide ((unhide HT).below b4)
                have g0' : w4.cell? ⟨gn, m * 2, none⟩ = some (.int .i64 n.ver) := (b4.cell (p := ⟨gn, m * 2, none⟩) hgl).trans g0
                have hgl4 : gn < w4.heap.size := by have := b4.size; omega
                have HS4 := hide os4
                clear HNR o4 os4 hv4 b4 HT hS4 g0 g1 hgl
                by_cases h0 : nr.length = 0
                · have h0' : ((nr.length : Int) == 0) = true := by simp [h0]
                  have hT4 := unhide HT4
                  rw [unhide HNO h0] at hT4
                  have HT5 := hide hT4
                  clear h0 hT4 HT4 HNO HYES HS4
                  go_wp2
                  go_roundw
                  case rel => exact ⟨m + 1, t, ra, rl, rc, sa, sl, sc, by go_num, rfl, by omega, ht, unhide HT5⟩
                  case measure => simp [intOf]; omega
                · have h0' : ((nr.length : Int) == 0) = false := by simpa using h0
                  have hT4 := unhide HT4
                  rw [unhide HYES h0] at hT4
                  have e0 : w4.cell? ⟨H, 0, none⟩ = some (.slice ra rl rc) := Lib.cell_of_heap hT4.kh 0
                  have e1 : w4.cell? ⟨H, 1, none⟩ = some (.slice sa sl sc) := Lib.cell_of_heap hT4.kh 1
                  obtain ⟨bl, oh, hnd⟩ := hT4.oh
                  have hsz := sz_hubT ptr room (room - t) ((n.ver, nr) :: lT ptr (ns.drop (m + 1))) []
                  have hw1 := wE_lT ptr (ns.drop m)
                  rw [unhide HYES h0] at hw1
                  have hcat := congrArg szNwss (List.take_append_drop m ns)
                  rw [szNwss_app] at hcat
                  have hz0 : szNwss [] = 0 := rfl
                  have HTK := hide (implTake_walk _ _ 3 bl w4 oh hnd (by omega))
                  have HT5 := hide hT4
                  clear h0 hT4 HT4 HNO HYES oh hnd hsz hw1 hcat hz0
                  by_cases htr : t = room
                  · have hrt : room - t = 0 := by omega
                    rw [hrt] at HTK
                    obtain ⟨k1, k2, k3⟩ := take_hubT_over ptr room (n.ver, nr) (lT ptr (ns.drop (m + 1))) []
                    rw [k1, k2, k3] at HTK
                    obtain ⟨h6, hh6⟩ : ∃ h6, (⟨[watT ptr room true []], []⟩ : Hb) = h6 := ⟨_, rfl⟩
                    have hs6 : szHb h6 ≤ 1048576 := by rw [← hh6, sz_last]; omega
                    have hc6 : takC h6 3 = 3 := by rw [← hh6]; exact take_hubT_last ptr room []
                    rw [hh6] at HTK
                    have htI : ((t : Int) == (room : Int)) = true := by simp [htr]
                    have htE : ((t : Int) = (room : Int)) = True := eq_true (by omega)
                    clear hrt k1 k2 k3 hh6 HS4 htr
                    go_wp2_with fail
                    refine (unhide HTK).mono ?_
                    rintro e w5 ⟨v5, bl5, a0, a1, a2, jb, rfl, o5, hm5, f5, b5⟩
                    obtain ⟨p5, q5, d1, d2, rfl, o51, o52, rfl⟩ := o5
                    obtain ⟨va, vc, rfl, hv1, hv2⟩ := o51.form
                    obtain ⟨ta, tc, rfl, ht1, ht2⟩ := o52.form
                    obtain ⟨mq, hmq, om⟩ := hm5
                    injection hmq with m0 hmq; injection hmq with m1 hmq; injection hmq with m2 hmq
                    subst m0; subst m1; subst m2
                    obtain ⟨za, zc, rfl, hx1, hx2⟩ := om.form
                    have hnd5 := (List.nodup_append.1 f5.1).1
                    generalize h6.watches.length = vl at *
                    generalize h6.waiting.length = tl at *
                    have hA := new2 w5 (Obj.cells #[.slice va vl vc, .slice ta tl tc] 47) (Obj.cells #[.int .i64 n.ver, .slice za 0 zc, .bool true] 58)
                    have hAs := hA.size
                    obtain ⟨kh6, hT6⟩ := (unhide HT5).put (below_next b5 hA.bel) ⟨_, _, d1, d2, rfl, o51.below hA.bel, o52.below hA.bel, rfl⟩ hnd5
                    have hHl := (unhide HT5).hlt
                    have hz5 := b5.size
                    have kY := (putN_other (w := ((w5.alloc (Obj.cells #[.slice va vl vc, .slice ta tl tc] 47)).alloc (Obj.cells #[.int .i64 n.ver, .slice za 0 zc, .bool true] 58))) (g := H) (k := w5.heap.size + 1) (by omega) [.slice va vl vc, .slice ta tl tc] 0).trans hA.k1
                    obtain ⟨bl6, oh6, hn6⟩ := hT6.oh
                    have HK2 := hide (implTake_walk _ _ 3 bl6 _ oh6 hn6 hs6)
                    rw [hc6] at HK2
                    have e06 := Lib.cell_of_heap hT6.kh 0
                    have e16 := Lib.cell_of_heap hT6.kh 1
                    have r0 : ((w5.alloc (Obj.cells #[.slice va vl vc, .slice ta tl tc] 47)).alloc (Obj.cells #[.int .i64 n.ver, .slice za 0 zc, .bool true] 58)).cell? ⟨H, 0, none⟩ = some (.slice ra rl rc) := Lib.cell_of_heap kh6 0
                    have r1 : ((w5.alloc (Obj.cells #[.slice va vl vc, .slice ta tl tc] 47)).alloc (Obj.cells #[.int .i64 n.ver, .slice za 0 zc, .bool true] 58)).cell? ⟨H, 1, none⟩ = some (.slice sa sl sc) := Lib.cell_of_heap kh6 1
                    have fr := Lib.frozen_of_heap kh6
                    have x0 : ((w5.alloc (Obj.cells #[.slice va vl vc, .slice ta tl tc] 47)).alloc (Obj.cells #[.int .i64 n.ver, .slice za 0 zc, .bool true] 58)).cell? ⟨w5.heap.size, 0, none⟩ = some (.slice va vl vc) := Lib.cell_of_heap hA.k0 0
                    have x1 : ((w5.alloc (Obj.cells #[.slice va vl vc, .slice ta tl tc] 47)).alloc (Obj.cells #[.int .i64 n.ver, .slice za 0 zc, .bool true] 58)).cell? ⟨w5.heap.size, 1, none⟩ = some (.slice ta tl tc) := Lib.cell_of_heap hA.k0 1
                    have HT6 := hide hT6
                    have HKY := hide kY
                    clear HTK o51 o52 f5 hv1 hv2 ht1 ht2 om hx1 hx2 hmq hnd5 hA kh6 hT6 kY oh6 hn6 HT5 e0 e1 b5 g0' e06 e16
                    go_wp2_with fail
                    refine (unhide HK2).mono ?_
                    rintro e w7 ⟨v7, bl7, b0, b1, b2, kb, rfl, o7, hm7, f7, b7⟩
                    obtain ⟨p7, q7, i1, i2, rfl, o71, o72, rfl⟩ := o7
                    obtain ⟨sa7, sc7, rfl, hs71, hs72⟩ := o71.form
                    obtain ⟨ta7, tc7, rfl, ht71, ht72⟩ := o72.form
                    obtain ⟨mq7, hmq7, om7⟩ := hm7
                    injection hmq7 with m70 hmq7; injection hmq7 with m71 hmq7; injection hmq7 with m72 hmq7
                    subst m70; subst m71; subst m72
                    obtain ⟨za7, zc7, rfl, hx71, hx72⟩ := om7.form
                    generalize (takH h6 3).watches.length = vl7 at *
                    generalize (takH h6 3).waiting.length = tl7 at *
                    generalize (takM h6 3).ptrs.length = ml7 at *
                    generalize (takM h6 3).ver = mv7 at *
                    generalize (takM h6 3).over = mo7 at *
                    have hA7 := new2 w7 (Obj.cells #[.slice sa7 vl7 sc7, .slice ta7 tl7 tc7] 47) (Obj.cells #[.int .i64 mv7, .slice za7 ml7 zc7, .bool mo7] 58)
                    have hz7 := b7.size
                    have hYl := (Array.getElem?_eq_some_iff.1 (unhide HKY)).1
                    have bb7 := below_next b7 hA7.bel
                    have kY7 := (bb7.block _ hYl).trans (unhide HKY)
                    have hT7 := (unhide HT6).below bb7
                    have hv7 := hT7.cellv (unhide HNM)
                    have y0 := Lib.cell_of_heap kY7 0
                    have y1 := Lib.cell_of_heap kY7 1
                    have y2 := Lib.cell_of_heap kY7 2
                    have HBF := hide hT7.bel
                    clear HK2 o71 o72 f7 b7 om7 hs71 hs72 ht71 ht72 hx71 hx72 hmq7 hA7 hz7 hYl bb7 kY7 hT7 HKY HT6 r0 r1 fr x0 x1 hAs
                    simp only [List.getElem?_toArray, List.getElem?_cons_succ, List.getElem?_cons_zero] at y0 y1 y2
                    go_wp2
                    generalize ((w7.alloc (Obj.cells #[.slice sa7 vl7 sc7, .slice ta7 tl7 tc7] 47)).alloc (Obj.cells #[.int .i64 mv7, .slice za7 ml7 zc7, .bool mo7] 58)) = w8 at *
                    go_quiet (fail)
                    go_wp2
                    go_ret
                    exact ⟨rfl, below_next (unhide HBF) (draws_b w8 _)⟩
                  · have hrt : room - t = (room - (t + 1)) + 1 := by omega
                    rw [hrt] at HTK
                    obtain ⟨k1, k2, k3⟩ := take_hubT_cons ptr room (room - (t + 1)) (n.ver, nr) (lT ptr (ns.drop (m + 1))) []
                    rw [k1, k2, k3] at HTK
                    obtain ⟨h6, hh6⟩ : ∃ h6, hubT ptr room (room - (t + 1)) (lT ptr (ns.drop (m + 1))) [] = h6 := ⟨_, rfl⟩
                    rw [hh6] at HTK
                    have HH6 := hide hh6
                    have htI : ((t : Int) == (room : Int)) = false := by simp only [beq_eq_false_iff_ne, ne_eq]; omega
                    have htE : ((t : Int) = (room : Int)) = False := eq_false (by omega)
                    clear hrt k1 k2 k3 hh6
                    go_wp2_with fail
                    refine (unhide HTK).mono ?_
                    rintro e w5 ⟨v5, bl5, a0, a1, a2, jb, rfl, o5, hm5, f5, b5⟩
                    obtain ⟨p5, q5, d1, d2, rfl, o51, o52, rfl⟩ := o5
                    obtain ⟨va, vc, rfl, hv1, hv2⟩ := o51.form
                    obtain ⟨ta, tc, rfl, ht1, ht2⟩ := o52.form
                    obtain ⟨mq, hmq, om⟩ := hm5
                    injection hmq with m0 hmq; injection hmq with m1 hmq; injection hmq with m2 hmq
                    subst m0; subst m1; subst m2
                    obtain ⟨za, zc, rfl, hx1, hx2⟩ := om.form
                    have hnd5 := (List.nodup_append.1 f5.1).1
                    generalize h6.watches.length = vl at *
                    generalize h6.waiting.length = tl at *
                    have hA := new2 w5 (Obj.cells #[.slice va vl vc, .slice ta tl tc] 47) (Obj.cells #[.int .i64 n.ver, .slice za nr.length zc, .bool false] 58)
                    have hAs := hA.size
                    obtain ⟨kh6, hT6⟩ := (unhide HT5).put (below_next b5 hA.bel) ⟨_, _, d1, d2, rfl, o51.below hA.bel, o52.below hA.bel, rfl⟩ hnd5
                    have hHl := (unhide HT5).hlt
                    have hz5 := b5.size
                    have kY := (putN_other (w := ((w5.alloc (Obj.cells #[.slice va vl vc, .slice ta tl tc] 47)).alloc (Obj.cells #[.int .i64 n.ver, .slice za nr.length zc, .bool false] 58))) (g := H) (k := w5.heap.size + 1) (by omega) [.slice va vl vc, .slice ta tl tc] 0).trans hA.k1
                    have om5 := om.below hA.bel
                    have om6 : OStr (putN ((w5.alloc (Obj.cells #[.slice va vl vc, .slice ta tl tc] 47)).alloc (Obj.cells #[.int .i64 n.ver, .slice za nr.length zc, .bool false] 58)) H 0 [.slice va vl vc, .slice ta tl tc]) (.slice za nr.length zc) nr jb := om5.putN (hub_not kh6 (ostr_ty om5) (by decide)) [.slice va vl vc, .slice ta tl tc] 0
                    have os5 := (unhide HS4).below (below_next b5 hA.bel)
                    have os6 := os5.putN (hub_not kh6 (ostr_ty os5) (by decide)) [.slice va vl vc, .slice ta tl tc] 0
                    have r0 : ((w5.alloc (Obj.cells #[.slice va vl vc, .slice ta tl tc] 47)).alloc (Obj.cells #[.int .i64 n.ver, .slice za nr.length zc, .bool false] 58)).cell? ⟨H, 0, none⟩ = some (.slice ra rl rc) := Lib.cell_of_heap kh6 0
                    have r1 : ((w5.alloc (Obj.cells #[.slice va vl vc, .slice ta tl tc] 47)).alloc (Obj.cells #[.int .i64 n.ver, .slice za nr.length zc, .bool false] 58)).cell? ⟨H, 1, none⟩ = some (.slice sa sl sc) := Lib.cell_of_heap kh6 1
                    have fr := Lib.frozen_of_heap kh6
                    have x0 : ((w5.alloc (Obj.cells #[.slice va vl vc, .slice ta tl tc] 47)).alloc (Obj.cells #[.int .i64 n.ver, .slice za nr.length zc, .bool false] 58)).cell? ⟨w5.heap.size, 0, none⟩ = some (.slice va vl vc) := Lib.cell_of_heap hA.k0 0
                    have x1 : ((w5.alloc (Obj.cells #[.slice va vl vc, .slice ta tl tc] 47)).alloc (Obj.cells #[.int .i64 n.ver, .slice za nr.length zc, .bool false] 58)).cell? ⟨w5.heap.size, 1, none⟩ = some (.slice ta tl tc) := Lib.cell_of_heap hA.k0 1
                    obtain ⟨w6, hw6⟩ : ∃ w6, putN ((w5.alloc (Obj.cells #[.slice va vl vc, .slice ta tl tc] 47)).alloc (Obj.cells #[.int .i64 n.ver, .slice za nr.length zc, .bool false] 58)) H 0 [.slice va vl vc, .slice ta tl tc] = w6 := ⟨_, rfl⟩
                    rw [hw6] at hT6 kY om6 os6
                    have hw6' : (((w5.alloc (Obj.cells #[.slice va vl vc, .slice ta tl tc] 47)).alloc (Obj.cells #[.int .i64 n.ver, .slice za nr.length zc, .bool false] 58)).setCell ⟨H, 0, none⟩ (.slice va vl vc)).setCell ⟨H, 1, none⟩ (.slice ta tl tc) = w6 := hw6
                    have hbd : Below w6.heap.size w6 w6.drew := (Below.refl _ _).drew
                    obtain ⟨wa, wb, wc, hwq, hSm⟩ := OStr.ss (om6.below hbd)
                    injection hwq with hwq1 hwq2 hwq3
                    subst hwq1; subst hwq3
                    obtain ⟨ya', yb', yc', hyq, hSn⟩ := OStr.ss (os6.below hbd)
                    injection hyq with hyq1 hyq2 hyq3
                    subst hyq1; subst hyq3
                    have HSM := hide (sameTexts_walk za ya wb 0 zc yb' 0 yc nr w6.drew hSm hSn (by omega))
                    have hv6 := hT6.cellv (unhide HNM)
                    have y0 : w6.cell? ⟨w5.heap.size + 1, 0, none⟩ = some (.int .i64 n.ver) := Lib.cell_of_heap kY 0
                    have y1 : w6.cell? ⟨w5.heap.size + 1, 1, none⟩ = some (.slice za nr.length zc) := Lib.cell_of_heap kY 1
                    have y2 : w6.cell? ⟨w5.heap.size + 1, 2, none⟩ = some (.bool false) := Lib.cell_of_heap kY 2
                    have HT6 := hide hT6
                    clear HTK o51 o52 f5 hv1 hv2 ht1 ht2 om hx1 hx2 hmq hnd5 hA kh6 hT6 kY HT5 e0 e1 b5 g0' om5 om6 os5 os6 hw6 hwq2 hyq2 hSm hSn HS4 hbd hHl
                    go_wp2_with fail
                    have HT7 := hide ((unhide HT6).below ((Below.refl _ _).drew))
                    clear hw6' r0 r1 fr x0 x1 HT6 hAs
                    go_region_law (go_simp; refine (unhide HSM).mono ?_; rintro e w8 ⟨rfl, b8⟩; have hT8 := (unhide HT7).below b8)
                    all_goals (
                      rw [← unhide HH6] at hT8
                      have HT8 := hide hT8
                      clear hT8 b8 HSM HT7 hv6 y0 y1 y2
                      go_wp2
                      go_roundw)
                    all_goals first
                      | (simp [intOf]; omega; done)
                      | exact ⟨m + 1, t + 1, va, vl, vc, ta, tl, tc, by go_num, by go_num, by omega, by omega, unhide HT8⟩
              · have hmI : ¬ (m : Int) < (ns.length : Int) := by omega
                have hdk : ns.drop m = [] := List.drop_of_length_le (by omega)
                have hT := unhide HT
                rw [hdk] at hT
                have e0 : wr.cell? ⟨H, 0, none⟩ = some (.slice ra rl rc) := Lib.cell_of_heap hT.kh 0
                have e1 : wr.cell? ⟨H, 1, none⟩ = some (.slice sa sl sc) := Lib.cell_of_heap hT.kh 1
                obtain ⟨bl, oh, hnd⟩ := hT.oh
                have hsz := sz_hubT ptr room (room - t) (lT ptr []) []
                have hz0 : szNwss [] = 0 := rfl
                have hz1 : wE (lT ptr []) = 0 := rfl
                have HTK := hide (implTake_walk _ _ 3 bl wr oh hnd (by omega))
                have hE : lT ptr [] = [] := rfl
                rw [hE, take_hubT_end] at HTK
                have HBE := hide hT.bel
                clear hT HT hdk oh hnd hsz hz0 hz1 hE
                go_wp2_with fail
                refine (unhide HTK).mono ?_
                rintro e w5 ⟨v5, bl5, a0, a1, a2, jb, rfl, o5, hm5, f5, b5⟩
                obtain ⟨p5, q5, d1, d2, rfl, o51, o52, rfl⟩ := o5
                obtain ⟨va, vc, rfl, hv1, hv2⟩ := o51.form
                obtain ⟨ta, tc, rfl, ht1, ht2⟩ := o52.form
                obtain ⟨mq, hmq, om⟩ := hm5
                injection hmq with m0 hmq; injection hmq with m1 hmq; injection hmq with m2 hmq
                subst m0; subst m1; subst m2
                obtain ⟨xa', xc', rfl, hx1, hx2⟩ := om.form
                have HB5 := hide (below_next (unhide HBE) b5)
                clear HTK o51 o52 f5 b5 hv1 hv2 ht1 ht2 om hx1 hx2 hmq
                go_wp2
                go_ret
                exact ⟨rfl, below_next (unhide HB5) (below_next (alloc_b _ _) (alloc_b _ _))⟩
end Go.Proofs.YtlfonikfjibloaaGreatDoor
