import Derived.Test.YtbcfkkicmmhhcaaDoorBd45
import Derived.Test.YtbcfkkicmmhhcaaDoorBd48
import Derived.Test.YtbcfkkicmmhhcaaDoorBd21
namespace Go.Proofs.YtbcfkkicmmhhcaaDoor
open Go.RowKit

set_option maxHeartbeats 2000000 in
set_option maxRecDepth 100000 in
theorem dispatchLaw_walk (v : Value) (h : Hb)  (w : World) (hr : RHub w v h) (hML : ML w) :
    Calls Tryd.prog 5 #[v] w fun e w' => e = .returned (.bool true) ∧ Below w.heap.size w w' := by
  obtain ⟨v1, v2, rfl, hr1, hr2⟩ := hr
  have HR : Hid (RHub w (.agg #[v1, v2]) h) := ⟨v1, v2, rfl, hr1, hr2⟩
  clear hr1 hr2
  have HML := hide hML
  clear hML
  by_cases hsz : szHb h ≤ 1048576
  · go_enter Tryd.func5, Tryd.ntmps5
    go_wp2_with fail
    have hA := alloc_b w (Obj.cells #[v1, v2] 34)
    have kA := heap_alloc_new w (Obj.cells #[v1, v2] 34)
    have hAs : (w.alloc (Obj.cells #[v1, v2] 34)).heap.size = w.heap.size + 1 := by simp
    generalize (w.alloc (Obj.cells #[v1, v2] 34)) = wA at *
    have HRA := hide ((unhide HR).below hA)
    have HA := hide hA
    have q0 : wA.cell? ⟨w.heap.size, 0, none⟩ = some v1 := Lib.cell_of_heap kA 0
    have q1 : wA.cell? ⟨w.heap.size, 1, none⟩ = some v2 := Lib.cell_of_heap kA 1
    have hN : w.heap.size < wA.heap.size := by omega
    clear hA kA HR hAs
    have HCELL : Hid (∀ wi, Below wA.heap.size wA wi → wi.cell? ⟨w.heap.size, 0, none⟩ = some v1 ∧ wi.cell? ⟨w.heap.size, 1, none⟩ = some v2) := fun wi hb => ⟨(hb.cell (p := ⟨w.heap.size, 0, none⟩) hN).trans q0, (hb.cell (p := ⟨w.heap.size, 1, none⟩) hN).trans q1⟩
    have HSZ := hide (szHub_walk _ h wA (unhide HRA))
    rw [szI_ok hsz] at HSZ
    refine (unhide HSZ).mono ?_
    rintro e w2 ⟨rfl, b2⟩
    have BA2 := b2
    have hL1 : 1048576 - szHb h ≤ 1048576 := by omega
    generalize 1048576 - szHb h = L1 at *
    obtain ⟨c20, c21⟩ := unhide HCELL w2 BA2
    have HT := hide (toHub_walk _ h w2 ((unhide HRA).below BA2) hsz)
    clear b2 HSZ q0 q1
    go_wp2_with fail
    refine (unhide HT).mono ?_
    rintro e w4 ⟨p4, q4, b41, b42, rfl, o41, o42, f4, b4⟩
    have BA4 := below_next BA2 b4
    obtain ⟨h', hh'⟩ : ∃ h', h' = (dispH h) := ⟨_, rfl⟩
    obtain ⟨cd, hcd⟩ : ∃ cd, cd = (dispOk h) := ⟨_, rfl⟩
    have hs' : szHb h' ≤ 107000000 := by rw [hh']; exact (dispH_sz hsz).1
    have hct := cntHb_le h
    have hct' := cntHb_le h'
    have hsb : szHb h ≤ 1048577 := by omega
    have HI : Hid (∀ (v : Value) (bl : List Nat) (w : World), OHub w v h bl → bl.Nodup → Below wA.heap.size wA w → Calls Tryd.prog 19 #[v] w fun e w' => ∃ v' bl', e = .returned (.tuple #[v', .bool cd]) ∧ OHub w' v' h' bl' ∧ Fsh w.heap.size bl' ∧ Below w.heap.size w w') := fun v bl w ho hnd hbw => by
      rw [hh', hcd]; exact implDispatch_walk v h bl w ho hnd (((unhide HML).below (unhide HA)).below hbw) hsz
    have HS5 := hide (specDispatch_walk _ h _ w4 ⟨p4, q4, b41, b42, rfl, o41, o42, rfl⟩ hsz)
    rw [← hh', ← hcd] at HS5
    clear HT BA2 o41 o42 f4 b4 c20 c21 hh' hcd
    go_wp2_with fail
    refine (unhide HS5).mono ?_
    rintro e w5 ⟨v5, b0, rfl, o5, f5, b5⟩
    have BA5 := below_next BA4 b5
    obtain ⟨pw, qw, c51, c52, rfl, ow1, ow2, rfl⟩ := o5
    obtain ⟨a1, d1, rfl, _, _⟩ := ow1.form
    obtain ⟨a2, d2, rfl, _, _⟩ := ow2.form
    have L5 := heap_alloc_new w5 (.cells #[.slice a1 h'.watches.length d1, .slice a2 h'.waiting.length d2] 39)
    have hab5 := alloc_b w5 (.cells #[.slice a1 h'.watches.length d1, .slice a2 h'.waiting.length d2] 39)
    have O6 : Hid (OHub (w5.alloc (.cells #[.slice a1 h'.watches.length d1, .slice a2 h'.waiting.length d2] 39)) (.agg #[.slice a1 h'.watches.length d1, .slice a2 h'.waiting.length d2]) h' (c51 ++ c52)) := OHub.below ⟨_, _, c51, c52, rfl, ow1, ow2, rfl⟩ hab5
    have z6 : (w5.alloc (.cells #[.slice a1 h'.watches.length d1, .slice a2 h'.waiting.length d2] 39)).heap.size = w5.heap.size + 1 := by simp
    have BA6 := below_next BA5 hab5
    obtain ⟨c60, c61⟩ := unhide HCELL _ BA6
    have HT7 := hide (toHub_walk _ h _ ((unhide HRA).below BA6) hsz)
    have LL6 := hide L5
    have BB6 := hide BA6
    have HLW : Hid (∀ b ∈ c51 ++ c52, b < w5.heap.size) := fun b hb => by
      rcases List.mem_append.1 hb with hb | hb
      · exact ow1.lt b hb
      · exact ow2.lt b hb
    have hnA : wA.heap.size ≤ w5.heap.size := BA5.size
    clear HS5 BA4 ow1 ow2 f5 b5 L5 hab5 BA5 BA6
    go_wp2_with fail
    generalize (w5.alloc (.cells #[.slice a1 h'.watches.length d1, .slice a2 h'.waiting.length d2] 39)) = w6 at *
    generalize w5.heap.size = W0 at *
    refine (unhide HT7).mono ?_
    rintro e w7 ⟨px, qx, x1, x2, rfl, ox1, ox2, fx, b7⟩
    obtain ⟨a3, d3, rfl, _, _⟩ := ox1.form
    obtain ⟨a4, d4, rfl, _, _⟩ := ox2.form
    have hz7 := b7.size
    have BA7 := below_next (unhide BB6) b7
    have hab7 := alloc_b w7 (.cells #[.slice a3 h.watches.length d3, .slice a4 h.waiting.length d4] 39)
    have L7 := heap_alloc_new w7 (.cells #[.slice a3 h.watches.length d3, .slice a4 h.waiting.length d4] 39)
    have z8 : (w7.alloc (.cells #[.slice a3 h.watches.length d3, .slice a4 h.waiting.length d4] 39)).heap.size = w7.heap.size + 1 := by simp
    have hb68 := below_next b7 hab7
    have O8 := hide ((unhide O6).below hb68)
    have LW8 := hide ((hb68.block W0 (by omega)).trans (unhide LL6))
    have X8 : OHub (w7.alloc (.cells #[.slice a3 h.watches.length d3, .slice a4 h.waiting.length d4] 39)) (.agg #[.slice a3 h.watches.length d3, .slice a4 h.waiting.length d4]) h (x1 ++ x2) := OHub.below ⟨_, _, x1, x2, rfl, ox1, ox2, rfl⟩ hab7
    have BB8 := hide (below_next BA7 hab7)
    have FX := hide fx
    have hlx : ∀ b ∈ x1 ++ x2, b < w7.heap.size := fun b hb => by
      rcases List.mem_append.1 hb with hb | hb
      · exact ox1.lt b hb
      · exact ox2.lt b hb
    have HLX := hide hlx
    have cx0 : (w7.alloc (.cells #[.slice a3 h.watches.length d3, .slice a4 h.waiting.length d4] 39)).cell? ⟨w7.heap.size, 0, none⟩ = some (.slice a3 h.watches.length d3) := Lib.cell_of_heap L7 0
    have cx1 : (w7.alloc (.cells #[.slice a3 h.watches.length d3, .slice a4 h.waiting.length d4] 39)).cell? ⟨w7.heap.size, 1, none⟩ = some (.slice a4 h.waiting.length d4) := Lib.cell_of_heap L7 1
    have HI10 := hide (unhide HI _ _ _ X8 (unhide FX).1 (unhide BB8))
    have XX9 := hide X8
    have LX9 := hide L7
    clear HT7 O6 LL6 BB6 ox1 ox2 fx b7 BA7 hab7 L7 hb68 hlx c60 c61 X8
    go_wp2_with fail
    generalize (w7.alloc (.cells #[.slice a3 h.watches.length d3, .slice a4 h.waiting.length d4] 39)) = w9 at *
    generalize w7.heap.size = X0 at *
    refine (unhide HI10).mono ?_
    rintro e w10 ⟨vg, bg, rfl, og, fg, b10⟩
    obtain ⟨pg, qg, g1, g2, rfl, og1, og2, rfl⟩ := og
    obtain ⟨a6, d6, rfl, _, _⟩ := og1.form
    obtain ⟨a7, d7, rfl, _, _⟩ := og2.form
    have hz10 := b10.size
    have hab10 := alloc_b w10 (.cells #[.slice a6 h'.watches.length d6, .slice a7 h'.waiting.length d7] 39)
    have z11 : (w10.alloc (.cells #[.slice a6 h'.watches.length d6, .slice a7 h'.waiting.length d7] 39)).heap.size = w10.heap.size + 1 := by simp
    have hb911 := below_next b10 hab10
    have G11 : Hid (OHub (w10.alloc (.cells #[.slice a6 h'.watches.length d6, .slice a7 h'.waiting.length d7] 39)) (.agg #[.slice a6 h'.watches.length d6, .slice a7 h'.waiting.length d7]) h' (g1 ++ g2)) := OHub.below ⟨_, _, g1, g2, rfl, og1, og2, rfl⟩ hab10
    have LG11 := hide (heap_alloc_new w10 (.cells #[.slice a6 h'.watches.length d6, .slice a7 h'.waiting.length d7] 39))
    have O11 := hide ((unhide O8).below hb911)
    have lw11 := (hb911.block W0 (by omega)).trans (unhide LW8)
    have X11 := hide ((unhide XX9).below hb911)
    have LX11 := hide ((hb911.block X0 (by omega)).trans (unhide LX9))
    have BB11 := hide (below_next (unhide BB8) hb911)
    have FG := hide fg
    have HLG : Hid (∀ b ∈ g1 ++ g2, b < w10.heap.size) := fun b hb => by
      rcases List.mem_append.1 hb with hb | hb
      · exact og1.lt b hb
      · exact og2.lt b hb
    have cw0 : (w10.alloc (.cells #[.slice a6 h'.watches.length d6, .slice a7 h'.waiting.length d7] 39)).cell? ⟨W0, 0, none⟩ = some (.slice a1 h'.watches.length d1) := Lib.cell_of_heap lw11 0
    have cw1 : (w10.alloc (.cells #[.slice a6 h'.watches.length d6, .slice a7 h'.waiting.length d7] 39)).cell? ⟨W0, 1, none⟩ = some (.slice a2 h'.waiting.length d2) := Lib.cell_of_heap lw11 1
    have HE12 := hide (eqHub_walk _ _ h' _ _ _ (unhide G11) (unhide O11))
    have LW11 := hide lw11
    clear HI10 og1 og2 fg b10 hab10 hb911 O8 LW8 XX9 LX9 BB8 cx0 cx1 lw11
    go_wp2_with fail
    generalize (w10.alloc (.cells #[.slice a6 h'.watches.length d6, .slice a7 h'.waiting.length d7] 39)) = w11 at *
    generalize w10.heap.size = G0 at *
    refine (unhide HE12).mono ?_
    rintro e w12 ⟨rfl, b12⟩
    have hz12 := b12.size
    have BA12 := below_next (unhide BB11) b12
    obtain ⟨c120, c121⟩ := unhide HCELL w12 BA12
    have kx12 := (b12.block X0 (by omega)).trans (unhide LX11)
    have cx0 : w12.cell? ⟨X0, 0, none⟩ = some (.slice a3 h.watches.length d3) := Lib.cell_of_heap kx12 0
    have cx1 : w12.cell? ⟨X0, 1, none⟩ = some (.slice a4 h.waiting.length d4) := Lib.cell_of_heap kx12 1
    have hdr12 : Below w12.heap.size w12 w12.drew := (Below.refl _ _).drew
    have HT13 := hide (toHub_walk _ h w12.drew ((unhide HRA).below (below_next BA12 hdr12)) hsz)
    clear hdr12
    have G12 := hide ((unhide G11).below b12)
    have LG12 := hide ((b12.block G0 (by omega)).trans (unhide LG11))
    have O12 := hide ((unhide O11).below b12)
    have LW12 := hide ((b12.block W0 (by omega)).trans (unhide LW11))
    have X12 := hide ((unhide X11).below b12)
    have LX12 := hide kx12
    have BB12 := hide BA12
    clear HE12 b12 G11 LG11 O11 LW11 X11 LX11 BB11 BA12 kx12 cw0 cw1
    go_wp2_with fail
    go_region_law (first
      | (go_simp; refine (unhide HE14).mono ?_; rintro e w14 ⟨rfl, b14⟩)
      | (go_simp; refine (unhide HT13).mono ?_; rintro e w13 ⟨p13, q13, t1, t2, rfl, ot1, ot2, f13, b13⟩
         have b13' : Below w12.heap.size w12 w13 := ⟨b13.os, b13.tape, b13.output, b13.size, b13.block⟩
         have kx13 := (b13'.block X0 (by omega)).trans (unhide LX12)
         have cx0' : w13.cell? ⟨X0, 0, none⟩ = some (.slice a3 h.watches.length d3) := Lib.cell_of_heap kx13 0
         have cx1' : w13.cell? ⟨X0, 1, none⟩ = some (.slice a4 h.waiting.length d4) := Lib.cell_of_heap kx13 1
         have HE14 := hide (eqHub_walk _ _ h _ _ w13 ((unhide X12).below b13') ⟨p13, q13, t1, t2, rfl, ot1, ot2, rfl⟩)))
    all_goals (
      have b1216 := below_next b13' b14
      have hz16 := b1216.size
      have BA16 := below_next (unhide BB12) b1216
      have X16 := (unhide X12).below b1216
      have kx16 := (b1216.block X0 (by omega)).trans (unhide LX12)
      have cx0n : w14.cell? ⟨X0, 0, none⟩ = some (.slice a3 h.watches.length d3) := Lib.cell_of_heap kx16 0
      have cx1n : w14.cell? ⟨X0, 1, none⟩ = some (.slice a4 h.waiting.length d4) := Lib.cell_of_heap kx16 1
      have HM17 := hide (markHub_walk _ h _ w14 X16 (unhide FX).1 (by omega) 1 (by omega))
      have G16 := hide ((unhide G12).below b1216)
      have LG16 := hide ((b1216.block G0 (by omega)).trans (unhide LG12))
      have O16 := hide ((unhide O12).below b1216)
      have LW16 := hide ((b1216.block W0 (by omega)).trans (unhide LW12))
      have BB16 := hide BA16
      clear b1216 BA16 b13 b13' b14 kx13 cx0' cx1' HE14 HT13 ot1 ot2 f13 G12 LG12 O12 LW12 X12 LX12 BB12 cx0 cx1 c120 c121 X16 kx16
      have hx_lo : ∀ b ∈ x1 ++ x2, w6.heap.size ≤ b := (unhide FX).2
      have hx_hi := unhide HLX
      have hg_lo : ∀ b ∈ g1 ++ g2, w9.heap.size ≤ b := (unhide FG).2
      have hg_hi := unhide HLG
      have hw_hi := unhide HLW
      have HNUM : Hid ((∀ b ∈ x1 ++ x2, w6.heap.size ≤ b) ∧ (∀ b ∈ x1 ++ x2, b < X0) ∧ (∀ b ∈ g1 ++ g2, w9.heap.size ≤ b) ∧ (∀ b ∈ g1 ++ g2, b < G0) ∧ (∀ b ∈ c51 ++ c52, b < W0)) := ⟨hx_lo, hx_hi, hg_lo, hg_hi, hw_hi⟩
      clear hx_lo hx_hi hg_lo hg_hi hw_hi
      have hcb : 1 + cntR cntWat h.watches + cntR cntNws h.waiting ≤ 100000000 := by omega
      go_wp2_with fail
      refine (unhide HM17).mono ?_
      rintro e w18 ⟨rfl, -, fr18⟩
      generalize 1 + cntR cntWat h.watches + cntR cntNws h.waiting = K1 at *
      have hz18 := fr18.size
      obtain ⟨nx1, nx2, ng1, ng2, nw2⟩ := unhide HNUM
      have G18 := (unhide G16).fr fr18 fun b hb hm => by have := ng1 b hb; have := nx2 b hm; omega
      have O18 := (unhide O16).fr fr18 fun b hb hm => by have := nw2 b hb; have := nx1 b hm; omega
      have lg18 := (fr18.block G0 (by omega) fun hm => by have := nx2 _ hm; omega).trans (unhide LG16)
      have lw18 := (fr18.block W0 (by omega) fun hm => by have := nx1 _ hm; omega).trans (unhide LW16)
      have ba18 := (unhide BB16).trans (fr18.below (fun b hb => by have := nx1 b hb; omega) (by omega))
      have HE19 := hide (eqHub_walk _ _ h' _ _ w18 G18 O18)
      have cg0 : w18.cell? ⟨G0, 0, none⟩ = some (.slice a6 h'.watches.length d6) := Lib.cell_of_heap lg18 0
      have cg1 : w18.cell? ⟨G0, 1, none⟩ = some (.slice a7 h'.waiting.length d7) := Lib.cell_of_heap lg18 1
      have cw0 : w18.cell? ⟨W0, 0, none⟩ = some (.slice a1 h'.watches.length d1) := Lib.cell_of_heap lw18 0
      have cw1 : w18.cell? ⟨W0, 1, none⟩ = some (.slice a2 h'.waiting.length d2) := Lib.cell_of_heap lw18 1
      have GG18 := hide G18
      have OO18 := hide O18
      have LG18 := hide lg18
      have LW18 := hide lw18
      have BB18 := hide ba18
      clear HM17 fr18 G18 O18 lg18 lw18 ba18 nx1 nx2 ng1 ng2 nw2 G16 LG16 O16 LW16 BB16 cx0n cx1n
      go_wp2_with fail
      refine (unhide HE19).mono ?_
      rintro e w19 ⟨rfl, b19⟩
      have hz19 := b19.size
      have G19 := (unhide GG18).below b19
      have lg19 := (b19.block G0 (by omega)).trans (unhide LG18)
      have cg0' : w19.cell? ⟨G0, 0, none⟩ = some (.slice a6 h'.watches.length d6) := Lib.cell_of_heap lg19 0
      have cg1' : w19.cell? ⟨G0, 1, none⟩ = some (.slice a7 h'.waiting.length d7) := Lib.cell_of_heap lg19 1
      have hcb' : 1 + cntR cntWat h'.watches + cntR cntNws h'.waiting ≤ 1000000000 := by omega
      have HM20 := hide (markHub_walk _ h' _ w19 G19 (unhide FG).1 (by omega) 1 (by omega))
      have O19 := hide ((unhide OO18).below b19)
      have LG19 := hide lg19
      have LW19 := hide ((b19.block W0 (by omega)).trans (unhide LW18))
      have BB19 := hide (below_next (unhide BB18) b19)
      clear HE19 b19 G19 lg19 GG18 OO18 LG18 LW18 BB18 cg0 cg1 cw0 cw1
      go_wp2_with fail
      refine (unhide HM20).mono ?_
      rintro e w20 ⟨rfl, G20, fr20⟩
      have hz20 := fr20.size
      obtain ⟨nx1, nx2, ng1, ng2, nw2⟩ := unhide HNUM
      have O20 := hide ((unhide O19).fr fr20 fun b hb hm => by have := nw2 b hb; have := ng1 b hm; omega)
      have lg20 := (fr20.block G0 (by omega) fun hm => by have := ng2 _ hm; omega).trans (unhide LG19)
      have LW20 := hide ((fr20.block W0 (by omega) fun hm => by have := ng1 _ hm; omega).trans (unhide LW19))
      have BB20 := hide ((unhide BB19).trans (fr20.below (fun b hb => by have := ng1 b hb; omega) (by omega)))
      have cg0 : w20.cell? ⟨G0, 0, none⟩ = some (.slice a6 h'.watches.length d6) := Lib.cell_of_heap lg20 0
      have cg1 : w20.cell? ⟨G0, 1, none⟩ = some (.slice a7 h'.waiting.length d7) := Lib.cell_of_heap lg20 1
      have HH21 := hide (heldHub_walk _ h' _ w20 1 G20 (by omega) (by omega))
      have GG20 := hide G20
      have LG20 := hide lg20
      have HHELD : Hid (∀ wi bl, OHub wi (.agg #[.slice a6 h'.watches.length d6, .slice a7 h'.waiting.length d7]) ⟨mkRow mkWat cntWat 1 h'.watches, mkRow mkNws cntNws (1 + cntR cntWat h'.watches) h'.waiting⟩ bl → Calls Tryd.prog 17 #[.agg #[.slice a6 h'.watches.length d6, .slice a7 h'.waiting.length d7], .int .i64 (1 : Nat)] wi fun e w' => e = .returned (.int .i64 (1 + cntR cntWat h'.watches + cntR cntNws h'.waiting : Nat)) ∧ Below wi.heap.size wi w') := fun wi bl ho => heldHub_walk _ h' bl wi 1 ho (by omega) (by omega)
      generalize 1 + cntR cntWat h'.watches + cntR cntNws h'.waiting = K2 at *
      clear HM20 fr20 G20 lg20 nx1 nx2 ng1 ng2 nw2 O19 LG19 LW19 BB19 cg0' cg1'
      go_wp2_with fail
      refine (unhide HH21).mono ?_
      rintro e w21 ⟨rfl, b21⟩
      have hz21 := b21.size
      have BA21 := below_next (unhide BB20) b21
      obtain ⟨c0, c1⟩ := unhide HCELL w21 BA21
      have HT22 := hide (toHub_walk _ h w21 ((unhide HRA).below BA21) hsz)
      have G21 := hide ((unhide GG20).below b21)
      have LG21 := hide ((b21.block G0 (by omega)).trans (unhide LG20))
      have O21 := hide ((unhide O20).below b21)
      have LW21 := hide ((b21.block W0 (by omega)).trans (unhide LW20))
      have BB21 := hide BA21
      clear HH21 b21 BA21 GG20 LG20 O20 LW20 BB20 cg0 cg1
      go_wp2_with fail
      refine (unhide HT22).mono ?_
      rintro e w23 ⟨p22, q22, t1', t2', rfl, ot1', ot2', f22, b22⟩
      have HI24 := hide (unhide HI _ _ w23 ⟨p22, q22, t1', t2', rfl, ot1', ot2', rfl⟩ f22.1 (below_next (unhide BB21) b22))
      have B23 := hide b22
      clear HT22 ot1' ot2' f22 b22 c0 c1
      go_wp2_with fail
      refine (unhide HI24).mono ?_
      rintro e w24 ⟨vh, bh, rfl, oh, f24, b24⟩
      obtain ⟨ph, qh, h1', h2', rfl, oh1, oh2, rfl⟩ := oh
      obtain ⟨a8, d8, rfl, _, _⟩ := oh1.form
      obtain ⟨a9, d9, rfl, _, _⟩ := oh2.form
      have hab24 := alloc_b w24 (.cells #[.slice a8 h'.watches.length d8, .slice a9 h'.waiting.length d9] 39)
      have b2125 := below_next (below_next (unhide B23) b24) hab24
      have hz25 := b2125.size
      have H25 : OHub (w24.alloc (.cells #[.slice a8 h'.watches.length d8, .slice a9 h'.waiting.length d9] 39)) (.agg #[.slice a8 h'.watches.length d8, .slice a9 h'.waiting.length d9]) h' (h1' ++ h2') := OHub.below ⟨_, _, h1', h2', rfl, oh1, oh2, rfl⟩ hab24
      have lw25 := (b2125.block W0 (by omega)).trans (unhide LW21)
      have cw0 : (w24.alloc (.cells #[.slice a8 h'.watches.length d8, .slice a9 h'.waiting.length d9] 39)).cell? ⟨W0, 0, none⟩ = some (.slice a1 h'.watches.length d1) := Lib.cell_of_heap lw25 0
      have cw1 : (w24.alloc (.cells #[.slice a8 h'.watches.length d8, .slice a9 h'.waiting.length d9] 39)).cell? ⟨W0, 1, none⟩ = some (.slice a2 h'.waiting.length d2) := Lib.cell_of_heap lw25 1
      have HE26 := hide (eqHub_walk _ _ h' _ _ _ H25 ((unhide O21).below b2125))
      have G25 := hide ((unhide G21).below b2125)
      have LG25 := hide ((b2125.block G0 (by omega)).trans (unhide LG21))
      have BB25 := hide (below_next (unhide BB21) b2125)
      clear HI24 oh1 oh2 f24 b24 hab24 b2125 H25 lw25 G21 LG21 O21 LW21 BB21 B23
      go_wp2_with fail
      generalize (w24.alloc (.cells #[.slice a8 h'.watches.length d8, .slice a9 h'.waiting.length d9] 39)) = w25 at *
      refine (unhide HE26).mono ?_
      rintro e w26 ⟨rfl, b26⟩
      have hz26 := b26.size
      have lg26 := (b26.block G0 (by omega)).trans (unhide LG25)
      have cg0 : w26.cell? ⟨G0, 0, none⟩ = some (.slice a6 h'.watches.length d6) := Lib.cell_of_heap lg26 0
      have cg1 : w26.cell? ⟨G0, 1, none⟩ = some (.slice a7 h'.waiting.length d7) := Lib.cell_of_heap lg26 1
      have HH27 := hide (unhide HHELD w26 _ ((unhide G25).below b26))
      have BB26 := hide (below_next (unhide BB25) b26)
      clear HE26 b26 lg26 G25 LG25 BB25 cw0 cw1
      go_wp2_with fail
      refine (unhide HH27).mono ?_
      rintro e w27 ⟨rfl, b27⟩
      have HFIN := hide (below_next (unhide HA) (below_next (unhide BB26) b27))
      clear HH27 b27 BB26 cg0 cg1
      go_wp2
      go_ret
      exact ⟨rfl, unhide HFIN⟩)
  · go_enter Tryd.func5, Tryd.ntmps5
    go_wp2_with fail
    have hA := alloc_b w (Obj.cells #[v1, v2] 34)
    generalize (w.alloc (Obj.cells #[v1, v2] 34)) = wA at *
    have HSZ := hide (szHub_walk _ h wA ((unhide HR).below hA))
    rw [szI_no hsz] at HSZ
    have HA := hide hA
    clear hA HR hsz
    refine (unhide HSZ).mono ?_
    rintro e w1 ⟨rfl, b1⟩
    have HB1 := hide (below_next (unhide HA) b1)
    clear HSZ b1
    go_wp2
    go_ret
    exact ⟨rfl, unhide HB1⟩
end Go.Proofs.YtbcfkkicmmhhcaaDoor
