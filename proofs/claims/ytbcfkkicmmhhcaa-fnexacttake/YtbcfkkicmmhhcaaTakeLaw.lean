import Derived.Test.YtbcfkkicmmhhcaaTakeI
import Derived.Test.YtbcfkkicmmhhcaaTakeS
import Derived.Test.YtbcfkkicmmhhcaaMkOne
import Derived.Test.YtbcfkkicmmhhcaaHubCnt
namespace Go.Proofs.Ytbcfkkicmmhhcaa
open Go.RowKit

/-- An answer as it lies: a hub in one block, a message in the next. -/
structure Ans (w : World) (G : Nat) (a1 a2 m1 : Value) (h' : Hb) (m' : Msg) (bl jb : List Nat) : Prop where
  kh : w.heap[G]? = some (.cells #[a1, a2] 32 (0, 0))
  km : w.heap[G + 1]? = some (.cells #[.int .i64 m'.ver, m1, .bool m'.over] 44 (0, 0))
  oh : OHub w (.agg #[a1, a2]) h' bl
  om : OStr w m1 m'.ptrs jb
section
variable {w w' : World} {G : Nat} {a1 a2 m1 : Value} {h' : Hb} {m' : Msg} {bl jb cl : List Nat}
theorem Ans.below (h : Ans w G a1 a2 m1 h' m' bl jb) (hb : Below w.heap.size w w') : Ans w' G a1 a2 m1 h' m' bl jb :=
  ⟨(hb.block G (Array.getElem?_eq_some_iff.1 h.kh).1).trans h.kh, (hb.block (G + 1) (Array.getElem?_eq_some_iff.1 h.km).1).trans h.km, h.oh.below hb, h.om.below hb⟩
theorem Ans.fr (h : Ans w G a1 a2 m1 h' m' bl jb) (hf : Fr cl w w') (hn : ∀ b ∈ cl, b ≠ G ∧ b ≠ G + 1 ∧ b ∉ bl ∧ b ∉ jb) : Ans w' G a1 a2 m1 h' m' bl jb :=
  ⟨(hf.block G (Array.getElem?_eq_some_iff.1 h.kh).1 fun hm => (hn _ hm).1 rfl).trans h.kh, (hf.block (G + 1) (Array.getElem?_eq_some_iff.1 h.km).1 fun hm => (hn _ hm).2.1 rfl).trans h.km,
    h.oh.fr hf fun _ hb hm => (hn _ hm).2.2.1 hb, h.om.keep (hf.kp h.om.lt fun _ hb hm => (hn _ hm).2.2.2 hb)⟩
theorem Ans.mk2 (oh : OHub w (.agg #[a1, a2]) h' bl) (om : OStr w m1 m'.ptrs jb) :
    Ans ((w.alloc (.cells #[a1, a2] 32)).alloc (.cells #[.int .i64 m'.ver, m1, .bool m'.over] 44)) w.heap.size a1 a2 m1 h' m' bl jb := by
  have hA := new2 w (Obj.cells #[a1, a2] 32) (Obj.cells #[.int .i64 m'.ver, m1, .bool m'.over] 44)
  exact ⟨hA.k0, hA.k1, oh.below hA.bel, om.below hA.bel⟩
theorem Ans.cells (h : Ans w G a1 a2 m1 h' m' bl jb) : w.cell? ⟨G, 0, none⟩ = some a1 ∧ w.cell? ⟨G, 1, none⟩ = some a2 ∧ w.cell? ⟨G + 1, 0, none⟩ = some (.int .i64 m'.ver) ∧ w.cell? ⟨G + 1, 1, none⟩ = some m1 ∧ w.cell? ⟨G + 1, 2, none⟩ = some (.bool m'.over) :=
  ⟨Lib.cell_of_heap h.kh 0, Lib.cell_of_heap h.kh 1, Lib.cell_of_heap h.km 0, Lib.cell_of_heap h.km 1, Lib.cell_of_heap h.km 2⟩
theorem Ans.msg (h : Ans w G a1 a2 m1 h' m' bl jb) : msgE.E w [.int .i64 m'.ver, m1, .bool m'.over] m' jb := ⟨_, rfl, h.om⟩
end
set_option maxHeartbeats 4000000 in
set_option maxRecDepth 100000 in
theorem takeLaw_walk (v : Value) (h : Hb) (client : Int) (w : World) (hr : RHub w v h) :
    Calls Try.prog 5 #[v, .int .i64 client] w fun e w' => e = .returned (.bool true) ∧ Below w.heap.size w w' := by
  obtain ⟨v1, v2, rfl, hr1, hr2⟩ := hr
  have HR : Hid (RHub w (.agg #[v1, v2]) h) := ⟨v1, v2, rfl, hr1, hr2⟩
  clear hr1 hr2
  by_cases hsz : szHb h ≤ 1048576
  · go_enter Try.func5, Try.ntmps5
    go_wp2_with fail
    have hA := alloc_b w (Obj.cells #[v1, v2] 25)
    have kA := heap_alloc_new w (Obj.cells #[v1, v2] 25)
    have hAs : (w.alloc (Obj.cells #[v1, v2] 25)).heap.size = w.heap.size + 1 := by simp
    generalize (w.alloc (Obj.cells #[v1, v2] 25)) = wA at *
    have HRA := hide ((unhide HR).below hA)
    have HA := hide hA
    have q0 : wA.cell? ⟨w.heap.size, 0, none⟩ = some v1 := Lib.cell_of_heap kA 0
    have q1 : wA.cell? ⟨w.heap.size, 1, none⟩ = some v2 := Lib.cell_of_heap kA 1
    have hN : w.heap.size < wA.heap.size := by omega
    clear hA kA HR hAs
    have HCELL : Hid (∀ wi, Below wA.heap.size wA wi → wi.cell? ⟨w.heap.size, 0, none⟩ = some v1 ∧ wi.cell? ⟨w.heap.size, 1, none⟩ = some v2) := fun wi hb => ⟨(hb.cell (p := ⟨w.heap.size, 0, none⟩) hN).trans q0, (hb.cell (p := ⟨w.heap.size, 1, none⟩) hN).trans q1⟩
    have HSZ := hide (szHub_walk _ h wA (unhide HRA))
    rw [szI_ok hsz] at HSZ
    refine (unhide HSZ).mono ?_
    rintro e w2 ⟨rfl, b2⟩
    have BA2 := b2
    have hL1 : 1048576 - szHb h ≤ 1048576 := by omega
    generalize 1048576 - szHb h = L1 at *
    obtain ⟨c20, c21⟩ := unhide HCELL w2 BA2
    have HT := hide (toHub_walk _ h w2 ((unhide HRA).below BA2) hsz)
    clear b2 HSZ q0 q1
    go_wp2_with fail
    refine (unhide HT).mono ?_
    rintro e w4 ⟨p4, q4, b41, b42, rfl, o41, o42, f4, b4⟩
    have BA4 := below_next BA2 b4
    obtain ⟨tz, _, _, tm⟩ := takH_sz (c := client) hsz
    obtain ⟨h', hh'⟩ : ∃ h', h' = takH h client := ⟨_, rfl⟩
    obtain ⟨m', hm'⟩ : ∃ m', m' = takM h client := ⟨_, rfl⟩
    obtain ⟨cd, hcd⟩ : ∃ cd, cd = takC h client := ⟨_, rfl⟩
    have hs' : szHb h' ≤ 1048577 := by rw [hh']; omega
    have hsm : m'.ptrs.length ≤ 1048577 := by rw [hm']; unfold szMsg szStr at tm; omega
    have hct := cntHb_le h
    have hct' := cntHb_le h'
    have hsb : szHb h ≤ 1048577 := by omega
    have HI : Hid (∀ (v : Value) (bl : List Nat) (w : World), OHub w v h bl → bl.Nodup → Calls Try.prog 20 #[v, .int .i64 client] w fun e w' => ∃ v' bl' a0 a1 a2 jb, e = .returned (.tuple #[v', .agg #[a0, a1, a2], .int .i64 cd]) ∧ OHub w' v' h' bl' ∧ msgE.E w' [a0, a1, a2] m' jb ∧ Fsh w.heap.size (bl' ++ jb) ∧ Below w.heap.size w w') := fun v bl w ho hn => by
      rw [hh', hm', hcd]; exact implTake_walk v h client bl w ho hn hsz
    have HS5 := hide (specTake_walk _ h client _ w4 ⟨p4, q4, b41, b42, rfl, o41, o42, rfl⟩ hsb)
    rw [← hh', ← hm', ← hcd] at HS5
    clear HT BA2 o41 o42 f4 b4 c20 c21 hh' hm' hcd tz tm
    go_wp2_with fail
    refine (unhide HS5).mono ?_
    rintro e w5 ⟨v5, b0, u0, u1, u2, jw, rfl, o5, om5, b5⟩
    have BA5 := below_next BA4 b5
    obtain ⟨pw, qw, c51, c52, rfl, ow1, ow2, rfl⟩ := o5
    obtain ⟨a1, d1, rfl, t1, t2⟩ := ow1.form
    obtain ⟨a2, d2, rfl, t3, t4⟩ := ow2.form
    obtain ⟨qm, hqm, oq⟩ := om5
    injection hqm with i0 hqm; injection hqm with i1 hqm; injection hqm with i2 hqm
    subst i0; subst i1; subst i2
    obtain ⟨a5, d5, rfl, t5, t6⟩ := oq.form
    have A6 : Ans ((w5.alloc (.cells #[.slice a1 h'.watches.length d1, .slice a2 h'.waiting.length d2] 32)).alloc (.cells #[.int .i64 m'.ver, .slice a5 m'.ptrs.length d5, .bool m'.over] 44)) w5.heap.size _ _ _ h' m' (c51 ++ c52) jw := Ans.mk2 ⟨_, _, c51, c52, rfl, ow1, ow2, rfl⟩ oq
    have N6 := new2 w5 (.cells #[.slice a1 h'.watches.length d1, .slice a2 h'.waiting.length d2] 32) (.cells #[.int .i64 m'.ver, .slice a5 m'.ptrs.length d5, .bool m'.over] 44)
    have z6 := N6.size
    have BA6 := below_next BA5 N6.bel
    have HLW : Hid ((∀ b ∈ c51 ++ c52, b < w5.heap.size) ∧ ∀ b ∈ jw, b < w5.heap.size) := ⟨OHub.lt ⟨_, _, c51, c52, rfl, ow1, ow2, rfl⟩, oq.lt⟩
    have hnA : wA.heap.size ≤ w5.heap.size := BA5.size
    obtain ⟨c60, c61⟩ := unhide HCELL _ BA6
    have HT7 := hide (toHub_walk _ h _ ((unhide HRA).below BA6) hsz)
    have AA6 := hide A6
    have BB6 := hide BA6
    clear HS5 BA4 ow1 ow2 b5 N6 BA5 BA6 t1 t2 t3 t4 t5 t6 oq hqm A6
    go_wp2_with fail
    generalize ((w5.alloc (.cells #[.slice a1 h'.watches.length d1, .slice a2 h'.waiting.length d2] 32)).alloc (.cells #[.int .i64 m'.ver, .slice a5 m'.ptrs.length d5, .bool m'.over] 44)) = w6 at *
    generalize w5.heap.size = W0 at *
    refine (unhide HT7).mono ?_
    rintro e w7 ⟨px, qx, x1, x2, rfl, ox1, ox2, fx, b7⟩
    obtain ⟨a3, d3, rfl, t1, t2⟩ := ox1.form
    obtain ⟨a4, d4, rfl, t3, t4⟩ := ox2.form
    have hz7 := b7.size
    have BA7 := below_next (unhide BB6) b7
    have hab7 := alloc_b w7 (.cells #[.slice a3 h.watches.length d3, .slice a4 h.waiting.length d4] 32)
    have L7 := heap_alloc_new w7 (.cells #[.slice a3 h.watches.length d3, .slice a4 h.waiting.length d4] 32)
    have z8 : (w7.alloc (.cells #[.slice a3 h.watches.length d3, .slice a4 h.waiting.length d4] 32)).heap.size = w7.heap.size + 1 := by simp
    have hb68 := below_next b7 hab7
    have AW8 := hide ((unhide AA6).below hb68)
    have X8 : OHub (w7.alloc (.cells #[.slice a3 h.watches.length d3, .slice a4 h.waiting.length d4] 32)) (.agg #[.slice a3 h.watches.length d3, .slice a4 h.waiting.length d4]) h (x1 ++ x2) := OHub.below ⟨_, _, x1, x2, rfl, ox1, ox2, rfl⟩ hab7
    have BB8 := hide (below_next BA7 hab7)
    have FX := hide fx
    have hlx : ∀ b ∈ x1 ++ x2, b < w7.heap.size := OHub.lt ⟨_, _, x1, x2, rfl, ox1, ox2, rfl⟩
    have HLX := hide hlx
    have cx0 : (w7.alloc (.cells #[.slice a3 h.watches.length d3, .slice a4 h.waiting.length d4] 32)).cell? ⟨w7.heap.size, 0, none⟩ = some (.slice a3 h.watches.length d3) := Lib.cell_of_heap L7 0
    have cx1 : (w7.alloc (.cells #[.slice a3 h.watches.length d3, .slice a4 h.waiting.length d4] 32)).cell? ⟨w7.heap.size, 1, none⟩ = some (.slice a4 h.waiting.length d4) := Lib.cell_of_heap L7 1
    have HI10 := hide (unhide HI _ _ _ X8 fx.1)
    have XX9 := hide X8
    have LX9 := hide L7
    clear HT7 AA6 BB6 ox1 ox2 fx b7 BA7 hab7 L7 hb68 hlx c60 c61 X8 t1 t2 t3 t4
    go_wp2_with fail
    generalize (w7.alloc (.cells #[.slice a3 h.watches.length d3, .slice a4 h.waiting.length d4] 32)) = w9 at *
    generalize w7.heap.size = X0 at *
    refine (unhide HI10).mono ?_
    rintro e w10 ⟨vg, bg, u0, u1, u2, jg, rfl, og, omg, fg, b10⟩
    obtain ⟨pg, qg, g1, g2, rfl, og1, og2, rfl⟩ := og
    obtain ⟨a6, d6, rfl, t1, t2⟩ := og1.form
    obtain ⟨a7, d7, rfl, t3, t4⟩ := og2.form
    obtain ⟨qm, hqm, oq⟩ := omg
    injection hqm with i0 hqm; injection hqm with i1 hqm; injection hqm with i2 hqm
    subst i0; subst i1; subst i2
    obtain ⟨a8, d8, rfl, t5, t6⟩ := oq.form
    have hz10 := b10.size
    have A11 : Ans ((w10.alloc (.cells #[.slice a6 h'.watches.length d6, .slice a7 h'.waiting.length d7] 32)).alloc (.cells #[.int .i64 m'.ver, .slice a8 m'.ptrs.length d8, .bool m'.over] 44)) w10.heap.size _ _ _ h' m' (g1 ++ g2) jg := Ans.mk2 ⟨_, _, g1, g2, rfl, og1, og2, rfl⟩ oq
    have N11 := new2 w10 (.cells #[.slice a6 h'.watches.length d6, .slice a7 h'.waiting.length d7] 32) (.cells #[.int .i64 m'.ver, .slice a8 m'.ptrs.length d8, .bool m'.over] 44)
    have z11 := N11.size
    have hb911 := below_next b10 N11.bel
    have W11 := (unhide AW8).below hb911
    have X11 := hide ((unhide XX9).below hb911)
    have LX11 := hide ((hb911.block X0 (by omega)).trans (unhide LX9))
    have BB11 := hide (below_next (unhide BB8) hb911)
    have FG := hide fg
    have HLG : Hid ((∀ b ∈ g1 ++ g2, b < w10.heap.size) ∧ ∀ b ∈ jg, b < w10.heap.size) := ⟨OHub.lt ⟨_, _, g1, g2, rfl, og1, og2, rfl⟩, oq.lt⟩
    obtain ⟨cw0, cw1, cw2, cw3, cw4⟩ := W11.cells
    have HE12 := hide (eqHub_walk _ _ h' _ _ _ A11.oh W11.oh)
    have AG11 := hide A11
    have AW11 := hide W11
    clear HI10 og1 og2 fg b10 N11 hb911 AW8 XX9 LX9 BB8 cx0 cx1 t1 t2 t3 t4 t5 t6 oq hqm A11 W11
    go_wp2_with fail
    generalize ((w10.alloc (.cells #[.slice a6 h'.watches.length d6, .slice a7 h'.waiting.length d7] 32)).alloc (.cells #[.int .i64 m'.ver, .slice a8 m'.ptrs.length d8, .bool m'.over] 44)) = w11 at *
    generalize w10.heap.size = G0 at *
    refine (unhide HE12).mono ?_
    rintro e w12 ⟨rfl, b12⟩
    have G12 := (unhide AG11).below b12
    have W12 := (unhide AW11).below b12
    clear cw0 cw1 cw2 cw3 cw4
    obtain ⟨cg0, cg1, cg2, cg3, cg4⟩ := G12.cells
    obtain ⟨cw0, cw1, cw2, cw3, cw4⟩ := W12.cells
    have HF12 := hide (eqMsg_walk _ _ _ _ _ _ m' _ _ w12 G12.msg W12.msg)
    have hz12 := b12.size
    have AG12 := hide G12
    have AW12 := hide W12
    have X12 := hide ((unhide X11).below b12)
    have LX12 := hide ((b12.block X0 (by omega)).trans (unhide LX11))
    have BB12 := hide (below_next (unhide BB11) b12)
    clear HE12 b12 AG11 AW11 X11 LX11 BB11 G12 W12
    go_wp2_with fail
    refine (unhide HF12).mono ?_
    rintro e w13 ⟨rfl, b13⟩
    have hz13 := b13.size
    have BA13 := below_next (unhide BB12) b13
    obtain ⟨c120, c121⟩ := unhide HCELL w13 BA13
    have kx13 := (b13.block X0 (by omega)).trans (unhide LX12)
    have cx0 : w13.cell? ⟨X0, 0, none⟩ = some (.slice a3 h.watches.length d3) := Lib.cell_of_heap kx13 0
    have cx1 : w13.cell? ⟨X0, 1, none⟩ = some (.slice a4 h.waiting.length d4) := Lib.cell_of_heap kx13 1
    have hdr13 : Below w13.heap.size w13 w13.drew := (Below.refl _ _).drew
    have HT13 := hide (toHub_walk _ h w13.drew ((unhide HRA).below (below_next BA13 hdr13)) hsz)
    have AG13 := hide ((unhide AG12).below b13)
    have AW13 := hide ((unhide AW12).below b13)
    have X13 := hide ((unhide X12).below b13)
    have LX13 := hide kx13
    have BB13 := hide BA13
    clear hdr13 HF12 b13 AG12 AW12 X12 LX12 BB12 BA13 kx13 cg0 cg1 cg2 cg3 cg4 cw0 cw1 cw2 cw3 cw4
    go_wp2_with fail
    go_region_law (first
      | (go_simp; refine (unhide HE14).mono ?_; rintro e w15 ⟨rfl, b15⟩)
      | (go_simp; refine (unhide HT13).mono ?_; rintro e w14 ⟨p14, q14, t1, t2, rfl, ot1, ot2, f14, b14⟩
         have b14' : Below w13.heap.size w13 w14 := ⟨b14.os, b14.tape, b14.output, b14.size, b14.block⟩
         have kx14 := (b14'.block X0 (by omega)).trans (unhide LX13)
         have cx0' : w14.cell? ⟨X0, 0, none⟩ = some (.slice a3 h.watches.length d3) := Lib.cell_of_heap kx14 0
         have cx1' : w14.cell? ⟨X0, 1, none⟩ = some (.slice a4 h.waiting.length d4) := Lib.cell_of_heap kx14 1
         have HE14 := hide (eqHub_walk _ _ h _ _ w14 ((unhide X13).below b14') ⟨p14, q14, t1, t2, rfl, ot1, ot2, rfl⟩)))
    all_goals (
      have b1316 := below_next b14' b15
      have hz16 := b1316.size
      have BA16 := below_next (unhide BB13) b1316
      have X16 := (unhide X13).below b1316
      have kx16 := (b1316.block X0 (by omega)).trans (unhide LX13)
      have cx0n : w15.cell? ⟨X0, 0, none⟩ = some (.slice a3 h.watches.length d3) := Lib.cell_of_heap kx16 0
      have cx1n : w15.cell? ⟨X0, 1, none⟩ = some (.slice a4 h.waiting.length d4) := Lib.cell_of_heap kx16 1
      have HM17 := hide (markHub_walk _ h _ w15 X16 (unhide FX).1 (by omega) 1 (by omega))
      have AG16 := hide ((unhide AG13).below b1316)
      have AW16 := hide ((unhide AW13).below b1316)
      have BB16 := hide BA16
      clear b1316 BA16 b14 b14' b15 kx14 cx0' cx1' HE14 HT13 ot1 ot2 f14 AG13 AW13 X13 LX13 BB13 cx0 cx1 c120 c121 X16 kx16
      have HNUM : Hid ((∀ b ∈ x1 ++ x2, w6.heap.size ≤ b ∧ b < X0) ∧ (∀ b ∈ g1 ++ g2, w9.heap.size ≤ b ∧ b < G0) ∧ (∀ b ∈ jg, w9.heap.size ≤ b ∧ b < G0) ∧ (∀ b ∈ c51 ++ c52, b < W0) ∧ (∀ b ∈ jw, b < W0)) := ⟨fun b hb => ⟨(unhide FX).2 b hb, unhide HLX b hb⟩, fun b hb => ⟨(unhide FG).2 b (List.mem_append.2 (.inl hb)), (unhide HLG).1 b hb⟩, fun b hb => ⟨(unhide FG).2 b (List.mem_append.2 (.inr hb)), (unhide HLG).2 b hb⟩, (unhide HLW).1, (unhide HLW).2⟩
      have HAPT : Hid ((g1 ++ g2).Nodup ∧ jg.Nodup ∧ ∀ a ∈ g1 ++ g2, ∀ b ∈ jg, a ≠ b) := List.nodup_append.1 (unhide FG).1
      have hcb : 1 + cntR cntWat h.watches + cntR cntNws h.waiting ≤ 100000000 := by omega
      go_wp2_with fail
      refine (unhide HM17).mono ?_
      rintro e w18 ⟨rfl, -, fr18⟩
      generalize 1 + cntR cntWat h.watches + cntR cntNws h.waiting = K1 at *
      have hz18 := fr18.size
      obtain ⟨nx, ng, nj, nw, nv⟩ := unhide HNUM
      have G18 := (unhide AG16).fr fr18 fun b hm => ⟨by have := nx b hm; omega, by have := nx b hm; omega, fun h1 => by have := nx b hm; have := ng b h1; omega, fun h1 => by have := nx b hm; have := nj b h1; omega⟩
      have W18 := (unhide AW16).fr fr18 fun b hm => ⟨by have := nx b hm; omega, by have := nx b hm; omega, fun h1 => by have := nx b hm; have := nw b h1; omega, fun h1 => by have := nx b hm; have := nv b h1; omega⟩
      have ba18 := (unhide BB16).trans (fr18.below (fun b hb => by have := nx b hb; omega) (by omega))
      have HE19 := hide (eqHub_walk _ _ h' _ _ w18 G18.oh W18.oh)
      obtain ⟨cg0, cg1, cg2, cg3, cg4⟩ := G18.cells
      obtain ⟨cw0, cw1, cw2, cw3, cw4⟩ := W18.cells
      have AG18 := hide G18
      have AW18 := hide W18
      have BB18 := hide ba18
      clear HM17 fr18 G18 W18 ba18 nx ng nj nw nv AG16 AW16 BB16 cx0n cx1n
      go_wp2_with fail
      refine (unhide HE19).mono ?_
      rintro e w19 ⟨rfl, b19⟩
      have hz19 := b19.size
      have G19 := (unhide AG18).below b19
      have W19 := (unhide AW18).below b19
      clear cg0 cg1 cg2 cg3 cg4 cw0 cw1 cw2 cw3 cw4
      obtain ⟨cg0, cg1, cg2, cg3, cg4⟩ := G19.cells
      obtain ⟨cw0, cw1, cw2, cw3, cw4⟩ := W19.cells
      have HF19 := hide (eqMsg_walk _ _ _ _ _ _ m' _ _ w19 G19.msg W19.msg)
      have AG19 := hide G19
      have AW19 := hide W19
      have BB19 := hide (below_next (unhide BB18) b19)
      clear HE19 b19 AG18 AW18 BB18 G19 W19
      go_wp2_with fail
      refine (unhide HF19).mono ?_
      rintro e w20 ⟨rfl, b20⟩
      have hz20 := b20.size
      have G20 := (unhide AG19).below b20
      clear cg0 cg1 cg2 cg3 cg4 cw0 cw1 cw2 cw3 cw4
      obtain ⟨cg0, cg1, cg2, cg3, cg4⟩ := G20.cells
      have hcb' : 1 + cntR cntWat h'.watches + cntR cntNws h'.waiting ≤ 100000000 := by omega
      have HM20 := hide (markHub_walk _ h' _ w20 G20.oh (unhide HAPT).1 (by omega) 1 (by omega))
      have AG20 := hide G20
      have AW20 := hide ((unhide AW19).below b20)
      have BB20 := hide (below_next (unhide BB19) b20)
      clear HF19 b20 AG19 AW19 BB19 G20
      go_wp2_with fail
      refine (unhide HM20).mono ?_
      rintro e w21 ⟨rfl, oh21, fr21⟩
      have hz21 := fr21.size
      obtain ⟨nx, ng, nj, nw, nv⟩ := unhide HNUM
      obtain ⟨nd1, nd2, nd3⟩ := unhide HAPT
      have W21 := (unhide AW20).fr fr21 fun b hm => ⟨by have := ng b hm; omega, by have := ng b hm; omega, fun h1 => by have := ng b hm; have := nw b h1; omega, fun h1 => by have := ng b hm; have := nv b h1; omega⟩
      have kh21 := (fr21.block G0 (by omega) fun hm => by have := ng _ hm; omega).trans (unhide AG20).kh
      have km21 := (fr21.block (G0 + 1) (by omega) fun hm => by have := ng _ hm; omega).trans (unhide AG20).km
      have om21 := (unhide AG20).om.keep (fr21.kp (unhide AG20).om.lt fun b hb hm => nd3 b hm b hb rfl)
      have ba21 := (unhide BB20).trans (fr21.below (fun b hb => by have := ng b hb; omega) (by omega))
      have HHELD : Hid (∀ wi bl, OHub wi (.agg #[.slice a6 h'.watches.length d6, .slice a7 h'.waiting.length d7]) ⟨mkRow mkWat cntWat 1 h'.watches, mkRow mkNws cntNws (1 + cntR cntWat h'.watches) h'.waiting⟩ bl → Calls Try.prog 16 #[.agg #[.slice a6 h'.watches.length d6, .slice a7 h'.waiting.length d7], .int .i64 (1 : Nat)] wi fun e w' => e = .returned (.int .i64 (1 + cntR cntWat h'.watches + cntR cntNws h'.waiting : Nat)) ∧ Below wi.heap.size wi w') := fun wi bl ho => heldHub_walk _ h' bl wi 1 ho (by omega) (by omega)
      obtain ⟨hM, hhM⟩ : ∃ hM, hM = (⟨mkRow mkWat cntWat 1 h'.watches, mkRow mkNws cntNws (1 + cntR cntWat h'.watches) h'.waiting⟩ : Hb) := ⟨_, rfl⟩
      rw [← hhM] at oh21 HHELD
      have hK2 : 1 ≤ 1 + cntR cntWat h'.watches + cntR cntNws h'.waiting := by omega
      generalize 1 + cntR cntWat h'.watches + cntR cntNws h'.waiting = K2 at *
      have cm0 : w21.cell? ⟨G0 + 1, 0, none⟩ = some (.int .i64 m'.ver) := Lib.cell_of_heap km21 0
      have cm1 : w21.cell? ⟨G0 + 1, 1, none⟩ = some (.slice a8 m'.ptrs.length d8) := Lib.cell_of_heap km21 1
      have cm2 : w21.cell? ⟨G0 + 1, 2, none⟩ = some (.bool m'.over) := Lib.cell_of_heap km21 2
      have HM21 := hide (markMsg_walk _ _ _ m' jg K2 w21 ⟨_, rfl, om21⟩ nd2 hsm (by omega) (by omega))
      have HELDM : Hid (∀ wi jb, msgE.E wi [.int .i64 m'.ver, .slice a8 m'.ptrs.length d8, .bool m'.over] ⟨m'.ver, mkS K2 m'.ptrs.length, m'.over⟩ jb → Calls Try.prog 23 #[.agg #[.int .i64 m'.ver, .slice a8 m'.ptrs.length d8, .bool m'.over], .int .i64 K2] wi fun e w' => e = .returned (.int .i64 (K2 + m'.ptrs.length : Nat)) ∧ Below wi.heap.size wi w') := fun wi jb hE => heldMsg_walk _ _ _ m' jb K2 wi hE hsm (by omega) (by omega)
      have KH21 := hide kh21
      have KM21 := hide km21
      have OH21 := hide oh21
      have AW21 := hide W21
      have BB21 := hide ba21
      clear HM20 fr21 oh21 nx ng nj nw nv nd1 nd2 nd3 W21 kh21 km21 om21 ba21 AG20 AW20 BB20 cg0 cg1 cg2 cg3 cg4 hhM
      go_wp2_with fail
      refine (unhide HM21).mono ?_
      rintro e w22 ⟨rfl, E22, fr22⟩
      have hML : K2 + m'.ptrs.length ≤ 200000000 := by omega
      generalize K2 + m'.ptrs.length = KM at *
      have hz22 := fr22.size
      obtain ⟨nx, ng, nj, nw, nv⟩ := unhide HNUM
      obtain ⟨nd1, nd2, nd3⟩ := unhide HAPT
      have W22 := (unhide AW21).fr fr22 fun b hm => ⟨by have := nj b hm; omega, by have := nj b hm; omega, fun h1 => by have := nj b hm; have := nw b h1; omega, fun h1 => by have := nj b hm; have := nv b h1; omega⟩
      have A22 : Ans w22 G0 (.slice a6 h'.watches.length d6) (.slice a7 h'.waiting.length d7) (.slice a8 m'.ptrs.length d8) hM ⟨m'.ver, mkS K2 m'.ptrs.length, m'.over⟩ (g1 ++ g2) jg := by
        obtain ⟨q9, hv9, o9⟩ := E22
        injection hv9 with _ hv9; injection hv9 with e9 _
        exact ⟨(fr22.block G0 (by omega) fun hm => by have := nj _ hm; omega).trans (unhide KH21), (fr22.block (G0 + 1) (by omega) fun hm => by have := nj _ hm; omega).trans (unhide KM21), (unhide OH21).fr fr22 fun b hb hm => nd3 b hb b hm rfl, e9 ▸ o9⟩
      have ba22 := (unhide BB21).trans (fr22.below (fun b hb => by have := nj b hb; omega) (by omega))
      obtain ⟨cg0, cg1, cg2, cg3, cg4⟩ := A22.cells
      have HH23 := hide (unhide HHELD w22 _ A22.oh)
      have AG22 := hide A22
      have AW22 := hide W22
      have BB22 := hide ba22
      clear HM21 fr22 E22 nx ng nj nw nv nd1 nd2 nd3 W22 A22 ba22 KH21 KM21 OH21 AW21 BB21 cm0 cm1 cm2
      go_wp2_with fail
      refine (unhide HH23).mono ?_
      rintro e w23 ⟨rfl, b23⟩
      have hz23 := b23.size
      have A23 := (unhide AG22).below b23
      clear cg0 cg1 cg2 cg3 cg4
      obtain ⟨cg0, cg1, cg2, cg3, cg4⟩ := A23.cells
      have HF23 := hide (unhide HELDM w23 _ A23.msg)
      have AG23 := hide A23
      have AW23 := hide ((unhide AW22).below b23)
      have BB23 := hide (below_next (unhide BB22) b23)
      clear HH23 b23 A23 AG22 AW22 BB22
      go_wp2_with fail
      refine (unhide HF23).mono ?_
      rintro e w24 ⟨rfl, b24⟩
      have hz24 := b24.size
      have BA24 := below_next (unhide BB23) b24
      obtain ⟨c0, c1⟩ := unhide HCELL w24 BA24
      have HT25 := hide (toHub_walk _ h w24 ((unhide HRA).below BA24) hsz)
      have AG24 := hide ((unhide AG23).below b24)
      have AW24 := hide ((unhide AW23).below b24)
      have BB24 := hide BA24
      clear HF23 b24 BA24 AG23 AW23 BB23 cg0 cg1 cg2 cg3 cg4
      go_wp2_with fail
      refine (unhide HT25).mono ?_
      rintro e w25 ⟨p22, q22, t1', t2', rfl, ot1', ot2', f22, b25⟩
      have HI26 := hide (unhide HI _ _ w25 ⟨p22, q22, t1', t2', rfl, ot1', ot2', rfl⟩ f22.1)
      have B25 := hide b25
      clear HT25 ot1' ot2' f22 b25 c0 c1
      go_wp2_with fail
      refine (unhide HI26).mono ?_
      rintro e w26 ⟨vh, bh, u0, u1, u2, jh, rfl, oh, omh, fh, b26⟩
      obtain ⟨ph, qh, h1', h2', rfl, oh1, oh2, rfl⟩ := oh
      obtain ⟨a10, d10, rfl, s1, s2⟩ := oh1.form
      obtain ⟨a11, d11, rfl, s3, s4⟩ := oh2.form
      obtain ⟨qm, hqm, oq⟩ := omh
      injection hqm with i0 hqm; injection hqm with i1 hqm; injection hqm with i2 hqm
      subst i0; subst i1; subst i2
      obtain ⟨a12, d12, rfl, s5, s6⟩ := oq.form
      have A27 : Ans ((w26.alloc (.cells #[.slice a10 h'.watches.length d10, .slice a11 h'.waiting.length d11] 32)).alloc (.cells #[.int .i64 m'.ver, .slice a12 m'.ptrs.length d12, .bool m'.over] 44)) w26.heap.size _ _ _ h' m' (h1' ++ h2') jh := Ans.mk2 ⟨_, _, h1', h2', rfl, oh1, oh2, rfl⟩ oq
      have N27 := new2 w26 (.cells #[.slice a10 h'.watches.length d10, .slice a11 h'.waiting.length d11] 32) (.cells #[.int .i64 m'.ver, .slice a12 m'.ptrs.length d12, .bool m'.over] 44)
      have b2427 := below_next (below_next (unhide B25) b26) N27.bel
      have hz27 := b2427.size
      have W27 := (unhide AW24).below b2427
      obtain ⟨cw0, cw1, cw2, cw3, cw4⟩ := W27.cells
      have HE28 := hide (eqHub_walk _ _ h' _ _ _ A27.oh W27.oh)
      have AH27 := hide A27
      have AW27 := hide W27
      have AG27 := hide ((unhide AG24).below b2427)
      have BB27 := hide (below_next (unhide BB24) b2427)
      clear HI26 oh1 oh2 fh b26 N27 b2427 s1 s2 s3 s4 s5 s6 oq hqm A27 W27 AW24 AG24 BB24 B25
      go_wp2_with fail
      generalize ((w26.alloc (.cells #[.slice a10 h'.watches.length d10, .slice a11 h'.waiting.length d11] 32)).alloc (.cells #[.int .i64 m'.ver, .slice a12 m'.ptrs.length d12, .bool m'.over] 44)) = w27 at *
      generalize w26.heap.size = H0 at *
      refine (unhide HE28).mono ?_
      rintro e w28 ⟨rfl, b28⟩
      have H28 := (unhide AH27).below b28
      have W28 := (unhide AW27).below b28
      clear cw0 cw1 cw2 cw3 cw4
      obtain ⟨ch0, ch1, ch2, ch3, ch4⟩ := H28.cells
      obtain ⟨cw0, cw1, cw2, cw3, cw4⟩ := W28.cells
      have HF28 := hide (eqMsg_walk _ _ _ _ _ _ m' _ _ w28 H28.msg W28.msg)
      have AG28 := hide ((unhide AG27).below b28)
      have BB28 := hide (below_next (unhide BB27) b28)
      clear HE28 b28 AH27 AW27 AG27 BB27 H28 W28
      go_wp2_with fail
      refine (unhide HF28).mono ?_
      rintro e w29 ⟨rfl, b29⟩
      have A29 := (unhide AG28).below b29
      obtain ⟨cg0, cg1, cg2, cg3, cg4⟩ := A29.cells
      have HH30 := hide (unhide HHELD w29 _ A29.oh)
      have AG29 := hide A29
      have BB29 := hide (below_next (unhide BB28) b29)
      clear HF28 b29 AG28 BB28 A29 ch0 ch1 ch2 ch3 ch4 cw0 cw1 cw2 cw3 cw4
      go_wp2_with fail
      refine (unhide HH30).mono ?_
      rintro e w30 ⟨rfl, b30⟩
      have A30 := (unhide AG29).below b30
      clear cg0 cg1 cg2 cg3 cg4
      obtain ⟨cg0, cg1, cg2, cg3, cg4⟩ := A30.cells
      have HF30 := hide (unhide HELDM w30 _ A30.msg)
      have BB30 := hide (below_next (unhide BB29) b30)
      clear HH30 b30 AG29 BB29 A30
      go_wp2_with fail
      refine (unhide HF30).mono ?_
      rintro e w31 ⟨rfl, b31⟩
      have HFIN := hide (below_next (unhide HA) (below_next (unhide BB30) b31))
      clear HF30 b31 BB30 cg0 cg1 cg2 cg3 cg4
      go_wp2
      go_ret
      exact ⟨rfl, unhide HFIN⟩)
  · go_enter Try.func5, Try.ntmps5
    go_wp2_with fail
    have hA := alloc_b w (Obj.cells #[v1, v2] 25)
    generalize (w.alloc (Obj.cells #[v1, v2] 25)) = wA at *
    have HSZ := hide (szHub_walk _ h wA ((unhide HR).below hA))
    rw [szI_no hsz] at HSZ
    have HA := hide hA
    clear hA HR hsz
    refine (unhide HSZ).mono ?_
    rintro e w1 ⟨rfl, b1⟩
    have HB1 := hide (below_next (unhide HA) b1)
    clear HSZ b1
    go_wp2
    go_ret
    exact ⟨rfl, unhide HB1⟩
end Go.Proofs.Ytbcfkkicmmhhcaa
