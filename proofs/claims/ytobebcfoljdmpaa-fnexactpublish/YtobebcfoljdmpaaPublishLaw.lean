import Derived.Test.YtobebcfoljdmpaaPublish
namespace Go.Proofs.Ytobebcfoljdmpaa
open Go.RowKit

theorem sum_le_sum {α : Type} (f g : α → Nat) (l : List α) (h : ∀ x ∈ l, f x ≤ g x) : (l.map f).sum ≤ (l.map g).sum := by
  induction l with
  | nil => simp
  | cons a r ih =>
    have h1 := h a List.mem_cons_self
    have h2 := ih fun x hx => h x (List.mem_cons_of_mem _ hx)
    simp only [List.map_cons, List.sum_cons]; omega
theorem cntMsgs_le (ms : List Msg) : cntR cntMsg ms ≤ 2 * szMsgs ms := by
  unfold cntR szMsgs
  induction ms with
  | nil => simp
  | cons a r ih =>
    have : cntMsg a ≤ 2 + szMsg a := by unfold cntMsg szMsg szStr; omega
    simp only [List.map_cons, List.sum_cons, List.length_cons]; omega
theorem cntWats_le (ms : List Wat) : cntR cntWat ms ≤ 5 * szWats ms := by
  unfold cntR szWats
  induction ms with
  | nil => simp
  | cons a r ih =>
    have h1 := cntMsgs_le a.queue
    have : cntWat a ≤ 5 + 2 * szWat a := by unfold cntWat szWat; omega
    simp only [List.map_cons, List.sum_cons, List.length_cons]; omega
theorem cntNwss_le (ms : List Nws) : cntR cntNws ms ≤ szNwss ms := by
  unfold cntR szNwss
  induction ms with
  | nil => simp
  | cons a r ih =>
    have : cntNws a ≤ 1 + szNws a := by unfold cntNws szNws szStr; omega
    simp only [List.map_cons, List.sum_cons, List.length_cons]; omega
theorem cntHb_le (h : Hb) : cntR cntWat h.watches + cntR cntNws h.waiting ≤ 6 * szHb h := by
  have h1 := cntWats_le h.watches
  have h2 := cntNwss_le h.waiting
  unfold szHb; omega
theorem OHub.fr {w w' : World} {v : Value} {h : Hb} {bl bx : List Nat} (ho : OHub w v h bl) (hf : Fr bx w w') (hd : ∀ b ∈ bl, b ∉ bx) : OHub w' v h bl := ho.keep (hf.kp ho.lt hd)

set_option maxHeartbeats 2000000 in
set_option maxRecDepth 100000 in
theorem publishLaw_walk (v pv : Value) (h : Hb) (ver : Int) (ps : List ByteArray) (w : World) (hr : RHub w v h) (hp : RRow strR w pv ps) :
    Calls Try.prog 3 #[v, .int .i64 ver, pv] w fun e w' => e = .returned (.bool true) ∧ Below w.heap.size w w' := by
  obtain ⟨v1, v2, rfl, hr1, hr2⟩ := hr
  have HR : Hid (RHub w (.agg #[v1, v2]) h) := ⟨v1, v2, rfl, hr1, hr2⟩
  have HP := hide hp
  clear hr1 hr2 hp
  by_cases hsz : szHb h ≤ 1048576
  · by_cases hsy : szStr ps ≤ 1048576 - szHb h
    · go_enter Try.func3, Try.ntmps3
      go_wp2_with fail
      have hA := alloc_b w (Obj.cells #[v1, v2] 25)
      have kA := heap_alloc_new w (Obj.cells #[v1, v2] 25)
      have hAs : (w.alloc (Obj.cells #[v1, v2] 25)).heap.size = w.heap.size + 1 := by simp
      generalize (w.alloc (Obj.cells #[v1, v2] 25)) = wA at *
      have HRA := hide ((unhide HR).below hA)
      have HPA := hide ((unhide HP).below hA)
      have HA := hide hA
      have q0 : wA.cell? ⟨w.heap.size, 0, none⟩ = some v1 := Lib.cell_of_heap kA 0
      have q1 : wA.cell? ⟨w.heap.size, 1, none⟩ = some v2 := Lib.cell_of_heap kA 1
      have hN : w.heap.size < wA.heap.size := by omega
      clear hA kA HR HP hAs
      have HCELL : Hid (∀ wi, Below wA.heap.size wA wi → wi.cell? ⟨w.heap.size, 0, none⟩ = some v1 ∧ wi.cell? ⟨w.heap.size, 1, none⟩ = some v2) := fun wi hb => ⟨(hb.cell (p := ⟨w.heap.size, 0, none⟩) hN).trans q0, (hb.cell (p := ⟨w.heap.size, 1, none⟩) hN).trans q1⟩
      have HSZ := hide (szHub_walk _ h wA (unhide HRA))
      rw [szI_ok hsz] at HSZ
      refine (unhide HSZ).mono ?_
      rintro e w1 ⟨rfl, b1⟩
      have HY := hide (szStr_walk pv ps (1048576 - szHb h) w1 ((unhide HPA).below b1) (by omega))
      rw [szI_ok hsy] at HY
      have hL : 1048576 - szHb h ≤ 1048576 := by omega
      have hL2 : 1048576 - szHb h - szStr ps ≤ 1048576 := by omega
      have hsum : szHb h + szStr ps ≤ 1048576 := by omega
      generalize 1048576 - szHb h - szStr ps = L2 at *
      generalize 1048576 - szHb h = L1 at *
      have BA1 := b1
      clear b1 HSZ hsy
      go_wp2_with fail
      refine (unhide HY).mono ?_
      rintro e w2 ⟨rfl, b2⟩
      have BA2 := below_next BA1 b2
      obtain ⟨c20, c21⟩ := unhide HCELL w2 BA2
      have HT := hide (toHub_walk _ h w2 ((unhide HRA).below BA2) hsz)
      clear HY b2 BA1 q0 q1
      go_wp2_with fail
      refine (unhide HT).mono ?_
      rintro e w3 ⟨p3, q3, b31, b32, rfl, o31, o32, f3, b3⟩
      have BA3 := below_next BA2 b3
      have hpl : ps.length ≤ 1048576 := by unfold szStr at hsum; omega
      have HT4 := hide (toStr_walk pv ps w3 ((unhide HPA).below BA3) hpl)
      have O3 : Hid (OHub w3 (.agg #[p3, q3]) h (b31 ++ b32)) := ⟨p3, q3, b31, b32, rfl, o31, o32, rfl⟩
      clear HT BA2 o31 o32 f3 b3 c20 c21
      go_wp2_with fail
      refine (unhide HT4).mono ?_
      rintro e w4 ⟨pv4, b4l, rfl, o4, f4, b4⟩
      have BA4 := below_next BA3 b4
      obtain ⟨h', hh'⟩ : ∃ h', h' = (⟨h.watches, h.waiting ++ [⟨ver, ps⟩]⟩ : Hb) := ⟨_, rfl⟩
      have hs' : szHb h' ≤ 1048577 := by
        rw [hh']
        unfold szHb szNwss at *
        rw [List.length_append, List.map_append, List.sum_append]
        simp [szNws]
        omega
      have hct := cntHb_le h
      have hct' := cntHb_le h'
      have hsb : szHb h ≤ 1048577 := by omega
      have HI : Hid (∀ (v pv : Value) (bl bp : List Nat) (w : World), OHub w v h bl → OStr w pv ps bp → Calls Try.prog 11 #[v, .int .i64 ver, pv] w fun e w' => ∃ v' bl', e = .returned v' ∧ OHub w' v' h' bl' ∧ Fsh w.heap.size bl' ∧ Below w.heap.size w w') := fun v pv bl bp w ho hp => by
        rw [hh']; exact implPublish_walk v pv h ver ps bl bp w ho hp hsum
      have HS5 := hide (specPublish_walk _ pv4 h ver ps _ b4l w4 ((unhide O3).below b4) o4 (by omega) (by omega))
      rw [← hh'] at HS5
      clear HT4 BA3 o4 f4 b4 O3 hh'
      go_wp2_with fail
      refine (unhide HS5).mono ?_
      rintro e w5 ⟨v5, b0, rfl, o5, f5, b5⟩
      have BA5 := below_next BA4 b5
      obtain ⟨pw, qw, c51, c52, rfl, ow1, ow2, rfl⟩ := o5
      obtain ⟨a1, d1, rfl, _, _⟩ := ow1.form
      obtain ⟨a2, d2, rfl, _, _⟩ := ow2.form
      have L5 := heap_alloc_new w5 (.cells #[.slice a1 h'.watches.length d1, .slice a2 h'.waiting.length d2] 32)
      have hab5 := alloc_b w5 (.cells #[.slice a1 h'.watches.length d1, .slice a2 h'.waiting.length d2] 32)
      have O6 : Hid (OHub (w5.alloc (.cells #[.slice a1 h'.watches.length d1, .slice a2 h'.waiting.length d2] 32)) (.agg #[.slice a1 h'.watches.length d1, .slice a2 h'.waiting.length d2]) h' (c51 ++ c52)) := OHub.below ⟨_, _, c51, c52, rfl, ow1, ow2, rfl⟩ hab5
      have z6 : (w5.alloc (.cells #[.slice a1 h'.watches.length d1, .slice a2 h'.waiting.length d2] 32)).heap.size = w5.heap.size + 1 := by simp
      have BA6 := below_next BA5 hab5
      obtain ⟨c60, c61⟩ := unhide HCELL _ BA6
      have HT7 := hide (toHub_walk _ h _ ((unhide HRA).below BA6) hsz)
      have LL6 := hide L5
      have BB6 := hide BA6
      have HLW : Hid (∀ b ∈ c51 ++ c52, b < w5.heap.size) := fun b hb => by
        rcases List.mem_append.1 hb with hb | hb
        · exact ow1.lt b hb
        · exact ow2.lt b hb
      have hnA : wA.heap.size ≤ w5.heap.size := BA5.size
      clear HS5 BA4 ow1 ow2 f5 b5 L5 hab5 BA5 BA6
      go_wp2_with fail
      generalize (w5.alloc (.cells #[.slice a1 h'.watches.length d1, .slice a2 h'.waiting.length d2] 32)) = w6 at *
      generalize w5.heap.size = W0 at *
      refine (unhide HT7).mono ?_
      rintro e w7 ⟨px, qx, x1, x2, rfl, ox1, ox2, fx, b7⟩
      obtain ⟨a3, d3, rfl, _, _⟩ := ox1.form
      obtain ⟨a4, d4, rfl, _, _⟩ := ox2.form
      have hz7 := b7.size
      have BA7 := below_next (unhide BB6) b7
      have hab7 := alloc_b w7 (.cells #[.slice a3 h.watches.length d3, .slice a4 h.waiting.length d4] 32)
      have L7 := heap_alloc_new w7 (.cells #[.slice a3 h.watches.length d3, .slice a4 h.waiting.length d4] 32)
      have z8 : (w7.alloc (.cells #[.slice a3 h.watches.length d3, .slice a4 h.waiting.length d4] 32)).heap.size = w7.heap.size + 1 := by simp
      have hb68 := below_next b7 hab7
      have O8 := hide ((unhide O6).below hb68)
      have LW8 := hide ((hb68.block W0 (by omega)).trans (unhide LL6))
      have X8 : Hid (OHub (w7.alloc (.cells #[.slice a3 h.watches.length d3, .slice a4 h.waiting.length d4] 32)) (.agg #[.slice a3 h.watches.length d3, .slice a4 h.waiting.length d4]) h (x1 ++ x2)) := OHub.below ⟨_, _, x1, x2, rfl, ox1, ox2, rfl⟩ hab7
      have LX8 := hide L7
      have BB8 := hide (below_next BA7 hab7)
      have FX := hide fx
      have hlx : ∀ b ∈ x1 ++ x2, b < w7.heap.size := fun b hb => by
        rcases List.mem_append.1 hb with hb | hb
        · exact ox1.lt b hb
        · exact ox2.lt b hb
      have HLX := hide hlx
      have HT9 := hide (toStr_walk pv ps _ ((unhide HPA).below (unhide BB8)) hpl)
      clear HT7 O6 LL6 BB6 ox1 ox2 fx b7 BA7 hab7 L7 hb68 hlx c60 c61
      go_wp2_with fail
      generalize (w7.alloc (.cells #[.slice a3 h.watches.length d3, .slice a4 h.waiting.length d4] 32)) = w8 at *
      generalize w7.heap.size = X0 at *
      refine (unhide HT9).mono ?_
      rintro e w9 ⟨pv9, y9, rfl, o9, fy, b9⟩
      obtain ⟨a5, d5, rfl, _, _⟩ := o9.form
      have hz9 := b9.size
      have kx9 := (b9.block X0 (by omega)).trans (unhide LX8)
      have cx0 : w9.cell? ⟨X0, 0, none⟩ = some (.slice a3 h.watches.length d3) := Lib.cell_of_heap kx9 0
      have cx1 : w9.cell? ⟨X0, 1, none⟩ = some (.slice a4 h.waiting.length d4) := Lib.cell_of_heap kx9 1
      have X9 := (unhide X8).below b9
      have HI10 := hide (unhide HI _ _ _ _ w9 X9 o9)
      have O9 := hide ((unhide O8).below b9)
      have LW9 := hide ((b9.block W0 (by omega)).trans (unhide LW8))
      have XX9 := hide X9
      have LX9 := hide kx9
      have Y9 := hide o9
      have BB9 := hide (below_next (unhide BB8) b9)
      have FY := hide fy
      have HLY := hide o9.lt
      clear HT9 O8 LW8 X8 LX8 BB8 o9 fy b9 X9 kx9
      go_wp2_with fail
      refine (unhide HI10).mono ?_
      rintro e w10 ⟨vg, bg, rfl, og, fg, b10⟩
      obtain ⟨pg, qg, g1, g2, rfl, og1, og2, rfl⟩ := og
      obtain ⟨a6, d6, rfl, _, _⟩ := og1.form
      obtain ⟨a7, d7, rfl, _, _⟩ := og2.form
      have hz10 := b10.size
      have hab10 := alloc_b w10 (.cells #[.slice a6 h'.watches.length d6, .slice a7 h'.waiting.length d7] 32)
      have z11 : (w10.alloc (.cells #[.slice a6 h'.watches.length d6, .slice a7 h'.waiting.length d7] 32)).heap.size = w10.heap.size + 1 := by simp
      have hb911 := below_next b10 hab10
      have G11 : Hid (OHub (w10.alloc (.cells #[.slice a6 h'.watches.length d6, .slice a7 h'.waiting.length d7] 32)) (.agg #[.slice a6 h'.watches.length d6, .slice a7 h'.waiting.length d7]) h' (g1 ++ g2)) := OHub.below ⟨_, _, g1, g2, rfl, og1, og2, rfl⟩ hab10
      have LG11 := hide (heap_alloc_new w10 (.cells #[.slice a6 h'.watches.length d6, .slice a7 h'.waiting.length d7] 32))
      have O11 := hide ((unhide O9).below hb911)
      have lw11 := (hb911.block W0 (by omega)).trans (unhide LW9)
      have X11 := hide ((unhide XX9).below hb911)
      have LX11 := hide ((hb911.block X0 (by omega)).trans (unhide LX9))
      have Y11 := hide ((unhide Y9).below hb911)
      have BB11 := hide (below_next (unhide BB9) hb911)
      have FG := hide fg
      have HLG : Hid (∀ b ∈ g1 ++ g2, b < w10.heap.size) := fun b hb => by
        rcases List.mem_append.1 hb with hb | hb
        · exact og1.lt b hb
        · exact og2.lt b hb
      have cw0 : (w10.alloc (.cells #[.slice a6 h'.watches.length d6, .slice a7 h'.waiting.length d7] 32)).cell? ⟨W0, 0, none⟩ = some (.slice a1 h'.watches.length d1) := Lib.cell_of_heap lw11 0
      have cw1 : (w10.alloc (.cells #[.slice a6 h'.watches.length d6, .slice a7 h'.waiting.length d7] 32)).cell? ⟨W0, 1, none⟩ = some (.slice a2 h'.waiting.length d2) := Lib.cell_of_heap lw11 1
      have HE12 := hide (eqHub_walk _ _ h' _ _ _ (unhide G11) (unhide O11))
      have LW11 := hide lw11
      clear HI10 og1 og2 fg b10 hab10 hb911 O9 LW9 XX9 LX9 Y9 BB9 cx0 cx1 lw11
      go_wp2_with fail
      generalize (w10.alloc (.cells #[.slice a6 h'.watches.length d6, .slice a7 h'.waiting.length d7] 32)) = w11 at *
      generalize w10.heap.size = G0 at *
      refine (unhide HE12).mono ?_
      rintro e w12 ⟨rfl, b12⟩
      have hz12 := b12.size
      have BA12 := below_next (unhide BB11) b12
      obtain ⟨c120, c121⟩ := unhide HCELL w12 BA12
      have kx12 := (b12.block X0 (by omega)).trans (unhide LX11)
      have cx0 : w12.cell? ⟨X0, 0, none⟩ = some (.slice a3 h.watches.length d3) := Lib.cell_of_heap kx12 0
      have cx1 : w12.cell? ⟨X0, 1, none⟩ = some (.slice a4 h.waiting.length d4) := Lib.cell_of_heap kx12 1
      have hdr12 : Below w12.heap.size w12 w12.drew := (Below.refl _ _).drew
      have HT13 := hide (toHub_walk _ h w12.drew ((unhide HRA).below (below_next BA12 hdr12)) hsz)
      clear hdr12
      have G12 := hide ((unhide G11).below b12)
      have LG12 := hide ((b12.block G0 (by omega)).trans (unhide LG11))
      have O12 := hide ((unhide O11).below b12)
      have LW12 := hide ((b12.block W0 (by omega)).trans (unhide LW11))
      have X12 := hide ((unhide X11).below b12)
      have LX12 := hide kx12
      have Y12 := hide ((unhide Y11).below b12)
      have BB12 := hide BA12
      clear HE12 b12 G11 LG11 O11 LW11 X11 LX11 Y11 BB11 BA12 kx12 cw0 cw1
      go_wp2_with fail
      go_region_law (first
        | (go_simp; refine (unhide HE14).mono ?_; rintro e w14 ⟨rfl, b14⟩)
        | (go_simp; refine (unhide HT13).mono ?_; rintro e w13 ⟨p13, q13, t1, t2, rfl, ot1, ot2, f13, b13⟩
           have b13' : Below w12.heap.size w12 w13 := ⟨b13.os, b13.tape, b13.output, b13.size, b13.block⟩
           have kx13 := (b13'.block X0 (by omega)).trans (unhide LX12)
           have cx0' : w13.cell? ⟨X0, 0, none⟩ = some (.slice a3 h.watches.length d3) := Lib.cell_of_heap kx13 0
           have cx1' : w13.cell? ⟨X0, 1, none⟩ = some (.slice a4 h.waiting.length d4) := Lib.cell_of_heap kx13 1
           have HE14 := hide (eqHub_walk _ _ h _ _ w13 ((unhide X12).below b13') ⟨p13, q13, t1, t2, rfl, ot1, ot2, rfl⟩)))
      all_goals (
        have b1214 := below_next b13' b14
        have hz14 := b1214.size
        have BA14 := below_next (unhide BB12) b1214
        have HT15 := hide (toStr_walk pv ps w14 ((unhide HPA).below BA14) hpl)
        have G14 := hide ((unhide G12).below b1214)
        have LG14 := hide ((b1214.block G0 (by omega)).trans (unhide LG12))
        have O14 := hide ((unhide O12).below b1214)
        have LW14 := hide ((b1214.block W0 (by omega)).trans (unhide LW12))
        have X14 := hide ((unhide X12).below b1214)
        have LX14 := hide ((b1214.block X0 (by omega)).trans (unhide LX12))
        have Y14 := hide ((unhide Y12).below b1214)
        have BB14 := hide BA14
        clear b1214 BA14 b13 b13' b14 kx13 cx0' cx1' HE14 HT13 ot1 ot2 f13 G12 LG12 O12 LW12 X12 LX12 Y12 BB12 cx0 cx1 c120 c121
        go_wp2_with fail
        refine (unhide HT15).mono ?_
        rintro e w15 ⟨pv15, y15, rfl, o15, f15, b15⟩
        have HE16 := hide (eqStr_walk _ _ ps _ _ w15 ((unhide Y14).below b15) o15)
        have HB15 := hide b15
        clear HT15 o15 f15 b15
        go_wp2_with fail
        refine (unhide HE16).mono ?_
        rintro e w16 ⟨rfl, b16⟩
        have b1416 := below_next (unhide HB15) b16
        have hz16 := b1416.size
        have X16 := (unhide X14).below b1416
        have kx16 := (b1416.block X0 (by omega)).trans (unhide LX14)
        have cx0 : w16.cell? ⟨X0, 0, none⟩ = some (.slice a3 h.watches.length d3) := Lib.cell_of_heap kx16 0
        have cx1 : w16.cell? ⟨X0, 1, none⟩ = some (.slice a4 h.waiting.length d4) := Lib.cell_of_heap kx16 1
        have HM17 := hide (markHub_walk _ h _ w16 X16 (unhide FX).1 (by omega) 1 (by omega))
        have G16 := hide ((unhide G14).below b1416)
        have LG16 := hide ((b1416.block G0 (by omega)).trans (unhide LG14))
        have O16 := hide ((unhide O14).below b1416)
        have LW16 := hide ((b1416.block W0 (by omega)).trans (unhide LW14))
        have Y16 := hide ((unhide Y14).below b1416)
        have BB16 := hide (below_next (unhide BB14) b1416)
        clear HE16 HB15 b16 b1416 X16 kx16 G14 LG14 O14 LW14 X14 LX14 Y14 BB14
        have hx_lo : ∀ b ∈ x1 ++ x2, w6.heap.size ≤ b := (unhide FX).2
        have hx_hi := unhide HLX
        have hy_lo : ∀ b ∈ y9, w8.heap.size ≤ b := (unhide FY).2
        have hy_hi := unhide HLY
        have hg_lo : ∀ b ∈ g1 ++ g2, w9.heap.size ≤ b := (unhide FG).2
        have hg_hi := unhide HLG
        have hw_hi := unhide HLW
        have HNUM : Hid ((∀ b ∈ x1 ++ x2, w6.heap.size ≤ b) ∧ (∀ b ∈ x1 ++ x2, b < X0) ∧ (∀ b ∈ y9, w8.heap.size ≤ b) ∧ (∀ b ∈ y9, b < w9.heap.size) ∧ (∀ b ∈ g1 ++ g2, w9.heap.size ≤ b) ∧ (∀ b ∈ g1 ++ g2, b < G0) ∧ (∀ b ∈ c51 ++ c52, b < W0)) := ⟨hx_lo, hx_hi, hy_lo, hy_hi, hg_lo, hg_hi, hw_hi⟩
        clear hx_lo hx_hi hy_lo hy_hi hg_lo hg_hi hw_hi
        have hcb : 1 + cntR cntWat h.watches + cntR cntNws h.waiting ≤ 100000000 := by omega
        have hcb1 : 1 ≤ 1 + cntR cntWat h.watches + cntR cntNws h.waiting := by omega
        go_wp2_with fail
        refine (unhide HM17).mono ?_
        rintro e w17 ⟨rfl, -, fr17⟩
        generalize 1 + cntR cntWat h.watches + cntR cntNws h.waiting = K1 at *
        have hz17 := fr17.size
        obtain ⟨nx1, nx2, ny1, ny2, ng1, ng2, nw2⟩ := unhide HNUM
        have Y17 := (unhide Y16).keep (fr17.kp (unhide Y16).lt fun b hb hm => by have := ny1 b hb; have := nx2 b hm; omega)
        have G17 := (unhide G16).fr fr17 fun b hb hm => by have := ng1 b hb; have := nx2 b hm; omega
        have O17 := (unhide O16).fr fr17 fun b hb hm => by have := nw2 b hb; have := nx1 b hm; omega
        have lg17 := (fr17.block G0 (by omega) fun hm => by have := nx2 _ hm; omega).trans (unhide LG16)
        have lw17 := (fr17.block W0 (by omega) fun hm => by have := nx1 _ hm; omega).trans (unhide LW16)
        have ba17 := (unhide BB16).trans (fr17.below (fun b hb => by have := nx1 b hb; omega) (by omega))
        have HM18 := hide (markStr_walk _ ps y9 K1 w17 Y17 (unhide FY).1 (by omega) hcb1 (by omega))
        have GG17 := hide G17
        have OO17 := hide O17
        have LG17 := hide lg17
        have LW17 := hide lw17
        have BB17 := hide ba17
        clear HM17 fr17 Y17 G17 O17 lg17 lw17 ba17 nx1 nx2 ny1 ny2 ng1 ng2 nw2 G16 LG16 O16 LW16 Y16 BB16 cx0 cx1
        go_wp2_with fail
        refine (unhide HM18).mono ?_
        rintro e w18 ⟨rfl, -, fr18⟩
        have hz18 := fr18.size
        obtain ⟨nx1, nx2, ny1, ny2, ng1, ng2, nw2⟩ := unhide HNUM
        have G18 := (unhide GG17).fr fr18 fun b hb hm => by have := ng1 b hb; have := ny2 b hm; omega
        have O18 := (unhide OO17).fr fr18 fun b hb hm => by have := nw2 b hb; have := ny1 b hm; omega
        have lg18 := (fr18.block G0 (by omega) fun hm => by have := ny2 _ hm; omega).trans (unhide LG17)
        have lw18 := (fr18.block W0 (by omega) fun hm => by have := ny1 _ hm; omega).trans (unhide LW17)
        have ba18 := (unhide BB17).trans (fr18.below (fun b hb => by have := ny1 b hb; omega) (by omega))
        have HE19 := hide (eqHub_walk _ _ h' _ _ w18 G18 O18)
        have cg0 : w18.cell? ⟨G0, 0, none⟩ = some (.slice a6 h'.watches.length d6) := Lib.cell_of_heap lg18 0
        have cg1 : w18.cell? ⟨G0, 1, none⟩ = some (.slice a7 h'.waiting.length d7) := Lib.cell_of_heap lg18 1
        have cw0 : w18.cell? ⟨W0, 0, none⟩ = some (.slice a1 h'.watches.length d1) := Lib.cell_of_heap lw18 0
        have cw1 : w18.cell? ⟨W0, 1, none⟩ = some (.slice a2 h'.waiting.length d2) := Lib.cell_of_heap lw18 1
        have GG18 := hide G18
        have OO18 := hide O18
        have LG18 := hide lg18
        have LW18 := hide lw18
        have BB18 := hide ba18
        clear HM18 fr18 G18 O18 lg18 lw18 ba18 nx1 nx2 ny1 ny2 ng1 ng2 nw2 GG17 OO17 LG17 LW17 BB17
        go_wp2_with fail
        refine (unhide HE19).mono ?_
        rintro e w19 ⟨rfl, b19⟩
        have hz19 := b19.size
        have G19 := (unhide GG18).below b19
        have lg19 := (b19.block G0 (by omega)).trans (unhide LG18)
        have cg0' : w19.cell? ⟨G0, 0, none⟩ = some (.slice a6 h'.watches.length d6) := Lib.cell_of_heap lg19 0
        have cg1' : w19.cell? ⟨G0, 1, none⟩ = some (.slice a7 h'.waiting.length d7) := Lib.cell_of_heap lg19 1
        have hcb' : 1 + cntR cntWat h'.watches + cntR cntNws h'.waiting ≤ 100000000 := by omega
        have HM20 := hide (markHub_walk _ h' _ w19 G19 (unhide FG).1 hs' 1 (by omega))
        have O19 := hide ((unhide OO18).below b19)
        have LG19 := hide lg19
        have LW19 := hide ((b19.block W0 (by omega)).trans (unhide LW18))
        have BB19 := hide (below_next (unhide BB18) b19)
        clear HE19 b19 G19 lg19 GG18 OO18 LG18 LW18 BB18 cg0 cg1 cw0 cw1
        go_wp2_with fail
        refine (unhide HM20).mono ?_
        rintro e w20 ⟨rfl, G20, fr20⟩
        have hz20 := fr20.size
        obtain ⟨nx1, nx2, ny1, ny2, ng1, ng2, nw2⟩ := unhide HNUM
        have O20 := hide ((unhide O19).fr fr20 fun b hb hm => by have := nw2 b hb; have := ng1 b hm; omega)
        have lg20 := (fr20.block G0 (by omega) fun hm => by have := ng2 _ hm; omega).trans (unhide LG19)
        have LW20 := hide ((fr20.block W0 (by omega) fun hm => by have := ng1 _ hm; omega).trans (unhide LW19))
        have BB20 := hide ((unhide BB19).trans (fr20.below (fun b hb => by have := ng1 b hb; omega) (by omega)))
        have cg0 : w20.cell? ⟨G0, 0, none⟩ = some (.slice a6 h'.watches.length d6) := Lib.cell_of_heap lg20 0
        have cg1 : w20.cell? ⟨G0, 1, none⟩ = some (.slice a7 h'.waiting.length d7) := Lib.cell_of_heap lg20 1
        have HH21 := hide (heldHub_walk _ h' _ w20 1 G20 hs' (by omega))
        have GG20 := hide G20
        have LG20 := hide lg20
        have HHELD : Hid (∀ wi bl, OHub wi (.agg #[.slice a6 h'.watches.length d6, .slice a7 h'.waiting.length d7]) ⟨mkRow mkWat cntWat 1 h'.watches, mkRow mkNws cntNws (1 + cntR cntWat h'.watches) h'.waiting⟩ bl → Calls Try.prog 16 #[.agg #[.slice a6 h'.watches.length d6, .slice a7 h'.waiting.length d7], .int .i64 (1 : Nat)] wi fun e w' => e = .returned (.int .i64 (1 + cntR cntWat h'.watches + cntR cntNws h'.waiting : Nat)) ∧ Below wi.heap.size wi w') := fun wi bl ho => heldHub_walk _ h' bl wi 1 ho hs' (by omega)
        generalize 1 + cntR cntWat h'.watches + cntR cntNws h'.waiting = K2 at *
        clear HM20 fr20 G20 lg20 nx1 nx2 ny1 ny2 ng1 ng2 nw2 O19 LG19 LW19 BB19 cg0' cg1'
        go_wp2_with fail
        refine (unhide HH21).mono ?_
        rintro e w21 ⟨rfl, b21⟩
        have hz21 := b21.size
        have BA21 := below_next (unhide BB20) b21
        obtain ⟨c0, c1⟩ := unhide HCELL w21 BA21
        have HT22 := hide (toHub_walk _ h w21 ((unhide HRA).below BA21) hsz)
        have G21 := hide ((unhide GG20).below b21)
        have LG21 := hide ((b21.block G0 (by omega)).trans (unhide LG20))
        have O21 := hide ((unhide O20).below b21)
        have LW21 := hide ((b21.block W0 (by omega)).trans (unhide LW20))
        have BB21 := hide BA21
        clear HH21 b21 BA21 GG20 LG20 O20 LW20 BB20 cg0 cg1
        go_wp2_with fail
        refine (unhide HT22).mono ?_
        rintro e w22 ⟨p22, q22, t1', t2', rfl, ot1', ot2', f22, b22⟩
        have T22 : Hid (OHub w22 (.agg #[p22, q22]) h (t1' ++ t2')) := ⟨p22, q22, t1', t2', rfl, ot1', ot2', rfl⟩
        have HT23 := hide (toStr_walk pv ps w22 ((unhide HPA).below (below_next (unhide BB21) b22)) hpl)
        have B22 := hide b22
        clear HT22 ot1' ot2' f22 b22 c0 c1
        go_wp2_with fail
        refine (unhide HT23).mono ?_
        rintro e w23 ⟨pv23, y23, rfl, o23, f23, b23⟩
        have HI24 := hide (unhide HI _ _ _ _ w23 ((unhide T22).below b23) o23)
        have B23 := hide (below_next (unhide B22) b23)
        clear HT23 o23 f23 b23 T22 B22
        go_wp2_with fail
        refine (unhide HI24).mono ?_
        rintro e w24 ⟨vh, bh, rfl, oh, f24, b24⟩
        obtain ⟨ph, qh, h1', h2', rfl, oh1, oh2, rfl⟩ := oh
        obtain ⟨a8, d8, rfl, _, _⟩ := oh1.form
        obtain ⟨a9, d9, rfl, _, _⟩ := oh2.form
        have hab24 := alloc_b w24 (.cells #[.slice a8 h'.watches.length d8, .slice a9 h'.waiting.length d9] 32)
        have b2125 := below_next (below_next (unhide B23) b24) hab24
        have hz25 := b2125.size
        have H25 : OHub (w24.alloc (.cells #[.slice a8 h'.watches.length d8, .slice a9 h'.waiting.length d9] 32)) (.agg #[.slice a8 h'.watches.length d8, .slice a9 h'.waiting.length d9]) h' (h1' ++ h2') := OHub.below ⟨_, _, h1', h2', rfl, oh1, oh2, rfl⟩ hab24
        have lw25 := (b2125.block W0 (by omega)).trans (unhide LW21)
        have cw0 : (w24.alloc (.cells #[.slice a8 h'.watches.length d8, .slice a9 h'.waiting.length d9] 32)).cell? ⟨W0, 0, none⟩ = some (.slice a1 h'.watches.length d1) := Lib.cell_of_heap lw25 0
        have cw1 : (w24.alloc (.cells #[.slice a8 h'.watches.length d8, .slice a9 h'.waiting.length d9] 32)).cell? ⟨W0, 1, none⟩ = some (.slice a2 h'.waiting.length d2) := Lib.cell_of_heap lw25 1
        have HE26 := hide (eqHub_walk _ _ h' _ _ _ H25 ((unhide O21).below b2125))
        have G25 := hide ((unhide G21).below b2125)
        have LG25 := hide ((b2125.block G0 (by omega)).trans (unhide LG21))
        have BB25 := hide (below_next (unhide BB21) b2125)
        clear HI24 oh1 oh2 f24 b24 hab24 b2125 H25 lw25 G21 LG21 O21 LW21 BB21 B23
        go_wp2_with fail
        generalize (w24.alloc (.cells #[.slice a8 h'.watches.length d8, .slice a9 h'.waiting.length d9] 32)) = w25 at *
        refine (unhide HE26).mono ?_
        rintro e w26 ⟨rfl, b26⟩
        have hz26 := b26.size
        have lg26 := (b26.block G0 (by omega)).trans (unhide LG25)
        have cg0 : w26.cell? ⟨G0, 0, none⟩ = some (.slice a6 h'.watches.length d6) := Lib.cell_of_heap lg26 0
        have cg1 : w26.cell? ⟨G0, 1, none⟩ = some (.slice a7 h'.waiting.length d7) := Lib.cell_of_heap lg26 1
        have HH27 := hide (unhide HHELD w26 _ ((unhide G25).below b26))
        have BB26 := hide (below_next (unhide BB25) b26)
        clear HE26 b26 lg26 G25 LG25 BB25 cw0 cw1
        go_wp2_with fail
        refine (unhide HH27).mono ?_
        rintro e w27 ⟨rfl, b27⟩
        have HFIN := hide (below_next (unhide HA) (below_next (unhide BB26) b27))
        clear HH27 b27 BB26 cg0 cg1
        go_wp2
        go_ret
        exact ⟨rfl, unhide HFIN⟩)
    · go_enter Try.func3, Try.ntmps3
      go_wp2_with fail
      have hA := alloc_b w (Obj.cells #[v1, v2] 25)
      generalize (w.alloc (Obj.cells #[v1, v2] 25)) = wA at *
      have HSZ := hide (szHub_walk _ h wA ((unhide HR).below hA))
      rw [szI_ok hsz] at HSZ
      have hL : 1048576 - szHb h ≤ 1048576 := by omega
      have HPA := hide ((unhide HP).below hA)
      have HA := hide hA
      have HY : Hid (∀ wi, Below wA.heap.size wA wi → Calls Try.prog 7 #[pv, .int .i64 ((1048576 - szHb h : Nat) : Int)] wi fun e w' => e = .returned (.int .i64 (-1)) ∧ Below wi.heap.size wi w') := fun wi hb => by
        have := szStr_walk pv ps (1048576 - szHb h) wi ((unhide HPA).below hb) (by omega)
        rw [szI_no hsy] at this
        exact this
      generalize 1048576 - szHb h = L1 at *
      clear hA HR HP hsy hsz
      refine (unhide HSZ).mono ?_
      rintro e w1 ⟨rfl, b1⟩
      have HY1 := hide (unhide HY w1 b1)
      have HB1 := hide b1
      clear HSZ b1 HY
      go_wp2_with fail
      refine (unhide HY1).mono ?_
      rintro e w2 ⟨rfl, b2⟩
      have HB2 := hide (below_next (unhide HA) (below_next (unhide HB1) b2))
      clear HY1 b2 HB1
      go_wp2
      go_ret
      exact ⟨rfl, unhide HB2⟩
  · go_enter Try.func3, Try.ntmps3
    go_wp2_with fail
    have hA := alloc_b w (Obj.cells #[v1, v2] 25)
    generalize (w.alloc (Obj.cells #[v1, v2] 25)) = wA at *
    have HSZ := hide (szHub_walk _ h wA ((unhide HR).below hA))
    rw [szI_no hsz] at HSZ
    have HA := hide hA
    clear hA HR HP hsz
    refine (unhide HSZ).mono ?_
    rintro e w1 ⟨rfl, b1⟩
    have HB1 := hide (below_next (unhide HA) b1)
    clear HSZ b1
    go_wp2
    go_ret
    exact ⟨rfl, unhide HB1⟩
end Go.Proofs.Ytobebcfoljdmpaa
