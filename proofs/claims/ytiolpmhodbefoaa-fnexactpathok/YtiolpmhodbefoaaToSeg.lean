import Derived.Test.YtiolpmhodbefoaaSzSeg
import Derived.Test.YtiolpmhodbefoaaToMsg
namespace Go.Proofs.Ytiolpmhodbefoaa
open Go.RowKit

set_option maxRecDepth 100000 in
set_option maxHeartbeats 800000 in
theorem toStep_walk (a0 a1 a2 : Value) (m : PStep) (w : World) (h : stepR.R w [a0, a1, a2] m) (_hs : szStep m ≤ 1048576) :
    Calls Try.prog 104 #[.agg #[a0, a1, a2]] w fun e w' => ∃ b0 b1 b2 ib, e = .returned (.agg #[b0, b1, b2]) ∧ stepE.E w' [b0, b1, b2] m ib ∧ Fsh (w.heap.size + 1) ib ∧ Below w.heap.size w w' := by
  obtain ⟨hq, h1⟩ := h
  injection hq with e0 hq; injection hq with e1 hq; injection hq with e2 hq
  subst e0; subst e1; subst e2
  clear hq h1
  go_enter Try.func104, Try.ntmps104
  go_wp2
  have hA := new3 w (Obj.cells #[.bool m.byI, .string m.name, .int .i64 m.idx] 154) (Obj.cells #[.bool m.byI, .string m.name, .int .i64 m.idx] 94) (Obj.cells #[.bool m.byI, .string m.name, .int .i64 m.idx] 94)
  refine bodyPost_ret (results_cell_row rfl _ _ (w.heap.size + 1) 94 #[_, _, _] (0, 0) _ rfl hA.k1 Try.underlying94 rfl (by kernel_rfl)) rfl ?_
  exact ⟨_, _, _, [], rfl, ⟨rfl, rfl⟩, Fsh.nil _, hA.bel⟩
theorem infoStep : (Try.prog.info? 94).map (fun i => (i.zero, i.size, i.bytes)) = some (some (.agg #[.bool false, .string ByteArray.empty, .int .i64 0]), 3, 32) := by kernel_rfl
set_option maxRecDepth 100000 in
set_option maxHeartbeats 1600000 in
theorem toSteps_walk (v : Value) (ms : List PStep) (w : World) (h : RRow stepR w v ms) (hs : szSteps ms ≤ 1048576) :
    Calls Try.prog 94 #[v] w fun e w' => ∃ v' bl, e = .returned v' ∧ ORow stepE w' v' ms bl ∧ Fsh w.heap.size bl ∧ Below w.heap.size w w' := by
  have hl : ms.length ≤ 1048576 := by unfold szSteps at hs; omega
  have hsz : ∀ k (hk : k < ms.length), szStep ms[k] ≤ 1048576 := fun k hk => by
    have h1 := sum_take_snoc szStep ms k ms[k] (List.getElem?_eq_getElem hk)
    have h2 := sum_take_le (ms.map szStep) (k + 1)
    rw [← List.map_take] at h2
    unfold szSteps at hs; omega
  have HZ := hide hsz
  clear hs hsz
  have H := hide h
  obtain ⟨hm, a, cap, rfl, hrow⟩ := h
  clear hrow hm
  obtain ⟨i0, hi, hz0, hz1, hz2⟩ := info_parts infoStep
  go_enter Try.func94, Try.ntmps94
  go_wp2_with (at_make; refine wpList_make_full _ rfl _ _ 63 rfl 0 94 i0 (.agg #[.bool false, .string ByteArray.empty, .int .i64 0]) 3 Try.underlying63 hi hz0 hz1 .i64 .i64 _ _ ms.length rfl rfl rfl rfl (by rw [hz2]; omega) (by unfold maxLen; omega) (Nat.zero_le _) ?_)
  intro w1 hown hgrow
  have hbel : Below w.heap.size w w1 := (Below.refl _ _).grown hgrow (Nat.le_refl _) (by intro k hk; cases hk)
  have hP : PRow stepE w1 w.heap.size ms.length ms.length [] [] := PRow.start hown
  have hg1 := hP.lt.1
  have HP := hide hP
  have HB := hide hbel
  clear hgrow hi hz0 hz1 hz2 hown hP hbel
  go_wp2
  go_loopw [4] (fun i wr => ∃ k : Nat, k ≤ ms.length ∧ i = .int .i64 k ∧ Below w.heap.size w wr ∧ ∃ bl, PRow stepE wr w.heap.size ms.length ms.length (ms.take k) bl ∧ Fsh (w.heap.size + 1) bl) (fun i _ => ms.length - (intOf i).toNat)
  case atStart => exact ⟨0, Nat.zero_le _, rfl, unhide HB, [], unhide HP, Fsh.nil _⟩
  case round =>
    obtain ⟨k, hk, rfl, hb, bl, hP, hF⟩ := hrel
    by_cases hlt : k < ms.length
    · have hgr := hP.lt.1
      obtain ⟨_, a', cap', he, hrow⟩ := (unhide H).below hb
      injection he with he1 he2 he3; subst he1; subst he3; clear he2
      obtain ⟨b, o, rfl, vs, hR, hc⟩ := hrow k ms[k] (List.getElem?_eq_getElem hlt)
      obtain ⟨a0, a1, a2, rfl⟩ := list3 (stepR.len hR)
      have c0 : wr.cell? ⟨b, o + k * 3, none⟩ = _ := hc 0 _ rfl
      have c1 : wr.cell? ⟨b, o + k * 3 + 1, none⟩ = _ := hc 1 _ rfl
      have c2 : wr.cell? ⟨b, o + k * 3 + 2, none⟩ = _ := hc 2 _ rfl
      have HM := hide (toStep_walk a0 a1 a2 ms[k] wr hR (unhide HZ k hlt))
      have hkl : (ms.take k).length = k := by rw [List.length_take]; omega
      have HPR := hide hP
      have HFB := hide hF
      have HBR := hide hb
      have HKL := hide hkl
      clear hrow hc hR hP hF hb hkl
      go_wp2_with fail
      refine (unhide HM).mono ?_
      rintro e w2 ⟨b0, b1, y2, ib, rfl, hE, hFi, b2⟩
      have P2 := (unhide HPR).below b2
      have hkl := unhide HKL
      have hlt' : (ms.take k).length < ms.length := by rw [hkl]; exact hlt
      obtain ⟨u0, d0⟩ := P2.cell hlt' 0 (by decide)
      rw [hkl] at d0
      have d0 : w2.cell? ⟨w.heap.size, k * 3, none⟩ = some u0 := d0
      obtain ⟨u1, d1⟩ := P2.cell hlt' 1 (by decide)
      rw [hkl] at d1
      have d1 : w2.cell? ⟨w.heap.size, k * 3 + 1, none⟩ = some u1 := d1
      obtain ⟨u2, d2⟩ := P2.cell hlt' 2 (by decide)
      rw [hkl] at d2
      have d2 : w2.cell? ⟨w.heap.size, k * 3 + 2, none⟩ = some u2 := d2
      have fz := P2.frozen
      have hng : w.heap.size ∉ bl := (unhide HFB).not (by omega)
      have hngi : w.heap.size ∉ ib := hFi.not (by omega)
      have HPN := hide (P2.put hlt' hng hE hngi)
      have HFN := hide ((unhide HFB).app (C := wr.heap.size + 1) (fun b hb => by have := (unhide HPR).lt.2 b hb; omega) hFi (by omega))
      have HBN := hide (below_next (unhide HBR) b2)
      have hE0 := hE
      have hbs := hE0.1
      injection hbs with e0 hbs
      subst e0
      injection hbs with e1 hbs
      subst e1
      injection hbs with e2 hbs
      subst e2
      clear hbs
      rw [hkl] at HPN
      clear P2 hE hFi b2 HM hng hngi HPR HFB HBR hkl hlt' HKL
      go_wp2
      go_roundw
      case rel => exact ⟨k + 1, by omega, by go_num, putN_below (unhide HBN) (Nat.le_refl _) [_, _, _] (k * 3), _, by rw [List.take_add_one, List.getElem?_eq_getElem hlt]; exact unhide HPN, unhide HFN⟩
      case measure => simp [intOf]; omega
    · have hk' : k = ms.length := by omega
      subst hk'
      rw [List.take_length] at hP
      go_wp2
      go_ret
      exact ⟨_, _, rfl, hP.full rfl, hF.cons (Nat.le_refl _) (by omega), hb⟩
set_option maxRecDepth 100000 in
set_option maxHeartbeats 1600000 in
theorem toFop_walk (a0 a1 a2 a3 a4 : Value) (m : PFOp) (w : World) (h : fopR.R w [a0, a1, a2, a3, a4] m) (hs : szFop m ≤ 1048576) :
    Calls Try.prog 80 #[.agg #[a0, a1, a2, a3, a4]] w fun e w' => ∃ b0 b1 b2 b3 b4 ib, e = .returned (.agg #[b0, b1, b2, b3, b4]) ∧ fopE.E w' [b0, b1, b2, b3, b4] m ib ∧ Fsh (w.heap.size + 1) ib ∧ Below w.heap.size w w' := by
  obtain ⟨q, hq, _, h1⟩ := h
  injection hq with e0 hq
  subst e0
  injection hq with e1 hq
  subst e1
  injection hq with e2 hq
  subst e2
  injection hq with e3 hq
  subst e3
  injection hq with e4 hq
  subst e4
  have hl : szSteps m.steps ≤ 1048576 := by unfold szFop at hs; omega
  clear hs hq
  have H1 := hide h1
  clear h1
  go_enter Try.func80, Try.ntmps80
  go_wp2_with fail
  have hA := new3 w (Obj.cells #[Value.int IntKind.i64 m.k, Value.int IntKind.i64 m.n, Value.string m.s, Value.bool m.root, a4] 131) (Obj.cells #[Value.int IntKind.i64 0, Value.int IntKind.i64 0, Value.string ⟨#[]⟩, Value.bool false, Value.slice none 0 0] 65) (Obj.cells #[Value.int IntKind.i64 m.k, Value.int IntKind.i64 m.n, Value.string m.s, Value.bool m.root, Value.slice none 0 0] 65)
  generalize (((w.alloc (Obj.cells #[Value.int IntKind.i64 m.k, Value.int IntKind.i64 m.n, Value.string m.s, Value.bool m.root, a4] 131)).alloc (Obj.cells #[Value.int IntKind.i64 0, Value.int IntKind.i64 0, Value.string ⟨#[]⟩, Value.bool false, Value.slice none 0 0] 65)).alloc (Obj.cells #[Value.int IntKind.i64 m.k, Value.int IntKind.i64 m.n, Value.string m.s, Value.bool m.root, Value.slice none 0 0] 65)) = wA at *
  refine (toSteps_walk a4 m.steps wA ((unhide H1).below hA.bel) hl).mono ?_
  rintro e w1 ⟨v', bl, rfl, ho, hf, b1⟩
  obtain ⟨xa, xc, rfl, _, _⟩ := ho.form
  have hsz := hA.size
  have k0 := (b1.block w.heap.size (by omega)).trans hA.k0
  have k1 := (b1.block (w.heap.size + 1) (by omega)).trans hA.k1
  have k2 := (b1.block (w.heap.size + 1 + 1) (by omega)).trans hA.k2
  have c20 : w1.cell? ⟨w.heap.size + 1 + 1, 0, none⟩ = some (.int .i64 m.k) := Lib.cell_of_heap k2 0
  have c21 : w1.cell? ⟨w.heap.size + 1 + 1, 1, none⟩ = some (.int .i64 m.n) := Lib.cell_of_heap k2 1
  have c22 : w1.cell? ⟨w.heap.size + 1 + 1, 2, none⟩ = some (.string m.s) := Lib.cell_of_heap k2 2
  have c23 : w1.cell? ⟨w.heap.size + 1 + 1, 3, none⟩ = some (.bool m.root) := Lib.cell_of_heap k2 3
  have c24 : w1.cell? ⟨w.heap.size + 1 + 1, 4, none⟩ = some (.slice none 0 0) := Lib.cell_of_heap k2 4
  have c10 : w1.cell? ⟨w.heap.size + 1, 0, none⟩ = some (.int .i64 0) := Lib.cell_of_heap k1 0
  have c11 : w1.cell? ⟨w.heap.size + 1, 1, none⟩ = some (.int .i64 0) := Lib.cell_of_heap k1 1
  have c12 : w1.cell? ⟨w.heap.size + 1, 2, none⟩ = some (.string ⟨#[]⟩) := Lib.cell_of_heap k1 2
  have c13 : w1.cell? ⟨w.heap.size + 1, 3, none⟩ = some (.bool false) := Lib.cell_of_heap k1 3
  have c14 : w1.cell? ⟨w.heap.size + 1, 4, none⟩ = some (.slice none 0 0) := Lib.cell_of_heap k1 4
  have f2 := Lib.frozen_of_heap k2
  have f1 := Lib.frozen_of_heap k1
  have HB := hide (below_next hA.bel b1)
  have HO := hide ho
  have HF := hide hf
  have HK := hide k1
  clear b1 ho hf hA H1 k0 k1 k2
  go_wp2
  refine bodyPost_ret (results_cell_row rfl _ _ (w.heap.size + 1) 65 #[_, _, _, _, _] (0, 0) _ rfl (putN_full (w := putN w1 (w.heap.size + 1 + 1) 4 [_]) ((putN_other (by omega) _ _).trans (unhide HK)) [_, _, _, _, _] rfl) Try.underlying65 rfl (by kernel_rfl)) rfl ?_
  have n1 := (unhide HF).not (g := w.heap.size + 1) (by omega)
  have n2 := (unhide HF).not (g := w.heap.size + 1 + 1) (by omega)
  refine ⟨_, _, _, _, _, bl, rfl, ⟨_, rfl, ((unhide HO).putN n2 [_] 4).putN n1 [_, _, _, _, _] 0⟩, (unhide HF).mono (by omega), ?_⟩
  exact putN_below (g := w.heap.size + 1) (putN_below (g := w.heap.size + 1 + 1) (unhide HB) (by omega) [_] 4) (by omega) [_, _, _, _, _] 0
theorem infoFop : (Try.prog.info? 65).map (fun i => (i.zero, i.size, i.bytes)) = some (some (.agg #[.int .i64 0, .int .i64 0, .string ByteArray.empty, .bool false, .slice none 0 0]), 5, 64) := by kernel_rfl
set_option maxRecDepth 100000 in
set_option maxHeartbeats 1600000 in
theorem toFops_walk (v : Value) (ms : List PFOp) (w : World) (h : RRow fopR w v ms) (hs : szFops ms ≤ 1048576) :
    Calls Try.prog 65 #[v] w fun e w' => ∃ v' bl, e = .returned v' ∧ ORow fopE w' v' ms bl ∧ Fsh w.heap.size bl ∧ Below w.heap.size w w' := by
  have hl : ms.length ≤ 1048576 := by unfold szFops at hs; omega
  have hsz : ∀ k (hk : k < ms.length), szFop ms[k] ≤ 1048576 := fun k hk => by
    have h1 := sum_take_snoc szFop ms k ms[k] (List.getElem?_eq_getElem hk)
    have h2 := sum_take_le (ms.map szFop) (k + 1)
    rw [← List.map_take] at h2
    unfold szFops at hs; omega
  have HZ := hide hsz
  clear hs hsz
  have H := hide h
  obtain ⟨hm, a, cap, rfl, hrow⟩ := h
  clear hrow hm
  obtain ⟨i0, hi, hz0, hz1, hz2⟩ := info_parts infoFop
  go_enter Try.func65, Try.ntmps65
  go_wp2_with (at_make; refine wpList_make_full _ rfl _ _ 41 rfl 0 65 i0 (.agg #[.int .i64 0, .int .i64 0, .string ByteArray.empty, .bool false, .slice none 0 0]) 5 Try.underlying41 hi hz0 hz1 .i64 .i64 _ _ ms.length rfl rfl rfl rfl (by rw [hz2]; omega) (by unfold maxLen; omega) (Nat.zero_le _) ?_)
  intro w1 hown hgrow
  have hbel : Below w.heap.size w w1 := (Below.refl _ _).grown hgrow (Nat.le_refl _) (by intro k hk; cases hk)
  have hP : PRow fopE w1 w.heap.size ms.length ms.length [] [] := PRow.start hown
  have hg1 := hP.lt.1
  have HP := hide hP
  have HB := hide hbel
  clear hgrow hi hz0 hz1 hz2 hown hP hbel
  go_wp2
  go_loopw [4] (fun i wr => ∃ k : Nat, k ≤ ms.length ∧ i = .int .i64 k ∧ Below w.heap.size w wr ∧ ∃ bl, PRow fopE wr w.heap.size ms.length ms.length (ms.take k) bl ∧ Fsh (w.heap.size + 1) bl) (fun i _ => ms.length - (intOf i).toNat)
  case atStart => exact ⟨0, Nat.zero_le _, rfl, unhide HB, [], unhide HP, Fsh.nil _⟩
  case round =>
    obtain ⟨k, hk, rfl, hb, bl, hP, hF⟩ := hrel
    by_cases hlt : k < ms.length
    · have hgr := hP.lt.1
      obtain ⟨_, a', cap', he, hrow⟩ := (unhide H).below hb
      injection he with he1 he2 he3; subst he1; subst he3; clear he2
      obtain ⟨b, o, rfl, vs, hR, hc⟩ := hrow k ms[k] (List.getElem?_eq_getElem hlt)
      obtain ⟨a0, a1, a2, a3, a4, rfl⟩ := list5 (fopR.len hR)
      have c0 : wr.cell? ⟨b, o + k * 5, none⟩ = _ := hc 0 _ rfl
      have c1 : wr.cell? ⟨b, o + k * 5 + 1, none⟩ = _ := hc 1 _ rfl
      have c2 : wr.cell? ⟨b, o + k * 5 + 2, none⟩ = _ := hc 2 _ rfl
      have c3 : wr.cell? ⟨b, o + k * 5 + 3, none⟩ = _ := hc 3 _ rfl
      have c4 : wr.cell? ⟨b, o + k * 5 + 4, none⟩ = _ := hc 4 _ rfl
      have HM := hide (toFop_walk a0 a1 a2 a3 a4 ms[k] wr hR (unhide HZ k hlt))
      have hkl : (ms.take k).length = k := by rw [List.length_take]; omega
      have HPR := hide hP
      have HFB := hide hF
      have HBR := hide hb
      have HKL := hide hkl
      clear hrow hc hR hP hF hb hkl
      go_wp2_with fail
      refine (unhide HM).mono ?_
      rintro e w2 ⟨b0, b1, y2, b3, b4, ib, rfl, hE, hFi, b2⟩
      have P2 := (unhide HPR).below b2
      have hkl := unhide HKL
      have hlt' : (ms.take k).length < ms.length := by rw [hkl]; exact hlt
      obtain ⟨u0, d0⟩ := P2.cell hlt' 0 (by decide)
      rw [hkl] at d0
      have d0 : w2.cell? ⟨w.heap.size, k * 5, none⟩ = some u0 := d0
      obtain ⟨u1, d1⟩ := P2.cell hlt' 1 (by decide)
      rw [hkl] at d1
      have d1 : w2.cell? ⟨w.heap.size, k * 5 + 1, none⟩ = some u1 := d1
      obtain ⟨u2, d2⟩ := P2.cell hlt' 2 (by decide)
      rw [hkl] at d2
      have d2 : w2.cell? ⟨w.heap.size, k * 5 + 2, none⟩ = some u2 := d2
      obtain ⟨u3, d3⟩ := P2.cell hlt' 3 (by decide)
      rw [hkl] at d3
      have d3 : w2.cell? ⟨w.heap.size, k * 5 + 3, none⟩ = some u3 := d3
      obtain ⟨u4, d4⟩ := P2.cell hlt' 4 (by decide)
      rw [hkl] at d4
      have d4 : w2.cell? ⟨w.heap.size, k * 5 + 4, none⟩ = some u4 := d4
      have fz := P2.frozen
      have hng : w.heap.size ∉ bl := (unhide HFB).not (by omega)
      have hngi : w.heap.size ∉ ib := hFi.not (by omega)
      have HPN := hide (P2.put hlt' hng hE hngi)
      have HFN := hide ((unhide HFB).app (C := wr.heap.size + 1) (fun b hb => by have := (unhide HPR).lt.2 b hb; omega) hFi (by omega))
      have HBN := hide (below_next (unhide HBR) b2)
      have hE0 := hE
      obtain ⟨q0, hbs, hE2⟩ := hE0
      injection hbs with e0 hbs
      subst e0
      injection hbs with e1 hbs
      subst e1
      injection hbs with e2 hbs
      subst e2
      injection hbs with e3 hbs
      subst e3
      injection hbs with e4 hbs
      subst e4
      clear hbs
      obtain ⟨xa0, xc0, rfl, _, _⟩ := hE2.form
      clear hE2
      rw [hkl] at HPN
      clear P2 hE hFi b2 HM hng hngi HPR HFB HBR hkl hlt' HKL
      go_wp2
      go_roundw
      case rel => exact ⟨k + 1, by omega, by go_num, putN_below (unhide HBN) (Nat.le_refl _) [_, _, _, _, _] (k * 5), _, by rw [List.take_add_one, List.getElem?_eq_getElem hlt]; exact unhide HPN, unhide HFN⟩
      case measure => simp [intOf]; omega
    · have hk' : k = ms.length := by omega
      subst hk'
      rw [List.take_length] at hP
      go_wp2
      go_ret
      exact ⟨_, _, rfl, hP.full rfl, hF.cons (Nat.le_refl _) (by omega), hb⟩
set_option maxRecDepth 100000 in
set_option maxHeartbeats 1600000 in
theorem toSel_walk (a0 a1 a2 a3 a4 a5 a6 a7 a8 : Value) (m : PSel) (w : World) (h : selR.R w [a0, a1, a2, a3, a4, a5, a6, a7, a8] m) (hs : szSel m ≤ 1048576) :
    Calls Try.prog 49 #[.agg #[a0, a1, a2, a3, a4, a5, a6, a7, a8]] w fun e w' => ∃ b0 b1 b2 b3 b4 b5 b6 b7 b8 ib, e = .returned (.agg #[b0, b1, b2, b3, b4, b5, b6, b7, b8]) ∧ selE.E w' [b0, b1, b2, b3, b4, b5, b6, b7, b8] m ib ∧ Fsh (w.heap.size + 1) ib ∧ Below w.heap.size w w' := by
  obtain ⟨q, hq, _, h1⟩ := h
  injection hq with e0 hq
  subst e0
  injection hq with e1 hq
  subst e1
  injection hq with e2 hq
  subst e2
  injection hq with e3 hq
  subst e3
  injection hq with e4 hq
  subst e4
  injection hq with e5 hq
  subst e5
  injection hq with e6 hq
  subst e6
  injection hq with e7 hq
  subst e7
  injection hq with e8 hq
  subst e8
  have hl : szFops m.cond ≤ 1048576 := by unfold szSel at hs; omega
  clear hs hq
  have H1 := hide h1
  clear h1
  go_enter Try.func49, Try.ntmps49
  go_wp2_with fail
  have hA := new3 w (Obj.cells #[Value.int IntKind.i64 m.k, Value.string m.name, Value.bool m.hasA, Value.bool m.hasB, Value.bool m.hasC, Value.int IntKind.i64 m.a, Value.int IntKind.i64 m.b, Value.int IntKind.i64 m.c, a8] 91) (Obj.cells #[Value.int IntKind.i64 0, Value.string ⟨#[]⟩, Value.bool false, Value.bool false, Value.bool false, Value.int IntKind.i64 0, Value.int IntKind.i64 0, Value.int IntKind.i64 0, Value.slice none 0 0] 43) (Obj.cells #[Value.int IntKind.i64 m.k, Value.string m.name, Value.bool m.hasA, Value.bool m.hasB, Value.bool m.hasC, Value.int IntKind.i64 m.a, Value.int IntKind.i64 m.b, Value.int IntKind.i64 m.c, Value.slice none 0 0] 43)
  generalize (((w.alloc (Obj.cells #[Value.int IntKind.i64 m.k, Value.string m.name, Value.bool m.hasA, Value.bool m.hasB, Value.bool m.hasC, Value.int IntKind.i64 m.a, Value.int IntKind.i64 m.b, Value.int IntKind.i64 m.c, a8] 91)).alloc (Obj.cells #[Value.int IntKind.i64 0, Value.string ⟨#[]⟩, Value.bool false, Value.bool false, Value.bool false, Value.int IntKind.i64 0, Value.int IntKind.i64 0, Value.int IntKind.i64 0, Value.slice none 0 0] 43)).alloc (Obj.cells #[Value.int IntKind.i64 m.k, Value.string m.name, Value.bool m.hasA, Value.bool m.hasB, Value.bool m.hasC, Value.int IntKind.i64 m.a, Value.int IntKind.i64 m.b, Value.int IntKind.i64 m.c, Value.slice none 0 0] 43)) = wA at *
  refine (toFops_walk a8 m.cond wA ((unhide H1).below hA.bel) hl).mono ?_
  rintro e w1 ⟨v', bl, rfl, ho, hf, b1⟩
  obtain ⟨xa, xc, rfl, _, _⟩ := ho.form
  have hsz := hA.size
  have k0 := (b1.block w.heap.size (by omega)).trans hA.k0
  have k1 := (b1.block (w.heap.size + 1) (by omega)).trans hA.k1
  have k2 := (b1.block (w.heap.size + 1 + 1) (by omega)).trans hA.k2
  have c20 : w1.cell? ⟨w.heap.size + 1 + 1, 0, none⟩ = some (.int .i64 m.k) := Lib.cell_of_heap k2 0
  have c21 : w1.cell? ⟨w.heap.size + 1 + 1, 1, none⟩ = some (.string m.name) := Lib.cell_of_heap k2 1
  have c22 : w1.cell? ⟨w.heap.size + 1 + 1, 2, none⟩ = some (.bool m.hasA) := Lib.cell_of_heap k2 2
  have c23 : w1.cell? ⟨w.heap.size + 1 + 1, 3, none⟩ = some (.bool m.hasB) := Lib.cell_of_heap k2 3
  have c24 : w1.cell? ⟨w.heap.size + 1 + 1, 4, none⟩ = some (.bool m.hasC) := Lib.cell_of_heap k2 4
  have c25 : w1.cell? ⟨w.heap.size + 1 + 1, 5, none⟩ = some (.int .i64 m.a) := Lib.cell_of_heap k2 5
  have c26 : w1.cell? ⟨w.heap.size + 1 + 1, 6, none⟩ = some (.int .i64 m.b) := Lib.cell_of_heap k2 6
  have c27 : w1.cell? ⟨w.heap.size + 1 + 1, 7, none⟩ = some (.int .i64 m.c) := Lib.cell_of_heap k2 7
  have c28 : w1.cell? ⟨w.heap.size + 1 + 1, 8, none⟩ = some (.slice none 0 0) := Lib.cell_of_heap k2 8
  have c10 : w1.cell? ⟨w.heap.size + 1, 0, none⟩ = some (.int .i64 0) := Lib.cell_of_heap k1 0
  have c11 : w1.cell? ⟨w.heap.size + 1, 1, none⟩ = some (.string ⟨#[]⟩) := Lib.cell_of_heap k1 1
  have c12 : w1.cell? ⟨w.heap.size + 1, 2, none⟩ = some (.bool false) := Lib.cell_of_heap k1 2
  have c13 : w1.cell? ⟨w.heap.size + 1, 3, none⟩ = some (.bool false) := Lib.cell_of_heap k1 3
  have c14 : w1.cell? ⟨w.heap.size + 1, 4, none⟩ = some (.bool false) := Lib.cell_of_heap k1 4
  have c15 : w1.cell? ⟨w.heap.size + 1, 5, none⟩ = some (.int .i64 0) := Lib.cell_of_heap k1 5
  have c16 : w1.cell? ⟨w.heap.size + 1, 6, none⟩ = some (.int .i64 0) := Lib.cell_of_heap k1 6
  have c17 : w1.cell? ⟨w.heap.size + 1, 7, none⟩ = some (.int .i64 0) := Lib.cell_of_heap k1 7
  have c18 : w1.cell? ⟨w.heap.size + 1, 8, none⟩ = some (.slice none 0 0) := Lib.cell_of_heap k1 8
  have f2 := Lib.frozen_of_heap k2
  have f1 := Lib.frozen_of_heap k1
  have HB := hide (below_next hA.bel b1)
  have HO := hide ho
  have HF := hide hf
  have HK := hide k1
  clear b1 ho hf hA H1 k0 k1 k2
  go_wp2
  refine bodyPost_ret (results_cell_row rfl _ _ (w.heap.size + 1) 43 #[_, _, _, _, _, _, _, _, _] (0, 0) _ rfl (putN_full (w := putN w1 (w.heap.size + 1 + 1) 8 [_]) ((putN_other (by omega) _ _).trans (unhide HK)) [_, _, _, _, _, _, _, _, _] rfl) Try.underlying43 rfl (by kernel_rfl)) rfl ?_
  have n1 := (unhide HF).not (g := w.heap.size + 1) (by omega)
  have n2 := (unhide HF).not (g := w.heap.size + 1 + 1) (by omega)
  refine ⟨_, _, _, _, _, _, _, _, _, bl, rfl, ⟨_, rfl, ((unhide HO).putN n2 [_] 8).putN n1 [_, _, _, _, _, _, _, _, _] 0⟩, (unhide HF).mono (by omega), ?_⟩
  exact putN_below (g := w.heap.size + 1) (putN_below (g := w.heap.size + 1 + 1) (unhide HB) (by omega) [_] 8) (by omega) [_, _, _, _, _, _, _, _, _] 0
theorem infoSel : (Try.prog.info? 43).map (fun i => (i.zero, i.size, i.bytes)) = some (some (.agg #[.int .i64 0, .string ByteArray.empty, .bool false, .bool false, .bool false, .int .i64 0, .int .i64 0, .int .i64 0, .slice none 0 0]), 9, 80) := by kernel_rfl
set_option maxRecDepth 100000 in
set_option maxHeartbeats 1600000 in
theorem toSels_walk (v : Value) (ms : List PSel) (w : World) (h : RRow selR w v ms) (hs : szSels ms ≤ 1048576) :
    Calls Try.prog 31 #[v] w fun e w' => ∃ v' bl, e = .returned v' ∧ ORow selE w' v' ms bl ∧ Fsh w.heap.size bl ∧ Below w.heap.size w w' := by
  have hl : ms.length ≤ 1048576 := by unfold szSels at hs; omega
  have hsz : ∀ k (hk : k < ms.length), szSel ms[k] ≤ 1048576 := fun k hk => by
    have h1 := sum_take_snoc szSel ms k ms[k] (List.getElem?_eq_getElem hk)
    have h2 := sum_take_le (ms.map szSel) (k + 1)
    rw [← List.map_take] at h2
    unfold szSels at hs; omega
  have HZ := hide hsz
  clear hs hsz
  have H := hide h
  obtain ⟨hm, a, cap, rfl, hrow⟩ := h
  clear hrow hm
  obtain ⟨i0, hi, hz0, hz1, hz2⟩ := info_parts infoSel
  go_enter Try.func31, Try.ntmps31
  go_wp2_with (at_make; refine wpList_make_full _ rfl _ _ 37 rfl 0 43 i0 (.agg #[.int .i64 0, .string ByteArray.empty, .bool false, .bool false, .bool false, .int .i64 0, .int .i64 0, .int .i64 0, .slice none 0 0]) 9 Try.underlying37 hi hz0 hz1 .i64 .i64 _ _ ms.length rfl rfl rfl rfl (by rw [hz2]; omega) (by unfold maxLen; omega) (Nat.zero_le _) ?_)
  intro w1 hown hgrow
  have hbel : Below w.heap.size w w1 := (Below.refl _ _).grown hgrow (Nat.le_refl _) (by intro k hk; cases hk)
  have hP : PRow selE w1 w.heap.size ms.length ms.length [] [] := PRow.start hown
  have hg1 := hP.lt.1
  have HP := hide hP
  have HB := hide hbel
  clear hgrow hi hz0 hz1 hz2 hown hP hbel
  go_wp2
  go_loopw [4] (fun i wr => ∃ k : Nat, k ≤ ms.length ∧ i = .int .i64 k ∧ Below w.heap.size w wr ∧ ∃ bl, PRow selE wr w.heap.size ms.length ms.length (ms.take k) bl ∧ Fsh (w.heap.size + 1) bl) (fun i _ => ms.length - (intOf i).toNat)
  case atStart => exact ⟨0, Nat.zero_le _, rfl, unhide HB, [], unhide HP, Fsh.nil _⟩
  case round =>
    obtain ⟨k, hk, rfl, hb, bl, hP, hF⟩ := hrel
    by_cases hlt : k < ms.length
    · have hgr := hP.lt.1
      obtain ⟨_, a', cap', he, hrow⟩ := (unhide H).below hb
      injection he with he1 he2 he3; subst he1; subst he3; clear he2
      obtain ⟨b, o, rfl, vs, hR, hc⟩ := hrow k ms[k] (List.getElem?_eq_getElem hlt)
      obtain ⟨a0, a1, a2, a3, a4, a5, a6, a7, a8, rfl⟩ := list9 (selR.len hR)
      have c0 : wr.cell? ⟨b, o + k * 9, none⟩ = _ := hc 0 _ rfl
      have c1 : wr.cell? ⟨b, o + k * 9 + 1, none⟩ = _ := hc 1 _ rfl
      have c2 : wr.cell? ⟨b, o + k * 9 + 2, none⟩ = _ := hc 2 _ rfl
      have c3 : wr.cell? ⟨b, o + k * 9 + 3, none⟩ = _ := hc 3 _ rfl
      have c4 : wr.cell? ⟨b, o + k * 9 + 4, none⟩ = _ := hc 4 _ rfl
      have c5 : wr.cell? ⟨b, o + k * 9 + 5, none⟩ = _ := hc 5 _ rfl
      have c6 : wr.cell? ⟨b, o + k * 9 + 6, none⟩ = _ := hc 6 _ rfl
      have c7 : wr.cell? ⟨b, o + k * 9 + 7, none⟩ = _ := hc 7 _ rfl
      have c8 : wr.cell? ⟨b, o + k * 9 + 8, none⟩ = _ := hc 8 _ rfl
      have HM := hide (toSel_walk a0 a1 a2 a3 a4 a5 a6 a7 a8 ms[k] wr hR (unhide HZ k hlt))
      have hkl : (ms.take k).length = k := by rw [List.length_take]; omega
      have HPR := hide hP
      have HFB := hide hF
      have HBR := hide hb
      have HKL := hide hkl
      clear hrow hc hR hP hF hb hkl
      go_wp2_with fail
      refine (unhide HM).mono ?_
      rintro e w2 ⟨b0, b1, y2, b3, b4, b5, b6, b7, b8, ib, rfl, hE, hFi, b2⟩
      have P2 := (unhide HPR).below b2
      have hkl := unhide HKL
      have hlt' : (ms.take k).length < ms.length := by rw [hkl]; exact hlt
      obtain ⟨u0, d0⟩ := P2.cell hlt' 0 (by decide)
      rw [hkl] at d0
      have d0 : w2.cell? ⟨w.heap.size, k * 9, none⟩ = some u0 := d0
      obtain ⟨u1, d1⟩ := P2.cell hlt' 1 (by decide)
      rw [hkl] at d1
      have d1 : w2.cell? ⟨w.heap.size, k * 9 + 1, none⟩ = some u1 := d1
      obtain ⟨u2, d2⟩ := P2.cell hlt' 2 (by decide)
      rw [hkl] at d2
      have d2 : w2.cell? ⟨w.heap.size, k * 9 + 2, none⟩ = some u2 := d2
      obtain ⟨u3, d3⟩ := P2.cell hlt' 3 (by decide)
      rw [hkl] at d3
      have d3 : w2.cell? ⟨w.heap.size, k * 9 + 3, none⟩ = some u3 := d3
      obtain ⟨u4, d4⟩ := P2.cell hlt' 4 (by decide)
      rw [hkl] at d4
      have d4 : w2.cell? ⟨w.heap.size, k * 9 + 4, none⟩ = some u4 := d4
      obtain ⟨u5, d5⟩ := P2.cell hlt' 5 (by decide)
      rw [hkl] at d5
      have d5 : w2.cell? ⟨w.heap.size, k * 9 + 5, none⟩ = some u5 := d5
      obtain ⟨u6, d6⟩ := P2.cell hlt' 6 (by decide)
      rw [hkl] at d6
      have d6 : w2.cell? ⟨w.heap.size, k * 9 + 6, none⟩ = some u6 := d6
      obtain ⟨u7, d7⟩ := P2.cell hlt' 7 (by decide)
      rw [hkl] at d7
      have d7 : w2.cell? ⟨w.heap.size, k * 9 + 7, none⟩ = some u7 := d7
      obtain ⟨u8, d8⟩ := P2.cell hlt' 8 (by decide)
      rw [hkl] at d8
      have d8 : w2.cell? ⟨w.heap.size, k * 9 + 8, none⟩ = some u8 := d8
      have fz := P2.frozen
      have hng : w.heap.size ∉ bl := (unhide HFB).not (by omega)
      have hngi : w.heap.size ∉ ib := hFi.not (by omega)
      have HPN := hide (P2.put hlt' hng hE hngi)
      have HFN := hide ((unhide HFB).app (C := wr.heap.size + 1) (fun b hb => by have := (unhide HPR).lt.2 b hb; omega) hFi (by omega))
      have HBN := hide (below_next (unhide HBR) b2)
      have hE0 := hE
      obtain ⟨q0, hbs, hE2⟩ := hE0
      injection hbs with e0 hbs
      subst e0
      injection hbs with e1 hbs
      subst e1
      injection hbs with e2 hbs
      subst e2
      injection hbs with e3 hbs
      subst e3
      injection hbs with e4 hbs
      subst e4
      injection hbs with e5 hbs
      subst e5
      injection hbs with e6 hbs
      subst e6
      injection hbs with e7 hbs
      subst e7
      injection hbs with e8 hbs
      subst e8
      clear hbs
      obtain ⟨xa0, xc0, rfl, _, _⟩ := hE2.form
      clear hE2
      rw [hkl] at HPN
      clear P2 hE hFi b2 HM hng hngi HPR HFB HBR hkl hlt' HKL
      go_wp2
      go_roundw
      case rel => exact ⟨k + 1, by omega, by go_num, putN_below (unhide HBN) (Nat.le_refl _) [_, _, _, _, _, _, _, _, _] (k * 9), _, by rw [List.take_add_one, List.getElem?_eq_getElem hlt]; exact unhide HPN, unhide HFN⟩
      case measure => simp [intOf]; omega
    · have hk' : k = ms.length := by omega
      subst hk'
      rw [List.take_length] at hP
      go_wp2
      go_ret
      exact ⟨_, _, rfl, hP.full rfl, hF.cons (Nat.le_refl _) (by omega), hb⟩
set_option maxRecDepth 100000 in
set_option maxHeartbeats 1600000 in
theorem toSeg_walk (a0 a1 : Value) (m : PSeg) (w : World) (h : segR.R w [a0, a1] m) (hs : szSeg m ≤ 1048576) :
    Calls Try.prog 16 #[.agg #[a0, a1]] w fun e w' => ∃ b0 b1 ib, e = .returned (.agg #[b0, b1]) ∧ segE.E w' [b0, b1] m ib ∧ Fsh (w.heap.size + 1) ib ∧ Below w.heap.size w w' := by
  obtain ⟨q, hq, h1⟩ := h
  injection hq with e0 hq
  subst e0
  injection hq with e1 hq
  subst e1
  have hl : szSels m.sels ≤ 1048576 := by unfold szSeg at hs; omega
  clear hs hq
  have H1 := hide h1
  clear h1
  go_enter Try.func16, Try.ntmps16
  go_wp2_with fail
  have hA := new3 w (Obj.cells #[Value.bool m.deep, a1] 36) (Obj.cells #[Value.bool false, Value.slice none 0 0] 39) (Obj.cells #[Value.bool m.deep, Value.slice none 0 0] 39)
  generalize (((w.alloc (Obj.cells #[Value.bool m.deep, a1] 36)).alloc (Obj.cells #[Value.bool false, Value.slice none 0 0] 39)).alloc (Obj.cells #[Value.bool m.deep, Value.slice none 0 0] 39)) = wA at *
  refine (toSels_walk a1 m.sels wA ((unhide H1).below hA.bel) hl).mono ?_
  rintro e w1 ⟨v', bl, rfl, ho, hf, b1⟩
  obtain ⟨xa, xc, rfl, _, _⟩ := ho.form
  have hsz := hA.size
  have k0 := (b1.block w.heap.size (by omega)).trans hA.k0
  have k1 := (b1.block (w.heap.size + 1) (by omega)).trans hA.k1
  have k2 := (b1.block (w.heap.size + 1 + 1) (by omega)).trans hA.k2
  have c20 : w1.cell? ⟨w.heap.size + 1 + 1, 0, none⟩ = some (.bool m.deep) := Lib.cell_of_heap k2 0
  have c21 : w1.cell? ⟨w.heap.size + 1 + 1, 1, none⟩ = some (.slice none 0 0) := Lib.cell_of_heap k2 1
  have c10 : w1.cell? ⟨w.heap.size + 1, 0, none⟩ = some (.bool false) := Lib.cell_of_heap k1 0
  have c11 : w1.cell? ⟨w.heap.size + 1, 1, none⟩ = some (.slice none 0 0) := Lib.cell_of_heap k1 1
  have f2 := Lib.frozen_of_heap k2
  have f1 := Lib.frozen_of_heap k1
  have HB := hide (below_next hA.bel b1)
  have HO := hide ho
  have HF := hide hf
  have HK := hide k1
  clear b1 ho hf hA H1 k0 k1 k2
  go_wp2
  refine bodyPost_ret (results_cell_row rfl _ _ (w.heap.size + 1) 39 #[_, _] (0, 0) _ rfl (putN_full (w := putN w1 (w.heap.size + 1 + 1) 1 [_]) ((putN_other (by omega) _ _).trans (unhide HK)) [_, _] rfl) Try.underlying39 rfl (by kernel_rfl)) rfl ?_
  have n1 := (unhide HF).not (g := w.heap.size + 1) (by omega)
  have n2 := (unhide HF).not (g := w.heap.size + 1 + 1) (by omega)
  refine ⟨_, _, bl, rfl, ⟨_, rfl, ((unhide HO).putN n2 [_] 1).putN n1 [_, _] 0⟩, (unhide HF).mono (by omega), ?_⟩
  exact putN_below (g := w.heap.size + 1) (putN_below (g := w.heap.size + 1 + 1) (unhide HB) (by omega) [_] 1) (by omega) [_, _] 0
theorem infoSeg : (Try.prog.info? 39).map (fun i => (i.zero, i.size, i.bytes)) = some (some (.agg #[.bool false, .slice none 0 0]), 2, 32) := by kernel_rfl
set_option maxRecDepth 100000 in
set_option maxHeartbeats 1600000 in
theorem toSegs_walk (v : Value) (ms : List PSeg) (w : World) (h : RRow segR w v ms) (hs : szSegs ms ≤ 1048576) :
    Calls Try.prog 7 #[v] w fun e w' => ∃ v' bl, e = .returned v' ∧ ORow segE w' v' ms bl ∧ Fsh w.heap.size bl ∧ Below w.heap.size w w' := by
  have hl : ms.length ≤ 1048576 := by unfold szSegs at hs; omega
  have hsz : ∀ k (hk : k < ms.length), szSeg ms[k] ≤ 1048576 := fun k hk => by
    have h1 := sum_take_snoc szSeg ms k ms[k] (List.getElem?_eq_getElem hk)
    have h2 := sum_take_le (ms.map szSeg) (k + 1)
    rw [← List.map_take] at h2
    unfold szSegs at hs; omega
  have HZ := hide hsz
  clear hs hsz
  have H := hide h
  obtain ⟨hm, a, cap, rfl, hrow⟩ := h
  clear hrow hm
  obtain ⟨i0, hi, hz0, hz1, hz2⟩ := info_parts infoSeg
  go_enter Try.func7, Try.ntmps7
  go_wp2_with (at_make; refine wpList_make_full _ rfl _ _ 25 rfl 0 39 i0 (.agg #[.bool false, .slice none 0 0]) 2 Try.underlying25 hi hz0 hz1 .i64 .i64 _ _ ms.length rfl rfl rfl rfl (by rw [hz2]; omega) (by unfold maxLen; omega) (Nat.zero_le _) ?_)
  intro w1 hown hgrow
  have hbel : Below w.heap.size w w1 := (Below.refl _ _).grown hgrow (Nat.le_refl _) (by intro k hk; cases hk)
  have hP : PRow segE w1 w.heap.size ms.length ms.length [] [] := PRow.start hown
  have hg1 := hP.lt.1
  have HP := hide hP
  have HB := hide hbel
  clear hgrow hi hz0 hz1 hz2 hown hP hbel
  go_wp2
  go_loopw [4] (fun i wr => ∃ k : Nat, k ≤ ms.length ∧ i = .int .i64 k ∧ Below w.heap.size w wr ∧ ∃ bl, PRow segE wr w.heap.size ms.length ms.length (ms.take k) bl ∧ Fsh (w.heap.size + 1) bl) (fun i _ => ms.length - (intOf i).toNat)
  case atStart => exact ⟨0, Nat.zero_le _, rfl, unhide HB, [], unhide HP, Fsh.nil _⟩
  case round =>
    obtain ⟨k, hk, rfl, hb, bl, hP, hF⟩ := hrel
    by_cases hlt : k < ms.length
    · have hgr := hP.lt.1
      obtain ⟨_, a', cap', he, hrow⟩ := (unhide H).below hb
      injection he with he1 he2 he3; subst he1; subst he3; clear he2
      obtain ⟨b, o, rfl, vs, hR, hc⟩ := hrow k ms[k] (List.getElem?_eq_getElem hlt)
      obtain ⟨a0, a1, rfl⟩ := list2 (segR.len hR)
      have c0 : wr.cell? ⟨b, o + k * 2, none⟩ = _ := hc 0 _ rfl
      have c1 : wr.cell? ⟨b, o + k * 2 + 1, none⟩ = _ := hc 1 _ rfl
      have HM := hide (toSeg_walk a0 a1 ms[k] wr hR (unhide HZ k hlt))
      have hkl : (ms.take k).length = k := by rw [List.length_take]; omega
      have HPR := hide hP
      have HFB := hide hF
      have HBR := hide hb
      have HKL := hide hkl
      clear hrow hc hR hP hF hb hkl
      go_wp2_with fail
      refine (unhide HM).mono ?_
      rintro e w2 ⟨b0, b1, ib, rfl, hE, hFi, b2⟩
      have P2 := (unhide HPR).below b2
      have hkl := unhide HKL
      have hlt' : (ms.take k).length < ms.length := by rw [hkl]; exact hlt
      obtain ⟨u0, d0⟩ := P2.cell hlt' 0 (by decide)
      rw [hkl] at d0
      have d0 : w2.cell? ⟨w.heap.size, k * 2, none⟩ = some u0 := d0
      obtain ⟨u1, d1⟩ := P2.cell hlt' 1 (by decide)
      rw [hkl] at d1
      have d1 : w2.cell? ⟨w.heap.size, k * 2 + 1, none⟩ = some u1 := d1
      have fz := P2.frozen
      have hng : w.heap.size ∉ bl := (unhide HFB).not (by omega)
      have hngi : w.heap.size ∉ ib := hFi.not (by omega)
      have HPN := hide (P2.put hlt' hng hE hngi)
      have HFN := hide ((unhide HFB).app (C := wr.heap.size + 1) (fun b hb => by have := (unhide HPR).lt.2 b hb; omega) hFi (by omega))
      have HBN := hide (below_next (unhide HBR) b2)
      have hE0 := hE
      obtain ⟨q0, hbs, hE2⟩ := hE0
      injection hbs with e0 hbs
      subst e0
      injection hbs with e1 hbs
      subst e1
      clear hbs
      obtain ⟨xa0, xc0, rfl, _, _⟩ := hE2.form
      clear hE2
      rw [hkl] at HPN
      clear P2 hE hFi b2 HM hng hngi HPR HFB HBR hkl hlt' HKL
      go_wp2
      go_roundw
      case rel => exact ⟨k + 1, by omega, by go_num, putN_below (unhide HBN) (Nat.le_refl _) [_, _] (k * 2), _, by rw [List.take_add_one, List.getElem?_eq_getElem hlt]; exact unhide HPN, unhide HFN⟩
      case measure => simp [intOf]; omega
    · have hk' : k = ms.length := by omega
      subst hk'
      rw [List.take_length] at hP
      go_wp2
      go_ret
      exact ⟨_, _, rfl, hP.full rfl, hF.cons (Nat.le_refl _) (by omega), hb⟩
end Go.Proofs.Ytiolpmhodbefoaa
