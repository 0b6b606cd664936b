import Derived.Test.YtiolpmhodbefoaaSegRep
import Derived.Test.YtiolpmhodbefoaaSzMsg
namespace Go.Proofs.Ytiolpmhodbefoaa
open Go.RowKit

theorem list5 {α : Type} {l : List α} (h : l.length = 5) : ∃ a b c d e, l = [a, b, c, d, e] := by
  match l, h with
  | [a, b, c, d, e], _ => exact ⟨a, b, c, d, e, rfl⟩
theorem list9 {α : Type} {l : List α} (h : l.length = 9) : ∃ a b c d e f g i j, l = [a, b, c, d, e, f, g, i, j] := by
  match l, h with
  | [a, b, c, d, e, f, g, i, j], _ => exact ⟨a, b, c, d, e, f, g, i, j, rfl⟩
def szStep (m : PStep) : Nat := m.name.size
set_option maxRecDepth 100000 in
set_option maxHeartbeats 800000 in
theorem szStep_walk (a0 a1 a2 : Value) (m : PStep) (L : Nat) (w : World) (h : stepR.R w [a0, a1, a2] m) (hL : L ≤ 1048576) :
    Calls Try.prog 103 #[.agg #[a0, a1, a2], .int .i64 L] w fun e w' => e = .returned (.int .i64 (szI L (szStep m))) ∧ Below w.heap.size w w' := by
  obtain ⟨hq, h1⟩ := h
  injection hq with e0 hq; injection hq with e1 hq; injection hq with e2 hq
  subst e0; subst e1; subst e2
  clear hq
  unfold maxLen at h1
  by_cases n1 : m.name.size ≤ L
  · have hZ : szI L (szStep m) = (L : Int) - (m.name.size : Int) := by
      unfold szStep
      rw [szI_ok n1]; omega
    rw [hZ]
    clear hZ
    go_enter Try.func103, Try.ntmps103
    go_wp2
    go_ret
    exact ⟨rfl, alloc_b w _⟩
  · rw [szI_no (by unfold szStep; omega)]
    go_enter Try.func103, Try.ntmps103
    go_wp2
    go_ret
    exact ⟨rfl, alloc_b w _⟩
def szSteps (ms : List PStep) : Nat := ms.length + (ms.map szStep).sum
set_option maxRecDepth 100000 in
set_option maxHeartbeats 800000 in
theorem szSteps_walk (v : Value) (ms : List PStep) (L : Nat) (w : World) (h : RRow stepR w v ms) (hL : L ≤ 1048576) :
    Calls Try.prog 93 #[v, .int .i64 L] w fun e w' => e = .returned (.int .i64 (szI L (szSteps ms))) ∧ Below w.heap.size w w' := by
  have H := hide h
  obtain ⟨hm, a, cap, rfl, hrow⟩ := h
  unfold maxLen at hm
  clear hrow
  by_cases h0 : L < ms.length
  · go_enter Try.func93, Try.ntmps93
    go_wp2
    go_ret
    exact ⟨ret_int (szI_no (by unfold szSteps; omega)).symm, Below.refl _ _⟩
  · go_enter Try.func93, Try.ntmps93
    go_wp2
    go_loopw [1, 5] (fun l i wr => ∃ k : Nat, k ≤ ms.length ∧ i = .int .i64 k ∧ ms.length + ((ms.take k).map szStep).sum ≤ L ∧ l = .int .i64 ((L - (ms.length + ((ms.take k).map szStep).sum) : Nat) : Int) ∧ Below w.heap.size w wr) (fun _ i _ => ms.length - (intOf i).toNat)
    case atStart => exact ⟨0, Nat.zero_le _, rfl, by simp; omega, by simp; omega, Below.refl _ _⟩
    case round =>
      obtain ⟨k, hk, rfl, hle, rfl, hb⟩ := hrel
      by_cases hlt : k < ms.length
      · have ht := sum_take_snoc szStep ms k ms[k] (List.getElem?_eq_getElem hlt)
        have hts := sum_take_le (ms.map szStep) (k + 1)
        rw [← List.map_take] at hts
        obtain ⟨_, a', cap', he, hrow⟩ := (unhide H).below hb
        injection he with he1 he2 he3; subst he1; subst he3; clear he2
        obtain ⟨b, o, rfl, vs, hR, hc⟩ := hrow k ms[k] (List.getElem?_eq_getElem hlt)
        obtain ⟨a0, a1, a2, rfl⟩ := list3 (stepR.len hR)
        have c0 : wr.cell? ⟨b, o + k * 3, none⟩ = _ := hc 0 _ rfl
        have c1 : wr.cell? ⟨b, o + k * 3 + 1, none⟩ = _ := hc 1 _ rfl
        have c2 : wr.cell? ⟨b, o + k * 3 + 2, none⟩ = _ := hc 2 _ rfl
        have HM := hide (szStep_walk a0 a1 a2 ms[k] (L - (ms.length + ((ms.take k).map szStep).sum)) wr hR (by omega))
        clear hrow hc hR
        have HS : Hid (szSteps ms = ms.length + (ms.map szStep).sum) := rfl
        generalize (ms.map szStep).sum = T9 at *
        generalize ((ms.take k).map szStep).sum = T at *
        have hT2 : ∃ T2, ((ms.take (k + 1)).map szStep).sum = T2 := ⟨_, rfl⟩
        obtain ⟨T2, hT2⟩ := hT2
        rw [hT2] at ht hts
        have HT := hide hT2
        clear hT2
        generalize szStep ms[k] = z at *
        by_cases hn : ms.length + T + z ≤ L
        · rw [szI_ok (by omega)] at HM
          go_wp2_with fail
          refine (unhide HM).mono ?_
          rintro e w1 ⟨rfl, b1⟩
          have B1 := hide (below_next hb b1)
          clear HM b1 hb c0 c1 c2
          go_wp2
          go_roundw
          case rel => exact ⟨k + 1, by omega, by go_num, by rw [unhide HT]; omega, by rw [unhide HT]; go_num, unhide B1⟩
          case measure => simp [intOf]; omega
        · rw [szI_no (by omega)] at HM
          go_wp2_with fail
          refine (unhide HM).mono ?_
          rintro e w1 ⟨rfl, b1⟩
          have B1 := hide (below_next hb b1)
          clear HM b1 hb c0 c1 c2
          go_wp2
          go_ret
          exact ⟨ret_int (szI_no (by rw [unhide HS]; omega)).symm, unhide B1⟩
      · have hk' : k = ms.length := by omega
        subst hk'
        rw [List.take_length] at hle ⊢
        go_wp2
        go_ret
        exact ⟨ret_int (szI_ok (n := szSteps ms) hle).symm, hb⟩
def szFop (m : PFOp) : Nat := m.s.size + szSteps m.steps
set_option maxRecDepth 100000 in
set_option maxHeartbeats 800000 in
theorem szFop_walk (a0 a1 a2 a3 a4 : Value) (m : PFOp) (L : Nat) (w : World) (h : fopR.R w [a0, a1, a2, a3, a4] m) (hL : L ≤ 1048576) :
    Calls Try.prog 79 #[.agg #[a0, a1, a2, a3, a4], .int .i64 L] w fun e w' => e = .returned (.int .i64 (szI L (szFop m))) ∧ Below w.heap.size w w' := by
  obtain ⟨q, hq, hp, h1⟩ := h
  injection hq with e0 hq; injection hq with e1 hq; injection hq with e2 hq; injection hq with e3 hq; injection hq with e4 hq
  subst e0; subst e1; subst e2; subst e3; subst e4
  clear hq
  unfold maxLen at hp
  have H1 : Hid (∀ o, Calls _ _ _ (w.alloc o) _) := fun o => szSteps_walk a4 m.steps (L - m.s.size) _ (h1.below (alloc_b w o)) (by omega)
  clear h1
  by_cases hn : m.s.size ≤ L
  · have hZ : szI L (szFop m) = szI (L - m.s.size) (szSteps m.steps) := by
      unfold szFop
      by_cases h2 : szSteps m.steps ≤ L - m.s.size
      · rw [szI_ok h2, szI_ok (by omega)]; congr 1; omega
      · rw [szI_no h2, szI_no (by omega)]
    rw [hZ]
    clear hZ
    have hge := szI_ge (L - m.s.size) (szSteps m.steps)
    have hle := szI_le (L - m.s.size) (szSteps m.steps)
    generalize szI (L - m.s.size) (szSteps m.steps) = z at *
    have hsub : ((L - m.s.size : Nat) : Int) = (L : Int) - (m.s.size : Int) := by omega
    rw [hsub] at H1 hle
    clear hsub
    go_enter Try.func79, Try.ntmps79
    go_wp2_with fail
    refine (unhide H1 _).mono ?_
    rintro e w1 ⟨rfl, b1⟩
    have B1 := hide (below_next (alloc_b w _) b1)
    clear b1 H1
    by_cases hz : z < 0
    · have : z = -1 := by omega
      subst this
      clear hz hge hle
      go_wp2
      go_ret
      exact ⟨rfl, unhide B1⟩
    · go_wp2
      go_ret
      exact ⟨rfl, unhide B1⟩
  · rw [szI_no (by unfold szFop; omega)]
    go_enter Try.func79, Try.ntmps79
    go_wp2
    go_ret
    exact ⟨rfl, alloc_b w _⟩
def szFops (ms : List PFOp) : Nat := ms.length + (ms.map szFop).sum
set_option maxRecDepth 100000 in
set_option maxHeartbeats 800000 in
theorem szFops_walk (v : Value) (ms : List PFOp) (L : Nat) (w : World) (h : RRow fopR w v ms) (hL : L ≤ 1048576) :
    Calls Try.prog 64 #[v, .int .i64 L] w fun e w' => e = .returned (.int .i64 (szI L (szFops ms))) ∧ Below w.heap.size w w' := by
  have H := hide h
  obtain ⟨hm, a, cap, rfl, hrow⟩ := h
  unfold maxLen at hm
  clear hrow
  by_cases h0 : L < ms.length
  · go_enter Try.func64, Try.ntmps64
    go_wp2
    go_ret
    exact ⟨ret_int (szI_no (by unfold szFops; omega)).symm, Below.refl _ _⟩
  · go_enter Try.func64, Try.ntmps64
    go_wp2
    go_loopw [1, 5] (fun l i wr => ∃ k : Nat, k ≤ ms.length ∧ i = .int .i64 k ∧ ms.length + ((ms.take k).map szFop).sum ≤ L ∧ l = .int .i64 ((L - (ms.length + ((ms.take k).map szFop).sum) : Nat) : Int) ∧ Below w.heap.size w wr) (fun _ i _ => ms.length - (intOf i).toNat)
    case atStart => exact ⟨0, Nat.zero_le _, rfl, by simp; omega, by simp; omega, Below.refl _ _⟩
    case round =>
      obtain ⟨k, hk, rfl, hle, rfl, hb⟩ := hrel
      by_cases hlt : k < ms.length
      · have ht := sum_take_snoc szFop ms k ms[k] (List.getElem?_eq_getElem hlt)
        have hts := sum_take_le (ms.map szFop) (k + 1)
        rw [← List.map_take] at hts
        obtain ⟨_, a', cap', he, hrow⟩ := (unhide H).below hb
        injection he with he1 he2 he3; subst he1; subst he3; clear he2
        obtain ⟨b, o, rfl, vs, hR, hc⟩ := hrow k ms[k] (List.getElem?_eq_getElem hlt)
        obtain ⟨a0, a1, a2, a3, a4, rfl⟩ := list5 (fopR.len hR)
        have c0 : wr.cell? ⟨b, o + k * 5, none⟩ = _ := hc 0 _ rfl
        have c1 : wr.cell? ⟨b, o + k * 5 + 1, none⟩ = _ := hc 1 _ rfl
        have c2 : wr.cell? ⟨b, o + k * 5 + 2, none⟩ = _ := hc 2 _ rfl
        have c3 : wr.cell? ⟨b, o + k * 5 + 3, none⟩ = _ := hc 3 _ rfl
        have c4 : wr.cell? ⟨b, o + k * 5 + 4, none⟩ = _ := hc 4 _ rfl
        have HM := hide (szFop_walk a0 a1 a2 a3 a4 ms[k] (L - (ms.length + ((ms.take k).map szFop).sum)) wr hR (by omega))
        clear hrow hc hR
        have HS : Hid (szFops ms = ms.length + (ms.map szFop).sum) := rfl
        generalize (ms.map szFop).sum = T9 at *
        generalize ((ms.take k).map szFop).sum = T at *
        have hT2 : ∃ T2, ((ms.take (k + 1)).map szFop).sum = T2 := ⟨_, rfl⟩
        obtain ⟨T2, hT2⟩ := hT2
        rw [hT2] at ht hts
        have HT := hide hT2
        clear hT2
        generalize szFop ms[k] = z at *
        by_cases hn : ms.length + T + z ≤ L
        · rw [szI_ok (by omega)] at HM
          go_wp2_with fail
          refine (unhide HM).mono ?_
          rintro e w1 ⟨rfl, b1⟩
          have B1 := hide (below_next hb b1)
          clear HM b1 hb c0 c1 c2 c3 c4
          go_wp2
          go_roundw
          case rel => exact ⟨k + 1, by omega, by go_num, by rw [unhide HT]; omega, by rw [unhide HT]; go_num, unhide B1⟩
          case measure => simp [intOf]; omega
        · rw [szI_no (by omega)] at HM
          go_wp2_with fail
          refine (unhide HM).mono ?_
          rintro e w1 ⟨rfl, b1⟩
          have B1 := hide (below_next hb b1)
          clear HM b1 hb c0 c1 c2 c3 c4
          go_wp2
          go_ret
          exact ⟨ret_int (szI_no (by rw [unhide HS]; omega)).symm, unhide B1⟩
      · have hk' : k = ms.length := by omega
        subst hk'
        rw [List.take_length] at hle ⊢
        go_wp2
        go_ret
        exact ⟨ret_int (szI_ok (n := szFops ms) hle).symm, hb⟩
def szSel (m : PSel) : Nat := m.name.size + szFops m.cond
set_option maxRecDepth 100000 in
set_option maxHeartbeats 800000 in
theorem szSel_walk (a0 a1 a2 a3 a4 a5 a6 a7 a8 : Value) (m : PSel) (L : Nat) (w : World) (h : selR.R w [a0, a1, a2, a3, a4, a5, a6, a7, a8] m) (hL : L ≤ 1048576) :
    Calls Try.prog 47 #[.agg #[a0, a1, a2, a3, a4, a5, a6, a7, a8], .int .i64 L] w fun e w' => e = .returned (.int .i64 (szI L (szSel m))) ∧ Below w.heap.size w w' := by
  obtain ⟨q, hq, hp, h1⟩ := h
  injection hq with e0 hq; injection hq with e1 hq; injection hq with e2 hq; injection hq with e3 hq; injection hq with e4 hq; injection hq with e5 hq; injection hq with e6 hq; injection hq with e7 hq; injection hq with e8 hq
  subst e0; subst e1; subst e2; subst e3; subst e4; subst e5; subst e6; subst e7; subst e8
  clear hq
  unfold maxLen at hp
  have H1 : Hid (∀ o, Calls _ _ _ (w.alloc o) _) := fun o => szFops_walk a8 m.cond (L - m.name.size) _ (h1.below (alloc_b w o)) (by omega)
  clear h1
  by_cases hn : m.name.size ≤ L
  · have hZ : szI L (szSel m) = szI (L - m.name.size) (szFops m.cond) := by
      unfold szSel
      by_cases h2 : szFops m.cond ≤ L - m.name.size
      · rw [szI_ok h2, szI_ok (by omega)]; congr 1; omega
      · rw [szI_no h2, szI_no (by omega)]
    rw [hZ]
    clear hZ
    have hge := szI_ge (L - m.name.size) (szFops m.cond)
    have hle := szI_le (L - m.name.size) (szFops m.cond)
    generalize szI (L - m.name.size) (szFops m.cond) = z at *
    have hsub : ((L - m.name.size : Nat) : Int) = (L : Int) - (m.name.size : Int) := by omega
    rw [hsub] at H1 hle
    clear hsub
    go_enter Try.func47, Try.ntmps47
    go_wp2_with fail
    refine (unhide H1 _).mono ?_
    rintro e w1 ⟨rfl, b1⟩
    have B1 := hide (below_next (alloc_b w _) b1)
    clear b1 H1
    by_cases hz : z < 0
    · have : z = -1 := by omega
      subst this
      clear hz hge hle
      go_wp2
      go_ret
      exact ⟨rfl, unhide B1⟩
    · go_wp2
      go_ret
      exact ⟨rfl, unhide B1⟩
  · rw [szI_no (by unfold szSel; omega)]
    go_enter Try.func47, Try.ntmps47
    go_wp2
    go_ret
    exact ⟨rfl, alloc_b w _⟩
def szSels (ms : List PSel) : Nat := ms.length + (ms.map szSel).sum
set_option maxRecDepth 100000 in
set_option maxHeartbeats 800000 in
theorem szSels_walk (v : Value) (ms : List PSel) (L : Nat) (w : World) (h : RRow selR w v ms) (hL : L ≤ 1048576) :
    Calls Try.prog 26 #[v, .int .i64 L] w fun e w' => e = .returned (.int .i64 (szI L (szSels ms))) ∧ Below w.heap.size w w' := by
  have H := hide h
  obtain ⟨hm, a, cap, rfl, hrow⟩ := h
  unfold maxLen at hm
  clear hrow
  by_cases h0 : L < ms.length
  · go_enter Try.func26, Try.ntmps26
    go_wp2
    go_ret
    exact ⟨ret_int (szI_no (by unfold szSels; omega)).symm, Below.refl _ _⟩
  · go_enter Try.func26, Try.ntmps26
    go_wp2
    go_loopw [1, 5] (fun l i wr => ∃ k : Nat, k ≤ ms.length ∧ i = .int .i64 k ∧ ms.length + ((ms.take k).map szSel).sum ≤ L ∧ l = .int .i64 ((L - (ms.length + ((ms.take k).map szSel).sum) : Nat) : Int) ∧ Below w.heap.size w wr) (fun _ i _ => ms.length - (intOf i).toNat)
    case atStart => exact ⟨0, Nat.zero_le _, rfl, by simp; omega, by simp; omega, Below.refl _ _⟩
    case round =>
      obtain ⟨k, hk, rfl, hle, rfl, hb⟩ := hrel
      by_cases hlt : k < ms.length
      · have ht := sum_take_snoc szSel ms k ms[k] (List.getElem?_eq_getElem hlt)
        have hts := sum_take_le (ms.map szSel) (k + 1)
        rw [← List.map_take] at hts
        obtain ⟨_, a', cap', he, hrow⟩ := (unhide H).below hb
        injection he with he1 he2 he3; subst he1; subst he3; clear he2
        obtain ⟨b, o, rfl, vs, hR, hc⟩ := hrow k ms[k] (List.getElem?_eq_getElem hlt)
        obtain ⟨a0, a1, a2, a3, a4, a5, a6, a7, a8, rfl⟩ := list9 (selR.len hR)
        have c0 : wr.cell? ⟨b, o + k * 9, none⟩ = _ := hc 0 _ rfl
        have c1 : wr.cell? ⟨b, o + k * 9 + 1, none⟩ = _ := hc 1 _ rfl
        have c2 : wr.cell? ⟨b, o + k * 9 + 2, none⟩ = _ := hc 2 _ rfl
        have c3 : wr.cell? ⟨b, o + k * 9 + 3, none⟩ = _ := hc 3 _ rfl
        have c4 : wr.cell? ⟨b, o + k * 9 + 4, none⟩ = _ := hc 4 _ rfl
        have c5 : wr.cell? ⟨b, o + k * 9 + 5, none⟩ = _ := hc 5 _ rfl
        have c6 : wr.cell? ⟨b, o + k * 9 + 6, none⟩ = _ := hc 6 _ rfl
        have c7 : wr.cell? ⟨b, o + k * 9 + 7, none⟩ = _ := hc 7 _ rfl
        have c8 : wr.cell? ⟨b, o + k * 9 + 8, none⟩ = _ := hc 8 _ rfl
        have HM := hide (szSel_walk a0 a1 a2 a3 a4 a5 a6 a7 a8 ms[k] (L - (ms.length + ((ms.take k).map szSel).sum)) wr hR (by omega))
        clear hrow hc hR
        have HS : Hid (szSels ms = ms.length + (ms.map szSel).sum) := rfl
        generalize (ms.map szSel).sum = T9 at *
        generalize ((ms.take k).map szSel).sum = T at *
        have hT2 : ∃ T2, ((ms.take (k + 1)).map szSel).sum = T2 := ⟨_, rfl⟩
        obtain ⟨T2, hT2⟩ := hT2
        rw [hT2] at ht hts
        have HT := hide hT2
        clear hT2
        generalize szSel ms[k] = z at *
        by_cases hn : ms.length + T + z ≤ L
        · rw [szI_ok (by omega)] at HM
          go_wp2_with fail
          refine (unhide HM).mono ?_
          rintro e w1 ⟨rfl, b1⟩
          have B1 := hide (below_next hb b1)
          clear HM b1 hb c0 c1 c2 c3 c4 c5 c6 c7 c8
          go_wp2
          go_roundw
          case rel => exact ⟨k + 1, by omega, by go_num, by rw [unhide HT]; omega, by rw [unhide HT]; go_num, unhide B1⟩
          case measure => simp [intOf]; omega
        · rw [szI_no (by omega)] at HM
          go_wp2_with fail
          refine (unhide HM).mono ?_
          rintro e w1 ⟨rfl, b1⟩
          have B1 := hide (below_next hb b1)
          clear HM b1 hb c0 c1 c2 c3 c4 c5 c6 c7 c8
          go_wp2
          go_ret
          exact ⟨ret_int (szI_no (by rw [unhide HS]; omega)).symm, unhide B1⟩
      · have hk' : k = ms.length := by omega
        subst hk'
        rw [List.take_length] at hle ⊢
        go_wp2
        go_ret
        exact ⟨ret_int (szI_ok (n := szSels ms) hle).symm, hb⟩
def szSeg (m : PSeg) : Nat := szSels m.sels
set_option maxRecDepth 100000 in
set_option maxHeartbeats 800000 in
theorem szSeg_walk (a0 a1 : Value) (m : PSeg) (L : Nat) (w : World) (h : segR.R w [a0, a1] m) (hL : L ≤ 1048576) :
    Calls Try.prog 14 #[.agg #[a0, a1], .int .i64 L] w fun e w' => e = .returned (.int .i64 (szI L (szSeg m))) ∧ Below w.heap.size w w' := by
  obtain ⟨q, hq, h1⟩ := h
  injection hq with e0 hq; injection hq with e1 hq
  subst e0; subst e1
  have H1 : Hid (∀ o, Calls _ _ _ (w.alloc o) _) := fun o => szSels_walk a1 m.sels L _ (h1.below (alloc_b w o)) hL
  have hge := szI_ge L (szSeg m)
  have hle := szI_le L (szSeg m)
  unfold szSeg at *
  generalize szI L (szSels m.sels) = z at *
  clear h1 hq
  go_enter Try.func14, Try.ntmps14
  go_wp2_with fail
  refine (unhide H1 _).mono ?_
  rintro e w1 ⟨rfl, b1⟩
  have B1 := hide (below_next (alloc_b w _) b1)
  clear b1 H1
  by_cases hz : z < 0
  · have : z = -1 := by omega
    subst this
    clear hz hge hle
    go_wp2
    go_ret
    exact ⟨rfl, unhide B1⟩
  · go_wp2
    go_ret
    exact ⟨rfl, unhide B1⟩
def szSegs (ms : List PSeg) : Nat := ms.length + (ms.map szSeg).sum
set_option maxRecDepth 100000 in
set_option maxHeartbeats 800000 in
theorem szSegs_walk (v : Value) (ms : List PSeg) (L : Nat) (w : World) (h : RRow segR w v ms) (hL : L ≤ 1048576) :
    Calls Try.prog 5 #[v, .int .i64 L] w fun e w' => e = .returned (.int .i64 (szI L (szSegs ms))) ∧ Below w.heap.size w w' := by
  have H := hide h
  obtain ⟨hm, a, cap, rfl, hrow⟩ := h
  unfold maxLen at hm
  clear hrow
  by_cases h0 : L < ms.length
  · go_enter Try.func5, Try.ntmps5
    go_wp2
    go_ret
    exact ⟨ret_int (szI_no (by unfold szSegs; omega)).symm, Below.refl _ _⟩
  · go_enter Try.func5, Try.ntmps5
    go_wp2
    go_loopw [1, 5] (fun l i wr => ∃ k : Nat, k ≤ ms.length ∧ i = .int .i64 k ∧ ms.length + ((ms.take k).map szSeg).sum ≤ L ∧ l = .int .i64 ((L - (ms.length + ((ms.take k).map szSeg).sum) : Nat) : Int) ∧ Below w.heap.size w wr) (fun _ i _ => ms.length - (intOf i).toNat)
    case atStart => exact ⟨0, Nat.zero_le _, rfl, by simp; omega, by simp; omega, Below.refl _ _⟩
    case round =>
      obtain ⟨k, hk, rfl, hle, rfl, hb⟩ := hrel
      by_cases hlt : k < ms.length
      · have ht := sum_take_snoc szSeg ms k ms[k] (List.getElem?_eq_getElem hlt)
        have hts := sum_take_le (ms.map szSeg) (k + 1)
        rw [← List.map_take] at hts
        obtain ⟨_, a', cap', he, hrow⟩ := (unhide H).below hb
        injection he with he1 he2 he3; subst he1; subst he3; clear he2
        obtain ⟨b, o, rfl, vs, hR, hc⟩ := hrow k ms[k] (List.getElem?_eq_getElem hlt)
        obtain ⟨a0, a1, rfl⟩ := list2 (segR.len hR)
        have c0 : wr.cell? ⟨b, o + k * 2, none⟩ = _ := hc 0 _ rfl
        have c1 : wr.cell? ⟨b, o + k * 2 + 1, none⟩ = _ := hc 1 _ rfl
        have HM := hide (szSeg_walk a0 a1 ms[k] (L - (ms.length + ((ms.take k).map szSeg).sum)) wr hR (by omega))
        clear hrow hc hR
        have HS : Hid (szSegs ms = ms.length + (ms.map szSeg).sum) := rfl
        generalize (ms.map szSeg).sum = T9 at *
        generalize ((ms.take k).map szSeg).sum = T at *
        have hT2 : ∃ T2, ((ms.take (k + 1)).map szSeg).sum = T2 := ⟨_, rfl⟩
        obtain ⟨T2, hT2⟩ := hT2
        rw [hT2] at ht hts
        have HT := hide hT2
        clear hT2
        generalize szSeg ms[k] = z at *
        by_cases hn : ms.length + T + z ≤ L
        · rw [szI_ok (by omega)] at HM
          go_wp2_with fail
          refine (unhide HM).mono ?_
          rintro e w1 ⟨rfl, b1⟩
          have B1 := hide (below_next hb b1)
          clear HM b1 hb c0 c1
          go_wp2
          go_roundw
          case rel => exact ⟨k + 1, by omega, by go_num, by rw [unhide HT]; omega, by rw [unhide HT]; go_num, unhide B1⟩
          case measure => simp [intOf]; omega
        · rw [szI_no (by omega)] at HM
          go_wp2_with fail
          refine (unhide HM).mono ?_
          rintro e w1 ⟨rfl, b1⟩
          have B1 := hide (below_next hb b1)
          clear HM b1 hb c0 c1
          go_wp2
          go_ret
          exact ⟨ret_int (szI_no (by rw [unhide HS]; omega)).symm, unhide B1⟩
      · have hk' : k = ms.length := by omega
        subst hk'
        rw [List.take_length] at hle ⊢
        go_wp2
        go_ret
        exact ⟨ret_int (szI_ok (n := szSegs ms) hle).symm, hb⟩
end Go.Proofs.Ytiolpmhodbefoaa
