import Derived.Sort.Walk0
import Derived.Deep.RegionHeld3
import Derived.Test.YtcffdclgddmigaaGreatDoorBn10
namespace Go.Proofs.YtcffdclgddmigaaGreatDoor
open Go.RowKit

theorem flat_len : ∀ L : List Part, (L.flatMap partC).length = L.length * 2
  | [] => rfl
  | p :: r => by rw [List.flatMap_cons, List.length_append, flat_len r]; simp [partC]; omega
theorem flat_set (L : List Part) (j : Nat) (p : Part) (h : j < L.length) : ((L.flatMap partC).set (j * 2) (.string (strOf p.1))).set (j * 2 + 1) (.string (strOf p.2)) = (L.set j p).flatMap partC := by
  induction L generalizing j with
  | nil => simp at h
  | cons q r ih =>
    cases j with
    | zero => rfl
    | succ j =>
      have := ih j (by simpa using h)
      rw [List.set_cons_succ, List.flatMap_cons, List.flatMap_cons, ← this, show (j + 1) * 2 = j * 2 + 2 from by omega]
      rfl
theorem PR.set {w : World} {B g n cap : Nat} {L : List Part} (h : PR w B (.slice (some ⟨g, 0, none⟩) n cap) L) (hn' : n = L.length) (j : Nat) (hj : j < L.length) (p : Part) :
    PR ((w.setCell ⟨g, j * 2, none⟩ (.string (strOf p.1))).setCell ⟨g, j * 2 + 1, none⟩ (.string (strOf p.2))) B (.slice (some ⟨g, 0, none⟩) n cap) (L.set j p) := by
  subst hn'
  obtain ⟨hl, ⟨hv, h0⟩ | ⟨g', cap', cur, hv, hB, hg, hn, hc, hsz, ht⟩⟩ := h
  · omega
  · injection hv with hv1 hv2 hv3
    injection hv1 with hv1
    injection hv1 with hv1
    subst hv1; subst hv3
    have h1 := heap_setCell_same w g (j * 2) cur 95 (.string (strOf p.1)) hg
    have h2 := heap_setCell_same _ g (j * 2 + 1) _ 95 (.string (strOf p.2)) h1
    unfold PR
    refine ⟨flat_len _, .inr ⟨g, cap, _, by simp, hB, h2, by simpa using hn, hc, by simp [hsz], ?_⟩⟩
    rw [← flat_set L j p hj, ← ht, List.length_set, Array.toList_setIfInBounds, Array.toList_setIfInBounds, List.take_set, List.take_set]
theorem list_snoc (A : List Part) : A = [] ∨ ∃ A' q, A = A' ++ [q] := by
  rcases List.eq_nil_or_concat A with h | ⟨A', q, h⟩
  · exact .inl h
  · exact .inr ⟨A', q, by rw [h]; simp⟩
theorem below_drewN {B : Nat} {w w' : World} (h : Below B w w') (n : Nat) : Below B w (w'.drewN n) := ⟨h.os, h.tape, h.output, h.size, h.block⟩
theorem PR.fz {w : World} {B g n cap : Nat} {L : List Part} (h : PR w B (.slice (some ⟨g, 0, none⟩) n cap) L) (o : Nat) : w.frozen? ⟨g, o, none⟩ = false := by
  obtain ⟨hl, ⟨hv, h0⟩ | ⟨g', cap', cur, hv, hB, hg, _⟩⟩ := h
  · cases hv
  · injection hv with hv1 hv2 hv3
    injection hv1 with hv1
    injection hv1 with hv1
    subst hv1
    exact Lib.frozen_of_heap hg o
theorem PR.fz1 {w : World} {B g n cap : Nat} {L : List Part} (h : PR w B (.slice (some ⟨g, 0, none⟩) n cap) L) (o o' : Nat) (v : Value) : (w.setCell ⟨g, o, none⟩ v).frozen? ⟨g, o', none⟩ = false := by
  obtain ⟨hl, ⟨hv, h0⟩ | ⟨g', cap', cur, hv, hB, hg, _⟩⟩ := h
  · cases hv
  · injection hv with hv1 hv2 hv3
    injection hv1 with hv1
    injection hv1 with hv1
    subst hv1
    exact Lib.frozen_of_heap (heap_setCell_same w g o cur 95 v hg) o'
theorem PR.cell1 {w : World} {B g n cap : Nat} {L : List Part} (h : PR w B (.slice (some ⟨g, 0, none⟩) n cap) L) (o o' : Nat) (v u : Value) (ho : o ≠ o') (hc : w.cell? ⟨g, o', none⟩ = some u) : (w.setCell ⟨g, o, none⟩ v).cell? ⟨g, o', none⟩ = some u := by
  obtain ⟨hl, ⟨hv, h0⟩ | ⟨g', cap', cur, hv, hB, hg, _⟩⟩ := h
  · cases hv
  · injection hv with hv1 hv2 hv3
    injection hv1 with hv1
    injection hv1 with hv1
    subst hv1
    rw [Lib.cell_of_heap hg] at hc
    rw [Lib.cell_of_heap (heap_setCell_same w g o cur 95 v hg), Array.getElem?_setIfInBounds_ne ho, hc]
theorem PR.cellsAt {w : World} {B g n cap : Nat} {L : List Part} (h : PR w B (.slice (some ⟨g, 0, none⟩) n cap) L) (j : Nat) (hj : j < L.length) (p : Part) (hp : L[j] = p) :
    w.cell? ⟨g, j * 2, none⟩ = some (.string (strOf p.1)) ∧ w.cell? ⟨g, j * 2 + 1, none⟩ = some (.string (strOf p.2)) ∧ g < w.heap.size := by
  obtain ⟨g2, cap2, he, _, hlt, a, b⟩ := h.cells j hj
  injection he with he1 he2 he3
  injection he1 with he1
  injection he1 with he1
  subst he1; subst hp
  exact ⟨a, b, hlt⟩
theorem infoPart : (Tryz.prog.info? 95).map (fun i => (i.zero, i.size, i.bytes)) = some (some (.agg #[.string ByteArray.empty, .string ByteArray.empty]), 2, 32) := by kernel_rfl
/-- The parts in order, from the end on. -/
def RR (ps : List Part) (j : Nat) : List Part := (ps.take j).foldl (fun acc p => insR p acc) []
theorem RR_succ (ps : List Part) (j : Nat) (h : j < ps.length) : RR ps (j + 1) = insR ps[j] (RR ps j) := by
  unfold RR
  rw [List.take_succ_eq_append_getElem h, List.foldl_append]; rfl
theorem RR_end (ps : List Part) (j : Nat) (h : ps.length ≤ j) : (RR ps j).reverse = isort ps := by
  unfold RR isort; rw [List.take_of_length_le h]
theorem insR_len (p : Part) : ∀ l, (insR p l).length = l.length + 1
  | [] => rfl
  | q :: r => by unfold insR; split <;> simp [insR_len p r]
theorem RR_len (ps : List Part) : ∀ j, j ≤ ps.length → (RR ps j).length = j
  | 0, _ => by simp [RR]
  | j + 1, h => by rw [RR_succ ps j (by omega), insR_len, RR_len ps j (by omega)]
theorem lit2s (w : World) (t : TypeId) (x y : Value) : ∀ j u, [x, y][j]? = some u → (w.alloc (.cells #[x, y] t)).cell? ((⟨w.heap.size, 0, none⟩ : Addr).add j) = some u := lit2 w t x y

set_option maxRecDepth 100000 in
set_option maxHeartbeats 4000000 in
theorem sorted_walk (B : Nat) (v : Value) (ps : List Part) (w : World) (h : PR w B v ps) (hl : ps.length ≤ 40000000) :
    Calls Tryz.prog 124 #[v] w fun e w' => ∃ v', e = .returned v' ∧ PR w' w.heap.size v' (isort ps) ∧ Below w.heap.size w w' := by
  obtain ⟨i0, hi0, hz0, hz1, hz2⟩ := info_parts infoPart
  obtain ⟨x, len, cap, rfl, hlen⟩ : ∃ x len cap, v = .slice x len cap ∧ len = ps.length := by
    rcases h.2 with ⟨hv, h0⟩ | ⟨g, cap, cur, hv, _⟩
    · exact ⟨_, _, _, hv, h0.symm⟩
    · exact ⟨_, _, _, hv, rfl⟩
  subst hlen
  have HP := hide h
  clear h
  go_enter Tryz.func124, Tryz.ntmps124
  go_wp2_with fail
  go_loopw [3, 4] (fun r k wr => ∃ j : Nat, k = .int .i64 (j : Int) ∧ j ≤ ps.length ∧ PR wr w.heap.size r (RR ps j).reverse ∧ Below w.heap.size w wr) (fun _ k _ => ps.length - (intOf k).toNat)
  case atStart =>
    exact ⟨0, rfl, Nat.zero_le _, ⟨rfl, .inr ⟨w.heap.size, 0, #[], rfl, Nat.le_refl _, heap_alloc_new w _, Nat.le_refl _, by unfold maxLen; omega, rfl, rfl⟩⟩, (Below.refl _ _).alloc (Nat.le_refl _) _⟩
  case round =>
    obtain ⟨j, rfl, hj, hown, hb⟩ := hrel
    have HB := hide hb
    have hwsz := hb.size
    clear hb
    by_cases hin : j < ps.length
    · have t1 : ((j : Int) < (ps.length : Int)) = True := eq_true (by omega)
      obtain ⟨g, cap', he, hgB, hgl, c0', c1'⟩ := (unhide HP).cells j hin
      injection he with he1 he2 he3
      subst he1; subst he3
      have c0 := ((unhide HB).cell (p := ⟨g, j * 2, none⟩) hgl).trans c0'
      have c1 := ((unhide HB).cell (p := ⟨g, j * 2 + 1, none⟩) hgl).trans c1'
      have HS := hide (RR_succ ps j hin)
      have hlen := RR_len ps j hj
      have HLEN := hide hlen
      generalize ps[j] = p at *
      generalize hR : RR ps j = R at *
      have hRl : R.reverse.length = j := by rw [List.length_reverse]; exact hlen
      clear c0' c1' hlen hR
      have hown0 : wr.ownsRow w.heap.size 95 2 u3 R.reverse.length (R.reverse.flatMap partC) := hown
      go_wp2_with (at_builtin; refine wpList_append_own _ rfl (.tmp 14) (.tmp 19) 96 rfl w.heap.size 95 i0 (.agg #[.string ByteArray.empty, .string ByteArray.empty]) 2 32 Tryz.underlying96 hi0 hz0 hz1 hz2 rfl (by decide) _ _ _ rfl (hown0.alloc _) ⟨wr.heap.size, 0, none⟩ 1 1 (partC p) rfl rfl (lit2s _ _ _ _) (fun u hu => by { simp [partC] at hu; rcases hu with rfl | rfl <;> rfl }) (by unfold maxLen; omega) (by omega) (by simp; omega) ?_; intro v1 w1 own1 hg1 _; have HB1 := hide (((unhide HB).alloc hwsz _).grown hg1 (by simp; omega) (fun k hk => (hown0.lt k hk).1)); have P1 : PR w1 w.heap.size v1 (R.reverse ++ [p]) := (by unfold PR; rw [List.length_append, List.flatMap_append]; simpa using own1); have hL1 : (R.reverse ++ [p]).length = j + 1 := (by rw [List.length_append, hRl]; rfl); obtain ⟨g1, cap1, hv1, hg1B, _, _, _⟩ := P1.cells j (by omega); rw [hL1] at hv1; subst hv1; have HP1 := hide P1; clear own1 hg1 P1)
      clear hown hown0 HB c0 c1
      go_loopw [5] (fun k wx => ∃ (A C : List Part), k = .int .i64 (A.length : Int) ∧ A.length + C.length = j ∧ PR wx w.heap.size (.slice (some ⟨g1, 0, none⟩) (j + 1) cap1) (A ++ p :: C) ∧ Below w.heap.size w wx ∧ insR p R = C.reverse ++ insR p A.reverse) (fun k _ => (intOf k).toNat)
      case atStart =>
        exact ⟨R.reverse, [], by rw [hRl], by simpa using hRl, unhide HP1, unhide HB1, by simp⟩
      case round =>
        obtain ⟨A, C, rfl, hAC, hP, hBx, hins⟩ := hrel
        have HI := hide hins
        have HPx := hide hP
        have HBx := hide hBx
        have hxs := hBx.size
        clear hins hP hBx HP1 HB1
        rcases list_snoc A with rfl | ⟨A', q, rfl⟩
        · have HF : Hid (([] ++ p :: C) = (RR ps (j + 1)).reverse) := by
            show _ = _
            rw [unhide HS, unhide HI]; simp [insR]
          have t2 : (0 < (0 : Int)) = False := by simp
          simp only [List.length_nil, Int.natCast_zero]
          go_wp2_with fail
          go_quiet (fail)
          go_wp2
          exact ⟨⟨j + 1, by go_num, by omega, by rw [← unhide HF]; exact unhide HPx, below_drewN (unhide HBx) _⟩, by simp [intOf]; omega⟩
        · have hm : (A' ++ [q]).length = A'.length + 1 := by simp
          rw [hm]
          rw [hm] at hAC
          have hPl : ((A' ++ [q]) ++ p :: C).length = j + 1 := by simp at hAC ⊢; omega
          have ep : ((A' ++ [q]) ++ p :: C)[A'.length + 1]'(by omega) = p := by simp
          have eq : ((A' ++ [q]) ++ p :: C)[A'.length]'(by omega) = q := by simp
          obtain ⟨p0, p1, hgl2⟩ := (unhide HPx).cellsAt (A'.length + 1) (by omega) p ep
          obtain ⟨q0, q1, _⟩ := (unhide HPx).cellsAt A'.length (by omega) q eq
          have HSW : Hid (((((A' ++ [q]) ++ p :: C).set (A'.length + 1) q).set A'.length p) = A' ++ p :: (q :: C)) := by
            show _ = _
            simp
          have hmj : A'.length + 1 ≤ j := by omega
          have HI2 : Hid (insR p R = C.reverse ++ insR p (q :: A'.reverse)) := by
            show _ = _
            rw [unhide HI]; simp
          clear ep eq HI
          generalize hmm : A'.length = m at *
          have t2 : ((0 : Int) < (m : Int) + 1) = True := eq_true (by omega)
          have t3 : (0 : Int) ≤ (m : Int) := by omega
          have t4 : (m : Int) + 1 ≤ (j : Int) := by omega
          by_cases hpq : p.1 < q.1
          · have hlt : Op.bytesLess (strOf p.1).toList (strOf q.1).toList = true := by
              rw [bytesLess_eq, ByteArray.toList_eq, ByteArray.toList_eq, strOf_toList, strOf_toList]; exact decide_eq_true hpq
            have HI3 : Hid (insR p R = (q :: C).reverse ++ insR p A'.reverse) := by
              show _ = _
              rw [unhide HI2, insR, if_pos hpq]; simp
            go_wp2_with fail
            go_quiet (fail)
            have P0 : (wr.drewN nq).cell? ⟨g1, (m + 1) * 2, none⟩ = some (.string (strOf p.1)) := p0
            have P1 : (wr.drewN nq).cell? ⟨g1, (m + 1) * 2 + 1, none⟩ = some (.string (strOf p.2)) := p1
            have PX : Hid (PR (wr.drewN nq) w.heap.size (.slice (some ⟨g1, 0, none⟩) (j + 1) cap1) (A' ++ [q] ++ p :: C)) := unhide HPx
            have BX : Hid (Below w.heap.size w (wr.drewN nq)) := below_drewN (unhide HBx) _
            have hgx : g1 < (wr.drewN nq).heap.size := hgl2
            have hxs' : w.heap.size ≤ (wr.drewN nq).heap.size := hxs
            clear p0 p1 q0 q1 HPx HBx hpq HI2
            generalize wr.drewN nq = wx at *
            have PA := unhide PX
            obtain ⟨q0, q1, _⟩ := PA.cellsAt m (by omega) q (by subst hmm; simp)
            obtain ⟨pp0, pp1, _⟩ := PA.cellsAt (m + 1) (by omega) p (by subst hmm; simp)
            have f0 := PA.fz ((m + 1) * 2)
            have f1 := PA.fz1 ((m + 1) * 2) ((m + 1) * 2 + 1) (.string (strOf q.1))
            have d1 := PA.cell1 ((m + 1) * 2) ((m + 1) * 2 + 1) (.string (strOf q.1)) _ (by omega) pp1
            have PB := PA.set hPl.symm (m + 1) (by omega) q
            have hPl2 : ((A' ++ [q] ++ p :: C).set (m + 1) q).length = j + 1 := by rw [List.length_set]; exact hPl
            obtain ⟨r0, r1, _⟩ := PB.cellsAt m (by omega) q (by subst hmm; simp)
            have f2 := PB.fz (m * 2)
            have f3 := PB.fz1 (m * 2) (m * 2 + 1) (.string (strOf p.1))
            have d3 := PB.cell1 (m * 2) (m * 2 + 1) (.string (strOf p.1)) _ (by omega) r1
            have PC := PB.set hPl2.symm m (by omega) p
            rw [unhide HSW] at PC
            have BA := ((((unhide BX).setCell (p := ⟨g1, (m + 1) * 2, none⟩) hg1B (.string (strOf q.1))).setCell (p := ⟨g1, (m + 1) * 2 + 1, none⟩) hg1B (.string (strOf q.2))).setCell (p := ⟨g1, m * 2, none⟩) hg1B (.string (strOf p.1))).setCell (p := ⟨g1, m * 2 + 1, none⟩) hg1B (.string (strOf p.2))
            have HPC : Hid (∀ o, PR (World.alloc ((((wx.setCell ⟨g1, (m + 1) * 2, none⟩ (.string (strOf q.1))).setCell ⟨g1, (m + 1) * 2 + 1, none⟩ (.string (strOf q.2))).setCell ⟨g1, m * 2, none⟩ (.string (strOf p.1))).setCell ⟨g1, m * 2 + 1, none⟩ (.string (strOf p.2))) o) w.heap.size (.slice (some ⟨g1, 0, none⟩) (j + 1) cap1) (A' ++ p :: q :: C)) := fun o => PC.below (alloc_below _ o)
            have HBC : Hid (∀ o, Below w.heap.size w (World.alloc ((((wx.setCell ⟨g1, (m + 1) * 2, none⟩ (.string (strOf q.1))).setCell ⟨g1, (m + 1) * 2 + 1, none⟩ (.string (strOf q.2))).setCell ⟨g1, m * 2, none⟩ (.string (strOf p.1))).setCell ⟨g1, m * 2 + 1, none⟩ (.string (strOf p.2))) o)) := fun o => BA.alloc BA.size o
            have hne : ¬ wx.heap.size = g1 := by omega
            have hne' : ¬ g1 = wx.heap.size := by omega
            clear PA PB PC BA PX BX
            go_wp2
            go_roundw
            case rel => exact ⟨A', q :: C, by rw [hmm], by simp; omega, unhide HPC _, unhide HBC _, unhide HI3⟩
            case measure => simp [intOf]
          · have hlt : Op.bytesLess (strOf p.1).toList (strOf q.1).toList = false := by
              rw [bytesLess_eq, ByteArray.toList_eq, ByteArray.toList_eq, strOf_toList, strOf_toList]; exact decide_eq_false hpq
            have HF : Hid ((A' ++ [q] ++ p :: C) = (RR ps (j + 1)).reverse) := by
              show _ = _
              rw [unhide HS, unhide HI2, insR, if_neg hpq]; simp
            go_wp2_with fail
            go_quiet (fail)
            go_wp2
            exact ⟨⟨j + 1, by go_num, by omega, by rw [← unhide HF]; exact unhide HPx, below_drewN (unhide HBx) _⟩, by simp [intOf]; omega⟩
    · have t1 : ((j : Int) < (ps.length : Int)) = False := eq_false (by omega)
      have HE := hide (RR_end ps j (by omega))
      go_wp2
      go_ret
      exact ⟨_, rfl, by rw [← unhide HE]; exact hown, unhide HB⟩
end Go.Proofs.YtcffdclgddmigaaGreatDoor
