import Derived.Sort.Walk0
import Derived.Deep.RegionHeld3
import Derived.Test.YtadefcohbkgbfabGreatDoorBn9
import Derived.Test.YtadefcohbkgbfabGreatDoorBn8
import Derived.Test.YtadefcohbkgbfabGreatDoorBn6
namespace Go.Proofs.YtadefcohbkgbfabGreatDoor
open Go.RowKit

theorem pflat_len : ∀ L : List Part, (L.flatMap partC).length = L.length * 2
  | [] => rfl
  | p :: r => by rw [List.flatMap_cons, List.length_append, pflat_len r]; simp [partC]; omega
theorem pflat_set (L : List Part) (j : Nat) (p : Part) (h : j < L.length) : ((L.flatMap partC).set (j * 2) (.string (strOf p.1))).set (j * 2 + 1) (.string (strOf p.2)) = (L.set j p).flatMap partC := by
  induction L generalizing j with
  | nil => simp at h
  | cons q r ih =>
    cases j with
    | zero => rfl
    | succ j =>
      have := ih j (by simpa using h)
      rw [List.set_cons_succ, List.flatMap_cons, List.flatMap_cons, ← this, show (j + 1) * 2 = j * 2 + 2 from by omega]
      rfl
theorem PR.set {w : World} {B g n cap : Nat} {L : List Part} (h : PR w B (.slice (some ⟨g, 0, none⟩) n cap) L) (hn' : n = L.length) (j : Nat) (hj : j < L.length) (p : Part) :
    PR ((w.setCell ⟨g, j * 2, none⟩ (.string (strOf p.1))).setCell ⟨g, j * 2 + 1, none⟩ (.string (strOf p.2))) B (.slice (some ⟨g, 0, none⟩) n cap) (L.set j p) := by
  subst hn'
  obtain ⟨hl, ⟨hv, h0⟩ | ⟨g', cap', cur, hv, hB, hg, hn, hc, hsz, ht⟩⟩ := h
  · omega
  · injection hv with hv1 hv2 hv3
    injection hv1 with hv1
    injection hv1 with hv1
    subst hv1; subst hv3
    have h1 := heap_setCell_same w g (j * 2) cur 102 (.string (strOf p.1)) hg
    have h2 := heap_setCell_same _ g (j * 2 + 1) _ 102 (.string (strOf p.2)) h1
    unfold PR
    refine ⟨pflat_len _, .inr ⟨g, cap, _, by simp, hB, h2, by simpa using hn, hc, by simp [hsz], ?_⟩⟩
    rw [← pflat_set L j p hj, ← ht, List.length_set, Array.toList_setIfInBounds, Array.toList_setIfInBounds, List.take_set, List.take_set]
theorem list_snoc (A : List Part) : A = [] ∨ ∃ A' q, A = A' ++ [q] := by
  rcases List.eq_nil_or_concat A with h | ⟨A', q, h⟩
  · exact .inl h
  · exact .inr ⟨A', q, by rw [h]; simp⟩
theorem below_drewN {B : Nat} {w w' : World} (h : Below B w w') (n : Nat) : Below B w (w'.drewN n) := ⟨h.os, h.tape, h.output, h.size, h.block⟩
theorem PR.fz {w : World} {B g n cap : Nat} {L : List Part} (h : PR w B (.slice (some ⟨g, 0, none⟩) n cap) L) (o : Nat) : w.frozen? ⟨g, o, none⟩ = false := by
  obtain ⟨hl, ⟨hv, h0⟩ | ⟨g', cap', cur, hv, hB, hg, _⟩⟩ := h
  · cases hv
  · injection hv with hv1 hv2 hv3
    injection hv1 with hv1
    injection hv1 with hv1
    subst hv1
    exact Lib.frozen_of_heap hg o
theorem PR.fz1 {w : World} {B g n cap : Nat} {L : List Part} (h : PR w B (.slice (some ⟨g, 0, none⟩) n cap) L) (o o' : Nat) (v : Value) : (w.setCell ⟨g, o, none⟩ v).frozen? ⟨g, o', none⟩ = false := by
  obtain ⟨hl, ⟨hv, h0⟩ | ⟨g', cap', cur, hv, hB, hg, _⟩⟩ := h
  · cases hv
  · injection hv with hv1 hv2 hv3
    injection hv1 with hv1
    injection hv1 with hv1
    subst hv1
    exact Lib.frozen_of_heap (heap_setCell_same w g o cur 102 v hg) o'
theorem PR.cell1 {w : World} {B g n cap : Nat} {L : List Part} (h : PR w B (.slice (some ⟨g, 0, none⟩) n cap) L) (o o' : Nat) (v u : Value) (ho : o ≠ o') (hc : w.cell? ⟨g, o', none⟩ = some u) : (w.setCell ⟨g, o, none⟩ v).cell? ⟨g, o', none⟩ = some u := by
  obtain ⟨hl, ⟨hv, h0⟩ | ⟨g', cap', cur, hv, hB, hg, _⟩⟩ := h
  · cases hv
  · injection hv with hv1 hv2 hv3
    injection hv1 with hv1
    injection hv1 with hv1
    subst hv1
    rw [Lib.cell_of_heap hg] at hc
    rw [Lib.cell_of_heap (heap_setCell_same w g o cur 102 v hg), Array.getElem?_setIfInBounds_ne ho, hc]
theorem PR.cellsAt {w : World} {B g n cap : Nat} {L : List Part} (h : PR w B (.slice (some ⟨g, 0, none⟩) n cap) L) (j : Nat) (hj : j < L.length) (p : Part) (hp : L[j] = p) :
    w.cell? ⟨g, j * 2, none⟩ = some (.string (strOf p.1)) ∧ w.cell? ⟨g, j * 2 + 1, none⟩ = some (.string (strOf p.2)) ∧ g < w.heap.size := by
  obtain ⟨g2, cap2, he, _, hlt, a, b⟩ := h.cells j hj
  injection he with he1 he2 he3
  injection he1 with he1
  injection he1 with he1
  subst he1; subst hp
  exact ⟨a, b, hlt⟩
theorem infoPart : (Tryz.prog.info? 102).map (fun i => (i.zero, i.size, i.bytes)) = some (some (.agg #[.string ByteArray.empty, .string ByteArray.empty]), 2, 32) := by kernel_rfl
/-- The parts in order, from the end on. -/
def RR (ps : List Part) (j : Nat) : List Part := (ps.take j).foldl (fun acc p => insR p acc) []
theorem RR_succ (ps : List Part) (j : Nat) (h : j < ps.length) : RR ps (j + 1) = insR ps[j] (RR ps j) := by
  unfold RR
  rw [List.take_succ_eq_append_getElem h, List.foldl_append]; rfl
theorem RR_end (ps : List Part) (j : Nat) (h : ps.length ≤ j) : (RR ps j).reverse = isort ps := by
  unfold RR isort; rw [List.take_of_length_le h]
theorem insR_len (p : Part) : ∀ l, (insR p l).length = l.length + 1
  | [] => rfl
  | q :: r => by unfold insR; split <;> simp [insR_len p r]
theorem RR_len (ps : List Part) : ∀ j, j ≤ ps.length → (RR ps j).length = j
  | 0, _ => by simp [RR]
  | j + 1, h => by rw [RR_succ ps j (by omega), insR_len, RR_len ps j (by omega)]
theorem lit2s (w : World) (t : TypeId) (x y : Value) : ∀ j u, [x, y][j]? = some u → (w.alloc (.cells #[x, y] t)).cell? ((⟨w.heap.size, 0, none⟩ : Addr).add j) = some u := lit2 w t x y

set_option maxRecDepth 100000 in
set_option maxHeartbeats 4000000 in
theorem sorted_walk (B : Nat) (v : Value) (ps : List Part) (w : World) (h : PR w B v ps) (hl : ps.length ≤ 40000000) :
    Calls Tryz.prog 77 #[v] w fun e w' => ∃ v', e = .returned v' ∧ PR w' w.heap.size v' (isort ps) ∧ Below w.heap.size w w' := by
  obtain ⟨i0, hi0, hz0, hz1, hz2⟩ := info_parts infoPart
  obtain ⟨x, len, cap, rfl, hlen⟩ : ∃ x len cap, v = .slice x len cap ∧ len = ps.length := by
    rcases h.2 with ⟨hv, h0⟩ | ⟨g, cap, cur, hv, _⟩
    · exact ⟨_, _, _, hv, h0.symm⟩
    · exact ⟨_, _, _, hv, rfl⟩
  subst hlen
  have HP := hide h
  clear h
  go_enter Tryz.func77, Tryz.ntmps77
  go_wp2_with fail
  go_loopw [3, 4] (fun r k wr => ∃ j : Nat, k = .int .i64 (j : Int) ∧ j ≤ ps.length ∧ PR wr w.heap.size r (RR ps j).reverse ∧ Below w.heap.size w wr) (fun _ k _ => ps.length - (intOf k).toNat)
  case atStart =>
    exact ⟨0, rfl, Nat.zero_le _, ⟨rfl, .inr ⟨w.heap.size, 0, #[], rfl, Nat.le_refl _, heap_alloc_new w _, Nat.le_refl _, by unfold maxLen; omega, rfl, rfl⟩⟩, (Below.refl _ _).alloc (Nat.le_refl _) _⟩
  case round =>
    obtain ⟨j, rfl, hj, hown, hb⟩ := hrel
    have HB := hide hb
    have hwsz := hb.size
    clear hb
    by_cases hin : j < ps.length
    · have t1 : ((j : Int) < (ps.length : Int)) = True := eq_true (by omega)
      obtain ⟨g, cap', he, hgB, hgl, c0', c1'⟩ := (unhide HP).cells j hin
      injection he with he1 he2 he3
      subst he1; subst he3
      have c0 := ((unhide HB).cell (p := ⟨g, j * 2, none⟩) hgl).trans c0'
      have c1 := ((unhide HB).cell (p := ⟨g, j * 2 + 1, none⟩) hgl).trans c1'
      have HS := hide (RR_succ ps j hin)
      have hlen := RR_len ps j hj
      have HLEN := hide hlen
      generalize ps[j] = p at *
      generalize hR : RR ps j = R at *
      have hRl : R.reverse.length = j := by rw [List.length_reverse]; exact hlen
      clear c0' c1' hlen hR
      have hown0 : wr.ownsRow w.heap.size 102 2 u3 R.reverse.length (R.reverse.flatMap partC) := hown
      go_wp2_with (at_builtin; refine wpList_append_own _ rfl (.tmp 14) (.tmp 19) 99 rfl w.heap.size 102 i0 (.agg #[.string ByteArray.empty, .string ByteArray.empty]) 2 32 Tryz.underlying99 hi0 hz0 hz1 hz2 rfl (by decide) _ _ _ rfl (hown0.alloc _) ⟨wr.heap.size, 0, none⟩ 1 1 (partC p) rfl rfl (lit2s _ _ _ _) (fun u hu => by { simp [partC] at hu; rcases hu with rfl | rfl <;> rfl }) (by unfold maxLen; omega) (by omega) (by simp; omega) ?_; intro v1 w1 own1 hg1 _; have HB1 := hide (((unhide HB).alloc hwsz _).grown hg1 (by simp; omega) (fun k hk => (hown0.lt k hk).1)); have P1 : PR w1 w.heap.size v1 (R.reverse ++ [p]) := (by unfold PR; rw [List.length_append, List.flatMap_append]; simpa using own1); have hL1 : (R.reverse ++ [p]).length = j + 1 := (by rw [List.length_append, hRl]; rfl); obtain ⟨g1, cap1, hv1, hg1B, _, _, _⟩ := P1.cells j (by omega); rw [hL1] at hv1; subst hv1; have HP1 := hide P1; clear own1 hg1 P1)
      clear hown hown0 HB c0 c1
      go_loopw [5] (fun k wx => ∃ (A C : List Part), k = .int .i64 (A.length : Int) ∧ A.length + C.length = j ∧ PR wx w.heap.size (.slice (some ⟨g1, 0, none⟩) (j + 1) cap1) (A ++ p :: C) ∧ Below w.heap.size w wx ∧ insR p R = C.reverse ++ insR p A.reverse) (fun k _ => (intOf k).toNat)
      case atStart =>
        exact ⟨R.reverse, [], by rw [hRl], by simpa using hRl, unhide HP1, unhide HB1, by simp⟩
      case round =>
        obtain ⟨A, C, rfl, hAC, hP, hBx, hins⟩ := hrel
        have HI := hide hins
        have HPx := hide hP
        have HBx := hide hBx
        have hxs := hBx.size
        clear hins hP hBx HP1 HB1
        rcases list_snoc A with rfl | ⟨A', q, rfl⟩
        · have HF : Hid (([] ++ p :: C) = (RR ps (j + 1)).reverse) := by
            show _ = _
            rw [unhide HS, unhide HI]; simp [insR]
          have t2 : (0 < (0 : Int)) = False := by simp
          simp only [List.length_nil, Int.natCast_zero]
          go_wp2_with fail
          go_quiet (fail)
          go_wp2
          exact ⟨⟨j + 1, by go_num, by omega, by rw [← unhide HF]; exact unhide HPx, below_drewN (unhide HBx) _⟩, by simp [intOf]; omega⟩
        · have hm : (A' ++ [q]).length = A'.length + 1 := by simp
          rw [hm]
          rw [hm] at hAC
          have hPl : ((A' ++ [q]) ++ p :: C).length = j + 1 := by simp at hAC ⊢; omega
          have ep : ((A' ++ [q]) ++ p :: C)[A'.length + 1]'(by omega) = p := by simp
          have eq : ((A' ++ [q]) ++ p :: C)[A'.length]'(by omega) = q := by simp
          obtain ⟨p0, p1, hgl2⟩ := (unhide HPx).cellsAt (A'.length + 1) (by omega) p ep
          obtain ⟨q0, q1, _⟩ := (unhide HPx).cellsAt A'.length (by omega) q eq
          have HSW : Hid (((((A' ++ [q]) ++ p :: C).set (A'.length + 1) q).set A'.length p) = A' ++ p :: (q :: C)) := by
            show _ = _
            simp
          have hmj : A'.length + 1 ≤ j := by omega
          have HI2 : Hid (insR p R = C.reverse ++ insR p (q :: A'.reverse)) := by
            show _ = _
            rw [unhide HI]; simp
          clear ep eq HI
          generalize hmm : A'.length = m at *
          have t2 : ((0 : Int) < (m : Int) + 1) = True := eq_true (by omega)
          have t3 : (0 : Int) ≤ (m : Int) := by omega
          have t4 : (m : Int) + 1 ≤ (j : Int) := by omega
          by_cases hpq : p.1 < q.1
          · have hlt : Op.bytesLess (strOf p.1).toList (strOf q.1).toList = true := by
              rw [bytesLess_eq, ByteArray.toList_eq, ByteArray.toList_eq, strOf_toList, strOf_toList]; exact decide_eq_true hpq
            have HI3 : Hid (insR p R = (q :: C).reverse ++ insR p A'.reverse) := by
              show _ = _
              rw [unhide HI2, insR, if_pos hpq]; simp
            go_wp2_with fail
            go_quiet (fail)
            have P0 : (wr.drewN nq).cell? ⟨g1, (m + 1) * 2, none⟩ = some (.string (strOf p.1)) := p0
            have P1 : (wr.drewN nq).cell? ⟨g1, (m + 1) * 2 + 1, none⟩ = some (.string (strOf p.2)) := p1
            have PX : Hid (PR (wr.drewN nq) w.heap.size (.slice (some ⟨g1, 0, none⟩) (j + 1) cap1) (A' ++ [q] ++ p :: C)) := unhide HPx
            have BX : Hid (Below w.heap.size w (wr.drewN nq)) := below_drewN (unhide HBx) _
            have hgx : g1 < (wr.drewN nq).heap.size := hgl2
            have hxs' : w.heap.size ≤ (wr.drewN nq).heap.size := hxs
            clear p0 p1 q0 q1 HPx HBx hpq HI2
            generalize wr.drewN nq = wx at *
            have PA := unhide PX
            obtain ⟨q0, q1, _⟩ := PA.cellsAt m (by omega) q (by subst hmm; simp)
            obtain ⟨pp0, pp1, _⟩ := PA.cellsAt (m + 1) (by omega) p (by subst hmm; simp)
            have f0 := PA.fz ((m + 1) * 2)
            have f1 := PA.fz1 ((m + 1) * 2) ((m + 1) * 2 + 1) (.string (strOf q.1))
            have d1 := PA.cell1 ((m + 1) * 2) ((m + 1) * 2 + 1) (.string (strOf q.1)) _ (by omega) pp1
            have PB := PA.set hPl.symm (m + 1) (by omega) q
            have hPl2 : ((A' ++ [q] ++ p :: C).set (m + 1) q).length = j + 1 := by rw [List.length_set]; exact hPl
            obtain ⟨r0, r1, _⟩ := PB.cellsAt m (by omega) q (by subst hmm; simp)
            have f2 := PB.fz (m * 2)
            have f3 := PB.fz1 (m * 2) (m * 2 + 1) (.string (strOf p.1))
            have d3 := PB.cell1 (m * 2) (m * 2 + 1) (.string (strOf p.1)) _ (by omega) r1
            have PC := PB.set hPl2.symm m (by omega) p
            rw [unhide HSW] at PC
            have BA := ((((unhide BX).setCell (p := ⟨g1, (m + 1) * 2, none⟩) hg1B (.string (strOf q.1))).setCell (p := ⟨g1, (m + 1) * 2 + 1, none⟩) hg1B (.string (strOf q.2))).setCell (p := ⟨g1, m * 2, none⟩) hg1B (.string (strOf p.1))).setCell (p := ⟨g1, m * 2 + 1, none⟩) hg1B (.string (strOf p.2))
            have HPC : Hid (∀ o, PR (World.alloc ((((wx.setCell ⟨g1, (m + 1) * 2, none⟩ (.string (strOf q.1))).setCell ⟨g1, (m + 1) * 2 + 1, none⟩ (.string (strOf q.2))).setCell ⟨g1, m * 2, none⟩ (.string (strOf p.1))).setCell ⟨g1, m * 2 + 1, none⟩ (.string (strOf p.2))) o) w.heap.size (.slice (some ⟨g1, 0, none⟩) (j + 1) cap1) (A' ++ p :: q :: C)) := fun o => PC.below (alloc_below _ o)
            have HBC : Hid (∀ o, Below w.heap.size w (World.alloc ((((wx.setCell ⟨g1, (m + 1) * 2, none⟩ (.string (strOf q.1))).setCell ⟨g1, (m + 1) * 2 + 1, none⟩ (.string (strOf q.2))).setCell ⟨g1, m * 2, none⟩ (.string (strOf p.1))).setCell ⟨g1, m * 2 + 1, none⟩ (.string (strOf p.2))) o)) := fun o => BA.alloc BA.size o
            have hne : ¬ wx.heap.size = g1 := by omega
            have hne' : ¬ g1 = wx.heap.size := by omega
            clear PA PB PC BA PX BX
            go_wp2
            go_roundw
            case rel => exact ⟨A', q :: C, by rw [hmm], by simp; omega, unhide HPC _, unhide HBC _, unhide HI3⟩
            case measure => simp [intOf]
          · have hlt : Op.bytesLess (strOf p.1).toList (strOf q.1).toList = false := by
              rw [bytesLess_eq, ByteArray.toList_eq, ByteArray.toList_eq, strOf_toList, strOf_toList]; exact decide_eq_false hpq
            have HF : Hid ((A' ++ [q] ++ p :: C) = (RR ps (j + 1)).reverse) := by
              show _ = _
              rw [unhide HS, unhide HI2, insR, if_neg hpq]; simp
            go_wp2_with fail
            go_quiet (fail)
            go_wp2
            exact ⟨⟨j + 1, by go_num, by omega, by rw [← unhide HF]; exact unhide HPx, below_drewN (unhide HBx) _⟩, by simp [intOf]; omega⟩
    · have t1 : ((j : Int) < (ps.length : Int)) = False := eq_false (by omega)
      have HE := hide (RR_end ps j (by omega))
      go_wp2
      go_ret
      exact ⟨_, rfl, by rw [← unhide HE]; exact hown, unhide HB⟩
end Go.Proofs.YtadefcohbkgbfabGreatDoor


namespace Go.Proofs.YtadefcohbkgbfabGreatDoor
open Go.RowKit

set_option maxRecDepth 100000 in
set_option maxHeartbeats 1600000 in
theorem parts_leaf (T : ByteArray) (w : World) (h0 : 0 < T.size) (h1 : bt T 0 ≠ 91) (h2 : bt T 0 ≠ 123) :
    Calls Tryz.prog 61 #[.string T] w fun e w' => ∃ v, e = .returned v ∧ PR w' w.heap.size v [] ∧ Below w.heap.size w w' := by
  rw [bt_at T 0 h0] at h1 h2
  have f1 : ((T[0].toNat : Int) != 91) = true := by rw [bne_iff_ne]; omega
  have f2 : ((T[0].toNat : Int) != 123) = true := by rw [bne_iff_ne]; omega
  have hI : (0 : Int) < (T.size : Int) := by omega
  clear h1 h2
  go_enter Tryz.func61, Tryz.ntmps61
  go_wp2
  go_ret
  exact ⟨_, rfl, World.ownsRow_lit (base := w.heap.size) (e := 102) (size := 2) w #[] 0 (Nat.le_refl _) (by unfold maxLen; omega) rfl, (Below.refl _ _).alloc (Nat.le_refl _) _⟩

set_option maxRecDepth 100000 in
set_option maxHeartbeats 8000000 in
theorem parts_arr (l : JL) (hok : okL l) (w : World) (hT : (strOf (ct (.arr l))).size ≤ 1000000) :
    Calls Tryz.prog 61 #[.string (strOf (ct (.arr l)))] w fun e w' => ∃ v, e = .returned v ∧ PR w' w.heap.size v (idxF 0 (ctL l)) ∧ Below w.heap.size w w' := by
  obtain ⟨i0, hi0, hz0, hz1, hz2⟩ := info_parts infoPart
  have hTL : (strOf (ct (.arr l))).data.toList = 91 :: (joinC (ctL l) ++ [93]) := by rw [strOf_toList]; rfl
  have htop := ctL_top (strOf (ct (.arr l))) l hok
  generalize strOf (ct (.arr l)) = T at *
  generalize ctL l = cs at *
  have h0 : 0 < T.size := by have := congrArg List.length hTL; rw [data_len] at this; simp at this; omega
  have hb0 : T[0].toNat = 91 := by rw [← bt_at T 0 h0]; unfold bt; rw [hTL]; rfl
  have f1 : ((T[0].toNat : Int) != 91) = false := by rw [bne_eq_false_iff_eq]; omega
  have f2 : ((T[0].toNat : Int) == 123) = false := by rw [beq_eq_false_iff_ne]; omega
  have hI : (0 : Int) < (T.size : Int) := by omega
  have hn : cs.length ≤ T.size := by
    have h1 := pk_end hTL
    have : ∀ k, k ≤ cs.length → k ≤ pk cs k := by
      intro k
      induction k with
      | zero => intro _; omega
      | succ k ih => intro hk; rw [pk_next cs k (by omega)]; have := ih (by omega); omega
    cases hl : cs.length with
    | zero => omega
    | succ m =>
      have h2 := pk_in hTL m (by omega)
      have h3 := this m (by omega)
      omega
  have HK : Hid (∀ k (hk : k < cs.length) (w : World), pk cs k + cs[k].length + 1 ≤ T.size ∧ 1 ≤ cs[k].length ∧ T.extract (pk cs k) (pk cs k + cs[k].length) = strOf cs[k] ∧ pk cs (k + 1) = pk cs k + cs[k].length + 1 ∧ idxF 0 (cs.take (k + 1)) = idxF 0 (cs.take k) ++ [(decT k, cs[k])] ∧
      Calls Tryz.prog 82 #[.string T, .int .i64 ((pk cs k : Nat) : Int)] w fun e w' => e = .returned (.int .i64 ((pk cs k + cs[k].length : Nat) : Int)) ∧ Below w.heap.size w w') := fun k hk w => by
    have hd := drop_pk hTL k hk
    obtain ⟨ht, hne⟩ := htop cs[k] (List.getElem_mem hk)
    obtain ⟨f, hf⟩ := ht _ _ hd (stops_tail _ 93 (.inl rfl))
    refine ⟨pk_in hTL k hk, ?_, cut_pk hd, pk_next cs k hk, ?_, end_walk T _ _ f w (by omega) hf⟩
    · cases h : cs[k] with
      | nil => exact absurd h hne
      | cons _ _ => simp
    · rw [List.take_succ_eq_append_getElem hk, idxF_snoc]
      simp [Nat.min_eq_left (Nat.le_of_lt hk)]
  have HEND := hide (pk_end hTL)
  have hl0 : ∀ k, k ≤ cs.length → (idxF 0 (cs.take k)).length = k := fun k hk => by rw [idxF_len, List.length_take]; omega
  have HL0 := hide hl0
  have HDEC : Hid (∀ (n : Nat) (w : World), n ≤ 1000000 → Calls Tryz.prog 81 #[.int .i64 (n : Int)] w fun e w' => e = .returned (.string (strOf (decT n))) ∧ Below w.heap.size w w') := fun n w hn => dec_walk n n w (Nat.le_refl _) (by omega)
  clear hTL htop hb0 hl0 hok
  go_enter Tryz.func61, Tryz.ntmps61
  go_wp2
  go_loopw [3, 4] (fun v i wr => ∃ k : Nat, k ≤ cs.length ∧ i = .int .i64 ((pk cs k : Nat) : Int) ∧ PR wr w.heap.size v (idxF 0 (cs.take k)) ∧ Below w.heap.size w wr) (fun _ i _ => T.size + 1 - (intOf i).toNat)
  case atStart => exact ⟨0, Nat.zero_le _, rfl, World.ownsRow_lit (base := w.heap.size) (e := 102) (size := 2) w #[] 0 (Nat.le_refl _) (by unfold maxLen; omega) rfl, (Below.refl _ _).alloc (Nat.le_refl _) _⟩
  case round =>
    obtain ⟨k, hk, rfl, hpr, hb⟩ := hrel
    have hlen := unhide HL0 k hk
    have HB := hide hb
    have hwsz := hb.size
    clear hb
    by_cases hlt : k < cs.length
    · obtain ⟨k1, k2, k3, k4, k5, _⟩ := unhide HK k hlt w
      have HE : Hid (∀ w, Calls Tryz.prog 82 #[.string T, .int .i64 ((pk cs k : Nat) : Int)] w fun e w' => e = .returned (.int .i64 ((pk cs k + cs[k].length : Nat) : Int)) ∧ Below w.heap.size w w') := fun w => (unhide HK k hlt w).2.2.2.2.2
      have HK4 := hide k4
      have HK5 := hide k5
      have tl : ((pk cs k : Nat) : Int) < (T.size : Int) - 1 := by omega
      obtain ⟨x, len, cap, rfl, hlv⟩ : ∃ x len cap, u3 = .slice x len cap ∧ len = k := by
        rcases hpr.2 with ⟨hv, h0'⟩ | ⟨g, cap, cur, hv, _⟩
        · exact ⟨_, _, _, hv, by omega⟩
        · exact ⟨_, _, _, hv, hlen⟩
      obtain rfl := hlv
      have HD := hide (unhide HDEC len wr (by omega))
      generalize idxF 0 (cs.take len) = ps at *
      generalize pk cs len = P at *
      generalize cs[len] = t at *
      obtain ⟨E, hE⟩ : ∃ E, P + t.length = E := ⟨_, rfl⟩
      rw [hE] at k3 k1 HE HK4
      have hPE : P ≤ E := by omega
      clear hE k4 k5 HK HEND HDEC HL0
      go_wp2_with fail
      refine (unhide HD).mono ?_
      rintro e w1 ⟨rfl, b1⟩
      have p1 := hpr.below b1
      have B1 := hide (below_next (unhide HB) b1)
      have hw1 := b1.size
      clear HD b1 hpr HB
      go_wp2_with fail
      refine (unhide HE _).mono ?_
      rintro e w2 ⟨rfl, b2⟩
      have p2 := p1.below b2
      have B2 := hide (below_next (unhide B1) b2)
      have hw2 := b2.size
      clear HE b2 p1 B1
      have own2 : w2.ownsRow w.heap.size 102 2 (.slice x len cap) ps.length (ps.flatMap partC) := p2
      have hal : ps.length ≤ 1000000 := by omega
      go_wp2_with (at_builtin; refine wpList_append_own _ rfl (.tmp 44) (.tmp 51) 99 rfl w.heap.size 102 i0 (.agg #[.string ByteArray.empty, .string ByteArray.empty]) 2 32 Tryz.underlying99 hi0 hz0 hz1 hz2 rfl (by decide) _ _ _ rfl (own2.alloc _) ⟨w2.heap.size, 0, none⟩ 1 1 (partC (decT len, t)) rfl rfl (lit2s _ _ _ _) (fun u hu => by { simp [partC] at hu; rcases hu with rfl | rfl <;> rfl }) (by unfold maxLen; omega) (by omega) (by simp; omega) ?_)
      intro v3 w3 own3 hg3 _
      have P3 : Hid (PR w3 w.heap.size v3 (ps ++ [(decT len, t)])) := by
        show PR w3 w.heap.size v3 (ps ++ [(decT len, t)])
        unfold PR
        rw [List.length_append, List.flatMap_append, hlen]
        simpa using own3
      have B3 : Hid (Below w.heap.size w w3) := ((unhide B2).alloc (by omega) _).grown hg3 (by simp; omega) (fun k hk => (own2.lt k hk).1)
      clear own3 hg3 own2 p2 B2
      go_wp2
      go_roundw
      case rel => exact ⟨len + 1, by omega, by rw [unhide HK4]; go_num, by rw [unhide HK5]; exact unhide P3, unhide B3⟩
      case measure => simp [intOf]; omega
    · have hk' : k = cs.length := by omega
      have h2 := unhide HEND
      rw [← hk'] at h2
      have tl : ¬ ((pk cs k : Nat) : Int) < (T.size : Int) - 1 := by omega
      have e : cs.take k = cs := List.take_of_length_le (by omega)
      rw [e] at hpr
      have HP := hide hpr
      generalize pk cs k = P at *
      clear HK HEND HDEC HL0 hpr e hk' hlen
      go_wp2
      go_ret
      exact ⟨_, rfl, unhide HP, unhide HB⟩

theorem keyLen {T : ByteArray} {cs : List (List UInt8)} {a c : UInt8} (hTL : T.data.toList = a :: (joinC cs ++ [c])) : cs.length ≤ T.size := by
  have h1 := pk_end hTL
  have : ∀ k, k ≤ cs.length → k ≤ pk cs k := by
    intro k
    induction k with
    | zero => intro _; omega
    | succ k ih => intro hk; rw [pk_next cs k (by omega)]; have := ih (by omega); omega
  cases hl : cs.length with
  | zero => omega
  | succ m =>
    have h2 := pk_in hTL m (by omega)
    have h3 := this m (by omega)
    omega

set_option maxRecDepth 100000 in
set_option maxHeartbeats 8000000 in
theorem parts_obj (m : JM) (hok : okM m) (w : World) (hT : (strOf (ct (.obj m))).size ≤ 1000000) :
    Calls Tryz.prog 61 #[.string (strOf (ct (.obj m)))] w fun e w' => ∃ v, e = .returned v ∧ PR w' w.heap.size v (isort (ctM m)) ∧ Below w.heap.size w w' := by
  obtain ⟨i0, hi0, hz0, hz1, hz2⟩ := info_parts infoPart
  have hTL : (strOf (ct (.obj m))).data.toList = 123 :: (joinC ((isort (ctM m)).map memT) ++ [125]) := by rw [strOf_toList]; rfl
  have htop : ∀ p ∈ isort (ctM m), TopP (strOf (ct (.obj m))) p.2 ∧ p.2 ≠ [] ∧ Lib.validD p.1 = true := fun p hp => ctM_top _ m hok p ((isort_perm _).subset hp)
  generalize strOf (ct (.obj m)) = T at *
  generalize isort (ctM m) = qs at *
  have hml : (qs.map memT).length = qs.length := List.length_map _
  have h0 : 0 < T.size := by have := congrArg List.length hTL; rw [data_len] at this; simp at this; omega
  have hb0 : T[0].toNat = 123 := by rw [← bt_at T 0 h0]; unfold bt; rw [hTL]; rfl
  have f1 : ((T[0].toNat : Int) != 91) = true := by rw [bne_iff_ne]; omega
  have f1' : ((T[0].toNat : Int) != 123) = false := by rw [bne_eq_false_iff_eq]; omega
  have f2 : ((T[0].toNat : Int) == 123) = true := by rw [beq_iff_eq]; omega
  have hI : (0 : Int) < (T.size : Int) := by omega
  have hn : qs.length ≤ T.size := by have := keyLen hTL; omega
  have HK : Hid (∀ k (hk : k < qs.length) (w : World), pk (qs.map memT) k + (quoted qs[k].1).length + 1 + qs[k].2.length + 1 ≤ T.size ∧ 1 ≤ qs[k].2.length ∧ T.extract (pk (qs.map memT) k + (quoted qs[k].1).length + 1) (pk (qs.map memT) k + (quoted qs[k].1).length + 1 + qs[k].2.length) = strOf qs[k].2 ∧ pk (qs.map memT) (k + 1) = pk (qs.map memT) k + (quoted qs[k].1).length + 1 + qs[k].2.length + 1 ∧ qs.take (k + 1) = qs.take k ++ [(qs[k].1, qs[k].2)] ∧
      Calls Tryz.prog 82 #[.string T, .int .i64 ((pk (qs.map memT) k + (quoted qs[k].1).length + 1 : Nat) : Int)] w (fun e w' => e = .returned (.int .i64 ((pk (qs.map memT) k + (quoted qs[k].1).length + 1 + qs[k].2.length : Nat) : Int)) ∧ Below w.heap.size w w') ∧
      Calls Tryz.prog 58 #[.string T, .int .i64 ((pk (qs.map memT) k : Nat) : Int)] w fun e w' => e = .returned (.tuple #[.string (strOf qs[k].1), .int .i64 ((pk (qs.map memT) k + (quoted qs[k].1).length : Nat) : Int), .bool true]) ∧ Below w.heap.size w w') := fun k hk w => by
    have hk' : k < (qs.map memT).length := by omega
    have hd := drop_pk hTL k hk'
    have hin := pk_in hTL k hk'
    have hnx := pk_next (qs.map memT) k hk'
    have em : (qs.map memT)[k] = quoted qs[k].1 ++ 58 :: qs[k].2 := by simp [memT]
    rw [em] at hd hin hnx
    rw [List.append_assoc] at hd
    simp only [List.length_append, List.length_cons] at hin hnx
    obtain ⟨ht, hne, hv⟩ := htop qs[k] (List.getElem_mem hk)
    have hd2 : T.data.toList.drop (pk (qs.map memT) k + (quoted qs[k].1).length + 1) = qs[k].2 ++ (joinT ((qs.map memT).drop (k + 1)) ++ [125]) := by
      have h1 := drop_past hd
      have h2 := at_head (T := T) (c := 58) (m := qs[k].2 ++ (joinT ((qs.map memT).drop (k + 1)) ++ [125])) (by rw [h1]; rfl)
      exact h2.2.2
    obtain ⟨f, hf⟩ := ht _ _ hd2 (stops_tail _ 125 (.inr rfl))
    have hs := strQ_at qs[k].1 T _ hv (pk (qs.map memT) k) hd
    refine ⟨by omega, ?_, cut_pk hd2, by omega, List.take_succ_eq_append_getElem hk, end_walk T _ _ f w (by omega) hf, ?_⟩
    · cases h : qs[k].2 with
      | nil => exact absurd h hne
      | cons _ _ => simp
    · have := l1String_walk T (pk (qs.map memT) k) w (by omega) (by omega)
      rw [hs] at this
      exact this.mono fun e w' h => ⟨h.2, h.1⟩
  have HEND := hide (pk_end hTL)
  have HDEC : Hid (∀ (n : Nat) (w : World), n ≤ 1000000 → Calls Tryz.prog 81 #[.int .i64 (n : Int)] w fun e w' => e = .returned (.string (strOf (decT n))) ∧ Below w.heap.size w w') := fun n w hn => dec_walk n n w (Nat.le_refl _) (by omega)
  clear hTL htop hb0 hok
  rw [hml] at HEND
  go_enter Tryz.func61, Tryz.ntmps61
  go_wp2
  go_loopw [3, 4] (fun v i wr => ∃ k : Nat, k ≤ qs.length ∧ i = .int .i64 ((pk (qs.map memT) k : Nat) : Int) ∧ PR wr w.heap.size v (qs.take k) ∧ Below w.heap.size w wr) (fun _ i _ => T.size + 1 - (intOf i).toNat)
  case atStart => exact ⟨0, Nat.zero_le _, rfl, World.ownsRow_lit (base := w.heap.size) (e := 102) (size := 2) w #[] 0 (Nat.le_refl _) (by unfold maxLen; omega) rfl, (Below.refl _ _).alloc (Nat.le_refl _) _⟩
  case round =>
    obtain ⟨k, hk, rfl, hpr, hb⟩ := hrel
    have hlen : (qs.take k).length = k := by rw [List.length_take]; omega
    have HB := hide hb
    have hwsz := hb.size
    clear hb
    by_cases hlt : k < qs.length
    · obtain ⟨k1, k2, k3, k4, k5, _, _⟩ := unhide HK k hlt w
      have HE : Hid (∀ w, Calls Tryz.prog 82 #[.string T, .int .i64 ((pk (qs.map memT) k + (quoted qs[k].1).length + 1 : Nat) : Int)] w (fun e w' => e = .returned (.int .i64 ((pk (qs.map memT) k + (quoted qs[k].1).length + 1 + qs[k].2.length : Nat) : Int)) ∧ Below w.heap.size w w')) := fun w => (unhide HK k hlt w).2.2.2.2.2.1
      have HS : Hid (∀ w, Calls Tryz.prog 58 #[.string T, .int .i64 ((pk (qs.map memT) k : Nat) : Int)] w fun e w' => e = .returned (.tuple #[.string (strOf qs[k].1), .int .i64 ((pk (qs.map memT) k + (quoted qs[k].1).length : Nat) : Int), .bool true]) ∧ Below w.heap.size w w') := fun w => (unhide HK k hlt w).2.2.2.2.2.2
      have HK4 := hide k4
      have HK5 := hide k5
      have tl : ((pk (qs.map memT) k : Nat) : Int) < (T.size : Int) - 1 := by omega
      obtain ⟨x, len, cap, rfl, hlv⟩ : ∃ x len cap, u3 = .slice x len cap ∧ len = k := by
        rcases hpr.2 with ⟨hv, h0'⟩ | ⟨g, cap, cur, hv, _⟩
        · exact ⟨_, _, _, hv, by omega⟩
        · exact ⟨_, _, _, hv, hlen⟩
      obtain rfl := hlv
      have HD := hide (unhide HDEC len wr (by omega))
      generalize qs.take len = ps at *
      generalize pk (qs.map memT) len = P at *
      generalize qs[len].2 = t at *
      generalize qs[len].1 = key at *
      obtain ⟨M, hM⟩ : ∃ M, P + (quoted key).length = M := ⟨_, rfl⟩
      rw [hM] at k3 k1 HE HK4 HS
      have hPM : P ≤ M := by omega
      have hM1 : ((M : Nat) : Int) + 1 = ((M + 1 : Nat) : Int) := by omega
      obtain ⟨M1, hM1'⟩ : ∃ M1, M + 1 = M1 := ⟨_, rfl⟩
      rw [hM1'] at k3 k1 HE HK4 hM1
      obtain ⟨E, hE⟩ : ∃ E, M1 + t.length = E := ⟨_, rfl⟩
      rw [hE] at k3 k1 HE HK4
      have hPE : M1 ≤ E := by omega
      have hPM1 : P < M1 := by omega
      clear hE hM hM1' k4 k5 HK HEND HDEC
      go_wp2_with fail
      refine (unhide HD).mono ?_
      rintro e w1 ⟨rfl, b1⟩
      have p1 := hpr.below b1
      have B1 := hide (below_next (unhide HB) b1)
      have hw1 := b1.size
      clear HD b1 hpr HB
      go_wp2_with fail
      refine (unhide HS _).mono ?_
      rintro e w1' ⟨rfl, b1'⟩
      have p1' := p1.below b1'
      have B1' := hide (below_next (unhide B1) b1')
      have hw1' := b1'.size
      clear HS b1' p1 B1
      go_wp2_with fail
      refine (unhide HE _).mono ?_
      rintro e w2 ⟨rfl, b2⟩
      have p2 := p1'.below b2
      have B2 := hide (below_next (unhide B1') b2)
      have hw2 := b2.size
      clear HE b2 p1' B1'
      have own2 : w2.ownsRow w.heap.size 102 2 (.slice x len cap) ps.length (ps.flatMap partC) := p2
      have hal : ps.length ≤ 1000000 := by omega
      go_wp2_with (at_builtin; refine wpList_append_own _ rfl (.tmp 44) (.tmp 51) 99 rfl w.heap.size 102 i0 (.agg #[.string ByteArray.empty, .string ByteArray.empty]) 2 32 Tryz.underlying99 hi0 hz0 hz1 hz2 rfl (by decide) _ _ _ rfl (own2.alloc _) ⟨w2.heap.size, 0, none⟩ 1 1 (partC (key, t)) rfl rfl (lit2s _ _ _ _) (fun u hu => by { simp [partC] at hu; rcases hu with rfl | rfl <;> rfl }) (by unfold maxLen; omega) (by omega) (by simp; omega) ?_)
      intro v3 w3 own3 hg3 _
      have P3 : Hid (PR w3 w.heap.size v3 (ps ++ [(key, t)])) := by
        show PR w3 w.heap.size v3 (ps ++ [(key, t)])
        unfold PR
        rw [List.length_append, List.flatMap_append, hlen]
        simpa using own3
      have B3 : Hid (Below w.heap.size w w3) := ((unhide B2).alloc (by omega) _).grown hg3 (by simp; omega) (fun k hk => (own2.lt k hk).1)
      clear own3 hg3 own2 p2 B2
      go_wp2
      go_roundw
      case rel => exact ⟨len + 1, by omega, by rw [unhide HK4]; go_num, by rw [unhide HK5]; exact unhide P3, unhide B3⟩
      case measure => simp [intOf]; omega
    · have hk' : k = qs.length := by omega
      have h2 := unhide HEND
      rw [← hk'] at h2
      have tl : ¬ ((pk (qs.map memT) k : Nat) : Int) < (T.size : Int) - 1 := by omega
      have e : qs.take k = qs := List.take_of_length_le (by omega)
      rw [e] at hpr
      have HP := hide hpr
      generalize pk (qs.map memT) k = P at *
      clear HK HEND HDEC hpr e hk' hlen
      go_wp2
      go_ret
      exact ⟨_, rfl, unhide HP, unhide HB⟩
end Go.Proofs.YtadefcohbkgbfabGreatDoor


namespace Go.Proofs.YtadefcohbkgbfabGreatDoor
open Go.RowKit

theorem perm_map_back {α β : Type} (f : α → β) : ∀ (l1 : List β) (l2 : List α), l1.Perm (l2.map f) → ∃ l3 : List α, l3.Perm l2 ∧ l3.map f = l1
  | [], l2, h => by
    have := h.length_eq
    simp at this
    obtain rfl := List.eq_nil_of_length_eq_zero this.symm
    exact ⟨[], List.Perm.refl _, rfl⟩
  | a :: r, l2, h => by
    have ha : a ∈ l2.map f := h.subset List.mem_cons_self
    obtain ⟨b, hb, rfl⟩ := List.mem_map.1 ha
    obtain ⟨s, t, rfl⟩ := List.append_of_mem hb
    have hp : r.Perm ((s ++ t).map f) := by
      rw [List.map_append, List.map_cons] at h
      rw [List.map_append]
      exact (h.trans List.perm_middle).cons_inv
    obtain ⟨l3, h3, rfl⟩ := perm_map_back f r (s ++ t) hp
    exact ⟨b :: l3, (h3.cons b).trans List.perm_middle.symm, rfl⟩
theorem dl_perm {a b : List JV} (h : a.Perm b) : dl a = dl b := by
  induction h with
  | nil => rfl
  | cons x _ ih => simp [dl, ih]
  | swap x y l => simp only [dl]; omega
  | trans _ _ h1 h2 => exact h1.trans h2
theorem cl_perm {a b : List JV} (h : a.Perm b) : cl a = cl b := by unfold cl; exact (h.map cntV).sum_nat

/-- What the model's sizes promise. -/
def SizesC (v : JV) : Prop := (ct v).length ≤ 1000000 → cntV v ≤ 1000000 → ∀ w : World, Calls Tryz.prog 38 #[.string (strOf (ct v))] w fun e w' => e = .returned (.tuple #[.int .i64 (depV v : Int), .int .i64 (cntV v : Int)]) ∧ Below w.heap.size w w'

set_option maxRecDepth 100000 in
set_option maxHeartbeats 4000000 in
theorem sizes_step (T : ByteArray) (ps : List (List UInt8 × List UInt8)) (vs : List JV) (w : World) (hpv : ps.map (·.2) = vs.map ct) (hc : cl vs ≤ 1000000) (hd : dl vs ≤ 1000000) (hn : ps.length ≤ 1000000)
    (hp : Calls Tryz.prog 61 #[.string T] w fun e w' => ∃ v, e = .returned v ∧ PR w' w.heap.size v ps ∧ Below w.heap.size w w')
    (hs : ∀ v ∈ vs, ∀ w : World, Calls Tryz.prog 38 #[.string (strOf (ct v))] w fun e w' => e = .returned (.tuple #[.int .i64 (depV v : Int), .int .i64 (cntV v : Int)]) ∧ Below w.heap.size w w') :
    Calls Tryz.prog 38 #[.string T] w fun e w' => e = .returned (.tuple #[.int .i64 ((dl vs + 1 : Nat) : Int), .int .i64 ((cl vs + 1 : Nat) : Int)]) ∧ Below w.heap.size w w' := by
  have HP := hide hp
  have hl : ps.length = vs.length := by have := congrArg List.length hpv; simpa using this
  have HALL : Hid (∀ k (hk : k < ps.length), ∃ dk ck : Nat, dl (vs.take (k + 1)) = max (dl (vs.take k)) dk ∧ cl (vs.take (k + 1)) = cl (vs.take k) + ck ∧ dk ≤ dl vs ∧ ck ≤ cl vs ∧ ∀ w : World, Calls Tryz.prog 38 #[.string (strOf ps[k].2)] w fun e w' => e = .returned (.tuple #[.int .i64 (dk : Int), .int .i64 (ck : Int)]) ∧ Below w.heap.size w w') := fun k hk => by
    have hk' : k < vs.length := by omega
    have e : ps[k].2 = ct vs[k] := by
      have := congrArg (fun l => l[k]?) hpv
      simpa [hk, hk'] using this
    refine ⟨depV vs[k], cntV vs[k], ?_, ?_, dl_at vs k hk', ?_, ?_⟩
    · rw [List.take_succ_eq_append_getElem hk']; exact dl_snoc _ _
    · rw [List.take_succ_eq_append_getElem hk']; exact cl_snoc _ _
    · have := sum_at (vs.map cntV) k (by simpa using hk'); simpa [cl] using this
    · rw [e]; exact hs _ (List.getElem_mem hk')
  have HB1 : Hid (∀ k, dl (vs.take k) ≤ dl vs ∧ cl (vs.take k) ≤ cl vs) := fun k => by
    refine ⟨dl_take _ _, ?_⟩
    unfold cl; rw [List.map_take]; exact sum_take _ _
  have HE : Hid (vs.take ps.length = vs) := List.take_of_length_le (by omega)
  clear hp hs hpv hl
  go_enter Tryz.func38, Tryz.ntmps38
  go_wp2_with fail
  refine (unhide HP).mono ?_
  rintro e w1 ⟨v1, rfl, p1, b1⟩
  have P1 := hide p1
  have B1 := hide b1
  obtain ⟨x, len, cap, rfl, hlen⟩ : ∃ x len cap, v1 = .slice x len cap ∧ len = ps.length := by
    rcases p1.2 with ⟨hv, h0⟩ | ⟨g, cap, cur, hv, _⟩
    · exact ⟨_, _, _, hv, h0.symm⟩
    · exact ⟨_, _, _, hv, rfl⟩
  subst hlen
  clear HP p1 b1
  go_wp2_with fail
  go_loopw [5, 6, 7] (fun dv cv iv wr => ∃ k : Nat, k ≤ ps.length ∧ iv = .int .i64 (k : Int) ∧ dv = .int .i64 ((dl (vs.take k) : Nat) : Int) ∧ cv = .int .i64 ((cl (vs.take k) : Nat) : Int) ∧ Below w1.heap.size w1 wr) (fun _ _ iv _ => ps.length - (intOf iv).toNat)
  case atStart => exact ⟨0, Nat.zero_le _, rfl, rfl, rfl, Below.refl _ _⟩
  case round =>
    obtain ⟨k, hk, rfl, rfl, rfl, hb⟩ := hrel
    by_cases hlt : k < ps.length
    · have hltI : (k : Int) < (ps.length : Int) := by omega
      obtain ⟨g, cap', he, hgB, hgl, c0, c1⟩ := ((unhide P1).below hb).cells k hlt
      injection he with he1 he2 he3
      subst he1; subst he3
      obtain ⟨dk, ck, e1, e2, hdk, hck, hcall⟩ := unhide HALL k hlt
      obtain ⟨x1, x2⟩ := unhide HB1 k
      have HCALL := hide (hcall wr)
      have HE1 := hide e1
      have HE2 := hide e2
      have HBW := hide hb
      generalize dl (vs.take k) = D at *
      generalize cl (vs.take k) = C at *
      generalize strOf ps[k].2 = tx at *
      clear hb hcall e1 e2 c0 HALL HB1 P1
      by_cases hm : D < dk
      · have tm : ((D : Int) < (dk : Int)) = True := eq_true (by omega)
        have hmx : max D dk = dk := by omega
        rw [hmx] at HE1
        clear hm hmx
        go_wp2_with fail
        refine (unhide HCALL).mono ?_
        rintro e w2 ⟨rfl, b2⟩
        have B2 := hide ((unhide HBW).trans (b2.mono (unhide HBW).size))
        clear HCALL b2 c1
        go_wp2
        go_roundw
        case rel => exact ⟨k + 1, by omega, by go_num, by rw [unhide HE1], by rw [unhide HE2]; go_num, unhide B2⟩
        case measure => simp [intOf]; omega
      · have tm : ((D : Int) < (dk : Int)) = False := eq_false (by omega)
        have hmx : max D dk = D := by omega
        rw [hmx] at HE1
        clear hm hmx
        go_wp2_with fail
        refine (unhide HCALL).mono ?_
        rintro e w2 ⟨rfl, b2⟩
        have B2 := hide ((unhide HBW).trans (b2.mono (unhide HBW).size))
        clear HCALL b2 c1
        go_wp2
        go_roundw
        case rel => exact ⟨k + 1, by omega, by go_num, by rw [unhide HE1], by rw [unhide HE2]; go_num, unhide B2⟩
        case measure => simp [intOf]; omega
    · have hk' : k = ps.length := by omega
      subst hk'
      rw [unhide HE]
      have B2 := below_next (unhide B1) hb
      clear HALL HB1 P1 B1 hb
      go_wp2
      go_ret2
      exact ⟨by first | rfl | go_num, B2⟩
end Go.Proofs.YtadefcohbkgbfabGreatDoor


namespace Go.Proofs.YtadefcohbkgbfabGreatDoor
open Go.RowKit

mutual
/-- How deep brackets stand inside of each other. -/
def nestV : JV → Nat
  | .arr l => nestL l + 1
  | .obj m => nestM m + 1
  | .nul => 0
  | .tt => 0
  | .ff => 0
  | .num _ => 0
  | .str _ => 0
def nestL : JL → Nat
  | .nil => 0
  | .cons v r => max (nestV v) (nestL r)
def nestM : JM → Nat
  | .nil => 0
  | .cons _ v r => max (nestV v) (nestM r)
end
mutual
theorem nest_dep : ∀ v : JV, nestV v ≤ depV v
  | .nul => Nat.zero_le _
  | .tt => Nat.zero_le _
  | .ff => Nat.zero_le _
  | .num _ => Nat.zero_le _
  | .str _ => Nat.zero_le _
  | .arr l => by rw [nestV, depV]; have := nest_depL l; omega
  | .obj m => by rw [nestV, depV]; have := nest_depM m; omega
theorem nest_depL : ∀ l : JL, nestL l ≤ depL l
  | .nil => Nat.le_refl _
  | .cons v r => by rw [nestL, depL]; have := nest_depL r; have := nest_dep v; omega
theorem nest_depM : ∀ m : JM, nestM m ≤ depM m
  | .nil => Nat.le_refl _
  | .cons k v r => by rw [nestM, depM]; have := nest_depM r; have := nest_dep v; omega
end
def nst : List JV → Nat
  | [] => 0
  | v :: r => max (nestV v) (nst r)
theorem nst_perm {a b : List JV} (h : a.Perm b) : nst a = nst b := by
  induction h with
  | nil => rfl
  | cons x _ ih => simp [nst, ih]
  | swap x y l => simp only [nst]; omega
  | trans _ _ h1 h2 => exact h1.trans h2
theorem nestM_nst : ∀ m : JM, nestM m = nst (m.toL.map (·.2))
  | .nil => rfl
  | .cons k v r => by rw [nestM, JM.toL, List.map_cons, nst, nestM_nst r]

section
variable {T : ByteArray}
def InW (T : ByteArray) (t : List UInt8) (d : Nat) : Prop := ∀ op mo i m f r, op ≤ mo → T.data.toList.drop i = t ++ m → wiF T f op (max mo (op + d)) (i + t.length) = some r → ∃ f', wiF T f' op mo i = some r
theorem InW.nil : InW T [] 0 := fun op mo _ _ f _ ho _ h => ⟨f, by rwa [show max mo (op + 0) = mo by omega] at h⟩
theorem InW.app {a b : List UInt8} {d e : Nat} (ha : InW T a d) (hb : InW T b e) : InW T (a ++ b) (max d e) := fun op mo i m f r ho h he => by
  rw [List.append_assoc] at h
  rw [List.length_append, ← Nat.add_assoc, show max mo (op + max d e) = max (max mo (op + d)) (op + e) by omega] at he
  obtain ⟨f1, h1⟩ := hb op _ (i + a.length) m f r (by omega) (drop_past h) he
  exact ha op mo i (b ++ m) f1 r ho h h1
theorem InW.one {c : UInt8} (hc : plainC c) : InW T [c] 0 := fun op mo i m f r ho h he => by
  obtain ⟨hl, hb, _⟩ := at_head h
  refine ⟨f + 1, ?_⟩
  rw [wiF, if_pos hl, nxt_plain hb hc.1, hb, op1_plain hc]
  exact he
theorem InW.plain : ∀ {t : List UInt8}, (∀ c ∈ t, plainC c) → InW T t 0
  | [], _ => InW.nil
  | c :: _, h => InW.app (a := [c]) (d := 0) (e := 0) (InW.one (h c List.mem_cons_self)) (InW.plain fun d hd => h d (List.mem_cons_of_mem _ hd))
theorem InW.quoted {l : List UInt8} (hv : Lib.validD l = true) : InW T (Go.Proofs.YtadefcohbkgbfabGreatDoor.quoted l) 0 := fun op mo i m f r ho h he => by
  obtain ⟨hl, hb, hn⟩ := nxt_quoted hv h
  refine ⟨f + 1, ?_⟩
  rw [wiF, if_pos hl, hn, hb, op1_34]
  exact he
theorem InW.wrap {t : List UInt8} {a b : UInt8} {d : Nat} (ha : isOp a.toNat = true) (hb : isCl b.toNat = true) (ht : InW T t d) : InW T (a :: (t ++ [b])) (d + 1) := by
  have ha34 : a.toNat ≠ 34 := by intro e; rw [e] at ha; cases ha
  have hb34 : b.toNat ≠ 34 := by intro e; rw [e] at hb; cases hb
  have hbo : isOp b.toNat = false := by
    simp only [isCl, Bool.or_eq_true, beq_iff_eq] at hb
    rcases hb with h | h <;> simp [isOp, h]
  intro op mo i m f r ho h he
  have h0 : T.data.toList.drop i = a :: (t ++ (b :: m)) := by rw [h]; simp
  obtain ⟨hl, hba, hd⟩ := at_head h0
  obtain ⟨hl2, hbb, hd2⟩ := at_head (drop_past hd)
  have e2 : wiF T (f + 1) (op + 1) (max (max mo (op + 1)) (op + 1 + d)) (i + 1 + t.length) = some r := by
    rw [wiF, if_pos hl2, nxt_plain hbb hb34, hbb]
    simp only [Option.bind_some, op1, hbo, hb, if_true, Bool.false_eq_true, if_false]
    rw [if_neg (by omega)]
    simp only [Option.bind_some, Nat.add_sub_cancel]
    rw [show i + 1 + t.length + 1 = i + (a :: (t ++ [b])).length by simp; omega, show max (max (max mo (op + 1)) (op + 1 + d)) op = max mo (op + (d + 1)) by omega]
    exact he
  obtain ⟨f3, hf3⟩ := ht (op + 1) _ (i + 1) (b :: m) _ r (by omega) hd e2
  refine ⟨f3 + 1, ?_⟩
  rw [wiF, if_pos hl, nxt_plain hba ha34, hba]
  simp only [Option.bind_some, op1, ha, if_true]
  exact hf3
theorem plain_44 : plainC 44 := ⟨by decide, by decide, by decide, by decide, by decide⟩
theorem plain_58 : plainC 58 := ⟨by decide, by decide, by decide, by decide, by decide⟩

mutual
theorem ctW : ∀ v : JV, okV v → InW T (ct v) (nestV v)
  | .nul, _ => InW.plain fun c hc => ((word_plain (l := [110, 117, 108, 108]) (by simp)).2 c hc).1
  | .tt, _ => InW.plain fun c hc => ((word_plain (l := [116, 114, 117, 101]) (by simp)).2 c hc).1
  | .ff, _ => InW.plain fun c hc => ((word_plain (l := [102, 97, 108, 115, 101]) (by simp)).2 c hc).1
  | .num l, h => InW.plain fun c hc => ((num_plain h).2 c hc).1
  | .str l, h => by rw [okV] at h; exact InW.quoted h
  | .arr l, h => by
    rw [okV] at h
    rw [nestV]
    refine InW.wrap rfl rfl ?_
    cases l with
    | nil => exact InW.nil
    | cons v r =>
      rw [okL] at h
      exact InW.app (ctW v h.1) (ctLW r h.2)
  | .obj m, h => by
    rw [okV] at h
    rw [nestV]
    refine InW.wrap rfl rfl ?_
    have hm := ctMW m h
    obtain ⟨qs, hq, he⟩ := perm_map_back (fun q : List UInt8 × JV => (q.1, ct q.2)) (isort (ctM m)) m.toL (by rw [← ctM_map]; exact isort_perm _)
    rw [← he, nestM_nst, ← nst_perm (hq.map (·.2))]
    have hall : ∀ q ∈ qs, InW T (memT (q.1, ct q.2)) (nestV q.2) := fun q hqm => hm q (hq.subset hqm)
    clear hm he hq
    have hj : ∀ qs : List (List UInt8 × JV), (∀ q ∈ qs, InW T (memT (q.1, ct q.2)) (nestV q.2)) → InW T (joinT ((qs.map fun q => (q.1, ct q.2)).map memT)) (nst (qs.map (·.2))) := by
      intro qs
      induction qs with
      | nil => intro _; exact InW.nil
      | cons q r ih =>
        intro hh
        have := InW.app (a := [44]) (d := 0) (InW.one plain_44) (InW.app (hh q List.mem_cons_self) (ih fun x hx => hh x (List.mem_cons_of_mem _ hx)))
        rw [show max 0 (max (nestV q.2) (nst (r.map (·.2)))) = max (nestV q.2) (nst (r.map (·.2))) by omega] at this
        exact this
    cases qs with
    | nil => exact InW.nil
    | cons q r => exact InW.app (hall q List.mem_cons_self) (hj r fun x hx => hall x (List.mem_cons_of_mem _ hx))
theorem ctLW : ∀ l : JL, okL l → InW T (joinT (ctL l)) (nestL l)
  | .nil, _ => InW.nil
  | .cons v r, h => by
    rw [okL] at h
    have := InW.app (a := [44]) (d := 0) (InW.one (T := T) plain_44) (InW.app (ctW v h.1) (ctLW r h.2))
    rw [show max 0 (max (nestV v) (nestL r)) = max (nestV v) (nestL r) by omega] at this
    exact this
theorem ctMW : ∀ m : JM, okM m → ∀ q ∈ m.toL, InW T (memT (q.1, ct q.2)) (nestV q.2)
  | .nil, _, q, hq => by simp [JM.toL] at hq
  | .cons k v r, h, q, hq => by
    rw [okM] at h
    rw [JM.toL] at hq
    rcases List.mem_cons.1 hq with e | hq
    · rw [e]
      have := InW.app (InW.quoted (T := T) h.1) (InW.app (a := [58]) (d := 0) (InW.one plain_58) (ctW v h.2.1))
      rw [show max 0 (max 0 (nestV v)) = nestV v by omega] at this
      exact this
    · exact ctMW r h.2.2 q hq
end
end
theorem wi_ct (v : JV) (h : okV v) : ∃ f, wiF (strOf (ct v)) f 0 0 0 = some (nestV v) := by
  refine ctW (T := strOf (ct v)) v h 0 0 0 [] 1 (nestV v) (Nat.le_refl _) (by rw [strOf_toList]; simp) ?_
  rw [wiF, if_neg (by rw [strOf_size]; omega)]
  simp
end Go.Proofs.YtadefcohbkgbfabGreatDoor

