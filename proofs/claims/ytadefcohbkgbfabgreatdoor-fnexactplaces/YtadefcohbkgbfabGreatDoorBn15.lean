import Derived.Deep.RegionLaw
import Derived.Test.YtadefcohbkgbfabGreatDoorBn9
import Derived.Test.YtadefcohbkgbfabGreatDoorBn1
import Derived.Test.YtadefcohbkgbfabGreatDoorBn14
namespace Go.Proofs.YtadefcohbkgbfabGreatDoor
open Go.RowKit

theorem memT_cat (p : Part) : strOf (quoted p.1) ++ ⟨#[58]⟩ ++ strOf p.2 = strOf (memT p) := by
  rw [show (⟨#[58]⟩ : ByteArray) = strOf [58] from rfl, strOf_app, strOf_app]; simp [memT]
theorem joinC_take (ps : List Part) (j : Nat) (h : j < ps.length) : joinC ((ps.take (j + 1)).map memT) = joinC ((ps.take j).map memT) ++ (if j = 0 then memT ps[j] else 44 :: memT ps[j]) := by
  rw [List.take_succ_eq_append_getElem h, List.map_append, List.map_singleton, joinC_snoc]
  by_cases hj : j = 0
  · subst hj; simp
  · rw [if_neg (by simp; exact ⟨hj, by intro e; subst e; simp at h⟩), if_neg hj]
theorem sumT_app (a b : List Part) : sumT (a ++ b) = sumT a + sumT b := by
  unfold sumT; rw [List.map_append, List.sum_append]
theorem take_sum (ps : List Part) (j : Nat) : sumT (ps.take j) ≤ sumT ps := by
  have h := congrArg sumT (List.take_append_drop j ps)
  have e := sumT_app (ps.take j) (ps.drop j)
  omega
theorem joinC_take_len (ps : List Part) (j : Nat) : (joinC ((ps.take j).map memT)).length ≤ sumT ps := by
  have h := joinC_len ((ps.take j).map memT)
  have h2 := take_sum ps j
  rw [List.map_map] at h
  exact Nat.le_trans h h2
theorem memT_le (ps : List Part) (j : Nat) (h : j < ps.length) : (memT ps[j]).length + 1 ≤ sumT ps := by
  have h1 := take_sum ps (j + 1)
  rw [List.take_succ_eq_append_getElem h] at h1
  have e : sumT (ps.take j ++ [ps[j]]) = sumT (ps.take j) + ((memT ps[j]).length + 1) := by rw [sumT_app]; simp [sumT]
  omega

set_option maxRecDepth 100000 in
set_option maxHeartbeats 4000000 in
theorem make_walk (B : Nat) (v : Value) (ps : List Part) (w : World) (h : PR w B v ps) (hn : sumT ps ≤ 40000000) (hl : ps.length ≤ 40000000) (hk : ∀ p ∈ ps, p.1.length ≤ 1048576) :
    Calls Tryz.prog 76 #[v] w fun e w' => e = .returned (.string (strOf (mkO ps))) ∧ Below w.heap.size w w' := by
  obtain ⟨i0, hi0, hz0, hz1, hz2⟩ := info_parts infoU8
  obtain ⟨x, len, cap, rfl, hlen⟩ : ∃ x len cap, v = .slice x len cap ∧ len = ps.length := by
    rcases h.2 with ⟨hv, h0⟩ | ⟨g, cap, cur, hv, _⟩
    · exact ⟨_, _, _, hv, h0.symm⟩
    · exact ⟨_, _, _, hv, rfl⟩
  subst hlen
  have HP := hide h
  have HK := hide hk
  clear h hk
  go_enter Tryz.func76, Tryz.ntmps76
  go_wp2_with fail
  go_loopw [3, 4] (fun r k wr => ∃ (j : Nat) (acc : List UInt8), k = .int .i64 (j : Int) ∧ j ≤ ps.length ∧ acc = 123 :: joinC ((ps.take j).map memT) ∧ wr.ownsRow w.heap.size 5 1 r (Lib.byteCells acc).length (Lib.byteCells acc) ∧ Below w.heap.size w wr) (fun _ k _ => ps.length - (intOf k).toNat)
  case atStart =>
    exact ⟨0, [123], rfl, Nat.zero_le _, rfl, World.ownsRow_lit w #[.int .u8 123] 1 (Nat.le_refl _) (by unfold maxLen; omega) rfl, (Below.refl _ _).alloc (Nat.le_refl _) _⟩
  case round =>
    obtain ⟨j, acc, rfl, hj, hacc, hown, hb⟩ := hrel
    have HA := hide hacc
    have HB := hide hb
    have hwsz := hb.size
    have hal : acc.length ≤ 40000001 := by
      have := joinC_take_len ps j
      rw [hacc]; simp only [List.length_cons]; omega
    clear hacc hb
    by_cases hin : j < ps.length
    · have t1 : ((j : Int) < (ps.length : Int)) = True := eq_true (by omega)
      have i1 : (0 : Int) ≤ (j : Int) := by omega
      have i2 : (j : Int) < (ps.length : Int) := by omega
      have hm := memT_le ps j hin
      have hcat := memT_cat ps[j]
      have HQ : Hid (∀ w, Calls Tryz.prog 27 #[.string (strOf ps[j].1)] w fun e w' => e = .returned (.string (strOf (quoted ps[j].1))) ∧ Below w.heap.size w w') := fun w => by
        have := quoted_walk (strOf ps[j].1) w (by rw [strOf_size]; exact unhide HK _ (List.getElem_mem _))
        rwa [strOf_toList] at this
      have HJ := hide (joinC_take ps j hin)
      have z1 : (strOf (quoted ps[j].1)).size ≤ 40000000 := by
        rw [strOf_size]
        simp only [memT, List.length_append, List.length_cons] at hm; omega
      have z2 : (strOf ps[j].2).size ≤ 40000000 := by
        rw [strOf_size]
        simp only [memT, List.length_append, List.length_cons] at hm; omega
      have z3 : (9223372036854775807 < (strOf (quoted ps[j].1)).size + 1) = False := eq_false (by omega)
      have z4 : (9223372036854775807 < (strOf (quoted ps[j].1)).size + 1 + (strOf ps[j].2).size) = False := eq_false (by omega)
      by_cases hj0 : j = 0
      · have t2 : (0 < j) = False := eq_false (by omega)
        rw [if_pos hj0] at HJ
        obtain ⟨g, cap', he, hgB, hgl, c0, c1⟩ := (unhide HP).cells j hin
        injection he with he1 he2 he3
        subst he1; subst he3
        generalize ps[j] = p at *
        clear hj0
        have keepc : Hid (∀ X : World, Below w.heap.size w X → X.cell? ⟨g, j * 2, none⟩ = some (.string (strOf p.1)) ∧ X.cell? ⟨g, j * 2 + 1, none⟩ = some (.string (strOf p.2))) := fun X hX => ⟨(hX.cell hgl).trans c0, (hX.cell hgl).trans c1⟩
        clear c0 c1
        go_wp2_with fail
        obtain ⟨k00, k01⟩ := unhide keepc _ ((unhide HB).drew)
        go_region_law (first
            | (go_simp; refine (unhide HQ _).mono ?_; rintro e w2 ⟨rfl, b2⟩
               have B2 := below_next ((unhide HB).drew) b2
               obtain ⟨cap3, W3, hcv, hcell, b3, hk3, hs3⟩ := conv_bytes w2 (memT p)
               have own3 := hk3 _ _ _ _ _ (own_below (w := wr.drew) hown b2)
               have B3 := below_next B2 b3
               have HCELL := hide hcell
               have hw2 := B2.size
               obtain ⟨k0, k1⟩ := unhide keepc _ B2
               clear hcell hk3)
            | (refine step_append_own rfl (.tmp 17) (.tmp 31) 22 rfl w.heap.size 5 i0 (.int .u8 0) 1 1 Tryz.underlying22 hi0 hz0 hz1 hz2 rfl (by decide) _ _ _ rfl (by exact own3) ⟨w2.heap.size, 0, none⟩ (memT p).length cap3 (Lib.byteCells (memT p)) rfl (by rw [Lib.byteCells_length]; omega) (by exact unhide HCELL) (one_bytes _) (by rw [Lib.byteCells_length]; unfold maxLen; omega) (by rw [Lib.byteCells_length]; omega) (by omega) ?_
               intro v4 w4 own4 hg4
               have B4 : Below w.heap.size w w4 := B3.grown hg4 (by omega) (fun k hk => (own3.lt k hk).1)))
        all_goals
          have own4' := own_step (m := memT p) own4 rfl rfl
          clear own4 hg4 own3 HCELL B3 B2 hcv b2 b3 hown keepc HB
          go_wp2
          go_roundw
        all_goals first
          | exact ⟨j + 1, acc ++ memT p, by go_num, by omega, by rw [unhide HA, unhide HJ]; simp, own4', B4⟩
          | (simp [intOf]; omega)
      · have t2 : (0 < j) = True := eq_true (by omega)
        rw [if_neg hj0] at HJ
        obtain ⟨g, cap', he, hgB, hgl, c0, c1⟩ := (unhide HP).cells j hin
        injection he with he1 he2 he3
        subst he1; subst he3
        generalize ps[j] = p at *
        clear hj0
        have keepc : Hid (∀ X : World, Below w.heap.size w X → X.cell? ⟨g, j * 2, none⟩ = some (.string (strOf p.1)) ∧ X.cell? ⟨g, j * 2 + 1, none⟩ = some (.string (strOf p.2))) := fun X hX => ⟨(hX.cell hgl).trans c0, (hX.cell hgl).trans c1⟩
        clear c0 c1
        go_wp2_with (at_builtin; refine wpList_append_own _ rfl (.tmp 14) (.tmp 15) 22 rfl w.heap.size 5 i0 (.int .u8 0) 1 1 Tryz.underlying22 hi0 hz0 hz1 hz2 rfl (by decide) _ _ _ rfl (hown.alloc _) ⟨wr.heap.size, 0, none⟩ 1 1 [.int .u8 44] rfl rfl (lit1 _ _ _) (one1 _ _) (by rw [Lib.byteCells_length]; unfold maxLen; omega) (by rw [Lib.byteCells_length]; omega) (by simp; omega) ?_; intro v1 w1 own1 hg1 _; have own1' := own_step (m := [44]) own1 rfl rfl; have HB1 := hide (((unhide HB).alloc hwsz _).grown hg1 (by simp; omega) (fun k hk => (hown.lt k hk).1)); have hw1 := (unhide HB1).size; have hal1 : (acc ++ [44]).length ≤ 40000002 := by { simp; omega })
        clear own1 hg1 hown HB
        obtain ⟨k00, k01⟩ := unhide keepc _ ((unhide HB1).drew)
        go_region_law (first
            | (go_simp; refine (unhide HQ _).mono ?_; rintro e w2 ⟨rfl, b2⟩
               have B2 := below_next ((unhide HB1).drew) b2
               obtain ⟨cap3, W3, hcv, hcell, b3, hk3, hs3⟩ := conv_bytes w2 (memT p)
               have own3 := hk3 _ _ _ _ _ (own_below (w := w1.drew) own1' b2)
               have B3 := below_next B2 b3
               have HCELL := hide hcell
               have hw2 := B2.size
               obtain ⟨k0, k1⟩ := unhide keepc _ B2
               clear hcell hk3)
            | (refine step_append_own rfl (.tmp 17) (.tmp 31) 22 rfl w.heap.size 5 i0 (.int .u8 0) 1 1 Tryz.underlying22 hi0 hz0 hz1 hz2 rfl (by decide) _ _ _ rfl (by exact own3) ⟨w2.heap.size, 0, none⟩ (memT p).length cap3 (Lib.byteCells (memT p)) rfl (by rw [Lib.byteCells_length]; omega) (by exact unhide HCELL) (one_bytes _) (by rw [Lib.byteCells_length]; unfold maxLen; omega) (by rw [Lib.byteCells_length]; omega) (by omega) ?_
               intro v4 w4 own4 hg4
               have B4 : Below w.heap.size w w4 := B3.grown hg4 (by omega) (fun k hk => (own3.lt k hk).1)))
        all_goals
          have own4' := own_step (m := memT p) own4 rfl rfl
          clear own4 hg4 own3 HCELL B3 B2 hcv b2 b3 own1' keepc HB1
          go_wp2
          go_roundw
        all_goals first
          | exact ⟨j + 1, (acc ++ [44]) ++ memT p, by go_num, by omega, by rw [unhide HA, unhide HJ]; simp, own4', B4⟩
          | (simp [intOf]; omega)
    · have t1 : ((j : Int) < (ps.length : Int)) = False := eq_false (by omega)
      have HE : Hid (acc ++ [125] = mkO ps) := by
        show _ = _
        rw [unhide HA, List.take_of_length_le (by omega)]; simp [mkO]
      go_wp2_with (at_builtin; refine wpList_append_own _ rfl (.tmp 33) (.tmp 34) 22 rfl w.heap.size 5 i0 (.int .u8 0) 1 1 Tryz.underlying22 hi0 hz0 hz1 hz2 rfl (by decide) _ _ _ rfl (hown.alloc _) ⟨wr.heap.size, 0, none⟩ 1 1 [.int .u8 125] rfl rfl (lit1 _ _ _) (one1 _ _) (by rw [Lib.byteCells_length]; unfold maxLen; omega) (by rw [Lib.byteCells_length]; omega) (by simp; omega) ?_; intro v1 w1 own1 hg1 _; have own1' := own_step (m := [125]) own1 rfl rfl; have HB1 := hide (((unhide HB).alloc hwsz _).grown hg1 (by simp; omega) (fun k hk => (hown.lt k hk).1)); have hcv := convert_own own1'; clear own1 hg1 own1' hown HB)
      go_ret
      exact ⟨by rw [← unhide HE]; rfl, unhide HB1⟩
end Go.Proofs.YtadefcohbkgbfabGreatDoor

