import Derived.Deep.RegionLaw
import Derived.Test.YtocnekbedcnmgaaGreatDoorBq4
import Derived.Test.YtocnekbedcnmgaaGreatDoorBq1
import Derived.Test.YtocnekbedcnmgaaGreatDoorBq7
import Derived.Test.YtocnekbedcnmgaaGreatDoorBq2
namespace Go.Proofs.YtocnekbedcnmgaaGreatDoor
open Go.RowKit

theorem memT_cat (p : Part) : strOf (quoted p.1) ++ ⟨#[58]⟩ ++ strOf p.2 = strOf (memT p) := by
  rw [show (⟨#[58]⟩ : ByteArray) = strOf [58] from rfl, strOf_app, strOf_app]; simp [memT]
theorem joinC_take (ps : List Part) (j : Nat) (h : j < ps.length) : joinC ((ps.take (j + 1)).map memT) = joinC ((ps.take j).map memT) ++ (if j = 0 then memT ps[j] else 44 :: memT ps[j]) := by
  rw [List.take_succ_eq_append_getElem h, List.map_append, List.map_singleton, joinC_snoc]
  by_cases hj : j = 0
  · subst hj; simp
  · rw [if_neg (by simp; exact ⟨hj, by intro e; subst e; simp at h⟩), if_neg hj]
theorem sumT_app (a b : List Part) : sumT (a ++ b) = sumT a + sumT b := by
  unfold sumT; rw [List.map_append, List.sum_append]
theorem take_sum (ps : List Part) (j : Nat) : sumT (ps.take j) ≤ sumT ps := by
  have h := congrArg sumT (List.take_append_drop j ps)
  have e := sumT_app (ps.take j) (ps.drop j)
  omega
theorem joinC_take_len (ps : List Part) (j : Nat) : (joinC ((ps.take j).map memT)).length ≤ sumT ps := by
  have h := joinC_len ((ps.take j).map memT)
  have h2 := take_sum ps j
  rw [List.map_map] at h
  exact Nat.le_trans h h2
theorem memT_le (ps : List Part) (j : Nat) (h : j < ps.length) : (memT ps[j]).length + 1 ≤ sumT ps := by
  have h1 := take_sum ps (j + 1)
  rw [List.take_succ_eq_append_getElem h] at h1
  have e : sumT (ps.take j ++ [ps[j]]) = sumT (ps.take j) + ((memT ps[j]).length + 1) := by rw [sumT_app]; simp [sumT]
  omega

set_option maxRecDepth 100000 in
set_option maxHeartbeats 4000000 in
theorem make_walk (B : Nat) (v : Value) (ps : List Part) (w : World) (h : PR w B v ps) (hn : sumT ps ≤ 40000000) (hl : ps.length ≤ 40000000) (hk : ∀ p ∈ ps, p.1.length ≤ 1048576) :
    Calls Tryz.prog 121 #[v] w fun e w' => e = .returned (.string (strOf (mkO ps))) ∧ Below w.heap.size w w' := by
  obtain ⟨i0, hi0, hz0, hz1, hz2⟩ := info_parts infoU8
  obtain ⟨x, len, cap, rfl, hlen⟩ : ∃ x len cap, v = .slice x len cap ∧ len = ps.length := by
    rcases h.2 with ⟨hv, h0⟩ | ⟨g, cap, cur, hv, _⟩
    · exact ⟨_, _, _, hv, h0.symm⟩
    · exact ⟨_, _, _, hv, rfl⟩
  subst hlen
  have HP := hide h
  have HK := hide hk
  clear h hk
  go_enter Tryz.func121, Tryz.ntmps121
  go_wp2_with fail
  go_loopw [3, 4] (fun r k wr => ∃ (j : Nat) (acc : List UInt8), k = .int .i64 (j : Int) ∧ j ≤ ps.length ∧ acc = 123 :: joinC ((ps.take j).map memT) ∧ wr.ownsRow w.heap.size 5 1 r (Lib.byteCells acc).length (Lib.byteCells acc) ∧ Below w.heap.size w wr) (fun _ k _ => ps.length - (intOf k).toNat)
  case atStart =>
    exact ⟨0, [123], rfl, Nat.zero_le _, rfl, World.ownsRow_lit w #[.int .u8 123] 1 (Nat.le_refl _) (by unfold maxLen; omega) rfl, (Below.refl _ _).alloc (Nat.le_refl _) _⟩
  case round =>
    obtain ⟨j, acc, rfl, hj, hacc, hown, hb⟩ := hrel
    have HA := hide hacc
    have HB := hide hb
    have hwsz := hb.size
    have hal : acc.length ≤ 40000001 := by
      have := joinC_take_len ps j
      rw [hacc]; simp only [List.length_cons]; omega
    clear hacc hb
    by_cases hin : j < ps.length
    · have t1 : ((j : Int) < (ps.length : Int)) = True := eq_true (by omega)
      have i1 : (0 : Int) ≤ (j : Int) := by omega
      have i2 : (j : Int) < (ps.length : Int) := by omega
      have hm := memT_le ps j hin
      have hcat := memT_cat ps[j]
      have HQ : Hid (∀ w, Calls Tryz.prog 110 #[.string (strOf ps[j].1)] w fun e w' => e = .returned (.string (strOf (quoted ps[j].1))) ∧ Below w.heap.size w w') := fun w => by
        have := quoted_walk (strOf ps[j].1) w (by rw [strOf_size]; exact unhide HK _ (List.getElem_mem _))
        rwa [strOf_toList] at this
      have HJ := hide (joinC_take ps j hin)
      have z1 : (strOf (quoted ps[j].1)).size ≤ 40000000 := by
        rw [strOf_size]
        simp only [memT, List.length_append, List.length_cons] at hm; omega
      have z2 : (strOf ps[j].2).size ≤ 40000000 := by
        rw [strOf_size]
        simp only [memT, List.length_append, List.length_cons] at hm; omega
      have z3 : (9223372036854775807 < (strOf (quoted ps[j].1)).size + 1) = False := eq_false (by omega)
      have z4 : (9223372036854775807 < (strOf (quoted ps[j].1)).size + 1 + (strOf ps[j].2).size) = False := eq_false (by omega)
      by_cases hj0 : j = 0
      · have t2 : (0 < j) = False := eq_false (by omega)
        rw [if_pos hj0] at HJ
        obtain ⟨g, cap', he, hgB, hgl, c0, c1⟩ := (unhide HP).cells j hin
        injection he with he1 he2 he3
        subst he1; subst he3
        generalize ps[j] = p at *
        clear hj0
        have keepc : Hid (∀ X : World, Below w.heap.size w X → X.cell? ⟨g, j * 2, none⟩ = some (.string (strOf p.1)) ∧ X.cell? ⟨g, j * 2 + 1, none⟩ = some (.string (strOf p.2))) := fun X hX => ⟨(hX.cell hgl).trans c0, (hX.cell hgl).trans c1⟩
        clear c0 c1
        go_wp2_with fail
        obtain ⟨k00, k01⟩ := unhide keepc _ ((unhide HB).drew)
        go_region_law (first
            | (go_simp; refine (unhide HQ _).mono ?_; rintro e w2 ⟨rfl, b2⟩
               have B2 := below_next ((unhide HB).drew) b2
               obtain ⟨cap3, W3, hcv, hcell, b3, hk3, hs3⟩ := conv_bytes w2 (memT p)
               have own3 := hk3 _ _ _ _ _ (own_below (w := wr.drew) hown b2)
               have B3 := below_next B2 b3
               have HCELL := hide hcell
               have hw2 := B2.size
               obtain ⟨k0, k1⟩ := unhide keepc _ B2
               clear hcell hk3)
            | (refine step_append_own rfl (.tmp 17) (.tmp 31) 37 rfl w.heap.size 5 i0 (.int .u8 0) 1 1 Tryz.underlying37 hi0 hz0 hz1 hz2 rfl (by decide) _ _ _ rfl (by exact own3) ⟨w2.heap.size, 0, none⟩ (memT p).length cap3 (Lib.byteCells (memT p)) rfl (by rw [Lib.byteCells_length]; omega) (by exact unhide HCELL) (one_bytes _) (by rw [Lib.byteCells_length]; unfold maxLen; omega) (by rw [Lib.byteCells_length]; omega) (by omega) ?_
               intro v4 w4 own4 hg4
               have B4 : Below w.heap.size w w4 := B3.grown hg4 (by omega) (fun k hk => (own3.lt k hk).1)))
        all_goals
          have own4' := own_step (m := memT p) own4 rfl rfl
          clear own4 hg4 own3 HCELL B3 B2 hcv b2 b3 hown keepc HB
          go_wp2
          go_roundw
        all_goals first
          | exact ⟨j + 1, acc ++ memT p, by go_num, by omega, by rw [unhide HA, unhide HJ]; simp, own4', B4⟩
          | (simp [intOf]; omega)
      · have t2 : (0 < j) = True := eq_true (by omega)
        rw [if_neg hj0] at HJ
        obtain ⟨g, cap', he, hgB, hgl, c0, c1⟩ := (unhide HP).cells j hin
        injection he with he1 he2 he3
        subst he1; subst he3
        generalize ps[j] = p at *
        clear hj0
        have keepc : Hid (∀ X : World, Below w.heap.size w X → X.cell? ⟨g, j * 2, none⟩ = some (.string (strOf p.1)) ∧ X.cell? ⟨g, j * 2 + 1, none⟩ = some (.string (strOf p.2))) := fun X hX => ⟨(hX.cell hgl).trans c0, (hX.cell hgl).trans c1⟩
        clear c0 c1
        go_wp2_with (at_builtin; refine wpList_append_own _ rfl (.tmp 14) (.tmp 15) 37 rfl w.heap.size 5 i0 (.int .u8 0) 1 1 Tryz.underlying37 hi0 hz0 hz1 hz2 rfl (by decide) _ _ _ rfl (hown.alloc _) ⟨wr.heap.size, 0, none⟩ 1 1 [.int .u8 44] rfl rfl (lit1 _ _ _) (one1 _ _) (by rw [Lib.byteCells_length]; unfold maxLen; omega) (by rw [Lib.byteCells_length]; omega) (by simp; omega) ?_; intro v1 w1 own1 hg1 _; have own1' := own_step (m := [44]) own1 rfl rfl; have HB1 := hide (((unhide HB).alloc hwsz _).grown hg1 (by simp; omega) (fun k hk => (hown.lt k hk).1)); have hw1 := (unhide HB1).size; have hal1 : (acc ++ [44]).length ≤ 40000002 := by { simp; omega })
        clear own1 hg1 hown HB
        obtain ⟨k00, k01⟩ := unhide keepc _ ((unhide HB1).drew)
        go_region_law (first
            | (go_simp; refine (unhide HQ _).mono ?_; rintro e w2 ⟨rfl, b2⟩
               have B2 := below_next ((unhide HB1).drew) b2
               obtain ⟨cap3, W3, hcv, hcell, b3, hk3, hs3⟩ := conv_bytes w2 (memT p)
               have own3 := hk3 _ _ _ _ _ (own_below (w := w1.drew) own1' b2)
               have B3 := below_next B2 b3
               have HCELL := hide hcell
               have hw2 := B2.size
               obtain ⟨k0, k1⟩ := unhide keepc _ B2
               clear hcell hk3)
            | (refine step_append_own rfl (.tmp 17) (.tmp 31) 37 rfl w.heap.size 5 i0 (.int .u8 0) 1 1 Tryz.underlying37 hi0 hz0 hz1 hz2 rfl (by decide) _ _ _ rfl (by exact own3) ⟨w2.heap.size, 0, none⟩ (memT p).length cap3 (Lib.byteCells (memT p)) rfl (by rw [Lib.byteCells_length]; omega) (by exact unhide HCELL) (one_bytes _) (by rw [Lib.byteCells_length]; unfold maxLen; omega) (by rw [Lib.byteCells_length]; omega) (by omega) ?_
               intro v4 w4 own4 hg4
               have B4 : Below w.heap.size w w4 := B3.grown hg4 (by omega) (fun k hk => (own3.lt k hk).1)))
        all_goals
          have own4' := own_step (m := memT p) own4 rfl rfl
          clear own4 hg4 own3 HCELL B3 B2 hcv b2 b3 own1' keepc HB1
          go_wp2
          go_roundw
        all_goals first
          | exact ⟨j + 1, (acc ++ [44]) ++ memT p, by go_num, by omega, by rw [unhide HA, unhide HJ]; simp, own4', B4⟩
          | (simp [intOf]; omega)
    · have t1 : ((j : Int) < (ps.length : Int)) = False := eq_false (by omega)
      have HE : Hid (acc ++ [125] = mkO ps) := by
        show _ = _
        rw [unhide HA, List.take_of_length_le (by omega)]; simp [mkO]
      go_wp2_with (at_builtin; refine wpList_append_own _ rfl (.tmp 33) (.tmp 34) 37 rfl w.heap.size 5 i0 (.int .u8 0) 1 1 Tryz.underlying37 hi0 hz0 hz1 hz2 rfl (by decide) _ _ _ rfl (hown.alloc _) ⟨wr.heap.size, 0, none⟩ 1 1 [.int .u8 125] rfl rfl (lit1 _ _ _) (one1 _ _) (by rw [Lib.byteCells_length]; unfold maxLen; omega) (by rw [Lib.byteCells_length]; omega) (by simp; omega) ?_; intro v1 w1 own1 hg1 _; have own1' := own_step (m := [125]) own1 rfl rfl; have HB1 := hide (((unhide HB).alloc hwsz _).grown hg1 (by simp; omega) (fun k hk => (hown.lt k hk).1)); have hcv := convert_own own1'; clear own1 hg1 own1' hown HB)
      go_ret
      exact ⟨by rw [← unhide HE]; rfl, unhide HB1⟩
end Go.Proofs.YtocnekbedcnmgaaGreatDoor


namespace Go.Proofs.YtocnekbedcnmgaaGreatDoor
open Go.RowKit

/-- What a drawn text leaves: its length, the reader, and nothing else of the old world turned. -/
def DP (B rb N : Nat) (w : World) (e : Ending) (w' : World) : Prop := ∃ t : List UInt8, t.length ≤ N ∧ e = .returned (.string (strOf t)) ∧ RdIs w' B rb ∧ w.grownBy w' (some rb)
theorem keyS_walk (k : Nat) (w : World) (hk : k ≤ 255) :
    Calls Tryz.prog 147 #[.int .i64 k] w fun e w' => ∃ t : List UInt8, t.length ≤ 3 ∧ e = .returned (.string (strOf t)) ∧ w = w' := key_walk k w hk

set_option maxRecDepth 100000 in
set_option maxHeartbeats 800000 in
theorem lstr_walk (k : Nat) (w : World) (hk : k ≤ 255) :
    Calls Tryz.prog 210 #[.int .i64 k] w fun e w' => ∃ t : List UInt8, t.length ≤ 8 ∧ e = .returned (.string (strOf t)) ∧ w = w' := by
  by_cases h5 : k % 8 < 5
  · have e : (k : Int) % 8 < 5 := by omega
    have hd : (k : Int) / 8 = ((k / 8 : Nat) : Int) := by omega
    have HK := hide (keyS_walk (k / 8) w (by omega))
    have hb : k / 8 ≤ 255 := by omega
    generalize k / 8 = y at *
    clear h5
    go_enter Tryz.func210, Tryz.ntmps210
    go_wp2_with fail
    refine (unhide HK).mono ?_
    rintro e w1 ⟨t, ht, rfl, rfl⟩
    clear HK
    go_wp2
    go_ret
    exact ⟨t, by omega, rfl, rfl⟩
  · rcases (show k % 8 = 5 ∨ k % 8 = 6 ∨ k % 8 = 7 from by omega) with h | h | h
    · have e : (k : Int) % 8 = 5 := by omega
      clear h5 h
      go_enter Tryz.func210, Tryz.ntmps210
      go_wp2
      go_ret
      exact ⟨[10, 1, 34, 127], by decide, rfl, rfl⟩
    · have e : (k : Int) % 8 = 6 := by omega
      clear h5 h
      go_enter Tryz.func210, Tryz.ntmps210
      go_wp2
      go_ret
      exact ⟨[240, 159, 152, 128, 226, 130, 172], by decide, rfl, rfl⟩
    · have e : (k : Int) % 8 = 7 := by omega
      clear h5 h
      go_enter Tryz.func210, Tryz.ntmps210
      go_wp2
      go_ret
      exact ⟨[97, 98], by decide, rfl, rfl⟩

set_option maxRecDepth 100000 in
set_option maxHeartbeats 800000 in
theorem raw_walk (k : Nat) (w : World) (hk : k ≤ 255) :
    Calls Tryz.prog 184 #[.int .i64 k] w fun e w' => ∃ t : List UInt8, t.length ≤ 50 ∧ e = .returned (.string (strOf t)) ∧ Below w.heap.size w w' := by
  by_cases h : k % 16 = 15
  · have e : (k : Int) % 16 = 15 := by omega
    clear h
    go_enter Tryz.func184, Tryz.ntmps184
    go_wp2
    go_ret
    exact ⟨[34, 92, 117, 100, 56, 51, 100, 92, 117, 68, 69, 48, 48, 92, 47, 92, 117, 48, 48, 52, 49, 34], by decide, rfl, Below.refl _ _⟩
  · by_cases h' : k % 16 = 14
    · have e : (k : Int) % 16 = 14 := by omega
      clear h h'
      go_enter Tryz.func184, Tryz.ntmps184
      go_wp2
      go_ret
      exact ⟨[34, 92, 116, 92, 117, 48, 48, 48, 97, 92, 117, 48, 48, 101, 57, 92, 98, 34], by decide, rfl, Below.refl _ _⟩
    · have e1 : ((k : Int) % 16 == 15) = false := by simp; omega
      have e2 : ((k : Int) % 16 == 14) = false := by simp; omega
      have HS := hide (lstr_walk k w hk)
      clear h h'
      go_enter Tryz.func184, Tryz.ntmps184
      go_wp2_with fail
      refine (unhide HS).mono ?_
      rintro e w1 ⟨t, ht, rfl, rfl⟩
      have HQ := hide (quoted_walk (strOf t) w (by rw [strOf_size]; omega))
      rw [strOf_toList] at HQ
      have hql := quoted_len t
      clear HS
      go_wp2_with fail
      refine (unhide HQ).mono ?_
      rintro e w2 ⟨rfl, b2⟩
      generalize quoted t = u at *
      clear HQ
      go_wp2
      go_ret
      exact ⟨u, by omega, rfl, b2⟩
theorem dp_below {B rb N : Nat} {w w1 w2 : World} {t : List UInt8} (hr : RdIs w1 B rb) (hg : w.grownBy w1 (some rb)) (ht : t.length ≤ N) (hb : Below w1.heap.size w1 w2) : DP B rb N w (.returned (.string (strOf t))) w2 :=
  ⟨t, ht, rfl, hr.grown (grownBy_below (r := none) hb) (by simp) (fun _ e => by cases e), grownBy_trans hg (grownBy_below hb)⟩
theorem decT_len9 (n : Nat) (h : n ≤ 1000000000) : (decT n).length ≤ 10 := by
  have : ∀ (k n : Nat), n < 10 ^ (k + 1) → (decT n).length ≤ k + 1 := by
    intro k
    induction k with
    | zero => intro n hn; rw [decT_lo (by omega)]; simp
    | succ k ih =>
      intro n hn
      by_cases h : n < 10
      · rw [decT_lo h]; simp
      · rw [decT_hi h, List.length_append]
        have h1 := ih (n / 10) (by rw [Nat.pow_succ] at hn; omega)
        rw [decT_lo (n := n % 10) (by omega)]
        simp; omega
  exact this 9 n (by omega)

set_option maxRecDepth 100000 in
set_option maxHeartbeats 1600000 in
theorem gnum_walk (B rb : Nat) (w : World) (h : RdIs w B rb) :
    Calls Tryz.prog 183 #[.pointer (some ⟨rb, 0, none⟩)] w (DP B rb 20 w) := by
  have HN := hide (next_walk B rb w h)
  clear h
  go_enter Tryz.func183, Tryz.ntmps183
  go_wp2_with fail
  refine (unhide HN).mono ?_
  rintro e w1 ⟨x, hx, rfl, r1, g1⟩
  have HR := hide r1
  have HG := hide g1
  clear HN r1 g1
  by_cases h1 : x = 255
  · subst h1
    go_wp2
    go_ret
    exact dp_below (t := [57, 50, 50, 51, 51, 55, 50, 48, 51, 54, 56, 53, 52, 55, 55, 53, 56, 48, 55]) (unhide HR) (unhide HG) (by decide) (Below.refl _ _)
  · by_cases h2 : x = 254
    · subst h2
      go_wp2
      go_ret
      exact dp_below (t := [45, 57, 50, 50, 51, 51, 55, 50, 48, 51, 54, 56, 53, 52, 55, 55, 53, 56, 48, 56]) (unhide HR) (unhide HG) (by decide) (Below.refl _ _)
    · by_cases h3 : x = 253
      · subst h3
        go_wp2
        go_ret
        exact dp_below (t := [45, 48]) (unhide HR) (unhide HG) (by decide) (Below.refl _ _)
      · have e1 : ((x : Int) == 255) = false := by simp; omega
        have e2 : ((x : Int) == 254) = false := by simp; omega
        have e3 : ((x : Int) == 253) = false := by simp; omega
        by_cases h4 : 200 ≤ x
        · have e4 : (200 : Int) ≤ (x : Int) := by omega
          have hm : (x : Int) * 1000003 = ((x * 1000003 : Nat) : Int) := by omega
          have HD := hide (dec_walk _ (x * 1000003) w1 (Nat.le_refl _) (by omega))
          have hl := decT_len9 (x * 1000003) (by omega)
          have hb : x * 1000003 ≤ 1000000000 := by omega
          generalize x * 1000003 = y at *
          generalize decT y = u at *
          clear h1 h2 h3 h4
          go_wp2_with fail
          refine (unhide HD).mono ?_
          rintro e w2 ⟨rfl, b2⟩
          clear HD
          go_wp2
          go_ret
          exact dp_below (unhide HR) (unhide HG) (by omega) b2
        · have e4 : ¬ (200 : Int) ≤ (x : Int) := by omega
          by_cases h5 : x % 3 = 2
          · have e5 : (x : Int) % 3 = 2 := by omega
            have hm : 1 + (x : Int) / 3 % 9 = ((1 + x / 3 % 9 : Nat) : Int) := by omega
            have HD := hide (dec_walk _ (1 + x / 3 % 9) w1 (Nat.le_refl _) (by omega))
            have hl := decT_len9 (1 + x / 3 % 9) (by omega)
            have hb : 1 + x / 3 % 9 ≤ 10 := by omega
            have hcat : ∀ u : List UInt8, (⟨#[45]⟩ : ByteArray) ++ strOf u = strOf (45 :: u) := fun u => by rw [show (⟨#[45]⟩ : ByteArray) = strOf [45] from rfl, strOf_app]; rfl
            have HC := hide hcat
            generalize 1 + x / 3 % 9 = y at *
            have hcu := hcat (decT y)
            have hz : (strOf (decT y)).size ≤ 10 := by rw [strOf_size]; exact hl
            generalize decT y = u at *
            clear h1 h2 h3 h4 h5 hcat
            go_wp2_with fail
            refine (unhide HD).mono ?_
            rintro e w2 ⟨rfl, b2⟩
            clear HD
            go_wp2
            go_ret
            exact dp_below (t := 45 :: u) (unhide HR) (unhide HG) (by simp; omega) b2
          · have e5 : ((x : Int) % 3 == 2) = false := by simp; omega
            have hm : (x : Int) / 3 % 12 = ((x / 3 % 12 : Nat) : Int) := by omega
            have HD := hide (dec_walk _ (x / 3 % 12) w1 (Nat.le_refl _) (by omega))
            have hl := decT_len9 (x / 3 % 12) (by omega)
            have hb : x / 3 % 12 ≤ 12 := by omega
            generalize x / 3 % 12 = y at *
            generalize decT y = u at *
            clear h1 h2 h3 h4 h5
            go_wp2_with fail
            refine (unhide HD).mono ?_
            rintro e w2 ⟨rfl, b2⟩
            clear HD
            go_wp2
            go_ret
            exact dp_below (unhide HR) (unhide HG) (by omega) b2
end Go.Proofs.YtocnekbedcnmgaaGreatDoor


namespace Go.Proofs.YtocnekbedcnmgaaGreatDoor
open Go.RowKit

set_option maxRecDepth 100000 in
set_option maxHeartbeats 800000 in
theorem left_walk (B rb : Nat) (w : World) (h : RdIs w B rb) :
    Calls Tryz.prog 155 #[.pointer (some ⟨rb, 0, none⟩)] w fun e w' => ∃ x : Int, (-300 ≤ x ∧ x ≤ 1200) ∧ e = .returned (.int .i64 x) ∧ RdIs w' B rb ∧ w.grownBy w' (some rb) := by
  obtain ⟨a, c, p, l, bb, bo, hh, hB, hp, hl, hbs, hbb⟩ := h
  have c0 : w.cell? ⟨rb, 0, none⟩ = some (.slice a l.length c) := by rw [Lib.cell_of_heap hh]; rfl
  have c1 : w.cell? ⟨rb, 1, none⟩ = some (.int .i64 p) := by rw [Lib.cell_of_heap hh]; rfl
  have HH := hide hh
  have HBS := hide hbs
  have hle : -300 ≤ (l.length : Int) - (p : Int) ∧ (l.length : Int) - (p : Int) ≤ 1200 := by omega
  have hsub : IntKind.i64.wrap ((l.length : Int) - (p : Int)) = (l.length : Int) - (p : Int) := by rw [IntKind.wrap_i64]; omega
  clear hh hbs
  go_enter Tryz.func155, Tryz.ntmps155
  go_wp2
  go_quiet (fail)
  go_wp2
  go_ret
  exact ⟨(l.length : Int) - p, hle, rfl, ⟨a, c, p, l, bb, bo, unhide HH, hB, hp, hl, (unhide HBS).grown (grown_draws w _ none) (fun _ e => by cases e), hbb⟩, grown_draws w _ _⟩

/-- The lengths of an array of parts. -/
def sumA (ps : List Part) : Nat := (ps.map (fun p => p.2.length + 1)).sum
theorem joinA_take (ps : List Part) (j : Nat) (h : j < ps.length) : joinC ((ps.take (j + 1)).map (·.2)) = joinC ((ps.take j).map (·.2)) ++ (if j = 0 then ps[j].2 else 44 :: ps[j].2) := by
  rw [List.take_succ_eq_append_getElem h, List.map_append, List.map_singleton, joinC_snoc]
  by_cases hj : j = 0
  · subst hj; simp
  · rw [if_neg (by simp; exact ⟨hj, by intro e; subst e; simp at h⟩), if_neg hj]
theorem sumA_app (a b : List Part) : sumA (a ++ b) = sumA a + sumA b := by
  unfold sumA; rw [List.map_append, List.sum_append]
theorem takeA_sum (ps : List Part) (j : Nat) : sumA (ps.take j) ≤ sumA ps := by
  have h := congrArg sumA (List.take_append_drop j ps)
  have e := sumA_app (ps.take j) (ps.drop j)
  omega
theorem joinA_len (ps : List Part) (j : Nat) : (joinC ((ps.take j).map (·.2))).length ≤ sumA ps := by
  have h := joinC_len ((ps.take j).map (·.2))
  have h2 := takeA_sum ps j
  rw [List.map_map] at h
  exact Nat.le_trans h h2
theorem sumA_le (ps : List Part) (j : Nat) (h : j < ps.length) : ps[j].2.length + 1 ≤ sumA ps := by
  have h1 := takeA_sum ps (j + 1)
  rw [List.take_succ_eq_append_getElem h] at h1
  have e : sumA (ps.take j ++ [ps[j]]) = sumA (ps.take j) + (ps[j].2.length + 1) := by rw [sumA_app]; simp [sumA]
  omega
set_option maxRecDepth 100000 in
set_option maxHeartbeats 4000000 in
theorem mkArr_walk (B : Nat) (v : Value) (ps : List Part) (w : World) (h : PR w B v ps) (hn : sumA ps ≤ 40000000) (hl : ps.length ≤ 40000000) :
    Calls Tryz.prog 69 #[v] w fun e w' => e = .returned (.string (strOf (mkA (ps.map (·.2))))) ∧ Below w.heap.size w w' := by
  obtain ⟨i0, hi0, hz0, hz1, hz2⟩ := info_parts infoU8
  obtain ⟨x, len, cap, rfl, hlen⟩ : ∃ x len cap, v = .slice x len cap ∧ len = ps.length := by
    rcases h.2 with ⟨hv, h0⟩ | ⟨g, cap, cur, hv, _⟩
    · exact ⟨_, _, _, hv, h0.symm⟩
    · exact ⟨_, _, _, hv, rfl⟩
  subst hlen
  have HP := hide h
  clear h
  go_enter Tryz.func69, Tryz.ntmps69
  go_wp2_with fail
  go_loopw [3, 4] (fun r k wr => ∃ (j : Nat) (acc : List UInt8), k = .int .i64 (j : Int) ∧ j ≤ ps.length ∧ acc = 91 :: joinC ((ps.take j).map (·.2)) ∧ wr.ownsRow w.heap.size 5 1 r (Lib.byteCells acc).length (Lib.byteCells acc) ∧ Below w.heap.size w wr) (fun _ k _ => ps.length - (intOf k).toNat)
  case atStart =>
    exact ⟨0, [91], rfl, Nat.zero_le _, rfl, World.ownsRow_lit w #[.int .u8 91] 1 (Nat.le_refl _) (by unfold maxLen; omega) rfl, (Below.refl _ _).alloc (Nat.le_refl _) _⟩
  case round =>
    obtain ⟨j, acc, rfl, hj, hacc, hown, hb⟩ := hrel
    have HA := hide hacc
    have HB := hide hb
    have hwsz := hb.size
    have hal : acc.length ≤ 40000001 := by
      have := joinA_len ps j
      rw [hacc]; simp only [List.length_cons]; omega
    clear hacc hb
    by_cases hin : j < ps.length
    · have t1 : ((j : Int) < (ps.length : Int)) = True := eq_true (by omega)
      have i1 : (0 : Int) ≤ (j : Int) := by omega
      have i2 : (j : Int) < (ps.length : Int) := by omega
      have hm := sumA_le ps j hin
      have HJ := hide (joinA_take ps j hin)
      by_cases hj0 : j = 0
      · have t2 : (0 < j) = False := eq_false (by omega)
        rw [if_pos hj0] at HJ
        obtain ⟨g, cap', he, hgB, hgl, c0, c1⟩ := (unhide HP).cells j hin
        injection he with he1 he2 he3
        subst he1; subst he3
        generalize ps[j] = p at *
        clear hj0
        have c1' : wr.cell? ⟨g, j * 2 + 1, none⟩ = some (.string (strOf p.2)) := ((unhide HB).cell hgl).trans c1
        have c1w := c1
        clear c0 c1
        obtain ⟨cap3, W3, hcv, hcell, b3, hk3, hs3⟩ := conv_bytes wr p.2
        have own3 := hk3 _ _ _ _ _ hown
        have B3 := (unhide HB).trans (b3.mono hwsz)
        have HCELL := hide hcell
        clear hcell hk3 hown
        go_wp2_with (at_builtin; refine wpList_append_own _ rfl (.tmp 17) (.tmp 23) 37 rfl w.heap.size 5 i0 (.int .u8 0) 1 1 Tryz.underlying37 hi0 hz0 hz1 hz2 rfl (by decide) _ _ _ rfl own3 ⟨wr.heap.size, 0, none⟩ p.2.length cap3 (Lib.byteCells p.2) rfl (by rw [Lib.byteCells_length]; omega) (by exact unhide HCELL) (one_bytes _) (by rw [Lib.byteCells_length]; unfold maxLen; omega) (by rw [Lib.byteCells_length]; omega) (by omega) ?_; intro v4 w4 own4 hg4 _; have B4 : Below w.heap.size w w4 := B3.grown hg4 (by omega) (fun k hk => (own3.lt k hk).1))
        have own4' := own_step (m := p.2) own4 rfl rfl
        clear own4 hg4 own3 HCELL B3 hcv b3 c1' c1w HB
        go_wp2
        go_roundw
        all_goals first
          | exact ⟨j + 1, acc ++ p.2, by go_num, by omega, by rw [unhide HA, unhide HJ]; simp, own4', B4⟩
          | (simp [intOf]; omega)
      · have t2 : (0 < j) = True := eq_true (by omega)
        rw [if_neg hj0] at HJ
        obtain ⟨g, cap', he, hgB, hgl, c0, c1⟩ := (unhide HP).cells j hin
        injection he with he1 he2 he3
        subst he1; subst he3
        generalize ps[j] = p at *
        clear hj0
        have keepc : Hid (∀ X : World, Below w.heap.size w X → X.cell? ⟨g, j * 2 + 1, none⟩ = some (.string (strOf p.2))) := fun X hX => (hX.cell hgl).trans c1
        clear c0 c1
        go_wp2_with (at_builtin; refine wpList_append_own _ rfl (.tmp 14) (.tmp 15) 37 rfl w.heap.size 5 i0 (.int .u8 0) 1 1 Tryz.underlying37 hi0 hz0 hz1 hz2 rfl (by decide) _ _ _ rfl (hown.alloc _) ⟨wr.heap.size, 0, none⟩ 1 1 [.int .u8 44] rfl rfl (lit1 _ _ _) (one1 _ _) (by rw [Lib.byteCells_length]; unfold maxLen; omega) (by rw [Lib.byteCells_length]; omega) (by simp; omega) ?_)
        intro v1 w1 own1 hg1 _
        have own1' := own_step (m := [44]) own1 rfl rfl
        have HB1 := hide (((unhide HB).alloc hwsz _).grown hg1 (by simp; omega) (fun k hk => (hown.lt k hk).1))
        have hw1 := (unhide HB1).size
        have hal1 : (acc ++ [44]).length ≤ 40000002 := by simp; omega
        obtain ⟨cap3, W3, hcv, hcell, b3, hk3, hs3⟩ := conv_bytes w1 p.2
        have own3 := hk3 _ _ _ _ _ own1'
        have B3 := (unhide HB1).trans (b3.mono hw1)
        have HCELL := hide hcell
        have c1' := unhide keepc _ (unhide HB1)
        clear own1 hg1 hown HB own1' hcell hk3
        go_wp2_with (at_builtin; refine wpList_append_own _ rfl (.tmp 17) (.tmp 23) 37 rfl w.heap.size 5 i0 (.int .u8 0) 1 1 Tryz.underlying37 hi0 hz0 hz1 hz2 rfl (by decide) _ _ _ rfl own3 ⟨w1.heap.size, 0, none⟩ p.2.length cap3 (Lib.byteCells p.2) rfl (by rw [Lib.byteCells_length]; omega) (by exact unhide HCELL) (one_bytes _) (by rw [Lib.byteCells_length]; unfold maxLen; omega) (by rw [Lib.byteCells_length]; omega) (by omega) ?_; intro v4 w4 own4 hg4 _; have B4 : Below w.heap.size w w4 := B3.grown hg4 (by omega) (fun k hk => (own3.lt k hk).1))
        have own4' := own_step (m := p.2) own4 rfl rfl
        clear own4 hg4 own3 HCELL B3 hcv b3 c1' HB1 keepc
        go_wp2
        go_roundw
        all_goals first
          | exact ⟨j + 1, (acc ++ [44]) ++ p.2, by go_num, by omega, by rw [unhide HA, unhide HJ]; simp, own4', B4⟩
          | (simp [intOf]; omega)
    · have t1 : ((j : Int) < (ps.length : Int)) = False := eq_false (by omega)
      have HE : Hid (acc ++ [93] = mkA (ps.map (·.2))) := by
        show _ = _
        rw [unhide HA, List.take_of_length_le (by omega)]; simp [mkA]
      go_wp2_with (at_builtin; refine wpList_append_own _ rfl (.tmp 25) (.tmp 26) 37 rfl w.heap.size 5 i0 (.int .u8 0) 1 1 Tryz.underlying37 hi0 hz0 hz1 hz2 rfl (by decide) _ _ _ rfl (hown.alloc _) ⟨wr.heap.size, 0, none⟩ 1 1 [.int .u8 93] rfl rfl (lit1 _ _ _) (one1 _ _) (by rw [Lib.byteCells_length]; unfold maxLen; omega) (by rw [Lib.byteCells_length]; omega) (by simp; omega) ?_; intro v1 w1 own1 hg1 _; have own1' := own_step (m := [93]) own1 rfl rfl; have HB1 := hide (((unhide HB).alloc hwsz _).grown hg1 (by simp; omega) (fun k hk => (hown.lt k hk).1)); have hcv := convert_own own1'; clear own1 hg1 own1' hown HB)
      go_ret
      exact ⟨by rw [← unhide HE]; rfl, unhide HB1⟩
end Go.Proofs.YtocnekbedcnmgaaGreatDoor

