import Derived.Test.YtcffdclgddmigaaGreatDoorBn11
import Derived.Test.YtcffdclgddmigaaGreatDoorBn9
import Derived.Test.YtcffdclgddmigaaGreatDoorBn12
namespace Go.Proofs.YtcffdclgddmigaaGreatDoor
open Go.RowKit

set_option maxRecDepth 100000 in
set_option maxHeartbeats 1600000 in
theorem parts_leaf (T : ByteArray) (w : World) (h0 : 0 < T.size) (h1 : bt T 0 ≠ 91) (h2 : bt T 0 ≠ 123) :
    Calls Tryz.prog 61 #[.string T] w fun e w' => ∃ v, e = .returned v ∧ PR w' w.heap.size v [] ∧ Below w.heap.size w w' := by
  rw [bt_at T 0 h0] at h1 h2
  have f1 : ((T[0].toNat : Int) != 91) = true := by rw [bne_iff_ne]; omega
  have f2 : ((T[0].toNat : Int) != 123) = true := by rw [bne_iff_ne]; omega
  have hI : (0 : Int) < (T.size : Int) := by omega
  clear h1 h2
  go_enter Tryz.func61, Tryz.ntmps61
  go_wp2
  go_ret
  exact ⟨_, rfl, World.ownsRow_lit (base := w.heap.size) (e := 95) (size := 2) w #[] 0 (Nat.le_refl _) (by unfold maxLen; omega) rfl, (Below.refl _ _).alloc (Nat.le_refl _) _⟩

set_option maxRecDepth 100000 in
set_option maxHeartbeats 8000000 in
theorem parts_arr (l : JL) (hok : okL l) (w : World) (hT : (strOf (ct (.arr l))).size ≤ 1000000) :
    Calls Tryz.prog 61 #[.string (strOf (ct (.arr l)))] w fun e w' => ∃ v, e = .returned v ∧ PR w' w.heap.size v (idxF 0 (ctL l)) ∧ Below w.heap.size w w' := by
  obtain ⟨i0, hi0, hz0, hz1, hz2⟩ := info_parts infoPart
  have hTL : (strOf (ct (.arr l))).data.toList = 91 :: (joinC (ctL l) ++ [93]) := by rw [strOf_toList]; rfl
  have htop := ctL_top (strOf (ct (.arr l))) l hok
  generalize strOf (ct (.arr l)) = T at *
  generalize ctL l = cs at *
  have h0 : 0 < T.size := by have := congrArg List.length hTL; rw [data_len] at this; simp at this; omega
  have hb0 : T[0].toNat = 91 := by rw [← bt_at T 0 h0]; unfold bt; rw [hTL]; rfl
  have f1 : ((T[0].toNat : Int) != 91) = false := by rw [bne_eq_false_iff_eq]; omega
  have f2 : ((T[0].toNat : Int) == 123) = false := by rw [beq_eq_false_iff_ne]; omega
  have hI : (0 : Int) < (T.size : Int) := by omega
  have hn : cs.length ≤ T.size := by
    have h1 := pk_end hTL
    have : ∀ k, k ≤ cs.length → k ≤ pk cs k := by
      intro k
      induction k with
      | zero => intro _; omega
      | succ k ih => intro hk; rw [pk_next cs k (by omega)]; have := ih (by omega); omega
    cases hl : cs.length with
    | zero => omega
    | succ m =>
      have h2 := pk_in hTL m (by omega)
      have h3 := this m (by omega)
      omega
  have HK : Hid (∀ k (hk : k < cs.length) (w : World), pk cs k + cs[k].length + 1 ≤ T.size ∧ 1 ≤ cs[k].length ∧ T.extract (pk cs k) (pk cs k + cs[k].length) = strOf cs[k] ∧ pk cs (k + 1) = pk cs k + cs[k].length + 1 ∧ idxF 0 (cs.take (k + 1)) = idxF 0 (cs.take k) ++ [(decT k, cs[k])] ∧
      Calls Tryz.prog 97 #[.string T, .int .i64 ((pk cs k : Nat) : Int)] w fun e w' => e = .returned (.int .i64 ((pk cs k + cs[k].length : Nat) : Int)) ∧ Below w.heap.size w w') := fun k hk w => by
    have hd := drop_pk hTL k hk
    obtain ⟨ht, hne⟩ := htop cs[k] (List.getElem_mem hk)
    obtain ⟨f, hf⟩ := ht _ _ hd (stops_tail _ 93 (.inl rfl))
    refine ⟨pk_in hTL k hk, ?_, cut_pk hd, pk_next cs k hk, ?_, end_walk T _ _ f w (by omega) hf⟩
    · cases h : cs[k] with
      | nil => exact absurd h hne
      | cons _ _ => simp
    · rw [List.take_succ_eq_append_getElem hk, idxF_snoc]
      simp [Nat.min_eq_left (Nat.le_of_lt hk)]
  have HEND := hide (pk_end hTL)
  have hl0 : ∀ k, k ≤ cs.length → (idxF 0 (cs.take k)).length = k := fun k hk => by rw [idxF_len, List.length_take]; omega
  have HL0 := hide hl0
  have HDEC : Hid (∀ (n : Nat) (w : World), n ≤ 1000000 → Calls Tryz.prog 96 #[.int .i64 (n : Int)] w fun e w' => e = .returned (.string (strOf (decT n))) ∧ Below w.heap.size w w') := fun n w hn => dec_walk n n w (Nat.le_refl _) hn
  clear hTL htop hb0 hl0 hok
  go_enter Tryz.func61, Tryz.ntmps61
  go_wp2
  go_loopw [3, 4] (fun v i wr => ∃ k : Nat, k ≤ cs.length ∧ i = .int .i64 ((pk cs k : Nat) : Int) ∧ PR wr w.heap.size v (idxF 0 (cs.take k)) ∧ Below w.heap.size w wr) (fun _ i _ => T.size + 1 - (intOf i).toNat)
  case atStart => exact ⟨0, Nat.zero_le _, rfl, World.ownsRow_lit (base := w.heap.size) (e := 95) (size := 2) w #[] 0 (Nat.le_refl _) (by unfold maxLen; omega) rfl, (Below.refl _ _).alloc (Nat.le_refl _) _⟩
  case round =>
    obtain ⟨k, hk, rfl, hpr, hb⟩ := hrel
    have hlen := unhide HL0 k hk
    have HB := hide hb
    have hwsz := hb.size
    clear hb
    by_cases hlt : k < cs.length
    · obtain ⟨k1, k2, k3, k4, k5, _⟩ := unhide HK k hlt w
      have HE : Hid (∀ w, Calls Tryz.prog 97 #[.string T, .int .i64 ((pk cs k : Nat) : Int)] w fun e w' => e = .returned (.int .i64 ((pk cs k + cs[k].length : Nat) : Int)) ∧ Below w.heap.size w w') := fun w => (unhide HK k hlt w).2.2.2.2.2
      have HK4 := hide k4
      have HK5 := hide k5
      have tl : ((pk cs k : Nat) : Int) < (T.size : Int) - 1 := by omega
      obtain ⟨x, len, cap, rfl, hlv⟩ : ∃ x len cap, u3 = .slice x len cap ∧ len = k := by
        rcases hpr.2 with ⟨hv, h0'⟩ | ⟨g, cap, cur, hv, _⟩
        · exact ⟨_, _, _, hv, by omega⟩
        · exact ⟨_, _, _, hv, hlen⟩
      obtain rfl := hlv
      have HD := hide (unhide HDEC len wr (by omega))
      generalize idxF 0 (cs.take len) = ps at *
      generalize pk cs len = P at *
      generalize cs[len] = t at *
      obtain ⟨E, hE⟩ : ∃ E, P + t.length = E := ⟨_, rfl⟩
      rw [hE] at k3 k1 HE HK4
      have hPE : P ≤ E := by omega
      clear hE k4 k5 HK HEND HDEC HL0
      go_wp2_with fail
      refine (unhide HD).mono ?_
      rintro e w1 ⟨rfl, b1⟩
      have p1 := hpr.below b1
      have B1 := hide (below_next (unhide HB) b1)
      have hw1 := b1.size
      clear HD b1 hpr HB
      go_wp2_with fail
      refine (unhide HE _).mono ?_
      rintro e w2 ⟨rfl, b2⟩
      have p2 := p1.below b2
      have B2 := hide (below_next (unhide B1) b2)
      have hw2 := b2.size
      clear HE b2 p1 B1
      have own2 : w2.ownsRow w.heap.size 95 2 (.slice x len cap) ps.length (ps.flatMap partC) := p2
      have hal : ps.length ≤ 1000000 := by omega
      go_wp2_with (at_builtin; refine wpList_append_own _ rfl (.tmp 44) (.tmp 51) 96 rfl w.heap.size 95 i0 (.agg #[.string ByteArray.empty, .string ByteArray.empty]) 2 32 Tryz.underlying96 hi0 hz0 hz1 hz2 rfl (by decide) _ _ _ rfl (own2.alloc _) ⟨w2.heap.size, 0, none⟩ 1 1 (partC (decT len, t)) rfl rfl (lit2s _ _ _ _) (fun u hu => by { simp [partC] at hu; rcases hu with rfl | rfl <;> rfl }) (by unfold maxLen; omega) (by omega) (by simp; omega) ?_)
      intro v3 w3 own3 hg3 _
      have P3 : Hid (PR w3 w.heap.size v3 (ps ++ [(decT len, t)])) := by
        show PR w3 w.heap.size v3 (ps ++ [(decT len, t)])
        unfold PR
        rw [List.length_append, List.flatMap_append, hlen]
        simpa using own3
      have B3 : Hid (Below w.heap.size w w3) := ((unhide B2).alloc (by omega) _).grown hg3 (by simp; omega) (fun k hk => (own2.lt k hk).1)
      clear own3 hg3 own2 p2 B2
      go_wp2
      go_roundw
      case rel => exact ⟨len + 1, by omega, by rw [unhide HK4]; go_num, by rw [unhide HK5]; exact unhide P3, unhide B3⟩
      case measure => simp [intOf]; omega
    · have hk' : k = cs.length := by omega
      have h2 := unhide HEND
      rw [← hk'] at h2
      have tl : ¬ ((pk cs k : Nat) : Int) < (T.size : Int) - 1 := by omega
      have e : cs.take k = cs := List.take_of_length_le (by omega)
      rw [e] at hpr
      have HP := hide hpr
      generalize pk cs k = P at *
      clear HK HEND HDEC HL0 hpr e hk' hlen
      go_wp2
      go_ret
      exact ⟨_, rfl, unhide HP, unhide HB⟩

theorem keyLen {T : ByteArray} {cs : List (List UInt8)} {a c : UInt8} (hTL : T.data.toList = a :: (joinC cs ++ [c])) : cs.length ≤ T.size := by
  have h1 := pk_end hTL
  have : ∀ k, k ≤ cs.length → k ≤ pk cs k := by
    intro k
    induction k with
    | zero => intro _; omega
    | succ k ih => intro hk; rw [pk_next cs k (by omega)]; have := ih (by omega); omega
  cases hl : cs.length with
  | zero => omega
  | succ m =>
    have h2 := pk_in hTL m (by omega)
    have h3 := this m (by omega)
    omega

set_option maxRecDepth 100000 in
set_option maxHeartbeats 8000000 in
theorem parts_obj (m : JM) (hok : okM m) (w : World) (hT : (strOf (ct (.obj m))).size ≤ 1000000) :
    Calls Tryz.prog 61 #[.string (strOf (ct (.obj m)))] w fun e w' => ∃ v, e = .returned v ∧ PR w' w.heap.size v (isort (ctM m)) ∧ Below w.heap.size w w' := by
  obtain ⟨i0, hi0, hz0, hz1, hz2⟩ := info_parts infoPart
  have hTL : (strOf (ct (.obj m))).data.toList = 123 :: (joinC ((isort (ctM m)).map memT) ++ [125]) := by rw [strOf_toList]; rfl
  have htop : ∀ p ∈ isort (ctM m), TopP (strOf (ct (.obj m))) p.2 ∧ p.2 ≠ [] ∧ Lib.validD p.1 = true := fun p hp => ctM_top _ m hok p ((isort_perm _).subset hp)
  generalize strOf (ct (.obj m)) = T at *
  generalize isort (ctM m) = qs at *
  have hml : (qs.map memT).length = qs.length := List.length_map _
  have h0 : 0 < T.size := by have := congrArg List.length hTL; rw [data_len] at this; simp at this; omega
  have hb0 : T[0].toNat = 123 := by rw [← bt_at T 0 h0]; unfold bt; rw [hTL]; rfl
  have f1 : ((T[0].toNat : Int) != 91) = true := by rw [bne_iff_ne]; omega
  have f1' : ((T[0].toNat : Int) != 123) = false := by rw [bne_eq_false_iff_eq]; omega
  have f2 : ((T[0].toNat : Int) == 123) = true := by rw [beq_iff_eq]; omega
  have hI : (0 : Int) < (T.size : Int) := by omega
  have hn : qs.length ≤ T.size := by have := keyLen hTL; omega
  have HK : Hid (∀ k (hk : k < qs.length) (w : World), pk (qs.map memT) k + (quoted qs[k].1).length + 1 + qs[k].2.length + 1 ≤ T.size ∧ 1 ≤ qs[k].2.length ∧ T.extract (pk (qs.map memT) k + (quoted qs[k].1).length + 1) (pk (qs.map memT) k + (quoted qs[k].1).length + 1 + qs[k].2.length) = strOf qs[k].2 ∧ pk (qs.map memT) (k + 1) = pk (qs.map memT) k + (quoted qs[k].1).length + 1 + qs[k].2.length + 1 ∧ qs.take (k + 1) = qs.take k ++ [(qs[k].1, qs[k].2)] ∧
      Calls Tryz.prog 97 #[.string T, .int .i64 ((pk (qs.map memT) k + (quoted qs[k].1).length + 1 : Nat) : Int)] w (fun e w' => e = .returned (.int .i64 ((pk (qs.map memT) k + (quoted qs[k].1).length + 1 + qs[k].2.length : Nat) : Int)) ∧ Below w.heap.size w w') ∧
      Calls Tryz.prog 90 #[.string T, .int .i64 ((pk (qs.map memT) k : Nat) : Int)] w fun e w' => e = .returned (.tuple #[.string (strOf qs[k].1), .int .i64 ((pk (qs.map memT) k + (quoted qs[k].1).length : Nat) : Int), .bool true]) ∧ Below w.heap.size w w') := fun k hk w => by
    have hk' : k < (qs.map memT).length := by omega
    have hd := drop_pk hTL k hk'
    have hin := pk_in hTL k hk'
    have hnx := pk_next (qs.map memT) k hk'
    have em : (qs.map memT)[k] = quoted qs[k].1 ++ 58 :: qs[k].2 := by simp [memT]
    rw [em] at hd hin hnx
    rw [List.append_assoc] at hd
    simp only [List.length_append, List.length_cons] at hin hnx
    obtain ⟨ht, hne, hv⟩ := htop qs[k] (List.getElem_mem hk)
    have hd2 : T.data.toList.drop (pk (qs.map memT) k + (quoted qs[k].1).length + 1) = qs[k].2 ++ (joinT ((qs.map memT).drop (k + 1)) ++ [125]) := by
      have h1 := drop_past hd
      have h2 := at_head (T := T) (c := 58) (m := qs[k].2 ++ (joinT ((qs.map memT).drop (k + 1)) ++ [125])) (by rw [h1]; rfl)
      exact h2.2.2
    obtain ⟨f, hf⟩ := ht _ _ hd2 (stops_tail _ 125 (.inr rfl))
    have hs := strQ_at qs[k].1 T _ hv (pk (qs.map memT) k) hd
    refine ⟨by omega, ?_, cut_pk hd2, by omega, List.take_succ_eq_append_getElem hk, end_walk T _ _ f w (by omega) hf, ?_⟩
    · cases h : qs[k].2 with
      | nil => exact absurd h hne
      | cons _ _ => simp
    · have := l1String_walk T (pk (qs.map memT) k) w (by omega) (by omega)
      rw [hs] at this
      exact this.mono fun e w' h => ⟨h.2, h.1⟩
  have HEND := hide (pk_end hTL)
  have HDEC : Hid (∀ (n : Nat) (w : World), n ≤ 1000000 → Calls Tryz.prog 96 #[.int .i64 (n : Int)] w fun e w' => e = .returned (.string (strOf (decT n))) ∧ Below w.heap.size w w') := fun n w hn => dec_walk n n w (Nat.le_refl _) hn
  clear hTL htop hb0 hok
  rw [hml] at HEND
  go_enter Tryz.func61, Tryz.ntmps61
  go_wp2
  go_loopw [3, 4] (fun v i wr => ∃ k : Nat, k ≤ qs.length ∧ i = .int .i64 ((pk (qs.map memT) k : Nat) : Int) ∧ PR wr w.heap.size v (qs.take k) ∧ Below w.heap.size w wr) (fun _ i _ => T.size + 1 - (intOf i).toNat)
  case atStart => exact ⟨0, Nat.zero_le _, rfl, World.ownsRow_lit (base := w.heap.size) (e := 95) (size := 2) w #[] 0 (Nat.le_refl _) (by unfold maxLen; omega) rfl, (Below.refl _ _).alloc (Nat.le_refl _) _⟩
  case round =>
    obtain ⟨k, hk, rfl, hpr, hb⟩ := hrel
    have hlen : (qs.take k).length = k := by rw [List.length_take]; omega
    have HB := hide hb
    have hwsz := hb.size
    clear hb
    by_cases hlt : k < qs.length
    · obtain ⟨k1, k2, k3, k4, k5, _, _⟩ := unhide HK k hlt w
      have HE : Hid (∀ w, Calls Tryz.prog 97 #[.string T, .int .i64 ((pk (qs.map memT) k + (quoted qs[k].1).length + 1 : Nat) : Int)] w (fun e w' => e = .returned (.int .i64 ((pk (qs.map memT) k + (quoted qs[k].1).length + 1 + qs[k].2.length : Nat) : Int)) ∧ Below w.heap.size w w')) := fun w => (unhide HK k hlt w).2.2.2.2.2.1
      have HS : Hid (∀ w, Calls Tryz.prog 90 #[.string T, .int .i64 ((pk (qs.map memT) k : Nat) : Int)] w fun e w' => e = .returned (.tuple #[.string (strOf qs[k].1), .int .i64 ((pk (qs.map memT) k + (quoted qs[k].1).length : Nat) : Int), .bool true]) ∧ Below w.heap.size w w') := fun w => (unhide HK k hlt w).2.2.2.2.2.2
      have HK4 := hide k4
      have HK5 := hide k5
      have tl : ((pk (qs.map memT) k : Nat) : Int) < (T.size : Int) - 1 := by omega
      obtain ⟨x, len, cap, rfl, hlv⟩ : ∃ x len cap, u3 = .slice x len cap ∧ len = k := by
        rcases hpr.2 with ⟨hv, h0'⟩ | ⟨g, cap, cur, hv, _⟩
        · exact ⟨_, _, _, hv, by omega⟩
        · exact ⟨_, _, _, hv, hlen⟩
      obtain rfl := hlv
      have HD := hide (unhide HDEC len wr (by omega))
      generalize qs.take len = ps at *
      generalize pk (qs.map memT) len = P at *
      generalize qs[len].2 = t at *
      generalize qs[len].1 = key at *
      obtain ⟨M, hM⟩ : ∃ M, P + (quoted key).length = M := ⟨_, rfl⟩
      rw [hM] at k3 k1 HE HK4 HS
      have hPM : P ≤ M := by omega
      have hM1 : ((M : Nat) : Int) + 1 = ((M + 1 : Nat) : Int) := by omega
      obtain ⟨M1, hM1'⟩ : ∃ M1, M + 1 = M1 := ⟨_, rfl⟩
      rw [hM1'] at k3 k1 HE HK4 hM1
      obtain ⟨E, hE⟩ : ∃ E, M1 + t.length = E := ⟨_, rfl⟩
      rw [hE] at k3 k1 HE HK4
      have hPE : M1 ≤ E := by omega
      have hPM1 : P < M1 := by omega
      clear hE hM hM1' k4 k5 HK HEND HDEC
      go_wp2_with fail
      refine (unhide HD).mono ?_
      rintro e w1 ⟨rfl, b1⟩
      have p1 := hpr.below b1
      have B1 := hide (below_next (unhide HB) b1)
      have hw1 := b1.size
      clear HD b1 hpr HB
      go_wp2_with fail
      refine (unhide HS _).mono ?_
      rintro e w1' ⟨rfl, b1'⟩
      have p1' := p1.below b1'
      have B1' := hide (below_next (unhide B1) b1')
      have hw1' := b1'.size
      clear HS b1' p1 B1
      go_wp2_with fail
      refine (unhide HE _).mono ?_
      rintro e w2 ⟨rfl, b2⟩
      have p2 := p1'.below b2
      have B2 := hide (below_next (unhide B1') b2)
      have hw2 := b2.size
      clear HE b2 p1' B1'
      have own2 : w2.ownsRow w.heap.size 95 2 (.slice x len cap) ps.length (ps.flatMap partC) := p2
      have hal : ps.length ≤ 1000000 := by omega
      go_wp2_with (at_builtin; refine wpList_append_own _ rfl (.tmp 44) (.tmp 51) 96 rfl w.heap.size 95 i0 (.agg #[.string ByteArray.empty, .string ByteArray.empty]) 2 32 Tryz.underlying96 hi0 hz0 hz1 hz2 rfl (by decide) _ _ _ rfl (own2.alloc _) ⟨w2.heap.size, 0, none⟩ 1 1 (partC (key, t)) rfl rfl (lit2s _ _ _ _) (fun u hu => by { simp [partC] at hu; rcases hu with rfl | rfl <;> rfl }) (by unfold maxLen; omega) (by omega) (by simp; omega) ?_)
      intro v3 w3 own3 hg3 _
      have P3 : Hid (PR w3 w.heap.size v3 (ps ++ [(key, t)])) := by
        show PR w3 w.heap.size v3 (ps ++ [(key, t)])
        unfold PR
        rw [List.length_append, List.flatMap_append, hlen]
        simpa using own3
      have B3 : Hid (Below w.heap.size w w3) := ((unhide B2).alloc (by omega) _).grown hg3 (by simp; omega) (fun k hk => (own2.lt k hk).1)
      clear own3 hg3 own2 p2 B2
      go_wp2
      go_roundw
      case rel => exact ⟨len + 1, by omega, by rw [unhide HK4]; go_num, by rw [unhide HK5]; exact unhide P3, unhide B3⟩
      case measure => simp [intOf]; omega
    · have hk' : k = qs.length := by omega
      have h2 := unhide HEND
      rw [← hk'] at h2
      have tl : ¬ ((pk (qs.map memT) k : Nat) : Int) < (T.size : Int) - 1 := by omega
      have e : qs.take k = qs := List.take_of_length_le (by omega)
      rw [e] at hpr
      have HP := hide hpr
      generalize pk (qs.map memT) k = P at *
      clear HK HEND HDEC hpr e hk' hlen
      go_wp2
      go_ret
      exact ⟨_, rfl, unhide HP, unhide HB⟩
end Go.Proofs.YtcffdclgddmigaaGreatDoor
