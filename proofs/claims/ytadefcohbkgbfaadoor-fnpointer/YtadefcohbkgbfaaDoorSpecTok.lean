import Derived.Test.YtadefcohbkgbfaaDoorSpecAt
import Derived.Test.YtadefcohbkgbfaaDoorByteRow
namespace Go.Proofs.YtadefcohbkgbfaaDoor
open Go.RowKit

set_option maxHeartbeats 1000000 in
set_option maxRecDepth 100000 in
theorem specTok_walk (s : ByteArray) (w : World) (hs : s.size ≤ 1048576) :
    Calls Tryd.prog 28 #[.string s] w fun e w' => e = .returned (tokRes (unesc s.data.toList)) ∧ Below w.heap.size w w' := by
  obtain ⟨i0, hi, hz0, hz1, hz2⟩ := info_parts infoU8
  go_enter Tryd.func28, Tryd.ntmps28
  go_wp2
  go_loopw [4, 5] (fun v i wr => ∃ (j : Nat) (acc : List UInt8), j ≤ s.size ∧ i = .int .i64 j ∧ wr.ownsRow w.heap.size 5 1 v (Lib.byteCells acc).length (Lib.byteCells acc) ∧ Below w.heap.size w wr ∧ (Lib.byteCells acc).length ≤ j ∧ UnAt s.data.toList j acc) (fun _ i _ => s.size - (intOf i).toNat)
  case atStart => exact ⟨0, [], Nat.zero_le _, rfl, World.ownsRow_lit w #[] 0 (Nat.le_refl _) (by unfold maxLen; omega) rfl, (Below.refl _ _).alloc (Nat.le_refl _) _, Nat.le_refl _, UnAt.start _⟩
  case round =>
    obtain ⟨j, acc, hj, rfl, hown, hb, hal, hun⟩ := hrel
    have hwsz := hb.size
    have HU := hide hun
    clear hun
    by_cases hjs : j < s.size
    · have hd := drop_at s j hjs
      have HB := hide hb
      clear hb
      by_cases h126 : (s[j].toNat : Int) = 126
      · have t1 : ((s[j].toNat : Int) != 126) = false := by simpa using h126
        by_cases h2 : j + 1 < s.size
        · have hd2 := drop_at s (j + 1) h2
          by_cases h48 : (s[j + 1].toNat : Int) = 48
          · have a0 : atB s (j + 1) 48 = true := by rw [atB_in h2]; simpa using h48
            have HS : Hid (unesc (s.data.toList.drop j) = (unesc (s.data.toList.drop (j + 2))).map ([126] ++ ·)) := by show _ = _; rw [hd, hd2, unesc_0 _ h126 h48]
            clear h48
            clear h126 hd hd2
            go_wp2_with (first | (go_at_call 44; refine (at_walk s _ (j + 1) (by omega) _ _).mono ?_; rintro e w' ⟨rfl, rfl⟩) | (at_builtin; refine wpList_append_own _ rfl (.tmp 27) (.tmp 28) 32 rfl w.heap.size 5 i0 (.int .u8 0) 1 1 Tryd.underlying32 hi hz0 hz1 hz2 rfl (by decide) _ _ _ rfl (hown.alloc _) ⟨wr.heap.size, 0, none⟩ 1 1 [.int .u8 126] rfl rfl (lit1 _ _ _) (one1 _ _) (by unfold maxLen; omega) (by omega) (by simp; omega) ?_))
            intro v2 w2 hown2 hgrow2 _
            have hb2 : Below w.heap.size w w2 := ((unhide HB).alloc hwsz _).grown hgrow2 (by simp; omega) (fun k hk => (hown.lt k hk).1)
            have hown2' := own_step (m := [126]) hown2 (by simp [Lib.byteCells]) rfl
            clear hown2 hgrow2 hown HB
            go_wp2
            go_roundw
            case rel => exact ⟨j + 2, acc ++ [126], by omega, by go_num, hown2', hb2, by simp [Lib.byteCells] at hal ⊢; omega, (unhide HU).step (unhide HS)⟩
            case measure => simp [intOf]; omega
          · by_cases h49 : (s[j + 1].toNat : Int) = 49
            · have a0 : atB s (j + 1) 48 = false := by rw [atB_in h2]; simpa using h48
              have a1 : atB s (j + 1) 49 = true := by rw [atB_in h2]; simpa using h49
              have HS : Hid (unesc (s.data.toList.drop j) = (unesc (s.data.toList.drop (j + 2))).map ([47] ++ ·)) := by show _ = _; rw [hd, hd2, unesc_1 _ h126 h49]
              clear h48 h49
              clear h126 hd hd2
              go_wp2_with (first | (go_at_call 44; refine (at_walk s _ (j + 1) (by omega) _ _).mono ?_; rintro e w' ⟨rfl, rfl⟩) | (at_builtin; refine wpList_append_own _ rfl (.tmp 36) (.tmp 37) 32 rfl w.heap.size 5 i0 (.int .u8 0) 1 1 Tryd.underlying32 hi hz0 hz1 hz2 rfl (by decide) _ _ _ rfl (hown.alloc _) ⟨wr.heap.size, 0, none⟩ 1 1 [.int .u8 47] rfl rfl (lit1 _ _ _) (one1 _ _) (by unfold maxLen; omega) (by omega) (by simp; omega) ?_))
              intro v2 w2 hown2 hgrow2 _
              have hb2 : Below w.heap.size w w2 := ((unhide HB).alloc hwsz _).grown hgrow2 (by simp; omega) (fun k hk => (hown.lt k hk).1)
              have hown2' := own_step (m := [47]) hown2 (by simp [Lib.byteCells]) rfl
              clear hown2 hgrow2 hown HB
              go_wp2
              go_roundw
              case rel => exact ⟨j + 2, acc ++ [47], by omega, by go_num, hown2', hb2, by simp [Lib.byteCells] at hal ⊢; omega, (unhide HU).step (unhide HS)⟩
              case measure => simp [intOf]; omega
            · have a0 : atB s (j + 1) 48 = false := by rw [atB_in h2]; simpa using h48
              have a1 : atB s (j + 1) 49 = false := by rw [atB_in h2]; simpa using h49
              have HF := hide ((unhide HU).bad (by rw [hd, hd2, unesc_bad _ h126 h48 h49]))
              clear h126 h48 h49 hd hd2 hown
              go_wp2_with (go_at_call 44; refine (at_walk s _ (j + 1) (by omega) _ _).mono ?_; rintro e w' ⟨rfl, rfl⟩)
              go_ret2
              exact ⟨by rw [unhide HF]; rfl, unhide HB⟩
        · have a0 : atB s (j + 1) 48 = false := atB_out h2
          have a1 : atB s (j + 1) 49 = false := atB_out h2
          have HF := hide ((unhide HU).bad (by rw [hd, drop_end s (j + 1) h2, unesc_end h126]))
          clear h126 hd hown
          go_wp2_with (go_at_call 44; refine (at_walk s _ (j + 1) (by omega) _ _).mono ?_; rintro e w' ⟨rfl, rfl⟩)
          go_ret2
          exact ⟨by rw [unhide HF]; rfl, unhide HB⟩
      · have t1 : ((s[j].toNat : Int) != 126) = true := by simpa using h126
        have HS : Hid (unesc (s.data.toList.drop j) = (unesc (s.data.toList.drop (j + 1))).map ([s[j]] ++ ·)) := by show _ = _; rw [hd, unesc_lit _ h126]
        clear h126 hd
        go_wp2_with (at_builtin; refine wpList_append_own _ rfl (.tmp 17) (.tmp 21) 32 rfl w.heap.size 5 i0 (.int .u8 0) 1 1 Tryd.underlying32 hi hz0 hz1 hz2 rfl (by decide) _ _ _ rfl (hown.alloc _) ⟨wr.heap.size, 0, none⟩ 1 1 [.int .u8 s[j].toNat] rfl rfl (lit1 _ _ _) (one1 _ _) (by unfold maxLen; omega) (by omega) (by simp; omega) ?_)
        intro v2 w2 hown2 hgrow2 _
        have hb2 : Below w.heap.size w w2 := ((unhide HB).alloc hwsz _).grown hgrow2 (by simp; omega) (fun k hk => (hown.lt k hk).1)
        have hown2' := own_step (m := [s[j]]) hown2 (by simp [Lib.byteCells]) rfl
        clear hown2 hgrow2 hown HB
        go_wp2
        go_roundw
        case rel => exact ⟨j + 1, acc ++ [s[j]], by omega, by go_num, hown2', hb2, by simp [Lib.byteCells] at hal ⊢; omega, (unhide HU).step (unhide HS)⟩
        case measure => simp [intOf]; omega
    · have hf := (unhide HU).fin (by rw [data_len]; omega)
      have HF := hide hf
      have hcv := convert_own hown
      clear hf hown
      go_wp2
      go_ret2
      exact ⟨by rw [unhide HF]; rfl, hb⟩
end Go.Proofs.YtadefcohbkgbfaaDoor
