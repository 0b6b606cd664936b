import Derived.Test.YtadefcohbkgbfaaDoorTokPlain
import Derived.Test.YtadefcohbkgbfaaDoorBldB
namespace Go.Proofs.YtadefcohbkgbfaaDoor
open Go.RowKit

set_option maxHeartbeats 1000000 in
set_option maxRecDepth 100000 in
theorem implTok_walk (s : ByteArray) (w : World) (hs : s.size ≤ 1048576) :
    Calls Tryd.prog 30 #[.string s] w fun e w' => e = .returned (tokRes (unesc s.data.toList)) ∧ Below w.heap.size w w' := by
  go_enter Tryd.func30, Tryd.ntmps30
  go_wp2
  go_loopw [5] (fun i wr => ∃ (j : Nat) (acc : List UInt8), j ≤ s.size ∧ i = .int .i64 j ∧ IsB w.heap.size w.heap.size acc wr ∧ Below w.heap.size w wr ∧ (Lib.byteCells acc).length ≤ j ∧ UnAt s.data.toList j acc) (fun i _ => s.size - (intOf i).toNat)
  case atStart => exact ⟨0, [], Nat.zero_le _, rfl, Lib.fresh_isBuilder _ _ w, (Below.refl _ _).alloc (Nat.le_refl _) _, Nat.le_refl _, UnAt.start _⟩
  case round =>
    obtain ⟨j, acc, hj, rfl, hI, hb, hal, hun⟩ := hrel
    have hwsz := hb.size
    have HU := hide hun
    clear hun
    by_cases hjs : j < s.size
    · have hd := drop_at s j hjs
      by_cases h126 : (s[j].toNat : Int) = 126
      · have t1 : ((s[j].toNat : Int) != 126) = false := by simpa using h126
        by_cases h2 : j + 1 < s.size
        · have hd2 := drop_at s (j + 1) h2
          have t0 : ((j : Int) + 1 == (s.size : Int)) = false := by simp; omega
          by_cases h48 : (s[j + 1].toNat : Int) = 48
          · have t2 : ((s[j + 1].toNat : Int) == 48) = true := by simpa using h48
            have HS : Hid (unesc (s.data.toList.drop j) = (unesc (s.data.toList.drop (j + 2))).map ([126] ++ ·)) := by show _ = _; rw [hd, hd2, unesc_0 _ h126 h48]
            clear h126 h48 hd hd2
            go_wp2_with (go_at_call 46; refine (writeByte w.heap.size w.heap.size _ _ _ hI (by omega) hwsz).mono ?_)
            rintro e w2 ⟨rfl, h2, hb2⟩
            have h2' := IsB.byte (c := 126) rfl h2
            clear h2 hI
            go_wp2
            go_roundw
            case rel => exact ⟨j + 2, acc ++ [126], by omega, by go_num, h2', hb.trans hb2, by simp [Lib.byteCells] at hal ⊢; omega, (unhide HU).step (unhide HS)⟩
            case measure => simp [intOf]; omega
          · by_cases h49 : (s[j + 1].toNat : Int) = 49
            · have t2 : ((s[j + 1].toNat : Int) == 48) = false := by simpa using h48
              have t3 : ((s[j + 1].toNat : Int) == 49) = true := by simpa using h49
              have HS : Hid (unesc (s.data.toList.drop j) = (unesc (s.data.toList.drop (j + 2))).map ([47] ++ ·)) := by show _ = _; rw [hd, hd2, unesc_1 _ h126 h49]
              clear h126 h48 h49 hd hd2
              go_wp2_with (go_at_call 46; refine (writeByte w.heap.size w.heap.size _ _ _ hI (by omega) hwsz).mono ?_)
              rintro e w2 ⟨rfl, h2, hb2⟩
              have h2' := IsB.byte (c := 47) rfl h2
              clear h2 hI
              go_wp2
              go_roundw
              case rel => exact ⟨j + 2, acc ++ [47], by omega, by go_num, h2', hb.trans hb2, by simp [Lib.byteCells] at hal ⊢; omega, (unhide HU).step (unhide HS)⟩
              case measure => simp [intOf]; omega
            · have t2 : ((s[j + 1].toNat : Int) == 48) = false := by simpa using h48
              have t3 : ((s[j + 1].toNat : Int) == 49) = false := by simpa using h49
              have HF := hide ((unhide HU).bad (by rw [hd, hd2, unesc_bad _ h126 h48 h49]))
              clear h126 h48 h49 hd hd2 hI
              go_wp2
              go_ret2
              exact ⟨by rw [unhide HF]; rfl, hb⟩
        · have t0 : ((j : Int) + 1 == (s.size : Int)) = true := by simp; omega
          have HF := hide ((unhide HU).bad (by rw [hd, drop_end s (j + 1) h2, unesc_end h126]))
          clear h126 hd hI
          go_wp2
          go_ret2
          exact ⟨by rw [unhide HF]; rfl, hb⟩
      · have t1 : ((s[j].toNat : Int) != 126) = true := by simpa using h126
        have HS : Hid (unesc (s.data.toList.drop j) = (unesc (s.data.toList.drop (j + 1))).map ([s[j]] ++ ·)) := by show _ = _; rw [hd, unesc_lit _ h126]
        clear h126 hd
        go_wp2_with (go_at_call 46; refine (writeByte w.heap.size w.heap.size _ _ _ hI (by omega) hwsz).mono ?_)
        rintro e w2 ⟨rfl, h2, hb2⟩
        have h2' := IsB.byte (c := s[j]) rfl h2
        clear h2 hI
        go_wp2
        go_roundw
        case rel => exact ⟨j + 1, acc ++ [s[j]], by omega, by go_num, h2', hb.trans hb2, by simp [Lib.byteCells] at hal ⊢; omega, (unhide HU).step (unhide HS)⟩
        case measure => simp [intOf]; omega
    · have HF := hide ((unhide HU).fin (by rw [data_len]; omega))
      go_wp2_with (go_at_call 35; refine (bldString w.heap.size w.heap.size acc _ hI hwsz).mono ?_)
      rintro e w2 ⟨rfl, hb2⟩
      clear hI
      go_wp2
      go_ret2
      exact ⟨by rw [unhide HF]; rfl, hb.trans hb2⟩
end Go.Proofs.YtadefcohbkgbfaaDoor
