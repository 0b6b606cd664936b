import Derived.Test.YtadefcohbkgbfaaDoorSpecPiece
import Derived.Test.YtadefcohbkgbfaaDoorSpecAt
import Derived.Test.YtadefcohbkgbfaaDoorOwnB
import Derived.Test.YtadefcohbkgbfaaDoorConvB
namespace Go.Proofs.YtadefcohbkgbfaaDoor
open Go.RowKit

/-- A string of JSON, as the model reads it. -/
def SPost (s : ByteArray) (w : World) (o : Option (List UInt8 × Nat)) (e : Ending) (w' : World) : Prop :=
  Below w.heap.size w w' ∧ o.elim (∃ (t : ByteArray) (k : Nat), k ≤ s.size + 1 ∧ t.size ≤ 4 * s.size + 4 ∧ e = .returned (.tuple #[.string t, .int .i64 (k : Int), .bool false])) fun q => e = .returned (.tuple #[.string (strOf q.1), .int .i64 (q.2 : Int), .bool true])

set_option maxHeartbeats 1600000 in
set_option maxRecDepth 100000 in
theorem l1String_walk (s : ByteArray) (i : Nat) (w : World) (hs : s.size ≤ 1048576) (hi : i ≤ s.size + 1) :
    Calls Tryd.prog 37 #[.string s, .int .i64 i] w (SPost s w (strQ s i)) := by
  obtain ⟨i0, hi0, hz0, hz1, hz2⟩ := info_parts infoU8
  by_cases h34 : bt s i = 34
  · have hlt : i < s.size := bt_in (by rw [h34]; decide)
    have HQ : Hid (strQ s i = strR s (i + 1)) := by show _ = _; unfold strQ; rw [if_pos h34]
    have ha : atB s i 34 = true := by rw [atB_in hlt, beq_iff_eq, ← bt_at s i hlt, h34]; rfl
    have HA := hide (at_walk s (i : Int) i rfl 34 w)
    rw [ha] at HA
    clear h34 ha
    go_enter Tryd.func37, Tryd.ntmps37
    go_wp2_with fail
    refine (unhide HA).mono ?_
    rintro e w1 ⟨rfl, rfl⟩
    clear HA
    go_wp2
    go_loopw [1, 7] (fun k v wr => ∃ (j : Nat) (acc : List UInt8), j ≤ s.size ∧ k = .int .i64 (j : Int) ∧ acc.length ≤ 4 * j ∧ wr.ownsRow w.heap.size 5 1 v (Lib.byteCells acc).length (Lib.byteCells acc) ∧ Below w.heap.size w wr ∧ strR s (i + 1) = (strR s j).map fun q => (acc ++ q.1, q.2)) (fun k _ _ => s.size - (intOf k).toNat)
    case atStart =>
      exact ⟨i + 1, [], by omega, by go_num, by simp, ⟨rfl, .inr ⟨w.heap.size, 0, #[], rfl, Nat.le_refl _, heap_alloc_new w _, Nat.le_refl _, by unfold maxLen; omega, rfl, rfl⟩⟩, (Below.refl _ _).alloc (Nat.le_refl _) _, by simp⟩
    case round =>
      obtain ⟨j, acc, hj, rfl, hal, hown, hb, hst⟩ := hrel
      have HST := hide hst
      have HB := hide hb
      have hwsz := hb.size
      clear hst hb
      by_cases hin : j < s.size
      · have e0 := bt_at s j hin
        have hin' : (j : Int) < (s.size : Int) := by omega
        by_cases e34 : bt s j = 34
        · have t1 : ((s[j].toNat : Int) != 34) = false := by rw [bne_eq_false_iff_eq]; omega
          have HF : Hid (strQ s i = some (acc, j + 1)) := by
            show _ = _
            rw [unhide HQ, unhide HST, strR_end e34]; simp
          have hcv := convert_own hown
          clear hown e34 e0
          go_wp2
          go_ret3
          exact ⟨unhide HB, by rw [unhide HF]; rfl⟩
        · have t1 : ((s[j].toNat : Int) != 34) = true := by rw [bne_iff_ne]; omega
          have HC := hide (l1Piece_walk s j wr hs hin e34)
          cases hp : piece s j with
          | none =>
            have HF : Hid (strQ s i = none) := by
              show _ = _
              rw [unhide HQ, unhide HST, strR_bad e34 hp]; rfl
            rw [hp] at HC
            clear hown e34 e0 hp
            go_wp2_with fail
            refine (unhide HC).mono ?_
            rintro e w2 ⟨⟨t, rfl⟩, b2⟩
            have B2 := below_next (unhide HB) b2
            clear HC
            go_wp2
            go_ret3
            exact ⟨B2, by rw [unhide HF]; exact ⟨_, j, by omega, Nat.zero_le _, rfl⟩⟩
          | some p =>
            obtain ⟨r, n⟩ := p
            obtain ⟨p1, p2, p3⟩ := piece_ok hp
            have hel := enc_le r
            have HST2 : Hid (strR s (i + 1) = (strR s (j + n)).map fun q => (acc ++ enc r ++ q.1, q.2)) := by
              show _ = _
              rw [unhide HST, strR_go e34 hp, Option.map_map]
              congr 1
              funext q
              simp
            rw [hp] at HC
            have t0 : ((n : Int) == 0) = false := by rw [beq_eq_false_iff_ne]; omega
            clear e34 e0 hp
            go_wp2_with fail
            refine (unhide HC).mono ?_
            rintro e w2 ⟨rfl, b2⟩
            have B2 := below_next (unhide HB) b2
            have own2 := own_below hown b2
            obtain ⟨cap, W3, hcv, hcell, b3, hk3, hs3⟩ := conv_bytes w2 (enc r)
            have own3 := hk3 _ _ _ _ _ own2
            have B3 := below_next B2 b3
            have HCELL := hide hcell
            have hsz2 := B2.size
            clear HC hcell hk3 own2 hown b2 b3 HB B2
            go_wp2_with (at_builtin; refine wpList_append_own _ rfl (.tmp 37) (.tmp 39) 32 rfl w.heap.size 5 i0 (.int .u8 0) 1 1 Tryd.underlying32 hi0 hz0 hz1 hz2 rfl (by decide) _ _ _ rfl own3 ⟨w2.heap.size, 0, none⟩ (enc r).length cap (Lib.byteCells (enc r)) rfl (by rw [Lib.byteCells_length]; omega) (unhide HCELL) (one_bytes (enc r)) (by rw [Lib.byteCells_length]; unfold maxLen; omega) (by rw [Lib.byteCells_length]; omega) (by omega) ?_)
            intro v4 w4 own4 hg4 _
            have B4 : Below w.heap.size w w4 := B3.grown hg4 (by omega) (fun k hk => (own3.lt k hk).1)
            have own4' := own_step (m := (enc r)) own4 rfl rfl
            clear own4 hg4 own3 HCELL B3 hcv
            go_wp2
            go_roundw
            case rel => exact ⟨j + n, acc ++ (enc r), by omega, by go_num, by rw [List.length_append]; omega, own4', B4, unhide HST2⟩
            case measure => simp [intOf]; omega
      · have hin' : ¬ (j : Int) < (s.size : Int) := by omega
        have d1 : decide ((j : Int) < (s.size : Int)) = false := by simp; omega
        have HF : Hid (strQ s i = none) := by
          show _ = _
          rw [unhide HQ, unhide HST, strR_out (by omega)]; rfl
        have hcv := convert_own hown
        clear hown
        go_wp2
        go_ret3
        exact ⟨unhide HB, by rw [unhide HF]; exact ⟨_, j + 1, by omega, by show acc.toArray.size ≤ _; simp; omega, rfl⟩⟩
  · have HQ : Hid (strQ s i = none) := by show _ = _; unfold strQ; rw [if_neg h34]
    have ha : atB s i 34 = false := by
      by_cases hlt : i < s.size
      · rw [atB_in hlt, beq_eq_false_iff_ne, ← bt_at s i hlt]; omega
      · exact atB_out hlt
    have HA := hide (at_walk s (i : Int) i rfl 34 w)
    rw [ha] at HA
    clear h34 ha
    go_enter Tryd.func37, Tryd.ntmps37
    go_wp2_with fail
    refine (unhide HA).mono ?_
    rintro e w1 ⟨rfl, rfl⟩
    clear HA
    go_wp2
    go_ret3
    exact ⟨Below.refl _ _, by rw [unhide HQ]; exact ⟨_, i, hi, Nat.zero_le _, rfl⟩⟩
end Go.Proofs.YtadefcohbkgbfaaDoor
