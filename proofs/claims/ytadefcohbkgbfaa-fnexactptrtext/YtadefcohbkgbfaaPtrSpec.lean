import Derived.Test.YtadefcohbkgbfaaByteRow
namespace Go.Proofs.Ytadefcohbkgbfaa
open Go.RowKit

set_option maxHeartbeats 1000000 in
set_option maxRecDepth 100000 in
theorem specText_walk (xa : Option Addr) (xb xo xc : Nat) (ss : List ByteArray) (w : World) (h : SS w xa xb xo ss) (hm : ss.length + tot ss ≤ 1048576) :
    Calls Try.prog 5 #[.slice xa ss.length xc] w fun e w' => e = .returned (.string ⟨(ptrText ss).toArray⟩) ∧ Below w.heap.size w w' := by
  obtain ⟨i0, hi, hz0, hz1, hz2⟩ := info_parts infoU8
  have hadr := h.ad
  have HC := hide h.cell
  clear h
  have hlen : ss.length ≤ 1048576 := by omega
  have HM := hide hm
  clear hm
  go_enter Try.func5, Try.ntmps5
  go_wp2
  go_loopw [3, 4] (fun v i wr => ∃ k : Nat, k ≤ ss.length ∧ i = .int .i64 k ∧ wr.ownsRow w.heap.size 5 1 v (Lib.byteCells (ptrText (ss.take k))).length (Lib.byteCells (ptrText (ss.take k))) ∧ Below w.heap.size w wr) (fun _ i _ => ss.length - (intOf i).toNat)
  case atStart => exact ⟨0, Nat.zero_le _, rfl, World.ownsRow_lit w #[] 0 (Nat.le_refl _) (by unfold maxLen; omega) rfl, (Below.refl _ _).alloc (Nat.le_refl _) _⟩
  case round =>
    obtain ⟨k, hk, rfl, hown, hb⟩ := hrel
    by_cases hlt : k < ss.length
    · have hc0 := unhide HC k hlt
      have hxb : xb < w.heap.size := World.block_lt_of_cell? _ _ hc0
      obtain rfl := hadr (by omega)
      have htk := take_snoc hlt
      have hsz : (ss.getD k ByteArray.empty).size ≤ 1048576 := by have := tot_ge hlt; have := unhide HM; omega
      have hpl : (ptrText (ss.take k)).length + 2 * (ss.getD k ByteArray.empty).size + 1 ≤ 2097152 := by
        have h1 := ptrText_le (ss.take k); have h2 := tot_ge hlt; have h3 := unhide HM
        have h4 : (ss.take k).length = k := by rw [List.length_take]; omega
        omega
      clear hadr
      generalize hs : ss.getD k ByteArray.empty = s at *
      have HTK := hide htk
      have HS := hide hs
      clear htk hs
      have HP : Hid (ptrText (ss.take (k + 1)) = ptrText (ss.take k) ++ 47 :: esc s.data.toList) := by
        have e := unhide HTK; show _ = _; rw [e, ptrText_snoc]
      generalize ptrText (ss.take k) = p at *
      clear HTK
      have HB := hide hb
      have hwsz := hb.size
      clear hb
      have hp1 : (Lib.byteCells p).length = p.length := Lib.byteCells_length p
      have HP1 := hide hp1
      clear hp1
      go_wp2_with (at_builtin; refine wpList_append_own _ rfl (.tmp 13) (.tmp 14) 28 rfl w.heap.size 5 i0 (.int .u8 0) 1 1 Try.underlying28 hi hz0 hz1 hz2 rfl (by decide) _ _ _ rfl (hown.alloc _) ⟨wr.heap.size, 0, none⟩ 1 1 [.int .u8 47] rfl rfl (lit1 _ _ _) (one1 _ _) (by rw [unhide HP1]; unfold maxLen; omega) (by rw [unhide HP1]; omega) (by simp; omega) ?_)
      intro v1 w1 hown1 hgrow1 _
      have hb1 : Below w.heap.size w w1 := ((unhide HB).alloc hwsz _).grown hgrow1 (by simp; omega) (fun k hk => (hown.lt k hk).1)
      have hown1' := own_step (m := [47]) hown1 (by simp [Lib.byteCells]) rfl
      clear hown1 hgrow1 hown HB HP1
      go_wp2
      go_loopw [3, 5] (fun v i wr => ∃ j : Nat, j ≤ s.size ∧ i = .int .i64 j ∧ wr.ownsRow w.heap.size 5 1 v (Lib.byteCells (p ++ 47 :: esc (s.data.toList.take j))).length (Lib.byteCells (p ++ 47 :: esc (s.data.toList.take j))) ∧ Below w.heap.size w wr) (fun _ i _ => s.size - (intOf i).toNat)
      case atStart => exact ⟨0, Nat.zero_le _, rfl, by simpa [esc] using hown1', hb1⟩
      case round =>
        obtain ⟨j, hj, rfl, hown, hb⟩ := hrel
        have hc : wr.cell? ⟨xb, xo + k, none⟩ = some (.string s) := (hb.cell (p := ⟨xb, xo + k, none⟩) hxb).trans hc0
        have hwsz := hb.size
        by_cases hjs : j < s.size
        · have hq : (Lib.byteCells (p ++ 47 :: esc (s.data.toList.take j))).length ≤ p.length + 1 + 2 * j := by
            have := esc_le (s.data.toList.take j)
            have h5 : (s.data.toList.take j).length = j := by rw [List.length_take, data_len]; omega
            rw [Lib.byteCells_length, List.length_append, List.length_cons]; omega
          have HQ : Hid (p ++ 47 :: esc (s.data.toList.take (j + 1)) = (p ++ 47 :: esc (s.data.toList.take j)) ++ escB s[j]) := by
            show _ = _
            rw [bytes_snoc s j hjs, esc_snoc]; simp
          generalize p ++ 47 :: esc (s.data.toList.take j) = q at *
          have HB := hide hb
          clear hb hown1' hb1
          by_cases h126 : (s[j].toNat : Int) = 126
          · have t1 : ((s[j].toNat : Int) == 126) = true := by simpa using h126
            have HE := hide (escB_126 h126)
            clear h126
            go_wp2_with (at_builtin; refine wpList_append_own _ rfl (.tmp 32) (.tmp 33) 28 rfl w.heap.size 5 i0 (.int .u8 0) 1 1 Try.underlying28 hi hz0 hz1 hz2 rfl (by decide) _ _ _ rfl (hown.alloc _) ⟨wr.heap.size, 0, none⟩ 2 2 [.int .u8 126, .int .u8 48] rfl rfl (lit2 _ _ _ _ ) (one2 _ _ _ ) (by unfold maxLen; omega) (by omega) (by simp; omega) ?_)
            intro v2 w2 hown2 hgrow2 _
            have hb2 : Below w.heap.size w w2 := ((unhide HB).alloc hwsz _).grown hgrow2 (by simp; omega) (fun k hk => (hown.lt k hk).1)
            have hown2' := own_step (m := [126, 48]) hown2 (by simp [Lib.byteCells]) rfl
            clear hown2 hgrow2 hown HB hq
            go_wp2
            go_roundw
            case rel => exact ⟨j + 1, by omega, by go_num, by rw [unhide HQ, unhide HE]; exact hown2', hb2⟩
            case measure => simp [intOf]; omega
          · have t1 : ((s[j].toNat : Int) == 126) = false := by simpa using h126
            by_cases h47 : (s[j].toNat : Int) = 47
            · have t2 : ((s[j].toNat : Int) == 47) = true := by simpa using h47
              have HE := hide (escB_47 h47)
              clear h126 h47
              go_wp2_with (at_builtin; refine wpList_append_own _ rfl (.tmp 42) (.tmp 43) 28 rfl w.heap.size 5 i0 (.int .u8 0) 1 1 Try.underlying28 hi hz0 hz1 hz2 rfl (by decide) _ _ _ rfl (hown.alloc _) ⟨wr.heap.size, 0, none⟩ 2 2 [.int .u8 126, .int .u8 49] rfl rfl (lit2 _ _ _ _ ) (one2 _ _ _ ) (by unfold maxLen; omega) (by omega) (by simp; omega) ?_)
              intro v2 w2 hown2 hgrow2 _
              have hb2 : Below w.heap.size w w2 := ((unhide HB).alloc hwsz _).grown hgrow2 (by simp; omega) (fun k hk => (hown.lt k hk).1)
              have hown2' := own_step (m := [126, 49]) hown2 (by simp [Lib.byteCells]) rfl
              clear hown2 hgrow2 hown HB hq
              go_wp2
              go_roundw
              case rel => exact ⟨j + 1, by omega, by go_num, by rw [unhide HQ, unhide HE]; exact hown2', hb2⟩
              case measure => simp [intOf]; omega
            · have t2 : ((s[j].toNat : Int) == 47) = false := by simpa using h47
              have HE := hide (escB_other h126 h47)
              clear h126 h47
              go_wp2_with (at_builtin; refine wpList_append_own _ rfl (.tmp 45) (.tmp 52) 28 rfl w.heap.size 5 i0 (.int .u8 0) 1 1 Try.underlying28 hi hz0 hz1 hz2 rfl (by decide) _ _ _ rfl (hown.alloc _) ⟨wr.heap.size, 0, none⟩ 1 1 [.int .u8 s[j].toNat] rfl rfl (lit1 _ _ _ ) (one1 _ _ ) (by unfold maxLen; omega) (by omega) (by simp; omega) ?_)
              intro v2 w2 hown2 hgrow2 _
              have hb2 : Below w.heap.size w w2 := ((unhide HB).alloc hwsz _).grown hgrow2 (by simp; omega) (fun k hk => (hown.lt k hk).1)
              have hown2' := own_step (m := [s[j]]) hown2 (by simp [Lib.byteCells]) rfl
              clear hown2 hgrow2 hown HB hq
              go_wp2
              go_roundw
              case rel => exact ⟨j + 1, by omega, by go_num, by rw [unhide HQ, unhide HE]; exact hown2', hb2⟩
              case measure => simp [intOf]; omega
        · have hje : j = s.size := by omega
          subst hje
          rw [bytes_all] at hown
          clear hown1' hb1
          go_wp2
          go_roundw
          case rel => exact ⟨k + 1, by omega, by go_num, by rw [unhide HP]; exact hown, hb⟩
          case measure => simp [intOf]; omega
    · have e : ss.take k = ss := List.take_of_length_le (by omega)
      rw [e] at hown
      clear hadr
      have hl := Lib.byteCells_length (ptrText ss)
      rcases hown.2 with ⟨hv, h0⟩ | ⟨g, cap, cur, hv, _⟩
      · have e0 : ptrText ss = [] := List.eq_nil_of_length_eq_zero (by omega)
        subst hv
        have hcv := run_convert_bytes_nil (P := Try.prog) wr 28 5 Try.underlying28 Try.underlying5 0 0 9 Try.underlying9
        have HE0 := hide e0
        clear e0 h0 hown hl
        go_wp2
        go_ret
        exact ⟨by rw [unhide HE0]; rfl, hb⟩
      · subst hv
        rw [hl] at hown ⊢
        have hcv := run_convert_bytes_back (P := Try.prog) wr 28 9 5 ⟨g, 0, none⟩ cap (ptrText ss) Try.underlying28 Try.underlying5 Try.underlying9 (fun j hj => by
          rw [show ((⟨g, 0, none⟩ : Addr).add j) = ⟨g, j, none⟩ from by simp [Addr.add]; omega, hown.cellAt j (by omega)]; exact byteCells_at hj)
        go_wp2
        go_ret
        exact ⟨rfl, hb⟩
end Go.Proofs.Ytadefcohbkgbfaa
