import Derived.Test.YtadefcohbkgbfaaDoorBldB
namespace Go.Proofs.YtadefcohbkgbfaaDoor
open Go.RowKit

set_option maxHeartbeats 1000000 in
set_option maxRecDepth 100000 in
theorem token_walk (B b : Nat) (l : List UInt8) (s : ByteArray) (w : World) (h : IsB B b l w) (hB : B ≤ w.heap.size) (hs : s.size ≤ 1048576) (hl : l.length ≤ 2097152) :
    Calls Tryd.prog 34 #[.pointer (some ⟨b, 0, none⟩), .string s] w fun e w' => e = .returned (.tuple #[]) ∧ IsB B b (l ++ 47 :: esc s.data.toList) w' ∧ Below B w w' := by
  have HL : Hid ((Lib.byteCells l).length = l.length) := Lib.byteCells_length l
  go_enter Tryd.func34, Tryd.ntmps34
  go_wp2_with (go_at_call 46; refine (writeByte B b _ 47 _ h (by rw [unhide HL]; omega) hB).mono ?_)
  rintro e w1 ⟨rfl, h1, hb1⟩
  have h1' := IsB.byte (c := 47) rfl h1
  clear h1 h
  go_wp2
  go_loopw [9] (fun i wr => ∃ j : Nat, j ≤ s.size ∧ i = .int .i64 j ∧ IsB B b (l ++ 47 :: esc (s.data.toList.take j)) wr ∧ Below B w wr) (fun i _ => s.size - (intOf i).toNat)
  case atStart => exact ⟨0, Nat.zero_le _, rfl, by simpa [esc] using h1', hb1⟩
  case round =>
    obtain ⟨j, hj, rfl, hI, hb⟩ := hrel
    have hwsz : B ≤ wr.heap.size := by have := hb.size; omega
    by_cases hjs : j < s.size
    · have hq : (Lib.byteCells (l ++ 47 :: esc (s.data.toList.take j))).length ≤ l.length + 1 + 2 * j := by
        have := esc_le (s.data.toList.take j)
        have h5 : (s.data.toList.take j).length = j := by rw [List.length_take, data_len]; omega
        rw [Lib.byteCells_length, List.length_append, List.length_cons]; omega
      have HQ : Hid (l ++ 47 :: esc (s.data.toList.take (j + 1)) = (l ++ 47 :: esc (s.data.toList.take j)) ++ escB s[j]) := by
        show _ = _
        rw [bytes_snoc s j hjs, esc_snoc]; simp
      generalize l ++ 47 :: esc (s.data.toList.take j) = q at *
      clear h1' hb1
      by_cases h126 : (s[j].toNat : Int) = 126
      · have t1 : ((s[j].toNat : Int) == 126) = true := by simpa using h126
        have HE := hide (escB_126 h126)
        clear h126
        go_wp2_with (go_at_call 49; refine (writeString B b _ _ _ hI (by show _ + 2 ≤ _; omega) hwsz).mono ?_)
        rintro e w2 ⟨rfl, h2, hb2⟩
        have h2' := IsB.str (m := [126, 48]) rfl h2
        clear h2 hI hq
        go_wp2
        go_roundw
        case rel => exact ⟨j + 1, by omega, by go_num, by rw [unhide HQ, unhide HE]; exact h2', hb.trans hb2⟩
        case measure => simp [intOf]; omega
      · have t1 : ((s[j].toNat : Int) == 126) = false := by simpa using h126
        by_cases h47 : (s[j].toNat : Int) = 47
        · have t2 : ((s[j].toNat : Int) == 47) = true := by simpa using h47
          have HE := hide (escB_47 h47)
          clear h126 h47
          go_wp2_with (go_at_call 49; refine (writeString B b _ _ _ hI (by show _ + 2 ≤ _; omega) hwsz).mono ?_)
          rintro e w2 ⟨rfl, h2, hb2⟩
          have h2' := IsB.str (m := [126, 49]) rfl h2
          clear h2 hI hq
          go_wp2
          go_roundw
          case rel => exact ⟨j + 1, by omega, by go_num, by rw [unhide HQ, unhide HE]; exact h2', hb.trans hb2⟩
          case measure => simp [intOf]; omega
        · have t2 : ((s[j].toNat : Int) == 47) = false := by simpa using h47
          have HE := hide (escB_other h126 h47)
          clear h126 h47
          go_wp2_with (go_at_call 46; refine (writeByte B b _ _ _ hI (by omega) hwsz).mono ?_)
          rintro e w2 ⟨rfl, h2, hb2⟩
          have h2' := IsB.byte (c := s[j]) rfl h2
          clear h2 hI hq
          go_wp2
          go_roundw
          case rel => exact ⟨j + 1, by omega, by go_num, by rw [unhide HQ, unhide HE]; exact h2', hb.trans hb2⟩
          case measure => simp [intOf]; omega
    · have hje : j = s.size := by omega
      subst hje
      rw [bytes_all] at hI
      clear h1' hb1
      go_wp2
      go_end0
      exact ⟨rfl, hI, hb⟩

set_option maxHeartbeats 1000000 in
set_option maxRecDepth 100000 in
theorem implText_walk (xa : Option Addr) (xb xo xc : Nat) (ss : List ByteArray) (w : World) (h : SS w xa xb xo ss) (hm : ss.length + tot ss ≤ 1048576) :
    Calls Tryd.prog 18 #[.slice xa ss.length xc] w fun e w' => e = .returned (.string ⟨(ptrText ss).toArray⟩) ∧ Below w.heap.size w w' := by
  have hadr := h.ad
  have HC := hide h.cell
  clear h
  have hlen : ss.length ≤ 1048576 := by omega
  have HM := hide hm
  clear hm
  go_enter Tryd.func18, Tryd.ntmps18
  go_wp2
  go_loopw [8] (fun i wr => ∃ k : Nat, k ≤ ss.length ∧ i = .int .i64 k ∧ IsB w.heap.size w.heap.size (ptrText (ss.take k)) wr ∧ Below w.heap.size w wr) (fun i _ => ss.length - (intOf i).toNat)
  case atStart => exact ⟨0, Nat.zero_le _, rfl, Lib.fresh_isBuilder _ _ w, (Below.refl _ _).alloc (Nat.le_refl _) _⟩
  case round =>
    obtain ⟨k, hk, rfl, hI, hb⟩ := hrel
    have hwsz := hb.size
    by_cases hlt : k < ss.length
    · have hc0 := unhide HC k hlt
      have hc := (hb.cell (p := ⟨xb, xo + k, none⟩) (World.block_lt_of_cell? _ _ hc0)).trans hc0
      obtain rfl := hadr (by omega)
      have hsz : (ss.getD k ByteArray.empty).size ≤ 1048576 := by have := tot_ge hlt; have := unhide HM; omega
      have hpl : (ptrText (ss.take k)).length ≤ 2097152 := by
        have h1 := ptrText_le (ss.take k); have h2 := tot_ge hlt; have h3 := unhide HM
        have h4 : (ss.take k).length = k := by rw [List.length_take]; omega
        omega
      have HP : Hid (ptrText (ss.take (k + 1)) = ptrText (ss.take k) ++ 47 :: esc (ss.getD k ByteArray.empty).data.toList) := by
        show _ = _; rw [take_snoc hlt, ptrText_snoc]
      clear hadr hc0
      generalize ss.getD k ByteArray.empty = s at *
      generalize ptrText (ss.take k) = p at *
      go_wp2_with (go_at_call 34; refine (token_walk w.heap.size w.heap.size p s _ hI hwsz hsz hpl).mono ?_)
      rintro e w2 ⟨rfl, h2, hb2⟩
      clear hI
      go_wp2
      go_roundw
      case rel => exact ⟨k + 1, by omega, by go_num, by rw [unhide HP]; exact h2, hb.trans hb2⟩
      case measure => simp [intOf]; omega
    · have e : ss.take k = ss := List.take_of_length_le (by omega)
      rw [e] at hI
      have E := hide e
      clear hadr e
      go_wp2_with (go_at_call 35; refine (bldString w.heap.size w.heap.size (ptrText ss) _ hI hwsz).mono ?_)
      rintro e w2 ⟨rfl, hb2⟩
      clear hI
      go_wp2
      go_ret
      exact ⟨rfl, hb.trans hb2⟩
end Go.Proofs.YtadefcohbkgbfaaDoor
