import Derived.Test.YtadefcohbkgbfaaDoorTokRow
import Derived.Test.YtadefcohbkgbfaaDoorSpecTok
namespace Go.Proofs.YtadefcohbkgbfaaDoor
open Go.RowKit

theorem toks_none_or (o : Option (List (List UInt8))) : o = none ∨ ∃ ts, o = some ts := by cases o with
  | none => exact .inl rfl
  | some t => exact .inr ⟨t, rfl⟩

set_option maxHeartbeats 1000000 in
set_option maxRecDepth 100000 in
theorem specToks_walk (s : ByteArray) (w : World) (hs : s.size ≤ 1048576) :
    Calls Tryd.prog 12 #[.string s] w fun e w' => ∃ v, e = .returned (.tuple #[v, .bool (ptoks s.data.toList).isSome]) ∧ OT w' w.heap.size v ((ptoks s.data.toList).getD []) ∧ Below w.heap.size w w' := by
  obtain ⟨i0, hi, hz0, hz1, hz2⟩ := info_parts infoString
  have hown0 := World.ownsRow_lit (base := w.heap.size) (e := 9) (size := 1) w #[] 0 (Nat.le_refl _) (by unfold maxLen; omega) rfl
  have hbel0 : Below w.heap.size w (w.alloc (.cells #[] 9)) := (Below.refl _ _).alloc (Nat.le_refl _) _
  by_cases h0 : s.size = 0
  · have hse : s = ⟨#[]⟩ := by
      have : s.data.toList = [] := List.eq_nil_of_length_eq_zero (by rw [data_len]; exact h0)
      obtain ⟨⟨l⟩⟩ := s; simp at this; subst this; rfl
    subst hse
    have HO := hide hown0
    clear hown0 h0
    go_enter Tryd.func12, Tryd.ntmps12
    go_wp2
    go_ret2
    exact ⟨_, rfl, unhide HO, hbel0⟩
  · have hne : s.toList.isEmpty = false := by
      rw [Lib.toList_data, List.isEmpty_eq_false_iff]; intro e; exact h0 (by rw [← data_len, e]; rfl)
    have h0' : 0 < s.size := by omega
    have hdl := data_len s
    by_cases h47 : (s[0].toNat : Int) = 47
    · have t1 : ((s[0].toNat : Int) != 47) = false := by simpa using h47
      have HP : Hid (ptoks s.data.toList = toks (s.data.toList.drop 1)) := ptoks_cons (by omega) (by show s[0].toNat = 47; omega)
      have HO := hide hown0
      clear hown0 h47
      generalize hl : s.data.toList = l at *
      have HL := hide hl
      clear hl
      go_enter Tryd.func12, Tryd.ntmps12
      go_wp2
      go_loopw [4, 5, 6] (fun v fr i wr => ∃ (k f : Nat) (done : List (List UInt8)), 1 ≤ k ∧ k ≤ s.size + 1 ∧ 1 ≤ f ∧ f ≤ k ∧ i = .int .i64 k ∧ fr = .int .i64 f ∧ done.length ≤ k ∧ OT wr w.heap.size v done ∧ Below w.heap.size w wr ∧ (k ≤ s.size → NoSl l f k ∧ TkAt l f done) ∧ (k = s.size + 1 → toks (l.drop 1) = some done)) (fun _ _ i _ => s.size + 1 - (intOf i).toNat)
      case atStart => exact ⟨1, 1, [], by omega, by omega, by omega, by omega, rfl, rfl, by simp, unhide HO, hbel0, fun _ => ⟨NoSl.none _ _, by simp [TkAt]⟩, fun h => by omega⟩
      case round =>
        obtain ⟨k, f, done, hk1, hk2, hf1, hfk, rfl, rfl, hdl2, hown, hb, hA, hZ⟩ := hrel
        have hwsz := hb.size
        have HA := hide hA
        have HZ := hide hZ
        clear hA hZ HO
        by_cases hks : k ≤ s.size
        · by_cases hke : k = s.size
          · have hA := unhide HA hks
            have hkl : k = l.length := by omega
            have hlast : NoSl l f l.length := by rw [← hkl]; exact hA.1
            subst hke
            have t2 : ((s.size : Int) == (s.size : Int)) = true := by simp
            have hsz : (s.extract f s.size).size ≤ 1048576 := by rw [← data_len, extract_toList, List.length_take, List.length_drop, data_len]; omega
            have hex := extract_toList s f s.size
            rw [unhide HL] at hex
            have C := specTok_walk (s.extract f s.size) wr hsz
            rw [hex] at C
            cases ho : unesc ((l.drop f).take (s.size - f)) with
            | none =>
              rw [ho, tokRes_none] at C
              have HC := hide C
              have HF : Hid (toks (l.drop 1) = none) := by have := hA.2.lastBad hlast (by rw [← hkl]; exact ho); exact this
              clear C ho hex hA hlast hkl HA HZ
              go_wp2_with fail
              refine (unhide HC).mono ?_
              rintro e w1 ⟨rfl, hb1⟩
              have B1 := hb.trans (hb1.mono hwsz)
              have hown1 := World.ownsRow_lit (base := w.heap.size) (e := 9) (size := 1) w1 #[] 0 B1.size (by unfold maxLen; omega) rfl
              have HO1 := hide hown1
              clear hown hb1 HC hown1
              go_wp2
              go_ret2
              exact ⟨_, by rw [unhide HP, unhide HF]; rfl, by rw [unhide HP, unhide HF]; exact unhide HO1, B1.alloc B1.size _⟩
            | some t =>
              rw [ho, tokRes_some] at C
              have HC := hide C
              have HF : Hid (toks (l.drop 1) = some (done ++ [t])) := by have := hA.2.last hlast (by rw [← hkl]; exact ho); exact this
              clear hA hlast hkl HA HZ C ho hex
              go_wp2_with fail
              refine (unhide HC).mono ?_
              rintro e w1 ⟨rfl, hb1⟩
              have B1 := hb.trans (hb1.mono hwsz)
              have own1 := own_below hown hb1
              have hw1 := B1.size
              clear hown hb1 HC
              go_wp2_with (at_builtin; (refine wpList_append_own _ rfl (.tmp 44) (.tmp 46) 27 rfl w.heap.size 9 i0 (.string ByteArray.empty) 1 16 Tryd.underlying27 hi hz0 hz1 hz2 rfl (by decide) _ _ _ rfl (own1.alloc _) ⟨w1.heap.size, 0, none⟩ 1 1 [.string (baT t)] rfl rfl (lit1 _ _ _) (one_tok _) (by unfold maxLen; omega) (by omega) (by simp; omega) ?_))
              intro v2 w2 hown2 hgrow2 _
              have B2 : Below w.heap.size w w2 := (B1.alloc hw1 _).grown hgrow2 (by simp; omega) (fun k hk => (own1.lt k hk).1)
              have own2 := OT.step (t := t) hown2
              clear hown2 hgrow2 own1
              go_wp2
              go_roundw
              case rel => exact ⟨s.size + 1, s.size + 1, done ++ [t], by omega, by omega, by omega, by omega, by go_num, by go_num, by simp; omega, own2, B2, fun h => by omega, fun _ => unhide HF⟩
              case measure => simp [intOf]
          · have hlt : k < s.size := by omega
            have t2 : ((k : Int) == (s.size : Int)) = false := by simp; omega
            by_cases hc : (s[k].toNat : Int) = 47
            · have t3 : ((s[k].toNat : Int) == 47) = true := by simpa using hc
              have hA := unhide HA hks
              have hcl : k < l.length := by omega
              have hck : l[k].toNat = 47 := by have e : l[k].toNat = s[k].toNat := by (have e := unhide HL; subst e; rfl)
                                               omega
              have hsz : (s.extract f k).size ≤ 1048576 := by rw [← data_len, extract_toList, List.length_take, List.length_drop, data_len]; omega
              have hex := extract_toList s f k
              rw [unhide HL] at hex
              have C := specTok_walk (s.extract f k) wr hsz
              rw [hex] at C
              cases ho : unesc ((l.drop f).take (k - f)) with
              | none =>
                rw [ho, tokRes_none] at C
                have HC := hide C
                have HF : Hid (toks (l.drop 1) = none) := hA.2.cutBad hA.1 hfk hcl hck ho
                clear C ho hex
                go_wp2_with fail
                refine (unhide HC).mono ?_
                rintro e w1 ⟨rfl, hb1⟩
                have B1 := hb.trans (hb1.mono hwsz)
                have hown1 := World.ownsRow_lit (base := w.heap.size) (e := 9) (size := 1) w1 #[] 0 B1.size (by unfold maxLen; omega) rfl
                have HO1 := hide hown1
                clear hown hb1 HC hown1
                go_wp2
                go_ret2
                exact ⟨_, by rw [unhide HP, unhide HF]; rfl, by rw [unhide HP, unhide HF]; exact unhide HO1, B1.alloc B1.size _⟩
              | some t =>
                rw [ho, tokRes_some] at C
                have HC := hide C
                have HF := hide (hA.2.cut hA.1 hfk hcl hck ho)
                clear hA hcl hck hc HA HZ
                clear C ho hex
                go_wp2_with fail
                refine (unhide HC).mono ?_
                rintro e w1 ⟨rfl, hb1⟩
                have B1 := hb.trans (hb1.mono hwsz)
                have own1 := own_below hown hb1
                have hw1 := B1.size
                clear hown hb1 HC
                go_wp2_with (at_builtin; refine wpList_append_own _ rfl (.tmp 44) (.tmp 46) 27 rfl w.heap.size 9 i0 (.string ByteArray.empty) 1 16 Tryd.underlying27 hi hz0 hz1 hz2 rfl (by decide) _ _ _ rfl (own1.alloc _) ⟨w1.heap.size, 0, none⟩ 1 1 [.string (baT t)] rfl rfl (lit1 _ _ _) (one_tok _) (by unfold maxLen; omega) (by omega) (by simp; omega) ?_)
                intro v2 w2 hown2 hgrow2 _
                have B2 : Below w.heap.size w w2 := (B1.alloc hw1 _).grown hgrow2 (by simp; omega) (fun k hk => (own1.lt k hk).1)
                have own2 := OT.step (t := t) hown2
                clear hown2 hgrow2 own1
                go_wp2
                go_roundw
                case rel => exact ⟨k + 1, k + 1, done ++ [t], by omega, by omega, by omega, by omega, by go_num, by go_num, by simp; omega, own2, B2, fun _ => ⟨NoSl.none _ _, unhide HF⟩, fun h => by omega⟩
                case measure => simp [intOf]; omega
            · have t3 : ((s[k].toNat : Int) == 47) = false := by simpa using hc
              go_wp2
              go_roundw
              case rel =>
                have ⟨hn, ht⟩ := unhide HA hks
                have hcl : k < l.length := by omega
                have hck : l[k].toNat = s[k].toNat := by have e := unhide HL; subst e; rfl
                exact ⟨k + 1, f, done, by omega, by omega, hf1, by omega, by go_num, rfl, by omega, hown, hb, fun _ => ⟨hn.snoc hcl (by omega), ht⟩, fun h => by omega⟩
              case measure => simp [intOf]; omega
        · have HF := hide (unhide HZ (by omega))
          go_wp2
          go_ret2
          exact ⟨_, by rw [unhide HP, unhide HF]; rfl, by rw [unhide HP, unhide HF]; exact hown, hb⟩
    · have t1 : ((s[0].toNat : Int) != 47) = true := by simpa using h47
      have HP : Hid (ptoks s.data.toList = none) := ptoks_bad (by omega) (fun e => h47 (by show ((s[0].toNat : Int)) = 47; have : s.data.toList[0].toNat = s[0].toNat := rfl; omega))
      have HO := hide hown0
      clear hown0 h47
      go_enter Tryd.func12, Tryd.ntmps12
      go_wp2
      go_ret2
      exact ⟨_, by rw [unhide HP]; rfl, by rw [unhide HP]; exact unhide HO, hbel0⟩
end Go.Proofs.YtadefcohbkgbfaaDoor
