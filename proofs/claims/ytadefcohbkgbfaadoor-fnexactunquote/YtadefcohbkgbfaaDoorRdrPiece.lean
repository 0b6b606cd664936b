import Derived.Test.YtadefcohbkgbfaaDoorRdrEsc2
import Derived.Test.YtadefcohbkgbfaaDoorTabs
import Derived.Test.YtadefcohbkgbfaaDoorShelf
import Derived.Shelf.Unicode.DecodeAny
import Derived.Lib.QuietBelow
namespace Go.Proofs.YtadefcohbkgbfaaDoor
open Go.RowKit Go.Sort

theorem decodeGo_at (s : ByteArray) (i : Nat) (h : i < s.size) : Lib.decodeGo (s.extract i s.size) = Utf8.decode s i := by
  have hsz : (s.extract i s.size).size = s.size - i := by simp
  unfold Lib.decodeGo
  rw [if_neg (by omega), dec, dec, hsz]
  have hb : ∀ k, bt (s.extract i s.size) k = bt s (i + k) := by
    intro k
    unfold bt
    rw [Lib.extract_data, List.getD_eq_getElem?_getD, List.getD_eq_getElem?_getD, List.getElem?_take, List.getElem?_drop]
    split
    · rfl
    · rw [List.getElem?_eq_none (by rw [data_len]; omega)]
  rw [hb, hb, hb, hb]; rfl
theorem decodeGo_end (s : ByteArray) (i : Nat) (h : i = s.size) : Lib.decodeGo (s.extract i s.size) = (65533, 0) := by
  have hsz : (s.extract i s.size).size = 0 := by simp; omega
  unfold Lib.decodeGo
  rw [if_pos hsz]

set_option maxHeartbeats 1600000 in
theorem raw_ok (rb : Nat) (s : ByteArray) (i : Nat) (tb kt : Bool) (w : World) (h : Rdr rb s i tb kt w) (hs : s.size ≤ 1048576) (hi : i ≤ s.size) (hn : bt s i ≠ 92 ∨ i = s.size) (B : Nat) (hT : TabsB B w) (hB : B ≤ rb)
    (r n : Nat) (hd : Lib.decodeGo (s.extract i s.size) = (r, n)) (h32 : 32 ≤ r) (hr : r ≤ 1114111) (hn2 : r = 65533 → 2 ≤ n) (hin : i + n ≤ s.size) :
    Calls Tryd.prog 55 #[.pointer (some ⟨rb, 0, none⟩)] w fun e w' => e = .returned (.int .i32 r) ∧ Rdr rb s (i + n) tb kt w' ∧ KB rb w w' := by
  have HS := hide (skip_no rb s i tb kt w h hi 92 hn)
  have HT := hide hT
  have hlt := h.lt
  clear h hn hT
  go_enter Tryd.func55, Tryd.ntmps55
  go_wp2_with fail
  refine (unhide HS).mono ?_
  rintro e w1 ⟨rfl, r1, k1⟩
  have T1 := (unhide HT).next (k1.below hB (by omega)) (Nat.le_refl _)
  have HD : Hid (∀ d os, Calls Tryd.prog 66 #[.string (s.extract i s.size)] (grow (redrawn w1 d) os) fun e w'' => e = .returned (.tuple #[.int .i32 r, .int .i64 n]) ∧ ∃ p : Regrown, w'' = grow (redrawn w1 p.d) p.os) := fun d os => by
    have c := Any.utf8_DecodeRuneInString Tryd.laysDecode (s.extract i s.size) (grow (redrawn w1 d) os) ((T1.tabs).below (below_regrown w1 d os))
    rw [hd] at c
    exact Calls.regrown_of c
  have c0 : ∀ d os, (grow (redrawn w1 d) os).cell? ⟨rb, 0, none⟩ = some (.string s) := fun d os => cell_regrown r1.text d os
  have c1 : ∀ d os, (grow (redrawn w1 d) os).cell? ⟨rb, 1, none⟩ = some (.int .i64 (i : Int)) := fun d os => cell_regrown r1.at d os
  have R1 := hide r1
  clear r1 HS HT T1 hd
  go_wp2_with fail
  refine wp_region_quiet_below (by kernel_rfl) (by kernel_rfl) ?_
  repeat (first | go_big_quiet_step ((go_at_call 66; exact unhide HD _ _)) | quiet_step ((go_at_call 66; exact unhide HD _ _)))
  refine wpQuiet_nil ?_
  intro _ hw'
  obtain ⟨⟨dq, osq⟩, hw''⟩ := hw'
  subst hw''
  have R2 := (unhide R1).below (below_regrown w1 dq osq)
  have K2 := k1.trans (KB.of_below (below_regrown w1 dq osq))
  clear R1 c0 c1 HD
  generalize grow (redrawn w1 dq) osq = w2 at *
  have c1 := R2.at
  have f1 := R2.frozen
  have RR := hide R2
  clear R2
  have d32 : ¬ (r : Int) < 32 := by omega
  by_cases e : r = 65533
  · have t1 : ((r : Int) == 65533) = true := by rw [beq_iff_eq]; omega
    have t2 : ¬ (n : Int) ≤ 1 := by have := hn2 e; omega
    clear e hn2
    go_wp2
    go_ret
    exact ⟨rfl, (unhide RR).set _ _ (by omega), K2.set 1 _⟩
  · have t1 : ((r : Int) == 65533) = false := by rw [beq_eq_false_iff_ne]; omega
    clear e hn2
    go_wp2
    go_ret
    exact ⟨rfl, (unhide RR).set _ _ (by omega), K2.set 1 _⟩
set_option maxHeartbeats 1600000 in
theorem raw_bad (rb : Nat) (s : ByteArray) (i : Nat) (tb kt : Bool) (w : World) (h : Rdr rb s i tb kt w) (hi : i ≤ s.size) (hn : bt s i ≠ 92 ∨ i = s.size) (B : Nat) (hT : TabsB B w) (hB : B ≤ rb)
    (r n : Nat) (hd : Lib.decodeGo (s.extract i s.size) = (r, n)) (hbad : (r = 65533 ∧ n ≤ 1) ∨ r < 32) :
    Calls Tryd.prog 55 #[.pointer (some ⟨rb, 0, none⟩)] w fun e w' => e = mis ∧ KB rb w w' := by
  have HS := hide (skip_no rb s i tb kt w h hi 92 hn)
  have HT := hide hT
  have hlt := h.lt
  clear h hn hT
  go_enter Tryd.func55, Tryd.ntmps55
  go_wp2_with fail
  refine (unhide HS).mono ?_
  rintro e w1 ⟨rfl, r1, k1⟩
  have T1 := (unhide HT).next (k1.below hB (by omega)) (Nat.le_refl _)
  have HD : Hid (∀ d os, Calls Tryd.prog 66 #[.string (s.extract i s.size)] (grow (redrawn w1 d) os) fun e w'' => e = .returned (.tuple #[.int .i32 r, .int .i64 n]) ∧ ∃ p : Regrown, w'' = grow (redrawn w1 p.d) p.os) := fun d os => by
    have c := Any.utf8_DecodeRuneInString Tryd.laysDecode (s.extract i s.size) (grow (redrawn w1 d) os) ((T1.tabs).below (below_regrown w1 d os))
    rw [hd] at c
    exact Calls.regrown_of c
  have c0 : ∀ d os, (grow (redrawn w1 d) os).cell? ⟨rb, 0, none⟩ = some (.string s) := fun d os => cell_regrown r1.text d os
  have c1 : ∀ d os, (grow (redrawn w1 d) os).cell? ⟨rb, 1, none⟩ = some (.int .i64 (i : Int)) := fun d os => cell_regrown r1.at d os
  have R1 := hide r1
  clear r1 HS HT T1 hd
  go_wp2_with fail
  refine wp_region_quiet_below (by kernel_rfl) (by kernel_rfl) ?_
  repeat (first | go_big_quiet_step ((go_at_call 66; exact unhide HD _ _)) | quiet_step ((go_at_call 66; exact unhide HD _ _)))
  refine wpQuiet_nil ?_
  intro _ hw'
  obtain ⟨⟨dq, osq⟩, hw''⟩ := hw'
  subst hw''
  have R2 := (unhide R1).below (below_regrown w1 dq osq)
  have K2 := k1.trans (KB.of_below (below_regrown w1 dq osq))
  clear R1 c0 c1 HD
  generalize grow (redrawn w1 dq) osq = w2 at *
  clear R2
  rcases hbad with ⟨e, e'⟩ | e
  · have t1 : ((r : Int) == 65533) = true := by rw [beq_iff_eq]; omega
    have t2 : (n : Int) ≤ 1 := by omega
    clear e e'
    go_wp2
    exact ⟨rfl, rfl, K2⟩
  · have t1 : ((r : Int) == 65533) = false := by rw [beq_eq_false_iff_ne]; omega
    have t2 : (r : Int) < 32 := by omega
    clear e
    go_wp2
    exact ⟨rfl, rfl, K2⟩

set_option maxHeartbeats 800000 in
theorem escd (rb : Nat) (s : ByteArray) (i : Nat) (tb kt : Bool) (w : World) (h : Rdr rb s i tb kt w) (hs : s.size ≤ 1048576) (h0 : bt s i = 92) :
    Calls Tryd.prog 55 #[.pointer (some ⟨rb, 0, none⟩)] w (Post rb s tb kt w ((escP s i).map fun p => (.int .i32 (p.1 : Int), i + p.2))) := by
  have hi : i < s.size := bt_in (by rw [h0]; decide)
  have HS := hide (skip_yes rb s i tb kt w h hs 92 h0 hi)
  have HE : Hid (∀ w, Rdr rb s (i + 1) tb kt w → Calls Tryd.prog 65 #[.pointer (some ⟨rb, 0, none⟩)] w (Post rb s tb kt w ((escP s i).map fun p => (.int .i32 (p.1 : Int), i + p.2)))) := fun w h => escape_walk rb s i tb kt w h hs (by omega) h0
  clear h h0
  generalize escP s i = o at *
  cases o with
  | none =>
    go_enter Tryd.func55, Tryd.ntmps55
    go_wp2_with fail
    refine (unhide HS).mono ?_
    rintro e w1 ⟨rfl, r1, k1⟩
    have R1 := hide r1
    clear HS r1
    go_wp2_with fail
    refine (unhide HE _ (unhide R1)).mono ?_
    rintro e w2 ⟨k2, rfl⟩
    clear HE
    exact ⟨rfl, k1.trans k2, rfl⟩
  | some p =>
    go_enter Tryd.func55, Tryd.ntmps55
    go_wp2_with fail
    refine (unhide HS).mono ?_
    rintro e w1 ⟨rfl, r1, k1⟩
    have R1 := hide r1
    clear HS r1
    go_wp2_with fail
    refine (unhide HE _ (unhide R1)).mono ?_
    rintro e w2 ⟨k2, rfl, r2⟩
    have R2 := hide r2
    clear HE r2
    go_wp2
    go_ret
    exact ⟨k1.trans k2, rfl, unhide R2⟩

theorem decode_low (s : ByteArray) (i : Nat) (hb : bt s i < 128) : Utf8.decode s i = (bt s i, 1) := by
  rw [dec]; unfold Lib.decodeN; rw [if_pos hb]

/-- A piece of a string. -/
theorem piece_walk' (rb : Nat) (s : ByteArray) (i : Nat) (tb kt : Bool) (w : World) (h : Rdr rb s i tb kt w) (hs : s.size ≤ 1048576) (hi : i ≤ s.size) (B : Nat) (hT : TabsB B w) (hB : B ≤ rb) :
    Calls Tryd.prog 55 #[.pointer (some ⟨rb, 0, none⟩)] w (Post rb s tb kt w ((piece s i).map fun p => (.int .i32 (p.1 : Int), i + p.2))) := by
  by_cases h0 : bt s i = 92
  · have e : piece s i = escP s i := by unfold piece; rw [if_pos h0]
    rw [e]; exact escd rb s i tb kt w h hs h0
  by_cases hend : i = s.size
  · exact (raw_bad rb s i tb kt w h hi (.inr hend) B hT hB 65533 0 (decodeGo_end s i hend) (.inl ⟨rfl, by omega⟩)).mono fun e w' hh => post_none (by rw [piece_out (by omega)]; rfl) hh
  have hlt : i < s.size := by omega
  by_cases h32 : bt s i < 32
  · have e : piece s i = none := by unfold piece; rw [if_neg h0, if_pos h32]
    exact (raw_bad rb s i tb kt w h hi (.inl h0) B hT hB (bt s i) 1 (by rw [decodeGo_at s i hlt, decode_low s i (by omega)]) (.inr h32)).mono fun _ w' hh => post_none (by rw [e]; rfl) hh
  by_cases h128 : bt s i < 128
  · have e : piece s i = some (bt s i, 1) := by unfold piece; rw [if_neg h0, if_neg h32, if_pos h128]
    exact (raw_ok rb s i tb kt w h hs hi (.inl h0) B hT hB (bt s i) 1 (by rw [decodeGo_at s i hlt, decode_low s i h128]) (by omega) (by omega) (by omega) (by omega)).mono fun _ w' hh => post_some (by rw [e]; rfl) hh
  by_cases hr : rl s i = 0
  · have e : piece s i = none := by unfold piece; rw [if_neg h0, if_neg h32, if_neg h128, if_pos hr]
    exact (raw_bad rb s i tb kt w h hi (.inl h0) B hT hB 65533 1 (by rw [decodeGo_at s i hlt, dec]; exact rlN_bad hr) (.inl ⟨rfl, by omega⟩)).mono fun _ w' hh => post_none (by rw [e]; rfl) hh
  · have e : piece s i = some ((Utf8.decode s i).1, rl s i) := by unfold piece; rw [if_neg h0, if_neg h32, if_neg h128, if_neg hr]
    have hm := enc_multi s i hlt hr (by rw [← bt_at s i hlt]; exact h128)
    have hg := rlN_good hr
    have hp : Utf8.decode s i = ((Utf8.decode s i).1, rl s i) := by rw [← hm.2.2.2]
    have hle := rl_le s i hlt
    exact (raw_ok rb s i tb kt w h hs hi (.inl h0) B hT hB (Utf8.decode s i).1 (rl s i) (by rw [decodeGo_at s i hlt]; exact hp) (by have := hm.2.2.1; omega) (decode_le s i) (fun e1 => by
      rcases Nat.lt_or_ge (rl s i) 2 with g | g
      · exfalso
        have g1 : rl s i = 1 := by omega
        refine hg.2 ⟨?_, ?_⟩
        · rw [dec] at e1; exact e1
        · exact hg.1.trans g1
      · exact g) hle).mono fun _ w' hh => post_some (by rw [e]; rfl) hh
end Go.Proofs.YtadefcohbkgbfaaDoor
