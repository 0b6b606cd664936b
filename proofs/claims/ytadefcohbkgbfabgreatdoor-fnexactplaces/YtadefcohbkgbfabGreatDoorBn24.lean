import Derived.Shelf.Unicode.DecodeAny
import Derived.Lib.QuietBelow
import Derived.Test.YtadefcohbkgbfabGreatDoorBn11
import Derived.Test.YtadefcohbkgbfabGreatDoorBn1
import Derived.Test.YtadefcohbkgbfabGreatDoorBn19
import Derived.Deep.LoopGhost
import Derived.Test.YtadefcohbkgbfabGreatDoorBn20
namespace Go.Proofs.YtadefcohbkgbfabGreatDoor
open Go.RowKit Go.Sort

theorem decodeGo_at (s : ByteArray) (i : Nat) (h : i < s.size) : Lib.decodeGo (s.extract i s.size) = Utf8.decode s i := by
  have hsz : (s.extract i s.size).size = s.size - i := by simp
  unfold Lib.decodeGo
  rw [if_neg (by omega), dec, dec, hsz]
  have hb : ∀ k, bt (s.extract i s.size) k = bt s (i + k) := by
    intro k
    unfold bt
    rw [Lib.extract_data, List.getD_eq_getElem?_getD, List.getD_eq_getElem?_getD, List.getElem?_take, List.getElem?_drop]
    split
    · rfl
    · rw [List.getElem?_eq_none (by rw [data_len]; omega)]
  rw [hb, hb, hb, hb]; rfl
theorem decodeGo_end (s : ByteArray) (i : Nat) (h : i = s.size) : Lib.decodeGo (s.extract i s.size) = (65533, 0) := by
  have hsz : (s.extract i s.size).size = 0 := by simp; omega
  unfold Lib.decodeGo
  rw [if_pos hsz]

set_option maxHeartbeats 1600000 in
theorem raw_ok (rb : Nat) (s : ByteArray) (i : Nat) (tb kt : Bool) (w : World) (h : Rdr rb s i tb kt w) (hs : s.size ≤ 1048576) (hi : i ≤ s.size) (hn : bt s i ≠ 92 ∨ i = s.size) (B : Nat) (hT : TabsB B w) (hB : B ≤ rb)
    (r n : Nat) (hd : Lib.decodeGo (s.extract i s.size) = (r, n)) (h32 : 32 ≤ r) (hr : r ≤ 1114111) (hn2 : r = 65533 → 2 ≤ n) (hin : i + n ≤ s.size) :
    Calls Tryz.prog 52 #[.pointer (some ⟨rb, 0, none⟩)] w fun e w' => e = .returned (.int .i32 r) ∧ Rdr rb s (i + n) tb kt w' ∧ KB rb w w' := by
  have HS := hide (skip_no rb s i tb kt w h hi 92 hn)
  have HT := hide hT
  have hlt := h.lt
  clear h hn hT
  go_enter Tryz.func52, Tryz.ntmps52
  go_wp2_with fail
  refine (unhide HS).mono ?_
  rintro e w1 ⟨rfl, r1, k1⟩
  have T1 := (unhide HT).next (k1.below hB (by omega)) (Nat.le_refl _)
  have HD : Hid (∀ d os, Calls Tryz.prog 72 #[.string (s.extract i s.size)] (grow (redrawn w1 d) os) fun e w'' => e = .returned (.tuple #[.int .i32 r, .int .i64 n]) ∧ ∃ p : Regrown, w'' = grow (redrawn w1 p.d) p.os) := fun d os => by
    have c := Any.utf8_DecodeRuneInString Tryz.laysDecode (s.extract i s.size) (grow (redrawn w1 d) os) ((T1.tabs).below (below_regrown w1 d os))
    rw [hd] at c
    exact Calls.regrown_of c
  have c0 : ∀ d os, (grow (redrawn w1 d) os).cell? ⟨rb, 0, none⟩ = some (.string s) := fun d os => cell_regrown r1.text d os
  have c1 : ∀ d os, (grow (redrawn w1 d) os).cell? ⟨rb, 1, none⟩ = some (.int .i64 (i : Int)) := fun d os => cell_regrown r1.at d os
  have R1 := hide r1
  clear r1 HS HT T1 hd
  go_wp2_with fail
  refine wp_region_quiet_below (by kernel_rfl) (by kernel_rfl) ?_
  repeat (first | go_big_quiet_step ((go_at_call 72; exact unhide HD _ _)) | quiet_step ((go_at_call 72; exact unhide HD _ _)))
  refine wpQuiet_nil ?_
  intro _ hw'
  obtain ⟨⟨dq, osq⟩, hw''⟩ := hw'
  subst hw''
  have R2 := (unhide R1).below (below_regrown w1 dq osq)
  have K2 := k1.trans (KB.of_below (below_regrown w1 dq osq))
  clear R1 c0 c1 HD
  generalize grow (redrawn w1 dq) osq = w2 at *
  have c1 := R2.at
  have f1 := R2.frozen
  have RR := hide R2
  clear R2
  have d32 : ¬ (r : Int) < 32 := by omega
  by_cases e : r = 65533
  · have t1 : ((r : Int) == 65533) = true := by rw [beq_iff_eq]; omega
    have t2 : ¬ (n : Int) ≤ 1 := by have := hn2 e; omega
    clear e hn2
    go_wp2
    go_ret
    exact ⟨rfl, (unhide RR).set _ _ (by omega), K2.set 1 _⟩
  · have t1 : ((r : Int) == 65533) = false := by rw [beq_eq_false_iff_ne]; omega
    clear e hn2
    go_wp2
    go_ret
    exact ⟨rfl, (unhide RR).set _ _ (by omega), K2.set 1 _⟩
set_option maxHeartbeats 1600000 in
theorem raw_bad (rb : Nat) (s : ByteArray) (i : Nat) (tb kt : Bool) (w : World) (h : Rdr rb s i tb kt w) (hi : i ≤ s.size) (hn : bt s i ≠ 92 ∨ i = s.size) (B : Nat) (hT : TabsB B w) (hB : B ≤ rb)
    (r n : Nat) (hd : Lib.decodeGo (s.extract i s.size) = (r, n)) (hbad : (r = 65533 ∧ n ≤ 1) ∨ r < 32) :
    Calls Tryz.prog 52 #[.pointer (some ⟨rb, 0, none⟩)] w fun e w' => e = mis ∧ KB rb w w' := by
  have HS := hide (skip_no rb s i tb kt w h hi 92 hn)
  have HT := hide hT
  have hlt := h.lt
  clear h hn hT
  go_enter Tryz.func52, Tryz.ntmps52
  go_wp2_with fail
  refine (unhide HS).mono ?_
  rintro e w1 ⟨rfl, r1, k1⟩
  have T1 := (unhide HT).next (k1.below hB (by omega)) (Nat.le_refl _)
  have HD : Hid (∀ d os, Calls Tryz.prog 72 #[.string (s.extract i s.size)] (grow (redrawn w1 d) os) fun e w'' => e = .returned (.tuple #[.int .i32 r, .int .i64 n]) ∧ ∃ p : Regrown, w'' = grow (redrawn w1 p.d) p.os) := fun d os => by
    have c := Any.utf8_DecodeRuneInString Tryz.laysDecode (s.extract i s.size) (grow (redrawn w1 d) os) ((T1.tabs).below (below_regrown w1 d os))
    rw [hd] at c
    exact Calls.regrown_of c
  have c0 : ∀ d os, (grow (redrawn w1 d) os).cell? ⟨rb, 0, none⟩ = some (.string s) := fun d os => cell_regrown r1.text d os
  have c1 : ∀ d os, (grow (redrawn w1 d) os).cell? ⟨rb, 1, none⟩ = some (.int .i64 (i : Int)) := fun d os => cell_regrown r1.at d os
  have R1 := hide r1
  clear r1 HS HT T1 hd
  go_wp2_with fail
  refine wp_region_quiet_below (by kernel_rfl) (by kernel_rfl) ?_
  repeat (first | go_big_quiet_step ((go_at_call 72; exact unhide HD _ _)) | quiet_step ((go_at_call 72; exact unhide HD _ _)))
  refine wpQuiet_nil ?_
  intro _ hw'
  obtain ⟨⟨dq, osq⟩, hw''⟩ := hw'
  subst hw''
  have R2 := (unhide R1).below (below_regrown w1 dq osq)
  have K2 := k1.trans (KB.of_below (below_regrown w1 dq osq))
  clear R1 c0 c1 HD
  generalize grow (redrawn w1 dq) osq = w2 at *
  clear R2
  rcases hbad with ⟨e, e'⟩ | e
  · have t1 : ((r : Int) == 65533) = true := by rw [beq_iff_eq]; omega
    have t2 : (n : Int) ≤ 1 := by omega
    clear e e'
    go_wp2
    exact ⟨rfl, rfl, K2⟩
  · have t1 : ((r : Int) == 65533) = false := by rw [beq_eq_false_iff_ne]; omega
    have t2 : (r : Int) < 32 := by omega
    clear e
    go_wp2
    exact ⟨rfl, rfl, K2⟩

set_option maxHeartbeats 800000 in
theorem escd (rb : Nat) (s : ByteArray) (i : Nat) (tb kt : Bool) (w : World) (h : Rdr rb s i tb kt w) (hs : s.size ≤ 1048576) (h0 : bt s i = 92) :
    Calls Tryz.prog 52 #[.pointer (some ⟨rb, 0, none⟩)] w (Post rb s tb kt w ((escP s i).map fun p => (.int .i32 (p.1 : Int), i + p.2))) := by
  have hi : i < s.size := bt_in (by rw [h0]; decide)
  have HS := hide (skip_yes rb s i tb kt w h hs 92 h0 hi)
  have HE : Hid (∀ w, Rdr rb s (i + 1) tb kt w → Calls Tryz.prog 71 #[.pointer (some ⟨rb, 0, none⟩)] w (Post rb s tb kt w ((escP s i).map fun p => (.int .i32 (p.1 : Int), i + p.2)))) := fun w h => escape_walk rb s i tb kt w h hs (by omega) h0
  clear h h0
  generalize escP s i = o at *
  cases o with
  | none =>
    go_enter Tryz.func52, Tryz.ntmps52
    go_wp2_with fail
    refine (unhide HS).mono ?_
    rintro e w1 ⟨rfl, r1, k1⟩
    have R1 := hide r1
    clear HS r1
    go_wp2_with fail
    refine (unhide HE _ (unhide R1)).mono ?_
    rintro e w2 ⟨k2, rfl⟩
    clear HE
    exact ⟨rfl, k1.trans k2, rfl⟩
  | some p =>
    go_enter Tryz.func52, Tryz.ntmps52
    go_wp2_with fail
    refine (unhide HS).mono ?_
    rintro e w1 ⟨rfl, r1, k1⟩
    have R1 := hide r1
    clear HS r1
    go_wp2_with fail
    refine (unhide HE _ (unhide R1)).mono ?_
    rintro e w2 ⟨k2, rfl, r2⟩
    have R2 := hide r2
    clear HE r2
    go_wp2
    go_ret
    exact ⟨k1.trans k2, rfl, unhide R2⟩

theorem decode_low (s : ByteArray) (i : Nat) (hb : bt s i < 128) : Utf8.decode s i = (bt s i, 1) := by
  rw [dec]; unfold Lib.decodeN; rw [if_pos hb]

/-- A piece of a string. -/
theorem piece_walk' (rb : Nat) (s : ByteArray) (i : Nat) (tb kt : Bool) (w : World) (h : Rdr rb s i tb kt w) (hs : s.size ≤ 1048576) (hi : i ≤ s.size) (B : Nat) (hT : TabsB B w) (hB : B ≤ rb) :
    Calls Tryz.prog 52 #[.pointer (some ⟨rb, 0, none⟩)] w (Post rb s tb kt w ((piece s i).map fun p => (.int .i32 (p.1 : Int), i + p.2))) := by
  by_cases h0 : bt s i = 92
  · have e : piece s i = escP s i := by unfold piece; rw [if_pos h0]
    rw [e]; exact escd rb s i tb kt w h hs h0
  by_cases hend : i = s.size
  · exact (raw_bad rb s i tb kt w h hi (.inr hend) B hT hB 65533 0 (decodeGo_end s i hend) (.inl ⟨rfl, by omega⟩)).mono fun e w' hh => post_none (by rw [piece_out (by omega)]; rfl) hh
  have hlt : i < s.size := by omega
  by_cases h32 : bt s i < 32
  · have e : piece s i = none := by unfold piece; rw [if_neg h0, if_pos h32]
    exact (raw_bad rb s i tb kt w h hi (.inl h0) B hT hB (bt s i) 1 (by rw [decodeGo_at s i hlt, decode_low s i (by omega)]) (.inr h32)).mono fun _ w' hh => post_none (by rw [e]; rfl) hh
  by_cases h128 : bt s i < 128
  · have e : piece s i = some (bt s i, 1) := by unfold piece; rw [if_neg h0, if_neg h32, if_pos h128]
    exact (raw_ok rb s i tb kt w h hs hi (.inl h0) B hT hB (bt s i) 1 (by rw [decodeGo_at s i hlt, decode_low s i h128]) (by omega) (by omega) (by omega) (by omega)).mono fun _ w' hh => post_some (by rw [e]; rfl) hh
  by_cases hr : rl s i = 0
  · have e : piece s i = none := by unfold piece; rw [if_neg h0, if_neg h32, if_neg h128, if_pos hr]
    exact (raw_bad rb s i tb kt w h hi (.inl h0) B hT hB 65533 1 (by rw [decodeGo_at s i hlt, dec]; exact rlN_bad hr) (.inl ⟨rfl, by omega⟩)).mono fun _ w' hh => post_none (by rw [e]; rfl) hh
  · have e : piece s i = some ((Utf8.decode s i).1, rl s i) := by unfold piece; rw [if_neg h0, if_neg h32, if_neg h128, if_neg hr]
    have hm := enc_multi s i hlt hr (by rw [← bt_at s i hlt]; exact h128)
    have hg := rlN_good hr
    have hp : Utf8.decode s i = ((Utf8.decode s i).1, rl s i) := by rw [← hm.2.2.2]
    have hle := rl_le s i hlt
    exact (raw_ok rb s i tb kt w h hs hi (.inl h0) B hT hB (Utf8.decode s i).1 (rl s i) (by rw [decodeGo_at s i hlt]; exact hp) (by have := hm.2.2.1; omega) (decode_le s i) (fun e1 => by
      rcases Nat.lt_or_ge (rl s i) 2 with g | g
      · exfalso
        have g1 : rl s i = 1 := by omega
        refine hg.2 ⟨?_, ?_⟩
        · rw [dec] at e1; exact e1
        · exact hg.1.trans g1
      · exact g) hle).mono fun _ w' hh => post_some (by rw [e]; rfl) hh
end Go.Proofs.YtadefcohbkgbfabGreatDoor


namespace Go.Proofs.YtadefcohbkgbfabGreatDoor
open Go.RowKit

theorem IsB.kb {B b rb : Nat} {l : List UInt8} {w w' : World} (h : IsB B b l w) (hr : rb < B) (k : KB rb w w') : IsB B b l w' := by
  have g : ∀ p, Lib.BuilderAt 81 5 B b p (Lib.byteCells l) w → Lib.BuilderAt 81 5 B b p (Lib.byteCells l) w' := by
    rintro p ⟨hB, v, hb, hown, hne⟩
    have hlt := (Array.getElem?_eq_some_iff.1 hb).1
    refine ⟨hB, v, (k.block b hlt (by omega)).trans hb, ⟨hown.1, ?_⟩, hne⟩
    rcases hown.2 with hn | ⟨g, cap, cur, hv, hbg, hg, rest⟩
    · exact .inl hn
    · have hgl := (Array.getElem?_eq_some_iff.1 hg).1
      exact .inr ⟨g, cap, cur, hv, hbg, (k.block g hgl (by omega)).trans hg, rest⟩
  exact h.elim (fun x => .inl (g _ x)) (fun x => .inr (g _ x))
theorem KB.then_below {rb : Nat} {w w1 w2 : World} (h : KB rb w w1) (b : Below w.heap.size w1 w2) : KB rb w w2 :=
  ⟨b.os.trans h.os, b.tape.trans h.tape, b.output.trans h.output, Nat.le_trans h.size b.size, fun k hk hn => (b.block k hk).trans (h.block k hk hn)⟩
theorem Rdr.below' {rb : Nat} {s : ByteArray} {i : Nat} {tb kt : Bool} {B : Nat} {w w' : World} (h : Rdr rb s i tb kt w) (hb : Below B w w') (hB : rb < B) : Rdr rb s i tb kt w' := (hb.block rb hB).trans h

set_option maxHeartbeats 2000000 in
set_option maxRecDepth 100000 in
theorem readString_walk (rb : Nat) (s : ByteArray) (i : Nat) (tb kt : Bool) (w : World) (h : Rdr rb s i tb kt w) (hs : s.size ≤ 1048576) (hi : i ≤ s.size) (B : Nat) (hT : TabsB B w) (hB : B ≤ rb) :
    Calls Tryz.prog 32 #[.pointer (some ⟨rb, 0, none⟩)] w (Post rb s tb kt w ((strQ s i).map fun q => (.string (strOf q.1), q.2))) := by
  have hlt := h.lt
  have hal : Rdr rb s i tb kt (w.alloc (.cells #[.pointer none, .slice none 0 0] 81)) := h.below ((Below.refl _ _).alloc (Nat.le_refl _) _)
  by_cases h34 : bt s i = 34
  · have hlt' : i < s.size := bt_in (by rw [h34]; decide)
    have HE := hide (expect_yes rb s i tb kt _ hal hs 34 h34 hlt')
    have HQ : Hid (strQ s i = strR s (i + 1)) := by show _ = _; unfold strQ; rw [if_pos h34]
    clear hal h h34
    go_enter Tryz.func32, Tryz.ntmps32
    go_wp2_with fail
    refine (unhide HE).mono ?_
    rintro e w1 ⟨rfl, r1, k1⟩
    have R1 := hide r1
    clear HE r1
    go_wp2_with fail
    go_loopg [] (s.size + 1 - (i + 1)) (fun g wr => ∃ (j : Nat) (l : List UInt8), g = s.size + 1 - j ∧ j ≤ s.size ∧ l.length ≤ 4 * j ∧ IsB w.heap.size w.heap.size l wr ∧ Rdr rb s j tb kt wr ∧ KB rb w wr ∧ strR s (i + 1) = (strR s j).map fun q => (l ++ q.1, q.2))
    case atStart =>
      exact ⟨i + 1, [], rfl, by omega, by simp, IsB.kb (l := []) (Lib.fresh_isBuilder _ _ w) hlt k1, unhide R1, (KB.of_below ((Below.refl _ _).alloc (Nat.le_refl _) _)).trans k1, by simp⟩
    case round =>
      obtain ⟨j, l, hg, hj, hl, hI, hr, hk, hst⟩ := hrel
      have hgs := hk.size
      have hrlt := hr.lt
      have HI := hide hI
      have HR := hide hr
      have HST := hide hst
      clear R1 hI hr hst k1
      by_cases h34 : bt s j = 34
      · have hjl : j < s.size := bt_in (by rw [h34]; decide)
        have HS := hide (skip_yes rb s j tb kt wr (unhide HR) hs 34 h34 hjl)
        have HF : Hid (strQ s i = some (l, j + 1)) := by
          show _ = _
          rw [unhide HQ, unhide HST, strR_end h34]; simp
        clear h34
        go_wp2_with fail
        refine (unhide HS).mono ?_
        rintro e w2 ⟨rfl, r2, k2⟩
        have R2 := hide r2
        have HB := hide (bldString w.heap.size w.heap.size l w2 ((unhide HI).kb hlt k2) (by have := k2.size; omega))
        clear HS r2
        go_wp2_with fail
        refine (unhide HB).mono ?_
        rintro e w3 ⟨rfl, b3⟩
        have R3 := hide ((unhide R2).below' b3 hlt)
        have K3 := (hk.trans k2).then_below b3
        clear HB b3
        go_wp2
        go_ret
        exact ⟨K3, by rw [unhide HF]; exact ⟨rfl, unhide R3⟩⟩
      · have HS := hide (skip_no rb s j tb kt wr (unhide HR) hj 34 (.inl h34))
        have HP : Hid (∀ w1, Rdr rb s j tb kt w1 → KB rb wr w1 → Calls Tryz.prog 52 #[.pointer (some ⟨rb, 0, none⟩)] w1 (Post rb s tb kt w1 ((piece s j).map fun p => (.int .i32 (p.1 : Int), j + p.2)))) := fun w1 h1 k1 =>
          piece_walk' rb s j tb kt w1 h1 hs hj B (hT.next ((hk.trans k1).below hB (by omega)) (Nat.le_refl _)) hB
        cases hp : piece s j with
        | none =>
          have HF : Hid (strQ s i = none) := by
            show _ = _
            rw [unhide HQ, unhide HST, strR_bad h34 hp]; rfl
          rw [hp] at HP
          clear h34 hp
          go_wp2_with fail
          refine (unhide HS).mono ?_
          rintro e w2 ⟨rfl, r2, k2⟩
          have R2 := hide r2
          clear HS r2
          go_wp2_with fail
          refine (unhide HP _ (unhide R2) k2).mono ?_
          rintro e w3 ⟨k3, rfl⟩
          clear HP
          exact ⟨rfl, (hk.trans k2).trans k3, by rw [unhide HF]; rfl⟩
        | some p =>
          obtain ⟨r, n⟩ := p
          obtain ⟨p1, p2, p3⟩ := piece_ok hp
          have hel := enc_le r
          have HST2 : Hid (strR s (i + 1) = (strR s (j + n)).map fun q => (l ++ enc r ++ q.1, q.2)) := by
            show _ = _
            rw [unhide HST, strR_go h34 hp, Option.map_map]
            congr 1
            funext q
            simp
          rw [hp] at HP
          clear h34 hp
          go_wp2_with fail
          refine (unhide HS).mono ?_
          rintro e w2 ⟨rfl, r2, k2⟩
          have R2 := hide r2
          clear HS r2
          go_wp2_with fail
          refine (unhide HP _ (unhide R2) k2).mono ?_
          rintro e w3 ⟨k3, rfl, r3⟩
          have R3 := hide r3
          have I3 := ((unhide HI).kb hlt k2).kb hlt k3
          have HW := hide (writeRune_k w.heap.size w.heap.size (Lib.byteCells l) (r : Int) (by omega) (by omega) w3 I3 (by rw [Lib.byteCells_length]; omega) (by have := k2.size; have := k3.size; omega))
          clear HP r3 I3 R2
          go_wp2_with fail
          refine (unhide HW).mono ?_
          rintro e w4 ⟨⟨nn, rfl⟩, h4, b4, _⟩
          have I4 := hide (IsB.cells (m := enc r) (Lib.byteCells_encodeRune (r : Int)).symm h4)
          have R4 := hide ((unhide R3).below' b4 hlt)
          have K4 := ((hk.trans k2).trans k3).then_below b4
          clear HW h4 b4 R3
          go_wp2
          go_roundg (s.size + 1 - (j + n))
          case rel => exact ⟨j + n, l ++ enc r, rfl, by omega, by rw [List.length_append]; omega, unhide I4, unhide R4, K4, unhide HST2⟩
          case measure => omega
  · have HE := hide (expect_no rb s i tb kt _ hal hs hi 34 (.inl h34))
    have HQ : Hid (strQ s i = none) := by show _ = _; unfold strQ; rw [if_neg h34]
    clear hal h h34
    go_enter Tryz.func32, Tryz.ntmps32
    go_wp2_with fail
    refine (unhide HE).mono ?_
    rintro e w1 ⟨rfl, k1⟩
    clear HE
    refine ⟨rfl, (KB.of_below ((Below.refl _ _).alloc (Nat.le_refl _) _)).trans k1, by rw [unhide HQ]; rfl⟩
end Go.Proofs.YtadefcohbkgbfabGreatDoor

