import Derived.Test.YtadefcohbkgbfaaDoorRdrPiece
import Derived.Test.YtadefcohbkgbfaaDoorBldK
import Derived.Test.YtadefcohbkgbfaaDoorBldB
import Derived.Deep.LoopGhost
namespace Go.Proofs.YtadefcohbkgbfaaDoor
open Go.RowKit

theorem IsB.kb {B b rb : Nat} {l : List UInt8} {w w' : World} (h : IsB B b l w) (hr : rb < B) (k : KB rb w w') : IsB B b l w' := by
  have g : ∀ p, Lib.BuilderAt 46 5 B b p (Lib.byteCells l) w → Lib.BuilderAt 46 5 B b p (Lib.byteCells l) w' := by
    rintro p ⟨hB, v, hb, hown, hne⟩
    have hlt := (Array.getElem?_eq_some_iff.1 hb).1
    refine ⟨hB, v, (k.block b hlt (by omega)).trans hb, ⟨hown.1, ?_⟩, hne⟩
    rcases hown.2 with hn | ⟨g, cap, cur, hv, hbg, hg, rest⟩
    · exact .inl hn
    · have hgl := (Array.getElem?_eq_some_iff.1 hg).1
      exact .inr ⟨g, cap, cur, hv, hbg, (k.block g hgl (by omega)).trans hg, rest⟩
  exact h.elim (fun x => .inl (g _ x)) (fun x => .inr (g _ x))
theorem KB.then_below {rb : Nat} {w w1 w2 : World} (h : KB rb w w1) (b : Below w.heap.size w1 w2) : KB rb w w2 :=
  ⟨b.os.trans h.os, b.tape.trans h.tape, b.output.trans h.output, Nat.le_trans h.size b.size, fun k hk hn => (b.block k hk).trans (h.block k hk hn)⟩
theorem Rdr.below' {rb : Nat} {s : ByteArray} {i : Nat} {tb kt : Bool} {B : Nat} {w w' : World} (h : Rdr rb s i tb kt w) (hb : Below B w w') (hB : rb < B) : Rdr rb s i tb kt w' := (hb.block rb hB).trans h

set_option maxHeartbeats 2000000 in
set_option maxRecDepth 100000 in
theorem readString_walk (rb : Nat) (s : ByteArray) (i : Nat) (tb kt : Bool) (w : World) (h : Rdr rb s i tb kt w) (hs : s.size ≤ 1048576) (hi : i ≤ s.size) (B : Nat) (hT : TabsB B w) (hB : B ≤ rb) :
    Calls Tryd.prog 40 #[.pointer (some ⟨rb, 0, none⟩)] w (Post rb s tb kt w ((strQ s i).map fun q => (.string (strOf q.1), q.2))) := by
  have hlt := h.lt
  have hal : Rdr rb s i tb kt (w.alloc (.cells #[.pointer none, .slice none 0 0] 46)) := h.below ((Below.refl _ _).alloc (Nat.le_refl _) _)
  by_cases h34 : bt s i = 34
  · have hlt' : i < s.size := bt_in (by rw [h34]; decide)
    have HE := hide (expect_yes rb s i tb kt _ hal hs 34 h34 hlt')
    have HQ : Hid (strQ s i = strR s (i + 1)) := by show _ = _; unfold strQ; rw [if_pos h34]
    clear hal h h34
    go_enter Tryd.func40, Tryd.ntmps40
    go_wp2_with fail
    refine (unhide HE).mono ?_
    rintro e w1 ⟨rfl, r1, k1⟩
    have R1 := hide r1
    clear HE r1
    go_wp2_with fail
    go_loopg [] (s.size + 1 - (i + 1)) (fun g wr => ∃ (j : Nat) (l : List UInt8), g = s.size + 1 - j ∧ j ≤ s.size ∧ l.length ≤ 4 * j ∧ IsB w.heap.size w.heap.size l wr ∧ Rdr rb s j tb kt wr ∧ KB rb w wr ∧ strR s (i + 1) = (strR s j).map fun q => (l ++ q.1, q.2))
    case atStart =>
      exact ⟨i + 1, [], rfl, by omega, by simp, IsB.kb (l := []) (Lib.fresh_isBuilder _ _ w) hlt k1, unhide R1, (KB.of_below ((Below.refl _ _).alloc (Nat.le_refl _) _)).trans k1, by simp⟩
    case round =>
      obtain ⟨j, l, hg, hj, hl, hI, hr, hk, hst⟩ := hrel
      have hgs := hk.size
      have hrlt := hr.lt
      have HI := hide hI
      have HR := hide hr
      have HST := hide hst
      clear R1 hI hr hst k1
      by_cases h34 : bt s j = 34
      · have hjl : j < s.size := bt_in (by rw [h34]; decide)
        have HS := hide (skip_yes rb s j tb kt wr (unhide HR) hs 34 h34 hjl)
        have HF : Hid (strQ s i = some (l, j + 1)) := by
          show _ = _
          rw [unhide HQ, unhide HST, strR_end h34]; simp
        clear h34
        go_wp2_with fail
        refine (unhide HS).mono ?_
        rintro e w2 ⟨rfl, r2, k2⟩
        have R2 := hide r2
        have HB := hide (bldString w.heap.size w.heap.size l w2 ((unhide HI).kb hlt k2) (by have := k2.size; omega))
        clear HS r2
        go_wp2_with fail
        refine (unhide HB).mono ?_
        rintro e w3 ⟨rfl, b3⟩
        have R3 := hide ((unhide R2).below' b3 hlt)
        have K3 := (hk.trans k2).then_below b3
        clear HB b3
        go_wp2
        go_ret
        exact ⟨K3, by rw [unhide HF]; exact ⟨rfl, unhide R3⟩⟩
      · have HS := hide (skip_no rb s j tb kt wr (unhide HR) hj 34 (.inl h34))
        have HP : Hid (∀ w1, Rdr rb s j tb kt w1 → KB rb wr w1 → Calls Tryd.prog 55 #[.pointer (some ⟨rb, 0, none⟩)] w1 (Post rb s tb kt w1 ((piece s j).map fun p => (.int .i32 (p.1 : Int), j + p.2)))) := fun w1 h1 k1 =>
          piece_walk' rb s j tb kt w1 h1 hs hj B (hT.next ((hk.trans k1).below hB (by omega)) (Nat.le_refl _)) hB
        cases hp : piece s j with
        | none =>
          have HF : Hid (strQ s i = none) := by
            show _ = _
            rw [unhide HQ, unhide HST, strR_bad h34 hp]; rfl
          rw [hp] at HP
          clear h34 hp
          go_wp2_with fail
          refine (unhide HS).mono ?_
          rintro e w2 ⟨rfl, r2, k2⟩
          have R2 := hide r2
          clear HS r2
          go_wp2_with fail
          refine (unhide HP _ (unhide R2) k2).mono ?_
          rintro e w3 ⟨k3, rfl⟩
          clear HP
          exact ⟨rfl, (hk.trans k2).trans k3, by rw [unhide HF]; rfl⟩
        | some p =>
          obtain ⟨r, n⟩ := p
          obtain ⟨p1, p2, p3⟩ := piece_ok hp
          have hel := enc_le r
          have HST2 : Hid (strR s (i + 1) = (strR s (j + n)).map fun q => (l ++ enc r ++ q.1, q.2)) := by
            show _ = _
            rw [unhide HST, strR_go h34 hp, Option.map_map]
            congr 1
            funext q
            simp
          rw [hp] at HP
          clear h34 hp
          go_wp2_with fail
          refine (unhide HS).mono ?_
          rintro e w2 ⟨rfl, r2, k2⟩
          have R2 := hide r2
          clear HS r2
          go_wp2_with fail
          refine (unhide HP _ (unhide R2) k2).mono ?_
          rintro e w3 ⟨k3, rfl, r3⟩
          have R3 := hide r3
          have I3 := ((unhide HI).kb hlt k2).kb hlt k3
          have HW := hide (writeRune_k w.heap.size w.heap.size (Lib.byteCells l) (r : Int) (by omega) (by omega) w3 I3 (by rw [Lib.byteCells_length]; omega) (by have := k2.size; have := k3.size; omega))
          clear HP r3 I3 R2
          go_wp2_with fail
          refine (unhide HW).mono ?_
          rintro e w4 ⟨⟨nn, rfl⟩, h4, b4, _⟩
          have I4 := hide (IsB.cells (m := enc r) (Lib.byteCells_encodeRune (r : Int)).symm h4)
          have R4 := hide ((unhide R3).below' b4 hlt)
          have K4 := ((hk.trans k2).trans k3).then_below b4
          clear HW h4 b4 R3
          go_wp2
          go_roundg (s.size + 1 - (j + n))
          case rel => exact ⟨j + n, l ++ enc r, rfl, by omega, by rw [List.length_append]; omega, unhide I4, unhide R4, K4, unhide HST2⟩
          case measure => omega
  · have HE := hide (expect_no rb s i tb kt _ hal hs hi 34 (.inl h34))
    have HQ : Hid (strQ s i = none) := by show _ = _; unfold strQ; rw [if_neg h34]
    clear hal h h34
    go_enter Tryd.func40, Tryd.ntmps40
    go_wp2_with fail
    refine (unhide HE).mono ?_
    rintro e w1 ⟨rfl, k1⟩
    clear HE
    refine ⟨rfl, (KB.of_below ((Below.refl _ _).alloc (Nat.le_refl _) _)).trans k1, by rw [unhide HQ]; rfl⟩
end Go.Proofs.YtadefcohbkgbfaaDoor
