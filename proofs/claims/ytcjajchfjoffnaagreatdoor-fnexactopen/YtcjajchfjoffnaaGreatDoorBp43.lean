import Derived.Deep.LoopGhost
import Derived.Test.YtcjajchfjoffnaaGreatDoorBp42
import Derived.Test.YtcjajchfjoffnaaGreatDoorBp11
namespace Go.Proofs.YtcjajchfjoffnaaGreatDoor
open Go.RowKit

set_option maxRecDepth 100000 in
set_option maxHeartbeats 4000000 in
theorem arr_walk (s : ByteArray) (i : Nat) (w : World) (hs : s.size ≤ 1048576) (hi : i < s.size) (h91 : bt s i = 91)
    (IH : ∀ (j : Nat) (w : World), i < j → j ≤ s.size → Calls Tryz.prog 73 #[.string s, .int .i64 j] w (GP w (val s j))) :
    Calls Tryz.prog 120 #[.string s, .int .i64 i] w (GP w (val s i)) := by
  have HSM := hide (small1 s hs)
  have g0 := sk_ge s (i + 1)
  have g1 := (sk_le (s := s) (i := i + 1) (by omega)).2
  have HV := hide (val_arr h91)
  have HIH := hide IH
  clear IH
  generalize hk0 : sk s (i + 1) = k0 at *
  go_enter Tryz.func120, Tryz.ntmps120
  go_wp2_with fail
  refine ((unhide HSM).1 _ (i + 1) _ (by omega)).mono ?_
  rintro e w1 ⟨rfl, rfl⟩
  rw [hk0]
  go_wp2_with fail
  refine ((unhide HSM).2 93 k0 _ (by decide)).mono ?_
  rintro e w1 ⟨rfl, rfl⟩
  clear hk0
  by_cases h93 : bt s k0 = 93
  · rw [decide_eq_true h93]
    have HR : Hid (val s i = some (.arr .nil, k0 + 1)) := by show _ = _; rw [unhide HV, if_pos h93]
    clear h93 HV
    go_wp2
    go_returns
    rw [unhide HR]
    exact ⟨(alloc_below w _).trans ((Below.refl _ _).alloc (by simp) _), rfl⟩
  · rw [decide_eq_false h93]
    have HR : Hid (val s i = (elems s k0).map fun q => (.arr q.1, q.2)) := by show _ = _; rw [unhide HV, if_neg h93]
    clear h93 HV h91
    go_wp2_with fail
    go_loopg [1] (s.size + 1 - k0) (fun g k wr => ∃ (j : Nat) (acc : JL), g = s.size + 1 - j ∧ k = .int .i64 (j : Int) ∧ k0 ≤ j ∧ j ≤ s.size ∧ Got w.heap.size ⟨#[]⟩ 0 false false false wr ∧ Got (w.heap.size + 1) (strOf (91 :: preA acc)) 0 true (bigL acc) (twL acc) wr ∧ Below w.heap.size w wr ∧ (preA acc).length ≤ 31 * j ∧ elems s k0 = (elems s j).map fun q => (acc.app q.1, q.2))
    case atStart =>
      refine ⟨k0, .nil, rfl, rfl, Nat.le_refl _, g1, ?_, ?_, (alloc_below w _).trans ((Below.refl _ _).alloc (by simp) _), by simp [preA], by simp [JL.app]⟩
      · show (World.alloc _ _).heap[_]? = _
        rw [Lib.alloc_old _ _ _ (by simp)]; exact heap_alloc_new w _
      · have := heap_alloc_new (w.alloc (gotB ⟨#[]⟩ 0 false false false)) (gotB (strOf [91]) 0 true false false)
        rw [show (w.alloc (gotB ⟨#[]⟩ 0 false false false)).heap.size = w.heap.size + 1 from by simp] at this
        exact this
    case round =>
      obtain ⟨j, acc, hg, rfl, hj1, hj2, hr, hgot, hb, hpl, hst⟩ := hrel
      have HST := hide hst
      have HG := hide hgot
      have HRR := hide hr
      have HB := hide hb
      have hwsz := hb.size
      have hgl := hgot.lt
      clear hst hgot hr hb
      have HC := hide (unhide HIH j wr (by omega) (by omega))
      cases hv : val s j with
      | none =>
        have HN : Hid (val s i = none) := by
          show _ = _
          rw [unhide HR, unhide HST, elems_eq, hv]; rfl
        rw [hv] at HC
        clear hv
        go_wp2_with fail
        refine (unhide HC).mono ?_
        rintro e w2 ⟨b2, t, n, bb, tw, rfl⟩
        have R2 := (unhide HRR).below b2
        have B2 := below_next (unhide HB) b2
        have R3 := R2.alloc (gotB t n false bb tw)
        have B3 : Below w.heap.size w (w2.alloc (gotB t n false bb tw)) := B2.alloc (by have := b2.size; omega) _
        have c0 := R3.c0
        have c1 := R3.c1
        have c2 := R3.c2
        have c3 := R3.c3
        have c4 := R3.c4
        have f0 := R3.fz 0
        have f1 := R3.fz 1
        have f2 := R3.fz 2
        have f3 := R3.fz 3
        have f4 := R3.fz 4
        have RX := hide (R3.put ⟨#[]⟩ 0 0 rfl false false false)
        have BX := hide (below_put B3 (Nat.le_refl _) (.string ⟨#[]⟩) (.int .i64 0) (.bool false) (.bool false) (.bool false))
        clear HC HRR R2 R3 B2 B3
        simp only [gotV]
        go_wp2
        try simp only [Exit.inBlock, Exit.then]
        refine bodyPost_ret (got_ret rfl rfl (unhide RX)) rfl ?_
        exact GP.bad (unhide HN) (unhide BX)
      | some q =>
        obtain ⟨v, n⟩ := q
        have hvo := val_ok hv
        have hvl := val_len hv
        have HPL : Hid ((preA (acc.app (.cons v .nil))).length ≤ 31 * n) := by
          show _ ≤ _
          rw [preA_snoc]; simp only [List.length_append, List.length_cons, List.length_nil]; omega
        have z1 : (strOf (91 :: preA acc)).size ≤ 40000000 := by rw [strOf_size]; simp only [List.length_cons]; omega
        have z2 : (strOf (ct v)).size ≤ 40000000 := by rw [strOf_size]; omega
        have z3 : (strOf (91 :: (preA acc ++ ct v))).size ≤ 80000000 := by rw [strOf_size]; simp only [List.length_cons, List.length_append]; omega
        have hn1 := sk_ge s n
        have hn2 := (sk_le hvo.2).2
        have HEQ : Hid (elems s k0 = (if bt s (sk s n) = 93 then some (JL.cons v .nil, sk s n + 1) else if bt s (sk s n) = 44 then (elems s (sk s (sk s n + 1))).map fun r => (JL.cons v r.1, r.2) else none).map fun q => (acc.app q.1, q.2)) := by
          show _ = _
          rw [unhide HST, elems_eq, hv]; rfl
        rw [hv] at HC
        clear hv HST
        have hcat1 : strOf (91 :: preA acc) ++ strOf (ct v) = strOf (91 :: (preA acc ++ ct v)) := strOf_app _ _
        have HFI : Hid (strOf (91 :: (preA acc ++ ct v)) ++ ⟨#[93]⟩ = strOf (ct (.arr (acc.app (.cons v .nil))))) := by
          show _ = _
          rw [show (⟨#[93]⟩ : ByteArray) = strOf [93] from rfl, strOf_app, ct, mkA, ← joinC_pre]; simp
        have HCO : Hid (strOf (91 :: (preA acc ++ ct v)) ++ ⟨#[44]⟩ = strOf (91 :: preA (acc.app (.cons v .nil)))) := by
          show _ = _
          rw [show (⟨#[44]⟩ : ByteArray) = strOf [44] from rfl, strOf_app, preA_snoc]; simp
        have HBB : Hid (bigL (acc.app (.cons v .nil)) = (bigL acc || bigV v)) := by show _ = _; rw [bigL_app]; simp [bigL]
        have HTT : Hid (twL (acc.app (.cons v .nil)) = (twL acc || twV v)) := by show _ = _; rw [twL_app]; simp [twL]
        go_wp2_with fail
        refine (unhide HC).mono ?_
        rintro e w2 ⟨b2, rfl⟩
        simp only [gotV]
        have R3 := hide (((unhide HRR).below b2).alloc (gotB (strOf (ct v)) n true (bigV v) (twV v)))
        have G3 := ((unhide HG).below b2).alloc (gotB (strOf (ct v)) n true (bigV v) (twV v))
        have V3 : Got w2.heap.size (strOf (ct v)) n true (bigV v) (twV v) (w2.alloc (gotB (strOf (ct v)) n true (bigV v) (twV v))) := heap_alloc_new w2 _
        have B3 : Hid (Below w.heap.size w (w2.alloc (gotB (strOf (ct v)) n true (bigV v) (twV v)))) := (below_next (unhide HB) b2).alloc (by have := b2.size; omega) _
        have hw2 := b2.size
        clear HC HRR HG HB b2
        simp only [gotB] at G3 V3 R3 B3
        generalize bigL acc = ba at *
        generalize twL acc = ta at *
        generalize bigV v = bv at *
        generalize twV v = tv at *
        generalize strOf (91 :: preA acc) = sa at *
        generalize strOf (91 :: (preA acc ++ ct v)) = sb at *
        generalize strOf (ct v) = sc at *
        generalize hw3 : w2.alloc (.cells #[.string sc, .int .i64 (n : Int), .bool true, .bool bv, .bool tv] 121 (0, 0)) = w3 at *
        have hvg : w2.heap.size ≠ w.heap.size + 1 := by omega
        have ok3 := V3.c2
        have go0 := G3.c0
        have gf0 := G3.fz 0
        have gf3 := G3.fz 3
        have gf4 := G3.fz 4
        have v0 := V3.c0
        have G4 := G3.set0 sb
        have V4 := V3.other (p := ⟨w.heap.size + 1, 0, none⟩) hvg (.string sb)
        have G5 := G4.set3 (ba || bv)
        have V5 := V4.other (p := ⟨w.heap.size + 1, 3, none⟩) hvg (.bool (ba || bv))
        have G6 := G5.set4 (ta || tv)
        have V6 := V5.other (p := ⟨w.heap.size + 1, 4, none⟩) hvg (.bool (ta || tv))
        have g43 := G4.c3
        have v43 := V4.c3
        have f43 := G4.fz 3
        have g54 := G5.c4
        have v54 := V5.c4
        have f54 := G5.fz 4
        have v61 := V6.c1
        have HG6 := hide G6
        clear G3 V3 G4 V4 G5 V5 G6 V6
        generalize hbb : (ba || bv) = bb at *
        generalize htt : (ta || tv) = tt at *
        have hb' : ba = true ∧ bb = true ∨ ba = false ∧ bv = bb := or_cases _ _ _ hbb
        have ht' : ta = true ∧ tt = true ∨ ta = false ∧ tv = tt := or_cases _ _ _ htt
        clear hbb htt hpl hvl
        rcases hb' with ⟨rfl, rfl⟩ | ⟨rfl, rfl⟩ <;> rcases ht' with ⟨rfl, rfl⟩ | ⟨rfl, rfl⟩
        all_goals
          go_wp2_with fail
          refine ((unhide HSM).1 _ n _ rfl).mono ?_
          rintro e w6 ⟨rfl, hw6⟩
          have G6 := hw6 ▸ unhide HG6
          have R6 : Got w.heap.size ⟨#[]⟩ 0 false false false w6 := hw6 ▸ (((unhide R3).other (p := ⟨w.heap.size + 1, 0, none⟩) (by show _ ≠ w.heap.size + 1; omega) _).other (p := ⟨w.heap.size + 1, 3, none⟩) (by show _ ≠ w.heap.size + 1; omega) _).other (p := ⟨w.heap.size + 1, 4, none⟩) (by show _ ≠ w.heap.size + 1; omega) _
          have B6 : Below w.heap.size w w6 := hw6 ▸ (((unhide B3).setCell (p := ⟨w.heap.size + 1, 0, none⟩) (by show _ ≤ w.heap.size + 1; omega) _).setCell (p := ⟨w.heap.size + 1, 3, none⟩) (by show _ ≤ w.heap.size + 1; omega) _).setCell (p := ⟨w.heap.size + 1, 4, none⟩) (by show _ ≤ w.heap.size + 1; omega) _
          have HB6 := hide B6
          have HR6 := hide R6
          have HG6' := hide G6
          clear ok3 go0 gf0 gf3 gf4 v0 g43 v43 f43 g54 v54 f54 v61 HG6 R3 B3 hw6 hw3 hcat1 G6 R6 B6 hvg hw2 w3
          generalize sk s n = k at *
          go_wp2_with fail
          refine ((unhide HSM).2 93 k _ (by decide)).mono ?_
          rintro e w7 ⟨rfl, rfl⟩
          by_cases h93 : bt s k = 93
          · rw [decide_eq_true h93]
            have HVV : Hid (val s i = some (.arr (acc.app (.cons v .nil)), k + 1)) := by
              show _ = _
              rw [unhide HR, unhide HEQ, if_pos h93]; rfl
            have hfi := unhide HFI
            generalize hsf : strOf (ct (.arr (acc.app (.cons v .nil)))) = sf at *
            have HSF := hide hsf
            have G6 := unhide HG6'
            have c0 := G6.c0
            have f0 := G6.fz 0
            have G7 := G6.set0 sf
            have c71 := G7.c1
            have f71 := G7.fz 1
            have G8 := G7.set1 ((k : Int) + 1) (k + 1) (by omega)
            have R8 := ((unhide HR6).other (p := ⟨w.heap.size + 1, 0, none⟩) (by show _ ≠ w.heap.size + 1; omega) (.string sf)).other (p := ⟨w.heap.size + 1, 1, none⟩) (by show _ ≠ w.heap.size + 1; omega) (.int .i64 ((k : Int) + 1))
            have B8 := ((unhide HB6).setCell (p := ⟨w.heap.size + 1, 0, none⟩) (by show _ ≤ w.heap.size + 1; omega) (.string sf)).setCell (p := ⟨w.heap.size + 1, 1, none⟩) (by show _ ≤ w.heap.size + 1; omega) (.int .i64 ((k : Int) + 1))
            obtain ⟨a0, a1', a2, a3, a4⟩ := G8.cells
            have a1 := a1'.trans (show _ = some (Value.int .i64 ((k : Int) + 1)) by rw [show ((k + 1 : Nat) : Int) = (k : Int) + 1 from by omega])
            obtain ⟨r0, r1, r2, r3, r4⟩ := R8.cells
            obtain ⟨q0, q1, q2, q3, q4⟩ := R8.fzs
            have RX := hide (R8.copyTo G8 ((k : Int) + 1) (by omega))
            have BX := hide (fun a b c d e => below_put B8 (Nat.le_refl _) a b c d e)
            clear a1' G6 G7 G8 R8 B8 HG6' HR6 HB6 HFI hsf HCO HEQ HR h93
            go_wp2
            try simp only [Exit.inBlock, Exit.then]
            refine bodyPost_ret (got_ret rfl rfl (unhide RX)) rfl ?_
            rw [unhide HVV]
            refine ⟨unhide BX _ _ _ _ _, ?_⟩
            show _ = Ending.returned (gotV (strOf (ct (.arr (acc.app (.cons v .nil))))) (k + 1) true (bigL (acc.app (.cons v .nil))) (twL (acc.app (.cons v .nil))))
            rw [unhide HSF, unhide HBB, unhide HTT]
          · rw [decide_eq_false h93]
            go_wp2_with fail
            refine ((unhide HSM).2 44 k _ (by decide)).mono ?_
            rintro e w8 ⟨rfl, rfl⟩
            by_cases h44 : bt s k = 44
            · rw [decide_eq_true h44]
              have hkl : k < s.size := bt_in (by omega)
              have HST2 : Hid (elems s k0 = (elems s (sk s (k + 1))).map fun q => ((acc.app (.cons v .nil)).app q.1, q.2)) := by
                show _ = _
                rw [unhide HEQ, if_neg h93, if_pos h44, Option.map_map]
                congr 1
                funext q
                simp [JL.app_assoc, JL.app]
              have hco := unhide HCO
              generalize hsf : strOf (91 :: preA (acc.app (.cons v .nil))) = sf at *
              have HSF := hide hsf
              have G6 := unhide HG6'
              have c0 := G6.c0
              have f0 := G6.fz 0
              have G7 := hide (G6.set0 sf)
              have R7 := hide ((unhide HR6).other (p := ⟨w.heap.size + 1, 0, none⟩) (by show _ ≠ w.heap.size + 1; omega) (.string sf))
              have B7 := hide ((unhide HB6).setCell (p := ⟨w.heap.size + 1, 0, none⟩) (by show _ ≤ w.heap.size + 1; omega) (.string sf))
              clear G6 HG6' HR6 HB6 HFI hsf HCO HEQ h93 h44
              go_wp2_with fail
              refine ((unhide HSM).1 _ (k + 1) _ (by omega)).mono ?_
              rintro e w9 ⟨rfl, hw9⟩
              have G9 := hw9 ▸ unhide G7
              have R9 := hw9 ▸ unhide R7
              have B9 := hw9 ▸ unhide B7
              have hs1 := sk_ge s (k + 1)
              have hs2 := (sk_le (s := s) (i := k + 1) (by omega)).2
              clear G7 R7 B7 c0 f0
              go_wp2
              go_roundg (s.size + 1 - sk s (k + 1))
              case rel => exact ⟨sk s (k + 1), acc.app (.cons v .nil), rfl, rfl, by omega, hs2, R9, by rw [unhide HSF, unhide HBB, unhide HTT]; exact G9, B9, by have := unhide HPL; omega, unhide HST2⟩
              case measure => omega
            · rw [decide_eq_false h44]
              have HN : Hid (val s i = none) := by
                show _ = _
                rw [unhide HR, unhide HEQ, if_neg h93, if_neg h44]; rfl
              have R6 := unhide HR6
              obtain ⟨r0, r1, r2, r3, r4⟩ := R6.cells
              obtain ⟨q0, q1, q2, q3, q4⟩ := R6.fzs
              have RX := hide (R6.put ⟨#[]⟩ 0 0 rfl false false false)
              have BX := hide (below_put (unhide HB6) (Nat.le_refl _) (.string ⟨#[]⟩) (.int .i64 0) (.bool false) (.bool false) (.bool false))
              clear R6 HG6' HR6 HB6 HFI HCO HEQ h93 h44
              go_wp2
              try simp only [Exit.inBlock, Exit.then]
              refine bodyPost_ret (got_ret rfl rfl (unhide RX)) rfl ?_
              exact GP.bad (unhide HN) (unhide BX)
end Go.Proofs.YtcjajchfjoffnaaGreatDoor
