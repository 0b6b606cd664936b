import Derived.Deep.LoopGhost
import Derived.Test.YtadefcohbkgbfabGreatDoorBn7
import Derived.Test.YtadefcohbkgbfabGreatDoorBn9
import Derived.Test.YtadefcohbkgbfabGreatDoorBn5
import Derived.Test.YtadefcohbkgbfabGreatDoorBn6
import Derived.Lib.ParseIntBCases
import Derived.Lib.ItoaMem
namespace Go.Proofs.YtadefcohbkgbfabGreatDoor
open Go.RowKit

set_option maxRecDepth 100000 in
set_option maxHeartbeats 4000000 in
theorem arr_walk (s : ByteArray) (i : Nat) (w : World) (hs : s.size ≤ 1048576) (hi : i < s.size) (h91 : bt s i = 91)
    (IH : ∀ (j : Nat) (w : World), i < j → j ≤ s.size → Calls Tryz.prog 35 #[.string s, .int .i64 j] w (GP w (val s j))) :
    Calls Tryz.prog 56 #[.string s, .int .i64 i] w (GP w (val s i)) := by
  have HSM := hide (small1 s hs)
  have g0 := sk_ge s (i + 1)
  have g1 := (sk_le (s := s) (i := i + 1) (by omega)).2
  have HV := hide (val_arr h91)
  have HIH := hide IH
  clear IH
  generalize hk0 : sk s (i + 1) = k0 at *
  go_enter Tryz.func56, Tryz.ntmps56
  go_wp2_with fail
  refine ((unhide HSM).1 _ (i + 1) _ (by omega)).mono ?_
  rintro e w1 ⟨rfl, rfl⟩
  rw [hk0]
  go_wp2_with fail
  refine ((unhide HSM).2 93 k0 _ (by decide)).mono ?_
  rintro e w1 ⟨rfl, rfl⟩
  clear hk0
  by_cases h93 : bt s k0 = 93
  · rw [decide_eq_true h93]
    have HR : Hid (val s i = some (.arr .nil, k0 + 1)) := by show _ = _; rw [unhide HV, if_pos h93]
    clear h93 HV
    go_wp2
    go_returns
    rw [unhide HR]
    exact ⟨(alloc_below w _).trans ((Below.refl _ _).alloc (by simp) _), rfl⟩
  · rw [decide_eq_false h93]
    have HR : Hid (val s i = (elems s k0).map fun q => (.arr q.1, q.2)) := by show _ = _; rw [unhide HV, if_neg h93]
    clear h93 HV h91
    go_wp2_with fail
    go_loopg [1] (s.size + 1 - k0) (fun g k wr => ∃ (j : Nat) (acc : JL), g = s.size + 1 - j ∧ k = .int .i64 (j : Int) ∧ k0 ≤ j ∧ j ≤ s.size ∧ Got w.heap.size ⟨#[]⟩ 0 false false false wr ∧ Got (w.heap.size + 1) (strOf (91 :: preA acc)) 0 true (bigL acc) (twL acc) wr ∧ Below w.heap.size w wr ∧ (preA acc).length ≤ 31 * j ∧ elems s k0 = (elems s j).map fun q => (acc.app q.1, q.2))
    case atStart =>
      refine ⟨k0, .nil, rfl, rfl, Nat.le_refl _, g1, ?_, ?_, (alloc_below w _).trans ((Below.refl _ _).alloc (by simp) _), by simp [preA], by simp [JL.app]⟩
      · show (World.alloc _ _).heap[_]? = _
        rw [Lib.alloc_old _ _ _ (by simp)]; exact heap_alloc_new w _
      · have := heap_alloc_new (w.alloc (gotB ⟨#[]⟩ 0 false false false)) (gotB (strOf [91]) 0 true false false)
        rw [show (w.alloc (gotB ⟨#[]⟩ 0 false false false)).heap.size = w.heap.size + 1 from by simp] at this
        exact this
    case round =>
      obtain ⟨j, acc, hg, rfl, hj1, hj2, hr, hgot, hb, hpl, hst⟩ := hrel
      have HST := hide hst
      have HG := hide hgot
      have HRR := hide hr
      have HB := hide hb
      have hwsz := hb.size
      have hgl := hgot.lt
      clear hst hgot hr hb
      have HC := hide (unhide HIH j wr (by omega) (by omega))
      cases hv : val s j with
      | none =>
        have HN : Hid (val s i = none) := by
          show _ = _
          rw [unhide HR, unhide HST, elems_eq, hv]; rfl
        rw [hv] at HC
        clear hv
        go_wp2_with fail
        refine (unhide HC).mono ?_
        rintro e w2 ⟨b2, t, n, bb, tw, rfl⟩
        have R2 := (unhide HRR).below b2
        have B2 := below_next (unhide HB) b2
        have R3 := R2.alloc (gotB t n false bb tw)
        have B3 : Below w.heap.size w (w2.alloc (gotB t n false bb tw)) := B2.alloc (by have := b2.size; omega) _
        have c0 := R3.c0
        have c1 := R3.c1
        have c2 := R3.c2
        have c3 := R3.c3
        have c4 := R3.c4
        have f0 := R3.fz 0
        have f1 := R3.fz 1
        have f2 := R3.fz 2
        have f3 := R3.fz 3
        have f4 := R3.fz 4
        have RX := hide (R3.put ⟨#[]⟩ 0 0 rfl false false false)
        have BX := hide (below_put B3 (Nat.le_refl _) (.string ⟨#[]⟩) (.int .i64 0) (.bool false) (.bool false) (.bool false))
        clear HC HRR R2 R3 B2 B3
        simp only [gotV]
        go_wp2
        try simp only [Exit.inBlock, Exit.then]
        refine bodyPost_ret (got_ret rfl rfl (unhide RX)) rfl ?_
        exact GP.bad (unhide HN) (unhide BX)
      | some q =>
        obtain ⟨v, n⟩ := q
        have hvo := val_ok hv
        have hvl := val_len hv
        have HPL : Hid ((preA (acc.app (.cons v .nil))).length ≤ 31 * n) := by
          show _ ≤ _
          rw [preA_snoc]; simp only [List.length_append, List.length_cons, List.length_nil]; omega
        have z1 : (strOf (91 :: preA acc)).size ≤ 40000000 := by rw [strOf_size]; simp only [List.length_cons]; omega
        have z2 : (strOf (ct v)).size ≤ 40000000 := by rw [strOf_size]; omega
        have z3 : (strOf (91 :: (preA acc ++ ct v))).size ≤ 80000000 := by rw [strOf_size]; simp only [List.length_cons, List.length_append]; omega
        have hn1 := sk_ge s n
        have hn2 := (sk_le hvo.2).2
        have HEQ : Hid (elems s k0 = (if bt s (sk s n) = 93 then some (JL.cons v .nil, sk s n + 1) else if bt s (sk s n) = 44 then (elems s (sk s (sk s n + 1))).map fun r => (JL.cons v r.1, r.2) else none).map fun q => (acc.app q.1, q.2)) := by
          show _ = _
          rw [unhide HST, elems_eq, hv]; rfl
        rw [hv] at HC
        clear hv HST
        have hcat1 : strOf (91 :: preA acc) ++ strOf (ct v) = strOf (91 :: (preA acc ++ ct v)) := strOf_app _ _
        have HFI : Hid (strOf (91 :: (preA acc ++ ct v)) ++ ⟨#[93]⟩ = strOf (ct (.arr (acc.app (.cons v .nil))))) := by
          show _ = _
          rw [show (⟨#[93]⟩ : ByteArray) = strOf [93] from rfl, strOf_app, ct, mkA, ← joinC_pre]; simp
        have HCO : Hid (strOf (91 :: (preA acc ++ ct v)) ++ ⟨#[44]⟩ = strOf (91 :: preA (acc.app (.cons v .nil)))) := by
          show _ = _
          rw [show (⟨#[44]⟩ : ByteArray) = strOf [44] from rfl, strOf_app, preA_snoc]; simp
        have HBB : Hid (bigL (acc.app (.cons v .nil)) = (bigL acc || bigV v)) := by show _ = _; rw [bigL_app]; simp [bigL]
        have HTT : Hid (twL (acc.app (.cons v .nil)) = (twL acc || twV v)) := by show _ = _; rw [twL_app]; simp [twL]
        go_wp2_with fail
        refine (unhide HC).mono ?_
        rintro e w2 ⟨b2, rfl⟩
        simp only [gotV]
        have R3 := hide (((unhide HRR).below b2).alloc (gotB (strOf (ct v)) n true (bigV v) (twV v)))
        have G3 := ((unhide HG).below b2).alloc (gotB (strOf (ct v)) n true (bigV v) (twV v))
        have V3 : Got w2.heap.size (strOf (ct v)) n true (bigV v) (twV v) (w2.alloc (gotB (strOf (ct v)) n true (bigV v) (twV v))) := heap_alloc_new w2 _
        have B3 : Hid (Below w.heap.size w (w2.alloc (gotB (strOf (ct v)) n true (bigV v) (twV v)))) := (below_next (unhide HB) b2).alloc (by have := b2.size; omega) _
        have hw2 := b2.size
        clear HC HRR HG HB b2
        simp only [gotB] at G3 V3 R3 B3
        generalize bigL acc = ba at *
        generalize twL acc = ta at *
        generalize bigV v = bv at *
        generalize twV v = tv at *
        generalize strOf (91 :: preA acc) = sa at *
        generalize strOf (91 :: (preA acc ++ ct v)) = sb at *
        generalize strOf (ct v) = sc at *
        generalize hw3 : w2.alloc (.cells #[.string sc, .int .i64 (n : Int), .bool true, .bool bv, .bool tv] 58 (0, 0)) = w3 at *
        have hvg : w2.heap.size ≠ w.heap.size + 1 := by omega
        have ok3 := V3.c2
        have go0 := G3.c0
        have gf0 := G3.fz 0
        have gf3 := G3.fz 3
        have gf4 := G3.fz 4
        have v0 := V3.c0
        have G4 := G3.set0 sb
        have V4 := V3.other (p := ⟨w.heap.size + 1, 0, none⟩) hvg (.string sb)
        have G5 := G4.set3 (ba || bv)
        have V5 := V4.other (p := ⟨w.heap.size + 1, 3, none⟩) hvg (.bool (ba || bv))
        have G6 := G5.set4 (ta || tv)
        have V6 := V5.other (p := ⟨w.heap.size + 1, 4, none⟩) hvg (.bool (ta || tv))
        have g43 := G4.c3
        have v43 := V4.c3
        have f43 := G4.fz 3
        have g54 := G5.c4
        have v54 := V5.c4
        have f54 := G5.fz 4
        have v61 := V6.c1
        have HG6 := hide G6
        clear G3 V3 G4 V4 G5 V5 G6 V6
        generalize hbb : (ba || bv) = bb at *
        generalize htt : (ta || tv) = tt at *
        have hb' : ba = true ∧ bb = true ∨ ba = false ∧ bv = bb := or_cases _ _ _ hbb
        have ht' : ta = true ∧ tt = true ∨ ta = false ∧ tv = tt := or_cases _ _ _ htt
        clear hbb htt hpl hvl
        rcases hb' with ⟨rfl, rfl⟩ | ⟨rfl, rfl⟩ <;> rcases ht' with ⟨rfl, rfl⟩ | ⟨rfl, rfl⟩
        all_goals
          go_wp2_with fail
          refine ((unhide HSM).1 _ n _ rfl).mono ?_
          rintro e w6 ⟨rfl, hw6⟩
          have G6 := hw6 ▸ unhide HG6
          have R6 : Got w.heap.size ⟨#[]⟩ 0 false false false w6 := hw6 ▸ (((unhide R3).other (p := ⟨w.heap.size + 1, 0, none⟩) (by show _ ≠ w.heap.size + 1; omega) _).other (p := ⟨w.heap.size + 1, 3, none⟩) (by show _ ≠ w.heap.size + 1; omega) _).other (p := ⟨w.heap.size + 1, 4, none⟩) (by show _ ≠ w.heap.size + 1; omega) _
          have B6 : Below w.heap.size w w6 := hw6 ▸ (((unhide B3).setCell (p := ⟨w.heap.size + 1, 0, none⟩) (by show _ ≤ w.heap.size + 1; omega) _).setCell (p := ⟨w.heap.size + 1, 3, none⟩) (by show _ ≤ w.heap.size + 1; omega) _).setCell (p := ⟨w.heap.size + 1, 4, none⟩) (by show _ ≤ w.heap.size + 1; omega) _
          have HB6 := hide B6
          have HR6 := hide R6
          have HG6' := hide G6
          clear ok3 go0 gf0 gf3 gf4 v0 g43 v43 f43 g54 v54 f54 v61 HG6 R3 B3 hw6 hw3 hcat1 G6 R6 B6 hvg hw2 w3
          generalize sk s n = k at *
          go_wp2_with fail
          refine ((unhide HSM).2 93 k _ (by decide)).mono ?_
          rintro e w7 ⟨rfl, rfl⟩
          by_cases h93 : bt s k = 93
          · rw [decide_eq_true h93]
            have HVV : Hid (val s i = some (.arr (acc.app (.cons v .nil)), k + 1)) := by
              show _ = _
              rw [unhide HR, unhide HEQ, if_pos h93]; rfl
            have hfi := unhide HFI
            generalize hsf : strOf (ct (.arr (acc.app (.cons v .nil)))) = sf at *
            have HSF := hide hsf
            have G6 := unhide HG6'
            have c0 := G6.c0
            have f0 := G6.fz 0
            have G7 := G6.set0 sf
            have c71 := G7.c1
            have f71 := G7.fz 1
            have G8 := G7.set1 ((k : Int) + 1) (k + 1) (by omega)
            have R8 := ((unhide HR6).other (p := ⟨w.heap.size + 1, 0, none⟩) (by show _ ≠ w.heap.size + 1; omega) (.string sf)).other (p := ⟨w.heap.size + 1, 1, none⟩) (by show _ ≠ w.heap.size + 1; omega) (.int .i64 ((k : Int) + 1))
            have B8 := ((unhide HB6).setCell (p := ⟨w.heap.size + 1, 0, none⟩) (by show _ ≤ w.heap.size + 1; omega) (.string sf)).setCell (p := ⟨w.heap.size + 1, 1, none⟩) (by show _ ≤ w.heap.size + 1; omega) (.int .i64 ((k : Int) + 1))
            obtain ⟨a0, a1', a2, a3, a4⟩ := G8.cells
            have a1 := a1'.trans (show _ = some (Value.int .i64 ((k : Int) + 1)) by rw [show ((k + 1 : Nat) : Int) = (k : Int) + 1 from by omega])
            obtain ⟨r0, r1, r2, r3, r4⟩ := R8.cells
            obtain ⟨q0, q1, q2, q3, q4⟩ := R8.fzs
            have RX := hide (R8.copyTo G8 ((k : Int) + 1) (by omega))
            have BX := hide (fun a b c d e => below_put B8 (Nat.le_refl _) a b c d e)
            clear a1' G6 G7 G8 R8 B8 HG6' HR6 HB6 HFI hsf HCO HEQ HR h93
            go_wp2
            try simp only [Exit.inBlock, Exit.then]
            refine bodyPost_ret (got_ret rfl rfl (unhide RX)) rfl ?_
            rw [unhide HVV]
            refine ⟨unhide BX _ _ _ _ _, ?_⟩
            show _ = Ending.returned (gotV (strOf (ct (.arr (acc.app (.cons v .nil))))) (k + 1) true (bigL (acc.app (.cons v .nil))) (twL (acc.app (.cons v .nil))))
            rw [unhide HSF, unhide HBB, unhide HTT]
          · rw [decide_eq_false h93]
            go_wp2_with fail
            refine ((unhide HSM).2 44 k _ (by decide)).mono ?_
            rintro e w8 ⟨rfl, rfl⟩
            by_cases h44 : bt s k = 44
            · rw [decide_eq_true h44]
              have hkl : k < s.size := bt_in (by omega)
              have HST2 : Hid (elems s k0 = (elems s (sk s (k + 1))).map fun q => ((acc.app (.cons v .nil)).app q.1, q.2)) := by
                show _ = _
                rw [unhide HEQ, if_neg h93, if_pos h44, Option.map_map]
                congr 1
                funext q
                simp [JL.app_assoc, JL.app]
              have hco := unhide HCO
              generalize hsf : strOf (91 :: preA (acc.app (.cons v .nil))) = sf at *
              have HSF := hide hsf
              have G6 := unhide HG6'
              have c0 := G6.c0
              have f0 := G6.fz 0
              have G7 := hide (G6.set0 sf)
              have R7 := hide ((unhide HR6).other (p := ⟨w.heap.size + 1, 0, none⟩) (by show _ ≠ w.heap.size + 1; omega) (.string sf))
              have B7 := hide ((unhide HB6).setCell (p := ⟨w.heap.size + 1, 0, none⟩) (by show _ ≤ w.heap.size + 1; omega) (.string sf))
              clear G6 HG6' HR6 HB6 HFI hsf HCO HEQ h93 h44
              go_wp2_with fail
              refine ((unhide HSM).1 _ (k + 1) _ (by omega)).mono ?_
              rintro e w9 ⟨rfl, hw9⟩
              have G9 := hw9 ▸ unhide G7
              have R9 := hw9 ▸ unhide R7
              have B9 := hw9 ▸ unhide B7
              have hs1 := sk_ge s (k + 1)
              have hs2 := (sk_le (s := s) (i := k + 1) (by omega)).2
              clear G7 R7 B7 c0 f0
              go_wp2
              go_roundg (s.size + 1 - sk s (k + 1))
              case rel => exact ⟨sk s (k + 1), acc.app (.cons v .nil), rfl, rfl, by omega, hs2, R9, by rw [unhide HSF, unhide HBB, unhide HTT]; exact G9, B9, by have := unhide HPL; omega, unhide HST2⟩
              case measure => omega
            · rw [decide_eq_false h44]
              have HN : Hid (val s i = none) := by
                show _ = _
                rw [unhide HR, unhide HEQ, if_neg h93, if_neg h44]; rfl
              have R6 := unhide HR6
              obtain ⟨r0, r1, r2, r3, r4⟩ := R6.cells
              obtain ⟨q0, q1, q2, q3, q4⟩ := R6.fzs
              have RX := hide (R6.put ⟨#[]⟩ 0 0 rfl false false false)
              have BX := hide (below_put (unhide HB6) (Nat.le_refl _) (.string ⟨#[]⟩) (.int .i64 0) (.bool false) (.bool false) (.bool false))
              clear R6 HG6' HR6 HB6 HFI HCO HEQ h93 h44
              go_wp2
              try simp only [Exit.inBlock, Exit.then]
              refine bodyPost_ret (got_ret rfl rfl (unhide RX)) rfl ?_
              exact GP.bad (unhide HN) (unhide BX)
end Go.Proofs.YtadefcohbkgbfabGreatDoor


namespace Go.Proofs.YtadefcohbkgbfabGreatDoor
open Go.RowKit

/-- A value takes as many bytes as it has values, or more. -/
theorem p_cnt (s : ByteArray) : ∀ f i, (∀ v j, pv s f i = some (v, j) → cntV v + i ≤ j) ∧ (∀ l j, pa s f i = some (l, j) → cntL l + i ≤ j) ∧ (∀ m j, po s f i = some (m, j) → cntM m + i ≤ j)
  | 0, i => ⟨fun v j h => by simp [pv] at h, fun v j h => by simp [pa] at h, fun v j h => by simp [po] at h⟩
  | f + 1, i => by
    refine ⟨fun v j h => ?_, fun l j h => ?_, fun m j h => ?_⟩
    · rw [pv] at h
      have g := sk_ge s (i + 1)
      split at h
      · split at h
        · have := bt_in (s := s) (i := sk s (i + 1)) (by omega)
          injection h with h; injection h with hv h; subst hv; (try simp only [cntV]); (try simp only [cntL]); (try simp only [cntM]); omega
        · simp only [Option.map_eq_some_iff] at h
          obtain ⟨⟨l, k⟩, hk, h⟩ := h
          injection h with hv h
          have := (p_cnt s f (sk s (i + 1))).2.1 l k hk
          subst hv; simp only at h; (try simp only [cntV]); (try simp only [cntL]); (try simp only [cntM]); omega
      · split at h
        · split at h
          · have := bt_in (s := s) (i := sk s (i + 1)) (by omega)
            injection h with h; injection h with hv h; subst hv; (try simp only [cntV]); (try simp only [cntL]); (try simp only [cntM]); omega
          · simp only [Option.map_eq_some_iff] at h
            obtain ⟨⟨l, k⟩, hk, h⟩ := h
            injection h with hv h
            have := (p_cnt s f (sk s (i + 1))).2.2 l k hk
            subst hv; simp only at h; (try simp only [cntV]); (try simp only [cntL]); (try simp only [cntM]); omega
        · split at h
          · simp only [Option.map_eq_some_iff] at h
            obtain ⟨⟨l, k⟩, hk, h⟩ := h
            injection h with hv h
            have := strQ_ok hk
            subst hv; simp only at h; (try simp only [cntV]); (try simp only [cntL]); (try simp only [cntM]); omega
          · split at h
            · rename_i hw
              have := wNull_in hw
              injection h with h; injection h with hv h; subst hv; (try simp only [cntV]); (try simp only [cntL]); (try simp only [cntM]); omega
            · split at h
              · rename_i hw
                have := wTrue_in hw
                injection h with h; injection h with hv h; subst hv; (try simp only [cntV]); (try simp only [cntL]); (try simp only [cntM]); omega
              · split at h
                · rename_i hw
                  have := wFalse_in hw
                  injection h with h; injection h with hv h; subst hv; (try simp only [cntV]); (try simp only [cntL]); (try simp only [cntM]); omega
                · simp only [Option.map_eq_some_iff] at h
                  obtain ⟨⟨l, k⟩, hk, h⟩ := h
                  injection h with hv h
                  have := nm_ok hk
                  subst hv; simp only at h; (try simp only [cntV]); (try simp only [cntL]); (try simp only [cntM]); omega
    · rw [pa] at h
      simp only [Option.bind_eq_some_iff] at h
      obtain ⟨⟨v, k⟩, hk, h⟩ := h
      have h1 := (p_cnt s f i).1 v k hk
      have g1 := sk_ge s k
      simp only at h
      split at h
      · have := bt_in (s := s) (i := sk s k) (by omega)
        injection h with h; injection h with hv h; subst hv; (try simp only [cntV]); (try simp only [cntL]); (try simp only [cntM]); omega
      · split at h
        · simp only [Option.map_eq_some_iff] at h
          obtain ⟨⟨l, n⟩, hn, h⟩ := h
          injection h with hv h
          have := (p_cnt s f _).2.1 l n hn
          have g2 := sk_ge s (sk s k + 1)
          subst hv; simp only at h; (try simp only [cntL]); (try simp only [cntM]); omega
        · cases h
    · rw [po] at h
      simp only [Option.bind_eq_some_iff] at h
      obtain ⟨⟨key, a⟩, ha, h⟩ := h
      have h0 := strQ_ok ha
      simp only at h
      split at h
      · simp only [Option.bind_eq_some_iff] at h
        obtain ⟨⟨v, k⟩, hk, h⟩ := h
        have h1 := (p_cnt s f _).1 v k hk
        have g0 := sk_ge s a
        have g3 := sk_ge s (sk s a + 1)
        have g1 := sk_ge s k
        simp only at h
        split at h
        · have := bt_in (s := s) (i := sk s k) (by omega)
          injection h with h; injection h with hv h; subst hv; (try simp only [cntV]); (try simp only [cntL]); (try simp only [cntM]); omega
        · split at h
          · simp only [Option.map_eq_some_iff] at h
            obtain ⟨⟨l, n⟩, hn, h⟩ := h
            injection h with hv h
            have := (p_cnt s f _).2.2 l n hn
            have g2 := sk_ge s (sk s k + 1)
            subst hv; simp only at h; (try simp only [cntM]); omega
          · cases h
      · cases h

theorem val_cnt {s : ByteArray} {i j : Nat} {v : JV} (h : val s i = some (v, j)) : cntV v + i ≤ j := (p_cnt s _ i).1 v j h
end Go.Proofs.YtadefcohbkgbfabGreatDoor


namespace Go.Proofs.YtadefcohbkgbfabGreatDoor
open Go.RowKit

/-- The one value of a text. -/
def docR (s : ByteArray) : Option JV := (val s (sk s 0)).bind fun q => if sk s q.2 = s.size then some q.1 else none
/-- What readText finds: a code, or a value. -/
def readR (s : ByteArray) : Sum Nat JV :=
  if 20000 < s.size then .inl 1 else
  match docR s with
  | none => .inl 2
  | some v => if bigV v then .inl 3 else if twV v then .inl 4 else if 100 < depV v ∨ 3000 < cntV v then .inl 5 else .inr v
theorem doc_facts {s : ByteArray} {v : JV} (h : docR s = some v) : okV v ∧ cntV v ≤ s.size ∧ (ct v).length ≤ 30 * s.size := by
  unfold docR at h
  cases hv : val s (sk s 0) with
  | none => rw [hv] at h; simp at h
  | some q =>
    obtain ⟨u, j⟩ := q
    have e : u = v := by
      rw [hv] at h
      simp only [Option.bind_some] at h
      split at h
      · injection h
      · cases h
    subst e
    have h1 := val_cnt hv
    have h2 := val_len hv
    have h3 := val_ok hv
    exact ⟨val_okV hv, by omega, by omega⟩

/-- The answers of Canon and Measure. -/
def canonV (s : ByteArray) : Value := match readR s with
  | .inl c => .tuple #[.string ⟨#[]⟩, .int .i64 (c : Int)]
  | .inr v => .tuple #[.string (strOf (ct v)), .int .i64 0]
def measV (s : ByteArray) : Value := match readR s with
  | .inl c => .tuple #[.int .i64 0, .int .i64 0, .int .i64 (c : Int)]
  | .inr v => .tuple #[.int .i64 (depV v : Int), .int .i64 (cntV v : Int), .int .i64 0]

theorem read_facts {s : ByteArray} {v : JV} (h : readR s = .inr v) : s.size ≤ 20000 ∧ docR s = some v ∧ twV v = false ∧ bigV v = false ∧ depV v ≤ 100 ∧ cntV v ≤ 3000 := by
  unfold readR at h
  split at h
  · cases h
  · rename_i hs
    cases hd : docR s with
    | none => rw [hd] at h; simp at h
    | some u =>
      rw [hd] at h
      simp only at h
      split at h
      · cases h
      · rename_i hb
        split at h
        · cases h
        · rename_i ht
          split at h
          · cases h
          · rename_i hg
            injection h with h
            subst h
            exact ⟨by omega, rfl, by simpa using ht, by simpa using hb, by omega, by omega⟩
theorem read_code {s : ByteArray} {c : Nat} (h : readR s = .inl c) : 1 ≤ c ∧ c ≤ 5 := by
  unfold readR at h
  split at h
  · injection h with h; omega
  · split at h
    · injection h with h; omega
    · split at h
      · injection h with h; omega
      · split at h
        · injection h with h; omega
        · split at h
          · injection h with h; omega
          · cases h
end Go.Proofs.YtadefcohbkgbfabGreatDoor


namespace Go.Proofs.YtadefcohbkgbfabGreatDoor
open Go.RowKit Go.Lib

def dV (c : UInt8) : Nat := c.toNat - 48
/-- What digits spell, behind a number. -/
def foldV (a : Nat) (d : List UInt8) : Nat := d.foldl (fun a c => a * 10 + dV c) a
def Dg (d : List UInt8) : Prop := ∀ c ∈ d, 48 ≤ c.toNat ∧ c.toNat ≤ 57
/-- Digits without a zero ahead. -/
def Num (d : List UInt8) : Prop := Dg d ∧ d ≠ [] ∧ (d = [48] ∨ ∀ c r, d = c :: r → 49 ≤ c.toNat)
theorem Dg.tail {c : UInt8} {d : List UInt8} (h : Dg (c :: d)) : Dg d := fun x hx => h x (List.mem_cons_of_mem _ hx)
theorem Dg.head {c : UInt8} {d : List UInt8} (h : Dg (c :: d)) : 48 ≤ c.toNat ∧ c.toNat ≤ 57 := h c List.mem_cons_self
theorem foldV_cons (a : Nat) (c : UInt8) (d : List UInt8) : foldV a (c :: d) = foldV (a * 10 + dV c) d := by unfold foldV; rw [List.foldl_cons]
theorem foldV_snoc (a : Nat) (d : List UInt8) (c : UInt8) : foldV a (d ++ [c]) = foldV a d * 10 + dV c := by unfold foldV; rw [List.foldl_append]; rfl
theorem foldV_ge (d : List UInt8) : ∀ a, a ≤ foldV a d := by
  induction d with
  | nil => intro a; exact Nat.le_refl _
  | cons c d ih => intro a; rw [foldV_cons]; have := ih (a * 10 + dV c); omega
theorem foldV_lin (d : List UInt8) : ∀ a, foldV a d = a * 10 ^ d.length + foldV 0 d := by
  induction d with
  | nil => intro a; simp [foldV]
  | cons c d ih =>
    intro a
    rw [foldV_cons, foldV_cons, ih (a * 10 + dV c), ih (0 * 10 + dV c), List.length_cons, Nat.pow_succ]
    rw [Nat.add_mul, Nat.zero_mul, Nat.zero_add, Nat.mul_assoc, Nat.mul_comm 10, Nat.add_assoc]
theorem foldV_lt (d : List UInt8) (h : Dg d) : foldV 0 d < 10 ^ d.length := by
  induction d with
  | nil => simp [foldV]
  | cons c d ih =>
    rw [foldV_cons, foldV_lin, List.length_cons, Nat.pow_succ]
    have h1 := ih h.tail
    have h2 := h.head
    have h3 : dV c ≤ 9 := by unfold dV; omega
    have h4 : (0 * 10 + dV c) * 10 ^ d.length ≤ 9 * 10 ^ d.length := Nat.mul_le_mul_right _ (by omega)
    omega
theorem foldV_low {c : UInt8} {d : List UInt8} (hc : 49 ≤ c.toNat) : 10 ^ d.length ≤ foldV 0 (c :: d) := by
  rw [foldV_cons, foldV_lin]
  have : 1 * 10 ^ d.length ≤ (0 * 10 + dV c) * 10 ^ d.length := Nat.mul_le_mul_right _ (by unfold dV; omega)
  omega

theorem parse_fold (d : List UInt8) (h : Dg d) : ∀ a, a ≤ 18446744073709551615 → parseUintM 18446744073709551615 a d = if foldV a d ≤ 18446744073709551615 then .ok (foldV a d) else .range := by
  induction d with
  | nil => intro a ha; rw [parseUintM]; rw [if_pos (by exact ha)]; rfl
  | cons c d ih =>
    intro a ha
    rw [parseUintM, if_pos h.head, foldV_cons]
    have hg := foldV_ge d (a * 10 + dV c)
    have e : a * 10 + (c.toNat - 48) = a * 10 + dV c := rfl
    by_cases h1 : 1844674407370955162 ≤ a
    · rw [if_pos h1, if_neg (by omega)]
    · rw [if_neg h1, e]
      by_cases h2 : 18446744073709551615 < a * 10 + dV c
      · rw [if_pos h2, if_neg (by omega)]
      · rw [if_neg h2]
        exact ih h.tail _ (by omega)

theorem less_fold : ∀ (a b : List UInt8), Dg a → Dg b → a.length = b.length → (Op.bytesLess a b = decide (foldV 0 a < foldV 0 b)) ∧ ((a == b) = decide (foldV 0 a = foldV 0 b))
  | [], [], _, _, _ => by simp [Op.bytesLess, foldV]
  | [], _ :: _, _, _, h => by simp at h
  | _ :: _, [], _, _, h => by simp at h
  | c :: a, x :: b, ha, hb, h => by
    have hl : a.length = b.length := by simpa using h
    obtain ⟨i1, i2⟩ := less_fold a b ha.tail hb.tail hl
    have a1 := foldV_lt a ha.tail
    have b1 := foldV_lt b hb.tail
    have hc := ha.head
    have hx := hb.head
    rw [foldV_cons, foldV_cons, foldV_lin a, foldV_lin b, hl]
    rw [hl] at a1
    have ec : 0 * 10 + dV c = dV c := by omega
    have ex : 0 * 10 + dV x = dV x := by omega
    rw [ec, ex]
    generalize foldV 0 a = A at *
    generalize foldV 0 b = B at *
    generalize 10 ^ b.length = P at *
    have hcx : c < x ↔ dV c < dV x := by rw [UInt8.lt_iff_toNat_lt]; unfold dV; omega
    have hce : c = x ↔ dV c = dV x := by rw [← UInt8.toNat_inj]; unfold dV; omega
    rw [Op.bytesLess]
    by_cases g1 : dV c < dV x
    · have : (dV c + 1) * P ≤ dV x * P := Nat.mul_le_mul_right _ g1
      rw [Nat.add_mul, Nat.one_mul] at this
      refine ⟨?_, ?_⟩
      · rw [decide_eq_true (hcx.2 g1), Bool.true_or, decide_eq_true (by omega)]
      · rw [decide_eq_false (by omega), beq_eq_false_iff_ne]
        intro e; injection e with e1 e2; have := hce.1 e1; omega
    · by_cases g2 : dV c = dV x
      · have hcq : (c == x) = true := by rw [beq_iff_eq]; exact hce.2 g2
        rw [decide_eq_false (fun hh => g1 (hcx.1 hh)), Bool.false_or, hcq, Bool.true_and, i1, g2]
        refine ⟨?_, ?_⟩
        · apply decide_eq_decide.2; omega
        · rw [hce.2 g2]
          rw [show ((x :: a) == (x :: b)) = (a == b) from by simp, i2]
          apply decide_eq_decide.2; omega
      · have : (dV x + 1) * P ≤ dV c * P := Nat.mul_le_mul_right _ (by omega)
        rw [Nat.add_mul, Nat.one_mul] at this
        have hcq : (c == x) = false := by rw [beq_eq_false_iff_ne]; exact fun e => g2 (hce.1 e)
        refine ⟨?_, ?_⟩
        · rw [decide_eq_false (fun hh => g1 (hcx.1 hh)), Bool.false_or, hcq, Bool.false_and, decide_eq_false (by omega)]
        · rw [decide_eq_false (by omega), beq_eq_false_iff_ne]
          intro e; injection e with e1 e2; exact g2 (hce.1 e1)

theorem Num.bounds {d : List UInt8} (h : Num d) : (d.length ≤ 18 → foldV 0 d < 1000000000000000000) ∧ (20 ≤ d.length → 10000000000000000000 ≤ foldV 0 d) := by
  obtain ⟨h1, h2, h3⟩ := h
  refine ⟨fun hl => ?_, fun hl => ?_⟩
  · have := foldV_lt d h1
    have h4 : 10 ^ d.length ≤ 10 ^ 18 := Nat.pow_le_pow_right (by decide) hl
    have h5 : (10 : Nat) ^ 18 = 1000000000000000000 := by decide
    omega
  · rcases h3 with rfl | h3
    · simp at hl
    · cases d with
      | nil => simp at hl
      | cons c r =>
        have := foldV_low (d := r) (h3 c r rfl)
        have h4 : 10 ^ 19 ≤ 10 ^ r.length := Nat.pow_le_pow_right (by decide) (by simp at hl; omega)
        have h5 : (10 : Nat) ^ 19 = 10000000000000000000 := by decide
        omega
theorem over_lim {d lim : List UInt8} {m : Nat} (h : Num d) (hl : Dg lim) (h19 : lim.length = 19) (hm : foldV 0 lim = m) (h1 : 1000000000000000000 ≤ m) (h2 : m < 10000000000000000000) : over d lim = decide (m < foldV 0 d) := by
  unfold over
  have hb := h.bounds
  by_cases hd : d.length = 19
  · rw [if_neg (by omega)]
    obtain ⟨i1, i2⟩ := less_fold d lim h.1 hl (by omega)
    rw [i1, i2, hm]
    by_cases g : m < foldV 0 d
    · rw [decide_eq_true g, decide_eq_false (by omega), decide_eq_false (by omega)]; rfl
    · rw [decide_eq_false g]
      by_cases g2 : foldV 0 d = m
      · rw [decide_eq_true g2]; simp
      · rw [decide_eq_true (show foldV 0 d < m by omega)]; rfl
  · rw [if_pos hd]
    apply decide_eq_decide.2
    constructor
    · intro g; have := hb.2 (by omega); omega
    · intro g
      rcases Nat.lt_or_ge d.length 19 with g2 | g2
      · have := hb.1 (by omega); omega
      · omega
theorem over_0 {d : List UInt8} (h : Num d) : over d lim0 = decide (9223372036854775807 < foldV 0 d) := over_lim h (by unfold Dg lim0; decide) rfl (by decide) (by decide) (by decide)
theorem over_1 {d : List UInt8} (h : Num d) : over d lim1 = decide (9223372036854775808 < foldV 0 d) := over_lim h (by unfold Dg lim1; decide) rfl (by decide) (by decide) (by decide)

theorem u8_dig {c : UInt8} (h : 48 ≤ c.toNat ∧ c.toNat ≤ 57) : UInt8.ofNat (48 + dV c) = c := by
  apply UInt8.toNat_inj.1
  rw [UInt8.toNat_ofNat']; unfold dV; omega
theorem dec_fold (n : Nat) : ∀ d : List UInt8, d.length = n → Num d → decDigits (foldV 0 d) = d := by
  induction n with
  | zero => intro d hn h; exact absurd (List.eq_nil_of_length_eq_zero hn) h.2.1
  | succ n ih =>
    intro d hn h
    obtain ⟨h1, h2, h3⟩ := h
    rcases List.eq_nil_or_concat d with e | ⟨d', c, e⟩
    · exact absurd e h2
    · rw [List.concat_eq_append] at e
      subst e
      have hc : 48 ≤ c.toNat ∧ c.toNat ≤ 57 := h1 c (by simp)
      have hv : dV c ≤ 9 := by unfold dV; omega
      rw [foldV_snoc]
      cases d' with
      | nil =>
        show decDigits (0 * 10 + dV c) = [c]
        rw [decDigits_one (by omega), show 48 + (0 * 10 + dV c) = 48 + dV c by omega, u8_dig hc]
      | cons x r =>
        have hx : 49 ≤ x.toNat := by
          rcases h3 with h3 | h3
          · simp at h3
          · exact h3 x (r ++ [c]) rfl
        have hlow := foldV_low (d := r) hx
        have hp : 0 < 10 ^ r.length := Nat.pow_pos (by decide)
        have hN : Num (x :: r) := ⟨fun y hy => h1 y (by simp at hy ⊢; rcases hy with hy | hy <;> simp [hy]), by simp, .inr (fun a b e => by injection e with e1 e2; subst e1; exact hx)⟩
        have := ih (x :: r) (by simp at hn ⊢; omega) hN
        rw [decDigits, dif_neg (by omega), show (foldV 0 (x :: r) * 10 + dV c) / 10 = foldV 0 (x :: r) by omega, show (foldV 0 (x :: r) * 10 + dV c) % 10 = dV c by omega, this, u8_dig hc]
end Go.Proofs.YtadefcohbkgbfabGreatDoor


namespace Go.Proofs.YtadefcohbkgbfabGreatDoor
open Go.RowKit Go.Lib

theorem cutB_cons {s : ByteArray} {i j : Nat} (hi : i < s.size) (hj : i < j) : cutB s i j = s[i] :: cutB s (i + 1) j := by
  unfold cutB
  rw [drop_at s i hi, show j - i = (j - (i + 1)) + 1 by omega, List.take_succ_cons]
theorem cutB_nil (s : ByteArray) (i : Nat) : cutB s i i = [] := by unfold cutB; simp
theorem cut_dg (s : ByteArray) : ∀ n i, s.size - i ≤ n → Dg (cutB s i (dg s i))
  | n, i, hn => by
    by_cases h : isDg (bt s i) = true
    · have hi : i < s.size := bt_in (by have := isDg_iff.1 h; omega)
      cases n with
      | zero => omega
      | succ n =>
        have h2 := dg_le (s := s) (i := i + 1) (by omega)
        rw [dg_on h, cutB_cons hi (by omega)]
        intro c hc
        rcases List.mem_cons.1 hc with rfl | hc
        · rw [bt_at s i hi] at h; exact isDg_iff.1 h
        · exact cut_dg s n (i + 1) (by omega) c hc
    · rw [dg_off h, cutB_nil]; intro c hc; cases hc
/-- The digits of a number. -/
theorem nm_digits {s : ByteArray} {i j : Nat} {l : List UInt8} (h : nm s i = some (l, j)) : j = nmE s i ∧ Num (cutB s (nmD s i) j) ∧ cutB s i j = (if bt s i = 45 then 45 :: cutB s (nmD s i) j else cutB s (nmD s i) j) ∧ l = norm0 (cutB s i j) := by
  have hk := nm_ok h
  unfold nm at h
  split at h
  · rename_i hd
    injection h with h; injection h with h1 h2
    have hdI := isDg_iff.1 hd
    have hlt : nmD s i < s.size := bt_in (by omega)
    have hbt := bt_at s (nmD s i) hlt
    subst h2
    refine ⟨rfl, ?_, ?_, h1.symm⟩
    · unfold nmE
      split
      · rename_i h48
        rw [cutB_cons hlt (by omega), cutB_nil]
        have e : s[nmD s i] = 48 := UInt8.toNat_inj.1 (by show _ = 48; omega)
        rw [e]
        exact ⟨by unfold Dg; decide, by simp, .inl rfl⟩
      · rename_i h48
        have h3 := dg_le (s := s) (i := nmD s i + 1) (by omega)
        refine ⟨cut_dg s _ _ (Nat.le_refl _), ?_, .inr ?_⟩
        · rw [dg_on hd, cutB_cons hlt (by omega)]; simp
        · intro c r e
          rw [dg_on hd, cutB_cons hlt (by omega)] at e
          injection e with e1 e2
          subst e1; omega
    · by_cases h45 : bt s i = 45
      · have hi : i < s.size := bt_in (by omega)
        have e : s[i] = 45 := UInt8.toNat_inj.1 (by show _ = 45; rw [← bt_at s i hi]; exact h45)
        have hD : nmD s i = i + 1 := by unfold nmD; rw [if_pos h45]
        rw [if_pos h45, cutB_cons hi (by omega), e, hD]
      · have hD : nmD s i = i := by unfold nmD; rw [if_neg h45]
        rw [if_neg h45, hD]
  · cases h
theorem norm0_num {d : List UInt8} (h : Num d) : norm0 d = d := by
  unfold norm0
  rw [if_neg]
  intro e
  have := h.1 45 (by rw [e]; simp)
  exact absurd this.1 (by decide)
theorem parse_num {d : List UInt8} (h : Num d) : parseUintB 64 d = if foldV 0 d ≤ 18446744073709551615 then .ok (foldV 0 d) else .range := by
  unfold parseUintB
  rw [if_neg h.2.1]
  exact parse_fold d h.1 0 (by decide)
theorem nm_parse {s : ByteArray} {i j : Nat} {l : List UInt8} (h : nm s i = some (l, j)) :
    (tooBig l = false → ∃ z : Int, parseIntB 64 (cutB s i j) = .ok z ∧ itoa z = l ∧ -9223372036854775808 ≤ z ∧ z ≤ 9223372036854775807) ∧ (tooBig l = true → parseIntB 64 (cutB s i j) = .range) := by
  obtain ⟨_, hN, hc, hl⟩ := nm_digits h
  generalize cutB s (nmD s i) j = d at *
  have hp := parse_num hN
  have hde := dec_fold d.length d rfl hN
  have p63 : (2 : Nat) ^ (64 - 1) = 9223372036854775808 := by decide
  by_cases h45 : bt s i = 45
  · rw [if_pos h45] at hc
    rw [hc] at hl ⊢
    rw [parseIntB_minus, hp]
    by_cases h0 : d = [48]
    · subst h0
      have e : l = [48] := by rw [hl]; unfold norm0; rw [if_pos rfl]
      subst e
      refine ⟨fun _ => ⟨0, by decide, by rw [show (0 : Int) = ((0 : Nat) : Int) from rfl, itoa_nonneg, decDigits_one (by decide)]; rfl, by decide, by decide⟩, fun hb => absurd hb (by decide)⟩
    · have e : l = 45 :: d := by
        rw [hl]; unfold norm0; rw [if_neg]
        intro e; injection e with _ e; exact h0 e
      subst e
      have ht : tooBig (45 :: d) = decide (9223372036854775808 < foldV 0 d) := by rw [tooBig, if_pos rfl, over_1 hN]
      rw [ht]
      have hpos : 1 ≤ foldV 0 d := by
        obtain ⟨h1, h2, h3⟩ := hN
        rcases h3 with h3 | h3
        · exact absurd h3 h0
        · cases d with
          | nil => exact absurd rfl h2
          | cons c r =>
            have := foldV_low (d := r) (h3 c r rfl)
            have hp : 0 < 10 ^ r.length := Nat.pow_pos (by decide)
            omega
      refine ⟨fun hb => ?_, fun hb => ?_⟩
      · have hb' := of_decide_eq_false hb
        rw [if_pos (by omega)]
        refine ⟨-((foldV 0 d : Nat) : Int), ?_, ?_, by omega, by omega⟩
        · show (if 2 ^ (64 - 1) < foldV 0 d then NumEnd.range else .ok (-((foldV 0 d : Nat) : Int))) = _
          rw [if_neg (by omega)]
        · rw [itoa_neg _ hpos, hde]
      · have hb' := of_decide_eq_true hb
        by_cases g : foldV 0 d ≤ 18446744073709551615
        · rw [if_pos g]
          show (if 2 ^ (64 - 1) < foldV 0 d then NumEnd.range else .ok (-((foldV 0 d : Nat) : Int))) = _
          rw [if_pos (by omega)]
        · rw [if_neg g]; rfl
  · rw [if_neg h45] at hc
    rw [hc] at hl ⊢
    rw [norm0_num hN] at hl
    subst hl
    cases hd : l with
    | nil => exact absurd hd hN.2.1
    | cons c r =>
      have hcd := hN.1 c (by rw [hd]; simp)
      rw [parseIntB_plain 64 c r (by omega) (by omega), ← hd, hp]
      have ht : tooBig l = decide (9223372036854775807 < foldV 0 l) := by
        rw [hd, tooBig, if_neg (by intro e; rw [e] at hcd; exact absurd hcd.1 (by decide)), ← hd, over_0 hN]
      rw [ht]
      refine ⟨fun hb => ?_, fun hb => ?_⟩
      · have hb' := of_decide_eq_false hb
        rw [if_pos (by omega)]
        refine ⟨((foldV 0 l : Nat) : Int), ?_, ?_, by omega, by omega⟩
        · show (if 2 ^ (64 - 1) ≤ foldV 0 l then NumEnd.range else .ok ((foldV 0 l : Nat) : Int)) = _
          rw [if_neg (by omega)]
        · rw [itoa_nonneg, hde]
      · have hb' := of_decide_eq_true hb
        by_cases g : foldV 0 l ≤ 18446744073709551615
        · rw [if_pos g]
          show (if 2 ^ (64 - 1) ≤ foldV 0 l then NumEnd.range else .ok ((foldV 0 l : Nat) : Int)) = _
          rw [if_pos (by omega)]
        · rw [if_neg g]; rfl
end Go.Proofs.YtadefcohbkgbfabGreatDoor


namespace Go.Proofs.YtadefcohbkgbfabGreatDoor
open Go.RowKit

set_option maxHeartbeats 800000 in
theorem hexDigit_walk (b : Nat) (hb : b < 256) (w : World) :
    Calls Tryz.prog 111 #[.int .u8 b] w fun e w' => w = w' ∧ e = (hx b).elim mis (fun v => .returned (.int .i32 v)) := by
  by_cases h1 : 48 ≤ b ∧ b ≤ 57
  · have HH : Hid (hx b = some (b - 48)) := by show _ = _; unfold hx; rw [if_pos h1]
    have a1 : (48 : Int) ≤ (b : Int) := by omega
    have a2 : (b : Int) ≤ 57 := by omega
    clear h1
    go_enter Tryz.func111, Tryz.ntmps111
    go_wp2
    go_ret
    refine ⟨rfl, ?_⟩
    rw [unhide HH]
    exact ret_int (by go_num)
  · by_cases h2 : 97 ≤ b ∧ b ≤ 102
    · have HH : Hid (hx b = some (b - 87)) := by show _ = _; unfold hx; rw [if_neg h1, if_pos h2]
      have a1 : (97 : Int) ≤ (b : Int) := by omega
      have a2 : (b : Int) ≤ 102 := by omega
      clear h1 h2
      go_enter Tryz.func111, Tryz.ntmps111
      go_wp2
      go_ret
      refine ⟨rfl, ?_⟩
      rw [unhide HH]
      exact ret_int (by go_num)
    · by_cases h3 : 65 ≤ b ∧ b ≤ 70
      · have HH : Hid (hx b = some (b - 55)) := by show _ = _; unfold hx; rw [if_neg h1, if_neg h2, if_pos h3]
        have a1 : (65 : Int) ≤ (b : Int) := by omega
        have a2 : (b : Int) ≤ 70 := by omega
        clear h1 h2 h3
        go_enter Tryz.func111, Tryz.ntmps111
        go_wp2
        go_ret
        refine ⟨rfl, ?_⟩
        rw [unhide HH]
        exact ret_int (by go_num)
      · have HH : Hid (hx b = none) := by show _ = _; unfold hx; rw [if_neg h1, if_neg h2, if_neg h3]
        clear HH
        have HH : Hid (hx b = none) := by show _ = _; unfold hx; rw [if_neg h1, if_neg h2, if_neg h3]
        rcases (show b < 48 ∨ (57 < b ∧ b < 65) ∨ (70 < b ∧ b < 97) ∨ 102 < b from by omega) with g | g | g | g
        · have a1 : (b : Int) < 48 := by omega
          clear h1 h2 h3 g
          go_enter Tryz.func111, Tryz.ntmps111
          go_wp2
          exact ⟨rfl, rfl, by rw [unhide HH]; rfl⟩
        · have a1 : (57 : Int) < (b : Int) := by omega
          have a2 : (b : Int) < 65 := by omega
          clear h1 h2 h3 g
          go_enter Tryz.func111, Tryz.ntmps111
          go_wp2
          exact ⟨rfl, rfl, by rw [unhide HH]; rfl⟩
        · have a1 : (70 : Int) < (b : Int) := by omega
          have a2 : (b : Int) < 97 := by omega
          clear h1 h2 h3 g
          go_enter Tryz.func111, Tryz.ntmps111
          go_wp2
          exact ⟨rfl, rfl, by rw [unhide HH]; rfl⟩
        · have a1 : (102 : Int) < (b : Int) := by omega
          clear h1 h2 h3 g
          go_enter Tryz.func111, Tryz.ntmps111
          go_wp2
          exact ⟨rfl, rfl, by rw [unhide HH]; rfl⟩

set_option maxHeartbeats 1600000 in
theorem hexNum_walk (rb : Nat) (s : ByteArray) (i : Nat) (tb kt : Bool) (w : World) (h : Rdr rb s i tb kt w) (hs : s.size ≤ 1048576) (hi : i ≤ s.size) :
    Calls Tryz.prog 102 #[.pointer (some ⟨rb, 0, none⟩)] w (Post rb s tb kt w ((hexN s i 4).map fun v : Nat => (.int .i32 (v : Int), i + 4))) := by
  have H := hide h
  clear h
  go_enter Tryz.func102, Tryz.ntmps102
  go_wp2
  go_loopw [3, 4] (fun n k wr => ∃ j v : Nat, j ≤ 4 ∧ i + j ≤ s.size ∧ v < 16 ^ j ∧ k = .int .i64 j ∧ n = .int .i32 v ∧ hexN s i j = some v ∧ Rdr rb s (i + j) tb kt wr ∧ KB rb w wr) (fun _ k _ => 4 - (intOf k).toNat)
  case atStart => exact ⟨0, 0, by omega, by omega, by decide, rfl, rfl, rfl, unhide H, KB.refl _ _⟩
  case round =>
    obtain ⟨j, v, hj, hij, hv16, rfl, rfl, hv, hr, hk⟩ := hrel
    have HV := hide hv
    have HR := hide hr
    clear hv hr
    by_cases h4 : j < 4
    · have hv65 : v < 65536 := by
        have : (16 : Nat) ^ j ≤ 16 ^ 3 := Nat.pow_le_pow_right (by decide) (by omega)
        omega
      have h4' : (j : Int) < 4 := by omega
      by_cases hin : i + j < s.size
      · have HN := hide (next_in rb s (i + j) tb kt wr (unhide HR) hs hin)
        have HD := hide (hexDigit_walk (bt s (i + j)) (bt_lt _ _))
        have hvI : (v : Int) < 65536 := by omega
        cases hx1 : hx (bt s (i + j)) with
        | some d =>
          have hd := hx_lt hx1
          have HX := hide (hexN_next (unhide HV) hx1)
          rw [hx1] at HD
          generalize bt s (i + j) = b at *
          clear hx1
          go_wp2_with fail
          refine (unhide HN).mono ?_
          rintro e w1 ⟨rfl, r1, k1⟩
          have R1 := hide r1
          clear r1
          go_wp2_with fail
          refine (unhide HD _).mono ?_
          rintro e w2 ⟨rfl, rfl⟩
          clear HN HD
          simp only [Option.elim]
          go_wp2
          go_roundw
          case rel => exact ⟨j + 1, v * 16 + d, by omega, by omega, by rw [Nat.pow_succ]; omega, by go_num, by go_num, unhide HX, unhide R1, hk.trans k1⟩
          case measure => simp [intOf]; omega
        | none =>
          have HX : Hid (hexN s i 4 = none) := hexN_none (hexN_bad hx1) (by omega)
          rw [hx1] at HD
          generalize bt s (i + j) = b at *
          clear hx1
          go_wp2_with fail
          refine (unhide HN).mono ?_
          rintro e w1 ⟨rfl, r1, k1⟩
          clear r1
          go_wp2_with fail
          refine (unhide HD _).mono ?_
          rintro e w2 ⟨rfl, rfl⟩
          clear HN HD
          exact ⟨rfl, hk.trans k1, by rw [unhide HX]; rfl⟩
      · have HX : Hid (hexN s i 4 = none) := hexN_none (hexN_bad (by rw [bt_out s (i + j) (by omega)]; rfl)) (show j + 1 ≤ 4 by omega)
        have HN := hide (next_out rb s (i + j) tb kt wr (unhide HR) (by omega))
        go_wp2_with fail
        refine (unhide HN).mono ?_
        rintro e w1 ⟨rfl, k1⟩
        clear HN
        exact ⟨rfl, hk.trans k1, by rw [unhide HX]; rfl⟩
    · have e4 : j = 4 := by omega
      subst e4
      go_wp2
      go_ret
      exact ⟨hk, by rw [unhide HV]; exact ⟨rfl, unhide HR⟩⟩

/-- The word at place i. -/
def isWord (s : ByteArray) (i : Nat) (wd : ByteArray) : Prop := ∀ k, k < wd.size → bt s (i + k) = bt wd k

set_option maxHeartbeats 1600000 in
theorem word_yes (rb : Nat) (s : ByteArray) (i : Nat) (tb kt : Bool) (w : World) (h : Rdr rb s i tb kt w) (hs : s.size ≤ 1048576) (wd : ByteArray) (hw : wd.size ≤ 1000) (hi : i + wd.size ≤ s.size) (hit : isWord s i wd) :
    Calls Tryz.prog 91 #[.pointer (some ⟨rb, 0, none⟩), .string wd] w fun e w' => e = .returned (.tuple #[]) ∧ Rdr rb s (i + wd.size) tb kt w' ∧ KB rb w w' := by
  have H := hide h
  have HIT := hide hit
  clear h hit
  go_enter Tryz.func91, Tryz.ntmps91
  go_wp2
  go_loopw [7] (fun k wr => ∃ j : Nat, j ≤ wd.size ∧ k = .int .i64 j ∧ Rdr rb s (i + j) tb kt wr ∧ KB rb w wr) (fun k _ => wd.size - (intOf k).toNat)
  case atStart => exact ⟨0, by omega, rfl, unhide H, KB.refl _ _⟩
  case round =>
    obtain ⟨j, hj, rfl, hr, hk⟩ := hrel
    have HR := hide hr
    clear hr
    by_cases hlt : j < wd.size
    · have e1 := (unhide HIT) j hlt
      have HE : Hid (Calls Tryz.prog 49 #[.pointer (some ⟨rb, 0, none⟩), .int .u8 (wd[j].toNat : Int)] wr fun e w' => e = .returned (.tuple #[]) ∧ Rdr rb s (i + j + 1) tb kt w' ∧ KB rb wr w') :=
        expect_yes rb s (i + j) tb kt wr (unhide HR) hs wd[j].toNat (by rw [e1, bt_at wd j hlt]) (by omega)
      clear e1
      go_wp2_with fail
      refine (unhide HE).mono ?_
      rintro e w1 ⟨rfl, r1, k1⟩
      have R1 := hide r1
      clear r1 HE
      go_wp2
      go_roundw
      case rel => exact ⟨j + 1, by omega, by go_num, unhide R1, hk.trans k1⟩
      case measure => simp [intOf]; omega
    · have e4 : j = wd.size := by omega
      subst e4
      go_wp2
      go_end0
      exact ⟨rfl, unhide HR, hk⟩

set_option maxHeartbeats 1600000 in
theorem word_no (rb : Nat) (s : ByteArray) (i : Nat) (tb kt : Bool) (w : World) (h : Rdr rb s i tb kt w) (hs : s.size ≤ 1048576) (wd : ByteArray) (hw : wd.size ≤ 1000) (hz : ∀ k, k < wd.size → bt wd k ≠ 0) (hi : i ≤ s.size) (hit : ¬ isWord s i wd) :
    Calls Tryz.prog 91 #[.pointer (some ⟨rb, 0, none⟩), .string wd] w fun e w' => e = mis ∧ KB rb w w' := by
  have H := hide h
  have HIT := hide hit
  have HZ := hide hz
  clear h hit hz
  go_enter Tryz.func91, Tryz.ntmps91
  go_wp2
  go_loopw [7] (fun k wr => ∃ j : Nat, j ≤ wd.size ∧ i + j ≤ s.size ∧ k = .int .i64 j ∧ (∀ m, m < j → bt s (i + m) = bt wd m) ∧ Rdr rb s (i + j) tb kt wr ∧ KB rb w wr) (fun k _ => wd.size - (intOf k).toNat)
  case atStart => exact ⟨0, by omega, hi, rfl, by omega, unhide H, KB.refl _ _⟩
  case round =>
    obtain ⟨j, hj, hij, rfl, hm, hr, hk⟩ := hrel
    have HR := hide hr
    have HM := hide hm
    clear hr hm
    by_cases hlt : j < wd.size
    · by_cases e1 : bt s (i + j) = bt wd j
      · have hin : i + j < s.size := bt_in (by rw [e1]; exact (unhide HZ) j hlt)
        have HE : Hid (Calls Tryz.prog 49 #[.pointer (some ⟨rb, 0, none⟩), .int .u8 (wd[j].toNat : Int)] wr fun e w' => e = .returned (.tuple #[]) ∧ Rdr rb s (i + j + 1) tb kt w' ∧ KB rb wr w') :=
          expect_yes rb s (i + j) tb kt wr (unhide HR) hs wd[j].toNat (by rw [e1, bt_at wd j hlt]) hin
        have HM1 : Hid (∀ m, m < j + 1 → bt s (i + m) = bt wd m) := fun m hm => by
          rcases Nat.lt_or_ge m j with g | g
          · exact (unhide HM) m g
          · have : m = j := by omega
            subst this; exact e1
        clear e1
        go_wp2_with fail
        refine (unhide HE).mono ?_
        rintro e w1 ⟨rfl, r1, k1⟩
        have R1 := hide r1
        clear r1 HE
        go_wp2
        go_roundw
        case rel => exact ⟨j + 1, by omega, by omega, by go_num, unhide HM1, unhide R1, hk.trans k1⟩
        case measure => simp [intOf]; omega
      · have HE : Hid (Calls Tryz.prog 49 #[.pointer (some ⟨rb, 0, none⟩), .int .u8 (wd[j].toNat : Int)] wr fun e w' => e = mis ∧ KB rb wr w') :=
          expect_no rb s (i + j) tb kt wr (unhide HR) hs hij wd[j].toNat (.inl (by rw [bt_at wd j hlt] at e1; exact e1))
        clear e1
        go_wp2_with fail
        refine (unhide HE).mono ?_
        rintro e w1 ⟨rfl, k1⟩
        clear HE
        exact ⟨rfl, rfl, hk.trans k1⟩
    · exfalso
      refine (unhide HIT) fun k hk' => (unhide HM) k (by omega)
end Go.Proofs.YtadefcohbkgbfabGreatDoor

