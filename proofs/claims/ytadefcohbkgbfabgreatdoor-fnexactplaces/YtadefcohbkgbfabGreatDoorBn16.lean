import Derived.Deep.CutRange
import Derived.Deep.LoopGhost
import Derived.Test.YtadefcohbkgbfabGreatDoorBn15
import Derived.Test.YtadefcohbkgbfabGreatDoorBn6
import Derived.Test.YtadefcohbkgbfabGreatDoorBn12
import Derived.Test.YtadefcohbkgbfabGreatDoorBn8
import Derived.Test.YtadefcohbkgbfabGreatDoorBn10
namespace Go.Proofs.YtadefcohbkgbfabGreatDoor
open Go.RowKit

theorem sumT_ge (l : List Part) : l.length ≤ sumT l := by
  induction l with
  | nil => simp
  | cons p r ih => simp [sumT] at *; omega
theorem hasK_keys (acc : JM) (k : List UInt8) : hasK (ctM acc) k = (keysM acc).contains k := by unfold hasK; rw [ctM_keys]
theorem PR.other {w : World} {B : Nat} {v : Value} {ps : List Part} (h : PR w B v ps) {p : Addr} (hp : p.block < B) (u : Value) : PR (w.setCell p u) B v ps := by
  refine ⟨h.1, ?_⟩
  rcases h.2 with h0 | ⟨g, cap, cur, hv, hB, hg, r⟩
  · exact .inl h0
  · exact .inr ⟨g, cap, cur, hv, hB, (Below.heap_setCell w p u g (by omega)).trans hg, r⟩

set_option maxRecDepth 100000 in
set_option maxHeartbeats 8000000 in
theorem obj_walk (s : ByteArray) (i : Nat) (w : World) (hs : s.size ≤ 100000) (hi : i < s.size) (h123 : bt s i = 123)
    (IH : ∀ (j : Nat) (w : World), i < j → j ≤ s.size → Calls Tryz.prog 35 #[.string s, .int .i64 j] w (GP w (val s j))) :
    Calls Tryz.prog 57 #[.string s, .int .i64 i] w (GP w (val s i)) := by
  obtain ⟨i0, hi0, hz0, hz1, hz2⟩ := info_parts infoPart
  have HSM := hide (small1 s (by omega))
  have HSTR : Hid (∀ (j : Nat) w, j ≤ s.size + 1 → Calls Tryz.prog 58 #[.string s, .int .i64 j] w (SPost s w (strQ s j))) := fun j w hj => l1String_walk s j w (by omega) hj
  have g0 := sk_ge s (i + 1)
  have g1 := (sk_le (s := s) (i := i + 1) (by omega)).2
  have HV := hide (val_obj h123)
  have HIH := hide IH
  clear IH
  generalize hk0 : sk s (i + 1) = k0 at *
  go_enter Tryz.func57, Tryz.ntmps57
  go_wp2_with fail
  refine ((unhide HSM).1 _ (i + 1) _ (by omega)).mono ?_
  rintro e w1 ⟨rfl, rfl⟩
  rw [hk0]
  go_wp2_with fail
  refine ((unhide HSM).2 125 k0 _ (by decide)).mono ?_
  rintro e w1 ⟨rfl, rfl⟩
  clear hk0
  by_cases h125 : bt s k0 = 125
  · rw [decide_eq_true h125]
    have HR : Hid (val s i = some (.obj .nil, k0 + 1)) := by show _ = _; rw [unhide HV, if_pos h125]
    clear h125 HV
    go_wp2
    go_returns
    rw [unhide HR]
    exact ⟨((alloc_below w _).trans ((Below.refl _ _).alloc (by simp) _)).trans ((Below.refl _ _).alloc (by simp; omega) _), rfl⟩
  · rw [decide_eq_false h125]
    have HR : Hid (val s i = (mems s k0).map fun q => (.obj q.1, q.2)) := by show _ = _; rw [unhide HV, if_neg h125]
    clear h125 HV h123
    go_wp2_with fail
    go_loopg [1, 6] (s.size + 1 - k0) (fun gk k pr wr => ∃ (j : Nat) (acc : JM), gk = s.size + 1 - j ∧ k = .int .i64 (j : Int) ∧ k0 ≤ j ∧ j ≤ s.size ∧ Got w.heap.size ⟨#[]⟩ 0 false false false wr ∧ Got (w.heap.size + 1) ⟨#[]⟩ 0 true (bigM acc) (twM [] acc) wr ∧ PR wr (w.heap.size + 2) pr (ctM acc) ∧ Below w.heap.size w wr ∧ sumT (ctM acc) ≤ 31 * j ∧ (∀ p ∈ ctM acc, p.1.length ≤ 1048576) ∧ mems s k0 = (mems s j).map fun q => (acc.app q.1, q.2))
    case atStart =>
      refine ⟨k0, .nil, rfl, rfl, Nat.le_refl _, g1, ?_, ?_, ?_, ((alloc_below w _).trans ((Below.refl _ _).alloc (by simp) _)).trans ((Below.refl _ _).alloc (by simp; omega) _), by simp [ctM, sumT], by simp [ctM], by simp [JM.app]⟩
      · show (World.alloc _ _).heap[_]? = _
        rw [Lib.alloc_old _ _ _ (by simp; omega), Lib.alloc_old _ _ _ (by simp)]; exact heap_alloc_new w _
      · show (World.alloc _ _).heap[_]? = _
        rw [Lib.alloc_old _ _ _ (by simp)]
        have := heap_alloc_new (w.alloc (gotB ⟨#[]⟩ 0 false false false)) (gotB ⟨#[]⟩ 0 true false false)
        rw [show (w.alloc (gotB ⟨#[]⟩ 0 false false false)).heap.size = w.heap.size + 1 from by simp] at this
        exact this
      · refine ⟨rfl, .inr ⟨w.heap.size + 2, 0, #[], rfl, Nat.le_refl _, ?_, Nat.le_refl _, by unfold maxLen; omega, rfl, rfl⟩⟩
        have := heap_alloc_new ((w.alloc (gotB ⟨#[]⟩ 0 false false false)).alloc (gotB ⟨#[]⟩ 0 true false false)) (.cells #[] 102)
        rw [show ((w.alloc (gotB ⟨#[]⟩ 0 false false false)).alloc (gotB ⟨#[]⟩ 0 true false false)).heap.size = w.heap.size + 2 from by simp] at this
        exact this
    case round =>
      obtain ⟨j, acc, hg, rfl, hj1, hj2, hr, hgot, hpr, hb, hsl, hkl, hst⟩ := hrel
      have HST := hide hst
      have HG := hide hgot
      have HRR := hide hr
      have HP := hide hpr
      have HB := hide hb
      have HKL := hide hkl
      have hwsz := hb.size
      have hgl := hgot.lt
      clear hst hgot hr hb hpr hkl
      have HC := hide (unhide HSTR j wr (by omega))
      cases hq : strQ s j with
      | none =>
        have HN : Hid (val s i = none) := by
          show _ = _
          rw [unhide HR, unhide HST, mems_eq, hq]; rfl
        rw [hq] at HC
        clear hq
        go_wp2_with fail
        refine (unhide HC).mono ?_
        rintro e w2 ⟨b2, t, k, hk, _, rfl⟩
        have R2 := (unhide HRR).below b2
        have B2 := below_next (unhide HB) b2
        clear HC HRR HB
        go_wp2_with fail
        refine ((unhide HSM).1 _ k _ rfl).mono ?_
        rintro e w3 ⟨rfl, rfl⟩
        obtain ⟨r0, r1, r2, r3, r4⟩ := R2.cells
        obtain ⟨q0, q1, q2, q3, q4⟩ := R2.fzs
        have RX := hide (R2.put ⟨#[]⟩ 0 0 rfl false false false)
        have BX := hide (below_put B2 (Nat.le_refl _) (.string ⟨#[]⟩) (.int .i64 0) (.bool false) (.bool false) (.bool false))
        clear R2 B2
        go_wp2
        try simp only [Exit.inBlock, Exit.then]
        refine bodyPost_ret (got_ret rfl rfl (unhide RX)) rfl ?_
        exact GP.bad (unhide HN) (unhide BX)
      | some q =>
        obtain ⟨key, a⟩ := q
        have hqo := strQ_ok hq
        have hql := strQ_len hq
        have HM : Hid (mems s k0 = (if bt s (sk s a) = 58 then (val s (sk s (sk s a + 1))).bind fun q =>
            if bt s (sk s q.2) = 125 then some (JM.cons key q.1 .nil, sk s q.2 + 1)
            else if bt s (sk s q.2) = 44 then (mems s (sk s (sk s q.2 + 1))).map fun r => (JM.cons key q.1 r.1, r.2)
            else none else none).map fun q => (acc.app q.1, q.2)) := by
          show _ = _
          rw [unhide HST, mems_eq, hq]; rfl
        rw [hq] at HC
        have hn1 := sk_ge s a
        have hn2 := (sk_le hqo.2).2
        clear hq HST
        go_wp2_with fail
        refine (unhide HC).mono ?_
        rintro e w2 ⟨b2, rfl⟩
        have R2 := (unhide HRR).below b2
        have G2 := (unhide HG).below b2
        have P2 := (unhide HP).below b2
        have B2 := below_next (unhide HB) b2
        have hw2 := b2.size
        clear HC HRR HB HG HP b2
        go_wp2_with fail
        refine ((unhide HSM).1 _ a _ rfl).mono ?_
        rintro e w3 ⟨rfl, rfl⟩
        generalize hsk : sk s a = ka at *
        go_wp2_with fail
        refine ((unhide HSM).2 58 ka _ (by decide)).mono ?_
        rintro e w3 ⟨rfl, rfl⟩
        by_cases h58 : bt s ka = 58
        · rw [decide_eq_true h58]
          rw [if_pos h58] at HM
          have hka : ka < s.size := bt_in (by omega)
          have gs1 := sk_ge s (ka + 1)
          have gs2 := (sk_le (s := s) (i := ka + 1) (by omega)).2
          clear h58 hsk
          go_wp2_with fail
          refine ((unhide HSM).1 _ (ka + 1) _ (by omega)).mono ?_
          rintro e w3 ⟨rfl, rfl⟩
          generalize sk s (ka + 1) = kv at *
          have HC := hide (unhide HIH kv w2 (by omega) (by omega))
          cases hv : val s kv with
          | none =>
            have HN : Hid (val s i = none) := by
              show _ = _
              rw [unhide HR, unhide HM, hv]; rfl
            rw [hv] at HC
            clear hv
            go_wp2_with fail
            refine (unhide HC).mono ?_
            rintro e w3 ⟨b3, t, n, bb, tw, rfl⟩
            have R3 := (R2.below b3).alloc (gotB t n false bb tw)
            have B3 : Below w.heap.size w (w3.alloc (gotB t n false bb tw)) := (below_next B2 b3).alloc (by have := b3.size; omega) _
            obtain ⟨r0, r1, r2, r3, r4⟩ := R3.cells
            obtain ⟨q0, q1, q2, q3, q4⟩ := R3.fzs
            have RX := hide (R3.put ⟨#[]⟩ 0 0 rfl false false false)
            have BX := hide (below_put B3 (Nat.le_refl _) (.string ⟨#[]⟩) (.int .i64 0) (.bool false) (.bool false) (.bool false))
            clear HC R2 R3 B2 B3 G2 P2
            simp only [gotV]
            go_wp2
            try simp only [Exit.inBlock, Exit.then]
            refine bodyPost_ret (got_ret rfl rfl (unhide RX)) rfl ?_
            exact GP.bad (unhide HN) (unhide BX)
          | some q =>
            obtain ⟨v, n⟩ := q
            have hvo := val_ok hv
            have hvl := val_len hv
            have HM2 : Hid (mems s k0 = (if bt s (sk s n) = 125 then some (JM.cons key v .nil, sk s n + 1) else if bt s (sk s n) = 44 then (mems s (sk s (sk s n + 1))).map fun r => (JM.cons key v r.1, r.2) else none).map fun q => (acc.app q.1, q.2)) := by
              show _ = _
              rw [unhide HM, hv]; rfl
            rw [hv] at HC
            have hsn1 := sk_ge s n
            have hsn2 := (sk_le hvo.2).2
            clear hv HM
            have HBB : Hid (bigM (acc.app (.cons key v .nil)) = (bigM acc || bigV v)) := by show _ = _; rw [bigM_app]; simp [bigM]
            have HTT : Hid (twM [] (acc.app (.cons key v .nil)) = ((twM [] acc || twV v) || hasK (ctM acc) key)) := by
              show _ = _
              rw [twM_app, hasK_keys]; simp [twM, Bool.or_assoc]
            have HCT : Hid (ctM (acc.app (.cons key v .nil)) = ctM acc ++ [(key, ct v)]) := by show _ = _; rw [ctM_app]; simp [ctM]
            go_wp2_with fail
            refine (unhide HC).mono ?_
            rintro e w3 ⟨b3, rfl⟩
            simp only [gotV]
            have R4 := hide ((R2.below b3).alloc (gotB (strOf (ct v)) n true (bigV v) (twV v)))
            have G4 := hide ((G2.below b3).alloc (gotB (strOf (ct v)) n true (bigV v) (twV v)))
            have P4 := hide ((P2.below b3).below (alloc_below w3 (gotB (strOf (ct v)) n true (bigV v) (twV v))))
            have V4 : Hid (Got w3.heap.size (strOf (ct v)) n true (bigV v) (twV v) (w3.alloc (gotB (strOf (ct v)) n true (bigV v) (twV v)))) := heap_alloc_new w3 _
            have B4 : Hid (Below w.heap.size w (w3.alloc (gotB (strOf (ct v)) n true (bigV v) (twV v)))) := (below_next B2 b3).alloc (by have := b3.size; omega) _
            have hw3 := b3.size
            have hgl2 := G2.lt
            clear HC R2 G2 P2 B2 b3
            simp only [gotB] at G4 V4 R4 B4 P4
            generalize bigV v = bv at *
            generalize twV v = tv at *
            generalize hbm : bigM acc = ba at *
            generalize htm : twM [] acc = ta at *
            generalize hfk : hasK (ctM acc) key = fk at *
            have vok := (unhide V4).c2
            generalize hw4 : w3.alloc (.cells #[.string (strOf (ct v)), .int .i64 (n : Int), .bool true, .bool bv, .bool tv] 58 (0, 0)) = w4 at *
            have hvg : w3.heap.size ≠ w.heap.size + 1 := by omega
            go_upto_region 13 with fail
            go_cut [] from 23 to 102 (fun wx => wx = w4.setCell ⟨w.heap.size + 1, 3, none⟩ (.bool (ba || bv)))
            case first =>
              have g3 := (unhide G4).c3
              have v3 := (unhide V4).c3
              have f3 := (unhide G4).fz 3
              cases ba
              · go_wp2
                go_meet
                case rel => rfl
              · go_wp2
                go_meet
                case rel => rfl
            case rest =>
              have G5 : Hid (Got (w.heap.size + 1) ⟨#[]⟩ 0 true (ba || bv) ta wc) := hcut ▸ (unhide G4).set3 (ba || bv)
              have R5 : Hid (Got w.heap.size ⟨#[]⟩ 0 false false false wc) := hcut ▸ (unhide R4).other (p := ⟨w.heap.size + 1, 3, none⟩) (by show _ ≠ w.heap.size + 1; omega) _
              have V5 : Hid (Got w3.heap.size (strOf (ct v)) n true bv tv wc) := hcut ▸ (unhide V4).other (p := ⟨w.heap.size + 1, 3, none⟩) hvg _
              have P5 : Hid (PR wc (w.heap.size + 2) u6 (ctM acc)) := hcut ▸ (unhide P4).other (p := ⟨w.heap.size + 1, 3, none⟩) (by show w.heap.size + 1 < _; omega) _
              have B5 : Hid (Below w.heap.size w wc) := hcut ▸ (unhide B4).setCell (p := ⟨w.heap.size + 1, 3, none⟩) (by show _ ≤ w.heap.size + 1; omega) _
              clear hcut G4 R4 V4 P4 B4 vok hw4
              generalize (ba || bv) = bb at *
              have HFI : Hid (Calls Tryz.prog 75 #[u6, .string (strOf key)] wc fun e w' => ∃ z : Int, e = .returned (.int .i64 z) ∧ decide ((0 : Int) ≤ z) = fk ∧ wc = w') := by
                have h := find_walk (w.heap.size + 2) u6 (ctM acc) key wc (unhide P5) (by have := sumT_ge (ctM acc); omega)
                rw [hfk] at h
                exact h
              go_upto_region 14 with fail
              go_cut [] from 23 to 102 (fun wx => wx = wc.setCell ⟨w.heap.size + 1, 4, none⟩ (.bool ((ta || tv) || fk)))
              case first =>
                have g3 := (unhide G5).c4
                have v3 := (unhide V5).c4
                have f3 := (unhide G5).fz 4
                cases ta
                · cases tv
                  · go_wp2_with fail
                    refine (unhide HFI).mono ?_
                    rintro e w6 ⟨z, rfl, hz, rfl⟩
                    go_wp2
                    go_meet
                    case rel => rw [← hz]; simp
                  · go_wp2
                    go_meet
                    case rel => rfl
                · go_wp2
                  go_meet
                  case rel => rfl
              case rest =>
                have G6 : Hid (Got (w.heap.size + 1) ⟨#[]⟩ 0 true bb ((ta || tv) || fk) wc) := hcut ▸ (unhide G5).set4 ((ta || tv) || fk)
                have R6 : Hid (Got w.heap.size ⟨#[]⟩ 0 false false false wc) := hcut ▸ (unhide R5).other (p := ⟨w.heap.size + 1, 4, none⟩) (by show _ ≠ w.heap.size + 1; omega) _
                have V6 : Hid (Got w3.heap.size (strOf (ct v)) n true bv tv wc) := hcut ▸ (unhide V5).other (p := ⟨w.heap.size + 1, 4, none⟩) hvg _
                have P6 : Hid (PR wc (w.heap.size + 2) u6 (ctM acc)) := hcut ▸ (unhide P5).other (p := ⟨w.heap.size + 1, 4, none⟩) (by show w.heap.size + 1 < _; omega) _
                have B6 : Hid (Below w.heap.size w wc) := hcut ▸ (unhide B5).setCell (p := ⟨w.heap.size + 1, 4, none⟩) (by show _ ≤ w.heap.size + 1; omega) _
                clear hcut G5 R5 V5 P5 B5 HFI hfk
                generalize ((ta || tv) || fk) = tt at *
                have v0 := (unhide V6).c0
                have hw6 := (unhide V6).lt
                have own6 : wc.ownsRow (w.heap.size + 2) 102 2 u6 (ctM acc).length ((ctM acc).flatMap partC) := unhide P6
                have hcl := sumT_ge (ctM acc)
                have hne6 : ∀ k, u6.ownBlock = some k → w.heap.size + 2 ≤ k ∧ k ≠ w3.heap.size := fun k hk => by
                  refine ⟨(own6.lt k hk).1, fun e => ?_⟩
                  subst e
                  rcases own6.2 with ⟨hv, _⟩ | ⟨gg, cap, cur, hv, _, hgg, _⟩
                  · rw [hv] at hk; cases hk
                  · rw [hv] at hk
                    injection hk with hk
                    rw [show gg = w3.heap.size from hk, unhide V6] at hgg
                    injection hgg with hgg
                    injection hgg with _ h2
                    exact absurd h2 (by decide)
                have HNE := hide hne6
                clear hne6
                go_wp2_with (at_builtin; refine wpList_append_own _ rfl (.tmp 72) (.tmp 77) 99 rfl (w.heap.size + 2) 102 i0 (.agg #[.string ByteArray.empty, .string ByteArray.empty]) 2 32 Tryz.underlying99 hi0 hz0 hz1 hz2 rfl (by decide) _ _ _ rfl (own6.alloc _) ⟨wc.heap.size, 0, none⟩ 1 1 (partC (key, ct v)) rfl rfl (lit2s _ _ _ _) (fun u hu => by { simp [partC] at hu; rcases hu with rfl | rfl <;> rfl }) (by unfold maxLen; omega) (by omega) (by simp; omega) ?_; intro v7 w7 own7 hg7 _; have hg8 : (wc.alloc (.cells #[.string (strOf key), .string (strOf (ct v))] 102)).grownBy w7 u6.ownBlock := hg7; have keep : ∀ k, k < wc.heap.size → some k ≠ u6.ownBlock → w7.heap[k]? = wc.heap[k]? := (fun k hk hn => (hg8.block k (by simp; omega) hn).trans (Lib.alloc_old wc _ k hk)); have G7 : Hid (Got (w.heap.size + 1) ⟨#[]⟩ 0 true bb tt w7) := (keep _ (unhide G6).lt (fun e => by have := (unhide HNE _ e.symm).1; omega)).trans (unhide G6); have R7 : Hid (Got w.heap.size ⟨#[]⟩ 0 false false false w7) := (keep _ (unhide R6).lt (fun e => by have := (unhide HNE _ e.symm).1; omega)).trans (unhide R6); have V7 : Hid (Got w3.heap.size (strOf (ct v)) n true bv tv w7) := (keep _ (unhide V6).lt (fun e => (unhide HNE _ e.symm).2 rfl)).trans (unhide V6); have P7 : Hid (PR w7 (w.heap.size + 2) v7 (ctM acc ++ [(key, ct v)])) := (by show PR w7 (w.heap.size + 2) v7 (ctM acc ++ [(key, ct v)]); unfold PR; rw [List.length_append, List.flatMap_append]; simpa using own7); have B7 : Hid (Below w.heap.size w w7) := ((unhide B6).alloc (by omega) _).grown hg8 (by simp; omega) (fun k hk => by have := (unhide HNE k hk).1; omega); have v71 := (unhide V7).c1; clear own7 hg7 hg8 keep own6 G6 R6 V6 P6 B6 HNE v0)
                refine ((unhide HSM).1 _ n _ rfl).mono ?_
                rintro e w8 ⟨rfl, rfl⟩
                clear v71 V7
                rw [← unhide HCT] at P7
                have hsl2 : sumT (ctM (acc.app (.cons key v .nil))) ≤ 31 * sk s n := by
                  rw [unhide HCT, sumT_app]
                  have e2 : sumT [(key, ct v)] = (quoted key).length + 1 + (ct v).length + 1 := by simp [sumT, memT]; omega
                  have := quoted_len key
                  omega
                have hkl2 : Hid (∀ p ∈ ctM (acc.app (.cons key v .nil)), p.1.length ≤ 1048576) := fun p hp => by
                  rw [unhide HCT] at hp
                  rcases List.mem_append.1 hp with hp | hp
                  · exact unhide HKL p hp
                  · simp at hp; subst hp; show key.length ≤ _; omega
                generalize sk s n = k at *
                generalize hA2 : acc.app (.cons key v .nil) = acc2 at *
                go_wp2_with fail
                refine ((unhide HSM).2 125 k _ (by decide)).mono ?_
                rintro e w8 ⟨rfl, rfl⟩
                by_cases h125 : bt s k = 125
                · rw [decide_eq_true h125]
                  have HVV : Hid (val s i = some (.obj acc2, k + 1)) := by
                    show _ = _
                    rw [unhide HR, unhide HM2, if_pos h125, ← hA2]; rfl
                  have HSO := hide (sorted_walk _ _ _ _ (unhide P7) (by have := sumT_ge (ctM acc2); omega))
                  clear h125 HM2
                  go_wp2_with fail
                  refine (unhide HSO).mono ?_
                  rintro e w9 ⟨v9, rfl, p9, b9⟩
                  have HMK := hide (make_walk _ _ _ _ p9 (by rw [sumT_isort]; omega) (by have := sumT_ge (isort (ctM acc2)); rw [sumT_isort] at this; omega) (fun p hp => by
                    have : p ∈ ctM acc2 := by
                      have hm := isort_perm (ctM acc2)
                      exact hm.mem_iff.1 hp
                    exact unhide hkl2 p this))
                  have G9 := (unhide G7).below b9
                  have R9 := (unhide R7).below b9
                  have B9 := below_next (unhide B7) b9
                  clear HSO p9 b9 G7 R7 B7 P7
                  go_wp2_with fail
                  refine (unhide HMK).mono ?_
                  rintro e w10 ⟨rfl, b10⟩
                  have G10 := G9.below b10
                  have R10 := R9.below b10
                  have B10 := below_next B9 b10
                  clear G9 R9 B9 b10 HMK
                  have HSF : Hid (strOf (ct (.obj acc2)) = strOf (mkO (isort (ctM acc2)))) := by show _ = _; rw [ct]
                  generalize strOf (mkO (isort (ctM acc2))) = sf at *
                  have c0 := G10.c0
                  have f0 := G10.fz 0
                  have G11 := G10.set0 sf
                  have c71 := G11.c1
                  have f71 := G11.fz 1
                  have G12 := G11.set1 ((k : Int) + 1) (k + 1) (by omega)
                  have R12 := (R10.other (p := ⟨w.heap.size + 1, 0, none⟩) (by show _ ≠ w.heap.size + 1; omega) (.string sf)).other (p := ⟨w.heap.size + 1, 1, none⟩) (by show _ ≠ w.heap.size + 1; omega) (.int .i64 ((k : Int) + 1))
                  have B12 := (B10.setCell (p := ⟨w.heap.size + 1, 0, none⟩) (by show _ ≤ w.heap.size + 1; omega) (.string sf)).setCell (p := ⟨w.heap.size + 1, 1, none⟩) (by show _ ≤ w.heap.size + 1; omega) (.int .i64 ((k : Int) + 1))
                  obtain ⟨a0, a1', a2, a3, a4⟩ := G12.cells
                  have a1 := a1'.trans (show _ = some (Value.int .i64 ((k : Int) + 1)) by rw [show ((k + 1 : Nat) : Int) = (k : Int) + 1 from by omega])
                  obtain ⟨r0, r1, r2, r3, r4⟩ := R12.cells
                  obtain ⟨q0, q1, q2, q3, q4⟩ := R12.fzs
                  have RX := hide (R12.copyTo G12 ((k : Int) + 1) (by omega))
                  have BX := hide (fun a b c d e => below_put B12 (Nat.le_refl _) a b c d e)
                  clear a1' G10 G11 G12 R10 R12 B10 B12 HR
                  go_wp2
                  try simp only [Exit.inBlock, Exit.then]
                  refine bodyPost_ret (got_ret rfl rfl (unhide RX)) rfl ?_
                  rw [unhide HVV]
                  refine ⟨unhide BX _ _ _ _ _, ?_⟩
                  show _ = Ending.returned (gotV (strOf (ct (.obj acc2))) (k + 1) true (bigM acc2) (twM [] acc2))
                  rw [unhide HSF, unhide HBB, unhide HTT]
                · rw [decide_eq_false h125]
                  go_wp2_with fail
                  refine ((unhide HSM).2 44 k _ (by decide)).mono ?_
                  rintro e w8 ⟨rfl, rfl⟩
                  by_cases h44 : bt s k = 44
                  · rw [decide_eq_true h44]
                    have hkl : k < s.size := bt_in (by omega)
                    have HST2 : Hid (mems s k0 = (mems s (sk s (k + 1))).map fun q => (acc2.app q.1, q.2)) := by
                      show _ = _
                      rw [unhide HM2, if_neg h125, if_pos h44, Option.map_map, ← hA2]
                      congr 1
                      funext q
                      simp [JM.app_assoc, JM.app]
                    have hs1 := sk_ge s (k + 1)
                    have hs2 := (sk_le (s := s) (i := k + 1) (by omega)).2
                    clear HM2 h125 h44
                    go_wp2_with fail
                    refine ((unhide HSM).1 _ (k + 1) _ (by omega)).mono ?_
                    rintro e w9 ⟨rfl, rfl⟩
                    go_wp2
                    go_roundg (s.size + 1 - sk s (k + 1))
                    case rel => exact ⟨sk s (k + 1), acc2, rfl, rfl, by omega, hs2, unhide R7, by rw [unhide HBB, unhide HTT]; exact unhide G7, unhide P7, unhide B7, by omega, unhide hkl2, unhide HST2⟩
                    case measure => omega
                  · rw [decide_eq_false h44]
                    have HN : Hid (val s i = none) := by
                      show _ = _
                      rw [unhide HR, unhide HM2, if_neg h125, if_neg h44]; rfl
                    have R6 := unhide R7
                    obtain ⟨r0, r1, r2, r3, r4⟩ := R6.cells
                    obtain ⟨q0, q1, q2, q3, q4⟩ := R6.fzs
                    have RX := hide (R6.put ⟨#[]⟩ 0 0 rfl false false false)
                    have BX := hide (below_put (unhide B7) (Nat.le_refl _) (.string ⟨#[]⟩) (.int .i64 0) (.bool false) (.bool false) (.bool false))
                    clear R6 G7 R7 B7 P7 HM2 h125 h44
                    go_wp2
                    try simp only [Exit.inBlock, Exit.then]
                    refine bodyPost_ret (got_ret rfl rfl (unhide RX)) rfl ?_
                    exact GP.bad (unhide HN) (unhide BX)
        · rw [decide_eq_false h58]
          have HN : Hid (val s i = none) := by
            show _ = _
            rw [unhide HR, unhide HM, if_neg h58]; rfl
          obtain ⟨r0, r1, r2, r3, r4⟩ := R2.cells
          obtain ⟨q0, q1, q2, q3, q4⟩ := R2.fzs
          have RX := hide (R2.put ⟨#[]⟩ 0 0 rfl false false false)
          have BX := hide (below_put B2 (Nat.le_refl _) (.string ⟨#[]⟩) (.int .i64 0) (.bool false) (.bool false) (.bool false))
          clear R2 B2 G2 P2 h58
          go_wp2
          try simp only [Exit.inBlock, Exit.then]
          refine bodyPost_ret (got_ret rfl rfl (unhide RX)) rfl ?_
          exact GP.bad (unhide HN) (unhide BX)
end Go.Proofs.YtadefcohbkgbfabGreatDoor


namespace Go.Proofs.YtadefcohbkgbfabGreatDoor
open Go.RowKit

theorem cut4 {s : ByteArray} {i : Nat} (h : i + 4 ≤ s.size) : cutB s i (i + 4) = [s.data.toList.getD i 0, s.data.toList.getD (i + 1) 0, s.data.toList.getD (i + 2) 0, s.data.toList.getD (i + 3) 0] := by
  have e : ∀ k, i + k < s.size → s.data.toList.drop (i + k) = s.data.toList.getD (i + k) 0 :: s.data.toList.drop (i + k + 1) := fun k hk => by
    rw [drop_at s (i + k) hk, List.getD_eq_getElem?_getD, getElem_data s (i + k) hk]; rfl
  unfold cutB
  rw [show i + 4 - i = 4 by omega]
  have e0 := e 0 (by omega)
  rw [Nat.add_zero] at e0
  rw [e0, e 1 (by omega), e 2 (by omega), e 3 (by omega)]; rfl
theorem cut5 {s : ByteArray} {i : Nat} (h : i + 5 ≤ s.size) : cutB s i (i + 5) = [s.data.toList.getD i 0, s.data.toList.getD (i + 1) 0, s.data.toList.getD (i + 2) 0, s.data.toList.getD (i + 3) 0, s.data.toList.getD (i + 4) 0] := by
  have e : ∀ k, i + k < s.size → s.data.toList.drop (i + k) = s.data.toList.getD (i + k) 0 :: s.data.toList.drop (i + k + 1) := fun k hk => by
    rw [drop_at s (i + k) hk, List.getD_eq_getElem?_getD, getElem_data s (i + k) hk]; rfl
  unfold cutB
  rw [show i + 5 - i = 5 by omega]
  have e0 := e 0 (by omega)
  rw [Nat.add_zero] at e0
  rw [e0, e 1 (by omega), e 2 (by omega), e 3 (by omega), e 4 (by omega)]; rfl
theorem u8_eq (a : UInt8) (n : Nat) (h : n < 256) : (a = UInt8.ofNat n) ↔ a.toNat = n := by
  constructor
  · rintro rfl; rw [UInt8.toNat_ofNat']; omega
  · intro e; apply UInt8.toNat_inj.1; rw [UInt8.toNat_ofNat']; omega

theorem word_null (s : ByteArray) (i : Nat) : (decide (i + 4 ≤ s.size) && (s.extract i (i + 4)).toList == [110, 117, 108, 108]) = wNull s i := by
  by_cases h : i + 4 ≤ s.size
  · rw [decide_eq_true h, Bool.true_and, ex_toList, cut4 h]
    unfold wNull bt
    rw [Bool.eq_iff_iff]
    simp only [beq_iff_eq, Bool.and_eq_true, List.cons.injEq, and_true]
    rw [show (110 : UInt8) = UInt8.ofNat 110 from rfl, show (117 : UInt8) = UInt8.ofNat 117 from rfl, show (108 : UInt8) = UInt8.ofNat 108 from rfl, u8_eq _ _ (by decide), u8_eq _ _ (by decide), u8_eq _ _ (by decide), u8_eq _ _ (by decide)]
    simp only [and_assoc]
  · rw [decide_eq_false h, Bool.false_and]
    by_cases hw : wNull s i = true
    · exact absurd (wNull_in hw) h
    · simpa using hw
theorem word_true (s : ByteArray) (i : Nat) : (decide (i + 4 ≤ s.size) && (s.extract i (i + 4)).toList == [116, 114, 117, 101]) = wTrue s i := by
  by_cases h : i + 4 ≤ s.size
  · rw [decide_eq_true h, Bool.true_and, ex_toList, cut4 h]
    unfold wTrue bt
    rw [Bool.eq_iff_iff]
    simp only [beq_iff_eq, Bool.and_eq_true, List.cons.injEq, and_true]
    rw [show (116 : UInt8) = UInt8.ofNat 116 from rfl, show (114 : UInt8) = UInt8.ofNat 114 from rfl, show (117 : UInt8) = UInt8.ofNat 117 from rfl, show (101 : UInt8) = UInt8.ofNat 101 from rfl, u8_eq _ _ (by decide), u8_eq _ _ (by decide), u8_eq _ _ (by decide), u8_eq _ _ (by decide)]
    simp only [and_assoc]
  · rw [decide_eq_false h, Bool.false_and]
    by_cases hw : wTrue s i = true
    · exact absurd (wTrue_in hw) h
    · simpa using hw
theorem word_false (s : ByteArray) (i : Nat) : (decide (i + 5 ≤ s.size) && (s.extract i (i + 5)).toList == [102, 97, 108, 115, 101]) = wFalse s i := by
  by_cases h : i + 5 ≤ s.size
  · rw [decide_eq_true h, Bool.true_and, ex_toList, cut5 h]
    unfold wFalse bt
    rw [Bool.eq_iff_iff]
    simp only [beq_iff_eq, Bool.and_eq_true, List.cons.injEq, and_true]
    rw [show (102 : UInt8) = UInt8.ofNat 102 from rfl, show (97 : UInt8) = UInt8.ofNat 97 from rfl, show (108 : UInt8) = UInt8.ofNat 108 from rfl, show (115 : UInt8) = UInt8.ofNat 115 from rfl, show (101 : UInt8) = UInt8.ofNat 101 from rfl, u8_eq _ _ (by decide), u8_eq _ _ (by decide), u8_eq _ _ (by decide), u8_eq _ _ (by decide), u8_eq _ _ (by decide)]
    simp only [and_assoc]
  · rw [decide_eq_false h, Bool.false_and]
    by_cases hw : wFalse s i = true
    · exact absurd (wFalse_in hw) h
    · simpa using hw
theorem wNull_not {s : ByteArray} {i : Nat} (h : wNull s i = true) : cutB s i (i + 4) = [110, 117, 108, 108] := by
  have h2 := word_null s i
  rw [h, decide_eq_true (wNull_in h), Bool.true_and, beq_iff_eq, ex_toList] at h2
  exact h2
theorem wTrue_not {s : ByteArray} {i : Nat} (h : wTrue s i = true) : cutB s i (i + 4) = [116, 114, 117, 101] := by
  have h2 := word_true s i
  rw [h, decide_eq_true (wTrue_in h), Bool.true_and, beq_iff_eq, ex_toList] at h2
  exact h2

theorem GP.form {w0 w2 : World} {o : Option (JV × Nat)} {e : Ending} (h : GP w0 o e w2) : ∃ t n ok b tw, e = .returned (gotV t n ok b tw) ∧ Below w0.heap.size w0 w2 ∧ ∀ W W', Below W.heap.size W W' → GP W o (.returned (gotV t n ok b tw)) W' := by
  obtain ⟨hb, h⟩ := h
  cases o with
  | none =>
    obtain ⟨t, n, b, tw, rfl⟩ := h
    exact ⟨t, n, false, b, tw, rfl, hb, fun W W' hW => ⟨hW, t, n, b, tw, rfl⟩⟩
  | some q =>
    exact ⟨_, _, _, _, _, h, hb, fun W W' hW => ⟨hW, rfl⟩⟩
theorem zero_got (w : World) : Got w.heap.size ⟨#[]⟩ 0 false false false (w.alloc (gotB ⟨#[]⟩ 0 false false false)) := heap_alloc_new w _

set_option maxRecDepth 100000 in
set_option maxHeartbeats 8000000 in
theorem value_step (s : ByteArray) (i : Nat) (w : World) (hs : s.size ≤ 100000) (hi : i ≤ s.size)
    (IH : ∀ (j : Nat) (w : World), i < j → j ≤ s.size → Calls Tryz.prog 35 #[.string s, .int .i64 j] w (GP w (val s j))) :
    Calls Tryz.prog 35 #[.string s, .int .i64 i] w (GP w (val s i)) := by
  have HSM := hide (small1 s (by omega))
  have HAR : Hid (∀ w, i < s.size → bt s i = 91 → Calls Tryz.prog 56 #[.string s, .int .i64 i] w (GP w (val s i))) := fun w hl h => arr_walk s i w (by omega) hl h IH
  have HOB : Hid (∀ w, i < s.size → bt s i = 123 → Calls Tryz.prog 57 #[.string s, .int .i64 i] w (GP w (val s i))) := fun w hl h => obj_walk s i w hs hl h IH
  have HNU : Hid (∀ w, Calls Tryz.prog 60 #[.string s, .int .i64 i] w (GP w ((nm s i).map fun q => (.num q.1, q.2)))) := fun w => num_walk s i w (by omega) (by omega)
  have HST : Hid (∀ w, Calls Tryz.prog 58 #[.string s, .int .i64 i] w (SPost s w (strQ s i))) := fun w => l1String_walk s i w (by omega) (by omega)
  have HW1 : Hid (∀ w, Calls Tryz.prog 59 #[.string s, .int .i64 i, .string ⟨#[110, 117, 108, 108]⟩] w fun e w' => e = .returned (.bool (wNull s i)) ∧ w = w') := fun w => by
    have h := l1Word_walk s ⟨#[110, 117, 108, 108]⟩ i w (by omega) (by decide) (by omega)
    rw [← word_null s i]
    rw [ByteArray.toList_eq (⟨#[110, 117, 108, 108]⟩ : ByteArray)] at h
    exact h
  have HW2 : Hid (∀ w, Calls Tryz.prog 59 #[.string s, .int .i64 i, .string ⟨#[116, 114, 117, 101]⟩] w fun e w' => e = .returned (.bool (wTrue s i)) ∧ w = w') := fun w => by
    have h := l1Word_walk s ⟨#[116, 114, 117, 101]⟩ i w (by omega) (by decide) (by omega)
    rw [← word_true s i]
    rw [ByteArray.toList_eq (⟨#[116, 114, 117, 101]⟩ : ByteArray)] at h
    exact h
  have HW3 : Hid (∀ w, Calls Tryz.prog 59 #[.string s, .int .i64 i, .string ⟨#[102, 97, 108, 115, 101]⟩] w fun e w' => e = .returned (.bool (wFalse s i)) ∧ w = w') := fun w => by
    have h := l1Word_walk s ⟨#[102, 97, 108, 115, 101]⟩ i w (by omega) (by decide) (by omega)
    rw [← word_false s i]
    rw [ByteArray.toList_eq (⟨#[102, 97, 108, 115, 101]⟩ : ByteArray)] at h
    exact h
  clear IH
  go_enter Tryz.func35, Tryz.ntmps35
  go_wp2_with fail
  refine ((unhide HSM).2 91 i _ (by decide)).mono ?_
  rintro e w1 ⟨rfl, rfl⟩
  by_cases h91 : bt s i = 91
  · rw [decide_eq_true h91]
    have hl : i < s.size := bt_in (by omega)
    go_wp2_with fail
    refine (unhide HAR _ hl h91).mono ?_
    intro e w2 hgp
    obtain ⟨t, n, ok, b, tw, rfl, b2, hall⟩ := hgp.form
    have R2 := (zero_got w).below b2
    obtain ⟨r0, r1, r2, r3, r4⟩ := R2.cells
    obtain ⟨q0, q1, q2, q3, q4⟩ := R2.fzs
    have RX := hide (R2.put t (n : Int) n rfl ok b tw)
    have BX := hide (below_put (below_next (alloc_below w _) b2) (Nat.le_refl _) (.string t) (.int .i64 (n : Int)) (.bool ok) (.bool b) (.bool tw))
    have HALL := hide hall
    clear hgp b2 R2 hall HAR HOB HNU HST HW1 HW2 HW3 h91
    simp only [gotV]
    go_wp2
    try simp only [Exit.inBlock, Exit.then]
    refine bodyPost_ret (got_ret rfl rfl (unhide RX)) rfl ?_
    exact unhide HALL _ _ (unhide BX)
  · rw [decide_eq_false h91]
    go_wp2_with fail
    refine ((unhide HSM).2 123 i _ (by decide)).mono ?_
    rintro e w1 ⟨rfl, rfl⟩
    by_cases h123 : bt s i = 123
    · rw [decide_eq_true h123]
      have hl : i < s.size := bt_in (by omega)
      go_wp2_with fail
      refine (unhide HOB _ hl h123).mono ?_
      intro e w2 hgp
      obtain ⟨t, n, ok, b, tw, rfl, b2, hall⟩ := hgp.form
      have R2 := (zero_got w).below b2
      obtain ⟨r0, r1, r2, r3, r4⟩ := R2.cells
      obtain ⟨q0, q1, q2, q3, q4⟩ := R2.fzs
      have RX := hide (R2.put t (n : Int) n rfl ok b tw)
      have BX := hide (below_put (below_next (alloc_below w _) b2) (Nat.le_refl _) (.string t) (.int .i64 (n : Int)) (.bool ok) (.bool b) (.bool tw))
      have HALL := hide hall
      clear hgp b2 R2 hall HAR HOB HNU HST HW1 HW2 HW3 h91 h123
      simp only [gotV]
      go_wp2
      try simp only [Exit.inBlock, Exit.then]
      refine bodyPost_ret (got_ret rfl rfl (unhide RX)) rfl ?_
      exact unhide HALL _ _ (unhide BX)
    · rw [decide_eq_false h123]
      go_wp2_with fail
      refine ((unhide HSM).2 34 i _ (by decide)).mono ?_
      rintro e w1 ⟨rfl, rfl⟩
      by_cases h34 : bt s i = 34
      · rw [decide_eq_true h34]
        have HV := hide (val_str h34)
        go_wp2_with fail
        refine (unhide HST _).mono ?_
        intro e w2 hsp
        obtain ⟨t, n, ok, hts, rfl, b2, hall⟩ : ∃ (t : ByteArray) (n : Nat) (ok : Bool), t.size ≤ 1048576 ∧ e = .returned (.tuple #[.string t, .int .i64 (n : Int), .bool ok]) ∧ Below (w.alloc (gotB ⟨#[]⟩ 0 false false false)).heap.size (w.alloc (gotB ⟨#[]⟩ 0 false false false)) w2 ∧ ∀ W W', Below W.heap.size W W' → GP W (val s i) (.returned (gotV (strOf (quoted t.data.toList)) n ok false false)) W' := by
          obtain ⟨b2, h2⟩ := hsp
          cases hq : strQ s i with
          | none =>
            rw [hq] at h2
            obtain ⟨t, k, _, ht, rfl⟩ := h2
            refine ⟨t, k, false, by omega, rfl, b2, fun W W' hW => ?_⟩
            rw [unhide HV, hq]
            exact ⟨hW, _, _, _, _, rfl⟩
          | some q =>
            rw [hq] at h2
            obtain ⟨l, k⟩ := q
            have hql := strQ_len hq
            have hqo := strQ_ok hq
            refine ⟨strOf l, k, true, by rw [strOf_size]; omega, h2, b2, fun W W' hW => ?_⟩
            rw [unhide HV, hq, strOf_toList]
            exact ⟨hW, rfl⟩
        have HQ := hide (quoted_walk t w2 hts)
        have R2 := (zero_got w).below b2
        have B2 := below_next (alloc_below w _) b2
        have HALL := hide hall
        clear hsp b2 hall HAR HOB HNU HST HW1 HW2 HW3 h91 h123 h34
        go_wp2_with fail
        refine (unhide HQ).mono ?_
        rintro e w3 ⟨rfl, b3⟩
        have R3 := R2.below b3
        have B3 := below_next B2 b3
        generalize strOf (quoted t.data.toList) = qt at *
        obtain ⟨r0, r1, r2, r3, r4⟩ := R3.cells
        obtain ⟨q0, q1, q2, q3, q4⟩ := R3.fzs
        have RX := hide (R3.put qt (n : Int) n rfl ok false false)
        have BX := hide (below_put B3 (Nat.le_refl _) (.string qt) (.int .i64 (n : Int)) (.bool ok) (.bool false) (.bool false))
        clear HQ R2 B2 R3 B3 b3
        go_wp2
        try simp only [Exit.inBlock, Exit.then]
        refine bodyPost_ret (got_ret rfl rfl (unhide RX)) rfl ?_
        exact unhide HALL _ _ (unhide BX)
      · rw [decide_eq_false h34]
        have HV := hide (val_else h91 h123 h34)
        clear h91 h123 h34
        go_wp2_with fail
        refine (unhide HW1 _).mono ?_
        rintro e w1 ⟨rfl, rfl⟩
        cases hw : wNull s i with
        | true =>
          have hin := wNull_in hw
          have HR : Hid (val s i = some (JV.nul, i + 4)) := by show _ = _; rw [unhide HV, if_pos hw]
          have HX : Hid (s.extract i (i + 4) = strOf (ct JV.nul)) := by show _ = _; rw [strOf_cut, wNull_not hw]; rfl
          have i1 : (i : Int) ≤ (i : Int) + 4 := by omega
          have i2 : (i : Int) + 4 ≤ (s.size : Int) := by omega
          have i3 : (0 : Int) ≤ (i : Int) := by omega
          clear HAR HOB HNU HST HW1 HW2 HW3 hw HV
          go_wp2
          go_returns
          rw [unhide HR, unhide HX]
          exact ⟨alloc_below w _, rfl⟩
        | false =>
          have hn := hw
          clear hw
          go_wp2_with fail
          refine (unhide HW2 _).mono ?_
          rintro e w1 ⟨rfl, rfl⟩
          cases hw : wTrue s i with
          | true =>
            have hin := wTrue_in hw
            have HR : Hid (val s i = some (JV.tt, i + 4)) := by show _ = _; rw [unhide HV, if_neg (by rw [hn]; simp), if_pos hw]
            have HX : Hid (s.extract i (i + 4) = strOf (ct JV.tt)) := by show _ = _; rw [strOf_cut, wTrue_not hw]; rfl
            have i1 : (i : Int) ≤ (i : Int) + 4 := by omega
            have i2 : (i : Int) + 4 ≤ (s.size : Int) := by omega
            have i3 : (0 : Int) ≤ (i : Int) := by omega
            clear HAR HOB HNU HST HW1 HW2 HW3 hw HV hn
            go_wp2
            go_returns
            rw [unhide HR, unhide HX]
            exact ⟨alloc_below w _, rfl⟩
          | false =>
            have hn2 := hw
            clear hw
            go_wp2_with fail
            refine (unhide HW3 _).mono ?_
            rintro e w1 ⟨rfl, rfl⟩
            cases hw : wFalse s i with
            | true =>
              have hin := wFalse_in hw
              have HR : Hid (val s i = some (JV.ff, i + 5)) := by show _ = _; rw [unhide HV, if_neg (by rw [hn]; simp), if_neg (by rw [hn2]; simp), if_pos hw]
              clear HAR HOB HNU HST HW1 HW2 HW3 hw HV hn hn2
              go_wp2
              go_returns
              rw [unhide HR]
              exact ⟨alloc_below w _, rfl⟩
            | false =>
              have HR : Hid (val s i = (nm s i).map fun q => (JV.num q.1, q.2)) := by show _ = _; rw [unhide HV, if_neg (by rw [hn]; simp), if_neg (by rw [hn2]; simp), if_neg (by rw [hw]; simp)]
              clear hw HV hn hn2
              go_wp2_with fail
              refine (unhide HNU _).mono ?_
              intro e w2 hgp
              rw [← unhide HR] at hgp
              obtain ⟨t, n, ok, b, tw, rfl, b2, hall⟩ := hgp.form
              have R2 := (zero_got w).below b2
              obtain ⟨r0, r1, r2, r3, r4⟩ := R2.cells
              obtain ⟨q0, q1, q2, q3, q4⟩ := R2.fzs
              have RX := hide (R2.put t (n : Int) n rfl ok b tw)
              have BX := hide (below_put (below_next (alloc_below w _) b2) (Nat.le_refl _) (.string t) (.int .i64 (n : Int)) (.bool ok) (.bool b) (.bool tw))
              have HALL := hide hall
              clear hgp b2 R2 hall HAR HOB HNU HST HW1 HW2 HW3
              simp only [gotV]
              go_wp2
              try simp only [Exit.inBlock, Exit.then]
              refine bodyPost_ret (got_ret rfl rfl (unhide RX)) rfl ?_
              exact unhide HALL _ _ (unhide BX)

/-- A value, as the model reads it. -/
theorem value_walk (s : ByteArray) (hs : s.size ≤ 100000) : ∀ (n i : Nat) (w : World), s.size - i ≤ n → i ≤ s.size → Calls Tryz.prog 35 #[.string s, .int .i64 i] w (GP w (val s i))
  | 0, i, w, hn, hi => value_step s i w hs hi fun j w' hj hj2 => by omega
  | n + 1, i, w, hn, hi => value_step s i w hs hi fun j w' hj hj2 => value_walk s hs n j w' (by omega) hj2
end Go.Proofs.YtadefcohbkgbfabGreatDoor

