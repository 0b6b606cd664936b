import Derived.Test.YtiolpmhodbefoaaBp35
namespace Go.Proofs.Ytiolpmhodbefoaa
open Go.RowKit

theorem spl1_piece {c : UInt8} {l : Bs} : ∀ p ∈ spl c [] 0 [] l, p.length ≤ l.length := by
  have hj := spl_jn c [] l 0 []
  rw [List.nil_append] at hj
  generalize spl c [] 0 [] l = ps at *
  have key : ∀ (ps : List Bs) (p : Bs), p ∈ ps → p.length ≤ (jn [c] ps).length := fun ps => by
    induction ps with
    | nil => intro p hp; simp at hp
    | cons a r ih =>
      intro p hp
      cases r with
      | nil => simp at hp; subst hp; simp [jn]
      | cons b t =>
        rw [jn_cons (by simp), List.length_append, List.length_append]
        rcases List.mem_cons.1 hp with rfl | hp
        · omega
        · have := ih p hp; omega
  intro p hp
  have := key ps p hp
  rw [hj.2] at this
  exact this
/-- The slice's state in memory. -/
structure SlS (w w2 wr : World) (tv : Value) (ps : List Bs) (a b c : Bool × Int) : Prop where
  bel : Below w.heap.size w wr
  r2 : SB wr w.heap.size 0 ⟨#[]⟩ false false false 0 0 0 (.slice none 0 0)
  ro : SB wr w2.heap.size 4 ⟨#[]⟩ a.1 b.1 c.1 a.2 b.2 c.2 (.slice none 0 0)
  ts : TS wr w.heap.size tv ps
  nt : tv.ownBlock ≠ some w2.heap.size
  lt : w.heap.size < w2.heap.size
theorem SlS.set {w w2 wr : World} {tv : Value} {ps : List Bs} {a b c x y z : Bool × Int} (h : SlS w w2 wr tv ps a b c) {i j : Nat} {u v : Value} (ho : SB ((wr.setCell ⟨w2.heap.size, i, none⟩ u).setCell ⟨w2.heap.size, j, none⟩ v) w2.heap.size 4 ⟨#[]⟩ x.1 y.1 z.1 x.2 y.2 z.2 (.slice none 0 0)) :
    SlS w w2 ((wr.setCell ⟨w2.heap.size, i, none⟩ u).setCell ⟨w2.heap.size, j, none⟩ v) tv ps x y z := by
  have hl := h.lt
  have hk : ∀ b, b ≠ w2.heap.size → ((wr.setCell ⟨w2.heap.size, i, none⟩ u).setCell ⟨w2.heap.size, j, none⟩ v).heap[b]? = wr.heap[b]? := fun b hb => (Below.heap_setCell _ _ _ b hb).trans (Below.heap_setCell _ _ _ b hb)
  refine ⟨(h.bel.setCell (by show _ ≤ w2.heap.size; omega) _).setCell (by show _ ≤ w2.heap.size; omega) _, (h.r2.other (by show _ ≠ w2.heap.size; omega) _).other (by show _ ≠ w2.heap.size; omega) _, ho, own_keep h.ts fun b hb => hk b fun e => h.nt ?_, h.nt, h.lt⟩
  rw [← e]; simpa using hb
set_option maxRecDepth 100000 in
set_option maxHeartbeats 8000000 in
theorem sel_walk (n : Nat) (s : ByteArray) (w : World) (hn : s.size < n) (hs : s.size ≤ 1000000) : Calls Try.prog 37 #[.string s] w (SRet w (sSel n s.data.toList)) := by
  have hA : SB (w.alloc (.cells #[.int .i64 0, .string ⟨#[]⟩, .bool false, .bool false, .bool false, .int .i64 0, .int .i64 0, .int .i64 0, .slice none 0 0] 43)) w.heap.size 0 ⟨#[]⟩ false false false 0 0 0 (.slice none 0 0) := heap_alloc_new w _
  have hB := al_b w (.cells #[.int .i64 0, .string ⟨#[]⟩, .bool false, .bool false, .bool false, .int .i64 0, .int .i64 0, .int .i64 0, .slice none 0 0] 43)
  have hZ : (w.alloc (.cells #[.int .i64 0, .string ⟨#[]⟩, .bool false, .bool false, .bool false, .int .i64 0, .int .i64 0, .int .i64 0, .slice none 0 0] 43)).heap.size = w.heap.size + 1 := by simp
  by_cases h42 : s.data.toList = [42]
  · have HR : Hid (sSel n s.data.toList = some (allS, 0)) := by show _ = _; unfold sSel; rw [if_pos h42]
    have t1 : (s.toList == [42]) = true := by rw [beq_iff_eq, ByteArray.toList_eq]; exact h42
    clear h42 hA hB hZ
    go_enter Try.func37, Try.ntmps37
    go_wp2
    go_returns
    exact SRet.lit (al_b w _) (unhide HR)
  · have t1 : (s.toList == [42]) = false := by rw [beq_eq_false_iff_ne, ByteArray.toList_eq]; exact h42
    by_cases h63 : ∃ h0 : 0 < s.size, s[0] = 63
    · obtain ⟨h0, h63⟩ := h63
      have e := dr_at h0
      rw [dr_zero] at e
      have HR : Hid (sSel n s.data.toList = (sCdOf (sPr n) (dr s 1)).map fun p => (filS p.1, p.2)) := by
        show _ = _
        unfold sSel
        rw [if_neg h42, if_pos (by rw [e, h63]; rfl)]
        rw [show s.data.toList.tail = dr s 1 by rw [e]; rfl]
      have b63 : (((s[0].toNat : Nat) : Int) == 63) = true := eq_t h63
      have h0I : (0 : Int) < (s.size : Int) := by omega
      have h1I : (1 : Int) ≤ (s.size : Int) := by omega
      have hal := al_b (w.alloc (.cells #[.int .i64 0, .string ⟨#[]⟩, .bool false, .bool false, .bool false, .int .i64 0, .int .i64 0, .int .i64 0, .slice none 0 0] 43)) (.cells #[] 65)
      have hro := orow_empty fopE (w.alloc (.cells #[.int .i64 0, .string ⟨#[]⟩, .bool false, .bool false, .bool false, .int .i64 0, .int .i64 0, .int .i64 0, .slice none 0 0] 43))
      have hA2 := hA.below hal
      have hB2 := below_next hB hal
      rw [hZ] at hro
      have HC := hide (cond_walk n (s.extract 1 s.size) _ _ _ (w.heap.size + 1) _ (by simp; omega) (by simp; omega) hro ⟨by simp, by simp⟩ (by rw [← hZ]; exact hal.size) (by simp; omega))
      rw [dr_ext] at HC
      have HA := hide hA2
      have HB := hide hB2
      clear e h63 h42 hA hB hal hro hA2 hB2 hZ
      go_enter Try.func37, Try.ntmps37
      go_wp2_with fail
      refine (unhide HC).mono ?_
      rintro e w1 ⟨b1, s1, v1, ok, d, rfl, hno, hyes⟩
      have HA1 : Hid (SB w1 w.heap.size 0 ⟨#[]⟩ false false false 0 0 0 (.slice none 0 0)) := (b1.block _ (by omega)).trans (unhide HA)
      have HB1 : Hid (Below w.heap.size w w1) := (unhide HB).trans (b1.mono (by omega))
      obtain ⟨c0, c1, c2, c3, c4, c5, c6, c7, c8⟩ := (unhide HA1).cs
      obtain ⟨f0, f1, f2, f3, f4, f5, f6, f7, f8⟩ := (unhide HA1).fz
      clear HC HA HB b1 s1
      cases hp : sCdOf (sPr n) (dr s 1) with
      | none =>
        obtain ⟨rfl, hany⟩ := hno hp
        have HR2 : Hid (sSel n s.data.toList = none) := by show _ = _; rw [unhide HR, hp]; rfl
        obtain ⟨ya, yl, yc, rfl⟩ := hany.form
        clear hno hyes hp hany HR
        go_wp2
        refine bodyPost_ret (results_cell_2 rfl _ _ w.heap.size 43 #[_, _, _, _, _, _, _, _, _] (0, 0) _ _ _ rfl rfl rfl (putN_full (unhide HA1) [_, _, _, _, _, _, _, _, _] rfl) Try.underlying43 rfl (by kernel_rfl)) rfl ?_
        exact SRet.bad (putN_below (unhide HB1) (Nat.le_refl _) [_, _, _, _, _, _, _, _, _] 0) (unhide HR2)
      | some x =>
        obtain ⟨rfl, rfl, -, bl, row, fsh, -⟩ := hyes x hp
        have HR2 : Hid (sSel n s.data.toList = some (filS x.1, x.2)) := by show _ = _; rw [unhide HR, hp]; rfl
        obtain ⟨ya, yc, rfl, -, -⟩ := row.form
        rw [List.nil_append] at row
        have HROW := hide row
        have HFSH := hide fsh
        clear hno hyes hp HR row fsh
        rw [List.nil_append]
        go_wp2
        refine bodyPost_ret (results_cell_2 rfl _ _ w.heap.size 43 #[_, _, _, _, _, _, _, _, _] (0, 0) _ _ _ rfl rfl rfl (putN_full (unhide HA1) [_, _, _, _, _, _, _, _, _] rfl) Try.underlying43 rfl (by kernel_rfl)) rfl ?_
        refine ⟨putN_below (unhide HB1) (Nat.le_refl _) [_, _, _, _, _, _, _, _, _] 0, filS x.1, ya, _, yc, _, by rw [unhide HR2]; rfl, fun z hz => ?_⟩
        rw [unhide HR2] at hz
        injection hz with hz
        subst hz
        exact ⟨rfl, rfl, bl, (unhide HROW).putN (fun hb => by have := (unhide HFSH).2 _ hb; omega) [_, _, _, _, _, _, _, _, _] 0, (unhide HFSH).mono (by omega)⟩
    · have HR : Hid (sSel n s.data.toList = match sStr s.data.toList with
          | some v => some (nameS v, 0)
          | none => match sInt s.data.toList with
            | some m => some (idxS m, 0)
            | none => (sSlc s.data.toList).map fun x => (x, 0)) := by
        show _ = _
        have hne : ¬ s.data.toList.head? = some 63 := by
          intro hh
          by_cases h0 : 0 < s.size
          · have e := dr_at h0
            rw [dr_zero] at e
            rw [e] at hh
            injection hh with hh
            exact h63 ⟨h0, hh⟩
          · have : s.data.toList = [] := List.eq_nil_of_length_eq_zero (by rw [data_len]; omega)
            rw [this] at hh; cases hh
        unfold sSel
        rw [if_neg h42, if_neg hne]
        rfl
      have HI := hide fun w => int_walk s w (by omega)
      have HS := hide fun w => str_walk s w (by omega)
      have HA := hide hA
      have HB := hide hB
      have H63 := hide h63
      clear hA hB h42 h63
      go_enter Try.func37, Try.ntmps37
      go_upto_region 3 with fail
      go_cut [27] from 20 to 27 (fun x wx => x = .bool false ∧ wx = w.alloc (.cells #[.int .i64 0, .string ⟨#[]⟩, .bool false, .bool false, .bool false, .int .i64 0, .int .i64 0, .int .i64 0, .slice none 0 0] 43))
      case first =>
        by_cases h0 : 0 < s.size
        · have b63 : (((s[0].toNat : Nat) : Int) == 63) = false := eq_f (d := 63) fun h => unhide H63 ⟨h0, h⟩
          have h0I : (0 : Int) < (s.size : Int) := by omega
          go_wp2
          go_meet
          case rel => exact ⟨rfl, rfl⟩
        · have h0I : ¬ (0 : Int) < (s.size : Int) := by omega
          go_wp2
          go_meet
          case rel => exact ⟨rfl, rfl⟩
      obtain ⟨rfl, rfl⟩ := hcut
      clear H63
      go_wp2_with fail
      refine (unhide HS _).mono ?_
      rintro e w1 ⟨rfl, b1⟩
      have HA1 := hide ((unhide HA).below b1)
      have HB1 := hide (below_next (unhide HB) b1)
      have hz1 := b1.size
      rw [hZ] at hz1
      obtain ⟨c0, c1, c2, c3, c4, c5, c6, c7, c8⟩ := (unhide HA1).cs
      obtain ⟨f0, f1, f2, f3, f4, f5, f6, f7, f8⟩ := (unhide HA1).fz
      clear HS HA HB b1 hZ
      cases ht : sStr s.data.toList with
      | some v =>
        have HR2 : Hid (sSel n s.data.toList = some (nameS v, 0)) := by show _ = _; rw [unhide HR, ht]
        have e : strV (some v) = .tuple #[.string (bsT v), .bool true] := rfl
        rw [e]
        clear e ht HR HI
        go_wp2
        refine bodyPost_ret (results_cell_2 rfl _ _ w.heap.size 43 #[_, _, _, _, _, _, _, _, _] (0, 0) _ _ _ rfl rfl rfl (putN_full (unhide HA1) [_, _, _, _, _, _, _, _, _] rfl) Try.underlying43 rfl (by kernel_rfl)) rfl ?_
        exact SRet.lit (putN_below (unhide HB1) (Nat.le_refl _) [_, _, _, _, _, _, _, _, _] 0) (unhide HR2)
      | none =>
        have e : strV none = .tuple #[.string (bsT []), .bool false] := rfl
        rw [e]
        clear e
        go_wp2_with fail
        refine (unhide HI _).mono ?_
        rintro e w2 ⟨rfl, rfl⟩
        clear HI
        cases hi : sInt s.data.toList with
        | some m =>
          have HR2 : Hid (sSel n s.data.toList = some (idxS m, 0)) := by show _ = _; rw [unhide HR, ht, hi]
          have e : intV (some m) = .tuple #[.int .i64 m, .bool true] := rfl
          rw [e]
          clear e ht HR hi
          go_wp2
          refine bodyPost_ret (results_cell_2 rfl _ _ w.heap.size 43 #[_, _, _, _, _, _, _, _, _] (0, 0) _ _ _ rfl rfl rfl (putN_full (unhide HA1) [_, _, _, _, _, _, _, _, _] rfl) Try.underlying43 rfl (by kernel_rfl)) rfl ?_
          exact SRet.lit (putN_below (unhide HB1) (Nat.le_refl _) [_, _, _, _, _, _, _, _, _] 0) (unhide HR2)
        | none =>
          have HR2 : Hid (sSel n s.data.toList = (slcP (spl 58 [] 0 [] s.data.toList)).map fun x => (x, 0)) := by show _ = _; rw [unhide HR, ht, hi]; rfl
          have e : intV none = .tuple #[.int .i64 0, .bool false] := rfl
          rw [e]
          have HSP := hide (split2_walk s ⟨#[58]⟩ 58 [] w1 (by omega) rfl (by decide))
          have HPS : Hid (∀ p ∈ spl 58 [] 0 [] s.data.toList, p.length ≤ s.size) := fun p hp => by
            have := spl1_piece (c := 58) (l := s.data.toList) p hp
            rw [data_len] at this
            exact this
          generalize spl 58 [] 0 [] s.data.toList = ps at *
          generalize sSel n s.data.toList = RR at *
          clear e ht HR hi
          go_wp2_with fail
          refine (unhide HSP).mono ?_
          rintro e w2 ⟨tv, rfl, hts, b2⟩
          have hz2 := b2.size
          have hal := al_b w2 (.cells #[.int .i64 4, .string ⟨#[]⟩, .bool false, .bool false, .bool false, .int .i64 0, .int .i64 0, .int .i64 0, .slice none 0 0] 43)
          have S0 : Hid (SlS w w2 (w2.alloc (.cells #[.int .i64 4, .string ⟨#[]⟩, .bool false, .bool false, .bool false, .int .i64 0, .int .i64 0, .int .i64 0, .slice none 0 0] 43)) tv ps (false, 0) (false, 0) (false, 0)) :=
            ⟨below_next (below_next (unhide HB1) b2) hal, ((unhide HA1).below b2).below hal, heap_alloc_new w2 _, own_mono (own_below hts hal) (by omega), fun e => (by have := (World.ownsRow.lt hts _ e).2; omega), by omega⟩
          obtain ⟨ta, tc, rfl, -⟩ := hts.cells
          clear hts b2 hal HSP HA1 HB1 c0 c1 c2 c3 c4 c5 c6 c7 c8 f0 f1 f2 f3 f4 f5 f6 f7 f8
          go_upto_region 14 with fail
          generalize (w2.alloc (.cells #[.int .i64 4, .string ⟨#[]⟩, .bool false, .bool false, .bool false, .int .i64 0, .int .i64 0, .int .i64 0, .slice none 0 0] 43)) = wA at *
          go_cut [66] from 59 to 66 (fun x wx => x = .bool (decide (¬ (ps.length = 2 ∨ ps.length = 3))) ∧ wx = wA)
          case first =>
            by_cases h2 : ps.length < 2
            · have h2I : (ps.length : Int) < 2 := by omega
              have HV : Hid (decide (¬ (ps.length = 2 ∨ ps.length = 3)) = true) := by show _ = _; rw [decide_eq_true]; omega
              go_wp2
              go_meet
              case rel => exact ⟨by rw [unhide HV], rfl⟩
            · have h2I : ¬ (ps.length : Int) < 2 := by omega
              by_cases h3 : 3 < ps.length
              · have h3I : (3 : Int) < (ps.length : Int) := by omega
                have HV : Hid (decide (¬ (ps.length = 2 ∨ ps.length = 3)) = true) := by show _ = _; rw [decide_eq_true]; omega
                go_wp2
                go_meet
                case rel => exact ⟨by rw [unhide HV], rfl⟩
              · have h3I : ¬ (3 : Int) < (ps.length : Int) := by omega
                have HV : Hid (decide (¬ (ps.length = 2 ∨ ps.length = 3)) = false) := by show _ = _; rw [decide_eq_false]; omega
                go_wp2
                go_meet
                case rel => exact ⟨by rw [unhide HV], rfl⟩
          obtain ⟨rfl, rfl⟩ := hcut
          by_cases hl : ps.length = 2 ∨ ps.length = 3
          · rw [decide_eq_false (by omega)]
            have hl3 : ps.length ≤ 3 := by omega
            have HL := hide hl
            clear hl
            go_wp2
            go_loopw [14] (fun iv wr => ∃ (k : Nat) (a b c : Bool × Int), k ≤ ps.length ∧ iv = .int .i64 (k : Int) ∧ Hid (SUp ps k a b c) ∧ Hid (SlS w w2 wr (.slice ta ps.length tc) ps a b c)) (fun iv _ => ps.length - (intOf iv).toNat)
            case atStart => exact ⟨0, (false, 0), (false, 0), (false, 0), Nat.zero_le _, rfl, SUp.start ps, S0⟩
            case round =>
              obtain ⟨k, a, b, c, hk, rfl, hu, hss⟩ := hrel
              clear S0
              obtain ⟨c0, c1, c2, c3, c4, c5, c6, c7, c8⟩ := (unhide hss).r2.cs
              obtain ⟨f0, f1, f2, f3, f4, f5, f6, f7, f8⟩ := (unhide hss).r2.fz
              by_cases hlt : k < ps.length
              · have hltI : (k : Int) < (ps.length : Int) := by omega
                obtain ⟨tb', tc', htv, hcell⟩ := (unhide hss).ts.cells
                obtain ⟨gp, hgp, hc⟩ := hcell k hlt
                have htb : ta = some ⟨gp, 0, none⟩ := by injection htv with h1 _ _; rw [h1]; exact hgp
                subst htb
                have hpz : (bsT ps[k]).size = ps[k].length := by simp [bsT, ByteArray.size]
                have hpd : (bsT ps[k]).data.toList = ps[k] := by simp [bsT]
                have hpl : (bsT ps[k]).toList = ps[k] := by rw [ByteArray.toList_eq]; exact hpd
                have hpk := unhide HPS ps[k] (List.getElem_mem hlt)
                have HIW := hide (int_walk (bsT ps[k]) wr (by omega))
                rw [hpd] at HIW
                have e : intV (sInt ps[k]) = .tuple #[.int .i64 ((sInt ps[k]).getD 0), .bool (sInt ps[k]).isSome] := rfl
                rw [e] at HIW
                obtain ⟨hm1, hm2⟩ := sMI_parts ps[k]
                obtain ⟨q0, q1, q2, q3, q4, q5, q6, q7, q8⟩ := (unhide hss).ro.cs
                obtain ⟨g0, g1, g2, g3, g4, g5, g6, g7, g8⟩ := (unhide hss).ro.fz
                have HM1 := hide hm1
                have HM2 := hide hm2
                have HPL := hide hpl
                clear hcell htv hgp hpz hpd hpl hm1 hm2 e hpk
                go_wp2_with fail
                refine (unhide HIW).mono ?_
                rintro e w3 ⟨rfl, rfl⟩
                clear HIW
                obtain ⟨ok, hok⟩ : ∃ ok, (sInt ps[k]).isSome = ok := ⟨_, rfl⟩
                obtain ⟨vv, hvv⟩ : ∃ v, (sInt ps[k]).getD 0 = v := ⟨_, rfl⟩
                rw [hok, hvv] at HM2 ⊢
                rw [hok] at HM1
                clear hok hvv
                go_upto_region 20 with fail
                go_cut [90] from 82 to 90 (fun x wx => x = .bool (decide (ok = false ∧ ps[k] ≠ [])) ∧ wr = wx)
                case first =>
                  cases ok with
                  | true =>
                    have HV : Hid (decide (true = false ∧ ps[k] ≠ []) = false) := by show _ = _; simp
                    go_wp2
                    go_meet
                    case rel => exact ⟨by rw [unhide HV], rfl⟩
                  | false =>
                    by_cases hpe : ps[k] = []
                    · have HV : Hid (decide (false = false ∧ ps[k] ≠ []) = false) := by show _ = _; simp [hpe]
                      have HE : Hid ((bsT ps[k]).toList.isEmpty = true) := by show _ = _; rw [unhide HPL, hpe]; rfl
                      clear hpe
                      go_wp2
                      go_meet
                      case rel => exact ⟨by rw [unhide HE]; exact congrArg Value.bool (unhide HV).symm, rfl⟩
                    · have HV : Hid (decide (false = false ∧ ps[k] ≠ []) = true) := by show _ = _; simp [hpe]
                      have HE : Hid ((bsT ps[k]).toList.isEmpty = false) := by show _ = _; rw [unhide HPL]; cases h : ps[k] with
                        | nil => exact absurd h hpe
                        | cons _ _ => rfl
                      clear hpe
                      go_wp2
                      go_meet
                      case rel => exact ⟨by rw [unhide HE]; exact congrArg Value.bool (unhide HV).symm, rfl⟩
                obtain ⟨rfl, rfl⟩ := hcut
                cases hsm : sMI ps[k] with
                | none =>
                  have hb := (unhide HM1).1 hsm
                  rw [decide_eq_true hb]
                  have HR3 : Hid (RR = none) := by show _ = _; rw [unhide HR2, SUp.no hlt hsm]; rfl
                  clear hb hsm HM1 HM2 HPL
                  go_wp2
                  try simp only [Exit.inBlock, Exit.then]
                  refine bodyPost_ret (results_cell_2 rfl _ _ w.heap.size 43 #[_, _, _, _, _, _, _, _, _] (0, 0) _ _ _ rfl rfl rfl (putN_full (unhide hss).r2 [_, _, _, _, _, _, _, _, _] rfl) Try.underlying43 rfl (by kernel_rfl)) rfl ?_
                  exact SRet.bad (putN_below (unhide hss).bel (Nat.le_refl _) [_, _, _, _, _, _, _, _, _] 0) (unhide HR3)
                | some x =>
                  have hb : ¬ (ok = false ∧ ps[k] ≠ []) := fun h => by rw [(unhide HM1).2 h] at hsm; cases hsm
                  rw [decide_eq_false hb]
                  have hx := unhide HM2 x hsm
                  subst hx
                  have HSM := hide hsm
                  have hk3 : k = 0 ∨ k = 1 ∨ k = 2 := by omega
                  clear hb hsm HM1 HM2 HPL
                  rcases hk3 with rfl | rfl | rfl
                  · have HNX := hide ((unhide hu).n0 hlt (unhide HSM))
                    have HS3 := hide ((unhide hss).set (x := (ok, vv)) (y := b) (z := c) ((unhide hss).ro.setA ok vv))
                    obtain ⟨p0, p1, p2, p3, p4, p5, p6, p7, p8⟩ := ((unhide hss).ro.set2 ok).cs
                    obtain ⟨o0, o1, o2, o3, o4, o5, o6, o7, o8⟩ := ((unhide hss).ro.set2 ok).fz
                    go_wp2
                    go_roundw
                    case rel => exact ⟨1, _, _, _, by omega, rfl, HNX, HS3⟩
                    case measure => simp [intOf]; omega
                  · have HNX := hide ((unhide hu).n1 hlt (unhide HSM))
                    have HS3 := hide ((unhide hss).set (x := a) (y := (ok, vv)) (z := c) ((unhide hss).ro.setB ok vv))
                    obtain ⟨p0, p1, p2, p3, p4, p5, p6, p7, p8⟩ := ((unhide hss).ro.set3 ok).cs
                    obtain ⟨o0, o1, o2, o3, o4, o5, o6, o7, o8⟩ := ((unhide hss).ro.set3 ok).fz
                    go_wp2
                    go_roundw
                    case rel => exact ⟨2, _, _, _, by omega, rfl, HNX, HS3⟩
                    case measure => simp [intOf]; omega
                  · have HNX := hide ((unhide hu).n2 hlt (unhide HSM))
                    have HS3 := hide ((unhide hss).set (x := a) (y := b) (z := (ok, vv)) ((unhide hss).ro.setC ok vv))
                    obtain ⟨p0, p1, p2, p3, p4, p5, p6, p7, p8⟩ := ((unhide hss).ro.set4 ok).cs
                    obtain ⟨o0, o1, o2, o3, o4, o5, o6, o7, o8⟩ := ((unhide hss).ro.set4 ok).fz
                    go_wp2
                    go_roundw
                    case rel => exact ⟨3, _, _, _, by omega, rfl, HNX, HS3⟩
                    case measure => simp [intOf]; omega
              · have hltI : ¬ (k : Int) < (ps.length : Int) := by omega
                have HR3 : Hid (RR = some (slcS a b c, 0)) := by show _ = _; rw [unhide HR2, (unhide hu).fin (unhide HL) (by omega) hk]; rfl
                obtain ⟨q0, q1, q2, q3, q4, q5, q6, q7, q8⟩ := (unhide hss).ro.cs
                clear hu
                go_wp2
                try simp only [Exit.inBlock, Exit.then]
                refine bodyPost_ret (results_cell_2 rfl _ _ w.heap.size 43 #[_, _, _, _, _, _, _, _, _] (0, 0) _ _ _ rfl rfl rfl (putN_full (unhide hss).r2 [_, _, _, _, _, _, _, _, _] rfl) Try.underlying43 rfl (by kernel_rfl)) rfl ?_
                exact SRet.lit (putN_below (unhide hss).bel (Nat.le_refl _) [_, _, _, _, _, _, _, _, _] 0) (unhide HR3)
          · rw [decide_eq_true hl]
            have HR3 : Hid (RR = none) := by show _ = _; rw [unhide HR2, slcP_far hl]; rfl
            obtain ⟨c0, c1, c2, c3, c4, c5, c6, c7, c8⟩ := (unhide S0).r2.cs
            obtain ⟨f0, f1, f2, f3, f4, f5, f6, f7, f8⟩ := (unhide S0).r2.fz
            obtain ⟨q0, q1, q2, q3, q4, q5, q6, q7, q8⟩ := (unhide S0).ro.cs
            clear hl
            go_wp2
            refine bodyPost_ret (results_cell_2 rfl _ _ w.heap.size 43 #[_, _, _, _, _, _, _, _, _] (0, 0) _ _ _ rfl rfl rfl (putN_full (unhide S0).r2 [_, _, _, _, _, _, _, _, _] rfl) Try.underlying43 rfl (by kernel_rfl)) rfl ?_
            exact SRet.bad (putN_below (unhide S0).bel (Nat.le_refl _) [_, _, _, _, _, _, _, _, _] 0) (unhide HR3)
end Go.Proofs.Ytiolpmhodbefoaa

