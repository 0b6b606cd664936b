import Derived.IntWalk
import Derived.Test.YtbihihkdgckgnaaDoorBq8
namespace Go.Proofs.YtbihihkdgckgnaaDoor
open Go.RowKit

abbrev Zc : Obj := Obj.cells #[.int .i64 0, .int .i64 0, .string ⟨#[]⟩, .int .i64 0] 36 (0, 0)
abbrev Hc : Obj := Obj.cells #[.string ⟨#[112, 97, 116, 99, 104, 32]⟩, .string ⟨#[103, 101, 116, 32]⟩, .string ⟨#[113, 117, 101, 114, 121, 32]⟩, .string ⟨#[119, 97, 116, 99, 104, 32]⟩] 9 (0, 0)
/-- The blocks of l6Call while a line is read. -/
def SC (N : Nat) (cl K : Int) (T : ByteArray) (R : Int) (w0 w : World) : Prop := w.heap[N]? = some Zc ∧ w.heap[N + 1]? = some Zc ∧ w.heap[N + 2]? = some (.cells #[.int .i64 cl, .int .i64 K, .string T, .int .i64 R] 36 (0, 0)) ∧ w.heap[N + 3]? = some Hc ∧ Below N w0 w
theorem SC.start (w : World) (cl : Int) : SC w.heap.size cl 0 ⟨#[]⟩ 0 w ((((w.alloc Zc).alloc Zc).alloc (.cells #[.int .i64 cl, .int .i64 0, .string ⟨#[]⟩, .int .i64 0] 36 (0, 0))).alloc Hc) := by
  have e1 : (w.alloc Zc).heap.size = w.heap.size + 1 := by simp
  have e2 : ((w.alloc Zc).alloc Zc).heap.size = w.heap.size + 2 := by simp
  have e3 : (((w.alloc Zc).alloc Zc).alloc (.cells #[.int .i64 cl, .int .i64 0, .string ⟨#[]⟩, .int .i64 0] 36 (0, 0))).heap.size = w.heap.size + 3 := by simp
  have b1 := al_b (w.alloc Zc) Zc
  have b2 := al_b ((w.alloc Zc).alloc Zc) (.cells #[.int .i64 cl, .int .i64 0, .string ⟨#[]⟩, .int .i64 0] 36 (0, 0))
  have b3 := al_b (((w.alloc Zc).alloc Zc).alloc (.cells #[.int .i64 cl, .int .i64 0, .string ⟨#[]⟩, .int .i64 0] 36 (0, 0))) Hc
  rw [e1] at b1
  rw [e2] at b2
  rw [e3] at b3
  have h1 := heap_alloc_new w Zc
  have h2 := heap_alloc_new (w.alloc Zc) Zc
  have h3 := heap_alloc_new ((w.alloc Zc).alloc Zc) (.cells #[.int .i64 cl, .int .i64 0, .string ⟨#[]⟩, .int .i64 0] 36 (0, 0))
  have h4 := heap_alloc_new (((w.alloc Zc).alloc Zc).alloc (.cells #[.int .i64 cl, .int .i64 0, .string ⟨#[]⟩, .int .i64 0] 36 (0, 0))) Hc
  rw [e1] at h2
  rw [e2] at h3
  rw [e3] at h4
  refine ⟨?_, ?_, ?_, h4, ?_⟩
  · exact (b3.block _ (by omega)).trans ((b2.block _ (by omega)).trans ((b1.block _ (by omega)).trans h1))
  · exact (b3.block _ (by omega)).trans ((b2.block _ (by omega)).trans h2)
  · exact (b3.block _ (by omega)).trans h3
  · exact Below.trans (al_b w Zc) (Below.trans (b1.mono (by omega)) (Below.trans (b2.mono (by omega)) (b3.mono (by omega))))
theorem SC.set {N : Nat} {cl K : Int} {T : ByteArray} {R : Int} {w0 w : World} (h : SC N cl K T R w0 w) (i : Nat) (u : Value) (K' : Int) (T' : ByteArray) (R' : Int) (he : (#[Value.int .i64 cl, .int .i64 K, .string T, .int .i64 R]).setIfInBounds i u = #[Value.int .i64 cl, .int .i64 K', .string T', .int .i64 R']) : SC N cl K' T' R' w0 (w.setCell ⟨N + 1 + 1, i, none⟩ u) := by
  obtain ⟨h1, h2, h3, h4, h5⟩ := h
  refine ⟨?_, ?_, ?_, ?_, Below.setCell h5 (p := ⟨N + 1 + 1, i, none⟩) (by show N ≤ N + 1 + 1; omega) _⟩
  · rw [Below.heap_setCell _ _ _ _ (by show N ≠ N + 1 + 1; omega)]; exact h1
  · rw [Below.heap_setCell _ _ _ _ (by show N + 1 ≠ N + 1 + 1; omega)]; exact h2
  · rw [← he]; exact Go.heap_setCell_same _ (N + 2) i _ _ _ h3
  · rw [Below.heap_setCell _ _ _ _ (by show N + 3 ≠ N + 1 + 1; omega)]; exact h4
theorem SC.drew {N : Nat} {cl K : Int} {T : ByteArray} {R : Int} {w0 w : World} (h : SC N cl K T R w0 w) : SC N cl K T R w0 w.drew := ⟨h.1, h.2.1, h.2.2.1, h.2.2.2.1, h.2.2.2.2.drew⟩
/-- The cells that l6Call reads. -/
theorem SC.at {N : Nat} {cl K : Int} {T : ByteArray} {R : Int} {w0 w : World} (h : SC N cl K T R w0 w) : (w.cell? ⟨N + 1 + 1, 0, none⟩ = some (.int .i64 cl) ∧ w.cell? ⟨N + 1 + 1, 1, none⟩ = some (.int .i64 K) ∧ w.cell? ⟨N + 1 + 1, 2, none⟩ = some (.string T) ∧ w.cell? ⟨N + 1 + 1, 3, none⟩ = some (.int .i64 R)) ∧ (∀ i, w.frozen? ⟨N + 1 + 1, i, none⟩ = false) ∧ (∀ i, w.frozen? ⟨N, i, none⟩ = false) ∧
    (w.cell? ⟨N, 0, none⟩ = some (.int .i64 0) ∧ w.cell? ⟨N, 1, none⟩ = some (.int .i64 0) ∧ w.cell? ⟨N, 2, none⟩ = some (.string ⟨#[]⟩) ∧ w.cell? ⟨N, 3, none⟩ = some (.int .i64 0)) ∧
    (w.cell? ⟨N + 1, 0, none⟩ = some (.int .i64 0) ∧ w.cell? ⟨N + 1, 1, none⟩ = some (.int .i64 0) ∧ w.cell? ⟨N + 1, 2, none⟩ = some (.string ⟨#[]⟩) ∧ w.cell? ⟨N + 1, 3, none⟩ = some (.int .i64 0)) := by
  obtain ⟨h1, h2, h3, h4, -⟩ := h
  exact ⟨⟨Lib.cell_of_heap h3 0, Lib.cell_of_heap h3 1, Lib.cell_of_heap h3 2, Lib.cell_of_heap h3 3⟩, fun i => Lib.frozen_of_heap h3 i, fun i => Lib.frozen_of_heap h1 i, ⟨Lib.cell_of_heap h1 0, Lib.cell_of_heap h1 1, Lib.cell_of_heap h1 2, Lib.cell_of_heap h1 3⟩, ⟨Lib.cell_of_heap h2 0, Lib.cell_of_heap h2 1, Lib.cell_of_heap h2 2, Lib.cell_of_heap h2 3⟩⟩
theorem headB (k : Nat) (hk : k < 4) : ∃ B : ByteArray, B.data.toList = headL k ∧ B.size ≤ 10 ∧ ∀ {N : Nat} {cl K : Int} {T : ByteArray} {R : Int} {w0 w : World}, SC N cl K T R w0 w → w.cell? ⟨N + 1 + 1 + 1, k, none⟩ = some (.string B) := by
  rcases (show k = 0 ∨ k = 1 ∨ k = 2 ∨ k = 3 by omega) with rfl | rfl | rfl | rfl
  · exact ⟨⟨#[112, 97, 116, 99, 104, 32]⟩, rfl, by decide, fun h => Lib.cell_of_heap h.2.2.2.1 0⟩
  · exact ⟨⟨#[103, 101, 116, 32]⟩, rfl, by decide, fun h => Lib.cell_of_heap h.2.2.2.1 1⟩
  · exact ⟨⟨#[113, 117, 101, 114, 121, 32]⟩, rfl, by decide, fun h => Lib.cell_of_heap h.2.2.2.1 2⟩
  · exact ⟨⟨#[119, 97, 116, 99, 104, 32]⟩, rfl, by decide, fun h => Lib.cell_of_heap h.2.2.2.1 3⟩
theorem ret_sc {N : Nat} {cl K : Int} {T : ByteArray} {R : Int} {w0 w : World} (h : SC N cl K T R w0 w) (a b c d : Value) : (put4 w N a b c d).heap[N]? = some (.cells #[a, b, c, d] 36 (0, 0)) ∧ Below N w0 (put4 w N a b c d) := ⟨put4_heap h.1 a b c d, put4_below h.2.2.2.2 (Nat.le_refl _) a b c d⟩
set_option maxHeartbeats 16000000 in
set_option maxRecDepth 100000 in
theorem call6_yes (s : ByteArray) (w : World) (hs : s.size ≤ 1048576) (h3 : 3 ≤ s.size) (ha : 48 ≤ s[0].toNat) (hb : s[0].toNat ≤ 55) (hc : s[1] = 32) : Calls Tryd.prog 11 #[.string s] w (CallR (callT s.data.toList) w) := by
  have hdl := data_len s
  have HV : Hid (callT s.data.toList = callR ((s[0].toNat : Int) - 48) (s.data.toList.drop 2)) := by
    show _ = _
    rw [callT_of (by omega)]
    have e1 : s.data.toList[1]'(by omega) = s[1] := rfl
    have e0 : s.data.toList[0]'(by omega) = s[0] := rfl
    rw [e1, e0, if_pos hc]
    unfold clientB
    rw [if_pos ⟨ha, hb⟩, Option.bind_some, show ((s[0].toNat - 48 : Nat) : Int) = (s[0].toNat : Int) - 48 by omega]
  have HEX : Hid (s.extract 2 s.size = baT (s.data.toList.drop 2)) := by
    show _ = _
    rw [ext_baT, List.take_of_length_le (by rw [List.length_drop]; omega)]
  have hrl : (s.data.toList.drop 2).length ≤ 1048576 := by rw [List.length_drop]; omega
  have h3I : ¬ (s.size : Int) < 3 := by omega
  have h0I : (0 : Int) < (s.size : Int) := by omega
  have h1I : (1 : Int) < (s.size : Int) := by omega
  have h2I : (2 : Int) ≤ (s.size : Int) := by omega
  have h0 : 0 < s.size := by omega
  have h1 : 1 < s.size := by omega
  have t1 : ((s[0].toNat : Int) < 48) = False := eq_false (by omega)
  have t2 : ((55 : Int) < (s[0].toNat : Int)) = False := eq_false (by omega)
  have t3 : ((s[1].toNat : Int) != 32) = false := by rw [hc]; rfl
  have hb1 : (48 : Int) ≤ (s[0].toNat : Int) := by omega
  have hb2 : (s[0].toNat : Int) ≤ 55 := by omega
  generalize callT s.data.toList = CT at *
  generalize s.data.toList.drop 2 = r at *
  generalize hLn : s.extract 2 s.size = Ln at *
  have HLN := hide hLn
  have hlr : Ln.toList = r := by rw [ByteArray.toList_eq, unhide HEX]; rfl
  have HCX : Hid (∀ d : Int, d = (s[0].toNat : Int) - 48 → CT = callR d r) := fun d e => by rw [e]; exact unhide HV
  clear ha hb hc hdl HV
  by_cases h5 : r = [116, 97, 107, 101]
  · have t5 : (Ln.toList == [116, 97, 107, 101]) = true := by rw [hlr, h5]; rfl
    have HV2 : Hid (CT = some ⟨(s[0].toNat : Int) - 48, 5, [], 0⟩) := by show _ = _; rw [unhide HCX _ rfl, h5]; rfl
    have HA := hide (al3_at w (.cells #[.int .i64 ((s[0].toNat : Int) - 48), .int .i64 5, .string ⟨#[]⟩, .int .i64 0] 36 (0, 0)) Zc (.cells #[.int .i64 ((s[0].toNat : Int) - 48), .int .i64 5, .string ⟨#[]⟩, .int .i64 0] 36 (0, 0)))
    clear h5 hlr HCX
    go_enter Tryd.func11, Tryd.ntmps11
    go_wp2
    exact ret_call (unhide HA).1 (unhide HA).2 (by rw [unhide HV2]; rfl) (fun p hp => by rw [unhide HV2] at hp; injection hp with hp; subst hp; exact ⟨rfl, rfl, rfl, rfl⟩) rfl rfl rfl
  · have t5 : (Ln.toList == [116, 97, 107, 101]) = false := by rw [hlr, beq_eq_false_iff_ne]; exact h5
    by_cases h6 : r = [99, 97, 110, 99, 101, 108]
    · have t6 : (Ln.toList == [99, 97, 110, 99, 101, 108]) = true := by rw [hlr, h6]; rfl
      have HV2 : Hid (CT = some ⟨(s[0].toNat : Int) - 48, 6, [], 0⟩) := by show _ = _; rw [unhide HCX _ rfl, h6]; rfl
      have HA := hide (al3_at w (.cells #[.int .i64 ((s[0].toNat : Int) - 48), .int .i64 6, .string ⟨#[]⟩, .int .i64 0] 36 (0, 0)) Zc (.cells #[.int .i64 ((s[0].toNat : Int) - 48), .int .i64 6, .string ⟨#[]⟩, .int .i64 0] 36 (0, 0)))
      clear h5 h6 hlr HCX
      go_enter Tryd.func11, Tryd.ntmps11
      go_wp2
      exact ret_call (unhide HA).1 (unhide HA).2 (by rw [unhide HV2]; rfl) (fun p hp => by rw [unhide HV2] at hp; injection hp with hp; subst hp; exact ⟨rfl, rfl, rfl, rfl⟩) rfl rfl rfl
    · have t6 : (Ln.toList == [99, 97, 110, 99, 101, 108]) = false := by rw [hlr, beq_eq_false_iff_ne]; exact h6
      have HV2 : Hid (CT = if (fnd r 4).1 = 0 then none else if (fnd r 4).1 = 4 then watchT ((s[0].toNat : Int) - 48) (fnd r 4).2 else some ⟨(s[0].toNat : Int) - 48, (fnd r 4).1, (fnd r 4).2, 0⟩) := by show _ = _; rw [unhide HCX _ rfl]; exact callR_fnd _ h5 h6
      have HSC0 := hide (SC.start w ((s[0].toNat : Int) - 48))
      have HRT : Hid (∀ (B : ByteArray) (wx : World), B.size ≤ 10 → Calls Tryd.prog 10 #[.string Ln, .string B] wx fun e w' => e = .returned (.tuple #[.string (baT ((strip B.data.toList r).getD [])), .bool (strip B.data.toList r).isSome]) ∧ wx = w') := fun B wx hB => by
        have h9 : Ln.data.toList = r := by rw [← ByteArray.toList_eq]; exact hlr
        have h8 : Ln.size ≤ 1048576 := by rw [← data_len, h9]; exact hrl
        have := rest_walk Ln B wx h8 hB
        rw [h9] at this
        exact this
      clear h5 h6 hlr HCX
      go_enter Tryd.func11, Tryd.ntmps11
      go_wp2
      go_loopw [8] (fun iv wr => ∃ (k : Nat), k ≤ 4 ∧ iv = .int .i64 (k : Int) ∧ Hid (SC w.heap.size ((s[0].toNat : Int) - 48) (fnd r k).1 (baT (fnd r k).2) 0 w wr)) (fun i _ => 4 - (intOf i).toNat)
      case atStart => exact ⟨0, Nat.zero_le _, rfl, unhide HSC0⟩
      case round =>
        obtain ⟨k, hk, rfl, hSC⟩ := hrel
        clear HSC0
        by_cases hlt : k < 4
        · have hltI : (k : Int) < 4 := by omega
          obtain ⟨Bh, hB1, hB2, hB3⟩ := headB k hlt
          have hcell := hB3 (unhide hSC)
          have HRK := hide (unhide HRT Bh wr hB2)
          rw [hB1] at HRK
          clear hB1 hB2 hB3 HRT
          cases hst : strip (headL k) r with
          | none =>
            rw [hst] at HRK
            have HSC2 : Hid (SC w.heap.size ((s[0].toNat : Int) - 48) (fnd r (k + 1)).1 (baT (fnd r (k + 1)).2) 0 w wr) := by show SC _ _ _ _ _ _ _; rw [fnd_no hst]; exact unhide hSC
            clear hst hSC
            go_wp2_with fail
            refine (unhide HRK).mono ?_
            rintro e w2 ⟨rfl, rfl⟩
            clear HRK hcell
            go_wp2
            go_roundw
            case rel => exact ⟨k + 1, by omega, by go_num, HSC2⟩
            case measure => simp [intOf]; omega
          | some t =>
            rw [hst] at HRK
            have HRK2 : Hid (Calls Tryd.prog 10 #[.string Ln, .string Bh] wr fun e w' => e = .returned (.tuple #[.string (baT t), .bool true]) ∧ wr = w') := unhide HRK
            have HSC1 := hide ((unhide hSC).set 1 (.int .i64 (1 + (k : Int))) (1 + (k : Int)) _ _ rfl)
            have HSC2 : Hid (SC w.heap.size ((s[0].toNat : Int) - 48) (fnd r (k + 1)).1 (baT (fnd r (k + 1)).2) 0 w ((wr.setCell ⟨w.heap.size + 1 + 1, 1, none⟩ (.int .i64 (1 + (k : Int)))).setCell ⟨w.heap.size + 1 + 1, 2, none⟩ (.string (baT t)))) := by
              show SC _ _ _ _ _ _ _
              rw [fnd_yes hst]
              exact (unhide HSC1).set 2 _ _ _ _ rfl
            obtain ⟨⟨-, q1, q2, -⟩, qf, -, -, -⟩ := (unhide hSC).at
            obtain ⟨⟨-, -, q2b, -⟩, qfb, -, -, -⟩ := (unhide HSC1).at
            have f1 := qf 1
            have f2 := qfb 2
            clear hst hSC HRK HSC1 qf qfb
            generalize baT t = TT at *
            go_wp2_with fail
            refine (unhide HRK2).mono ?_
            rintro e w2 ⟨rfl, rfl⟩
            clear HRK2 hcell
            go_wp2
            go_roundw
            case rel => exact ⟨k + 1, by omega, by go_num, HSC2⟩
            case measure => simp [intOf]; omega
        · have hk4 : k = 4 := by omega
          subst hk4
          have hfl := fnd_len r 4
          have hfr := fnd_rng r 4
          generalize hq : fnd r 4 = q at *
          clear hq
          obtain ⟨K, T⟩ := q
          simp only at hSC HV2 hfl hfr
          obtain ⟨⟨p0, p1, p2, p3⟩, pf, pz, ⟨z0, z1, z2, z3⟩, ⟨y0, y1, y2, y3⟩⟩ := (unhide hSC).at
          have z00 := pz 0
          have z01 := pz 1
          have z02 := pz 2
          have z03 := pz 3
          clear pf pz HRT
          by_cases hK0 : K = 0
          · subst hK0
            have HV3 : Hid (CT = none) := by show _ = _; rw [unhide HV2, if_pos rfl]
            clear HV2
            go_wp2
            exact ret_call (ret_sc (unhide hSC) _ _ _ _).1 (ret_sc (unhide hSC) _ _ _ _).2 (by rw [unhide HV3]; rfl) (fun p hp => by rw [unhide HV3] at hp; cases hp) rfl rfl rfl
          · have u0 : (K == 0) = false := by rw [beq_eq_false_iff_ne]; exact hK0
            by_cases hK4 : K = 4
            · subst hK4
              have HV3 : Hid (CT = watchT ((s[0].toNat : Int) - 48) T) := by show _ = _; rw [unhide HV2, if_neg (by decide), if_pos rfl]
              have hTs : T.length ≤ 1048576 := by omega
              have HBS : Hid ((baT T).size = T.length) := rfl
              have HAT : Hid (∀ n (hn : n < (baT T).size), T[n]? = some (baT T)[n]) := fun n hn => getElem_data (baT T) n hn
              clear HV2 hK0 hfl hfr
              have hTz : (baT T).size ≤ 1048576 := hTs
              have HEXT : Hid (∀ n, (baT T).extract n (baT T).size = baT (T.drop n)) := fun n => by
                rw [ext_baT]
                exact congrArg baT (List.take_of_length_le (by rw [List.length_drop]; show T.length - n ≤ T.length - n; omega))
              have HDW : Hid (∀ n (hn : n < (baT T).size) wx, Calls Tryd.prog 22 #[.int .u8 ((baT T)[n].toNat : Int)] wx fun e w' => e = .returned (.bool (isDg (baT T)[n].toNat)) ∧ wx = w') := fun n hn wx => dig6_walk _ wx
              have HAW : Hid (∀ (n : Nat) wx, Calls Tryd.prog 23 #[.string (baT T), .int .i64 (n : Int), .int .u8 32] wx fun e w' => e = .returned (.bool (atB (baT T) n 32)) ∧ wx = w') := fun n wx => at_walk (baT T) n n rfl 32 wx
              generalize hTT : baT T = TT at *
              have HTT := hide hTT
              clear hTT
              go_wp2
              clear u0 p0 p1 p2 p3 z0 z1 z2 z3 y0 y1 y2 y3 z00 z01 z02 z03
              go_loopw [11] (fun nv wx => ∃ n : Nat, n ≤ 3 ∧ n ≤ TT.size ∧ nv = .int .i64 (n : Int) ∧ Hid (DAt T n) ∧ Hid (SC w.heap.size ((s[0].toNat : Int) - 48) 4 TT ((digV (T.take n) : Nat) : Int) w wx)) (fun i _ => 4 - (intOf i).toNat)
              case atStart => exact ⟨0, by omega, Nat.zero_le _, rfl, DAt.start T, unhide hSC⟩
              case round =>
                obtain ⟨n, hn3, hns, rfl, hDA, hSC2⟩ := hrel
                clear hSC
                obtain ⟨⟨p0, p1, p2, p3⟩, pf, pz, ⟨z0, z1, z2, z3⟩, ⟨y0, y1, y2, y3⟩⟩ := (unhide hSC2).at
                have z00 := pz 0
                have z01 := pz 1
                have z02 := pz 2
                have z03 := pz 3
                have f2 := pf 2
                have f3 := pf 3
                clear pz pf
                by_cases hlt : n < TT.size
                · have hltI : (n : Int) < (TT.size : Int) := by omega
                  have hlT : n < T.length := by have := unhide HBS; omega
                  have hat : T[n]'hlT = TT[n] := by
                    have := unhide HAT n hlt
                    rw [List.getElem?_eq_getElem hlT] at this
                    injection this
                  have HD := hide (unhide HDW n hlt wr)
                  cases hd : isDg TT[n].toNat with
                  | true =>
                    rw [hd] at HD
                    have hdb := isDg_iff.1 hd
                    have HDA2 : Hid (DAt T (n + 1)) := (unhide hDA).step hlT (by rw [hat]; exact hd)
                    have HDV : Hid (((digV (T.take (n + 1)) : Nat) : Int) = ((digV (T.take n) : Nat) : Int) * 10 + ((TT[n].toNat : Int) - 48)) := by
                      show _ = _
                      rw [List.take_succ_eq_append_getElem hlT, digV_snoc, hat]; omega
                    have hdl : digV (T.take n) < 1000 := by
                      rcases dig_lt n (T.take n) (by rw [List.length_take]; omega) with h | h
                      · have : 10 ^ n ≤ 10 ^ 3 := Nat.pow_le_pow_right (by omega) (by omega)
                        omega
                      · exact absurd (unhide hDA).2 h
                    have hb3 : (48 : Int) ≤ (TT[n].toNat : Int) := by omega
                    have hb4 : (TT[n].toNat : Int) ≤ 57 := by omega
                    clear hat hd hdb HAT HDW HAW HEXT
                    generalize digV (T.take n) = DV at *
                    go_wp2_with fail
                    refine (unhide HD).mono ?_
                    rintro e w2 ⟨rfl, rfl⟩
                    clear HD
                    go_wp2
                    have hDI : (DV : Int) ≤ 999 := by omega
                    have hw1 : IntKind.i64.wrap ((DV : Int) * 10) = (DV : Int) * 10 := (Go.IntWalk.i64_left _).trans (Go.IntWalk.wrap64_in _ (by omega))
                    have hw2 : IntKind.i64.wrap ((DV : Int) * 10 + ((TT[n].toNat : Int) - 48)) = (DV : Int) * 10 + ((TT[n].toNat : Int) - 48) := (Go.IntWalk.i64_left _).trans (Go.IntWalk.wrap64_in _ (by omega))
                    have HSC3 : Hid (SC w.heap.size ((s[0].toNat : Int) - 48) 4 TT ((digV (T.take (n + 1)) : Nat) : Int) w (wr.setCell ⟨w.heap.size + 1 + 1, 3, none⟩ (.int .i64 ((DV : Int) * 10 + ((TT[n].toNat : Int) - 48)))).drew) := by
                      show SC _ _ _ _ _ _ _
                      rw [unhide HDV]
                      exact ((unhide hSC2).set 3 _ _ _ _ rfl).drew
                    by_cases hn : n = 3
                    · have hnI : (3 : Int) < (n : Int) + 1 := by omega
                      have HV4 : Hid (CT = none) := by
                        show _ = _
                        rw [unhide HV3]
                        have := unhide HDA2
                        rw [hn] at this
                        exact watch_long this
                      obtain ⟨-, -, -, ⟨a0, a1, a2, a3⟩, ⟨b0, b1, b2, b3⟩⟩ := (unhide HSC3).at
                      clear hn HDV hSC2 hDA HDA2 HV3 HBS
                      go_region
                      all_goals
                        go_wp2
                        exact ret_call (ret_sc (unhide HSC3) _ _ _ _).1 (ret_sc (unhide HSC3) _ _ _ _).2 (by rw [unhide HV4]; rfl) (fun p hp => by rw [unhide HV4] at hp; cases hp) rfl rfl rfl
                    · have hnI : ¬ (3 : Int) < (n : Int) + 1 := by omega
                      clear HDV hSC2 hDA
                      go_region
                      all_goals
                        go_wp2
                        go_roundw
                      all_goals first
                        | exact ⟨n + 1, by omega, by omega, by go_num, HDA2, HSC3⟩
                        | (simp [intOf]; omega)
                  | false =>
                    rw [hd] at HD
                    have HSTOP : ∀ hx : n < T.length, isDg T[n].toNat = false := fun hx => by rw [hat]; exact hd
                    clear hd hat
                    have HV4 : Hid (CT = if 1 ≤ n ∧ (T.drop n).head? = some 32 then some ⟨(s[0].toNat : Int) - 48, 4, T.drop (n + 1), (digV (T.take n) : Int)⟩ else none) := by
                      show _ = _
                      rw [unhide HV3]
                      exact watch_stop (unhide hDA) HSTOP hn3
                    have HAB : Hid (atB TT n 32 = true ↔ (T.drop n).head? = some 32) := by
                      show _ ↔ _
                      have e1 : TT.data.toList = T := by rw [← unhide HTT]; rfl
                      unfold atB
                      rw [e1, List.head?_drop]
                      cases T[n]? with
                      | none => simp
                      | some c =>
                        simp only [beq_iff_eq, Option.some.injEq]
                        constructor
                        · intro e; exact UInt8.toNat_inj.1 (by have : (32 : UInt8).toNat = 32 := rfl; omega)
                        · intro e; rw [e]; rfl
                    have HAK := hide (unhide HAW n wr)
                    have HXT := hide (unhide HEXT (n + 1))
                    clear HV3 HDW HAW HEXT HAT hDA HSTOP
                    by_cases hn0 : n = 0
                    · subst hn0
                      have HV5 : Hid (CT = none) := by show _ = _; rw [unhide HV4, if_neg (by omega)]
                      clear HV4 HAB HAK HXT
                      go_wp2_with fail
                      refine (unhide HD).mono ?_
                      rintro e w2 ⟨rfl, rfl⟩
                      clear HD
                      go_wp2
                      exact ret_call (ret_sc (unhide hSC2) _ _ _ _).1 (ret_sc (unhide hSC2) _ _ _ _).2 (by rw [unhide HV5]; rfl) (fun p hp => by rw [unhide HV5] at hp; cases hp) rfl rfl rfl
                    · have hn0b : ((n : Int) == 0) = false := by rw [beq_eq_false_iff_ne]; omega
                      have hn0c : (n = 0) = False := eq_false hn0
                      cases hab : atB TT n 32 with
                      | false =>
                        have HV5 : Hid (CT = none) := by
                          show _ = _
                          rw [unhide HV4, if_neg]
                          rintro ⟨_, h⟩
                          rw [(unhide HAB).2 h] at hab
                          cases hab
                        rw [hab] at HAK
                        clear HV4 HAB HXT hab hn0
                        go_wp2_with fail
                        refine (unhide HD).mono ?_
                        rintro e w2 ⟨rfl, rfl⟩
                        clear HD
                        go_wp2_with fail
                        refine (unhide HAK).mono ?_
                        rintro e w3 ⟨rfl, rfl⟩
                        clear HAK
                        go_wp2
                        exact ret_call (ret_sc (unhide hSC2) _ _ _ _).1 (ret_sc (unhide hSC2) _ _ _ _).2 (by rw [unhide HV5]; rfl) (fun p hp => by rw [unhide HV5] at hp; cases hp) rfl rfl rfl
                      | true =>
                        have HV5 : Hid (CT = some ⟨(s[0].toNat : Int) - 48, 4, T.drop (n + 1), (digV (T.take n) : Int)⟩) := by
                          show _ = _
                          rw [unhide HV4, if_pos ⟨by omega, (unhide HAB).1 hab⟩]
                        have hnl : n < TT.size := by
                          by_cases h : n < TT.size
                          · exact h
                          · rw [atB_out h] at hab; cases hab
                        have hnlI : (n : Int) + 1 ≤ (TT.size : Int) := by omega
                        have HSC4 : Hid (SC w.heap.size ((s[0].toNat : Int) - 48) 4 (baT (T.drop (n + 1))) ((digV (T.take n) : Nat) : Int) w (wr.setCell ⟨w.heap.size + 1 + 1, 2, none⟩ (.string (baT (T.drop (n + 1)))))) := (unhide hSC2).set 2 _ _ _ _ rfl
                        rw [← unhide HXT] at HSC4
                        obtain ⟨⟨d0, d1, d2, d3⟩, -, dz, ⟨x0, x1, x2, x3⟩, -⟩ := (unhide HSC4).at
                        have x00 := dz 0
                        have x01 := dz 1
                        have x02 := dz 2
                        have x03 := dz 3
                        rw [hab] at HAK
                        clear HV4 HAB hab hn0 dz
                        generalize (digV (T.take n) : Int) = DV at *
                        go_wp2_with fail
                        refine (unhide HD).mono ?_
                        rintro e w2 ⟨rfl, rfl⟩
                        clear HD
                        go_wp2_with fail
                        refine (unhide HAK).mono ?_
                        rintro e w3 ⟨rfl, rfl⟩
                        clear HAK
                        go_wp2
                        exact ret_call (ret_sc (unhide HSC4) _ _ _ _).1 (ret_sc (unhide HSC4) _ _ _ _).2 (by rw [unhide HV5]; rfl) (fun p hp => by rw [unhide HV5] at hp; injection hp with hp; subst hp; exact ⟨rfl, rfl, unhide HXT, rfl⟩) rfl rfl rfl
                · have hltI : ¬ (n : Int) < (TT.size : Int) := by omega
                  have hltD : decide ((n : Int) < (TT.size : Int)) = false := by simp; omega
                  have HSTOP : ∀ hx : n < T.length, isDg T[n].toNat = false := fun hx => by have := unhide HBS; omega
                  have HV4 : Hid (CT = if 1 ≤ n ∧ (T.drop n).head? = some 32 then some ⟨(s[0].toNat : Int) - 48, 4, T.drop (n + 1), (digV (T.take n) : Int)⟩ else none) := by
                    show _ = _
                    rw [unhide HV3]
                    exact watch_stop (unhide hDA) HSTOP hn3
                  have HAB : Hid (atB TT n 32 = true ↔ (T.drop n).head? = some 32) := by
                    show _ ↔ _
                    have e1 : TT.data.toList = T := by rw [← unhide HTT]; rfl
                    unfold atB
                    rw [e1, List.head?_drop]
                    cases T[n]? with
                    | none => simp
                    | some c =>
                      simp only [beq_iff_eq, Option.some.injEq]
                      constructor
                      · intro e; exact UInt8.toNat_inj.1 (by have : (32 : UInt8).toNat = 32 := rfl; omega)
                      · intro e; rw [e]; rfl
                  have HAK := hide (unhide HAW n wr)
                  have HXT := hide (unhide HEXT (n + 1))
                  clear HV3 HDW HAW HEXT HAT hDA HSTOP
                  by_cases hn0 : n = 0
                  · subst hn0
                    have HV5 : Hid (CT = none) := by show _ = _; rw [unhide HV4, if_neg (by omega)]
                    clear HV4 HAB HAK HXT
                    go_wp2
                    exact ret_call (ret_sc (unhide hSC2) _ _ _ _).1 (ret_sc (unhide hSC2) _ _ _ _).2 (by rw [unhide HV5]; rfl) (fun p hp => by rw [unhide HV5] at hp; cases hp) rfl rfl rfl
                  · have hn0b : ((n : Int) == 0) = false := by rw [beq_eq_false_iff_ne]; omega
                    have hn0c : (n = 0) = False := eq_false hn0
                    cases hab : atB TT n 32 with
                    | false =>
                      have HV5 : Hid (CT = none) := by
                        show _ = _
                        rw [unhide HV4, if_neg]
                        rintro ⟨_, h⟩
                        rw [(unhide HAB).2 h] at hab
                        cases hab
                      rw [hab] at HAK
                      clear HV4 HAB HXT hab hn0
                      go_wp2_with fail
                      refine (unhide HAK).mono ?_
                      rintro e w3 ⟨rfl, rfl⟩
                      clear HAK
                      go_wp2
                      exact ret_call (ret_sc (unhide hSC2) _ _ _ _).1 (ret_sc (unhide hSC2) _ _ _ _).2 (by rw [unhide HV5]; rfl) (fun p hp => by rw [unhide HV5] at hp; cases hp) rfl rfl rfl
                    | true =>
                      rw [atB_out hlt] at hab
                      cases hab
            · have u4 : (K != 4) = true := by rw [bne_iff_ne]; exact hK4
              have HV3 : Hid (CT = some ⟨(s[0].toNat : Int) - 48, K, T, 0⟩) := by show _ = _; rw [unhide HV2, if_neg hK0, if_neg hK4]
              clear HV2 hK0 hK4
              generalize hTT : baT T = TT at *
              have HTT := hide hTT
              clear hTT
              go_wp2
              exact ret_call (ret_sc (unhide hSC) _ _ _ _).1 (ret_sc (unhide hSC) _ _ _ _).2 (by rw [unhide HV3]; rfl) (fun p hp => by rw [unhide HV3] at hp; injection hp with hp; subst hp; exact ⟨rfl, rfl, (unhide HTT).symm, rfl⟩) rfl rfl rfl
end Go.Proofs.YtbihihkdgckgnaaDoor


namespace Go.Proofs.YtbihihkdgckgnaaDoor
open Go.RowKit

theorem call6_walk (s : ByteArray) (w : World) (hs : s.size ≤ 1048576) : Calls Tryd.prog 11 #[.string s] w (CallR (callT s.data.toList) w) := by
  have hdl := data_len s
  by_cases h3 : 3 ≤ s.size
  · by_cases hg : 48 ≤ s[0].toNat ∧ s[0].toNat ≤ 55 ∧ s[1] = 32
    · exact call6_yes s w hs h3 hg.1 hg.2.1 hg.2.2
    · refine call6_few s w hs ?_ (.inr ⟨h3, ?_⟩)
      · rw [callT_of (by omega)]
        have e1 : s.data.toList[1]'(by omega) = s[1] := rfl
        have e0 : s.data.toList[0]'(by omega) = s[0] := rfl
        rw [e1, e0]
        split
        · rename_i h1
          have : clientB s[0] = none := by unfold clientB; rw [if_neg fun h => hg ⟨h.1, h.2, h1⟩]
          rw [this]; rfl
        · rfl
      · by_cases ha : s[0].toNat < 48
        · exact .inl ha
        · by_cases hb : 55 < s[0].toNat
          · exact .inr (.inl hb)
          · exact .inr (.inr fun h => hg ⟨by omega, by omega, h⟩)
  · exact call6_few s w hs (callT_few (by omega)) (.inl (by omega))
abbrev Z3 : Obj := Obj.cells #[.string ⟨#[]⟩, .slice none 0 0, .slice none 0 0] 25 (0, 0)
/-- The blocks of ParseScript of the model, under way. -/
structure SP (N : Nat) (st : St) (lv : Value) (ls : List (List UInt8)) (w0 w : World) (D : ByteArray) (cv pv : Value) : Prop where
  r0 : w.heap[N]? = some Z3
  rs : w.heap[N + 3]? = some (.cells #[.string D, cv, pv] 25 (0, 0))
  dd : D = baT (st.doc.getD [])
  oc : OC w N cv st.cs
  oi : OI w N pv st.ps
  ol : OT w N lv ls
  bel : Below N w0 w
theorem SP.below {N : Nat} {st : St} {lv : Value} {ls : List (List UInt8)} {w0 w w' : World} {D : ByteArray} {cv pv : Value} (h : SP N st lv ls w0 w D cv pv) (hb : Below w.heap.size w w') : SP N st lv ls w0 w' D cv pv :=
  ⟨(hb.block _ (Array.getElem?_eq_some_iff.1 h.r0).1).trans h.r0, (hb.block _ (Array.getElem?_eq_some_iff.1 h.rs).1).trans h.rs, h.dd, own_below h.oc hb, own_below h.oi hb, own_below h.ol hb, h.bel.trans (hb.mono (by have := (Array.getElem?_eq_some_iff.1 h.r0).1; omega))⟩
theorem SP.doc {N : Nat} {st : St} {lv : Value} {ls : List (List UInt8)} {w0 w : World} {D : ByteArray} {cv pv : Value} (h : SP N st lv ls w0 w D cv pv) (d : List UInt8) : SP N ⟨some d, st.cs, st.ps⟩ lv ls w0 (w.setCell ⟨N + 1 + 1 + 1, 0, none⟩ (.string (baT d))) (baT d) cv pv :=
  ⟨(Below.heap_setCell _ _ _ _ (by show N ≠ N + 1 + 1 + 1; omega)).trans h.r0, Go.heap_setCell_same _ (N + 1 + 1 + 1) 0 _ _ _ h.rs, rfl, own_set h.oc h.rs (by decide) 0 _, own_set h.oi h.rs (by decide) 0 _, own_set h.ol h.rs (by decide) 0 _, Below.setCell h.bel (p := ⟨N + 1 + 1 + 1, 0, none⟩) (by show N ≤ N + 1 + 1 + 1; omega) _⟩
/-- A call more. -/
theorem SP.call {N : Nat} {st : St} {lv : Value} {ls : List (List UInt8)} {w0 w w' : World} {D : ByteArray} {cv pv v' : Value} {c : PCall} (h : SP N st lv ls w0 w D cv pv) (ho : OC w' N v' (st.cs ++ [c])) (hg : w.grownBy w' cv.ownBlock) : SP N ⟨st.doc, st.cs ++ [c], st.ps⟩ lv ls w0 (w'.setCell ⟨N + 1 + 1 + 1, 1, none⟩ v') D v' pv ∧ w'.heap[N + 1 + 1 + 1]? = some (.cells #[.string D, cv, pv] 25 (0, 0)) := by
  have hN : N ≤ w.heap.size := by have := (Array.getElem?_eq_some_iff.1 h.r0).1; omega
  have k0 := (hg.block N (Array.getElem?_eq_some_iff.1 h.r0).1 (fun e => own_ne h.oc h.r0 (by decide) e.symm)).trans h.r0
  have ks := (hg.block (N + 3) (Array.getElem?_eq_some_iff.1 h.rs).1 (fun e => own_ne h.oc h.rs (by decide) e.symm)).trans h.rs
  have ki := own_grown h.oi hg (own_apart2 h.oi h.oc (by decide))
  have kl := own_grown h.ol hg (own_apart2 h.ol h.oc (by decide))
  have kb := h.bel.grown hg hN (fun k hk => (h.oc.lt k hk).1)
  exact ⟨⟨(Below.heap_setCell _ _ _ _ (by show N ≠ N + 1 + 1 + 1; omega)).trans k0, Go.heap_setCell_same _ (N + 1 + 1 + 1) 1 _ _ _ ks, h.dd, own_set ho ks (by decide) 1 _, own_set ki ks (by decide) 1 _, own_set kl ks (by decide) 1 _, Below.setCell kb (p := ⟨N + 1 + 1 + 1, 1, none⟩) (by show N ≤ N + 1 + 1 + 1; omega) _⟩, ks⟩
/-- Picks more. -/
theorem SP.picks {N : Nat} {st : St} {lv : Value} {ls : List (List UInt8)} {w0 w w' : World} {D : ByteArray} {cv pv v' : Value} {p : List Int} (h : SP N st lv ls w0 w D cv pv) (ho : OI w' N v' (st.ps ++ p)) (hg : w.grownBy w' pv.ownBlock) : SP N ⟨st.doc, st.cs, st.ps ++ p⟩ lv ls w0 (w'.setCell ⟨N + 1 + 1 + 1, 2, none⟩ v') D cv v' ∧ w'.heap[N + 1 + 1 + 1]? = some (.cells #[.string D, cv, pv] 25 (0, 0)) := by
  have hN : N ≤ w.heap.size := by have := (Array.getElem?_eq_some_iff.1 h.r0).1; omega
  have k0 := (hg.block N (Array.getElem?_eq_some_iff.1 h.r0).1 (fun e => own_ne h.oi h.r0 (by decide) e.symm)).trans h.r0
  have ks := (hg.block (N + 3) (Array.getElem?_eq_some_iff.1 h.rs).1 (fun e => own_ne h.oi h.rs (by decide) e.symm)).trans h.rs
  have kc := own_grown h.oc hg (own_apart2 h.oc h.oi (by decide))
  have kl := own_grown h.ol hg (own_apart2 h.ol h.oi (by decide))
  have kb := h.bel.grown hg hN (fun k hk => (h.oi.lt k hk).1)
  exact ⟨⟨(Below.heap_setCell _ _ _ _ (by show N ≠ N + 1 + 1 + 1; omega)).trans k0, Go.heap_setCell_same _ (N + 1 + 1 + 1) 2 _ _ _ ks, h.dd, own_set kc ks (by decide) 2 _, own_set ho ks (by decide) 2 _, own_set kl ks (by decide) 2 _, Below.setCell kb (p := ⟨N + 1 + 1 + 1, 2, none⟩) (by show N ≤ N + 1 + 1 + 1; omega) _⟩, ks⟩
theorem SP.cells {N : Nat} {st : St} {lv : Value} {ls : List (List UInt8)} {w0 w : World} {D : ByteArray} {cv pv : Value} (h : SP N st lv ls w0 w D cv pv) : (w.cell? ⟨N + 1 + 1 + 1, 0, none⟩ = some (.string D) ∧ w.cell? ⟨N + 1 + 1 + 1, 1, none⟩ = some cv ∧ w.cell? ⟨N + 1 + 1 + 1, 2, none⟩ = some pv) ∧ (∀ i, w.frozen? ⟨N + 1 + 1 + 1, i, none⟩ = false) ∧ (∀ i, w.frozen? ⟨N, i, none⟩ = false) ∧ (w.cell? ⟨N, 0, none⟩ = some (.string ⟨#[]⟩) ∧ w.cell? ⟨N, 1, none⟩ = some (.slice none 0 0) ∧ w.cell? ⟨N, 2, none⟩ = some (.slice none 0 0)) :=
  ⟨⟨Lib.cell_of_heap h.rs 0, Lib.cell_of_heap h.rs 1, Lib.cell_of_heap h.rs 2⟩, fun i => Lib.frozen_of_heap h.rs i, fun i => Lib.frozen_of_heap h.r0 i, ⟨Lib.cell_of_heap h.r0 0, Lib.cell_of_heap h.r0 1, Lib.cell_of_heap h.r0 2⟩⟩
theorem SP.line {N : Nat} {st : St} {x : Option Addr} {y z : Nat} {ls : List (List UInt8)} {w0 w : World} {D : ByteArray} {cv pv : Value} (h : SP N st (.slice x y z) ls w0 w D cv pv) {j : Nat} (hj : j < ls.length) : y = ls.length ∧ ∃ g, x = some ⟨g, 0, none⟩ ∧ w.cell? ⟨g, j, none⟩ = some (.string (baT ls[j])) := by
  obtain ⟨a, g, cap, hv, hs, -⟩ := OT.shape h.ol
  injection hv with h1 h2 h3
  refine ⟨h2, g, ?_, ?_⟩
  · rw [h1]; exact hs.ad (by rw [List.length_map]; omega)
  · have := hs.cell j (by rw [List.length_map]; exact hj)
    rw [Nat.zero_add] at this
    rw [this]
    simp [List.getD_eq_getElem?_getD, hj]
theorem ret_scr {w w' : World} {pr : Int × Int × St} {cx : Option Addr} {cy cz : Nat} {px : Option Addr} {py pz : Nat} {D : ByteArray} {code line : Int} (hg : w'.heap[w.heap.size]? = some (.cells #[.string D, .slice cx cy cz, .slice px py pz] 25 (0, 0))) (hpr : pr.1 = code ∧ pr.2.1 = line) (hD : D = baT (pr.2.2.doc.getD [])) (hc : OC w' w.heap.size (.slice cx cy cz) pr.2.2.cs) (hi : OI w' w.heap.size (.slice px py pz) pr.2.2.ps) (hb : Below w.heap.size w w')
    {a : Act} (hp : a.tmps.getD 2 undef = .pointer (some ⟨w.heap.size, 0, none⟩)) (hr : a.tmps.getD 3 undef = .int .i64 code) (hq : a.tmps.getD 4 undef = .int .i64 line) (hd : a.defers = []) : bodyPost Tryd.prog Tryd.f4 (ParsR pr w) Exit.ret a w' := by
  refine bodyPost_ret (results_script hg rfl rfl _ _ _ hp hr hq) hd ?_
  exact ⟨cx, cy, cz, px, py, pz, by rw [hD, hpr.1, hpr.2], hc, hi, hb⟩
end Go.Proofs.YtbihihkdgckgnaaDoor


namespace Go.Proofs.YtbihihkdgckgnaaDoor
open Go.RowKit

abbrev W4 (w : World) : World := (((w.alloc Z3).alloc (.cells #[] 36)).alloc (.cells #[] 3)).alloc (.cells #[.string ⟨#[]⟩, .slice (some ⟨w.heap.size + 1, 0, none⟩) 0 0, .slice (some ⟨w.heap.size + 1 + 1, 0, none⟩) 0 0] 25)
theorem SP.start (w w2 : World) (v : Value) (ls : List (List UInt8)) (ho : OT w2 (W4 w).heap.size v ls) (hb : Below (W4 w).heap.size (W4 w) w2) : SP w.heap.size st0 v ls w w2 ⟨#[]⟩ (.slice (some ⟨w.heap.size + 1, 0, none⟩) 0 0) (.slice (some ⟨w.heap.size + 1 + 1, 0, none⟩) 0 0) := by
  have e1 : (w.alloc Z3).heap.size = w.heap.size + 1 := by simp
  have e2 : ((w.alloc Z3).alloc (.cells #[] 36)).heap.size = w.heap.size + 2 := by simp
  have e3 : (((w.alloc Z3).alloc (.cells #[] 36)).alloc (.cells #[] 3)).heap.size = w.heap.size + 3 := by simp
  have e4 : (W4 w).heap.size = w.heap.size + 4 := by simp [W4]
  have b0 := al_b w Z3
  have b1 := al_b (w.alloc Z3) (.cells #[] 36)
  have b2 := al_b ((w.alloc Z3).alloc (.cells #[] 36)) (.cells #[] 3)
  have b3 : Below _ _ (W4 w) := al_b (((w.alloc Z3).alloc (.cells #[] 36)).alloc (.cells #[] 3)) _
  have c1 : OC ((w.alloc Z3).alloc (.cells #[] 36)) w.heap.size (.slice (some ⟨w.heap.size + 1, 0, none⟩) 0 0) [] := by
    have := World.ownsRow_lit (base := w.heap.size) (e := 36) (size := 4) (w.alloc Z3) #[] 0 (by omega) (by unfold maxLen; omega) rfl
    rw [e1] at this
    exact this
  have c2 : OI (((w.alloc Z3).alloc (.cells #[] 36)).alloc (.cells #[] 3)) w.heap.size (.slice (some ⟨w.heap.size + 1 + 1, 0, none⟩) 0 0) [] := by
    have := World.ownsRow_lit (base := w.heap.size) (e := 3) (size := 1) ((w.alloc Z3).alloc (.cells #[] 36)) #[] 0 (by omega) (by unfold maxLen; omega) rfl
    rw [e2] at this
    exact this
  have h3 : (W4 w).heap[w.heap.size + 3]? = some (.cells #[.string ⟨#[]⟩, .slice (some ⟨w.heap.size + 1, 0, none⟩) 0 0, .slice (some ⟨w.heap.size + 1 + 1, 0, none⟩) 0 0] 25 (0, 0)) := by
    have := heap_alloc_new (((w.alloc Z3).alloc (.cells #[] 36)).alloc (.cells #[] 3)) (.cells #[.string ⟨#[]⟩, .slice (some ⟨w.heap.size + 1, 0, none⟩) 0 0, .slice (some ⟨w.heap.size + 1 + 1, 0, none⟩) 0 0] 25)
    rw [e3] at this
    exact this
  have h0 : (W4 w).heap[w.heap.size]? = some Z3 := (b3.block _ (by omega)).trans ((b2.block _ (by omega)).trans ((b1.block _ (by omega)).trans (heap_alloc_new w Z3)))
  refine ⟨(hb.block _ (by omega)).trans h0, (hb.block _ (by omega)).trans h3, rfl, ?_, ?_, own_mono ho (by omega), ?_⟩
  · exact own_below (own_below (own_below c1 b2) b3) hb
  · exact own_below (own_below c2 b3) hb
  · exact b0.trans ((b1.mono (by omega)).trans ((b2.mono (by omega)).trans ((b3.mono (by omega)).trans (hb.mono (by omega)))))
set_option maxHeartbeats 16000000 in
set_option maxRecDepth 100000 in
theorem specParse_walk (s : ByteArray) (w : World) (hs : s.size ≤ 1048576) : Calls Tryd.prog 4 #[.string s] w (ParsR (prR s.data.toList) w) := by
  have hdl := data_len s
  by_cases hbig : (20000 : Int) < (s.size : Int)
  · have HV : Hid (prR s.data.toList = (1, 0, st0)) := by show _ = _; unfold prR; rw [if_pos (by omega)]
    generalize prR s.data.toList = PR at *
    have HZ := hide (heap_alloc_new w Z3)
    have HB := hide (al_b w Z3)
    clear hdl hs
    go_enter Tryd.func4, Tryd.ntmps4
    go_wp2
    exact ret_scr (unhide HZ) (by rw [unhide HV]; exact ⟨rfl, rfl⟩) (by rw [unhide HV]; rfl) (by rw [unhide HV]; exact OC.nil _ _) (by rw [unhide HV]; exact OI.nil _ _) (unhide HB) rfl rfl rfl rfl
  · have HBIG : Hid (¬ 20000 < s.data.toList.length) := fun e => hbig (by omega)
    have hsz : (s.size : Int) ≤ 20000 := by omega
    have HPI : Hid (∀ i, runS' (piecesB 10 s.data.toList) 0 st0 = .inl i → prR s.data.toList = (2, (i : Int) + 1, st0)) := fun i h => prR_bad (unhide HBIG) h
    have HPN : Hid (∀ st, runS' (piecesB 10 s.data.toList) 0 st0 = .inr st → st.doc = none → prR s.data.toList = (3, 0, st0)) := fun st h h2 => prR_none (unhide HBIG) h h2
    have HPO : Hid (∀ st d, runS' (piecesB 10 s.data.toList) 0 st0 = .inr st → st.doc = some d → prR s.data.toList = (0, 0, st)) := fun st d h h2 => prR_ok (unhide HBIG) h h2
    have HSZ : Hid (∀ j st, stL ((piecesB 10 s.data.toList).take j) st0 = some st → szSt st ≤ 1048576) := fun j st h => by have := st_sz h; omega
    have HLL : Hid (∀ x ∈ piecesB 10 s.data.toList, x.length ≤ 1048576) := fun x hx => by have := piecesB_le hx; omega
    have hll : (piecesB 10 s.data.toList).length ≤ 20001 := by
      rw [← cutsB_data, List.length_map]
      have := cutsB_le 10 s
      omega
    have HLN := fun wx => lines_walk s wx hs
    generalize prR s.data.toList = PR at *
    generalize piecesB 10 s.data.toList = ls at *
    have hlI : (ls.length : Int) ≤ 20001 := by omega
    have hbg : ((20000 : Int) < (s.size : Int)) = False := eq_false hbig
    have HLW : Hid (Calls Tryd.prog 9 #[.string s] (W4 w) fun e w' => ∃ v, e = .returned v ∧ OT w' (W4 w).heap.size v ls ∧ Below (W4 w).heap.size (W4 w) w') := HLN (W4 w)
    clear HLN hdl hbig HBIG hs hsz
    go_enter Tryd.func4, Tryd.ntmps4
    go_wp2_with fail
    refine (unhide HLW).mono ?_
    rintro e w2 ⟨v, rfl, ho2, b2⟩
    obtain ⟨lx, ly, lz, rfl⟩ := own_slice3 ho2
    have HSP0 := hide (SP.start w w2 _ ls ho2 b2)
    have hly : ly = ls.length := by
      obtain ⟨x, z, e⟩ := own_slice ho2
      injection e
    subst hly
    clear HLW ho2 b2
    go_wp2
    go_loopw [6, 8] (fun bv iv wr => ∃ (j : Nat) (st : St) (D : ByteArray) (cx : Option Addr) (cy cz : Nat) (px : Option Addr) (py pz : Nat), j ≤ ls.length ∧ iv = .int .i64 (j : Int) ∧ bv = .bool st.doc.isSome ∧ Hid (stL (ls.take j) st0 = some st) ∧ Hid (SP w.heap.size st (.slice lx ls.length lz) ls w wr D (.slice cx cy cz) (.slice px py pz))) (fun _ i _ => ls.length - (intOf i).toNat)
    case atStart => exact ⟨0, st0, _, _, _, _, _, _, _, Nat.zero_le _, rfl, rfl, rfl, unhide HSP0⟩
    case round =>
      obtain ⟨j, st, D, cx, cy, cz, px, py, pz, hj, rfl, rfl, hst, hSP⟩ := hrel
      clear HSP0
      obtain ⟨⟨s0, s1, s2⟩, sf, zf, ⟨z0, z1, z2⟩⟩ := (unhide hSP).cells
      have z00 := zf 0
      have z01 := zf 1
      have z02 := zf 2
      have f0 := sf 0
      clear sf zf
      by_cases hlt : j < ls.length
      · have hltI : (j : Int) < (ls.length : Int) := by omega
        obtain ⟨-, g, rfl, c1⟩ := (unhide hSP).line hlt
        have HTK : Hid (ls.take (j + 1) = ls.take j ++ [ls[j]]) := List.take_succ_eq_append_getElem hlt
        have HBAD : Hid (stepE st ls[j] = none → PR = (2, (j : Int) + 1, st0)) := fun h => unhide HPI j (runS'_bad hlt (unhide hst) h)
        have HNX : Hid (∀ st', stepE st ls[j] = some st' → stL (ls.take (j + 1)) st0 = some st') := fun st' h => by rw [unhide HTK, stL_snoc, unhide hst]; exact h
        have hzs := unhide HLL ls[j] (List.getElem_mem hlt)
        have hzst := unhide HSZ j st (unhide hst)
        clear HTK HPI HPN HPO HSZ hst HLL
        generalize ls[j] = L at *
        by_cases he : L = []
        · have t0 : (baT L).toList.isEmpty = true := by rw [ByteArray.toList_eq, he]; rfl
          have HST := hide (unhide HNX st (by unfold stepE; rw [if_pos he]))
          clear he HNX HBAD
          go_wp2
          go_roundw
          case rel => exact ⟨j + 1, st, D, cx, cy, cz, px, py, pz, by omega, by go_num, rfl, HST, hSP⟩
          case measure => simp [intOf]; omega
        · have t0 : (baT L).toList.isEmpty = false := by rw [ByteArray.toList_eq, List.isEmpty_eq_false_iff]; exact he
          have HSE : Hid (stepE st L = stepL st L) := by show _ = _; unfold stepE; rw [if_neg he]
          rw [unhide HSE] at HBAD HNX
          have hLz : (baT L).size ≤ 1048576 := hzs
          clear he HSE
          cases hdoc : st.doc with
          | none =>
            have HR := hide (rest_walk (baT L) ⟨#[100, 111, 99, 32]⟩ wr hLz (by decide))
            have HR2 : Hid (Calls Tryd.prog 10 #[.string (baT L), .string ⟨#[100, 111, 99, 32]⟩] wr fun e w' => e = .returned (.tuple #[.string (baT ((strip [100, 111, 99, 32] L).getD [])), .bool (strip [100, 111, 99, 32] L).isSome]) ∧ wr = w') := unhide HR
            have HSL : Hid (stepL st L = (strip [100, 111, 99, 32] L).map fun d => ⟨some d, st.cs, st.ps⟩) := by show _ = _; unfold stepL; rw [hdoc]
            clear HR
            cases hsp : strip [100, 111, 99, 32] L with
            | none =>
              rw [hsp] at HR2 HSL
              have HV := hide (unhide HBAD (unhide HSL))
              clear hsp HSL HBAD HNX hdoc
              generalize baT L = BL at *
              go_wp2_with fail
              refine (unhide HR2).mono ?_
              rintro e w3 ⟨rfl, rfl⟩
              clear HR2
              go_wp2
              exact ret_scr (put3_heap (unhide hSP).r0 (.string ⟨#[]⟩) (.slice none 0 0) (.slice none 0 0)) (by rw [unhide HV]; exact ⟨rfl, rfl⟩) (by rw [unhide HV]; rfl) (by rw [unhide HV]; exact OC.nil _ _) (by rw [unhide HV]; exact OI.nil _ _) (put3_below (unhide hSP).bel (Nat.le_refl _) _ _ _) rfl rfl rfl rfl
            | some d =>
              rw [hsp] at HR2 HSL
              have HR3 : Hid (Calls Tryd.prog 10 #[.string (baT L), .string ⟨#[100, 111, 99, 32]⟩] wr fun e w' => e = .returned (.tuple #[.string (baT d), .bool true]) ∧ wr = w') := unhide HR2
              have HST := hide (unhide HNX _ (unhide HSL))
              have HSP2 := hide ((unhide hSP).doc d)
              clear hsp HSL HBAD HNX hdoc HR2 hSP
              generalize baT L = BL at *
              generalize baT d = DB at *
              go_wp2_with fail
              refine (unhide HR3).mono ?_
              rintro e w3 ⟨rfl, rfl⟩
              clear HR3
              go_wp2
              go_roundw
              case rel => exact ⟨j + 1, ⟨some d, st.cs, st.ps⟩, DB, cx, cy, cz, px, py, pz, by omega, by go_num, rfl, HST, HSP2⟩
              case measure => simp [intOf]; omega
          | some dd =>
            have HSL := hide (stepL_spec hdoc L)
            have HC := hide (call6_walk (baT L) wr hLz)
            have HC2 : Hid (Calls Tryd.prog 11 #[.string (baT L)] wr (CallR (callT L) wr)) := unhide HC
            have HP2 : Hid (∀ wx, Calls Tryd.prog 12 #[.string (baT L)] wx (PicksR (lineP L) wx)) := fun wx => picks6_walk (baT L) wx hLz
            have HDOC := hide hdoc
            have HCELL : Hid (∀ wx, Below wr.heap.size wr wx → wx.cell? ⟨g, j, none⟩ = some (.string (baT L))) := fun wx hb => (hb.cell (World.block_lt_of_cell? _ _ c1)).trans c1
            have hzc : st.cs.length ≤ 1048576 := by unfold szSt at hzst; omega
            have hzp : st.ps.length ≤ 1048576 := by unfold szSt at hzst; omega
            have HPL : Hid (∀ p, lineP L = some p → p.length ≤ 1048576) := fun p h => Nat.le_trans (lineP_len h) hzs
            clear HC hdoc hzst
            generalize baT L = BL at *
            go_wp2_with fail
            refine (unhide HC2).mono ?_
            rintro e w3 ⟨c, k, r, t, rfl, hp, b3⟩
            obtain ⟨O, hO⟩ : ∃ O : Obj, O = Obj.cells #[.int .i64 c, .int .i64 k, .string t, .int .i64 r] 36 (0, 0) := ⟨_, rfl⟩
            have HB3 := hide (below_next b3 (al_b w3 O))
            have c3 := unhide HCELL _ (unhide HB3)
            have HN3 := hide (heap_alloc_new w3 O)
            have HP3 := hide (unhide HP2 (w3.alloc O))
            have HPP := hide hp
            clear HC2 HP2 b3 hp HCELL s0 s1 s2 z0 z1 z2 z00 z01 z02 f0 c1
            subst hO
            go_wp2_with fail
            refine (unhide HP3).mono ?_
            rintro e w4 ⟨qx, qy, qz, rfl, b4, hO⟩
            have HB4 := hide (below_next (unhide HB3) b4)
            have HSP4 := hide ((unhide hSP).below (unhide HB4))
            have HN4 := hide ((b4.block _ (Array.getElem?_eq_some_iff.1 (unhide HN3)).1).trans (unhide HN3))
            obtain ⟨⟨s0, s1, s2⟩, sf, zf, ⟨z0, z1, z2⟩⟩ := (unhide HSP4).cells
            have z00 := zf 0
            have z01 := zf 1
            have z02 := zf 2
            have HOP := hide hO
            clear HP3 b4 hO hSP HB3 HN3 c3 sf zf
            cases hct : callT L with
            | some pc =>
              obtain ⟨e1, e2, e3, e4⟩ : c = pc.cl ∧ k = pc.k ∧ t = baT pc.tx ∧ r = pc.rm := by first | exact unhide HPP pc hct | exact unhide HPP pc rfl
              have HST : Hid (stL (ls.take (j + 1)) st0 = some ⟨st.doc, st.cs ++ [pc], st.ps⟩) := unhide HNX _ (by rw [unhide HSL, hct])
              have HCC : Hid (callC pc = [.int .i64 c, .int .i64 k, .string t, .int .i64 r]) := by show _ = _; rw [e1, e2, e3, e4]; rfl
              have n0 : w4.cell? ⟨w3.heap.size, 0, none⟩ = some (.int .i64 c) := Lib.cell_of_heap (unhide HN4) 0
              have n1 : w4.cell? ⟨w3.heap.size, 1, none⟩ = some (.int .i64 k) := Lib.cell_of_heap (unhide HN4) 1
              have n2 : w4.cell? ⟨w3.heap.size, 2, none⟩ = some (.string t) := Lib.cell_of_heap (unhide HN4) 2
              have n3 : w4.cell? ⟨w3.heap.size, 3, none⟩ = some (.int .i64 r) := Lib.cell_of_heap (unhide HN4) 3
              have HSP5 := hide ((unhide HSP4).below (al_b w4 (Obj.cells #[.int .i64 c, .int .i64 k, .string t, .int .i64 r] 36 (0, 0))))
              have HCL : Hid (∀ (i : Nat) (u : Value), (callC pc)[i]? = some u → (w4.alloc (Obj.cells #[.int .i64 c, .int .i64 k, .string t, .int .i64 r] 36 (0, 0))).cell? ((⟨w4.heap.size, 0, none⟩ : Addr).add i) = some u) := fun i u hu => by
                rw [unhide HCC] at hu
                rw [Go.WideShapes.add_plain, Nat.zero_add, Lib.cell_of_heap (heap_alloc_new w4 (Obj.cells #[.int .i64 c, .int .i64 k, .string t, .int .i64 r] 36 (0, 0))) i]
                simpa using hu
              have HZ5 : Hid (w.heap.size ≤ (w4.alloc (Obj.cells #[.int .i64 c, .int .i64 k, .string t, .int .i64 r] 36 (0, 0))).heap.size) := (unhide HSP5).bel.size
              clear HSL HBAD HNX HPP HOP hct HN4 e1 e2 e3 e4 HCC HSP4 HPL HB4
              go_wp2_with (at_builtin; refine wpList_append_call rfl (.tmp 70) (.tmp 72) rfl (c := pc) rfl (unhide HSP5).oc rfl (unhide HCL) (unhide HZ5) (by omega) ?_)
              intro v' w5 hO5 hg5
              obtain ⟨hsp6, hks⟩ := (unhide HSP5).call hO5 hg5
              obtain ⟨vx, vy, vz, rfl⟩ := own_slice3 hO5
              have f1 : w5.frozen? ⟨w.heap.size + 1 + 1 + 1, 1, none⟩ = false := Lib.frozen_of_heap hks 1
              have g1 : w5.cell? ⟨w.heap.size + 1 + 1 + 1, 1, none⟩ = some (.slice cx cy cz) := Lib.cell_of_heap hks 1
              have HSP6 := hide hsp6
              have HDB : Hid (st.doc.isSome = true) := by show _ = _; rw [unhide HDOC]; rfl
              clear hO5 hg5 hsp6 hks HSP5 HCL n0 n1 n2 n3 s0 s1 s2 z0 z1 z2 z00 z01 z02
              go_wp2
              go_roundw
              case rel => exact ⟨j + 1, ⟨st.doc, st.cs ++ [pc], st.ps⟩, D, vx, vy, vz, px, py, pz, by omega, by go_num, by rw [unhide HDB], HST, HSP6⟩
              case measure => simp [intOf]; omega
            | none =>
              cases hlp : lineP L with
              | some pp =>
                have HO5 : Hid (OI w4 (w3.alloc (Obj.cells #[.int .i64 c, .int .i64 k, .string t, .int .i64 r] 36 (0, 0))).heap.size (.slice qx qy qz) pp) := by first | exact unhide HOP pp hlp | exact unhide HOP pp rfl
                have hpl := unhide HPL pp hlp
                have HST : Hid (stL (ls.take (j + 1)) st0 = some ⟨st.doc, st.cs, st.ps ++ pp⟩) := unhide HNX _ (by rw [unhide HSL, hct, hlp]; rfl)
                have HZ4 : Hid (w.heap.size ≤ w4.heap.size) := (unhide HSP4).bel.size
                clear HSL HBAD HNX HPP HOP hct hlp HN4 HPL HB4
                go_wp2_with (at_builtin; refine wpList_append_ints rfl (.tmp 77) (.tmp 78) rfl rfl rfl (unhide HSP4).oi (unhide HO5) (unhide HZ4) (by omega) ?_)
                intro v' w5 hO5 hg5
                obtain ⟨hsp6, hks⟩ := (unhide HSP4).picks hO5 hg5
                obtain ⟨vx, vy, vz, rfl⟩ := own_slice3 hO5
                have f1 : w5.frozen? ⟨w.heap.size + 1 + 1 + 1, 2, none⟩ = false := Lib.frozen_of_heap hks 2
                have g1 : w5.cell? ⟨w.heap.size + 1 + 1 + 1, 2, none⟩ = some (.slice px py pz) := Lib.cell_of_heap hks 2
                have HSP6 := hide hsp6
                have HDB : Hid (st.doc.isSome = true) := by show _ = _; rw [unhide HDOC]; rfl
                clear hO5 hg5 hsp6 hks HSP4 HO5 s0 s1 s2 z0 z1 z2 z00 z01 z02
                go_wp2
                go_roundw
                case rel => exact ⟨j + 1, ⟨st.doc, st.cs, st.ps ++ pp⟩, D, cx, cy, cz, vx, vy, vz, by omega, by go_num, by rw [unhide HDB], HST, HSP6⟩
                case measure => simp [intOf]; omega
              | none =>
                have HV : Hid (PR = (2, (j : Int) + 1, st0)) := unhide HBAD (by rw [unhide HSL, hct, hlp]; rfl)
                clear HSL HBAD HNX HPP HOP hct hlp HN4
                go_wp2
                exact ret_scr (put3_heap (unhide HSP4).r0 (.string ⟨#[]⟩) (.slice none 0 0) (.slice none 0 0)) (by rw [unhide HV]; exact ⟨rfl, rfl⟩) (by rw [unhide HV]; rfl) (by rw [unhide HV]; exact OC.nil _ _) (by rw [unhide HV]; exact OI.nil _ _) (put3_below (unhide HSP4).bel (Nat.le_refl _) _ _ _) rfl rfl rfl rfl
      · have hje : ls.take j = ls := List.take_of_length_le (by omega)
        rw [hje] at hst
        have HRE := hide (runS'_end (unhide hst))
        have hltI : ¬ (j : Int) < (ls.length : Int) := by omega
        clear hst hje HSZ HPI HLL
        cases hdoc : st.doc with
        | none =>
          have HV := hide (unhide HPN st (unhide HRE) hdoc)
          clear hdoc HPN HPO HRE
          go_wp2
          exact ret_scr (put3_heap (unhide hSP).r0 (.string ⟨#[]⟩) (.slice none 0 0) (.slice none 0 0)) (by rw [unhide HV]; exact ⟨rfl, rfl⟩) (by rw [unhide HV]; rfl) (by rw [unhide HV]; exact OC.nil _ _) (by rw [unhide HV]; exact OI.nil _ _) (put3_below (unhide hSP).bel (Nat.le_refl _) _ _ _) rfl rfl rfl rfl
        | some d =>
          have HV := hide (unhide HPO st d (unhide HRE) hdoc)
          clear hdoc HPN HPO HRE
          go_wp2
          exact ret_scr (put3_heap (unhide hSP).r0 (.string D) (.slice cx cy cz) (.slice px py pz)) (by rw [unhide HV]; exact ⟨rfl, rfl⟩) (by rw [unhide HV]; exact (unhide hSP).dd) (by rw [unhide HV]; exact put3_own (unhide hSP).oc (unhide hSP).r0 (by decide) _ _ _) (by rw [unhide HV]; exact put3_own (unhide hSP).oi (unhide hSP).r0 (by decide) _ _ _) (put3_below (unhide hSP).bel (Nat.le_refl _) _ _ _) rfl rfl rfl rfl
end Go.Proofs.YtbihihkdgckgnaaDoor

