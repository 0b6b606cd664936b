import Derived.Test.YtadefcohbkgbfabGreatDoorBn13
import Derived.Test.YtadefcohbkgbfabGreatDoorBn16
import Derived.Test.YtadefcohbkgbfabGreatDoorBn10
namespace Go.Proofs.YtadefcohbkgbfabGreatDoor
open Go.RowKit

def readD : Option JV → Sum Nat JV
  | none => .inl 2
  | some v => if bigV v then .inl 3 else if twV v then .inl 4 else if 100 < depV v ∨ 3000 < cntV v then .inl 5 else .inr v
theorem readR_d {s : ByteArray} (h : ¬ 20000 < s.size) : readR s = readD (docR s) := by
  unfold readR
  rw [if_neg h]
  cases docR s <;> rfl

set_option maxRecDepth 100000 in
set_option maxHeartbeats 4000000 in
theorem specCanon_walk (s : ByteArray) (w : World) (hz : s.size ≤ 1048576) :
    Calls Tryz.prog 12 #[.string s] w fun e w' => e = .returned (canonV s) ∧ Below w.heap.size w w' := by
  by_cases h0 : 20000 < s.size
  · have tl : (20000 : Int) < (s.size : Int) := by omega
    have HV : Hid (canonV s = .tuple #[.string ⟨#[]⟩, .int .i64 1]) := by show _ = _; unfold canonV readR; rw [if_pos h0]; rfl
    clear h0
    go_enter Tryz.func12, Tryz.ntmps12
    go_wp2
    go_ret2
    exact ⟨by rw [unhide HV]; rfl, Below.refl _ _⟩
  · have tl : ¬ (20000 : Int) < (s.size : Int) := by omega
    have hk0 : sk s 0 ≤ s.size := (sk_le (Nat.zero_le _)).2
    have HSK : Hid (∀ (i : Nat) (w : World), Calls Tryz.prog 36 #[.string s, .int .i64 (i : Int)] w fun e w' => e = .returned (.int .i64 ((sk s i : Nat) : Int)) ∧ w = w') := fun i w => l1Skip_walk s i w hz
    have HS0 : Hid (Calls Tryz.prog 36 #[.string s, .int .i64 0] w fun e w' => e = .returned (.int .i64 ((sk s 0 : Nat) : Int)) ∧ w = w') := unhide HSK 0 w
    have HVAL := hide (value_walk s (by omega) s.size (sk s 0) w (by omega) hk0)
    have HR : Hid (readR s = readD (docR s)) := readR_d h0
    have hdoc : docR s = (val s (sk s 0)).bind fun q => if sk s q.2 = s.size then some q.1 else none := rfl
    cases hv : val s (sk s 0) with
    | none =>
      rw [hv] at HVAL hdoc
      have HV : Hid (canonV s = .tuple #[.string ⟨#[]⟩, .int .i64 2]) := by show _ = _; unfold canonV; rw [unhide HR, hdoc]; rfl
      clear HR hdoc hv h0
      go_enter Tryz.func12, Tryz.ntmps12
      go_wp2_with fail
      refine (unhide HS0).mono ?_
      rintro e w1 ⟨rfl, rfl⟩
      go_wp2_with fail
      refine (unhide HVAL).mono ?_
      rintro e w1 ⟨b1, t, n, b, tw, rfl⟩
      have B1 := b1.alloc b1.size (.cells #[.string t, .int .i64 (n : Int), .bool false, .bool b, .bool tw] 58)
      clear HS0 HVAL HSK
      simp only [gotV]
      go_wp2
      go_ret2
      exact ⟨by rw [unhide HV]; rfl, B1⟩
    | some q =>
      obtain ⟨v, n⟩ := q
      obtain ⟨hn1, hn2⟩ := val_ok hv
      have hok := val_okV hv
      have hcn := val_cnt hv
      have hln := val_len hv
      rw [hv] at HVAL hdoc
      simp only [Option.bind_some] at hdoc
      by_cases he : sk s n = s.size
      · rw [if_pos he] at hdoc
        have te : ((sk s n : Int) != (s.size : Int)) = false := by rw [bne_eq_false_iff_eq]; omega
        rw [hdoc] at HR
        have HSN := hide (fun w => unhide HSK n w)
        have HWI : Hid (∀ w : World, Calls Tryz.prog 37 #[.string (strOf (ct v))] w fun e w' => e = .returned (.bool (decide (depV v ≤ 100 ∧ cntV v ≤ 3000))) ∧ Below w.heap.size w w') := fun w => within_ct v hok w (by omega) (by omega)
        cases hb : bigV v with
        | true =>
          have HV : Hid (canonV s = .tuple #[.string ⟨#[]⟩, .int .i64 3]) := by show _ = _; unfold canonV; rw [unhide HR, readD, hb]; rfl
          have HVAL' : Hid (Calls Tryz.prog 35 #[.string s, .int .i64 ((sk s 0 : Nat) : Int)] w fun e w' => e = .returned (gotV (strOf (ct v)) n true true (twV v)) ∧ Below w.heap.size w w') := (unhide HVAL).mono fun e w' h => ⟨by have := h.2; simp only [Option.elim_some] at this; rw [hb] at this; exact this, h.1⟩
          generalize strOf (ct v) = tx at *
          generalize twV v = tw at *
          generalize sk s n = m at *
          clear HVAL HR hdoc hv h0 he hb HWI HSK hok hcn hln
          go_enter Tryz.func12, Tryz.ntmps12
          go_wp2_with fail
          refine (unhide HS0).mono ?_
          rintro e w1 ⟨rfl, rfl⟩
          go_wp2_with fail
          refine (unhide HVAL').mono ?_
          rintro e w1 ⟨rfl, b1⟩
          have B1 := b1.alloc b1.size (.cells #[.string tx, .int .i64 (n : Int), .bool true, .bool true, .bool tw] 58)
          clear HS0 HVAL'
          simp only [gotV]
          go_wp2_with fail
          refine (unhide HSN _).mono ?_
          rintro e w2 ⟨rfl, rfl⟩
          clear HSN
          go_wp2
          go_ret2
          exact ⟨by rw [unhide HV]; rfl, B1⟩
        | false =>
          cases ht : twV v with
          | true =>
            have HV : Hid (canonV s = .tuple #[.string ⟨#[]⟩, .int .i64 4]) := by show _ = _; unfold canonV; rw [unhide HR, readD, hb, ht]; rfl
            have HVAL' : Hid (Calls Tryz.prog 35 #[.string s, .int .i64 ((sk s 0 : Nat) : Int)] w fun e w' => e = .returned (gotV (strOf (ct v)) n true false true) ∧ Below w.heap.size w w') := (unhide HVAL).mono fun e w' h => ⟨by have := h.2; simp only [Option.elim_some] at this; rw [hb, ht] at this; exact this, h.1⟩
            generalize strOf (ct v) = tx at *
            generalize sk s n = m at *
            clear HVAL HR hdoc hv h0 he hb ht HWI HSK hok hcn hln
            go_enter Tryz.func12, Tryz.ntmps12
            go_wp2_with fail
            refine (unhide HS0).mono ?_
            rintro e w1 ⟨rfl, rfl⟩
            go_wp2_with fail
            refine (unhide HVAL').mono ?_
            rintro e w1 ⟨rfl, b1⟩
            have B1 := b1.alloc b1.size (.cells #[.string tx, .int .i64 (n : Int), .bool true, .bool false, .bool true] 58)
            clear HS0 HVAL'
            simp only [gotV]
            go_wp2_with fail
            refine (unhide HSN _).mono ?_
            rintro e w2 ⟨rfl, rfl⟩
            clear HSN
            go_wp2
            go_ret2
            exact ⟨by rw [unhide HV]; rfl, B1⟩
          | false =>
            have HVAL' : Hid (Calls Tryz.prog 35 #[.string s, .int .i64 ((sk s 0 : Nat) : Int)] w fun e w' => e = .returned (gotV (strOf (ct v)) n true false false) ∧ Below w.heap.size w w') := (unhide HVAL).mono fun e w' h => ⟨by have := h.2; simp only [Option.elim_some] at this; rw [hb, ht] at this; exact this, h.1⟩
            by_cases hg : depV v ≤ 100 ∧ cntV v ≤ 3000
            · have HV : Hid (canonV s = .tuple #[.string (strOf (ct v)), .int .i64 0]) := by show _ = _; unfold canonV; rw [unhide HR, readD, hb, ht, if_neg (by decide), if_neg (by decide), if_neg (by omega)]
              rw [decide_eq_true hg] at HWI
              generalize strOf (ct v) = tx at *
              generalize sk s n = m at *
              clear HVAL HR hdoc hv h0 he hb ht HSK hok hcn hln hg
              go_enter Tryz.func12, Tryz.ntmps12
              go_wp2_with fail
              refine (unhide HS0).mono ?_
              rintro e w1 ⟨rfl, rfl⟩
              go_wp2_with fail
              refine (unhide HVAL').mono ?_
              rintro e w1 ⟨rfl, b1⟩
              have B1 := hide (b1.alloc b1.size (.cells #[.string tx, .int .i64 (n : Int), .bool true, .bool false, .bool false] 58))
              clear HS0 HVAL'
              simp only [gotV]
              go_wp2_with fail
              refine (unhide HSN _).mono ?_
              rintro e w2 ⟨rfl, rfl⟩
              clear HSN
              have G2 : Got w1.heap.size tx n true false false (w1.alloc (.cells #[.string tx, .int .i64 (n : Int), .bool true, .bool false, .bool false] 58)) := heap_alloc_new w1 _
              have HG2 := hide G2
              clear G2
              go_wp2_with fail
              refine (unhide HWI _).mono ?_
              rintro e w3 ⟨rfl, b3⟩
              have c3 := ((unhide HG2).below b3).c0
              have B3 := below_next (unhide B1) b3
              clear HWI HG2 b3 B1
              go_wp2
              go_ret2
              exact ⟨by rw [unhide HV]; rfl, B3⟩
            · have HV : Hid (canonV s = .tuple #[.string ⟨#[]⟩, .int .i64 5]) := by show _ = _; unfold canonV; rw [unhide HR, readD, hb, ht, if_neg (by decide), if_neg (by decide), if_pos (by omega)]; rfl
              rw [decide_eq_false hg] at HWI
              generalize strOf (ct v) = tx at *
              generalize sk s n = m at *
              clear HVAL HR hdoc hv h0 he hb ht HSK hok hcn hln hg
              go_enter Tryz.func12, Tryz.ntmps12
              go_wp2_with fail
              refine (unhide HS0).mono ?_
              rintro e w1 ⟨rfl, rfl⟩
              go_wp2_with fail
              refine (unhide HVAL').mono ?_
              rintro e w1 ⟨rfl, b1⟩
              have B1 := hide (b1.alloc b1.size (.cells #[.string tx, .int .i64 (n : Int), .bool true, .bool false, .bool false] 58))
              clear HS0 HVAL'
              simp only [gotV]
              go_wp2_with fail
              refine (unhide HSN _).mono ?_
              rintro e w2 ⟨rfl, rfl⟩
              clear HSN
              go_wp2_with fail
              refine (unhide HWI _).mono ?_
              rintro e w3 ⟨rfl, b3⟩
              have B3 := below_next (unhide B1) b3
              clear HWI b3 B1
              go_wp2
              go_ret2
              exact ⟨by rw [unhide HV]; rfl, B3⟩
      · rw [if_neg he] at hdoc
        have te : ((sk s n : Int) != (s.size : Int)) = true := by rw [bne_iff_ne]; omega
        have HV : Hid (canonV s = .tuple #[.string ⟨#[]⟩, .int .i64 2]) := by show _ = _; unfold canonV; rw [unhide HR, hdoc]; rfl
        have HSN := hide (fun w => unhide HSK n w)
        have HVAL' : Hid (Calls Tryz.prog 35 #[.string s, .int .i64 ((sk s 0 : Nat) : Int)] w fun e w' => e = .returned (gotV (strOf (ct v)) n true (bigV v) (twV v)) ∧ Below w.heap.size w w') := (unhide HVAL).mono fun e w' h => ⟨h.2, h.1⟩
        generalize strOf (ct v) = tx at *
        generalize twV v = tw at *
        generalize bigV v = bg at *
        generalize sk s n = m at *
        clear HVAL HR hdoc hv h0 HSK hok hcn hln
        go_enter Tryz.func12, Tryz.ntmps12
        go_wp2_with fail
        refine (unhide HS0).mono ?_
        rintro e w1 ⟨rfl, rfl⟩
        go_wp2_with fail
        refine (unhide HVAL').mono ?_
        rintro e w1 ⟨rfl, b1⟩
        have B1 := b1.alloc b1.size (.cells #[.string tx, .int .i64 (n : Int), .bool true, .bool bg, .bool tw] 58)
        clear HS0 HVAL'
        simp only [gotV]
        go_wp2_with fail
        refine (unhide HSN _).mono ?_
        rintro e w2 ⟨rfl, rfl⟩
        clear HSN
        go_wp2
        go_ret2
        exact ⟨by rw [unhide HV]; rfl, B1⟩
end Go.Proofs.YtadefcohbkgbfabGreatDoor


namespace Go.Proofs.YtadefcohbkgbfabGreatDoor
open Go.RowKit

set_option maxRecDepth 100000 in
set_option maxHeartbeats 1600000 in
theorem specMeasure_walk (s : ByteArray) (w : World) (hz : s.size ≤ 1048576) :
    Calls Tryz.prog 13 #[.string s] w fun e w' => e = .returned (measV s) ∧ Below w.heap.size w w' := by
  have HF := hide (specCanon_walk s w hz)
  cases hr : readR s with
  | inl c =>
    obtain ⟨c1, c2⟩ := read_code hr
    have HV : Hid (measV s = .tuple #[.int .i64 0, .int .i64 0, .int .i64 (c : Int)]) := by show _ = _; unfold measV; rw [hr]
    have e0 : canonV s = .tuple #[.string ⟨#[]⟩, .int .i64 (c : Int)] := by unfold canonV; rw [hr]
    rw [e0] at HF
    have t1 : ((c : Int) == 0) = false := by simp; omega
    have t2 : ((c : Int) != 0) = true := by simp; omega
    have t3 : ¬ (c : Int) = 0 := by omega
    have t4 : ¬ c = 0 := by omega
    clear hr e0
    go_enter Tryz.func13, Tryz.ntmps13
    go_wp2_with fail
    refine (unhide HF).mono ?_
    rintro e w1 ⟨rfl, b1⟩
    clear HF
    go_wp2
    go_ret3
    exact ⟨by rw [unhide HV]; rfl, b1⟩
  | inr v =>
    obtain ⟨hs, hd, htw, _, _, _⟩ := read_facts hr
    obtain ⟨hok, hcn, hln⟩ := doc_facts hd
    have HV : Hid (measV s = .tuple #[.int .i64 (depV v : Int), .int .i64 (cntV v : Int), .int .i64 0]) := by show _ = _; unfold measV; rw [hr]
    have e0 : canonV s = .tuple #[.string (strOf (ct v)), .int .i64 0] := by unfold canonV; rw [hr]
    rw [e0] at HF
    have HC : Hid (∀ w : World, Calls Tryz.prog 38 #[.string (strOf (ct v))] w fun e w' => e = .returned (.tuple #[.int .i64 (depV v : Int), .int .i64 (cntV v : Int)]) ∧ Below w.heap.size w w') := fun w => sizesV v hok (by omega) (by omega) w
    generalize strOf (ct v) = cv at *
    clear hr hd e0 hok htw
    go_enter Tryz.func13, Tryz.ntmps13
    go_wp2_with fail
    refine (unhide HF).mono ?_
    rintro e w1 ⟨rfl, b1⟩
    clear HF
    go_wp2_with fail
    refine (unhide HC w1).mono ?_
    rintro e w2 ⟨rfl, b2⟩
    have B2 := below_next b1 b2
    clear HC
    go_wp2
    go_ret3
    exact ⟨by rw [unhide HV]; rfl, B2⟩

end Go.Proofs.YtadefcohbkgbfabGreatDoor

