import Derived.Test.YtlfonikfjibloaaGreatDoorBt18
import Derived.Test.YtlfonikfjibloaaGreatDoorBt20
import Derived.Test.YtlfonikfjibloaaGreatDoorBt11
import Derived.Test.YtlfonikfjibloaaGreatDoorBt19
import Derived.Test.YtlfonikfjibloaaGreatDoorBt14
namespace Go.Proofs.YtlfonikfjibloaaGreatDoor
open Go.RowKit

def readD : Option JV → Sum Nat JV
  | none => .inl 2
  | some v => if bigV v then .inl 3 else if twV v then .inl 4 else if 100 < depV v ∨ 3000 < cntV v then .inl 5 else .inr v
theorem readR_d {s : ByteArray} (h : ¬ 20000 < s.size) : readR s = readD (docR s) := by
  unfold readR
  rw [if_neg h]
  cases docR s <;> rfl

set_option maxRecDepth 100000 in
set_option maxHeartbeats 4000000 in
theorem specCanon_walk (s : ByteArray) (w : World) (hz : s.size ≤ 1048576) :
    Calls Tryz.prog 37 #[.string s] w fun e w' => e = .returned (canonV s) ∧ Below w.heap.size w w' := by
  by_cases h0 : 20000 < s.size
  · have tl : (20000 : Int) < (s.size : Int) := by omega
    have HV : Hid (canonV s = .tuple #[.string ⟨#[]⟩, .int .i64 1]) := by show _ = _; unfold canonV readR; rw [if_pos h0]; rfl
    clear h0
    go_enter Tryz.func37, Tryz.ntmps37
    go_wp2
    go_ret2
    exact ⟨by rw [unhide HV]; rfl, Below.refl _ _⟩
  · have tl : ¬ (20000 : Int) < (s.size : Int) := by omega
    have hk0 : sk s 0 ≤ s.size := (sk_le (Nat.zero_le _)).2
    have HSK : Hid (∀ (i : Nat) (w : World), Calls Tryz.prog 81 #[.string s, .int .i64 (i : Int)] w fun e w' => e = .returned (.int .i64 ((sk s i : Nat) : Int)) ∧ w = w') := fun i w => l1Skip_walk s i w hz
    have HS0 : Hid (Calls Tryz.prog 81 #[.string s, .int .i64 0] w fun e w' => e = .returned (.int .i64 ((sk s 0 : Nat) : Int)) ∧ w = w') := unhide HSK 0 w
    have HVAL := hide (value_walk s (by omega) s.size (sk s 0) w (by omega) hk0)
    have HR : Hid (readR s = readD (docR s)) := readR_d h0
    have hdoc : docR s = (val s (sk s 0)).bind fun q => if sk s q.2 = s.size then some q.1 else none := rfl
    cases hv : val s (sk s 0) with
    | none =>
      rw [hv] at HVAL hdoc
      have HV : Hid (canonV s = .tuple #[.string ⟨#[]⟩, .int .i64 2]) := by show _ = _; unfold canonV; rw [unhide HR, hdoc]; rfl
      clear HR hdoc hv h0
      go_enter Tryz.func37, Tryz.ntmps37
      go_wp2_with fail
      refine (unhide HS0).mono ?_
      rintro e w1 ⟨rfl, rfl⟩
      go_wp2_with fail
      refine (unhide HVAL).mono ?_
      rintro e w1 ⟨b1, t, n, b, tw, rfl⟩
      have B1 := b1.alloc b1.size (.cells #[.string t, .int .i64 (n : Int), .bool false, .bool b, .bool tw] 162)
      clear HS0 HVAL HSK
      simp only [gotV]
      go_wp2
      go_ret2
      exact ⟨by rw [unhide HV]; rfl, B1⟩
    | some q =>
      obtain ⟨v, n⟩ := q
      obtain ⟨hn1, hn2⟩ := val_ok hv
      have hok := val_okV hv
      have hcn := val_cnt hv
      have hln := val_len hv
      rw [hv] at HVAL hdoc
      simp only [Option.bind_some] at hdoc
      by_cases he : sk s n = s.size
      · rw [if_pos he] at hdoc
        have te : ((sk s n : Int) != (s.size : Int)) = false := by rw [bne_eq_false_iff_eq]; omega
        rw [hdoc] at HR
        have HSN := hide (fun w => unhide HSK n w)
        have HWI : Hid (∀ w : World, Calls Tryz.prog 82 #[.string (strOf (ct v))] w fun e w' => e = .returned (.bool (decide (depV v ≤ 100 ∧ cntV v ≤ 3000))) ∧ Below w.heap.size w w') := fun w => within_ct v hok w (by omega) (by omega)
        cases hb : bigV v with
        | true =>
          have HV : Hid (canonV s = .tuple #[.string ⟨#[]⟩, .int .i64 3]) := by show _ = _; unfold canonV; rw [unhide HR, readD, hb]; rfl
          have HVAL' : Hid (Calls Tryz.prog 80 #[.string s, .int .i64 ((sk s 0 : Nat) : Int)] w fun e w' => e = .returned (gotV (strOf (ct v)) n true true (twV v)) ∧ Below w.heap.size w w') := (unhide HVAL).mono fun e w' h => ⟨by have := h.2; simp only [Option.elim_some] at this; rw [hb] at this; exact this, h.1⟩
          generalize strOf (ct v) = tx at *
          generalize twV v = tw at *
          generalize sk s n = m at *
          clear HVAL HR hdoc hv h0 he hb HWI HSK hok hcn hln
          go_enter Tryz.func37, Tryz.ntmps37
          go_wp2_with fail
          refine (unhide HS0).mono ?_
          rintro e w1 ⟨rfl, rfl⟩
          go_wp2_with fail
          refine (unhide HVAL').mono ?_
          rintro e w1 ⟨rfl, b1⟩
          have B1 := b1.alloc b1.size (.cells #[.string tx, .int .i64 (n : Int), .bool true, .bool true, .bool tw] 162)
          clear HS0 HVAL'
          simp only [gotV]
          go_wp2_with fail
          refine (unhide HSN _).mono ?_
          rintro e w2 ⟨rfl, rfl⟩
          clear HSN
          go_wp2
          go_ret2
          exact ⟨by rw [unhide HV]; rfl, B1⟩
        | false =>
          cases ht : twV v with
          | true =>
            have HV : Hid (canonV s = .tuple #[.string ⟨#[]⟩, .int .i64 4]) := by show _ = _; unfold canonV; rw [unhide HR, readD, hb, ht]; rfl
            have HVAL' : Hid (Calls Tryz.prog 80 #[.string s, .int .i64 ((sk s 0 : Nat) : Int)] w fun e w' => e = .returned (gotV (strOf (ct v)) n true false true) ∧ Below w.heap.size w w') := (unhide HVAL).mono fun e w' h => ⟨by have := h.2; simp only [Option.elim_some] at this; rw [hb, ht] at this; exact this, h.1⟩
            generalize strOf (ct v) = tx at *
            generalize sk s n = m at *
            clear HVAL HR hdoc hv h0 he hb ht HWI HSK hok hcn hln
            go_enter Tryz.func37, Tryz.ntmps37
            go_wp2_with fail
            refine (unhide HS0).mono ?_
            rintro e w1 ⟨rfl, rfl⟩
            go_wp2_with fail
            refine (unhide HVAL').mono ?_
            rintro e w1 ⟨rfl, b1⟩
            have B1 := b1.alloc b1.size (.cells #[.string tx, .int .i64 (n : Int), .bool true, .bool false, .bool true] 162)
            clear HS0 HVAL'
            simp only [gotV]
            go_wp2_with fail
            refine (unhide HSN _).mono ?_
            rintro e w2 ⟨rfl, rfl⟩
            clear HSN
            go_wp2
            go_ret2
            exact ⟨by rw [unhide HV]; rfl, B1⟩
          | false =>
            have HVAL' : Hid (Calls Tryz.prog 80 #[.string s, .int .i64 ((sk s 0 : Nat) : Int)] w fun e w' => e = .returned (gotV (strOf (ct v)) n true false false) ∧ Below w.heap.size w w') := (unhide HVAL).mono fun e w' h => ⟨by have := h.2; simp only [Option.elim_some] at this; rw [hb, ht] at this; exact this, h.1⟩
            by_cases hg : depV v ≤ 100 ∧ cntV v ≤ 3000
            · have HV : Hid (canonV s = .tuple #[.string (strOf (ct v)), .int .i64 0]) := by show _ = _; unfold canonV; rw [unhide HR, readD, hb, ht, if_neg (by decide), if_neg (by decide), if_neg (by omega)]
              rw [decide_eq_true hg] at HWI
              generalize strOf (ct v) = tx at *
              generalize sk s n = m at *
              clear HVAL HR hdoc hv h0 he hb ht HSK hok hcn hln hg
              go_enter Tryz.func37, Tryz.ntmps37
              go_wp2_with fail
              refine (unhide HS0).mono ?_
              rintro e w1 ⟨rfl, rfl⟩
              go_wp2_with fail
              refine (unhide HVAL').mono ?_
              rintro e w1 ⟨rfl, b1⟩
              have B1 := hide (b1.alloc b1.size (.cells #[.string tx, .int .i64 (n : Int), .bool true, .bool false, .bool false] 162))
              clear HS0 HVAL'
              simp only [gotV]
              go_wp2_with fail
              refine (unhide HSN _).mono ?_
              rintro e w2 ⟨rfl, rfl⟩
              clear HSN
              have G2 : Got w1.heap.size tx n true false false (w1.alloc (.cells #[.string tx, .int .i64 (n : Int), .bool true, .bool false, .bool false] 162)) := heap_alloc_new w1 _
              have HG2 := hide G2
              clear G2
              go_wp2_with fail
              refine (unhide HWI _).mono ?_
              rintro e w3 ⟨rfl, b3⟩
              have c3 := ((unhide HG2).below b3).c0
              have B3 := below_next (unhide B1) b3
              clear HWI HG2 b3 B1
              go_wp2
              go_ret2
              exact ⟨by rw [unhide HV]; rfl, B3⟩
            · have HV : Hid (canonV s = .tuple #[.string ⟨#[]⟩, .int .i64 5]) := by show _ = _; unfold canonV; rw [unhide HR, readD, hb, ht, if_neg (by decide), if_neg (by decide), if_pos (by omega)]; rfl
              rw [decide_eq_false hg] at HWI
              generalize strOf (ct v) = tx at *
              generalize sk s n = m at *
              clear HVAL HR hdoc hv h0 he hb ht HSK hok hcn hln hg
              go_enter Tryz.func37, Tryz.ntmps37
              go_wp2_with fail
              refine (unhide HS0).mono ?_
              rintro e w1 ⟨rfl, rfl⟩
              go_wp2_with fail
              refine (unhide HVAL').mono ?_
              rintro e w1 ⟨rfl, b1⟩
              have B1 := hide (b1.alloc b1.size (.cells #[.string tx, .int .i64 (n : Int), .bool true, .bool false, .bool false] 162))
              clear HS0 HVAL'
              simp only [gotV]
              go_wp2_with fail
              refine (unhide HSN _).mono ?_
              rintro e w2 ⟨rfl, rfl⟩
              clear HSN
              go_wp2_with fail
              refine (unhide HWI _).mono ?_
              rintro e w3 ⟨rfl, b3⟩
              have B3 := below_next (unhide B1) b3
              clear HWI b3 B1
              go_wp2
              go_ret2
              exact ⟨by rw [unhide HV]; rfl, B3⟩
      · rw [if_neg he] at hdoc
        have te : ((sk s n : Int) != (s.size : Int)) = true := by rw [bne_iff_ne]; omega
        have HV : Hid (canonV s = .tuple #[.string ⟨#[]⟩, .int .i64 2]) := by show _ = _; unfold canonV; rw [unhide HR, hdoc]; rfl
        have HSN := hide (fun w => unhide HSK n w)
        have HVAL' : Hid (Calls Tryz.prog 80 #[.string s, .int .i64 ((sk s 0 : Nat) : Int)] w fun e w' => e = .returned (gotV (strOf (ct v)) n true (bigV v) (twV v)) ∧ Below w.heap.size w w') := (unhide HVAL).mono fun e w' h => ⟨h.2, h.1⟩
        generalize strOf (ct v) = tx at *
        generalize twV v = tw at *
        generalize bigV v = bg at *
        generalize sk s n = m at *
        clear HVAL HR hdoc hv h0 HSK hok hcn hln
        go_enter Tryz.func37, Tryz.ntmps37
        go_wp2_with fail
        refine (unhide HS0).mono ?_
        rintro e w1 ⟨rfl, rfl⟩
        go_wp2_with fail
        refine (unhide HVAL').mono ?_
        rintro e w1 ⟨rfl, b1⟩
        have B1 := b1.alloc b1.size (.cells #[.string tx, .int .i64 (n : Int), .bool true, .bool bg, .bool tw] 162)
        clear HS0 HVAL'
        simp only [gotV]
        go_wp2_with fail
        refine (unhide HSN _).mono ?_
        rintro e w2 ⟨rfl, rfl⟩
        clear HSN
        go_wp2
        go_ret2
        exact ⟨by rw [unhide HV]; rfl, B1⟩
end Go.Proofs.YtlfonikfjibloaaGreatDoor

namespace Go.Proofs.YtlfonikfjibloaaGreatDoor
open Go.RowKit

set_option maxRecDepth 100000 in
set_option maxHeartbeats 4000000 in
theorem genDoc_walk (B rb : Nat) (w : World) (h : RdIs w B rb) :
    Calls Tryz.prog 108 #[.pointer (some ⟨rb, 0, none⟩)] w (DP B rb 22000 w) := by
  have hrb := h.lt
  have HX := hide (next_walk B rb w h)
  have HGEN : Hid (∀ (w : World), RdIs w B rb → Calls Tryz.prog 165 #[.pointer (some ⟨rb, 0, none⟩), .int .i64 3] w (DP B rb (GB 3) w)) := fun w hr => gen_walk 3 3 B rb w rfl (by omega) hr
  have HGE4 : Hid (∀ (w : World), RdIs w B rb → Calls Tryz.prog 165 #[.pointer (some ⟨rb, 0, none⟩), .int .i64 4] w (DP B rb (GB 4) w)) := fun w hr => gen_walk 4 4 B rb w rfl (by omega) hr
  have hg3 : GB 3 = 5258 := by decide
  have hg4 : GB 4 = 21130 := by decide
  rw [hg3] at HGEN
  rw [hg4] at HGE4
  clear h hg3 hg4
  go_enter Tryz.func108, Tryz.ntmps108
  go_wp2_with fail
  refine (unhide HX).mono ?_
  rintro e w2 ⟨x, hx, rfl, r1, g1⟩
  have HR2 := hide r1
  have HG2 := hide g1
  clear HX r1 g1
  by_cases h5 : x % 6 = 5
  · have e : (x : Int) % 6 = 5 := by omega
    have HN := hide (unhide HGE4 w2 (unhide HR2))
    clear h5 HGEN HGE4
    go_wp2_with fail
    refine (unhide HN).mono ?_
    rintro e w3 ⟨t, ht, rfl, r3, g3⟩
    clear HN
    go_wp2
    go_ret
    exact ⟨t, by omega, rfl, r3, grownBy_trans (unhide HG2) g3⟩
  · have e : ((x : Int) % 6 == 5) = false := by simp; omega
    have hnn : 2 + (x : Int) / 6 % 3 = ((2 + x / 6 % 3 : Nat) : Int) := by omega
    have hn4 : 2 + x / 6 % 3 ≤ 4 := by omega
    have hkq : (x : Int) / 32 = ((x / 32 : Nat) : Int) := by omega
    have hk7 : x / 32 ≤ 7 := by omega
    generalize 2 + x / 6 % 3 = nn at *
    generalize x / 32 = kq at *
    have hs2 := (unhide HG2).size
    have HO : Hid ((w2.alloc (.cells #[] 100)).ownsRow w.heap.size 100 2 (.slice (some ⟨w2.heap.size, 0, none⟩) 0 0) 0 []) := World.ownsRow_lit w2 #[] 0 hs2 (by unfold maxLen; omega) rfl
    have HGS : Hid (GS w B rb 5258 (.slice (some ⟨w2.heap.size, 0, none⟩) 0 0) [] (w2.alloc (.cells #[] 100))) := ⟨unhide HO, fun p hp => by (cases hp), (unhide HR2).grown (World.grownBy_alloc w2 _ none) (by simp) (fun k e => by cases e), grownBy_trans (unhide HG2) (World.grownBy_alloc w2 _ _)⟩
    clear HO h5 HGE4
    go_wp2_with fail
    obtain ⟨i0, hi0, hz0, hz1, hz2⟩ := info_parts infoPart
    go_loopw [4, 5] (fun v i wr => ∃ (j : Nat) (ps : List Part) (va : Option Addr) (vc : Nat), v = .slice va ps.length vc ∧ i = .int .i64 j ∧ j ≤ nn ∧ ps.length ≤ j ∧ GS w B rb 5258 (.slice va ps.length vc) ps wr) (fun _ i _ => nn - (intOf i).toNat)
    case atStart => exact ⟨0, [], _, _, rfl, rfl, Nat.zero_le _, Nat.le_refl _, unhide HGS⟩
    case round =>
      obtain ⟨j, ps, va, vc, rfl, rfl, hj, hpl, hgs⟩ := hrel
      have HS := hide hgs
      have hws := hgs.gr.size
      clear hgs HGS HR2 HG2
      by_cases hlt : j < nn
      · have hltI : (j : Int) < (nn : Int) := by omega
        have hmq : (kq : Int) * (j : Int) = ((kq * j : Nat) : Int) := by simp
        have hmb : kq * j ≤ 7 * 4 := Nat.mul_le_mul hk7 (by omega)
        have hma : (j : Int) + ((kq * j : Nat) : Int) = ((j + kq * j : Nat) : Int) := by omega
        have HK := hide (keyS_walk (j + kq * j) wr (by omega))
        rw [← hma, ← hmq] at HK
        clear hma hmq
        have hb1 : (kq : Int) * (j : Int) ≤ 28 := by
          have : (kq : Int) * (j : Int) = ((kq * j : Nat) : Int) := by simp
          omega
        have hb0 : 0 ≤ (kq : Int) * (j : Int) := by
          have : (kq : Int) * (j : Int) = ((kq * j : Nat) : Int) := by simp
          omega
        go_wp2_with fail
        refine (unhide HK).mono ?_
        rintro e w4 ⟨t1, ht1, rfl, rfl⟩
        have HG := hide (unhide HGEN wr (unhide HS).rd)
        clear HK
        go_wp2_with fail
        refine (unhide HG).mono ?_
        rintro e w5 ⟨t2, ht2, rfl, r5, g5⟩
        have HS5 := hide ((unhide HS).next r5 g5 hrb)
        have hw5 := (unhide HS5).gr.size
        have OW5 : Hid (∀ o : Obj, (w5.alloc o).ownsRow w.heap.size 100 2 (.slice va ps.length vc) ps.length (ps.flatMap partC)) := fun o => World.ownsRow.alloc (unhide HS5).row o
        have HF := hide (find_walk w.heap.size _ ps t1 w5 (unhide HS5).row (by omega))
        clear HG HS r5 g5
        go_wp2_with fail
        refine (unhide HF).mono ?_
        rintro e w6 ⟨z, rfl, hz, rfl⟩
        clear HF hz
        by_cases hzz : z < 0
        · have hkk : ps.length ≤ 4 := by omega
          go_wp2_with (at_builtin; refine wpList_append_own _ rfl (.tmp 37) (.tmp 41) 93 rfl w.heap.size 100 i0 (.agg #[.string ByteArray.empty, .string ByteArray.empty]) 2 32 Tryz.underlying93 hi0 hz0 hz1 hz2 rfl (by decide) _ _ _ rfl (unhide OW5 _) ⟨w5.heap.size, 0, none⟩ 1 1 (partC (t1, t2)) rfl rfl (lit2s _ _ _ _) (fun u hu => by { simp [partC] at hu; rcases hu with rfl | rfl <;> rfl }) (by unfold maxLen; omega) (by omega) (by simp; omega) ?_)
          intro v7 w7 own7 hg7 _
          obtain ⟨va7, vc7, rfl⟩ := row_form own7
          have hl7 : ps.length + 1 = (ps ++ [(t1, t2)]).length := by simp
          have HS7 := hide ((unhide HS5).step ht1 ht2 own7 hg7 hrb)
          rw [hl7] at HS7
          clear own7 hg7 HS5 OW5
          go_wp2
          go_roundw
          case rel => exact ⟨j + 1, ps ++ [(t1, t2)], va7, vc7, by rw [hl7], by go_num, by omega, by simp; omega, unhide HS7⟩
          case measure => simp [intOf]; omega
        · clear OW5
          go_wp2
          go_roundw
          case rel => exact ⟨j + 1, ps, va, vc, rfl, by go_num, by omega, by omega, unhide HS5⟩
          case measure => simp [intOf]; omega
      · have hltI : ¬ (j : Int) < (nn : Int) := by omega
        have hl4 : ps.length ≤ 4 := by omega
        have hsT := (unhide HS).sumT
        have hT4 : ps.length * (5258 + 22) ≤ 4 * (5258 + 22) := Nat.mul_le_mul_right _ hl4
        have hlO := mkO_raw ps
        have HV := hide (make_walk w.heap.size _ ps wr (unhide HS).row (by omega) (by omega) (fun p hp => by have := ((unhide HS).key p hp).1; omega))
        have HOL : Hid ((mkO ps).length ≤ 22000) := by show _ ≤ _; omega
        generalize mkO ps = tO at *
        clear hsT hT4 hlO HGEN
        go_wp2_with fail
        refine (unhide HV).mono ?_
        rintro e w6 ⟨rfl, b6⟩
        clear HV
        go_wp2
        go_ret
        exact dp_below (unhide HS).rd (unhide HS).gr (unhide HOL) b6

set_option maxRecDepth 100000 in
set_option maxHeartbeats 2000000 in
theorem doc_walk (B rb : Nat) (w : World) (h : RdIs w B rb) :
    Calls Tryz.prog 56 #[.pointer (some ⟨rb, 0, none⟩)] w fun e w' => ∃ v : JV, DocIs v ∧ e = .returned (.string (strOf (ct v))) ∧ RdIs w' B rb ∧ w.grownBy w' (some rb) := by
  have HX := hide (genDoc_walk B rb w h)
  clear h
  go_enter Tryz.func56, Tryz.ntmps56
  go_wp2_with fail
  refine (unhide HX).mono ?_
  rintro e w2 ⟨t, ht, rfl, r2, g2⟩
  have HR2 := hide r2
  have HG2 := hide g2
  have HC := hide (specCanon_walk (strOf t) w2 (by rw [strOf_size]; omega))
  clear HX r2 g2
  cases hr : readR (strOf t) with
  | inl c =>
    have hc := readR_code hr
    have hv : canonV (strOf t) = .tuple #[.string ⟨#[]⟩, .int .i64 (c : Int)] := by unfold canonV; rw [hr]
    rw [hv] at HC
    have hcI : ((c : Int) == 0) = false := by simp; omega
    have hcN : ((c : Int) = 0) = False := eq_false (by omega)
    clear hr hc hv
    go_wp2_with fail
    refine (unhide HC).mono ?_
    rintro e w3 ⟨rfl, b3⟩
    clear HC
    go_wp2
    go_ret
    exact ⟨dflt, dflt_doc, by rw [dflt_ct]; rfl, (unhide HR2).grown (grownBy_below (r := none) b3) (by simp) (fun _ e => by cases e), grownBy_trans (unhide HG2) (grownBy_below b3)⟩
  | inr v =>
    have HD := hide (readR_doc hr)
    have hv : canonV (strOf t) = .tuple #[.string (strOf (ct v)), .int .i64 0] := by unfold canonV; rw [hr]
    rw [hv] at HC
    clear hr hv
    generalize hct : strOf (ct v) = s at *
    have HCT := hide hct
    clear hct
    go_wp2_with fail
    refine (unhide HC).mono ?_
    rintro e w3 ⟨rfl, b3⟩
    clear HC
    go_wp2
    go_ret
    exact ⟨v, unhide HD, by rw [unhide HCT]; rfl, (unhide HR2).grown (grownBy_below (r := none) b3) (by simp) (fun _ e => by cases e), grownBy_trans (unhide HG2) (grownBy_below b3)⟩
end Go.Proofs.YtlfonikfjibloaaGreatDoor
