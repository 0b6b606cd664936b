import Derived.Test.YtcjajchfjoffnaaGreatDoorBch21
namespace Go.Proofs.YtcjajchfjoffnaaGreatDoor
open Go.RowKit

set_option maxRecDepth 100000 in
set_option maxHeartbeats 16000000 in
/-- The model's look whether a canonical text is within the limits. -/
theorem within_step (T : ByteArray) (r f d c : Nat) (w : World) (hT : T.size ≤ 1000000) (h : wiF T f 0 0 0 = some r) (hrd : r ≤ d) (hd : d ≤ 1000000) (hc : c ≤ 1000000) (q : Bool) (hq0 : q = decide (d ≤ 100 ∧ c ≤ 3000))
    (hs : ∀ w : World, Calls Tryz.prog 124 #[.string T] w fun e w' => e = .returned (.tuple #[.int .i64 (d : Int), .int .i64 (c : Int)]) ∧ Below w.heap.size w w') :
    Calls Tryz.prog 75 #[.string T] w fun e w' => e = .returned (.bool q) ∧ Below w.heap.size w w' := by
  have HQ0 := hide hq0
  clear hq0
  have HST : Hid (∀ (j : Nat) (w : World), j < T.size → Calls Tryz.prog 108 #[.string T, .int .i64 j] w (SPost T w (strQ T j))) := fun j w hj => l1String_walk T j w (by omega) (by omega)
  have HSZ := hide hs
  have H0 := hide h
  clear h hs
  go_enter Tryz.func75, Tryz.ntmps75
  go_wp2
  go_loopw [3, 4, 5] (fun ov mv iv wr => ∃ (op mo j g : Nat), ov = .int .i64 (op : Int) ∧ mv = .int .i64 (mo : Int) ∧ iv = .int .i64 (j : Int) ∧ j ≤ T.size ∧ op ≤ mo ∧ mo ≤ j ∧ wiF T g op mo j = some r ∧ Below w.heap.size w wr) (fun _ _ iv _ => T.size - (intOf iv).toNat)
  case atStart => exact ⟨0, 0, 0, f, rfl, rfl, rfl, Nat.zero_le _, Nat.le_refl _, Nat.le_refl _, unhide H0, Below.refl _ _⟩
  case round =>
    obtain ⟨op, mo, j, g, rfl, rfl, rfl, hj, hop, hmo, hg, bw⟩ := hrel
    clear H0
    obtain ⟨g, rfl⟩ : ∃ g', g = g' + 1 := by cases g with
      | zero => simp [wiF] at hg
      | succ g => exact ⟨g, rfl⟩
    rw [wiF] at hg
    by_cases hl : j < T.size
    · rw [if_pos hl] at hg
      have hltI : (j : Int) < (T.size : Int) := by omega
      have hb := bt_at T j hl
      obtain ⟨n, hn, o, ho, hz⟩ : ∃ j2, nxt T j = some j2 ∧ ∃ o, op1 (bt T j) op = some o ∧ wiF T g o (max mo o) j2 = some r := by
        cases hn : nxt T j with
        | none => rw [hn] at hg; simp at hg
        | some j2 =>
          rw [hn] at hg
          simp only [Option.bind_some] at hg
          cases ho : op1 (bt T j) op with
          | none => rw [ho] at hg; simp at hg
          | some o => rw [ho] at hg; exact ⟨j2, rfl, o, rfl, by simpa using hg⟩
      clear hg
      have hnj := nxt_in hn hl
      have hnT := hnj.2
      have hjn := hnj.1
      have hns : bt T j ≠ 34 → j + 1 = n := fun h34 => by unfold nxt at hn; rw [if_neg h34] at hn; injection hn
      have hnq : bt T j = 34 → ∃ l, strQ T j = some (l, n) := fun h34 => by
        unfold nxt at hn
        rw [if_pos h34] at hn
        cases hq : strQ T j with
        | none => rw [hq] at hn; simp at hn
        | some q => rw [hq] at hn; simp at hn; exact ⟨q.1, by rw [← hn]⟩
      have HB := hide bw
      clear hn hnj bw HSZ
      by_cases c34 : bt T j = 34
      · obtain ⟨l, hq⟩ := hnq c34
        obtain rfl : op = o := by rw [c34] at ho; injection ho
        have HSJ := hide (unhide HST j wr hl)
        rw [hq] at HSJ
        rw [hb] at c34
        have f34 : ((T[j].toNat : Int) == 34) = true := by rw [beq_iff_eq]; omega
        have f91 : ((T[j].toNat : Int) == 91) = false := by rw [beq_eq_false_iff_ne]; omega
        have f123 : ((T[j].toNat : Int) == 123) = false := by rw [beq_eq_false_iff_ne]; omega
        have f93 : ((T[j].toNat : Int) == 93) = false := by rw [beq_eq_false_iff_ne]; omega
        have f125 : ((T[j].toNat : Int) == 125) = false := by rw [beq_eq_false_iff_ne]; omega
        rw [show max mo op = mo by omega] at hz
        have HZ := hide hz
        have tm : ¬ (mo : Int) < (op : Int) := by omega
        clear hnq hns hq hb c34 HST ho hz
        go_wp2_with fail
        refine (unhide HSJ).mono ?_
        rintro e w2 ⟨b2, rfl⟩
        have HB2 := hide (below_next (unhide HB) b2)
        clear HSJ b2
        go_wp2
        go_roundw
        case rel => exact ⟨op, mo, n, g, by go_num, by go_num, by go_num, hnT, by omega, by omega, unhide HZ, unhide HB2⟩
        case measure => simp [intOf]; omega
      · have hn1 : (j : Int) + 1 = (n : Int) := by have := hns c34; omega
        have hnx := hns c34
        clear hnq hns
        by_cases c91 : bt T j = 91
        · obtain rfl : op + 1 = o := by rw [c91] at ho; injection ho
          rw [hb] at c91
          have f34 : ((T[j].toNat : Int) == 34) = false := by rw [beq_eq_false_iff_ne]; omega
          have f91 : ((T[j].toNat : Int) == 91) = true := by rw [beq_iff_eq]; omega
          have f123 : ((T[j].toNat : Int) == 123) = false := by rw [beq_eq_false_iff_ne]; omega
          have f93 : ((T[j].toNat : Int) == 93) = false := by rw [beq_eq_false_iff_ne]; omega
          have f125 : ((T[j].toNat : Int) == 125) = false := by rw [beq_eq_false_iff_ne]; omega
          clear hb c91 HST ho c34
          by_cases hm : mo < op + 1
          · have tm : (mo : Int) < (op : Int) + 1 := by omega
            rw [show max mo (op + 1) = op + 1 by omega] at hz
            have HZ := hide hz
            clear hm hz
            go_wp2
            go_roundw
            case rel => exact ⟨op + 1, op + 1, n, g, by go_num, by go_num, by go_num, hnT, by omega, by omega, unhide HZ, unhide HB⟩
            case measure => simp [intOf]; omega
          · have tm : ¬ (mo : Int) < (op : Int) + 1 := by omega
            rw [show max mo (op + 1) = mo by omega] at hz
            have HZ := hide hz
            clear hm hz
            go_wp2
            go_roundw
            case rel => exact ⟨op + 1, mo, n, g, by go_num, by go_num, by go_num, hnT, by omega, by omega, unhide HZ, unhide HB⟩
            case measure => simp [intOf]; omega
        by_cases c123 : bt T j = 123
        · obtain rfl : op + 1 = o := by rw [c123] at ho; injection ho
          rw [hb] at c123
          have f34 : ((T[j].toNat : Int) == 34) = false := by rw [beq_eq_false_iff_ne]; omega
          have f91 : ((T[j].toNat : Int) == 91) = false := by rw [beq_eq_false_iff_ne]; omega
          have f123 : ((T[j].toNat : Int) == 123) = true := by rw [beq_iff_eq]; omega
          have f93 : ((T[j].toNat : Int) == 93) = false := by rw [beq_eq_false_iff_ne]; omega
          have f125 : ((T[j].toNat : Int) == 125) = false := by rw [beq_eq_false_iff_ne]; omega
          clear hb c123 HST ho c34 c91
          by_cases hm : mo < op + 1
          · have tm : (mo : Int) < (op : Int) + 1 := by omega
            rw [show max mo (op + 1) = op + 1 by omega] at hz
            have HZ := hide hz
            clear hm hz
            go_wp2
            go_roundw
            case rel => exact ⟨op + 1, op + 1, n, g, by go_num, by go_num, by go_num, hnT, by omega, by omega, unhide HZ, unhide HB⟩
            case measure => simp [intOf]; omega
          · have tm : ¬ (mo : Int) < (op : Int) + 1 := by omega
            rw [show max mo (op + 1) = mo by omega] at hz
            have HZ := hide hz
            clear hm hz
            go_wp2
            go_roundw
            case rel => exact ⟨op + 1, mo, n, g, by go_num, by go_num, by go_num, hnT, by omega, by omega, unhide HZ, unhide HB⟩
            case measure => simp [intOf]; omega
        by_cases c93 : bt T j = 93
        · have hop1 : 1 ≤ op := by rw [c93] at ho; cases op with
            | zero => cases ho
            | succ n => omega
          obtain rfl : op - 1 = o := by rw [c93] at ho; cases op with
            | zero => cases ho
            | succ n => injection ho
          rw [hb] at c93
          have f34 : ((T[j].toNat : Int) == 34) = false := by rw [beq_eq_false_iff_ne]; omega
          have f91 : ((T[j].toNat : Int) == 91) = false := by rw [beq_eq_false_iff_ne]; omega
          have f123 : ((T[j].toNat : Int) == 123) = false := by rw [beq_eq_false_iff_ne]; omega
          have f93 : ((T[j].toNat : Int) == 93) = true := by rw [beq_iff_eq]; omega
          have f125 : ((T[j].toNat : Int) == 125) = false := by rw [beq_eq_false_iff_ne]; omega
          clear hb c93 HST ho c34 c91 c123
          have tm : ¬ (mo : Int) < (op : Int) - 1 := by omega
          rw [show max mo (op - 1) = mo by omega] at hz
          have HZ := hide hz
          clear hz
          go_wp2
          go_roundw
          case rel => exact ⟨op - 1, mo, n, g, by go_num, by go_num, by go_num, hnT, by omega, by omega, unhide HZ, unhide HB⟩
          case measure => simp [intOf]; omega
        by_cases c125 : bt T j = 125
        · have hop1 : 1 ≤ op := by rw [c125] at ho; cases op with
            | zero => cases ho
            | succ n => omega
          obtain rfl : op - 1 = o := by rw [c125] at ho; cases op with
            | zero => cases ho
            | succ n => injection ho
          rw [hb] at c125
          have f34 : ((T[j].toNat : Int) == 34) = false := by rw [beq_eq_false_iff_ne]; omega
          have f91 : ((T[j].toNat : Int) == 91) = false := by rw [beq_eq_false_iff_ne]; omega
          have f123 : ((T[j].toNat : Int) == 123) = false := by rw [beq_eq_false_iff_ne]; omega
          have f93 : ((T[j].toNat : Int) == 93) = false := by rw [beq_eq_false_iff_ne]; omega
          have f125 : ((T[j].toNat : Int) == 125) = true := by rw [beq_iff_eq]; omega
          clear hb c125 HST ho c34 c91 c123 c93
          have tm : ¬ (mo : Int) < (op : Int) - 1 := by omega
          rw [show max mo (op - 1) = mo by omega] at hz
          have HZ := hide hz
          clear hz
          go_wp2
          go_roundw
          case rel => exact ⟨op - 1, mo, n, g, by go_num, by go_num, by go_num, hnT, by omega, by omega, unhide HZ, unhide HB⟩
          case measure => simp [intOf]; omega
        obtain rfl : op = o := by
          unfold op1 isOp isCl at ho
          simp [c91, c123, c93, c125] at ho
          exact ho
        rw [hb] at c34 c91 c123 c93 c125
        have f34 : ((T[j].toNat : Int) == 34) = false := by rw [beq_eq_false_iff_ne]; omega
        have f91 : ((T[j].toNat : Int) == 91) = false := by rw [beq_eq_false_iff_ne]; omega
        have f123 : ((T[j].toNat : Int) == 123) = false := by rw [beq_eq_false_iff_ne]; omega
        have f93 : ((T[j].toNat : Int) == 93) = false := by rw [beq_eq_false_iff_ne]; omega
        have f125 : ((T[j].toNat : Int) == 125) = false := by rw [beq_eq_false_iff_ne]; omega
        have tm : ¬ (mo : Int) < (op : Int) := by omega
        rw [show max mo op = mo by omega] at hz
        have HZ := hide hz
        clear hb c34 c91 c123 c93 c125 HST ho hz
        go_wp2
        go_roundw
        case rel => exact ⟨op, mo, n, g, by go_num, by go_num, by go_num, hnT, by omega, by omega, unhide HZ, unhide HB⟩
        case measure => simp [intOf]; omega
    · rw [if_neg hl] at hg
      injection hg with hg
      subst hg
      have HB := hide bw
      have tl : ¬ (j : Int) < (T.size : Int) := by omega
      clear bw HST
      by_cases hm : 100 < mo
      · have tm : (100 : Int) < (mo : Int) := by omega
        have HF : Hid (q = false) := hide (by rw [unhide HQ0, decide_eq_false_iff_not]; omega)
        clear hm HSZ
        go_wp2
        go_ret
        exact ⟨by rw [unhide HF]; rfl, unhide HB⟩
      · have tm : ¬ (100 : Int) < (mo : Int) := by omega
        have HC := hide (unhide HSZ wr)
        clear hm HSZ
        by_cases h1 : d ≤ 100
        · have t1 : ((d : Int) ≤ 100) = True := eq_true (by omega)
          have s1 : decide ((d : Int) ≤ 100) = true := decide_eq_true (by omega)
          by_cases h2 : c ≤ 3000
          · have t2 : ((c : Int) ≤ 3000) = True := eq_true (by omega)
            have s2 : decide ((c : Int) ≤ 3000) = true := decide_eq_true (by omega)
            have HF : Hid (q = true) := hide (by rw [unhide HQ0, decide_eq_true_iff]; exact ⟨h1, h2⟩)
            clear h1 h2
            go_wp2_with fail
            refine (unhide HC).mono ?_
            rintro e w2 ⟨rfl, b2⟩
            have B2 := below_next (unhide HB) b2
            clear HC
            go_wp2
            go_ret
            exact ⟨by rw [unhide HF]; rfl, B2⟩
          · have t2 : ((c : Int) ≤ 3000) = False := eq_false (by omega)
            have s2 : decide ((c : Int) ≤ 3000) = false := decide_eq_false (by omega)
            have HF : Hid (q = false) := hide (by rw [unhide HQ0, decide_eq_false_iff_not]; omega)
            clear h1 h2
            go_wp2_with fail
            refine (unhide HC).mono ?_
            rintro e w2 ⟨rfl, b2⟩
            have B2 := below_next (unhide HB) b2
            clear HC
            go_wp2
            go_ret
            exact ⟨by rw [unhide HF]; rfl, B2⟩
        · have t1 : ((d : Int) ≤ 100) = False := eq_false (by omega)
          have s1 : decide ((d : Int) ≤ 100) = false := decide_eq_false (by omega)
          have HF : Hid (q = false) := hide (by rw [unhide HQ0, decide_eq_false_iff_not]; omega)
          clear h1
          go_wp2_with fail
          refine (unhide HC).mono ?_
          rintro e w2 ⟨rfl, b2⟩
          have B2 := below_next (unhide HB) b2
          clear HC
          go_wp2
          go_ret
          exact ⟨by rw [unhide HF]; rfl, B2⟩

theorem within_ct (v : JV) (hok : okV v) (w : World) (hl : (ct v).length ≤ 1000000) (hc : cntV v ≤ 1000000) :
    Calls Tryz.prog 75 #[.string (strOf (ct v))] w fun e w' => e = .returned (.bool (decide (depV v ≤ 100 ∧ cntV v ≤ 3000))) ∧ Below w.heap.size w w' := by
  obtain ⟨f, hf⟩ := wi_ct v hok
  have hd := (dep_cnt v).1
  exact within_step _ (nestV v) f (depV v) (cntV v) w (by rw [strOf_size]; exact hl) hf (nest_dep v) (by omega) hc _ rfl (fun w => sizesV v hok hl hc w)
end Go.Proofs.YtcjajchfjoffnaaGreatDoor
