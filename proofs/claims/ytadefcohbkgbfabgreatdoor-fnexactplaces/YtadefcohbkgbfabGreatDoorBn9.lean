import Derived.Test.YtadefcohbkgbfabGreatDoorBn6
import Derived.Test.YtadefcohbkgbfabGreatDoorBn8
import Derived.Deep.LoopGhost
import Derived.Test.YtadefcohbkgbfabGreatDoorBn7
import Derived.Test.YtadefcohbkgbfabGreatDoorBn1
import Derived.Test.YtadefcohbkgbfabGreatDoorBn5
namespace Go.Proofs.YtadefcohbkgbfabGreatDoor
open Go.RowKit

theorem nxt_in {T : ByteArray} {j j2 : Nat} (h : nxt T j = some j2) (hj : j < T.size) : j < j2 ∧ j2 ≤ T.size := by
  unfold nxt at h
  split at h
  · cases hq : strQ T j with
    | none => rw [hq] at h; simp at h
    | some q =>
      obtain ⟨l, n⟩ := q
      rw [hq] at h
      simp at h
      have := strQ_ok hq
      omega
  · injection h with h; omega
theorem tail_cases {T : ByteArray} {o j2 k g : Nat} (hj : j2 ≤ T.size) (h : (if o = 0 ∧ stopAt T j2 = true then some j2 else endF T g o j2) = some k) :
    (o ≠ 0 ∧ endF T g o j2 = some k) ∨ (o = 0 ∧ j2 = T.size ∧ j2 = k) ∨ (o = 0 ∧ j2 < T.size ∧ bt T j2 = 44 ∧ j2 = k) ∨ (o = 0 ∧ j2 < T.size ∧ bt T j2 = 93 ∧ j2 = k) ∨ (o = 0 ∧ j2 < T.size ∧ bt T j2 = 125 ∧ j2 = k) ∨ (o = 0 ∧ j2 < T.size ∧ bt T j2 ≠ 44 ∧ bt T j2 ≠ 93 ∧ bt T j2 ≠ 125 ∧ endF T g o j2 = some k) := by
  by_cases ho : o = 0
  · by_cases hs : stopAt T j2 = true
    · rw [if_pos ⟨ho, hs⟩] at h
      injection h with h
      by_cases e : j2 = T.size
      · exact .inr (.inl ⟨ho, e, h⟩)
      · have hl : j2 < T.size := by omega
        unfold stopAt at hs
        simp [e] at hs
        rcases hs with (hs | hs) | hs
        · exact .inr (.inr (.inl ⟨ho, hl, hs, h⟩))
        · exact .inr (.inr (.inr (.inl ⟨ho, hl, hs, h⟩)))
        · exact .inr (.inr (.inr (.inr (.inl ⟨ho, hl, hs, h⟩))))
    · rw [if_neg (fun x => hs x.2)] at h
      unfold stopAt at hs
      simp at hs
      exact .inr (.inr (.inr (.inr (.inr ⟨ho, by omega, hs.1.1.2, hs.1.2, hs.2, h⟩))))
  · rw [if_neg (fun x => ho x.1)] at h
    exact .inl ⟨ho, h⟩

set_option maxRecDepth 100000 in
set_option maxHeartbeats 16000000 in
/-- The model's look for the end of a value. -/
theorem end_walk (T : ByteArray) (i k f : Nat) (w : World) (hT : T.size ≤ 1048576) (h : endF T f 0 i = some k) :
    Calls Tryz.prog 82 #[.string T, .int .i64 (i : Int)] w fun e w' => e = .returned (.int .i64 (k : Int)) ∧ Below w.heap.size w w' := by
  have HST : Hid (∀ (j : Nat) (w : World), j < T.size → Calls Tryz.prog 58 #[.string T, .int .i64 j] w (SPost T w (strQ T j))) := fun j w hj => l1String_walk T j w hT (by omega)
  have hi0 : i < T.size := by
    cases f with
    | zero => simp [endF] at h
    | succ f =>
      rw [endF] at h
      split at h
      · assumption
      · cases h
  have H0 := hide h
  clear h
  go_enter Tryz.func82, Tryz.ntmps82
  go_wp2
  go_loopw [1, 5] (fun iv ov wr => ∃ (j op g : Nat), iv = .int .i64 (j : Int) ∧ ov = .int .i64 (op : Int) ∧ j ≤ T.size ∧ op ≤ j ∧ endF T g op j = some k ∧ Below w.heap.size w wr) (fun iv _ _ => T.size - (intOf iv).toNat)
  case atStart => exact ⟨i, 0, f, rfl, rfl, by omega, by omega, unhide H0, Below.refl _ _⟩
  case round =>
    obtain ⟨j, op, g, rfl, rfl, hj, hop, hg, bw⟩ := hrel
    clear H0
    obtain ⟨g, rfl⟩ : ∃ g', g = g' + 1 := by cases g with
      | zero => simp [endF] at hg
      | succ g => exact ⟨g, rfl⟩
    rw [endF] at hg
    by_cases hl : j < T.size
    · rw [if_pos hl] at hg
      have hltI : (j : Int) < (T.size : Int) := by omega
      have hb := bt_at T j hl
      obtain ⟨n, hn, o, ho, hz⟩ : ∃ j2, nxt T j = some j2 ∧ ∃ o, op1 (bt T j) op = some o ∧ (if o = 0 ∧ stopAt T j2 = true then some j2 else endF T g o j2) = some k := by
        cases hn : nxt T j with
        | none => rw [hn] at hg; simp at hg
        | some j2 =>
          rw [hn] at hg
          simp only [Option.bind_some] at hg
          cases ho : op1 (bt T j) op with
          | none => rw [ho] at hg; simp at hg
          | some o => rw [ho] at hg; exact ⟨j2, rfl, o, rfl, by simpa using hg⟩
      clear hg
      have hnj := nxt_in hn hl
      have hnT := hnj.2
      have hjn := hnj.1
      have hns : bt T j ≠ 34 → j + 1 = n := fun h34 => by unfold nxt at hn; rw [if_neg h34] at hn; injection hn
      have hnq : bt T j = 34 → ∃ l, strQ T j = some (l, n) := fun h34 => by
        unfold nxt at hn
        rw [if_pos h34] at hn
        cases hq : strQ T j with
        | none => rw [hq] at hn; simp at hn
        | some q => rw [hq] at hn; simp at hn; exact ⟨q.1, by rw [← hn]⟩
      have ht := tail_cases hnT hz
      have HB := hide bw
      clear hn hz hnj bw
      by_cases c34 : bt T j = 34
      · obtain ⟨l, hq⟩ := hnq c34
        obtain rfl : op = o := by rw [c34] at ho; injection ho
        have HSJ := hide (unhide HST j wr hl)
        rw [hq] at HSJ
        rw [hb] at c34
        have f34 : ((T[j].toNat : Int) == 34) = true := by rw [beq_iff_eq]; omega
        have f91 : ((T[j].toNat : Int) == 91) = false := by rw [beq_eq_false_iff_ne]; omega
        have f123 : ((T[j].toNat : Int) == 123) = false := by rw [beq_eq_false_iff_ne]; omega
        have f93 : ((T[j].toNat : Int) == 93) = false := by rw [beq_eq_false_iff_ne]; omega
        have f125 : ((T[j].toNat : Int) == 125) = false := by rw [beq_eq_false_iff_ne]; omega
        clear hnq hns hq hb c34 HST ho
        rcases ht with ⟨h1, h2⟩ | ⟨h1, h2, h3⟩ | ⟨h1, h2, h3, h4⟩ | ⟨h1, h2, h3, h4⟩ | ⟨h1, h2, h3, h4⟩ | ⟨h1, h2, h3, h4, h5, h6⟩
        · have tz : ((op : Int) == 0) = false := by rw [beq_eq_false_iff_ne]; omega
          have H2 := hide h2
          clear h1 h2
          go_wp2_with fail
          refine (unhide HSJ).mono ?_
          rintro e w2 ⟨b2, rfl⟩
          have HB2 := hide (below_next (unhide HB) b2)
          clear HSJ b2
          go_wp2
          go_roundw
          case rel => exact ⟨n, op, g, by go_num, by go_num, hnT, by omega, unhide H2, unhide HB2⟩
          case measure => simp [intOf]; omega
        · have tz : ((op : Int) == 0) = true := by rw [beq_iff_eq]; omega
          have te : ((n : Int) == (T.size : Int)) = true := by rw [beq_iff_eq]; omega
          have HK := hide h3
          clear h3
          clear h1 h2
          go_wp2_with fail
          refine (unhide HSJ).mono ?_
          rintro e w2 ⟨b2, rfl⟩
          have HB2 := hide (below_next (unhide HB) b2)
          clear HSJ b2
          go_wp2
          go_ret
          exact ⟨by rw [← unhide HK]; first | rfl | go_num, unhide HB2⟩
        · have tz : ((op : Int) == 0) = true := by rw [beq_iff_eq]; omega
          have te : ((n : Int) == (T.size : Int)) = false := by rw [beq_eq_false_iff_ne]; omega
          have hlN : (n : Int) < (T.size : Int) := by omega
          have hbn := bt_at T n h2
          rw [hbn] at h3
          have g44 : ((T[n].toNat : Int) == 44) = true := by rw [beq_iff_eq]; omega
          have g93 : ((T[n].toNat : Int) == 93) = false := by rw [beq_eq_false_iff_ne]; omega
          have g125 : ((T[n].toNat : Int) == 125) = false := by rw [beq_eq_false_iff_ne]; omega
          clear hbn h3
          have HK := hide h4
          clear h4
          clear h1
          go_wp2_with fail
          refine (unhide HSJ).mono ?_
          rintro e w2 ⟨b2, rfl⟩
          have HB2 := hide (below_next (unhide HB) b2)
          clear HSJ b2
          go_wp2
          go_ret
          exact ⟨by rw [← unhide HK]; first | rfl | go_num, unhide HB2⟩
        · have tz : ((op : Int) == 0) = true := by rw [beq_iff_eq]; omega
          have te : ((n : Int) == (T.size : Int)) = false := by rw [beq_eq_false_iff_ne]; omega
          have hlN : (n : Int) < (T.size : Int) := by omega
          have hbn := bt_at T n h2
          rw [hbn] at h3
          have g44 : ((T[n].toNat : Int) == 44) = false := by rw [beq_eq_false_iff_ne]; omega
          have g93 : ((T[n].toNat : Int) == 93) = true := by rw [beq_iff_eq]; omega
          have g125 : ((T[n].toNat : Int) == 125) = false := by rw [beq_eq_false_iff_ne]; omega
          clear hbn h3
          have HK := hide h4
          clear h4
          clear h1
          go_wp2_with fail
          refine (unhide HSJ).mono ?_
          rintro e w2 ⟨b2, rfl⟩
          have HB2 := hide (below_next (unhide HB) b2)
          clear HSJ b2
          go_wp2
          go_ret
          exact ⟨by rw [← unhide HK]; first | rfl | go_num, unhide HB2⟩
        · have tz : ((op : Int) == 0) = true := by rw [beq_iff_eq]; omega
          have te : ((n : Int) == (T.size : Int)) = false := by rw [beq_eq_false_iff_ne]; omega
          have hlN : (n : Int) < (T.size : Int) := by omega
          have hbn := bt_at T n h2
          rw [hbn] at h3
          have g44 : ((T[n].toNat : Int) == 44) = false := by rw [beq_eq_false_iff_ne]; omega
          have g93 : ((T[n].toNat : Int) == 93) = false := by rw [beq_eq_false_iff_ne]; omega
          have g125 : ((T[n].toNat : Int) == 125) = true := by rw [beq_iff_eq]; omega
          clear hbn h3
          have HK := hide h4
          clear h4
          clear h1
          go_wp2_with fail
          refine (unhide HSJ).mono ?_
          rintro e w2 ⟨b2, rfl⟩
          have HB2 := hide (below_next (unhide HB) b2)
          clear HSJ b2
          go_wp2
          go_ret
          exact ⟨by rw [← unhide HK]; first | rfl | go_num, unhide HB2⟩
        · have tz : ((op : Int) == 0) = true := by rw [beq_iff_eq]; omega
          have te : ((n : Int) == (T.size : Int)) = false := by rw [beq_eq_false_iff_ne]; omega
          have hlN : (n : Int) < (T.size : Int) := by omega
          have hbn := bt_at T n h2
          rw [hbn] at h3 h4 h5
          have g44 : ((T[n].toNat : Int) == 44) = false := by rw [beq_eq_false_iff_ne]; omega
          have g93 : ((T[n].toNat : Int) == 93) = false := by rw [beq_eq_false_iff_ne]; omega
          have g125 : ((T[n].toNat : Int) == 125) = false := by rw [beq_eq_false_iff_ne]; omega
          clear hbn h3 h4 h5
          have H2 := hide h6
          clear h6
          clear h1
          go_wp2_with fail
          refine (unhide HSJ).mono ?_
          rintro e w2 ⟨b2, rfl⟩
          have HB2 := hide (below_next (unhide HB) b2)
          clear HSJ b2
          go_wp2
          go_roundw
          case rel => exact ⟨n, op, g, by go_num, by go_num, hnT, by omega, unhide H2, unhide HB2⟩
          case measure => simp [intOf]; omega
      · have hn1 : (j : Int) + 1 = (n : Int) := by have := hns c34; omega
        have hnx := hns c34
        clear hnq hns
        by_cases c91 : bt T j = 91
        · obtain rfl : op + 1 = o := by rw [c91] at ho; injection ho
          rw [hb] at c91
          have f34 : ((T[j].toNat : Int) == 34) = false := by rw [beq_eq_false_iff_ne]; omega
          have f91 : ((T[j].toNat : Int) == 91) = true := by rw [beq_iff_eq]; omega
          have f123 : ((T[j].toNat : Int) == 123) = false := by rw [beq_eq_false_iff_ne]; omega
          have f93 : ((T[j].toNat : Int) == 93) = false := by rw [beq_eq_false_iff_ne]; omega
          have f125 : ((T[j].toNat : Int) == 125) = false := by rw [beq_eq_false_iff_ne]; omega
          clear hb c91 HST ho c34
          rcases ht with ⟨h1, h2⟩ | ⟨h1, h2, h3⟩ | ⟨h1, h2, h3, h4⟩ | ⟨h1, h2, h3, h4⟩ | ⟨h1, h2, h3, h4⟩ | ⟨h1, h2, h3, h4, h5, h6⟩
          · have tz : (((op : Int) + 1) == 0) = false := by rw [beq_eq_false_iff_ne]; omega
            have H2 := hide h2
            clear h1 h2
            go_wp2
            go_roundw
            case rel => exact ⟨n, op + 1, g, by go_num, by go_num, hnT, by omega, unhide H2, unhide HB⟩
            case measure => simp [intOf]; omega
          · exfalso; omega
          · exfalso; omega
          · exfalso; omega
          · exfalso; omega
          · exfalso; omega
        by_cases c123 : bt T j = 123
        · obtain rfl : op + 1 = o := by rw [c123] at ho; injection ho
          rw [hb] at c123
          have f34 : ((T[j].toNat : Int) == 34) = false := by rw [beq_eq_false_iff_ne]; omega
          have f91 : ((T[j].toNat : Int) == 91) = false := by rw [beq_eq_false_iff_ne]; omega
          have f123 : ((T[j].toNat : Int) == 123) = true := by rw [beq_iff_eq]; omega
          have f93 : ((T[j].toNat : Int) == 93) = false := by rw [beq_eq_false_iff_ne]; omega
          have f125 : ((T[j].toNat : Int) == 125) = false := by rw [beq_eq_false_iff_ne]; omega
          clear hb c123 HST ho c34 c91
          rcases ht with ⟨h1, h2⟩ | ⟨h1, h2, h3⟩ | ⟨h1, h2, h3, h4⟩ | ⟨h1, h2, h3, h4⟩ | ⟨h1, h2, h3, h4⟩ | ⟨h1, h2, h3, h4, h5, h6⟩
          · have tz : (((op : Int) + 1) == 0) = false := by rw [beq_eq_false_iff_ne]; omega
            have H2 := hide h2
            clear h1 h2
            go_wp2
            go_roundw
            case rel => exact ⟨n, op + 1, g, by go_num, by go_num, hnT, by omega, unhide H2, unhide HB⟩
            case measure => simp [intOf]; omega
          · exfalso; omega
          · exfalso; omega
          · exfalso; omega
          · exfalso; omega
          · exfalso; omega
        by_cases c93 : bt T j = 93
        · have hop1 : 1 ≤ op := by rw [c93] at ho; cases op with
            | zero => cases ho
            | succ n => omega
          obtain rfl : op - 1 = o := by rw [c93] at ho; cases op with
            | zero => cases ho
            | succ n => injection ho
          rw [hb] at c93
          have f34 : ((T[j].toNat : Int) == 34) = false := by rw [beq_eq_false_iff_ne]; omega
          have f91 : ((T[j].toNat : Int) == 91) = false := by rw [beq_eq_false_iff_ne]; omega
          have f123 : ((T[j].toNat : Int) == 123) = false := by rw [beq_eq_false_iff_ne]; omega
          have f93 : ((T[j].toNat : Int) == 93) = true := by rw [beq_iff_eq]; omega
          have f125 : ((T[j].toNat : Int) == 125) = false := by rw [beq_eq_false_iff_ne]; omega
          clear hb c93 HST ho c34 c91 c123
          rcases ht with ⟨h1, h2⟩ | ⟨h1, h2, h3⟩ | ⟨h1, h2, h3, h4⟩ | ⟨h1, h2, h3, h4⟩ | ⟨h1, h2, h3, h4⟩ | ⟨h1, h2, h3, h4, h5, h6⟩
          · have tz : (((op : Int) - 1) == 0) = false := by rw [beq_eq_false_iff_ne]; omega
            have H2 := hide h2
            clear h1 h2
            go_wp2
            go_roundw
            case rel => exact ⟨n, op - 1, g, by go_num, by go_num, hnT, by omega, unhide H2, unhide HB⟩
            case measure => simp [intOf]; omega
          · have tz : (((op : Int) - 1) == 0) = true := by rw [beq_iff_eq]; omega
            have te : ((n : Int) == (T.size : Int)) = true := by rw [beq_iff_eq]; omega
            have HK := hide h3
            clear h3
            clear h1 h2
            go_wp2
            go_ret
            exact ⟨by rw [← unhide HK]; first | rfl | go_num, unhide HB⟩
          · have tz : (((op : Int) - 1) == 0) = true := by rw [beq_iff_eq]; omega
            have te : ((n : Int) == (T.size : Int)) = false := by rw [beq_eq_false_iff_ne]; omega
            have hlN : (n : Int) < (T.size : Int) := by omega
            have hbn := bt_at T n h2
            rw [hbn] at h3
            have g44 : ((T[n].toNat : Int) == 44) = true := by rw [beq_iff_eq]; omega
            have g93 : ((T[n].toNat : Int) == 93) = false := by rw [beq_eq_false_iff_ne]; omega
            have g125 : ((T[n].toNat : Int) == 125) = false := by rw [beq_eq_false_iff_ne]; omega
            clear hbn h3
            have HK := hide h4
            clear h4
            clear h1
            go_wp2
            go_ret
            exact ⟨by rw [← unhide HK]; first | rfl | go_num, unhide HB⟩
          · have tz : (((op : Int) - 1) == 0) = true := by rw [beq_iff_eq]; omega
            have te : ((n : Int) == (T.size : Int)) = false := by rw [beq_eq_false_iff_ne]; omega
            have hlN : (n : Int) < (T.size : Int) := by omega
            have hbn := bt_at T n h2
            rw [hbn] at h3
            have g44 : ((T[n].toNat : Int) == 44) = false := by rw [beq_eq_false_iff_ne]; omega
            have g93 : ((T[n].toNat : Int) == 93) = true := by rw [beq_iff_eq]; omega
            have g125 : ((T[n].toNat : Int) == 125) = false := by rw [beq_eq_false_iff_ne]; omega
            clear hbn h3
            have HK := hide h4
            clear h4
            clear h1
            go_wp2
            go_ret
            exact ⟨by rw [← unhide HK]; first | rfl | go_num, unhide HB⟩
          · have tz : (((op : Int) - 1) == 0) = true := by rw [beq_iff_eq]; omega
            have te : ((n : Int) == (T.size : Int)) = false := by rw [beq_eq_false_iff_ne]; omega
            have hlN : (n : Int) < (T.size : Int) := by omega
            have hbn := bt_at T n h2
            rw [hbn] at h3
            have g44 : ((T[n].toNat : Int) == 44) = false := by rw [beq_eq_false_iff_ne]; omega
            have g93 : ((T[n].toNat : Int) == 93) = false := by rw [beq_eq_false_iff_ne]; omega
            have g125 : ((T[n].toNat : Int) == 125) = true := by rw [beq_iff_eq]; omega
            clear hbn h3
            have HK := hide h4
            clear h4
            clear h1
            go_wp2
            go_ret
            exact ⟨by rw [← unhide HK]; first | rfl | go_num, unhide HB⟩
          · have tz : (((op : Int) - 1) == 0) = true := by rw [beq_iff_eq]; omega
            have te : ((n : Int) == (T.size : Int)) = false := by rw [beq_eq_false_iff_ne]; omega
            have hlN : (n : Int) < (T.size : Int) := by omega
            have hbn := bt_at T n h2
            rw [hbn] at h3 h4 h5
            have g44 : ((T[n].toNat : Int) == 44) = false := by rw [beq_eq_false_iff_ne]; omega
            have g93 : ((T[n].toNat : Int) == 93) = false := by rw [beq_eq_false_iff_ne]; omega
            have g125 : ((T[n].toNat : Int) == 125) = false := by rw [beq_eq_false_iff_ne]; omega
            clear hbn h3 h4 h5
            have H2 := hide h6
            clear h6
            clear h1
            go_wp2
            go_roundw
            case rel => exact ⟨n, op - 1, g, by go_num, by go_num, hnT, by omega, unhide H2, unhide HB⟩
            case measure => simp [intOf]; omega
        by_cases c125 : bt T j = 125
        · have hop1 : 1 ≤ op := by rw [c125] at ho; cases op with
            | zero => cases ho
            | succ n => omega
          obtain rfl : op - 1 = o := by rw [c125] at ho; cases op with
            | zero => cases ho
            | succ n => injection ho
          rw [hb] at c125
          have f34 : ((T[j].toNat : Int) == 34) = false := by rw [beq_eq_false_iff_ne]; omega
          have f91 : ((T[j].toNat : Int) == 91) = false := by rw [beq_eq_false_iff_ne]; omega
          have f123 : ((T[j].toNat : Int) == 123) = false := by rw [beq_eq_false_iff_ne]; omega
          have f93 : ((T[j].toNat : Int) == 93) = false := by rw [beq_eq_false_iff_ne]; omega
          have f125 : ((T[j].toNat : Int) == 125) = true := by rw [beq_iff_eq]; omega
          clear hb c125 HST ho c34 c91 c123 c93
          rcases ht with ⟨h1, h2⟩ | ⟨h1, h2, h3⟩ | ⟨h1, h2, h3, h4⟩ | ⟨h1, h2, h3, h4⟩ | ⟨h1, h2, h3, h4⟩ | ⟨h1, h2, h3, h4, h5, h6⟩
          · have tz : (((op : Int) - 1) == 0) = false := by rw [beq_eq_false_iff_ne]; omega
            have H2 := hide h2
            clear h1 h2
            go_wp2
            go_roundw
            case rel => exact ⟨n, op - 1, g, by go_num, by go_num, hnT, by omega, unhide H2, unhide HB⟩
            case measure => simp [intOf]; omega
          · have tz : (((op : Int) - 1) == 0) = true := by rw [beq_iff_eq]; omega
            have te : ((n : Int) == (T.size : Int)) = true := by rw [beq_iff_eq]; omega
            have HK := hide h3
            clear h3
            clear h1 h2
            go_wp2
            go_ret
            exact ⟨by rw [← unhide HK]; first | rfl | go_num, unhide HB⟩
          · have tz : (((op : Int) - 1) == 0) = true := by rw [beq_iff_eq]; omega
            have te : ((n : Int) == (T.size : Int)) = false := by rw [beq_eq_false_iff_ne]; omega
            have hlN : (n : Int) < (T.size : Int) := by omega
            have hbn := bt_at T n h2
            rw [hbn] at h3
            have g44 : ((T[n].toNat : Int) == 44) = true := by rw [beq_iff_eq]; omega
            have g93 : ((T[n].toNat : Int) == 93) = false := by rw [beq_eq_false_iff_ne]; omega
            have g125 : ((T[n].toNat : Int) == 125) = false := by rw [beq_eq_false_iff_ne]; omega
            clear hbn h3
            have HK := hide h4
            clear h4
            clear h1
            go_wp2
            go_ret
            exact ⟨by rw [← unhide HK]; first | rfl | go_num, unhide HB⟩
          · have tz : (((op : Int) - 1) == 0) = true := by rw [beq_iff_eq]; omega
            have te : ((n : Int) == (T.size : Int)) = false := by rw [beq_eq_false_iff_ne]; omega
            have hlN : (n : Int) < (T.size : Int) := by omega
            have hbn := bt_at T n h2
            rw [hbn] at h3
            have g44 : ((T[n].toNat : Int) == 44) = false := by rw [beq_eq_false_iff_ne]; omega
            have g93 : ((T[n].toNat : Int) == 93) = true := by rw [beq_iff_eq]; omega
            have g125 : ((T[n].toNat : Int) == 125) = false := by rw [beq_eq_false_iff_ne]; omega
            clear hbn h3
            have HK := hide h4
            clear h4
            clear h1
            go_wp2
            go_ret
            exact ⟨by rw [← unhide HK]; first | rfl | go_num, unhide HB⟩
          · have tz : (((op : Int) - 1) == 0) = true := by rw [beq_iff_eq]; omega
            have te : ((n : Int) == (T.size : Int)) = false := by rw [beq_eq_false_iff_ne]; omega
            have hlN : (n : Int) < (T.size : Int) := by omega
            have hbn := bt_at T n h2
            rw [hbn] at h3
            have g44 : ((T[n].toNat : Int) == 44) = false := by rw [beq_eq_false_iff_ne]; omega
            have g93 : ((T[n].toNat : Int) == 93) = false := by rw [beq_eq_false_iff_ne]; omega
            have g125 : ((T[n].toNat : Int) == 125) = true := by rw [beq_iff_eq]; omega
            clear hbn h3
            have HK := hide h4
            clear h4
            clear h1
            go_wp2
            go_ret
            exact ⟨by rw [← unhide HK]; first | rfl | go_num, unhide HB⟩
          · have tz : (((op : Int) - 1) == 0) = true := by rw [beq_iff_eq]; omega
            have te : ((n : Int) == (T.size : Int)) = false := by rw [beq_eq_false_iff_ne]; omega
            have hlN : (n : Int) < (T.size : Int) := by omega
            have hbn := bt_at T n h2
            rw [hbn] at h3 h4 h5
            have g44 : ((T[n].toNat : Int) == 44) = false := by rw [beq_eq_false_iff_ne]; omega
            have g93 : ((T[n].toNat : Int) == 93) = false := by rw [beq_eq_false_iff_ne]; omega
            have g125 : ((T[n].toNat : Int) == 125) = false := by rw [beq_eq_false_iff_ne]; omega
            clear hbn h3 h4 h5
            have H2 := hide h6
            clear h6
            clear h1
            go_wp2
            go_roundw
            case rel => exact ⟨n, op - 1, g, by go_num, by go_num, hnT, by omega, unhide H2, unhide HB⟩
            case measure => simp [intOf]; omega
        obtain rfl : op = o := by
          unfold op1 isOp isCl at ho
          simp [c91, c123, c93, c125] at ho
          exact ho
        rw [hb] at c34 c91 c123 c93 c125
        have f34 : ((T[j].toNat : Int) == 34) = false := by rw [beq_eq_false_iff_ne]; omega
        have f91 : ((T[j].toNat : Int) == 91) = false := by rw [beq_eq_false_iff_ne]; omega
        have f123 : ((T[j].toNat : Int) == 123) = false := by rw [beq_eq_false_iff_ne]; omega
        have f93 : ((T[j].toNat : Int) == 93) = false := by rw [beq_eq_false_iff_ne]; omega
        have f125 : ((T[j].toNat : Int) == 125) = false := by rw [beq_eq_false_iff_ne]; omega
        clear hb c34 c91 c123 c93 c125 HST ho
        rcases ht with ⟨h1, h2⟩ | ⟨h1, h2, h3⟩ | ⟨h1, h2, h3, h4⟩ | ⟨h1, h2, h3, h4⟩ | ⟨h1, h2, h3, h4⟩ | ⟨h1, h2, h3, h4, h5, h6⟩
        · have tz : ((op : Int) == 0) = false := by rw [beq_eq_false_iff_ne]; omega
          have H2 := hide h2
          clear h1 h2
          go_wp2
          go_roundw
          case rel => exact ⟨n, op, g, by go_num, by go_num, hnT, by omega, unhide H2, unhide HB⟩
          case measure => simp [intOf]; omega
        · have tz : ((op : Int) == 0) = true := by rw [beq_iff_eq]; omega
          have te : ((n : Int) == (T.size : Int)) = true := by rw [beq_iff_eq]; omega
          have HK := hide h3
          clear h3
          clear h1 h2
          go_wp2
          go_ret
          exact ⟨by rw [← unhide HK]; first | rfl | go_num, unhide HB⟩
        · have tz : ((op : Int) == 0) = true := by rw [beq_iff_eq]; omega
          have te : ((n : Int) == (T.size : Int)) = false := by rw [beq_eq_false_iff_ne]; omega
          have hlN : (n : Int) < (T.size : Int) := by omega
          have hbn := bt_at T n h2
          rw [hbn] at h3
          have g44 : ((T[n].toNat : Int) == 44) = true := by rw [beq_iff_eq]; omega
          have g93 : ((T[n].toNat : Int) == 93) = false := by rw [beq_eq_false_iff_ne]; omega
          have g125 : ((T[n].toNat : Int) == 125) = false := by rw [beq_eq_false_iff_ne]; omega
          clear hbn h3
          have HK := hide h4
          clear h4
          clear h1
          go_wp2
          go_ret
          exact ⟨by rw [← unhide HK]; first | rfl | go_num, unhide HB⟩
        · have tz : ((op : Int) == 0) = true := by rw [beq_iff_eq]; omega
          have te : ((n : Int) == (T.size : Int)) = false := by rw [beq_eq_false_iff_ne]; omega
          have hlN : (n : Int) < (T.size : Int) := by omega
          have hbn := bt_at T n h2
          rw [hbn] at h3
          have g44 : ((T[n].toNat : Int) == 44) = false := by rw [beq_eq_false_iff_ne]; omega
          have g93 : ((T[n].toNat : Int) == 93) = true := by rw [beq_iff_eq]; omega
          have g125 : ((T[n].toNat : Int) == 125) = false := by rw [beq_eq_false_iff_ne]; omega
          clear hbn h3
          have HK := hide h4
          clear h4
          clear h1
          go_wp2
          go_ret
          exact ⟨by rw [← unhide HK]; first | rfl | go_num, unhide HB⟩
        · have tz : ((op : Int) == 0) = true := by rw [beq_iff_eq]; omega
          have te : ((n : Int) == (T.size : Int)) = false := by rw [beq_eq_false_iff_ne]; omega
          have hlN : (n : Int) < (T.size : Int) := by omega
          have hbn := bt_at T n h2
          rw [hbn] at h3
          have g44 : ((T[n].toNat : Int) == 44) = false := by rw [beq_eq_false_iff_ne]; omega
          have g93 : ((T[n].toNat : Int) == 93) = false := by rw [beq_eq_false_iff_ne]; omega
          have g125 : ((T[n].toNat : Int) == 125) = true := by rw [beq_iff_eq]; omega
          clear hbn h3
          have HK := hide h4
          clear h4
          clear h1
          go_wp2
          go_ret
          exact ⟨by rw [← unhide HK]; first | rfl | go_num, unhide HB⟩
        · have tz : ((op : Int) == 0) = true := by rw [beq_iff_eq]; omega
          have te : ((n : Int) == (T.size : Int)) = false := by rw [beq_eq_false_iff_ne]; omega
          have hlN : (n : Int) < (T.size : Int) := by omega
          have hbn := bt_at T n h2
          rw [hbn] at h3 h4 h5
          have g44 : ((T[n].toNat : Int) == 44) = false := by rw [beq_eq_false_iff_ne]; omega
          have g93 : ((T[n].toNat : Int) == 93) = false := by rw [beq_eq_false_iff_ne]; omega
          have g125 : ((T[n].toNat : Int) == 125) = false := by rw [beq_eq_false_iff_ne]; omega
          clear hbn h3 h4 h5
          have H2 := hide h6
          clear h6
          clear h1
          go_wp2
          go_roundw
          case rel => exact ⟨n, op, g, by go_num, by go_num, hnT, by omega, unhide H2, unhide HB⟩
          case measure => simp [intOf]; omega
    · rw [if_neg hl] at hg; cases hg
end Go.Proofs.YtadefcohbkgbfabGreatDoor


namespace Go.Proofs.YtadefcohbkgbfabGreatDoor
open Go.RowKit

abbrev Part := List UInt8 × List UInt8
def partC (p : Part) : List Value := [.string (strOf p.1), .string (strOf p.2)]
/-- A row of parts that the call owns. -/
def PR (w : World) (B : Nat) (v : Value) (ps : List Part) : Prop := w.ownsRow B 102 2 v ps.length (ps.flatMap partC)
theorem part_at (ps : List Part) (j : Nat) (h : j < ps.length) : (ps.flatMap partC)[j * 2]? = some (.string (strOf ps[j].1)) ∧ (ps.flatMap partC)[j * 2 + 1]? = some (.string (strOf ps[j].2)) := by
  induction ps generalizing j with
  | nil => simp at h
  | cons p r ih =>
    cases j with
    | zero => exact ⟨rfl, rfl⟩
    | succ j =>
      have := ih j (by simpa using h)
      rw [List.flatMap_cons, show (j + 1) * 2 = j * 2 + 2 from by omega]
      exact this
theorem PR.cells {w : World} {B : Nat} {v : Value} {ps : List Part} (h : PR w B v ps) (j : Nat) (hj : j < ps.length) :
    ∃ g cap, v = .slice (some ⟨g, 0, none⟩) ps.length cap ∧ B ≤ g ∧ g < w.heap.size ∧ w.cell? ⟨g, j * 2, none⟩ = some (.string (strOf ps[j].1)) ∧ w.cell? ⟨g, j * 2 + 1, none⟩ = some (.string (strOf ps[j].2)) := by
  obtain ⟨hl, h0 | ⟨g, cap, cur, hv, hB, hg, hn, hc, hsz, ht⟩⟩ := h
  · omega
  · have hc0 := part_at ps j hj
    refine ⟨g, cap, hv, hB, (Array.getElem?_eq_some_iff.1 hg).1, ?_, ?_⟩
    · rw [Lib.cell_of_heap hg, ← Array.getElem?_toList, ← hc0.1, ← ht, List.getElem?_take_of_lt (by omega)]
    · rw [Lib.cell_of_heap hg, ← Array.getElem?_toList, ← hc0.2, ← ht, List.getElem?_take_of_lt (by omega)]
theorem PR.below {w w' : World} {B : Nat} {v : Value} {ps : List Part} (h : PR w B v ps) (hb : Below w.heap.size w w') : PR w' B v ps := own_below h hb
theorem PR.mono {w : World} {B B' : Nat} {v : Value} {ps : List Part} (h : PR w B v ps) (hB : B' ≤ B) : PR w B' v ps := own_mono h hB
/-- Whether a key is among those of the parts. -/
def hasK (ps : List Part) (key : List UInt8) : Bool := (ps.map (·.1)).contains key
theorem str_eq (a b : List UInt8) : ((strOf a).toList == (strOf b).toList) = (a == b) := by
  rw [ByteArray.toList_eq, ByteArray.toList_eq, strOf_toList, strOf_toList]

set_option maxHeartbeats 800000 in
theorem find_walk (B : Nat) (v : Value) (ps : List Part) (key : List UInt8) (w : World) (h : PR w B v ps) (hn : ps.length ≤ 40000000) :
    Calls Tryz.prog 75 #[v, .string (strOf key)] w fun e w' => ∃ z : Int, e = .returned (.int .i64 z) ∧ decide ((0 : Int) ≤ z) = hasK ps key ∧ w = w' := by
  obtain ⟨x, len, cap, rfl, hlen⟩ : ∃ x len cap, v = .slice x len cap ∧ len = ps.length := by
    rcases h.2 with ⟨hv, h0⟩ | ⟨g, cap, cur, hv, _⟩
    · exact ⟨_, _, _, hv, h0.symm⟩
    · exact ⟨_, _, _, hv, rfl⟩
  subst hlen
  have HP := hide h
  clear h
  go_enter Tryz.func75, Tryz.ntmps75
  go_wp2_with fail
  go_loopw [5] (fun k wr => w = wr ∧ ∃ j : Nat, k = .int .i64 (j : Int) ∧ j ≤ ps.length ∧ ((ps.take j).map (·.1)).contains key = false) (fun k _ => ps.length - (intOf k).toNat)
  case atStart => exact ⟨rfl, 0, rfl, Nat.zero_le _, by simp⟩
  case round =>
    obtain ⟨rfl, j, rfl, hj, hno⟩ := hrel
    have HNO := hide hno
    clear hno
    by_cases hin : j < ps.length
    · have t1 : ((j : Int) < (ps.length : Int)) = True := eq_true (by omega)
      obtain ⟨g, cap', he, hB, hgl, c0, c1⟩ := (unhide HP).cells j hin
      injection he with he1 he2 he3
      subst he1; subst he3
      have heq := str_eq ps[j].1 key
      by_cases hk : ps[j].1 = key
      · have t2 : (ps[j].1 == key) = true := by rw [beq_iff_eq]; exact hk
        have HY : Hid (hasK ps key = true) := by
          show _ = _
          unfold hasK
          rw [List.contains_iff_mem]
          exact List.mem_map.2 ⟨ps[j], List.getElem_mem _, hk⟩
        rw [t2] at heq
        clear hk t2
        go_wp2
        go_ret
        exact ⟨_, rfl, by rw [unhide HY]; exact decide_eq_true (by omega), rfl⟩
      · have t2 : (ps[j].1 == key) = false := by rw [beq_eq_false_iff_ne]; exact hk
        have HX : Hid (((ps.take (j + 1)).map (·.1)).contains key = false) := by
          show _ = _
          have := unhide HNO
          rw [List.take_succ_eq_append_getElem hin, List.map_append, List.contains_append, this]
          simp; exact fun e => hk e.symm
        rw [t2] at heq
        clear hk t2
        go_wp2
        go_roundw
        case rel => exact ⟨trivial, j + 1, by go_num, by omega, unhide HX⟩
        case measure => simp [intOf]; omega
    · have t1 : ((j : Int) < (ps.length : Int)) = False := eq_false (by omega)
      have HY : Hid (hasK ps key = false) := by
        show _ = _
        unfold hasK
        have := unhide HNO
        rwa [List.take_of_length_le (by omega)] at this
      go_wp2
      go_ret
      exact ⟨_, rfl, by rw [unhide HY]; rfl, rfl⟩
end Go.Proofs.YtadefcohbkgbfabGreatDoor


namespace Go.Proofs.YtadefcohbkgbfabGreatDoor
open Go.RowKit

theorem strR_len {s : ByteArray} : ∀ {i j : Nat} {l : List UInt8}, strR s i = some (l, j) → l.length + 4 * (i + 1) ≤ 4 * j := by
  intro i
  generalize hn : s.size - i = n
  induction n using Nat.strongRecOn generalizing i with
  | _ n ih =>
    intro j l h
    by_cases h34 : bt s i = 34
    · rw [strR_end h34] at h
      injection h with h; injection h with h1 h2
      subst h1; simp; omega
    · cases hp : piece s i with
      | none => rw [strR_bad h34 hp] at h; cases h
      | some p =>
        obtain ⟨r, n'⟩ := p
        have hk := piece_ok hp
        have he := enc_le r
        rw [strR_go h34 hp] at h
        rcases hq : strR s (i + n') with _ | ⟨l2, j2⟩
        · rw [hq] at h; cases h
        · rw [hq] at h
          injection h with h; injection h with h1 h2
          have := ih (s.size - (i + n')) (by omega) rfl hq
          subst h1
          simp only [List.length_append]
          simp only at h2
          omega
theorem strQ_len {s : ByteArray} {i j : Nat} {l : List UInt8} (h : strQ s i = some (l, j)) : l.length + 4 * (i + 2) ≤ 4 * j := by
  unfold strQ at h
  split at h
  · have := strR_len h; omega
  · cases h
theorem quoted_len (l : List UInt8) : (quoted l).length ≤ 6 * l.length + 2 := by
  have := qs_le l
  unfold quoted; simp only [List.length_cons, List.length_append, List.length_nil]; omega
theorem nm_len {s : ByteArray} {i j : Nat} {l : List UInt8} (h : nm s i = some (l, j)) : l.length + i ≤ j := by
  have hk := nm_ok h
  unfold nm at h
  split at h
  · injection h with h; injection h with h1 h2
    subst h1; subst h2
    unfold norm0 cutB
    split
    · simp; omega
    · rw [List.length_take, List.length_drop, data_len]; omega
  · cases h

def sumT (l : List (List UInt8 × List UInt8)) : Nat := (l.map fun p => (memT p).length + 1).sum
theorem sumT_ins (p : List UInt8 × List UInt8) : ∀ l, sumT (insR p l) = (memT p).length + 1 + sumT l
  | [] => by simp [insR, sumT]
  | q :: r => by
    have := sumT_ins p r
    unfold insR
    split
    · simp [sumT] at *; omega
    · simp [sumT]
theorem sumT_fold : ∀ (l acc : List (List UInt8 × List UInt8)), sumT (l.foldl (fun acc p => insR p acc) acc) = sumT l + sumT acc
  | [], acc => by simp [sumT]
  | p :: l, acc => by
    rw [List.foldl_cons, sumT_fold l, sumT_ins]
    simp [sumT]; omega
theorem sumT_rev (l : List (List UInt8 × List UInt8)) : sumT l.reverse = sumT l := by
  unfold sumT; rw [List.map_reverse, List.sum_reverse]
theorem sumT_isort (l : List (List UInt8 × List UInt8)) : sumT (isort l) = sumT l := by
  unfold isort; rw [sumT_rev, sumT_fold]; simp [sumT]
theorem joinT_len : ∀ l : List (List UInt8), (joinT l).length = (l.map fun t => t.length + 1).sum
  | [] => rfl
  | t :: r => by simp [joinT, joinT_len r]; omega
theorem joinC_len (l : List (List UInt8)) : (joinC l).length ≤ (l.map fun t => t.length + 1).sum := by
  cases l with
  | nil => simp [joinC]
  | cons t r => simp [joinC, joinT_len]
theorem mkO_len (l : List (List UInt8 × List UInt8)) : (mkO (isort l)).length ≤ sumT l + 2 := by
  have h := joinC_len ((isort l).map memT)
  rw [List.map_map] at h
  have e : ((isort l).map ((fun t => t.length + 1) ∘ memT)).sum = sumT l := by rw [← sumT_isort l]; rfl
  rw [e] at h
  unfold mkO
  simp only [List.length_cons, List.length_append, List.length_nil]; omega

theorem p_len (s : ByteArray) : ∀ f i, (∀ v j, pv s f i = some (v, j) → (ct v).length ≤ 30 * (j - i)) ∧ (∀ l j, pa s f i = some (l, j) → ((ctL l).map fun t => t.length + 1).sum + 2 ≤ 30 * (j - i)) ∧ (∀ m j, po s f i = some (m, j) → sumT (ctM m) + 2 ≤ 30 * (j - i))
  | 0, i => ⟨fun v j h => by simp [pv] at h, fun v j h => by simp [pa] at h, fun v j h => by simp [po] at h⟩
  | f + 1, i => by
    refine ⟨fun v j h => ?_, fun l j h => ?_, fun m j h => ?_⟩
    · have hok := (p_ok s (f + 1) i).1 v j h
      rw [pv] at h
      have g := sk_ge s (i + 1)
      split at h
      · split at h
        · injection h with h; injection h with h0 h
          subst h0
          simp [ct, ctL, mkA, joinC]; omega
        · simp only [Option.map_eq_some_iff] at h
          obtain ⟨⟨l, k⟩, hk, h⟩ := h
          injection h with h0 h
          have h1 := (p_len s f (sk s (i + 1))).2.1 l k hk
          have h2 := (p_ok s f (sk s (i + 1))).2.1 l k hk
          have h3 := joinC_len (ctL l)
          subst h0
          simp only [ct, mkA, List.length_cons, List.length_append, List.length_nil]
          simp only at h; omega
      · split at h
        · split at h
          · injection h with h; injection h with h0 h
            subst h0
            simp [ct, ctM, mkO, isort, joinC]; omega
          · simp only [Option.map_eq_some_iff] at h
            obtain ⟨⟨l, k⟩, hk, h⟩ := h
            injection h with h0 h
            have h1 := (p_len s f (sk s (i + 1))).2.2 l k hk
            have h2 := (p_ok s f (sk s (i + 1))).2.2 l k hk
            have h3 := mkO_len (ctM l)
            subst h0
            simp only [ct]
            simp only at h; omega
        · split at h
          · simp only [Option.map_eq_some_iff] at h
            obtain ⟨⟨l, k⟩, hk, h⟩ := h
            injection h with h0 h
            have h1 := strQ_len hk
            have h2 := quoted_len l
            subst h0
            simp only [ct]
            simp only at h; omega
          · split at h
            · injection h with h; injection h with h0 h
              subst h0; simp [ct]; omega
            · split at h
              · injection h with h; injection h with h0 h
                subst h0; simp [ct]; omega
              · split at h
                · injection h with h; injection h with h0 h
                  subst h0; simp [ct]; omega
                · simp only [Option.map_eq_some_iff] at h
                  obtain ⟨⟨l, k⟩, hk, h⟩ := h
                  injection h with h0 h
                  have h1 := nm_len hk
                  subst h0
                  simp only [ct]
                  simp only at h; omega
    · rw [pa] at h
      simp only [Option.bind_eq_some_iff] at h
      obtain ⟨⟨v, k⟩, hk, h⟩ := h
      have h1 := (p_ok s f i).1 v k hk
      have h1' := (p_len s f i).1 v k hk
      have g1 := sk_ge s k
      simp only at h
      split at h
      · injection h with h; injection h with h0 h
        subst h0
        simp [ctL]; omega
      · split at h
        · simp only [Option.map_eq_some_iff] at h
          obtain ⟨⟨l, n⟩, hn, h⟩ := h
          injection h with h0 h
          have h2 := (p_ok s f _).2.1 l n hn
          have h2' := (p_len s f _).2.1 l n hn
          have g2 := sk_ge s (sk s k + 1)
          subst h0
          simp only [ctL, List.map_cons, List.sum_cons]
          simp only at h; omega
        · cases h
    · rw [po] at h
      simp only [Option.bind_eq_some_iff] at h
      obtain ⟨⟨key, a⟩, ha, h⟩ := h
      have h0 := strQ_ok ha
      have h0' := strQ_len ha
      have hq := quoted_len key
      simp only at h
      split at h
      · simp only [Option.bind_eq_some_iff] at h
        obtain ⟨⟨v, k⟩, hk, h⟩ := h
        have h1 := (p_ok s f _).1 v k hk
        have h1' := (p_len s f _).1 v k hk
        have g0 := sk_ge s a
        have g3 := sk_ge s (sk s a + 1)
        have g1 := sk_ge s k
        simp only at h
        split at h
        · injection h with h; injection h with h0 h
          subst h0
          simp [ctM, sumT, memT]; omega
        · split at h
          · simp only [Option.map_eq_some_iff] at h
            obtain ⟨⟨l, n⟩, hn, h⟩ := h
            injection h with h0 h
            have h2 := (p_ok s f _).2.2 l n hn
            have h2' := (p_len s f _).2.2 l n hn
            have g2 := sk_ge s (sk s k + 1)
            subst h0
            have e : sumT (ctM (.cons key v l)) = (memT (key, ct v)).length + 1 + sumT (ctM l) := by simp [ctM, sumT]
            have e2 : (memT (key, ct v)).length = (quoted key).length + 1 + (ct v).length := by simp [memT]; omega
            simp only at h ⊢
            omega
          · cases h
      · cases h
theorem val_len {s : ByteArray} {i j : Nat} {v : JV} (h : val s i = some (v, j)) : (ct v).length ≤ 30 * (j - i) := (p_len s _ i).1 v j h
end Go.Proofs.YtadefcohbkgbfabGreatDoor


namespace Go.Proofs.YtadefcohbkgbfabGreatDoor
open Go.RowKit

theorem qB_ge (c : UInt8) : 1 ≤ (qB c).length := by
  unfold qB
  repeat' split
  all_goals simp
theorem qs_ge (l : List UInt8) : l.length ≤ (qs l).length := by
  induction l with
  | nil => simp
  | cons c l ih =>
    have := qB_ge c
    simp only [qs, List.flatMap_cons, List.length_append, List.length_cons] at *
    omega
def JL.toL : JL → List JV
  | .nil => []
  | .cons v r => v :: r.toL
theorem ctL_map : ∀ l : JL, ctL l = l.toL.map ct
  | .nil => rfl
  | .cons v r => by rw [ctL, JL.toL, List.map_cons, ctL_map r]
theorem quoted_ge (l : List UInt8) : l.length + 2 ≤ (quoted l).length := by
  have := qs_ge l
  simp [quoted]; omega
theorem memT_parts (p : List UInt8 × List UInt8) : (memT p).length = (quoted p.1).length + 1 + p.2.length := by simp [memT]; omega

/-- The bytes of brackets with as many commas as parts need. -/
def hold (n : Nat) : Nat := 2 + (n - 1)

def dl : List JV → Nat
  | [] => 0
  | v :: r => max (depV v) (dl r)
def cl (vs : List JV) : Nat := (vs.map cntV).sum
def nl (ts : List (List UInt8)) : Nat := (ts.map List.length).sum
theorem dl_snoc (a : List JV) (v : JV) : dl (a ++ [v]) = max (dl a) (depV v) := by
  induction a with
  | nil => simp [dl]
  | cons x r ih => simp only [List.cons_append, dl, ih]; omega
theorem cl_snoc (a : List JV) (v : JV) : cl (a ++ [v]) = cl a + cntV v := by simp [cl]
theorem depL_dl : ∀ l : JL, depL l = dl l.toL
  | .nil => rfl
  | .cons v r => by rw [depL, JL.toL, dl, depL_dl r]
theorem cntL_cl : ∀ l : JL, cntL l = cl l.toL
  | .nil => rfl
  | .cons v r => by rw [cntL, JL.toL, cntL_cl r]; simp [cl]
theorem dl_take (a : List JV) (k : Nat) : dl (a.take k) ≤ dl a := by
  induction a generalizing k with
  | nil => simp
  | cons x r ih =>
    cases k with
    | zero => simp [dl]
    | succ k => simp only [List.take_succ_cons, dl]; have := ih k; omega
theorem dl_at (a : List JV) (k : Nat) (h : k < a.length) : depV a[k] ≤ dl a := by
  induction a generalizing k with
  | nil => simp at h
  | cons x r ih =>
    cases k with
    | zero => simp only [List.getElem_cons_zero, dl]; omega
    | succ k => simp only [List.getElem_cons_succ, dl]; have := ih k (by simpa using h); omega
theorem sum_take (a : List Nat) (k : Nat) : (a.take k).sum ≤ a.sum := by
  have : a.sum = (a.take k).sum + (a.drop k).sum := by rw [← List.sum_append, List.take_append_drop]
  omega
theorem sum_at (a : List Nat) (k : Nat) (h : k < a.length) : a[k] ≤ a.sum := by
  have h1 := sum_take a (k + 1)
  rw [List.take_succ_eq_append_getElem h, List.sum_append] at h1
  simp at h1; omega
theorem joinT_nl : ∀ ts : List (List UInt8), (joinT ts).length = ts.length + nl ts
  | [] => rfl
  | t :: r => by
    have := joinT_nl r
    simp [joinT, nl] at this ⊢
    omega
theorem joinC_nl (ts : List (List UInt8)) : (joinC ts).length + 2 = hold ts.length + nl ts := by
  cases ts with
  | nil => simp [joinC, hold, nl]
  | cons t r =>
    have := joinT_nl r
    simp [joinC, hold, nl] at this ⊢
    omega
theorem depM_dl : ∀ m : JM, depM m = dl (m.toL.map (·.2))
  | .nil => rfl
  | .cons k v r => by rw [depM, JM.toL, List.map_cons, dl, depM_dl r]
theorem cntM_sum : ∀ m : JM, cntM m = (m.toL.map fun q => cntV q.2).sum
  | .nil => rfl
  | .cons k v r => by rw [cntM, JM.toL, List.map_cons, List.sum_cons, cntM_sum r]
def memN (q : List UInt8 × JV) : Nat := (quoted q.1).length + 1 + (ct q.2).length
theorem ctObj_len (m : JM) : (ct (.obj m)).length = hold m.toL.length + (m.toL.map memN).sum := by
  show (mkO (isort (ctM m))).length = _
  have h := joinC_nl ((isort (ctM m)).map memT)
  have e1 : ((isort (ctM m)).map memT).length = m.toL.length := by rw [List.length_map, (isort_perm _).length_eq, ctM_map, List.length_map]
  have e2 : nl ((isort (ctM m)).map memT) = (m.toL.map memN).sum := by
    unfold nl
    have p := (((isort_perm (ctM m)).map memT).map List.length).sum_nat
    rw [p, ctM_map]
    simp only [List.map_map]
    congr 1
    apply List.map_congr_left
    intro q _
    simp only [Function.comp_apply, memN]
    exact memT_parts _
  rw [e1, e2] at h
  simp [mkO]; omega
theorem sumf_at (f : List UInt8 × JV → Nat) {qs : List (List UInt8 × JV)} {q : List UInt8 × JV} (h : q ∈ qs) : f q ≤ (qs.map f).sum := by
  obtain ⟨j, hj, rfl⟩ := List.getElem_of_mem h
  have := sum_at (qs.map f) j (by simpa using hj)
  simpa using this
end Go.Proofs.YtadefcohbkgbfabGreatDoor

