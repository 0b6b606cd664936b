import Derived.Test.YtcjajchfjoffnaaGreatDoorBst10
import Derived.Test.YtcjajchfjoffnaaGreatDoorBst1
import Derived.Test.YtcjajchfjoffnaaGreatDoorBst9
import Derived.Lib.ParseIntBCases
import Derived.Lib.ItoaMem
namespace Go.Proofs.YtcjajchfjoffnaaGreatDoor
open Go.RowKit

/-- A string of JSON, as the model reads it. -/
def SPost (s : ByteArray) (w : World) (o : Option (List UInt8 × Nat)) (e : Ending) (w' : World) : Prop :=
  Below w.heap.size w w' ∧ o.elim (∃ (t : ByteArray) (k : Nat), k ≤ s.size + 1 ∧ t.size ≤ 4 * s.size + 4 ∧ e = .returned (.tuple #[.string t, .int .i64 (k : Int), .bool false])) fun q => e = .returned (.tuple #[.string (strOf q.1), .int .i64 (q.2 : Int), .bool true])

set_option maxHeartbeats 1600000 in
set_option maxRecDepth 100000 in
theorem l1String_walk (s : ByteArray) (i : Nat) (w : World) (hs : s.size ≤ 1048576) (hi : i ≤ s.size + 1) :
    Calls Tryz.prog 108 #[.string s, .int .i64 i] w (SPost s w (strQ s i)) := by
  obtain ⟨i0, hi0, hz0, hz1, hz2⟩ := info_parts infoU8
  by_cases h34 : bt s i = 34
  · have hlt : i < s.size := bt_in (by rw [h34]; decide)
    have HQ : Hid (strQ s i = strR s (i + 1)) := by show _ = _; unfold strQ; rw [if_pos h34]
    have ha : atB s i 34 = true := by rw [atB_in hlt, beq_iff_eq, ← bt_at s i hlt, h34]; rfl
    have HA := hide (at_walk s (i : Int) i rfl 34 w)
    rw [ha] at HA
    clear h34 ha
    go_enter Tryz.func108, Tryz.ntmps108
    go_wp2_with fail
    refine (unhide HA).mono ?_
    rintro e w1 ⟨rfl, rfl⟩
    clear HA
    go_wp2
    go_loopw [1, 7] (fun k v wr => ∃ (j : Nat) (acc : List UInt8), j ≤ s.size ∧ k = .int .i64 (j : Int) ∧ acc.length ≤ 4 * j ∧ wr.ownsRow w.heap.size 5 1 v (Lib.byteCells acc).length (Lib.byteCells acc) ∧ Below w.heap.size w wr ∧ strR s (i + 1) = (strR s j).map fun q => (acc ++ q.1, q.2)) (fun k _ _ => s.size - (intOf k).toNat)
    case atStart =>
      exact ⟨i + 1, [], by omega, by go_num, by simp, ⟨rfl, .inr ⟨w.heap.size, 0, #[], rfl, Nat.le_refl _, heap_alloc_new w _, Nat.le_refl _, by unfold maxLen; omega, rfl, rfl⟩⟩, (Below.refl _ _).alloc (Nat.le_refl _) _, by simp⟩
    case round =>
      obtain ⟨j, acc, hj, rfl, hal, hown, hb, hst⟩ := hrel
      have HST := hide hst
      have HB := hide hb
      have hwsz := hb.size
      clear hst hb
      by_cases hin : j < s.size
      · have e0 := bt_at s j hin
        have hin' : (j : Int) < (s.size : Int) := by omega
        by_cases e34 : bt s j = 34
        · have t1 : ((s[j].toNat : Int) != 34) = false := by rw [bne_eq_false_iff_eq]; omega
          have HF : Hid (strQ s i = some (acc, j + 1)) := by
            show _ = _
            rw [unhide HQ, unhide HST, strR_end e34]; simp
          have hcv := convert_own hown
          clear hown e34 e0
          go_wp2
          go_ret3
          exact ⟨unhide HB, by rw [unhide HF]; rfl⟩
        · have t1 : ((s[j].toNat : Int) != 34) = true := by rw [bne_iff_ne]; omega
          have HC := hide (l1Piece_walk s j wr hs hin e34)
          cases hp : piece s j with
          | none =>
            have HF : Hid (strQ s i = none) := by
              show _ = _
              rw [unhide HQ, unhide HST, strR_bad e34 hp]; rfl
            rw [hp] at HC
            clear hown e34 e0 hp
            go_wp2_with fail
            refine (unhide HC).mono ?_
            rintro e w2 ⟨⟨t, rfl⟩, b2⟩
            have B2 := below_next (unhide HB) b2
            clear HC
            go_wp2
            go_ret3
            exact ⟨B2, by rw [unhide HF]; exact ⟨_, j, by omega, Nat.zero_le _, rfl⟩⟩
          | some p =>
            obtain ⟨r, n⟩ := p
            obtain ⟨p1, p2, p3⟩ := piece_ok hp
            have hel := enc_le r
            have HST2 : Hid (strR s (i + 1) = (strR s (j + n)).map fun q => (acc ++ enc r ++ q.1, q.2)) := by
              show _ = _
              rw [unhide HST, strR_go e34 hp, Option.map_map]
              congr 1
              funext q
              simp
            rw [hp] at HC
            have t0 : ((n : Int) == 0) = false := by rw [beq_eq_false_iff_ne]; omega
            clear e34 e0 hp
            go_wp2_with fail
            refine (unhide HC).mono ?_
            rintro e w2 ⟨rfl, b2⟩
            have B2 := below_next (unhide HB) b2
            have own2 := own_below hown b2
            obtain ⟨cap, W3, hcv, hcell, b3, hk3, hs3⟩ := conv_bytes w2 (enc r)
            have own3 := hk3 _ _ _ _ _ own2
            have B3 := below_next B2 b3
            have HCELL := hide hcell
            have hsz2 := B2.size
            clear HC hcell hk3 own2 hown b2 b3 HB B2
            go_wp2_with (at_builtin; refine wpList_append_own _ rfl (.tmp 37) (.tmp 39) 137 rfl w.heap.size 5 i0 (.int .u8 0) 1 1 Tryz.underlying137 hi0 hz0 hz1 hz2 rfl (by decide) _ _ _ rfl own3 ⟨w2.heap.size, 0, none⟩ (enc r).length cap (Lib.byteCells (enc r)) rfl (by rw [Lib.byteCells_length]; omega) (unhide HCELL) (one_bytes (enc r)) (by rw [Lib.byteCells_length]; unfold maxLen; omega) (by rw [Lib.byteCells_length]; omega) (by omega) ?_)
            intro v4 w4 own4 hg4 _
            have B4 : Below w.heap.size w w4 := B3.grown hg4 (by omega) (fun k hk => (own3.lt k hk).1)
            have own4' := own_step (m := (enc r)) own4 rfl rfl
            clear own4 hg4 own3 HCELL B3 hcv
            go_wp2
            go_roundw
            case rel => exact ⟨j + n, acc ++ (enc r), by omega, by go_num, by rw [List.length_append]; omega, own4', B4, unhide HST2⟩
            case measure => simp [intOf]; omega
      · have hin' : ¬ (j : Int) < (s.size : Int) := by omega
        have d1 : decide ((j : Int) < (s.size : Int)) = false := by simp; omega
        have HF : Hid (strQ s i = none) := by
          show _ = _
          rw [unhide HQ, unhide HST, strR_out (by omega)]; rfl
        have hcv := convert_own hown
        clear hown
        go_wp2
        go_ret3
        exact ⟨unhide HB, by rw [unhide HF]; exact ⟨_, j + 1, by omega, by show acc.toArray.size ≤ _; simp; omega, rfl⟩⟩
  · have HQ : Hid (strQ s i = none) := by show _ = _; unfold strQ; rw [if_neg h34]
    have ha : atB s i 34 = false := by
      by_cases hlt : i < s.size
      · rw [atB_in hlt, beq_eq_false_iff_ne, ← bt_at s i hlt]; omega
      · exact atB_out hlt
    have HA := hide (at_walk s (i : Int) i rfl 34 w)
    rw [ha] at HA
    clear h34 ha
    go_enter Tryz.func108, Tryz.ntmps108
    go_wp2_with fail
    refine (unhide HA).mono ?_
    rintro e w1 ⟨rfl, rfl⟩
    clear HA
    go_wp2
    go_ret3
    exact ⟨Below.refl _ _, by rw [unhide HQ]; exact ⟨_, i, hi, Nat.zero_le _, rfl⟩⟩
end Go.Proofs.YtcjajchfjoffnaaGreatDoor

namespace Go.Proofs.YtcjajchfjoffnaaGreatDoor
open Go.RowKit

theorem nxt_in {T : ByteArray} {j j2 : Nat} (h : nxt T j = some j2) (hj : j < T.size) : j < j2 ∧ j2 ≤ T.size := by
  unfold nxt at h
  split at h
  · cases hq : strQ T j with
    | none => rw [hq] at h; simp at h
    | some q =>
      obtain ⟨l, n⟩ := q
      rw [hq] at h
      simp at h
      have := strQ_ok hq
      omega
  · injection h with h; omega
theorem tail_cases {T : ByteArray} {o j2 k g : Nat} (hj : j2 ≤ T.size) (h : (if o = 0 ∧ stopAt T j2 = true then some j2 else endF T g o j2) = some k) :
    (o ≠ 0 ∧ endF T g o j2 = some k) ∨ (o = 0 ∧ j2 = T.size ∧ j2 = k) ∨ (o = 0 ∧ j2 < T.size ∧ bt T j2 = 44 ∧ j2 = k) ∨ (o = 0 ∧ j2 < T.size ∧ bt T j2 = 93 ∧ j2 = k) ∨ (o = 0 ∧ j2 < T.size ∧ bt T j2 = 125 ∧ j2 = k) ∨ (o = 0 ∧ j2 < T.size ∧ bt T j2 ≠ 44 ∧ bt T j2 ≠ 93 ∧ bt T j2 ≠ 125 ∧ endF T g o j2 = some k) := by
  by_cases ho : o = 0
  · by_cases hs : stopAt T j2 = true
    · rw [if_pos ⟨ho, hs⟩] at h
      injection h with h
      by_cases e : j2 = T.size
      · exact .inr (.inl ⟨ho, e, h⟩)
      · have hl : j2 < T.size := by omega
        unfold stopAt at hs
        simp [e] at hs
        rcases hs with (hs | hs) | hs
        · exact .inr (.inr (.inl ⟨ho, hl, hs, h⟩))
        · exact .inr (.inr (.inr (.inl ⟨ho, hl, hs, h⟩)))
        · exact .inr (.inr (.inr (.inr (.inl ⟨ho, hl, hs, h⟩))))
    · rw [if_neg (fun x => hs x.2)] at h
      unfold stopAt at hs
      simp at hs
      exact .inr (.inr (.inr (.inr (.inr ⟨ho, by omega, hs.1.1.2, hs.1.2, hs.2, h⟩))))
  · rw [if_neg (fun x => ho x.1)] at h
    exact .inl ⟨ho, h⟩

set_option maxRecDepth 100000 in
set_option maxHeartbeats 16000000 in
/-- The model's look for the end of a value. -/
theorem end_walk (T : ByteArray) (i k f : Nat) (w : World) (hT : T.size ≤ 1048576) (h : endF T f 0 i = some k) :
    Calls Tryz.prog 109 #[.string T, .int .i64 (i : Int)] w fun e w' => e = .returned (.int .i64 (k : Int)) ∧ Below w.heap.size w w' := by
  have HST : Hid (∀ (j : Nat) (w : World), j < T.size → Calls Tryz.prog 108 #[.string T, .int .i64 j] w (SPost T w (strQ T j))) := fun j w hj => l1String_walk T j w hT (by omega)
  have hi0 : i < T.size := by
    cases f with
    | zero => simp [endF] at h
    | succ f =>
      rw [endF] at h
      split at h
      · assumption
      · cases h
  have H0 := hide h
  clear h
  go_enter Tryz.func109, Tryz.ntmps109
  go_wp2
  go_loopw [1, 5] (fun iv ov wr => ∃ (j op g : Nat), iv = .int .i64 (j : Int) ∧ ov = .int .i64 (op : Int) ∧ j ≤ T.size ∧ op ≤ j ∧ endF T g op j = some k ∧ Below w.heap.size w wr) (fun iv _ _ => T.size - (intOf iv).toNat)
  case atStart => exact ⟨i, 0, f, rfl, rfl, by omega, by omega, unhide H0, Below.refl _ _⟩
  case round =>
    obtain ⟨j, op, g, rfl, rfl, hj, hop, hg, bw⟩ := hrel
    clear H0
    obtain ⟨g, rfl⟩ : ∃ g', g = g' + 1 := by cases g with
      | zero => simp [endF] at hg
      | succ g => exact ⟨g, rfl⟩
    rw [endF] at hg
    by_cases hl : j < T.size
    · rw [if_pos hl] at hg
      have hltI : (j : Int) < (T.size : Int) := by omega
      have hb := bt_at T j hl
      obtain ⟨n, hn, o, ho, hz⟩ : ∃ j2, nxt T j = some j2 ∧ ∃ o, op1 (bt T j) op = some o ∧ (if o = 0 ∧ stopAt T j2 = true then some j2 else endF T g o j2) = some k := by
        cases hn : nxt T j with
        | none => rw [hn] at hg; simp at hg
        | some j2 =>
          rw [hn] at hg
          simp only [Option.bind_some] at hg
          cases ho : op1 (bt T j) op with
          | none => rw [ho] at hg; simp at hg
          | some o => rw [ho] at hg; exact ⟨j2, rfl, o, rfl, by simpa using hg⟩
      clear hg
      have hnj := nxt_in hn hl
      have hnT := hnj.2
      have hjn := hnj.1
      have hns : bt T j ≠ 34 → j + 1 = n := fun h34 => by unfold nxt at hn; rw [if_neg h34] at hn; injection hn
      have hnq : bt T j = 34 → ∃ l, strQ T j = some (l, n) := fun h34 => by
        unfold nxt at hn
        rw [if_pos h34] at hn
        cases hq : strQ T j with
        | none => rw [hq] at hn; simp at hn
        | some q => rw [hq] at hn; simp at hn; exact ⟨q.1, by rw [← hn]⟩
      have ht := tail_cases hnT hz
      have HB := hide bw
      clear hn hz hnj bw
      by_cases c34 : bt T j = 34
      · obtain ⟨l, hq⟩ := hnq c34
        obtain rfl : op = o := by rw [c34] at ho; injection ho
        have HSJ := hide (unhide HST j wr hl)
        rw [hq] at HSJ
        rw [hb] at c34
        have f34 : ((T[j].toNat : Int) == 34) = true := by rw [beq_iff_eq]; omega
        have f91 : ((T[j].toNat : Int) == 91) = false := by rw [beq_eq_false_iff_ne]; omega
        have f123 : ((T[j].toNat : Int) == 123) = false := by rw [beq_eq_false_iff_ne]; omega
        have f93 : ((T[j].toNat : Int) == 93) = false := by rw [beq_eq_false_iff_ne]; omega
        have f125 : ((T[j].toNat : Int) == 125) = false := by rw [beq_eq_false_iff_ne]; omega
        clear hnq hns hq hb c34 HST ho
        rcases ht with ⟨h1, h2⟩ | ⟨h1, h2, h3⟩ | ⟨h1, h2, h3, h4⟩ | ⟨h1, h2, h3, h4⟩ | ⟨h1, h2, h3, h4⟩ | ⟨h1, h2, h3, h4, h5, h6⟩
        · have tz : ((op : Int) == 0) = false := by rw [beq_eq_false_iff_ne]; omega
          have H2 := hide h2
          clear h1 h2
          go_wp2_with fail
          refine (unhide HSJ).mono ?_
          rintro e w2 ⟨b2, rfl⟩
          have HB2 := hide (below_next (unhide HB) b2)
          clear HSJ b2
          go_wp2
          go_roundw
          case rel => exact ⟨n, op, g, by go_num, by go_num, hnT, by omega, unhide H2, unhide HB2⟩
          case measure => simp [intOf]; omega
        · have tz : ((op : Int) == 0) = true := by rw [beq_iff_eq]; omega
          have te : ((n : Int) == (T.size : Int)) = true := by rw [beq_iff_eq]; omega
          have HK := hide h3
          clear h3
          clear h1 h2
          go_wp2_with fail
          refine (unhide HSJ).mono ?_
          rintro e w2 ⟨b2, rfl⟩
          have HB2 := hide (below_next (unhide HB) b2)
          clear HSJ b2
          go_wp2
          go_ret
          exact ⟨by rw [← unhide HK]; first | rfl | go_num, unhide HB2⟩
        · have tz : ((op : Int) == 0) = true := by rw [beq_iff_eq]; omega
          have te : ((n : Int) == (T.size : Int)) = false := by rw [beq_eq_false_iff_ne]; omega
          have hlN : (n : Int) < (T.size : Int) := by omega
          have hbn := bt_at T n h2
          rw [hbn] at h3
          have g44 : ((T[n].toNat : Int) == 44) = true := by rw [beq_iff_eq]; omega
          have g93 : ((T[n].toNat : Int) == 93) = false := by rw [beq_eq_false_iff_ne]; omega
          have g125 : ((T[n].toNat : Int) == 125) = false := by rw [beq_eq_false_iff_ne]; omega
          clear hbn h3
          have HK := hide h4
          clear h4
          clear h1
          go_wp2_with fail
          refine (unhide HSJ).mono ?_
          rintro e w2 ⟨b2, rfl⟩
          have HB2 := hide (below_next (unhide HB) b2)
          clear HSJ b2
          go_wp2
          go_ret
          exact ⟨by rw [← unhide HK]; first | rfl | go_num, unhide HB2⟩
        · have tz : ((op : Int) == 0) = true := by rw [beq_iff_eq]; omega
          have te : ((n : Int) == (T.size : Int)) = false := by rw [beq_eq_false_iff_ne]; omega
          have hlN : (n : Int) < (T.size : Int) := by omega
          have hbn := bt_at T n h2
          rw [hbn] at h3
          have g44 : ((T[n].toNat : Int) == 44) = false := by rw [beq_eq_false_iff_ne]; omega
          have g93 : ((T[n].toNat : Int) == 93) = true := by rw [beq_iff_eq]; omega
          have g125 : ((T[n].toNat : Int) == 125) = false := by rw [beq_eq_false_iff_ne]; omega
          clear hbn h3
          have HK := hide h4
          clear h4
          clear h1
          go_wp2_with fail
          refine (unhide HSJ).mono ?_
          rintro e w2 ⟨b2, rfl⟩
          have HB2 := hide (below_next (unhide HB) b2)
          clear HSJ b2
          go_wp2
          go_ret
          exact ⟨by rw [← unhide HK]; first | rfl | go_num, unhide HB2⟩
        · have tz : ((op : Int) == 0) = true := by rw [beq_iff_eq]; omega
          have te : ((n : Int) == (T.size : Int)) = false := by rw [beq_eq_false_iff_ne]; omega
          have hlN : (n : Int) < (T.size : Int) := by omega
          have hbn := bt_at T n h2
          rw [hbn] at h3
          have g44 : ((T[n].toNat : Int) == 44) = false := by rw [beq_eq_false_iff_ne]; omega
          have g93 : ((T[n].toNat : Int) == 93) = false := by rw [beq_eq_false_iff_ne]; omega
          have g125 : ((T[n].toNat : Int) == 125) = true := by rw [beq_iff_eq]; omega
          clear hbn h3
          have HK := hide h4
          clear h4
          clear h1
          go_wp2_with fail
          refine (unhide HSJ).mono ?_
          rintro e w2 ⟨b2, rfl⟩
          have HB2 := hide (below_next (unhide HB) b2)
          clear HSJ b2
          go_wp2
          go_ret
          exact ⟨by rw [← unhide HK]; first | rfl | go_num, unhide HB2⟩
        · have tz : ((op : Int) == 0) = true := by rw [beq_iff_eq]; omega
          have te : ((n : Int) == (T.size : Int)) = false := by rw [beq_eq_false_iff_ne]; omega
          have hlN : (n : Int) < (T.size : Int) := by omega
          have hbn := bt_at T n h2
          rw [hbn] at h3 h4 h5
          have g44 : ((T[n].toNat : Int) == 44) = false := by rw [beq_eq_false_iff_ne]; omega
          have g93 : ((T[n].toNat : Int) == 93) = false := by rw [beq_eq_false_iff_ne]; omega
          have g125 : ((T[n].toNat : Int) == 125) = false := by rw [beq_eq_false_iff_ne]; omega
          clear hbn h3 h4 h5
          have H2 := hide h6
          clear h6
          clear h1
          go_wp2_with fail
          refine (unhide HSJ).mono ?_
          rintro e w2 ⟨b2, rfl⟩
          have HB2 := hide (below_next (unhide HB) b2)
          clear HSJ b2
          go_wp2
          go_roundw
          case rel => exact ⟨n, op, g, by go_num, by go_num, hnT, by omega, unhide H2, unhide HB2⟩
          case measure => simp [intOf]; omega
      · have hn1 : (j : Int) + 1 = (n : Int) := by have := hns c34; omega
        have hnx := hns c34
        clear hnq hns
        by_cases c91 : bt T j = 91
        · obtain rfl : op + 1 = o := by rw [c91] at ho; injection ho
          rw [hb] at c91
          have f34 : ((T[j].toNat : Int) == 34) = false := by rw [beq_eq_false_iff_ne]; omega
          have f91 : ((T[j].toNat : Int) == 91) = true := by rw [beq_iff_eq]; omega
          have f123 : ((T[j].toNat : Int) == 123) = false := by rw [beq_eq_false_iff_ne]; omega
          have f93 : ((T[j].toNat : Int) == 93) = false := by rw [beq_eq_false_iff_ne]; omega
          have f125 : ((T[j].toNat : Int) == 125) = false := by rw [beq_eq_false_iff_ne]; omega
          clear hb c91 HST ho c34
          rcases ht with ⟨h1, h2⟩ | ⟨h1, h2, h3⟩ | ⟨h1, h2, h3, h4⟩ | ⟨h1, h2, h3, h4⟩ | ⟨h1, h2, h3, h4⟩ | ⟨h1, h2, h3, h4, h5, h6⟩
          · have tz : (((op : Int) + 1) == 0) = false := by rw [beq_eq_false_iff_ne]; omega
            have H2 := hide h2
            clear h1 h2
            go_wp2
            go_roundw
            case rel => exact ⟨n, op + 1, g, by go_num, by go_num, hnT, by omega, unhide H2, unhide HB⟩
            case measure => simp [intOf]; omega
          · exfalso; omega
          · exfalso; omega
          · exfalso; omega
          · exfalso; omega
          · exfalso; omega
        by_cases c123 : bt T j = 123
        · obtain rfl : op + 1 = o := by rw [c123] at ho; injection ho
          rw [hb] at c123
          have f34 : ((T[j].toNat : Int) == 34) = false := by rw [beq_eq_false_iff_ne]; omega
          have f91 : ((T[j].toNat : Int) == 91) = false := by rw [beq_eq_false_iff_ne]; omega
          have f123 : ((T[j].toNat : Int) == 123) = true := by rw [beq_iff_eq]; omega
          have f93 : ((T[j].toNat : Int) == 93) = false := by rw [beq_eq_false_iff_ne]; omega
          have f125 : ((T[j].toNat : Int) == 125) = false := by rw [beq_eq_false_iff_ne]; omega
          clear hb c123 HST ho c34 c91
          rcases ht with ⟨h1, h2⟩ | ⟨h1, h2, h3⟩ | ⟨h1, h2, h3, h4⟩ | ⟨h1, h2, h3, h4⟩ | ⟨h1, h2, h3, h4⟩ | ⟨h1, h2, h3, h4, h5, h6⟩
          · have tz : (((op : Int) + 1) == 0) = false := by rw [beq_eq_false_iff_ne]; omega
            have H2 := hide h2
            clear h1 h2
            go_wp2
            go_roundw
            case rel => exact ⟨n, op + 1, g, by go_num, by go_num, hnT, by omega, unhide H2, unhide HB⟩
            case measure => simp [intOf]; omega
          · exfalso; omega
          · exfalso; omega
          · exfalso; omega
          · exfalso; omega
          · exfalso; omega
        by_cases c93 : bt T j = 93
        · have hop1 : 1 ≤ op := by rw [c93] at ho; cases op with
            | zero => cases ho
            | succ n => omega
          obtain rfl : op - 1 = o := by rw [c93] at ho; cases op with
            | zero => cases ho
            | succ n => injection ho
          rw [hb] at c93
          have f34 : ((T[j].toNat : Int) == 34) = false := by rw [beq_eq_false_iff_ne]; omega
          have f91 : ((T[j].toNat : Int) == 91) = false := by rw [beq_eq_false_iff_ne]; omega
          have f123 : ((T[j].toNat : Int) == 123) = false := by rw [beq_eq_false_iff_ne]; omega
          have f93 : ((T[j].toNat : Int) == 93) = true := by rw [beq_iff_eq]; omega
          have f125 : ((T[j].toNat : Int) == 125) = false := by rw [beq_eq_false_iff_ne]; omega
          clear hb c93 HST ho c34 c91 c123
          rcases ht with ⟨h1, h2⟩ | ⟨h1, h2, h3⟩ | ⟨h1, h2, h3, h4⟩ | ⟨h1, h2, h3, h4⟩ | ⟨h1, h2, h3, h4⟩ | ⟨h1, h2, h3, h4, h5, h6⟩
          · have tz : (((op : Int) - 1) == 0) = false := by rw [beq_eq_false_iff_ne]; omega
            have H2 := hide h2
            clear h1 h2
            go_wp2
            go_roundw
            case rel => exact ⟨n, op - 1, g, by go_num, by go_num, hnT, by omega, unhide H2, unhide HB⟩
            case measure => simp [intOf]; omega
          · have tz : (((op : Int) - 1) == 0) = true := by rw [beq_iff_eq]; omega
            have te : ((n : Int) == (T.size : Int)) = true := by rw [beq_iff_eq]; omega
            have HK := hide h3
            clear h3
            clear h1 h2
            go_wp2
            go_ret
            exact ⟨by rw [← unhide HK]; first | rfl | go_num, unhide HB⟩
          · have tz : (((op : Int) - 1) == 0) = true := by rw [beq_iff_eq]; omega
            have te : ((n : Int) == (T.size : Int)) = false := by rw [beq_eq_false_iff_ne]; omega
            have hlN : (n : Int) < (T.size : Int) := by omega
            have hbn := bt_at T n h2
            rw [hbn] at h3
            have g44 : ((T[n].toNat : Int) == 44) = true := by rw [beq_iff_eq]; omega
            have g93 : ((T[n].toNat : Int) == 93) = false := by rw [beq_eq_false_iff_ne]; omega
            have g125 : ((T[n].toNat : Int) == 125) = false := by rw [beq_eq_false_iff_ne]; omega
            clear hbn h3
            have HK := hide h4
            clear h4
            clear h1
            go_wp2
            go_ret
            exact ⟨by rw [← unhide HK]; first | rfl | go_num, unhide HB⟩
          · have tz : (((op : Int) - 1) == 0) = true := by rw [beq_iff_eq]; omega
            have te : ((n : Int) == (T.size : Int)) = false := by rw [beq_eq_false_iff_ne]; omega
            have hlN : (n : Int) < (T.size : Int) := by omega
            have hbn := bt_at T n h2
            rw [hbn] at h3
            have g44 : ((T[n].toNat : Int) == 44) = false := by rw [beq_eq_false_iff_ne]; omega
            have g93 : ((T[n].toNat : Int) == 93) = true := by rw [beq_iff_eq]; omega
            have g125 : ((T[n].toNat : Int) == 125) = false := by rw [beq_eq_false_iff_ne]; omega
            clear hbn h3
            have HK := hide h4
            clear h4
            clear h1
            go_wp2
            go_ret
            exact ⟨by rw [← unhide HK]; first | rfl | go_num, unhide HB⟩
          · have tz : (((op : Int) - 1) == 0) = true := by rw [beq_iff_eq]; omega
            have te : ((n : Int) == (T.size : Int)) = false := by rw [beq_eq_false_iff_ne]; omega
            have hlN : (n : Int) < (T.size : Int) := by omega
            have hbn := bt_at T n h2
            rw [hbn] at h3
            have g44 : ((T[n].toNat : Int) == 44) = false := by rw [beq_eq_false_iff_ne]; omega
            have g93 : ((T[n].toNat : Int) == 93) = false := by rw [beq_eq_false_iff_ne]; omega
            have g125 : ((T[n].toNat : Int) == 125) = true := by rw [beq_iff_eq]; omega
            clear hbn h3
            have HK := hide h4
            clear h4
            clear h1
            go_wp2
            go_ret
            exact ⟨by rw [← unhide HK]; first | rfl | go_num, unhide HB⟩
          · have tz : (((op : Int) - 1) == 0) = true := by rw [beq_iff_eq]; omega
            have te : ((n : Int) == (T.size : Int)) = false := by rw [beq_eq_false_iff_ne]; omega
            have hlN : (n : Int) < (T.size : Int) := by omega
            have hbn := bt_at T n h2
            rw [hbn] at h3 h4 h5
            have g44 : ((T[n].toNat : Int) == 44) = false := by rw [beq_eq_false_iff_ne]; omega
            have g93 : ((T[n].toNat : Int) == 93) = false := by rw [beq_eq_false_iff_ne]; omega
            have g125 : ((T[n].toNat : Int) == 125) = false := by rw [beq_eq_false_iff_ne]; omega
            clear hbn h3 h4 h5
            have H2 := hide h6
            clear h6
            clear h1
            go_wp2
            go_roundw
            case rel => exact ⟨n, op - 1, g, by go_num, by go_num, hnT, by omega, unhide H2, unhide HB⟩
            case measure => simp [intOf]; omega
        by_cases c125 : bt T j = 125
        · have hop1 : 1 ≤ op := by rw [c125] at ho; cases op with
            | zero => cases ho
            | succ n => omega
          obtain rfl : op - 1 = o := by rw [c125] at ho; cases op with
            | zero => cases ho
            | succ n => injection ho
          rw [hb] at c125
          have f34 : ((T[j].toNat : Int) == 34) = false := by rw [beq_eq_false_iff_ne]; omega
          have f91 : ((T[j].toNat : Int) == 91) = false := by rw [beq_eq_false_iff_ne]; omega
          have f123 : ((T[j].toNat : Int) == 123) = false := by rw [beq_eq_false_iff_ne]; omega
          have f93 : ((T[j].toNat : Int) == 93) = false := by rw [beq_eq_false_iff_ne]; omega
          have f125 : ((T[j].toNat : Int) == 125) = true := by rw [beq_iff_eq]; omega
          clear hb c125 HST ho c34 c91 c123 c93
          rcases ht with ⟨h1, h2⟩ | ⟨h1, h2, h3⟩ | ⟨h1, h2, h3, h4⟩ | ⟨h1, h2, h3, h4⟩ | ⟨h1, h2, h3, h4⟩ | ⟨h1, h2, h3, h4, h5, h6⟩
          · have tz : (((op : Int) - 1) == 0) = false := by rw [beq_eq_false_iff_ne]; omega
            have H2 := hide h2
            clear h1 h2
            go_wp2
            go_roundw
            case rel => exact ⟨n, op - 1, g, by go_num, by go_num, hnT, by omega, unhide H2, unhide HB⟩
            case measure => simp [intOf]; omega
          · have tz : (((op : Int) - 1) == 0) = true := by rw [beq_iff_eq]; omega
            have te : ((n : Int) == (T.size : Int)) = true := by rw [beq_iff_eq]; omega
            have HK := hide h3
            clear h3
            clear h1 h2
            go_wp2
            go_ret
            exact ⟨by rw [← unhide HK]; first | rfl | go_num, unhide HB⟩
          · have tz : (((op : Int) - 1) == 0) = true := by rw [beq_iff_eq]; omega
            have te : ((n : Int) == (T.size : Int)) = false := by rw [beq_eq_false_iff_ne]; omega
            have hlN : (n : Int) < (T.size : Int) := by omega
            have hbn := bt_at T n h2
            rw [hbn] at h3
            have g44 : ((T[n].toNat : Int) == 44) = true := by rw [beq_iff_eq]; omega
            have g93 : ((T[n].toNat : Int) == 93) = false := by rw [beq_eq_false_iff_ne]; omega
            have g125 : ((T[n].toNat : Int) == 125) = false := by rw [beq_eq_false_iff_ne]; omega
            clear hbn h3
            have HK := hide h4
            clear h4
            clear h1
            go_wp2
            go_ret
            exact ⟨by rw [← unhide HK]; first | rfl | go_num, unhide HB⟩
          · have tz : (((op : Int) - 1) == 0) = true := by rw [beq_iff_eq]; omega
            have te : ((n : Int) == (T.size : Int)) = false := by rw [beq_eq_false_iff_ne]; omega
            have hlN : (n : Int) < (T.size : Int) := by omega
            have hbn := bt_at T n h2
            rw [hbn] at h3
            have g44 : ((T[n].toNat : Int) == 44) = false := by rw [beq_eq_false_iff_ne]; omega
            have g93 : ((T[n].toNat : Int) == 93) = true := by rw [beq_iff_eq]; omega
            have g125 : ((T[n].toNat : Int) == 125) = false := by rw [beq_eq_false_iff_ne]; omega
            clear hbn h3
            have HK := hide h4
            clear h4
            clear h1
            go_wp2
            go_ret
            exact ⟨by rw [← unhide HK]; first | rfl | go_num, unhide HB⟩
          · have tz : (((op : Int) - 1) == 0) = true := by rw [beq_iff_eq]; omega
            have te : ((n : Int) == (T.size : Int)) = false := by rw [beq_eq_false_iff_ne]; omega
            have hlN : (n : Int) < (T.size : Int) := by omega
            have hbn := bt_at T n h2
            rw [hbn] at h3
            have g44 : ((T[n].toNat : Int) == 44) = false := by rw [beq_eq_false_iff_ne]; omega
            have g93 : ((T[n].toNat : Int) == 93) = false := by rw [beq_eq_false_iff_ne]; omega
            have g125 : ((T[n].toNat : Int) == 125) = true := by rw [beq_iff_eq]; omega
            clear hbn h3
            have HK := hide h4
            clear h4
            clear h1
            go_wp2
            go_ret
            exact ⟨by rw [← unhide HK]; first | rfl | go_num, unhide HB⟩
          · have tz : (((op : Int) - 1) == 0) = true := by rw [beq_iff_eq]; omega
            have te : ((n : Int) == (T.size : Int)) = false := by rw [beq_eq_false_iff_ne]; omega
            have hlN : (n : Int) < (T.size : Int) := by omega
            have hbn := bt_at T n h2
            rw [hbn] at h3 h4 h5
            have g44 : ((T[n].toNat : Int) == 44) = false := by rw [beq_eq_false_iff_ne]; omega
            have g93 : ((T[n].toNat : Int) == 93) = false := by rw [beq_eq_false_iff_ne]; omega
            have g125 : ((T[n].toNat : Int) == 125) = false := by rw [beq_eq_false_iff_ne]; omega
            clear hbn h3 h4 h5
            have H2 := hide h6
            clear h6
            clear h1
            go_wp2
            go_roundw
            case rel => exact ⟨n, op - 1, g, by go_num, by go_num, hnT, by omega, unhide H2, unhide HB⟩
            case measure => simp [intOf]; omega
        obtain rfl : op = o := by
          unfold op1 isOp isCl at ho
          simp [c91, c123, c93, c125] at ho
          exact ho
        rw [hb] at c34 c91 c123 c93 c125
        have f34 : ((T[j].toNat : Int) == 34) = false := by rw [beq_eq_false_iff_ne]; omega
        have f91 : ((T[j].toNat : Int) == 91) = false := by rw [beq_eq_false_iff_ne]; omega
        have f123 : ((T[j].toNat : Int) == 123) = false := by rw [beq_eq_false_iff_ne]; omega
        have f93 : ((T[j].toNat : Int) == 93) = false := by rw [beq_eq_false_iff_ne]; omega
        have f125 : ((T[j].toNat : Int) == 125) = false := by rw [beq_eq_false_iff_ne]; omega
        clear hb c34 c91 c123 c93 c125 HST ho
        rcases ht with ⟨h1, h2⟩ | ⟨h1, h2, h3⟩ | ⟨h1, h2, h3, h4⟩ | ⟨h1, h2, h3, h4⟩ | ⟨h1, h2, h3, h4⟩ | ⟨h1, h2, h3, h4, h5, h6⟩
        · have tz : ((op : Int) == 0) = false := by rw [beq_eq_false_iff_ne]; omega
          have H2 := hide h2
          clear h1 h2
          go_wp2
          go_roundw
          case rel => exact ⟨n, op, g, by go_num, by go_num, hnT, by omega, unhide H2, unhide HB⟩
          case measure => simp [intOf]; omega
        · have tz : ((op : Int) == 0) = true := by rw [beq_iff_eq]; omega
          have te : ((n : Int) == (T.size : Int)) = true := by rw [beq_iff_eq]; omega
          have HK := hide h3
          clear h3
          clear h1 h2
          go_wp2
          go_ret
          exact ⟨by rw [← unhide HK]; first | rfl | go_num, unhide HB⟩
        · have tz : ((op : Int) == 0) = true := by rw [beq_iff_eq]; omega
          have te : ((n : Int) == (T.size : Int)) = false := by rw [beq_eq_false_iff_ne]; omega
          have hlN : (n : Int) < (T.size : Int) := by omega
          have hbn := bt_at T n h2
          rw [hbn] at h3
          have g44 : ((T[n].toNat : Int) == 44) = true := by rw [beq_iff_eq]; omega
          have g93 : ((T[n].toNat : Int) == 93) = false := by rw [beq_eq_false_iff_ne]; omega
          have g125 : ((T[n].toNat : Int) == 125) = false := by rw [beq_eq_false_iff_ne]; omega
          clear hbn h3
          have HK := hide h4
          clear h4
          clear h1
          go_wp2
          go_ret
          exact ⟨by rw [← unhide HK]; first | rfl | go_num, unhide HB⟩
        · have tz : ((op : Int) == 0) = true := by rw [beq_iff_eq]; omega
          have te : ((n : Int) == (T.size : Int)) = false := by rw [beq_eq_false_iff_ne]; omega
          have hlN : (n : Int) < (T.size : Int) := by omega
          have hbn := bt_at T n h2
          rw [hbn] at h3
          have g44 : ((T[n].toNat : Int) == 44) = false := by rw [beq_eq_false_iff_ne]; omega
          have g93 : ((T[n].toNat : Int) == 93) = true := by rw [beq_iff_eq]; omega
          have g125 : ((T[n].toNat : Int) == 125) = false := by rw [beq_eq_false_iff_ne]; omega
          clear hbn h3
          have HK := hide h4
          clear h4
          clear h1
          go_wp2
          go_ret
          exact ⟨by rw [← unhide HK]; first | rfl | go_num, unhide HB⟩
        · have tz : ((op : Int) == 0) = true := by rw [beq_iff_eq]; omega
          have te : ((n : Int) == (T.size : Int)) = false := by rw [beq_eq_false_iff_ne]; omega
          have hlN : (n : Int) < (T.size : Int) := by omega
          have hbn := bt_at T n h2
          rw [hbn] at h3
          have g44 : ((T[n].toNat : Int) == 44) = false := by rw [beq_eq_false_iff_ne]; omega
          have g93 : ((T[n].toNat : Int) == 93) = false := by rw [beq_eq_false_iff_ne]; omega
          have g125 : ((T[n].toNat : Int) == 125) = true := by rw [beq_iff_eq]; omega
          clear hbn h3
          have HK := hide h4
          clear h4
          clear h1
          go_wp2
          go_ret
          exact ⟨by rw [← unhide HK]; first | rfl | go_num, unhide HB⟩
        · have tz : ((op : Int) == 0) = true := by rw [beq_iff_eq]; omega
          have te : ((n : Int) == (T.size : Int)) = false := by rw [beq_eq_false_iff_ne]; omega
          have hlN : (n : Int) < (T.size : Int) := by omega
          have hbn := bt_at T n h2
          rw [hbn] at h3 h4 h5
          have g44 : ((T[n].toNat : Int) == 44) = false := by rw [beq_eq_false_iff_ne]; omega
          have g93 : ((T[n].toNat : Int) == 93) = false := by rw [beq_eq_false_iff_ne]; omega
          have g125 : ((T[n].toNat : Int) == 125) = false := by rw [beq_eq_false_iff_ne]; omega
          clear hbn h3 h4 h5
          have H2 := hide h6
          clear h6
          clear h1
          go_wp2
          go_roundw
          case rel => exact ⟨n, op, g, by go_num, by go_num, hnT, by omega, unhide H2, unhide HB⟩
          case measure => simp [intOf]; omega
    · rw [if_neg hl] at hg; cases hg
end Go.Proofs.YtcjajchfjoffnaaGreatDoor

namespace Go.Proofs.YtcjajchfjoffnaaGreatDoor
open Go.RowKit

theorem strR_len {s : ByteArray} : ∀ {i j : Nat} {l : List UInt8}, strR s i = some (l, j) → l.length + 4 * (i + 1) ≤ 4 * j := by
  intro i
  generalize hn : s.size - i = n
  induction n using Nat.strongRecOn generalizing i with
  | _ n ih =>
    intro j l h
    by_cases h34 : bt s i = 34
    · rw [strR_end h34] at h
      injection h with h; injection h with h1 h2
      subst h1; simp; omega
    · cases hp : piece s i with
      | none => rw [strR_bad h34 hp] at h; cases h
      | some p =>
        obtain ⟨r, n'⟩ := p
        have hk := piece_ok hp
        have he := enc_le r
        rw [strR_go h34 hp] at h
        rcases hq : strR s (i + n') with _ | ⟨l2, j2⟩
        · rw [hq] at h; cases h
        · rw [hq] at h
          injection h with h; injection h with h1 h2
          have := ih (s.size - (i + n')) (by omega) rfl hq
          subst h1
          simp only [List.length_append]
          simp only at h2
          omega
theorem strQ_len {s : ByteArray} {i j : Nat} {l : List UInt8} (h : strQ s i = some (l, j)) : l.length + 4 * (i + 2) ≤ 4 * j := by
  unfold strQ at h
  split at h
  · have := strR_len h; omega
  · cases h
theorem quoted_len (l : List UInt8) : (quoted l).length ≤ 6 * l.length + 2 := by
  have := qs_le l
  unfold quoted; simp only [List.length_cons, List.length_append, List.length_nil]; omega
theorem nm_len {s : ByteArray} {i j : Nat} {l : List UInt8} (h : nm s i = some (l, j)) : l.length + i ≤ j := by
  have hk := nm_ok h
  unfold nm at h
  split at h
  · injection h with h; injection h with h1 h2
    subst h1; subst h2
    unfold norm0 cutB
    split
    · simp; omega
    · rw [List.length_take, List.length_drop, data_len]; omega
  · cases h

def sumT (l : List (List UInt8 × List UInt8)) : Nat := (l.map fun p => (memT p).length + 1).sum
theorem sumT_ins (p : List UInt8 × List UInt8) : ∀ l, sumT (insR p l) = (memT p).length + 1 + sumT l
  | [] => by simp [insR, sumT]
  | q :: r => by
    have := sumT_ins p r
    unfold insR
    split
    · simp [sumT] at *; omega
    · simp [sumT]
theorem sumT_fold : ∀ (l acc : List (List UInt8 × List UInt8)), sumT (l.foldl (fun acc p => insR p acc) acc) = sumT l + sumT acc
  | [], acc => by simp [sumT]
  | p :: l, acc => by
    rw [List.foldl_cons, sumT_fold l, sumT_ins]
    simp [sumT]; omega
theorem sumT_rev (l : List (List UInt8 × List UInt8)) : sumT l.reverse = sumT l := by
  unfold sumT; rw [List.map_reverse, List.sum_reverse]
theorem sumT_isort (l : List (List UInt8 × List UInt8)) : sumT (isort l) = sumT l := by
  unfold isort; rw [sumT_rev, sumT_fold]; simp [sumT]
theorem joinT_len : ∀ l : List (List UInt8), (joinT l).length = (l.map fun t => t.length + 1).sum
  | [] => rfl
  | t :: r => by simp [joinT, joinT_len r]; omega
theorem joinC_len (l : List (List UInt8)) : (joinC l).length ≤ (l.map fun t => t.length + 1).sum := by
  cases l with
  | nil => simp [joinC]
  | cons t r => simp [joinC, joinT_len]
theorem mkO_len (l : List (List UInt8 × List UInt8)) : (mkO (isort l)).length ≤ sumT l + 2 := by
  have h := joinC_len ((isort l).map memT)
  rw [List.map_map] at h
  have e : ((isort l).map ((fun t => t.length + 1) ∘ memT)).sum = sumT l := by rw [← sumT_isort l]; rfl
  rw [e] at h
  unfold mkO
  simp only [List.length_cons, List.length_append, List.length_nil]; omega

theorem p_len (s : ByteArray) : ∀ f i, (∀ v j, pv s f i = some (v, j) → (ct v).length ≤ 30 * (j - i)) ∧ (∀ l j, pa s f i = some (l, j) → ((ctL l).map fun t => t.length + 1).sum + 2 ≤ 30 * (j - i)) ∧ (∀ m j, po s f i = some (m, j) → sumT (ctM m) + 2 ≤ 30 * (j - i))
  | 0, i => ⟨fun v j h => by simp [pv] at h, fun v j h => by simp [pa] at h, fun v j h => by simp [po] at h⟩
  | f + 1, i => by
    refine ⟨fun v j h => ?_, fun l j h => ?_, fun m j h => ?_⟩
    · have hok := (p_ok s (f + 1) i).1 v j h
      rw [pv] at h
      have g := sk_ge s (i + 1)
      split at h
      · split at h
        · injection h with h; injection h with h0 h
          subst h0
          simp [ct, ctL, mkA, joinC]; omega
        · simp only [Option.map_eq_some_iff] at h
          obtain ⟨⟨l, k⟩, hk, h⟩ := h
          injection h with h0 h
          have h1 := (p_len s f (sk s (i + 1))).2.1 l k hk
          have h2 := (p_ok s f (sk s (i + 1))).2.1 l k hk
          have h3 := joinC_len (ctL l)
          subst h0
          simp only [ct, mkA, List.length_cons, List.length_append, List.length_nil]
          simp only at h; omega
      · split at h
        · split at h
          · injection h with h; injection h with h0 h
            subst h0
            simp [ct, ctM, mkO, isort, joinC]; omega
          · simp only [Option.map_eq_some_iff] at h
            obtain ⟨⟨l, k⟩, hk, h⟩ := h
            injection h with h0 h
            have h1 := (p_len s f (sk s (i + 1))).2.2 l k hk
            have h2 := (p_ok s f (sk s (i + 1))).2.2 l k hk
            have h3 := mkO_len (ctM l)
            subst h0
            simp only [ct]
            simp only at h; omega
        · split at h
          · simp only [Option.map_eq_some_iff] at h
            obtain ⟨⟨l, k⟩, hk, h⟩ := h
            injection h with h0 h
            have h1 := strQ_len hk
            have h2 := quoted_len l
            subst h0
            simp only [ct]
            simp only at h; omega
          · split at h
            · injection h with h; injection h with h0 h
              subst h0; simp [ct]; omega
            · split at h
              · injection h with h; injection h with h0 h
                subst h0; simp [ct]; omega
              · split at h
                · injection h with h; injection h with h0 h
                  subst h0; simp [ct]; omega
                · simp only [Option.map_eq_some_iff] at h
                  obtain ⟨⟨l, k⟩, hk, h⟩ := h
                  injection h with h0 h
                  have h1 := nm_len hk
                  subst h0
                  simp only [ct]
                  simp only at h; omega
    · rw [pa] at h
      simp only [Option.bind_eq_some_iff] at h
      obtain ⟨⟨v, k⟩, hk, h⟩ := h
      have h1 := (p_ok s f i).1 v k hk
      have h1' := (p_len s f i).1 v k hk
      have g1 := sk_ge s k
      simp only at h
      split at h
      · injection h with h; injection h with h0 h
        subst h0
        simp [ctL]; omega
      · split at h
        · simp only [Option.map_eq_some_iff] at h
          obtain ⟨⟨l, n⟩, hn, h⟩ := h
          injection h with h0 h
          have h2 := (p_ok s f _).2.1 l n hn
          have h2' := (p_len s f _).2.1 l n hn
          have g2 := sk_ge s (sk s k + 1)
          subst h0
          simp only [ctL, List.map_cons, List.sum_cons]
          simp only at h; omega
        · cases h
    · rw [po] at h
      simp only [Option.bind_eq_some_iff] at h
      obtain ⟨⟨key, a⟩, ha, h⟩ := h
      have h0 := strQ_ok ha
      have h0' := strQ_len ha
      have hq := quoted_len key
      simp only at h
      split at h
      · simp only [Option.bind_eq_some_iff] at h
        obtain ⟨⟨v, k⟩, hk, h⟩ := h
        have h1 := (p_ok s f _).1 v k hk
        have h1' := (p_len s f _).1 v k hk
        have g0 := sk_ge s a
        have g3 := sk_ge s (sk s a + 1)
        have g1 := sk_ge s k
        simp only at h
        split at h
        · injection h with h; injection h with h0 h
          subst h0
          simp [ctM, sumT, memT]; omega
        · split at h
          · simp only [Option.map_eq_some_iff] at h
            obtain ⟨⟨l, n⟩, hn, h⟩ := h
            injection h with h0 h
            have h2 := (p_ok s f _).2.2 l n hn
            have h2' := (p_len s f _).2.2 l n hn
            have g2 := sk_ge s (sk s k + 1)
            subst h0
            have e : sumT (ctM (.cons key v l)) = (memT (key, ct v)).length + 1 + sumT (ctM l) := by simp [ctM, sumT]
            have e2 : (memT (key, ct v)).length = (quoted key).length + 1 + (ct v).length := by simp [memT]; omega
            simp only at h ⊢
            omega
          · cases h
      · cases h
theorem val_len {s : ByteArray} {i j : Nat} {v : JV} (h : val s i = some (v, j)) : (ct v).length ≤ 30 * (j - i) := (p_len s _ i).1 v j h
end Go.Proofs.YtcjajchfjoffnaaGreatDoor

namespace Go.Proofs.YtcjajchfjoffnaaGreatDoor
open Go.RowKit

theorem qB_ge (c : UInt8) : 1 ≤ (qB c).length := by
  unfold qB
  repeat' split
  all_goals simp
theorem qs_ge (l : List UInt8) : l.length ≤ (qs l).length := by
  induction l with
  | nil => simp
  | cons c l ih =>
    have := qB_ge c
    simp only [qs, List.flatMap_cons, List.length_append, List.length_cons] at *
    omega
def JL.toL : JL → List JV
  | .nil => []
  | .cons v r => v :: r.toL
theorem ctL_map : ∀ l : JL, ctL l = l.toL.map ct
  | .nil => rfl
  | .cons v r => by rw [ctL, JL.toL, List.map_cons, ctL_map r]
theorem quoted_ge (l : List UInt8) : l.length + 2 ≤ (quoted l).length := by
  have := qs_ge l
  simp [quoted]; omega
theorem memT_parts (p : List UInt8 × List UInt8) : (memT p).length = (quoted p.1).length + 1 + p.2.length := by simp [memT]; omega

/-- The bytes of brackets with as many commas as parts need. -/
def hold (n : Nat) : Nat := 2 + (n - 1)

def dl : List JV → Nat
  | [] => 0
  | v :: r => max (depV v) (dl r)
def cl (vs : List JV) : Nat := (vs.map cntV).sum
def nl (ts : List (List UInt8)) : Nat := (ts.map List.length).sum
theorem dl_snoc (a : List JV) (v : JV) : dl (a ++ [v]) = max (dl a) (depV v) := by
  induction a with
  | nil => simp [dl]
  | cons x r ih => simp only [List.cons_append, dl, ih]; omega
theorem cl_snoc (a : List JV) (v : JV) : cl (a ++ [v]) = cl a + cntV v := by simp [cl]
theorem depL_dl : ∀ l : JL, depL l = dl l.toL
  | .nil => rfl
  | .cons v r => by rw [depL, JL.toL, dl, depL_dl r]
theorem cntL_cl : ∀ l : JL, cntL l = cl l.toL
  | .nil => rfl
  | .cons v r => by rw [cntL, JL.toL, cntL_cl r]; simp [cl]
theorem dl_take (a : List JV) (k : Nat) : dl (a.take k) ≤ dl a := by
  induction a generalizing k with
  | nil => simp
  | cons x r ih =>
    cases k with
    | zero => simp [dl]
    | succ k => simp only [List.take_succ_cons, dl]; have := ih k; omega
theorem dl_at (a : List JV) (k : Nat) (h : k < a.length) : depV a[k] ≤ dl a := by
  induction a generalizing k with
  | nil => simp at h
  | cons x r ih =>
    cases k with
    | zero => simp only [List.getElem_cons_zero, dl]; omega
    | succ k => simp only [List.getElem_cons_succ, dl]; have := ih k (by simpa using h); omega
theorem sum_take (a : List Nat) (k : Nat) : (a.take k).sum ≤ a.sum := by
  have : a.sum = (a.take k).sum + (a.drop k).sum := by rw [← List.sum_append, List.take_append_drop]
  omega
theorem sum_at (a : List Nat) (k : Nat) (h : k < a.length) : a[k] ≤ a.sum := by
  have h1 := sum_take a (k + 1)
  rw [List.take_succ_eq_append_getElem h, List.sum_append] at h1
  simp at h1; omega
theorem joinT_nl : ∀ ts : List (List UInt8), (joinT ts).length = ts.length + nl ts
  | [] => rfl
  | t :: r => by
    have := joinT_nl r
    simp [joinT, nl] at this ⊢
    omega
theorem joinC_nl (ts : List (List UInt8)) : (joinC ts).length + 2 = hold ts.length + nl ts := by
  cases ts with
  | nil => simp [joinC, hold, nl]
  | cons t r =>
    have := joinT_nl r
    simp [joinC, hold, nl] at this ⊢
    omega
theorem depM_dl : ∀ m : JM, depM m = dl (m.toL.map (·.2))
  | .nil => rfl
  | .cons k v r => by rw [depM, JM.toL, List.map_cons, dl, depM_dl r]
theorem cntM_sum : ∀ m : JM, cntM m = (m.toL.map fun q => cntV q.2).sum
  | .nil => rfl
  | .cons k v r => by rw [cntM, JM.toL, List.map_cons, List.sum_cons, cntM_sum r]
def memN (q : List UInt8 × JV) : Nat := (quoted q.1).length + 1 + (ct q.2).length
theorem ctObj_len (m : JM) : (ct (.obj m)).length = hold m.toL.length + (m.toL.map memN).sum := by
  show (mkO (isort (ctM m))).length = _
  have h := joinC_nl ((isort (ctM m)).map memT)
  have e1 : ((isort (ctM m)).map memT).length = m.toL.length := by rw [List.length_map, (isort_perm _).length_eq, ctM_map, List.length_map]
  have e2 : nl ((isort (ctM m)).map memT) = (m.toL.map memN).sum := by
    unfold nl
    have p := (((isort_perm (ctM m)).map memT).map List.length).sum_nat
    rw [p, ctM_map]
    simp only [List.map_map]
    congr 1
    apply List.map_congr_left
    intro q _
    simp only [Function.comp_apply, memN]
    exact memT_parts _
  rw [e1, e2] at h
  simp [mkO]; omega
theorem sumf_at (f : List UInt8 × JV → Nat) {qs : List (List UInt8 × JV)} {q : List UInt8 × JV} (h : q ∈ qs) : f q ≤ (qs.map f).sum := by
  obtain ⟨j, hj, rfl⟩ := List.getElem_of_mem h
  have := sum_at (qs.map f) j (by simpa using hj)
  simpa using this
end Go.Proofs.YtcjajchfjoffnaaGreatDoor

namespace Go.Proofs.YtcjajchfjoffnaaGreatDoor
open Go.RowKit

/-- A value takes as many bytes as it has values, or more. -/
theorem p_cnt (s : ByteArray) : ∀ f i, (∀ v j, pv s f i = some (v, j) → cntV v + i ≤ j) ∧ (∀ l j, pa s f i = some (l, j) → cntL l + i ≤ j) ∧ (∀ m j, po s f i = some (m, j) → cntM m + i ≤ j)
  | 0, i => ⟨fun v j h => by simp [pv] at h, fun v j h => by simp [pa] at h, fun v j h => by simp [po] at h⟩
  | f + 1, i => by
    refine ⟨fun v j h => ?_, fun l j h => ?_, fun m j h => ?_⟩
    · rw [pv] at h
      have g := sk_ge s (i + 1)
      split at h
      · split at h
        · have := bt_in (s := s) (i := sk s (i + 1)) (by omega)
          injection h with h; injection h with hv h; subst hv; (try simp only [cntV]); (try simp only [cntL]); (try simp only [cntM]); omega
        · simp only [Option.map_eq_some_iff] at h
          obtain ⟨⟨l, k⟩, hk, h⟩ := h
          injection h with hv h
          have := (p_cnt s f (sk s (i + 1))).2.1 l k hk
          subst hv; simp only at h; (try simp only [cntV]); (try simp only [cntL]); (try simp only [cntM]); omega
      · split at h
        · split at h
          · have := bt_in (s := s) (i := sk s (i + 1)) (by omega)
            injection h with h; injection h with hv h; subst hv; (try simp only [cntV]); (try simp only [cntL]); (try simp only [cntM]); omega
          · simp only [Option.map_eq_some_iff] at h
            obtain ⟨⟨l, k⟩, hk, h⟩ := h
            injection h with hv h
            have := (p_cnt s f (sk s (i + 1))).2.2 l k hk
            subst hv; simp only at h; (try simp only [cntV]); (try simp only [cntL]); (try simp only [cntM]); omega
        · split at h
          · simp only [Option.map_eq_some_iff] at h
            obtain ⟨⟨l, k⟩, hk, h⟩ := h
            injection h with hv h
            have := strQ_ok hk
            subst hv; simp only at h; (try simp only [cntV]); (try simp only [cntL]); (try simp only [cntM]); omega
          · split at h
            · rename_i hw
              have := wNull_in hw
              injection h with h; injection h with hv h; subst hv; (try simp only [cntV]); (try simp only [cntL]); (try simp only [cntM]); omega
            · split at h
              · rename_i hw
                have := wTrue_in hw
                injection h with h; injection h with hv h; subst hv; (try simp only [cntV]); (try simp only [cntL]); (try simp only [cntM]); omega
              · split at h
                · rename_i hw
                  have := wFalse_in hw
                  injection h with h; injection h with hv h; subst hv; (try simp only [cntV]); (try simp only [cntL]); (try simp only [cntM]); omega
                · simp only [Option.map_eq_some_iff] at h
                  obtain ⟨⟨l, k⟩, hk, h⟩ := h
                  injection h with hv h
                  have := nm_ok hk
                  subst hv; simp only at h; (try simp only [cntV]); (try simp only [cntL]); (try simp only [cntM]); omega
    · rw [pa] at h
      simp only [Option.bind_eq_some_iff] at h
      obtain ⟨⟨v, k⟩, hk, h⟩ := h
      have h1 := (p_cnt s f i).1 v k hk
      have g1 := sk_ge s k
      simp only at h
      split at h
      · have := bt_in (s := s) (i := sk s k) (by omega)
        injection h with h; injection h with hv h; subst hv; (try simp only [cntV]); (try simp only [cntL]); (try simp only [cntM]); omega
      · split at h
        · simp only [Option.map_eq_some_iff] at h
          obtain ⟨⟨l, n⟩, hn, h⟩ := h
          injection h with hv h
          have := (p_cnt s f _).2.1 l n hn
          have g2 := sk_ge s (sk s k + 1)
          subst hv; simp only at h; (try simp only [cntL]); (try simp only [cntM]); omega
        · cases h
    · rw [po] at h
      simp only [Option.bind_eq_some_iff] at h
      obtain ⟨⟨key, a⟩, ha, h⟩ := h
      have h0 := strQ_ok ha
      simp only at h
      split at h
      · simp only [Option.bind_eq_some_iff] at h
        obtain ⟨⟨v, k⟩, hk, h⟩ := h
        have h1 := (p_cnt s f _).1 v k hk
        have g0 := sk_ge s a
        have g3 := sk_ge s (sk s a + 1)
        have g1 := sk_ge s k
        simp only at h
        split at h
        · have := bt_in (s := s) (i := sk s k) (by omega)
          injection h with h; injection h with hv h; subst hv; (try simp only [cntV]); (try simp only [cntL]); (try simp only [cntM]); omega
        · split at h
          · simp only [Option.map_eq_some_iff] at h
            obtain ⟨⟨l, n⟩, hn, h⟩ := h
            injection h with hv h
            have := (p_cnt s f _).2.2 l n hn
            have g2 := sk_ge s (sk s k + 1)
            subst hv; simp only at h; (try simp only [cntM]); omega
          · cases h
      · cases h

theorem val_cnt {s : ByteArray} {i j : Nat} {v : JV} (h : val s i = some (v, j)) : cntV v + i ≤ j := (p_cnt s _ i).1 v j h
end Go.Proofs.YtcjajchfjoffnaaGreatDoor

namespace Go.Proofs.YtcjajchfjoffnaaGreatDoor
open Go.RowKit

/-- The one value of a text. -/
def docR (s : ByteArray) : Option JV := (val s (sk s 0)).bind fun q => if sk s q.2 = s.size then some q.1 else none
/-- What readText finds: a code, or a value. -/
def readR (s : ByteArray) : Sum Nat JV :=
  if 20000 < s.size then .inl 1 else
  match docR s with
  | none => .inl 2
  | some v => if bigV v then .inl 3 else if twV v then .inl 4 else if 100 < depV v ∨ 3000 < cntV v then .inl 5 else .inr v
theorem doc_facts {s : ByteArray} {v : JV} (h : docR s = some v) : okV v ∧ cntV v ≤ s.size ∧ (ct v).length ≤ 30 * s.size := by
  unfold docR at h
  cases hv : val s (sk s 0) with
  | none => rw [hv] at h; simp at h
  | some q =>
    obtain ⟨u, j⟩ := q
    have e : u = v := by
      rw [hv] at h
      simp only [Option.bind_some] at h
      split at h
      · injection h
      · cases h
    subst e
    have h1 := val_cnt hv
    have h2 := val_len hv
    have h3 := val_ok hv
    exact ⟨val_okV hv, by omega, by omega⟩

/-- The answers of Canon and Measure. -/
def canonV (s : ByteArray) : Value := match readR s with
  | .inl c => .tuple #[.string ⟨#[]⟩, .int .i64 (c : Int)]
  | .inr v => .tuple #[.string (strOf (ct v)), .int .i64 0]
def measV (s : ByteArray) : Value := match readR s with
  | .inl c => .tuple #[.int .i64 0, .int .i64 0, .int .i64 (c : Int)]
  | .inr v => .tuple #[.int .i64 (depV v : Int), .int .i64 (cntV v : Int), .int .i64 0]

theorem read_facts {s : ByteArray} {v : JV} (h : readR s = .inr v) : s.size ≤ 20000 ∧ docR s = some v ∧ twV v = false ∧ bigV v = false ∧ depV v ≤ 100 ∧ cntV v ≤ 3000 := by
  unfold readR at h
  split at h
  · cases h
  · rename_i hs
    cases hd : docR s with
    | none => rw [hd] at h; simp at h
    | some u =>
      rw [hd] at h
      simp only at h
      split at h
      · cases h
      · rename_i hb
        split at h
        · cases h
        · rename_i ht
          split at h
          · cases h
          · rename_i hg
            injection h with h
            subst h
            exact ⟨by omega, rfl, by simpa using ht, by simpa using hb, by omega, by omega⟩
theorem read_code {s : ByteArray} {c : Nat} (h : readR s = .inl c) : 1 ≤ c ∧ c ≤ 5 := by
  unfold readR at h
  split at h
  · injection h with h; omega
  · split at h
    · injection h with h; omega
    · split at h
      · injection h with h; omega
      · split at h
        · injection h with h; omega
        · split at h
          · injection h with h; omega
          · cases h
end Go.Proofs.YtcjajchfjoffnaaGreatDoor

namespace Go.Proofs.YtcjajchfjoffnaaGreatDoor
open Go.RowKit Go.Lib

def dV (c : UInt8) : Nat := c.toNat - 48
/-- What digits spell, behind a number. -/
def foldV (a : Nat) (d : List UInt8) : Nat := d.foldl (fun a c => a * 10 + dV c) a
def Dg (d : List UInt8) : Prop := ∀ c ∈ d, 48 ≤ c.toNat ∧ c.toNat ≤ 57
/-- Digits without a zero ahead. -/
def Num (d : List UInt8) : Prop := Dg d ∧ d ≠ [] ∧ (d = [48] ∨ ∀ c r, d = c :: r → 49 ≤ c.toNat)
theorem Dg.tail {c : UInt8} {d : List UInt8} (h : Dg (c :: d)) : Dg d := fun x hx => h x (List.mem_cons_of_mem _ hx)
theorem Dg.head {c : UInt8} {d : List UInt8} (h : Dg (c :: d)) : 48 ≤ c.toNat ∧ c.toNat ≤ 57 := h c List.mem_cons_self
theorem foldV_cons (a : Nat) (c : UInt8) (d : List UInt8) : foldV a (c :: d) = foldV (a * 10 + dV c) d := by unfold foldV; rw [List.foldl_cons]
theorem foldV_snoc (a : Nat) (d : List UInt8) (c : UInt8) : foldV a (d ++ [c]) = foldV a d * 10 + dV c := by unfold foldV; rw [List.foldl_append]; rfl
theorem foldV_ge (d : List UInt8) : ∀ a, a ≤ foldV a d := by
  induction d with
  | nil => intro a; exact Nat.le_refl _
  | cons c d ih => intro a; rw [foldV_cons]; have := ih (a * 10 + dV c); omega
theorem foldV_lin (d : List UInt8) : ∀ a, foldV a d = a * 10 ^ d.length + foldV 0 d := by
  induction d with
  | nil => intro a; simp [foldV]
  | cons c d ih =>
    intro a
    rw [foldV_cons, foldV_cons, ih (a * 10 + dV c), ih (0 * 10 + dV c), List.length_cons, Nat.pow_succ]
    rw [Nat.add_mul, Nat.zero_mul, Nat.zero_add, Nat.mul_assoc, Nat.mul_comm 10, Nat.add_assoc]
theorem foldV_lt (d : List UInt8) (h : Dg d) : foldV 0 d < 10 ^ d.length := by
  induction d with
  | nil => simp [foldV]
  | cons c d ih =>
    rw [foldV_cons, foldV_lin, List.length_cons, Nat.pow_succ]
    have h1 := ih h.tail
    have h2 := h.head
    have h3 : dV c ≤ 9 := by unfold dV; omega
    have h4 : (0 * 10 + dV c) * 10 ^ d.length ≤ 9 * 10 ^ d.length := Nat.mul_le_mul_right _ (by omega)
    omega
theorem foldV_low {c : UInt8} {d : List UInt8} (hc : 49 ≤ c.toNat) : 10 ^ d.length ≤ foldV 0 (c :: d) := by
  rw [foldV_cons, foldV_lin]
  have : 1 * 10 ^ d.length ≤ (0 * 10 + dV c) * 10 ^ d.length := Nat.mul_le_mul_right _ (by unfold dV; omega)
  omega

theorem parse_fold (d : List UInt8) (h : Dg d) : ∀ a, a ≤ 18446744073709551615 → parseUintM 18446744073709551615 a d = if foldV a d ≤ 18446744073709551615 then .ok (foldV a d) else .range := by
  induction d with
  | nil => intro a ha; rw [parseUintM]; rw [if_pos (by exact ha)]; rfl
  | cons c d ih =>
    intro a ha
    rw [parseUintM, if_pos h.head, foldV_cons]
    have hg := foldV_ge d (a * 10 + dV c)
    have e : a * 10 + (c.toNat - 48) = a * 10 + dV c := rfl
    by_cases h1 : 1844674407370955162 ≤ a
    · rw [if_pos h1, if_neg (by omega)]
    · rw [if_neg h1, e]
      by_cases h2 : 18446744073709551615 < a * 10 + dV c
      · rw [if_pos h2, if_neg (by omega)]
      · rw [if_neg h2]
        exact ih h.tail _ (by omega)

theorem less_fold : ∀ (a b : List UInt8), Dg a → Dg b → a.length = b.length → (Op.bytesLess a b = decide (foldV 0 a < foldV 0 b)) ∧ ((a == b) = decide (foldV 0 a = foldV 0 b))
  | [], [], _, _, _ => by simp [Op.bytesLess, foldV]
  | [], _ :: _, _, _, h => by simp at h
  | _ :: _, [], _, _, h => by simp at h
  | c :: a, x :: b, ha, hb, h => by
    have hl : a.length = b.length := by simpa using h
    obtain ⟨i1, i2⟩ := less_fold a b ha.tail hb.tail hl
    have a1 := foldV_lt a ha.tail
    have b1 := foldV_lt b hb.tail
    have hc := ha.head
    have hx := hb.head
    rw [foldV_cons, foldV_cons, foldV_lin a, foldV_lin b, hl]
    rw [hl] at a1
    have ec : 0 * 10 + dV c = dV c := by omega
    have ex : 0 * 10 + dV x = dV x := by omega
    rw [ec, ex]
    generalize foldV 0 a = A at *
    generalize foldV 0 b = B at *
    generalize 10 ^ b.length = P at *
    have hcx : c < x ↔ dV c < dV x := by rw [UInt8.lt_iff_toNat_lt]; unfold dV; omega
    have hce : c = x ↔ dV c = dV x := by rw [← UInt8.toNat_inj]; unfold dV; omega
    rw [Op.bytesLess]
    by_cases g1 : dV c < dV x
    · have : (dV c + 1) * P ≤ dV x * P := Nat.mul_le_mul_right _ g1
      rw [Nat.add_mul, Nat.one_mul] at this
      refine ⟨?_, ?_⟩
      · rw [decide_eq_true (hcx.2 g1), Bool.true_or, decide_eq_true (by omega)]
      · rw [decide_eq_false (by omega), beq_eq_false_iff_ne]
        intro e; injection e with e1 e2; have := hce.1 e1; omega
    · by_cases g2 : dV c = dV x
      · have hcq : (c == x) = true := by rw [beq_iff_eq]; exact hce.2 g2
        rw [decide_eq_false (fun hh => g1 (hcx.1 hh)), Bool.false_or, hcq, Bool.true_and, i1, g2]
        refine ⟨?_, ?_⟩
        · apply decide_eq_decide.2; omega
        · rw [hce.2 g2]
          rw [show ((x :: a) == (x :: b)) = (a == b) from by simp, i2]
          apply decide_eq_decide.2; omega
      · have : (dV x + 1) * P ≤ dV c * P := Nat.mul_le_mul_right _ (by omega)
        rw [Nat.add_mul, Nat.one_mul] at this
        have hcq : (c == x) = false := by rw [beq_eq_false_iff_ne]; exact fun e => g2 (hce.1 e)
        refine ⟨?_, ?_⟩
        · rw [decide_eq_false (fun hh => g1 (hcx.1 hh)), Bool.false_or, hcq, Bool.false_and, decide_eq_false (by omega)]
        · rw [decide_eq_false (by omega), beq_eq_false_iff_ne]
          intro e; injection e with e1 e2; exact g2 (hce.1 e1)

theorem Num.bounds {d : List UInt8} (h : Num d) : (d.length ≤ 18 → foldV 0 d < 1000000000000000000) ∧ (20 ≤ d.length → 10000000000000000000 ≤ foldV 0 d) := by
  obtain ⟨h1, h2, h3⟩ := h
  refine ⟨fun hl => ?_, fun hl => ?_⟩
  · have := foldV_lt d h1
    have h4 : 10 ^ d.length ≤ 10 ^ 18 := Nat.pow_le_pow_right (by decide) hl
    have h5 : (10 : Nat) ^ 18 = 1000000000000000000 := by decide
    omega
  · rcases h3 with rfl | h3
    · simp at hl
    · cases d with
      | nil => simp at hl
      | cons c r =>
        have := foldV_low (d := r) (h3 c r rfl)
        have h4 : 10 ^ 19 ≤ 10 ^ r.length := Nat.pow_le_pow_right (by decide) (by simp at hl; omega)
        have h5 : (10 : Nat) ^ 19 = 10000000000000000000 := by decide
        omega
theorem over_lim {d lim : List UInt8} {m : Nat} (h : Num d) (hl : Dg lim) (h19 : lim.length = 19) (hm : foldV 0 lim = m) (h1 : 1000000000000000000 ≤ m) (h2 : m < 10000000000000000000) : over d lim = decide (m < foldV 0 d) := by
  unfold over
  have hb := h.bounds
  by_cases hd : d.length = 19
  · rw [if_neg (by omega)]
    obtain ⟨i1, i2⟩ := less_fold d lim h.1 hl (by omega)
    rw [i1, i2, hm]
    by_cases g : m < foldV 0 d
    · rw [decide_eq_true g, decide_eq_false (by omega), decide_eq_false (by omega)]; rfl
    · rw [decide_eq_false g]
      by_cases g2 : foldV 0 d = m
      · rw [decide_eq_true g2]; simp
      · rw [decide_eq_true (show foldV 0 d < m by omega)]; rfl
  · rw [if_pos hd]
    apply decide_eq_decide.2
    constructor
    · intro g; have := hb.2 (by omega); omega
    · intro g
      rcases Nat.lt_or_ge d.length 19 with g2 | g2
      · have := hb.1 (by omega); omega
      · omega
theorem over_0 {d : List UInt8} (h : Num d) : over d lim0 = decide (9223372036854775807 < foldV 0 d) := over_lim h (by unfold Dg lim0; decide) rfl (by decide) (by decide) (by decide)
theorem over_1 {d : List UInt8} (h : Num d) : over d lim1 = decide (9223372036854775808 < foldV 0 d) := over_lim h (by unfold Dg lim1; decide) rfl (by decide) (by decide) (by decide)

theorem u8_dig {c : UInt8} (h : 48 ≤ c.toNat ∧ c.toNat ≤ 57) : UInt8.ofNat (48 + dV c) = c := by
  apply UInt8.toNat_inj.1
  rw [UInt8.toNat_ofNat']; unfold dV; omega
theorem dec_fold (n : Nat) : ∀ d : List UInt8, d.length = n → Num d → decDigits (foldV 0 d) = d := by
  induction n with
  | zero => intro d hn h; exact absurd (List.eq_nil_of_length_eq_zero hn) h.2.1
  | succ n ih =>
    intro d hn h
    obtain ⟨h1, h2, h3⟩ := h
    rcases List.eq_nil_or_concat d with e | ⟨d', c, e⟩
    · exact absurd e h2
    · rw [List.concat_eq_append] at e
      subst e
      have hc : 48 ≤ c.toNat ∧ c.toNat ≤ 57 := h1 c (by simp)
      have hv : dV c ≤ 9 := by unfold dV; omega
      rw [foldV_snoc]
      cases d' with
      | nil =>
        show decDigits (0 * 10 + dV c) = [c]
        rw [decDigits_one (by omega), show 48 + (0 * 10 + dV c) = 48 + dV c by omega, u8_dig hc]
      | cons x r =>
        have hx : 49 ≤ x.toNat := by
          rcases h3 with h3 | h3
          · simp at h3
          · exact h3 x (r ++ [c]) rfl
        have hlow := foldV_low (d := r) hx
        have hp : 0 < 10 ^ r.length := Nat.pow_pos (by decide)
        have hN : Num (x :: r) := ⟨fun y hy => h1 y (by simp at hy ⊢; rcases hy with hy | hy <;> simp [hy]), by simp, .inr (fun a b e => by injection e with e1 e2; subst e1; exact hx)⟩
        have := ih (x :: r) (by simp at hn ⊢; omega) hN
        rw [decDigits, dif_neg (by omega), show (foldV 0 (x :: r) * 10 + dV c) / 10 = foldV 0 (x :: r) by omega, show (foldV 0 (x :: r) * 10 + dV c) % 10 = dV c by omega, this, u8_dig hc]
end Go.Proofs.YtcjajchfjoffnaaGreatDoor

namespace Go.Proofs.YtcjajchfjoffnaaGreatDoor
open Go.RowKit Go.Lib

theorem cutB_cons {s : ByteArray} {i j : Nat} (hi : i < s.size) (hj : i < j) : cutB s i j = s[i] :: cutB s (i + 1) j := by
  unfold cutB
  rw [drop_at s i hi, show j - i = (j - (i + 1)) + 1 by omega, List.take_succ_cons]
theorem cutB_nil (s : ByteArray) (i : Nat) : cutB s i i = [] := by unfold cutB; simp
theorem cut_dg (s : ByteArray) : ∀ n i, s.size - i ≤ n → Dg (cutB s i (dg s i))
  | n, i, hn => by
    by_cases h : isDg (bt s i) = true
    · have hi : i < s.size := bt_in (by have := isDg_iff.1 h; omega)
      cases n with
      | zero => omega
      | succ n =>
        have h2 := dg_le (s := s) (i := i + 1) (by omega)
        rw [dg_on h, cutB_cons hi (by omega)]
        intro c hc
        rcases List.mem_cons.1 hc with rfl | hc
        · rw [bt_at s i hi] at h; exact isDg_iff.1 h
        · exact cut_dg s n (i + 1) (by omega) c hc
    · rw [dg_off h, cutB_nil]; intro c hc; cases hc
/-- The digits of a number. -/
theorem nm_digits {s : ByteArray} {i j : Nat} {l : List UInt8} (h : nm s i = some (l, j)) : j = nmE s i ∧ Num (cutB s (nmD s i) j) ∧ cutB s i j = (if bt s i = 45 then 45 :: cutB s (nmD s i) j else cutB s (nmD s i) j) ∧ l = norm0 (cutB s i j) := by
  have hk := nm_ok h
  unfold nm at h
  split at h
  · rename_i hd
    injection h with h; injection h with h1 h2
    have hdI := isDg_iff.1 hd
    have hlt : nmD s i < s.size := bt_in (by omega)
    have hbt := bt_at s (nmD s i) hlt
    subst h2
    refine ⟨rfl, ?_, ?_, h1.symm⟩
    · unfold nmE
      split
      · rename_i h48
        rw [cutB_cons hlt (by omega), cutB_nil]
        have e : s[nmD s i] = 48 := UInt8.toNat_inj.1 (by show _ = 48; omega)
        rw [e]
        exact ⟨by unfold Dg; decide, by simp, .inl rfl⟩
      · rename_i h48
        have h3 := dg_le (s := s) (i := nmD s i + 1) (by omega)
        refine ⟨cut_dg s _ _ (Nat.le_refl _), ?_, .inr ?_⟩
        · rw [dg_on hd, cutB_cons hlt (by omega)]; simp
        · intro c r e
          rw [dg_on hd, cutB_cons hlt (by omega)] at e
          injection e with e1 e2
          subst e1; omega
    · by_cases h45 : bt s i = 45
      · have hi : i < s.size := bt_in (by omega)
        have e : s[i] = 45 := UInt8.toNat_inj.1 (by show _ = 45; rw [← bt_at s i hi]; exact h45)
        have hD : nmD s i = i + 1 := by unfold nmD; rw [if_pos h45]
        rw [if_pos h45, cutB_cons hi (by omega), e, hD]
      · have hD : nmD s i = i := by unfold nmD; rw [if_neg h45]
        rw [if_neg h45, hD]
  · cases h
theorem norm0_num {d : List UInt8} (h : Num d) : norm0 d = d := by
  unfold norm0
  rw [if_neg]
  intro e
  have := h.1 45 (by rw [e]; simp)
  exact absurd this.1 (by decide)
theorem parse_num {d : List UInt8} (h : Num d) : parseUintB 64 d = if foldV 0 d ≤ 18446744073709551615 then .ok (foldV 0 d) else .range := by
  unfold parseUintB
  rw [if_neg h.2.1]
  exact parse_fold d h.1 0 (by decide)
theorem nm_parse {s : ByteArray} {i j : Nat} {l : List UInt8} (h : nm s i = some (l, j)) :
    (tooBig l = false → ∃ z : Int, parseIntB 64 (cutB s i j) = .ok z ∧ itoa z = l ∧ -9223372036854775808 ≤ z ∧ z ≤ 9223372036854775807) ∧ (tooBig l = true → parseIntB 64 (cutB s i j) = .range) := by
  obtain ⟨_, hN, hc, hl⟩ := nm_digits h
  generalize cutB s (nmD s i) j = d at *
  have hp := parse_num hN
  have hde := dec_fold d.length d rfl hN
  have p63 : (2 : Nat) ^ (64 - 1) = 9223372036854775808 := by decide
  by_cases h45 : bt s i = 45
  · rw [if_pos h45] at hc
    rw [hc] at hl ⊢
    rw [parseIntB_minus, hp]
    by_cases h0 : d = [48]
    · subst h0
      have e : l = [48] := by rw [hl]; unfold norm0; rw [if_pos rfl]
      subst e
      refine ⟨fun _ => ⟨0, by decide, by rw [show (0 : Int) = ((0 : Nat) : Int) from rfl, itoa_nonneg, decDigits_one (by decide)]; rfl, by decide, by decide⟩, fun hb => absurd hb (by decide)⟩
    · have e : l = 45 :: d := by
        rw [hl]; unfold norm0; rw [if_neg]
        intro e; injection e with _ e; exact h0 e
      subst e
      have ht : tooBig (45 :: d) = decide (9223372036854775808 < foldV 0 d) := by rw [tooBig, if_pos rfl, over_1 hN]
      rw [ht]
      have hpos : 1 ≤ foldV 0 d := by
        obtain ⟨h1, h2, h3⟩ := hN
        rcases h3 with h3 | h3
        · exact absurd h3 h0
        · cases d with
          | nil => exact absurd rfl h2
          | cons c r =>
            have := foldV_low (d := r) (h3 c r rfl)
            have hp : 0 < 10 ^ r.length := Nat.pow_pos (by decide)
            omega
      refine ⟨fun hb => ?_, fun hb => ?_⟩
      · have hb' := of_decide_eq_false hb
        rw [if_pos (by omega)]
        refine ⟨-((foldV 0 d : Nat) : Int), ?_, ?_, by omega, by omega⟩
        · show (if 2 ^ (64 - 1) < foldV 0 d then NumEnd.range else .ok (-((foldV 0 d : Nat) : Int))) = _
          rw [if_neg (by omega)]
        · rw [itoa_neg _ hpos, hde]
      · have hb' := of_decide_eq_true hb
        by_cases g : foldV 0 d ≤ 18446744073709551615
        · rw [if_pos g]
          show (if 2 ^ (64 - 1) < foldV 0 d then NumEnd.range else .ok (-((foldV 0 d : Nat) : Int))) = _
          rw [if_pos (by omega)]
        · rw [if_neg g]; rfl
  · rw [if_neg h45] at hc
    rw [hc] at hl ⊢
    rw [norm0_num hN] at hl
    subst hl
    cases hd : l with
    | nil => exact absurd hd hN.2.1
    | cons c r =>
      have hcd := hN.1 c (by rw [hd]; simp)
      rw [parseIntB_plain 64 c r (by omega) (by omega), ← hd, hp]
      have ht : tooBig l = decide (9223372036854775807 < foldV 0 l) := by
        rw [hd, tooBig, if_neg (by intro e; rw [e] at hcd; exact absurd hcd.1 (by decide)), ← hd, over_0 hN]
      rw [ht]
      refine ⟨fun hb => ?_, fun hb => ?_⟩
      · have hb' := of_decide_eq_false hb
        rw [if_pos (by omega)]
        refine ⟨((foldV 0 l : Nat) : Int), ?_, ?_, by omega, by omega⟩
        · show (if 2 ^ (64 - 1) ≤ foldV 0 l then NumEnd.range else .ok ((foldV 0 l : Nat) : Int)) = _
          rw [if_neg (by omega)]
        · rw [itoa_nonneg, hde]
      · have hb' := of_decide_eq_true hb
        by_cases g : foldV 0 l ≤ 18446744073709551615
        · rw [if_pos g]
          show (if 2 ^ (64 - 1) ≤ foldV 0 l then NumEnd.range else .ok ((foldV 0 l : Nat) : Int)) = _
          rw [if_pos (by omega)]
        · rw [if_neg g]; rfl
end Go.Proofs.YtcjajchfjoffnaaGreatDoor
