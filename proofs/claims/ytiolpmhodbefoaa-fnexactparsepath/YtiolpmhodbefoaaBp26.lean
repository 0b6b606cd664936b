import Derived.Test.YtiolpmhodbefoaaBp19
import Derived.Test.YtiolpmhodbefoaaBp9
import Derived.Test.YtiolpmhodbefoaaBp10
import Derived.Deep.LoopGhost
namespace Go.Proofs.Ytiolpmhodbefoaa
open Go.RowKit

set_option maxHeartbeats 800000 in
theorem ppeek (rb : Nat) (s : ByteArray) (i : Nat) (d : Int) (w : World) (h : PRd rb s i d w) (hi : i ≤ s.size) :
    Calls Try.prog 77 #[.pointer (some ⟨rb, 0, none⟩)] w fun e w' => e = .returned (.int .u8 (bt s i)) ∧ PRd rb s i d w' ∧ KB rb w w' := by
  have c0 := h.text
  have c1 := h.at
  have H := hide h
  clear h
  by_cases hi' : i = s.size
  · have hne : ((i : Int) == (s.size : Int)) = true := by rw [beq_iff_eq]; omega
    have HB := hide (bt_out s i (by omega))
    go_enter Try.func77, Try.ntmps77
    go_wp2_with fail
    go_quiet (fail)
    go_wp2
    go_ret
    exact ⟨by rw [unhide HB]; rfl, (unhide H).drewN _, (KB.refl rb w).drewN _⟩
  · have h0 : i < s.size := by omega
    have hne : ((i : Int) == (s.size : Int)) = false := by rw [beq_eq_false_iff_ne]; omega
    have HB := hide (bt_at s i h0)
    go_enter Try.func77, Try.ntmps77
    go_wp2_with fail
    go_quiet (fail)
    go_wp2_with fail
    go_quiet (fail)
    go_wp2
    go_ret
    exact ⟨by rw [unhide HB]; rfl, ((unhide H).drewN _).drewN _, ((KB.refl rb w).drewN _).drewN _⟩
set_option maxHeartbeats 800000 in
theorem digN_walk (b : Nat) (w : World) : Calls Try.prog 78 #[.int .u8 b] w fun e w' => e = .returned (.bool (isDg b)) ∧ w = w' := by
  by_cases h : 48 ≤ b
  · have HD : Hid (isDg b = decide ((b : Int) ≤ 57)) := by
      show _ = _
      unfold isDg
      rw [decide_eq_true h, Bool.true_and]
      apply decide_eq_decide.2; omega
    have h1 : (48 : Int) ≤ (b : Int) := by omega
    go_enter Try.func78, Try.ntmps78
    go_wp2
    go_ret
    exact ⟨by rw [unhide HD]; rfl, rfl⟩
  · have HD : Hid (isDg b = false) := by
      show _ = _
      unfold isDg
      rw [decide_eq_false h, Bool.false_and]
    have h1 : ¬ (48 : Int) ≤ (b : Int) := by omega
    go_enter Try.func78, Try.ntmps78
    go_wp2
    go_ret
    exact ⟨by rw [unhide HD]; rfl, rfl⟩
/-- A byte of a name, by its number. -/
def nmB (n : Nat) : Bool := decide (n = 95) || isDg n || (decide (97 ≤ n) && decide (n ≤ 122)) || (decide (65 ≤ n) && decide (n ≤ 90))
theorem nmB_is (c : UInt8) : nmB c.toNat = isNm c := by
  unfold nmB isNm isLet
  cases decide (c.toNat = 95) <;> cases isDg c.toNat <;> cases (decide (97 ≤ c.toNat) && decide (c.toNat ≤ 122)) <;> cases (decide (65 ≤ c.toNat) && decide (c.toNat ≤ 90)) <;> rfl
set_option maxHeartbeats 1600000 in
theorem nameByte_walk (n : Nat) (w : World) : Calls Try.prog 76 #[.int .u8 n] w fun e w' => e = .returned (.bool (nmB n)) ∧ w = w' := by
  have HDW := hide (digN_walk n w)
  have HV : Hid (nmB n = (decide (n = 95) || isDg n || (decide (97 ≤ n) && decide (n ≤ 122)) || (decide (65 ≤ n) && decide (n ≤ 90)))) := rfl
  by_cases h95 : n = 95
  · subst h95
    clear HDW
    go_enter Try.func76, Try.ntmps76
    go_wp2
    go_ret
    exact ⟨by rw [unhide HV]; rfl, rfl⟩
  · have b95 : ((n : Int) == 95) = false := by rw [beq_eq_false_iff_ne]; omega
    rw [decide_eq_false h95, Bool.false_or] at HV
    cases hg : isDg n with
    | true =>
      rw [hg] at HDW HV
      clear hg
      go_enter Try.func76, Try.ntmps76
      go_wp2_with fail
      refine (unhide HDW).mono ?_
      rintro e w2 ⟨rfl, rfl⟩
      clear HDW
      go_wp2
      go_ret
      exact ⟨by rw [unhide HV]; rfl, rfl⟩
    | false =>
      rw [hg, Bool.false_or] at HV
      rw [hg] at HDW
      clear hg
      generalize nmB n = V at *
      by_cases h1 : 97 ≤ n
      · have i1 : (97 : Int) ≤ (n : Int) := by omega
        by_cases h2 : n ≤ 122
        · have i2 : (n : Int) ≤ 122 := by omega
          go_enter Try.func76, Try.ntmps76
          go_wp2_with fail
          refine (unhide HDW).mono ?_
          rintro e w2 ⟨rfl, rfl⟩
          clear HDW
          go_wp2
          go_ret
          exact ⟨by rw [unhide HV]; simp [h1, h2], rfl⟩
        · have i2 : ¬ (n : Int) ≤ 122 := by omega
          have i3 : (65 : Int) ≤ (n : Int) := by omega
          have i4 : ¬ (n : Int) ≤ 90 := by omega
          go_enter Try.func76, Try.ntmps76
          go_wp2_with fail
          refine (unhide HDW).mono ?_
          rintro e w2 ⟨rfl, rfl⟩
          clear HDW
          go_wp2
          go_ret
          exact ⟨by rw [unhide HV]; simp [h2, show ¬ n ≤ 90 by omega, i2, i4], rfl⟩
      · have i1 : ¬ (97 : Int) ≤ (n : Int) := by omega
        by_cases h3 : 65 ≤ n
        · have i3 : (65 : Int) ≤ (n : Int) := by omega
          by_cases h4 : n ≤ 90
          · have i4 : (n : Int) ≤ 90 := by omega
            go_enter Try.func76, Try.ntmps76
            go_wp2_with fail
            refine (unhide HDW).mono ?_
            rintro e w2 ⟨rfl, rfl⟩
            clear HDW
            go_wp2
            go_ret
            exact ⟨by rw [unhide HV]; simp [h3, h4], rfl⟩
          · have i4 : ¬ (n : Int) ≤ 90 := by omega
            go_enter Try.func76, Try.ntmps76
            go_wp2_with fail
            refine (unhide HDW).mono ?_
            rintro e w2 ⟨rfl, rfl⟩
            clear HDW
            go_wp2
            go_ret
            exact ⟨by rw [unhide HV]; simp [h1, h4, i4], rfl⟩
        · have i3 : ¬ (65 : Int) ≤ (n : Int) := by omega
          go_enter Try.func76, Try.ntmps76
          go_wp2_with fail
          refine (unhide HDW).mono ?_
          rintro e w2 ⟨rfl, rfl⟩
          clear HDW
          go_wp2
          go_ret
          exact ⟨by rw [unhide HV]; simp [h1, h3], rfl⟩
end Go.Proofs.Ytiolpmhodbefoaa


namespace Go.Proofs.Ytiolpmhodbefoaa
open Go.RowKit

/-- A name that was read up to a place. -/
structure NmRun (s : ByteArray) (i j : Nat) : Prop where
  le : i ≤ j
  sz : j ≤ s.size
  run : ∀ m (hm : m < s.size), i ≤ m → m < j → isNm s[m] = true
  fst : i < j → ∀ h : i < s.size, isLet s[i] = true
theorem dr_get {s : ByteArray} {i m : Nat} (hm : m < (dr s i).length) (h : i + m < s.size) : (dr s i)[m] = s[i + m] := by
  have e : (dr s i)[m]? = some s[i + m] := by
    unfold dr
    rw [List.getElem?_drop, getElem_data s (i + m) h]
  rw [List.getElem?_eq_getElem hm] at e
  injection e
theorem nm_none {s : ByteArray} {i : Nat} (h : ∀ hi : i < s.size, isLet s[i] = false) : pName (dr s i) = none := by
  by_cases hi : i < s.size
  · rw [dr_at hi]
    show (if isLet s[i] = true then _ else none) = none
    rw [if_neg (by rw [h hi]; decide)]
  · rw [dr_end (by omega)]; rfl
theorem NmRun.fin {s : ByteArray} {i j : Nat} (h : NmRun s i j) (hij : i < j) (hstop : ∀ hj : j < s.size, isNm s[j] = false) : pName (dr s i) = some ((dr s i).take (j - i), dr s j) := by
  have hsz := h.sz
  have e : dr s i = (dr s i).take (j - i) ++ dr s j := by
    conv => lhs; rw [← List.take_append_drop (j - i) (dr s i)]
    congr 1
    unfold dr
    rw [List.drop_drop, show i + (j - i) = j by omega]
  have hN : sName ((dr s i).take (j - i)) = true := by
    have h0 : i < s.size := by omega
    obtain ⟨q, hq⟩ : ∃ q, j - i = q + 1 := ⟨j - i - 1, by omega⟩
    have e1 : (dr s i).take (j - i) = s[i] :: (dr s (i + 1)).take q := by rw [hq, dr_at h0]; rfl
    rw [e1]
    show (isLet s[i] && ((dr s (i + 1)).take q).all isNm) = true
    rw [h.fst hij h0, Bool.true_and, List.all_eq_true]
    intro c hc
    obtain ⟨m, hm, rfl⟩ := List.mem_iff_getElem.1 hc
    rw [List.length_take, dr_len] at hm
    rw [List.getElem_take, dr_get (by rw [dr_len]; omega) (by omega)]
    exact h.run _ _ (by omega) (by omega)
  have hE : NoNm (dr s j) := by
    intro c r hcr
    by_cases hj : j < s.size
    · rw [dr_at hj] at hcr
      injection hcr with h1 _
      rw [← h1]; exact hstop hj
    · rw [dr_end (by omega)] at hcr; cases hcr
  have := pName_ext hN hE
  rw [← e] at this
  exact this
theorem let_nm {c : UInt8} (h : isNm c = true) (hd : isDg c.toNat = false) : isLet c = true := by
  unfold isNm at h
  rw [hd, Bool.or_false] at h; exact h
theorem dg_let {c : UInt8} (h : isDg c.toNat = true) : isLet c = false := by
  have := isDg_iff.1 h
  unfold isLet
  simp only [Bool.or_eq_false_iff, Bool.and_eq_false_iff, decide_eq_false_iff_not]
  omega
theorem NmRun.step {s : ByteArray} {i j : Nat} (h : NmRun s i j) (hj : j < s.size) (hn : isNm s[j] = true) (hf : i < j ∨ isDg s[j].toNat = false) : NmRun s i (j + 1) := by
  refine ⟨by have := h.le; omega, by omega, fun m hm h1 h2 => ?_, fun _ hi => ?_⟩
  · by_cases e : m = j
    · subst e; exact hn
    · exact h.run m hm h1 (by omega)
  · by_cases e : i = j
    · subst e
      rcases hf with hf | hf
      · omega
      · exact let_nm hn hf
    · exact h.fst (by have := h.le; omega) hi
end Go.Proofs.Ytiolpmhodbefoaa


namespace Go.Proofs.Ytiolpmhodbefoaa
open Go.RowKit

set_option maxRecDepth 100000 in
set_option maxHeartbeats 3200000 in
theorem readName_walk (rb : Nat) (s : ByteArray) (i : Nat) (d : Int) (w : World) (h : PRd rb s i d w) (hs : s.size ≤ 1048576) (hi : i ≤ s.size) :
    Calls Try.prog 61 #[.pointer (some ⟨rb, 0, none⟩)] w fun e w' => KB rb w w' ∧ ((pName (dr s i) = none ∧ e = mis) ∨ ∃ x t, pName (dr s i) = some (x, t) ∧ e = .returned (.string (bsT x)) ∧ PRd rb s (i + x.length) d w') := by
  have R0 := hide h
  have c1 := h.at
  have HP : Hid (∀ j w, j ≤ s.size → PRd rb s j d w → Calls Try.prog 77 #[.pointer (some ⟨rb, 0, none⟩)] w fun e w' => e = .returned (.int .u8 (bt s j)) ∧ PRd rb s j d w' ∧ KB rb w w') := fun j w hj hr => ppeek rb s j d w hr hj
  clear h
  go_enter Try.func61, Try.ntmps61
  go_wp2
  go_loopg [] (s.size - i) (fun g wr => ∃ j : Nat, g = s.size - j ∧ Hid (NmRun s i j) ∧ Hid (PRd rb s j d wr) ∧ KB rb w wr)
  case atStart => exact ⟨i, rfl, ⟨Nat.le_refl _, hi, fun m hm h1 h2 => by omega, fun h => by omega⟩, R0, KB.refl _ _⟩
  case round =>
    obtain ⟨j, hg, hrun, hr, hk⟩ := hrel
    have hle := (unhide hrun).le
    have hsz := (unhide hrun).sz
    have HK := hide hk
    have HPj := hide (unhide HP j wr hsz (unhide hr))
    have HNB : Hid (∀ w, Calls Try.prog 76 #[.int .u8 (bt s j)] w fun e w' => e = .returned (.bool (nmB (bt s j))) ∧ w = w') := fun w => nameByte_walk _ w
    have HDB : Hid (∀ w, Calls Try.prog 78 #[.int .u8 (bt s j)] w fun e w' => e = .returned (.bool (isDg (bt s j))) ∧ w = w') := fun w => digN_walk _ w
    have hbt : ∀ hj : j < s.size, bt s j = s[j].toNat := fun hj => bt_at s j hj
    have HBT := hide hbt
    clear R0 c1 hk hbt
    cases hnm : nmB (bt s j) with
    | true =>
      rw [hnm] at HNB
      have hlt : j < s.size := bt_in (by intro e; rw [e] at hnm; exact absurd hnm (by decide))
      have hn : isNm s[j] = true := by rw [← nmB_is, ← unhide HBT hlt]; exact hnm
      go_wp2_with fail
      refine (unhide HPj).mono ?_
      rintro e w2 ⟨rfl, r2, k2⟩
      have cA := r2.at
      have fA := r2.frozen
      have R2 := hide r2
      have HK2 := hide ((unhide HK).trans k2)
      clear r2 k2 HPj hr HK
      go_wp2_with fail
      refine (unhide HNB _).mono ?_
      rintro e w3 ⟨rfl, rfl⟩
      clear HNB
      by_cases hij : i < j
      · have i1 : (i : Int) < (j : Int) := by omega
        have HS := hide ((unhide hrun).step hlt hn (.inl hij))
        clear hnm hn HBT HP HDB hrun
        go_wp2
        go_roundg (s.size - (j + 1))
        case rel => exact ⟨j + 1, rfl, HS, (unhide R2).set _ _ (by omega), (unhide HK2).set 1 _⟩
        case measure => omega
      · obtain rfl : i = j := by omega
        have HP2 := hide (unhide HP i w2 hsz (unhide R2))
        clear hnm HP fA cA
        cases hdg : isDg (bt s i) with
        | true =>
          rw [hdg] at HDB
          have HF := hide (nm_none (s := s) (i := i) fun hj => dg_let (by rw [← unhide HBT hj]; exact hdg))
          clear hdg hn HBT hrun
          have cB := (unhide R2).at
          go_wp2_with fail
          refine (unhide HP2).mono ?_
          rintro e w3 ⟨rfl, r3, k3⟩
          have cC := r3.at
          have HK3 := hide ((unhide HK2).trans k3)
          clear r3 k3 HP2 cB
          go_wp2_with fail
          refine (unhide HDB _).mono ?_
          rintro e w4 ⟨rfl, rfl⟩
          clear HDB
          go_wp2
          exact ⟨rfl, (unhide HK3), .inl ⟨unhide HF, rfl⟩⟩
        | false =>
          rw [hdg] at HDB
          have HS := hide ((unhide hrun).step hlt hn (.inr (by rw [← unhide HBT hlt]; exact hdg)))
          clear hdg hn HBT hrun
          have cB := (unhide R2).at
          go_wp2_with fail
          refine (unhide HP2).mono ?_
          rintro e w3 ⟨rfl, r3, k3⟩
          have cC := r3.at
          have fC := r3.frozen
          have R3 := hide r3
          have HK3 := hide ((unhide HK2).trans k3)
          clear r3 k3 HP2 cB
          go_wp2_with fail
          refine (unhide HDB _).mono ?_
          rintro e w4 ⟨rfl, rfl⟩
          clear HDB
          go_wp2
          go_roundg (s.size - (i + 1))
          case rel => exact ⟨i + 1, rfl, HS, (unhide R3).set _ _ (by omega), (unhide HK3).set 1 _⟩
          case measure => omega
    | false =>
      rw [hnm] at HNB
      have hstop : ∀ hj : j < s.size, isNm s[j] = false := fun hj => by rw [← nmB_is, ← unhide HBT hj]; exact hnm
      go_wp2_with fail
      refine (unhide HPj).mono ?_
      rintro e w2 ⟨rfl, r2, k2⟩
      have cA := r2.at
      have cT := r2.text
      have R2 := hide r2
      have HK2 := hide ((unhide HK).trans k2)
      clear r2 k2 HPj hr HK
      go_wp2_with fail
      refine (unhide HNB _).mono ?_
      rintro e w3 ⟨rfl, rfl⟩
      clear HNB HDB
      by_cases hij : i < j
      · have HF := hide ((unhide hrun).fin hij hstop)
        have b1 : ((j : Int) == (i : Int)) = false := by rw [beq_eq_false_iff_ne]; omega
        have i1 : (i : Int) ≤ (j : Int) := by omega
        have i2 : (j : Int) ≤ (s.size : Int) := by omega
        have i3 : (0 : Int) ≤ (i : Int) := by omega
        have HX : Hid (s.extract i j = bsT ((dr s i).take (j - i))) := by show _ = _; unfold bsT dr; rw [← Lib.extract_data]
        have hlen : ((dr s i).take (j - i)).length = j - i := by rw [List.length_take, dr_len]; omega
        clear hstop hnm HBT HP
        go_wp2
        go_quiet (fail)
        go_wp2
        go_ret
        refine ⟨(unhide HK2).drewN _, .inr ⟨_, _, unhide HF, by rw [← unhide HX]; rfl, ?_⟩⟩
        rw [hlen, show i + (j - i) = j by omega]
        exact (unhide R2).drewN _
      · obtain rfl : i = j := by omega
        have HF := hide (nm_none (s := s) (i := i) fun hj => by
          have := hstop hj
          unfold isNm at this
          rw [Bool.or_eq_false_iff] at this
          exact this.1)
        have b1 : ((i : Int) == (i : Int)) = true := by simp
        clear hstop hnm HBT HP
        go_wp2
        exact ⟨rfl, (unhide HK2), .inl ⟨unhide HF, rfl⟩⟩
end Go.Proofs.Ytiolpmhodbefoaa


namespace Go.Proofs.Ytiolpmhodbefoaa
open Go.RowKit

theorem dr_dr' (s : ByteArray) (i j : Nat) : (dr s i).drop j = dr s (i + j) := by unfold dr; rw [List.drop_drop]
/-- Digits that were read: k of them from p on. -/
structure DgRun (s : ByteArray) (p k : Nat) : Prop where
  sz : p + k ≤ s.size
  nine : k ≤ 9
  run : ∀ m, m < k → ∀ hm : p + m < s.size, isDg s[p + m].toNat = true
theorem DgRun.step {s : ByteArray} {p k : Nat} (h : DgRun s p k) (hk : k < 9) (hj : p + k < s.size) (hd : isDg s[p + k].toNat = true) : DgRun s p (k + 1) := by
  refine ⟨by omega, by omega, fun m hm hx => ?_⟩
  by_cases e : m = k
  · subst e; exact hd
  · exact h.run m (by omega) hx
theorem DgRun.all {s : ByteArray} {p k : Nat} (h : DgRun s p k) : ((dr s p).take k).all (fun c => isDg c.toNat) = true := by
  have hsz := h.sz
  rw [List.all_eq_true]
  intro c hc
  obtain ⟨m, hm, rfl⟩ := List.mem_iff_getElem.1 hc
  rw [List.length_take, dr_len] at hm
  rw [List.getElem_take, dr_get (by rw [dr_len]; omega) (by omega)]
  exact h.run m (by omega) _
theorem DgRun.fin {s : ByteArray} {p k : Nat} (h : DgRun s p k) (h0 : 0 < k) (hz : ∀ hp : p < s.size, ¬ s[p] = 48) (hstop : k = 9 ∨ ∀ hj : p + k < s.size, isDg s[p + k].toNat = false) : pNat (dr s p) = some ((digV ((dr s p).take k) : Int), dr s (p + k)) := by
  have hsz := h.sz
  have h9 := h.nine
  have hp : p < s.size := by omega
  have e : ((dr s p).take 9).takeWhile (fun c => isDg c.toNat) = (dr s p).take k := by
    have e1 : (dr s p).take 9 = (dr s p).take k ++ (dr s (p + k)).take (9 - k) := by
      rw [← dr_dr', ← List.take_add]
      congr 1; omega
    rw [e1, tw_app h.all, tw_stop, List.append_nil]
    intro x y hxy
    rcases hstop with rfl | hstop
    · simp at hxy
    · by_cases hj : p + k < s.size
      · rw [dr_at hj] at hxy
        cases hq : 9 - k with
        | zero => rw [hq] at hxy; cases hxy
        | succ q =>
          rw [hq] at hxy
          injection hxy with h1 _
          rw [← h1]; exact hstop hj
      · rw [dr_end (by omega)] at hxy; simp at hxy
  have hlen : ((dr s p).take k).length = k := by rw [List.length_take, dr_len]; omega
  have hd : isDg s[p].toNat = true := h.run 0 h0 hp
  have e2 : pNat (dr s p) = some ((digV (((dr s p).take 9).takeWhile fun c => isDg c.toNat) : Int), (dr s p).drop (((dr s p).take 9).takeWhile fun c => isDg c.toNat).length) := by
    rw [dr_at hp]
    show (if isDg s[p].toNat = true ∧ s[p] ≠ 48 then _ else none) = _
    rw [if_pos ⟨hd, hz hp⟩]
  rw [e2, e, hlen, dr_dr']
theorem nat_none {s : ByteArray} {p : Nat} (h : ∀ hp : p < s.size, s[p] = 48 ∨ isDg s[p].toNat = false) : pNat (dr s p) = none := by
  by_cases hp : p < s.size
  · rw [dr_at hp]
    show (if isDg s[p].toNat = true ∧ s[p] ≠ 48 then _ else none) = none
    rw [if_neg]
    rintro ⟨h1, h2⟩
    rcases h hp with h3 | h3
    · exact h2 h3
    · rw [h3] at h1; cases h1
  · rw [dr_end (by omega)]; rfl
end Go.Proofs.Ytiolpmhodbefoaa

