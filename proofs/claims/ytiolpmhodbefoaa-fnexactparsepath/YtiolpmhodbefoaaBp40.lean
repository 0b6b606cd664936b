import Derived.Test.YtiolpmhodbefoaaBp28
import Derived.Test.YtiolpmhodbefoaaBp29
namespace Go.Proofs.Ytiolpmhodbefoaa
open Go.RowKit

/-- What a reader of the program answers. -/
def Rd {α : Type} (rb : Nat) (s : ByteArray) (i : Nat) (d : Int) (w : World) (R : Option (α × Bs)) (V : α → Ending → World → Prop) (e : Ending) (w' : World) : Prop :=
  KB rb w w' ∧ (R = none → e = mis) ∧ ∀ x t, R = some (x, t) → ∃ j, t = dr s j ∧ i ≤ j ∧ j ≤ s.size ∧ PRd rb s j d w' ∧ V x e w'
theorem dr_back {s : ByteArray} {i : Nat} {g t : Bs} (h : dr s i = g ++ t) (hi : i ≤ s.size) : dr s (i + g.length) = t ∧ i + g.length ≤ s.size ∧ s.size - t.length = i + g.length := by
  have hl : g.length + t.length = s.size - i := by have := dr_len s i; rw [h, List.length_append] at this; exact this
  exact ⟨by rw [← dr_dr, h]; simp, by omega, by omega⟩
theorem rQuoted (rb : Nat) (s : ByteArray) (i : Nat) (d : Int) (w : World) (h : PRd rb s i d w) (hs : s.size ≤ 1048576) (hi : i ≤ s.size) :
    Calls Try.prog 90 #[.pointer (some ⟨rb, 0, none⟩)] w (Rd rb s i d w (pStr (dr s i)) fun x e _ => e = .returned (.string (bsT x))) := by
  refine (readQuoted_walk rb s i d w h hs hi).mono ?_
  rintro e w' ⟨hk, hr⟩
  unfold strP at hr
  cases hp : pStr (dr s i) with
  | none => rw [hp] at hr; exact ⟨hk, fun _ => hr, fun x t h => by cases h⟩
  | some q =>
    rw [hp] at hr
    obtain ⟨g, hg, -⟩ := pStr_some (v := q.1) (t := q.2) (by rw [hp])
    obtain ⟨h1, h2, h3⟩ := dr_back hg hi
    refine ⟨hk, fun h => (by cases h), fun x t h => ?_⟩
    injection h with h
    subst h
    obtain ⟨h4, h5, -⟩ := hr
    have h5' : PRd rb s (s.size - t.length) d w' := h5
    rw [h3] at h5'
    exact ⟨_, h1.symm, by omega, h2, h5', h4⟩
theorem rName (rb : Nat) (s : ByteArray) (i : Nat) (d : Int) (w : World) (h : PRd rb s i d w) (hs : s.size ≤ 1048576) (hi : i ≤ s.size) :
    Calls Try.prog 61 #[.pointer (some ⟨rb, 0, none⟩)] w (Rd rb s i d w (pName (dr s i)) fun x e _ => e = .returned (.string (bsT x))) := by
  refine (readName_walk rb s i d w h hs hi).mono ?_
  rintro e w' ⟨hk, ⟨hn, rfl⟩ | ⟨x, t, hp, rfl, hr⟩⟩
  · exact ⟨hk, fun _ => rfl, fun x t h => by rw [hn] at h; cases h⟩
  · obtain ⟨h1, h2, -⟩ := dr_back (pName_some hp).1 hi
    refine ⟨hk, fun h => (by rw [hp] at h; cases h), fun y u h => ?_⟩
    rw [hp] at h
    injection h with h
    injection h with h3 h4
    subst h3; subst h4
    exact ⟨_, h1.symm, by omega, h2, hr, rfl⟩
theorem rInt (rb : Nat) (s : ByteArray) (i : Nat) (d : Int) (w : World) (h : PRd rb s i d w) (hs : s.size ≤ 1048576) (hi : i ≤ s.size) :
    Calls Try.prog 114 #[.pointer (some ⟨rb, 0, none⟩)] w (Rd rb s i d w (pInt (dr s i)) fun x e _ => e = .returned (.int .i64 x)) := by
  refine (readInt_walk rb s i d w h hs hi).mono ?_
  rintro e w' ⟨hk, ⟨hn, rfl⟩ | ⟨n, j, hp, rfl, h1, h2, hr⟩⟩
  · exact ⟨hk, fun _ => rfl, fun x t h => by rw [hn] at h; cases h⟩
  · refine ⟨hk, fun h => (by rw [hp] at h; cases h), fun y u h => ?_⟩
    rw [hp] at h
    injection h with h
    injection h with h3 h4
    subst h3; subst h4
    exact ⟨j, rfl, h1, h2, hr, rfl⟩
/-- A word under way. -/
def WUp (s : ByteArray) (R : Option Bs) (t : Bs) (k j : Nat) : Prop := R = pWd (t.drop k) (dr s j)
set_option maxHeartbeats 2000000 in
set_option maxRecDepth 100000 in
theorem rWord (rb : Nat) (s t : ByteArray) (i : Nat) (d : Int) (w : World) (h : PRd rb s i d w) (hs : s.size ≤ 1048576) (hi : i ≤ s.size) (ht : t.size ≤ 10) :
    Calls Try.prog 121 #[.pointer (some ⟨rb, 0, none⟩), .string t] w (Rd rb s i d w ((pWd t.data.toList (dr s i)).map fun u => ((), u)) fun _ e _ => e = .returned (.tuple #[])) := by
  have HE : Hid (∀ (j k : Nat) (hk : k < t.size) (w : World), j < s.size → bt s j = t[k].toNat → PRd rb s j d w → Calls Try.prog 42 #[.pointer (some ⟨rb, 0, none⟩), .int .u8 (t[k].toNat : Int)] w fun e w' => e = .returned (.tuple #[]) ∧ PRd rb s (j + 1) d w' ∧ KB rb w w') := fun j k hk w hj hb hr => pexpect_yes rb s j d w hr hs _ hb hj
  have HN : Hid (∀ (j k : Nat) (hk : k < t.size) (w : World), j ≤ s.size → (bt s j ≠ t[k].toNat ∨ j = s.size) → PRd rb s j d w → Calls Try.prog 42 #[.pointer (some ⟨rb, 0, none⟩), .int .u8 (t[k].toNat : Int)] w fun e w' => e = mis ∧ KB rb w w') := fun j k hk w hj hb hr => pexpect_no rb s j d w hr hs hj _ hb
  have HU : Hid (WUp s (pWd t.data.toList (dr s i)) t.data.toList 0 i) := rfl
  have H0 := hide h
  generalize pWd t.data.toList (dr s i) = R at *
  clear h
  go_enter Try.func121, Try.ntmps121
  go_wp2_with fail
  go_loopg [7] (t.size - 0) (fun g kv wr => ∃ k : Nat, g = t.size - k ∧ kv = .int .i64 (k : Int) ∧ k ≤ t.size ∧ i + k ≤ s.size ∧ Hid (WUp s R t.data.toList k (i + k)) ∧ Hid (PRd rb s (i + k) d wr) ∧ Hid (KB rb w wr))
  case atStart => exact ⟨0, rfl, rfl, Nat.zero_le _, hi, HU, H0, KB.refl _ _⟩
  case round =>
    obtain ⟨k, hg, rfl, hk, hik, hu, hr, hkb⟩ := hrel
    clear HU H0
    by_cases hlt : k < t.size
    · have hltI : (k : Int) < (t.size : Int) := by omega
      have k0 : (0 : Int) ≤ (k : Int) := by omega
      have hdt : t.data.toList.drop k = t[k] :: t.data.toList.drop (k + 1) := dr_at hlt
      by_cases hb : i + k < s.size ∧ bt s (i + k) = t[k].toNat
      · have HC := hide (unhide HE (i + k) k hlt wr hb.1 hb.2 (unhide hr))
        have HU2 : Hid (WUp s R t.data.toList (k + 1) (i + (k + 1))) := by
          show R = _
          have h1 : R = pWd (t.data.toList.drop k) (dr s (i + k)) := unhide hu
          have hcc : s[i + k]'hb.1 = t[k] := by have h2 := hb.2; rw [bt_at s (i + k) hb.1] at h2; exact UInt8.toNat_inj.1 h2
          rw [h1, hdt, dr_at hb.1, hcc]
          unfold pWd
          simp only [List.isPrefixOf, beq_self_eq_true, Bool.true_and, List.length_cons, List.drop_succ_cons]
          rw [show i + (k + 1) = i + k + 1 by omega]
        have hb1 := hb.1
        clear hb hdt HE HN hu
        go_wp2_with fail
        refine (unhide HC).mono ?_
        rintro e w2 ⟨rfl, r2, k2⟩
        have HR2 := hide r2
        have HK2 := hide ((unhide hkb).trans k2)
        clear HC r2 k2 hr hkb
        go_wp2
        go_roundg (t.size - (k + 1))
        case rel => exact ⟨k + 1, rfl, by go_num, by omega, by omega, HU2, HR2, HK2⟩
        case measure => omega
      · have HC := hide (unhide HN (i + k) k hlt wr hik (by
          by_cases h1 : i + k < s.size
          · left; exact fun h2 => hb ⟨h1, h2⟩
          · right; omega) (unhide hr))
        have HF : Hid (R = none) := by
          show R = _
          have h1 : R = pWd (t.data.toList.drop k) (dr s (i + k)) := unhide hu
          rw [h1, hdt]
          unfold pWd
          rw [if_neg]
          intro hp
          by_cases h2 : i + k < s.size
          · rw [dr_at h2] at hp
            simp only [List.isPrefixOf, Bool.and_eq_true, beq_iff_eq] at hp
            exact hb ⟨h2, by rw [bt_at s (i + k) h2, hp.1]⟩
          · rw [dr_end (by omega)] at hp; cases hp
        clear hb hdt HE HN hu
        go_wp2_with fail
        refine (unhide HC).mono ?_
        rintro e w2 ⟨rfl, k2⟩
        exact ⟨rfl, (unhide hkb).trans k2, fun _ => rfl, fun x u h => by rw [unhide HF] at h; cases h⟩
    · obtain rfl : k = t.size := by omega
      have hltI : ¬ ((t.size : Nat) : Int) < ((t.size : Nat) : Int) := by omega
      have HF : Hid (R = some (dr s (i + t.size))) := by
        show R = _
        have h1 : R = pWd (t.data.toList.drop t.size) (dr s (i + t.size)) := unhide hu
        rw [h1, List.drop_of_length_le (by rw [data_len]; exact Nat.le_refl _)]
        rfl
      clear hu HE HN
      go_wp2
      try simp only [Exit.inBlock, Exit.then]
      go_returns
      refine ⟨unhide hkb, fun h => (by rw [unhide HF] at h; cases h), fun x u h => ?_⟩
      rw [unhide HF] at h
      injection h with h
      injection h with _ h
      subst h
      exact ⟨_, rfl, by omega, hik, unhide hr, rfl⟩
/-- What a step is, as a value. -/
def stV (x : PStep) (e : Ending) : Prop := e = .returned (.agg #[.bool x.byI, .string x.name, .int .i64 x.idx])
set_option maxHeartbeats 2000000 in
set_option maxRecDepth 100000 in
theorem rStep (rb : Nat) (s : ByteArray) (i : Nat) (d : Int) (w : World) (h : PRd rb s i d w) (hs : s.size ≤ 1048576) (hi : i ≤ s.size) :
    Calls Try.prog 124 #[.pointer (some ⟨rb, 0, none⟩)] w (Rd rb s i d w (pIn (dr s i)) fun x e _ => stV x e) := by
  have hlt := h.lt
  have hal := al_b w (.cells #[.bool false, .string ⟨#[]⟩, .int .i64 0] 94)
  have hK := heap_alloc_new w (.cells #[.bool false, .string ⟨#[]⟩, .int .i64 0] 94)
  have HP := hide (ppeek rb s i d _ (h.below hal) hi)
  have HQ := hide (fun w h => rQuoted rb s i d w h hs hi)
  have HI := hide (fun w h => rInt rb s i d w h hs hi)
  have hKB : KB rb w (w.alloc (.cells #[.bool false, .string ⟨#[]⟩, .int .i64 0] 94)) := KB.of_below hal
  have HKB := hide hKB
  have HK := hide hK
  have hz : w.heap.size < (w.alloc (.cells #[.bool false, .string ⟨#[]⟩, .int .i64 0] 94)).heap.size := by simp
  have HZ := hide hz
  clear h hal hK hKB hz
  by_cases h39 : bt s i = 39
  · have b39 : ((bt s i : Int) == 39) = true := by rw [h39]; rfl
    have HV : Hid (pIn (dr s i) = (pStr (dr s i)).map fun p => (stName p.1, p.2)) := by
      show _ = _
      have hlt' : i < s.size := bt_in (by rw [h39]; decide)
      have hc : s[i] = 39 := by have h := h39; rw [bt_at s i hlt'] at h; exact UInt8.toNat_inj.1 h
      rw [dr_at hlt', pIn_con, if_pos hc]
    clear h39 HI
    go_enter Try.func124, Try.ntmps124
    go_wp2_with fail
    generalize (w.alloc (.cells #[.bool false, .string ⟨#[]⟩, .int .i64 0] 94)) = wA at *
    refine (unhide HP).mono ?_
    rintro e w1 ⟨rfl, r1, k1⟩
    have HC := hide (unhide HQ w1 r1)
    have HK1 := hide ((k1.block w.heap.size (unhide HZ) (by omega)).trans (unhide HK))
    have HKB1 := hide ((unhide HKB).trans k1)
    have hz1 : w.heap.size < w1.heap.size := by have := k1.size; have := unhide HZ; omega
    clear HP r1 k1 HQ
    go_wp2_with fail
    refine (unhide HC).mono ?_
    rintro e w2 ⟨k2, hno, hyes⟩
    cases hp : pStr (dr s i) with
    | none =>
      obtain rfl := hno hp
      exact ⟨rfl, (unhide HKB1).trans k2, fun _ => rfl, fun x t h => by rw [unhide HV, hp] at h; cases h⟩
    | some q =>
      obtain ⟨j, hj1, hj2, hj3, r2, rfl⟩ := hyes q.1 q.2 hp
      have K2 : w2.heap[w.heap.size]? = some (.cells #[.bool false, .string ⟨#[]⟩, .int .i64 0] 94 (0, 0)) := (k2.block w.heap.size hz1 (by omega)).trans (unhide HK1)
      have HK2 := hide K2
      have c0 : w2.cell? ⟨w.heap.size, 0, none⟩ = some (.bool false) := Lib.cell_of_heap K2 0
      have c1 : w2.cell? ⟨w.heap.size, 1, none⟩ = some (.string ⟨#[]⟩) := Lib.cell_of_heap K2 1
      have c2 : w2.cell? ⟨w.heap.size, 2, none⟩ = some (.int .i64 0) := Lib.cell_of_heap K2 2
      have f0 := Lib.frozen_of_heap K2 0
      have f1 := Lib.frozen_of_heap K2 1
      have f2 := Lib.frozen_of_heap K2 2
      have HKB2 := hide ((unhide HKB1).trans k2)
      have HR2 := hide r2
      have HV2 : Hid (pIn (dr s i) = some (stName q.1, dr s j)) := by show _ = _; rw [unhide HV, hp, ← hj1]; rfl
      clear hno hyes hp k2 K2 r2 HC hj1
      go_wp2
      refine bodyPost_ret (results_cell_row rfl _ _ w.heap.size 94 #[_, _, _] (0, 0) _ rfl (putN_full (unhide HK2) [_, _, _] rfl) Try.underlying94 rfl (by kernel_rfl)) rfl ?_
      refine ⟨kb_below (unhide HKB2) (putN_below (Below.refl _ _) (Nat.le_refl _) [_, _, _] 0), fun h => (by rw [unhide HV2] at h; cases h), fun x t h => ?_⟩
      rw [unhide HV2] at h
      injection h with h
      injection h with h1 h2
      subst h1; subst h2
      exact ⟨j, rfl, hj2, hj3, (putN_other (by omega) [_, _, _] 0).trans (unhide HR2), rfl⟩
  · have b39 : ((bt s i : Int) == 39) = false := by rw [beq_eq_false_iff_ne]; omega
    have HV : Hid (pIn (dr s i) = (pInt (dr s i)).map fun p => (stIdx p.1, p.2)) := by
      show _ = _
      cases hd : dr s i with
      | nil => rfl
      | cons c r =>
        have hlt' : i < s.size := by
          apply Classical.byContradiction
          intro hn
          rw [dr_end (by omega)] at hd; cases hd
        rw [dr_at hlt'] at hd
        injection hd with hd _
        rw [pIn_con, if_neg (fun e => h39 (by rw [bt_at s i hlt', hd, e]; rfl))]
    clear h39 HQ
    go_enter Try.func124, Try.ntmps124
    go_wp2_with fail
    generalize (w.alloc (.cells #[.bool false, .string ⟨#[]⟩, .int .i64 0] 94)) = wA at *
    refine (unhide HP).mono ?_
    rintro e w1 ⟨rfl, r1, k1⟩
    have HC := hide (unhide HI w1 r1)
    have HK1 := hide ((k1.block w.heap.size (unhide HZ) (by omega)).trans (unhide HK))
    have HKB1 := hide ((unhide HKB).trans k1)
    have hz1 : w.heap.size < w1.heap.size := by have := k1.size; have := unhide HZ; omega
    clear HP r1 k1 HI
    go_wp2_with fail
    refine (unhide HC).mono ?_
    rintro e w2 ⟨k2, hno, hyes⟩
    cases hp : pInt (dr s i) with
    | none =>
      obtain rfl := hno hp
      exact ⟨rfl, (unhide HKB1).trans k2, fun _ => rfl, fun x t h => by rw [unhide HV, hp] at h; cases h⟩
    | some q =>
      obtain ⟨j, hj1, hj2, hj3, r2, rfl⟩ := hyes q.1 q.2 hp
      have K2 : w2.heap[w.heap.size]? = some (.cells #[.bool false, .string ⟨#[]⟩, .int .i64 0] 94 (0, 0)) := (k2.block w.heap.size hz1 (by omega)).trans (unhide HK1)
      have HK2 := hide K2
      have c0 : w2.cell? ⟨w.heap.size, 0, none⟩ = some (.bool false) := Lib.cell_of_heap K2 0
      have c1 : w2.cell? ⟨w.heap.size, 1, none⟩ = some (.string ⟨#[]⟩) := Lib.cell_of_heap K2 1
      have c2 : w2.cell? ⟨w.heap.size, 2, none⟩ = some (.int .i64 0) := Lib.cell_of_heap K2 2
      have f0 := Lib.frozen_of_heap K2 0
      have f1 := Lib.frozen_of_heap K2 1
      have f2 := Lib.frozen_of_heap K2 2
      have HKB2 := hide ((unhide HKB1).trans k2)
      have HR2 := hide r2
      have HV2 : Hid (pIn (dr s i) = some (stIdx q.1, dr s j)) := by show _ = _; rw [unhide HV, hp, ← hj1]; rfl
      clear hno hyes hp k2 K2 r2 HC hj1
      go_wp2
      refine bodyPost_ret (results_cell_row rfl _ _ w.heap.size 94 #[_, _, _] (0, 0) _ rfl (putN_full (unhide HK2) [_, _, _] rfl) Try.underlying94 rfl (by kernel_rfl)) rfl ?_
      refine ⟨kb_below (unhide HKB2) (putN_below (Below.refl _ _) (Nat.le_refl _) [_, _, _] 0), fun h => (by rw [unhide HV2] at h; cases h), fun x t h => ?_⟩
      rw [unhide HV2] at h
      injection h with h
      injection h with h1 h2
      subst h1; subst h2
      exact ⟨j, rfl, hj2, hj3, (putN_other (by omega) [_, _, _] 0).trans (unhide HR2), rfl⟩
end Go.Proofs.Ytiolpmhodbefoaa

