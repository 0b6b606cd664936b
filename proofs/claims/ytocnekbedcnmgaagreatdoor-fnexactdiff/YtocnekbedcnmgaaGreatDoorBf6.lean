import Derived.Test.YtocnekbedcnmgaaGreatDoorBf4
import Derived.Test.YtocnekbedcnmgaaGreatDoorBf3
import Derived.Test.YtocnekbedcnmgaaGreatDoorBf5
namespace Go.Proofs.YtocnekbedcnmgaaGreatDoor
open Go.RowKit

theorem qB_hi {c : UInt8} (h : 128 ≤ c.toNat) : qB c = [c] := by
  unfold qB
  rw [if_neg (by omega), if_neg (by omega), if_neg (by omega), if_neg (by omega), if_neg (by omega), if_neg (by omega), if_neg (by omega)]
theorem qs_hi : ∀ {l : List UInt8}, (∀ c ∈ l, 128 ≤ c.toNat) → qs l = l
  | [], _ => rfl
  | c :: r, h => by
    have h1 := qs_hi (l := r) fun x hx => h x (List.mem_cons_of_mem _ hx)
    have h2 := qB_hi (h c List.mem_cons_self)
    show qB c ++ qs r = c :: r
    rw [h1, h2]; rfl
theorem u8_hi {x : Int} (h0 : 128 ≤ x) (h1 : x ≤ 255) : 128 ≤ (x.toNat.toUInt8).toNat := by
  have : (x.toNat.toUInt8).toNat = x.toNat % 256 := rfl
  rw [this]
  omega
theorem enc_hi {r : Nat} (h : 128 ≤ r) (h2 : r ≤ 1114111) : (∀ c ∈ enc r, 128 ≤ c.toNat) ∧ (r ≤ 2047 → (enc r).length = 2) ∧ (r ≤ 65535 → (enc r).length ≤ 3) := by
  unfold enc Lib.encodeRune
  by_cases a : r ≤ 2047
  · rw [Lib.encodeRuneZ_two (by omega) (by omega)]
    refine ⟨fun c hc => ?_, fun _ => rfl, fun _ => by simp⟩
    simp only [List.map_cons, List.map_nil, List.mem_cons, List.not_mem_nil, or_false] at hc
    rcases hc with rfl | rfl <;> exact u8_hi (by omega) (by omega)
  · by_cases b : (2048 ≤ (r : Int) ∧ (r : Int) < 55296) ∨ (57343 < (r : Int) ∧ (r : Int) ≤ 65535)
    · rw [Lib.encodeRuneZ_three b]
      refine ⟨fun c hc => ?_, fun h => absurd h a, fun _ => by simp⟩
      simp only [List.map_cons, List.map_nil, List.mem_cons, List.not_mem_nil, or_false] at hc
      rcases hc with rfl | rfl | rfl <;> exact u8_hi (by omega) (by omega)
    · by_cases d : 65536 ≤ r
      · rw [Lib.encodeRuneZ_four (by omega) (by omega)]
        refine ⟨fun c hc => ?_, fun h => absurd h a, fun h => by omega⟩
        simp only [List.map_cons, List.map_nil, List.mem_cons, List.not_mem_nil, or_false] at hc
        rcases hc with rfl | rfl | rfl | rfl <;> exact u8_hi (by omega) (by omega)
      · have e : Lib.encodeRuneZ (r : Int) = [239, 191, 189] := by
          unfold Lib.encodeRuneZ
          rw [if_neg (by omega), if_neg (by omega), if_neg b, if_neg (by omega)]
        rw [e]
        refine ⟨fun c hc => ?_, fun h => absurd h a, fun _ => by simp⟩
        simp only [List.map_cons, List.map_nil, List.mem_cons, List.not_mem_nil, or_false] at hc
        rcases hc with rfl | rfl | rfl <;> exact u8_hi (by omega) (by omega)
theorem qs_enc6 {r : Nat} (h : r ≤ 1114111) : (qs (enc r)).length ≤ 6 ∧ (65536 ≤ r → (qs (enc r)).length ≤ 12) := by
  by_cases a : r < 128
  · rw [enc_lo a]
    have := qB_le (UInt8.ofNat r)
    have e : qs [UInt8.ofNat r] = qB (UInt8.ofNat r) := by simp [qs]
    rw [e]
    omega
  · obtain ⟨h1, _, h3⟩ := enc_hi (by omega) h
    rw [qs_hi h1]
    have := enc_le r
    omega
theorem piece_sharp {s : ByteArray} {i r n : Nat} (h : piece s i = some (r, n)) (h34 : bt s i ≠ 34) : (qs (enc r)).length ≤ n := by
  have hok := piece_ok h
  unfold piece at h
  split at h
  · unfold escP at h
    split at h
    · rename_i v hv
      injection h with h; injection h with h1 h2
      subst h1; subst h2
      have hv2 : v = 34 ∨ v = 92 ∨ v = 47 ∨ v = 8 ∨ v = 12 ∨ v = 10 ∨ v = 13 ∨ v = 9 := by
        unfold smp at hv
        repeat' split at hv
        all_goals first | (injection hv with hv; omega) | cases hv
      rcases hv2 with rfl | rfl | rfl | rfl | rfl | rfl | rfl | rfl <;> decide
    · simp only [Option.bind_eq_some_iff] at h
      obtain ⟨u, hu, h⟩ := h
      have hq := (qs_enc6 hok.2.2).1
      unfold escU at h
      split at h
      · injection h with h; injection h with h1 h2; omega
      · split at h
        · cases h
        · simp only [Option.bind_eq_some_iff] at h
          obtain ⟨v, hv, h⟩ := h
          split at h
          · injection h with h; injection h with h1 h2; omega
          · cases h
  · split at h
    · cases h
    · split at h
      · rename_i h92 h32 h128
        injection h with h; injection h with h1 h2
        subst h1; subst h2
        rw [enc_lo h128]
        have e : qs [UInt8.ofNat (bt s i)] = qB (UInt8.ofNat (bt s i)) := by simp [qs]
        have et : (UInt8.ofNat (bt s i)).toNat = bt s i := by rw [UInt8.toNat_ofNat']; omega
        rw [e]
        unfold qB
        rw [et, if_neg (by omega), if_neg (by omega), if_neg (by omega), if_neg (by omega), if_neg (by omega), if_neg (by omega), if_neg (by omega)]
        simp
      · split at h
        · cases h
        · rename_i h92 h32 h128 hrl
          injection h with h; injection h with h1 h2
          have hi : i < s.size := bt_in (by omega)
          have h8 : ¬ s[i].toNat < 128 := by rw [← bt_at s i hi]; exact h128
          obtain ⟨m1, m2, _, _⟩ := enc_multi s i hi hrl h8
          subst h1; subst h2
          unfold enc
          rw [m1, qs_hi m2, List.length_take]
          omega
theorem strR_sharp {s : ByteArray} : ∀ {i j : Nat} {l : List UInt8}, strR s i = some (l, j) → (qs l).length + i + 1 ≤ j := by
  intro i
  generalize hn : s.size - i = n
  induction n using Nat.strongRecOn generalizing i with
  | _ n ih =>
    intro j l h
    by_cases h34 : bt s i = 34
    · rw [strR_end h34] at h
      injection h with h; injection h with h1 h2
      subst h1; simp [qs]; omega
    · cases hp : piece s i with
      | none => rw [strR_bad h34 hp] at h; cases h
      | some p =>
        obtain ⟨r, n'⟩ := p
        have hk := piece_ok hp
        have he := piece_sharp hp h34
        rw [strR_go h34 hp] at h
        rcases hq : strR s (i + n') with _ | ⟨l2, j2⟩
        · rw [hq] at h; cases h
        · rw [hq] at h
          injection h with h; injection h with h1 h2
          have := ih (s.size - (i + n')) (by omega) rfl hq
          subst h1
          show (qs (enc r ++ l2)).length + i + 1 ≤ j
          rw [qs_app, List.length_append]
          simp only at h2
          omega
theorem strQ_sharp {s : ByteArray} {i j : Nat} {l : List UInt8} (h : strQ s i = some (l, j)) : (quoted l).length + i ≤ j := by
  unfold strQ at h
  split at h
  · have := strR_sharp h
    unfold quoted
    simp only [List.length_cons, List.length_append, List.length_nil]
    omega
  · cases h
theorem joinC_sh (l : List (List UInt8)) (h : l ≠ []) : (joinC l).length + 1 = (l.map fun t => t.length + 1).sum := by
  cases l with
  | nil => exact absurd rfl h
  | cons t r =>
    rw [joinC, List.length_append, joinT_len, List.map_cons, List.sum_cons]
    omega
theorem mkO_sh (l : List (List UInt8 × List UInt8)) (h : l ≠ []) : (mkO (isort l)).length = sumT l + 1 := by
  have h1 := (isort_perm l)
  have hne : (isort l).map memT ≠ [] := by
    intro e
    rw [List.map_eq_nil_iff] at e
    rw [e] at h1
    exact h h1.symm.eq_nil
  have h2 := joinC_sh ((isort l).map memT) hne
  have h3 := sumT_isort l
  unfold sumT at *
  rw [List.map_map] at h2
  unfold mkO
  simp only [List.length_cons, List.length_append, List.length_nil]
  have h4 : ((isort l).map ((fun t => t.length + 1) ∘ memT)).sum = ((isort l).map fun p => (memT p).length + 1).sum := rfl
  omega
theorem p_sharp (s : ByteArray) : ∀ f i, (∀ v j, pv s f i = some (v, j) → (ct v).length + i ≤ j) ∧ (∀ l j, pa s f i = some (l, j) → ctL l ≠ [] ∧ ((ctL l).map fun t => t.length + 1).sum + i ≤ j) ∧ (∀ m j, po s f i = some (m, j) → ctM m ≠ [] ∧ sumT (ctM m) + i ≤ j)
  | 0, i => ⟨fun v j h => by simp [pv] at h, fun v j h => by simp [pa] at h, fun v j h => by simp [po] at h⟩
  | f + 1, i => by
    refine ⟨fun v j h => ?_, fun l j h => ?_, fun m j h => ?_⟩
    · have hok := (p_ok s (f + 1) i).1 v j h
      rw [pv] at h
      have g := sk_ge s (i + 1)
      split at h
      · split at h
        · injection h with h; injection h with h0 h
          subst h0
          simp [ct, ctL, mkA, joinC]; omega
        · simp only [Option.map_eq_some_iff] at h
          obtain ⟨⟨l, k⟩, hk, h⟩ := h
          injection h with h0 h
          have h1 := (p_sharp s f (sk s (i + 1))).2.1 l k hk
          have h2 := (p_ok s f (sk s (i + 1))).2.1 l k hk
          have h3 := joinC_sh (ctL l) h1.1
          have h1 := h1.2
          subst h0
          simp only [ct, mkA, List.length_cons, List.length_append, List.length_nil]
          simp only at h; omega
      · split at h
        · split at h
          · injection h with h; injection h with h0 h
            subst h0
            simp [ct, ctM, mkO, isort, joinC]; omega
          · simp only [Option.map_eq_some_iff] at h
            obtain ⟨⟨l, k⟩, hk, h⟩ := h
            injection h with h0 h
            have h1 := (p_sharp s f (sk s (i + 1))).2.2 l k hk
            have h2 := (p_ok s f (sk s (i + 1))).2.2 l k hk
            have h3 := mkO_sh (ctM l) h1.1
            have h1 := h1.2
            subst h0
            simp only [ct]
            simp only at h; omega
        · split at h
          · simp only [Option.map_eq_some_iff] at h
            obtain ⟨⟨l, k⟩, hk, h⟩ := h
            injection h with h0 h
            have h1 := strQ_sharp hk
            subst h0
            simp only [ct]
            simp only at h; omega
          · split at h
            · injection h with h; injection h with h0 h
              subst h0; simp [ct]; omega
            · split at h
              · injection h with h; injection h with h0 h
                subst h0; simp [ct]; omega
              · split at h
                · injection h with h; injection h with h0 h
                  subst h0; simp [ct]; omega
                · simp only [Option.map_eq_some_iff] at h
                  obtain ⟨⟨l, k⟩, hk, h⟩ := h
                  injection h with h0 h
                  have h1 := nm_len hk
                  subst h0
                  simp only [ct]
                  simp only at h; omega
    · rw [pa] at h
      simp only [Option.bind_eq_some_iff] at h
      obtain ⟨⟨v, k⟩, hk, h⟩ := h
      have h1 := (p_ok s f i).1 v k hk
      have h1' := (p_sharp s f i).1 v k hk
      have g1 := sk_ge s k
      simp only at h
      split at h
      · injection h with h; injection h with h0 h
        subst h0
        refine ⟨by simp [ctL], ?_⟩
        simp [ctL]; omega
      · split at h
        · simp only [Option.map_eq_some_iff] at h
          obtain ⟨⟨l, n⟩, hn, h⟩ := h
          injection h with h0 h
          have h2 := (p_ok s f _).2.1 l n hn
          have h2' := (p_sharp s f _).2.1 l n hn
          have g2 := sk_ge s (sk s k + 1)
          subst h0
          refine ⟨by simp [ctL], ?_⟩
          simp only [ctL, List.map_cons, List.sum_cons]
          simp only at h; omega
        · cases h
    · rw [po] at h
      simp only [Option.bind_eq_some_iff] at h
      obtain ⟨⟨key, a⟩, ha, h⟩ := h
      have h0 := strQ_ok ha
      have h0' := strQ_sharp ha
      simp only at h
      split at h
      · simp only [Option.bind_eq_some_iff] at h
        obtain ⟨⟨v, k⟩, hk, h⟩ := h
        have h1 := (p_ok s f _).1 v k hk
        have h1' := (p_sharp s f _).1 v k hk
        have g0 := sk_ge s a
        have g3 := sk_ge s (sk s a + 1)
        have g1 := sk_ge s k
        simp only at h
        split at h
        · injection h with h; injection h with h0 h
          subst h0
          refine ⟨by simp [ctM], ?_⟩
          simp [ctM, sumT, memT]; omega
        · split at h
          · simp only [Option.map_eq_some_iff] at h
            obtain ⟨⟨l, n⟩, hn, h⟩ := h
            injection h with h0 h
            have h2 := (p_ok s f _).2.2 l n hn
            have h2' := (p_sharp s f _).2.2 l n hn
            have g2 := sk_ge s (sk s k + 1)
            subst h0
            have e : sumT (ctM (.cons key v l)) = (memT (key, ct v)).length + 1 + sumT (ctM l) := by simp [ctM, sumT]
            have e2 : (memT (key, ct v)).length = (quoted key).length + 1 + (ct v).length := by simp [memT]; omega
            refine ⟨by simp [ctM], ?_⟩
            simp only at h ⊢
            omega
          · cases h
      · cases h
theorem val_sharp {s : ByteArray} {i j : Nat} {v : JV} (h : val s i = some (v, j)) : (ct v).length + i ≤ j := (p_sharp s _ i).1 v j h
/-- A document's canonical text is not longer than the document. -/
theorem doc_sharp {s : ByteArray} {v : JV} (h : docR s = some v) : (ct v).length ≤ s.size := by
  unfold docR at h
  cases hv : val s (sk s 0) with
  | none => rw [hv] at h; simp at h
  | some q =>
    rw [hv] at h
    simp only [Option.bind_some] at h
    split at h
    · rename_i hs
      injection h with h
      subst h
      have h1 := val_sharp (v := q.1) (j := q.2) hv
      have h2 := sk_ge s q.2
      omega
    · cases h
end Go.Proofs.YtocnekbedcnmgaaGreatDoor

