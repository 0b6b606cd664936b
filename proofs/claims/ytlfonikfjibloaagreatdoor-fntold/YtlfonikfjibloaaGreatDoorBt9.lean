import Derived.Test.YtlfonikfjibloaaGreatDoorBt8
import Derived.Test.YtlfonikfjibloaaGreatDoorBt6
namespace Go.Proofs.YtlfonikfjibloaaGreatDoor
open Go.RowKit

theorem strR_len {s : ByteArray} : ∀ {i j : Nat} {l : List UInt8}, strR s i = some (l, j) → l.length + 4 * (i + 1) ≤ 4 * j := by
  intro i
  generalize hn : s.size - i = n
  induction n using Nat.strongRecOn generalizing i with
  | _ n ih =>
    intro j l h
    by_cases h34 : bt s i = 34
    · rw [strR_end h34] at h
      injection h with h; injection h with h1 h2
      subst h1; simp; omega
    · cases hp : piece s i with
      | none => rw [strR_bad h34 hp] at h; cases h
      | some p =>
        obtain ⟨r, n'⟩ := p
        have hk := piece_ok hp
        have he := enc_le r
        rw [strR_go h34 hp] at h
        rcases hq : strR s (i + n') with _ | ⟨l2, j2⟩
        · rw [hq] at h; cases h
        · rw [hq] at h
          injection h with h; injection h with h1 h2
          have := ih (s.size - (i + n')) (by omega) rfl hq
          subst h1
          simp only [List.length_append]
          simp only at h2
          omega
theorem strQ_len {s : ByteArray} {i j : Nat} {l : List UInt8} (h : strQ s i = some (l, j)) : l.length + 4 * (i + 2) ≤ 4 * j := by
  unfold strQ at h
  split at h
  · have := strR_len h; omega
  · cases h
theorem quoted_len (l : List UInt8) : (quoted l).length ≤ 6 * l.length + 2 := by
  have := qs_le l
  unfold quoted; simp only [List.length_cons, List.length_append, List.length_nil]; omega
theorem nm_len {s : ByteArray} {i j : Nat} {l : List UInt8} (h : nm s i = some (l, j)) : l.length + i ≤ j := by
  have hk := nm_ok h
  unfold nm at h
  split at h
  · injection h with h; injection h with h1 h2
    subst h1; subst h2
    unfold norm0 cutB
    split
    · simp; omega
    · rw [List.length_take, List.length_drop, data_len]; omega
  · cases h

def sumT (l : List (List UInt8 × List UInt8)) : Nat := (l.map fun p => (memT p).length + 1).sum
theorem sumT_ins (p : List UInt8 × List UInt8) : ∀ l, sumT (insR p l) = (memT p).length + 1 + sumT l
  | [] => by simp [insR, sumT]
  | q :: r => by
    have := sumT_ins p r
    unfold insR
    split
    · simp [sumT] at *; omega
    · simp [sumT]
theorem sumT_fold : ∀ (l acc : List (List UInt8 × List UInt8)), sumT (l.foldl (fun acc p => insR p acc) acc) = sumT l + sumT acc
  | [], acc => by simp [sumT]
  | p :: l, acc => by
    rw [List.foldl_cons, sumT_fold l, sumT_ins]
    simp [sumT]; omega
theorem sumT_rev (l : List (List UInt8 × List UInt8)) : sumT l.reverse = sumT l := by
  unfold sumT; rw [List.map_reverse, List.sum_reverse]
theorem sumT_isort (l : List (List UInt8 × List UInt8)) : sumT (isort l) = sumT l := by
  unfold isort; rw [sumT_rev, sumT_fold]; simp [sumT]
theorem joinT_len : ∀ l : List (List UInt8), (joinT l).length = (l.map fun t => t.length + 1).sum
  | [] => rfl
  | t :: r => by simp [joinT, joinT_len r]; omega
theorem joinC_len (l : List (List UInt8)) : (joinC l).length ≤ (l.map fun t => t.length + 1).sum := by
  cases l with
  | nil => simp [joinC]
  | cons t r => simp [joinC, joinT_len]
theorem mkO_len (l : List (List UInt8 × List UInt8)) : (mkO (isort l)).length ≤ sumT l + 2 := by
  have h := joinC_len ((isort l).map memT)
  rw [List.map_map] at h
  have e : ((isort l).map ((fun t => t.length + 1) ∘ memT)).sum = sumT l := by rw [← sumT_isort l]; rfl
  rw [e] at h
  unfold mkO
  simp only [List.length_cons, List.length_append, List.length_nil]; omega

theorem p_len (s : ByteArray) : ∀ f i, (∀ v j, pv s f i = some (v, j) → (ct v).length ≤ 30 * (j - i)) ∧ (∀ l j, pa s f i = some (l, j) → ((ctL l).map fun t => t.length + 1).sum + 2 ≤ 30 * (j - i)) ∧ (∀ m j, po s f i = some (m, j) → sumT (ctM m) + 2 ≤ 30 * (j - i))
  | 0, i => ⟨fun v j h => by simp [pv] at h, fun v j h => by simp [pa] at h, fun v j h => by simp [po] at h⟩
  | f + 1, i => by
    refine ⟨fun v j h => ?_, fun l j h => ?_, fun m j h => ?_⟩
    · have hok := (p_ok s (f + 1) i).1 v j h
      rw [pv] at h
      have g := sk_ge s (i + 1)
      split at h
      · split at h
        · injection h with h; injection h with h0 h
          subst h0
          simp [ct, ctL, mkA, joinC]; omega
        · simp only [Option.map_eq_some_iff] at h
          obtain ⟨⟨l, k⟩, hk, h⟩ := h
          injection h with h0 h
          have h1 := (p_len s f (sk s (i + 1))).2.1 l k hk
          have h2 := (p_ok s f (sk s (i + 1))).2.1 l k hk
          have h3 := joinC_len (ctL l)
          subst h0
          simp only [ct, mkA, List.length_cons, List.length_append, List.length_nil]
          simp only at h; omega
      · split at h
        · split at h
          · injection h with h; injection h with h0 h
            subst h0
            simp [ct, ctM, mkO, isort, joinC]; omega
          · simp only [Option.map_eq_some_iff] at h
            obtain ⟨⟨l, k⟩, hk, h⟩ := h
            injection h with h0 h
            have h1 := (p_len s f (sk s (i + 1))).2.2 l k hk
            have h2 := (p_ok s f (sk s (i + 1))).2.2 l k hk
            have h3 := mkO_len (ctM l)
            subst h0
            simp only [ct]
            simp only at h; omega
        · split at h
          · simp only [Option.map_eq_some_iff] at h
            obtain ⟨⟨l, k⟩, hk, h⟩ := h
            injection h with h0 h
            have h1 := strQ_len hk
            have h2 := quoted_len l
            subst h0
            simp only [ct]
            simp only at h; omega
          · split at h
            · injection h with h; injection h with h0 h
              subst h0; simp [ct]; omega
            · split at h
              · injection h with h; injection h with h0 h
                subst h0; simp [ct]; omega
              · split at h
                · injection h with h; injection h with h0 h
                  subst h0; simp [ct]; omega
                · simp only [Option.map_eq_some_iff] at h
                  obtain ⟨⟨l, k⟩, hk, h⟩ := h
                  injection h with h0 h
                  have h1 := nm_len hk
                  subst h0
                  simp only [ct]
                  simp only at h; omega
    · rw [pa] at h
      simp only [Option.bind_eq_some_iff] at h
      obtain ⟨⟨v, k⟩, hk, h⟩ := h
      have h1 := (p_ok s f i).1 v k hk
      have h1' := (p_len s f i).1 v k hk
      have g1 := sk_ge s k
      simp only at h
      split at h
      · injection h with h; injection h with h0 h
        subst h0
        simp [ctL]; omega
      · split at h
        · simp only [Option.map_eq_some_iff] at h
          obtain ⟨⟨l, n⟩, hn, h⟩ := h
          injection h with h0 h
          have h2 := (p_ok s f _).2.1 l n hn
          have h2' := (p_len s f _).2.1 l n hn
          have g2 := sk_ge s (sk s k + 1)
          subst h0
          simp only [ctL, List.map_cons, List.sum_cons]
          simp only at h; omega
        · cases h
    · rw [po] at h
      simp only [Option.bind_eq_some_iff] at h
      obtain ⟨⟨key, a⟩, ha, h⟩ := h
      have h0 := strQ_ok ha
      have h0' := strQ_len ha
      have hq := quoted_len key
      simp only at h
      split at h
      · simp only [Option.bind_eq_some_iff] at h
        obtain ⟨⟨v, k⟩, hk, h⟩ := h
        have h1 := (p_ok s f _).1 v k hk
        have h1' := (p_len s f _).1 v k hk
        have g0 := sk_ge s a
        have g3 := sk_ge s (sk s a + 1)
        have g1 := sk_ge s k
        simp only at h
        split at h
        · injection h with h; injection h with h0 h
          subst h0
          simp [ctM, sumT, memT]; omega
        · split at h
          · simp only [Option.map_eq_some_iff] at h
            obtain ⟨⟨l, n⟩, hn, h⟩ := h
            injection h with h0 h
            have h2 := (p_ok s f _).2.2 l n hn
            have h2' := (p_len s f _).2.2 l n hn
            have g2 := sk_ge s (sk s k + 1)
            subst h0
            have e : sumT (ctM (.cons key v l)) = (memT (key, ct v)).length + 1 + sumT (ctM l) := by simp [ctM, sumT]
            have e2 : (memT (key, ct v)).length = (quoted key).length + 1 + (ct v).length := by simp [memT]; omega
            simp only at h ⊢
            omega
          · cases h
      · cases h
theorem val_len {s : ByteArray} {i j : Nat} {v : JV} (h : val s i = some (v, j)) : (ct v).length ≤ 30 * (j - i) := (p_len s _ i).1 v j h
end Go.Proofs.YtlfonikfjibloaaGreatDoor

namespace Go.Proofs.YtlfonikfjibloaaGreatDoor
open Go.RowKit

theorem insR_perm (p : List UInt8 × List UInt8) : ∀ l, (insR p l).Perm (p :: l)
  | [] => List.Perm.refl _
  | q :: r => by
    unfold insR
    split
    · exact ((insR_perm p r).cons q).trans (List.Perm.swap p q r)
    · exact List.Perm.refl _
theorem fold_perm : ∀ (l acc : List (List UInt8 × List UInt8)), (l.foldl (fun acc p => insR p acc) acc).Perm (l ++ acc)
  | [], acc => List.Perm.refl _
  | p :: l, acc => by
    rw [List.foldl_cons]
    exact (fold_perm l _).trans (((insR_perm p acc).append_left l).trans (List.perm_middle))
theorem isort_perm (l : List (List UInt8 × List UInt8)) : (isort l).Perm l := by
  unfold isort
  have := fold_perm l []
  rw [List.append_nil] at this
  exact (List.reverse_perm _).trans this
theorem insR_down (p : List UInt8 × List UInt8) : ∀ l, l.Pairwise (fun a b => b.1 ≤ a.1) → (insR p l).Pairwise (fun a b => b.1 ≤ a.1)
  | [], _ => by simp [insR]
  | q :: r, h => by
    rw [List.pairwise_cons] at h
    unfold insR
    split
    · rename_i hlt
      rw [List.pairwise_cons]
      refine ⟨fun a ha => ?_, insR_down p r h.2⟩
      rcases List.mem_cons.1 ((insR_perm p r).subset ha) with rfl | ha
      · exact List.le_of_lt hlt
      · exact h.1 a ha
    · rename_i hlt
      have hqp : q.1 ≤ p.1 := List.not_lt.1 hlt
      rw [List.pairwise_cons, List.pairwise_cons]
      refine ⟨fun a ha => ?_, h⟩
      rcases List.mem_cons.1 ha with rfl | ha
      · exact hqp
      · exact List.le_trans (h.1 a ha) hqp
theorem fold_down : ∀ (l acc : List (List UInt8 × List UInt8)), acc.Pairwise (fun a b => b.1 ≤ a.1) → (l.foldl (fun acc p => insR p acc) acc).Pairwise (fun a b => b.1 ≤ a.1)
  | [], acc, h => h
  | p :: l, acc, h => by rw [List.foldl_cons]; exact fold_down l _ (insR_down p acc h)
theorem isort_up (l : List (List UInt8 × List UInt8)) : (isort l).Pairwise (fun a b => a.1 ≤ b.1) := by
  unfold isort
  rw [List.pairwise_reverse]
  exact fold_down l [] List.Pairwise.nil
/-- The keys in order. -/
theorem isort_keys {l : List (List UInt8 × List UInt8)} {ss : List (List UInt8)} (h : ss.Perm (l.map (·.1))) : ss.mergeSort (fun x y => decide (x ≤ y)) = (isort l).map (·.1) := by
  have tr : ∀ a b c : List UInt8, decide (a ≤ b) = true → decide (b ≤ c) = true → decide (a ≤ c) = true := fun a b c h1 h2 => by simp only [decide_eq_true_eq] at *; exact List.le_trans h1 h2
  have to : ∀ a b : List UInt8, (decide (a ≤ b) || decide (b ≤ a)) = true := fun a b => by simp only [Bool.or_eq_true, decide_eq_true_eq]; exact List.le_total a b
  refine List.Perm.eq_of_pairwise (le := fun a b => decide (a ≤ b) = true) (fun a b _ _ h1 h2 => ?_) (List.pairwise_mergeSort tr to ss) ?_ (((List.mergeSort_perm _ _).trans h).trans ((isort_perm l).map _).symm)
  · simp only [decide_eq_true_eq] at h1 h2
    exact List.le_antisymm h1 h2
  · rw [List.pairwise_map]
    exact (isort_up l).imp fun h => by simpa using h

def JM.toL : JM → List (List UInt8 × JV)
  | .nil => []
  | .cons k v r => (k, v) :: r.toL
theorem ctM_map : ∀ m : JM, ctM m = m.toL.map fun p => (p.1, ct p.2)
  | .nil => rfl
  | .cons k v r => by rw [ctM, JM.toL, List.map_cons, ctM_map r]
theorem keysM_map : ∀ m : JM, keysM m = m.toL.map (·.1)
  | .nil => rfl
  | .cons k v r => by rw [keysM, JM.toL, List.map_cons, keysM_map r]
theorem twM_nodup : ∀ (m : JM) (ks : List (List UInt8)), twM ks m = false → (keysM m).Nodup ∧ ∀ k ∈ keysM m, k ∉ ks
  | .nil, ks, _ => ⟨List.nodup_nil, fun k hk => by simp [keysM] at hk⟩
  | .cons k v r, ks, h => by
    rw [twM] at h
    simp only [Bool.or_eq_false_iff] at h
    obtain ⟨⟨_, h1⟩, h2⟩ := h
    obtain ⟨i1, i2⟩ := twM_nodup r (ks ++ [k]) h2
    rw [keysM, List.nodup_cons]
    refine ⟨⟨fun hk => i2 k hk (by simp), i1⟩, fun a ha => ?_⟩
    rcases List.mem_cons.1 ha with rfl | ha
    · intro hc; rw [List.contains_eq_mem, decide_eq_false_iff_not] at h1; exact h1 hc
    · intro hc; exact i2 a ha (List.mem_append_left _ hc)
end Go.Proofs.YtlfonikfjibloaaGreatDoor

namespace Go.Proofs.YtlfonikfjibloaaGreatDoor
open Go.RowKit

theorem bt_app0 (a l : List UInt8) (k : Nat) (h : k < a.length) : bt (strOf (a ++ l)) k = (a.getD k 0).toNat := by
  unfold bt; rw [strOf_toList]
  simp only [List.getD]
  rw [List.getElem?_append_left h]
theorem ofNat_lt {n : Nat} (h : n < 256) : (UInt8.ofNat n).toNat = n := by rw [UInt8.toNat_ofNat']; omega

/-- A rune's bytes are read as that many. -/
theorem rl_utf (r : Nat) (h : r ≤ 1114111) (h' : r < 55296 ∨ 57344 ≤ r) (l : List UInt8) : rl (strOf (utf r ++ l)) 0 = (utf r).length ∧ 0 < (utf r).length := by
  have hz : (strOf (utf r ++ l)).size - 0 = (utf r).length + l.length := by rw [strOf_size, List.length_append]; omega
  unfold rl
  rw [hz]
  by_cases h1 : r < 128
  · have e : utf r = [UInt8.ofNat r] := by unfold utf utfZ; rw [if_pos h1]; rfl
    rw [e]
    refine ⟨?_, by simp⟩
    rw [bt_app0 _ _ 0 (by simp), rlN_one]
    · rfl
    · show (UInt8.ofNat r).toNat < 128
      rw [ofNat_lt (by omega)]; exact h1
  · by_cases h2 : r < 2048
    · have e : utf r = [UInt8.ofNat (192 + r / 64), UInt8.ofNat (128 + r % 64)] := by unfold utf utfZ; rw [if_neg h1, if_pos h2]; rfl
      rw [e]
      refine ⟨?_, by simp⟩
      rw [bt_app0 _ _ 0 (by simp), bt_app0 _ _ (0 + 1) (by simp)]
      have b0 : ([UInt8.ofNat (192 + r / 64), UInt8.ofNat (128 + r % 64)].getD 0 0).toNat = 192 + r / 64 := ofNat_lt (by omega)
      have b1 : ([UInt8.ofNat (192 + r / 64), UInt8.ofNat (128 + r % 64)].getD (0 + 1) 0).toNat = 128 + r % 64 := ofNat_lt (by omega)
      rw [b0, b1, rlN_2 (by omega) (by omega) (by omega), if_pos (by simp only [List.length_cons, List.length_nil]; omega)]
      rfl
    · by_cases h3 : r < 65536
      · have e : utf r = [UInt8.ofNat (224 + r / 4096), UInt8.ofNat (128 + r / 64 % 64), UInt8.ofNat (128 + r % 64)] := by unfold utf utfZ; rw [if_neg h1, if_neg h2, if_pos h3]; rfl
        rw [e]
        refine ⟨?_, by simp⟩
        rw [bt_app0 _ _ 0 (by simp), bt_app0 _ _ (0 + 1) (by simp), bt_app0 _ _ (0 + 2) (by simp)]
        have b0 : ([UInt8.ofNat (224 + r / 4096), UInt8.ofNat (128 + r / 64 % 64), UInt8.ofNat (128 + r % 64)].getD 0 0).toNat = 224 + r / 4096 := ofNat_lt (by omega)
        have b1 : ([UInt8.ofNat (224 + r / 4096), UInt8.ofNat (128 + r / 64 % 64), UInt8.ofNat (128 + r % 64)].getD (0 + 1) 0).toNat = 128 + r / 64 % 64 := ofNat_lt (by omega)
        have b2 : ([UInt8.ofNat (224 + r / 4096), UInt8.ofNat (128 + r / 64 % 64), UInt8.ofNat (128 + r % 64)].getD (0 + 2) 0).toNat = 128 + r % 64 := ofNat_lt (by omega)
        rw [b0, b1, b2, rlN_3 (by omega) (by omega) (by omega) (by omega), if_pos (by simp only [List.length_cons, List.length_nil]; omega)]
        rfl
      · have e : utf r = [UInt8.ofNat (240 + r / 262144), UInt8.ofNat (128 + r / 4096 % 64), UInt8.ofNat (128 + r / 64 % 64), UInt8.ofNat (128 + r % 64)] := by unfold utf utfZ; rw [if_neg h1, if_neg h2, if_neg h3]; rfl
        rw [e]
        refine ⟨?_, by simp⟩
        rw [bt_app0 _ _ 0 (by simp), bt_app0 _ _ (0 + 1) (by simp), bt_app0 _ _ (0 + 2) (by simp), bt_app0 _ _ (0 + 3) (by simp)]
        have b0 : ([UInt8.ofNat (240 + r / 262144), UInt8.ofNat (128 + r / 4096 % 64), UInt8.ofNat (128 + r / 64 % 64), UInt8.ofNat (128 + r % 64)].getD 0 0).toNat = 240 + r / 262144 := ofNat_lt (by omega)
        have b1 : ([UInt8.ofNat (240 + r / 262144), UInt8.ofNat (128 + r / 4096 % 64), UInt8.ofNat (128 + r / 64 % 64), UInt8.ofNat (128 + r % 64)].getD (0 + 1) 0).toNat = 128 + r / 4096 % 64 := ofNat_lt (by omega)
        have b2 : ([UInt8.ofNat (240 + r / 262144), UInt8.ofNat (128 + r / 4096 % 64), UInt8.ofNat (128 + r / 64 % 64), UInt8.ofNat (128 + r % 64)].getD (0 + 2) 0).toNat = 128 + r / 64 % 64 := ofNat_lt (by omega)
        have b3 : ([UInt8.ofNat (240 + r / 262144), UInt8.ofNat (128 + r / 4096 % 64), UInt8.ofNat (128 + r / 64 % 64), UInt8.ofNat (128 + r % 64)].getD (0 + 3) 0).toNat = 128 + r % 64 := ofNat_lt (by omega)
        rw [b0, b1, b2, b3, rlN_4 (by omega) (by omega) (by omega) (by omega) (by omega), if_pos (by simp only [List.length_cons, List.length_nil]; omega)]
        rfl

theorem valid_front {a l : List UInt8} (h0 : 0 < a.length) (h : rl (strOf (a ++ l)) 0 = a.length) : Lib.validD (a ++ l) = Lib.validD l := by
  have := valid_go (strOf (a ++ l)) 0 (by rw [strOf_size, List.length_append]; omega) (by rw [h]; omega)
  rw [strOf_toList, h, Nat.zero_add, List.drop_zero, List.drop_left] at this
  exact this

theorem piece_valid {s : ByteArray} {i r n : Nat} (h : piece s i = some (r, n)) (l : List UInt8) : Lib.validD (enc r ++ l) = Lib.validD l := by
  have fin : r ≤ 1114111 → (r < 55296 ∨ 57344 ≤ r) → Lib.validD (enc r ++ l) = Lib.validD l := fun h1 h2 => by
    have e : enc r = utf r := (utf_enc h1 h2).symm
    rw [e]
    obtain ⟨a, b⟩ := rl_utf r h1 h2 l
    exact valid_front b a
  unfold piece at h
  split at h
  · have := escP_ok h; exact fin this.2.2.1 this.2.2.2
  · split at h
    · cases h
    · have hi : i < s.size := bt_in (by omega)
      split at h
      · injection h with h; injection h with h1 h2
        exact fin (by omega) (by omega)
      · rename_i h8
        split at h
        · cases h
        · rename_i hr
          injection h with h; injection h with h1 h2
          have h8' : ¬ s[i].toNat < 128 := by rw [← bt_at s i hi]; exact h8
          obtain ⟨g1, g2, g3, g4⟩ := enc_multi s i hi hr h8'
          have e : enc r = (s.data.toList.drop i).take (rl s i) := by unfold enc; rw [← h1]; exact g1
          have hle := rl_le s i hi
          have hlen : ((s.data.toList.drop i).take (rl s i)).length = rl s i := by rw [List.length_take, List.length_drop, data_len]; omega
          rw [e]
          refine valid_front (by omega) ?_
          rw [hlen]
          exact rl_same (m := l) hi h8' hr (by rw [strOf_toList, List.drop_zero])

theorem strR_valid {s : ByteArray} : ∀ {i j : Nat} {l : List UInt8}, strR s i = some (l, j) → Lib.validD l = true := by
  intro i
  generalize hn : s.size - i = n
  induction n using Nat.strongRecOn generalizing i with
  | _ n ih =>
    intro j l h
    by_cases h34 : bt s i = 34
    · rw [strR_end h34] at h
      injection h with h; injection h with h1 h2
      subst h1; rfl
    · cases hp : piece s i with
      | none => rw [strR_bad h34 hp] at h; cases h
      | some p =>
        obtain ⟨r, n'⟩ := p
        have hk := piece_ok hp
        rw [strR_go h34 hp] at h
        rcases hq : strR s (i + n') with _ | ⟨l2, j2⟩
        · rw [hq] at h; cases h
        · rw [hq] at h
          injection h with h; injection h with h1 h2
          simp only at h1
          rw [← h1, piece_valid hp]
          exact ih (s.size - (i + n')) (by omega) rfl hq
theorem strQ_valid {s : ByteArray} {i j : Nat} {l : List UInt8} (h : strQ s i = some (l, j)) : Lib.validD l = true := by
  unfold strQ at h
  split at h
  · exact strR_valid h
  · cases h

theorem drop_size2 {s : ByteArray} {i : Nat} {m : List UInt8} (h : s.data.toList.drop i = m) (hm : m ≠ []) : i < s.size := by
  have := drop_size h hm
  have : 0 < m.length := by cases m with
    | nil => exact absurd rfl hm
    | cons _ _ => simp
  omega

/-- Pieces that stand for bytes are read as these bytes, whatever stands behind. -/
theorem str_at (s T : ByteArray) (m : List UInt8) : ∀ (f pos : Nat), s.size ≤ pos + f → Lib.validD (s.data.toList.drop pos) = true → ∀ j, T.data.toList.drop j = qs (s.data.toList.drop pos) ++ 34 :: m → strR T j = some (s.data.toList.drop pos, j + (qs (s.data.toList.drop pos)).length + 1)
  | f, pos, h, hv, j, hj => by
    by_cases hp : pos < s.size
    · cases f with
      | zero => omega
      | succ f =>
        have hr : ¬ rl s pos = 0 := fun e => by rw [valid_bad s pos hp e] at hv; cases hv
        have hv2 := hv
        rw [valid_go s pos hp hr] at hv2
        by_cases h8 : s[pos].toNat < 128
        · have e1 : rl s pos = 1 := by unfold rl; rw [rlN_one (by rw [bt_at s pos hp]; exact h8)]
          rw [e1] at hv2
          have hq : T.data.toList.drop j = qB s[pos] ++ (qs (s.data.toList.drop (pos + 1)) ++ 34 :: m) := by
            rw [hj, drop_at s pos hp]; simp [qs]
          obtain ⟨p1, p2⟩ := piece_q h8 hq
          have ih := str_at s T m f (pos + 1) (by omega) hv2 (j + (qB s[pos]).length) (drop_past hq)
          rw [strR_go p1 p2, ih, enc_lo h8, show UInt8.ofNat s[pos].toNat = s[pos] from UInt8.ofNat_toNat, drop_at s pos hp]
          have e2 : (qs (s[pos] :: s.data.toList.drop (pos + 1))).length = (qB s[pos]).length + (qs (s.data.toList.drop (pos + 1))).length := by simp [qs]
          rw [e2]
          simp only [Option.map_some, Option.some.injEq, Prod.mk.injEq]
          exact ⟨rfl, by omega⟩
        · obtain ⟨g1, g2, g3, g4⟩ := enc_multi s pos hp hr h8
          have hsplit := (List.take_append_drop (rl s pos) (s.data.toList.drop pos)).symm
          rw [List.drop_drop] at hsplit
          have hqs : qs (s.data.toList.drop pos) = (s.data.toList.drop pos).take (rl s pos) ++ qs (s.data.toList.drop (pos + rl s pos)) := by
            conv => lhs; rw [hsplit]
            rw [qs_app, qs_high _ g2]
          have hq : T.data.toList.drop j = (s.data.toList.drop pos).take (rl s pos) ++ (qs (s.data.toList.drop (pos + rl s pos)) ++ 34 :: m) := by
            rw [hj, hqs, List.append_assoc]
          have hle := rl_le s pos hp
          have hlen : ((s.data.toList.drop pos).take (rl s pos)).length = rl s pos := by rw [List.length_take, List.length_drop, data_len]; omega
          have hrl := rl_same hp h8 hr hq
          have ih := str_at s T m f (pos + rl s pos) (by omega) hv2 (j + rl s pos) (by have := drop_past hq; rwa [hlen] at this)
          have hjT : j < T.size := by
            have := drop_size hq (by intro e; have := congrArg List.length e; rw [List.length_append, hlen, List.length_nil] at this; omega)
            rw [List.length_append, hlen] at this; omega
          have b0 : bt T j = bt s pos := by
            have x := bt_drop T j 0
            have y := bt_drop s pos 0
            rw [Nat.add_zero] at x y
            rw [x, y, hq, take_getD _ _ _ _ (by omega) (by rw [List.length_drop, data_len]; omega)]
          have hb0 := bt_at s pos hp
          have b8 : ¬ T[j].toNat < 128 := by rw [← bt_at T j hjT]; omega
          obtain ⟨k1, k2, k3, k4⟩ := enc_multi T j hjT (by rw [hrl]; exact hr) b8
          have hp2 : piece T j = some ((Utf8.decode T j).1, rl s pos) := by
            unfold piece
            rw [if_neg (by omega), if_neg (by omega), if_neg (by omega), if_neg (by rw [hrl]; exact hr), hrl]
          rw [strR_go (by omega) hp2, ih]
          unfold enc
          rw [k1, hq, hrl, hqs]
          simp only [Option.map_some, Option.some.injEq, Prod.mk.injEq]
          refine ⟨?_, by rw [List.length_append, hlen]; omega⟩
          conv => rhs; rw [hsplit]
          rw [List.take_append_of_le_length (by omega), List.take_of_length_le (by omega)]
    · rw [drop_end s pos hp] at hj ⊢
      have b0 := bt_drop T j 0
      rw [hj] at b0
      change bt T j = 34 at b0
      rw [strR_end b0]
      rfl

/-- A quoted text in a text is read back. -/
theorem strQ_at (l : List UInt8) (T : ByteArray) (m : List UInt8) (hv : Lib.validD l = true) (j : Nat) (hj : T.data.toList.drop j = quoted l ++ m) : strQ T j = some (l, j + (quoted l).length) := by
  have hj' : T.data.toList.drop j = 34 :: (qs l ++ 34 :: m) := by rw [hj]; simp [quoted]
  have b : bt T j = 34 := by have := bt_drop T j 0; rw [hj'] at this; exact this
  have h := str_at (strOf l) T m l.length 0 (by rw [strOf_size]; omega) (by rw [strOf_toList]; exact hv) (j + 1) (by
    have := drop_past (m := [34]) (n := qs l ++ 34 :: m) hj'
    rw [strOf_toList]; exact this)
  rw [strOf_toList, List.drop_zero] at h
  unfold strQ
  rw [if_pos b, h]
  have e : (quoted l).length = (qs l).length + 2 := by simp [quoted]
  rw [e]
  congr 2
  omega

mutual
/-- A tree whose strings are valid UTF-8 and whose numbers are such texts as are read. -/
def okV : JV → Prop
  | .nul => True
  | .tt => True
  | .ff => True
  | .num l => ∃ (c : UInt8) (r : List UInt8), l = c :: r ∧ (c.toNat = 45 ∨ isDg c.toNat = true) ∧ ∀ b ∈ r, isDg b.toNat = true
  | .str l => Lib.validD l = true
  | .arr l => okL l
  | .obj m => okM m
def okL : JL → Prop
  | .nil => True
  | .cons v r => okV v ∧ okL r
def okM : JM → Prop
  | .nil => True
  | .cons k v r => Lib.validD k = true ∧ okV v ∧ okM r
end
end Go.Proofs.YtlfonikfjibloaaGreatDoor

namespace Go.Proofs.YtlfonikfjibloaaGreatDoor
open Go.RowKit

theorem dgF_all (s : ByteArray) : ∀ f i k, i ≤ k → k < dgF s f i → isDg (bt s k) = true
  | 0, i, k, h1, h2 => by simp [dgF] at h2; omega
  | f + 1, i, k, h1, h2 => by
    rw [dgF] at h2
    split at h2
    · rename_i hd
      by_cases e : k = i
      · subst e; exact hd
      · exact dgF_all s f (i + 1) k (by omega) h2
    · omega
theorem dg_all {s : ByteArray} {i k : Nat} (h1 : i ≤ k) (h2 : k < dg s i) : isDg (bt s k) = true := dgF_all s _ i k h1 h2
theorem cutB_at {s : ByteArray} {i j : Nat} {c : UInt8} (h : c ∈ cutB s i j) : ∃ k, i ≤ k ∧ k < j ∧ c.toNat = bt s k := by
  unfold cutB at h
  obtain ⟨n, hn, rfl⟩ := List.getElem_of_mem h
  rw [List.length_take, List.length_drop] at hn
  refine ⟨i + n, by omega, by omega, ?_⟩
  unfold bt
  rw [data_len] at hn
  have hk : i + n < s.data.size := by show i + n < s.size; omega
  simp only [List.getD, List.getElem_take, List.getElem_drop, Array.getElem_toList, Array.getElem?_toList]
  rw [Array.getElem?_eq_getElem hk]
  rfl
theorem cutB_head {s : ByteArray} {i j : Nat} (h : i < j) (hi : i < s.size) : cutB s i j = s.data.toList.getD i 0 :: cutB s (i + 1) j := by
  unfold cutB
  rw [drop_at s i hi, show j - i = (j - (i + 1)) + 1 by omega, List.take_succ_cons]
  congr 1
  rw [List.getD, List.getElem?_eq_getElem (by rw [data_len]; exact hi)]
  rfl
theorem nm_form {s : ByteArray} {i j : Nat} {l : List UInt8} (h : nm s i = some (l, j)) : ∃ (c : UInt8) (r : List UInt8), l = c :: r ∧ (c.toNat = 45 ∨ isDg c.toNat = true) ∧ ∀ b ∈ r, isDg b.toNat = true := by
  have hok := nm_ok h
  unfold nm at h
  split at h
  · rename_i hd
    injection h with h; injection h with h1 h2
    have hlt : nmD s i < s.size := bt_in (by have := isDg_iff.1 hd; omega)
    have hge : i ≤ nmD s i := by unfold nmD; split <;> omega
    have hall : ∀ k, nmD s i ≤ k → k < nmE s i → isDg (bt s k) = true := fun k h1 h2 => by
      unfold nmE at h2
      split at h2
      · have : k = nmD s i := by omega
        rw [this]; exact hd
      · exact dg_all h1 h2
    have hraw : ∃ (c : UInt8) (r : List UInt8), cutB s i (nmE s i) = c :: r ∧ (c.toNat = 45 ∨ isDg c.toNat = true) ∧ ∀ b ∈ r, isDg b.toNat = true := by
      refine ⟨_, _, cutB_head (by omega) (by omega), ?_, fun b hb => ?_⟩
      · by_cases h45 : bt s i = 45
        · exact .inl h45
        · right
          have e : nmD s i = i := by unfold nmD; rw [if_neg h45]
          rw [e] at hd; exact hd
      · obtain ⟨k, k1, k2, k3⟩ := cutB_at hb
        rw [k3]
        refine hall k ?_ k2
        unfold nmD; split <;> omega
    unfold norm0 at h1
    split at h1
    · exact ⟨48, [], h1.symm, .inr rfl, fun b hb => by simp at hb⟩
    · obtain ⟨c, r, e, a, b⟩ := hraw
      exact ⟨c, r, by rw [← h1, e], a, b⟩
  · cases h

theorem p_okV (s : ByteArray) : ∀ f i, (∀ v j, pv s f i = some (v, j) → okV v) ∧ (∀ l j, pa s f i = some (l, j) → okL l) ∧ (∀ m j, po s f i = some (m, j) → okM m)
  | 0, i => ⟨fun v j h => by simp [pv] at h, fun v j h => by simp [pa] at h, fun v j h => by simp [po] at h⟩
  | f + 1, i => by
    refine ⟨fun v j h => ?_, fun l j h => ?_, fun m j h => ?_⟩
    · rw [pv] at h
      split at h
      · split at h
        · injection h with h; injection h with hv h; subst hv; rw [okV, okL]; trivial
        · simp only [Option.map_eq_some_iff] at h
          obtain ⟨⟨l, k⟩, hk, h⟩ := h
          injection h with hv h
          subst hv; rw [okV]; exact (p_okV s f (sk s (i + 1))).2.1 l k hk
      · split at h
        · split at h
          · injection h with h; injection h with hv h; subst hv; rw [okV, okM]; trivial
          · simp only [Option.map_eq_some_iff] at h
            obtain ⟨⟨l, k⟩, hk, h⟩ := h
            injection h with hv h
            subst hv; rw [okV]; exact (p_okV s f (sk s (i + 1))).2.2 l k hk
        · split at h
          · simp only [Option.map_eq_some_iff] at h
            obtain ⟨⟨l, k⟩, hk, h⟩ := h
            injection h with hv h
            subst hv; rw [okV]; exact strQ_valid hk
          · split at h
            · injection h with h; injection h with hv h; subst hv; rw [okV]; trivial
            · split at h
              · injection h with h; injection h with hv h; subst hv; rw [okV]; trivial
              · split at h
                · injection h with h; injection h with hv h; subst hv; rw [okV]; trivial
                · simp only [Option.map_eq_some_iff] at h
                  obtain ⟨⟨l, k⟩, hk, h⟩ := h
                  injection h with hv h
                  subst hv; rw [okV]; exact nm_form hk
    · rw [pa] at h
      simp only [Option.bind_eq_some_iff] at h
      obtain ⟨⟨v, k⟩, hk, h⟩ := h
      have h1 := (p_okV s f i).1 v k hk
      simp only at h
      split at h
      · injection h with h; injection h with hv h; subst hv; rw [okL, okL]; exact ⟨h1, trivial⟩
      · split at h
        · simp only [Option.map_eq_some_iff] at h
          obtain ⟨⟨l, n⟩, hn, h⟩ := h
          injection h with hv h
          subst hv; rw [okL]; exact ⟨h1, (p_okV s f _).2.1 l n hn⟩
        · cases h
    · rw [po] at h
      simp only [Option.bind_eq_some_iff] at h
      obtain ⟨⟨key, a⟩, ha, h⟩ := h
      have h0 := strQ_valid ha
      simp only at h
      split at h
      · simp only [Option.bind_eq_some_iff] at h
        obtain ⟨⟨v, k⟩, hk, h⟩ := h
        have h1 := (p_okV s f _).1 v k hk
        simp only at h
        split at h
        · injection h with h; injection h with hv h; subst hv; rw [okM, okM]; exact ⟨h0, h1, trivial⟩
        · split at h
          · simp only [Option.map_eq_some_iff] at h
            obtain ⟨⟨l, n⟩, hn, h⟩ := h
            injection h with hv h
            subst hv; rw [okM]; exact ⟨h0, h1, (p_okV s f _).2.2 l n hn⟩
          · cases h
      · cases h
theorem val_okV {s : ByteArray} {i j : Nat} {v : JV} (h : val s i = some (v, j)) : okV v := (p_okV s _ i).1 v j h

mutual
theorem dep_cnt : ∀ v : JV, depV v ≤ cntV v ∧ 1 ≤ depV v
  | .nul => ⟨Nat.le_refl _, Nat.le_refl _⟩
  | .tt => ⟨Nat.le_refl _, Nat.le_refl _⟩
  | .ff => ⟨Nat.le_refl _, Nat.le_refl _⟩
  | .num _ => ⟨Nat.le_refl _, Nat.le_refl _⟩
  | .str _ => ⟨Nat.le_refl _, Nat.le_refl _⟩
  | .arr l => by rw [depV, cntV]; have := dep_cntL l; omega
  | .obj m => by rw [depV, cntV]; have := dep_cntM m; omega
theorem dep_cntL : ∀ l : JL, depL l ≤ cntL l
  | .nil => Nat.le_refl _
  | .cons v r => by rw [depL, cntL]; have := dep_cntL r; have := dep_cnt v; omega
theorem dep_cntM : ∀ m : JM, depM m ≤ cntM m
  | .nil => Nat.le_refl _
  | .cons k v r => by rw [depM, cntM]; have := dep_cntM r; have := dep_cnt v; omega
end
end Go.Proofs.YtlfonikfjibloaaGreatDoor

namespace Go.Proofs.YtlfonikfjibloaaGreatDoor
open Go.RowKit

theorem qB_ge (c : UInt8) : 1 ≤ (qB c).length := by
  unfold qB
  repeat' split
  all_goals simp
theorem qs_ge (l : List UInt8) : l.length ≤ (qs l).length := by
  induction l with
  | nil => simp
  | cons c l ih =>
    have := qB_ge c
    simp only [qs, List.flatMap_cons, List.length_append, List.length_cons] at *
    omega
def JL.toL : JL → List JV
  | .nil => []
  | .cons v r => v :: r.toL
theorem ctL_map : ∀ l : JL, ctL l = l.toL.map ct
  | .nil => rfl
  | .cons v r => by rw [ctL, JL.toL, List.map_cons, ctL_map r]
theorem quoted_ge (l : List UInt8) : l.length + 2 ≤ (quoted l).length := by
  have := qs_ge l
  simp [quoted]; omega
theorem memT_parts (p : List UInt8 × List UInt8) : (memT p).length = (quoted p.1).length + 1 + p.2.length := by simp [memT]; omega

/-- The bytes of brackets with as many commas as parts need. -/
def hold (n : Nat) : Nat := 2 + (n - 1)

def dl : List JV → Nat
  | [] => 0
  | v :: r => max (depV v) (dl r)
def cl (vs : List JV) : Nat := (vs.map cntV).sum
def nl (ts : List (List UInt8)) : Nat := (ts.map List.length).sum
theorem dl_snoc (a : List JV) (v : JV) : dl (a ++ [v]) = max (dl a) (depV v) := by
  induction a with
  | nil => simp [dl]
  | cons x r ih => simp only [List.cons_append, dl, ih]; omega
theorem cl_snoc (a : List JV) (v : JV) : cl (a ++ [v]) = cl a + cntV v := by simp [cl]
theorem depL_dl : ∀ l : JL, depL l = dl l.toL
  | .nil => rfl
  | .cons v r => by rw [depL, JL.toL, dl, depL_dl r]
theorem cntL_cl : ∀ l : JL, cntL l = cl l.toL
  | .nil => rfl
  | .cons v r => by rw [cntL, JL.toL, cntL_cl r]; simp [cl]
theorem dl_take (a : List JV) (k : Nat) : dl (a.take k) ≤ dl a := by
  induction a generalizing k with
  | nil => simp
  | cons x r ih =>
    cases k with
    | zero => simp [dl]
    | succ k => simp only [List.take_succ_cons, dl]; have := ih k; omega
theorem dl_at (a : List JV) (k : Nat) (h : k < a.length) : depV a[k] ≤ dl a := by
  induction a generalizing k with
  | nil => simp at h
  | cons x r ih =>
    cases k with
    | zero => simp only [List.getElem_cons_zero, dl]; omega
    | succ k => simp only [List.getElem_cons_succ, dl]; have := ih k (by simpa using h); omega
theorem sum_take (a : List Nat) (k : Nat) : (a.take k).sum ≤ a.sum := by
  have : a.sum = (a.take k).sum + (a.drop k).sum := by rw [← List.sum_append, List.take_append_drop]
  omega
theorem sum_at (a : List Nat) (k : Nat) (h : k < a.length) : a[k] ≤ a.sum := by
  have h1 := sum_take a (k + 1)
  rw [List.take_succ_eq_append_getElem h, List.sum_append] at h1
  simp at h1; omega
theorem joinT_nl : ∀ ts : List (List UInt8), (joinT ts).length = ts.length + nl ts
  | [] => rfl
  | t :: r => by
    have := joinT_nl r
    simp [joinT, nl] at this ⊢
    omega
theorem joinC_nl (ts : List (List UInt8)) : (joinC ts).length + 2 = hold ts.length + nl ts := by
  cases ts with
  | nil => simp [joinC, hold, nl]
  | cons t r =>
    have := joinT_nl r
    simp [joinC, hold, nl] at this ⊢
    omega
theorem depM_dl : ∀ m : JM, depM m = dl (m.toL.map (·.2))
  | .nil => rfl
  | .cons k v r => by rw [depM, JM.toL, List.map_cons, dl, depM_dl r]
theorem cntM_sum : ∀ m : JM, cntM m = (m.toL.map fun q => cntV q.2).sum
  | .nil => rfl
  | .cons k v r => by rw [cntM, JM.toL, List.map_cons, List.sum_cons, cntM_sum r]
def memN (q : List UInt8 × JV) : Nat := (quoted q.1).length + 1 + (ct q.2).length
theorem ctObj_len (m : JM) : (ct (.obj m)).length = hold m.toL.length + (m.toL.map memN).sum := by
  show (mkO (isort (ctM m))).length = _
  have h := joinC_nl ((isort (ctM m)).map memT)
  have e1 : ((isort (ctM m)).map memT).length = m.toL.length := by rw [List.length_map, (isort_perm _).length_eq, ctM_map, List.length_map]
  have e2 : nl ((isort (ctM m)).map memT) = (m.toL.map memN).sum := by
    unfold nl
    have p := (((isort_perm (ctM m)).map memT).map List.length).sum_nat
    rw [p, ctM_map]
    simp only [List.map_map]
    congr 1
    apply List.map_congr_left
    intro q _
    simp only [Function.comp_apply, memN]
    exact memT_parts _
  rw [e1, e2] at h
  simp [mkO]; omega
theorem sumf_at (f : List UInt8 × JV → Nat) {qs : List (List UInt8 × JV)} {q : List UInt8 × JV} (h : q ∈ qs) : f q ≤ (qs.map f).sum := by
  obtain ⟨j, hj, rfl⟩ := List.getElem_of_mem h
  have := sum_at (qs.map f) j (by simpa using hj)
  simpa using this
end Go.Proofs.YtlfonikfjibloaaGreatDoor
