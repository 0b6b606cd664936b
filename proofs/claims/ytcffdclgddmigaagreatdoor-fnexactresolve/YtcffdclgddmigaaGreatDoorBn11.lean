import Derived.Test.YtcffdclgddmigaaGreatDoorBn9
import Derived.Test.YtcffdclgddmigaaGreatDoorBn10
import Derived.Test.YtcffdclgddmigaaGreatDoorBn4
namespace Go.Proofs.YtcffdclgddmigaaGreatDoor
open Go.RowKit

def idxF : Nat → List (List UInt8) → List (List UInt8 × List UInt8)
  | _, [] => []
  | b, t :: r => (decT b, t) :: idxF (b + 1) r
theorem idxF_snoc : ∀ (a : List (List UInt8)) (b : Nat) (t : List UInt8), idxF b (a ++ [t]) = idxF b a ++ [(decT (b + a.length), t)]
  | [], b, t => rfl
  | x :: r, b, t => by
    simp only [List.cons_append, idxF, idxF_snoc r (b + 1) t, List.length_cons]
    rw [show b + 1 + r.length = b + (r.length + 1) by omega]
theorem idxF_len : ∀ (a : List (List UInt8)) (b : Nat), (idxF b a).length = a.length
  | [], _ => rfl
  | _ :: r, b => by simp [idxF, idxF_len r (b + 1)]
/-- The parts of a value, as the model tells them. -/
def partsV : JV → List (List UInt8 × List UInt8)
  | .arr l => idxF 0 (ctL l)
  | .obj m => isort (ctM m)
  | _ => []
theorem ct_ne : ∀ v : JV, okV v → ct v ≠ []
  | .nul, _ => by simp [ct]
  | .tt, _ => by simp [ct]
  | .ff, _ => by simp [ct]
  | .num l, h => (num_plain h).1
  | .str l, _ => by simp [ct, quoted]
  | .arr l, _ => by simp [ct, mkA]
  | .obj m, _ => by simp [ct, mkO]
theorem ctL_top (T : ByteArray) : ∀ l : JL, okL l → ∀ t ∈ ctL l, TopP T t ∧ t ≠ []
  | .nil, _, t, ht => by simp [ctL] at ht
  | .cons v r, h, t, ht => by
    rw [okL] at h
    rw [ctL] at ht
    rcases List.mem_cons.1 ht with e | ht
    · rw [e]; exact ⟨(ctP v h.1).2, ct_ne v h.1⟩
    · exact ctL_top T r h.2 t ht
theorem ctM_top (T : ByteArray) : ∀ m : JM, okM m → ∀ p ∈ ctM m, TopP T p.2 ∧ p.2 ≠ [] ∧ Lib.validD p.1 = true
  | .nil, _, p, hp => by simp [ctM] at hp
  | .cons k v r, h, p, hp => by
    rw [okM] at h
    rw [ctM] at hp
    rcases List.mem_cons.1 hp with e | hp
    · rw [e]; exact ⟨(ctP v h.2.1).2, ct_ne v h.2.1, h.1⟩
    · exact ctM_top T r h.2.2 p hp
/-- Where part k begins. -/
def pk (cs : List (List UInt8)) (k : Nat) : Nat := 1 + (joinC (cs.take k)).length + (if k = 0 then 0 else 1)
theorem joinT_split : ∀ (cs : List (List UInt8)) (k : Nat), (h : k < cs.length) → joinT cs = joinT (cs.take k) ++ 44 :: (cs[k] ++ joinT (cs.drop (k + 1)))
  | t :: r, 0, _ => by simp [joinT]
  | t :: r, k + 1, h => by
    have := joinT_split r k (by simpa using h)
    simp only [List.take_succ_cons, joinT, List.getElem_cons_succ, List.drop_succ_cons]
    rw [this]; simp
theorem joinC_split (cs : List (List UInt8)) (k : Nat) (h : k < cs.length) : joinC cs = (joinC (cs.take k) ++ (if k = 0 then [] else [44])) ++ (cs[k] ++ joinT (cs.drop (k + 1))) := by
  cases cs with
  | nil => simp at h
  | cons t r =>
    cases k with
    | zero => simp [joinC]
    | succ k =>
      have := joinT_split r k (by simpa using h)
      simp only [joinC, List.take_succ_cons, List.getElem_cons_succ, List.drop_succ_cons]
      rw [this]
      simp
theorem stops_tail (cs : List (List UInt8)) (c : UInt8) (hc : c.toNat = 93 ∨ c.toNat = 125) : Stops (joinT cs ++ [c]) := by
  cases cs with
  | nil => exact .inr ⟨c, [], rfl, .inr hc⟩
  | cons t r => exact .inr ⟨44, _, rfl, .inl rfl⟩
theorem drop_pk {T : ByteArray} {cs : List (List UInt8)} {a c : UInt8} (hT : T.data.toList = a :: (joinC cs ++ [c])) (k : Nat) (h : k < cs.length) : T.data.toList.drop (pk cs k) = cs[k] ++ (joinT (cs.drop (k + 1)) ++ [c]) := by
  have e : T.data.toList = (a :: (joinC (cs.take k) ++ (if k = 0 then [] else [44]))) ++ (cs[k] ++ (joinT (cs.drop (k + 1)) ++ [c])) := by
    rw [hT, joinC_split cs k h]; simp
  have hl : (a :: (joinC (cs.take k) ++ (if k = 0 then [] else [44]))).length = pk cs k := by
    unfold pk
    split <;> simp <;> omega
  rw [e, ← hl, List.drop_left]
theorem pk_next (cs : List (List UInt8)) (k : Nat) (h : k < cs.length) : pk cs (k + 1) = pk cs k + cs[k].length + 1 := by
  have e : (joinC (cs.take (k + 1))).length = (joinC (cs.take k)).length + (if k = 0 then 0 else 1) + cs[k].length := by
    rw [List.take_succ_eq_append_getElem h, joinC_snoc]
    by_cases hk : k = 0
    · subst hk; simp [joinC]
    · have hne : cs.take k ≠ [] := by intro e; have := congrArg List.length e; rw [List.length_take, List.length_nil] at this; omega
      rw [if_neg hne, if_neg hk]
      simp; omega
  unfold pk
  rw [e, if_neg (Nat.succ_ne_zero k)]
  omega
theorem pk_in {T : ByteArray} {cs : List (List UInt8)} {a c : UInt8} (hT : T.data.toList = a :: (joinC cs ++ [c])) (k : Nat) (h : k < cs.length) : pk cs k + cs[k].length + 1 ≤ T.size := by
  have h1 := congrArg List.length (drop_pk hT k h)
  rw [List.length_drop, data_len] at h1
  simp at h1
  by_cases hle : pk cs k ≤ T.size
  · omega
  · omega
theorem pk_end {T : ByteArray} {cs : List (List UInt8)} {a c : UInt8} (hT : T.data.toList = a :: (joinC cs ++ [c])) : T.size ≤ pk cs cs.length + 1 := by
  have h1 := congrArg List.length hT
  rw [data_len] at h1
  simp at h1
  unfold pk
  rw [List.take_of_length_le (Nat.le_refl _)]
  omega
theorem cut_pk {T : ByteArray} {i : Nat} {t m : List UInt8} (h : T.data.toList.drop i = t ++ m) : T.extract i (i + t.length) = strOf t := by
  rw [strOf_cut]
  unfold cutB
  rw [h, Nat.add_sub_cancel_left]
  simp
end Go.Proofs.YtcffdclgddmigaaGreatDoor
