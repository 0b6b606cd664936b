import Derived.Test.YtlfonikfjibloaaGreatDoorBt13
import Derived.Test.YtlfonikfjibloaaGreatDoorBt9
import Derived.Test.YtlfonikfjibloaaGreatDoorBt4
import Derived.Test.YtlfonikfjibloaaGreatDoorBt11
import Derived.Test.YtlfonikfjibloaaGreatDoorBt12
namespace Go.Proofs.YtlfonikfjibloaaGreatDoor
open Go.RowKit

theorem piece_sharp {s : ByteArray} {i r n : Nat} (h : piece s i = some (r, n)) : (enc r).length ≤ n := by
  have hlo : ∀ {r : Nat}, r < 128 → (enc r).length ≤ 1 := fun {r} hr => by
    rw [enc, Lib.encodeRune, Lib.encodeRuneZ_one (by omega) (by omega)]; simp
  have h4 := enc_le r
  unfold piece at h
  split at h
  · unfold escP at h
    split at h
    · rename_i v hv
      injection h with h; injection h with h1 h2
      have := smp_lt hv
      subst h1
      have := hlo this
      omega
    · simp only [Option.bind_eq_some_iff] at h
      obtain ⟨u, hu, h⟩ := h
      unfold escU at h
      split at h
      · injection h with h; injection h with h1 h2; omega
      · split at h
        · cases h
        · simp only [Option.bind_eq_some_iff] at h
          obtain ⟨v, hv, h⟩ := h
          split at h
          · injection h with h; injection h with h1 h2; omega
          · cases h
  · split at h
    · cases h
    · have hi : i < s.size := bt_in (by omega)
      split at h
      · injection h with h; injection h with h1 h2
        rename_i hb
        subst h1
        have := hlo hb
        omega
      · split at h
        · cases h
        · rename_i hb hr
          injection h with h; injection h with h1 h2
          have hb0 := bt_at s i hi
          obtain ⟨e, _⟩ := enc_multi s i hi hr (by omega)
          subst h1; subst h2
          rw [enc, e, List.length_take]; omega
theorem strR_sharp {s : ByteArray} : ∀ {i j : Nat} {l : List UInt8}, strR s i = some (l, j) → l.length + (i + 1) ≤ j := by
  intro i
  generalize hn : s.size - i = n
  induction n using Nat.strongRecOn generalizing i with
  | _ n ih =>
    intro j l h
    by_cases h34 : bt s i = 34
    · rw [strR_end h34] at h
      injection h with h; injection h with h1 h2
      subst h1; simp; omega
    · cases hp : piece s i with
      | none => rw [strR_bad h34 hp] at h; cases h
      | some p =>
        obtain ⟨r, n'⟩ := p
        have hk := piece_ok hp
        have he := piece_sharp hp
        rw [strR_go h34 hp] at h
        rcases hq : strR s (i + n') with _ | ⟨l2, j2⟩
        · rw [hq] at h; cases h
        · rw [hq] at h
          injection h with h; injection h with h1 h2
          have := ih (s.size - (i + n')) (by omega) rfl hq
          subst h1
          simp only [List.length_append]
          simp only at h2
          omega
theorem strQ_sharp {s : ByteArray} {i j : Nat} {l : List UInt8} (h : strQ s i = some (l, j)) : l.length + (i + 2) ≤ j := by
  unfold strQ at h
  split at h
  · have := strR_sharp h; omega
  · cases h
mutual
/-- The greatest length that a pointer of a tree may have. -/
def mxV : JV → Nat
  | .arr l => mxL 0 l
  | .obj m => mxM m
  | _ => 0
def mxL : Nat → JL → Nat
  | _, .nil => 0
  | k, .cons v r => max (1 + 2 * (decT k).length + mxV v) (mxL (k + 1) r)
def mxM : JM → Nat
  | .nil => 0
  | .cons k v r => max (1 + 2 * k.length + mxV v) (mxM r)
end
theorem mxL_at : ∀ (l : JL) (k : Nat) (q : List UInt8 × JV), q ∈ idxJ k l.toL → 1 + 2 * q.1.length + mxV q.2 ≤ mxL k l
  | .nil, k, q, h => by simp [JL.toL, idxJ] at h
  | .cons v r, k, q, h => by
    rw [JL.toL, idxJ] at h
    rw [mxL]
    rcases List.mem_cons.1 h with h | h
    · subst h; simp only; omega
    · have := mxL_at r (k + 1) q h; omega
theorem mxM_at : ∀ (m : JM) (q : List UInt8 × JV), q ∈ m.toL → 1 + 2 * q.1.length + mxV q.2 ≤ mxM m
  | .nil, q, h => by simp [JM.toL] at h
  | .cons k v r, q, h => by
    rw [JM.toL] at h
    rw [mxM]
    rcases List.mem_cons.1 h with h | h
    · subst h; simp only; omega
    · have := mxM_at r q h; omega
theorem kids_mx {v : JV} {q : List UInt8 × JV} (h : q ∈ kidsV v) : 1 + 2 * q.1.length + mxV q.2 ≤ mxV v := by
  cases v with
  | arr l => rw [mxV]; exact mxL_at l 0 q h
  | obj m => rw [mxV]; exact mxM_at m q ((isortJ_perm _).subset h)
  | nul => simp [kidsV] at h
  | tt => simp [kidsV] at h
  | ff => simp [kidsV] at h
  | num l => simp [kidsV] at h
  | str l => simp [kidsV] at h
theorem hitF_mx : ∀ (n : Nat) (p : List UInt8) (v : JV) (x : List UInt8 × List UInt8), x ∈ hitF n p v → x.1.length ≤ p.length + mxV v
  | 0, p, v, x, h => by simp [hitF] at h
  | n + 1, p, v, x, h => by
    rw [hitF] at h
    rcases List.mem_cons.1 h with h | h
    · subst h; simp only; omega
    · obtain ⟨q, hq, hx⟩ := List.mem_flatMap.1 h
      have h1 := hitF_mx n _ _ x hx
      have h2 := kids_mx hq
      have h3 := ptrN_len p q.1
      omega
theorem p_mx (s : ByteArray) : ∀ f i, (∀ v j, pv s f i = some (v, j) → mxV v ≤ 2 * (j - i)) ∧ (∀ l j, pa s f i = some (l, j) → ∀ k, mxL k l ≤ 2 * k + 2 * (j - i) + 1) ∧ (∀ m j, po s f i = some (m, j) → mxM m ≤ 2 * (j - i))
  | 0, i => ⟨fun v j h => by simp [pv] at h, fun v j h => by simp [pa] at h, fun v j h => by simp [po] at h⟩
  | f + 1, i => by
    refine ⟨fun v j h => ?_, fun l j h => ?_, fun m j h => ?_⟩
    · have hok := (p_ok s (f + 1) i).1 v j h
      rw [pv] at h
      have g := sk_ge s (i + 1)
      split at h
      · split at h
        · injection h with h; injection h with h0 h
          subst h0
          simp [mxV, mxL]
        · simp only [Option.map_eq_some_iff] at h
          obtain ⟨⟨l, k⟩, hk, h⟩ := h
          injection h with h0 h
          have h1 := (p_mx s f (sk s (i + 1))).2.1 l k hk 0
          have h2 := (p_ok s f (sk s (i + 1))).2.1 l k hk
          subst h0
          rw [mxV]
          simp only at h ⊢; omega
      · split at h
        · split at h
          · injection h with h; injection h with h0 h
            subst h0
            simp [mxV, mxM]
          · simp only [Option.map_eq_some_iff] at h
            obtain ⟨⟨l, k⟩, hk, h⟩ := h
            injection h with h0 h
            have h1 := (p_mx s f (sk s (i + 1))).2.2 l k hk
            have h2 := (p_ok s f (sk s (i + 1))).2.2 l k hk
            subst h0
            rw [mxV]
            simp only at h ⊢; omega
        · split at h
          · simp only [Option.map_eq_some_iff] at h
            obtain ⟨⟨l, k⟩, hk, h⟩ := h
            injection h with h0 h
            subst h0
            simp [mxV]
          · split at h
            · injection h with h; injection h with h0 h
              subst h0; simp [mxV]
            · split at h
              · injection h with h; injection h with h0 h
                subst h0; simp [mxV]
              · split at h
                · injection h with h; injection h with h0 h
                  subst h0; simp [mxV]
                · simp only [Option.map_eq_some_iff] at h
                  obtain ⟨⟨l, k⟩, hk, h⟩ := h
                  injection h with h0 h
                  subst h0
                  simp [mxV]
    · rw [pa] at h
      simp only [Option.bind_eq_some_iff] at h
      obtain ⟨⟨v, k⟩, hk, h⟩ := h
      have h1 := (p_ok s f i).1 v k hk
      have h1' := (p_mx s f i).1 v k hk
      have g1 := sk_ge s k
      simp only at h
      intro m
      have hd := decT_len m
      split at h
      · injection h with h; injection h with h0 h
        subst h0
        simp only [mxL]; omega
      · split at h
        · simp only [Option.map_eq_some_iff] at h
          obtain ⟨⟨l, n⟩, hn, h⟩ := h
          injection h with h0 h
          have h2 := (p_ok s f _).2.1 l n hn
          have h2' := (p_mx s f _).2.1 l n hn (m + 1)
          have g2 := sk_ge s (sk s k + 1)
          subst h0
          rw [mxL]
          simp only at h ⊢; omega
        · cases h
    · rw [po] at h
      simp only [Option.bind_eq_some_iff] at h
      obtain ⟨⟨key, a⟩, ha, h⟩ := h
      have h0 := strQ_ok ha
      have h0' := strQ_sharp ha
      simp only at h
      split at h
      · simp only [Option.bind_eq_some_iff] at h
        obtain ⟨⟨v, k⟩, hk, h⟩ := h
        have h1 := (p_ok s f _).1 v k hk
        have h1' := (p_mx s f _).1 v k hk
        have g0 := sk_ge s a
        have g3 := sk_ge s (sk s a + 1)
        have g1 := sk_ge s k
        simp only at h
        split at h
        · injection h with h; injection h with h0 h
          subst h0
          simp only [mxM]; omega
        · split at h
          · simp only [Option.map_eq_some_iff] at h
            obtain ⟨⟨l, n⟩, hn, h⟩ := h
            injection h with h0 h
            have h2 := (p_ok s f _).2.2 l n hn
            have h2' := (p_mx s f _).2.2 l n hn
            have g2 := sk_ge s (sk s k + 1)
            subst h0
            rw [mxM]
            simp only at h ⊢; omega
          · cases h
      · cases h
theorem val_mx {s : ByteArray} {i j : Nat} {v : JV} (h : val s i = some (v, j)) : mxV v ≤ 2 * (j - i) := (p_mx s _ i).1 v j h
end Go.Proofs.YtlfonikfjibloaaGreatDoor

namespace Go.Proofs.YtlfonikfjibloaaGreatDoor
open Go.RowKit

theorem readR_code {s : ByteArray} {c : Nat} (h : readR s = .inl c) : c ≠ 0 := by
  unfold readR at h
  repeat' split at h
  all_goals first
    | (injection h with h; omega)
    | cases h
/-- What is known of a document that was drawn. -/
structure DocIs (v : JV) : Prop where
  ok : okV v
  tw : twV v = false
  dep : depV v ≤ 100
  len : (ct v).length ≤ 600000
  cnt : cntV v ≤ 3000
  mx : mxV v ≤ 40000
theorem doc_mx {s : ByteArray} {v : JV} (h : docR s = some v) : mxV v ≤ 2 * s.size := by
  unfold docR at h
  cases hv : val s (sk s 0) with
  | none => rw [hv] at h; simp at h
  | some q =>
    obtain ⟨u, j⟩ := q
    have e : u = v := by
      rw [hv] at h
      simp only [Option.bind_some] at h
      split at h
      · injection h
      · cases h
    subst e
    have h2 := val_mx hv
    have h3 := val_ok hv
    omega
theorem readR_doc {s : ByteArray} {v : JV} (h : readR s = .inr v) : DocIs v := by
  unfold readR at h
  split at h
  · cases h
  · rename_i hs
    split at h
    · cases h
    · rename_i v' hd
      split at h
      · cases h
      · split at h
        · cases h
        · rename_i hb ht
          split at h
          · cases h
          · rename_i hl
            injection h with h
            subst h
            obtain ⟨f1, f2, f3⟩ := doc_facts hd
            have f4 := doc_mx hd
            exact ⟨f1, by simpa using ht, by omega, by omega, by omega, by omega⟩
/-- The document that stands in for a bad one. -/
def dflt : JV := .obj (.cons [97] (.arr (.cons (.num [49]) (.cons (.num [50]) (.cons (.obj (.cons [98] .nul .nil)) .nil)))) .nil)
theorem dflt_ct : ct dflt = [123, 34, 97, 34, 58, 91, 49, 44, 50, 44, 123, 34, 98, 34, 58, 110, 117, 108, 108, 125, 93, 125] := by rfl
theorem dflt_read : readR (strOf [123, 34, 97, 34, 58, 91, 49, 44, 50, 44, 123, 34, 98, 34, 58, 110, 117, 108, 108, 125, 93, 125]) = .inr dflt := by rfl
theorem dflt_doc : DocIs dflt := readR_doc dflt_read
end Go.Proofs.YtlfonikfjibloaaGreatDoor

namespace Go.Proofs.YtlfonikfjibloaaGreatDoor
open Go.RowKit

/-- A token's index as the model gives it. -/
def idxZ (t : List UInt8) : Int := match idxT t with
  | some i => (i : Int)
  | none => -1
theorem tokD (s : ByteArray) (k : Nat) (h : k < s.size) : s.data.toList[k]'(by rw [data_len]; exact h) = s[k] := rfl
theorem dig_lt : ∀ (n : Nat) (t : List UInt8), t.length = n → digV t < 10 ^ n ∨ ¬ (∀ c ∈ t, isDg c.toNat = true) := by
  intro n
  induction n with
  | zero => intro t h; rw [List.eq_nil_of_length_eq_zero h]; exact .inl (by simp [digV])
  | succ n ih =>
    intro t h
    rcases List.eq_nil_or_concat t with e | ⟨a, c, e⟩
    · subst e; simp at h
    · rw [List.concat_eq_append] at e
      subst e
      by_cases hd : ∀ x ∈ a ++ [c], isDg x.toNat = true
      · left
        have hc := isDg_iff.1 (hd c (by simp))
        rcases ih a (by simpa using h) with h1 | h1
        · rw [digV_snoc, Nat.pow_succ]; omega
        · exact absurd (fun x hx => hd x (by simp [hx])) h1
      · exact .inr hd

end Go.Proofs.YtlfonikfjibloaaGreatDoor
