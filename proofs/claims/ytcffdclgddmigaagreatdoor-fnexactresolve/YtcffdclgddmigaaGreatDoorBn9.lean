import Derived.Test.YtcffdclgddmigaaGreatDoorBn4
import Derived.Test.YtcffdclgddmigaaGreatDoorBn8
import Derived.Test.YtcffdclgddmigaaGreatDoorBn3
import Derived.Deep.LoopGhost
import Derived.Test.YtcffdclgddmigaaGreatDoorBn6
import Derived.Test.YtcffdclgddmigaaGreatDoorBn1
namespace Go.Proofs.YtcffdclgddmigaaGreatDoor
open Go.RowKit

theorem bt_app0 (a l : List UInt8) (k : Nat) (h : k < a.length) : bt (strOf (a ++ l)) k = (a.getD k 0).toNat := by
  unfold bt; rw [strOf_toList]
  simp only [List.getD]
  rw [List.getElem?_append_left h]
theorem ofNat_lt {n : Nat} (h : n < 256) : (UInt8.ofNat n).toNat = n := by rw [UInt8.toNat_ofNat']; omega

/-- A rune's bytes are read as that many. -/
theorem rl_utf (r : Nat) (h : r ≤ 1114111) (h' : r < 55296 ∨ 57344 ≤ r) (l : List UInt8) : rl (strOf (utf r ++ l)) 0 = (utf r).length ∧ 0 < (utf r).length := by
  have hz : (strOf (utf r ++ l)).size - 0 = (utf r).length + l.length := by rw [strOf_size, List.length_append]; omega
  unfold rl
  rw [hz]
  by_cases h1 : r < 128
  · have e : utf r = [UInt8.ofNat r] := by unfold utf utfZ; rw [if_pos h1]; rfl
    rw [e]
    refine ⟨?_, by simp⟩
    rw [bt_app0 _ _ 0 (by simp), rlN_one]
    · rfl
    · show (UInt8.ofNat r).toNat < 128
      rw [ofNat_lt (by omega)]; exact h1
  · by_cases h2 : r < 2048
    · have e : utf r = [UInt8.ofNat (192 + r / 64), UInt8.ofNat (128 + r % 64)] := by unfold utf utfZ; rw [if_neg h1, if_pos h2]; rfl
      rw [e]
      refine ⟨?_, by simp⟩
      rw [bt_app0 _ _ 0 (by simp), bt_app0 _ _ (0 + 1) (by simp)]
      have b0 : ([UInt8.ofNat (192 + r / 64), UInt8.ofNat (128 + r % 64)].getD 0 0).toNat = 192 + r / 64 := ofNat_lt (by omega)
      have b1 : ([UInt8.ofNat (192 + r / 64), UInt8.ofNat (128 + r % 64)].getD (0 + 1) 0).toNat = 128 + r % 64 := ofNat_lt (by omega)
      rw [b0, b1, rlN_2 (by omega) (by omega) (by omega), if_pos (by simp only [List.length_cons, List.length_nil]; omega)]
      rfl
    · by_cases h3 : r < 65536
      · have e : utf r = [UInt8.ofNat (224 + r / 4096), UInt8.ofNat (128 + r / 64 % 64), UInt8.ofNat (128 + r % 64)] := by unfold utf utfZ; rw [if_neg h1, if_neg h2, if_pos h3]; rfl
        rw [e]
        refine ⟨?_, by simp⟩
        rw [bt_app0 _ _ 0 (by simp), bt_app0 _ _ (0 + 1) (by simp), bt_app0 _ _ (0 + 2) (by simp)]
        have b0 : ([UInt8.ofNat (224 + r / 4096), UInt8.ofNat (128 + r / 64 % 64), UInt8.ofNat (128 + r % 64)].getD 0 0).toNat = 224 + r / 4096 := ofNat_lt (by omega)
        have b1 : ([UInt8.ofNat (224 + r / 4096), UInt8.ofNat (128 + r / 64 % 64), UInt8.ofNat (128 + r % 64)].getD (0 + 1) 0).toNat = 128 + r / 64 % 64 := ofNat_lt (by omega)
        have b2 : ([UInt8.ofNat (224 + r / 4096), UInt8.ofNat (128 + r / 64 % 64), UInt8.ofNat (128 + r % 64)].getD (0 + 2) 0).toNat = 128 + r % 64 := ofNat_lt (by omega)
        rw [b0, b1, b2, rlN_3 (by omega) (by omega) (by omega) (by omega), if_pos (by simp only [List.length_cons, List.length_nil]; omega)]
        rfl
      · have e : utf r = [UInt8.ofNat (240 + r / 262144), UInt8.ofNat (128 + r / 4096 % 64), UInt8.ofNat (128 + r / 64 % 64), UInt8.ofNat (128 + r % 64)] := by unfold utf utfZ; rw [if_neg h1, if_neg h2, if_neg h3]; rfl
        rw [e]
        refine ⟨?_, by simp⟩
        rw [bt_app0 _ _ 0 (by simp), bt_app0 _ _ (0 + 1) (by simp), bt_app0 _ _ (0 + 2) (by simp), bt_app0 _ _ (0 + 3) (by simp)]
        have b0 : ([UInt8.ofNat (240 + r / 262144), UInt8.ofNat (128 + r / 4096 % 64), UInt8.ofNat (128 + r / 64 % 64), UInt8.ofNat (128 + r % 64)].getD 0 0).toNat = 240 + r / 262144 := ofNat_lt (by omega)
        have b1 : ([UInt8.ofNat (240 + r / 262144), UInt8.ofNat (128 + r / 4096 % 64), UInt8.ofNat (128 + r / 64 % 64), UInt8.ofNat (128 + r % 64)].getD (0 + 1) 0).toNat = 128 + r / 4096 % 64 := ofNat_lt (by omega)
        have b2 : ([UInt8.ofNat (240 + r / 262144), UInt8.ofNat (128 + r / 4096 % 64), UInt8.ofNat (128 + r / 64 % 64), UInt8.ofNat (128 + r % 64)].getD (0 + 2) 0).toNat = 128 + r / 64 % 64 := ofNat_lt (by omega)
        have b3 : ([UInt8.ofNat (240 + r / 262144), UInt8.ofNat (128 + r / 4096 % 64), UInt8.ofNat (128 + r / 64 % 64), UInt8.ofNat (128 + r % 64)].getD (0 + 3) 0).toNat = 128 + r % 64 := ofNat_lt (by omega)
        rw [b0, b1, b2, b3, rlN_4 (by omega) (by omega) (by omega) (by omega) (by omega), if_pos (by simp only [List.length_cons, List.length_nil]; omega)]
        rfl

theorem valid_front {a l : List UInt8} (h0 : 0 < a.length) (h : rl (strOf (a ++ l)) 0 = a.length) : Lib.validD (a ++ l) = Lib.validD l := by
  have := valid_go (strOf (a ++ l)) 0 (by rw [strOf_size, List.length_append]; omega) (by rw [h]; omega)
  rw [strOf_toList, h, Nat.zero_add, List.drop_zero, List.drop_left] at this
  exact this

theorem piece_valid {s : ByteArray} {i r n : Nat} (h : piece s i = some (r, n)) (l : List UInt8) : Lib.validD (enc r ++ l) = Lib.validD l := by
  have fin : r ≤ 1114111 → (r < 55296 ∨ 57344 ≤ r) → Lib.validD (enc r ++ l) = Lib.validD l := fun h1 h2 => by
    have e : enc r = utf r := (utf_enc h1 h2).symm
    rw [e]
    obtain ⟨a, b⟩ := rl_utf r h1 h2 l
    exact valid_front b a
  unfold piece at h
  split at h
  · have := escP_ok h; exact fin this.2.2.1 this.2.2.2
  · split at h
    · cases h
    · have hi : i < s.size := bt_in (by omega)
      split at h
      · injection h with h; injection h with h1 h2
        exact fin (by omega) (by omega)
      · rename_i h8
        split at h
        · cases h
        · rename_i hr
          injection h with h; injection h with h1 h2
          have h8' : ¬ s[i].toNat < 128 := by rw [← bt_at s i hi]; exact h8
          obtain ⟨g1, g2, g3, g4⟩ := enc_multi s i hi hr h8'
          have e : enc r = (s.data.toList.drop i).take (rl s i) := by unfold enc; rw [← h1]; exact g1
          have hle := rl_le s i hi
          have hlen : ((s.data.toList.drop i).take (rl s i)).length = rl s i := by rw [List.length_take, List.length_drop, data_len]; omega
          rw [e]
          refine valid_front (by omega) ?_
          rw [hlen]
          exact rl_same (m := l) hi h8' hr (by rw [strOf_toList, List.drop_zero])

theorem strR_valid {s : ByteArray} : ∀ {i j : Nat} {l : List UInt8}, strR s i = some (l, j) → Lib.validD l = true := by
  intro i
  generalize hn : s.size - i = n
  induction n using Nat.strongRecOn generalizing i with
  | _ n ih =>
    intro j l h
    by_cases h34 : bt s i = 34
    · rw [strR_end h34] at h
      injection h with h; injection h with h1 h2
      subst h1; rfl
    · cases hp : piece s i with
      | none => rw [strR_bad h34 hp] at h; cases h
      | some p =>
        obtain ⟨r, n'⟩ := p
        have hk := piece_ok hp
        rw [strR_go h34 hp] at h
        rcases hq : strR s (i + n') with _ | ⟨l2, j2⟩
        · rw [hq] at h; cases h
        · rw [hq] at h
          injection h with h; injection h with h1 h2
          simp only at h1
          rw [← h1, piece_valid hp]
          exact ih (s.size - (i + n')) (by omega) rfl hq
theorem strQ_valid {s : ByteArray} {i j : Nat} {l : List UInt8} (h : strQ s i = some (l, j)) : Lib.validD l = true := by
  unfold strQ at h
  split at h
  · exact strR_valid h
  · cases h

theorem drop_size2 {s : ByteArray} {i : Nat} {m : List UInt8} (h : s.data.toList.drop i = m) (hm : m ≠ []) : i < s.size := by
  have := drop_size h hm
  have : 0 < m.length := by cases m with
    | nil => exact absurd rfl hm
    | cons _ _ => simp
  omega

/-- Pieces that stand for bytes are read as these bytes, whatever stands behind. -/
theorem str_at (s T : ByteArray) (m : List UInt8) : ∀ (f pos : Nat), s.size ≤ pos + f → Lib.validD (s.data.toList.drop pos) = true → ∀ j, T.data.toList.drop j = qs (s.data.toList.drop pos) ++ 34 :: m → strR T j = some (s.data.toList.drop pos, j + (qs (s.data.toList.drop pos)).length + 1)
  | f, pos, h, hv, j, hj => by
    by_cases hp : pos < s.size
    · cases f with
      | zero => omega
      | succ f =>
        have hr : ¬ rl s pos = 0 := fun e => by rw [valid_bad s pos hp e] at hv; cases hv
        have hv2 := hv
        rw [valid_go s pos hp hr] at hv2
        by_cases h8 : s[pos].toNat < 128
        · have e1 : rl s pos = 1 := by unfold rl; rw [rlN_one (by rw [bt_at s pos hp]; exact h8)]
          rw [e1] at hv2
          have hq : T.data.toList.drop j = qB s[pos] ++ (qs (s.data.toList.drop (pos + 1)) ++ 34 :: m) := by
            rw [hj, drop_at s pos hp]; simp [qs]
          obtain ⟨p1, p2⟩ := piece_q h8 hq
          have ih := str_at s T m f (pos + 1) (by omega) hv2 (j + (qB s[pos]).length) (drop_past hq)
          rw [strR_go p1 p2, ih, enc_lo h8, show UInt8.ofNat s[pos].toNat = s[pos] from UInt8.ofNat_toNat, drop_at s pos hp]
          have e2 : (qs (s[pos] :: s.data.toList.drop (pos + 1))).length = (qB s[pos]).length + (qs (s.data.toList.drop (pos + 1))).length := by simp [qs]
          rw [e2]
          simp only [Option.map_some, Option.some.injEq, Prod.mk.injEq]
          exact ⟨rfl, by omega⟩
        · obtain ⟨g1, g2, g3, g4⟩ := enc_multi s pos hp hr h8
          have hsplit := (List.take_append_drop (rl s pos) (s.data.toList.drop pos)).symm
          rw [List.drop_drop] at hsplit
          have hqs : qs (s.data.toList.drop pos) = (s.data.toList.drop pos).take (rl s pos) ++ qs (s.data.toList.drop (pos + rl s pos)) := by
            conv => lhs; rw [hsplit]
            rw [qs_app, qs_high _ g2]
          have hq : T.data.toList.drop j = (s.data.toList.drop pos).take (rl s pos) ++ (qs (s.data.toList.drop (pos + rl s pos)) ++ 34 :: m) := by
            rw [hj, hqs, List.append_assoc]
          have hle := rl_le s pos hp
          have hlen : ((s.data.toList.drop pos).take (rl s pos)).length = rl s pos := by rw [List.length_take, List.length_drop, data_len]; omega
          have hrl := rl_same hp h8 hr hq
          have ih := str_at s T m f (pos + rl s pos) (by omega) hv2 (j + rl s pos) (by have := drop_past hq; rwa [hlen] at this)
          have hjT : j < T.size := by
            have := drop_size hq (by intro e; have := congrArg List.length e; rw [List.length_append, hlen, List.length_nil] at this; omega)
            rw [List.length_append, hlen] at this; omega
          have b0 : bt T j = bt s pos := by
            have x := bt_drop T j 0
            have y := bt_drop s pos 0
            rw [Nat.add_zero] at x y
            rw [x, y, hq, take_getD _ _ _ _ (by omega) (by rw [List.length_drop, data_len]; omega)]
          have hb0 := bt_at s pos hp
          have b8 : ¬ T[j].toNat < 128 := by rw [← bt_at T j hjT]; omega
          obtain ⟨k1, k2, k3, k4⟩ := enc_multi T j hjT (by rw [hrl]; exact hr) b8
          have hp2 : piece T j = some ((Utf8.decode T j).1, rl s pos) := by
            unfold piece
            rw [if_neg (by omega), if_neg (by omega), if_neg (by omega), if_neg (by rw [hrl]; exact hr), hrl]
          rw [strR_go (by omega) hp2, ih]
          unfold enc
          rw [k1, hq, hrl, hqs]
          simp only [Option.map_some, Option.some.injEq, Prod.mk.injEq]
          refine ⟨?_, by rw [List.length_append, hlen]; omega⟩
          conv => rhs; rw [hsplit]
          rw [List.take_append_of_le_length (by omega), List.take_of_length_le (by omega)]
    · rw [drop_end s pos hp] at hj ⊢
      have b0 := bt_drop T j 0
      rw [hj] at b0
      change bt T j = 34 at b0
      rw [strR_end b0]
      rfl

/-- A quoted text in a text is read back. -/
theorem strQ_at (l : List UInt8) (T : ByteArray) (m : List UInt8) (hv : Lib.validD l = true) (j : Nat) (hj : T.data.toList.drop j = quoted l ++ m) : strQ T j = some (l, j + (quoted l).length) := by
  have hj' : T.data.toList.drop j = 34 :: (qs l ++ 34 :: m) := by rw [hj]; simp [quoted]
  have b : bt T j = 34 := by have := bt_drop T j 0; rw [hj'] at this; exact this
  have h := str_at (strOf l) T m l.length 0 (by rw [strOf_size]; omega) (by rw [strOf_toList]; exact hv) (j + 1) (by
    have := drop_past (m := [34]) (n := qs l ++ 34 :: m) hj'
    rw [strOf_toList]; exact this)
  rw [strOf_toList, List.drop_zero] at h
  unfold strQ
  rw [if_pos b, h]
  have e : (quoted l).length = (qs l).length + 2 := by simp [quoted]
  rw [e]
  congr 2
  omega

mutual
/-- A tree whose strings are valid UTF-8 and whose numbers are such texts as are read. -/
def okV : JV → Prop
  | .nul => True
  | .tt => True
  | .ff => True
  | .num l => ∃ (c : UInt8) (r : List UInt8), l = c :: r ∧ (c.toNat = 45 ∨ isDg c.toNat = true) ∧ ∀ b ∈ r, isDg b.toNat = true
  | .str l => Lib.validD l = true
  | .arr l => okL l
  | .obj m => okM m
def okL : JL → Prop
  | .nil => True
  | .cons v r => okV v ∧ okL r
def okM : JM → Prop
  | .nil => True
  | .cons k v r => Lib.validD k = true ∧ okV v ∧ okM r
end
end Go.Proofs.YtcffdclgddmigaaGreatDoor

namespace Go.Proofs.YtcffdclgddmigaaGreatDoor
open Go.RowKit

theorem dgF_all (s : ByteArray) : ∀ f i k, i ≤ k → k < dgF s f i → isDg (bt s k) = true
  | 0, i, k, h1, h2 => by simp [dgF] at h2; omega
  | f + 1, i, k, h1, h2 => by
    rw [dgF] at h2
    split at h2
    · rename_i hd
      by_cases e : k = i
      · subst e; exact hd
      · exact dgF_all s f (i + 1) k (by omega) h2
    · omega
theorem dg_all {s : ByteArray} {i k : Nat} (h1 : i ≤ k) (h2 : k < dg s i) : isDg (bt s k) = true := dgF_all s _ i k h1 h2
theorem cutB_at {s : ByteArray} {i j : Nat} {c : UInt8} (h : c ∈ cutB s i j) : ∃ k, i ≤ k ∧ k < j ∧ c.toNat = bt s k := by
  unfold cutB at h
  obtain ⟨n, hn, rfl⟩ := List.getElem_of_mem h
  rw [List.length_take, List.length_drop] at hn
  refine ⟨i + n, by omega, by omega, ?_⟩
  unfold bt
  rw [data_len] at hn
  have hk : i + n < s.data.size := by show i + n < s.size; omega
  simp only [List.getD, List.getElem_take, List.getElem_drop, Array.getElem_toList, Array.getElem?_toList]
  rw [Array.getElem?_eq_getElem hk]
  rfl
theorem cutB_head {s : ByteArray} {i j : Nat} (h : i < j) (hi : i < s.size) : cutB s i j = s.data.toList.getD i 0 :: cutB s (i + 1) j := by
  unfold cutB
  rw [drop_at s i hi, show j - i = (j - (i + 1)) + 1 by omega, List.take_succ_cons]
  congr 1
  rw [List.getD, List.getElem?_eq_getElem (by rw [data_len]; exact hi)]
  rfl
theorem nm_form {s : ByteArray} {i j : Nat} {l : List UInt8} (h : nm s i = some (l, j)) : ∃ (c : UInt8) (r : List UInt8), l = c :: r ∧ (c.toNat = 45 ∨ isDg c.toNat = true) ∧ ∀ b ∈ r, isDg b.toNat = true := by
  have hok := nm_ok h
  unfold nm at h
  split at h
  · rename_i hd
    injection h with h; injection h with h1 h2
    have hlt : nmD s i < s.size := bt_in (by have := isDg_iff.1 hd; omega)
    have hge : i ≤ nmD s i := by unfold nmD; split <;> omega
    have hall : ∀ k, nmD s i ≤ k → k < nmE s i → isDg (bt s k) = true := fun k h1 h2 => by
      unfold nmE at h2
      split at h2
      · have : k = nmD s i := by omega
        rw [this]; exact hd
      · exact dg_all h1 h2
    have hraw : ∃ (c : UInt8) (r : List UInt8), cutB s i (nmE s i) = c :: r ∧ (c.toNat = 45 ∨ isDg c.toNat = true) ∧ ∀ b ∈ r, isDg b.toNat = true := by
      refine ⟨_, _, cutB_head (by omega) (by omega), ?_, fun b hb => ?_⟩
      · by_cases h45 : bt s i = 45
        · exact .inl h45
        · right
          have e : nmD s i = i := by unfold nmD; rw [if_neg h45]
          rw [e] at hd; exact hd
      · obtain ⟨k, k1, k2, k3⟩ := cutB_at hb
        rw [k3]
        refine hall k ?_ k2
        unfold nmD; split <;> omega
    unfold norm0 at h1
    split at h1
    · exact ⟨48, [], h1.symm, .inr rfl, fun b hb => by simp at hb⟩
    · obtain ⟨c, r, e, a, b⟩ := hraw
      exact ⟨c, r, by rw [← h1, e], a, b⟩
  · cases h

theorem p_okV (s : ByteArray) : ∀ f i, (∀ v j, pv s f i = some (v, j) → okV v) ∧ (∀ l j, pa s f i = some (l, j) → okL l) ∧ (∀ m j, po s f i = some (m, j) → okM m)
  | 0, i => ⟨fun v j h => by simp [pv] at h, fun v j h => by simp [pa] at h, fun v j h => by simp [po] at h⟩
  | f + 1, i => by
    refine ⟨fun v j h => ?_, fun l j h => ?_, fun m j h => ?_⟩
    · rw [pv] at h
      split at h
      · split at h
        · injection h with h; injection h with hv h; subst hv; rw [okV, okL]; trivial
        · simp only [Option.map_eq_some_iff] at h
          obtain ⟨⟨l, k⟩, hk, h⟩ := h
          injection h with hv h
          subst hv; rw [okV]; exact (p_okV s f (sk s (i + 1))).2.1 l k hk
      · split at h
        · split at h
          · injection h with h; injection h with hv h; subst hv; rw [okV, okM]; trivial
          · simp only [Option.map_eq_some_iff] at h
            obtain ⟨⟨l, k⟩, hk, h⟩ := h
            injection h with hv h
            subst hv; rw [okV]; exact (p_okV s f (sk s (i + 1))).2.2 l k hk
        · split at h
          · simp only [Option.map_eq_some_iff] at h
            obtain ⟨⟨l, k⟩, hk, h⟩ := h
            injection h with hv h
            subst hv; rw [okV]; exact strQ_valid hk
          · split at h
            · injection h with h; injection h with hv h; subst hv; rw [okV]; trivial
            · split at h
              · injection h with h; injection h with hv h; subst hv; rw [okV]; trivial
              · split at h
                · injection h with h; injection h with hv h; subst hv; rw [okV]; trivial
                · simp only [Option.map_eq_some_iff] at h
                  obtain ⟨⟨l, k⟩, hk, h⟩ := h
                  injection h with hv h
                  subst hv; rw [okV]; exact nm_form hk
    · rw [pa] at h
      simp only [Option.bind_eq_some_iff] at h
      obtain ⟨⟨v, k⟩, hk, h⟩ := h
      have h1 := (p_okV s f i).1 v k hk
      simp only at h
      split at h
      · injection h with h; injection h with hv h; subst hv; rw [okL, okL]; exact ⟨h1, trivial⟩
      · split at h
        · simp only [Option.map_eq_some_iff] at h
          obtain ⟨⟨l, n⟩, hn, h⟩ := h
          injection h with hv h
          subst hv; rw [okL]; exact ⟨h1, (p_okV s f _).2.1 l n hn⟩
        · cases h
    · rw [po] at h
      simp only [Option.bind_eq_some_iff] at h
      obtain ⟨⟨key, a⟩, ha, h⟩ := h
      have h0 := strQ_valid ha
      simp only at h
      split at h
      · simp only [Option.bind_eq_some_iff] at h
        obtain ⟨⟨v, k⟩, hk, h⟩ := h
        have h1 := (p_okV s f _).1 v k hk
        simp only at h
        split at h
        · injection h with h; injection h with hv h; subst hv; rw [okM, okM]; exact ⟨h0, h1, trivial⟩
        · split at h
          · simp only [Option.map_eq_some_iff] at h
            obtain ⟨⟨l, n⟩, hn, h⟩ := h
            injection h with hv h
            subst hv; rw [okM]; exact ⟨h0, h1, (p_okV s f _).2.2 l n hn⟩
          · cases h
      · cases h
theorem val_okV {s : ByteArray} {i j : Nat} {v : JV} (h : val s i = some (v, j)) : okV v := (p_okV s _ i).1 v j h

mutual
theorem dep_cnt : ∀ v : JV, depV v ≤ cntV v ∧ 1 ≤ depV v
  | .nul => ⟨Nat.le_refl _, Nat.le_refl _⟩
  | .tt => ⟨Nat.le_refl _, Nat.le_refl _⟩
  | .ff => ⟨Nat.le_refl _, Nat.le_refl _⟩
  | .num _ => ⟨Nat.le_refl _, Nat.le_refl _⟩
  | .str _ => ⟨Nat.le_refl _, Nat.le_refl _⟩
  | .arr l => by rw [depV, cntV]; have := dep_cntL l; omega
  | .obj m => by rw [depV, cntV]; have := dep_cntM m; omega
theorem dep_cntL : ∀ l : JL, depL l ≤ cntL l
  | .nil => Nat.le_refl _
  | .cons v r => by rw [depL, cntL]; have := dep_cntL r; have := dep_cnt v; omega
theorem dep_cntM : ∀ m : JM, depM m ≤ cntM m
  | .nil => Nat.le_refl _
  | .cons k v r => by rw [depM, cntM]; have := dep_cntM r; have := dep_cnt v; omega
end
end Go.Proofs.YtcffdclgddmigaaGreatDoor

namespace Go.Proofs.YtcffdclgddmigaaGreatDoor
open Go.RowKit

def isOp (c : Nat) : Bool := c == 91 || c == 123
def isCl (c : Nat) : Bool := c == 93 || c == 125
/-- The next place to look at. -/
def nxt (T : ByteArray) (i : Nat) : Option Nat := if bt T i = 34 then (strQ T i).map (·.2) else some (i + 1)
/-- What is open behind a byte; none where nothing was open that it could close. -/
def op1 (c op : Nat) : Option Nat := if isOp c then some (op + 1) else if isCl c then (if op = 0 then none else some (op - 1)) else some op
def stopAt (T : ByteArray) (i : Nat) : Bool := decide (i = T.size) || bt T i == 44 || bt T i == 93 || bt T i == 125
def endF (T : ByteArray) : Nat → Nat → Nat → Option Nat
  | 0, _, _ => none
  | f + 1, op, i => if i < T.size then (nxt T i).bind fun j => (op1 (bt T i) op).bind fun o => if o = 0 ∧ stopAt T j = true then some j else endF T f o j else none
def wiF (T : ByteArray) : Nat → Nat → Nat → Nat → Option Nat
  | 0, _, _, _ => none
  | f + 1, op, mo, i => if i < T.size then (nxt T i).bind fun j => (op1 (bt T i) op).bind fun o => wiF T f o (max mo o) j else some mo

section
variable {T : ByteArray}
theorem at_head {i : Nat} {c : UInt8} {m : List UInt8} (h : T.data.toList.drop i = c :: m) : i < T.size ∧ bt T i = c.toNat ∧ T.data.toList.drop (i + 1) = m := by
  refine ⟨drop_size2 h (by simp), ?_, ?_⟩
  · have := bt_drop T i 0; rw [h] at this; exact this
  · exact drop_past (m := [c]) (n := m) h
/-- What stands behind a value. -/
def Stops (m : List UInt8) : Prop := m = [] ∨ ∃ c r, m = c :: r ∧ (c.toNat = 44 ∨ c.toNat = 93 ∨ c.toNat = 125)
theorem stop_of {i : Nat} {m : List UInt8} (h : T.data.toList.drop i = m) (hi : i ≤ T.size) (hm : Stops m) : stopAt T i = true := by
  unfold stopAt
  rcases hm with rfl | ⟨c, r, rfl, hc⟩
  · have : i = T.size := by
      have := congrArg List.length h
      rw [List.length_drop, data_len, List.length_nil] at this
      omega
    simp [this]
  · obtain ⟨_, hb, _⟩ := at_head h
    rw [hb]
    rcases hc with hc | hc | hc <;> simp [hc]
theorem stop_not {i : Nat} {c : UInt8} {m : List UInt8} (h : T.data.toList.drop i = c :: m) (h1 : c.toNat ≠ 44) (h2 : c.toNat ≠ 93) (h3 : c.toNat ≠ 125) : stopAt T i = false := by
  obtain ⟨hl, hb, _⟩ := at_head h
  unfold stopAt
  rw [hb]
  simp [h1, h2, h3]; omega
def plainC (c : UInt8) : Prop := c.toNat ≠ 34 ∧ c.toNat ≠ 91 ∧ c.toNat ≠ 123 ∧ c.toNat ≠ 93 ∧ c.toNat ≠ 125
theorem op1_plain {c : UInt8} (h : plainC c) (op : Nat) : op1 c.toNat op = some op := by
  obtain ⟨_, a, b, d, e⟩ := h
  simp [op1, isOp, isCl, a, b, d, e]
theorem nxt_plain {i : Nat} {c : UInt8} (hb : bt T i = c.toNat) (h : c.toNat ≠ 34) : nxt T i = some (i + 1) := by unfold nxt; rw [if_neg (by omega)]

/-- A text that is passed over where something is open. -/
def InP (T : ByteArray) (t : List UInt8) : Prop := ∀ op i m f k, 1 ≤ op → T.data.toList.drop i = t ++ m → endF T f op (i + t.length) = some k → ∃ f', endF T f' op i = some k
def TopP (T : ByteArray) (t : List UInt8) : Prop := ∀ i m, T.data.toList.drop i = t ++ m → Stops m → ∃ f, endF T f 0 i = some (i + t.length)
theorem InP.nil : InP T [] := fun _ _ _ f _ _ _ h => ⟨f, h⟩
theorem InP.app {a b : List UInt8} (ha : InP T a) (hb : InP T b) : InP T (a ++ b) := fun op i m f k ho h he => by
  rw [List.append_assoc] at h
  rw [List.length_append, ← Nat.add_assoc] at he
  obtain ⟨f1, h1⟩ := hb op (i + a.length) m f k ho (drop_past h) he
  exact ha op i (b ++ m) f1 k ho h h1
theorem InP.one {c : UInt8} (hc : plainC c) : InP T [c] := fun op i m f k ho h he => by
  obtain ⟨hl, hb, _⟩ := at_head h
  refine ⟨f + 1, ?_⟩
  rw [endF, if_pos hl, nxt_plain hb hc.1, hb, op1_plain hc]
  simp only [Option.bind_some]
  rw [if_neg (by omega)]
  exact he
theorem InP.plain : ∀ {t : List UInt8}, (∀ c ∈ t, plainC c) → InP T t
  | [], _ => InP.nil
  | c :: _, h => InP.app (a := [c]) (InP.one (h c List.mem_cons_self)) (InP.plain fun d hd => h d (List.mem_cons_of_mem _ hd))
theorem nxt_quoted {i : Nat} {l m : List UInt8} (hv : Lib.validD l = true) (h : T.data.toList.drop i = quoted l ++ m) : i < T.size ∧ bt T i = 34 ∧ nxt T i = some (i + (quoted l).length) := by
  have h' : T.data.toList.drop i = 34 :: (qs l ++ 34 :: m) := by rw [h]; simp [quoted]
  obtain ⟨hl, hb, _⟩ := at_head h'
  refine ⟨hl, hb, ?_⟩
  unfold nxt
  rw [if_pos (by rw [hb]; rfl), strQ_at l T m hv i h]
  rfl
theorem op1_34 (op : Nat) : op1 34 op = some op := rfl
theorem InP.quoted {l : List UInt8} (hv : Lib.validD l = true) : InP T (Go.Proofs.YtcffdclgddmigaaGreatDoor.quoted l) := fun op i m f k ho h he => by
  obtain ⟨hl, hb, hn⟩ := nxt_quoted hv h
  refine ⟨f + 1, ?_⟩
  rw [endF, if_pos hl, hn, hb, op1_34]
  simp only [Option.bind_some]
  rw [if_neg (by omega)]
  exact he
theorem TopP.quoted {l : List UInt8} (hv : Lib.validD l = true) : TopP T (Go.Proofs.YtcffdclgddmigaaGreatDoor.quoted l) := fun i m h hs => by
  obtain ⟨hl, hb, hn⟩ := nxt_quoted hv h
  have hd := drop_past h
  have hle : i + (Go.Proofs.YtcffdclgddmigaaGreatDoor.quoted l).length ≤ T.size := by
    have := congrArg List.length h
    rw [List.length_drop, data_len, List.length_append] at this
    omega
  refine ⟨1, ?_⟩
  rw [endF, if_pos hl, hn, hb, op1_34]
  simp only [Option.bind_some]
  rw [if_pos ⟨trivial, stop_of hd hle hs⟩]
theorem TopP.plain : ∀ {t : List UInt8}, t ≠ [] → (∀ c ∈ t, plainC c ∧ c.toNat ≠ 44) → TopP T t
  | [], h, _ => absurd rfl h
  | [c], _, hc => fun i m h hs => by
    obtain ⟨hl, hb, hd⟩ := at_head (T := T) (m := m) h
    have hp := hc c List.mem_cons_self
    refine ⟨1, ?_⟩
    rw [endF, if_pos hl, nxt_plain hb hp.1.1, hb, op1_plain hp.1]
    simp only [Option.bind_some]
    rw [if_pos ⟨trivial, stop_of hd hl hs⟩]
    rfl
  | c :: d :: r, _, hc => fun i m h hs => by
    obtain ⟨hl, hb, hd⟩ := at_head (T := T) (m := d :: r ++ m) h
    have hp := hc c List.mem_cons_self
    have hq := hc d (List.mem_cons_of_mem _ List.mem_cons_self)
    obtain ⟨f, hf⟩ := TopP.plain (t := d :: r) (by simp) (fun x hx => hc x (List.mem_cons_of_mem _ hx)) (i + 1) m hd hs
    refine ⟨f + 1, ?_⟩
    rw [endF, if_pos hl, nxt_plain hb hp.1.1, hb, op1_plain hp.1]
    simp only [Option.bind_some]
    rw [if_neg (by rw [stop_not (m := r ++ m) hd hq.2 hq.1.2.2.2.1 hq.1.2.2.2.2]; simp), hf]
    simp only [List.length_cons]
    congr 1; omega
theorem InP.wrap {t : List UInt8} {a b : UInt8} (ha : isOp a.toNat = true) (hb : isCl b.toNat = true) (ht : InP T t) : InP T (a :: (t ++ [b])) ∧ TopP T (a :: (t ++ [b])) := by
  have ha34 : a.toNat ≠ 34 := by intro e; rw [e] at ha; cases ha
  have hb34 : b.toNat ≠ 34 := by intro e; rw [e] at hb; cases hb
  have hbo : isOp b.toNat = false := by
    simp only [isCl, Bool.or_eq_true, beq_iff_eq] at hb
    rcases hb with h | h <;> simp [isOp, h]
  refine ⟨fun op i m f k ho h he => ?_, fun i m h hs => ?_⟩
  · have h0 : T.data.toList.drop i = a :: (t ++ (b :: m)) := by rw [h]; simp
    obtain ⟨hl, hba, hd⟩ := at_head h0
    obtain ⟨hl2, hbb, hd2⟩ := at_head (drop_past hd)
    have e2 : ∃ f', endF T f' (op + 1) (i + 1 + t.length) = some k := by
      refine ⟨f + 1, ?_⟩
      rw [endF, if_pos hl2, nxt_plain hbb hb34, hbb]
      simp only [Option.bind_some, op1, hbo, hb, if_true, Bool.false_eq_true, if_false]
      rw [if_neg (by omega)]
      simp only [Option.bind_some, Nat.add_sub_cancel]
      rw [if_neg (by omega)]
      rw [show i + 1 + t.length + 1 = i + (a :: (t ++ [b])).length by simp; omega]
      exact he
    obtain ⟨f2, hf2⟩ := e2
    obtain ⟨f3, hf3⟩ := ht (op + 1) (i + 1) (b :: m) f2 k (by omega) hd hf2
    refine ⟨f3 + 1, ?_⟩
    rw [endF, if_pos hl, nxt_plain hba ha34, hba]
    simp only [Option.bind_some, op1, ha, if_true]
    rw [if_neg (by omega)]
    exact hf3
  · have h0 : T.data.toList.drop i = a :: (t ++ (b :: m)) := by rw [h]; simp
    obtain ⟨hl, hba, hd⟩ := at_head h0
    obtain ⟨hl2, hbb, hd2⟩ := at_head (drop_past hd)
    have e2 : endF T 1 1 (i + 1 + t.length) = some (i + (a :: (t ++ [b])).length) := by
      rw [endF, if_pos hl2, nxt_plain hbb hb34, hbb]
      simp only [Option.bind_some, op1, hbo, hb, if_true, Bool.false_eq_true, if_false]
      rw [if_neg (by omega)]
      simp only [Option.bind_some, Nat.sub_self]
      rw [if_pos ⟨trivial, stop_of hd2 hl2 hs⟩]
      simp; omega
    obtain ⟨f3, hf3⟩ := ht 1 (i + 1) (b :: m) 1 _ (by omega) hd e2
    refine ⟨f3 + 1, ?_⟩
    rw [endF, if_pos hl, nxt_plain hba ha34, hba]
    simp only [Option.bind_some, op1, ha, if_true]
    rw [if_neg (by omega)]
    exact hf3
theorem InP.joinT : ∀ {ts : List (List UInt8)}, (∀ t ∈ ts, InP T t) → InP T (Go.Proofs.YtcffdclgddmigaaGreatDoor.joinT ts)
  | [], _ => InP.nil
  | t :: r, h => InP.app (a := [44]) (InP.one ⟨by decide, by decide, by decide, by decide, by decide⟩) (InP.app (h t List.mem_cons_self) (InP.joinT fun x hx => h x (List.mem_cons_of_mem _ hx)))
theorem InP.joinC {ts : List (List UInt8)} (h : ∀ t ∈ ts, InP T t) : InP T (Go.Proofs.YtcffdclgddmigaaGreatDoor.joinC ts) := by
  cases ts with
  | nil => exact InP.nil
  | cons t r => exact InP.app (h t List.mem_cons_self) (InP.joinT fun x hx => h x (List.mem_cons_of_mem _ hx))
theorem num_plain {l : List UInt8} (h : okV (.num l)) : l ≠ [] ∧ ∀ c ∈ l, plainC c ∧ c.toNat ≠ 44 := by
  rw [okV] at h
  obtain ⟨c, r, rfl, hc, hr⟩ := h
  refine ⟨by simp, fun d hd => ?_⟩
  have : d.toNat = 45 ∨ isDg d.toNat = true := by
    rcases List.mem_cons.1 hd with rfl | hd
    · exact hc
    · exact .inr (hr d hd)
  have h2 : d.toNat = 45 ∨ (48 ≤ d.toNat ∧ d.toNat ≤ 57) := this.imp id isDg_iff.1
  exact ⟨⟨by omega, by omega, by omega, by omega, by omega⟩, by omega⟩
theorem word_plain {l : List UInt8} (h : l ∈ [[110, 117, 108, 108], [116, 114, 117, 101], ([102, 97, 108, 115, 101] : List UInt8)]) : l ≠ [] ∧ ∀ c ∈ l, plainC c ∧ c.toNat ≠ 44 := by
  unfold plainC
  revert l
  decide

mutual
theorem ctP : ∀ v : JV, okV v → InP T (ct v) ∧ TopP T (ct v)
  | .nul, _ => by
    have := word_plain (l := [110, 117, 108, 108]) (by simp)
    exact ⟨InP.plain fun c hc => (this.2 c hc).1, TopP.plain this.1 this.2⟩
  | .tt, _ => by
    have := word_plain (l := [116, 114, 117, 101]) (by simp)
    exact ⟨InP.plain fun c hc => (this.2 c hc).1, TopP.plain this.1 this.2⟩
  | .ff, _ => by
    have := word_plain (l := [102, 97, 108, 115, 101]) (by simp)
    exact ⟨InP.plain fun c hc => (this.2 c hc).1, TopP.plain this.1 this.2⟩
  | .num l, h => by
    have := num_plain h
    exact ⟨InP.plain fun c hc => (this.2 c hc).1, TopP.plain this.1 this.2⟩
  | .str l, h => by
    rw [okV] at h
    exact ⟨InP.quoted h, TopP.quoted h⟩
  | .arr l, h => by
    rw [okV] at h
    exact InP.wrap rfl rfl (InP.joinC (ctLP l h))
  | .obj m, h => by
    rw [okV] at h
    refine InP.wrap rfl rfl (InP.joinC fun t ht => ?_)
    obtain ⟨p, hp, rfl⟩ := List.mem_map.1 ht
    exact ctMP m h p ((isort_perm _).subset hp)
theorem ctLP : ∀ l : JL, okL l → ∀ t ∈ ctL l, InP T t
  | .nil, _, t, ht => by simp [ctL] at ht
  | .cons v r, h, t, ht => by
    rw [okL] at h
    rw [ctL] at ht
    rcases List.mem_cons.1 ht with e | ht
    · rw [e]; exact (ctP v h.1).1
    · exact ctLP r h.2 t ht
theorem ctMP : ∀ m : JM, okM m → ∀ p ∈ ctM m, InP T (memT p)
  | .nil, _, p, hp => by simp [ctM] at hp
  | .cons k v r, h, p, hp => by
    rw [okM] at h
    rw [ctM] at hp
    rcases List.mem_cons.1 hp with e | hp
    · rw [e]
      exact InP.app (InP.quoted h.1) (InP.app (a := [58]) (InP.one ⟨by decide, by decide, by decide, by decide, by decide⟩) (ctP v h.2.1).1)
    · exact ctMP r h.2.2 p hp
end
end
end Go.Proofs.YtcffdclgddmigaaGreatDoor

namespace Go.Proofs.YtcffdclgddmigaaGreatDoor
open Go.RowKit

theorem nxt_in {T : ByteArray} {j j2 : Nat} (h : nxt T j = some j2) (hj : j < T.size) : j < j2 ∧ j2 ≤ T.size := by
  unfold nxt at h
  split at h
  · cases hq : strQ T j with
    | none => rw [hq] at h; simp at h
    | some q =>
      obtain ⟨l, n⟩ := q
      rw [hq] at h
      simp at h
      have := strQ_ok hq
      omega
  · injection h with h; omega
theorem tail_cases {T : ByteArray} {o j2 k g : Nat} (hj : j2 ≤ T.size) (h : (if o = 0 ∧ stopAt T j2 = true then some j2 else endF T g o j2) = some k) :
    (o ≠ 0 ∧ endF T g o j2 = some k) ∨ (o = 0 ∧ j2 = T.size ∧ j2 = k) ∨ (o = 0 ∧ j2 < T.size ∧ bt T j2 = 44 ∧ j2 = k) ∨ (o = 0 ∧ j2 < T.size ∧ bt T j2 = 93 ∧ j2 = k) ∨ (o = 0 ∧ j2 < T.size ∧ bt T j2 = 125 ∧ j2 = k) ∨ (o = 0 ∧ j2 < T.size ∧ bt T j2 ≠ 44 ∧ bt T j2 ≠ 93 ∧ bt T j2 ≠ 125 ∧ endF T g o j2 = some k) := by
  by_cases ho : o = 0
  · by_cases hs : stopAt T j2 = true
    · rw [if_pos ⟨ho, hs⟩] at h
      injection h with h
      by_cases e : j2 = T.size
      · exact .inr (.inl ⟨ho, e, h⟩)
      · have hl : j2 < T.size := by omega
        unfold stopAt at hs
        simp [e] at hs
        rcases hs with (hs | hs) | hs
        · exact .inr (.inr (.inl ⟨ho, hl, hs, h⟩))
        · exact .inr (.inr (.inr (.inl ⟨ho, hl, hs, h⟩)))
        · exact .inr (.inr (.inr (.inr (.inl ⟨ho, hl, hs, h⟩))))
    · rw [if_neg (fun x => hs x.2)] at h
      unfold stopAt at hs
      simp at hs
      exact .inr (.inr (.inr (.inr (.inr ⟨ho, by omega, hs.1.1.2, hs.1.2, hs.2, h⟩))))
  · rw [if_neg (fun x => ho x.1)] at h
    exact .inl ⟨ho, h⟩

set_option maxRecDepth 100000 in
set_option maxHeartbeats 16000000 in
/-- The model's look for the end of a value. -/
theorem end_walk (T : ByteArray) (i k f : Nat) (w : World) (hT : T.size ≤ 1048576) (h : endF T f 0 i = some k) :
    Calls Tryz.prog 97 #[.string T, .int .i64 (i : Int)] w fun e w' => e = .returned (.int .i64 (k : Int)) ∧ Below w.heap.size w w' := by
  have HST : Hid (∀ (j : Nat) (w : World), j < T.size → Calls Tryz.prog 90 #[.string T, .int .i64 j] w (SPost T w (strQ T j))) := fun j w hj => l1String_walk T j w hT (by omega)
  have hi0 : i < T.size := by
    cases f with
    | zero => simp [endF] at h
    | succ f =>
      rw [endF] at h
      split at h
      · assumption
      · cases h
  have H0 := hide h
  clear h
  go_enter Tryz.func97, Tryz.ntmps97
  go_wp2
  go_loopw [1, 5] (fun iv ov wr => ∃ (j op g : Nat), iv = .int .i64 (j : Int) ∧ ov = .int .i64 (op : Int) ∧ j ≤ T.size ∧ op ≤ j ∧ endF T g op j = some k ∧ Below w.heap.size w wr) (fun iv _ _ => T.size - (intOf iv).toNat)
  case atStart => exact ⟨i, 0, f, rfl, rfl, by omega, by omega, unhide H0, Below.refl _ _⟩
  case round =>
    obtain ⟨j, op, g, rfl, rfl, hj, hop, hg, bw⟩ := hrel
    clear H0
    obtain ⟨g, rfl⟩ : ∃ g', g = g' + 1 := by cases g with
      | zero => simp [endF] at hg
      | succ g => exact ⟨g, rfl⟩
    rw [endF] at hg
    by_cases hl : j < T.size
    · rw [if_pos hl] at hg
      have hltI : (j : Int) < (T.size : Int) := by omega
      have hb := bt_at T j hl
      obtain ⟨n, hn, o, ho, hz⟩ : ∃ j2, nxt T j = some j2 ∧ ∃ o, op1 (bt T j) op = some o ∧ (if o = 0 ∧ stopAt T j2 = true then some j2 else endF T g o j2) = some k := by
        cases hn : nxt T j with
        | none => rw [hn] at hg; simp at hg
        | some j2 =>
          rw [hn] at hg
          simp only [Option.bind_some] at hg
          cases ho : op1 (bt T j) op with
          | none => rw [ho] at hg; simp at hg
          | some o => rw [ho] at hg; exact ⟨j2, rfl, o, rfl, by simpa using hg⟩
      clear hg
      have hnj := nxt_in hn hl
      have hnT := hnj.2
      have hjn := hnj.1
      have hns : bt T j ≠ 34 → j + 1 = n := fun h34 => by unfold nxt at hn; rw [if_neg h34] at hn; injection hn
      have hnq : bt T j = 34 → ∃ l, strQ T j = some (l, n) := fun h34 => by
        unfold nxt at hn
        rw [if_pos h34] at hn
        cases hq : strQ T j with
        | none => rw [hq] at hn; simp at hn
        | some q => rw [hq] at hn; simp at hn; exact ⟨q.1, by rw [← hn]⟩
      have ht := tail_cases hnT hz
      have HB := hide bw
      clear hn hz hnj bw
      by_cases c34 : bt T j = 34
      · obtain ⟨l, hq⟩ := hnq c34
        obtain rfl : op = o := by rw [c34] at ho; injection ho
        have HSJ := hide (unhide HST j wr hl)
        rw [hq] at HSJ
        rw [hb] at c34
        have f34 : ((T[j].toNat : Int) == 34) = true := by rw [beq_iff_eq]; omega
        have f91 : ((T[j].toNat : Int) == 91) = false := by rw [beq_eq_false_iff_ne]; omega
        have f123 : ((T[j].toNat : Int) == 123) = false := by rw [beq_eq_false_iff_ne]; omega
        have f93 : ((T[j].toNat : Int) == 93) = false := by rw [beq_eq_false_iff_ne]; omega
        have f125 : ((T[j].toNat : Int) == 125) = false := by rw [beq_eq_false_iff_ne]; omega
        clear hnq hns hq hb c34 HST ho
        rcases ht with ⟨h1, h2⟩ | ⟨h1, h2, h3⟩ | ⟨h1, h2, h3, h4⟩ | ⟨h1, h2, h3, h4⟩ | ⟨h1, h2, h3, h4⟩ | ⟨h1, h2, h3, h4, h5, h6⟩
        · have tz : ((op : Int) == 0) = false := by rw [beq_eq_false_iff_ne]; omega
          have H2 := hide h2
          clear h1 h2
          go_wp2_with fail
          refine (unhide HSJ).mono ?_
          rintro e w2 ⟨b2, rfl⟩
          have HB2 := hide (below_next (unhide HB) b2)
          clear HSJ b2
          go_wp2
          go_roundw
          case rel => exact ⟨n, op, g, by go_num, by go_num, hnT, by omega, unhide H2, unhide HB2⟩
          case measure => simp [intOf]; omega
        · have tz : ((op : Int) == 0) = true := by rw [beq_iff_eq]; omega
          have te : ((n : Int) == (T.size : Int)) = true := by rw [beq_iff_eq]; omega
          have HK := hide h3
          clear h3
          clear h1 h2
          go_wp2_with fail
          refine (unhide HSJ).mono ?_
          rintro e w2 ⟨b2, rfl⟩
          have HB2 := hide (below_next (unhide HB) b2)
          clear HSJ b2
          go_wp2
          go_ret
          exact ⟨by rw [← unhide HK]; first | rfl | go_num, unhide HB2⟩
        · have tz : ((op : Int) == 0) = true := by rw [beq_iff_eq]; omega
          have te : ((n : Int) == (T.size : Int)) = false := by rw [beq_eq_false_iff_ne]; omega
          have hlN : (n : Int) < (T.size : Int) := by omega
          have hbn := bt_at T n h2
          rw [hbn] at h3
          have g44 : ((T[n].toNat : Int) == 44) = true := by rw [beq_iff_eq]; omega
          have g93 : ((T[n].toNat : Int) == 93) = false := by rw [beq_eq_false_iff_ne]; omega
          have g125 : ((T[n].toNat : Int) == 125) = false := by rw [beq_eq_false_iff_ne]; omega
          clear hbn h3
          have HK := hide h4
          clear h4
          clear h1
          go_wp2_with fail
          refine (unhide HSJ).mono ?_
          rintro e w2 ⟨b2, rfl⟩
          have HB2 := hide (below_next (unhide HB) b2)
          clear HSJ b2
          go_wp2
          go_ret
          exact ⟨by rw [← unhide HK]; first | rfl | go_num, unhide HB2⟩
        · have tz : ((op : Int) == 0) = true := by rw [beq_iff_eq]; omega
          have te : ((n : Int) == (T.size : Int)) = false := by rw [beq_eq_false_iff_ne]; omega
          have hlN : (n : Int) < (T.size : Int) := by omega
          have hbn := bt_at T n h2
          rw [hbn] at h3
          have g44 : ((T[n].toNat : Int) == 44) = false := by rw [beq_eq_false_iff_ne]; omega
          have g93 : ((T[n].toNat : Int) == 93) = true := by rw [beq_iff_eq]; omega
          have g125 : ((T[n].toNat : Int) == 125) = false := by rw [beq_eq_false_iff_ne]; omega
          clear hbn h3
          have HK := hide h4
          clear h4
          clear h1
          go_wp2_with fail
          refine (unhide HSJ).mono ?_
          rintro e w2 ⟨b2, rfl⟩
          have HB2 := hide (below_next (unhide HB) b2)
          clear HSJ b2
          go_wp2
          go_ret
          exact ⟨by rw [← unhide HK]; first | rfl | go_num, unhide HB2⟩
        · have tz : ((op : Int) == 0) = true := by rw [beq_iff_eq]; omega
          have te : ((n : Int) == (T.size : Int)) = false := by rw [beq_eq_false_iff_ne]; omega
          have hlN : (n : Int) < (T.size : Int) := by omega
          have hbn := bt_at T n h2
          rw [hbn] at h3
          have g44 : ((T[n].toNat : Int) == 44) = false := by rw [beq_eq_false_iff_ne]; omega
          have g93 : ((T[n].toNat : Int) == 93) = false := by rw [beq_eq_false_iff_ne]; omega
          have g125 : ((T[n].toNat : Int) == 125) = true := by rw [beq_iff_eq]; omega
          clear hbn h3
          have HK := hide h4
          clear h4
          clear h1
          go_wp2_with fail
          refine (unhide HSJ).mono ?_
          rintro e w2 ⟨b2, rfl⟩
          have HB2 := hide (below_next (unhide HB) b2)
          clear HSJ b2
          go_wp2
          go_ret
          exact ⟨by rw [← unhide HK]; first | rfl | go_num, unhide HB2⟩
        · have tz : ((op : Int) == 0) = true := by rw [beq_iff_eq]; omega
          have te : ((n : Int) == (T.size : Int)) = false := by rw [beq_eq_false_iff_ne]; omega
          have hlN : (n : Int) < (T.size : Int) := by omega
          have hbn := bt_at T n h2
          rw [hbn] at h3 h4 h5
          have g44 : ((T[n].toNat : Int) == 44) = false := by rw [beq_eq_false_iff_ne]; omega
          have g93 : ((T[n].toNat : Int) == 93) = false := by rw [beq_eq_false_iff_ne]; omega
          have g125 : ((T[n].toNat : Int) == 125) = false := by rw [beq_eq_false_iff_ne]; omega
          clear hbn h3 h4 h5
          have H2 := hide h6
          clear h6
          clear h1
          go_wp2_with fail
          refine (unhide HSJ).mono ?_
          rintro e w2 ⟨b2, rfl⟩
          have HB2 := hide (below_next (unhide HB) b2)
          clear HSJ b2
          go_wp2
          go_roundw
          case rel => exact ⟨n, op, g, by go_num, by go_num, hnT, by omega, unhide H2, unhide HB2⟩
          case measure => simp [intOf]; omega
      · have hn1 : (j : Int) + 1 = (n : Int) := by have := hns c34; omega
        have hnx := hns c34
        clear hnq hns
        by_cases c91 : bt T j = 91
        · obtain rfl : op + 1 = o := by rw [c91] at ho; injection ho
          rw [hb] at c91
          have f34 : ((T[j].toNat : Int) == 34) = false := by rw [beq_eq_false_iff_ne]; omega
          have f91 : ((T[j].toNat : Int) == 91) = true := by rw [beq_iff_eq]; omega
          have f123 : ((T[j].toNat : Int) == 123) = false := by rw [beq_eq_false_iff_ne]; omega
          have f93 : ((T[j].toNat : Int) == 93) = false := by rw [beq_eq_false_iff_ne]; omega
          have f125 : ((T[j].toNat : Int) == 125) = false := by rw [beq_eq_false_iff_ne]; omega
          clear hb c91 HST ho c34
          rcases ht with ⟨h1, h2⟩ | ⟨h1, h2, h3⟩ | ⟨h1, h2, h3, h4⟩ | ⟨h1, h2, h3, h4⟩ | ⟨h1, h2, h3, h4⟩ | ⟨h1, h2, h3, h4, h5, h6⟩
          · have tz : (((op : Int) + 1) == 0) = false := by rw [beq_eq_false_iff_ne]; omega
            have H2 := hide h2
            clear h1 h2
            go_wp2
            go_roundw
            case rel => exact ⟨n, op + 1, g, by go_num, by go_num, hnT, by omega, unhide H2, unhide HB⟩
            case measure => simp [intOf]; omega
          · exfalso; omega
          · exfalso; omega
          · exfalso; omega
          · exfalso; omega
          · exfalso; omega
        by_cases c123 : bt T j = 123
        · obtain rfl : op + 1 = o := by rw [c123] at ho; injection ho
          rw [hb] at c123
          have f34 : ((T[j].toNat : Int) == 34) = false := by rw [beq_eq_false_iff_ne]; omega
          have f91 : ((T[j].toNat : Int) == 91) = false := by rw [beq_eq_false_iff_ne]; omega
          have f123 : ((T[j].toNat : Int) == 123) = true := by rw [beq_iff_eq]; omega
          have f93 : ((T[j].toNat : Int) == 93) = false := by rw [beq_eq_false_iff_ne]; omega
          have f125 : ((T[j].toNat : Int) == 125) = false := by rw [beq_eq_false_iff_ne]; omega
          clear hb c123 HST ho c34 c91
          rcases ht with ⟨h1, h2⟩ | ⟨h1, h2, h3⟩ | ⟨h1, h2, h3, h4⟩ | ⟨h1, h2, h3, h4⟩ | ⟨h1, h2, h3, h4⟩ | ⟨h1, h2, h3, h4, h5, h6⟩
          · have tz : (((op : Int) + 1) == 0) = false := by rw [beq_eq_false_iff_ne]; omega
            have H2 := hide h2
            clear h1 h2
            go_wp2
            go_roundw
            case rel => exact ⟨n, op + 1, g, by go_num, by go_num, hnT, by omega, unhide H2, unhide HB⟩
            case measure => simp [intOf]; omega
          · exfalso; omega
          · exfalso; omega
          · exfalso; omega
          · exfalso; omega
          · exfalso; omega
        by_cases c93 : bt T j = 93
        · have hop1 : 1 ≤ op := by rw [c93] at ho; cases op with
            | zero => cases ho
            | succ n => omega
          obtain rfl : op - 1 = o := by rw [c93] at ho; cases op with
            | zero => cases ho
            | succ n => injection ho
          rw [hb] at c93
          have f34 : ((T[j].toNat : Int) == 34) = false := by rw [beq_eq_false_iff_ne]; omega
          have f91 : ((T[j].toNat : Int) == 91) = false := by rw [beq_eq_false_iff_ne]; omega
          have f123 : ((T[j].toNat : Int) == 123) = false := by rw [beq_eq_false_iff_ne]; omega
          have f93 : ((T[j].toNat : Int) == 93) = true := by rw [beq_iff_eq]; omega
          have f125 : ((T[j].toNat : Int) == 125) = false := by rw [beq_eq_false_iff_ne]; omega
          clear hb c93 HST ho c34 c91 c123
          rcases ht with ⟨h1, h2⟩ | ⟨h1, h2, h3⟩ | ⟨h1, h2, h3, h4⟩ | ⟨h1, h2, h3, h4⟩ | ⟨h1, h2, h3, h4⟩ | ⟨h1, h2, h3, h4, h5, h6⟩
          · have tz : (((op : Int) - 1) == 0) = false := by rw [beq_eq_false_iff_ne]; omega
            have H2 := hide h2
            clear h1 h2
            go_wp2
            go_roundw
            case rel => exact ⟨n, op - 1, g, by go_num, by go_num, hnT, by omega, unhide H2, unhide HB⟩
            case measure => simp [intOf]; omega
          · have tz : (((op : Int) - 1) == 0) = true := by rw [beq_iff_eq]; omega
            have te : ((n : Int) == (T.size : Int)) = true := by rw [beq_iff_eq]; omega
            have HK := hide h3
            clear h3
            clear h1 h2
            go_wp2
            go_ret
            exact ⟨by rw [← unhide HK]; first | rfl | go_num, unhide HB⟩
          · have tz : (((op : Int) - 1) == 0) = true := by rw [beq_iff_eq]; omega
            have te : ((n : Int) == (T.size : Int)) = false := by rw [beq_eq_false_iff_ne]; omega
            have hlN : (n : Int) < (T.size : Int) := by omega
            have hbn := bt_at T n h2
            rw [hbn] at h3
            have g44 : ((T[n].toNat : Int) == 44) = true := by rw [beq_iff_eq]; omega
            have g93 : ((T[n].toNat : Int) == 93) = false := by rw [beq_eq_false_iff_ne]; omega
            have g125 : ((T[n].toNat : Int) == 125) = false := by rw [beq_eq_false_iff_ne]; omega
            clear hbn h3
            have HK := hide h4
            clear h4
            clear h1
            go_wp2
            go_ret
            exact ⟨by rw [← unhide HK]; first | rfl | go_num, unhide HB⟩
          · have tz : (((op : Int) - 1) == 0) = true := by rw [beq_iff_eq]; omega
            have te : ((n : Int) == (T.size : Int)) = false := by rw [beq_eq_false_iff_ne]; omega
            have hlN : (n : Int) < (T.size : Int) := by omega
            have hbn := bt_at T n h2
            rw [hbn] at h3
            have g44 : ((T[n].toNat : Int) == 44) = false := by rw [beq_eq_false_iff_ne]; omega
            have g93 : ((T[n].toNat : Int) == 93) = true := by rw [beq_iff_eq]; omega
            have g125 : ((T[n].toNat : Int) == 125) = false := by rw [beq_eq_false_iff_ne]; omega
            clear hbn h3
            have HK := hide h4
            clear h4
            clear h1
            go_wp2
            go_ret
            exact ⟨by rw [← unhide HK]; first | rfl | go_num, unhide HB⟩
          · have tz : (((op : Int) - 1) == 0) = true := by rw [beq_iff_eq]; omega
            have te : ((n : Int) == (T.size : Int)) = false := by rw [beq_eq_false_iff_ne]; omega
            have hlN : (n : Int) < (T.size : Int) := by omega
            have hbn := bt_at T n h2
            rw [hbn] at h3
            have g44 : ((T[n].toNat : Int) == 44) = false := by rw [beq_eq_false_iff_ne]; omega
            have g93 : ((T[n].toNat : Int) == 93) = false := by rw [beq_eq_false_iff_ne]; omega
            have g125 : ((T[n].toNat : Int) == 125) = true := by rw [beq_iff_eq]; omega
            clear hbn h3
            have HK := hide h4
            clear h4
            clear h1
            go_wp2
            go_ret
            exact ⟨by rw [← unhide HK]; first | rfl | go_num, unhide HB⟩
          · have tz : (((op : Int) - 1) == 0) = true := by rw [beq_iff_eq]; omega
            have te : ((n : Int) == (T.size : Int)) = false := by rw [beq_eq_false_iff_ne]; omega
            have hlN : (n : Int) < (T.size : Int) := by omega
            have hbn := bt_at T n h2
            rw [hbn] at h3 h4 h5
            have g44 : ((T[n].toNat : Int) == 44) = false := by rw [beq_eq_false_iff_ne]; omega
            have g93 : ((T[n].toNat : Int) == 93) = false := by rw [beq_eq_false_iff_ne]; omega
            have g125 : ((T[n].toNat : Int) == 125) = false := by rw [beq_eq_false_iff_ne]; omega
            clear hbn h3 h4 h5
            have H2 := hide h6
            clear h6
            clear h1
            go_wp2
            go_roundw
            case rel => exact ⟨n, op - 1, g, by go_num, by go_num, hnT, by omega, unhide H2, unhide HB⟩
            case measure => simp [intOf]; omega
        by_cases c125 : bt T j = 125
        · have hop1 : 1 ≤ op := by rw [c125] at ho; cases op with
            | zero => cases ho
            | succ n => omega
          obtain rfl : op - 1 = o := by rw [c125] at ho; cases op with
            | zero => cases ho
            | succ n => injection ho
          rw [hb] at c125
          have f34 : ((T[j].toNat : Int) == 34) = false := by rw [beq_eq_false_iff_ne]; omega
          have f91 : ((T[j].toNat : Int) == 91) = false := by rw [beq_eq_false_iff_ne]; omega
          have f123 : ((T[j].toNat : Int) == 123) = false := by rw [beq_eq_false_iff_ne]; omega
          have f93 : ((T[j].toNat : Int) == 93) = false := by rw [beq_eq_false_iff_ne]; omega
          have f125 : ((T[j].toNat : Int) == 125) = true := by rw [beq_iff_eq]; omega
          clear hb c125 HST ho c34 c91 c123 c93
          rcases ht with ⟨h1, h2⟩ | ⟨h1, h2, h3⟩ | ⟨h1, h2, h3, h4⟩ | ⟨h1, h2, h3, h4⟩ | ⟨h1, h2, h3, h4⟩ | ⟨h1, h2, h3, h4, h5, h6⟩
          · have tz : (((op : Int) - 1) == 0) = false := by rw [beq_eq_false_iff_ne]; omega
            have H2 := hide h2
            clear h1 h2
            go_wp2
            go_roundw
            case rel => exact ⟨n, op - 1, g, by go_num, by go_num, hnT, by omega, unhide H2, unhide HB⟩
            case measure => simp [intOf]; omega
          · have tz : (((op : Int) - 1) == 0) = true := by rw [beq_iff_eq]; omega
            have te : ((n : Int) == (T.size : Int)) = true := by rw [beq_iff_eq]; omega
            have HK := hide h3
            clear h3
            clear h1 h2
            go_wp2
            go_ret
            exact ⟨by rw [← unhide HK]; first | rfl | go_num, unhide HB⟩
          · have tz : (((op : Int) - 1) == 0) = true := by rw [beq_iff_eq]; omega
            have te : ((n : Int) == (T.size : Int)) = false := by rw [beq_eq_false_iff_ne]; omega
            have hlN : (n : Int) < (T.size : Int) := by omega
            have hbn := bt_at T n h2
            rw [hbn] at h3
            have g44 : ((T[n].toNat : Int) == 44) = true := by rw [beq_iff_eq]; omega
            have g93 : ((T[n].toNat : Int) == 93) = false := by rw [beq_eq_false_iff_ne]; omega
            have g125 : ((T[n].toNat : Int) == 125) = false := by rw [beq_eq_false_iff_ne]; omega
            clear hbn h3
            have HK := hide h4
            clear h4
            clear h1
            go_wp2
            go_ret
            exact ⟨by rw [← unhide HK]; first | rfl | go_num, unhide HB⟩
          · have tz : (((op : Int) - 1) == 0) = true := by rw [beq_iff_eq]; omega
            have te : ((n : Int) == (T.size : Int)) = false := by rw [beq_eq_false_iff_ne]; omega
            have hlN : (n : Int) < (T.size : Int) := by omega
            have hbn := bt_at T n h2
            rw [hbn] at h3
            have g44 : ((T[n].toNat : Int) == 44) = false := by rw [beq_eq_false_iff_ne]; omega
            have g93 : ((T[n].toNat : Int) == 93) = true := by rw [beq_iff_eq]; omega
            have g125 : ((T[n].toNat : Int) == 125) = false := by rw [beq_eq_false_iff_ne]; omega
            clear hbn h3
            have HK := hide h4
            clear h4
            clear h1
            go_wp2
            go_ret
            exact ⟨by rw [← unhide HK]; first | rfl | go_num, unhide HB⟩
          · have tz : (((op : Int) - 1) == 0) = true := by rw [beq_iff_eq]; omega
            have te : ((n : Int) == (T.size : Int)) = false := by rw [beq_eq_false_iff_ne]; omega
            have hlN : (n : Int) < (T.size : Int) := by omega
            have hbn := bt_at T n h2
            rw [hbn] at h3
            have g44 : ((T[n].toNat : Int) == 44) = false := by rw [beq_eq_false_iff_ne]; omega
            have g93 : ((T[n].toNat : Int) == 93) = false := by rw [beq_eq_false_iff_ne]; omega
            have g125 : ((T[n].toNat : Int) == 125) = true := by rw [beq_iff_eq]; omega
            clear hbn h3
            have HK := hide h4
            clear h4
            clear h1
            go_wp2
            go_ret
            exact ⟨by rw [← unhide HK]; first | rfl | go_num, unhide HB⟩
          · have tz : (((op : Int) - 1) == 0) = true := by rw [beq_iff_eq]; omega
            have te : ((n : Int) == (T.size : Int)) = false := by rw [beq_eq_false_iff_ne]; omega
            have hlN : (n : Int) < (T.size : Int) := by omega
            have hbn := bt_at T n h2
            rw [hbn] at h3 h4 h5
            have g44 : ((T[n].toNat : Int) == 44) = false := by rw [beq_eq_false_iff_ne]; omega
            have g93 : ((T[n].toNat : Int) == 93) = false := by rw [beq_eq_false_iff_ne]; omega
            have g125 : ((T[n].toNat : Int) == 125) = false := by rw [beq_eq_false_iff_ne]; omega
            clear hbn h3 h4 h5
            have H2 := hide h6
            clear h6
            clear h1
            go_wp2
            go_roundw
            case rel => exact ⟨n, op - 1, g, by go_num, by go_num, hnT, by omega, unhide H2, unhide HB⟩
            case measure => simp [intOf]; omega
        obtain rfl : op = o := by
          unfold op1 isOp isCl at ho
          simp [c91, c123, c93, c125] at ho
          exact ho
        rw [hb] at c34 c91 c123 c93 c125
        have f34 : ((T[j].toNat : Int) == 34) = false := by rw [beq_eq_false_iff_ne]; omega
        have f91 : ((T[j].toNat : Int) == 91) = false := by rw [beq_eq_false_iff_ne]; omega
        have f123 : ((T[j].toNat : Int) == 123) = false := by rw [beq_eq_false_iff_ne]; omega
        have f93 : ((T[j].toNat : Int) == 93) = false := by rw [beq_eq_false_iff_ne]; omega
        have f125 : ((T[j].toNat : Int) == 125) = false := by rw [beq_eq_false_iff_ne]; omega
        clear hb c34 c91 c123 c93 c125 HST ho
        rcases ht with ⟨h1, h2⟩ | ⟨h1, h2, h3⟩ | ⟨h1, h2, h3, h4⟩ | ⟨h1, h2, h3, h4⟩ | ⟨h1, h2, h3, h4⟩ | ⟨h1, h2, h3, h4, h5, h6⟩
        · have tz : ((op : Int) == 0) = false := by rw [beq_eq_false_iff_ne]; omega
          have H2 := hide h2
          clear h1 h2
          go_wp2
          go_roundw
          case rel => exact ⟨n, op, g, by go_num, by go_num, hnT, by omega, unhide H2, unhide HB⟩
          case measure => simp [intOf]; omega
        · have tz : ((op : Int) == 0) = true := by rw [beq_iff_eq]; omega
          have te : ((n : Int) == (T.size : Int)) = true := by rw [beq_iff_eq]; omega
          have HK := hide h3
          clear h3
          clear h1 h2
          go_wp2
          go_ret
          exact ⟨by rw [← unhide HK]; first | rfl | go_num, unhide HB⟩
        · have tz : ((op : Int) == 0) = true := by rw [beq_iff_eq]; omega
          have te : ((n : Int) == (T.size : Int)) = false := by rw [beq_eq_false_iff_ne]; omega
          have hlN : (n : Int) < (T.size : Int) := by omega
          have hbn := bt_at T n h2
          rw [hbn] at h3
          have g44 : ((T[n].toNat : Int) == 44) = true := by rw [beq_iff_eq]; omega
          have g93 : ((T[n].toNat : Int) == 93) = false := by rw [beq_eq_false_iff_ne]; omega
          have g125 : ((T[n].toNat : Int) == 125) = false := by rw [beq_eq_false_iff_ne]; omega
          clear hbn h3
          have HK := hide h4
          clear h4
          clear h1
          go_wp2
          go_ret
          exact ⟨by rw [← unhide HK]; first | rfl | go_num, unhide HB⟩
        · have tz : ((op : Int) == 0) = true := by rw [beq_iff_eq]; omega
          have te : ((n : Int) == (T.size : Int)) = false := by rw [beq_eq_false_iff_ne]; omega
          have hlN : (n : Int) < (T.size : Int) := by omega
          have hbn := bt_at T n h2
          rw [hbn] at h3
          have g44 : ((T[n].toNat : Int) == 44) = false := by rw [beq_eq_false_iff_ne]; omega
          have g93 : ((T[n].toNat : Int) == 93) = true := by rw [beq_iff_eq]; omega
          have g125 : ((T[n].toNat : Int) == 125) = false := by rw [beq_eq_false_iff_ne]; omega
          clear hbn h3
          have HK := hide h4
          clear h4
          clear h1
          go_wp2
          go_ret
          exact ⟨by rw [← unhide HK]; first | rfl | go_num, unhide HB⟩
        · have tz : ((op : Int) == 0) = true := by rw [beq_iff_eq]; omega
          have te : ((n : Int) == (T.size : Int)) = false := by rw [beq_eq_false_iff_ne]; omega
          have hlN : (n : Int) < (T.size : Int) := by omega
          have hbn := bt_at T n h2
          rw [hbn] at h3
          have g44 : ((T[n].toNat : Int) == 44) = false := by rw [beq_eq_false_iff_ne]; omega
          have g93 : ((T[n].toNat : Int) == 93) = false := by rw [beq_eq_false_iff_ne]; omega
          have g125 : ((T[n].toNat : Int) == 125) = true := by rw [beq_iff_eq]; omega
          clear hbn h3
          have HK := hide h4
          clear h4
          clear h1
          go_wp2
          go_ret
          exact ⟨by rw [← unhide HK]; first | rfl | go_num, unhide HB⟩
        · have tz : ((op : Int) == 0) = true := by rw [beq_iff_eq]; omega
          have te : ((n : Int) == (T.size : Int)) = false := by rw [beq_eq_false_iff_ne]; omega
          have hlN : (n : Int) < (T.size : Int) := by omega
          have hbn := bt_at T n h2
          rw [hbn] at h3 h4 h5
          have g44 : ((T[n].toNat : Int) == 44) = false := by rw [beq_eq_false_iff_ne]; omega
          have g93 : ((T[n].toNat : Int) == 93) = false := by rw [beq_eq_false_iff_ne]; omega
          have g125 : ((T[n].toNat : Int) == 125) = false := by rw [beq_eq_false_iff_ne]; omega
          clear hbn h3 h4 h5
          have H2 := hide h6
          clear h6
          clear h1
          go_wp2
          go_roundw
          case rel => exact ⟨n, op, g, by go_num, by go_num, hnT, by omega, unhide H2, unhide HB⟩
          case measure => simp [intOf]; omega
    · rw [if_neg hl] at hg; cases hg
end Go.Proofs.YtcffdclgddmigaaGreatDoor

namespace Go.Proofs.YtcffdclgddmigaaGreatDoor
open Go.RowKit

theorem IsB.kb {B b rb : Nat} {l : List UInt8} {w w' : World} (h : IsB B b l w) (hr : rb < B) (k : KB rb w w') : IsB B b l w' := by
  have g : ∀ p, Lib.BuilderAt 162 5 B b p (Lib.byteCells l) w → Lib.BuilderAt 162 5 B b p (Lib.byteCells l) w' := by
    rintro p ⟨hB, v, hb, hown, hne⟩
    have hlt := (Array.getElem?_eq_some_iff.1 hb).1
    refine ⟨hB, v, (k.block b hlt (by omega)).trans hb, ⟨hown.1, ?_⟩, hne⟩
    rcases hown.2 with hn | ⟨g, cap, cur, hv, hbg, hg, rest⟩
    · exact .inl hn
    · have hgl := (Array.getElem?_eq_some_iff.1 hg).1
      exact .inr ⟨g, cap, cur, hv, hbg, (k.block g hgl (by omega)).trans hg, rest⟩
  exact h.elim (fun x => .inl (g _ x)) (fun x => .inr (g _ x))
theorem KB.then_below {rb : Nat} {w w1 w2 : World} (h : KB rb w w1) (b : Below w.heap.size w1 w2) : KB rb w w2 :=
  ⟨b.os.trans h.os, b.tape.trans h.tape, b.output.trans h.output, Nat.le_trans h.size b.size, fun k hk hn => (b.block k hk).trans (h.block k hk hn)⟩
theorem Rdr.below' {rb : Nat} {s : ByteArray} {i : Nat} {tb kt : Bool} {B : Nat} {w w' : World} (h : Rdr rb s i tb kt w) (hb : Below B w w') (hB : rb < B) : Rdr rb s i tb kt w' := (hb.block rb hB).trans h

set_option maxHeartbeats 2000000 in
set_option maxRecDepth 100000 in
theorem readString_walk (rb : Nat) (s : ByteArray) (i : Nat) (tb kt : Bool) (w : World) (h : Rdr rb s i tb kt w) (hs : s.size ≤ 1048576) (hi : i ≤ s.size) (B : Nat) (hT : TabsB B w) (hB : B ≤ rb) :
    Calls Tryz.prog 130 #[.pointer (some ⟨rb, 0, none⟩)] w (Post rb s tb kt w ((strQ s i).map fun q => (.string (strOf q.1), q.2))) := by
  have hlt := h.lt
  have hal : Rdr rb s i tb kt (w.alloc (.cells #[.pointer none, .slice none 0 0] 162)) := h.below ((Below.refl _ _).alloc (Nat.le_refl _) _)
  by_cases h34 : bt s i = 34
  · have hlt' : i < s.size := bt_in (by rw [h34]; decide)
    have HE := hide (expect_yes rb s i tb kt _ hal hs 34 h34 hlt')
    have HQ : Hid (strQ s i = strR s (i + 1)) := by show _ = _; unfold strQ; rw [if_pos h34]
    clear hal h h34
    go_enter Tryz.func130, Tryz.ntmps130
    go_wp2_with fail
    refine (unhide HE).mono ?_
    rintro e w1 ⟨rfl, r1, k1⟩
    have R1 := hide r1
    clear HE r1
    go_wp2_with fail
    go_loopg [] (s.size + 1 - (i + 1)) (fun g wr => ∃ (j : Nat) (l : List UInt8), g = s.size + 1 - j ∧ j ≤ s.size ∧ l.length ≤ 4 * j ∧ IsB w.heap.size w.heap.size l wr ∧ Rdr rb s j tb kt wr ∧ KB rb w wr ∧ strR s (i + 1) = (strR s j).map fun q => (l ++ q.1, q.2))
    case atStart =>
      exact ⟨i + 1, [], rfl, by omega, by simp, IsB.kb (l := []) (Lib.fresh_isBuilder _ _ w) hlt k1, unhide R1, (KB.of_below ((Below.refl _ _).alloc (Nat.le_refl _) _)).trans k1, by simp⟩
    case round =>
      obtain ⟨j, l, hg, hj, hl, hI, hr, hk, hst⟩ := hrel
      have hgs := hk.size
      have hrlt := hr.lt
      have HI := hide hI
      have HR := hide hr
      have HST := hide hst
      clear R1 hI hr hst k1
      by_cases h34 : bt s j = 34
      · have hjl : j < s.size := bt_in (by rw [h34]; decide)
        have HS := hide (skip_yes rb s j tb kt wr (unhide HR) hs 34 h34 hjl)
        have HF : Hid (strQ s i = some (l, j + 1)) := by
          show _ = _
          rw [unhide HQ, unhide HST, strR_end h34]; simp
        clear h34
        go_wp2_with fail
        refine (unhide HS).mono ?_
        rintro e w2 ⟨rfl, r2, k2⟩
        have R2 := hide r2
        have HB := hide (bldString w.heap.size w.heap.size l w2 ((unhide HI).kb hlt k2) (by have := k2.size; omega))
        clear HS r2
        go_wp2_with fail
        refine (unhide HB).mono ?_
        rintro e w3 ⟨rfl, b3⟩
        have R3 := hide ((unhide R2).below' b3 hlt)
        have K3 := (hk.trans k2).then_below b3
        clear HB b3
        go_wp2
        go_ret
        exact ⟨K3, by rw [unhide HF]; exact ⟨rfl, unhide R3⟩⟩
      · have HS := hide (skip_no rb s j tb kt wr (unhide HR) hj 34 (.inl h34))
        have HP : Hid (∀ w1, Rdr rb s j tb kt w1 → KB rb wr w1 → Calls Tryz.prog 159 #[.pointer (some ⟨rb, 0, none⟩)] w1 (Post rb s tb kt w1 ((piece s j).map fun p => (.int .i32 (p.1 : Int), j + p.2)))) := fun w1 h1 k1 =>
          piece_walk' rb s j tb kt w1 h1 hs hj B (hT.next ((hk.trans k1).below hB (by omega)) (Nat.le_refl _)) hB
        cases hp : piece s j with
        | none =>
          have HF : Hid (strQ s i = none) := by
            show _ = _
            rw [unhide HQ, unhide HST, strR_bad h34 hp]; rfl
          rw [hp] at HP
          clear h34 hp
          go_wp2_with fail
          refine (unhide HS).mono ?_
          rintro e w2 ⟨rfl, r2, k2⟩
          have R2 := hide r2
          clear HS r2
          go_wp2_with fail
          refine (unhide HP _ (unhide R2) k2).mono ?_
          rintro e w3 ⟨k3, rfl⟩
          clear HP
          exact ⟨rfl, (hk.trans k2).trans k3, by rw [unhide HF]; rfl⟩
        | some p =>
          obtain ⟨r, n⟩ := p
          obtain ⟨p1, p2, p3⟩ := piece_ok hp
          have hel := enc_le r
          have HST2 : Hid (strR s (i + 1) = (strR s (j + n)).map fun q => (l ++ enc r ++ q.1, q.2)) := by
            show _ = _
            rw [unhide HST, strR_go h34 hp, Option.map_map]
            congr 1
            funext q
            simp
          rw [hp] at HP
          clear h34 hp
          go_wp2_with fail
          refine (unhide HS).mono ?_
          rintro e w2 ⟨rfl, r2, k2⟩
          have R2 := hide r2
          clear HS r2
          go_wp2_with fail
          refine (unhide HP _ (unhide R2) k2).mono ?_
          rintro e w3 ⟨k3, rfl, r3⟩
          have R3 := hide r3
          have I3 := ((unhide HI).kb hlt k2).kb hlt k3
          have HW := hide (writeRune_k w.heap.size w.heap.size (Lib.byteCells l) (r : Int) (by omega) (by omega) w3 I3 (by rw [Lib.byteCells_length]; omega) (by have := k2.size; have := k3.size; omega))
          clear HP r3 I3 R2
          go_wp2_with fail
          refine (unhide HW).mono ?_
          rintro e w4 ⟨⟨nn, rfl⟩, h4, b4, _⟩
          have I4 := hide (IsB.cells (m := enc r) (Lib.byteCells_encodeRune (r : Int)).symm h4)
          have R4 := hide ((unhide R3).below' b4 hlt)
          have K4 := ((hk.trans k2).trans k3).then_below b4
          clear HW h4 b4 R3
          go_wp2
          go_roundg (s.size + 1 - (j + n))
          case rel => exact ⟨j + n, l ++ enc r, rfl, by omega, by rw [List.length_append]; omega, unhide I4, unhide R4, K4, unhide HST2⟩
          case measure => omega
  · have HE := hide (expect_no rb s i tb kt _ hal hs hi 34 (.inl h34))
    have HQ : Hid (strQ s i = none) := by show _ = _; unfold strQ; rw [if_neg h34]
    clear hal h h34
    go_enter Tryz.func130, Tryz.ntmps130
    go_wp2_with fail
    refine (unhide HE).mono ?_
    rintro e w1 ⟨rfl, k1⟩
    clear HE
    refine ⟨rfl, (KB.of_below ((Below.refl _ _).alloc (Nat.le_refl _) _)).trans k1, by rw [unhide HQ]; rfl⟩
end Go.Proofs.YtcffdclgddmigaaGreatDoor
