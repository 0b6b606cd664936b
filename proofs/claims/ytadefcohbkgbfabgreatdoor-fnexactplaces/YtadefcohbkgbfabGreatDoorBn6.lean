import Derived.Test.YtadefcohbkgbfabGreatDoorBn1
import Derived.Test.YtadefcohbkgbfabGreatDoorBn4
import Derived.Test.YtadefcohbkgbfabGreatDoorBn5
import Derived.Laws.DeepStrings4
namespace Go.Proofs.YtadefcohbkgbfabGreatDoor
open Go.RowKit

theorem bt_drop (s : ByteArray) (i k : Nat) : bt s (i + k) = ((s.data.toList.drop i).getD k 0).toNat := by
  unfold bt; rw [List.getD_eq_getElem?_getD, List.getD_eq_getElem?_getD, List.getElem?_drop]
theorem drop_size {s : ByteArray} {i : Nat} {m : List UInt8} (h : s.data.toList.drop i = m) (hm : m ≠ []) : s.size = i + m.length := by
  have h1 : (s.data.toList.drop i).length = m.length := by rw [h]
  have h2 : 0 < m.length := List.length_pos_iff.2 hm
  rw [List.length_drop, data_len] at h1
  omega
theorem hx_hexs : ∀ k : Fin 16, hx (hexs.getD k.val 0).toNat = some k.val := by decide
theorem enc_lo {r : Nat} (h : r < 128) : enc r = [UInt8.ofNat r] := by
  unfold enc; rw [← utf_enc (by omega) (by omega)]; unfold utf utfZ; rw [if_pos h]; rfl

theorem piece_esc {T : ByteArray} {i : Nat} {c x : UInt8} {m : List UInt8} (hq : qB c = [92, x]) (hs : smp x.toNat = some c.toNat) (h : T.data.toList.drop i = qB c ++ m) :
    bt T i ≠ 34 ∧ piece T i = some (c.toNat, (qB c).length) := by
  have b0 := bt_drop T i 0
  have b1 := bt_drop T i 1
  rw [h, hq] at b0 b1
  change bt T i = 92 at b0
  change bt T (i + 1) = x.toNat at b1
  refine ⟨by omega, ?_⟩
  unfold piece
  rw [if_pos b0, escP_s b1 hs, hq]; rfl
theorem piece_ctl {T : ByteArray} {i : Nat} {c : UInt8} {m : List UInt8} (hc : Ctl c.toNat) (h : T.data.toList.drop i = qB c ++ m) :
    bt T i ≠ 34 ∧ piece T i = some (c.toNat, (qB c).length) := by
  have hq := q_ctl hc
  have hlt := hc.1
  have x1 := hx_hexs ⟨c.toNat / 16, by omega⟩
  have x2 := hx_hexs ⟨c.toNat % 16, by omega⟩
  simp only at x1 x2
  generalize hexs.getD (c.toNat / 16) 0 = a at *
  generalize hexs.getD (c.toNat % 16) 0 = b at *
  have b0 := bt_drop T i 0
  have b1 := bt_drop T i 1
  have b2 := bt_drop T i 2
  have b3 := bt_drop T i 3
  have b4 := bt_drop T i 4
  have b5 := bt_drop T i 5
  rw [h, hq] at b0 b1 b2 b3 b4 b5
  change bt T i = 92 at b0
  change bt T (i + 1) = 117 at b1
  change bt T (i + 2) = 48 at b2
  change bt T (i + 3) = 48 at b3
  change bt T (i + 4) = a.toNat at b4
  change bt T (i + 5) = b.toNat at b5
  have e : hexN T (i + 2) 4 = some ((((0 * 16 + 0) * 16 + 0) * 16 + c.toNat / 16) * 16 + c.toNat % 16) := by
    refine hexN_next (hexN_next (hexN_next (hexN_next rfl ?_) ?_) ?_) ?_
    · show hx (bt T (i + 2)) = _
      rw [b2]; rfl
    · show hx (bt T (i + 3)) = _
      rw [b3]; rfl
    · show hx (bt T (i + 4)) = _
      rw [b4]; exact x1
    · show hx (bt T (i + 5)) = _
      rw [b5]; exact x2
  refine ⟨by omega, ?_⟩
  unfold piece
  rw [if_pos b0, escP_u b0 b1, e, hq]
  show escU T i _ = _
  unfold escU
  rw [if_pos (by omega)]
  congr 2
  omega
theorem piece_q {T : ByteArray} {i : Nat} {c : UInt8} {m : List UInt8} (hc : c.toNat < 128) (h : T.data.toList.drop i = qB c ++ m) :
    bt T i ≠ 34 ∧ piece T i = some (c.toNat, (qB c).length) := by
  by_cases e1 : c.toNat = 34
  · exact piece_esc (q_esc (by omega)) (by rw [e1]; rfl) h
  by_cases e2 : c.toNat = 92
  · exact piece_esc (q_esc (by omega)) (by rw [e2]; rfl) h
  by_cases e3 : c.toNat = 8
  · exact piece_esc (q_8 (by omega)) (by rw [e3]; rfl) h
  by_cases e4 : c.toNat = 9
  · exact piece_esc (q_9 (by omega)) (by rw [e4]; rfl) h
  by_cases e5 : c.toNat = 10
  · exact piece_esc (q_10 (by omega)) (by rw [e5]; rfl) h
  by_cases e6 : c.toNat = 12
  · exact piece_esc (q_12 (by omega)) (by rw [e6]; rfl) h
  by_cases e7 : c.toNat = 13
  · exact piece_esc (q_13 (by omega)) (by rw [e7]; rfl) h
  by_cases e8 : c.toNat < 32
  · exact piece_ctl ⟨e8, e3, e4, e5, e6, e7⟩ h
  have hq := q_lit e1 e2 (by omega)
  have b0 := bt_drop T i 0
  rw [h, hq] at b0
  change bt T i = c.toNat at b0
  refine ⟨by omega, ?_⟩
  unfold piece
  rw [if_neg (by omega), if_neg (by omega), if_pos (by omega), b0, hq]; rfl

theorem take_getD (l : List UInt8) (n k : Nat) (m : List UInt8) (h : k < n) (hn : n ≤ l.length) : (l.take n ++ m).getD k 0 = l.getD k 0 := by
  rw [List.getD_eq_getElem?_getD, List.getD_eq_getElem?_getD, List.getElem?_append_left (by rw [List.length_take]; omega), List.getElem?_take_of_lt h]

theorem rl_same {s T : ByteArray} {i j : Nat} {m : List UInt8} (hi : i < s.size) (h8 : ¬ s[i].toNat < 128) (hr : ¬ rl s i = 0) (h : T.data.toList.drop j = (s.data.toList.drop i).take (rl s i) ++ m) : rl T j = rl s i := by
  have hle := rl_le s i hi
  have hlen : (s.data.toList.drop i).length = s.size - i := by rw [List.length_drop, data_len]
  have hb : ∀ k, k < rl s i → bt T (j + k) = bt s (i + k) := fun k hk => by
    rw [bt_drop, bt_drop, h, take_getD _ _ _ _ hk (by omega)]
  have hn : rl s i ≤ T.size - j := by
    have h1 := drop_size h (by
      intro e
      have := congrArg List.length e
      rw [List.length_append, List.length_take, hlen] at this
      simp at this; omega)
    rw [List.length_append, List.length_take, hlen] at h1
    omega
  have hb0 := bt_at s i hi
  have h192 : 192 ≤ bt s i := by
    rcases Nat.lt_or_ge (bt s i) 192 with g | g
    · exact absurd (show rl s i = 0 by unfold rl; rw [rlN_cont (by omega) g]) hr
    · exact g
  have hT0 := hb 0 (by omega)
  rw [Nat.add_zero, Nat.add_zero] at hT0
  have l1 := bt_lt s (i + 1)
  have l2 := bt_lt s (i + 2)
  have l3 := bt_lt s (i + 3)
  by_cases h2 : bt s i < 224
  · have e := rlN_2 (n := s.size - i) (b0 := bt s i) (b1 := bt s (i + 1)) (b2 := bt s (i + 2)) (b3 := bt s (i + 3)) h192 h2 l1
    have e' := rlN_2 (n := T.size - j) (b0 := bt T j) (b1 := bt T (j + 1)) (b2 := bt T (j + 2)) (b3 := bt T (j + 3)) (by omega) (by omega) (bt_lt _ _)
    change rl s i = _ at e
    change rl T j = _ at e'
    split at e
    · rename_i hc
      have x1 := hb 1 (by omega)
      rw [e', e, if_pos (by rw [hT0, x1]; omega)]
    · omega
  by_cases h3 : bt s i < 240
  · have e := rlN_3 (n := s.size - i) (b0 := bt s i) (b1 := bt s (i + 1)) (b2 := bt s (i + 2)) (b3 := bt s (i + 3)) (by omega) h3 l1 l2
    have e' := rlN_3 (n := T.size - j) (b0 := bt T j) (b1 := bt T (j + 1)) (b2 := bt T (j + 2)) (b3 := bt T (j + 3)) (by omega) (by omega) (bt_lt _ _) (bt_lt _ _)
    change rl s i = _ at e
    change rl T j = _ at e'
    split at e
    · rename_i hc
      have x1 := hb 1 (by omega)
      have x2 := hb 2 (by omega)
      rw [e', e, if_pos (by rw [hT0, x1, x2]; omega)]
    · omega
  · have e := rlN_4 (n := s.size - i) (b0 := bt s i) (b1 := bt s (i + 1)) (b2 := bt s (i + 2)) (b3 := bt s (i + 3)) (by omega) (bt_lt _ _) l1 l2 l3
    have e' := rlN_4 (n := T.size - j) (b0 := bt T j) (b1 := bt T (j + 1)) (b2 := bt T (j + 2)) (b3 := bt T (j + 3)) (by omega) (bt_lt _ _) (bt_lt _ _) (bt_lt _ _) (bt_lt _ _)
    change rl s i = _ at e
    change rl T j = _ at e'
    split at e
    · rename_i hc
      have x1 := hb 1 (by omega)
      have x2 := hb 2 (by omega)
      have x3 := hb 3 (by omega)
      rw [e', e, if_pos (by rw [hT0, x1, x2, x3]; omega)]
    · omega

theorem drop_past {l m n : List UInt8} {j : Nat} (h : l.drop j = m ++ n) : l.drop (j + m.length) = n := by
  rw [← List.drop_drop, h, List.drop_left]

theorem str_round (s T : ByteArray) : ∀ (f pos : Nat), s.size ≤ pos + f → Lib.validD (s.data.toList.drop pos) = true → ∀ j, T.data.toList.drop j = qs (s.data.toList.drop pos) ++ [34] → strR T j = some (s.data.toList.drop pos, T.size)
  | f, pos, h, hv, j, hj => by
    by_cases hp : pos < s.size
    · cases f with
      | zero => omega
      | succ f =>
        have hr : ¬ rl s pos = 0 := fun e => by rw [valid_bad s pos hp e] at hv; cases hv
        have hv2 := hv
        rw [valid_go s pos hp hr] at hv2
        by_cases h8 : s[pos].toNat < 128
        · have e1 : rl s pos = 1 := by unfold rl; rw [rlN_one (by rw [bt_at s pos hp]; exact h8)]
          rw [e1] at hv2
          have hq : T.data.toList.drop j = qB s[pos] ++ (qs (s.data.toList.drop (pos + 1)) ++ [34]) := by
            rw [hj, drop_at s pos hp]; simp [qs]
          obtain ⟨p1, p2⟩ := piece_q h8 hq
          have ih := str_round s T f (pos + 1) (by omega) hv2 (j + (qB s[pos]).length) (drop_past hq)
          rw [strR_go p1 p2, ih, enc_lo h8, show UInt8.ofNat s[pos].toNat = s[pos] from UInt8.ofNat_toNat, drop_at s pos hp]
          rfl
        · obtain ⟨g1, g2, g3, g4⟩ := enc_multi s pos hp hr h8
          have hsplit := (List.take_append_drop (rl s pos) (s.data.toList.drop pos)).symm
          rw [List.drop_drop] at hsplit
          have hq : T.data.toList.drop j = (s.data.toList.drop pos).take (rl s pos) ++ (qs (s.data.toList.drop (pos + rl s pos)) ++ [34]) := by
            rw [hj]
            conv => lhs; rw [hsplit]
            rw [qs_app, qs_high _ g2, List.append_assoc]
          have hle := rl_le s pos hp
          have hlen : ((s.data.toList.drop pos).take (rl s pos)).length = rl s pos := by rw [List.length_take, List.length_drop, data_len]; omega
          have hrl := rl_same hp h8 hr hq
          have ih := str_round s T f (pos + rl s pos) (by omega) hv2 (j + rl s pos) (by have := drop_past hq; rwa [hlen] at this)
          have hjT : j < T.size := by
            have := drop_size hq (by intro e; have := congrArg List.length e; rw [List.length_append, hlen, List.length_nil] at this; omega)
            rw [List.length_append, hlen] at this; omega
          have b0 : bt T j = bt s pos := by
            have x := bt_drop T j 0
            have y := bt_drop s pos 0
            rw [Nat.add_zero] at x y
            rw [x, y, hq, take_getD _ _ _ _ (by omega) (by rw [List.length_drop, data_len]; omega)]
          have hb0 := bt_at s pos hp
          have b8 : ¬ T[j].toNat < 128 := by rw [← bt_at T j hjT]; omega
          obtain ⟨k1, k2, k3, k4⟩ := enc_multi T j hjT (by rw [hrl]; exact hr) b8
          have hp2 : piece T j = some ((Utf8.decode T j).1, rl s pos) := by
            unfold piece
            rw [if_neg (by omega), if_neg (by omega), if_neg (by omega), if_neg (by rw [hrl]; exact hr), hrl]
          rw [strR_go (by omega) hp2, ih]
          unfold enc
          rw [k1, hq, hrl]
          conv => rhs; rw [hsplit]
          rw [List.take_append_of_le_length (by omega), List.take_of_length_le (by omega)]
          rfl
    · rw [drop_end s pos hp] at hj ⊢
      have hs := drop_size hj (by simp [qs])
      have b0 := bt_drop T j 0
      rw [hj] at b0
      change bt T j = 34 at b0
      rw [strR_end b0]
      simp [qs] at hs
      rw [hs]

/-- A quoted text is read back. -/
theorem strQ_quoted (s : ByteArray) (hv : Lib.validD s.data.toList = true) : strQ (strOf (quoted s.data.toList)) 0 = some (s.data.toList, (strOf (quoted s.data.toList)).size) := by
  have h := str_round s (strOf (quoted s.data.toList)) s.size 0 (by omega) (by simpa using hv) 1 (by rw [strOf_toList]; rfl)
  have b : bt (strOf (quoted s.data.toList)) 0 = 34 := by unfold bt; rw [strOf_toList]; rfl
  unfold strQ
  rw [if_pos b]
  exact h
end Go.Proofs.YtadefcohbkgbfabGreatDoor


namespace Go.Proofs.YtadefcohbkgbfabGreatDoor
open Go.RowKit

theorem bt_app0 (a l : List UInt8) (k : Nat) (h : k < a.length) : bt (strOf (a ++ l)) k = (a.getD k 0).toNat := by
  unfold bt; rw [strOf_toList]
  simp only [List.getD]
  rw [List.getElem?_append_left h]
theorem ofNat_lt {n : Nat} (h : n < 256) : (UInt8.ofNat n).toNat = n := by rw [UInt8.toNat_ofNat']; omega

/-- A rune's bytes are read as that many. -/
theorem rl_utf (r : Nat) (h : r ≤ 1114111) (h' : r < 55296 ∨ 57344 ≤ r) (l : List UInt8) : rl (strOf (utf r ++ l)) 0 = (utf r).length ∧ 0 < (utf r).length := by
  have hz : (strOf (utf r ++ l)).size - 0 = (utf r).length + l.length := by rw [strOf_size, List.length_append]; omega
  unfold rl
  rw [hz]
  by_cases h1 : r < 128
  · have e : utf r = [UInt8.ofNat r] := by unfold utf utfZ; rw [if_pos h1]; rfl
    rw [e]
    refine ⟨?_, by simp⟩
    rw [bt_app0 _ _ 0 (by simp), rlN_one]
    · rfl
    · show (UInt8.ofNat r).toNat < 128
      rw [ofNat_lt (by omega)]; exact h1
  · by_cases h2 : r < 2048
    · have e : utf r = [UInt8.ofNat (192 + r / 64), UInt8.ofNat (128 + r % 64)] := by unfold utf utfZ; rw [if_neg h1, if_pos h2]; rfl
      rw [e]
      refine ⟨?_, by simp⟩
      rw [bt_app0 _ _ 0 (by simp), bt_app0 _ _ (0 + 1) (by simp)]
      have b0 : ([UInt8.ofNat (192 + r / 64), UInt8.ofNat (128 + r % 64)].getD 0 0).toNat = 192 + r / 64 := ofNat_lt (by omega)
      have b1 : ([UInt8.ofNat (192 + r / 64), UInt8.ofNat (128 + r % 64)].getD (0 + 1) 0).toNat = 128 + r % 64 := ofNat_lt (by omega)
      rw [b0, b1, rlN_2 (by omega) (by omega) (by omega), if_pos (by simp only [List.length_cons, List.length_nil]; omega)]
      rfl
    · by_cases h3 : r < 65536
      · have e : utf r = [UInt8.ofNat (224 + r / 4096), UInt8.ofNat (128 + r / 64 % 64), UInt8.ofNat (128 + r % 64)] := by unfold utf utfZ; rw [if_neg h1, if_neg h2, if_pos h3]; rfl
        rw [e]
        refine ⟨?_, by simp⟩
        rw [bt_app0 _ _ 0 (by simp), bt_app0 _ _ (0 + 1) (by simp), bt_app0 _ _ (0 + 2) (by simp)]
        have b0 : ([UInt8.ofNat (224 + r / 4096), UInt8.ofNat (128 + r / 64 % 64), UInt8.ofNat (128 + r % 64)].getD 0 0).toNat = 224 + r / 4096 := ofNat_lt (by omega)
        have b1 : ([UInt8.ofNat (224 + r / 4096), UInt8.ofNat (128 + r / 64 % 64), UInt8.ofNat (128 + r % 64)].getD (0 + 1) 0).toNat = 128 + r / 64 % 64 := ofNat_lt (by omega)
        have b2 : ([UInt8.ofNat (224 + r / 4096), UInt8.ofNat (128 + r / 64 % 64), UInt8.ofNat (128 + r % 64)].getD (0 + 2) 0).toNat = 128 + r % 64 := ofNat_lt (by omega)
        rw [b0, b1, b2, rlN_3 (by omega) (by omega) (by omega) (by omega), if_pos (by simp only [List.length_cons, List.length_nil]; omega)]
        rfl
      · have e : utf r = [UInt8.ofNat (240 + r / 262144), UInt8.ofNat (128 + r / 4096 % 64), UInt8.ofNat (128 + r / 64 % 64), UInt8.ofNat (128 + r % 64)] := by unfold utf utfZ; rw [if_neg h1, if_neg h2, if_neg h3]; rfl
        rw [e]
        refine ⟨?_, by simp⟩
        rw [bt_app0 _ _ 0 (by simp), bt_app0 _ _ (0 + 1) (by simp), bt_app0 _ _ (0 + 2) (by simp), bt_app0 _ _ (0 + 3) (by simp)]
        have b0 : ([UInt8.ofNat (240 + r / 262144), UInt8.ofNat (128 + r / 4096 % 64), UInt8.ofNat (128 + r / 64 % 64), UInt8.ofNat (128 + r % 64)].getD 0 0).toNat = 240 + r / 262144 := ofNat_lt (by omega)
        have b1 : ([UInt8.ofNat (240 + r / 262144), UInt8.ofNat (128 + r / 4096 % 64), UInt8.ofNat (128 + r / 64 % 64), UInt8.ofNat (128 + r % 64)].getD (0 + 1) 0).toNat = 128 + r / 4096 % 64 := ofNat_lt (by omega)
        have b2 : ([UInt8.ofNat (240 + r / 262144), UInt8.ofNat (128 + r / 4096 % 64), UInt8.ofNat (128 + r / 64 % 64), UInt8.ofNat (128 + r % 64)].getD (0 + 2) 0).toNat = 128 + r / 64 % 64 := ofNat_lt (by omega)
        have b3 : ([UInt8.ofNat (240 + r / 262144), UInt8.ofNat (128 + r / 4096 % 64), UInt8.ofNat (128 + r / 64 % 64), UInt8.ofNat (128 + r % 64)].getD (0 + 3) 0).toNat = 128 + r % 64 := ofNat_lt (by omega)
        rw [b0, b1, b2, b3, rlN_4 (by omega) (by omega) (by omega) (by omega) (by omega), if_pos (by simp only [List.length_cons, List.length_nil]; omega)]
        rfl

theorem valid_front {a l : List UInt8} (h0 : 0 < a.length) (h : rl (strOf (a ++ l)) 0 = a.length) : Lib.validD (a ++ l) = Lib.validD l := by
  have := valid_go (strOf (a ++ l)) 0 (by rw [strOf_size, List.length_append]; omega) (by rw [h]; omega)
  rw [strOf_toList, h, Nat.zero_add, List.drop_zero, List.drop_left] at this
  exact this

theorem piece_valid {s : ByteArray} {i r n : Nat} (h : piece s i = some (r, n)) (l : List UInt8) : Lib.validD (enc r ++ l) = Lib.validD l := by
  have fin : r ≤ 1114111 → (r < 55296 ∨ 57344 ≤ r) → Lib.validD (enc r ++ l) = Lib.validD l := fun h1 h2 => by
    have e : enc r = utf r := (utf_enc h1 h2).symm
    rw [e]
    obtain ⟨a, b⟩ := rl_utf r h1 h2 l
    exact valid_front b a
  unfold piece at h
  split at h
  · have := escP_ok h; exact fin this.2.2.1 this.2.2.2
  · split at h
    · cases h
    · have hi : i < s.size := bt_in (by omega)
      split at h
      · injection h with h; injection h with h1 h2
        exact fin (by omega) (by omega)
      · rename_i h8
        split at h
        · cases h
        · rename_i hr
          injection h with h; injection h with h1 h2
          have h8' : ¬ s[i].toNat < 128 := by rw [← bt_at s i hi]; exact h8
          obtain ⟨g1, g2, g3, g4⟩ := enc_multi s i hi hr h8'
          have e : enc r = (s.data.toList.drop i).take (rl s i) := by unfold enc; rw [← h1]; exact g1
          have hle := rl_le s i hi
          have hlen : ((s.data.toList.drop i).take (rl s i)).length = rl s i := by rw [List.length_take, List.length_drop, data_len]; omega
          rw [e]
          refine valid_front (by omega) ?_
          rw [hlen]
          exact rl_same (m := l) hi h8' hr (by rw [strOf_toList, List.drop_zero])

theorem strR_valid {s : ByteArray} : ∀ {i j : Nat} {l : List UInt8}, strR s i = some (l, j) → Lib.validD l = true := by
  intro i
  generalize hn : s.size - i = n
  induction n using Nat.strongRecOn generalizing i with
  | _ n ih =>
    intro j l h
    by_cases h34 : bt s i = 34
    · rw [strR_end h34] at h
      injection h with h; injection h with h1 h2
      subst h1; rfl
    · cases hp : piece s i with
      | none => rw [strR_bad h34 hp] at h; cases h
      | some p =>
        obtain ⟨r, n'⟩ := p
        have hk := piece_ok hp
        rw [strR_go h34 hp] at h
        rcases hq : strR s (i + n') with _ | ⟨l2, j2⟩
        · rw [hq] at h; cases h
        · rw [hq] at h
          injection h with h; injection h with h1 h2
          simp only at h1
          rw [← h1, piece_valid hp]
          exact ih (s.size - (i + n')) (by omega) rfl hq
theorem strQ_valid {s : ByteArray} {i j : Nat} {l : List UInt8} (h : strQ s i = some (l, j)) : Lib.validD l = true := by
  unfold strQ at h
  split at h
  · exact strR_valid h
  · cases h

theorem drop_size2 {s : ByteArray} {i : Nat} {m : List UInt8} (h : s.data.toList.drop i = m) (hm : m ≠ []) : i < s.size := by
  have := drop_size h hm
  have : 0 < m.length := by cases m with
    | nil => exact absurd rfl hm
    | cons _ _ => simp
  omega

/-- Pieces that stand for bytes are read as these bytes, whatever stands behind. -/
theorem str_at (s T : ByteArray) (m : List UInt8) : ∀ (f pos : Nat), s.size ≤ pos + f → Lib.validD (s.data.toList.drop pos) = true → ∀ j, T.data.toList.drop j = qs (s.data.toList.drop pos) ++ 34 :: m → strR T j = some (s.data.toList.drop pos, j + (qs (s.data.toList.drop pos)).length + 1)
  | f, pos, h, hv, j, hj => by
    by_cases hp : pos < s.size
    · cases f with
      | zero => omega
      | succ f =>
        have hr : ¬ rl s pos = 0 := fun e => by rw [valid_bad s pos hp e] at hv; cases hv
        have hv2 := hv
        rw [valid_go s pos hp hr] at hv2
        by_cases h8 : s[pos].toNat < 128
        · have e1 : rl s pos = 1 := by unfold rl; rw [rlN_one (by rw [bt_at s pos hp]; exact h8)]
          rw [e1] at hv2
          have hq : T.data.toList.drop j = qB s[pos] ++ (qs (s.data.toList.drop (pos + 1)) ++ 34 :: m) := by
            rw [hj, drop_at s pos hp]; simp [qs]
          obtain ⟨p1, p2⟩ := piece_q h8 hq
          have ih := str_at s T m f (pos + 1) (by omega) hv2 (j + (qB s[pos]).length) (drop_past hq)
          rw [strR_go p1 p2, ih, enc_lo h8, show UInt8.ofNat s[pos].toNat = s[pos] from UInt8.ofNat_toNat, drop_at s pos hp]
          have e2 : (qs (s[pos] :: s.data.toList.drop (pos + 1))).length = (qB s[pos]).length + (qs (s.data.toList.drop (pos + 1))).length := by simp [qs]
          rw [e2]
          simp only [Option.map_some, Option.some.injEq, Prod.mk.injEq]
          exact ⟨rfl, by omega⟩
        · obtain ⟨g1, g2, g3, g4⟩ := enc_multi s pos hp hr h8
          have hsplit := (List.take_append_drop (rl s pos) (s.data.toList.drop pos)).symm
          rw [List.drop_drop] at hsplit
          have hqs : qs (s.data.toList.drop pos) = (s.data.toList.drop pos).take (rl s pos) ++ qs (s.data.toList.drop (pos + rl s pos)) := by
            conv => lhs; rw [hsplit]
            rw [qs_app, qs_high _ g2]
          have hq : T.data.toList.drop j = (s.data.toList.drop pos).take (rl s pos) ++ (qs (s.data.toList.drop (pos + rl s pos)) ++ 34 :: m) := by
            rw [hj, hqs, List.append_assoc]
          have hle := rl_le s pos hp
          have hlen : ((s.data.toList.drop pos).take (rl s pos)).length = rl s pos := by rw [List.length_take, List.length_drop, data_len]; omega
          have hrl := rl_same hp h8 hr hq
          have ih := str_at s T m f (pos + rl s pos) (by omega) hv2 (j + rl s pos) (by have := drop_past hq; rwa [hlen] at this)
          have hjT : j < T.size := by
            have := drop_size hq (by intro e; have := congrArg List.length e; rw [List.length_append, hlen, List.length_nil] at this; omega)
            rw [List.length_append, hlen] at this; omega
          have b0 : bt T j = bt s pos := by
            have x := bt_drop T j 0
            have y := bt_drop s pos 0
            rw [Nat.add_zero] at x y
            rw [x, y, hq, take_getD _ _ _ _ (by omega) (by rw [List.length_drop, data_len]; omega)]
          have hb0 := bt_at s pos hp
          have b8 : ¬ T[j].toNat < 128 := by rw [← bt_at T j hjT]; omega
          obtain ⟨k1, k2, k3, k4⟩ := enc_multi T j hjT (by rw [hrl]; exact hr) b8
          have hp2 : piece T j = some ((Utf8.decode T j).1, rl s pos) := by
            unfold piece
            rw [if_neg (by omega), if_neg (by omega), if_neg (by omega), if_neg (by rw [hrl]; exact hr), hrl]
          rw [strR_go (by omega) hp2, ih]
          unfold enc
          rw [k1, hq, hrl, hqs]
          simp only [Option.map_some, Option.some.injEq, Prod.mk.injEq]
          refine ⟨?_, by rw [List.length_append, hlen]; omega⟩
          conv => rhs; rw [hsplit]
          rw [List.take_append_of_le_length (by omega), List.take_of_length_le (by omega)]
    · rw [drop_end s pos hp] at hj ⊢
      have b0 := bt_drop T j 0
      rw [hj] at b0
      change bt T j = 34 at b0
      rw [strR_end b0]
      rfl

/-- A quoted text in a text is read back. -/
theorem strQ_at (l : List UInt8) (T : ByteArray) (m : List UInt8) (hv : Lib.validD l = true) (j : Nat) (hj : T.data.toList.drop j = quoted l ++ m) : strQ T j = some (l, j + (quoted l).length) := by
  have hj' : T.data.toList.drop j = 34 :: (qs l ++ 34 :: m) := by rw [hj]; simp [quoted]
  have b : bt T j = 34 := by have := bt_drop T j 0; rw [hj'] at this; exact this
  have h := str_at (strOf l) T m l.length 0 (by rw [strOf_size]; omega) (by rw [strOf_toList]; exact hv) (j + 1) (by
    have := drop_past (m := [34]) (n := qs l ++ 34 :: m) hj'
    rw [strOf_toList]; exact this)
  rw [strOf_toList, List.drop_zero] at h
  unfold strQ
  rw [if_pos b, h]
  have e : (quoted l).length = (qs l).length + 2 := by simp [quoted]
  rw [e]
  congr 2
  omega

mutual
/-- A tree whose strings are valid UTF-8 and whose numbers are such texts as are read. -/
def okV : JV → Prop
  | .nul => True
  | .tt => True
  | .ff => True
  | .num l => ∃ (c : UInt8) (r : List UInt8), l = c :: r ∧ (c.toNat = 45 ∨ isDg c.toNat = true) ∧ ∀ b ∈ r, isDg b.toNat = true
  | .str l => Lib.validD l = true
  | .arr l => okL l
  | .obj m => okM m
def okL : JL → Prop
  | .nil => True
  | .cons v r => okV v ∧ okL r
def okM : JM → Prop
  | .nil => True
  | .cons k v r => Lib.validD k = true ∧ okV v ∧ okM r
end
end Go.Proofs.YtadefcohbkgbfabGreatDoor


namespace Go.Proofs.YtadefcohbkgbfabGreatDoor
open Go.RowKit

theorem dgF_all (s : ByteArray) : ∀ f i k, i ≤ k → k < dgF s f i → isDg (bt s k) = true
  | 0, i, k, h1, h2 => by simp [dgF] at h2; omega
  | f + 1, i, k, h1, h2 => by
    rw [dgF] at h2
    split at h2
    · rename_i hd
      by_cases e : k = i
      · subst e; exact hd
      · exact dgF_all s f (i + 1) k (by omega) h2
    · omega
theorem dg_all {s : ByteArray} {i k : Nat} (h1 : i ≤ k) (h2 : k < dg s i) : isDg (bt s k) = true := dgF_all s _ i k h1 h2
theorem cutB_at {s : ByteArray} {i j : Nat} {c : UInt8} (h : c ∈ cutB s i j) : ∃ k, i ≤ k ∧ k < j ∧ c.toNat = bt s k := by
  unfold cutB at h
  obtain ⟨n, hn, rfl⟩ := List.getElem_of_mem h
  rw [List.length_take, List.length_drop] at hn
  refine ⟨i + n, by omega, by omega, ?_⟩
  unfold bt
  rw [data_len] at hn
  have hk : i + n < s.data.size := by show i + n < s.size; omega
  simp only [List.getD, List.getElem_take, List.getElem_drop, Array.getElem_toList, Array.getElem?_toList]
  rw [Array.getElem?_eq_getElem hk]
  rfl
theorem cutB_head {s : ByteArray} {i j : Nat} (h : i < j) (hi : i < s.size) : cutB s i j = s.data.toList.getD i 0 :: cutB s (i + 1) j := by
  unfold cutB
  rw [drop_at s i hi, show j - i = (j - (i + 1)) + 1 by omega, List.take_succ_cons]
  congr 1
  rw [List.getD, List.getElem?_eq_getElem (by rw [data_len]; exact hi)]
  rfl
theorem nm_form {s : ByteArray} {i j : Nat} {l : List UInt8} (h : nm s i = some (l, j)) : ∃ (c : UInt8) (r : List UInt8), l = c :: r ∧ (c.toNat = 45 ∨ isDg c.toNat = true) ∧ ∀ b ∈ r, isDg b.toNat = true := by
  have hok := nm_ok h
  unfold nm at h
  split at h
  · rename_i hd
    injection h with h; injection h with h1 h2
    have hlt : nmD s i < s.size := bt_in (by have := isDg_iff.1 hd; omega)
    have hge : i ≤ nmD s i := by unfold nmD; split <;> omega
    have hall : ∀ k, nmD s i ≤ k → k < nmE s i → isDg (bt s k) = true := fun k h1 h2 => by
      unfold nmE at h2
      split at h2
      · have : k = nmD s i := by omega
        rw [this]; exact hd
      · exact dg_all h1 h2
    have hraw : ∃ (c : UInt8) (r : List UInt8), cutB s i (nmE s i) = c :: r ∧ (c.toNat = 45 ∨ isDg c.toNat = true) ∧ ∀ b ∈ r, isDg b.toNat = true := by
      refine ⟨_, _, cutB_head (by omega) (by omega), ?_, fun b hb => ?_⟩
      · by_cases h45 : bt s i = 45
        · exact .inl h45
        · right
          have e : nmD s i = i := by unfold nmD; rw [if_neg h45]
          rw [e] at hd; exact hd
      · obtain ⟨k, k1, k2, k3⟩ := cutB_at hb
        rw [k3]
        refine hall k ?_ k2
        unfold nmD; split <;> omega
    unfold norm0 at h1
    split at h1
    · exact ⟨48, [], h1.symm, .inr rfl, fun b hb => by simp at hb⟩
    · obtain ⟨c, r, e, a, b⟩ := hraw
      exact ⟨c, r, by rw [← h1, e], a, b⟩
  · cases h

theorem p_okV (s : ByteArray) : ∀ f i, (∀ v j, pv s f i = some (v, j) → okV v) ∧ (∀ l j, pa s f i = some (l, j) → okL l) ∧ (∀ m j, po s f i = some (m, j) → okM m)
  | 0, i => ⟨fun v j h => by simp [pv] at h, fun v j h => by simp [pa] at h, fun v j h => by simp [po] at h⟩
  | f + 1, i => by
    refine ⟨fun v j h => ?_, fun l j h => ?_, fun m j h => ?_⟩
    · rw [pv] at h
      split at h
      · split at h
        · injection h with h; injection h with hv h; subst hv; rw [okV, okL]; trivial
        · simp only [Option.map_eq_some_iff] at h
          obtain ⟨⟨l, k⟩, hk, h⟩ := h
          injection h with hv h
          subst hv; rw [okV]; exact (p_okV s f (sk s (i + 1))).2.1 l k hk
      · split at h
        · split at h
          · injection h with h; injection h with hv h; subst hv; rw [okV, okM]; trivial
          · simp only [Option.map_eq_some_iff] at h
            obtain ⟨⟨l, k⟩, hk, h⟩ := h
            injection h with hv h
            subst hv; rw [okV]; exact (p_okV s f (sk s (i + 1))).2.2 l k hk
        · split at h
          · simp only [Option.map_eq_some_iff] at h
            obtain ⟨⟨l, k⟩, hk, h⟩ := h
            injection h with hv h
            subst hv; rw [okV]; exact strQ_valid hk
          · split at h
            · injection h with h; injection h with hv h; subst hv; rw [okV]; trivial
            · split at h
              · injection h with h; injection h with hv h; subst hv; rw [okV]; trivial
              · split at h
                · injection h with h; injection h with hv h; subst hv; rw [okV]; trivial
                · simp only [Option.map_eq_some_iff] at h
                  obtain ⟨⟨l, k⟩, hk, h⟩ := h
                  injection h with hv h
                  subst hv; rw [okV]; exact nm_form hk
    · rw [pa] at h
      simp only [Option.bind_eq_some_iff] at h
      obtain ⟨⟨v, k⟩, hk, h⟩ := h
      have h1 := (p_okV s f i).1 v k hk
      simp only at h
      split at h
      · injection h with h; injection h with hv h; subst hv; rw [okL, okL]; exact ⟨h1, trivial⟩
      · split at h
        · simp only [Option.map_eq_some_iff] at h
          obtain ⟨⟨l, n⟩, hn, h⟩ := h
          injection h with hv h
          subst hv; rw [okL]; exact ⟨h1, (p_okV s f _).2.1 l n hn⟩
        · cases h
    · rw [po] at h
      simp only [Option.bind_eq_some_iff] at h
      obtain ⟨⟨key, a⟩, ha, h⟩ := h
      have h0 := strQ_valid ha
      simp only at h
      split at h
      · simp only [Option.bind_eq_some_iff] at h
        obtain ⟨⟨v, k⟩, hk, h⟩ := h
        have h1 := (p_okV s f _).1 v k hk
        simp only at h
        split at h
        · injection h with h; injection h with hv h; subst hv; rw [okM, okM]; exact ⟨h0, h1, trivial⟩
        · split at h
          · simp only [Option.map_eq_some_iff] at h
            obtain ⟨⟨l, n⟩, hn, h⟩ := h
            injection h with hv h
            subst hv; rw [okM]; exact ⟨h0, h1, (p_okV s f _).2.2 l n hn⟩
          · cases h
      · cases h
theorem val_okV {s : ByteArray} {i j : Nat} {v : JV} (h : val s i = some (v, j)) : okV v := (p_okV s _ i).1 v j h

mutual
theorem dep_cnt : ∀ v : JV, depV v ≤ cntV v ∧ 1 ≤ depV v
  | .nul => ⟨Nat.le_refl _, Nat.le_refl _⟩
  | .tt => ⟨Nat.le_refl _, Nat.le_refl _⟩
  | .ff => ⟨Nat.le_refl _, Nat.le_refl _⟩
  | .num _ => ⟨Nat.le_refl _, Nat.le_refl _⟩
  | .str _ => ⟨Nat.le_refl _, Nat.le_refl _⟩
  | .arr l => by rw [depV, cntV]; have := dep_cntL l; omega
  | .obj m => by rw [depV, cntV]; have := dep_cntM m; omega
theorem dep_cntL : ∀ l : JL, depL l ≤ cntL l
  | .nil => Nat.le_refl _
  | .cons v r => by rw [depL, cntL]; have := dep_cntL r; have := dep_cnt v; omega
theorem dep_cntM : ∀ m : JM, depM m ≤ cntM m
  | .nil => Nat.le_refl _
  | .cons k v r => by rw [depM, cntM]; have := dep_cntM r; have := dep_cnt v; omega
end
end Go.Proofs.YtadefcohbkgbfabGreatDoor


namespace Go.Proofs.YtadefcohbkgbfabGreatDoor
open Go.RowKit

theorem insR_perm (p : List UInt8 × List UInt8) : ∀ l, (insR p l).Perm (p :: l)
  | [] => List.Perm.refl _
  | q :: r => by
    unfold insR
    split
    · exact ((insR_perm p r).cons q).trans (List.Perm.swap p q r)
    · exact List.Perm.refl _
theorem fold_perm : ∀ (l acc : List (List UInt8 × List UInt8)), (l.foldl (fun acc p => insR p acc) acc).Perm (l ++ acc)
  | [], acc => List.Perm.refl _
  | p :: l, acc => by
    rw [List.foldl_cons]
    exact (fold_perm l _).trans (((insR_perm p acc).append_left l).trans (List.perm_middle))
theorem isort_perm (l : List (List UInt8 × List UInt8)) : (isort l).Perm l := by
  unfold isort
  have := fold_perm l []
  rw [List.append_nil] at this
  exact (List.reverse_perm _).trans this
theorem insR_down (p : List UInt8 × List UInt8) : ∀ l, l.Pairwise (fun a b => b.1 ≤ a.1) → (insR p l).Pairwise (fun a b => b.1 ≤ a.1)
  | [], _ => by simp [insR]
  | q :: r, h => by
    rw [List.pairwise_cons] at h
    unfold insR
    split
    · rename_i hlt
      rw [List.pairwise_cons]
      refine ⟨fun a ha => ?_, insR_down p r h.2⟩
      rcases List.mem_cons.1 ((insR_perm p r).subset ha) with rfl | ha
      · exact List.le_of_lt hlt
      · exact h.1 a ha
    · rename_i hlt
      have hqp : q.1 ≤ p.1 := List.not_lt.1 hlt
      rw [List.pairwise_cons, List.pairwise_cons]
      refine ⟨fun a ha => ?_, h⟩
      rcases List.mem_cons.1 ha with rfl | ha
      · exact hqp
      · exact List.le_trans (h.1 a ha) hqp
theorem fold_down : ∀ (l acc : List (List UInt8 × List UInt8)), acc.Pairwise (fun a b => b.1 ≤ a.1) → (l.foldl (fun acc p => insR p acc) acc).Pairwise (fun a b => b.1 ≤ a.1)
  | [], acc, h => h
  | p :: l, acc, h => by rw [List.foldl_cons]; exact fold_down l _ (insR_down p acc h)
theorem isort_up (l : List (List UInt8 × List UInt8)) : (isort l).Pairwise (fun a b => a.1 ≤ b.1) := by
  unfold isort
  rw [List.pairwise_reverse]
  exact fold_down l [] List.Pairwise.nil
/-- The keys in order. -/
theorem isort_keys {l : List (List UInt8 × List UInt8)} {ss : List (List UInt8)} (h : ss.Perm (l.map (·.1))) : ss.mergeSort (fun x y => decide (x ≤ y)) = (isort l).map (·.1) := by
  have tr : ∀ a b c : List UInt8, decide (a ≤ b) = true → decide (b ≤ c) = true → decide (a ≤ c) = true := fun a b c h1 h2 => by simp only [decide_eq_true_eq] at *; exact List.le_trans h1 h2
  have to : ∀ a b : List UInt8, (decide (a ≤ b) || decide (b ≤ a)) = true := fun a b => by simp only [Bool.or_eq_true, decide_eq_true_eq]; exact List.le_total a b
  refine List.Perm.eq_of_pairwise (le := fun a b => decide (a ≤ b) = true) (fun a b _ _ h1 h2 => ?_) (List.pairwise_mergeSort tr to ss) ?_ (((List.mergeSort_perm _ _).trans h).trans ((isort_perm l).map _).symm)
  · simp only [decide_eq_true_eq] at h1 h2
    exact List.le_antisymm h1 h2
  · rw [List.pairwise_map]
    exact (isort_up l).imp fun h => by simpa using h

def JM.toL : JM → List (List UInt8 × JV)
  | .nil => []
  | .cons k v r => (k, v) :: r.toL
theorem ctM_map : ∀ m : JM, ctM m = m.toL.map fun p => (p.1, ct p.2)
  | .nil => rfl
  | .cons k v r => by rw [ctM, JM.toL, List.map_cons, ctM_map r]
theorem keysM_map : ∀ m : JM, keysM m = m.toL.map (·.1)
  | .nil => rfl
  | .cons k v r => by rw [keysM, JM.toL, List.map_cons, keysM_map r]
theorem twM_nodup : ∀ (m : JM) (ks : List (List UInt8)), twM ks m = false → (keysM m).Nodup ∧ ∀ k ∈ keysM m, k ∉ ks
  | .nil, ks, _ => ⟨List.nodup_nil, fun k hk => by simp [keysM] at hk⟩
  | .cons k v r, ks, h => by
    rw [twM] at h
    simp only [Bool.or_eq_false_iff] at h
    obtain ⟨⟨_, h1⟩, h2⟩ := h
    obtain ⟨i1, i2⟩ := twM_nodup r (ks ++ [k]) h2
    rw [keysM, List.nodup_cons]
    refine ⟨⟨fun hk => i2 k hk (by simp), i1⟩, fun a ha => ?_⟩
    rcases List.mem_cons.1 ha with rfl | ha
    · intro hc; rw [List.contains_eq_mem, decide_eq_false_iff_not] at h1; exact h1 hc
    · intro hc; exact i2 a ha (List.mem_append_left _ hc)
end Go.Proofs.YtadefcohbkgbfabGreatDoor


namespace Go.Proofs.YtadefcohbkgbfabGreatDoor
open Go.RowKit

def isOp (c : Nat) : Bool := c == 91 || c == 123
def isCl (c : Nat) : Bool := c == 93 || c == 125
/-- The next place to look at. -/
def nxt (T : ByteArray) (i : Nat) : Option Nat := if bt T i = 34 then (strQ T i).map (·.2) else some (i + 1)
/-- What is open behind a byte; none where nothing was open that it could close. -/
def op1 (c op : Nat) : Option Nat := if isOp c then some (op + 1) else if isCl c then (if op = 0 then none else some (op - 1)) else some op
def stopAt (T : ByteArray) (i : Nat) : Bool := decide (i = T.size) || bt T i == 44 || bt T i == 93 || bt T i == 125
def endF (T : ByteArray) : Nat → Nat → Nat → Option Nat
  | 0, _, _ => none
  | f + 1, op, i => if i < T.size then (nxt T i).bind fun j => (op1 (bt T i) op).bind fun o => if o = 0 ∧ stopAt T j = true then some j else endF T f o j else none
def wiF (T : ByteArray) : Nat → Nat → Nat → Nat → Option Nat
  | 0, _, _, _ => none
  | f + 1, op, mo, i => if i < T.size then (nxt T i).bind fun j => (op1 (bt T i) op).bind fun o => wiF T f o (max mo o) j else some mo

section
variable {T : ByteArray}
theorem at_head {i : Nat} {c : UInt8} {m : List UInt8} (h : T.data.toList.drop i = c :: m) : i < T.size ∧ bt T i = c.toNat ∧ T.data.toList.drop (i + 1) = m := by
  refine ⟨drop_size2 h (by simp), ?_, ?_⟩
  · have := bt_drop T i 0; rw [h] at this; exact this
  · exact drop_past (m := [c]) (n := m) h
/-- What stands behind a value. -/
def Stops (m : List UInt8) : Prop := m = [] ∨ ∃ c r, m = c :: r ∧ (c.toNat = 44 ∨ c.toNat = 93 ∨ c.toNat = 125)
theorem stop_of {i : Nat} {m : List UInt8} (h : T.data.toList.drop i = m) (hi : i ≤ T.size) (hm : Stops m) : stopAt T i = true := by
  unfold stopAt
  rcases hm with rfl | ⟨c, r, rfl, hc⟩
  · have : i = T.size := by
      have := congrArg List.length h
      rw [List.length_drop, data_len, List.length_nil] at this
      omega
    simp [this]
  · obtain ⟨_, hb, _⟩ := at_head h
    rw [hb]
    rcases hc with hc | hc | hc <;> simp [hc]
theorem stop_not {i : Nat} {c : UInt8} {m : List UInt8} (h : T.data.toList.drop i = c :: m) (h1 : c.toNat ≠ 44) (h2 : c.toNat ≠ 93) (h3 : c.toNat ≠ 125) : stopAt T i = false := by
  obtain ⟨hl, hb, _⟩ := at_head h
  unfold stopAt
  rw [hb]
  simp [h1, h2, h3]; omega
def plainC (c : UInt8) : Prop := c.toNat ≠ 34 ∧ c.toNat ≠ 91 ∧ c.toNat ≠ 123 ∧ c.toNat ≠ 93 ∧ c.toNat ≠ 125
theorem op1_plain {c : UInt8} (h : plainC c) (op : Nat) : op1 c.toNat op = some op := by
  obtain ⟨_, a, b, d, e⟩ := h
  simp [op1, isOp, isCl, a, b, d, e]
theorem nxt_plain {i : Nat} {c : UInt8} (hb : bt T i = c.toNat) (h : c.toNat ≠ 34) : nxt T i = some (i + 1) := by unfold nxt; rw [if_neg (by omega)]

/-- A text that is passed over where something is open. -/
def InP (T : ByteArray) (t : List UInt8) : Prop := ∀ op i m f k, 1 ≤ op → T.data.toList.drop i = t ++ m → endF T f op (i + t.length) = some k → ∃ f', endF T f' op i = some k
def TopP (T : ByteArray) (t : List UInt8) : Prop := ∀ i m, T.data.toList.drop i = t ++ m → Stops m → ∃ f, endF T f 0 i = some (i + t.length)
theorem InP.nil : InP T [] := fun _ _ _ f _ _ _ h => ⟨f, h⟩
theorem InP.app {a b : List UInt8} (ha : InP T a) (hb : InP T b) : InP T (a ++ b) := fun op i m f k ho h he => by
  rw [List.append_assoc] at h
  rw [List.length_append, ← Nat.add_assoc] at he
  obtain ⟨f1, h1⟩ := hb op (i + a.length) m f k ho (drop_past h) he
  exact ha op i (b ++ m) f1 k ho h h1
theorem InP.one {c : UInt8} (hc : plainC c) : InP T [c] := fun op i m f k ho h he => by
  obtain ⟨hl, hb, _⟩ := at_head h
  refine ⟨f + 1, ?_⟩
  rw [endF, if_pos hl, nxt_plain hb hc.1, hb, op1_plain hc]
  simp only [Option.bind_some]
  rw [if_neg (by omega)]
  exact he
theorem InP.plain : ∀ {t : List UInt8}, (∀ c ∈ t, plainC c) → InP T t
  | [], _ => InP.nil
  | c :: _, h => InP.app (a := [c]) (InP.one (h c List.mem_cons_self)) (InP.plain fun d hd => h d (List.mem_cons_of_mem _ hd))
theorem nxt_quoted {i : Nat} {l m : List UInt8} (hv : Lib.validD l = true) (h : T.data.toList.drop i = quoted l ++ m) : i < T.size ∧ bt T i = 34 ∧ nxt T i = some (i + (quoted l).length) := by
  have h' : T.data.toList.drop i = 34 :: (qs l ++ 34 :: m) := by rw [h]; simp [quoted]
  obtain ⟨hl, hb, _⟩ := at_head h'
  refine ⟨hl, hb, ?_⟩
  unfold nxt
  rw [if_pos (by rw [hb]; rfl), strQ_at l T m hv i h]
  rfl
theorem op1_34 (op : Nat) : op1 34 op = some op := rfl
theorem InP.quoted {l : List UInt8} (hv : Lib.validD l = true) : InP T (Go.Proofs.YtadefcohbkgbfabGreatDoor.quoted l) := fun op i m f k ho h he => by
  obtain ⟨hl, hb, hn⟩ := nxt_quoted hv h
  refine ⟨f + 1, ?_⟩
  rw [endF, if_pos hl, hn, hb, op1_34]
  simp only [Option.bind_some]
  rw [if_neg (by omega)]
  exact he
theorem TopP.quoted {l : List UInt8} (hv : Lib.validD l = true) : TopP T (Go.Proofs.YtadefcohbkgbfabGreatDoor.quoted l) := fun i m h hs => by
  obtain ⟨hl, hb, hn⟩ := nxt_quoted hv h
  have hd := drop_past h
  have hle : i + (Go.Proofs.YtadefcohbkgbfabGreatDoor.quoted l).length ≤ T.size := by
    have := congrArg List.length h
    rw [List.length_drop, data_len, List.length_append] at this
    omega
  refine ⟨1, ?_⟩
  rw [endF, if_pos hl, hn, hb, op1_34]
  simp only [Option.bind_some]
  rw [if_pos ⟨trivial, stop_of hd hle hs⟩]
theorem TopP.plain : ∀ {t : List UInt8}, t ≠ [] → (∀ c ∈ t, plainC c ∧ c.toNat ≠ 44) → TopP T t
  | [], h, _ => absurd rfl h
  | [c], _, hc => fun i m h hs => by
    obtain ⟨hl, hb, hd⟩ := at_head (T := T) (m := m) h
    have hp := hc c List.mem_cons_self
    refine ⟨1, ?_⟩
    rw [endF, if_pos hl, nxt_plain hb hp.1.1, hb, op1_plain hp.1]
    simp only [Option.bind_some]
    rw [if_pos ⟨trivial, stop_of hd hl hs⟩]
    rfl
  | c :: d :: r, _, hc => fun i m h hs => by
    obtain ⟨hl, hb, hd⟩ := at_head (T := T) (m := d :: r ++ m) h
    have hp := hc c List.mem_cons_self
    have hq := hc d (List.mem_cons_of_mem _ List.mem_cons_self)
    obtain ⟨f, hf⟩ := TopP.plain (t := d :: r) (by simp) (fun x hx => hc x (List.mem_cons_of_mem _ hx)) (i + 1) m hd hs
    refine ⟨f + 1, ?_⟩
    rw [endF, if_pos hl, nxt_plain hb hp.1.1, hb, op1_plain hp.1]
    simp only [Option.bind_some]
    rw [if_neg (by rw [stop_not (m := r ++ m) hd hq.2 hq.1.2.2.2.1 hq.1.2.2.2.2]; simp), hf]
    simp only [List.length_cons]
    congr 1; omega
theorem InP.wrap {t : List UInt8} {a b : UInt8} (ha : isOp a.toNat = true) (hb : isCl b.toNat = true) (ht : InP T t) : InP T (a :: (t ++ [b])) ∧ TopP T (a :: (t ++ [b])) := by
  have ha34 : a.toNat ≠ 34 := by intro e; rw [e] at ha; cases ha
  have hb34 : b.toNat ≠ 34 := by intro e; rw [e] at hb; cases hb
  have hbo : isOp b.toNat = false := by
    simp only [isCl, Bool.or_eq_true, beq_iff_eq] at hb
    rcases hb with h | h <;> simp [isOp, h]
  refine ⟨fun op i m f k ho h he => ?_, fun i m h hs => ?_⟩
  · have h0 : T.data.toList.drop i = a :: (t ++ (b :: m)) := by rw [h]; simp
    obtain ⟨hl, hba, hd⟩ := at_head h0
    obtain ⟨hl2, hbb, hd2⟩ := at_head (drop_past hd)
    have e2 : ∃ f', endF T f' (op + 1) (i + 1 + t.length) = some k := by
      refine ⟨f + 1, ?_⟩
      rw [endF, if_pos hl2, nxt_plain hbb hb34, hbb]
      simp only [Option.bind_some, op1, hbo, hb, if_true, Bool.false_eq_true, if_false]
      rw [if_neg (by omega)]
      simp only [Option.bind_some, Nat.add_sub_cancel]
      rw [if_neg (by omega)]
      rw [show i + 1 + t.length + 1 = i + (a :: (t ++ [b])).length by simp; omega]
      exact he
    obtain ⟨f2, hf2⟩ := e2
    obtain ⟨f3, hf3⟩ := ht (op + 1) (i + 1) (b :: m) f2 k (by omega) hd hf2
    refine ⟨f3 + 1, ?_⟩
    rw [endF, if_pos hl, nxt_plain hba ha34, hba]
    simp only [Option.bind_some, op1, ha, if_true]
    rw [if_neg (by omega)]
    exact hf3
  · have h0 : T.data.toList.drop i = a :: (t ++ (b :: m)) := by rw [h]; simp
    obtain ⟨hl, hba, hd⟩ := at_head h0
    obtain ⟨hl2, hbb, hd2⟩ := at_head (drop_past hd)
    have e2 : endF T 1 1 (i + 1 + t.length) = some (i + (a :: (t ++ [b])).length) := by
      rw [endF, if_pos hl2, nxt_plain hbb hb34, hbb]
      simp only [Option.bind_some, op1, hbo, hb, if_true, Bool.false_eq_true, if_false]
      rw [if_neg (by omega)]
      simp only [Option.bind_some, Nat.sub_self]
      rw [if_pos ⟨trivial, stop_of hd2 hl2 hs⟩]
      simp; omega
    obtain ⟨f3, hf3⟩ := ht 1 (i + 1) (b :: m) 1 _ (by omega) hd e2
    refine ⟨f3 + 1, ?_⟩
    rw [endF, if_pos hl, nxt_plain hba ha34, hba]
    simp only [Option.bind_some, op1, ha, if_true]
    rw [if_neg (by omega)]
    exact hf3
theorem InP.joinT : ∀ {ts : List (List UInt8)}, (∀ t ∈ ts, InP T t) → InP T (Go.Proofs.YtadefcohbkgbfabGreatDoor.joinT ts)
  | [], _ => InP.nil
  | t :: r, h => InP.app (a := [44]) (InP.one ⟨by decide, by decide, by decide, by decide, by decide⟩) (InP.app (h t List.mem_cons_self) (InP.joinT fun x hx => h x (List.mem_cons_of_mem _ hx)))
theorem InP.joinC {ts : List (List UInt8)} (h : ∀ t ∈ ts, InP T t) : InP T (Go.Proofs.YtadefcohbkgbfabGreatDoor.joinC ts) := by
  cases ts with
  | nil => exact InP.nil
  | cons t r => exact InP.app (h t List.mem_cons_self) (InP.joinT fun x hx => h x (List.mem_cons_of_mem _ hx))
theorem num_plain {l : List UInt8} (h : okV (.num l)) : l ≠ [] ∧ ∀ c ∈ l, plainC c ∧ c.toNat ≠ 44 := by
  rw [okV] at h
  obtain ⟨c, r, rfl, hc, hr⟩ := h
  refine ⟨by simp, fun d hd => ?_⟩
  have : d.toNat = 45 ∨ isDg d.toNat = true := by
    rcases List.mem_cons.1 hd with rfl | hd
    · exact hc
    · exact .inr (hr d hd)
  have h2 : d.toNat = 45 ∨ (48 ≤ d.toNat ∧ d.toNat ≤ 57) := this.imp id isDg_iff.1
  exact ⟨⟨by omega, by omega, by omega, by omega, by omega⟩, by omega⟩
theorem word_plain {l : List UInt8} (h : l ∈ [[110, 117, 108, 108], [116, 114, 117, 101], ([102, 97, 108, 115, 101] : List UInt8)]) : l ≠ [] ∧ ∀ c ∈ l, plainC c ∧ c.toNat ≠ 44 := by
  unfold plainC
  revert l
  decide

mutual
theorem ctP : ∀ v : JV, okV v → InP T (ct v) ∧ TopP T (ct v)
  | .nul, _ => by
    have := word_plain (l := [110, 117, 108, 108]) (by simp)
    exact ⟨InP.plain fun c hc => (this.2 c hc).1, TopP.plain this.1 this.2⟩
  | .tt, _ => by
    have := word_plain (l := [116, 114, 117, 101]) (by simp)
    exact ⟨InP.plain fun c hc => (this.2 c hc).1, TopP.plain this.1 this.2⟩
  | .ff, _ => by
    have := word_plain (l := [102, 97, 108, 115, 101]) (by simp)
    exact ⟨InP.plain fun c hc => (this.2 c hc).1, TopP.plain this.1 this.2⟩
  | .num l, h => by
    have := num_plain h
    exact ⟨InP.plain fun c hc => (this.2 c hc).1, TopP.plain this.1 this.2⟩
  | .str l, h => by
    rw [okV] at h
    exact ⟨InP.quoted h, TopP.quoted h⟩
  | .arr l, h => by
    rw [okV] at h
    exact InP.wrap rfl rfl (InP.joinC (ctLP l h))
  | .obj m, h => by
    rw [okV] at h
    refine InP.wrap rfl rfl (InP.joinC fun t ht => ?_)
    obtain ⟨p, hp, rfl⟩ := List.mem_map.1 ht
    exact ctMP m h p ((isort_perm _).subset hp)
theorem ctLP : ∀ l : JL, okL l → ∀ t ∈ ctL l, InP T t
  | .nil, _, t, ht => by simp [ctL] at ht
  | .cons v r, h, t, ht => by
    rw [okL] at h
    rw [ctL] at ht
    rcases List.mem_cons.1 ht with e | ht
    · rw [e]; exact (ctP v h.1).1
    · exact ctLP r h.2 t ht
theorem ctMP : ∀ m : JM, okM m → ∀ p ∈ ctM m, InP T (memT p)
  | .nil, _, p, hp => by simp [ctM] at hp
  | .cons k v r, h, p, hp => by
    rw [okM] at h
    rw [ctM] at hp
    rcases List.mem_cons.1 hp with e | hp
    · rw [e]
      exact InP.app (InP.quoted h.1) (InP.app (a := [58]) (InP.one ⟨by decide, by decide, by decide, by decide, by decide⟩) (ctP v h.2.1).1)
    · exact ctMP r h.2.2 p hp
end
end
end Go.Proofs.YtadefcohbkgbfabGreatDoor


namespace Go.Proofs.YtadefcohbkgbfabGreatDoor
open Go.RowKit

set_option maxHeartbeats 800000 in
theorem l1Skip_walk (s : ByteArray) (i : Nat) (w : World) (hs : s.size ≤ 1048576) :
    Calls Tryz.prog 36 #[.string s, .int .i64 i] w fun e w' => e = .returned (.int .i64 (sk s i)) ∧ w = w' := by
  go_enter Tryz.func36, Tryz.ntmps36
  go_wp2
  go_loopw [1] (fun k wr => w = wr ∧ ∃ j : Nat, k = .int .i64 (j : Int) ∧ sk s i = sk s j) (fun k _ => s.size - (intOf k).toNat)
  case atStart => exact ⟨rfl, i, rfl, rfl⟩
  case round =>
    obtain ⟨rfl, j, rfl, hst⟩ := hrel
    have HST := hide hst
    clear hst
    by_cases hin : j < s.size
    · have hinI : (j : Int) < (s.size : Int) := by omega
      have e0 := bt_at s j hin
      by_cases c : bt s j = 32 ∨ bt s j = 9 ∨ bt s j = 10 ∨ bt s j = 13
      · have HX : Hid (sk s i = sk s (j + 1)) := by show _ = _; rw [unhide HST, sk_on c]
        rw [e0] at c
        clear e0
        rcases c with c | c | c | c
        · have t1 : (s[j].toNat : Int) = 32 := by omega
          clear c
          go_wp2
          go_roundw
          case rel => exact ⟨trivial, j + 1, by go_num, unhide HX⟩
          case measure => simp [intOf]; omega
        · have t1 : (s[j].toNat : Int) = 9 := by omega
          clear c
          go_wp2
          go_roundw
          case rel => exact ⟨trivial, j + 1, by go_num, unhide HX⟩
          case measure => simp [intOf]; omega
        · have t1 : (s[j].toNat : Int) = 10 := by omega
          clear c
          go_wp2
          go_roundw
          case rel => exact ⟨trivial, j + 1, by go_num, unhide HX⟩
          case measure => simp [intOf]; omega
        · have t1 : (s[j].toNat : Int) = 13 := by omega
          clear c
          go_wp2
          go_roundw
          case rel => exact ⟨trivial, j + 1, by go_num, unhide HX⟩
          case measure => simp [intOf]; omega
      · have HX : Hid (sk s i = j) := by show _ = _; rw [unhide HST, sk_off c]
        have t1 : ((s[j].toNat : Int) == 32) = false := by rw [beq_eq_false_iff_ne]; omega
        have t2 : ((s[j].toNat : Int) == 9) = false := by rw [beq_eq_false_iff_ne]; omega
        have t3 : ((s[j].toNat : Int) == 10) = false := by rw [beq_eq_false_iff_ne]; omega
        have t4 : ((s[j].toNat : Int) == 13) = false := by rw [beq_eq_false_iff_ne]; omega
        clear c e0
        go_wp2
        go_ret
        exact ⟨by rw [unhide HX]; rfl, rfl⟩
    · have hinI : ¬ (j : Int) < (s.size : Int) := by omega
      have d1 : decide ((j : Int) < (s.size : Int)) = false := by simp; omega
      have HX : Hid (sk s i = j) := by show _ = _; rw [unhide HST, sk_past (by omega)]
      go_wp2
      go_ret
      exact ⟨by rw [unhide HX]; rfl, rfl⟩

set_option maxHeartbeats 800000 in
theorem l1Word_walk (s t : ByteArray) (i : Nat) (w : World) (hs : s.size ≤ 1048576) (ht : t.size ≤ 10) (hi : i ≤ s.size + 1) :
    Calls Tryz.prog 59 #[.string s, .int .i64 i, .string t] w fun e w' => e = .returned (.bool (decide (i + t.size ≤ s.size) && (s.extract i (i + t.size)).toList == t.toList)) ∧ w = w' := by
  by_cases hin : i + t.size ≤ s.size
  · have h1 : (i : Int) + (t.size : Int) ≤ (s.size : Int) := by omega
    have h2 : (i : Int) ≤ (i : Int) + (t.size : Int) := by omega
    have h3 : (0 : Int) ≤ (i : Int) := by omega
    have hd : decide (i + t.size ≤ s.size) = true := by simp; omega
    rw [hd, Bool.true_and]
    clear hd
    go_enter Tryz.func59, Tryz.ntmps59
    go_wp2
    go_ret
    exact ⟨rfl, rfl⟩
  · have h1 : ¬ (i : Int) + (t.size : Int) ≤ (s.size : Int) := by omega
    have hd : decide (i + t.size ≤ s.size) = false := by simp; omega
    rw [hd, Bool.false_and]
    clear hd
    go_enter Tryz.func59, Tryz.ntmps59
    go_wp2
    go_ret
    exact ⟨rfl, rfl⟩
end Go.Proofs.YtadefcohbkgbfabGreatDoor

