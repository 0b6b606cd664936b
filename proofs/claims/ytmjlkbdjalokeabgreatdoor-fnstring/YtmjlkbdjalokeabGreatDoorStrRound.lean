import Derived.Test.YtmjlkbdjalokeabGreatDoorQtEq
import Derived.Test.YtmjlkbdjalokeabGreatDoorUnqPlain
namespace Go.Proofs.YtmjlkbdjalokeabGreatDoor
open Go.RowKit

theorem bt_drop (s : ByteArray) (i k : Nat) : bt s (i + k) = ((s.data.toList.drop i).getD k 0).toNat := by
  unfold bt; rw [List.getD_eq_getElem?_getD, List.getD_eq_getElem?_getD, List.getElem?_drop]
theorem drop_size {s : ByteArray} {i : Nat} {m : List UInt8} (h : s.data.toList.drop i = m) (hm : m ≠ []) : s.size = i + m.length := by
  have h1 : (s.data.toList.drop i).length = m.length := by rw [h]
  have h2 : 0 < m.length := List.length_pos_iff.2 hm
  rw [List.length_drop, data_len] at h1
  omega
theorem hx_hexs : ∀ k : Fin 16, hx (hexs.getD k.val 0).toNat = some k.val := by decide
theorem enc_lo {r : Nat} (h : r < 128) : enc r = [UInt8.ofNat r] := by
  unfold enc; rw [← utf_enc (by omega) (by omega)]; unfold utf utfZ; rw [if_pos h]; rfl

theorem piece_esc {T : ByteArray} {i : Nat} {c x : UInt8} {m : List UInt8} (hq : qB c = [92, x]) (hs : smp x.toNat = some c.toNat) (h : T.data.toList.drop i = qB c ++ m) :
    bt T i ≠ 34 ∧ piece T i = some (c.toNat, (qB c).length) := by
  have b0 := bt_drop T i 0
  have b1 := bt_drop T i 1
  rw [h, hq] at b0 b1
  change bt T i = 92 at b0
  change bt T (i + 1) = x.toNat at b1
  refine ⟨by omega, ?_⟩
  unfold piece
  rw [if_pos b0, escP_s b1 hs, hq]; rfl
theorem piece_ctl {T : ByteArray} {i : Nat} {c : UInt8} {m : List UInt8} (hc : Ctl c.toNat) (h : T.data.toList.drop i = qB c ++ m) :
    bt T i ≠ 34 ∧ piece T i = some (c.toNat, (qB c).length) := by
  have hq := q_ctl hc
  have hlt := hc.1
  have x1 := hx_hexs ⟨c.toNat / 16, by omega⟩
  have x2 := hx_hexs ⟨c.toNat % 16, by omega⟩
  simp only at x1 x2
  generalize hexs.getD (c.toNat / 16) 0 = a at *
  generalize hexs.getD (c.toNat % 16) 0 = b at *
  have b0 := bt_drop T i 0
  have b1 := bt_drop T i 1
  have b2 := bt_drop T i 2
  have b3 := bt_drop T i 3
  have b4 := bt_drop T i 4
  have b5 := bt_drop T i 5
  rw [h, hq] at b0 b1 b2 b3 b4 b5
  change bt T i = 92 at b0
  change bt T (i + 1) = 117 at b1
  change bt T (i + 2) = 48 at b2
  change bt T (i + 3) = 48 at b3
  change bt T (i + 4) = a.toNat at b4
  change bt T (i + 5) = b.toNat at b5
  have e : hexN T (i + 2) 4 = some ((((0 * 16 + 0) * 16 + 0) * 16 + c.toNat / 16) * 16 + c.toNat % 16) := by
    refine hexN_next (hexN_next (hexN_next (hexN_next rfl ?_) ?_) ?_) ?_
    · show hx (bt T (i + 2)) = _
      rw [b2]; rfl
    · show hx (bt T (i + 3)) = _
      rw [b3]; rfl
    · show hx (bt T (i + 4)) = _
      rw [b4]; exact x1
    · show hx (bt T (i + 5)) = _
      rw [b5]; exact x2
  refine ⟨by omega, ?_⟩
  unfold piece
  rw [if_pos b0, escP_u b0 b1, e, hq]
  show escU T i _ = _
  unfold escU
  rw [if_pos (by omega)]
  congr 2
  omega
theorem piece_q {T : ByteArray} {i : Nat} {c : UInt8} {m : List UInt8} (hc : c.toNat < 128) (h : T.data.toList.drop i = qB c ++ m) :
    bt T i ≠ 34 ∧ piece T i = some (c.toNat, (qB c).length) := by
  by_cases e1 : c.toNat = 34
  · exact piece_esc (q_esc (by omega)) (by rw [e1]; rfl) h
  by_cases e2 : c.toNat = 92
  · exact piece_esc (q_esc (by omega)) (by rw [e2]; rfl) h
  by_cases e3 : c.toNat = 8
  · exact piece_esc (q_8 (by omega)) (by rw [e3]; rfl) h
  by_cases e4 : c.toNat = 9
  · exact piece_esc (q_9 (by omega)) (by rw [e4]; rfl) h
  by_cases e5 : c.toNat = 10
  · exact piece_esc (q_10 (by omega)) (by rw [e5]; rfl) h
  by_cases e6 : c.toNat = 12
  · exact piece_esc (q_12 (by omega)) (by rw [e6]; rfl) h
  by_cases e7 : c.toNat = 13
  · exact piece_esc (q_13 (by omega)) (by rw [e7]; rfl) h
  by_cases e8 : c.toNat < 32
  · exact piece_ctl ⟨e8, e3, e4, e5, e6, e7⟩ h
  have hq := q_lit e1 e2 (by omega)
  have b0 := bt_drop T i 0
  rw [h, hq] at b0
  change bt T i = c.toNat at b0
  refine ⟨by omega, ?_⟩
  unfold piece
  rw [if_neg (by omega), if_neg (by omega), if_pos (by omega), b0, hq]; rfl

theorem take_getD (l : List UInt8) (n k : Nat) (m : List UInt8) (h : k < n) (hn : n ≤ l.length) : (l.take n ++ m).getD k 0 = l.getD k 0 := by
  rw [List.getD_eq_getElem?_getD, List.getD_eq_getElem?_getD, List.getElem?_append_left (by rw [List.length_take]; omega), List.getElem?_take_of_lt h]

theorem rl_same {s T : ByteArray} {i j : Nat} {m : List UInt8} (hi : i < s.size) (h8 : ¬ s[i].toNat < 128) (hr : ¬ rl s i = 0) (h : T.data.toList.drop j = (s.data.toList.drop i).take (rl s i) ++ m) : rl T j = rl s i := by
  have hle := rl_le s i hi
  have hlen : (s.data.toList.drop i).length = s.size - i := by rw [List.length_drop, data_len]
  have hb : ∀ k, k < rl s i → bt T (j + k) = bt s (i + k) := fun k hk => by
    rw [bt_drop, bt_drop, h, take_getD _ _ _ _ hk (by omega)]
  have hn : rl s i ≤ T.size - j := by
    have h1 := drop_size h (by
      intro e
      have := congrArg List.length e
      rw [List.length_append, List.length_take, hlen] at this
      simp at this; omega)
    rw [List.length_append, List.length_take, hlen] at h1
    omega
  have hb0 := bt_at s i hi
  have h192 : 192 ≤ bt s i := by
    rcases Nat.lt_or_ge (bt s i) 192 with g | g
    · exact absurd (show rl s i = 0 by unfold rl; rw [rlN_cont (by omega) g]) hr
    · exact g
  have hT0 := hb 0 (by omega)
  rw [Nat.add_zero, Nat.add_zero] at hT0
  have l1 := bt_lt s (i + 1)
  have l2 := bt_lt s (i + 2)
  have l3 := bt_lt s (i + 3)
  by_cases h2 : bt s i < 224
  · have e := rlN_2 (n := s.size - i) (b0 := bt s i) (b1 := bt s (i + 1)) (b2 := bt s (i + 2)) (b3 := bt s (i + 3)) h192 h2 l1
    have e' := rlN_2 (n := T.size - j) (b0 := bt T j) (b1 := bt T (j + 1)) (b2 := bt T (j + 2)) (b3 := bt T (j + 3)) (by omega) (by omega) (bt_lt _ _)
    change rl s i = _ at e
    change rl T j = _ at e'
    split at e
    · rename_i hc
      have x1 := hb 1 (by omega)
      rw [e', e, if_pos (by rw [hT0, x1]; omega)]
    · omega
  by_cases h3 : bt s i < 240
  · have e := rlN_3 (n := s.size - i) (b0 := bt s i) (b1 := bt s (i + 1)) (b2 := bt s (i + 2)) (b3 := bt s (i + 3)) (by omega) h3 l1 l2
    have e' := rlN_3 (n := T.size - j) (b0 := bt T j) (b1 := bt T (j + 1)) (b2 := bt T (j + 2)) (b3 := bt T (j + 3)) (by omega) (by omega) (bt_lt _ _) (bt_lt _ _)
    change rl s i = _ at e
    change rl T j = _ at e'
    split at e
    · rename_i hc
      have x1 := hb 1 (by omega)
      have x2 := hb 2 (by omega)
      rw [e', e, if_pos (by rw [hT0, x1, x2]; omega)]
    · omega
  · have e := rlN_4 (n := s.size - i) (b0 := bt s i) (b1 := bt s (i + 1)) (b2 := bt s (i + 2)) (b3 := bt s (i + 3)) (by omega) (bt_lt _ _) l1 l2 l3
    have e' := rlN_4 (n := T.size - j) (b0 := bt T j) (b1 := bt T (j + 1)) (b2 := bt T (j + 2)) (b3 := bt T (j + 3)) (by omega) (bt_lt _ _) (bt_lt _ _) (bt_lt _ _) (bt_lt _ _)
    change rl s i = _ at e
    change rl T j = _ at e'
    split at e
    · rename_i hc
      have x1 := hb 1 (by omega)
      have x2 := hb 2 (by omega)
      have x3 := hb 3 (by omega)
      rw [e', e, if_pos (by rw [hT0, x1, x2, x3]; omega)]
    · omega

theorem drop_past {l m n : List UInt8} {j : Nat} (h : l.drop j = m ++ n) : l.drop (j + m.length) = n := by
  rw [← List.drop_drop, h, List.drop_left]

theorem str_round (s T : ByteArray) : ∀ (f pos : Nat), s.size ≤ pos + f → Lib.validD (s.data.toList.drop pos) = true → ∀ j, T.data.toList.drop j = qs (s.data.toList.drop pos) ++ [34] → strR T j = some (s.data.toList.drop pos, T.size)
  | f, pos, h, hv, j, hj => by
    by_cases hp : pos < s.size
    · cases f with
      | zero => omega
      | succ f =>
        have hr : ¬ rl s pos = 0 := fun e => by rw [valid_bad s pos hp e] at hv; cases hv
        have hv2 := hv
        rw [valid_go s pos hp hr] at hv2
        by_cases h8 : s[pos].toNat < 128
        · have e1 : rl s pos = 1 := by unfold rl; rw [rlN_one (by rw [bt_at s pos hp]; exact h8)]
          rw [e1] at hv2
          have hq : T.data.toList.drop j = qB s[pos] ++ (qs (s.data.toList.drop (pos + 1)) ++ [34]) := by
            rw [hj, drop_at s pos hp]; simp [qs]
          obtain ⟨p1, p2⟩ := piece_q h8 hq
          have ih := str_round s T f (pos + 1) (by omega) hv2 (j + (qB s[pos]).length) (drop_past hq)
          rw [strR_go p1 p2, ih, enc_lo h8, show UInt8.ofNat s[pos].toNat = s[pos] from UInt8.ofNat_toNat, drop_at s pos hp]
          rfl
        · obtain ⟨g1, g2, g3, g4⟩ := enc_multi s pos hp hr h8
          have hsplit := (List.take_append_drop (rl s pos) (s.data.toList.drop pos)).symm
          rw [List.drop_drop] at hsplit
          have hq : T.data.toList.drop j = (s.data.toList.drop pos).take (rl s pos) ++ (qs (s.data.toList.drop (pos + rl s pos)) ++ [34]) := by
            rw [hj]
            conv => lhs; rw [hsplit]
            rw [qs_app, qs_high _ g2, List.append_assoc]
          have hle := rl_le s pos hp
          have hlen : ((s.data.toList.drop pos).take (rl s pos)).length = rl s pos := by rw [List.length_take, List.length_drop, data_len]; omega
          have hrl := rl_same hp h8 hr hq
          have ih := str_round s T f (pos + rl s pos) (by omega) hv2 (j + rl s pos) (by have := drop_past hq; rwa [hlen] at this)
          have hjT : j < T.size := by
            have := drop_size hq (by intro e; have := congrArg List.length e; rw [List.length_append, hlen, List.length_nil] at this; omega)
            rw [List.length_append, hlen] at this; omega
          have b0 : bt T j = bt s pos := by
            have x := bt_drop T j 0
            have y := bt_drop s pos 0
            rw [Nat.add_zero] at x y
            rw [x, y, hq, take_getD _ _ _ _ (by omega) (by rw [List.length_drop, data_len]; omega)]
          have hb0 := bt_at s pos hp
          have b8 : ¬ T[j].toNat < 128 := by rw [← bt_at T j hjT]; omega
          obtain ⟨k1, k2, k3, k4⟩ := enc_multi T j hjT (by rw [hrl]; exact hr) b8
          have hp2 : piece T j = some ((Utf8.decode T j).1, rl s pos) := by
            unfold piece
            rw [if_neg (by omega), if_neg (by omega), if_neg (by omega), if_neg (by rw [hrl]; exact hr), hrl]
          rw [strR_go (by omega) hp2, ih]
          unfold enc
          rw [k1, hq, hrl]
          conv => rhs; rw [hsplit]
          rw [List.take_append_of_le_length (by omega), List.take_of_length_le (by omega)]
          rfl
    · rw [drop_end s pos hp] at hj ⊢
      have hs := drop_size hj (by simp [qs])
      have b0 := bt_drop T j 0
      rw [hj] at b0
      change bt T j = 34 at b0
      rw [strR_end b0]
      simp [qs] at hs
      rw [hs]

/-- A quoted text is read back. -/
theorem strQ_quoted (s : ByteArray) (hv : Lib.validD s.data.toList = true) : strQ (strOf (quoted s.data.toList)) 0 = some (s.data.toList, (strOf (quoted s.data.toList)).size) := by
  have h := str_round s (strOf (quoted s.data.toList)) s.size 0 (by omega) (by simpa using hv) 1 (by rw [strOf_toList]; rfl)
  have b : bt (strOf (quoted s.data.toList)) 0 = 34 := by unfold bt; rw [strOf_toList]; rfl
  unfold strQ
  rw [if_pos b]
  exact h
end Go.Proofs.YtmjlkbdjalokeabGreatDoor
