import Derived.Test.YtcffdclgddmigaaGreatDoorBn7
import Derived.Test.YtcffdclgddmigaaGreatDoorBn3
import Derived.Shelf.Unicode.DecodeAny
import Derived.Lib.QuietBelow
import Derived.Test.YtcffdclgddmigaaGreatDoorBn1
import Derived.Test.YtcffdclgddmigaaGreatDoorBn5
namespace Go.Proofs.YtcffdclgddmigaaGreatDoor
open Go.RowKit

theorem bt_drop (s : ByteArray) (i k : Nat) : bt s (i + k) = ((s.data.toList.drop i).getD k 0).toNat := by
  unfold bt; rw [List.getD_eq_getElem?_getD, List.getD_eq_getElem?_getD, List.getElem?_drop]
theorem drop_size {s : ByteArray} {i : Nat} {m : List UInt8} (h : s.data.toList.drop i = m) (hm : m ≠ []) : s.size = i + m.length := by
  have h1 : (s.data.toList.drop i).length = m.length := by rw [h]
  have h2 : 0 < m.length := List.length_pos_iff.2 hm
  rw [List.length_drop, data_len] at h1
  omega
theorem hx_hexs : ∀ k : Fin 16, hx (hexs.getD k.val 0).toNat = some k.val := by decide
theorem enc_lo {r : Nat} (h : r < 128) : enc r = [UInt8.ofNat r] := by
  unfold enc; rw [← utf_enc (by omega) (by omega)]; unfold utf utfZ; rw [if_pos h]; rfl

theorem piece_esc {T : ByteArray} {i : Nat} {c x : UInt8} {m : List UInt8} (hq : qB c = [92, x]) (hs : smp x.toNat = some c.toNat) (h : T.data.toList.drop i = qB c ++ m) :
    bt T i ≠ 34 ∧ piece T i = some (c.toNat, (qB c).length) := by
  have b0 := bt_drop T i 0
  have b1 := bt_drop T i 1
  rw [h, hq] at b0 b1
  change bt T i = 92 at b0
  change bt T (i + 1) = x.toNat at b1
  refine ⟨by omega, ?_⟩
  unfold piece
  rw [if_pos b0, escP_s b1 hs, hq]; rfl
theorem piece_ctl {T : ByteArray} {i : Nat} {c : UInt8} {m : List UInt8} (hc : Ctl c.toNat) (h : T.data.toList.drop i = qB c ++ m) :
    bt T i ≠ 34 ∧ piece T i = some (c.toNat, (qB c).length) := by
  have hq := q_ctl hc
  have hlt := hc.1
  have x1 := hx_hexs ⟨c.toNat / 16, by omega⟩
  have x2 := hx_hexs ⟨c.toNat % 16, by omega⟩
  simp only at x1 x2
  generalize hexs.getD (c.toNat / 16) 0 = a at *
  generalize hexs.getD (c.toNat % 16) 0 = b at *
  have b0 := bt_drop T i 0
  have b1 := bt_drop T i 1
  have b2 := bt_drop T i 2
  have b3 := bt_drop T i 3
  have b4 := bt_drop T i 4
  have b5 := bt_drop T i 5
  rw [h, hq] at b0 b1 b2 b3 b4 b5
  change bt T i = 92 at b0
  change bt T (i + 1) = 117 at b1
  change bt T (i + 2) = 48 at b2
  change bt T (i + 3) = 48 at b3
  change bt T (i + 4) = a.toNat at b4
  change bt T (i + 5) = b.toNat at b5
  have e : hexN T (i + 2) 4 = some ((((0 * 16 + 0) * 16 + 0) * 16 + c.toNat / 16) * 16 + c.toNat % 16) := by
    refine hexN_next (hexN_next (hexN_next (hexN_next rfl ?_) ?_) ?_) ?_
    · show hx (bt T (i + 2)) = _
      rw [b2]; rfl
    · show hx (bt T (i + 3)) = _
      rw [b3]; rfl
    · show hx (bt T (i + 4)) = _
      rw [b4]; exact x1
    · show hx (bt T (i + 5)) = _
      rw [b5]; exact x2
  refine ⟨by omega, ?_⟩
  unfold piece
  rw [if_pos b0, escP_u b0 b1, e, hq]
  show escU T i _ = _
  unfold escU
  rw [if_pos (by omega)]
  congr 2
  omega
theorem piece_q {T : ByteArray} {i : Nat} {c : UInt8} {m : List UInt8} (hc : c.toNat < 128) (h : T.data.toList.drop i = qB c ++ m) :
    bt T i ≠ 34 ∧ piece T i = some (c.toNat, (qB c).length) := by
  by_cases e1 : c.toNat = 34
  · exact piece_esc (q_esc (by omega)) (by rw [e1]; rfl) h
  by_cases e2 : c.toNat = 92
  · exact piece_esc (q_esc (by omega)) (by rw [e2]; rfl) h
  by_cases e3 : c.toNat = 8
  · exact piece_esc (q_8 (by omega)) (by rw [e3]; rfl) h
  by_cases e4 : c.toNat = 9
  · exact piece_esc (q_9 (by omega)) (by rw [e4]; rfl) h
  by_cases e5 : c.toNat = 10
  · exact piece_esc (q_10 (by omega)) (by rw [e5]; rfl) h
  by_cases e6 : c.toNat = 12
  · exact piece_esc (q_12 (by omega)) (by rw [e6]; rfl) h
  by_cases e7 : c.toNat = 13
  · exact piece_esc (q_13 (by omega)) (by rw [e7]; rfl) h
  by_cases e8 : c.toNat < 32
  · exact piece_ctl ⟨e8, e3, e4, e5, e6, e7⟩ h
  have hq := q_lit e1 e2 (by omega)
  have b0 := bt_drop T i 0
  rw [h, hq] at b0
  change bt T i = c.toNat at b0
  refine ⟨by omega, ?_⟩
  unfold piece
  rw [if_neg (by omega), if_neg (by omega), if_pos (by omega), b0, hq]; rfl

theorem take_getD (l : List UInt8) (n k : Nat) (m : List UInt8) (h : k < n) (hn : n ≤ l.length) : (l.take n ++ m).getD k 0 = l.getD k 0 := by
  rw [List.getD_eq_getElem?_getD, List.getD_eq_getElem?_getD, List.getElem?_append_left (by rw [List.length_take]; omega), List.getElem?_take_of_lt h]

theorem rl_same {s T : ByteArray} {i j : Nat} {m : List UInt8} (hi : i < s.size) (h8 : ¬ s[i].toNat < 128) (hr : ¬ rl s i = 0) (h : T.data.toList.drop j = (s.data.toList.drop i).take (rl s i) ++ m) : rl T j = rl s i := by
  have hle := rl_le s i hi
  have hlen : (s.data.toList.drop i).length = s.size - i := by rw [List.length_drop, data_len]
  have hb : ∀ k, k < rl s i → bt T (j + k) = bt s (i + k) := fun k hk => by
    rw [bt_drop, bt_drop, h, take_getD _ _ _ _ hk (by omega)]
  have hn : rl s i ≤ T.size - j := by
    have h1 := drop_size h (by
      intro e
      have := congrArg List.length e
      rw [List.length_append, List.length_take, hlen] at this
      simp at this; omega)
    rw [List.length_append, List.length_take, hlen] at h1
    omega
  have hb0 := bt_at s i hi
  have h192 : 192 ≤ bt s i := by
    rcases Nat.lt_or_ge (bt s i) 192 with g | g
    · exact absurd (show rl s i = 0 by unfold rl; rw [rlN_cont (by omega) g]) hr
    · exact g
  have hT0 := hb 0 (by omega)
  rw [Nat.add_zero, Nat.add_zero] at hT0
  have l1 := bt_lt s (i + 1)
  have l2 := bt_lt s (i + 2)
  have l3 := bt_lt s (i + 3)
  by_cases h2 : bt s i < 224
  · have e := rlN_2 (n := s.size - i) (b0 := bt s i) (b1 := bt s (i + 1)) (b2 := bt s (i + 2)) (b3 := bt s (i + 3)) h192 h2 l1
    have e' := rlN_2 (n := T.size - j) (b0 := bt T j) (b1 := bt T (j + 1)) (b2 := bt T (j + 2)) (b3 := bt T (j + 3)) (by omega) (by omega) (bt_lt _ _)
    change rl s i = _ at e
    change rl T j = _ at e'
    split at e
    · rename_i hc
      have x1 := hb 1 (by omega)
      rw [e', e, if_pos (by rw [hT0, x1]; omega)]
    · omega
  by_cases h3 : bt s i < 240
  · have e := rlN_3 (n := s.size - i) (b0 := bt s i) (b1 := bt s (i + 1)) (b2 := bt s (i + 2)) (b3 := bt s (i + 3)) (by omega) h3 l1 l2
    have e' := rlN_3 (n := T.size - j) (b0 := bt T j) (b1 := bt T (j + 1)) (b2 := bt T (j + 2)) (b3 := bt T (j + 3)) (by omega) (by omega) (bt_lt _ _) (bt_lt _ _)
    change rl s i = _ at e
    change rl T j = _ at e'
    split at e
    · rename_i hc
      have x1 := hb 1 (by omega)
      have x2 := hb 2 (by omega)
      rw [e', e, if_pos (by rw [hT0, x1, x2]; omega)]
    · omega
  · have e := rlN_4 (n := s.size - i) (b0 := bt s i) (b1 := bt s (i + 1)) (b2 := bt s (i + 2)) (b3 := bt s (i + 3)) (by omega) (bt_lt _ _) l1 l2 l3
    have e' := rlN_4 (n := T.size - j) (b0 := bt T j) (b1 := bt T (j + 1)) (b2 := bt T (j + 2)) (b3 := bt T (j + 3)) (by omega) (bt_lt _ _) (bt_lt _ _) (bt_lt _ _) (bt_lt _ _)
    change rl s i = _ at e
    change rl T j = _ at e'
    split at e
    · rename_i hc
      have x1 := hb 1 (by omega)
      have x2 := hb 2 (by omega)
      have x3 := hb 3 (by omega)
      rw [e', e, if_pos (by rw [hT0, x1, x2, x3]; omega)]
    · omega

theorem drop_past {l m n : List UInt8} {j : Nat} (h : l.drop j = m ++ n) : l.drop (j + m.length) = n := by
  rw [← List.drop_drop, h, List.drop_left]

theorem str_round (s T : ByteArray) : ∀ (f pos : Nat), s.size ≤ pos + f → Lib.validD (s.data.toList.drop pos) = true → ∀ j, T.data.toList.drop j = qs (s.data.toList.drop pos) ++ [34] → strR T j = some (s.data.toList.drop pos, T.size)
  | f, pos, h, hv, j, hj => by
    by_cases hp : pos < s.size
    · cases f with
      | zero => omega
      | succ f =>
        have hr : ¬ rl s pos = 0 := fun e => by rw [valid_bad s pos hp e] at hv; cases hv
        have hv2 := hv
        rw [valid_go s pos hp hr] at hv2
        by_cases h8 : s[pos].toNat < 128
        · have e1 : rl s pos = 1 := by unfold rl; rw [rlN_one (by rw [bt_at s pos hp]; exact h8)]
          rw [e1] at hv2
          have hq : T.data.toList.drop j = qB s[pos] ++ (qs (s.data.toList.drop (pos + 1)) ++ [34]) := by
            rw [hj, drop_at s pos hp]; simp [qs]
          obtain ⟨p1, p2⟩ := piece_q h8 hq
          have ih := str_round s T f (pos + 1) (by omega) hv2 (j + (qB s[pos]).length) (drop_past hq)
          rw [strR_go p1 p2, ih, enc_lo h8, show UInt8.ofNat s[pos].toNat = s[pos] from UInt8.ofNat_toNat, drop_at s pos hp]
          rfl
        · obtain ⟨g1, g2, g3, g4⟩ := enc_multi s pos hp hr h8
          have hsplit := (List.take_append_drop (rl s pos) (s.data.toList.drop pos)).symm
          rw [List.drop_drop] at hsplit
          have hq : T.data.toList.drop j = (s.data.toList.drop pos).take (rl s pos) ++ (qs (s.data.toList.drop (pos + rl s pos)) ++ [34]) := by
            rw [hj]
            conv => lhs; rw [hsplit]
            rw [qs_app, qs_high _ g2, List.append_assoc]
          have hle := rl_le s pos hp
          have hlen : ((s.data.toList.drop pos).take (rl s pos)).length = rl s pos := by rw [List.length_take, List.length_drop, data_len]; omega
          have hrl := rl_same hp h8 hr hq
          have ih := str_round s T f (pos + rl s pos) (by omega) hv2 (j + rl s pos) (by have := drop_past hq; rwa [hlen] at this)
          have hjT : j < T.size := by
            have := drop_size hq (by intro e; have := congrArg List.length e; rw [List.length_append, hlen, List.length_nil] at this; omega)
            rw [List.length_append, hlen] at this; omega
          have b0 : bt T j = bt s pos := by
            have x := bt_drop T j 0
            have y := bt_drop s pos 0
            rw [Nat.add_zero] at x y
            rw [x, y, hq, take_getD _ _ _ _ (by omega) (by rw [List.length_drop, data_len]; omega)]
          have hb0 := bt_at s pos hp
          have b8 : ¬ T[j].toNat < 128 := by rw [← bt_at T j hjT]; omega
          obtain ⟨k1, k2, k3, k4⟩ := enc_multi T j hjT (by rw [hrl]; exact hr) b8
          have hp2 : piece T j = some ((Utf8.decode T j).1, rl s pos) := by
            unfold piece
            rw [if_neg (by omega), if_neg (by omega), if_neg (by omega), if_neg (by rw [hrl]; exact hr), hrl]
          rw [strR_go (by omega) hp2, ih]
          unfold enc
          rw [k1, hq, hrl]
          conv => rhs; rw [hsplit]
          rw [List.take_append_of_le_length (by omega), List.take_of_length_le (by omega)]
          rfl
    · rw [drop_end s pos hp] at hj ⊢
      have hs := drop_size hj (by simp [qs])
      have b0 := bt_drop T j 0
      rw [hj] at b0
      change bt T j = 34 at b0
      rw [strR_end b0]
      simp [qs] at hs
      rw [hs]

/-- A quoted text is read back. -/
theorem strQ_quoted (s : ByteArray) (hv : Lib.validD s.data.toList = true) : strQ (strOf (quoted s.data.toList)) 0 = some (s.data.toList, (strOf (quoted s.data.toList)).size) := by
  have h := str_round s (strOf (quoted s.data.toList)) s.size 0 (by omega) (by simpa using hv) 1 (by rw [strOf_toList]; rfl)
  have b : bt (strOf (quoted s.data.toList)) 0 = 34 := by unfold bt; rw [strOf_toList]; rfl
  unfold strQ
  rw [if_pos b]
  exact h
end Go.Proofs.YtcffdclgddmigaaGreatDoor

namespace Go.Proofs.YtcffdclgddmigaaGreatDoor
open Go.RowKit Go.Sort

theorem decodeGo_at (s : ByteArray) (i : Nat) (h : i < s.size) : Lib.decodeGo (s.extract i s.size) = Utf8.decode s i := by
  have hsz : (s.extract i s.size).size = s.size - i := by simp
  unfold Lib.decodeGo
  rw [if_neg (by omega), dec, dec, hsz]
  have hb : ∀ k, bt (s.extract i s.size) k = bt s (i + k) := by
    intro k
    unfold bt
    rw [Lib.extract_data, List.getD_eq_getElem?_getD, List.getD_eq_getElem?_getD, List.getElem?_take, List.getElem?_drop]
    split
    · rfl
    · rw [List.getElem?_eq_none (by rw [data_len]; omega)]
  rw [hb, hb, hb, hb]; rfl
theorem decodeGo_end (s : ByteArray) (i : Nat) (h : i = s.size) : Lib.decodeGo (s.extract i s.size) = (65533, 0) := by
  have hsz : (s.extract i s.size).size = 0 := by simp; omega
  unfold Lib.decodeGo
  rw [if_pos hsz]

set_option maxHeartbeats 1600000 in
theorem raw_ok (rb : Nat) (s : ByteArray) (i : Nat) (tb kt : Bool) (w : World) (h : Rdr rb s i tb kt w) (hs : s.size ≤ 1048576) (hi : i ≤ s.size) (hn : bt s i ≠ 92 ∨ i = s.size) (B : Nat) (hT : TabsB B w) (hB : B ≤ rb)
    (r n : Nat) (hd : Lib.decodeGo (s.extract i s.size) = (r, n)) (h32 : 32 ≤ r) (hr : r ≤ 1114111) (hn2 : r = 65533 → 2 ≤ n) (hin : i + n ≤ s.size) :
    Calls Tryz.prog 159 #[.pointer (some ⟨rb, 0, none⟩)] w fun e w' => e = .returned (.int .i32 r) ∧ Rdr rb s (i + n) tb kt w' ∧ KB rb w w' := by
  have HS := hide (skip_no rb s i tb kt w h hi 92 hn)
  have HT := hide hT
  have hlt := h.lt
  clear h hn hT
  go_enter Tryz.func159, Tryz.ntmps159
  go_wp2_with fail
  refine (unhide HS).mono ?_
  rintro e w1 ⟨rfl, r1, k1⟩
  have T1 := (unhide HT).next (k1.below hB (by omega)) (Nat.le_refl _)
  have HD : Hid (∀ d os, Calls Tryz.prog 187 #[.string (s.extract i s.size)] (grow (redrawn w1 d) os) fun e w'' => e = .returned (.tuple #[.int .i32 r, .int .i64 n]) ∧ ∃ p : Regrown, w'' = grow (redrawn w1 p.d) p.os) := fun d os => by
    have c := Any.utf8_DecodeRuneInString Tryz.laysDecode (s.extract i s.size) (grow (redrawn w1 d) os) ((T1.tabs).below (below_regrown w1 d os))
    rw [hd] at c
    exact Calls.regrown_of c
  have c0 : ∀ d os, (grow (redrawn w1 d) os).cell? ⟨rb, 0, none⟩ = some (.string s) := fun d os => cell_regrown r1.text d os
  have c1 : ∀ d os, (grow (redrawn w1 d) os).cell? ⟨rb, 1, none⟩ = some (.int .i64 (i : Int)) := fun d os => cell_regrown r1.at d os
  have R1 := hide r1
  clear r1 HS HT T1 hd
  go_wp2_with fail
  refine wp_region_quiet_below (by kernel_rfl) (by kernel_rfl) ?_
  repeat (first | go_big_quiet_step ((go_at_call 187; exact unhide HD _ _)) | quiet_step ((go_at_call 187; exact unhide HD _ _)))
  refine wpQuiet_nil ?_
  intro _ hw'
  obtain ⟨⟨dq, osq⟩, hw''⟩ := hw'
  subst hw''
  have R2 := (unhide R1).below (below_regrown w1 dq osq)
  have K2 := k1.trans (KB.of_below (below_regrown w1 dq osq))
  clear R1 c0 c1 HD
  generalize grow (redrawn w1 dq) osq = w2 at *
  have c1 := R2.at
  have f1 := R2.frozen
  have RR := hide R2
  clear R2
  have d32 : ¬ (r : Int) < 32 := by omega
  by_cases e : r = 65533
  · have t1 : ((r : Int) == 65533) = true := by rw [beq_iff_eq]; omega
    have t2 : ¬ (n : Int) ≤ 1 := by have := hn2 e; omega
    clear e hn2
    go_wp2
    go_ret
    exact ⟨rfl, (unhide RR).set _ _ (by omega), K2.set 1 _⟩
  · have t1 : ((r : Int) == 65533) = false := by rw [beq_eq_false_iff_ne]; omega
    clear e hn2
    go_wp2
    go_ret
    exact ⟨rfl, (unhide RR).set _ _ (by omega), K2.set 1 _⟩
set_option maxHeartbeats 1600000 in
theorem raw_bad (rb : Nat) (s : ByteArray) (i : Nat) (tb kt : Bool) (w : World) (h : Rdr rb s i tb kt w) (hi : i ≤ s.size) (hn : bt s i ≠ 92 ∨ i = s.size) (B : Nat) (hT : TabsB B w) (hB : B ≤ rb)
    (r n : Nat) (hd : Lib.decodeGo (s.extract i s.size) = (r, n)) (hbad : (r = 65533 ∧ n ≤ 1) ∨ r < 32) :
    Calls Tryz.prog 159 #[.pointer (some ⟨rb, 0, none⟩)] w fun e w' => e = mis ∧ KB rb w w' := by
  have HS := hide (skip_no rb s i tb kt w h hi 92 hn)
  have HT := hide hT
  have hlt := h.lt
  clear h hn hT
  go_enter Tryz.func159, Tryz.ntmps159
  go_wp2_with fail
  refine (unhide HS).mono ?_
  rintro e w1 ⟨rfl, r1, k1⟩
  have T1 := (unhide HT).next (k1.below hB (by omega)) (Nat.le_refl _)
  have HD : Hid (∀ d os, Calls Tryz.prog 187 #[.string (s.extract i s.size)] (grow (redrawn w1 d) os) fun e w'' => e = .returned (.tuple #[.int .i32 r, .int .i64 n]) ∧ ∃ p : Regrown, w'' = grow (redrawn w1 p.d) p.os) := fun d os => by
    have c := Any.utf8_DecodeRuneInString Tryz.laysDecode (s.extract i s.size) (grow (redrawn w1 d) os) ((T1.tabs).below (below_regrown w1 d os))
    rw [hd] at c
    exact Calls.regrown_of c
  have c0 : ∀ d os, (grow (redrawn w1 d) os).cell? ⟨rb, 0, none⟩ = some (.string s) := fun d os => cell_regrown r1.text d os
  have c1 : ∀ d os, (grow (redrawn w1 d) os).cell? ⟨rb, 1, none⟩ = some (.int .i64 (i : Int)) := fun d os => cell_regrown r1.at d os
  have R1 := hide r1
  clear r1 HS HT T1 hd
  go_wp2_with fail
  refine wp_region_quiet_below (by kernel_rfl) (by kernel_rfl) ?_
  repeat (first | go_big_quiet_step ((go_at_call 187; exact unhide HD _ _)) | quiet_step ((go_at_call 187; exact unhide HD _ _)))
  refine wpQuiet_nil ?_
  intro _ hw'
  obtain ⟨⟨dq, osq⟩, hw''⟩ := hw'
  subst hw''
  have R2 := (unhide R1).below (below_regrown w1 dq osq)
  have K2 := k1.trans (KB.of_below (below_regrown w1 dq osq))
  clear R1 c0 c1 HD
  generalize grow (redrawn w1 dq) osq = w2 at *
  clear R2
  rcases hbad with ⟨e, e'⟩ | e
  · have t1 : ((r : Int) == 65533) = true := by rw [beq_iff_eq]; omega
    have t2 : (n : Int) ≤ 1 := by omega
    clear e e'
    go_wp2
    exact ⟨rfl, rfl, K2⟩
  · have t1 : ((r : Int) == 65533) = false := by rw [beq_eq_false_iff_ne]; omega
    have t2 : (r : Int) < 32 := by omega
    clear e
    go_wp2
    exact ⟨rfl, rfl, K2⟩

set_option maxHeartbeats 800000 in
theorem escd (rb : Nat) (s : ByteArray) (i : Nat) (tb kt : Bool) (w : World) (h : Rdr rb s i tb kt w) (hs : s.size ≤ 1048576) (h0 : bt s i = 92) :
    Calls Tryz.prog 159 #[.pointer (some ⟨rb, 0, none⟩)] w (Post rb s tb kt w ((escP s i).map fun p => (.int .i32 (p.1 : Int), i + p.2))) := by
  have hi : i < s.size := bt_in (by rw [h0]; decide)
  have HS := hide (skip_yes rb s i tb kt w h hs 92 h0 hi)
  have HE : Hid (∀ w, Rdr rb s (i + 1) tb kt w → Calls Tryz.prog 186 #[.pointer (some ⟨rb, 0, none⟩)] w (Post rb s tb kt w ((escP s i).map fun p => (.int .i32 (p.1 : Int), i + p.2)))) := fun w h => escape_walk rb s i tb kt w h hs (by omega) h0
  clear h h0
  generalize escP s i = o at *
  cases o with
  | none =>
    go_enter Tryz.func159, Tryz.ntmps159
    go_wp2_with fail
    refine (unhide HS).mono ?_
    rintro e w1 ⟨rfl, r1, k1⟩
    have R1 := hide r1
    clear HS r1
    go_wp2_with fail
    refine (unhide HE _ (unhide R1)).mono ?_
    rintro e w2 ⟨k2, rfl⟩
    clear HE
    exact ⟨rfl, k1.trans k2, rfl⟩
  | some p =>
    go_enter Tryz.func159, Tryz.ntmps159
    go_wp2_with fail
    refine (unhide HS).mono ?_
    rintro e w1 ⟨rfl, r1, k1⟩
    have R1 := hide r1
    clear HS r1
    go_wp2_with fail
    refine (unhide HE _ (unhide R1)).mono ?_
    rintro e w2 ⟨k2, rfl, r2⟩
    have R2 := hide r2
    clear HE r2
    go_wp2
    go_ret
    exact ⟨k1.trans k2, rfl, unhide R2⟩

theorem decode_low (s : ByteArray) (i : Nat) (hb : bt s i < 128) : Utf8.decode s i = (bt s i, 1) := by
  rw [dec]; unfold Lib.decodeN; rw [if_pos hb]

/-- A piece of a string. -/
theorem piece_walk' (rb : Nat) (s : ByteArray) (i : Nat) (tb kt : Bool) (w : World) (h : Rdr rb s i tb kt w) (hs : s.size ≤ 1048576) (hi : i ≤ s.size) (B : Nat) (hT : TabsB B w) (hB : B ≤ rb) :
    Calls Tryz.prog 159 #[.pointer (some ⟨rb, 0, none⟩)] w (Post rb s tb kt w ((piece s i).map fun p => (.int .i32 (p.1 : Int), i + p.2))) := by
  by_cases h0 : bt s i = 92
  · have e : piece s i = escP s i := by unfold piece; rw [if_pos h0]
    rw [e]; exact escd rb s i tb kt w h hs h0
  by_cases hend : i = s.size
  · exact (raw_bad rb s i tb kt w h hi (.inr hend) B hT hB 65533 0 (decodeGo_end s i hend) (.inl ⟨rfl, by omega⟩)).mono fun e w' hh => post_none (by rw [piece_out (by omega)]; rfl) hh
  have hlt : i < s.size := by omega
  by_cases h32 : bt s i < 32
  · have e : piece s i = none := by unfold piece; rw [if_neg h0, if_pos h32]
    exact (raw_bad rb s i tb kt w h hi (.inl h0) B hT hB (bt s i) 1 (by rw [decodeGo_at s i hlt, decode_low s i (by omega)]) (.inr h32)).mono fun _ w' hh => post_none (by rw [e]; rfl) hh
  by_cases h128 : bt s i < 128
  · have e : piece s i = some (bt s i, 1) := by unfold piece; rw [if_neg h0, if_neg h32, if_pos h128]
    exact (raw_ok rb s i tb kt w h hs hi (.inl h0) B hT hB (bt s i) 1 (by rw [decodeGo_at s i hlt, decode_low s i h128]) (by omega) (by omega) (by omega) (by omega)).mono fun _ w' hh => post_some (by rw [e]; rfl) hh
  by_cases hr : rl s i = 0
  · have e : piece s i = none := by unfold piece; rw [if_neg h0, if_neg h32, if_neg h128, if_pos hr]
    exact (raw_bad rb s i tb kt w h hi (.inl h0) B hT hB 65533 1 (by rw [decodeGo_at s i hlt, dec]; exact rlN_bad hr) (.inl ⟨rfl, by omega⟩)).mono fun _ w' hh => post_none (by rw [e]; rfl) hh
  · have e : piece s i = some ((Utf8.decode s i).1, rl s i) := by unfold piece; rw [if_neg h0, if_neg h32, if_neg h128, if_neg hr]
    have hm := enc_multi s i hlt hr (by rw [← bt_at s i hlt]; exact h128)
    have hg := rlN_good hr
    have hp : Utf8.decode s i = ((Utf8.decode s i).1, rl s i) := by rw [← hm.2.2.2]
    have hle := rl_le s i hlt
    exact (raw_ok rb s i tb kt w h hs hi (.inl h0) B hT hB (Utf8.decode s i).1 (rl s i) (by rw [decodeGo_at s i hlt]; exact hp) (by have := hm.2.2.1; omega) (decode_le s i) (fun e1 => by
      rcases Nat.lt_or_ge (rl s i) 2 with g | g
      · exfalso
        have g1 : rl s i = 1 := by omega
        refine hg.2 ⟨?_, ?_⟩
        · rw [dec] at e1; exact e1
        · exact hg.1.trans g1
      · exact g) hle).mono fun _ w' hh => post_some (by rw [e]; rfl) hh
end Go.Proofs.YtcffdclgddmigaaGreatDoor
