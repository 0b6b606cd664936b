import Derived.Deep.LoopGhost
import Derived.Test.YtdbppklmmdmgjabGreatDoorBs2
namespace Go.Proofs.YtdbppklmmdmgjabGreatDoor
open Go.RowKit Go.Sort

set_option maxHeartbeats 1600000 in
theorem change_walk (B rb q : Nat) (s : ByteArray) (w : World) (h : RdL w B rb q) (hs : s.size ≤ 100000) :
    Calls Tryz.prog 19 #[.pointer (some ⟨rb, 0, none⟩), .string s] w fun e w' => ∃ t : ByteArray, t.size ≤ 1048576 ∧ e = .returned (.string t) ∧ w.grownBy w' (some rb) := by
  have HN : Hid (∀ w q, RdL w B rb q → Calls Tryz.prog 15 #[.pointer (some ⟨rb, 0, none⟩)] w fun e w' => ∃ x : Nat, x ≤ 255 ∧ e = .returned (.int .i64 x) ∧ RdL w' B rb (q - 1) ∧ w.grownBy w' (some rb)) := fun w q h => nextL_walk B rb q w h
  have HR := hide h
  clear h
  go_enter Tryz.func19, Tryz.ntmps19
  go_wp2_with fail
  refine (unhide HN _ _ (unhide HR)).mono ?_
  rintro e w1 ⟨x, hx, rfl, r1, g1⟩
  have R1 := hide r1
  clear r1 HR
  go_wp2_with fail
  refine (unhide HN _ _ (unhide R1)).mono ?_
  rintro e w2 ⟨y, hy, rfl, r2, g2⟩
  have R2 := hide r2
  have G2 := hide (grownBy_trans g1 g2)
  clear r2 R1 g1 g2
  go_wp2_with fail
  refine (unhide HN _ _ (unhide R2)).mono ?_
  rintro e w3 ⟨z, hz, rfl, r3, g3⟩
  have G3 := hide (grownBy_trans (unhide G2) g3)
  clear r3 R2 G2 g3 HN
  by_cases h0 : s.size = 0
  · have t0 : ((s.size : Int) == 0) = true := by rw [beq_iff_eq]; omega
    go_wp2
    go_ret
    exact ⟨_, by decide, rfl, unhide G3⟩
  · have t0 : ((s.size : Int) == 0) = false := by rw [beq_eq_false_iff_ne]; omega
    have hm : (y * 256 + z) % s.size < s.size := Nat.mod_lt _ (by omega)
    have hmI : ((y : Int) * 256 + (z : Int)) % (s.size : Int) = (((y * 256 + z) % s.size : Nat) : Int) := by simp
    generalize (y * 256 + z) % s.size = m at *
    have HO : Hid (∀ d os, Calls Tryz.prog 35 #[.int .i64 ((x / 4 : Nat) : Int)] (grow (redrawn w3 d) os) fun e w'' => e = .returned (.string (odd (x / 4))) ∧ ∃ p : Regrown, w'' = grow (redrawn w3 p.d) p.os) := fun d os => Calls.regrown_of (odd_walk (x / 4) _)
    have ho := odd_le (x / 4)
    have hq1 : IntKind.wrap .i64 (Int.tdiv (x : Int) 4) = ((x / 4 : Nat) : Int) := by
      rw [Int.tdiv_eq_ediv_of_nonneg (by omega)]
      unfold IntKind.wrap
      simp [IntKind.signed, IntKind.bits]
      omega
    generalize odd (x / 4) = ob at *
    have q1 : (m : Int) ≤ (s.size : Int) := by omega
    have q2 : (m : Int) + 1 ≤ (s.size : Int) := by omega
    have q3 : (0 : Int) ≤ (m : Int) := by omega
    have q4 : (0 : Int) ≤ (m : Int) + 1 := by omega
    go_wp2
    · simp only [hmI]
      go_quiet (fail)
      go_wp2
      go_ret
      refine ⟨_, ?_, rfl, grownBy_trans (unhide G3) (grown_draws _ _ _)⟩
      simp; omega
    · simp only [hmI]
      go_quiet (fail)
      go_wp2
      go_ret
      refine ⟨_, ?_, rfl, grownBy_trans (unhide G3) (grown_draws _ _ _)⟩
      simp; omega
    · simp only [hmI]
      refine wp_region_quiet_below (by kernel_rfl) (by kernel_rfl) ?_
      repeat (first | go_big_quiet_step ((go_at_call 35; exact unhide HO _ _)) | quiet_step ((go_at_call 35; exact unhide HO _ _)))
      refine wpQuiet_nil ?_
      intro _ hw'
      obtain ⟨⟨dq, osq⟩, hw''⟩ := hw'
      subst hw''
      go_wp2
      go_ret
      refine ⟨_, ?_, rfl, grownBy_trans (unhide G3) (grownBy_below (below_regrown w3 dq osq))⟩
      simp; omega

theorem convert_BS {w : World} {xa : Option Addr} {xb xo xc : Nat} {l : List UInt8} (h : BS w xa xb xo l) : (convert 22 9 (.slice xa l.length xc)).run Tryz.prog w = .ok (.string (strOf l)) w := by
  cases xa with
  | none =>
    have e0 : l = [] := by
      cases l with
      | nil => rfl
      | cons c l => have := h.ad (by simp); cases this
    subst e0
    exact run_convert_bytes_nil (P := Tryz.prog) w 22 5 Tryz.underlying22 Tryz.underlying5 0 xc 9 Tryz.underlying9
  | some a =>
    exact run_convert_bytes_back (P := Tryz.prog) w 22 9 5 a xc l Tryz.underlying22 Tryz.underlying5 Tryz.underlying9 (fun j hj => by
      have e := h.ad (by omega)
      injection e with e
      subst e
      rw [show ((⟨xb, xo, none⟩ : Addr).add j) = ⟨xb, xo + j, none⟩ from by simp [Addr.add], h.cell j hj]
      simp [List.getD_eq_getElem?_getD, hj])

set_option maxRecDepth 100000 in
set_option maxHeartbeats 1600000 in
theorem drawQuote_walk (xa : Option Addr) (xb xo xc : Nat) (l : List UInt8) (w : World) (h : BS w xa xb xo l) (hl : l.length ≤ 1048576) (hc : l.length ≤ xc) :
    Calls Tryz.prog 6 #[.slice xa l.length xc] w fun e w' => ∃ t : ByteArray, t.size ≤ 1048576 ∧ e = .returned (.string t) ∧ Below w.heap.size w w' := by
  have HC := hide (openL_walk xa xb xo xc l w h hl hc)
  have HBS := hide h
  have HLL := hide hl
  clear h hl hc
  have HN : Hid (∀ u q, RdL u w.heap.size w.heap.size q → Calls Tryz.prog 15 #[.pointer (some ⟨w.heap.size, 0, none⟩)] u fun e w' => ∃ x : Nat, x ≤ 255 ∧ e = .returned (.int .i64 x) ∧ RdL w' w.heap.size w.heap.size (q - 1) ∧ u.grownBy w' (some w.heap.size)) := fun u q h => nextL_walk _ _ q u h
  have HL : Hid (∀ u q, RdL u w.heap.size w.heap.size q → Calls Tryz.prog 16 #[.pointer (some ⟨w.heap.size, 0, none⟩)] u fun e w' => e = .returned (.int .i64 q) ∧ RdL w' w.heap.size w.heap.size q ∧ u.grownBy w' (some w.heap.size)) := fun u q h => leftL_walk _ _ q u h
  have HCH : Hid (∀ u q s, RdL u w.heap.size w.heap.size q → s.size ≤ 100000 → Calls Tryz.prog 19 #[.pointer (some ⟨w.heap.size, 0, none⟩), .string s] u fun e w' => ∃ t : ByteArray, t.size ≤ 1048576 ∧ e = .returned (.string t) ∧ u.grownBy w' (some w.heap.size)) := fun u q s h hs => change_walk _ _ q s u h hs
  go_enter Tryz.func6, Tryz.ntmps6
  go_wp2_with fail
  refine (unhide HC).mono ?_
  rintro e w1 ⟨rfl, ⟨q0, r1⟩, b1, hz1⟩
  have R1 := hide r1
  clear r1 HC
  go_wp2_with fail
  refine (unhide HN _ _ (unhide R1)).mono ?_
  rintro e w2 ⟨k, hk, rfl, r2, g2⟩
  have R2 := hide r2
  have q2le := r2.le
  have B2 := hide (below_of_grownD b1 g2 (by omega) (fun j e => by injection e with e; omega))
  have hk5 : k % 5 < 5 := Nat.mod_lt _ (by decide)
  have hkI : (k : Int) % 5 = ((k % 5 : Nat) : Int) := by omega
  generalize hk5e : k % 5 = k5 at *
  clear r2 R1 b1 g2
  go_wp2_with fail
  go_loopg [5, 6] (6 + (q0 - 1)) (fun g v i wr => ∃ (j q : Nat) (s : ByteArray), g = (6 - j) + q ∧ v = .string s ∧ i = .int .i64 (j : Int) ∧ j + q ≤ 1206 ∧ s.size ≤ 7 * j ∧ RdL wr w.heap.size w.heap.size q ∧ Below w.heap.size w wr)
  case atStart => exact ⟨0, q0 - 1, ⟨#[]⟩, rfl, rfl, rfl, by omega, Nat.le_refl 0, unhide R2, unhide B2⟩
  case round =>
    obtain ⟨j, q, s, hg, rfl, rfl, hjq, hs, hr, hb⟩ := hrel
    have HR := hide hr
    have HB := hide hb
    have hwsz := hb.size
    clear hr hb R2 B2
    have body : True := trivial
    by_cases hA : j < 1 + k5
    · have tA : ((j : Int) < 1 + (k : Int) % 5) = True := eq_true (by omega)
      go_wp2_with fail
      refine (unhide HN _ _ (unhide HR)).mono ?_
      rintro e w3 ⟨x, hx, rfl, r3, g3⟩
      have R3 := hide r3
      have B3 := hide (below_of_grownD (unhide HB) g3 hwsz (fun j e => by injection e with e; omega))
      clear r3 g3 HR HB
      go_wp2_with fail
      refine (str_walk x w3 hx).mono ?_
      rintro e w4 ⟨t, ht, rfl, rfl⟩
      go_wp2
      go_roundg ((6 - (j + 1)) + (q - 1))
      case rel => exact ⟨j + 1, q - 1, s ++ t, rfl, rfl, by go_num, by omega, by simp; omega, unhide R3, unhide B3⟩
      case measure => omega
    · have tA : ((j : Int) < 1 + (k : Int) % 5) = False := eq_false (by omega)
      go_wp2_with fail
      refine (unhide HL _ _ (unhide HR)).mono ?_
      rintro e w3 ⟨rfl, r3, g3⟩
      have R3 := hide r3
      have B3 := hide (below_of_grownD (unhide HB) g3 hwsz (fun j e => by injection e with e; omega))
      have hw3 := g3.size
      clear r3 g3 HR HB
      by_cases hq : 4 < q
      · have tq : ((4 : Int) < (q : Int)) = True := eq_true (by omega)
        go_wp2_with fail
        refine (unhide HN _ _ (unhide R3)).mono ?_
        rintro e w4 ⟨x, hx, rfl, r4, g4⟩
        have R4 := hide r4
        have B4 := hide (below_of_grownD (unhide B3) g4 (by omega) (fun j e => by injection e with e; omega))
        clear r4 g4 R3 B3
        go_wp2_with fail
        refine (str_walk x w4 hx).mono ?_
        rintro e w5 ⟨t, ht, rfl, rfl⟩
        go_wp2
        go_roundg ((6 - (j + 1)) + (q - 1))
        case rel => exact ⟨j + 1, q - 1, s ++ t, rfl, rfl, by go_num, by omega, by simp; omega, unhide R4, unhide B4⟩
        case measure => omega
      · have tq : ((4 : Int) < (q : Int)) = False := eq_false (by omega)
        have hcv := convert_BS (xc := xc) ((unhide HBS).below (unhide B3))
        have HRP : Hid (∀ z : Int, (∃ n : Nat, z = (n : Int) ∧ n ≤ 30000) → Calls Tryz.prog 18 #[.string ⟨#[126]⟩, .int .i64 z] w3 fun e w' => ∃ t : ByteArray, t.size ≤ 120000 ∧ e = .returned (.string t) ∧ Below w3.heap.size w3 w') := fun z ⟨n, hz, hn⟩ => by
          subst hz
          exact repeat_walk [126] n w3 (by decide) hn
        go_wp2_with fail
        · go_ret
          exact ⟨_, by rw [strOf_size]; exact unhide HLL, rfl, unhide B3⟩
        · refine (unhide HRP _ ⟨20000 + k / 20 % 2, by omega, by omega⟩).mono ?_
          rintro e w4 ⟨t, ht, rfl, b4⟩
          have B4 := below_next (unhide B3) b4
          go_wp2
          go_ret
          exact ⟨_, Nat.le_trans ht (by decide), rfl, B4⟩
        · refine (unhide HCH _ _ s (unhide R3) (by omega)).mono ?_
          rintro e w4 ⟨t, ht, rfl, g4⟩
          have B4 := below_of_grownD (unhide B3) g4 (by omega) (fun j e => by injection e with e; omega)
          go_wp2
          go_ret
          exact ⟨_, ht, rfl, B4⟩
        · go_ret
          exact ⟨_, by omega, rfl, unhide B3⟩
end Go.Proofs.YtdbppklmmdmgjabGreatDoor
