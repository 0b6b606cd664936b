import Derived.Test.YtcjajchfjoffnaaGreatDoorBp9
import Derived.Laws.DeepStrings4
import Derived.Test.YtcjajchfjoffnaaGreatDoorBp1
namespace Go.Proofs.YtcjajchfjoffnaaGreatDoor
open Go.RowKit

set_option maxHeartbeats 1600000 in
theorem esc_34 (rb : Nat) (s : ByteArray) (i : Nat) (tb kt : Bool) (w : World) (h : Rdr rb s (i + 1) tb kt w) (hs : s.size ≤ 1048576) (hb : bt s (i + 1) = 34) :
    Calls Tryz.prog 231 #[.pointer (some ⟨rb, 0, none⟩)] w fun e w' => e = .returned (.int .i32 34) ∧ Rdr rb s (i + 2) tb kt w' ∧ KB rb w w' := by
  have HN := hide (next_in rb s (i + 1) tb kt w h hs (bt_in (by rw [hb]; decide)))
  rw [hb] at HN
  clear h hb
  go_enter Tryz.func231, Tryz.ntmps231
  go_wp2_with fail
  refine (unhide HN).mono ?_
  rintro e w1 ⟨rfl, r1, k1⟩
  have R1 := hide r1
  clear HN r1
  go_wp2
  go_ret
  exact ⟨rfl, unhide R1, k1⟩
set_option maxHeartbeats 1600000 in
theorem esc_92 (rb : Nat) (s : ByteArray) (i : Nat) (tb kt : Bool) (w : World) (h : Rdr rb s (i + 1) tb kt w) (hs : s.size ≤ 1048576) (hb : bt s (i + 1) = 92) :
    Calls Tryz.prog 231 #[.pointer (some ⟨rb, 0, none⟩)] w fun e w' => e = .returned (.int .i32 92) ∧ Rdr rb s (i + 2) tb kt w' ∧ KB rb w w' := by
  have HN := hide (next_in rb s (i + 1) tb kt w h hs (bt_in (by rw [hb]; decide)))
  rw [hb] at HN
  clear h hb
  go_enter Tryz.func231, Tryz.ntmps231
  go_wp2_with fail
  refine (unhide HN).mono ?_
  rintro e w1 ⟨rfl, r1, k1⟩
  have R1 := hide r1
  clear HN r1
  go_wp2
  go_ret
  exact ⟨rfl, unhide R1, k1⟩
set_option maxHeartbeats 1600000 in
theorem esc_47 (rb : Nat) (s : ByteArray) (i : Nat) (tb kt : Bool) (w : World) (h : Rdr rb s (i + 1) tb kt w) (hs : s.size ≤ 1048576) (hb : bt s (i + 1) = 47) :
    Calls Tryz.prog 231 #[.pointer (some ⟨rb, 0, none⟩)] w fun e w' => e = .returned (.int .i32 47) ∧ Rdr rb s (i + 2) tb kt w' ∧ KB rb w w' := by
  have HN := hide (next_in rb s (i + 1) tb kt w h hs (bt_in (by rw [hb]; decide)))
  rw [hb] at HN
  clear h hb
  go_enter Tryz.func231, Tryz.ntmps231
  go_wp2_with fail
  refine (unhide HN).mono ?_
  rintro e w1 ⟨rfl, r1, k1⟩
  have R1 := hide r1
  clear HN r1
  go_wp2
  go_ret
  exact ⟨rfl, unhide R1, k1⟩
set_option maxHeartbeats 1600000 in
theorem esc_98 (rb : Nat) (s : ByteArray) (i : Nat) (tb kt : Bool) (w : World) (h : Rdr rb s (i + 1) tb kt w) (hs : s.size ≤ 1048576) (hb : bt s (i + 1) = 98) :
    Calls Tryz.prog 231 #[.pointer (some ⟨rb, 0, none⟩)] w fun e w' => e = .returned (.int .i32 8) ∧ Rdr rb s (i + 2) tb kt w' ∧ KB rb w w' := by
  have HN := hide (next_in rb s (i + 1) tb kt w h hs (bt_in (by rw [hb]; decide)))
  rw [hb] at HN
  clear h hb
  go_enter Tryz.func231, Tryz.ntmps231
  go_wp2_with fail
  refine (unhide HN).mono ?_
  rintro e w1 ⟨rfl, r1, k1⟩
  have R1 := hide r1
  clear HN r1
  go_wp2
  go_ret
  exact ⟨rfl, unhide R1, k1⟩
set_option maxHeartbeats 1600000 in
theorem esc_102 (rb : Nat) (s : ByteArray) (i : Nat) (tb kt : Bool) (w : World) (h : Rdr rb s (i + 1) tb kt w) (hs : s.size ≤ 1048576) (hb : bt s (i + 1) = 102) :
    Calls Tryz.prog 231 #[.pointer (some ⟨rb, 0, none⟩)] w fun e w' => e = .returned (.int .i32 12) ∧ Rdr rb s (i + 2) tb kt w' ∧ KB rb w w' := by
  have HN := hide (next_in rb s (i + 1) tb kt w h hs (bt_in (by rw [hb]; decide)))
  rw [hb] at HN
  clear h hb
  go_enter Tryz.func231, Tryz.ntmps231
  go_wp2_with fail
  refine (unhide HN).mono ?_
  rintro e w1 ⟨rfl, r1, k1⟩
  have R1 := hide r1
  clear HN r1
  go_wp2
  go_ret
  exact ⟨rfl, unhide R1, k1⟩
set_option maxHeartbeats 1600000 in
theorem esc_110 (rb : Nat) (s : ByteArray) (i : Nat) (tb kt : Bool) (w : World) (h : Rdr rb s (i + 1) tb kt w) (hs : s.size ≤ 1048576) (hb : bt s (i + 1) = 110) :
    Calls Tryz.prog 231 #[.pointer (some ⟨rb, 0, none⟩)] w fun e w' => e = .returned (.int .i32 10) ∧ Rdr rb s (i + 2) tb kt w' ∧ KB rb w w' := by
  have HN := hide (next_in rb s (i + 1) tb kt w h hs (bt_in (by rw [hb]; decide)))
  rw [hb] at HN
  clear h hb
  go_enter Tryz.func231, Tryz.ntmps231
  go_wp2_with fail
  refine (unhide HN).mono ?_
  rintro e w1 ⟨rfl, r1, k1⟩
  have R1 := hide r1
  clear HN r1
  go_wp2
  go_ret
  exact ⟨rfl, unhide R1, k1⟩
set_option maxHeartbeats 1600000 in
theorem esc_114 (rb : Nat) (s : ByteArray) (i : Nat) (tb kt : Bool) (w : World) (h : Rdr rb s (i + 1) tb kt w) (hs : s.size ≤ 1048576) (hb : bt s (i + 1) = 114) :
    Calls Tryz.prog 231 #[.pointer (some ⟨rb, 0, none⟩)] w fun e w' => e = .returned (.int .i32 13) ∧ Rdr rb s (i + 2) tb kt w' ∧ KB rb w w' := by
  have HN := hide (next_in rb s (i + 1) tb kt w h hs (bt_in (by rw [hb]; decide)))
  rw [hb] at HN
  clear h hb
  go_enter Tryz.func231, Tryz.ntmps231
  go_wp2_with fail
  refine (unhide HN).mono ?_
  rintro e w1 ⟨rfl, r1, k1⟩
  have R1 := hide r1
  clear HN r1
  go_wp2
  go_ret
  exact ⟨rfl, unhide R1, k1⟩
set_option maxHeartbeats 1600000 in
theorem esc_116 (rb : Nat) (s : ByteArray) (i : Nat) (tb kt : Bool) (w : World) (h : Rdr rb s (i + 1) tb kt w) (hs : s.size ≤ 1048576) (hb : bt s (i + 1) = 116) :
    Calls Tryz.prog 231 #[.pointer (some ⟨rb, 0, none⟩)] w fun e w' => e = .returned (.int .i32 9) ∧ Rdr rb s (i + 2) tb kt w' ∧ KB rb w w' := by
  have HN := hide (next_in rb s (i + 1) tb kt w h hs (bt_in (by rw [hb]; decide)))
  rw [hb] at HN
  clear h hb
  go_enter Tryz.func231, Tryz.ntmps231
  go_wp2_with fail
  refine (unhide HN).mono ?_
  rintro e w1 ⟨rfl, r1, k1⟩
  have R1 := hide r1
  clear HN r1
  go_wp2
  go_ret
  exact ⟨rfl, unhide R1, k1⟩
set_option maxHeartbeats 1600000 in
theorem esc_u (rb : Nat) (s : ByteArray) (i : Nat) (tb kt : Bool) (w : World) (h : Rdr rb s (i + 1) tb kt w) (hs : s.size ≤ 1048576) (hi : i + 2 ≤ s.size) (h0 : bt s i = 92) (hb : bt s (i + 1) = 117) :
    Calls Tryz.prog 231 #[.pointer (some ⟨rb, 0, none⟩)] w (Post rb s tb kt w ((escP s i).map fun p => (.int .i32 (p.1 : Int), i + p.2))) := by
  have HN := hide (next_in rb s (i + 1) tb kt w h hs (bt_in (by rw [hb]; decide)))
  rw [escP_u h0 hb]
  rw [hb] at HN
  have HX : Hid (∀ w, Rdr rb s (i + 2) tb kt w → Calls Tryz.prog 248 #[.pointer (some ⟨rb, 0, none⟩)] w (Post rb s tb kt w (((hexN s (i + 2) 4).bind (escU s i)).map fun p => (.int .i32 (p.1 : Int), i + p.2)))) := fun w h => hexRune_walk rb s i tb kt w h hs hi
  clear h hb h0
  generalize (hexN s (i + 2) 4).bind (escU s i) = o at *
  cases o with
  | none =>
    go_enter Tryz.func231, Tryz.ntmps231
    go_wp2_with fail
    refine (unhide HN).mono ?_
    rintro e w1 ⟨rfl, r1, k1⟩
    have R1 := hide r1
    clear HN r1
    go_wp2_with fail
    refine (unhide HX _ (unhide R1)).mono ?_
    rintro e w2 ⟨k2, rfl⟩
    clear HX
    exact ⟨rfl, k1.trans k2, rfl⟩
  | some p =>
    go_enter Tryz.func231, Tryz.ntmps231
    go_wp2_with fail
    refine (unhide HN).mono ?_
    rintro e w1 ⟨rfl, r1, k1⟩
    have R1 := hide r1
    clear HN r1
    go_wp2_with fail
    refine (unhide HX _ (unhide R1)).mono ?_
    rintro e w2 ⟨k2, rfl, r2⟩
    have R2 := hide r2
    clear HX r2
    go_wp2
    go_ret
    exact ⟨k1.trans k2, rfl, unhide R2⟩
set_option maxHeartbeats 1600000 in
theorem esc_end (rb : Nat) (s : ByteArray) (i : Nat) (tb kt : Bool) (w : World) (h : Rdr rb s (i + 1) tb kt w) (hi : i + 1 = s.size) :
    Calls Tryz.prog 231 #[.pointer (some ⟨rb, 0, none⟩)] w fun e w' => e = mis ∧ KB rb w w' := by
  have HN := hide (next_out rb s (i + 1) tb kt w h hi)
  clear h hi
  go_enter Tryz.func231, Tryz.ntmps231
  go_wp2_with fail
  refine (unhide HN).mono ?_
  rintro e w1 ⟨rfl, k1⟩
  clear HN
  exact ⟨rfl, rfl, k1⟩
set_option maxHeartbeats 1600000 in
theorem esc_no (rb : Nat) (s : ByteArray) (i : Nat) (tb kt : Bool) (w : World) (h : Rdr rb s (i + 1) tb kt w) (hs : s.size ≤ 1048576) (hi : i + 1 < s.size) (b : Nat) (hb : bt s (i + 1) = b) (n34 : b ≠ 34) (n92 : b ≠ 92) (n47 : b ≠ 47) (n98 : b ≠ 98) (n102 : b ≠ 102) (n110 : b ≠ 110) (n114 : b ≠ 114) (n116 : b ≠ 116) (n117 : b ≠ 117) :
    Calls Tryz.prog 231 #[.pointer (some ⟨rb, 0, none⟩)] w fun e w' => e = mis ∧ KB rb w w' := by
  have HN := hide (next_in rb s (i + 1) tb kt w h hs hi)
  rw [hb] at HN
  have t34 : ((b : Int) == 34) = false := by rw [beq_eq_false_iff_ne]; omega
  have t92 : ((b : Int) == 92) = false := by rw [beq_eq_false_iff_ne]; omega
  have t47 : ((b : Int) == 47) = false := by rw [beq_eq_false_iff_ne]; omega
  have t98 : ((b : Int) == 98) = false := by rw [beq_eq_false_iff_ne]; omega
  have t102 : ((b : Int) == 102) = false := by rw [beq_eq_false_iff_ne]; omega
  have t110 : ((b : Int) == 110) = false := by rw [beq_eq_false_iff_ne]; omega
  have t114 : ((b : Int) == 114) = false := by rw [beq_eq_false_iff_ne]; omega
  have t116 : ((b : Int) == 116) = false := by rw [beq_eq_false_iff_ne]; omega
  have t117 : ((b : Int) == 117) = false := by rw [beq_eq_false_iff_ne]; omega
  clear h hb n34 n92 n47 n98 n102 n110 n114 n116 n117
  go_enter Tryz.func231, Tryz.ntmps231
  go_wp2_with fail
  refine (unhide HN).mono ?_
  rintro e w1 ⟨rfl, r1, k1⟩
  clear HN r1
  go_wp2
  exact ⟨rfl, rfl, k1⟩

theorem smp_none {b : Nat} (n34 : b ≠ 34) (n92 : b ≠ 92) (n47 : b ≠ 47) (n98 : b ≠ 98) (n102 : b ≠ 102) (n110 : b ≠ 110) (n114 : b ≠ 114) (n116 : b ≠ 116) : smp b = none := by
  unfold smp; rw [if_neg n34, if_neg n92, if_neg n47, if_neg n98, if_neg n102, if_neg n110, if_neg n114, if_neg n116]
theorem post_some {rb : Nat} {s : ByteArray} {tb kt : Bool} {w : World} {o : Option (Value × Nat)} {v : Value} {j : Nat} {e : Ending} {w' : World} (ho : o = some (v, j)) (h : e = .returned v ∧ Rdr rb s j tb kt w' ∧ KB rb w w') : Post rb s tb kt w o e w' := by
  subst ho; exact ⟨h.2.2, h.1, h.2.1⟩
theorem post_none {rb : Nat} {s : ByteArray} {tb kt : Bool} {w : World} {o : Option (Value × Nat)} {e : Ending} {w' : World} (ho : o = none) (h : e = mis ∧ KB rb w w') : Post rb s tb kt w o e w' := by
  subst ho; exact ⟨h.2, h.1⟩

theorem escape_walk (rb : Nat) (s : ByteArray) (i : Nat) (tb kt : Bool) (w : World) (h : Rdr rb s (i + 1) tb kt w) (hs : s.size ≤ 1048576) (hi : i + 1 ≤ s.size) (h0 : bt s i = 92) :
    Calls Tryz.prog 231 #[.pointer (some ⟨rb, 0, none⟩)] w (Post rb s tb kt w ((escP s i).map fun p => (.int .i32 (p.1 : Int), i + p.2))) := by
  by_cases hend : i + 1 = s.size
  · have hz : bt s (i + 1) = 0 := bt_out s (i + 1) (by omega)
    exact (esc_end rb s i tb kt w h hend).mono fun e w' hh => post_none (by rw [escP_n hz (by rfl) (by decide)]; rfl) hh
  by_cases n34 : bt s (i + 1) = 34
  · exact (esc_34 rb s i tb kt w h hs n34).mono fun e w' hh => post_some (by rw [escP_s n34 (by rfl)]; rfl) hh
  by_cases n92 : bt s (i + 1) = 92
  · exact (esc_92 rb s i tb kt w h hs n92).mono fun e w' hh => post_some (by rw [escP_s n92 (by rfl)]; rfl) hh
  by_cases n47 : bt s (i + 1) = 47
  · exact (esc_47 rb s i tb kt w h hs n47).mono fun e w' hh => post_some (by rw [escP_s n47 (by rfl)]; rfl) hh
  by_cases n98 : bt s (i + 1) = 98
  · exact (esc_98 rb s i tb kt w h hs n98).mono fun e w' hh => post_some (by rw [escP_s n98 (by rfl)]; rfl) hh
  by_cases n102 : bt s (i + 1) = 102
  · exact (esc_102 rb s i tb kt w h hs n102).mono fun e w' hh => post_some (by rw [escP_s n102 (by rfl)]; rfl) hh
  by_cases n110 : bt s (i + 1) = 110
  · exact (esc_110 rb s i tb kt w h hs n110).mono fun e w' hh => post_some (by rw [escP_s n110 (by rfl)]; rfl) hh
  by_cases n114 : bt s (i + 1) = 114
  · exact (esc_114 rb s i tb kt w h hs n114).mono fun e w' hh => post_some (by rw [escP_s n114 (by rfl)]; rfl) hh
  by_cases n116 : bt s (i + 1) = 116
  · exact (esc_116 rb s i tb kt w h hs n116).mono fun e w' hh => post_some (by rw [escP_s n116 (by rfl)]; rfl) hh
  by_cases n117 : bt s (i + 1) = 117
  · exact esc_u rb s i tb kt w h hs (by omega) h0 n117
  exact (esc_no rb s i tb kt w h hs (by omega) _ rfl n34 n92 n47 n98 n102 n110 n114 n116 n117).mono fun e w' hh => post_none (by rw [escP_n rfl (smp_none n34 n92 n47 n98 n102 n110 n114 n116) n117]; rfl) hh
end Go.Proofs.YtcjajchfjoffnaaGreatDoor

namespace Go.Proofs.YtcjajchfjoffnaaGreatDoor
open Go.RowKit

/-- A number, or -1. -/
def optI (o : Option Nat) : Int := o.elim (-1) fun n => (n : Int)

set_option maxHeartbeats 800000 in
theorem l1Hex_walk (b : Nat) (hb : b < 256) (w : World) :
    Calls Tryz.prog 204 #[.int .u8 b] w fun e w' => w = w' ∧ e = .returned (.int .i64 (optI (hx b))) := by
  by_cases h1 : 48 ≤ b ∧ b ≤ 57
  · have HH : Hid (hx b = some (b - 48)) := by show _ = _; unfold hx; rw [if_pos h1]
    have a1 : (48 : Int) ≤ (b : Int) := by omega
    have a2 : (b : Int) ≤ 57 := by omega
    clear h1
    go_enter Tryz.func204, Tryz.ntmps204
    go_wp2
    go_ret
    refine ⟨rfl, ?_⟩
    rw [unhide HH]
    exact ret_int (show _ = ((b - 48 : Nat) : Int) by go_num)
  · by_cases h2 : 97 ≤ b ∧ b ≤ 102
    · have HH : Hid (hx b = some (b - 87)) := by show _ = _; unfold hx; rw [if_neg h1, if_pos h2]
      have a1 : (97 : Int) ≤ (b : Int) := by omega
      have a2 : (b : Int) ≤ 102 := by omega
      clear h1 h2
      go_enter Tryz.func204, Tryz.ntmps204
      go_wp2
      go_ret
      refine ⟨rfl, ?_⟩
      rw [unhide HH]
      exact ret_int (show _ = ((b - 87 : Nat) : Int) by go_num)
    · by_cases h3 : 65 ≤ b ∧ b ≤ 70
      · have HH : Hid (hx b = some (b - 55)) := by show _ = _; unfold hx; rw [if_neg h1, if_neg h2, if_pos h3]
        have a1 : (65 : Int) ≤ (b : Int) := by omega
        have a2 : (b : Int) ≤ 70 := by omega
        clear h1 h2 h3
        go_enter Tryz.func204, Tryz.ntmps204
        go_wp2
        go_ret
        refine ⟨rfl, ?_⟩
        rw [unhide HH]
        exact ret_int (show _ = ((b - 55 : Nat) : Int) by go_num)
      · have HH : Hid (hx b = none) := by show _ = _; unfold hx; rw [if_neg h1, if_neg h2, if_neg h3]
        rcases (show b < 48 ∨ (57 < b ∧ b < 65) ∨ (70 < b ∧ b < 97) ∨ 102 < b from by omega) with g | g | g | g
        · have a0 : (b : Int) < 48 := by omega
          clear h1 h2 h3 g
          go_enter Tryz.func204, Tryz.ntmps204
          go_wp2
          go_ret
          exact ⟨rfl, by rw [unhide HH]; rfl⟩
        · have a0 : (57 : Int) < (b : Int) := by omega
          have a1 : (b : Int) < 65 := by omega
          clear h1 h2 h3 g
          go_enter Tryz.func204, Tryz.ntmps204
          go_wp2
          go_ret
          exact ⟨rfl, by rw [unhide HH]; rfl⟩
        · have a0 : (70 : Int) < (b : Int) := by omega
          have a1 : (b : Int) < 97 := by omega
          clear h1 h2 h3 g
          go_enter Tryz.func204, Tryz.ntmps204
          go_wp2
          go_ret
          exact ⟨rfl, by rw [unhide HH]; rfl⟩
        · have a0 : (102 : Int) < (b : Int) := by omega
          clear h1 h2 h3 g
          go_enter Tryz.func204, Tryz.ntmps204
          go_wp2
          go_ret
          exact ⟨rfl, by rw [unhide HH]; rfl⟩

def simRel (c : Nat) (k : Value) : Prop := ∃ j : Nat, j ≤ 8 ∧ k = .int .i64 j ∧ (0 < j → c ≠ 34) ∧ (1 < j → c ≠ 92) ∧ (2 < j → c ≠ 47) ∧ (3 < j → c ≠ 98) ∧ (4 < j → c ≠ 102) ∧ (5 < j → c ≠ 110) ∧ (6 < j → c ≠ 114) ∧ (7 < j → c ≠ 116)
abbrev simW (w : World) : World := w.alloc (.cells #[.int .u8 34, .int .u8 92, .int .u8 47, .int .u8 8, .int .u8 12, .int .u8 10, .int .u8 13, .int .u8 9] 5)

set_option maxHeartbeats 4000000 in
set_option maxRecDepth 100000 in
theorem l1Simple_walk (c : Nat) (hc : c < 256) (w : World) :
    Calls Tryz.prog 174 #[.int .u8 c] w fun e w' => e = .returned (.int .i64 (optI (smp c))) ∧ Below w.heap.size w w' := by
  go_enter Tryz.func174, Tryz.ntmps174
  go_wp2
  go_loopw [5] (fun k wr => simRel c k ∧ simW w = wr) (fun k _ => 8 - (intOf k).toNat)
  case atStart => exact ⟨⟨0, by omega, rfl, by omega, by omega, by omega, by omega, by omega, by omega, by omega, by omega⟩, rfl⟩
  case round =>
    obtain ⟨⟨j, hj, rfl, n0, n1, n2, n3, n4, n5, n6, n7⟩, rfl⟩ := hrel
    have HN : Hid ((0 < j → c ≠ 34) ∧ (1 < j → c ≠ 92) ∧ (2 < j → c ≠ 47) ∧ (3 < j → c ≠ 98) ∧ (4 < j → c ≠ 102) ∧ (5 < j → c ≠ 110) ∧ (6 < j → c ≠ 114) ∧ (7 < j → c ≠ 116)) := ⟨n0, n1, n2, n3, n4, n5, n6, n7⟩
    clear n0 n1 n2 n3 n4 n5 n6 n7
    rcases (show j = 0 ∨ j = 1 ∨ j = 2 ∨ j = 3 ∨ j = 4 ∨ j = 5 ∨ j = 6 ∨ j = 7 ∨ j = 8 from by omega) with rfl | rfl | rfl | rfl | rfl | rfl | rfl | rfl | rfl
    · have g : ((⟨#[34, 92, 47, 98, 102, 110, 114, 116]⟩ : ByteArray)[0]'(by decide)).toNat = 34 := rfl
      by_cases e : c = 34
      · subst e
        clear HN
        go_wp2
        go_ret
        exact ⟨rfl, (Below.refl _ _).alloc (Nat.le_refl _) _⟩
      · have t : ((34 : Int) == (c : Int)) = false := by rw [beq_eq_false_iff_ne]; omega
        have HE := hide e
        clear e
        go_wp2
        go_roundw
        case rel =>
          obtain ⟨n0, n1, n2, n3, n4, n5, n6, n7⟩ := unhide HN
          have e := unhide HE
          exact ⟨⟨1, by omega, by go_num, fun _ => e, by omega, by omega, by omega, by omega, by omega, by omega, by omega⟩, trivial⟩
        case measure => simp [intOf]
    · have g : ((⟨#[34, 92, 47, 98, 102, 110, 114, 116]⟩ : ByteArray)[1]'(by decide)).toNat = 92 := rfl
      by_cases e : c = 92
      · subst e
        clear HN
        go_wp2
        go_ret
        exact ⟨rfl, (Below.refl _ _).alloc (Nat.le_refl _) _⟩
      · have t : ((92 : Int) == (c : Int)) = false := by rw [beq_eq_false_iff_ne]; omega
        have HE := hide e
        clear e
        go_wp2
        go_roundw
        case rel =>
          obtain ⟨n0, n1, n2, n3, n4, n5, n6, n7⟩ := unhide HN
          have e := unhide HE
          exact ⟨⟨2, by omega, by go_num, fun _ => n0 (by omega), fun _ => e, by omega, by omega, by omega, by omega, by omega, by omega⟩, trivial⟩
        case measure => simp [intOf]
    · have g : ((⟨#[34, 92, 47, 98, 102, 110, 114, 116]⟩ : ByteArray)[2]'(by decide)).toNat = 47 := rfl
      by_cases e : c = 47
      · subst e
        clear HN
        go_wp2
        go_ret
        exact ⟨rfl, (Below.refl _ _).alloc (Nat.le_refl _) _⟩
      · have t : ((47 : Int) == (c : Int)) = false := by rw [beq_eq_false_iff_ne]; omega
        have HE := hide e
        clear e
        go_wp2
        go_roundw
        case rel =>
          obtain ⟨n0, n1, n2, n3, n4, n5, n6, n7⟩ := unhide HN
          have e := unhide HE
          exact ⟨⟨3, by omega, by go_num, fun _ => n0 (by omega), fun _ => n1 (by omega), fun _ => e, by omega, by omega, by omega, by omega, by omega⟩, trivial⟩
        case measure => simp [intOf]
    · have g : ((⟨#[34, 92, 47, 98, 102, 110, 114, 116]⟩ : ByteArray)[3]'(by decide)).toNat = 98 := rfl
      by_cases e : c = 98
      · subst e
        clear HN
        go_wp2
        go_ret
        exact ⟨rfl, (Below.refl _ _).alloc (Nat.le_refl _) _⟩
      · have t : ((98 : Int) == (c : Int)) = false := by rw [beq_eq_false_iff_ne]; omega
        have HE := hide e
        clear e
        go_wp2
        go_roundw
        case rel =>
          obtain ⟨n0, n1, n2, n3, n4, n5, n6, n7⟩ := unhide HN
          have e := unhide HE
          exact ⟨⟨4, by omega, by go_num, fun _ => n0 (by omega), fun _ => n1 (by omega), fun _ => n2 (by omega), fun _ => e, by omega, by omega, by omega, by omega⟩, trivial⟩
        case measure => simp [intOf]
    · have g : ((⟨#[34, 92, 47, 98, 102, 110, 114, 116]⟩ : ByteArray)[4]'(by decide)).toNat = 102 := rfl
      by_cases e : c = 102
      · subst e
        clear HN
        go_wp2
        go_ret
        exact ⟨rfl, (Below.refl _ _).alloc (Nat.le_refl _) _⟩
      · have t : ((102 : Int) == (c : Int)) = false := by rw [beq_eq_false_iff_ne]; omega
        have HE := hide e
        clear e
        go_wp2
        go_roundw
        case rel =>
          obtain ⟨n0, n1, n2, n3, n4, n5, n6, n7⟩ := unhide HN
          have e := unhide HE
          exact ⟨⟨5, by omega, by go_num, fun _ => n0 (by omega), fun _ => n1 (by omega), fun _ => n2 (by omega), fun _ => n3 (by omega), fun _ => e, by omega, by omega, by omega⟩, trivial⟩
        case measure => simp [intOf]
    · have g : ((⟨#[34, 92, 47, 98, 102, 110, 114, 116]⟩ : ByteArray)[5]'(by decide)).toNat = 110 := rfl
      by_cases e : c = 110
      · subst e
        clear HN
        go_wp2
        go_ret
        exact ⟨rfl, (Below.refl _ _).alloc (Nat.le_refl _) _⟩
      · have t : ((110 : Int) == (c : Int)) = false := by rw [beq_eq_false_iff_ne]; omega
        have HE := hide e
        clear e
        go_wp2
        go_roundw
        case rel =>
          obtain ⟨n0, n1, n2, n3, n4, n5, n6, n7⟩ := unhide HN
          have e := unhide HE
          exact ⟨⟨6, by omega, by go_num, fun _ => n0 (by omega), fun _ => n1 (by omega), fun _ => n2 (by omega), fun _ => n3 (by omega), fun _ => n4 (by omega), fun _ => e, by omega, by omega⟩, trivial⟩
        case measure => simp [intOf]
    · have g : ((⟨#[34, 92, 47, 98, 102, 110, 114, 116]⟩ : ByteArray)[6]'(by decide)).toNat = 114 := rfl
      by_cases e : c = 114
      · subst e
        clear HN
        go_wp2
        go_ret
        exact ⟨rfl, (Below.refl _ _).alloc (Nat.le_refl _) _⟩
      · have t : ((114 : Int) == (c : Int)) = false := by rw [beq_eq_false_iff_ne]; omega
        have HE := hide e
        clear e
        go_wp2
        go_roundw
        case rel =>
          obtain ⟨n0, n1, n2, n3, n4, n5, n6, n7⟩ := unhide HN
          have e := unhide HE
          exact ⟨⟨7, by omega, by go_num, fun _ => n0 (by omega), fun _ => n1 (by omega), fun _ => n2 (by omega), fun _ => n3 (by omega), fun _ => n4 (by omega), fun _ => n5 (by omega), fun _ => e, by omega⟩, trivial⟩
        case measure => simp [intOf]
    · have g : ((⟨#[34, 92, 47, 98, 102, 110, 114, 116]⟩ : ByteArray)[7]'(by decide)).toNat = 116 := rfl
      by_cases e : c = 116
      · subst e
        clear HN
        go_wp2
        go_ret
        exact ⟨rfl, (Below.refl _ _).alloc (Nat.le_refl _) _⟩
      · have t : ((116 : Int) == (c : Int)) = false := by rw [beq_eq_false_iff_ne]; omega
        have HE := hide e
        clear e
        go_wp2
        go_roundw
        case rel =>
          obtain ⟨n0, n1, n2, n3, n4, n5, n6, n7⟩ := unhide HN
          have e := unhide HE
          exact ⟨⟨8, by omega, by go_num, fun _ => n0 (by omega), fun _ => n1 (by omega), fun _ => n2 (by omega), fun _ => n3 (by omega), fun _ => n4 (by omega), fun _ => n5 (by omega), fun _ => n6 (by omega), fun _ => e⟩, trivial⟩
        case measure => simp [intOf]
    · have HS : Hid (smp c = none) := by
        obtain ⟨n0, n1, n2, n3, n4, n5, n6, n7⟩ := unhide HN
        show _ = _
        unfold smp
        rw [if_neg (n0 (by omega)), if_neg (n1 (by omega)), if_neg (n2 (by omega)), if_neg (n3 (by omega)), if_neg (n4 (by omega)), if_neg (n5 (by omega)), if_neg (n6 (by omega)), if_neg (n7 (by omega))]
      clear HN
      go_wp2
      go_ret
      exact ⟨by rw [unhide HS]; rfl, (Below.refl _ _).alloc (Nat.le_refl _) _⟩
end Go.Proofs.YtcjajchfjoffnaaGreatDoor

namespace Go.Proofs.YtcjajchfjoffnaaGreatDoor
open Go.RowKit

theorem unit_short {s : ByteArray} {i : Nat} (h : s.size < i + 6) : unit s i = none := by
  cases e : unit s i with
  | none => rfl
  | some u => have := unit_in e; omega

set_option maxHeartbeats 1600000 in
theorem l1Unit_walk (s : ByteArray) (i : Nat) (hs : s.size ≤ 1048576) (hi : i ≤ 2000000) (w : World) :
    Calls Tryz.prog 175 #[.string s, .int .i64 i] w fun e w' => w = w' ∧ e = .returned (.int .i64 (optI (unit s i))) := by
  by_cases hlen : i + 6 ≤ s.size
  · have hl' : ¬ (s.size : Int) < (i : Int) + 6 := by omega
    have e0 := bt_at s i (by omega)
    have e1 := bt_at s (i + 1) (by omega)
    by_cases h0 : bt s i = 92
    · have q0 : ((s[i]'(by omega)).toNat : Int) = 92 := by omega
      have t0 : (((s[i]'(by omega)).toNat : Int) != 92) = false := by rw [bne_eq_false_iff_eq]; omega
      by_cases h1 : bt s (i + 1) = 117
      · have t1 : (((s[i + 1]'(by omega)).toNat : Int) != 117) = false := by rw [bne_eq_false_iff_eq]; omega
        have HU : Hid (unit s i = hexN s (i + 2) 4) := by show _ = _; unfold unit; rw [if_pos ⟨h0, h1⟩]
        have dl : decide ((s.size : Int) < (i : Int) + 6) = false := by simp; omega
        clear h0 h1 e0 e1 q0
        go_enter Tryz.func175, Tryz.ntmps175
        go_wp2
        clear t0 t1 dl hl'
        go_loopw [5, 6] (fun v k wr => ∃ j u : Nat, j ≤ 4 ∧ k = .int .i64 ((j + 2 : Nat) : Int) ∧ u < 16 ^ j ∧ v = .int .i64 (u : Int) ∧ hexN s (i + 2) j = some u ∧ w = wr) (fun _ k _ => 6 - (intOf k).toNat)
        case atStart => exact ⟨0, 0, by omega, rfl, by decide, rfl, rfl, rfl⟩
        case round =>
          obtain ⟨j, u, hj, rfl, hu, rfl, hx, rfl⟩ := hrel
          have HV := hide hx
          clear hx
          by_cases h4 : j < 4
          · have hu65 : u < 65536 := by
              have : (16 : Nat) ^ j ≤ 16 ^ 3 := Nat.pow_le_pow_right (by decide) (by omega)
              omega
            have hin : i + (j + 2) < s.size := by omega
            have HC := hide (l1Hex_walk ((s[i + (j + 2)]'hin).toNat) (UInt8.toNat_lt _) w)
            have eb : bt s (i + 2 + j) = (s[i + (j + 2)]'hin).toNat := by rw [show i + 2 + j = i + (j + 2) from by omega]; exact bt_at s _ hin
            cases hx1 : hx ((s[i + (j + 2)]'hin).toNat) with
            | some d =>
              have hd := hx_lt hx1
              have HX := hide (hexN_next (unhide HV) (by rw [eb]; exact hx1))
              rw [hx1] at HC
              have hd0 : ¬ ((d : Int) < 0) := by omega
              clear hx1 eb
              go_wp2_with fail
              refine (unhide HC).mono ?_
              rintro e w1 ⟨rfl, rfl⟩
              clear HC
              simp only [optI, Option.elim]
              go_wp2
              go_roundw
              case rel => exact ⟨j + 1, u * 16 + d, by omega, by go_num, by rw [Nat.pow_succ]; omega, by go_num, unhide HX, trivial⟩
              case measure => simp [intOf]; omega
            | none =>
              have HX : Hid (hexN s (i + 2) 4 = none) := hexN_none (hexN_bad (by rw [eb]; exact hx1)) (by omega)
              rw [hx1] at HC
              clear hx1 eb
              go_wp2_with fail
              refine (unhide HC).mono ?_
              rintro e w1 ⟨rfl, rfl⟩
              clear HC
              simp only [optI, Option.elim]
              go_wp2
              go_ret
              exact ⟨rfl, by rw [unhide HU, unhide HX]; rfl⟩
          · have e4 : j = 4 := by omega
            subst e4
            go_wp2
            go_ret
            exact ⟨rfl, by rw [unhide HU, unhide HV]; rfl⟩
      · have t1 : (((s[i + 1]'(by omega)).toNat : Int) != 117) = true := by rw [bne_iff_ne]; omega
        have HU : Hid (unit s i = none) := by show _ = _; unfold unit; rw [if_neg (fun h => h1 h.2)]
        clear h0 h1 e0 e1 q0
        go_enter Tryz.func175, Tryz.ntmps175
        go_wp2
        go_ret
        exact ⟨rfl, by rw [unhide HU]; rfl⟩
    · have t0 : (((s[i]'(by omega)).toNat : Int) != 92) = true := by rw [bne_iff_ne]; omega
      have HU : Hid (unit s i = none) := by show _ = _; unfold unit; rw [if_neg (fun h => h0 h.1)]
      clear h0 e0 e1
      go_enter Tryz.func175, Tryz.ntmps175
      go_wp2
      go_ret
      exact ⟨rfl, by rw [unhide HU]; rfl⟩
  · have hl' : (s.size : Int) < (i : Int) + 6 := by omega
    have HU := hide (unit_short (s := s) (i := i) (by omega))
    go_enter Tryz.func175, Tryz.ntmps175
    go_wp2
    go_ret
    exact ⟨rfl, by rw [unhide HU]; rfl⟩
end Go.Proofs.YtcjajchfjoffnaaGreatDoor

namespace Go.Proofs.YtcjajchfjoffnaaGreatDoor
open Go.RowKit

theorem strOf_ext {b : ByteArray} {l : List UInt8} (h : b.data.toList = l) : b = strOf l := by
  subst h
  cases b with
  | mk d => simp [strOf]
theorem ext_str (s : ByteArray) (i n : Nat) (l : List UInt8) (h : (s.data.toList.drop i).take n = l) : s.extract i (i + n) = strOf l := by
  refine strOf_ext ?_
  rw [Lib.extract_data, show i + n - i = n from by omega, h]
theorem enc_low {r : Nat} (h : r < 128) : enc r = [UInt8.ofNat r] := by
  unfold enc; rw [← utf_enc (by omega) (by omega)]; unfold utf utfZ; rw [if_pos h]; rfl
theorem enc_utf {r : Nat} (h : r ≤ 1114111) (h' : r < 55296 ∨ 57344 ≤ r) : utf r = enc r := utf_enc h h'

abbrev PNone (w : World) (e : Ending) (w' : World) : Prop := (∃ t, e = .returned (.tuple #[.string t, .int .i64 0])) ∧ Below w.heap.size w w'
abbrev PSome (w : World) (t : ByteArray) (n : Nat) (e : Ending) (w' : World) : Prop := e = .returned (.tuple #[.string t, .int .i64 (n : Int)]) ∧ Below w.heap.size w w'

set_option maxHeartbeats 1600000 in
set_option maxRecDepth 100000 in
theorem pc_bad (s : ByteArray) (i : Nat) (w : World) (hs : s.size ≤ 1048576) (hi : i < s.size) (h : 128 ≤ s[i].toNat) (hr : rl s i = 0) :
    Calls Tryz.prog 149 #[.string s, .int .i64 i] w (PNone w) := by
  have HR := hide (rl_walk s i w hi hs)
  rw [hr] at HR
  have h' : (128 : Int) ≤ (s[i].toNat : Int) := by omega
  clear hr
  go_enter Tryz.func149, Tryz.ntmps149
  go_wp2_with fail
  refine (unhide HR).mono ?_
  rintro e w1 ⟨rfl, b1⟩
  clear HR
  go_wp2
  go_ret2
  exact ⟨⟨_, rfl⟩, b1⟩
set_option maxHeartbeats 1600000 in
set_option maxRecDepth 100000 in
theorem pc_multi (s : ByteArray) (i : Nat) (w : World) (hs : s.size ≤ 1048576) (hi : i < s.size) (h : 128 ≤ s[i].toNat) (hr : ¬ rl s i = 0) :
    Calls Tryz.prog 149 #[.string s, .int .i64 i] w (PSome w (strOf (enc (Utf8.decode s i).1)) (rl s i)) := by
  have HR := hide (rl_walk s i w hi hs)
  have hle := rl_le s i hi
  have HE : Hid (s.extract i (i + rl s i) = strOf (enc (Utf8.decode s i).1)) := ext_str s i (rl s i) _ (enc_multi s i hi hr (by omega)).1.symm
  have h' : (128 : Int) ≤ (s[i].toNat : Int) := by omega
  clear hr
  generalize strOf (enc (Utf8.decode s i).1) = t at *
  generalize rl s i = n at *
  go_enter Tryz.func149, Tryz.ntmps149
  go_wp2_with fail
  refine (unhide HR).mono ?_
  rintro e w1 ⟨rfl, b1⟩
  clear HR
  go_wp2
  go_ret2
  exact ⟨by rw [← unhide HE]; rfl, b1⟩
set_option maxHeartbeats 1600000 in
set_option maxRecDepth 100000 in
theorem pc_ctl (s : ByteArray) (i : Nat) (w : World) (hi : i < s.size) (h : s[i].toNat < 32) :
    Calls Tryz.prog 149 #[.string s, .int .i64 i] w (PNone w) := by
  have h1 : ¬ (128 : Int) ≤ (s[i].toNat : Int) := by omega
  have h2 : ((s[i].toNat : Int) != 92) = true := by rw [bne_iff_ne]; omega
  have h3 : (s[i].toNat : Int) < 32 := by omega
  go_enter Tryz.func149, Tryz.ntmps149
  go_wp2
  go_ret2
  exact ⟨⟨_, rfl⟩, Below.refl _ _⟩
set_option maxHeartbeats 1600000 in
set_option maxRecDepth 100000 in
theorem pc_asc (s : ByteArray) (i : Nat) (w : World) (hs : s.size ≤ 1048576) (hi : i < s.size) (h32 : 32 ≤ s[i].toNat) (h128 : s[i].toNat < 128) (h92 : s[i].toNat ≠ 92) (h34 : s[i].toNat ≠ 34) :
    Calls Tryz.prog 149 #[.string s, .int .i64 i] w (PSome w (strOf (enc s[i].toNat)) 1) := by
  have h1 : ¬ (128 : Int) ≤ (s[i].toNat : Int) := by omega
  have h2 : ((s[i].toNat : Int) != 92) = true := by rw [bne_iff_ne]; omega
  have h3 : ¬ (s[i].toNat : Int) < 32 := by omega
  have h4 : ((s[i].toNat : Int) == 34) = false := by rw [beq_eq_false_iff_ne]; omega
  have d3 : decide ((s[i].toNat : Int) < 32) = false := by simp; omega
  have HE : Hid (s.extract i (i + 1) = strOf (enc s[i].toNat)) := ext_str s i 1 _ (by rw [enc_low h128, byte_eq, drop_at s i hi]; rfl)
  clear h32 h128 h92 h34
  go_enter Tryz.func149, Tryz.ntmps149
  go_wp2
  go_ret2
  exact ⟨by rw [← unhide HE]; rfl, Below.refl _ _⟩
set_option maxHeartbeats 1600000 in
set_option maxRecDepth 100000 in
theorem pc_simple (s : ByteArray) (i : Nat) (w : World) (hs : s.size ≤ 1048576) (hi : i + 1 < s.size) (h : s[i].toNat = 92) (v : Nat) (hv : smp s[i + 1].toNat = some v) :
    Calls Tryz.prog 149 #[.string s, .int .i64 i] w (PSome w (strOf (enc v)) 2) := by
  have h1 : ¬ (128 : Int) ≤ (s[i].toNat : Int) := by omega
  have h2 : ((s[i].toNat : Int) != 92) = false := by rw [bne_eq_false_iff_eq]; omega
  have HS : Hid (∀ w, Calls Tryz.prog 174 #[.int .u8 (s[i + 1].toNat : Int)] w fun e w' => e = .returned (.int .i64 (v : Int)) ∧ Below w.heap.size w w') := fun w => by
    have c := l1Simple_walk s[i + 1].toNat (UInt8.toNat_lt _) w
    rw [hv] at c; exact c
  have hv128 := smp_lt hv
  have hu : utf v = enc v := enc_utf (by omega) (by omega)
  have HCV : Hid (∀ w : World, (convert 137 9 (.slice (some ⟨w.heap.size, 0, none⟩) 1 1)).run Tryz.prog (w.alloc (.cells #[.int .u8 (v : Int)] 5)) = .ok (.string (strOf (enc v))) (w.alloc (.cells #[.int .u8 (v : Int)] 5))) := fun w => by
    rw [← hu]
    exact convert_bytes w (utf v) #[.int .u8 (v : Int)] 1 (by simp [utf, utfZ, hv128]) (by simp [utf, utfZ, hv128, Lib.byteCells]; omega)
  have hv0 : (0 : Int) ≤ (v : Int) := by omega
  have i1 : (i : Int) + 1 < (s.size : Int) := by omega
  clear hu hv
  generalize strOf (enc v) = t at *
  go_enter Tryz.func149, Tryz.ntmps149
  go_wp2_with fail
  refine (unhide HS _).mono ?_
  rintro e w1 ⟨rfl, b1⟩
  go_wp2_with fail
  refine (unhide HS _).mono ?_
  rintro e w2 ⟨rfl, b2⟩
  have B2 := below_next b1 b2
  have hcv := unhide HCV w2
  clear HS HCV b1 b2
  go_wp2
  go_ret2
  exact ⟨rfl, B2.alloc B2.size _⟩
set_option maxHeartbeats 1600000 in
set_option maxRecDepth 100000 in
theorem pc_end (s : ByteArray) (i : Nat) (w : World) (hs : s.size ≤ 1048576) (hi : i < s.size) (hi' : ¬ i + 1 < s.size) (h : s[i].toNat = 92) :
    Calls Tryz.prog 149 #[.string s, .int .i64 i] w (PNone w) := by
  have h1 : ¬ (128 : Int) ≤ (s[i].toNat : Int) := by omega
  have h2 : ((s[i].toNat : Int) != 92) = false := by rw [bne_eq_false_iff_eq]; omega
  have HU : Hid (∀ w, Calls Tryz.prog 175 #[.string s, .int .i64 ((i : Int))] w fun e w' => w = w' ∧ e = .returned (.int .i64 (-1))) := fun w => by
    have c := l1Unit_walk s i hs (by omega) w
    rw [unit_short (by omega)] at c; exact c
  have i1 : ¬ (i : Int) + 1 < (s.size : Int) := by omega
  have di : decide ((i : Int) + 1 < (s.size : Int)) = false := by simp; omega
  go_enter Tryz.func149, Tryz.ntmps149
  go_wp2_with fail
  refine (unhide HU _).mono ?_
  rintro e w2 ⟨rfl, rfl⟩
  clear HU
  go_wp2
  go_ret2
  exact ⟨⟨_, rfl⟩, Below.refl _ _⟩
set_option maxHeartbeats 1600000 in
set_option maxRecDepth 100000 in
theorem pc_nounit (s : ByteArray) (i : Nat) (w : World) (hs : s.size ≤ 1048576) (hi : i + 1 < s.size) (h : s[i].toNat = 92) (hv : smp s[i + 1].toNat = none) (hu : unit s i = none) :
    Calls Tryz.prog 149 #[.string s, .int .i64 i] w (PNone w) := by
  have h1 : ¬ (128 : Int) ≤ (s[i].toNat : Int) := by omega
  have h2 : ((s[i].toNat : Int) != 92) = false := by rw [bne_eq_false_iff_eq]; omega
  have HS : Hid (∀ w, Calls Tryz.prog 174 #[.int .u8 (s[i + 1].toNat : Int)] w fun e w' => e = .returned (.int .i64 (-1)) ∧ Below w.heap.size w w') := fun w => by
    have c := l1Simple_walk s[i + 1].toNat (UInt8.toNat_lt _) w
    rw [hv] at c; exact c
  have i1 : (i : Int) + 1 < (s.size : Int) := by omega
  have HU : Hid (∀ w, Calls Tryz.prog 175 #[.string s, .int .i64 ((i : Int))] w fun e w' => w = w' ∧ e = .returned (.int .i64 (-1))) := fun w => by
    have c := l1Unit_walk s i hs (by omega) w
    rw [hu] at c; exact c
  clear hv hu
  go_enter Tryz.func149, Tryz.ntmps149
  go_wp2_with fail
  refine (unhide HS _).mono ?_
  rintro e w1 ⟨rfl, b1⟩
  go_wp2_with fail
  refine (unhide HU _).mono ?_
  rintro e w2 ⟨rfl, rfl⟩
  clear HS HU
  go_wp2
  go_ret2
  exact ⟨⟨_, rfl⟩, b1⟩
set_option maxHeartbeats 1600000 in
set_option maxRecDepth 100000 in
theorem pc_low (s : ByteArray) (i : Nat) (w : World) (hs : s.size ≤ 1048576) (hi : i + 1 < s.size) (h : s[i].toNat = 92) (hv : smp s[i + 1].toNat = none) (u : Nat) (hu : unit s i = some u)  (hlow : u < 55296) :
    Calls Tryz.prog 149 #[.string s, .int .i64 i] w (PSome w (strOf (enc u)) 6) := by
  have h1 : ¬ (128 : Int) ≤ (s[i].toNat : Int) := by omega
  have h2 : ((s[i].toNat : Int) != 92) = false := by rw [bne_eq_false_iff_eq]; omega
  have HS : Hid (∀ w, Calls Tryz.prog 174 #[.int .u8 (s[i + 1].toNat : Int)] w fun e w' => e = .returned (.int .i64 (-1)) ∧ Below w.heap.size w w') := fun w => by
    have c := l1Simple_walk s[i + 1].toNat (UInt8.toNat_lt _) w
    rw [hv] at c; exact c
  have i1 : (i : Int) + 1 < (s.size : Int) := by omega
  have HU : Hid (∀ w, Calls Tryz.prog 175 #[.string s, .int .i64 ((i : Int))] w fun e w' => w = w' ∧ e = .returned (.int .i64 ((u : Int)))) := fun w => by
    have c := l1Unit_walk s i hs (by omega) w
    rw [hu] at c; exact c
  have HV : Hid (∀ w, Calls Tryz.prog 176 #[.int .i64 (u : Int)] w fun e w' => e = .returned (.string (strOf (enc u))) ∧ Below w.heap.size w w') := fun w => by
    have c := utf8_walk u w (by omega)
    rw [enc_utf (by omega) (by omega)] at c; exact c
  have u0 : ((u : Int) < 0) = False := eq_false (by omega)
  have u1 : ((56320 : Int) ≤ (u : Int)) = False := eq_false (by omega)
  have u2 : ((u : Int) < 55296) = True := eq_true (by omega)
  clear hv hu
  generalize strOf (enc u) = t at *
  go_enter Tryz.func149, Tryz.ntmps149
  go_wp2_with fail
  refine (unhide HS _).mono ?_
  rintro e w1 ⟨rfl, b1⟩
  go_wp2_with fail
  refine (unhide HU _).mono ?_
  rintro e w2 ⟨rfl, rfl⟩
  clear HS HU
  go_wp2_with fail
  refine (unhide HV _).mono ?_
  rintro e w3 ⟨rfl, b3⟩
  have B3 := below_next b1 b3
  clear HV
  go_wp2
  go_ret2
  exact ⟨rfl, B3⟩
set_option maxHeartbeats 1600000 in
set_option maxRecDepth 100000 in
theorem pc_high (s : ByteArray) (i : Nat) (w : World) (hs : s.size ≤ 1048576) (hi : i + 1 < s.size) (h : s[i].toNat = 92) (hv : smp s[i + 1].toNat = none) (u : Nat) (hu : unit s i = some u)  (hhi : 57344 ≤ u) (hu65 : u ≤ 65535) :
    Calls Tryz.prog 149 #[.string s, .int .i64 i] w (PSome w (strOf (enc u)) 6) := by
  have h1 : ¬ (128 : Int) ≤ (s[i].toNat : Int) := by omega
  have h2 : ((s[i].toNat : Int) != 92) = false := by rw [bne_eq_false_iff_eq]; omega
  have HS : Hid (∀ w, Calls Tryz.prog 174 #[.int .u8 (s[i + 1].toNat : Int)] w fun e w' => e = .returned (.int .i64 (-1)) ∧ Below w.heap.size w w') := fun w => by
    have c := l1Simple_walk s[i + 1].toNat (UInt8.toNat_lt _) w
    rw [hv] at c; exact c
  have i1 : (i : Int) + 1 < (s.size : Int) := by omega
  have HU : Hid (∀ w, Calls Tryz.prog 175 #[.string s, .int .i64 ((i : Int))] w fun e w' => w = w' ∧ e = .returned (.int .i64 ((u : Int)))) := fun w => by
    have c := l1Unit_walk s i hs (by omega) w
    rw [hu] at c; exact c
  have HV : Hid (∀ w, Calls Tryz.prog 176 #[.int .i64 (u : Int)] w fun e w' => e = .returned (.string (strOf (enc u))) ∧ Below w.heap.size w w') := fun w => by
    have c := utf8_walk u w (by omega)
    rw [enc_utf (by omega) (by omega)] at c; exact c
  have u0 : ((u : Int) < 0) = False := eq_false (by omega)
  have u1 : ((56320 : Int) ≤ (u : Int)) = True := eq_true (by omega)
  have u2 : ((u : Int) < 57344) = False := eq_false (by omega)
  have u3 : ((u : Int) < 55296) = False := eq_false (by omega)
  have u4 : ((57344 : Int) ≤ (u : Int)) = True := eq_true (by omega)
  clear hv hu
  generalize strOf (enc u) = t at *
  go_enter Tryz.func149, Tryz.ntmps149
  go_wp2_with fail
  refine (unhide HS _).mono ?_
  rintro e w1 ⟨rfl, b1⟩
  go_wp2_with fail
  refine (unhide HU _).mono ?_
  rintro e w2 ⟨rfl, rfl⟩
  clear HS HU
  go_wp2_with fail
  refine (unhide HV _).mono ?_
  rintro e w3 ⟨rfl, b3⟩
  have B3 := below_next b1 b3
  clear HV
  go_wp2
  go_ret2
  exact ⟨rfl, B3⟩
set_option maxHeartbeats 1600000 in
set_option maxRecDepth 100000 in
theorem pc_sur2 (s : ByteArray) (i : Nat) (w : World) (hs : s.size ≤ 1048576) (hi : i + 1 < s.size) (h : s[i].toNat = 92) (hv : smp s[i + 1].toNat = none) (u : Nat) (hu : unit s i = some u)  (hlo : 56320 ≤ u) (hhi : u ≤ 57343) :
    Calls Tryz.prog 149 #[.string s, .int .i64 i] w (PNone w) := by
  have h1 : ¬ (128 : Int) ≤ (s[i].toNat : Int) := by omega
  have h2 : ((s[i].toNat : Int) != 92) = false := by rw [bne_eq_false_iff_eq]; omega
  have HS : Hid (∀ w, Calls Tryz.prog 174 #[.int .u8 (s[i + 1].toNat : Int)] w fun e w' => e = .returned (.int .i64 (-1)) ∧ Below w.heap.size w w') := fun w => by
    have c := l1Simple_walk s[i + 1].toNat (UInt8.toNat_lt _) w
    rw [hv] at c; exact c
  have i1 : (i : Int) + 1 < (s.size : Int) := by omega
  have HU : Hid (∀ w, Calls Tryz.prog 175 #[.string s, .int .i64 ((i : Int))] w fun e w' => w = w' ∧ e = .returned (.int .i64 ((u : Int)))) := fun w => by
    have c := l1Unit_walk s i hs (by omega) w
    rw [hu] at c; exact c
  have u0 : ((u : Int) < 0) = False := eq_false (by omega)
  have u1 : ((56320 : Int) ≤ (u : Int)) = True := eq_true (by omega)
  have u2 : ((u : Int) < 57344) = True := eq_true (by omega)
  clear hv hu
  go_enter Tryz.func149, Tryz.ntmps149
  go_wp2_with fail
  refine (unhide HS _).mono ?_
  rintro e w1 ⟨rfl, b1⟩
  go_wp2_with fail
  refine (unhide HU _).mono ?_
  rintro e w2 ⟨rfl, rfl⟩
  clear HS HU
  go_wp2
  go_ret2
  exact ⟨⟨_, rfl⟩, b1⟩
set_option maxHeartbeats 1600000 in
set_option maxRecDepth 100000 in
theorem pc_no2 (s : ByteArray) (i : Nat) (w : World) (hs : s.size ≤ 1048576) (hi : i + 1 < s.size) (h : s[i].toNat = 92) (hv : smp s[i + 1].toNat = none) (u : Nat) (hu : unit s i = some u)  (hlo : 55296 ≤ u) (hhi : u ≤ 56319) (hu2 : unit s (i + 6) = none) :
    Calls Tryz.prog 149 #[.string s, .int .i64 i] w (PNone w) := by
  have h1 : ¬ (128 : Int) ≤ (s[i].toNat : Int) := by omega
  have h2 : ((s[i].toNat : Int) != 92) = false := by rw [bne_eq_false_iff_eq]; omega
  have HS : Hid (∀ w, Calls Tryz.prog 174 #[.int .u8 (s[i + 1].toNat : Int)] w fun e w' => e = .returned (.int .i64 (-1)) ∧ Below w.heap.size w w') := fun w => by
    have c := l1Simple_walk s[i + 1].toNat (UInt8.toNat_lt _) w
    rw [hv] at c; exact c
  have i1 : (i : Int) + 1 < (s.size : Int) := by omega
  have HU : Hid (∀ w, Calls Tryz.prog 175 #[.string s, .int .i64 ((i : Int))] w fun e w' => w = w' ∧ e = .returned (.int .i64 ((u : Int)))) := fun w => by
    have c := l1Unit_walk s i hs (by omega) w
    rw [hu] at c; exact c
  have HU2 : Hid (∀ w, Calls Tryz.prog 175 #[.string s, .int .i64 ((i : Int) + 6)] w fun e w' => w = w' ∧ e = .returned (.int .i64 (-1))) := fun w => by
    have c := l1Unit_walk s (i + 6) hs (by omega) w
    rw [hu2] at c; exact c
  have u0 : ((u : Int) < 0) = False := eq_false (by omega)
  have u1 : ((56320 : Int) ≤ (u : Int)) = False := eq_false (by omega)
  have u2 : ((u : Int) < 55296) = False := eq_false (by omega)
  have u3 : ((57344 : Int) ≤ (u : Int)) = False := eq_false (by omega)
  clear hv hu hu2
  go_enter Tryz.func149, Tryz.ntmps149
  go_wp2_with fail
  refine (unhide HS _).mono ?_
  rintro e w1 ⟨rfl, b1⟩
  go_wp2_with fail
  refine (unhide HU _).mono ?_
  rintro e w2 ⟨rfl, rfl⟩
  go_wp2_with fail
  refine (unhide HU2 _).mono ?_
  rintro e w3 ⟨rfl, rfl⟩
  clear HS HU HU2
  go_wp2
  go_ret2
  exact ⟨⟨_, rfl⟩, b1⟩
set_option maxHeartbeats 1600000 in
set_option maxRecDepth 100000 in
theorem pc_lo2 (s : ByteArray) (i : Nat) (w : World) (hs : s.size ≤ 1048576) (hi : i + 1 < s.size) (h : s[i].toNat = 92) (hv : smp s[i + 1].toNat = none) (u : Nat) (hu : unit s i = some u)  (hlo : 55296 ≤ u) (hhi : u ≤ 56319) (v : Nat) (hu2 : unit s (i + 6) = some v) (hv2 : v ≤ 56319) :
    Calls Tryz.prog 149 #[.string s, .int .i64 i] w (PNone w) := by
  have h1 : ¬ (128 : Int) ≤ (s[i].toNat : Int) := by omega
  have h2 : ((s[i].toNat : Int) != 92) = false := by rw [bne_eq_false_iff_eq]; omega
  have HS : Hid (∀ w, Calls Tryz.prog 174 #[.int .u8 (s[i + 1].toNat : Int)] w fun e w' => e = .returned (.int .i64 (-1)) ∧ Below w.heap.size w w') := fun w => by
    have c := l1Simple_walk s[i + 1].toNat (UInt8.toNat_lt _) w
    rw [hv] at c; exact c
  have i1 : (i : Int) + 1 < (s.size : Int) := by omega
  have HU : Hid (∀ w, Calls Tryz.prog 175 #[.string s, .int .i64 ((i : Int))] w fun e w' => w = w' ∧ e = .returned (.int .i64 ((u : Int)))) := fun w => by
    have c := l1Unit_walk s i hs (by omega) w
    rw [hu] at c; exact c
  have HU2 : Hid (∀ w, Calls Tryz.prog 175 #[.string s, .int .i64 ((i : Int) + 6)] w fun e w' => w = w' ∧ e = .returned (.int .i64 ((v : Int)))) := fun w => by
    have c := l1Unit_walk s (i + 6) hs (by omega) w
    rw [hu2] at c; exact c
  have u0 : ((u : Int) < 0) = False := eq_false (by omega)
  have u1 : ((56320 : Int) ≤ (u : Int)) = False := eq_false (by omega)
  have u2 : ((u : Int) < 55296) = False := eq_false (by omega)
  have u3 : ((57344 : Int) ≤ (u : Int)) = False := eq_false (by omega)
  have v1 : ((v : Int) < 56320) = True := eq_true (by omega)
  clear hv hu hu2
  go_enter Tryz.func149, Tryz.ntmps149
  go_wp2_with fail
  refine (unhide HS _).mono ?_
  rintro e w1 ⟨rfl, b1⟩
  go_wp2_with fail
  refine (unhide HU _).mono ?_
  rintro e w2 ⟨rfl, rfl⟩
  go_wp2_with fail
  refine (unhide HU2 _).mono ?_
  rintro e w3 ⟨rfl, rfl⟩
  clear HS HU HU2
  go_wp2
  go_ret2
  exact ⟨⟨_, rfl⟩, b1⟩
set_option maxHeartbeats 1600000 in
set_option maxRecDepth 100000 in
theorem pc_hi2 (s : ByteArray) (i : Nat) (w : World) (hs : s.size ≤ 1048576) (hi : i + 1 < s.size) (h : s[i].toNat = 92) (hv : smp s[i + 1].toNat = none) (u : Nat) (hu : unit s i = some u)  (hlo : 55296 ≤ u) (hhi : u ≤ 56319) (v : Nat) (hu2 : unit s (i + 6) = some v) (hv2 : 57344 ≤ v) :
    Calls Tryz.prog 149 #[.string s, .int .i64 i] w (PNone w) := by
  have h1 : ¬ (128 : Int) ≤ (s[i].toNat : Int) := by omega
  have h2 : ((s[i].toNat : Int) != 92) = false := by rw [bne_eq_false_iff_eq]; omega
  have HS : Hid (∀ w, Calls Tryz.prog 174 #[.int .u8 (s[i + 1].toNat : Int)] w fun e w' => e = .returned (.int .i64 (-1)) ∧ Below w.heap.size w w') := fun w => by
    have c := l1Simple_walk s[i + 1].toNat (UInt8.toNat_lt _) w
    rw [hv] at c; exact c
  have i1 : (i : Int) + 1 < (s.size : Int) := by omega
  have HU : Hid (∀ w, Calls Tryz.prog 175 #[.string s, .int .i64 ((i : Int))] w fun e w' => w = w' ∧ e = .returned (.int .i64 ((u : Int)))) := fun w => by
    have c := l1Unit_walk s i hs (by omega) w
    rw [hu] at c; exact c
  have HU2 : Hid (∀ w, Calls Tryz.prog 175 #[.string s, .int .i64 ((i : Int) + 6)] w fun e w' => w = w' ∧ e = .returned (.int .i64 ((v : Int)))) := fun w => by
    have c := l1Unit_walk s (i + 6) hs (by omega) w
    rw [hu2] at c; exact c
  have u0 : ((u : Int) < 0) = False := eq_false (by omega)
  have u1 : ((56320 : Int) ≤ (u : Int)) = False := eq_false (by omega)
  have u2 : ((u : Int) < 55296) = False := eq_false (by omega)
  have u3 : ((57344 : Int) ≤ (u : Int)) = False := eq_false (by omega)
  have v1 : ((v : Int) < 56320) = False := eq_false (by omega)
  have v2 : ((57344 : Int) ≤ (v : Int)) = True := eq_true (by omega)
  clear hv hu hu2
  go_enter Tryz.func149, Tryz.ntmps149
  go_wp2_with fail
  refine (unhide HS _).mono ?_
  rintro e w1 ⟨rfl, b1⟩
  go_wp2_with fail
  refine (unhide HU _).mono ?_
  rintro e w2 ⟨rfl, rfl⟩
  go_wp2_with fail
  refine (unhide HU2 _).mono ?_
  rintro e w3 ⟨rfl, rfl⟩
  clear HS HU HU2
  go_wp2
  go_ret2
  exact ⟨⟨_, rfl⟩, b1⟩
set_option maxHeartbeats 1600000 in
set_option maxRecDepth 100000 in
theorem pc_pair (s : ByteArray) (i : Nat) (w : World) (hs : s.size ≤ 1048576) (hi : i + 1 < s.size) (h : s[i].toNat = 92) (hv : smp s[i + 1].toNat = none) (u : Nat) (hu : unit s i = some u)  (hlo : 55296 ≤ u) (hhi : u ≤ 56319) (v : Nat) (hu2 : unit s (i + 6) = some v) (hlo2 : 56320 ≤ v) (hhi2 : v ≤ 57343) :
    Calls Tryz.prog 149 #[.string s, .int .i64 i] w (PSome w (strOf (enc (65536 + (u - 55296) * 1024 + (v - 56320)))) 12) := by
  have h1 : ¬ (128 : Int) ≤ (s[i].toNat : Int) := by omega
  have h2 : ((s[i].toNat : Int) != 92) = false := by rw [bne_eq_false_iff_eq]; omega
  have HS : Hid (∀ w, Calls Tryz.prog 174 #[.int .u8 (s[i + 1].toNat : Int)] w fun e w' => e = .returned (.int .i64 (-1)) ∧ Below w.heap.size w w') := fun w => by
    have c := l1Simple_walk s[i + 1].toNat (UInt8.toNat_lt _) w
    rw [hv] at c; exact c
  have i1 : (i : Int) + 1 < (s.size : Int) := by omega
  have HU : Hid (∀ w, Calls Tryz.prog 175 #[.string s, .int .i64 ((i : Int))] w fun e w' => w = w' ∧ e = .returned (.int .i64 ((u : Int)))) := fun w => by
    have c := l1Unit_walk s i hs (by omega) w
    rw [hu] at c; exact c
  have HU2 : Hid (∀ w, Calls Tryz.prog 175 #[.string s, .int .i64 ((i : Int) + 6)] w fun e w' => w = w' ∧ e = .returned (.int .i64 ((v : Int)))) := fun w => by
    have c := l1Unit_walk s (i + 6) hs (by omega) w
    rw [hu2] at c; exact c
  have u0 : ((u : Int) < 0) = False := eq_false (by omega)
  have u1 : ((56320 : Int) ≤ (u : Int)) = False := eq_false (by omega)
  have u2 : ((u : Int) < 55296) = False := eq_false (by omega)
  have u3 : ((57344 : Int) ≤ (u : Int)) = False := eq_false (by omega)
  have v1 : ((v : Int) < 56320) = False := eq_false (by omega)
  have v2 : ((57344 : Int) ≤ (v : Int)) = False := eq_false (by omega)
  have HV : Hid (∀ w, Calls Tryz.prog 176 #[.int .i64 (65536 + ((u : Int) - 55296) * 1024 + (v : Int) - 56320)] w fun e w' => e = .returned (.string (strOf (enc (65536 + (u - 55296) * 1024 + (v - 56320))))) ∧ Below w.heap.size w w') := fun w => by
    have c := utf8_at (65536 + ((u : Int) - 55296) * 1024 + (v : Int) - 56320) (65536 + (u - 55296) * 1024 + (v - 56320)) (by omega) w (by omega)
    rw [enc_utf (by omega) (by omega)] at c; exact c
  clear hv hu hu2
  generalize strOf (enc (65536 + (u - 55296) * 1024 + (v - 56320))) = t at *
  go_enter Tryz.func149, Tryz.ntmps149
  go_wp2_with fail
  refine (unhide HS _).mono ?_
  rintro e w1 ⟨rfl, b1⟩
  go_wp2_with fail
  refine (unhide HU _).mono ?_
  rintro e w2 ⟨rfl, rfl⟩
  go_wp2_with fail
  refine (unhide HU2 _).mono ?_
  rintro e w3 ⟨rfl, rfl⟩
  clear HS HU HU2
  go_wp2_with fail
  refine (unhide HV _).mono ?_
  rintro e w4 ⟨rfl, b4⟩
  have B4 := below_next b1 b4
  clear HV
  go_wp2
  go_ret2
  exact ⟨rfl, B4⟩

/-- A piece, as the model reads it. -/
def PPost (w : World) (o : Option (Nat × Nat)) (e : Ending) (w' : World) : Prop := o.elim (PNone w e w') fun p => PSome w (strOf (enc p.1)) p.2 e w'
theorem l1Piece_walk (s : ByteArray) (i : Nat) (w : World) (hs : s.size ≤ 1048576) (hi : i < s.size) (hq : bt s i ≠ 34) :
    Calls Tryz.prog 149 #[.string s, .int .i64 i] w (PPost w (piece s i)) := by
  have e0 := bt_at s i hi
  by_cases h92 : bt s i = 92
  · have hp : piece s i = escP s i := by unfold piece; rw [if_pos h92]
    rw [hp]
    by_cases hi1 : i + 1 < s.size
    · have e1 := bt_at s (i + 1) hi1
      cases hv : smp (bt s (i + 1)) with
      | some v =>
        rw [escP_s rfl hv]
        exact pc_simple s i w hs hi1 (by omega) v (by rw [← e1]; exact hv)
      | none =>
        have hv' : smp s[i + 1].toNat = none := by rw [← e1]; exact hv
        have he : escP s i = (unit s i).bind (escU s i) := by unfold escP; rw [hv]
        rw [he]
        cases hu : unit s i with
        | none => exact pc_nounit s i w hs hi1 (by omega) hv' hu
        | some u =>
          have hu65 := unit_lt hu
          simp only [Option.bind_some]
          unfold escU
          by_cases h1 : u < 55296 ∨ 57344 ≤ u
          · rw [if_pos h1]
            rcases h1 with h1 | h1
            · exact pc_low s i w hs hi1 (by omega) hv' u hu h1
            · exact pc_high s i w hs hi1 (by omega) hv' u hu h1 (by omega)
          · rw [if_neg h1]
            by_cases h2 : 56320 ≤ u
            · rw [if_pos h2]
              exact pc_sur2 s i w hs hi1 (by omega) hv' u hu h2 (by omega)
            · rw [if_neg h2]
              cases hu2 : unit s (i + 6) with
              | none => exact pc_no2 s i w hs hi1 (by omega) hv' u hu (by omega) (by omega) hu2
              | some v =>
                simp only [Option.bind_some]
                by_cases h3 : 56320 ≤ v ∧ v < 57344
                · rw [if_pos h3]
                  exact pc_pair s i w hs hi1 (by omega) hv' u hu (by omega) (by omega) v hu2 h3.1 (by omega)
                · rw [if_neg h3]
                  by_cases h4 : v < 56320
                  · exact pc_lo2 s i w hs hi1 (by omega) hv' u hu (by omega) (by omega) v hu2 (by omega)
                  · exact pc_hi2 s i w hs hi1 (by omega) hv' u hu (by omega) (by omega) v hu2 (by omega)
    · have he : escP s i = none := escP_n (b := 0) (bt_out s (i + 1) (by omega)) (by rfl) (by decide)
      rw [he]
      exact pc_end s i w hs hi hi1 (by omega)
  · unfold piece
    rw [if_neg h92]
    by_cases h32 : bt s i < 32
    · rw [if_pos h32]; exact pc_ctl s i w hi (by omega)
    · rw [if_neg h32]
      by_cases h128 : bt s i < 128
      · rw [if_pos h128, e0]; exact pc_asc s i w hs hi (by omega) (by omega) (by omega) (by omega)
      · rw [if_neg h128]
        by_cases hr : rl s i = 0
        · rw [if_pos hr]; exact pc_bad s i w hs hi (by omega) hr
        · rw [if_neg hr]; exact pc_multi s i w hs hi (by omega) hr
end Go.Proofs.YtcjajchfjoffnaaGreatDoor

namespace Go.Proofs.YtcjajchfjoffnaaGreatDoor
open Go.RowKit

/-- A string of JSON, as the model reads it. -/
def SPost (s : ByteArray) (w : World) (o : Option (List UInt8 × Nat)) (e : Ending) (w' : World) : Prop :=
  Below w.heap.size w w' ∧ o.elim (∃ (t : ByteArray) (k : Nat), k ≤ s.size + 1 ∧ t.size ≤ 4 * s.size + 4 ∧ e = .returned (.tuple #[.string t, .int .i64 (k : Int), .bool false])) fun q => e = .returned (.tuple #[.string (strOf q.1), .int .i64 (q.2 : Int), .bool true])

set_option maxHeartbeats 1600000 in
set_option maxRecDepth 100000 in
theorem l1String_walk (s : ByteArray) (i : Nat) (w : World) (hs : s.size ≤ 1048576) (hi : i ≤ s.size + 1) :
    Calls Tryz.prog 108 #[.string s, .int .i64 i] w (SPost s w (strQ s i)) := by
  obtain ⟨i0, hi0, hz0, hz1, hz2⟩ := info_parts infoU8
  by_cases h34 : bt s i = 34
  · have hlt : i < s.size := bt_in (by rw [h34]; decide)
    have HQ : Hid (strQ s i = strR s (i + 1)) := by show _ = _; unfold strQ; rw [if_pos h34]
    have ha : atB s i 34 = true := by rw [atB_in hlt, beq_iff_eq, ← bt_at s i hlt, h34]; rfl
    have HA := hide (at_walk s (i : Int) i rfl 34 w)
    rw [ha] at HA
    clear h34 ha
    go_enter Tryz.func108, Tryz.ntmps108
    go_wp2_with fail
    refine (unhide HA).mono ?_
    rintro e w1 ⟨rfl, rfl⟩
    clear HA
    go_wp2
    go_loopw [1, 7] (fun k v wr => ∃ (j : Nat) (acc : List UInt8), j ≤ s.size ∧ k = .int .i64 (j : Int) ∧ acc.length ≤ 4 * j ∧ wr.ownsRow w.heap.size 5 1 v (Lib.byteCells acc).length (Lib.byteCells acc) ∧ Below w.heap.size w wr ∧ strR s (i + 1) = (strR s j).map fun q => (acc ++ q.1, q.2)) (fun k _ _ => s.size - (intOf k).toNat)
    case atStart =>
      exact ⟨i + 1, [], by omega, by go_num, by simp, ⟨rfl, .inr ⟨w.heap.size, 0, #[], rfl, Nat.le_refl _, heap_alloc_new w _, Nat.le_refl _, by unfold maxLen; omega, rfl, rfl⟩⟩, (Below.refl _ _).alloc (Nat.le_refl _) _, by simp⟩
    case round =>
      obtain ⟨j, acc, hj, rfl, hal, hown, hb, hst⟩ := hrel
      have HST := hide hst
      have HB := hide hb
      have hwsz := hb.size
      clear hst hb
      by_cases hin : j < s.size
      · have e0 := bt_at s j hin
        have hin' : (j : Int) < (s.size : Int) := by omega
        by_cases e34 : bt s j = 34
        · have t1 : ((s[j].toNat : Int) != 34) = false := by rw [bne_eq_false_iff_eq]; omega
          have HF : Hid (strQ s i = some (acc, j + 1)) := by
            show _ = _
            rw [unhide HQ, unhide HST, strR_end e34]; simp
          have hcv := convert_own hown
          clear hown e34 e0
          go_wp2
          go_ret3
          exact ⟨unhide HB, by rw [unhide HF]; rfl⟩
        · have t1 : ((s[j].toNat : Int) != 34) = true := by rw [bne_iff_ne]; omega
          have HC := hide (l1Piece_walk s j wr hs hin e34)
          cases hp : piece s j with
          | none =>
            have HF : Hid (strQ s i = none) := by
              show _ = _
              rw [unhide HQ, unhide HST, strR_bad e34 hp]; rfl
            rw [hp] at HC
            clear hown e34 e0 hp
            go_wp2_with fail
            refine (unhide HC).mono ?_
            rintro e w2 ⟨⟨t, rfl⟩, b2⟩
            have B2 := below_next (unhide HB) b2
            clear HC
            go_wp2
            go_ret3
            exact ⟨B2, by rw [unhide HF]; exact ⟨_, j, by omega, Nat.zero_le _, rfl⟩⟩
          | some p =>
            obtain ⟨r, n⟩ := p
            obtain ⟨p1, p2, p3⟩ := piece_ok hp
            have hel := enc_le r
            have HST2 : Hid (strR s (i + 1) = (strR s (j + n)).map fun q => (acc ++ enc r ++ q.1, q.2)) := by
              show _ = _
              rw [unhide HST, strR_go e34 hp, Option.map_map]
              congr 1
              funext q
              simp
            rw [hp] at HC
            have t0 : ((n : Int) == 0) = false := by rw [beq_eq_false_iff_ne]; omega
            clear e34 e0 hp
            go_wp2_with fail
            refine (unhide HC).mono ?_
            rintro e w2 ⟨rfl, b2⟩
            have B2 := below_next (unhide HB) b2
            have own2 := own_below hown b2
            obtain ⟨cap, W3, hcv, hcell, b3, hk3, hs3⟩ := conv_bytes w2 (enc r)
            have own3 := hk3 _ _ _ _ _ own2
            have B3 := below_next B2 b3
            have HCELL := hide hcell
            have hsz2 := B2.size
            clear HC hcell hk3 own2 hown b2 b3 HB B2
            go_wp2_with (at_builtin; refine wpList_append_own _ rfl (.tmp 37) (.tmp 39) 137 rfl w.heap.size 5 i0 (.int .u8 0) 1 1 Tryz.underlying137 hi0 hz0 hz1 hz2 rfl (by decide) _ _ _ rfl own3 ⟨w2.heap.size, 0, none⟩ (enc r).length cap (Lib.byteCells (enc r)) rfl (by rw [Lib.byteCells_length]; omega) (unhide HCELL) (one_bytes (enc r)) (by rw [Lib.byteCells_length]; unfold maxLen; omega) (by rw [Lib.byteCells_length]; omega) (by omega) ?_)
            intro v4 w4 own4 hg4 _
            have B4 : Below w.heap.size w w4 := B3.grown hg4 (by omega) (fun k hk => (own3.lt k hk).1)
            have own4' := own_step (m := (enc r)) own4 rfl rfl
            clear own4 hg4 own3 HCELL B3 hcv
            go_wp2
            go_roundw
            case rel => exact ⟨j + n, acc ++ (enc r), by omega, by go_num, by rw [List.length_append]; omega, own4', B4, unhide HST2⟩
            case measure => simp [intOf]; omega
      · have hin' : ¬ (j : Int) < (s.size : Int) := by omega
        have d1 : decide ((j : Int) < (s.size : Int)) = false := by simp; omega
        have HF : Hid (strQ s i = none) := by
          show _ = _
          rw [unhide HQ, unhide HST, strR_out (by omega)]; rfl
        have hcv := convert_own hown
        clear hown
        go_wp2
        go_ret3
        exact ⟨unhide HB, by rw [unhide HF]; exact ⟨_, j + 1, by omega, by show acc.toArray.size ≤ _; simp; omega, rfl⟩⟩
  · have HQ : Hid (strQ s i = none) := by show _ = _; unfold strQ; rw [if_neg h34]
    have ha : atB s i 34 = false := by
      by_cases hlt : i < s.size
      · rw [atB_in hlt, beq_eq_false_iff_ne, ← bt_at s i hlt]; omega
      · exact atB_out hlt
    have HA := hide (at_walk s (i : Int) i rfl 34 w)
    rw [ha] at HA
    clear h34 ha
    go_enter Tryz.func108, Tryz.ntmps108
    go_wp2_with fail
    refine (unhide HA).mono ?_
    rintro e w1 ⟨rfl, rfl⟩
    clear HA
    go_wp2
    go_ret3
    exact ⟨Below.refl _ _, by rw [unhide HQ]; exact ⟨_, i, hi, Nat.zero_le _, rfl⟩⟩
end Go.Proofs.YtcjajchfjoffnaaGreatDoor
