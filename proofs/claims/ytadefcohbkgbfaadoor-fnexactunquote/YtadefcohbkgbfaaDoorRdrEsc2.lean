import Derived.Test.YtadefcohbkgbfaaDoorRdrEsc
namespace Go.Proofs.YtadefcohbkgbfaaDoor
open Go.RowKit

set_option maxHeartbeats 1600000 in
theorem esc_34 (rb : Nat) (s : ByteArray) (i : Nat) (tb kt : Bool) (w : World) (h : Rdr rb s (i + 1) tb kt w) (hs : s.size ≤ 1048576) (hb : bt s (i + 1) = 34) :
    Calls Tryd.prog 65 #[.pointer (some ⟨rb, 0, none⟩)] w fun e w' => e = .returned (.int .i32 34) ∧ Rdr rb s (i + 2) tb kt w' ∧ KB rb w w' := by
  have HN := hide (next_in rb s (i + 1) tb kt w h hs (bt_in (by rw [hb]; decide)))
  rw [hb] at HN
  clear h hb
  go_enter Tryd.func65, Tryd.ntmps65
  go_wp2_with fail
  refine (unhide HN).mono ?_
  rintro e w1 ⟨rfl, r1, k1⟩
  have R1 := hide r1
  clear HN r1
  go_wp2
  go_ret
  exact ⟨rfl, unhide R1, k1⟩
set_option maxHeartbeats 1600000 in
theorem esc_92 (rb : Nat) (s : ByteArray) (i : Nat) (tb kt : Bool) (w : World) (h : Rdr rb s (i + 1) tb kt w) (hs : s.size ≤ 1048576) (hb : bt s (i + 1) = 92) :
    Calls Tryd.prog 65 #[.pointer (some ⟨rb, 0, none⟩)] w fun e w' => e = .returned (.int .i32 92) ∧ Rdr rb s (i + 2) tb kt w' ∧ KB rb w w' := by
  have HN := hide (next_in rb s (i + 1) tb kt w h hs (bt_in (by rw [hb]; decide)))
  rw [hb] at HN
  clear h hb
  go_enter Tryd.func65, Tryd.ntmps65
  go_wp2_with fail
  refine (unhide HN).mono ?_
  rintro e w1 ⟨rfl, r1, k1⟩
  have R1 := hide r1
  clear HN r1
  go_wp2
  go_ret
  exact ⟨rfl, unhide R1, k1⟩
set_option maxHeartbeats 1600000 in
theorem esc_47 (rb : Nat) (s : ByteArray) (i : Nat) (tb kt : Bool) (w : World) (h : Rdr rb s (i + 1) tb kt w) (hs : s.size ≤ 1048576) (hb : bt s (i + 1) = 47) :
    Calls Tryd.prog 65 #[.pointer (some ⟨rb, 0, none⟩)] w fun e w' => e = .returned (.int .i32 47) ∧ Rdr rb s (i + 2) tb kt w' ∧ KB rb w w' := by
  have HN := hide (next_in rb s (i + 1) tb kt w h hs (bt_in (by rw [hb]; decide)))
  rw [hb] at HN
  clear h hb
  go_enter Tryd.func65, Tryd.ntmps65
  go_wp2_with fail
  refine (unhide HN).mono ?_
  rintro e w1 ⟨rfl, r1, k1⟩
  have R1 := hide r1
  clear HN r1
  go_wp2
  go_ret
  exact ⟨rfl, unhide R1, k1⟩
set_option maxHeartbeats 1600000 in
theorem esc_98 (rb : Nat) (s : ByteArray) (i : Nat) (tb kt : Bool) (w : World) (h : Rdr rb s (i + 1) tb kt w) (hs : s.size ≤ 1048576) (hb : bt s (i + 1) = 98) :
    Calls Tryd.prog 65 #[.pointer (some ⟨rb, 0, none⟩)] w fun e w' => e = .returned (.int .i32 8) ∧ Rdr rb s (i + 2) tb kt w' ∧ KB rb w w' := by
  have HN := hide (next_in rb s (i + 1) tb kt w h hs (bt_in (by rw [hb]; decide)))
  rw [hb] at HN
  clear h hb
  go_enter Tryd.func65, Tryd.ntmps65
  go_wp2_with fail
  refine (unhide HN).mono ?_
  rintro e w1 ⟨rfl, r1, k1⟩
  have R1 := hide r1
  clear HN r1
  go_wp2
  go_ret
  exact ⟨rfl, unhide R1, k1⟩
set_option maxHeartbeats 1600000 in
theorem esc_102 (rb : Nat) (s : ByteArray) (i : Nat) (tb kt : Bool) (w : World) (h : Rdr rb s (i + 1) tb kt w) (hs : s.size ≤ 1048576) (hb : bt s (i + 1) = 102) :
    Calls Tryd.prog 65 #[.pointer (some ⟨rb, 0, none⟩)] w fun e w' => e = .returned (.int .i32 12) ∧ Rdr rb s (i + 2) tb kt w' ∧ KB rb w w' := by
  have HN := hide (next_in rb s (i + 1) tb kt w h hs (bt_in (by rw [hb]; decide)))
  rw [hb] at HN
  clear h hb
  go_enter Tryd.func65, Tryd.ntmps65
  go_wp2_with fail
  refine (unhide HN).mono ?_
  rintro e w1 ⟨rfl, r1, k1⟩
  have R1 := hide r1
  clear HN r1
  go_wp2
  go_ret
  exact ⟨rfl, unhide R1, k1⟩
set_option maxHeartbeats 1600000 in
theorem esc_110 (rb : Nat) (s : ByteArray) (i : Nat) (tb kt : Bool) (w : World) (h : Rdr rb s (i + 1) tb kt w) (hs : s.size ≤ 1048576) (hb : bt s (i + 1) = 110) :
    Calls Tryd.prog 65 #[.pointer (some ⟨rb, 0, none⟩)] w fun e w' => e = .returned (.int .i32 10) ∧ Rdr rb s (i + 2) tb kt w' ∧ KB rb w w' := by
  have HN := hide (next_in rb s (i + 1) tb kt w h hs (bt_in (by rw [hb]; decide)))
  rw [hb] at HN
  clear h hb
  go_enter Tryd.func65, Tryd.ntmps65
  go_wp2_with fail
  refine (unhide HN).mono ?_
  rintro e w1 ⟨rfl, r1, k1⟩
  have R1 := hide r1
  clear HN r1
  go_wp2
  go_ret
  exact ⟨rfl, unhide R1, k1⟩
set_option maxHeartbeats 1600000 in
theorem esc_114 (rb : Nat) (s : ByteArray) (i : Nat) (tb kt : Bool) (w : World) (h : Rdr rb s (i + 1) tb kt w) (hs : s.size ≤ 1048576) (hb : bt s (i + 1) = 114) :
    Calls Tryd.prog 65 #[.pointer (some ⟨rb, 0, none⟩)] w fun e w' => e = .returned (.int .i32 13) ∧ Rdr rb s (i + 2) tb kt w' ∧ KB rb w w' := by
  have HN := hide (next_in rb s (i + 1) tb kt w h hs (bt_in (by rw [hb]; decide)))
  rw [hb] at HN
  clear h hb
  go_enter Tryd.func65, Tryd.ntmps65
  go_wp2_with fail
  refine (unhide HN).mono ?_
  rintro e w1 ⟨rfl, r1, k1⟩
  have R1 := hide r1
  clear HN r1
  go_wp2
  go_ret
  exact ⟨rfl, unhide R1, k1⟩
set_option maxHeartbeats 1600000 in
theorem esc_116 (rb : Nat) (s : ByteArray) (i : Nat) (tb kt : Bool) (w : World) (h : Rdr rb s (i + 1) tb kt w) (hs : s.size ≤ 1048576) (hb : bt s (i + 1) = 116) :
    Calls Tryd.prog 65 #[.pointer (some ⟨rb, 0, none⟩)] w fun e w' => e = .returned (.int .i32 9) ∧ Rdr rb s (i + 2) tb kt w' ∧ KB rb w w' := by
  have HN := hide (next_in rb s (i + 1) tb kt w h hs (bt_in (by rw [hb]; decide)))
  rw [hb] at HN
  clear h hb
  go_enter Tryd.func65, Tryd.ntmps65
  go_wp2_with fail
  refine (unhide HN).mono ?_
  rintro e w1 ⟨rfl, r1, k1⟩
  have R1 := hide r1
  clear HN r1
  go_wp2
  go_ret
  exact ⟨rfl, unhide R1, k1⟩
set_option maxHeartbeats 1600000 in
theorem esc_u (rb : Nat) (s : ByteArray) (i : Nat) (tb kt : Bool) (w : World) (h : Rdr rb s (i + 1) tb kt w) (hs : s.size ≤ 1048576) (hi : i + 2 ≤ s.size) (h0 : bt s i = 92) (hb : bt s (i + 1) = 117) :
    Calls Tryd.prog 65 #[.pointer (some ⟨rb, 0, none⟩)] w (Post rb s tb kt w ((escP s i).map fun p => (.int .i32 (p.1 : Int), i + p.2))) := by
  have HN := hide (next_in rb s (i + 1) tb kt w h hs (bt_in (by rw [hb]; decide)))
  rw [escP_u h0 hb]
  rw [hb] at HN
  have HX : Hid (∀ w, Rdr rb s (i + 2) tb kt w → Calls Tryd.prog 73 #[.pointer (some ⟨rb, 0, none⟩)] w (Post rb s tb kt w (((hexN s (i + 2) 4).bind (escU s i)).map fun p => (.int .i32 (p.1 : Int), i + p.2)))) := fun w h => hexRune_walk rb s i tb kt w h hs hi
  clear h hb h0
  generalize (hexN s (i + 2) 4).bind (escU s i) = o at *
  cases o with
  | none =>
    go_enter Tryd.func65, Tryd.ntmps65
    go_wp2_with fail
    refine (unhide HN).mono ?_
    rintro e w1 ⟨rfl, r1, k1⟩
    have R1 := hide r1
    clear HN r1
    go_wp2_with fail
    refine (unhide HX _ (unhide R1)).mono ?_
    rintro e w2 ⟨k2, rfl⟩
    clear HX
    exact ⟨rfl, k1.trans k2, rfl⟩
  | some p =>
    go_enter Tryd.func65, Tryd.ntmps65
    go_wp2_with fail
    refine (unhide HN).mono ?_
    rintro e w1 ⟨rfl, r1, k1⟩
    have R1 := hide r1
    clear HN r1
    go_wp2_with fail
    refine (unhide HX _ (unhide R1)).mono ?_
    rintro e w2 ⟨k2, rfl, r2⟩
    have R2 := hide r2
    clear HX r2
    go_wp2
    go_ret
    exact ⟨k1.trans k2, rfl, unhide R2⟩
set_option maxHeartbeats 1600000 in
theorem esc_end (rb : Nat) (s : ByteArray) (i : Nat) (tb kt : Bool) (w : World) (h : Rdr rb s (i + 1) tb kt w) (hi : i + 1 = s.size) :
    Calls Tryd.prog 65 #[.pointer (some ⟨rb, 0, none⟩)] w fun e w' => e = mis ∧ KB rb w w' := by
  have HN := hide (next_out rb s (i + 1) tb kt w h hi)
  clear h hi
  go_enter Tryd.func65, Tryd.ntmps65
  go_wp2_with fail
  refine (unhide HN).mono ?_
  rintro e w1 ⟨rfl, k1⟩
  clear HN
  exact ⟨rfl, rfl, k1⟩
set_option maxHeartbeats 1600000 in
theorem esc_no (rb : Nat) (s : ByteArray) (i : Nat) (tb kt : Bool) (w : World) (h : Rdr rb s (i + 1) tb kt w) (hs : s.size ≤ 1048576) (hi : i + 1 < s.size) (b : Nat) (hb : bt s (i + 1) = b) (n34 : b ≠ 34) (n92 : b ≠ 92) (n47 : b ≠ 47) (n98 : b ≠ 98) (n102 : b ≠ 102) (n110 : b ≠ 110) (n114 : b ≠ 114) (n116 : b ≠ 116) (n117 : b ≠ 117) :
    Calls Tryd.prog 65 #[.pointer (some ⟨rb, 0, none⟩)] w fun e w' => e = mis ∧ KB rb w w' := by
  have HN := hide (next_in rb s (i + 1) tb kt w h hs hi)
  rw [hb] at HN
  have t34 : ((b : Int) == 34) = false := by rw [beq_eq_false_iff_ne]; omega
  have t92 : ((b : Int) == 92) = false := by rw [beq_eq_false_iff_ne]; omega
  have t47 : ((b : Int) == 47) = false := by rw [beq_eq_false_iff_ne]; omega
  have t98 : ((b : Int) == 98) = false := by rw [beq_eq_false_iff_ne]; omega
  have t102 : ((b : Int) == 102) = false := by rw [beq_eq_false_iff_ne]; omega
  have t110 : ((b : Int) == 110) = false := by rw [beq_eq_false_iff_ne]; omega
  have t114 : ((b : Int) == 114) = false := by rw [beq_eq_false_iff_ne]; omega
  have t116 : ((b : Int) == 116) = false := by rw [beq_eq_false_iff_ne]; omega
  have t117 : ((b : Int) == 117) = false := by rw [beq_eq_false_iff_ne]; omega
  clear h hb n34 n92 n47 n98 n102 n110 n114 n116 n117
  go_enter Tryd.func65, Tryd.ntmps65
  go_wp2_with fail
  refine (unhide HN).mono ?_
  rintro e w1 ⟨rfl, r1, k1⟩
  clear HN r1
  go_wp2
  exact ⟨rfl, rfl, k1⟩

theorem smp_none {b : Nat} (n34 : b ≠ 34) (n92 : b ≠ 92) (n47 : b ≠ 47) (n98 : b ≠ 98) (n102 : b ≠ 102) (n110 : b ≠ 110) (n114 : b ≠ 114) (n116 : b ≠ 116) : smp b = none := by
  unfold smp; rw [if_neg n34, if_neg n92, if_neg n47, if_neg n98, if_neg n102, if_neg n110, if_neg n114, if_neg n116]
theorem post_some {rb : Nat} {s : ByteArray} {tb kt : Bool} {w : World} {o : Option (Value × Nat)} {v : Value} {j : Nat} {e : Ending} {w' : World} (ho : o = some (v, j)) (h : e = .returned v ∧ Rdr rb s j tb kt w' ∧ KB rb w w') : Post rb s tb kt w o e w' := by
  subst ho; exact ⟨h.2.2, h.1, h.2.1⟩
theorem post_none {rb : Nat} {s : ByteArray} {tb kt : Bool} {w : World} {o : Option (Value × Nat)} {e : Ending} {w' : World} (ho : o = none) (h : e = mis ∧ KB rb w w') : Post rb s tb kt w o e w' := by
  subst ho; exact ⟨h.2, h.1⟩

theorem escape_walk (rb : Nat) (s : ByteArray) (i : Nat) (tb kt : Bool) (w : World) (h : Rdr rb s (i + 1) tb kt w) (hs : s.size ≤ 1048576) (hi : i + 1 ≤ s.size) (h0 : bt s i = 92) :
    Calls Tryd.prog 65 #[.pointer (some ⟨rb, 0, none⟩)] w (Post rb s tb kt w ((escP s i).map fun p => (.int .i32 (p.1 : Int), i + p.2))) := by
  by_cases hend : i + 1 = s.size
  · have hz : bt s (i + 1) = 0 := bt_out s (i + 1) (by omega)
    exact (esc_end rb s i tb kt w h hend).mono fun e w' hh => post_none (by rw [escP_n hz (by rfl) (by decide)]; rfl) hh
  by_cases n34 : bt s (i + 1) = 34
  · exact (esc_34 rb s i tb kt w h hs n34).mono fun e w' hh => post_some (by rw [escP_s n34 (by rfl)]; rfl) hh
  by_cases n92 : bt s (i + 1) = 92
  · exact (esc_92 rb s i tb kt w h hs n92).mono fun e w' hh => post_some (by rw [escP_s n92 (by rfl)]; rfl) hh
  by_cases n47 : bt s (i + 1) = 47
  · exact (esc_47 rb s i tb kt w h hs n47).mono fun e w' hh => post_some (by rw [escP_s n47 (by rfl)]; rfl) hh
  by_cases n98 : bt s (i + 1) = 98
  · exact (esc_98 rb s i tb kt w h hs n98).mono fun e w' hh => post_some (by rw [escP_s n98 (by rfl)]; rfl) hh
  by_cases n102 : bt s (i + 1) = 102
  · exact (esc_102 rb s i tb kt w h hs n102).mono fun e w' hh => post_some (by rw [escP_s n102 (by rfl)]; rfl) hh
  by_cases n110 : bt s (i + 1) = 110
  · exact (esc_110 rb s i tb kt w h hs n110).mono fun e w' hh => post_some (by rw [escP_s n110 (by rfl)]; rfl) hh
  by_cases n114 : bt s (i + 1) = 114
  · exact (esc_114 rb s i tb kt w h hs n114).mono fun e w' hh => post_some (by rw [escP_s n114 (by rfl)]; rfl) hh
  by_cases n116 : bt s (i + 1) = 116
  · exact (esc_116 rb s i tb kt w h hs n116).mono fun e w' hh => post_some (by rw [escP_s n116 (by rfl)]; rfl) hh
  by_cases n117 : bt s (i + 1) = 117
  · exact esc_u rb s i tb kt w h hs (by omega) h0 n117
  exact (esc_no rb s i tb kt w h hs (by omega) _ rfl n34 n92 n47 n98 n102 n110 n114 n116 n117).mono fun e w' hh => post_none (by rw [escP_n rfl (smp_none n34 n92 n47 n98 n102 n110 n114 n116) n117]; rfl) hh
end Go.Proofs.YtadefcohbkgbfaaDoor
