import Derived.Test.YtadefcohbkgbfabGreatDoorBn10
import Derived.Test.YtadefcohbkgbfabGreatDoorBn8
import Derived.Test.YtadefcohbkgbfabGreatDoorBn9
import Derived.Test.YtadefcohbkgbfabGreatDoorBn1
import Derived.Test.YtadefcohbkgbfabGreatDoorBn7
namespace Go.Proofs.YtadefcohbkgbfabGreatDoor
open Go.RowKit

theorem isWord_u (s : ByteArray) (i : Nat) : isWord s i ⟨#[92, 117]⟩ ↔ bt s i = 92 ∧ bt s (i + 1) = 117 := by
  constructor
  · intro h
    exact ⟨h 0 (by decide), h 1 (by decide)⟩
  · rintro ⟨h0, h1⟩ k hk
    have : k < 2 := hk
    match k, this with
    | 0, _ => exact h0
    | 1, _ => exact h1

set_option maxHeartbeats 1600000 in
set_option maxRecDepth 100000 in
theorem hexRune_walk (rb : Nat) (s : ByteArray) (i : Nat) (tb kt : Bool) (w : World) (h : Rdr rb s (i + 2) tb kt w) (hs : s.size ≤ 1048576) (hi : i + 2 ≤ s.size) :
    Calls Tryz.prog 88 #[.pointer (some ⟨rb, 0, none⟩)] w (Post rb s tb kt w (((hexN s (i + 2) 4).bind (escU s i)).map fun p => (.int .i32 (p.1 : Int), i + p.2))) := by
  have HX := hide (hexNum_walk rb s (i + 2) tb kt w h hs hi)
  clear h
  cases hx1 : hexN s (i + 2) 4 with
  | none =>
    rw [hx1] at HX
    clear hx1
    go_enter Tryz.func88, Tryz.ntmps88
    go_wp2_with fail
    refine (unhide HX).mono ?_
    rintro e w1 ⟨k1, rfl⟩
    clear HX
    exact ⟨rfl, k1, rfl⟩
  | some u =>
    have hu : u < 65536 := hexN_lt s (i + 2) 4 u hx1
    have hin := hexN_in hx1
    rw [hx1] at HX
    clear hx1
    simp only [Option.bind_some]
    by_cases h1 : u < 55296 ∨ 57344 ≤ u
    · have HE : Hid (escU s i u = some (u, 6)) := by show _ = _; unfold escU; rw [if_pos h1]
      rcases h1 with h1 | h1
      · have a1 : (u : Int) < 55296 := by omega
        go_enter Tryz.func88, Tryz.ntmps88
        go_wp2_with fail
        refine (unhide HX).mono ?_
        rintro e w1 ⟨k1, rfl, r1⟩
        have R1 := hide r1
        clear HX r1
        go_wp2
        go_ret
        exact ⟨k1, by rw [unhide HE]; exact ⟨rfl, unhide R1⟩⟩
      · have a1 : ¬ (u : Int) < 55296 := by omega
        have a2 : (57343 : Int) < (u : Int) := by omega
        have d1 : decide ((u : Int) < 55296) = false := by simp; omega
        go_enter Tryz.func88, Tryz.ntmps88
        go_wp2_with fail
        refine (unhide HX).mono ?_
        rintro e w1 ⟨k1, rfl, r1⟩
        have R1 := hide r1
        clear HX r1
        go_wp2
        go_ret
        exact ⟨k1, by rw [unhide HE]; exact ⟨rfl, unhide R1⟩⟩
    · have a1 : ¬ (u : Int) < 55296 := by omega
      have a2 : ¬ (57343 : Int) < (u : Int) := by omega
      by_cases h2 : 56320 ≤ u
      · have HE : Hid (escU s i u = none) := by show _ = _; unfold escU; rw [if_neg h1, if_pos h2]
        have a3 : (56319 : Int) < (u : Int) := by omega
        clear h1
        go_enter Tryz.func88, Tryz.ntmps88
        go_wp2_with fail
        refine (unhide HX).mono ?_
        rintro e w1 ⟨k1, rfl, r1⟩
        clear HX r1
        go_wp2
        exact ⟨rfl, k1, by rw [unhide HE]; rfl⟩
      · have a3 : ¬ (56319 : Int) < (u : Int) := by omega
        have U12 : Hid ((55296 : Int) ≤ (u : Int) ∧ (u : Int) ≤ 56319) := by show _ ∧ _; omega
        by_cases hw : bt s (i + 6) = 92 ∧ bt s (i + 6 + 1) = 117
        · have hw' := (isWord_u s (i + 6)).2 hw
          have hin7 : i + 6 + 1 < s.size := bt_in (by rw [hw.2]; decide)
          have HW : Hid (∀ w, Rdr rb s (i + 6) tb kt w → Calls Tryz.prog 91 #[.pointer (some ⟨rb, 0, none⟩), .string ⟨#[92, 117]⟩] w fun e w' => e = .returned (.tuple #[]) ∧ Rdr rb s (i + 6 + 2) tb kt w' ∧ KB rb w w') :=
            fun w h => word_yes rb s (i + 6) tb kt w h hs ⟨#[92, 117]⟩ (by decide) (by show i + 6 + 2 ≤ _; omega) hw'
          have HX2 : Hid (∀ w, Rdr rb s (i + 6 + 2) tb kt w → Calls Tryz.prog 102 #[.pointer (some ⟨rb, 0, none⟩)] w (Post rb s tb kt w ((hexN s (i + 6 + 2) 4).map fun v : Nat => (.int .i32 (v : Int), i + 6 + 2 + 4)))) :=
            fun w h => hexNum_walk rb s (i + 6 + 2) tb kt w h hs (by omega)
          have eU : unit s (i + 6) = hexN s (i + 6 + 2) 4 := by unfold unit; rw [if_pos hw]
          clear hw hw'
          cases hx2 : hexN s (i + 6 + 2) 4 with
          | none =>
            have HE : Hid (escU s i u = none) := by show _ = _; unfold escU; rw [if_neg h1, if_neg h2, eU, hx2]; rfl
            rw [hx2] at HX2
            clear hx2 eU h1 h2
            go_enter Tryz.func88, Tryz.ntmps88
            go_wp2_with fail
            refine (unhide HX).mono ?_
            rintro e w1 ⟨k1, rfl, r1⟩
            have R1 := hide r1
            clear HX r1
            go_wp2_with fail
            refine (unhide HW _ (unhide R1)).mono ?_
            rintro e w2 ⟨rfl, r2, k2⟩
            have R2 := hide r2
            clear HW r2
            go_wp2_with fail
            refine (unhide HX2 _ (unhide R2)).mono ?_
            rintro e w3 ⟨k3, rfl⟩
            clear HX2
            exact ⟨rfl, (k1.trans k2).trans k3, by rw [unhide HE]; rfl⟩
          | some v =>
            have hv : v < 65536 := hexN_lt s (i + 6 + 2) 4 v hx2
            rw [hx2] at HX2
            by_cases h3 : 56320 ≤ v ∧ v < 57344
            · have HE : Hid (escU s i u = some (65536 + (u - 55296) * 1024 + (v - 56320), 12)) := by
                show _ = _; unfold escU; rw [if_neg h1, if_neg h2, eU, hx2]; simp only [Option.bind_some]; rw [if_pos h3]
              have v1 : (56320 : Int) ≤ (v : Int) := by omega
              have v2 : (v : Int) ≤ 57343 := by omega
              have v3 : ¬ (v : Int) < 56320 := by omega
              have v4 : ¬ (57343 : Int) < (v : Int) := by omega
              clear hx2 eU h1 h2 h3
              go_enter Tryz.func88, Tryz.ntmps88
              go_wp2_with fail
              refine (unhide HX).mono ?_
              rintro e w1 ⟨k1, rfl, r1⟩
              have R1 := hide r1
              clear HX r1
              go_wp2_with fail
              refine (unhide HW _ (unhide R1)).mono ?_
              rintro e w2 ⟨rfl, r2, k2⟩
              have R2 := hide r2
              clear HW r2
              go_wp2_with fail
              refine (unhide HX2 _ (unhide R2)).mono ?_
              rintro e w3 ⟨k3, rfl, r3⟩
              have R3 := hide r3
              clear HX2 r3
              obtain ⟨u1, u2⟩ := unhide U12
              go_wp2
              go_ret
              refine ⟨(k1.trans k2).trans k3, ?_⟩
              rw [unhide HE]
              exact ⟨ret_int (by omega), unhide R3⟩
            · have HE : Hid (escU s i u = none) := by
                show _ = _; unfold escU; rw [if_neg h1, if_neg h2, eU, hx2]; simp only [Option.bind_some]; rw [if_neg h3]
              rcases (show v < 56320 ∨ 57344 ≤ v from by omega) with h4 | h4
              · have v1 : (v : Int) ≤ 56319 := by omega
                clear hx2 eU h1 h2 h3 h4
                go_enter Tryz.func88, Tryz.ntmps88
                go_wp2_with fail
                refine (unhide HX).mono ?_
                rintro e w1 ⟨k1, rfl, r1⟩
                have R1 := hide r1
                clear HX r1
                go_wp2_with fail
                refine (unhide HW _ (unhide R1)).mono ?_
                rintro e w2 ⟨rfl, r2, k2⟩
                have R2 := hide r2
                clear HW r2
                go_wp2_with fail
                refine (unhide HX2 _ (unhide R2)).mono ?_
                rintro e w3 ⟨k3, rfl, r3⟩
                clear HX2 r3
                go_wp2
                exact ⟨rfl, (k1.trans k2).trans k3, by rw [unhide HE]; rfl⟩
              · have v1 : ¬ (v : Int) < 56320 := by omega
                have v2 : (57343 : Int) < (v : Int) := by omega
                clear hx2 eU h1 h2 h3
                go_enter Tryz.func88, Tryz.ntmps88
                go_wp2_with fail
                refine (unhide HX).mono ?_
                rintro e w1 ⟨k1, rfl, r1⟩
                have R1 := hide r1
                clear HX r1
                go_wp2_with fail
                refine (unhide HW _ (unhide R1)).mono ?_
                rintro e w2 ⟨rfl, r2, k2⟩
                have R2 := hide r2
                clear HW r2
                go_wp2_with fail
                refine (unhide HX2 _ (unhide R2)).mono ?_
                rintro e w3 ⟨k3, rfl, r3⟩
                clear HX2 r3
                go_wp2
                exact ⟨rfl, (k1.trans k2).trans k3, by rw [unhide HE]; rfl⟩
        · have HE : Hid (escU s i u = none) := by
            show _ = _; unfold escU; rw [if_neg h1, if_neg h2]; unfold unit; rw [if_neg hw]; rfl
          have HW : Hid (∀ w, Rdr rb s (i + 6) tb kt w → Calls Tryz.prog 91 #[.pointer (some ⟨rb, 0, none⟩), .string ⟨#[92, 117]⟩] w fun e w' => e = mis ∧ KB rb w w') :=
            fun w h => word_no rb s (i + 6) tb kt w h hs ⟨#[92, 117]⟩ (by decide) (fun k hk => by
              have : k < 2 := hk
              match k, this with
              | 0, _ => decide
              | 1, _ => decide) (by omega) (fun h => hw ((isWord_u s (i + 6)).1 h))
          clear h1 h2 hw
          go_enter Tryz.func88, Tryz.ntmps88
          go_wp2_with fail
          refine (unhide HX).mono ?_
          rintro e w1 ⟨k1, rfl, r1⟩
          have R1 := hide r1
          clear HX r1
          go_wp2_with fail
          refine (unhide HW _ (unhide R1)).mono ?_
          rintro e w2 ⟨rfl, k2⟩
          clear HW
          exact ⟨rfl, k1.trans k2, by rw [unhide HE]; rfl⟩
end Go.Proofs.YtadefcohbkgbfabGreatDoor


namespace Go.Proofs.YtadefcohbkgbfabGreatDoor
open Go.RowKit

set_option maxHeartbeats 1600000 in
theorem esc_34 (rb : Nat) (s : ByteArray) (i : Nat) (tb kt : Bool) (w : World) (h : Rdr rb s (i + 1) tb kt w) (hs : s.size ≤ 1048576) (hb : bt s (i + 1) = 34) :
    Calls Tryz.prog 71 #[.pointer (some ⟨rb, 0, none⟩)] w fun e w' => e = .returned (.int .i32 34) ∧ Rdr rb s (i + 2) tb kt w' ∧ KB rb w w' := by
  have HN := hide (next_in rb s (i + 1) tb kt w h hs (bt_in (by rw [hb]; decide)))
  rw [hb] at HN
  clear h hb
  go_enter Tryz.func71, Tryz.ntmps71
  go_wp2_with fail
  refine (unhide HN).mono ?_
  rintro e w1 ⟨rfl, r1, k1⟩
  have R1 := hide r1
  clear HN r1
  go_wp2
  go_ret
  exact ⟨rfl, unhide R1, k1⟩
set_option maxHeartbeats 1600000 in
theorem esc_92 (rb : Nat) (s : ByteArray) (i : Nat) (tb kt : Bool) (w : World) (h : Rdr rb s (i + 1) tb kt w) (hs : s.size ≤ 1048576) (hb : bt s (i + 1) = 92) :
    Calls Tryz.prog 71 #[.pointer (some ⟨rb, 0, none⟩)] w fun e w' => e = .returned (.int .i32 92) ∧ Rdr rb s (i + 2) tb kt w' ∧ KB rb w w' := by
  have HN := hide (next_in rb s (i + 1) tb kt w h hs (bt_in (by rw [hb]; decide)))
  rw [hb] at HN
  clear h hb
  go_enter Tryz.func71, Tryz.ntmps71
  go_wp2_with fail
  refine (unhide HN).mono ?_
  rintro e w1 ⟨rfl, r1, k1⟩
  have R1 := hide r1
  clear HN r1
  go_wp2
  go_ret
  exact ⟨rfl, unhide R1, k1⟩
set_option maxHeartbeats 1600000 in
theorem esc_47 (rb : Nat) (s : ByteArray) (i : Nat) (tb kt : Bool) (w : World) (h : Rdr rb s (i + 1) tb kt w) (hs : s.size ≤ 1048576) (hb : bt s (i + 1) = 47) :
    Calls Tryz.prog 71 #[.pointer (some ⟨rb, 0, none⟩)] w fun e w' => e = .returned (.int .i32 47) ∧ Rdr rb s (i + 2) tb kt w' ∧ KB rb w w' := by
  have HN := hide (next_in rb s (i + 1) tb kt w h hs (bt_in (by rw [hb]; decide)))
  rw [hb] at HN
  clear h hb
  go_enter Tryz.func71, Tryz.ntmps71
  go_wp2_with fail
  refine (unhide HN).mono ?_
  rintro e w1 ⟨rfl, r1, k1⟩
  have R1 := hide r1
  clear HN r1
  go_wp2
  go_ret
  exact ⟨rfl, unhide R1, k1⟩
set_option maxHeartbeats 1600000 in
theorem esc_98 (rb : Nat) (s : ByteArray) (i : Nat) (tb kt : Bool) (w : World) (h : Rdr rb s (i + 1) tb kt w) (hs : s.size ≤ 1048576) (hb : bt s (i + 1) = 98) :
    Calls Tryz.prog 71 #[.pointer (some ⟨rb, 0, none⟩)] w fun e w' => e = .returned (.int .i32 8) ∧ Rdr rb s (i + 2) tb kt w' ∧ KB rb w w' := by
  have HN := hide (next_in rb s (i + 1) tb kt w h hs (bt_in (by rw [hb]; decide)))
  rw [hb] at HN
  clear h hb
  go_enter Tryz.func71, Tryz.ntmps71
  go_wp2_with fail
  refine (unhide HN).mono ?_
  rintro e w1 ⟨rfl, r1, k1⟩
  have R1 := hide r1
  clear HN r1
  go_wp2
  go_ret
  exact ⟨rfl, unhide R1, k1⟩
set_option maxHeartbeats 1600000 in
theorem esc_102 (rb : Nat) (s : ByteArray) (i : Nat) (tb kt : Bool) (w : World) (h : Rdr rb s (i + 1) tb kt w) (hs : s.size ≤ 1048576) (hb : bt s (i + 1) = 102) :
    Calls Tryz.prog 71 #[.pointer (some ⟨rb, 0, none⟩)] w fun e w' => e = .returned (.int .i32 12) ∧ Rdr rb s (i + 2) tb kt w' ∧ KB rb w w' := by
  have HN := hide (next_in rb s (i + 1) tb kt w h hs (bt_in (by rw [hb]; decide)))
  rw [hb] at HN
  clear h hb
  go_enter Tryz.func71, Tryz.ntmps71
  go_wp2_with fail
  refine (unhide HN).mono ?_
  rintro e w1 ⟨rfl, r1, k1⟩
  have R1 := hide r1
  clear HN r1
  go_wp2
  go_ret
  exact ⟨rfl, unhide R1, k1⟩
set_option maxHeartbeats 1600000 in
theorem esc_110 (rb : Nat) (s : ByteArray) (i : Nat) (tb kt : Bool) (w : World) (h : Rdr rb s (i + 1) tb kt w) (hs : s.size ≤ 1048576) (hb : bt s (i + 1) = 110) :
    Calls Tryz.prog 71 #[.pointer (some ⟨rb, 0, none⟩)] w fun e w' => e = .returned (.int .i32 10) ∧ Rdr rb s (i + 2) tb kt w' ∧ KB rb w w' := by
  have HN := hide (next_in rb s (i + 1) tb kt w h hs (bt_in (by rw [hb]; decide)))
  rw [hb] at HN
  clear h hb
  go_enter Tryz.func71, Tryz.ntmps71
  go_wp2_with fail
  refine (unhide HN).mono ?_
  rintro e w1 ⟨rfl, r1, k1⟩
  have R1 := hide r1
  clear HN r1
  go_wp2
  go_ret
  exact ⟨rfl, unhide R1, k1⟩
set_option maxHeartbeats 1600000 in
theorem esc_114 (rb : Nat) (s : ByteArray) (i : Nat) (tb kt : Bool) (w : World) (h : Rdr rb s (i + 1) tb kt w) (hs : s.size ≤ 1048576) (hb : bt s (i + 1) = 114) :
    Calls Tryz.prog 71 #[.pointer (some ⟨rb, 0, none⟩)] w fun e w' => e = .returned (.int .i32 13) ∧ Rdr rb s (i + 2) tb kt w' ∧ KB rb w w' := by
  have HN := hide (next_in rb s (i + 1) tb kt w h hs (bt_in (by rw [hb]; decide)))
  rw [hb] at HN
  clear h hb
  go_enter Tryz.func71, Tryz.ntmps71
  go_wp2_with fail
  refine (unhide HN).mono ?_
  rintro e w1 ⟨rfl, r1, k1⟩
  have R1 := hide r1
  clear HN r1
  go_wp2
  go_ret
  exact ⟨rfl, unhide R1, k1⟩
set_option maxHeartbeats 1600000 in
theorem esc_116 (rb : Nat) (s : ByteArray) (i : Nat) (tb kt : Bool) (w : World) (h : Rdr rb s (i + 1) tb kt w) (hs : s.size ≤ 1048576) (hb : bt s (i + 1) = 116) :
    Calls Tryz.prog 71 #[.pointer (some ⟨rb, 0, none⟩)] w fun e w' => e = .returned (.int .i32 9) ∧ Rdr rb s (i + 2) tb kt w' ∧ KB rb w w' := by
  have HN := hide (next_in rb s (i + 1) tb kt w h hs (bt_in (by rw [hb]; decide)))
  rw [hb] at HN
  clear h hb
  go_enter Tryz.func71, Tryz.ntmps71
  go_wp2_with fail
  refine (unhide HN).mono ?_
  rintro e w1 ⟨rfl, r1, k1⟩
  have R1 := hide r1
  clear HN r1
  go_wp2
  go_ret
  exact ⟨rfl, unhide R1, k1⟩
set_option maxHeartbeats 1600000 in
theorem esc_u (rb : Nat) (s : ByteArray) (i : Nat) (tb kt : Bool) (w : World) (h : Rdr rb s (i + 1) tb kt w) (hs : s.size ≤ 1048576) (hi : i + 2 ≤ s.size) (h0 : bt s i = 92) (hb : bt s (i + 1) = 117) :
    Calls Tryz.prog 71 #[.pointer (some ⟨rb, 0, none⟩)] w (Post rb s tb kt w ((escP s i).map fun p => (.int .i32 (p.1 : Int), i + p.2))) := by
  have HN := hide (next_in rb s (i + 1) tb kt w h hs (bt_in (by rw [hb]; decide)))
  rw [escP_u h0 hb]
  rw [hb] at HN
  have HX : Hid (∀ w, Rdr rb s (i + 2) tb kt w → Calls Tryz.prog 88 #[.pointer (some ⟨rb, 0, none⟩)] w (Post rb s tb kt w (((hexN s (i + 2) 4).bind (escU s i)).map fun p => (.int .i32 (p.1 : Int), i + p.2)))) := fun w h => hexRune_walk rb s i tb kt w h hs hi
  clear h hb h0
  generalize (hexN s (i + 2) 4).bind (escU s i) = o at *
  cases o with
  | none =>
    go_enter Tryz.func71, Tryz.ntmps71
    go_wp2_with fail
    refine (unhide HN).mono ?_
    rintro e w1 ⟨rfl, r1, k1⟩
    have R1 := hide r1
    clear HN r1
    go_wp2_with fail
    refine (unhide HX _ (unhide R1)).mono ?_
    rintro e w2 ⟨k2, rfl⟩
    clear HX
    exact ⟨rfl, k1.trans k2, rfl⟩
  | some p =>
    go_enter Tryz.func71, Tryz.ntmps71
    go_wp2_with fail
    refine (unhide HN).mono ?_
    rintro e w1 ⟨rfl, r1, k1⟩
    have R1 := hide r1
    clear HN r1
    go_wp2_with fail
    refine (unhide HX _ (unhide R1)).mono ?_
    rintro e w2 ⟨k2, rfl, r2⟩
    have R2 := hide r2
    clear HX r2
    go_wp2
    go_ret
    exact ⟨k1.trans k2, rfl, unhide R2⟩
set_option maxHeartbeats 1600000 in
theorem esc_end (rb : Nat) (s : ByteArray) (i : Nat) (tb kt : Bool) (w : World) (h : Rdr rb s (i + 1) tb kt w) (hi : i + 1 = s.size) :
    Calls Tryz.prog 71 #[.pointer (some ⟨rb, 0, none⟩)] w fun e w' => e = mis ∧ KB rb w w' := by
  have HN := hide (next_out rb s (i + 1) tb kt w h hi)
  clear h hi
  go_enter Tryz.func71, Tryz.ntmps71
  go_wp2_with fail
  refine (unhide HN).mono ?_
  rintro e w1 ⟨rfl, k1⟩
  clear HN
  exact ⟨rfl, rfl, k1⟩
set_option maxHeartbeats 1600000 in
theorem esc_no (rb : Nat) (s : ByteArray) (i : Nat) (tb kt : Bool) (w : World) (h : Rdr rb s (i + 1) tb kt w) (hs : s.size ≤ 1048576) (hi : i + 1 < s.size) (b : Nat) (hb : bt s (i + 1) = b) (n34 : b ≠ 34) (n92 : b ≠ 92) (n47 : b ≠ 47) (n98 : b ≠ 98) (n102 : b ≠ 102) (n110 : b ≠ 110) (n114 : b ≠ 114) (n116 : b ≠ 116) (n117 : b ≠ 117) :
    Calls Tryz.prog 71 #[.pointer (some ⟨rb, 0, none⟩)] w fun e w' => e = mis ∧ KB rb w w' := by
  have HN := hide (next_in rb s (i + 1) tb kt w h hs hi)
  rw [hb] at HN
  have t34 : ((b : Int) == 34) = false := by rw [beq_eq_false_iff_ne]; omega
  have t92 : ((b : Int) == 92) = false := by rw [beq_eq_false_iff_ne]; omega
  have t47 : ((b : Int) == 47) = false := by rw [beq_eq_false_iff_ne]; omega
  have t98 : ((b : Int) == 98) = false := by rw [beq_eq_false_iff_ne]; omega
  have t102 : ((b : Int) == 102) = false := by rw [beq_eq_false_iff_ne]; omega
  have t110 : ((b : Int) == 110) = false := by rw [beq_eq_false_iff_ne]; omega
  have t114 : ((b : Int) == 114) = false := by rw [beq_eq_false_iff_ne]; omega
  have t116 : ((b : Int) == 116) = false := by rw [beq_eq_false_iff_ne]; omega
  have t117 : ((b : Int) == 117) = false := by rw [beq_eq_false_iff_ne]; omega
  clear h hb n34 n92 n47 n98 n102 n110 n114 n116 n117
  go_enter Tryz.func71, Tryz.ntmps71
  go_wp2_with fail
  refine (unhide HN).mono ?_
  rintro e w1 ⟨rfl, r1, k1⟩
  clear HN r1
  go_wp2
  exact ⟨rfl, rfl, k1⟩

theorem smp_none {b : Nat} (n34 : b ≠ 34) (n92 : b ≠ 92) (n47 : b ≠ 47) (n98 : b ≠ 98) (n102 : b ≠ 102) (n110 : b ≠ 110) (n114 : b ≠ 114) (n116 : b ≠ 116) : smp b = none := by
  unfold smp; rw [if_neg n34, if_neg n92, if_neg n47, if_neg n98, if_neg n102, if_neg n110, if_neg n114, if_neg n116]
theorem post_some {rb : Nat} {s : ByteArray} {tb kt : Bool} {w : World} {o : Option (Value × Nat)} {v : Value} {j : Nat} {e : Ending} {w' : World} (ho : o = some (v, j)) (h : e = .returned v ∧ Rdr rb s j tb kt w' ∧ KB rb w w') : Post rb s tb kt w o e w' := by
  subst ho; exact ⟨h.2.2, h.1, h.2.1⟩
theorem post_none {rb : Nat} {s : ByteArray} {tb kt : Bool} {w : World} {o : Option (Value × Nat)} {e : Ending} {w' : World} (ho : o = none) (h : e = mis ∧ KB rb w w') : Post rb s tb kt w o e w' := by
  subst ho; exact ⟨h.2, h.1⟩

theorem escape_walk (rb : Nat) (s : ByteArray) (i : Nat) (tb kt : Bool) (w : World) (h : Rdr rb s (i + 1) tb kt w) (hs : s.size ≤ 1048576) (hi : i + 1 ≤ s.size) (h0 : bt s i = 92) :
    Calls Tryz.prog 71 #[.pointer (some ⟨rb, 0, none⟩)] w (Post rb s tb kt w ((escP s i).map fun p => (.int .i32 (p.1 : Int), i + p.2))) := by
  by_cases hend : i + 1 = s.size
  · have hz : bt s (i + 1) = 0 := bt_out s (i + 1) (by omega)
    exact (esc_end rb s i tb kt w h hend).mono fun e w' hh => post_none (by rw [escP_n hz (by rfl) (by decide)]; rfl) hh
  by_cases n34 : bt s (i + 1) = 34
  · exact (esc_34 rb s i tb kt w h hs n34).mono fun e w' hh => post_some (by rw [escP_s n34 (by rfl)]; rfl) hh
  by_cases n92 : bt s (i + 1) = 92
  · exact (esc_92 rb s i tb kt w h hs n92).mono fun e w' hh => post_some (by rw [escP_s n92 (by rfl)]; rfl) hh
  by_cases n47 : bt s (i + 1) = 47
  · exact (esc_47 rb s i tb kt w h hs n47).mono fun e w' hh => post_some (by rw [escP_s n47 (by rfl)]; rfl) hh
  by_cases n98 : bt s (i + 1) = 98
  · exact (esc_98 rb s i tb kt w h hs n98).mono fun e w' hh => post_some (by rw [escP_s n98 (by rfl)]; rfl) hh
  by_cases n102 : bt s (i + 1) = 102
  · exact (esc_102 rb s i tb kt w h hs n102).mono fun e w' hh => post_some (by rw [escP_s n102 (by rfl)]; rfl) hh
  by_cases n110 : bt s (i + 1) = 110
  · exact (esc_110 rb s i tb kt w h hs n110).mono fun e w' hh => post_some (by rw [escP_s n110 (by rfl)]; rfl) hh
  by_cases n114 : bt s (i + 1) = 114
  · exact (esc_114 rb s i tb kt w h hs n114).mono fun e w' hh => post_some (by rw [escP_s n114 (by rfl)]; rfl) hh
  by_cases n116 : bt s (i + 1) = 116
  · exact (esc_116 rb s i tb kt w h hs n116).mono fun e w' hh => post_some (by rw [escP_s n116 (by rfl)]; rfl) hh
  by_cases n117 : bt s (i + 1) = 117
  · exact esc_u rb s i tb kt w h hs (by omega) h0 n117
  exact (esc_no rb s i tb kt w h hs (by omega) _ rfl n34 n92 n47 n98 n102 n110 n114 n116 n117).mono fun e w' hh => post_none (by rw [escP_n rfl (smp_none n34 n92 n47 n98 n102 n110 n114 n116) n117]; rfl) hh
end Go.Proofs.YtadefcohbkgbfabGreatDoor


namespace Go.Proofs.YtadefcohbkgbfabGreatDoor
open Go.RowKit

def idxOk (t : List UInt8) : Bool := decide (1 ≤ t.length) && decide (t.length ≤ 6) && !(decide ((t.getD 0 0).toNat = 48) && decide (1 < t.length)) && t.all fun c => isDg c.toNat
/-- The index that a token is. -/
def idxT (t : List UInt8) : Option Nat := if idxOk t = true then some (digV t) else none
/-- The value that a token leads to. -/
def childV : JV → List UInt8 → Option JV
  | .arr l, t => (idxT t).bind fun i => l.toL[i]?
  | .obj m, t => (m.toL.find? fun q => q.1 == t).map (·.2)
  | _, _ => none
end Go.Proofs.YtadefcohbkgbfabGreatDoor


namespace Go.Proofs.YtadefcohbkgbfabGreatDoor
open Go.RowKit

theorem okL_at : ∀ (l : JL), okL l → twL l = false → ∀ v ∈ l.toL, okV v ∧ twV v = false
  | .nil, _, _, v, hv => by simp [JL.toL] at hv
  | .cons x r, h, t, v, hv => by
    rw [okL] at h
    rw [twL, Bool.or_eq_false_iff] at t
    rw [JL.toL] at hv
    rcases List.mem_cons.1 hv with e | hv
    · rw [e]; exact ⟨h.1, t.1⟩
    · exact okL_at r h.2 t.2 v hv
theorem okM_at : ∀ (m : JM) (ks : List (List UInt8)), okM m → twM ks m = false → ∀ q ∈ m.toL, okV q.2 ∧ twV q.2 = false
  | .nil, _, _, _, q, hq => by simp [JM.toL] at hq
  | .cons k x r, ks, h, t, q, hq => by
    rw [okM] at h
    rw [twM] at t
    simp only [Bool.or_eq_false_iff] at t
    rw [JM.toL] at hq
    rcases List.mem_cons.1 hq with e | hq
    · rw [e]; exact ⟨h.2.1, t.1.1⟩
    · exact okM_at r (ks ++ [k]) h.2.2 t.2 q hq
end Go.Proofs.YtadefcohbkgbfabGreatDoor


namespace Go.Proofs.YtadefcohbkgbfabGreatDoor
open Go.RowKit

def insJ (p : List UInt8 × JV) : List (List UInt8 × JV) → List (List UInt8 × JV)
  | [] => [p]
  | q :: r => if p.1 < q.1 then q :: insJ p r else p :: q :: r
def isortJ (l : List (List UInt8 × JV)) : List (List UInt8 × JV) := (l.foldl (fun acc p => insJ p acc) []).reverse
def idxJ : Nat → List JV → List (List UInt8 × JV)
  | _, [] => []
  | b, v :: r => (decT b, v) :: idxJ (b + 1) r
/-- The parts of a value, as trees. -/
def kidsV : JV → List (List UInt8 × JV)
  | .arr l => idxJ 0 l.toL
  | .obj m => isortJ m.toL
  | _ => []
def kt (q : List UInt8 × JV) : List UInt8 × List UInt8 := (q.1, ct q.2)
theorem insJ_kt (p : List UInt8 × JV) : ∀ l : List (List UInt8 × JV), (insJ p l).map kt = insR (kt p) (l.map kt)
  | [] => rfl
  | q :: r => by
    rw [insJ, List.map_cons, insR]
    by_cases h : p.1 < q.1
    · have h' : (kt p).1 < (kt q).1 := h
      rw [if_pos h, if_pos h', List.map_cons, insJ_kt p r]
    · have h' : ¬ (kt p).1 < (kt q).1 := h
      rw [if_neg h, if_neg h', List.map_cons, List.map_cons]
theorem foldJ_kt : ∀ (l acc : List (List UInt8 × JV)), (l.foldl (fun acc p => insJ p acc) acc).map kt = (l.map kt).foldl (fun acc p => insR p acc) (acc.map kt)
  | [], acc => rfl
  | p :: l, acc => by rw [List.foldl_cons, List.map_cons, List.foldl_cons, foldJ_kt l, insJ_kt]
theorem isortJ_kt (l : List (List UInt8 × JV)) : (isortJ l).map kt = isort (l.map kt) := by
  unfold isortJ isort
  rw [List.map_reverse, foldJ_kt]
  rfl
theorem insJ_perm (p : List UInt8 × JV) : ∀ l, (insJ p l).Perm (p :: l)
  | [] => List.Perm.refl _
  | q :: r => by
    unfold insJ
    split
    · exact ((insJ_perm p r).cons q).trans (List.Perm.swap p q r)
    · exact List.Perm.refl _
theorem foldJ_perm : ∀ (l acc : List (List UInt8 × JV)), (l.foldl (fun acc p => insJ p acc) acc).Perm (l ++ acc)
  | [], acc => List.Perm.refl _
  | p :: l, acc => by
    rw [List.foldl_cons]
    exact (foldJ_perm l _).trans (((insJ_perm p acc).append_left l).trans (List.perm_middle))
theorem isortJ_perm (l : List (List UInt8 × JV)) : (isortJ l).Perm l := by
  unfold isortJ
  have := foldJ_perm l []
  rw [List.append_nil] at this
  exact (List.reverse_perm _).trans this
theorem idxJ_kt : ∀ (vs : List JV) (b : Nat), (idxJ b vs).map kt = idxF b (vs.map ct)
  | [], _ => rfl
  | v :: r, b => by rw [idxJ, List.map_cons, List.map_cons, idxF, idxJ_kt r]; rfl
theorem idxJ_len : ∀ (vs : List JV) (b : Nat), (idxJ b vs).length = vs.length
  | [], _ => rfl
  | v :: r, b => by rw [idxJ, List.length_cons, List.length_cons, idxJ_len r]
theorem idxJ_at : ∀ (vs : List JV) (b j : Nat) (h : j < (idxJ b vs).length), (idxJ b vs)[j] = (decT (b + j), vs[j]'(by rw [idxJ_len] at h; exact h))
  | [], b, j, h => by simp [idxJ] at h
  | t :: r, b, 0, h => rfl
  | t :: r, b, j + 1, h => by
    simp only [idxJ, List.getElem_cons_succ]
    rw [idxJ_at r (b + 1) j]
    rw [show b + 1 + j = b + (j + 1) by omega]
theorem idxJ_snd : ∀ (vs : List JV) (b : Nat), (idxJ b vs).map (·.2) = vs
  | [], _ => rfl
  | v :: r, b => by rw [idxJ, List.map_cons, idxJ_snd r]
theorem parts_kids (v : JV) : partsV v = (kidsV v).map kt := by
  cases v with
  | arr l => show idxF 0 (ctL l) = (idxJ 0 l.toL).map kt; rw [idxJ_kt, ctL_map]
  | obj m => show isort (ctM m) = (isortJ m.toL).map kt; rw [isortJ_kt, ctM_map]; rfl
  | nul => rfl
  | tt => rfl
  | ff => rfl
  | num l => rfl
  | str l => rfl
theorem dlK_at : ∀ (vs : List JV) (v : JV), v ∈ vs → depV v ≤ dl vs
  | [], v, h => by simp at h
  | x :: r, v, h => by
    rw [dl]
    rcases List.mem_cons.1 h with rfl | h
    · omega
    · have := dlK_at r v h; omega
/-- What holds of a part. -/
theorem kids_ok {v : JV} (hok : okV v) (htw : twV v = false) {q : List UInt8 × JV} (hq : q ∈ kidsV v) : okV q.2 ∧ twV q.2 = false ∧ depV q.2 + 1 ≤ depV v ∧ q.1.length + (ct q.2).length + 1 ≤ (ct v).length := by
  cases v with
  | arr l =>
    rw [okV] at hok
    rw [twV] at htw
    have hq' : q ∈ idxJ 0 l.toL := hq
    obtain ⟨j, hj, rfl⟩ := List.getElem_of_mem hq'
    have hl : j < l.toL.length := by rw [idxJ_len] at hj; exact hj
    rw [idxJ_at]
    simp only [Nat.zero_add]
    have hm := List.getElem_mem hl
    obtain ⟨a, b⟩ := okL_at l hok htw _ hm
    have hd := dlK_at _ _ hm
    have e := depL_dl l
    have hct : (ct (.arr l)).length = hold (ctL l).length + nl (ctL l) := by
      show (mkA (ctL l)).length = _
      have := joinC_nl (ctL l)
      simp [mkA]; omega
    have n1 : (ct l.toL[j]).length ≤ nl (ctL l) := by have := sum_at ((ctL l).map List.length) j (by rw [ctL_map]; simpa using hl); simpa [nl, ctL_map] using this
    have n2 := decT_len j
    have n3 : (ctL l).length = l.toL.length := by rw [ctL_map, List.length_map]
    refine ⟨a, b, ?_, ?_⟩
    · rw [depV]; omega
    · rw [hct]; unfold hold; omega
  | obj m =>
    rw [okV] at hok
    rw [twV] at htw
    have hm : q ∈ m.toL := (isortJ_perm _).subset hq
    obtain ⟨a, b⟩ := okM_at m [] hok htw _ hm
    have hd := dlK_at (m.toL.map (·.2)) q.2 (List.mem_map.2 ⟨q, hm, rfl⟩)
    have e := depM_dl m
    have hct := ctObj_len m
    have n1 := sumf_at memN hm
    simp only [memN] at n1
    have n2 := quoted_ge q.1
    refine ⟨a, b, ?_, ?_⟩
    · rw [depV]; omega
    · omega
  | nul => simp [kidsV] at hq
  | tt => simp [kidsV] at hq
  | ff => simp [kidsV] at hq
  | num l => simp [kidsV] at hq
  | str l => simp [kidsV] at hq
theorem kids_cnt (v : JV) : cntV v = ((kidsV v).map fun q => cntV q.2).sum + 1 := by
  cases v with
  | arr l =>
    rw [cntV, cntL_cl]
    show cl l.toL + 1 = ((idxJ 0 l.toL).map fun q => cntV q.2).sum + 1
    have e : ((idxJ 0 l.toL).map fun q => cntV q.2) = ((idxJ 0 l.toL).map (·.2)).map cntV := by rw [List.map_map]; rfl
    rw [e, idxJ_snd]; rfl
  | obj m =>
    rw [cntV, cntM_sum]
    show _ = ((isortJ m.toL).map fun q => cntV q.2).sum + 1
    rw [((isortJ_perm m.toL).map fun q => cntV q.2).sum_nat]
  | nul => rfl
  | tt => rfl
  | ff => rfl
  | num l => rfl
  | str l => rfl
/-- A pointer, one token further. -/
def ptrN (p k : List UInt8) : List UInt8 := p ++ 47 :: esc k
theorem ptrN_len (p k : List UInt8) : (ptrN p k).length ≤ p.length + 1 + 2 * k.length := by
  have := esc_le k
  simp [ptrN]; omega
/-- The places of a tree with the texts that lie there. -/
def hitF : Nat → List UInt8 → JV → List (List UInt8 × List UInt8)
  | 0, _, _ => []
  | n + 1, p, v => (p, ct v) :: (kidsV v).flatMap fun q => hitF n (ptrN p q.1) q.2
def plF (n : Nat) (p : List UInt8) (v : JV) : List (List UInt8) := (hitF n p v).map (·.1)
theorem plF_eq (n : Nat) (p : List UInt8) (v : JV) : plF (n + 1) p v = p :: (kidsV v).flatMap fun q => plF n (ptrN p q.1) q.2 := by
  unfold plF
  rw [hitF, List.map_cons, List.map_flatMap]
theorem flatK_len {α β : Type} (f : α → List β) (g : α → Nat) : ∀ l : List α, (∀ x ∈ l, (f x).length = g x) → (l.flatMap f).length = (l.map g).sum
  | [], _ => rfl
  | x :: r, h => by
    rw [List.flatMap_cons, List.length_append, List.map_cons, List.sum_cons, h x List.mem_cons_self, flatK_len f g r (fun y hy => h y (List.mem_cons_of_mem _ hy))]
theorem hitF_len : ∀ (n : Nat) (p : List UInt8) (v : JV), okV v → twV v = false → depV v ≤ n → (hitF n p v).length = cntV v
  | 0, p, v, _, _, h => by have := (dep_cnt v).2; omega
  | n + 1, p, v, h1, h2, h => by
    rw [hitF, List.length_cons, kids_cnt v]
    rw [flatK_len _ (fun q => cntV q.2) (kidsV v) (fun q hq => by
      obtain ⟨a, b, c, _⟩ := kids_ok h1 h2 hq
      exact hitF_len n _ q.2 a b (by omega))]
theorem plF_len {n : Nat} {p : List UInt8} {v : JV} (h1 : okV v) (h2 : twV v = false) (h : depV v ≤ n) : (plF n p v).length = cntV v := by
  unfold plF; rw [List.length_map, hitF_len n p v h1 h2 h]
/-- As many parts from the front. -/
theorem kids_take_cnt (v : JV) (k : Nat) : (((kidsV v).take k).map fun q => cntV q.2).sum + 1 ≤ cntV v := by
  rw [kids_cnt v]
  have e : (kidsV v) = (kidsV v).take k ++ (kidsV v).drop k := (List.take_append_drop _ _).symm
  have e2 : ((kidsV v).map fun q => cntV q.2).sum = (((kidsV v).take k).map fun q => cntV q.2).sum + (((kidsV v).drop k).map fun q => cntV q.2).sum := by
    conv => lhs; rw [e]
    rw [List.map_append, List.sum_append]
  omega
theorem flat_take {α β : Type} (f : α → List β) (l : List α) (k : Nat) (h : k < l.length) : (l.take (k + 1)).flatMap f = (l.take k).flatMap f ++ f l[k] := by
  rw [List.take_succ_eq_append_getElem h, List.flatMap_append]; simp
/-- Rows of different types lie apart. -/
theorem own_apart {w : World} {B B' e e' size size' n n' : Nat} {v v' : Value} {xs xs' : List Value} (h : w.ownsRow B e size v n xs) (h' : w.ownsRow B' e' size' v' n' xs') (hne : e ≠ e') : v.ownBlock = none ∨ v.ownBlock ≠ v'.ownBlock := by
  rcases h.2 with ⟨hv, _⟩ | ⟨g, cap, cur, hv, _, hg, _⟩
  · subst hv; exact .inl rfl
  · rcases h'.2 with ⟨hv', _⟩ | ⟨g', cap', cur', hv', _, hg', _⟩
    · subst hv; subst hv'; right; intro e; cases e
    · subst hv; subst hv'
      right
      intro e
      injection e with e
      simp only at e
      subst e
      rw [hg] at hg'
      injection hg' with e
      injection e with _ e
      exact hne e
end Go.Proofs.YtadefcohbkgbfabGreatDoor


namespace Go.Proofs.YtadefcohbkgbfabGreatDoor
open Go.RowKit

end Go.Proofs.YtadefcohbkgbfabGreatDoor

