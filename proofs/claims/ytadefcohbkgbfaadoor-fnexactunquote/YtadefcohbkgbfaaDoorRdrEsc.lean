import Derived.Test.YtadefcohbkgbfaaDoorRdrHex
namespace Go.Proofs.YtadefcohbkgbfaaDoor
open Go.RowKit

theorem isWord_u (s : ByteArray) (i : Nat) : isWord s i ⟨#[92, 117]⟩ ↔ bt s i = 92 ∧ bt s (i + 1) = 117 := by
  constructor
  · intro h
    exact ⟨h 0 (by decide), h 1 (by decide)⟩
  · rintro ⟨h0, h1⟩ k hk
    have : k < 2 := hk
    match k, this with
    | 0, _ => exact h0
    | 1, _ => exact h1

set_option maxHeartbeats 1600000 in
set_option maxRecDepth 100000 in
theorem hexRune_walk (rb : Nat) (s : ByteArray) (i : Nat) (tb kt : Bool) (w : World) (h : Rdr rb s (i + 2) tb kt w) (hs : s.size ≤ 1048576) (hi : i + 2 ≤ s.size) :
    Calls Tryd.prog 73 #[.pointer (some ⟨rb, 0, none⟩)] w (Post rb s tb kt w (((hexN s (i + 2) 4).bind (escU s i)).map fun p => (.int .i32 (p.1 : Int), i + p.2))) := by
  have HX := hide (hexNum_walk rb s (i + 2) tb kt w h hs hi)
  clear h
  cases hx1 : hexN s (i + 2) 4 with
  | none =>
    rw [hx1] at HX
    clear hx1
    go_enter Tryd.func73, Tryd.ntmps73
    go_wp2_with fail
    refine (unhide HX).mono ?_
    rintro e w1 ⟨k1, rfl⟩
    clear HX
    exact ⟨rfl, k1, rfl⟩
  | some u =>
    have hu : u < 65536 := hexN_lt s (i + 2) 4 u hx1
    have hin := hexN_in hx1
    rw [hx1] at HX
    clear hx1
    simp only [Option.bind_some]
    by_cases h1 : u < 55296 ∨ 57344 ≤ u
    · have HE : Hid (escU s i u = some (u, 6)) := by show _ = _; unfold escU; rw [if_pos h1]
      rcases h1 with h1 | h1
      · have a1 : (u : Int) < 55296 := by omega
        go_enter Tryd.func73, Tryd.ntmps73
        go_wp2_with fail
        refine (unhide HX).mono ?_
        rintro e w1 ⟨k1, rfl, r1⟩
        have R1 := hide r1
        clear HX r1
        go_wp2
        go_ret
        exact ⟨k1, by rw [unhide HE]; exact ⟨rfl, unhide R1⟩⟩
      · have a1 : ¬ (u : Int) < 55296 := by omega
        have a2 : (57343 : Int) < (u : Int) := by omega
        have d1 : decide ((u : Int) < 55296) = false := by simp; omega
        go_enter Tryd.func73, Tryd.ntmps73
        go_wp2_with fail
        refine (unhide HX).mono ?_
        rintro e w1 ⟨k1, rfl, r1⟩
        have R1 := hide r1
        clear HX r1
        go_wp2
        go_ret
        exact ⟨k1, by rw [unhide HE]; exact ⟨rfl, unhide R1⟩⟩
    · have a1 : ¬ (u : Int) < 55296 := by omega
      have a2 : ¬ (57343 : Int) < (u : Int) := by omega
      by_cases h2 : 56320 ≤ u
      · have HE : Hid (escU s i u = none) := by show _ = _; unfold escU; rw [if_neg h1, if_pos h2]
        have a3 : (56319 : Int) < (u : Int) := by omega
        clear h1
        go_enter Tryd.func73, Tryd.ntmps73
        go_wp2_with fail
        refine (unhide HX).mono ?_
        rintro e w1 ⟨k1, rfl, r1⟩
        clear HX r1
        go_wp2
        exact ⟨rfl, k1, by rw [unhide HE]; rfl⟩
      · have a3 : ¬ (56319 : Int) < (u : Int) := by omega
        have U12 : Hid ((55296 : Int) ≤ (u : Int) ∧ (u : Int) ≤ 56319) := by show _ ∧ _; omega
        by_cases hw : bt s (i + 6) = 92 ∧ bt s (i + 6 + 1) = 117
        · have hw' := (isWord_u s (i + 6)).2 hw
          have hin7 : i + 6 + 1 < s.size := bt_in (by rw [hw.2]; decide)
          have HW : Hid (∀ w, Rdr rb s (i + 6) tb kt w → Calls Tryd.prog 81 #[.pointer (some ⟨rb, 0, none⟩), .string ⟨#[92, 117]⟩] w fun e w' => e = .returned (.tuple #[]) ∧ Rdr rb s (i + 6 + 2) tb kt w' ∧ KB rb w w') :=
            fun w h => word_yes rb s (i + 6) tb kt w h hs ⟨#[92, 117]⟩ (by decide) (by show i + 6 + 2 ≤ _; omega) hw'
          have HX2 : Hid (∀ w, Rdr rb s (i + 6 + 2) tb kt w → Calls Tryd.prog 80 #[.pointer (some ⟨rb, 0, none⟩)] w (Post rb s tb kt w ((hexN s (i + 6 + 2) 4).map fun v : Nat => (.int .i32 (v : Int), i + 6 + 2 + 4)))) :=
            fun w h => hexNum_walk rb s (i + 6 + 2) tb kt w h hs (by omega)
          have eU : unit s (i + 6) = hexN s (i + 6 + 2) 4 := by unfold unit; rw [if_pos hw]
          clear hw hw'
          cases hx2 : hexN s (i + 6 + 2) 4 with
          | none =>
            have HE : Hid (escU s i u = none) := by show _ = _; unfold escU; rw [if_neg h1, if_neg h2, eU, hx2]; rfl
            rw [hx2] at HX2
            clear hx2 eU h1 h2
            go_enter Tryd.func73, Tryd.ntmps73
            go_wp2_with fail
            refine (unhide HX).mono ?_
            rintro e w1 ⟨k1, rfl, r1⟩
            have R1 := hide r1
            clear HX r1
            go_wp2_with fail
            refine (unhide HW _ (unhide R1)).mono ?_
            rintro e w2 ⟨rfl, r2, k2⟩
            have R2 := hide r2
            clear HW r2
            go_wp2_with fail
            refine (unhide HX2 _ (unhide R2)).mono ?_
            rintro e w3 ⟨k3, rfl⟩
            clear HX2
            exact ⟨rfl, (k1.trans k2).trans k3, by rw [unhide HE]; rfl⟩
          | some v =>
            have hv : v < 65536 := hexN_lt s (i + 6 + 2) 4 v hx2
            rw [hx2] at HX2
            by_cases h3 : 56320 ≤ v ∧ v < 57344
            · have HE : Hid (escU s i u = some (65536 + (u - 55296) * 1024 + (v - 56320), 12)) := by
                show _ = _; unfold escU; rw [if_neg h1, if_neg h2, eU, hx2]; simp only [Option.bind_some]; rw [if_pos h3]
              have v1 : (56320 : Int) ≤ (v : Int) := by omega
              have v2 : (v : Int) ≤ 57343 := by omega
              have v3 : ¬ (v : Int) < 56320 := by omega
              have v4 : ¬ (57343 : Int) < (v : Int) := by omega
              clear hx2 eU h1 h2 h3
              go_enter Tryd.func73, Tryd.ntmps73
              go_wp2_with fail
              refine (unhide HX).mono ?_
              rintro e w1 ⟨k1, rfl, r1⟩
              have R1 := hide r1
              clear HX r1
              go_wp2_with fail
              refine (unhide HW _ (unhide R1)).mono ?_
              rintro e w2 ⟨rfl, r2, k2⟩
              have R2 := hide r2
              clear HW r2
              go_wp2_with fail
              refine (unhide HX2 _ (unhide R2)).mono ?_
              rintro e w3 ⟨k3, rfl, r3⟩
              have R3 := hide r3
              clear HX2 r3
              obtain ⟨u1, u2⟩ := unhide U12
              go_wp2
              go_ret
              refine ⟨(k1.trans k2).trans k3, ?_⟩
              rw [unhide HE]
              exact ⟨ret_int (by omega), unhide R3⟩
            · have HE : Hid (escU s i u = none) := by
                show _ = _; unfold escU; rw [if_neg h1, if_neg h2, eU, hx2]; simp only [Option.bind_some]; rw [if_neg h3]
              rcases (show v < 56320 ∨ 57344 ≤ v from by omega) with h4 | h4
              · have v1 : (v : Int) ≤ 56319 := by omega
                clear hx2 eU h1 h2 h3 h4
                go_enter Tryd.func73, Tryd.ntmps73
                go_wp2_with fail
                refine (unhide HX).mono ?_
                rintro e w1 ⟨k1, rfl, r1⟩
                have R1 := hide r1
                clear HX r1
                go_wp2_with fail
                refine (unhide HW _ (unhide R1)).mono ?_
                rintro e w2 ⟨rfl, r2, k2⟩
                have R2 := hide r2
                clear HW r2
                go_wp2_with fail
                refine (unhide HX2 _ (unhide R2)).mono ?_
                rintro e w3 ⟨k3, rfl, r3⟩
                clear HX2 r3
                go_wp2
                exact ⟨rfl, (k1.trans k2).trans k3, by rw [unhide HE]; rfl⟩
              · have v1 : ¬ (v : Int) < 56320 := by omega
                have v2 : (57343 : Int) < (v : Int) := by omega
                clear hx2 eU h1 h2 h3
                go_enter Tryd.func73, Tryd.ntmps73
                go_wp2_with fail
                refine (unhide HX).mono ?_
                rintro e w1 ⟨k1, rfl, r1⟩
                have R1 := hide r1
                clear HX r1
                go_wp2_with fail
                refine (unhide HW _ (unhide R1)).mono ?_
                rintro e w2 ⟨rfl, r2, k2⟩
                have R2 := hide r2
                clear HW r2
                go_wp2_with fail
                refine (unhide HX2 _ (unhide R2)).mono ?_
                rintro e w3 ⟨k3, rfl, r3⟩
                clear HX2 r3
                go_wp2
                exact ⟨rfl, (k1.trans k2).trans k3, by rw [unhide HE]; rfl⟩
        · have HE : Hid (escU s i u = none) := by
            show _ = _; unfold escU; rw [if_neg h1, if_neg h2]; unfold unit; rw [if_neg hw]; rfl
          have HW : Hid (∀ w, Rdr rb s (i + 6) tb kt w → Calls Tryd.prog 81 #[.pointer (some ⟨rb, 0, none⟩), .string ⟨#[92, 117]⟩] w fun e w' => e = mis ∧ KB rb w w') :=
            fun w h => word_no rb s (i + 6) tb kt w h hs ⟨#[92, 117]⟩ (by decide) (fun k hk => by
              have : k < 2 := hk
              match k, this with
              | 0, _ => decide
              | 1, _ => decide) (by omega) (fun h => hw ((isWord_u s (i + 6)).1 h))
          clear h1 h2 hw
          go_enter Tryd.func73, Tryd.ntmps73
          go_wp2_with fail
          refine (unhide HX).mono ?_
          rintro e w1 ⟨k1, rfl, r1⟩
          have R1 := hide r1
          clear HX r1
          go_wp2_with fail
          refine (unhide HW _ (unhide R1)).mono ?_
          rintro e w2 ⟨rfl, k2⟩
          clear HW
          exact ⟨rfl, k1.trans k2, by rw [unhide HE]; rfl⟩
end Go.Proofs.YtadefcohbkgbfaaDoor
