import Derived.Test.YtlfonikfjibloaaGreatDoorBt16
import Derived.Test.YtlfonikfjibloaaGreatDoorBt9
import Derived.Test.YtlfonikfjibloaaGreatDoorBt17
namespace Go.Proofs.YtlfonikfjibloaaGreatDoor
open Go.RowKit

/-- How long a drawn value may be. -/
def GB : Nat → Nat
  | 0 => 50
  | d + 1 => 98 + 4 * GB d
theorem GB_le : ∀ d, 50 ≤ GB d
  | 0 => Nat.le_refl _
  | d + 1 => by have := GB_le d; rw [GB]; omega
theorem GB_top : ∀ d, d ≤ 4 → GB d ≤ 21130 := by
  intro d hd
  rcases (show d = 0 ∨ d = 1 ∨ d = 2 ∨ d = 3 ∨ d = 4 from by omega) with h | h | h | h | h <;> subst h <;> decide
/-- Parts under way. -/
structure GS (w : World) (B rb M : Nat) (v : Value) (ps : List Part) (wr : World) : Prop where
  row : PR wr w.heap.size v ps
  key : ∀ p ∈ ps, p.1.length ≤ 3 ∧ p.2.length ≤ M
  rd : RdIs wr B rb
  gr : w.grownBy wr (some rb)
theorem row_form {w : World} {B e size n : Nat} {v : Value} {xs : List Value} (h : w.ownsRow B e size v n xs) : ∃ a c, v = .slice a n c := by
  rcases h.2 with ⟨hv, h0⟩ | ⟨g, cap, cur, hv, _⟩
  · exact ⟨_, _, by rw [hv, h0]⟩
  · exact ⟨_, _, hv⟩
theorem GS.next {w wr w1 : World} {B rb M : Nat} {v : Value} {ps : List Part} (h : GS w B rb M v ps wr) (hr : RdIs w1 B rb) (hg : wr.grownBy w1 (some rb)) (hrb : rb < w.heap.size) : GS w B rb M v ps w1 :=
  ⟨own_grown h.row hg (fun k e => by injection e with e; omega), h.key, hr, grownBy_trans h.gr hg⟩
theorem GS.step {w wr w7 : World} {B rb M : Nat} {v v7 : Value} {ps : List Part} (h : GS w B rb M v ps wr) {t1 t2 : List UInt8} (h1 : t1.length ≤ 3) (h2 : t2.length ≤ M) {o : Obj} (own : w7.ownsRow w.heap.size 100 2 v7 (ps.length + 1) (ps.flatMap partC ++ partC (t1, t2))) (hg : (wr.alloc o).grownBy w7 v.ownBlock) (hrb : rb < w.heap.size) : GS w B rb M v7 (ps ++ [(t1, t2)]) w7 := by
  have hs := h.gr.size
  have hrl := h.rd.lt
  obtain ⟨_, _, _, _, _, _, _, hBr, _⟩ := id h.rd
  refine ⟨?_, fun p hp => ?_, (h.rd.grown (World.grownBy_alloc wr o none) (by simp) (fun k e => by cases e)).grown hg (fun e => ?_) (fun k e => ?_), grownBy_new (grownBy_trans h.gr (World.grownBy_alloc wr o _)) hg (fun k e => (World.ownsRow.lt h.row k e).1)⟩
  · unfold PR; rw [List.length_append, List.flatMap_append]; simpa using own
  · rcases List.mem_append.1 hp with hp | hp
    · exact h.key p hp
    · simp at hp; subst hp; exact ⟨h1, h2⟩
  · have h3 := (World.ownsRow.lt h.row rb e.symm).1
    omega
  · have := (World.ownsRow.lt h.row k e).1; omega
theorem GS.sumA {w wr : World} {B rb M : Nat} {v : Value} {ps : List Part} (h : GS w B rb M v ps wr) : sumA ps ≤ ps.length * (M + 1) := by
  have : ∀ ps : List Part, (∀ p ∈ ps, p.1.length ≤ 3 ∧ p.2.length ≤ M) → Go.Proofs.YtlfonikfjibloaaGreatDoor.sumA ps ≤ ps.length * (M + 1) := by
    intro ps
    induction ps with
    | nil => intro _; simp [Go.Proofs.YtlfonikfjibloaaGreatDoor.sumA]
    | cons p r ih =>
      intro hk
      have h1 := ih (fun q hq => hk q (List.mem_cons_of_mem _ hq))
      have h2 := (hk p List.mem_cons_self).2
      unfold Go.Proofs.YtlfonikfjibloaaGreatDoor.sumA at *
      rw [List.map_cons, List.sum_cons, List.length_cons, Nat.add_mul]; omega
  exact this ps h.key
theorem GS.sumT {w wr : World} {B rb M : Nat} {v : Value} {ps : List Part} (h : GS w B rb M v ps wr) : sumT ps ≤ ps.length * (M + 22) := by
  have : ∀ ps : List Part, (∀ p ∈ ps, p.1.length ≤ 3 ∧ p.2.length ≤ M) → Go.Proofs.YtlfonikfjibloaaGreatDoor.sumT ps ≤ ps.length * (M + 22) := by
    intro ps
    induction ps with
    | nil => intro _; simp [Go.Proofs.YtlfonikfjibloaaGreatDoor.sumT]
    | cons p r ih =>
      intro hk
      have h1 := ih (fun q hq => hk q (List.mem_cons_of_mem _ hq))
      have h2 := hk p List.mem_cons_self
      have h3 := quoted_len p.1
      have h4 := memT_parts p
      unfold Go.Proofs.YtlfonikfjibloaaGreatDoor.sumT at *
      rw [List.map_cons, List.sum_cons, List.length_cons, Nat.add_mul]; omega
  exact this ps h.key
theorem mkA_len {ps : List Part} : (mkA (ps.map (·.2))).length ≤ sumA ps + 2 := by
  have h := joinA_len ps ps.length
  rw [List.take_length] at h
  simp [mkA]; omega
theorem mkO_raw (ps : List Part) : (mkO ps).length ≤ sumT ps + 2 := by
  have h := joinC_take_len ps ps.length
  rw [List.take_length] at h
  simp [mkO]; omega

set_option maxRecDepth 100000 in
set_option maxHeartbeats 8000000 in
theorem gen_walk : ∀ (d : Nat) (dI : Int) (B rb : Nat) (w : World), dI = d → d ≤ 4 → RdIs w B rb → Calls Tryz.prog 165 #[.pointer (some ⟨rb, 0, none⟩), .int .i64 dI] w (DP B rb (GB d) w) := by
  intro d
  induction d with
  | zero =>
    intro dI B rb w hd _ h
    obtain rfl : dI = 0 := by omega
    have HX := hide (next_walk B rb w h)
    clear h hd
    go_enter Tryz.func165, Tryz.ntmps165
    go_wp2_with fail
    refine (unhide HX).mono ?_
    rintro e w2 ⟨x, hx, rfl, r1, g1⟩
    have HR2 := hide r1
    have HG2 := hide g1
    clear HX r1 g1
    rcases (show x % 5 = 0 ∨ x % 5 = 1 ∨ x % 5 = 2 ∨ x % 5 = 3 ∨ x % 5 = 4 from by omega) with h | h | h | h | h
    · have e : (x : Int) % 5 = 0 := by omega
      clear h
      have HN := hide (gnum_walk B rb w2 (unhide HR2))
      go_wp2_with fail
      refine (unhide HN).mono ?_
      rintro e w3 ⟨t, ht, rfl, r3, g3⟩
      clear HN
      go_wp2
      go_ret
      exact ⟨t, by have := GB_le 0; omega, rfl, r3, grownBy_trans (unhide HG2) g3⟩
    · have e : (x : Int) % 5 = 1 := by omega
      have hd : (x : Int) / 10 = ((x / 10 : Nat) : Int) := by omega
      have HN := hide (raw_walk (x / 10) w2 (by omega))
      have hb : x / 10 ≤ 255 := by omega
      generalize x / 10 = z at *
      clear h
      go_wp2_with fail
      refine (unhide HN).mono ?_
      rintro e w3 ⟨t, ht, rfl, b3⟩
      clear HN
      go_wp2
      go_ret
      exact dp_below (unhide HR2) (unhide HG2) (by have := GB_le 0; omega) b3
    · have e : (x : Int) % 5 = 2 := by omega
      clear h
      go_wp2
      go_ret
      exact dp_below (t := [116, 114, 117, 101]) (unhide HR2) (unhide HG2) (by have := GB_le 0; simp; omega) (Below.refl _ _)
    · have e : (x : Int) % 5 = 3 := by omega
      clear h
      go_wp2
      go_ret
      exact dp_below (t := [110, 117, 108, 108]) (unhide HR2) (unhide HG2) (by have := GB_le 0; simp; omega) (Below.refl _ _)
    · have e : (x : Int) % 5 = 4 := by omega
      by_cases h2 : x / 10 % 2 = 0
      · have e2 : (x : Int) / 10 % 2 = 0 := by omega
        clear h h2
        have HN := hide (gnum_walk B rb w2 (unhide HR2))
        go_wp2_with fail
        refine (unhide HN).mono ?_
        rintro e w3 ⟨t, ht, rfl, r3, g3⟩
        clear HN
        go_wp2
        go_ret
        exact ⟨t, by have := GB_le 0; omega, rfl, r3, grownBy_trans (unhide HG2) g3⟩
      · have e2 : ((x : Int) / 10 % 2 == 0) = false := by simp; omega
        clear h h2
        go_wp2
        go_ret
        exact dp_below (t := [102, 97, 108, 115, 101]) (unhide HR2) (unhide HG2) (by have := GB_le 0; simp; omega) (Below.refl _ _)
  | succ d ih =>
    intro dI B rb w hd hd4 h
    have hdp : ¬ dI ≤ 0 := by omega
    have hdq : dI ≤ 4 := by omega
    have hdd : decide (dI ≤ 0) = false := by simp; omega
    have hrb := h.lt
    have HX := hide (next_walk B rb w h)
    have HIH : Hid (∀ (B rb : Nat) (w : World), RdIs w B rb → Calls Tryz.prog 165 #[.pointer (some ⟨rb, 0, none⟩), .int .i64 (dI - 1)] w (DP B rb (GB d) w)) := fun B rb w hr => ih (dI - 1) B rb w (by omega) (by omega) hr
    have HLE : Hid (98 + 4 * GB d ≤ GB (d + 1) ∧ GB (d + 1) ≤ 21130) := ⟨Nat.le_of_eq rfl, GB_top (d + 1) (by omega)⟩
    have hM : GB d ≤ 21130 := by have := unhide HLE; omega
    clear h ih
    generalize hM0 : GB d = M at *
    obtain ⟨d0, hd0⟩ : ∃ d0, d0 = d + 1 := ⟨_, rfl⟩
    rw [← hd0] at HLE ⊢
    clear hd hd4 hM0 hd0
    go_enter Tryz.func165, Tryz.ntmps165
    go_wp2_with fail
    refine (unhide HX).mono ?_
    rintro e w1 ⟨x, hx, rfl, r1, g1⟩
    have HL := hide (left_walk B rb w1 r1)
    have HG1 := hide g1
    clear HX r1 g1
    go_wp2_with fail
    refine (unhide HL).mono ?_
    rintro e w2 ⟨y, hy, rfl, r2, g2⟩
    have HR2 := hide r2
    have HG2 := hide (grownBy_trans (unhide HG1) g2)
    clear HL r2 g2 HG1 hy
    by_cases hy0 : (y : Int) ≤ 0
    · clear HIH hM hrb
      rcases (show x % 5 = 0 ∨ x % 5 = 1 ∨ x % 5 = 2 ∨ x % 5 = 3 ∨ x % 5 = 4 from by omega) with h | h | h | h | h
      · have e : (x : Int) % 5 = 0 := by omega
        clear h
        have HN := hide (gnum_walk B rb w2 (unhide HR2))
        go_wp2_with fail
        refine (unhide HN).mono ?_
        rintro e w3 ⟨t, ht, rfl, r3, g3⟩
        clear HN
        go_wp2
        go_ret
        exact ⟨t, by have := GB_le d0; omega, rfl, r3, grownBy_trans (unhide HG2) g3⟩
      · have e : (x : Int) % 5 = 1 := by omega
        have hd : (x : Int) / 10 = ((x / 10 : Nat) : Int) := by omega
        have HN := hide (raw_walk (x / 10) w2 (by omega))
        have hb : x / 10 ≤ 255 := by omega
        generalize x / 10 = z at *
        clear h
        go_wp2_with fail
        refine (unhide HN).mono ?_
        rintro e w3 ⟨t, ht, rfl, b3⟩
        clear HN
        go_wp2
        go_ret
        exact dp_below (unhide HR2) (unhide HG2) (by have := GB_le d0; omega) b3
      · have e : (x : Int) % 5 = 2 := by omega
        clear h
        go_wp2
        go_ret
        exact dp_below (t := [116, 114, 117, 101]) (unhide HR2) (unhide HG2) (by have := GB_le d0; simp; omega) (Below.refl _ _)
      · have e : (x : Int) % 5 = 3 := by omega
        clear h
        go_wp2
        go_ret
        exact dp_below (t := [110, 117, 108, 108]) (unhide HR2) (unhide HG2) (by have := GB_le d0; simp; omega) (Below.refl _ _)
      · have e : (x : Int) % 5 = 4 := by omega
        by_cases h2 : x / 10 % 2 = 0
        · have e2 : (x : Int) / 10 % 2 = 0 := by omega
          clear h h2
          have HN := hide (gnum_walk B rb w2 (unhide HR2))
          go_wp2_with fail
          refine (unhide HN).mono ?_
          rintro e w3 ⟨t, ht, rfl, r3, g3⟩
          clear HN
          go_wp2
          go_ret
          exact ⟨t, by have := GB_le d0; omega, rfl, r3, grownBy_trans (unhide HG2) g3⟩
        · have e2 : ((x : Int) / 10 % 2 == 0) = false := by simp; omega
          clear h h2
          go_wp2
          go_ret
          exact dp_below (t := [102, 97, 108, 115, 101]) (unhide HR2) (unhide HG2) (by have := GB_le d0; simp; omega) (Below.refl _ _)
    · have hyd : decide (y = 0) = false := by simp; omega
      have hye : decide ((y : Int) ≤ 0) = false := by simp; omega
      rcases (show x % 10 = 0 ∨ x % 10 = 1 ∨ x % 10 = 2 ∨ x % 10 = 3 ∨ x % 10 = 4 ∨ 5 ≤ x % 10 from by omega) with h | h | h | h | h | h
      · have e : (x : Int) % 10 = 0 := by omega
        clear h
        have HN := hide (gnum_walk B rb w2 (unhide HR2))
        go_wp2_with fail
        refine (unhide HN).mono ?_
        rintro e w3 ⟨t, ht, rfl, r3, g3⟩
        clear HN
        go_wp2
        go_ret
        exact ⟨t, by have := GB_le d0; omega, rfl, r3, grownBy_trans (unhide HG2) g3⟩
      · have e : (x : Int) % 10 = 1 := by omega
        have hd : (x : Int) / 10 = ((x / 10 : Nat) : Int) := by omega
        have HN := hide (raw_walk (x / 10) w2 (by omega))
        have hb : x / 10 ≤ 255 := by omega
        generalize x / 10 = z at *
        clear h
        go_wp2_with fail
        refine (unhide HN).mono ?_
        rintro e w3 ⟨t, ht, rfl, b3⟩
        clear HN
        go_wp2
        go_ret
        exact dp_below (unhide HR2) (unhide HG2) (by have := GB_le d0; omega) b3
      · have e : (x : Int) % 10 = 2 := by omega
        clear h
        go_wp2
        go_ret
        exact dp_below (t := [116, 114, 117, 101]) (unhide HR2) (unhide HG2) (by have := GB_le d0; simp; omega) (Below.refl _ _)
      · have e : (x : Int) % 10 = 3 := by omega
        clear h
        go_wp2
        go_ret
        exact dp_below (t := [110, 117, 108, 108]) (unhide HR2) (unhide HG2) (by have := GB_le d0; simp; omega) (Below.refl _ _)
      · have e : (x : Int) % 10 = 4 := by omega
        by_cases h2 : x / 10 % 2 = 0
        · have e2 : (x : Int) / 10 % 2 = 0 := by omega
          clear h h2
          have HN := hide (gnum_walk B rb w2 (unhide HR2))
          go_wp2_with fail
          refine (unhide HN).mono ?_
          rintro e w3 ⟨t, ht, rfl, r3, g3⟩
          clear HN
          go_wp2
          go_ret
          exact ⟨t, by have := GB_le d0; omega, rfl, r3, grownBy_trans (unhide HG2) g3⟩
        · have e2 : ((x : Int) / 10 % 2 == 0) = false := by simp; omega
          clear h h2
          go_wp2
          go_ret
          exact dp_below (t := [102, 97, 108, 115, 101]) (unhide HR2) (unhide HG2) (by have := GB_le d0; simp; omega) (Below.refl _ _)
      · have e0 : ((x : Int) % 10 == 0) = false := by simp; omega
        have e1 : ((x : Int) % 10 == 1) = false := by simp; omega
        have e2 : ((x : Int) % 10 == 2) = false := by simp; omega
        have e3 : ((x : Int) % 10 == 3) = false := by simp; omega
        have e4 : ((x : Int) % 10 == 4) = false := by simp; omega
        have hnn : 1 + (x : Int) / 10 % 4 = ((1 + x / 10 % 4 : Nat) : Int) := by omega
        have hn4 : 1 + x / 10 % 4 ≤ 4 := by omega
        generalize 1 + x / 10 % 4 = nn at *
        have hs2 := (unhide HG2).size
        have HO : Hid ((w2.alloc (.cells #[] 100)).ownsRow w.heap.size 100 2 (.slice (some ⟨w2.heap.size, 0, none⟩) 0 0) 0 []) := World.ownsRow_lit w2 #[] 0 hs2 (by unfold maxLen; omega) rfl
        have HGS : Hid (GS w B rb M (.slice (some ⟨w2.heap.size, 0, none⟩) 0 0) [] (w2.alloc (.cells #[] 100))) := ⟨unhide HO, fun p hp => by (cases hp), (unhide HR2).grown (World.grownBy_alloc w2 _ none) (by simp) (fun k e => by cases e), grownBy_trans (unhide HG2) (World.grownBy_alloc w2 _ _)⟩
        clear HO h
        go_wp2_with fail
        obtain ⟨i0, hi0, hz0, hz1, hz2⟩ := info_parts infoPart
        go_loopw [8, 9] (fun v i wr => ∃ (j : Nat) (ps : List Part) (va : Option Addr) (vc : Nat), v = .slice va ps.length vc ∧ i = .int .i64 j ∧ j ≤ nn ∧ ps.length ≤ j ∧ GS w B rb M (.slice va ps.length vc) ps wr) (fun _ i _ => nn - (intOf i).toNat)
        case atStart => exact ⟨0, [], _, _, rfl, rfl, Nat.zero_le _, Nat.le_refl _, unhide HGS⟩
        case round =>
          obtain ⟨j, ps, va, vc, rfl, rfl, hj, hpl, hgs⟩ := hrel
          have HS := hide hgs
          have hws := hgs.gr.size
          clear hgs HGS HR2 HG2
          by_cases hlt : j < nn
          · have hltI : (j : Int) < (nn : Int) := by omega
            have HX := hide (next_walk B rb wr (unhide HS).rd)
            go_wp2_with fail
            refine (unhide HX).mono ?_
            rintro e w3 ⟨y1, hy1, rfl, r3, g3⟩
            have HS3 := hide ((unhide HS).next r3 g3 hrb)
            have hw3 := (unhide HS3).gr.size
            clear HX HS r3 g3
            go_wp2_with fail
            refine (keyS_walk y1 w3 hy1).mono ?_
            rintro e w4 ⟨t1, ht1, rfl, rfl⟩
            have HG := hide (unhide HIH B rb w3 (unhide HS3).rd)
            go_wp2_with fail
            refine (unhide HG).mono ?_
            rintro e w5 ⟨t2, ht2, rfl, r5, g5⟩
            have HS5 := hide ((unhide HS3).next r5 g5 hrb)
            have hw5 := (unhide HS5).gr.size
            have OW5 : Hid (∀ o : Obj, (w5.alloc o).ownsRow w.heap.size 100 2 (.slice va ps.length vc) ps.length (ps.flatMap partC)) := fun o => World.ownsRow.alloc (unhide HS5).row o
            clear HG HS3 r5 g5 hy1
            by_cases h7 : (x : Int) % 10 < 7
            · have hkk : ps.length ≤ 4 := by omega
              go_wp2_with (at_builtin; refine wpList_append_own _ rfl (.tmp 71) (.tmp 75) 93 rfl w.heap.size 100 i0 (.agg #[.string ByteArray.empty, .string ByteArray.empty]) 2 32 Tryz.underlying93 hi0 hz0 hz1 hz2 rfl (by decide) _ _ _ rfl (unhide OW5 _) ⟨w5.heap.size, 0, none⟩ 1 1 (partC (t1, t2)) rfl rfl (lit2s _ _ _ _) (fun u hu => by { simp [partC] at hu; rcases hu with rfl | rfl <;> rfl }) (by unfold maxLen; omega) (by omega) (by simp; omega) ?_)
              intro v7 w7 own7 hg7 _
              obtain ⟨va7, vc7, rfl⟩ := row_form own7
              have hl7 : ps.length + 1 = (ps ++ [(t1, t2)]).length := by simp
              have HS7 := hide ((unhide HS5).step ht1 ht2 own7 hg7 hrb)
              rw [hl7] at HS7
              clear own7 hg7 HS5 OW5
              go_wp2
              go_roundw
              case rel => exact ⟨j + 1, ps ++ [(t1, t2)], va7, vc7, by rw [hl7], by go_num, by omega, by simp; omega, unhide HS7⟩
              case measure => simp [intOf]; omega
            · have HF := hide (find_walk w.heap.size _ ps t1 w5 (unhide HS5).row (by omega))
              go_wp2_with fail
              refine (unhide HF).mono ?_
              rintro e w6 ⟨z, rfl, hz, rfl⟩
              clear HF hz
              by_cases hzz : z < 0
              · have hkk : ps.length ≤ 4 := by omega
                go_wp2_with (at_builtin; refine wpList_append_own _ rfl (.tmp 71) (.tmp 75) 93 rfl w.heap.size 100 i0 (.agg #[.string ByteArray.empty, .string ByteArray.empty]) 2 32 Tryz.underlying93 hi0 hz0 hz1 hz2 rfl (by decide) _ _ _ rfl (unhide OW5 _) ⟨w5.heap.size, 0, none⟩ 1 1 (partC (t1, t2)) rfl rfl (lit2s _ _ _ _) (fun u hu => by { simp [partC] at hu; rcases hu with rfl | rfl <;> rfl }) (by unfold maxLen; omega) (by omega) (by simp; omega) ?_)
                intro v7 w7 own7 hg7 _
                obtain ⟨va7, vc7, rfl⟩ := row_form own7
                have hl7 : ps.length + 1 = (ps ++ [(t1, t2)]).length := by simp
                have HS7 := hide ((unhide HS5).step ht1 ht2 own7 hg7 hrb)
                rw [hl7] at HS7
                clear own7 hg7 HS5 OW5
                go_wp2
                go_roundw
                case rel => exact ⟨j + 1, ps ++ [(t1, t2)], va7, vc7, by rw [hl7], by go_num, by omega, by simp; omega, unhide HS7⟩
                case measure => simp [intOf]; omega
              · clear OW5
                go_wp2
                go_roundw
                case rel => exact ⟨j + 1, ps, va, vc, rfl, by go_num, by omega, by omega, unhide HS5⟩
                case measure => simp [intOf]; omega
          · have hltI : ¬ (j : Int) < (nn : Int) := by omega
            have hl4 : ps.length ≤ 4 := by omega
            have hsA := (unhide HS).sumA
            have hsT := (unhide HS).sumT
            have hA4 : ps.length * (M + 1) ≤ 4 * (M + 1) := Nat.mul_le_mul_right _ hl4
            have hT4 : ps.length * (M + 22) ≤ 4 * (M + 22) := Nat.mul_le_mul_right _ hl4
            have hlA := mkA_len (ps := ps)
            have hlO := mkO_raw ps
            have hle := unhide HLE
            have HW := hide (mkArr_walk w.heap.size _ ps wr (unhide HS).row (by omega) (by omega))
            have HV := hide (make_walk w.heap.size _ ps wr (unhide HS).row (by omega) (by omega) (fun p hp => by have := ((unhide HS).key p hp).1; omega))
            have HAL : Hid ((mkA (ps.map (·.2))).length ≤ GB d0) := by show _ ≤ _; omega
            have HOL : Hid ((mkO ps).length ≤ GB d0) := by show _ ≤ _; omega
            generalize mkA (ps.map (·.2)) = tA at *
            generalize mkO ps = tO at *
            clear hsA hsT hA4 hT4 hlA hlO hle HIH
            by_cases h7 : (x : Int) % 10 < 7
            · go_wp2_with fail
              refine (unhide HW).mono ?_
              rintro e w6 ⟨rfl, b6⟩
              clear HW HV
              go_wp2
              go_ret
              exact dp_below (unhide HS).rd (unhide HS).gr (unhide HAL) b6
            · go_wp2_with fail
              refine (unhide HV).mono ?_
              rintro e w6 ⟨rfl, b6⟩
              clear HW HV
              go_wp2
              go_ret
              exact dp_below (unhide HS).rd (unhide HS).gr (unhide HOL) b6
end Go.Proofs.YtlfonikfjibloaaGreatDoor
