import Derived.Test.YtiolpmhodbefoaaBp45
import Derived.Test.YtiolpmhodbefoaaBp35
namespace Go.Proofs.Ytiolpmhodbefoaa
open Go.RowKit

set_option maxRecDepth 100000 in
set_option maxHeartbeats 4000000 in
theorem rMaybe (rb : Nat) (s : ByteArray) (i : Nat) (d : Int) (w : World) (h : PRd rb s i d w) (hs : s.size ≤ 1048576) (hi : i ≤ s.size) :
    Calls Try.prog 102 #[.pointer (some ⟨rb, 0, none⟩)] w (Rd rb s i d w (pMI (dr s i)) fun x e _ => e = .returned (.tuple #[.int .i64 x.2, .bool x.1])) := by
  have HP := hide (ppeek rb s i d w h hi)
  have HD := hide (fun w => digN_walk (bt s i) w)
  have HI := hide (fun w h => rInt rb s i d w h hs hi)
  have hdef : pMI (dr s i) = if (bt s i = 45 ∨ isDg (bt s i) = true) then (pInt (dr s i)).map (fun p => ((true, p.1), p.2)) else some ((false, 0), dr s i) := by
    by_cases hl : i < s.size
    · have e := bt_at s i hl
      rw [dr_at hl]
      show (if isI s[i] = true then _ else _) = _
      have : (isI s[i] = true) ↔ (bt s i = 45 ∨ isDg (bt s i) = true) := by
        unfold isI
        rw [Bool.or_eq_true, beq_iff_eq, e]
        constructor
        · rintro (h | h)
          · left; rw [h]; rfl
          · right; exact h
        · rintro (h | h)
          · left; exact UInt8.toNat_inj.1 h
          · right; exact h
      simp only [this]
    · have e : bt s i = 0 := bt_out s i (by omega)
      rw [e, dr_end (by omega), if_neg (by decide)]; rfl
  have HV := hide hdef
  clear h hdef
  go_enter Try.func102, Try.ntmps102
  go_wp2_with fail
  refine (unhide HP).mono ?_
  rintro e w1 ⟨rfl, r1, k1⟩
  have HR1 := hide r1
  have K1 := hide k1
  clear HP r1 k1
  obtain ⟨b, hb⟩ : ∃ b, decide (¬ (bt s i = 45 ∨ isDg (bt s i) = true)) = b := ⟨_, rfl⟩
  have HB := hide hb
  clear hb
  go_upto_region 2 with fail
  go_cut [15] from 5 to 15 (fun x wx => x = .bool b ∧ w1 = wx)
  case first =>
    by_cases h45 : bt s i = 45
    · have n45 : ((bt s i : Int) != 45) = false := by rw [h45]; rfl
      have HV2 : Hid (b = false) := by show _ = _; rw [← unhide HB]; exact decide_eq_false fun h => h (.inl h45)
      clear h45
      go_wp2
      go_meet
      case rel => exact ⟨by rw [unhide HV2], rfl⟩
    · have n45 : ((bt s i : Int) != 45) = true := by rw [bne_iff_ne]; omega
      have HV2 : Hid (b = !isDg (bt s i)) := by show _ = _; rw [← unhide HB]; simp [h45]
      go_wp2_with fail
      refine (unhide HD _).mono ?_
      rintro e w2 ⟨rfl, rfl⟩
      go_wp2
      go_meet
      case rel => exact ⟨by rw [unhide HV2], rfl⟩
  obtain ⟨rfl, rfl⟩ := hcut
  cases b with
  | true =>
    have hh := of_decide_eq_true (unhide HB)
    have HV2 : Hid (pMI (dr s i) = some ((false, 0), dr s i)) := by show _ = _; rw [unhide HV, if_neg hh]
    clear hh HB HV
    go_wp2
    go_ret2
    refine ⟨unhide K1, fun h => (by rw [unhide HV2] at h; cases h), fun x t h => ?_⟩
    rw [unhide HV2] at h
    injection h with h
    injection h with h1 h2
    subst h1; subst h2
    exact ⟨i, rfl, Nat.le_refl _, hi, unhide HR1, rfl⟩
  | false =>
    have hh : bt s i = 45 ∨ isDg (bt s i) = true := Classical.byContradiction (of_decide_eq_false (unhide HB))
    have HV2 : Hid (pMI (dr s i) = (pInt (dr s i)).map (fun p => ((true, p.1), p.2))) := by show _ = _; rw [unhide HV, if_pos hh]
    have HC := hide (unhide HI w1 (unhide HR1))
    clear hh HB HV HI
    go_wp2_with fail
    refine (unhide HC).mono ?_
    rintro e w2 ⟨k2, hno, hyes⟩
    clear HC
    cases hp : pInt (dr s i) with
    | none =>
      obtain rfl := hno hp
      exact ⟨rfl, (unhide K1).trans k2, fun _ => rfl, fun x t h => by rw [unhide HV2, hp] at h; cases h⟩
    | some q =>
      obtain ⟨j, hj1, hj2, hj3, r2, rfl⟩ := hyes q.1 q.2 hp
      have HR2 := hide r2
      have K2 := hide ((unhide K1).trans k2)
      have HV3 : Hid (pMI (dr s i) = some ((true, q.1), dr s j)) := by show _ = _; rw [unhide HV2, hp, ← hj1]; rfl
      clear hno hyes hp k2 r2 hj1
      go_wp2
      go_ret2
      refine ⟨unhide K2, fun h => (by rw [unhide HV3] at h; cases h), fun x t h => ?_⟩
      rw [unhide HV3] at h
      injection h with h
      injection h with h1 h2
      subst h1; subst h2
      exact ⟨j, rfl, hj2, hj3, unhide HR2, rfl⟩
/-- A selector that the program has read, as a value. -/
def SV (w : World) (o : PSel) (e : Ending) (w' : World) : Prop := ∃ (q : Value) (bl : List Nat), e = .returned (.agg #[.int .i64 o.k, .string o.name, .bool o.hasA, .bool o.hasB, .bool o.hasC, .int .i64 o.a, .int .i64 o.b, .int .i64 o.c, q]) ∧ ORow fopE w' q o.cond bl ∧ Fsh w.heap.size bl
theorem SB.kb {rb : Nat} {w w' : World} {g : Nat} {k : Int} {t : ByteArray} {ha hb hc : Bool} {a b c : Int} {q : Value} (h : SB w g k t ha hb hc a b c q) (hk : KB rb w w') (hg : g ≠ rb) : SB w' g k t ha hb hc a b c q := (hk.block g h.lt hg).trans h
/-- A slice under way. -/
structure SI (rb : Nat) (s : ByteArray) (d : Int) (w wr : World) (j : Nat) (a b c : Bool × Int) : Prop where
  kb : KB rb w wr
  rd : PRd rb s j d wr
  r2 : SB wr w.heap.size 0 ⟨#[]⟩ false false false 0 0 0 (.slice none 0 0)
  r3 : SB wr (w.heap.size + 1) 4 ⟨#[]⟩ a.1 b.1 c.1 a.2 b.2 c.2 (.slice none 0 0)
  nb : rb < w.heap.size
section
variable {rb : Nat} {s : ByteArray} {d : Int} {w wr : World} {j : Nat} {a b c : Bool × Int}
theorem SI.step (h : SI rb s d w wr j a b c) {w2 : World} {j2 : Nat} (hk : KB rb wr w2) (hr : PRd rb s j2 d w2) : SI rb s d w w2 j2 a b c :=
  ⟨h.kb.trans hk, hr, h.r2.kb hk (by have := h.nb; omega), h.r3.kb hk (by have := h.nb; omega), h.nb⟩
theorem SI.set (h : SI rb s d w wr j a b c) {p q : Nat} {u v : Value} {x y z : Bool × Int} (h3 : SB ((wr.setCell ⟨w.heap.size + 1, p, none⟩ u).setCell ⟨w.heap.size + 1, q, none⟩ v) (w.heap.size + 1) 4 ⟨#[]⟩ x.1 y.1 z.1 x.2 y.2 z.2 (.slice none 0 0)) : SI rb s d w ((wr.setCell ⟨w.heap.size + 1, p, none⟩ u).setCell ⟨w.heap.size + 1, q, none⟩ v) j x y z := by
  have hn := h.nb
  have hb : Below w.heap.size wr ((wr.setCell ⟨w.heap.size + 1, p, none⟩ u).setCell ⟨w.heap.size + 1, q, none⟩ v) := ((Below.refl _ _).setCell (by show _ ≤ w.heap.size + 1; omega) _).setCell (by show _ ≤ w.heap.size + 1; omega) _
  exact ⟨kb_below h.kb hb, h.rd.below' hb hn, (h.r2.other (by show _ ≠ w.heap.size + 1; omega) _).other (by show _ ≠ w.heap.size + 1; omega) _, h3, hn⟩
theorem SI.setA (h : SI rb s d w wr j a b c) (x : Bool × Int) : SI rb s d w ((wr.setCell ⟨w.heap.size + 1, 5, none⟩ (.int .i64 x.2)).setCell ⟨w.heap.size + 1, 2, none⟩ (.bool x.1)) j x b c :=
  h.set (Go.heap_setCell_same _ _ 2 _ 43 _ (Go.heap_setCell_same wr _ 5 _ 43 _ h.r3))
theorem SI.setB (h : SI rb s d w wr j a b c) (x : Bool × Int) : SI rb s d w ((wr.setCell ⟨w.heap.size + 1, 6, none⟩ (.int .i64 x.2)).setCell ⟨w.heap.size + 1, 3, none⟩ (.bool x.1)) j a x c :=
  h.set (Go.heap_setCell_same _ _ 3 _ 43 _ (Go.heap_setCell_same wr _ 6 _ 43 _ h.r3))
theorem SI.setC (h : SI rb s d w wr j a b c) (x : Bool × Int) : SI rb s d w ((wr.setCell ⟨w.heap.size + 1, 7, none⟩ (.int .i64 x.2)).setCell ⟨w.heap.size + 1, 4, none⟩ (.bool x.1)) j a b x :=
  h.set (Go.heap_setCell_same _ _ 4 _ 43 _ (Go.heap_setCell_same wr _ 7 _ 43 _ h.r3))
theorem SI.out (h : SI rb s d w wr j a b c) (k : Int) (t : ByteArray) (ha hb hc : Bool) (x y z : Int) : KB rb w (putN wr w.heap.size 0 [.int .i64 k, .string t, .bool ha, .bool hb, .bool hc, .int .i64 x, .int .i64 y, .int .i64 z, .slice none 0 0]) ∧ PRd rb s j d (putN wr w.heap.size 0 [.int .i64 k, .string t, .bool ha, .bool hb, .bool hc, .int .i64 x, .int .i64 y, .int .i64 z, .slice none 0 0]) ∧ SV w ⟨k, t, ha, hb, hc, x, y, z, []⟩ (.returned (.agg #[.int .i64 k, .string t, .bool ha, .bool hb, .bool hc, .int .i64 x, .int .i64 y, .int .i64 z, .slice none 0 0])) (putN wr w.heap.size 0 [.int .i64 k, .string t, .bool ha, .bool hb, .bool hc, .int .i64 x, .int .i64 y, .int .i64 z, .slice none 0 0]) :=
  ⟨kb_below h.kb (putN_below (Below.refl _ _) (Nat.le_refl _) _ _), (putN_other (by have := h.nb; omega) _ _).trans h.rd, _, [], rfl, ORow.nil _ _, Fsh.nil _⟩
end
theorem head58 {s : ByteArray} {j : Nat} : ((dr s j).head? = some 58) ↔ bt s j = 58 := by
  by_cases hj : j < s.size
  · rw [dr_at hj, bt_at s j hj]
    simp only [List.head?_cons, Option.some.injEq]
    exact ⟨fun e => by rw [e]; rfl, fun e => UInt8.toNat_inj.1 e⟩
  · rw [dr_end (by omega), bt_out s j (by omega)]; simp
theorem pIS_none {s : ByteArray} {i : Nat} (h : pMI (dr s i) = none) : pIS (dr s i) = none := by unfold pIS; rw [h]
theorem pIS_ix {s : ByteArray} {i j : Nat} {a : Bool × Int} (h : pMI (dr s i) = some (a, dr s j)) (h1 : a.1 = true ∧ ¬ bt s j = 58) : pIS (dr s i) = some (idxS a.2, dr s j) := by
  unfold pIS; rw [h]; simp only; rw [if_pos ⟨h1.1, fun e => h1.2 (head58.1 e)⟩]
theorem pIS_sl {s : ByteArray} {i j : Nat} {a : Bool × Int} (h : pMI (dr s i) = some (a, dr s j)) (h1 : ¬ (a.1 = true ∧ ¬ bt s j = 58)) : (¬ bt s j = 58 → pIS (dr s i) = none) ∧ (bt s j = 58 → pIS (dr s i) = match pMI (dr s (j + 1)) with
          | none => none
          | some (b, v) => match v with
            | [] => some (slcS a b (false, 0), [])
            | e :: w => if e = 58 then (match pMI w with
                | none => none
                | some (c, z) => some (slcS a b c, z)) else some (slcS a b (false, 0), e :: w)) := by
  unfold pIS
  rw [h]
  simp only
  rw [if_neg (fun e => h1 ⟨e.1, fun e2 => e.2 (head58.2 e2)⟩)]
  refine ⟨fun hn => ?_, fun hy => ?_⟩
  · by_cases hj : j < s.size
    · rw [dr_at hj]; simp only; rw [if_neg (bt_ne hj 58 hn)]
    · rw [dr_end (by omega)]
  · obtain ⟨hj, hc⟩ := bt_is 58 hy (by decide)
    rw [dr_at hj]; simp only; rw [if_pos hc]
    rfl
theorem pIS_end {s : ByteArray} {q : Nat} {a b : Bool × Int} : (match dr s q with
            | [] => some (slcS a b (false, 0), [])
            | e :: w => if e = 58 then (match pMI w with
                | none => none
                | some (c, z) => some (slcS a b c, z)) else some (slcS a b (false, 0), e :: w)) = if bt s q = 58 then (match pMI (dr s (q + 1)) with
                | none => none
                | some (c, z) => some (slcS a b c, z)) else some (slcS a b (false, 0), dr s q) := by
  by_cases hq : q < s.size
  · rw [dr_at hq]
    simp only
    by_cases h58 : bt s q = 58
    · have hc : s[q] = 58 := by have h := h58; rw [bt_at s q hq] at h; exact UInt8.toNat_inj.1 h
      rw [if_pos hc, if_pos h58]
    · rw [if_neg (bt_ne hq 58 h58), if_neg h58]
  · rw [dr_end (by omega), bt_out s q (by omega), if_neg (by decide)]
set_option maxRecDepth 100000 in
set_option maxHeartbeats 8000000 in
theorem rIndex (rb : Nat) (s : ByteArray) (i : Nat) (d : Int) (w : World) (h : PRd rb s i d w) (hs : s.size ≤ 1048576) (hi : i ≤ s.size) :
    Calls Try.prog 92 #[.pointer (some ⟨rb, 0, none⟩)] w (Rd rb s i d w (pIS (dr s i)) (SV w)) := by
  have hlt := h.lt
  have hal := al_b w (.cells #[.int .i64 0, .string ⟨#[]⟩, .bool false, .bool false, .bool false, .int .i64 0, .int .i64 0, .int .i64 0, .slice none 0 0] 43)
  have hz : (w.alloc (.cells #[.int .i64 0, .string ⟨#[]⟩, .bool false, .bool false, .bool false, .int .i64 0, .int .i64 0, .int .i64 0, .slice none 0 0] 43)).heap.size = w.heap.size + 1 := by simp
  have h2 : SB (w.alloc (.cells #[.int .i64 0, .string ⟨#[]⟩, .bool false, .bool false, .bool false, .int .i64 0, .int .i64 0, .int .i64 0, .slice none 0 0] 43)) w.heap.size 0 ⟨#[]⟩ false false false 0 0 0 (.slice none 0 0) := heap_alloc_new w _
  have hal2 := al_b (w.alloc (.cells #[.int .i64 0, .string ⟨#[]⟩, .bool false, .bool false, .bool false, .int .i64 0, .int .i64 0, .int .i64 0, .slice none 0 0] 43)) (.cells #[.int .i64 4, .string ⟨#[]⟩, .bool false, .bool false, .bool false, .int .i64 0, .int .i64 0, .int .i64 0, .slice none 0 0] 43)
  have h3 := heap_alloc_new (w.alloc (.cells #[.int .i64 0, .string ⟨#[]⟩, .bool false, .bool false, .bool false, .int .i64 0, .int .i64 0, .int .i64 0, .slice none 0 0] 43)) (.cells #[.int .i64 4, .string ⟨#[]⟩, .bool false, .bool false, .bool false, .int .i64 0, .int .i64 0, .int .i64 0, .slice none 0 0] 43)
  rw [hz] at h3
  have S0 : Hid (SI rb s d w ((w.alloc (.cells #[.int .i64 0, .string ⟨#[]⟩, .bool false, .bool false, .bool false, .int .i64 0, .int .i64 0, .int .i64 0, .slice none 0 0] 43)).alloc (.cells #[.int .i64 4, .string ⟨#[]⟩, .bool false, .bool false, .bool false, .int .i64 0, .int .i64 0, .int .i64 0, .slice none 0 0] 43)) i (false, 0) (false, 0) (false, 0)) :=
    ⟨KB.of_below (below_next hal hal2), (h.below hal).below hal2, h2.below hal2, h3, hlt⟩
  have HM := hide (fun (j : Nat) (w : World) (hj : j ≤ s.size) h => rMaybe rb s j d w h hs hj)
  have HPK := hide (fun (j : Nat) (w : World) (hj : j ≤ s.size) h => ppeek rb s j d w h hj)
  clear h hal hz h2 hal2 h3
  go_enter Try.func92, Try.ntmps92
  go_wp2_with fail
  generalize ((w.alloc (.cells #[.int .i64 0, .string ⟨#[]⟩, .bool false, .bool false, .bool false, .int .i64 0, .int .i64 0, .int .i64 0, .slice none 0 0] 43)).alloc (.cells #[.int .i64 4, .string ⟨#[]⟩, .bool false, .bool false, .bool false, .int .i64 0, .int .i64 0, .int .i64 0, .slice none 0 0] 43)) = w0 at *
  refine (unhide HM i w0 hi (unhide S0).rd).mono ?_
  rintro e w1 ⟨k1, hno, hyes⟩
  cases hp : pMI (dr s i) with
  | none =>
    obtain rfl := hno hp
    exact ⟨rfl, (unhide S0).kb.trans k1, fun _ => rfl, fun x t h => by rw [pIS_none hp] at h; cases h⟩
  | some z =>
    obtain ⟨a, t⟩ := z
    obtain ⟨j, hj1, hj2, hj3, r1, rfl⟩ := hyes a t hp
    subst hj1
    have hS1 := (unhide S0).step k1 r1
    have S2 := hide (hS1.setA a)
    obtain ⟨c0, c1, c2, c3, c4, c5, c6, c7, c8⟩ := hS1.r3.cs
    obtain ⟨f0, f1, f2, f3, f4, f5, f6, f7, f8⟩ := hS1.r3.fz
    obtain ⟨g0, g1, g2, g3, g4, g5, g6, g7, g8⟩ := (show SB (w1.setCell ⟨w.heap.size + 1, 5, none⟩ (.int .i64 a.2)) (w.heap.size + 1) 4 ⟨#[]⟩ false false false a.2 0 0 (.slice none 0 0) from Go.heap_setCell_same w1 _ 5 _ 43 _ hS1.r3).cs
    obtain ⟨z0, z1, z2, z3, z4, z5, z6, z7, z8⟩ := (show SB (w1.setCell ⟨w.heap.size + 1, 5, none⟩ (.int .i64 a.2)) (w.heap.size + 1) 4 ⟨#[]⟩ false false false a.2 0 0 (.slice none 0 0) from Go.heap_setCell_same w1 _ 5 _ 43 _ hS1.r3).fz
    have HIX := hide (pIS_ix hp)
    have HSL := hide (pIS_sl hp)
    clear hno hyes hp k1 r1 S0 hS1
    go_upto_region 3 with fail
    generalize ((w1.setCell ⟨w.heap.size + 1, 5, none⟩ (.int .i64 a.2)).setCell ⟨w.heap.size + 1, 2, none⟩ (.bool a.1)) = w2 at *
    clear c0 c1 c2 c3 c4 c5 c6 c7 c8 f0 f1 f2 f3 f4 f5 f6 f7 f8 g0 g1 g2 g3 g4 g5 g6 g7 g8 z0 z1 z2 z3 z4 z5 z6 z7 z8
    obtain ⟨pb, hpb⟩ : ∃ b, decide (a.1 = true ∧ ¬ bt s j = 58) = b := ⟨_, rfl⟩
    have HPB := hide hpb
    clear hpb
    obtain ⟨a1, a2⟩ := a
    go_cut [20] from 12 to 20 (fun x wx => x = .bool pb ∧ SI rb s d w wx j (a1, a2) (false, 0) (false, 0))
    case first =>
      obtain ⟨c0, c1, c2, c3, c4, c5, c6, c7, c8⟩ := (unhide S2).r3.cs
      cases a1 with
      | true =>
        have HV : Hid (pb = !decide (bt s j = 58)) := by show _ = _; rw [← unhide HPB]; simp
        have HC := hide (unhide HPK j w2 hj3 (unhide S2).rd)
        by_cases h58 : bt s j = 58
        · have n58 : ((bt s j : Int) != 58) = false := by rw [h58]; rfl
          have HV2 : Hid (pb = false) := by show _ = _; rw [unhide HV, decide_eq_true h58]; rfl
          clear h58
          go_wp2_with fail
          refine (unhide HC).mono ?_
          rintro e w3 ⟨rfl, r3, k3⟩
          have S3 := hide ((unhide S2).step k3 r3)
          clear HC r3 k3
          go_wp2
          go_meet
          case rel => exact ⟨by rw [unhide HV2], unhide S3⟩
        · have n58 : ((bt s j : Int) != 58) = true := by rw [bne_iff_ne]; omega
          have HV2 : Hid (pb = true) := by show _ = _; rw [unhide HV, decide_eq_false h58]; rfl
          clear h58
          go_wp2_with fail
          refine (unhide HC).mono ?_
          rintro e w3 ⟨rfl, r3, k3⟩
          have S3 := hide ((unhide S2).step k3 r3)
          clear HC r3 k3
          go_wp2
          go_meet
          case rel => exact ⟨by rw [unhide HV2], unhide S3⟩
      | false =>
        have HV2 : Hid (pb = false) := by show _ = _; rw [← unhide HPB]; simp
        go_wp2
        go_meet
        case rel => exact ⟨by rw [unhide HV2], unhide S2⟩
    obtain ⟨rfl, hS3⟩ := hcut
    have SX := hide hS3
    clear hS3 S2
    obtain ⟨c0, c1, c2, c3, c4, c5, c6, c7, c8⟩ := (unhide SX).r2.cs
    obtain ⟨f0, f1, f2, f3, f4, f5, f6, f7, f8⟩ := (unhide SX).r2.fz
    cases pb with
    | true =>
      have hR := unhide HIX (of_decide_eq_true (unhide HPB))
      have HR := hide hR
      obtain ⟨q0, q1, q2, q3, q4, q5, q6, q7, q8⟩ := (unhide SX).r3.cs
      clear hR HIX HSL HPB
      go_wp2
      refine bodyPost_ret (results_cell_row rfl _ _ w.heap.size 43 #[_, _, _, _, _, _, _, _, _] (0, 0) _ rfl (putN_full (unhide SX).r2 [_, _, _, _, _, _, _, _, _] rfl) Try.underlying43 rfl (by kernel_rfl)) rfl ?_
      obtain ⟨o1, o2, o3⟩ := (unhide SX).out 3 ⟨#[]⟩ false false false a2 0 0
      refine ⟨o1, fun h => (by rw [unhide HR] at h; cases h), fun x t h => ?_⟩
      rw [unhide HR] at h
      injection h with h
      injection h with h1 h2
      subst h1; subst h2
      exact ⟨j, rfl, hj2, hj3, o2, o3⟩
    | false =>
      obtain ⟨hn58, hy58⟩ := unhide HSL (of_decide_eq_false (unhide HPB))
      have HN58 := hide hn58
      have HY58 := hide hy58
      clear hn58 hy58 HIX HSL HPB c0 c1 c2 c3 c4 c5 c6 c7 c8 f0 f1 f2 f3 f4 f5 f6 f7 f8
      by_cases h58 : bt s j = 58
      · obtain ⟨hjl, -⟩ := bt_is 58 h58 (by decide)
        have HC := hide (pexpect_yes rb s j d wc (unhide SX).rd hs 58 h58 hjl)
        have HV := hide (unhide HY58 h58)
        clear h58 HN58 HY58
        go_wp2_with fail
        refine (unhide HC).mono ?_
        rintro e w3 ⟨rfl, r3, k3⟩
        have S3 := hide ((unhide SX).step k3 r3)
        have HC2 := hide (unhide HM (j + 1) w3 (by omega) r3)
        clear HC r3 k3 SX
        go_wp2_with fail
        refine (unhide HC2).mono ?_
        rintro e w4 ⟨k4, hno, hyes⟩
        clear HC2
        cases hp : pMI (dr s (j + 1)) with
        | none =>
          obtain rfl := hno hp
          exact ⟨rfl, (unhide S3).kb.trans k4, fun _ => rfl, fun x t h => by rw [unhide HV, hp] at h; cases h⟩
        | some z =>
          obtain ⟨b, t⟩ := z
          obtain ⟨q, hq1, hq2, hq3, r4, rfl⟩ := hyes b t hp
          subst hq1
          obtain ⟨b1, b2⟩ := b
          have hS4 := (unhide S3).step k4 r4
          have S5 := hide (hS4.setB (b1, b2))
          obtain ⟨c0, c1, c2, c3, c4, c5, c6, c7, c8⟩ := hS4.r3.cs
          obtain ⟨f0, f1, f2, f3, f4, f5, f6, f7, f8⟩ := hS4.r3.fz
          have hM : SB (w4.setCell ⟨w.heap.size + 1, 6, none⟩ (.int .i64 b2)) (w.heap.size + 1) 4 ⟨#[]⟩ a1 false false a2 b2 0 (.slice none 0 0) := Go.heap_setCell_same w4 _ 6 _ 43 _ hS4.r3
          obtain ⟨g0, g1, g2, g3, g4, g5, g6, g7, g8⟩ := hM.cs
          obtain ⟨z0, z1, z2, z3, z4, z5, z6, z7, z8⟩ := hM.fz
          have HV2 : Hid (pIS (dr s i) = if bt s q = 58 then (match pMI (dr s (q + 1)) with
                | none => none
                | some (c, z) => some (slcS (a1, a2) (b1, b2) c, z)) else some (slcS (a1, a2) (b1, b2) (false, 0), dr s q)) := by show _ = _; rw [unhide HV, hp]; exact pIS_end
          clear hno hyes hp k4 r4 S3 hS4 hM HV
          go_upto_region 7 with fail
          generalize ((w4.setCell ⟨w.heap.size + 1, 6, none⟩ (.int .i64 b2)).setCell ⟨w.heap.size + 1, 3, none⟩ (.bool b1)) = w5 at *
          clear c0 c1 c2 c3 c4 c5 c6 c7 c8 f0 f1 f2 f3 f4 f5 f6 f7 f8 g0 g1 g2 g3 g4 g5 g6 g7 g8 z0 z1 z2 z3 z4 z5 z6 z7 z8
          by_cases h58 : bt s q = 58
          · obtain ⟨hql, -⟩ := bt_is 58 h58 (by decide)
            have HC3 := hide (pskip_yes rb s q d w5 (unhide S5).rd hs 58 h58 hql)
            have HV3 : Hid (pIS (dr s i) = match pMI (dr s (q + 1)) with
                | none => none
                | some (c, z) => some (slcS (a1, a2) (b1, b2) c, z)) := by show _ = _; rw [unhide HV2, if_pos h58]
            clear h58 HV2
            go_wp2_with fail
            refine (unhide HC3).mono ?_
            rintro e w6 ⟨rfl, r6, k6⟩
            have S6 := hide ((unhide S5).step k6 r6)
            have HC4 := hide (unhide HM (q + 1) w6 (by omega) r6)
            clear HC3 r6 k6 S5
            go_wp2_with fail
            refine (unhide HC4).mono ?_
            rintro e w7 ⟨k7, hno, hyes⟩
            clear HC4
            cases hp : pMI (dr s (q + 1)) with
            | none =>
              obtain rfl := hno hp
              exact ⟨rfl, (unhide S6).kb.trans k7, fun _ => rfl, fun x t h => by rw [unhide HV3, hp] at h; cases h⟩
            | some z =>
              obtain ⟨c, t⟩ := z
              obtain ⟨p, hp1, hp2, hp3, r7, rfl⟩ := hyes c t hp
              subst hp1
              obtain ⟨e1, e2⟩ := c
              have hS7 := (unhide S6).step k7 r7
              have SX := hide (hS7.setC (e1, e2))
              obtain ⟨c0, c1, c2, c3, c4, c5, c6, c7, c8⟩ := hS7.r3.cs
              obtain ⟨f0, f1, f2, f3, f4, f5, f6, f7, f8⟩ := hS7.r3.fz
              have hM : SB (w7.setCell ⟨w.heap.size + 1, 7, none⟩ (.int .i64 e2)) (w.heap.size + 1) 4 ⟨#[]⟩ a1 b1 false a2 b2 e2 (.slice none 0 0) := Go.heap_setCell_same w7 _ 7 _ 43 _ hS7.r3
              obtain ⟨g0, g1, g2, g3, g4, g5, g6, g7, g8⟩ := hM.cs
              obtain ⟨z0, z1, z2, z3, z4, z5, z6, z7, z8⟩ := hM.fz
              have HR : Hid (pIS (dr s i) = some (slcS (a1, a2) (b1, b2) (e1, e2), dr s p)) := by show _ = _; rw [unhide HV3, hp]
              clear hno hyes hp k7 r7 S6 hS7 hM HV3
              go_upto_region 9 with fail
              generalize ((w7.setCell ⟨w.heap.size + 1, 7, none⟩ (.int .i64 e2)).setCell ⟨w.heap.size + 1, 4, none⟩ (.bool e1)) = w8 at *
              clear c0 c1 c2 c3 c4 c5 c6 c7 c8 f0 f1 f2 f3 f4 f5 f6 f7 f8 g0 g1 g2 g3 g4 g5 g6 g7 g8 z0 z1 z2 z3 z4 z5 z6 z7 z8
              obtain ⟨c0, c1, c2, c3, c4, c5, c6, c7, c8⟩ := (unhide SX).r2.cs
              obtain ⟨f0, f1, f2, f3, f4, f5, f6, f7, f8⟩ := (unhide SX).r2.fz
              obtain ⟨q0, q1, q2, q3, q4, q5, q6, q7, q8⟩ := (unhide SX).r3.cs
              go_wp2
              refine bodyPost_ret (results_cell_row rfl _ _ w.heap.size 43 #[_, _, _, _, _, _, _, _, _] (0, 0) _ rfl (putN_full (unhide SX).r2 [_, _, _, _, _, _, _, _, _] rfl) Try.underlying43 rfl (by kernel_rfl)) rfl ?_
              obtain ⟨o1, o2, o3⟩ := (unhide SX).out 4 ⟨#[]⟩ a1 b1 e1 a2 b2 e2
              refine ⟨o1, fun h => (by rw [unhide HR] at h; cases h), fun x t h => ?_⟩
              rw [unhide HR] at h
              injection h with h
              injection h with h1 h2
              subst h1; subst h2
              exact ⟨p, rfl, by omega, hp3, o2, o3⟩
          · have HC3 := hide (pskip_no rb s q d w5 (unhide S5).rd hq3 58 (.inl h58))
            have HR : Hid (pIS (dr s i) = some (slcS (a1, a2) (b1, b2) (false, 0), dr s q)) := by show _ = _; rw [unhide HV2, if_neg h58]
            clear h58 HV2
            go_wp2_with fail
            refine (unhide HC3).mono ?_
            rintro e w6 ⟨rfl, r6, k6⟩
            have SX := hide ((unhide S5).step k6 r6)
            obtain ⟨c0, c1, c2, c3, c4, c5, c6, c7, c8⟩ := (unhide SX).r2.cs
            obtain ⟨f0, f1, f2, f3, f4, f5, f6, f7, f8⟩ := (unhide SX).r2.fz
            obtain ⟨q0, q1, q2, q3, q4, q5, q6, q7, q8⟩ := (unhide SX).r3.cs
            clear HC3 r6 k6 S5
            go_wp2
            refine bodyPost_ret (results_cell_row rfl _ _ w.heap.size 43 #[_, _, _, _, _, _, _, _, _] (0, 0) _ rfl (putN_full (unhide SX).r2 [_, _, _, _, _, _, _, _, _] rfl) Try.underlying43 rfl (by kernel_rfl)) rfl ?_
            obtain ⟨o1, o2, o3⟩ := (unhide SX).out 4 ⟨#[]⟩ a1 b1 false a2 b2 0
            refine ⟨o1, fun h => (by rw [unhide HR] at h; cases h), fun x t h => ?_⟩
            rw [unhide HR] at h
            injection h with h
            injection h with h1 h2
            subst h1; subst h2
            exact ⟨q, rfl, by omega, hq3, o2, o3⟩
      · have HC := hide (pexpect_no rb s j d wc (unhide SX).rd hs hj3 58 (.inl h58))
        have HF := hide (unhide HN58 h58)
        clear h58
        go_wp2_with fail
        refine (unhide HC).mono ?_
        rintro e w3 ⟨rfl, k3⟩
        exact ⟨rfl, (unhide SX).kb.trans k3, fun _ => rfl, fun x t h => by rw [unhide HF] at h; cases h⟩
end Go.Proofs.Ytiolpmhodbefoaa

