import Derived.Laws.EntriesVeiled
import Derived.Deep.RegionHeld3
import Derived.BigQuiet
import Derived.Test.YtiolpmhodbefoaaBp40
import Derived.Deep.CutRange
namespace Go.Proofs.Ytiolpmhodbefoaa
open Go.RowKit

/-- Whether a text begins so. -/
def preB (t s : ByteArray) : Bool := t.data.toList.isPrefixOf s.data.toList
set_option maxHeartbeats 800000 in
theorem hasPre1 (s t : ByteArray) (w : World) : Calls Try.prog 125 #[.string s, .string t] w fun e w' => e = .returned (.bool (preB t s)) ∧ w = w' := by
  have hdt := data_len t
  by_cases hin : t.size ≤ s.size
  · have h1 : (t.size : Int) ≤ (s.size : Int) := by omega
    have HV : Hid (preB t s = ((s.extract 0 t.size).toList == t.toList)) := by
      show t.data.toList.isPrefixOf s.data.toList = _
      rw [ByteArray.toList_eq, ByteArray.toList_eq, Lib.extract_data]
      show _ = ((s.data.toList).take t.size == t.data.toList)
      rw [Bool.eq_iff_iff, List.isPrefixOf_iff_prefix, beq_iff_eq, List.prefix_iff_eq_take, hdt]
      exact ⟨Eq.symm, Eq.symm⟩
    clear hdt
    go_enter Try.func125, Try.ntmps125
    go_wp2
    go_ret
    exact ⟨by rw [unhide HV]; rfl, rfl⟩
  · have h1 : ¬ (t.size : Int) ≤ (s.size : Int) := by omega
    have HV : Hid (preB t s = false) := by
      show t.data.toList.isPrefixOf s.data.toList = _
      rw [Bool.eq_false_iff]
      intro h
      have := (List.isPrefixOf_iff_prefix.1 h).length_le
      rw [hdt, data_len] at this
      omega
    clear hdt
    go_enter Try.func125, Try.ntmps125
    go_wp2
    go_ret
    exact ⟨by rw [unhide HV]; rfl, rfl⟩
theorem hasPre (s t : ByteArray) (w : World) : Calls Try.prog 123 #[.string s, .string t] w fun e w' => e = .returned (.bool (preB t s)) ∧ w = w' := by
  have HC := hide (hasPre1 s t w)
  go_enter Try.func123, Try.ntmps123
  go_wp2_with fail
  refine (unhide HC).mono ?_
  rintro e w1 ⟨rfl, rfl⟩
  go_wp2
  go_ret
  exact ⟨rfl, rfl⟩
/-- The signs, in the program's order. -/
def cg : Nat → Bs
  | 0 => [61, 61]
  | 1 => [33, 61]
  | 2 => [60]
  | 3 => [60, 61]
  | 4 => [62]
  | _ => [62, 61]
theorem cg_len (k : Nat) : 1 ≤ (cg k).length ∧ (cg k).length ≤ 2 := by
  unfold cg
  split <;> simp
theorem comps2 (w : World) : Calls Try.prog 95 #[] w fun e w' => e = .returned (.slice (some ⟨w.heap.size, 0, none⟩) 6 6) ∧ Below w.heap.size w w' ∧ w.heap.size < w'.heap.size ∧ ∀ k, k < 6 → w'.cell? ⟨w.heap.size, k * 2, none⟩ = some (.string (bsT (cg k))) ∧ ∃ f, w'.cell? ⟨w.heap.size, k * 2 + 1, none⟩ = some (.func (Fn.func f) #[] #[]) := by
  have HB : Hid (∀ o, Below w.heap.size w (w.alloc o)) := fun o => al_b w o
  have HC : Hid (∀ cs T j, (w.alloc (Obj.cells cs T (0, 0))).cell? ⟨w.heap.size, j, none⟩ = cs[j]?) := fun cs T j => Lib.cell_of_heap (heap_alloc_new w _) j
  go_enter Try.func95, Try.ntmps95
  go_wp2
  go_ret
  refine ⟨rfl, unhide HB _, by simp, fun k hk => ?_⟩
  rw [unhide HC, unhide HC]
  match k, hk with
  | 0, _ => exact ⟨rfl, _, rfl⟩
  | 1, _ => exact ⟨rfl, _, rfl⟩
  | 2, _ => exact ⟨rfl, _, rfl⟩
  | 3, _ => exact ⟨rfl, _, rfl⟩
  | 4, _ => exact ⟨rfl, _, rfl⟩
  | 5, _ => exact ⟨rfl, _, rfl⟩
/-- The longest sign of the first ones. -/
def cgU (l : Bs) : Nat → Bs × Nat
  | 0 => ([], 0)
  | k + 1 => if (cg k).isPrefixOf l = true ∧ (cgU l k).1.length < (cg k).length then (cg k, k + 1) else cgU l k
theorem cgU_len (l : Bs) : ∀ k, (cgU l k).1.length ≤ 2 ∧ (cgU l k).2 ≤ k ∧ (cgU l k).1.isPrefixOf l = true
  | 0 => by simp [cgU]
  | k + 1 => by
    have ih := cgU_len l k
    have hc := (cg_len k).2
    unfold cgU
    split
    · rename_i h; exact ⟨hc, by simp, h.1⟩
    · exact ⟨ih.1, by omega, ih.2.2⟩
theorem cgU_nil : cgU [] 6 = ([], 0) := by decide
theorem cgU_one (c : UInt8) : (cgU [c] 6, pCmp [c]) = (if c = 60 then (([60], 3), some (3, [])) else if c = 62 then (([62], 5), some (5, [])) else (([], 0), none)) := by
  have e : pCmp [c] = if c = 60 then some (3, []) else if c = 62 then some (5, []) else none := by
    by_cases h1 : c = 60
    · subst h1; rfl
    · by_cases h2 : c = 62
      · subst h2; rfl
      · rw [if_neg h1, if_neg h2]
        by_cases h3 : c = 61
        · subst h3; rfl
        · by_cases h4 : c = 33
          · subst h4; rfl
          · exact pCmp_no fun a r h => by
              injection h with h _
              subst h
              unfold isCm
              simp [h1, h2, h3, h4]
  rw [e]
  by_cases h1 : c = 60
  · subst h1; decide
  · by_cases h2 : c = 62
    · subst h2; decide
    · have : cgU [c] 6 = ([], 0) := by
        simp [cgU, cg, List.isPrefixOf, Ne.symm h1, Ne.symm h2]
      rw [this]
      simp [h1, h2]
theorem cgU_two (c d : UInt8) (r : Bs) : (cgU (c :: d :: r) 6) = (match cmT c d with
    | none => ([], 0)
    | some p => ((c :: d :: r).take p.2, p.1.toNat)) := by
  unfold cmT
  by_cases h61 : c = 61
  · subst h61
    by_cases hd : d = 61
    · subst hd
      simp [cgU, cg, pf_one, pf_two]
    · simp [cgU, cg, pf_one, pf_two, hd, Ne.symm hd]
  · by_cases h33 : c = 33
    · subst h33
      by_cases hd : d = 61
      · subst hd
        simp [cgU, cg, pf_one, pf_two]
      · simp [cgU, cg, pf_one, pf_two, hd, Ne.symm hd]
    · by_cases h60 : c = 60
      · subst h60
        by_cases hd : d = 61
        · subst hd
          simp [cgU, cg, pf_one, pf_two]
        · simp [cgU, cg, pf_one, pf_two, hd, Ne.symm hd]
      · by_cases h62 : c = 62
        · subst h62
          by_cases hd : d = 61
          · subst hd
            simp [cgU, cg, pf_one, pf_two]
          · simp [cgU, cg, pf_one, pf_two, hd, Ne.symm hd]
        · simp [cgU, cg, pf_one, pf_two, h61, h33, h60, h62, Ne.symm h61, Ne.symm h33, Ne.symm h60, Ne.symm h62]
theorem cg_cmp (l : Bs) : (pCmp l = none → cgU l 6 = ([], 0)) ∧ (∀ n u, pCmp l = some (n, u) → 0 < (cgU l 6).2 ∧ ((cgU l 6).2 : Int) = n ∧ l.drop (cgU l 6).1.length = u) := by
  match l with
  | [] => exact ⟨fun _ => cgU_nil, fun n u h => by cases h⟩
  | [c] =>
    have e := cgU_one c
    have e1 : cgU [c] 6 = (if c = 60 then ([60], 3) else if c = 62 then ([62], 5) else ([], 0)) := by
      have := congrArg Prod.fst e
      simp only at this
      rw [this]; split <;> (try split) <;> rfl
    have e2 : pCmp [c] = (if c = 60 then some (3, []) else if c = 62 then some (5, []) else none) := by
      have := congrArg Prod.snd e
      simp only at this
      rw [this]; split <;> (try split) <;> rfl
    rw [e1, e2]
    by_cases h1 : c = 60
    · simp [h1]
    · by_cases h2 : c = 62
      · simp [h2]
      · simp [h1, h2]
  | c :: d :: r =>
    rw [cgU_two, pCmp_two]
    cases hm : cmT c d with
    | none => exact ⟨fun _ => rfl, fun n u h => by cases h⟩
    | some p =>
      have hp : 0 < p.1 ∧ p.2 ≤ 2 := by
        refine ⟨?_, cmT_le hm⟩
        unfold cmT at hm
        repeat' split at hm
        all_goals first
          | (injection hm with hm; rw [← hm]; decide)
          | cases hm
      refine ⟨fun h => (by cases h), fun n u h => ?_⟩
      injection h with h
      injection h with h1 h2
      subst h1; subst h2
      refine ⟨by simp only; omega, by simp only; omega, ?_⟩
      simp only [List.length_take, List.length_cons]
      rw [Nat.min_eq_left (by omega)]
end Go.Proofs.Ytiolpmhodbefoaa


namespace Go.Proofs.Ytiolpmhodbefoaa
open Go.RowKit

set_option maxRecDepth 100000 in
set_option maxHeartbeats 8000000 in
theorem rComp (rb : Nat) (s : ByteArray) (i : Nat) (d : Int) (w : World) (h : PRd rb s i d w) (hs : s.size ≤ 1048576) (hi : i ≤ s.size) :
    Calls Try.prog 120 #[.pointer (some ⟨rb, 0, none⟩)] w fun e w' => KB rb w w' ∧ (pCmp (dr s i) = none → e = .returned (.tuple #[.int .i64 0, .bool false]) ∧ PRd rb s i d w') ∧
      ∀ n u, pCmp (dr s i) = some (n, u) → ∃ j, u = dr s j ∧ i ≤ j ∧ j ≤ s.size ∧ PRd rb s j d w' ∧ e = .returned (.tuple #[.int .i64 n, .bool true]) := by
  have hlt := h.lt
  have HCM := hide (comps2 w)
  have HH := hide h
  have HL := hide (cgU_len (dr s i))
  have HCC := hide (cg_cmp (dr s i))
  have HSX : Hid ((s.extract i s.size).data.toList = dr s i) := by
    show _ = _
    rw [Lib.extract_data]; unfold dr; exact List.take_of_length_le (by rw [List.length_drop, data_len]; exact Nat.le_refl _)
  have iI : (i : Int) ≤ (s.size : Int) := by omega
  have i0 : (0 : Int) ≤ (i : Int) := by omega
  clear h
  go_enter Try.func120, Try.ntmps120
  go_wp2_with fail
  refine (unhide HCM).mono ?_
  rintro e w0 ⟨rfl, b0, hz0, hT⟩
  have HT := hide hT
  have HB0 := hide b0
  clear HCM hT b0
  go_wp2
  go_loopw [4, 5, 10] (fun bv nv kv wr => ∃ k : Nat, k ≤ 6 ∧ bv = .string (bsT (cgU (dr s i) k).1) ∧ nv = .int .i64 ((cgU (dr s i) k).2 : Int) ∧ kv = .int .i64 (k : Int) ∧ Hid (Below w0.heap.size w0 wr)) (fun _ _ kv _ => 6 - (intOf kv).toNat)
  case atStart => exact ⟨0, by omega, rfl, rfl, rfl, Below.refl _ _⟩
  case round =>
    obtain ⟨k, hk, rfl, rfl, rfl, hb⟩ := hrel
    obtain ⟨hl1, hl2, hl3⟩ := unhide HL k
    by_cases hlt6 : k < 6
    · have hI : (k : Int) < 6 := by omega
      obtain ⟨hc0, f, hc1⟩ := unhide HT k hlt6
      have c0 : wr.cell? ⟨w.heap.size, k * 2, none⟩ = some (.string (bsT (cg k))) := ((unhide hb).cell (by show w.heap.size < _; omega)).trans hc0
      have c1 : wr.cell? ⟨w.heap.size, k * 2 + 1, none⟩ = some (.func (Fn.func f) #[] #[]) := ((unhide hb).cell (by show w.heap.size < _; omega)).trans hc1
      have hal := al_b wr (.cells #[.string (bsT (cg k)), .func (Fn.func f) #[] #[]] 158)
      have K7 := heap_alloc_new wr (.cells #[.string (bsT (cg k)), .func (Fn.func f) #[] #[]] 158)
      have HB7 := hide (below_next (unhide hb) hal)
      clear hc0 hc1 hal
      have hU : cgU (dr s i) (k + 1) = if (cg k).isPrefixOf (dr s i) = true ∧ (cgU (dr s i) k).1.length < (cg k).length then (cg k, k + 1) else cgU (dr s i) k := rfl
      have HU := hide hU
      have hz1 : (bsT (cg k)).size = (cg k).length := by simp [bsT, ByteArray.size]
      have hz2 : (bsT (cgU (dr s i) k).1).size = (cgU (dr s i) k).1.length := by simp [bsT, ByteArray.size]
      have HZ1 := hide hz1
      have HZ2 := hide hz2
      have hcg := cg_len k
      have HPR := hide (fun w => (hasPre (s.extract i s.size) (bsT (cg k)) w).mono fun _ _ ⟨h1, h2⟩ => (⟨h1, h2.symm⟩ : _ ∧ _ = w))
      have hpb : preB (bsT (cg k)) (s.extract i s.size) = (cg k).isPrefixOf (dr s i) := by
        unfold preB
        rw [unhide HSX]; simp [bsT]
      rw [hpb] at HPR
      clear hU hz1 hz2 hpb
      generalize cgU (dr s i) k = U at *
      generalize cg k = G at *
      go_upto_region 5 with fail
      generalize hw7 : (wr.alloc (.cells #[.string (bsT G), .func (Fn.func f) #[] #[]] 158)) = w7 at *
      have R7 : PRd rb s i d w7 := ((unhide HH).below (unhide HB0)).below (unhide HB7)
      have t0 : w7.cell? ⟨rb, 0, none⟩ = some (.string s) := R7.text
      have t1 : w7.cell? ⟨rb, 1, none⟩ = some (.int .i64 (i : Int)) := R7.at
      have q1 : w7.cell? ⟨wr.heap.size, 0, none⟩ = some (.string (bsT G)) := Lib.cell_of_heap K7 0
      clear R7 K7 hw7 c0 c1
      obtain ⟨b, hbv⟩ : ∃ b, decide (G.isPrefixOf (dr s i) = true ∧ U.1.length < G.length) = b := ⟨_, rfl⟩
      have HBV := hide hbv
      clear hbv
      go_cut [36] from 11 to 36 (fun x wx => x = .bool b ∧ Below w7.heap.size w7 wx)
      case first =>
        cases hp : G.isPrefixOf (dr s i) with
        | true =>
          rw [hp] at HPR
          by_cases hl : U.1.length < G.length
          · have hlI : (((bsT U.1).size : Nat) : Int) < (((bsT G).size : Nat) : Int) := by have := unhide HZ1; have := unhide HZ2; omega
            have HV : Hid (b = true) := by show _ = _; rw [← unhide HBV]; exact decide_eq_true ⟨hp, hl⟩
            clear hp hl
            go_wp2
            go_quiet ((go_at_call 123; exact Calls.quiet_of_same (unhide HPR _)))
            go_wp2
            go_meet
            case rel => exact ⟨by rw [unhide HV], dn_b (Below.refl _ _) _⟩
          · have hlI : ¬ (((bsT U.1).size : Nat) : Int) < (((bsT G).size : Nat) : Int) := by have := unhide HZ1; have := unhide HZ2; omega
            have HV : Hid (b = false) := by show _ = _; rw [← unhide HBV]; exact decide_eq_false fun h => hl h.2
            clear hp hl
            go_wp2
            go_quiet ((go_at_call 123; exact Calls.quiet_of_same (unhide HPR _)))
            go_wp2
            go_meet
            case rel => exact ⟨by rw [unhide HV]; exact congrArg Value.bool (decide_eq_false (by omega)), dn_b (Below.refl _ _) _⟩
        | false =>
          rw [hp] at HPR
          have HV : Hid (b = false) := by show _ = _; rw [← unhide HBV]; exact decide_eq_false fun h => by rw [hp] at h; cases h.1
          clear hp
          go_wp2
          go_quiet ((go_at_call 123; exact Calls.quiet_of_same (unhide HPR _)))
          go_wp2
          go_meet
          case rel => exact ⟨by rw [unhide HV], dn_b (Below.refl _ _) _⟩
      obtain ⟨rfl, hbc⟩ := hcut
      have HBC := hide (below_next (unhide HB7) hbc)
      have qc : wc.cell? ⟨wr.heap.size, 0, none⟩ = some (.string (bsT G)) := (hbc.cell (by show wr.heap.size < _; exact World.block_lt_of_cell? w7 ⟨wr.heap.size, 0, none⟩ q1)).trans q1
      clear hbc HB7 t0 t1 q1
      cases b with
      | true =>
        have hU := unhide HU
        rw [if_pos (of_decide_eq_true (unhide HBV))] at hU
        have HU2 := hide hU
        clear hU HBV
        go_wp2
        go_roundw
        case rel => exact ⟨k + 1, by omega, by rw [unhide HU2], by rw [unhide HU2]; go_num, by go_num, unhide HBC⟩
        case measure => simp [intOf]; omega
      | false =>
        have hU := unhide HU
        rw [if_neg (of_decide_eq_false (unhide HBV))] at hU
        have HU2 := hide hU
        clear hU HBV
        go_wp2
        go_roundw
        case rel => exact ⟨k + 1, by omega, by rw [unhide HU2], by rw [unhide HU2], by go_num, unhide HBC⟩
        case measure => simp [intOf]; omega
    · obtain rfl : k = 6 := by omega
      have R6 := ((unhide HH).below (unhide HB0)).below (unhide hb)
      have t1 := R6.at
      have f1 := R6.frozen
      have HR6 := hide R6
      have hz2 : (bsT (cgU (dr s i) 6).1).size = (cgU (dr s i) 6).1.length := by simp [bsT, ByteArray.size]
      have hle : i + (cgU (dr s i) 6).1.length ≤ s.size := by
        have := (List.isPrefixOf_iff_prefix.1 hl3).length_le
        rw [dr_len] at this
        omega
      have HKB : Hid (KB rb w wr) := (KB.of_below (unhide HB0)).trans (kb_below (KB.refl _ _) (unhide hb))
      have HZ2 := hide hz2
      clear hz2 R6 HL HT
      cases hp : pCmp (dr s i) with
      | none =>
        have hN := (unhide HCC).1 hp
        have HN := hide hp
        rw [hN] at HZ2 hle ⊢
        clear hp hN HCC
        have hz0 : (bsT ([] : Bs)).size = 0 := rfl
        have hi63 : (i : Int) < 9223372036854775807 := by omega
        go_wp2
        go_ret2
        exact ⟨(unhide HKB).set 1 _, fun _ => ⟨rfl, (unhide HR6).set _ _ (by first | rfl | go_num | omega)⟩, fun n u h => by rw [unhide HN] at h; cases h⟩
      | some q =>
        obtain ⟨hN1, hN2, hN3⟩ := (unhide HCC).2 q.1 q.2 hp
        generalize cgU (dr s i) 6 = U at *
        have hnI : (0 : Int) < (U.2 : Int) := by omega
        have hz := unhide HZ2
        have HN2 := hide hN2
        have HN3 := hide hN3
        have HPX := hide hp
        clear hp HCC hN2 hN3
        go_wp2
        go_ret2
        refine ⟨(unhide HKB).set 1 _, fun h => (by rw [unhide HPX] at h; cases h), fun n u h => ?_⟩
        rw [unhide HPX] at h
        injection h with h
        subst h
        refine ⟨i + U.1.length, ?_, by omega, hle, (unhide HR6).set _ _ (by omega), ?_⟩
        · have := unhide HN3
          simp only at this
          rw [← this, dr_dr]
        · have := unhide HN2
          simp only at this
          rw [← this]; rfl
end Go.Proofs.Ytiolpmhodbefoaa

