import Derived.Test.YtadefcohbkgbfabGreatDoorBn12
namespace Go.Proofs.YtadefcohbkgbfabGreatDoor
open Go.RowKit

theorem idxF_snd : ∀ (b : Nat) (cs : List (List UInt8)), (idxF b cs).map (·.2) = cs
  | _, [] => rfl
  | b, t :: r => by simp [idxF, idxF_snd (b + 1) r]
theorem bt_first {c : UInt8} {r : List UInt8} : 0 < (strOf (c :: r)).size ∧ bt (strOf (c :: r)) 0 = c.toNat := by
  refine ⟨by rw [strOf_size]; simp, ?_⟩
  unfold bt; rw [strOf_toList]; rfl
theorem sizes_flat (v : JV) (c : UInt8) (r : List UInt8) (hc : ct v = c :: r) (h1 : c.toNat ≠ 91) (h2 : c.toNat ≠ 123) (hd : depV v = 1) (hn : cntV v = 1) : SizesC v := by
  intro _ _ w
  rw [hd, hn]
  obtain ⟨a, b⟩ := bt_first (c := c) (r := r)
  refine sizes_step (strOf (ct v)) [] [] w rfl (by simp [cl]) (by simp [dl]) (by simp) ?_ (fun v hv => by simp at hv)
  rw [hc]
  exact parts_leaf _ w a (by rw [b]; exact h1) (by rw [b]; exact h2)

mutual
theorem sizesV : ∀ v : JV, okV v → SizesC v
  | .nul, _ => sizes_flat .nul 110 _ rfl (by decide) (by decide) rfl rfl
  | .tt, _ => sizes_flat .tt 116 _ rfl (by decide) (by decide) rfl rfl
  | .ff, _ => sizes_flat .ff 102 _ rfl (by decide) (by decide) rfl rfl
  | .num l, h => by
    have hp := num_plain h
    cases l with
    | nil => exact absurd rfl hp.1
    | cons c r =>
      have := (hp.2 c List.mem_cons_self).1
      exact sizes_flat (.num (c :: r)) c r rfl this.2.1 this.2.2.1 rfl rfl
  | .str l, _ => sizes_flat (.str l) 34 (qs l ++ [34]) rfl (by decide) (by decide) rfl rfl
  | .arr l, h => by
    rw [okV] at h
    intro hlen hcn w
    have hs := sizesL l h
    have hd := (dep_cnt (.arr l)).1
    have hct : (ct (.arr l)).length = hold (ctL l).length + nl (ctL l) := by
      show (mkA (ctL l)).length = _
      have := joinC_nl (ctL l)
      simp [mkA]; omega
    have e1 : depV (.arr l) = dl l.toL + 1 := by rw [depV, depL_dl]
    have e2 : cntV (.arr l) = cl l.toL + 1 := by rw [cntV, cntL_cl]
    rw [e1] at hd
    rw [e2] at hd hcn
    rw [e1, e2]
    refine sizes_step _ (idxF 0 (ctL l)) l.toL w (by rw [idxF_snd, ctL_map]) (by omega) (by omega) (by rw [idxF_len]; unfold hold at hct; omega) (parts_arr l h w (by rw [strOf_size]; exact hlen)) (fun v hv => ?_)
    obtain ⟨k, hk, rfl⟩ := List.getElem_of_mem hv
    have c1 : cntV l.toL[k] ≤ cl l.toL := by have := sum_at (l.toL.map cntV) k (by simpa using hk); simpa [cl] using this
    have n1 : (ct l.toL[k]).length ≤ nl (ctL l) := by have := sum_at ((ctL l).map List.length) k (by rw [ctL_map]; simpa using hk); simpa [nl, ctL_map] using this
    exact hs _ hv (by omega) (by omega)
  | .obj m, h => by
    rw [okV] at h
    intro hlen hcn w
    have hs := sizesM m h
    have hd := (dep_cnt (.obj m)).1
    have hct := ctObj_len m
    have e1 : depV (.obj m) = dl (m.toL.map (·.2)) + 1 := by rw [depV, depM_dl]
    have e2 : cntV (.obj m) = cl (m.toL.map (·.2)) + 1 := by rw [cntV, cntM_sum]; simp [cl, Function.comp_def]
    obtain ⟨qs, hq, he⟩ := perm_map_back (fun q : List UInt8 × JV => (q.1, ct q.2)) (isort (ctM m)) m.toL (by rw [← ctM_map]; exact isort_perm _)
    have hp2 := hq.map (·.2)
    rw [e1] at hd
    rw [e2] at hd hcn
    rw [e1, e2, ← dl_perm hp2, ← cl_perm hp2]
    have hml : (isort (ctM m)).length = m.toL.length := by rw [(isort_perm _).length_eq, ctM_map, List.length_map]
    refine sizes_step _ (isort (ctM m)) (qs.map (·.2)) w (by rw [← he]; simp) (by rw [cl_perm hp2]; omega) (by rw [dl_perm hp2]; omega) (by unfold hold at hct; omega) (parts_obj m h w (by rw [strOf_size]; exact hlen)) (fun v hv => ?_)
    obtain ⟨q, hqm, rfl⟩ := List.mem_map.1 hv
    have hqm' := hq.subset hqm
    have c1 : cntV q.2 ≤ cl (m.toL.map (·.2)) := by
      have := sumf_at (fun q => cntV q.2) hqm'
      simpa [cl, Function.comp_def] using this
    have n1 := sumf_at memN hqm'
    simp only [memN] at n1
    exact hs q hqm' (by omega) (by omega)
theorem sizesL : ∀ l : JL, okL l → ∀ v ∈ l.toL, SizesC v
  | .nil, _, v, hv => by simp [JL.toL] at hv
  | .cons x r, h, v, hv => by
    rw [okL] at h
    rw [JL.toL] at hv
    rcases List.mem_cons.1 hv with e | hv
    · rw [e]; exact sizesV x h.1
    · exact sizesL r h.2 v hv
theorem sizesM : ∀ m : JM, okM m → ∀ q ∈ m.toL, SizesC q.2
  | .nil, _, q, hq => by simp [JM.toL] at hq
  | .cons k x r, h, q, hq => by
    rw [okM] at h
    rw [JM.toL] at hq
    rcases List.mem_cons.1 hq with e | hq
    · rw [e]; exact sizesV x h.2.1
    · exact sizesM r h.2.2 q hq
end
end Go.Proofs.YtadefcohbkgbfabGreatDoor


namespace Go.Proofs.YtadefcohbkgbfabGreatDoor
open Go.RowKit

set_option maxRecDepth 100000 in
set_option maxHeartbeats 16000000 in
/-- The model's look whether a canonical text is within the limits. -/
theorem within_step (T : ByteArray) (r f d c : Nat) (w : World) (hT : T.size ≤ 1000000) (h : wiF T f 0 0 0 = some r) (hrd : r ≤ d) (hd : d ≤ 1000000) (hc : c ≤ 1000000) (q : Bool) (hq0 : q = decide (d ≤ 100 ∧ c ≤ 3000))
    (hs : ∀ w : World, Calls Tryz.prog 38 #[.string T] w fun e w' => e = .returned (.tuple #[.int .i64 (d : Int), .int .i64 (c : Int)]) ∧ Below w.heap.size w w') :
    Calls Tryz.prog 37 #[.string T] w fun e w' => e = .returned (.bool q) ∧ Below w.heap.size w w' := by
  have HQ0 := hide hq0
  clear hq0
  have HST : Hid (∀ (j : Nat) (w : World), j < T.size → Calls Tryz.prog 58 #[.string T, .int .i64 j] w (SPost T w (strQ T j))) := fun j w hj => l1String_walk T j w (by omega) (by omega)
  have HSZ := hide hs
  have H0 := hide h
  clear h hs
  go_enter Tryz.func37, Tryz.ntmps37
  go_wp2
  go_loopw [3, 4, 5] (fun ov mv iv wr => ∃ (op mo j g : Nat), ov = .int .i64 (op : Int) ∧ mv = .int .i64 (mo : Int) ∧ iv = .int .i64 (j : Int) ∧ j ≤ T.size ∧ op ≤ mo ∧ mo ≤ j ∧ wiF T g op mo j = some r ∧ Below w.heap.size w wr) (fun _ _ iv _ => T.size - (intOf iv).toNat)
  case atStart => exact ⟨0, 0, 0, f, rfl, rfl, rfl, Nat.zero_le _, Nat.le_refl _, Nat.le_refl _, unhide H0, Below.refl _ _⟩
  case round =>
    obtain ⟨op, mo, j, g, rfl, rfl, rfl, hj, hop, hmo, hg, bw⟩ := hrel
    clear H0
    obtain ⟨g, rfl⟩ : ∃ g', g = g' + 1 := by cases g with
      | zero => simp [wiF] at hg
      | succ g => exact ⟨g, rfl⟩
    rw [wiF] at hg
    by_cases hl : j < T.size
    · rw [if_pos hl] at hg
      have hltI : (j : Int) < (T.size : Int) := by omega
      have hb := bt_at T j hl
      obtain ⟨n, hn, o, ho, hz⟩ : ∃ j2, nxt T j = some j2 ∧ ∃ o, op1 (bt T j) op = some o ∧ wiF T g o (max mo o) j2 = some r := by
        cases hn : nxt T j with
        | none => rw [hn] at hg; simp at hg
        | some j2 =>
          rw [hn] at hg
          simp only [Option.bind_some] at hg
          cases ho : op1 (bt T j) op with
          | none => rw [ho] at hg; simp at hg
          | some o => rw [ho] at hg; exact ⟨j2, rfl, o, rfl, by simpa using hg⟩
      clear hg
      have hnj := nxt_in hn hl
      have hnT := hnj.2
      have hjn := hnj.1
      have hns : bt T j ≠ 34 → j + 1 = n := fun h34 => by unfold nxt at hn; rw [if_neg h34] at hn; injection hn
      have hnq : bt T j = 34 → ∃ l, strQ T j = some (l, n) := fun h34 => by
        unfold nxt at hn
        rw [if_pos h34] at hn
        cases hq : strQ T j with
        | none => rw [hq] at hn; simp at hn
        | some q => rw [hq] at hn; simp at hn; exact ⟨q.1, by rw [← hn]⟩
      have HB := hide bw
      clear hn hnj bw HSZ
      by_cases c34 : bt T j = 34
      · obtain ⟨l, hq⟩ := hnq c34
        obtain rfl : op = o := by rw [c34] at ho; injection ho
        have HSJ := hide (unhide HST j wr hl)
        rw [hq] at HSJ
        rw [hb] at c34
        have f34 : ((T[j].toNat : Int) == 34) = true := by rw [beq_iff_eq]; omega
        have f91 : ((T[j].toNat : Int) == 91) = false := by rw [beq_eq_false_iff_ne]; omega
        have f123 : ((T[j].toNat : Int) == 123) = false := by rw [beq_eq_false_iff_ne]; omega
        have f93 : ((T[j].toNat : Int) == 93) = false := by rw [beq_eq_false_iff_ne]; omega
        have f125 : ((T[j].toNat : Int) == 125) = false := by rw [beq_eq_false_iff_ne]; omega
        rw [show max mo op = mo by omega] at hz
        have HZ := hide hz
        have tm : ¬ (mo : Int) < (op : Int) := by omega
        clear hnq hns hq hb c34 HST ho hz
        go_wp2_with fail
        refine (unhide HSJ).mono ?_
        rintro e w2 ⟨b2, rfl⟩
        have HB2 := hide (below_next (unhide HB) b2)
        clear HSJ b2
        go_wp2
        go_roundw
        case rel => exact ⟨op, mo, n, g, by go_num, by go_num, by go_num, hnT, by omega, by omega, unhide HZ, unhide HB2⟩
        case measure => simp [intOf]; omega
      · have hn1 : (j : Int) + 1 = (n : Int) := by have := hns c34; omega
        have hnx := hns c34
        clear hnq hns
        by_cases c91 : bt T j = 91
        · obtain rfl : op + 1 = o := by rw [c91] at ho; injection ho
          rw [hb] at c91
          have f34 : ((T[j].toNat : Int) == 34) = false := by rw [beq_eq_false_iff_ne]; omega
          have f91 : ((T[j].toNat : Int) == 91) = true := by rw [beq_iff_eq]; omega
          have f123 : ((T[j].toNat : Int) == 123) = false := by rw [beq_eq_false_iff_ne]; omega
          have f93 : ((T[j].toNat : Int) == 93) = false := by rw [beq_eq_false_iff_ne]; omega
          have f125 : ((T[j].toNat : Int) == 125) = false := by rw [beq_eq_false_iff_ne]; omega
          clear hb c91 HST ho c34
          by_cases hm : mo < op + 1
          · have tm : (mo : Int) < (op : Int) + 1 := by omega
            rw [show max mo (op + 1) = op + 1 by omega] at hz
            have HZ := hide hz
            clear hm hz
            go_wp2
            go_roundw
            case rel => exact ⟨op + 1, op + 1, n, g, by go_num, by go_num, by go_num, hnT, by omega, by omega, unhide HZ, unhide HB⟩
            case measure => simp [intOf]; omega
          · have tm : ¬ (mo : Int) < (op : Int) + 1 := by omega
            rw [show max mo (op + 1) = mo by omega] at hz
            have HZ := hide hz
            clear hm hz
            go_wp2
            go_roundw
            case rel => exact ⟨op + 1, mo, n, g, by go_num, by go_num, by go_num, hnT, by omega, by omega, unhide HZ, unhide HB⟩
            case measure => simp [intOf]; omega
        by_cases c123 : bt T j = 123
        · obtain rfl : op + 1 = o := by rw [c123] at ho; injection ho
          rw [hb] at c123
          have f34 : ((T[j].toNat : Int) == 34) = false := by rw [beq_eq_false_iff_ne]; omega
          have f91 : ((T[j].toNat : Int) == 91) = false := by rw [beq_eq_false_iff_ne]; omega
          have f123 : ((T[j].toNat : Int) == 123) = true := by rw [beq_iff_eq]; omega
          have f93 : ((T[j].toNat : Int) == 93) = false := by rw [beq_eq_false_iff_ne]; omega
          have f125 : ((T[j].toNat : Int) == 125) = false := by rw [beq_eq_false_iff_ne]; omega
          clear hb c123 HST ho c34 c91
          by_cases hm : mo < op + 1
          · have tm : (mo : Int) < (op : Int) + 1 := by omega
            rw [show max mo (op + 1) = op + 1 by omega] at hz
            have HZ := hide hz
            clear hm hz
            go_wp2
            go_roundw
            case rel => exact ⟨op + 1, op + 1, n, g, by go_num, by go_num, by go_num, hnT, by omega, by omega, unhide HZ, unhide HB⟩
            case measure => simp [intOf]; omega
          · have tm : ¬ (mo : Int) < (op : Int) + 1 := by omega
            rw [show max mo (op + 1) = mo by omega] at hz
            have HZ := hide hz
            clear hm hz
            go_wp2
            go_roundw
            case rel => exact ⟨op + 1, mo, n, g, by go_num, by go_num, by go_num, hnT, by omega, by omega, unhide HZ, unhide HB⟩
            case measure => simp [intOf]; omega
        by_cases c93 : bt T j = 93
        · have hop1 : 1 ≤ op := by rw [c93] at ho; cases op with
            | zero => cases ho
            | succ n => omega
          obtain rfl : op - 1 = o := by rw [c93] at ho; cases op with
            | zero => cases ho
            | succ n => injection ho
          rw [hb] at c93
          have f34 : ((T[j].toNat : Int) == 34) = false := by rw [beq_eq_false_iff_ne]; omega
          have f91 : ((T[j].toNat : Int) == 91) = false := by rw [beq_eq_false_iff_ne]; omega
          have f123 : ((T[j].toNat : Int) == 123) = false := by rw [beq_eq_false_iff_ne]; omega
          have f93 : ((T[j].toNat : Int) == 93) = true := by rw [beq_iff_eq]; omega
          have f125 : ((T[j].toNat : Int) == 125) = false := by rw [beq_eq_false_iff_ne]; omega
          clear hb c93 HST ho c34 c91 c123
          have tm : ¬ (mo : Int) < (op : Int) - 1 := by omega
          rw [show max mo (op - 1) = mo by omega] at hz
          have HZ := hide hz
          clear hz
          go_wp2
          go_roundw
          case rel => exact ⟨op - 1, mo, n, g, by go_num, by go_num, by go_num, hnT, by omega, by omega, unhide HZ, unhide HB⟩
          case measure => simp [intOf]; omega
        by_cases c125 : bt T j = 125
        · have hop1 : 1 ≤ op := by rw [c125] at ho; cases op with
            | zero => cases ho
            | succ n => omega
          obtain rfl : op - 1 = o := by rw [c125] at ho; cases op with
            | zero => cases ho
            | succ n => injection ho
          rw [hb] at c125
          have f34 : ((T[j].toNat : Int) == 34) = false := by rw [beq_eq_false_iff_ne]; omega
          have f91 : ((T[j].toNat : Int) == 91) = false := by rw [beq_eq_false_iff_ne]; omega
          have f123 : ((T[j].toNat : Int) == 123) = false := by rw [beq_eq_false_iff_ne]; omega
          have f93 : ((T[j].toNat : Int) == 93) = false := by rw [beq_eq_false_iff_ne]; omega
          have f125 : ((T[j].toNat : Int) == 125) = true := by rw [beq_iff_eq]; omega
          clear hb c125 HST ho c34 c91 c123 c93
          have tm : ¬ (mo : Int) < (op : Int) - 1 := by omega
          rw [show max mo (op - 1) = mo by omega] at hz
          have HZ := hide hz
          clear hz
          go_wp2
          go_roundw
          case rel => exact ⟨op - 1, mo, n, g, by go_num, by go_num, by go_num, hnT, by omega, by omega, unhide HZ, unhide HB⟩
          case measure => simp [intOf]; omega
        obtain rfl : op = o := by
          unfold op1 isOp isCl at ho
          simp [c91, c123, c93, c125] at ho
          exact ho
        rw [hb] at c34 c91 c123 c93 c125
        have f34 : ((T[j].toNat : Int) == 34) = false := by rw [beq_eq_false_iff_ne]; omega
        have f91 : ((T[j].toNat : Int) == 91) = false := by rw [beq_eq_false_iff_ne]; omega
        have f123 : ((T[j].toNat : Int) == 123) = false := by rw [beq_eq_false_iff_ne]; omega
        have f93 : ((T[j].toNat : Int) == 93) = false := by rw [beq_eq_false_iff_ne]; omega
        have f125 : ((T[j].toNat : Int) == 125) = false := by rw [beq_eq_false_iff_ne]; omega
        have tm : ¬ (mo : Int) < (op : Int) := by omega
        rw [show max mo op = mo by omega] at hz
        have HZ := hide hz
        clear hb c34 c91 c123 c93 c125 HST ho hz
        go_wp2
        go_roundw
        case rel => exact ⟨op, mo, n, g, by go_num, by go_num, by go_num, hnT, by omega, by omega, unhide HZ, unhide HB⟩
        case measure => simp [intOf]; omega
    · rw [if_neg hl] at hg
      injection hg with hg
      subst hg
      have HB := hide bw
      have tl : ¬ (j : Int) < (T.size : Int) := by omega
      clear bw HST
      by_cases hm : 100 < mo
      · have tm : (100 : Int) < (mo : Int) := by omega
        have HF : Hid (q = false) := hide (by rw [unhide HQ0, decide_eq_false_iff_not]; omega)
        clear hm HSZ
        go_wp2
        go_ret
        exact ⟨by rw [unhide HF]; rfl, unhide HB⟩
      · have tm : ¬ (100 : Int) < (mo : Int) := by omega
        have HC := hide (unhide HSZ wr)
        clear hm HSZ
        by_cases h1 : d ≤ 100
        · have t1 : ((d : Int) ≤ 100) = True := eq_true (by omega)
          have s1 : decide ((d : Int) ≤ 100) = true := decide_eq_true (by omega)
          by_cases h2 : c ≤ 3000
          · have t2 : ((c : Int) ≤ 3000) = True := eq_true (by omega)
            have s2 : decide ((c : Int) ≤ 3000) = true := decide_eq_true (by omega)
            have HF : Hid (q = true) := hide (by rw [unhide HQ0, decide_eq_true_iff]; exact ⟨h1, h2⟩)
            clear h1 h2
            go_wp2_with fail
            refine (unhide HC).mono ?_
            rintro e w2 ⟨rfl, b2⟩
            have B2 := below_next (unhide HB) b2
            clear HC
            go_wp2
            go_ret
            exact ⟨by rw [unhide HF]; rfl, B2⟩
          · have t2 : ((c : Int) ≤ 3000) = False := eq_false (by omega)
            have s2 : decide ((c : Int) ≤ 3000) = false := decide_eq_false (by omega)
            have HF : Hid (q = false) := hide (by rw [unhide HQ0, decide_eq_false_iff_not]; omega)
            clear h1 h2
            go_wp2_with fail
            refine (unhide HC).mono ?_
            rintro e w2 ⟨rfl, b2⟩
            have B2 := below_next (unhide HB) b2
            clear HC
            go_wp2
            go_ret
            exact ⟨by rw [unhide HF]; rfl, B2⟩
        · have t1 : ((d : Int) ≤ 100) = False := eq_false (by omega)
          have s1 : decide ((d : Int) ≤ 100) = false := decide_eq_false (by omega)
          have HF : Hid (q = false) := hide (by rw [unhide HQ0, decide_eq_false_iff_not]; omega)
          clear h1
          go_wp2_with fail
          refine (unhide HC).mono ?_
          rintro e w2 ⟨rfl, b2⟩
          have B2 := below_next (unhide HB) b2
          clear HC
          go_wp2
          go_ret
          exact ⟨by rw [unhide HF]; rfl, B2⟩

theorem within_ct (v : JV) (hok : okV v) (w : World) (hl : (ct v).length ≤ 1000000) (hc : cntV v ≤ 1000000) :
    Calls Tryz.prog 37 #[.string (strOf (ct v))] w fun e w' => e = .returned (.bool (decide (depV v ≤ 100 ∧ cntV v ≤ 3000))) ∧ Below w.heap.size w w' := by
  obtain ⟨f, hf⟩ := wi_ct v hok
  have hd := (dep_cnt v).1
  exact within_step _ (nestV v) f (depV v) (cntV v) w (by rw [strOf_size]; exact hl) hf (nest_dep v) (by omega) hc _ rfl (fun w => sizesV v hok hl hc w)
end Go.Proofs.YtadefcohbkgbfabGreatDoor

