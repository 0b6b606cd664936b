import Derived.Test.YtocnekbedcnmgaaGreatDoorBp13
import Derived.Test.YtocnekbedcnmgaaGreatDoorBp18
import Derived.Test.YtocnekbedcnmgaaGreatDoorBp5
import Derived.Test.YtocnekbedcnmgaaGreatDoorBp4
import Derived.Test.YtocnekbedcnmgaaGreatDoorBp17
import Derived.Test.YtocnekbedcnmgaaGreatDoorBp9
namespace Go.Proofs.YtocnekbedcnmgaaGreatDoor
open Go.RowKit

/-- The string that a member is. -/
def strU : JV → Option (List UInt8)
  | .str l => some l
  | _ => none
def strM (v : JV) (key : List UInt8) : Option (List UInt8) := (childV v key).bind strU
/-- The kind that a word names, 0 where none does. -/
def kindOf (t : List UInt8) : Int := if t = wordT 1 then 1 else if t = wordT 2 then 2 else if t = wordT 3 then 3 else if t = wordT 4 then 4 else if t = wordT 5 then 5 else if t = wordT 6 then 6 else 0
theorem kindOf_word {t : List UInt8} {k : Int} (h1 : 1 ≤ k) (h6 : k ≤ 6) : (wordT k == t) = (k == kindOf t) := by
  have hk : k = 1 ∨ k = 2 ∨ k = 3 ∨ k = 4 ∨ k = 5 ∨ k = 6 := by omega
  have d : ∀ a b : List UInt8, (a == b) = decide (a = b) := fun a b => by rw [Bool.eq_iff_iff, beq_iff_eq, decide_eq_true_eq]
  rw [d]
  unfold kindOf
  rcases hk with rfl | rfl | rfl | rfl | rfl | rfl
  all_goals (
    by_cases e1 : t = wordT 1
    · subst e1; decide
    · rw [if_neg e1]
      by_cases e2 : t = wordT 2
      · subst e2; decide
      · rw [if_neg e2]
        by_cases e3 : t = wordT 3
        · subst e3; decide
        · rw [if_neg e3]
          by_cases e4 : t = wordT 4
          · subst e4; decide
          · rw [if_neg e4]
            by_cases e5 : t = wordT 5
            · subst e5; decide
            · rw [if_neg e5]
              by_cases e6 : t = wordT 6
              · subst e6; decide
              · rw [if_neg e6]
                rw [decide_eq_false (fun e => by first | exact e1 e.symm | exact e2 e.symm | exact e3 e.symm | exact e4 e.symm | exact e5 e.symm | exact e6 e.symm)]
                decide)
theorem kindOf_range (t : List UInt8) : 0 ≤ kindOf t ∧ kindOf t ≤ 6 := by
  unfold kindOf
  repeat' split
  all_goals omega
/-- The operation that a value stands for: what is read of it, and whether it is well formed. -/
def decK (v : JV) : Int := match strM v kOp with
  | some t => kindOf t
  | none => 0
def decP (v : JV) : POp := ⟨decK v, strOf ((strM v kPath).getD []), if hasF (decK v) then strOf ((strM v kFrom).getD []) else ⟨#[]⟩, if hasV (decK v) then strOf (((childV v kValue).map ct).getD []) else ⟨#[]⟩⟩
/-- Whether an element of a patch is an operation. -/
def decOk (v : JV) : Bool := decide (decK v ≠ 0) && (strM v kPath).isSome && (!hasF (decK v) || (strM v kFrom).isSome) && (!hasV (decK v) || (childV v kValue).isSome) &&
  (ptoks ((strM v kPath).getD [])).isSome && (!hasF (decK v) || (ptoks ((strM v kFrom).getD [])).isSome)
theorem not_obj {v : JV} (h : kd v ≠ 6) : ∀ key ∈ [kOp, kPath, kFrom, kValue], childV v key = none := by
  intro key hk
  cases v with
  | obj m => exact absurd rfl h
  | arr l =>
    rw [childV_arr]
    have : idxT key = none := by
      simp only [List.mem_cons, List.not_mem_nil, or_false] at hk
      rcases hk with rfl | rfl | rfl | rfl <;> decide
    rw [this]; rfl
  | nul => rfl
  | tt => rfl
  | ff => rfl
  | num l => rfl
  | str l => rfl
theorem decOk_obj {v : JV} (h : kd v ≠ 6) : decOk v = false := by
  have := not_obj h kOp (by simp)
  have e : decK v = 0 := by unfold decK strM; rw [this]; rfl
  unfold decOk
  rw [e]
  rfl
theorem decK_range (v : JV) : 0 ≤ decK v ∧ decK v ≤ 6 := by
  unfold decK
  split
  · exact kindOf_range _
  · omega
theorem dec_fin {v : JV} (hK : decK v ≠ 0) (hp : (strM v kPath).isSome = true) (hf : hasF (decK v) = true → (strM v kFrom).isSome = true) (hv : hasV (decK v) = true → ∃ u, childV v kValue = some u ∧ goodT (strOf (ct u)) = true) : opOk (decP v) = decOk v := by
  obtain ⟨h0, h6⟩ := decK_range v
  have e1 : decide (1 ≤ decK v) = true := decide_eq_true (by omega)
  have e2 : decide (decK v ≤ 6) = true := decide_eq_true h6
  have e3 : decide (decK v ≠ 0) = true := decide_eq_true hK
  have ee : (⟨#[]⟩ : ByteArray).toList = [] := by rw [ByteArray.toList_eq]
  unfold opOk decOk decP
  simp only [e1, e2, e3, hp, Bool.true_and, strOf_toList]
  cases hF : hasF (decK v) with
  | true =>
    have hV : hasV (decK v) = false := by
      unfold hasF at hF
      unfold hasV
      simp only [Bool.or_eq_true, beq_iff_eq] at hF
      rcases hF with h | h <;> rw [h] <;> rfl
    have h1 := hf hF
    simp [hV, h1, ee, strOf_toList]
  | false =>
    cases hV : hasV (decK v) with
    | true =>
      obtain ⟨u, hu, hg⟩ := hv hV
      simp [hu, hg, ee]
    | false => simp [ee]
end Go.Proofs.YtocnekbedcnmgaaGreatDoor


namespace Go.Proofs.YtocnekbedcnmgaaGreatDoor
open Go.RowKit

abbrev nmObj (t : List UInt8) : Obj := .cells #[.string (strOf t)] 9 (0, 0)
set_option maxRecDepth 100000 in
set_option maxHeartbeats 400000 in
theorem decodeOp1_walk (ob : Nat) (t : List UInt8) (s : List UInt8) (c1 c2 c3 c4 c5 c6 : Value) (w : World) (h : w.heap[ob]? = some (nmObj t)) :
    Calls Tryz.prog 89 #[.agg #[.string (strOf s), c1, c2, c3, c4, c5, c6], .pointer (some ⟨ob, 0, none⟩)] w fun e w' => e = .returned (.bool (s == t)) ∧ Below w.heap.size w w' := by
  have hlt : ob < w.heap.size := (Array.getElem?_eq_some_iff.1 h).1
  have k : ∀ o, (w.alloc o).cell? ⟨ob, 0, none⟩ = some (.string (strOf t)) := fun o => Lib.cell_of_heap (((alloc_b w o).block ob hlt).trans h) 0
  have he := str_eq s t
  rw [← he]
  clear h he
  generalize strOf s = sb at *
  generalize strOf t = tb at *
  go_enter Tryz.func89, Tryz.ntmps89
  go_wp2
  go_ret
  exact ⟨rfl, alloc_b w _⟩
set_option maxRecDepth 100000 in
set_option maxHeartbeats 1600000 in
theorem indexW_walk (g ob : Nat) (t : List UInt8) (w : World) (hg : w.heap[g]? = some (.cells verbsA 141 (0, 0))) (h : w.heap[ob]? = some (nmObj t)) :
    Calls Tryz.prog 131 #[.slice (some ⟨g, 0, none⟩) 6 6, .func (Fn.func 89) #[] #[.pointer (some ⟨ob, 0, none⟩)]] w fun e w' => e = .returned (.int .i64 (verbI (kindOf t))) ∧ Below w.heap.size w w' := by
  have HG := hide hg
  have HO := hide h
  clear hg h
  go_enter Tryz.func131, Tryz.ntmps131
  go_wp2_with fail
  go_loopw [8] (fun i wr => ∃ j : Nat, j ≤ 6 ∧ i = .int .i64 (j : Int) ∧ Below w.heap.size w wr ∧ ∀ n : Nat, n < j → ¬ (kindOf t) = (n : Int) + 1) (fun i _ => 6 - (intOf i).toNat)
  case atStart => exact ⟨0, by omega, rfl, Below.refl _ _, fun n hn => by omega⟩
  case round =>
    obtain ⟨j, hj, rfl, hb, hn⟩ := hrel
    by_cases hlt : j < 6
    · have hg := (hb.block g (Array.getElem?_eq_some_iff.1 (unhide HG)).1).trans (unhide HG)
      have ho := (hb.block ob (Array.getElem?_eq_some_iff.1 (unhide HO)).1).trans (unhide HO)
      obtain ⟨q0, q1, q2, q3, q4, q5, q6⟩ := verb_cells hg hlt rfl
      have HM := hide (decodeOp1_walk ob t (wordT ((j : Int) + 1)) (.int .i64 ((j : Int) + 1)) (.bool (hasF ((j : Int) + 1))) (.bool (hasV ((j : Int) + 1))) (.bool (shF ((j : Int) + 1))) (.bool (shP ((j : Int) + 1))) (verbF ((j : Int) + 1)) wr ho)
      rw [kindOf_word (t := t) (k := (j : Int) + 1) (by omega) (by omega)] at HM
      obtain ⟨fid, hfid⟩ : ∃ fid, verbF ((j : Int) + 1) = .func (Fn.func fid) #[] #[] := by
        unfold verbF
        repeat' split
        all_goals exact ⟨_, rfl⟩
      rw [hfid] at HM q6
      clear hfid
      unfold wordB at q0
      generalize strOf (wordT ((j : Int) + 1)) = wb at *
      generalize hasF ((j : Int) + 1) = hf at *
      generalize hasV ((j : Int) + 1) = hv at *
      generalize shF ((j : Int) + 1) = sf at *
      generalize shP ((j : Int) + 1) = sp at *
      have HN := hide hn
      clear hg ho hn
      go_wp2_with fail
      refine (unhide HM).mono ?_
      rintro e w1 ⟨rfl, b1⟩
      have HB1 := hide (below_next hb b1)
      clear HM b1 hb q0 q1 q2 q3 q4 q5 q6
      by_cases hk : (j : Int) + 1 = (kindOf t)
      · have hk1 : (((j : Int) + 1) == (kindOf t)) = true := by simpa using hk
        rw [hk1]
        have hv : verbI (kindOf t) = (j : Int) := by unfold verbI; rw [if_pos (by omega)]; omega
        have HV := hide hv
        clear hk hk1 hv
        go_wp2
        go_ret
        exact ⟨by rw [unhide HV]; rfl, unhide HB1⟩
      · have hk1 : (((j : Int) + 1) == (kindOf t)) = false := by simpa using hk
        rw [hk1]
        have HNE : Hid (∀ n : Nat, n < j + 1 → ¬ (kindOf t) = (n : Int) + 1) := fun n hn e => by
          by_cases hnj : n = j
          · subst hnj; exact hk e.symm
          · exact unhide HN n (by omega) e
        clear hk hk1
        go_wp2
        go_roundw
        case rel => exact ⟨j + 1, by omega, by go_num, unhide HB1, unhide HNE⟩
        case measure => simp [intOf]; omega
    · have hv : verbI (kindOf t) = -1 := by
        unfold verbI
        rw [if_neg]
        intro ⟨h1, h2⟩
        exact hn ((kindOf t) - 1).toNat (by omega) (by omega)
      have HV := hide hv
      clear hv hn
      go_wp2
      go_ret
      exact ⟨by rw [unhide HV]; rfl, hb⟩
set_option maxRecDepth 100000 in
set_option maxHeartbeats 1600000 in
theorem findW_yes (ob : Nat) (t : List UInt8) (w : World) (h : w.heap[ob]? = some (nmObj t)) (h1 : 1 ≤ (kindOf t)) (h2 : (kindOf t) ≤ 6) :
    Calls Tryz.prog 88 #[.func (Fn.func 89) #[] #[.pointer (some ⟨ob, 0, none⟩)]] w fun e w' => e = .returned (.tuple #[.agg (verbV (kindOf t)), .bool true]) ∧ Below w.heap.size w w' := by
  have hlt : ob < w.heap.size := (Array.getElem?_eq_some_iff.1 h).1
  obtain ⟨j, hj, hk⟩ : ∃ j : Nat, j < 6 ∧ (kindOf t) = (j : Int) + 1 := ⟨((kindOf t) - 1).toNat, by omega, by omega⟩
  have hvi : verbI (kindOf t) = (j : Int) := by unfold verbI; rw [if_pos ⟨h1, h2⟩]; omega
  have hvc := fun (w : World) (g : Nat) (hg : w.heap[g]? = some (.cells verbsA 141 (0, 0))) => verb_cells hg hj hk
  have hvF : ∃ fid, verbF (kindOf t) = .func (Fn.func fid) #[] #[] := by
    unfold verbF
    repeat' split
    all_goals exact ⟨_, rfl⟩
  obtain ⟨fid, hfid⟩ := hvF
  unfold verbV
  rw [hfid] at hvc ⊢
  generalize wordB (kindOf t) = wb at *
  generalize hasF (kindOf t) = hf at *
  generalize hasV (kindOf t) = hv at *
  generalize shF (kindOf t) = sf at *
  generalize shP (kindOf t) = sp at *
  have HVC := hide hvc
  have HVI := hide hvi
  clear hvc hvi hfid
  have hA := alloc_b w (.cells verb0 141)
  have kA := heap_alloc_new w (.cells verb0 141)
  have zA : (w.alloc (.cells verb0 141)).heap.size = w.heap.size + 1 := by simp
  have HO := hide ((hA.block ob hlt).trans h)
  have HV := hide (verbs_walk (w.alloc (.cells verb0 141)))
  have HA := hide hA
  have HKA := hide kA
  clear h hA kA
  go_enter Tryz.func88, Tryz.ntmps88
  go_wp2_with fail
  unfold verb0 at *
  generalize (w.alloc (.cells #[.string ⟨#[]⟩, .int .i64 0, .bool false, .bool false, .bool false, .bool false, .nilFunc] 141)) = wA at *
  refine (unhide HV).mono ?_
  rintro e w1 ⟨rfl, rfl⟩
  have hB := alloc_b wA (.cells verbsA 141)
  have kB := heap_alloc_new wA (.cells verbsA 141)
  have zB : (wA.alloc (.cells verbsA 141)).heap.size = wA.heap.size + 1 := by simp
  have HX := hide (indexW_walk wA.heap.size ob t (wA.alloc (.cells verbsA 141)) kB ((hB.block ob (by omega)).trans (unhide HO)))
  have HKB := hide kB
  have HAB := hide (below_next (unhide HA) hB)
  have HKC := hide ((hB.block w.heap.size (by omega)).trans (unhide HKA))
  have HZA := hide zA
  have HZB := hide zB
  clear HV hB kB HO HKA zA zB
  generalize (wA.alloc (.cells verbsA 141)) = wB at *
  generalize wA.heap.size = G at *
  go_wp2_with fail
  refine (unhide HX).mono ?_
  rintro e w2 ⟨rfl, b2⟩
  rw [unhide HVI]
  have zA := unhide HZA
  have zB := unhide HZB
  have k2 := (b2.block G (by omega)).trans (unhide HKB)
  obtain ⟨q0, q1, q2, q3, q4, q5, q6⟩ := unhide HVC _ _ k2
  have k3 := (b2.block w.heap.size (by omega)).trans (unhide HKC)
  have c0 : w2.cell? ⟨w.heap.size, 0, none⟩ = some (.string ⟨#[]⟩) := Lib.cell_of_heap k3 0
  have c1 : w2.cell? ⟨w.heap.size, 1, none⟩ = some (.int .i64 0) := Lib.cell_of_heap k3 1
  have c2 : w2.cell? ⟨w.heap.size, 2, none⟩ = some (.bool false) := Lib.cell_of_heap k3 2
  have c3 : w2.cell? ⟨w.heap.size, 3, none⟩ = some (.bool false) := Lib.cell_of_heap k3 3
  have c4 : w2.cell? ⟨w.heap.size, 4, none⟩ = some (.bool false) := Lib.cell_of_heap k3 4
  have c5 : w2.cell? ⟨w.heap.size, 5, none⟩ = some (.bool false) := Lib.cell_of_heap k3 5
  have c6 : w2.cell? ⟨w.heap.size, 6, none⟩ = some .nilFunc := Lib.cell_of_heap k3 6
  have fz := Lib.frozen_of_heap k3
  have HK3 := hide k3
  have HB2 := hide (below_next (unhide HAB) b2)
  clear HX HAB HKB HKC k2 k3 b2 zA zB HVC HVI h1 h2
  clear hk
  have hjI : (j : Int) < 6 := by omega
  go_wp2
  refine bodyPost_ret (results_cell_tmp rfl _ _ w.heap.size 141 #[_, _, _, _, _, _, _] (0, 0) _ _ rfl rfl (putN_full (unhide HK3) [_, _, _, _, _, _, _] rfl) Tryz.underlying141 rfl (by kernel_rfl)) rfl ?_
  exact ⟨rfl, putN_below (unhide HB2) (Nat.le_refl _) [_, _, _, _, _, _, _] 0⟩
set_option maxRecDepth 100000 in
set_option maxHeartbeats 1600000 in
theorem findW_no (ob : Nat) (t : List UInt8) (w : World) (h : w.heap[ob]? = some (nmObj t)) (hno : ¬ (1 ≤ (kindOf t) ∧ (kindOf t) ≤ 6)) :
    Calls Tryz.prog 88 #[.func (Fn.func 89) #[] #[.pointer (some ⟨ob, 0, none⟩)]] w fun e w' => e = .returned (.tuple #[.agg verb0, .bool false]) ∧ Below w.heap.size w w' := by
  have hlt : ob < w.heap.size := (Array.getElem?_eq_some_iff.1 h).1
  have hvi : verbI (kindOf t) = -1 := by unfold verbI; rw [if_neg hno]
  have HVI := hide hvi
  clear hvi hno
  have hA := alloc_b w (.cells verb0 141)
  have kA := heap_alloc_new w (.cells verb0 141)
  have zA : (w.alloc (.cells verb0 141)).heap.size = w.heap.size + 1 := by simp
  have HO := hide ((hA.block ob hlt).trans h)
  have HV := hide (verbs_walk (w.alloc (.cells verb0 141)))
  have HA := hide hA
  have HKA := hide kA
  clear h hA kA
  unfold verb0 at *
  go_enter Tryz.func88, Tryz.ntmps88
  go_wp2_with fail
  generalize (w.alloc (.cells #[.string ⟨#[]⟩, .int .i64 0, .bool false, .bool false, .bool false, .bool false, .nilFunc] 141)) = wA at *
  refine (unhide HV).mono ?_
  rintro e w1 ⟨rfl, rfl⟩
  have hB := alloc_b wA (.cells verbsA 141)
  have kB := heap_alloc_new wA (.cells verbsA 141)
  have zB : (wA.alloc (.cells verbsA 141)).heap.size = wA.heap.size + 1 := by simp
  have HX := hide (indexW_walk wA.heap.size ob t (wA.alloc (.cells verbsA 141)) kB ((hB.block ob (by omega)).trans (unhide HO)))
  have HAB := hide (below_next (unhide HA) hB)
  have HKC := hide ((hB.block w.heap.size (by omega)).trans (unhide HKA))
  have HZA := hide zA
  have HZB := hide zB
  clear HV hB kB HO HKA zA zB
  generalize (wA.alloc (.cells verbsA 141)) = wB at *
  generalize wA.heap.size = G at *
  go_wp2_with fail
  refine (unhide HX).mono ?_
  rintro e w2 ⟨rfl, b2⟩
  rw [unhide HVI]
  have zA := unhide HZA
  have zB := unhide HZB
  have k3 := (b2.block w.heap.size (by omega)).trans (unhide HKC)
  have c0 : w2.cell? ⟨w.heap.size, 0, none⟩ = some (.string ⟨#[]⟩) := Lib.cell_of_heap k3 0
  have c1 : w2.cell? ⟨w.heap.size, 1, none⟩ = some (.int .i64 0) := Lib.cell_of_heap k3 1
  have c2 : w2.cell? ⟨w.heap.size, 2, none⟩ = some (.bool false) := Lib.cell_of_heap k3 2
  have c3 : w2.cell? ⟨w.heap.size, 3, none⟩ = some (.bool false) := Lib.cell_of_heap k3 3
  have c4 : w2.cell? ⟨w.heap.size, 4, none⟩ = some (.bool false) := Lib.cell_of_heap k3 4
  have c5 : w2.cell? ⟨w.heap.size, 5, none⟩ = some (.bool false) := Lib.cell_of_heap k3 5
  have c6 : w2.cell? ⟨w.heap.size, 6, none⟩ = some .nilFunc := Lib.cell_of_heap k3 6
  have fz := Lib.frozen_of_heap k3
  have HK3 := hide k3
  have HB2 := hide (below_next (unhide HAB) b2)
  clear HX HAB HKC k3 b2 zA zB HVI
  go_wp2
  refine bodyPost_ret (results_cell_tmp rfl _ _ w.heap.size 141 #[_, _, _, _, _, _, _] (0, 0) _ _ rfl rfl (putN_full (unhide HK3) [_, _, _, _, _, _, _] rfl) Tryz.underlying141 rfl (by kernel_rfl)) rfl ?_
  exact ⟨rfl, putN_below (unhide HB2) (Nat.le_refl _) [_, _, _, _, _, _, _] 0⟩
end Go.Proofs.YtocnekbedcnmgaaGreatDoor


namespace Go.Proofs.YtocnekbedcnmgaaGreatDoor
open Go.RowKit

/-- The first byte of a text tells whether the value is a string. -/
theorem first_str {u : JV} (h : okV u) (h0 : 0 < (strOf (ct u)).size) : ((((strOf (ct u))[0]).toNat : Int) != 34) = !(kd u == 4) := by
  obtain ⟨c, r, e, f⟩ := ct_fb h
  have hb : ((strOf (ct u))[0]).toNat = c.toNat := by
    rw [← bt_at _ 0 h0, e]
    exact (bt_first (c := c) (r := r)).2
  rw [hb, ← f]
  unfold fb
  by_cases h1 : c.toNat = 34
  · rw [h1]; rfl
  · have a1 : ((c.toNat : Int) != 34) = true := by simp; omega
    rw [a1]
    symm
    rw [Bool.not_eq_true', beq_eq_false_iff_ne]
    repeat (first | (split; omega) | split)
    all_goals omega
theorem ct_pos {u : JV} (h : okV u) : 0 < (strOf (ct u)).size := by
  rw [strOf_size]
  cases e : ct u with
  | nil => exact absurd e (ct_ne u h)
  | cons _ _ => simp
set_option maxRecDepth 100000 in
set_option maxHeartbeats 2000000 in
theorem member_walk {B : Nat} (m : JM) (hok : okV (.obj m)) (htw : twV (.obj m) = false) (hl : (ct (.obj m)).length ≤ 1000000) (key : List UInt8) (pv : Value) (w : World) (h : PR w B pv (partsV (.obj m))) :
    Calls Tryz.prog 77 #[pv, .string (strOf key)] w fun e w' => e = .returned (.tuple #[.string (strOf ((strM (.obj m) key).getD [])), .bool (strM (.obj m) key).isSome]) ∧ Below w.heap.size w w' := by
  have hpl := parts_len hok hl
  have HF := hide (find_at B pv (partsV (.obj m)) key w h (by omega))
  obtain ⟨xa, xc, rfl⟩ : ∃ xa xc, pv = .slice xa (partsV (.obj m)).length xc := by
    rcases h.2 with ⟨hv, h0⟩ | ⟨g, cap, cur, hv, _⟩
    · exact ⟨none, 0, by rw [hv, h0]⟩
    · exact ⟨_, _, hv⟩
  have HC : Hid (∀ j (hj : j < (partsV (.obj m)).length), ∃ g, xa = some ⟨g, 0, none⟩ ∧ w.cell? ⟨g, j * 2 + 1, none⟩ = some (.string (strOf (partsV (.obj m))[j].2))) := fun j hj => by
    obtain ⟨g, cap, hv, _, _, _, hc⟩ := h.cells j hj
    injection hv with hv _ _
    exact ⟨g, hv, hc⟩
  have HNO : Hid ((∀ j (hj : j < (partsV (.obj m)).length), (partsV (.obj m))[j].1 ≠ key) → strM (.obj m) key = none) := fun hk => by unfold strM; rw [child_missed hk]; rfl
  have HYES : Hid (∀ j (hj : j < (partsV (.obj m)).length), (partsV (.obj m))[j].1 = key → ∃ u, (partsV (.obj m))[j].2 = ct u ∧ strM (.obj m) key = strU u ∧ okV u ∧ (ct u).length ≤ 1000000) := fun j hj hk => by
    obtain ⟨u, h1, h2⟩ := child_found hok htw (fun ⟨l, e⟩ => by cases e) hj hk
    obtain ⟨a1, _, a3, _⟩ := childV_ok h1 hok htw
    exact ⟨u, h2, by unfold strM; rw [h1]; rfl, a1, by omega⟩
  clear h hok htw hl
  generalize partsV (.obj m) = ps at *
  generalize strM (.obj m) key = sm at *
  go_enter Tryz.func77, Tryz.ntmps77
  go_wp2_with fail
  refine (unhide HF).mono ?_
  rintro e w1 ⟨rfl, ⟨rfl, hk⟩ | ⟨j, hj, rfl, hk⟩⟩
  · obtain rfl := unhide HNO hk
    clear HF HC HNO HYES hk
    go_wp2
    go_ret2
    exact ⟨rfl, Below.refl _ _⟩
  · obtain ⟨u, h1, rfl, h3, h4⟩ := unhide HYES j hj hk
    obtain ⟨g, rfl, hc⟩ := unhide HC j hj
    have hjI : (j : Int) < (ps.length : Int) := by omega
    rw [h1] at hc
    have h0 := ct_pos h3
    have h0I : (0 : Int) < ((strOf (ct u)).size : Int) := by omega
    have hfs := first_str h3 h0
    clear HF HC HNO HYES hk h1
    by_cases hk4 : kd u = 4
    · obtain ⟨l, rfl⟩ : ∃ l, u = .str l := by cases u <;> first | exact ⟨_, rfl⟩ | (simp [kd] at hk4)
      have hval : Lib.validD l = true := by rw [okV] at h3; exact h3
      have hq := strQ_at l (strOf (ct (.str l))) [] hval 0 (by rw [strOf_toList, List.drop_zero, List.append_nil]; rfl)
      have HS := hide (l1String_walk (strOf (ct (.str l))) 0 w (by rw [strOf_size]; omega) (by omega))
      rw [hq] at HS
      rw [show (!(kd (.str l) == 4)) = false from rfl] at hfs
      have HU : Hid (strU (.str l) = some l) := rfl
      clear hq hval h3 h4 hk4
      generalize strOf (ct (.str l)) = T at *
      go_wp2_with fail
      refine (unhide HS).mono ?_
      rintro e w2 ⟨b2, he⟩
      obtain rfl : e = .returned (.tuple #[.string (strOf l), .int .i64 ((0 + (quoted l).length : Nat) : Int), .bool true]) := he
      have HB := hide b2
      clear HS b2
      generalize 0 + (quoted l).length = q9 at *
      go_wp2
      go_ret2
      exact ⟨by rw [unhide HU]; rfl, unhide HB⟩
    · have hno : (!(kd u == 4)) = true := by simp [hk4]
      rw [hno] at hfs
      have HU : Hid (strU u = none) := by show _ = _; cases u <;> first | rfl | exact absurd rfl hk4
      clear h3 h4 hk4 hno
      generalize strOf (ct u) = T at *
      go_wp2
      go_ret2
      exact ⟨by rw [unhide HU]; rfl, Below.refl _ _⟩
end Go.Proofs.YtocnekbedcnmgaaGreatDoor


namespace Go.Proofs.YtocnekbedcnmgaaGreatDoor
open Go.RowKit

abbrev opCs (m : POp) : Array Value := #[.int .i64 m.kind, .string m.path, .string m.src, .string m.val]
def op0 : POp := ⟨0, ⟨#[]⟩, ⟨#[]⟩, ⟨#[]⟩⟩
/-- A block that holds an operation. -/
def OpIn (w : World) (g : Nat) (m : POp) : Prop := w.heap[g]? = some (.cells (opCs m) 59 (0, 0))
theorem OpIn.lt {w : World} {g : Nat} {m : POp} (h : OpIn w g m) : g < w.heap.size := (Array.getElem?_eq_some_iff.1 h).1
theorem OpIn.below {w w' : World} {g : Nat} {m : POp} (h : OpIn w g m) (hb : Below w.heap.size w w') : OpIn w' g m := (hb.block g h.lt).trans h
theorem OpIn.c {w : World} {g : Nat} {m : POp} (h : OpIn w g m) : w.cell? ⟨g, 0, none⟩ = some (.int .i64 m.kind) ∧ w.cell? ⟨g, 1, none⟩ = some (.string m.path) ∧ w.cell? ⟨g, 2, none⟩ = some (.string m.src) ∧ w.cell? ⟨g, 3, none⟩ = some (.string m.val) := ⟨Lib.cell_of_heap h 0, Lib.cell_of_heap h 1, Lib.cell_of_heap h 2, Lib.cell_of_heap h 3⟩
theorem OpIn.fz {w : World} {g : Nat} {m : POp} (h : OpIn w g m) (j : Nat) : w.frozen? ⟨g, j, none⟩ = false := Lib.frozen_of_heap h j
theorem OpIn.s0 {w : World} {g : Nat} {m : POp} (h : OpIn w g m) (z : Int) : OpIn (w.setCell ⟨g, 0, none⟩ (.int .i64 z)) g ⟨z, m.path, m.src, m.val⟩ := heap_setCell_same w g 0 _ _ _ h
theorem OpIn.s1 {w : World} {g : Nat} {m : POp} (h : OpIn w g m) (z : ByteArray) : OpIn (w.setCell ⟨g, 1, none⟩ (.string z)) g ⟨m.kind, z, m.src, m.val⟩ := heap_setCell_same w g 1 _ _ _ h
theorem OpIn.s2 {w : World} {g : Nat} {m : POp} (h : OpIn w g m) (z : ByteArray) : OpIn (w.setCell ⟨g, 2, none⟩ (.string z)) g ⟨m.kind, m.path, z, m.val⟩ := heap_setCell_same w g 2 _ _ _ h
theorem OpIn.s3 {w : World} {g : Nat} {m : POp} (h : OpIn w g m) (z : ByteArray) : OpIn (w.setCell ⟨g, 3, none⟩ (.string z)) g ⟨m.kind, m.path, m.src, z⟩ := heap_setCell_same w g 3 _ _ _ h
/-- What l2Decode answers. -/
def DcP (v : JV) (w : World) (e : Ending) (w' : World) : Prop := Below w.heap.size w w' ∧ ∃ m : POp, e = .returned (.tuple #[.agg (opCs m), .bool (decOk v)]) ∧ (decOk v = true → m = decP v)
theorem first_obj {u : JV} (h : okV u) (h0 : 0 < (strOf (ct u)).size) : ((((strOf (ct u))[0]).toNat : Int) != 123) = !(kd u == 6) := by
  obtain ⟨c, r, e, f⟩ := ct_fb h
  have hb : ((strOf (ct u))[0]).toNat = c.toNat := by
    rw [← bt_at _ 0 h0, e]
    exact (bt_first (c := c) (r := r)).2
  rw [hb, ← f]
  unfold fb
  by_cases h1 : c.toNat = 123
  · rw [h1]; rfl
  · have a1 : ((c.toNat : Int) != 123) = true := by simp; omega
    rw [a1]
    symm
    rw [Bool.not_eq_true', beq_eq_false_iff_ne]
    repeat (first | (split; omega) | split)
    all_goals omega
theorem strM_len {v : JV} (hok : okV v) (htw : twV v = false) (key : List UInt8) : ((strM v key).getD []).length ≤ (ct v).length := by
  unfold strM
  cases h : childV v key with
  | none => exact Nat.zero_le _
  | some u =>
    obtain ⟨_, _, h3, _⟩ := childV_ok h hok htw
    show ((strU u).getD []).length ≤ _
    cases u with
    | str l =>
      have h4 := quoted_ge l
      have h5 : ct (.str l) = quoted l := rfl
      rw [h5] at h3
      show l.length ≤ _
      omega
    | _ => exact Nat.zero_le _
set_option maxRecDepth 100000 in
set_option maxHeartbeats 4000000 in
theorem decode_walk (v : JV) (hok : okV v) (htw : twV v = false) (hl : (ct v).length ≤ 1000000) (hg : ∀ u, childV v kValue = some u → goodT (strOf (ct u)) = true) (w : World) :
    Calls Tryz.prog 36 #[.string (strOf (ct v))] w (DcP v w) := by
  have h0 := ct_pos hok
  have h0I : (0 : Int) < ((strOf (ct v)).size : Int) := by omega
  have hfo := first_obj hok h0
  have kR := heap_alloc_new w (.cells #[.int .i64 0, .string ⟨#[]⟩, .string ⟨#[]⟩, .string ⟨#[]⟩] 59)
  have hR := alloc_b w (.cells #[.int .i64 0, .string ⟨#[]⟩, .string ⟨#[]⟩, .string ⟨#[]⟩] 59)
  by_cases h6 : kd v = 6
  · obtain ⟨m, rfl⟩ : ∃ m, v = .obj m := by cases v <;> first | exact ⟨_, rfl⟩ | (simp [kd] at h6)
    rw [show (!(kd (.obj m) == 6)) = false from rfl] at hfo
    have HPT : Hid (∀ w, Calls Tryz.prog 35 #[.string (strOf (ct (.obj m)))] w fun e w' => ∃ r, e = .returned r ∧ PR w' w.heap.size r (partsV (.obj m)) ∧ Below w.heap.size w w') := fun w => parts_ct (.obj m) hok w hl
    have HMB : Hid (∀ (key : List UInt8) {B : Nat} (pv : Value) (w : World), PR w B pv (partsV (.obj m)) → Calls Tryz.prog 77 #[pv, .string (strOf key)] w fun e w' => e = .returned (.tuple #[.string (strOf ((strM (.obj m) key).getD [])), .bool (strM (.obj m) key).isSome]) ∧ Below w.heap.size w w') := fun key B pv w h => member_walk m hok htw hl key pv w h
    have HRR := hide hR
    have HKR := hide kR
    clear hR kR h6
    go_enter Tryz.func36, Tryz.ntmps36
    go_wp2_with fail
    generalize hwR : (w.alloc (.cells #[.int .i64 0, .string ⟨#[]⟩, .string ⟨#[]⟩, .string ⟨#[]⟩] 59)) = wR at *
    have hzR : wR.heap.size = w.heap.size + 1 := by rw [← hwR]; simp
    have HZR := hide hzR
    clear hwR hzR
    refine (unhide HPT _).mono ?_
    rintro e w1 ⟨pv, rfl, p1, b1⟩
    obtain ⟨xa, xc, rfl⟩ : ∃ xa xc, pv = .slice xa (partsV (.obj m)).length xc := by
      rcases p1.2 with ⟨hv, h0⟩ | ⟨g, cap, cur, hv, _⟩
      · exact ⟨none, 0, by rw [hv, h0]⟩
      · exact ⟨_, _, hv⟩
    have HP1 := hide p1
    have HM2 := hide (unhide HMB kOp _ w1 p1)
    have HB1 := hide b1
    clear HPT p1 b1 hfo
    go_wp2_with fail
    refine (unhide HM2).mono ?_
    rintro e w2 ⟨rfl, b2⟩
    have HB2 := hide (below_next (unhide HB1) b2)
    have HP2 := hide ((unhide HP1).below b2)
    have hO := alloc_b w2 (.cells #[.int .i64 0, .string ⟨#[]⟩, .string ⟨#[]⟩, .string ⟨#[]⟩] 59)
    have kO := heap_alloc_new w2 (.cells #[.int .i64 0, .string ⟨#[]⟩, .string ⟨#[]⟩, .string ⟨#[]⟩] 59)
    have zO : (w2.alloc (.cells #[.int .i64 0, .string ⟨#[]⟩, .string ⟨#[]⟩, .string ⟨#[]⟩] 59)).heap.size = w2.heap.size + 1 := by simp
    have HO := hide hO
    have HKO := hide kO
    have HZO := hide zO
    have hKr : 0 ≤ decK (.obj m) ∧ decK (.obj m) ≤ 6 := by
      unfold decK
      split
      · exact kindOf_range _
      · omega
    have HKD : Hid ((strM (.obj m) kOp).isSome = true → ∃ t, strOf ((strM (.obj m) kOp).getD []) = strOf t ∧ decK (.obj m) = kindOf t) := fun h => by
      obtain ⟨t, ht⟩ := Option.isSome_iff_exists.1 h
      exact ⟨t, by rw [ht]; rfl, by unfold decK; rw [ht]⟩
    have HKN : Hid ((strM (.obj m) kOp).isSome = false → decK (.obj m) = 0) := fun h => by
      have ht : strM (.obj m) kOp = none := by simpa using h
      unfold decK; rw [ht]
    clear HM2 b2 HB1 HP1 hO kO zO
    generalize strOf ((strM (.obj m) kOp).getD []) = wd0 at *
    generalize (strM (.obj m) kOp).isSome = ok0 at *
    obtain ⟨K, hK⟩ : ∃ K, decK (.obj m) = K := ⟨_, rfl⟩
    have HK := hide hK
    rw [hK] at HKD HKN hKr
    obtain ⟨hK0, hK6⟩ := hKr
    clear hK
    go_wp2
    go_loopw [8] (fun kk wr => ∃ k : Nat, 1 ≤ k ∧ k ≤ 7 ∧ kk = .int .i64 k ∧ OpIn wr w2.heap.size ⟨if K < k then K else 0, ⟨#[]⟩, ⟨#[]⟩, ⟨#[]⟩⟩ ∧ Below w2.heap.size w2 wr) (fun kk _ => 7 - (intOf kk).toNat)
    case atStart => exact ⟨1, by omega, by omega, rfl, by rw [show (if K < ((1 : Nat) : Int) then K else 0) = 0 by split <;> omega]; exact unhide HKO, unhide HO⟩
    case round =>
      obtain ⟨k, hk1, hk7, rfl, hblk, hb⟩ := hrel
      have HBK := hide hblk
      have HBR := hide hb
      have hwz := hb.size
      have hlt2 := hblk.lt
      have c0 : wr.cell? ⟨w2.heap.size, 0, none⟩ = some (.int .i64 (if K < k then K else 0)) := hblk.c.1
      have fz := hblk.fz 0
      clear hb hblk
      by_cases hk6 : k ≤ 6
      · have hk6I : (k : Int) ≤ 6 := by omega
        cases ok0 with
        | false =>
          have hK00 := unhide HKN rfl
          have HST : Hid ((if K < ((k + 1 : Nat) : Int) then K else 0) = (if K < (k : Int) then K else 0)) := by show _ = _; rw [hK00]; split <;> split <;> rfl
          clear hK00 c0 fz
          go_wp2
          go_roundw
          case rel => exact ⟨k + 1, by omega, by omega, by go_num, by rw [unhide HST]; exact unhide HBK, unhide HBR⟩
          case measure => simp [intOf]; omega
        | true =>
          obtain ⟨t, rfl, hKt⟩ := unhide HKD rfl
          have HW := hide (word_walk (k : Int) wr)
          have hcmp : ((strOf (wordT (k : Int))).toList == (strOf t).toList) = ((k : Int) == K) := by rw [str_eq, hKt]; exact kindOf_word (by omega) (by omega)
          clear hKt
          by_cases hkK : (k : Int) = K
          · have e1 : ((k : Int) == K) = true := by rw [beq_iff_eq]; exact hkK
            rw [e1] at hcmp
            have HST : Hid ((if K < ((k + 1 : Nat) : Int) then K else 0) = (k : Int)) := by show _ = _; rw [if_pos (by omega), hkK]
            have HBS := hide ((unhide HBK).s0 (k : Int))
            clear e1 hkK
            generalize strOf (wordT (k : Int)) = wd at *
            generalize strOf t = ts at *
            go_wp2_with fail
            refine (unhide HW).mono ?_
            rintro e w3 ⟨rfl, rfl⟩
            clear HW
            go_wp2
            go_roundw
            case rel => exact ⟨k + 1, by omega, by omega, by go_num, by rw [unhide HST]; exact unhide HBS, (unhide HBR).setCell (p := ⟨w2.heap.size, 0, none⟩) (Nat.le_refl _) _⟩
            case measure => simp [intOf]; omega
          · have e1 : ((k : Int) == K) = false := by rw [beq_eq_false_iff_ne]; exact hkK
            rw [e1] at hcmp
            have HST : Hid ((if K < ((k + 1 : Nat) : Int) then K else 0) = (if K < (k : Int) then K else 0)) := by show _ = _; split <;> split <;> omega
            clear e1 hkK
            generalize strOf (wordT (k : Int)) = wd at *
            generalize strOf t = ts at *
            go_wp2_with fail
            refine (unhide HW).mono ?_
            rintro e w3 ⟨rfl, rfl⟩
            clear HW
            go_wp2
            go_roundw
            case rel => exact ⟨k + 1, by omega, by omega, by go_num, by rw [unhide HST]; exact unhide HBK, unhide HBR⟩
            case measure => simp [intOf]; omega
      · have hk7' : k = 7 := by omega
        subst hk7'
        have e7 : (if K < ((7 : Nat) : Int) then K else 0) = K := if_pos (by omega)
        rw [e7] at HBK c0
        have HM3 := hide (unhide HMB kPath _ wr ((unhide HP2).below (unhide HBR)))
        have HRX : Hid (∀ wx, Below w2.heap.size w2 wx → OpIn wx w.heap.size op0 ∧ Below w.heap.size w wx) := fun wx hx => by
          have hz := (unhide HB2).size
          have hzr := unhide HZR
          refine ⟨(hx.block w.heap.size (by omega)).trans (((unhide HB2).block w.heap.size (by omega)).trans (unhide HKR)), ?_⟩
          exact (unhide HRR).trans (((unhide HB2).mono (by omega)).trans (hx.mono (by omega)))
        have HDK : Hid (K = 0 → decOk (.obj m) = false) := fun h => by unfold decOk; rw [unhide HK, h]; rfl
        have HDP : Hid ((strM (.obj m) kPath).isSome = false → decOk (.obj m) = false) := fun h => by unfold decOk; rw [h]; simp
        have HPP : Hid ((strM (.obj m) kPath).isSome = true → (strM (.obj m) kPath).isSome = true) := id
        have HFN : Hid ((strM (.obj m) kPath).isSome = true → K ≠ 0 → (hasF K = true → (strM (.obj m) kFrom).isSome = true) → (hasV K = true → ∃ u, childV (.obj m) kValue = some u ∧ goodT (strOf (ct u)) = true) → opOk (decP (.obj m)) = decOk (.obj m)) := fun h1 h2 h3 h4 => by
          have e := unhide HK
          exact dec_fin (by rw [e]; exact h2) h1 (by rw [e]; exact h3) (by rw [e]; exact h4)
        have hplen : (strOf ((strM (.obj m) kPath).getD [])).size ≤ 1000000 := by rw [strOf_size]; have := strM_len hok htw kPath; omega
        have HPL := hide hplen
        clear e7 hplen HPP
        obtain ⟨pp, hpp⟩ : ∃ pp, strOf ((strM (.obj m) kPath).getD []) = pp := ⟨_, rfl⟩
        obtain ⟨th, hth⟩ : ∃ th, (strM (.obj m) kPath).isSome = th := ⟨_, rfl⟩
        rw [hpp, hth] at HM3
        rw [hth] at HDP HFN
        rw [hpp] at HPL
        have HPPE := hide hpp
        have HTH := hide hth
        clear hpp hth
        go_wp2_with fail
        refine (unhide HM3).mono ?_
        rintro e w4 ⟨rfl, b4⟩
        have b24 := below_next (unhide HBR) b4
        have o4 := (unhide HBK).below b4
        have d0 := o4.c.1
        simp only at d0
        have f1 := o4.fz 1
        have HB4 := hide b24
        have HO4 := hide o4
        clear HM3 b4 b24 o4 c0 fz HBK HBR
        by_cases hKz : K = 0
        · have HDF := hide (unhide HDK hKz)
          obtain ⟨hrb, hbw⟩ := unhide HRX w4 (unhide HB4)
          have r0 := hrb.c
          have rz := hrb.fz
          have HRB := hide hrb
          have HBW := hide hbw
          subst hKz
          clear hrb hbw f1
          go_wp2
          refine bodyPost_ret (results_cell_tmp rfl _ _ w.heap.size 59 #[_, _, _, _] (0, 0) _ _ rfl rfl (putN_full (unhide HRB) [_, _, _, _] rfl) Tryz.underlying59 rfl (by kernel_rfl)) rfl ?_
          exact ⟨putN_below (unhide HBW) (Nat.le_refl _) [_, _, _, _] 0, op0, by rw [unhide HDF]; rfl, fun h => by rw [unhide HDF] at h; cases h⟩
        · have tK : (K == 0) = false := by rw [beq_eq_false_iff_ne]; exact hKz
          cases th with
          | false =>
            have HDF := hide (unhide HDP rfl)
            obtain ⟨hrb, hbw⟩ := unhide HRX w4 (unhide HB4)
            have r0 := hrb.c
            have rz := hrb.fz
            have HRB := hide hrb
            have HBW := hide hbw
            clear hrb hbw f1
            go_wp2
            refine bodyPost_ret (results_cell_tmp rfl _ _ w.heap.size 59 #[_, _, _, _] (0, 0) _ _ rfl rfl (putN_full (unhide HRB) [_, _, _, _] rfl) Tryz.underlying59 rfl (by kernel_rfl)) rfl ?_
            exact ⟨putN_below (unhide HBW) (Nat.le_refl _) [_, _, _, _] 0, op0, by rw [unhide HDF]; rfl, fun h => by rw [unhide HDF] at h; cases h⟩
          | true =>
            have o5 := (unhide HO4).s1 pp
            have HB5 := hide ((unhide HB4).setCell (p := ⟨w2.heap.size, 1, none⟩) (Nat.le_refl _) (.string pp))
            have HHF := hide (hasF_walk K (w4.setCell ⟨w2.heap.size, 1, none⟩ (.string pp)))
            have HO5 := hide o5
            have g0 := o5.c.1
            simp only at g0
            have d1 := (unhide HO4).c.2.1
            simp only at d1
            clear o5
            go_wp2_with fail
            generalize hw5 : w4.setCell ⟨w2.heap.size, 1, none⟩ (.string pp) = w5 at *
            clear hw5
            refine (unhide HHF).mono ?_
            rintro e w5' ⟨rfl, rfl⟩
            have HDE : Hid (decP (.obj m) = ⟨K, pp, if hasF K then strOf ((strM (.obj m) kFrom).getD []) else ⟨#[]⟩, if hasV K then strOf (((childV (.obj m) kValue).map ct).getD []) else ⟨#[]⟩⟩) := by
              show _ = _
              unfold decP
              rw [unhide HK, unhide HPPE]
            have HHV := fun wx => hasV_walk K wx
            have HHV2 := hide HHV
            clear HHF HHV d0 d1 f1
            cases hF : hasF K with
            | true =>
              have hV : hasV K = false := by
                unfold hasF at hF
                unfold hasV
                simp only [Bool.or_eq_true, beq_iff_eq] at hF
                rcases hF with h | h <;> rw [h] <;> rfl
              have HMF := hide (unhide HMB kFrom _ w5 ((unhide HP2).below (unhide HB5)))
              have HDN : Hid ((strM (.obj m) kFrom).isSome = false → decOk (.obj m) = false) := fun h => by unfold decOk; rw [unhide HK, hF, h]; simp
              have HFL : Hid ((strOf ((strM (.obj m) kFrom).getD [])).size ≤ 1000000) := by show _ ≤ _; rw [strOf_size]; have := strM_len hok htw kFrom; omega
              have HVAL : Hid (strOf ((strM (.obj m) kFrom).getD []) = strOf ((strM (.obj m) kFrom).getD [])) := rfl
              obtain ⟨ff, hff⟩ : ∃ ff, strOf ((strM (.obj m) kFrom).getD []) = ff := ⟨_, rfl⟩
              obtain ⟨hs, hhs⟩ : ∃ hs, (strM (.obj m) kFrom).isSome = hs := ⟨_, rfl⟩
              rw [hff, hhs] at HMF
              rw [hhs] at HDN HFN
              rw [hff] at HFL HDE
              rw [hV] at HHV2
              clear hff hhs HVAL
              go_wp2_with fail
              refine (unhide HMF).mono ?_
              rintro e w6 ⟨rfl, b6⟩
              have HB6 := hide (below_next (unhide HB5) b6)
              have o6 := (unhide HO5).below b6
              have HO6 := hide o6
              have k0 := o6.c
              have fz := o6.fz 2
              clear HMF b6 o6 HO5 HB5 g0
              cases hs with
              | false =>
                have HDF := hide (unhide HDN rfl)
                clear k0 fz
                obtain ⟨hrb, hbw⟩ := unhide HRX w6 (unhide HB6)
                have r0 := hrb.c
                have rz := hrb.fz
                have HRB := hide hrb
                have HBW := hide hbw
                clear hrb hbw
                go_wp2
                refine bodyPost_ret (results_cell_tmp rfl _ _ w.heap.size 59 #[_, _, _, _] (0, 0) _ _ rfl rfl (putN_full (unhide HRB) [_, _, _, _] rfl) Tryz.underlying59 rfl (by kernel_rfl)) rfl ?_
                exact ⟨putN_below (unhide HBW) (Nat.le_refl _) [_, _, _, _] 0, op0, by rw [unhide HDF]; rfl, fun h => by rw [unhide HDF] at h; cases h⟩
              | true =>
                have o7 := (unhide HO6).s2 ff
                have HB7 := hide ((unhide HB6).setCell (p := ⟨w2.heap.size, 2, none⟩) (Nat.le_refl _) (.string ff))
                have HHV3 := hide (unhide HHV2 (w6.setCell ⟨w2.heap.size, 2, none⟩ (.string ff)))
                have HO7 := hide o7
                have g7 := o7.c.1
                simp only at g7 k0
                clear o7 HHV2 HDN
                go_wp2_with fail
                generalize hw7 : w6.setCell ⟨w2.heap.size, 2, none⟩ (.string ff) = w7 at *
                clear hw7
                refine (unhide HHV3).mono ?_
                rintro e w7' ⟨rfl, rfl⟩
                clear HHV3 k0 fz
                have HEQ : Hid ((⟨K, pp, ff, ⟨#[]⟩⟩ : POp) = decP (.obj m)) := by
                  show _ = _
                  rw [unhide HDE]
                  simp only [hF, hV, if_true, Bool.false_eq_true, if_false]
                have HOE : Hid (opOk (⟨K, pp, ff, ⟨#[]⟩⟩ : POp) = decOk (.obj m)) := by show _ = _; rw [unhide HEQ]; exact unhide HFN (by first | rfl | trivial) hKz (fun _ => by first | rfl | trivial) (fun h => by rw [hV] at h; cases h)
                have HOK := hide (opOk_walk (⟨K, pp, ff, ⟨#[]⟩⟩ : POp) w7.drew (by show pp.size ≤ _; have := unhide HPL; omega) (by show ff.size ≤ _; have := unhide HFL; omega) (by show (0 : Nat) ≤ _; omega))
                have hbd : Below w7.heap.size w7 w7.drew := (Below.refl _ _).drew
                obtain ⟨x0, x1, x2, x3⟩ := (unhide HO7).c
                simp only at x0 x1 x2 x3
                generalize opOk (⟨K, pp, ff, ⟨#[]⟩⟩ : POp) = z9 at *
                clear g7 HB6 HO6
                go_wp2_with fail
                go_region_law (go_simp; refine (unhide HOK).mono ?_; rintro e w9 ⟨rfl, b9⟩
                               have b9' := below_next hbd b9
                               obtain ⟨y0, y1, y2, y3⟩ := ((unhide HO7).below b9').c
                               simp only at y0 y1 y2 y3
                               obtain ⟨hrb, hbw⟩ := unhide HRX w9 (below_next (unhide HB7) b9')
                               have r0 := hrb.c
                               have rz := hrb.fz)
                all_goals (
                  have HRB := hide hrb
                  have HBW := hide hbw
                  clear hrb hbw b9 b9' hbd HOK x0 x1 x2 x3 y0 y1 y2 y3
                  go_wp2
                  refine bodyPost_ret (results_cell_tmp rfl _ _ w.heap.size 59 #[_, _, _, _] (0, 0) _ _ rfl rfl (putN_full (unhide HRB) [_, _, _, _] rfl) Tryz.underlying59 rfl (by kernel_rfl)) rfl ?_
                  exact ⟨putN_below (unhide HBW) (Nat.le_refl _) [_, _, _, _] 0, (⟨K, pp, ff, ⟨#[]⟩⟩ : POp), by rw [← unhide HOE]; rfl, fun _ => unhide HEQ⟩)
            | false =>
              cases hV : hasV K with
              | false =>
                rw [hV] at HHV2
                have HHV3 := hide (unhide HHV2 w5)
                clear HHV2
                go_wp2_with fail
                refine (unhide HHV3).mono ?_
                rintro e w5' ⟨rfl, rfl⟩
                clear HHV3
                have HEQ : Hid ((⟨K, pp, ⟨#[]⟩, ⟨#[]⟩⟩ : POp) = decP (.obj m)) := by
                  show _ = _
                  rw [unhide HDE]
                  simp only [hF, hV, Bool.false_eq_true, if_false]
                have HOE : Hid (opOk (⟨K, pp, ⟨#[]⟩, ⟨#[]⟩⟩ : POp) = decOk (.obj m)) := by show _ = _; rw [unhide HEQ]; exact unhide HFN (by first | rfl | trivial) hKz (fun h => by rw [hF] at h; cases h) (fun h => by rw [hV] at h; cases h)
                have HOK := hide (opOk_walk (⟨K, pp, ⟨#[]⟩, ⟨#[]⟩⟩ : POp) w5.drew (by show pp.size ≤ _; have := unhide HPL; omega) (by show (0 : Nat) ≤ _; omega) (by show (0 : Nat) ≤ _; omega))
                have hbd : Below w5.heap.size w5 w5.drew := (Below.refl _ _).drew
                obtain ⟨x0, x1, x2, x3⟩ := (unhide HO5).c
                simp only at x0 x1 x2 x3
                generalize opOk (⟨K, pp, ⟨#[]⟩, ⟨#[]⟩⟩ : POp) = z9 at *
                clear g0
                go_wp2_with fail
                go_region_law (go_simp; refine (unhide HOK).mono ?_; rintro e w9 ⟨rfl, b9⟩
                               have b9' := below_next hbd b9
                               obtain ⟨y0, y1, y2, y3⟩ := ((unhide HO5).below b9').c
                               simp only at y0 y1 y2 y3
                               obtain ⟨hrb, hbw⟩ := unhide HRX w9 (below_next (unhide HB5) b9')
                               have r0 := hrb.c
                               have rz := hrb.fz)
                all_goals (
                  have HRB := hide hrb
                  have HBW := hide hbw
                  clear hrb hbw b9 b9' hbd HOK x0 x1 x2 x3 y0 y1 y2 y3
                  go_wp2
                  refine bodyPost_ret (results_cell_tmp rfl _ _ w.heap.size 59 #[_, _, _, _] (0, 0) _ _ rfl rfl (putN_full (unhide HRB) [_, _, _, _] rfl) Tryz.underlying59 rfl (by kernel_rfl)) rfl ?_
                  exact ⟨putN_below (unhide HBW) (Nat.le_refl _) [_, _, _, _] 0, (⟨K, pp, ⟨#[]⟩, ⟨#[]⟩⟩ : POp), by rw [← unhide HOE]; rfl, fun _ => unhide HEQ⟩)
              | true =>
                rw [hV] at HHV2
                have HHV3 := hide (unhide HHV2 w5)
                have hpl := parts_len hok hl
                have p5 := (unhide HP2).below (unhide HB5)
                have HFD := hide (find_at _ _ (partsV (.obj m)) kValue w5 p5 (by omega))
                have HCC : Hid (∀ j (hj : j < (partsV (.obj m)).length), ∃ g, xa = some ⟨g, 0, none⟩ ∧ g < w2.heap.size ∧ w5.cell? ⟨g, j * 2 + 1, none⟩ = some (.string (strOf (partsV (.obj m))[j].2))) := fun j hj => by
                  obtain ⟨g, cap, hv, _, hg2, _⟩ := (unhide HP2).cells j hj
                  injection hv with hv _ _
                  obtain ⟨g', cap', hv', _, _, _, hc⟩ := p5.cells j hj
                  injection hv' with hv' _ _
                  rw [hv] at hv'
                  injection hv' with hv'
                  injection hv' with hv'
                  subst hv'
                  exact ⟨g, hv, hg2, hc⟩
                have HVN : Hid ((∀ j (hj : j < (partsV (.obj m)).length), (partsV (.obj m))[j].1 ≠ kValue) → decOk (.obj m) = false) := fun h => by unfold decOk; rw [unhide HK, hV, child_missed h]; simp
                have HVY : Hid (∀ j (hj : j < (partsV (.obj m)).length), (partsV (.obj m))[j].1 = kValue → ∃ u, (partsV (.obj m))[j].2 = ct u ∧ childV (.obj m) kValue = some u ∧ goodT (strOf (ct u)) = true ∧ (ct u).length ≤ 1000000) := fun j hj hk => by
                  obtain ⟨u, h1, h2⟩ := child_found hok htw (fun ⟨l, e⟩ => by cases e) hj hk
                  obtain ⟨_, _, a3, _⟩ := childV_ok h1 hok htw
                  exact ⟨u, h2, h1, hg u h1, by omega⟩
                clear HHV2 p5
                generalize partsV (.obj m) = ps at *
                go_wp2_with fail
                refine (unhide HHV3).mono ?_
                rintro e w5' ⟨rfl, rfl⟩
                clear HHV3
                go_wp2_with fail
                refine (unhide HFD).mono ?_
                rintro e w5' ⟨rfl, ⟨rfl, hk⟩ | ⟨j, hj, rfl, hk⟩⟩
                · have HDF := hide (unhide HVN hk)
                  clear HFD HCC HVN HVY hk g0
                  obtain ⟨hrb, hbw⟩ := unhide HRX w5 (unhide HB5)
                  have r0 := hrb.c
                  have rz := hrb.fz
                  have HRB := hide hrb
                  have HBW := hide hbw
                  clear hrb hbw
                  go_wp2
                  refine bodyPost_ret (results_cell_tmp rfl _ _ w.heap.size 59 #[_, _, _, _] (0, 0) _ _ rfl rfl (putN_full (unhide HRB) [_, _, _, _] rfl) Tryz.underlying59 rfl (by kernel_rfl)) rfl ?_
                  exact ⟨putN_below (unhide HBW) (Nat.le_refl _) [_, _, _, _] 0, op0, by rw [unhide HDF]; rfl, fun h => by rw [unhide HDF] at h; cases h⟩
                · obtain ⟨u, h1, hcu, hgu, hlu⟩ := unhide HVY j hj hk
                  obtain ⟨g, rfl, hg2, hcc⟩ := unhide HCC j hj
                  rw [h1] at hcc
                  have hjI : (j : Int) < (ps.length : Int) := by omega
                  have HHU : Hid (strOf (((childV (.obj m) kValue).map ct).getD []) = strOf (ct u)) := by show _ = _; rw [hcu]; rfl
                  rw [unhide HHU] at HDE
                  have HVX : Hid (∃ u, childV (.obj m) kValue = some u ∧ goodT (strOf (ct u)) = true) := ⟨u, hcu, hgu⟩
                  have HLU : Hid ((strOf (ct u)).size ≤ 1000000) := by show _ ≤ _; rw [strOf_size]; exact hlu
                  have o7 := (unhide HO5).s3 (strOf (ct u))
                  have HB7 := hide ((unhide HB5).setCell (p := ⟨w2.heap.size, 3, none⟩) (Nat.le_refl _) (.string (strOf (ct u))))
                  have HO7 := hide o7
                  have k0 := (unhide HO5).c
                  have fz := (unhide HO5).fz 3
                  simp only at k0
                  clear HFD HCC HVN HVY hk h1 hcu hgu hlu o7 HHU hg
                  generalize strOf (ct u) = vv at *
                  go_wp2_with fail
                  generalize hw7 : w5.setCell ⟨w2.heap.size, 3, none⟩ (.string vv) = w7 at *
                  clear hw7
                  have HEQ : Hid ((⟨K, pp, ⟨#[]⟩, vv⟩ : POp) = decP (.obj m)) := by
                    show _ = _
                    rw [unhide HDE]
                    simp only [hF, hV, if_true, Bool.false_eq_true, if_false]
                  have HOE : Hid (opOk (⟨K, pp, ⟨#[]⟩, vv⟩ : POp) = decOk (.obj m)) := by show _ = _; rw [unhide HEQ]; exact unhide HFN (by first | rfl | trivial) hKz (fun h => by rw [hF] at h; cases h) (fun _ => unhide HVX)
                  have HOK := hide (opOk_walk (⟨K, pp, ⟨#[]⟩, vv⟩ : POp) w7.drew (by show pp.size ≤ _; have := unhide HPL; omega) (by show (0 : Nat) ≤ _; omega) (by show vv.size ≤ _; have := unhide HLU; omega))
                  have hbd : Below w7.heap.size w7 w7.drew := (Below.refl _ _).drew
                  obtain ⟨x0, x1, x2, x3⟩ := (unhide HO7).c
                  simp only at x0 x1 x2 x3
                  generalize opOk (⟨K, pp, ⟨#[]⟩, vv⟩ : POp) = z9 at *
                  clear g0 k0 fz hcc
                  go_wp2_with fail
                  go_region_law (go_simp; refine (unhide HOK).mono ?_; rintro e w9 ⟨rfl, b9⟩
                                 have b9' := below_next hbd b9
                                 obtain ⟨y0, y1, y2, y3⟩ := ((unhide HO7).below b9').c
                                 simp only at y0 y1 y2 y3
                                 obtain ⟨hrb, hbw⟩ := unhide HRX w9 (below_next (unhide HB7) b9')
                                 have r0 := hrb.c
                                 have rz := hrb.fz)
                  all_goals (
                    have HRB := hide hrb
                    have HBW := hide hbw
                    clear hrb hbw b9 b9' hbd HOK x0 x1 x2 x3 y0 y1 y2 y3
                    go_wp2
                    refine bodyPost_ret (results_cell_tmp rfl _ _ w.heap.size 59 #[_, _, _, _] (0, 0) _ _ rfl rfl (putN_full (unhide HRB) [_, _, _, _] rfl) Tryz.underlying59 rfl (by kernel_rfl)) rfl ?_
                    exact ⟨putN_below (unhide HBW) (Nat.le_refl _) [_, _, _, _] 0, (⟨K, pp, ⟨#[]⟩, vv⟩ : POp), by rw [← unhide HOE]; rfl, fun _ => unhide HEQ⟩)
  · have hno : (!(kd v == 6)) = true := by simp [h6]
    rw [hno] at hfo
    have HD := hide (decOk_obj h6)
    have HK := hide kR
    have HB := hide hR
    have c0 : (w.alloc (.cells #[.int .i64 0, .string ⟨#[]⟩, .string ⟨#[]⟩, .string ⟨#[]⟩] 59)).cell? ⟨w.heap.size, 0, none⟩ = some (.int .i64 0) := Lib.cell_of_heap kR 0
    have fz := Lib.frozen_of_heap kR
    clear hok htw hl hg hno h6 kR hR
    generalize strOf (ct v) = T at *
    go_enter Tryz.func36, Tryz.ntmps36
    go_wp2
    refine bodyPost_ret (results_cell_tmp rfl _ _ w.heap.size 59 #[_, _, _, _] (0, 0) _ _ rfl rfl (unhide HK) Tryz.underlying59 rfl (by kernel_rfl)) rfl ?_
    exact ⟨unhide HB, op0, by rw [unhide HD]; rfl, fun h => by rw [unhide HD] at h; cases h⟩
end Go.Proofs.YtocnekbedcnmgaaGreatDoor


namespace Go.Proofs.YtocnekbedcnmgaaGreatDoor
open Go.RowKit

/-- What is good of a tree is good of its parts. -/
structure GdV (v : JV) : Prop where
  rd : rdV v
  big : bigV v = false
  dep : depV v ≤ 100
  cnt : cntV v ≤ 3000
  tw : twV v = false
  ok : okV v
  len : (ct v).length ≤ 20000
theorem rdL_mem : ∀ {l : JL} {u : JV}, rdL l → bigL l = false → u ∈ l.toL → rdV u ∧ bigV u = false ∧ depV u ≤ depL l
  | .nil, u, _, _, h => by simp [JL.toL] at h
  | .cons v r, u, h1, h2, h => by
    rw [rdL] at h1
    rw [bigL, Bool.or_eq_false_iff] at h2
    rw [JL.toL, List.mem_cons] at h
    rw [depL]
    rcases h with rfl | h
    · exact ⟨h1.1, h2.1, Nat.le_max_left _ _⟩
    · obtain ⟨a, b, c⟩ := rdL_mem h1.2 h2.2 h
      exact ⟨a, b, Nat.le_trans c (Nat.le_max_right _ _)⟩
theorem rdM_mem : ∀ {l : JM} {k : List UInt8} {u : JV}, rdM l → bigM l = false → (k, u) ∈ l.toL → rdV u ∧ bigV u = false ∧ depV u ≤ depM l
  | .nil, k, u, _, _, h => by simp [JM.toL] at h
  | .cons k' v r, k, u, h1, h2, h => by
    rw [rdM] at h1
    rw [bigM, Bool.or_eq_false_iff] at h2
    rw [JM.toL, List.mem_cons] at h
    rw [depM]
    rcases h with h | h
    · injection h with _ h
      subst h
      exact ⟨h1.2.1, h2.1, Nat.le_max_left _ _⟩
    · obtain ⟨a, b, c⟩ := rdM_mem h1.2.2 h2.2 h
      exact ⟨a, b, Nat.le_trans c (Nat.le_max_right _ _)⟩
theorem GdV.child {v u : JV} {t : List UInt8} (h : GdV v) (hc : childV v t = some u) : GdV u := by
  obtain ⟨a1, a2, a3, a4⟩ := childV_ok hc h.ok h.tw
  have hl := h.len
  have hn := h.cnt
  have hd := h.dep
  have key : rdV u ∧ bigV u = false ∧ depV u ≤ depV v := by
    cases v with
    | arr l =>
      rw [childV_arr] at hc
      obtain ⟨i, _, hi⟩ := Option.bind_eq_some_iff.1 hc
      have := rdL_mem h.rd h.big (List.mem_of_getElem? hi)
      exact ⟨this.1, this.2.1, by rw [depV]; omega⟩
    | obj m =>
      rw [childV_obj] at hc
      obtain ⟨q, hq, e⟩ := Option.map_eq_some_iff.1 hc
      have := rdM_mem (k := q.1) (u := q.2) h.rd h.big (List.mem_of_find?_eq_some hq)
      rw [← e]
      exact ⟨this.1, this.2.1, by rw [depV]; omega⟩
    | _ => cases hc
  exact ⟨key.1, key.2.1, by omega, by omega, a2, a1, by omega⟩
theorem GdV.good {v : JV} (h : GdV v) : goodT (strOf (ct v)) = true := by
  rw [goodT_ct h.rd h.big h.tw]
  exact decide_eq_true ⟨h.dep, h.cnt, h.len⟩
theorem GdV.of {s : ByteArray} {v : JV} (h : readR s = .inr v) : GdV v := by
  obtain ⟨h1, h2, h3, h4, h5, h6⟩ := read_facts h
  exact ⟨doc_rdV h2, h4, h5, h6, h3, (doc_facts h2).1, by have := doc_sharp h2; omega⟩
theorem GdV.item {l : JL} {u : JV} (h : GdV (.arr l)) (hu : u ∈ l.toL) : GdV u := by
  obtain ⟨j, hj, rfl⟩ := List.mem_iff_getElem.1 hu
  have hlt : j < (idxJ 0 l.toL).length := by rw [idxJ_len]; exact hj
  have hm : (decT j, l.toL[j]) ∈ kidsV (.arr l) := by
    have e := idxJ_at l.toL 0 j hlt
    rw [Nat.zero_add] at e
    show _ ∈ idxJ 0 l.toL
    rw [← e]
    exact List.getElem_mem hlt
  obtain ⟨o1, o2, o3, o4⟩ := kids_ok h.ok h.tw hm
  simp only at o1 o2 o3 o4
  have hr := rdL_mem h.rd h.big hu
  have h1 := kids_cnt (.arr l)
  have h2 : cntV l.toL[j] ≤ _ := sumf_at (fun q => cntV q.2) hm
  have hd := h.dep
  have hc := h.cnt
  have hl := h.len
  exact ⟨hr.1, hr.2.1, by omega, by omega, o2, o1, by omega⟩
/-- What DecodePatch answers. -/
def dcR (s : ByteArray) : List POp × Int × Int := match readR s with
  | .inl _ => ([], 1, 0)
  | .inr (.arr l) => if 100 < l.toL.length then ([], 3, 100) else match l.toL.findIdx? (fun v => !decOk v) with
    | some i => ([], 4, i)
    | none => (l.toL.map decP, 0, 0)
  | .inr _ => ([], 2, 0)
end Go.Proofs.YtocnekbedcnmgaaGreatDoor


namespace Go.Proofs.YtocnekbedcnmgaaGreatDoor
open Go.RowKit

theorem infoPOp : (Tryz.prog.info? 59).map (fun i => (i.zero, i.size, i.bytes)) = some (some (.agg #[.int .i64 0, .string ByteArray.empty, .string ByteArray.empty, .string ByteArray.empty]), 4, 56) := by kernel_rfl
/-- A row of operations that the call owns. -/
def OPr (w : World) (B : Nat) (v : Value) (ms : List POp) : Prop := w.ownsRow B 59 4 v ms.length (ms.flatMap opV)
theorem OPr.step {w : World} {B : Nat} {v : Value} {ms : List POp} {m : POp} (h : w.ownsRow B 59 4 v (ms.length + 1) (ms.flatMap opV ++ opV m)) : OPr w B v (ms ++ [m]) := by
  unfold OPr
  rw [List.length_append, List.flatMap_append, List.flatMap_singleton]
  exact h
theorem OPr.orow {w : World} {B : Nat} {v : Value} {ms : List POp} (h : OPr w B v ms) : ORow opE w v ms v.ownBlock.toList ∧ Fsh B v.ownBlock.toList := by
  refine ⟨⟨ms.map fun m => (opV m, []), by simp, fun j p x hp hx => ?_, ?_, ?_⟩, ?_⟩
  · rw [List.getElem?_map, hx] at hp
    injection hp with hp
    subst hp
    exact ⟨rfl, rfl⟩
  · have e : (ms.map fun m => ((opV m, []) : List Value × List Nat)).flatMap (·.1) = ms.flatMap opV := by rw [List.flatMap_map]
    rw [e]
    exact own_mono h (Nat.zero_le _)
  · have e : (ms.map fun m => ((opV m, []) : List Value × List Nat)).flatMap (·.2) = [] := by rw [List.flatMap_map]; simp
    rw [e, List.append_nil]
  · refine ⟨?_, fun b hb => (h.lt b (by simpa using hb)).1⟩
    cases v.ownBlock <;> simp
theorem lit4 (w : World) (m : POp) : ∀ j u, (opV m)[j]? = some u → (w.alloc (.cells (opCs m) 59)).cell? ((⟨w.heap.size, 0, none⟩ : Addr).add j) = some u := lit_cells w (opV m) 59
theorem one4 (m : POp) : ∀ u ∈ opV m, u.oneCell' = true := by
  intro u hu
  simp only [opV, List.mem_cons, List.not_mem_nil, or_false] at hu
  rcases hu with rfl | rfl | rfl | rfl <;> rfl
theorem first_arr {u : JV} (h : okV u) (h0 : 0 < (strOf (ct u)).size) : ((((strOf (ct u))[0]).toNat : Int) != 91) = !(kd u == 5) := by
  obtain ⟨c, r, e, f⟩ := ct_fb h
  have hb : ((strOf (ct u))[0]).toNat = c.toNat := by
    rw [← bt_at _ 0 h0, e]
    exact (bt_first (c := c) (r := r)).2
  rw [hb, ← f]
  unfold fb
  by_cases h1 : c.toNat = 91
  · rw [h1]; rfl
  · have a1 : ((c.toNat : Int) != 91) = true := by simp; omega
    rw [a1]
    symm
    rw [Bool.not_eq_true', beq_eq_false_iff_ne]
    repeat (first | (split; omega) | split)
    all_goals omega
theorem parts_at (l : JL) : (partsV (.arr l)).length = l.toL.length ∧ ∀ j (h : j < (partsV (.arr l)).length) (h' : j < l.toL.length), (partsV (.arr l))[j].2 = ct l.toL[j] := by
  have h1 : (partsV (.arr l)).length = l.toL.length := by
    show (idxF 0 (ctL l)).length = _
    rw [idxF_len, ctL_map, List.length_map]
  refine ⟨h1, fun j h h' => ?_⟩
  have e := idxF_at (ctL l) 0 j h
  show ((idxF 0 (ctL l))[j]'h).2 = _
  rw [e]
  simp only [ctL_map, List.getElem_map]
set_option maxRecDepth 100000 in
set_option maxHeartbeats 4000000 in
theorem specDecode_walk (s : ByteArray) (w : World) (hs : s.size ≤ 1048576) :
    Calls Tryz.prog 9 #[.string s] w fun e w' => ∃ v, e = .returned (.tuple #[v, .int .i64 (dcR s).2.1, .int .i64 (dcR s).2.2]) ∧ OPr w' w.heap.size v (dcR s).1 ∧ Below w.heap.size w w' := by
  obtain ⟨i0, hi, hz0, hz1, hz2⟩ := info_parts infoPOp
  have hA := alloc_b w (.cells #[] 59)
  have HE0 : Hid (OPr (w.alloc (.cells #[] 59)) w.heap.size (.slice (some ⟨w.heap.size, 0, none⟩) 0 0) []) := empty_row w 59 4
  have HCN : Hid (∀ wx, Calls Tryz.prog 21 #[.string s] wx fun e w' => e = .returned (canonV s) ∧ Below wx.heap.size wx w') := fun wx => specCanon_walk s wx hs
  have HA := hide hA
  clear hA hs
  cases hr : readR s with
  | inl c =>
    have hc := read_code hr
    have HC : Hid (canonV s = .tuple #[.string ⟨#[]⟩, .int .i64 (c : Int)]) := by show _ = _; unfold canonV; rw [hr]
    have HR : Hid (dcR s = ([], 1, 0)) := by show _ = _; unfold dcR; rw [hr]
    rw [unhide HC] at HCN
    have t2 : ((c : Int) != 0) = true := by simp; omega
    have t3 : ¬ (c : Int) = 0 := by omega
    have t4 : ¬ c = 0 := by omega
    clear hr hc HC
    go_enter Tryz.func9, Tryz.ntmps9
    go_wp2_with fail
    refine (unhide HCN _).mono ?_
    rintro e w2 ⟨rfl, b2⟩
    have HB2 := hide (below_next (unhide HA) b2)
    have HO2 : Hid (OPr w2 w.heap.size (.slice (some ⟨w.heap.size, 0, none⟩) 0 0) []) := own_below (unhide HE0) b2
    clear b2 HCN
    go_wp2
    go_ret3
    exact ⟨_, by rw [unhide HR]; rfl, by rw [unhide HR]; exact unhide HO2, unhide HB2⟩
  | inr a =>
    have hgd := GdV.of hr
    have HC : Hid (canonV s = .tuple #[.string (strOf (ct a)), .int .i64 0]) := by show _ = _; unfold canonV; rw [hr]
    rw [unhide HC] at HCN
    have h0 := ct_pos hgd.ok
    have h0I : (0 : Int) < ((strOf (ct a)).size : Int) := by omega
    have hfa := first_arr hgd.ok h0
    by_cases h5 : kd a = 5
    · obtain ⟨l, rfl⟩ : ∃ l, a = .arr l := by cases a <;> first | exact ⟨_, rfl⟩ | (simp [kd] at h5)
      rw [show (!(kd (.arr l) == 5)) = false from rfl] at hfa
      have HPT : Hid (∀ w, Calls Tryz.prog 35 #[.string (strOf (ct (.arr l)))] w fun e w' => ∃ r, e = .returned r ∧ PR w' w.heap.size r (partsV (.arr l)) ∧ Below w.heap.size w w') := fun w => parts_ct (.arr l) hgd.ok w (by have := hgd.len; omega)
      obtain ⟨hpl, hpt⟩ := parts_at l
      have HDW : Hid (∀ j (h : j < l.toL.length) (wx : World), Calls Tryz.prog 36 #[.string (strOf (ct l.toL[j]))] wx (DcP l.toL[j] wx)) := fun j h wx => by
        have hu := hgd.item (List.getElem_mem h)
        exact decode_walk _ hu.ok hu.tw (by have := hu.len; omega) (fun u hc => (hu.child hc).good) wx
      have HPT2 := hide hpt
      have HR0 : Hid (100 < l.toL.length → dcR s = ([], 3, 100)) := fun h => by unfold dcR; rw [hr]; simp only; rw [if_pos h]
      have HR1 : Hid (¬ 100 < l.toL.length → ∀ i (hi : i < l.toL.length), decOk l.toL[i] = false → (∀ j (h : j < l.toL.length), j < i → decOk l.toL[j] = true) → dcR s = ([], 4, (i : Int))) := fun h i hi hb hg => by
        have hf : l.toL.findIdx? (fun v => !decOk v) = some i := by
          rw [List.findIdx?_eq_some_iff_getElem]
          exact ⟨hi, by simp [hb], fun j hj => by simp [hg j (by omega) hj]⟩
        unfold dcR; rw [hr]; simp only; rw [if_neg h, hf]
      have HR2 : Hid (¬ 100 < l.toL.length → (∀ j (h : j < l.toL.length), decOk l.toL[j] = true) → dcR s = (l.toL.map decP, 0, 0)) := fun h hg => by
        have hf : l.toL.findIdx? (fun v => !decOk v) = none := by
          rw [List.findIdx?_eq_none_iff]
          intro x hx
          obtain ⟨j, hj, rfl⟩ := List.mem_iff_getElem.1 hx
          simp [hg j hj]
        unfold dcR; rw [hr]; simp only; rw [if_neg h, hf]
      clear hr hgd h5 hpt HC
      generalize partsV (.arr l) = ps at *
      generalize l.toL = xs at *
      go_enter Tryz.func9, Tryz.ntmps9
      go_wp2_with fail
      refine (unhide HCN _).mono ?_
      rintro e w2 ⟨rfl, b2⟩
      have HB2 := hide (below_next (unhide HA) b2)
      have HO2 : Hid (OPr w2 w.heap.size (.slice (some ⟨w.heap.size, 0, none⟩) 0 0) []) := own_below (unhide HE0) b2
      have HP3 := hide (unhide HPT w2)
      clear b2 HCN HPT HE0 HA
      go_wp2_with fail
      refine (unhide HP3).mono ?_
      rintro e w3 ⟨pv, rfl, p3, b3⟩
      obtain ⟨xa, xc, rfl⟩ : ∃ xa xc, pv = .slice xa ps.length xc := by
        rcases p3.2 with ⟨hv, h0⟩ | ⟨g, cap, cur, hv, _⟩
        · exact ⟨none, 0, by rw [hv, h0]⟩
        · exact ⟨_, _, hv⟩
      have HB3 := hide (below_next (unhide HB2) b3)
      have HN3 : Hid (OPr w3 w.heap.size (.slice (some ⟨w.heap.size, 0, none⟩) 0 0) []) := own_below (unhide HO2) b3
      have HPR := hide p3
      clear HP3 p3 b3 HO2 HB2
      by_cases h100 : 100 < ps.length
      · have t1 : (100 : Int) < (ps.length : Int) := by omega
        have HR := hide (unhide HR0 (by omega))
        clear HR0 HR1 HR2 HPR h100
        go_wp2
        go_ret3
        exact ⟨_, by rw [unhide HR]; rfl, by rw [unhide HR]; exact unhide HN3, unhide HB3⟩
      · have t1 : ¬ (100 : Int) < (ps.length : Int) := by omega
        have hA4 := alloc_b w3 (.cells #[] 59)
        have HM4 : Hid (OPr (w3.alloc (.cells #[] 59)) w3.heap.size (.slice (some ⟨w3.heap.size, 0, none⟩) 0 0) []) := empty_row w3 59 4
        have HA4 := hide hA4
        rw [hpl] at HPR
        have HPT3 : Hid (∀ k (h : k < xs.length) (wx : World), Below w3.heap.size w3 wx → ∃ g, xa = some ⟨g, 0, none⟩ ∧ wx.cell? ⟨g, k * 2 + 1, none⟩ = some (.string (strOf (ct xs[k])))) := fun k h wx hx => by
          have hk : k < ps.length := by omega
          obtain ⟨g, cap, hv, _, _, _, hc⟩ := ((unhide HPR).below hx).cells k hk
          injection hv with hv _ _
          rw [unhide HPT2 k hk h] at hc
          exact ⟨g, hv, hc⟩
        have hx100 : xs.length ≤ 100 := by omega
        clear hA4 HPT2 HR0 h100
        go_wp2
        generalize hw4 : w3.alloc (.cells #[] 59) = w4 at *
        clear hw4
        go_loopw [9, 10] (fun lv i wr => ∃ k : Nat, k ≤ xs.length ∧ i = .int .i64 k ∧ OPr wr w3.heap.size lv ((xs.take k).map decP) ∧ Below w3.heap.size w3 wr ∧ ∀ j (h : j < xs.length), j < k → decOk xs[j] = true) (fun _ i _ => xs.length - (intOf i).toNat)
        case atStart => exact ⟨0, Nat.zero_le _, rfl, unhide HM4, unhide HA4, fun j _ h => by omega⟩
        case round =>
          obtain ⟨k, hk, rfl, ho, hb, hall⟩ := hrel
          have HO := hide ho
          have HBR := hide hb
          have HALL := hide hall
          have hbz := hb.size
          clear HM4 HA4
          by_cases hlt : k < xs.length
          · have hltI : (k : Int) < (xs.length : Int) := by omega
            obtain ⟨g, rfl, hc⟩ := unhide HPT3 k hlt wr hb
            have HD := hide (unhide HDW k hlt wr)
            have HST : Hid ((xs.take (k + 1)).map decP = (xs.take k).map decP ++ [decP xs[k]]) := by
              show _ = _
              rw [List.take_succ_eq_append_getElem hlt, List.map_append]; rfl
            have hal : ((xs.take k).map decP).length ≤ 100 := by rw [List.length_map, List.length_take]; omega
            clear ho hb hall
            go_wp2_with fail
            refine (unhide HD).mono ?_
            rintro e w5 ⟨b5, mo, rfl, hmo⟩
            have b35 := below_next (unhide HBR) b5
            cases hok : decOk xs[k] with
            | false =>
              have HR := hide (unhide HR1 (by omega) k hlt hok (unhide HALL))
              have hN := alloc_b w5 (.cells (opCs mo) 59)
              have HN6 : Hid (OPr (w5.alloc (.cells (opCs mo) 59)) w.heap.size (.slice (some ⟨w.heap.size, 0, none⟩) 0 0) []) := own_below (unhide HN3) (below_next b35 hN)
              have HB6 := hide (below_next (unhide HB3) (below_next b35 hN))
              clear HD b5 b35 hmo hok hN hc
              go_wp2
              go_ret3
              exact ⟨_, by rw [unhide HR]; rfl, by rw [unhide HR]; exact unhide HN6, unhide HB6⟩
            | true =>
              obtain rfl := hmo hok
              have HALL2 : Hid (∀ j (h : j < xs.length), j < k + 1 → decOk xs[j] = true) := fun j h hj => by
                by_cases e : j = k
                · subst e; exact hok
                · exact unhide HALL j h (by omega)
              generalize decP xs[k] = mo at *
              generalize (xs.take k).map decP = A at *
              have hN := alloc_b w5 (.cells (opCs mo) 59)
              have hM := alloc_b (w5.alloc (.cells (opCs mo) 59)) (.cells (opCs mo) 59)
              have zN : (w5.alloc (.cells (opCs mo) 59)).heap.size = w5.heap.size + 1 := by simp
              have lM := lit4 (w5.alloc (.cells (opCs mo) 59)) mo
              rw [zN] at lM
              have bN := below_next b5 (below_next hN hM)
              have HOM : Hid (OPr _ w3.heap.size u9 A) := own_below (unhide HO) bN
              have HBM := hide (below_next (unhide HBR) bN)
              have HLM := hide lM
              clear HD b5 b35 hmo hok hN hM zN lM bN hc
              go_wp2_with (at_builtin; refine wpList_append_own _ rfl (.tmp 52) (.tmp 54) 22 rfl w3.heap.size 59 i0 (.agg #[.int .i64 0, .string ByteArray.empty, .string ByteArray.empty, .string ByteArray.empty]) 4 56 Tryz.underlying22 hi hz0 hz1 hz2 rfl (by decide) _ _ _ rfl (unhide HOM) ⟨w5.heap.size + 1, 0, none⟩ 1 1 (opV mo) rfl rfl (unhide HLM) (one4 mo) (by unfold maxLen; omega) (by omega) (unhide HBM).size ?_)
              generalize ((w5.alloc (.cells (opCs mo) 59)).alloc (.cells (opCs mo) 59)) = wM at *
              intro l6 w6 o6 g6 gx6
              clear gx6
              have HO6 : Hid (OPr w6 w3.heap.size l6 (A ++ [mo])) := OPr.step o6
              have HB6 := hide ((unhide HBM).grown g6 (unhide HBM).size (fun b hb => ((unhide HOM).lt b hb).1))
              clear o6 g6 HOM HBM HLM
              go_wp2
              go_roundw
              case rel => exact ⟨k + 1, by omega, by go_num, by rw [unhide HST]; exact unhide HO6, unhide HB6, unhide HALL2⟩
              case measure => simp [intOf]; omega
          · have hkn : k = xs.length := by omega
            subst hkn
            rw [List.take_length] at HO
            have HR := hide (unhide HR2 (by omega) (fun j h => hall j h h))
            have HO6 : Hid (OPr wr w.heap.size u9 (xs.map decP)) := own_mono (unhide HO) (unhide HB3).size
            have HB6 := hide (below_next (unhide HB3) (unhide HBR))
            clear ho hb hall
            go_wp2
            go_ret3
            exact ⟨_, by rw [unhide HR]; rfl, by rw [unhide HR]; exact unhide HO6, unhide HB6⟩
    · have hno : (!(kd a == 5)) = true := by simp [h5]
      rw [hno] at hfa
      have HR : Hid (dcR s = ([], 2, 0)) := by show _ = _; unfold dcR; rw [hr]; cases a <;> first | rfl | exact absurd rfl h5
      clear hr hgd h5 hno HC
      generalize strOf (ct a) = T at *
      go_enter Tryz.func9, Tryz.ntmps9
      go_wp2_with fail
      refine (unhide HCN _).mono ?_
      rintro e w2 ⟨rfl, b2⟩
      have HB2 := hide (below_next (unhide HA) b2)
      have HO2 : Hid (OPr w2 w.heap.size (.slice (some ⟨w.heap.size, 0, none⟩) 0 0) []) := own_below (unhide HE0) b2
      clear b2 HCN
      go_wp2
      go_ret3
      exact ⟨_, by rw [unhide HR]; rfl, by rw [unhide HR]; exact unhide HO2, unhide HB2⟩
end Go.Proofs.YtocnekbedcnmgaaGreatDoor

