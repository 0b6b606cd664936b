import Derived.Test.YtocnekbedcnmgaaGreatDoorBp5
import Derived.Test.YtocnekbedcnmgaaGreatDoorBp9
import Derived.Test.YtocnekbedcnmgaaGreatDoorBp1
import Derived.Test.YtocnekbedcnmgaaGreatDoorBp12
namespace Go.Proofs.YtocnekbedcnmgaaGreatDoor
open Go.RowKit

/-- What the look for a key answers. -/
def FindP (ps : List Part) (key : List UInt8) (e : Ending) : Prop := (e = .returned (.int .i64 (-1)) ∧ ∀ j (hj : j < ps.length), ps[j].1 ≠ key) ∨ ∃ (j : Nat) (hj : j < ps.length), e = .returned (.int .i64 (j : Int)) ∧ ps[j].1 = key
theorem FindP.no {ps : List Part} {key : List UInt8} {e : Ending} (h : e = .returned (.int .i64 (-1))) (k : ∀ j (hj : j < ps.length), ps[j].1 ≠ key) : FindP ps key e := Or.inl ⟨h, k⟩
theorem FindP.yes {ps : List Part} {key : List UInt8} {e : Ending} {j : Nat} (hj : j < ps.length) (h : e = .returned (.int .i64 (j : Int))) (k : ps[j].1 = key) : FindP ps key e := Or.inr ⟨j, hj, h, k⟩
/-- What the look for a part answers. -/
def ChildP (v : JV) (t : List UInt8) (e : Ending) : Prop := (e = .returned (.int .i64 (-1)) ∧ childV v t = none) ∨ ∃ (j : Nat) (hj : j < (partsV v).length) (u : JV), e = .returned (.int .i64 (j : Int)) ∧ childV v t = some u ∧ (partsV v)[j].2 = ct u
theorem ChildP.no {v : JV} {t : List UInt8} {e : Ending} (h : e = .returned (.int .i64 (-1))) (k : childV v t = none) : ChildP v t e := Or.inl ⟨h, k⟩
theorem ChildP.yes {v u : JV} {t : List UInt8} {e : Ending} {j : Nat} (hj : j < (partsV v).length) (h : e = .returned (.int .i64 (j : Int))) (k : childV v t = some u ∧ (partsV v)[j].2 = ct u) : ChildP v t e := Or.inr ⟨j, hj, u, h, k.1, k.2⟩

set_option maxHeartbeats 800000 in
theorem find_at (B : Nat) (v : Value) (ps : List Part) (key : List UInt8) (w : World) (h : PR w B v ps) (hn : ps.length ≤ 40000000) :
    Calls Tryz.prog 81 #[v, .string (strOf key)] w fun e w' => w = w' ∧ FindP ps key e := by
  obtain ⟨x, len, cap, rfl, hlen⟩ : ∃ x len cap, v = .slice x len cap ∧ len = ps.length := by
    rcases h.2 with ⟨hv, h0⟩ | ⟨g, cap, cur, hv, _⟩
    · exact ⟨_, _, _, hv, h0.symm⟩
    · exact ⟨_, _, _, hv, rfl⟩
  subst hlen
  have HP := hide h
  clear h
  go_enter Tryz.func81, Tryz.ntmps81
  go_wp2_with fail
  go_loopw [5] (fun k wr => w = wr ∧ ∃ j : Nat, k = .int .i64 (j : Int) ∧ j ≤ ps.length ∧ ∀ i (hi : i < ps.length), i < j → ps[i].1 ≠ key) (fun k _ => ps.length - (intOf k).toNat)
  case atStart => exact ⟨rfl, 0, rfl, Nat.zero_le _, fun i _ hi => by omega⟩
  case round =>
    obtain ⟨rfl, j, rfl, hj, hno⟩ := hrel
    have HNO := hide hno
    clear hno
    by_cases hin : j < ps.length
    · have t1 : ((j : Int) < (ps.length : Int)) = True := eq_true (by omega)
      obtain ⟨g, cap', he, hB, hgl, c0, c1⟩ := (unhide HP).cells j hin
      injection he with he1 he2 he3
      subst he1; subst he3
      have heq := str_eq ps[j].1 key
      by_cases hk : ps[j].1 = key
      · have t2 : (ps[j].1 == key) = true := by rw [beq_iff_eq]; exact hk
        have HK := hide hk
        rw [t2] at heq
        clear hk t2
        go_wp2
        go_ret
        exact ⟨rfl, FindP.yes hin rfl (unhide HK)⟩
      · have t2 : (ps[j].1 == key) = false := by rw [beq_eq_false_iff_ne]; exact hk
        have HX : Hid (∀ i (hi : i < ps.length), i < j + 1 → ps[i].1 ≠ key) := fun i hi hij => by
          by_cases e : i = j
          · subst e; exact hk
          · exact unhide HNO i hi (by omega)
        rw [t2] at heq
        clear hk t2
        go_wp2
        go_roundw
        case rel => exact ⟨trivial, j + 1, by go_num, by omega, unhide HX⟩
        case measure => simp [intOf]; omega
    · have t1 : ((j : Int) < (ps.length : Int)) = False := eq_false (by omega)
      go_wp2
      go_ret
      exact ⟨rfl, FindP.no rfl (fun i hi => unhide HNO i hi (by omega))⟩

/-- The parts of a value. -/
theorem parts_ct (v : JV) (hok : okV v) (w : World) (hl : (ct v).length ≤ 1000000) :
    Calls Tryz.prog 35 #[.string (strOf (ct v))] w fun e w' => ∃ r, e = .returned r ∧ PR w' w.heap.size r (partsV v) ∧ Below w.heap.size w w' := by
  have leaf : ∀ (c : UInt8) (r : List UInt8), ct v = c :: r → c.toNat ≠ 91 → c.toNat ≠ 123 → partsV v = [] → Calls Tryz.prog 35 #[.string (strOf (ct v))] w fun e w' => ∃ r, e = .returned r ∧ PR w' w.heap.size r (partsV v) ∧ Below w.heap.size w w' := fun c r hc h1 h2 hp => by
    rw [hp, hc]
    obtain ⟨a, b⟩ := bt_first (c := c) (r := r)
    exact parts_leaf _ w a (by rw [b]; exact h1) (by rw [b]; exact h2)
  cases v with
  | arr l => rw [okV] at hok; exact parts_arr l hok w (by rw [strOf_size]; exact hl)
  | obj m => rw [okV] at hok; exact parts_obj m hok w (by rw [strOf_size]; exact hl)
  | nul => exact leaf 110 _ rfl (by decide) (by decide) rfl
  | tt => exact leaf 116 _ rfl (by decide) (by decide) rfl
  | ff => exact leaf 102 _ rfl (by decide) (by decide) rfl
  | num l =>
    have hp := num_plain hok
    cases l with
    | nil => exact absurd rfl hp.1
    | cons c r =>
      have := (hp.2 c List.mem_cons_self).1
      exact leaf c r rfl this.2.1 this.2.2.1 rfl
  | str l => exact leaf 34 (qs l ++ [34]) rfl (by decide) (by decide) rfl
theorem parts_len {v : JV} (hok : okV v) (hl : (ct v).length ≤ 1000000) : (partsV v).length ≤ 1000000 := by
  cases v with
  | arr l =>
    show (idxF 0 (ctL l)).length ≤ _
    rw [idxF_len]
    have : (strOf (ct (.arr l))).data.toList = 91 :: (joinC (ctL l) ++ [93]) := by rw [strOf_toList]; rfl
    have := keyLen this
    rw [strOf_size] at this
    omega
  | obj m =>
    show (isort (ctM m)).length ≤ _
    have : (strOf (ct (.obj m))).data.toList = 123 :: (joinC ((isort (ctM m)).map memT) ++ [125]) := by rw [strOf_toList]; rfl
    have := keyLen this
    rw [strOf_size, List.length_map] at this
    omega
  | nul => simp [partsV]
  | tt => simp [partsV]
  | ff => simp [partsV]
  | num l => simp [partsV]
  | str l => simp [partsV]

end Go.Proofs.YtocnekbedcnmgaaGreatDoor

