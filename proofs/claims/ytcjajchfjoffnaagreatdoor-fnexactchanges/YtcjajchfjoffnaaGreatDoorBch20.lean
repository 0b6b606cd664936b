import Derived.Stop.Asserts
import Derived.LaidEql
import Derived.Test.YtcjajchfjoffnaaGreatDoorBch8
import Derived.Test.YtcjajchfjoffnaaGreatDoorBch19
import Derived.Test.YtcjajchfjoffnaaGreatDoorBch5
namespace Go.Proofs.YtcjajchfjoffnaaGreatDoor
open Go.RowKit

theorem dec_sameE : ∀ n : Nat, Lib.decDigits n = decT n := by
  intro n
  induction n using Nat.strongRecOn with
  | _ n ih =>
    rw [Lib.decDigits]
    split
    · rename_i h; rw [decT_lo h]
    · rename_i h; rw [decT_hi h, ih (n / 10) (by omega), decT_lo (n := n % 10) (by omega)]
theorem eq_step {tx : TypeId} {vx vy : Value} {b : Bool} (hinfo : (Tryz.prog.info? tx).map (·.comparable) = some true) (h : ∀ (d : Nat) (w : World), (Op.equalIn (d + 1) tx vx vy).run Tryz.prog w = .ok b w) (w : World) :
    (binOp .eql 92 (.iface tx vx) (.iface tx vy)).run Tryz.prog w = .ok (.bool b) w := by
  obtain ⟨i, hi, hc⟩ := Option.map_eq_some_iff.1 hinfo
  have h1 : ∀ d : Nat, (Op.equalIn (d + 1 + 1) 92 (.iface tx vx) (.iface tx vy)).run Tryz.prog w = .ok b w := fun d => by
    rw [Op.equalIn]
    simp [run_underlying Tryz.underlying92, typeInfo, hi, hc, h d]
  simp only [binOp]
  simp [Op.equal, Op.maxDepth, h1 9998]
theorem eq_nil_r (tx : TypeId) (vx : Value) (w : World) : (binOp .eql 92 (.iface tx vx) .nilIface).run Tryz.prog w = .ok (.bool false) w := by
  have h : ∀ d : Nat, (Op.equalIn (d + 1) 92 (.iface tx vx) .nilIface).run Tryz.prog w = .ok false w := fun d => by
    rw [Op.equalIn]; simp [run_underlying Tryz.underlying92]
  simp only [binOp]
  simp [Op.equal, Op.maxDepth, h 9999]
theorem eq_nil_l (tx : TypeId) (vx : Value) (w : World) : (binOp .eql 92 .nilIface (.iface tx vx)).run Tryz.prog w = .ok (.bool false) w := by
  have h : ∀ d : Nat, (Op.equalIn (d + 1) 92 .nilIface (.iface tx vx)).run Tryz.prog w = .ok false w := fun d => by
    rw [Op.equalIn]; simp [run_underlying Tryz.underlying92]
  simp only [binOp]
  simp [Op.equal, Op.maxDepth, h 9999]
theorem eq_int (z z' : Int) (w : World) : (binOp .eql 92 (.iface 271 (.int .i64 z)) (.iface 271 (.int .i64 z'))).run Tryz.prog w = .ok (.bool (z == z')) w :=
  eq_step (by kernel_rfl) (fun d w => by rw [Op.equalIn]; simp [run_underlying Tryz.underlying271]) w
theorem eq_str (a b : ByteArray) (w : World) : (binOp .eql 92 (.iface 149 (.string a)) (.iface 149 (.string b))).run Tryz.prog w = .ok (.bool (a == b)) w :=
  eq_step (by kernel_rfl) (fun d w => by rw [Op.equalIn]; simp [run_underlying Tryz.underlying149]) w
theorem eq_bool (a b : Bool) (w : World) : (binOp .eql 92 (.iface 245 (.bool a)) (.iface 245 (.bool b))).run Tryz.prog w = .ok (.bool (a == b)) w :=
  eq_step (by kernel_rfl) (fun d w => by rw [Op.equalIn]; simp [run_underlying Tryz.underlying245]) w
theorem eq_ptr {tp te : TypeId} (hinfo : (Tryz.prog.info? tp).map (·.comparable) = some true) (hu : Tryz.prog.underlying tp = some (.pointer te)) (hz : ∀ w : World, ∃ n, n ≠ 0 ∧ (sizeOf te).run Tryz.prog w = .ok n w) (a b : Nat) (hne : a ≠ b) (w : World) {ca cb : Array Value} {ta tb : TypeId} (ha : w.heap[a]? = some (.cells ca ta (0, 0))) (hb : w.heap[b]? = some (.cells cb tb (0, 0))) :
    (binOp .eql 92 (.iface tp (.pointer (some ⟨a, 0, none⟩))) (.iface tp (.pointer (some ⟨b, 0, none⟩)))).run Tryz.prog w = .ok (.bool false) w := by
  obtain ⟨i, hi, hc⟩ := Option.map_eq_some_iff.1 hinfo
  obtain ⟨n, hn, hs⟩ := hz w
  have h0 : (sameAddr ⟨a, 0, none⟩ ⟨b, 0, none⟩).run Tryz.prog w = .ok false w   := run_sameAddr_other w (by intro e; injection e with e; exact hne e) ha hb
  have h : ∀ d : Nat, (Op.equalIn (d + 1) tp (.pointer (some ⟨a, 0, none⟩)) (.pointer (some ⟨b, 0, none⟩))).run Tryz.prog w = .ok false w := fun d => by
    rw [Op.equalIn]; simp [run_underlying hu, hs, hn, h0]
  have h1 : ∀ d : Nat, (Op.equalIn (d + 1 + 1) 92 (.iface tp (.pointer (some ⟨a, 0, none⟩))) (.iface tp (.pointer (some ⟨b, 0, none⟩)))).run Tryz.prog w = .ok false w := fun d => by
    rw [Op.equalIn]
    simp [run_underlying Tryz.underlying92, typeInfo, hi, hc, h d]
  simp only [binOp]
  simp [Op.equal, Op.maxDepth, h1 9998]
/-- A tree, or none. -/
def RepO (w : World) (S : Nat → Prop) : Option JV → Value → Prop
  | none, v => v = .nilIface
  | some u, v => Rep w S u v
theorem RepO.keep {w w' : World} {S S' : Nat → Prop} (hk : ∀ k, S k → w'.heap[k]? = w.heap[k]?) (hS : ∀ k, S k → S' k) : ∀ {o : Option JV} {v : Value}, RepO w S o v → RepO w' S' o v
  | none, _, h => h
  | some u, v, h => Rep.keep hk hS u v h
def eqO : Option JV → Option JV → Bool
  | some a, some b => leafEq a b
  | _, _ => false
theorem itoa_dec (z : Int) : (0 ≤ z ∧ Lib.itoa z = decT z.toNat) ∨ (z < 0 ∧ Lib.itoa z = 45 :: decT z.natAbs) := by
  unfold Lib.itoa
  split
  · exact .inr ⟨by omega, by rw [dec_sameE]⟩
  · exact .inl ⟨by omega, by rw [dec_sameE]⟩
theorem itoa_eq (z z' : Int) : (z == z') = (Lib.itoa z == Lib.itoa z') := by
  rw [Bool.eq_iff_iff, beq_iff_eq, beq_iff_eq]
  constructor
  · intro h; rw [h]
  · intro h
    rcases itoa_dec z with ⟨a, b⟩ | ⟨a, b⟩ <;> rcases itoa_dec z' with ⟨c, d⟩ | ⟨c, d⟩ <;> rw [b, d] at h
    · have := decT_inj h; omega
    · have hd := (dec_form z.toNat).2.1 45 (by rw [h]; simp)
      exact absurd hd (by decide)
    · have hd := (dec_form z'.toNat).2.1 45 (by rw [← h]; simp)
      exact absurd hd (by decide)
    · injection h with _ h
      have := decT_inj h; omega
theorem strOf_beq (a b : List UInt8) : (strOf a == strOf b) = (a == b) := by
  show ((strOf a).data == (strOf b).data) = _
  simp [strOf]
def tyOf : JV → TypeId
  | .nul => 244
  | .tt => 245
  | .ff => 245
  | .num _ => 271
  | .str _ => 149
  | .arr _ => 86
  | .obj _ => 151
theorem rep_ty {w : World} {S : Nat → Prop} {a : JV} {v : Value} (h : Rep w S a v) : ∃ q, v = .iface (tyOf a) q := by
  cases a <;> rw [Rep] at h
  · exact ⟨_, h⟩
  · exact ⟨_, h⟩
  · exact ⟨_, h⟩
  · obtain ⟨z, h, _⟩ := h; exact ⟨_, h⟩
  · exact ⟨_, h⟩
  · obtain ⟨ab, sv, xs, h, _⟩ := h; exact ⟨_, h⟩
  · obtain ⟨ob, b, nn, xs, h, _⟩ := h; exact ⟨_, h⟩
theorem leaf_ty {a b : JV} (h : tyOf a ≠ tyOf b) : leafEq a b = false := by
  cases a <;> cases b <;> first | rfl | exact absurd rfl h
theorem eq_nul (w : World) : (binOp .eql 92 (.iface 244 (.agg #[])) (.iface 244 (.agg #[]))).run Tryz.prog w = .ok (.bool true) w := by kernel_rfl

set_option maxHeartbeats 1600000 in
/-- Two values held against each other by the language. -/
theorem eql_run {w : World} {S1 S2 : Nat → Prop} (hd : ∀ k, S1 k → ¬ S2 k) {a b : JV} {v1 v2 : Value} (h1 : Rep w S1 a v1) (h2 : Rep w S2 b v2) : (binOp .eql 92 v1 v2).run Tryz.prog w = .ok (.bool (leafEq a b)) w := by
  have sz : ∀ w : World, ∃ n, n ≠ 0 ∧ (sizeOf 89).run Tryz.prog w = .ok n w := fun w => ⟨1, by decide, by kernel_rfl⟩
  have sz2 : ∀ w : World, ∃ n, n ≠ 0 ∧ (sizeOf 153).run Tryz.prog w = .ok n w := fun w => ⟨1, by decide, by kernel_rfl⟩
  by_cases ht : tyOf a = tyOf b
  · cases a with
    | nul => cases b with
      | nul => rw [Rep] at h1 h2; subst h1; subst h2; exact eq_nul w
      | _ => exact absurd ht (by simp only [tyOf]; decide)
    | tt => cases b with
      | tt => rw [Rep] at h1 h2; subst h1; subst h2; exact eq_bool true true w
      | ff => rw [Rep] at h1; rw [Rep] at h2; subst h1; subst h2; exact eq_bool true false w
      | _ => exact absurd ht (by simp only [tyOf]; decide)
    | ff => cases b with
      | tt => rw [Rep] at h1; rw [Rep] at h2; subst h1; subst h2; exact eq_bool false true w
      | ff => rw [Rep] at h1 h2; subst h1; subst h2; exact eq_bool false false w
      | _ => exact absurd ht (by simp only [tyOf]; decide)
    | num l => cases b with
      | num m =>
        rw [Rep] at h1 h2
        obtain ⟨z, h1, e1, _⟩ := h1
        obtain ⟨z', h2, e2, _⟩ := h2
        subst h1; subst h2
        rw [eq_int, itoa_eq, e1, e2]; rfl
      | _ => exact absurd ht (by simp only [tyOf]; decide)
    | str l => cases b with
      | str m => rw [Rep] at h1 h2; subst h1; subst h2; rw [eq_str, strOf_beq]; rfl
      | _ => exact absurd ht (by simp only [tyOf]; decide)
    | arr l => cases b with
      | arr m =>
        rw [Rep] at h1 h2
        obtain ⟨ab, sv, xs, h1, s1, g1, _⟩ := h1
        obtain ⟨ab', sv', xs', h2, s2, g2, _⟩ := h2
        subst h1; subst h2
        exact eq_ptr (by kernel_rfl) Tryz.underlying86 sz ab ab' (fun e => hd ab s1 (by rw [e]; exact s2)) w g1 g2
      | _ => exact absurd ht (by simp only [tyOf]; decide)
    | obj l => cases b with
      | obj m =>
        rw [Rep] at h1 h2
        obtain ⟨ob, b, nn, xs, h1, s1, _, g1, _⟩ := h1
        obtain ⟨ob', b', nn', xs', h2, s2, _, g2, _⟩ := h2
        subst h1; subst h2
        exact eq_ptr (by kernel_rfl) Tryz.underlying151 sz2 ob ob' (fun e => hd ob s1 (by rw [e]; exact s2)) w g1 g2
      | _ => exact absurd ht (by simp only [tyOf]; decide)
  · obtain ⟨q1, rfl⟩ := rep_ty h1
    obtain ⟨q2, rfl⟩ := rep_ty h2
    rw [leaf_ty ht]
    exact run_eql_iface_types _ _ _ _ Tryz.underlying92 ht w
theorem eqlO_run {w : World} {S1 S2 : Nat → Prop} (hd : ∀ k, S1 k → ¬ S2 k) {a b : Option JV} {v1 v2 : Value} (h1 : RepO w S1 a v1) (h2 : RepO w S2 b v2) (hn : a ≠ none ∨ b ≠ none) : (binOp .eql 92 v1 v2).run Tryz.prog w = .ok (.bool (eqO a b)) w := by
  cases a with
  | none =>
    cases b with
    | none => rcases hn with h | h <;> exact absurd rfl h
    | some b =>
      obtain ⟨q, rfl⟩ := rep_ty h2
      have : v1 = .nilIface := h1
      subst this
      exact eq_nil_l _ _ w
  | some a =>
    cases b with
    | none =>
      obtain ⟨q, rfl⟩ := rep_ty h1
      have : v2 = .nilIface := h2
      subst this
      exact eq_nil_r _ _ w
    | some b => exact eql_run hd h1 h2
end Go.Proofs.YtcjajchfjoffnaaGreatDoor
