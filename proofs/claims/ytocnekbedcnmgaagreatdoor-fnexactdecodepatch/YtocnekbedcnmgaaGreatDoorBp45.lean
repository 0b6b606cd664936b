import Derived.Deep.RegionLaw
import Derived.Test.YtocnekbedcnmgaaGreatDoorBp1
import Derived.Test.YtocnekbedcnmgaaGreatDoorBp43
import Derived.Test.YtocnekbedcnmgaaGreatDoorBp44
import Derived.Test.YtocnekbedcnmgaaGreatDoorBp5
import Derived.Test.YtocnekbedcnmgaaGreatDoorBp40
namespace Go.Proofs.YtocnekbedcnmgaaGreatDoor
open Go.RowKit

abbrev Chg := List UInt8 × Value × Value
def cgC (y : Chg) : List Value := [.string (strOf y.1), y.2.1, y.2.2]
/-- A row of changes that the call owns. -/
def CgR (w : World) (B : Nat) (v : Value) (ys : List Chg) : Prop := w.ownsRow B 78 3 v ys.length (ys.flatMap cgC)
theorem CgR.step {w : World} {B : Nat} {v : Value} {ys : List Chg} {y : Chg} (h : w.ownsRow B 78 3 v (ys.length + 1) (ys.flatMap cgC ++ cgC y)) : CgR w B v (ys ++ [y]) := by
  unfold CgR
  rw [List.length_append, List.flatMap_append]
  simpa using h
/-- Old blocks under B and all blocks but those of changes are kept. -/
def CF (B : Nat) (w w' : World) : Prop := Below B w w' ∧ ∀ (g : Nat) (cs : Array Value) (t : TypeId), t ≠ 78 → w.heap[g]? = some (.cells cs t (0, 0)) → w'.heap[g]? = some (.cells cs t (0, 0))
theorem CF.refl (B : Nat) (w : World) : CF B w w := ⟨Below.refl _ _, fun _ _ _ _ h => h⟩
theorem CF.trans {B : Nat} {a b c : World} (h : CF B a b) (k : CF B b c) : CF B a c := ⟨h.1.trans k.1, fun g cs t ht hg => k.2 g cs t ht (h.2 g cs t ht hg)⟩
theorem CF.of_below {B : Nat} {w w' : World} (h : Below w.heap.size w w') (hB : B ≤ w.heap.size) : CF B w w' := ⟨h.mono hB, fun g _ _ _ hg => (h.block g (Array.getElem?_eq_some_iff.1 hg).1).trans hg⟩
theorem CF.grown {B n : Nat} {w w' : World} {v : Value} {xs : List Value} (h : w.ownsRow B 78 3 v n xs) (hg : w.grownBy w' v.ownBlock) (hB : B ≤ w.heap.size) : CF B w w' := by
  refine ⟨(Below.refl B w).grown hg hB (fun k hk => (h.lt k hk).1), fun g cs t ht hgc => ?_⟩
  refine (hg.block g (Array.getElem?_eq_some_iff.1 hgc).1 (fun e => ?_)).trans hgc
  rcases h.2 with ⟨hv, _⟩ | ⟨g', cap, cur, hv, _, hg', _⟩
  · subst hv; cases e
  · subst hv
    injection e with e
    simp only at e
    subst e
    rw [hgc] at hg'
    injection hg' with e
    injection e with _ e
    exact ht e
theorem OT.cf {B B' : Nat} {w w' : World} {r : Value} {ts : List (List UInt8)} (h : OT w B' r ts) (f : CF B w w') : OT w' B' r ts := by
  refine ⟨h.1, ?_⟩
  rcases h.2 with hn | ⟨g, cap, cur, hv, hb, hg, rest⟩
  · exact .inl hn
  · exact .inr ⟨g, cap, cur, hv, hb, f.2 g _ _ (by decide) hg, rest⟩
/-- What is asked of two values' memory. -/
structure Two (w : World) (B : Nat) (S1 S2 : Nat → Prop) : Prop where
  apart : ∀ k, S1 k → ¬ S2 k
  lt1 : ∀ k, S1 k → k < B
  lt2 : ∀ k, S2 k → k < B
  size : B ≤ w.heap.size
  pow : PowB B w
theorem Two.next {w w' : World} {B : Nat} {S1 S2 : Nat → Prop} (h : Two w B S1 S2) (hb : Below B w w') : Two w' B S1 S2 := ⟨h.apart, h.lt1, h.lt2, Nat.le_trans h.size hb.size, h.pow.next hb (Nat.le_refl _)⟩
/-- The form of a value that a change holds. -/
def FO (v : Value) : Prop := v = .nilIface ∨ ∃ t q, v = .iface t q
/-- P holds of whatever lies in two values at the same place. -/
def PW (P : Chg → Prop) (w : World) (S1 S2 : Nat → Prop) (p : List UInt8) (oa ob : Option JV) : Prop := ∀ ts v1 v2, RepO w S1 (getO oa ts) v1 → RepO w S2 (getO ob ts) v2 → P (addP p ts, v1, v2)
theorem PW.back {P : Chg → Prop} {w W : World} {S1 S2 : Nat → Prop} {p : List UInt8} {oa ob : Option JV} (h : PW P w S1 S2 p oa ob) (h1 : ∀ k, S1 k → W.heap[k]? = w.heap[k]?) (h2 : ∀ k, S2 k → W.heap[k]? = w.heap[k]?) : PW P W S1 S2 p oa ob :=
  fun ts v1 v2 r1 r2 => h ts v1 v2 (r1.keep (fun k hk => (h1 k hk).symm) (fun _ h => h)) (r2.keep (fun k hk => (h2 k hk).symm) (fun _ h => h))
/-- The pointers of changes, that their values have their form, and what holds of each. -/
def ZM (P : Chg → Prop) (zs : List Chg) (L : List (List UInt8)) : Prop := zs.map (·.1) = L ∧ ∀ z ∈ zs, FO z.2.1 ∧ FO z.2.2 ∧ P z
theorem ZM.mono {P Q : Chg → Prop} {zs : List Chg} {L : List (List UInt8)} (h : ZM P zs L) (hq : ∀ z, P z → Q z) : ZM Q zs L := ⟨h.1, fun z hz => ⟨(h.2 z hz).1, (h.2 z hz).2.1, hq z (h.2 z hz).2.2⟩⟩
/-- What its helpers promise. -/
def HC (f : FuncId) (n : Nat) (a b : JV) : Prop := ∀ (P : Chg → Prop) (p : List UInt8) (ys : List Chg) (lv : Value) (t1 t2 : TypeId) (g1 g2 : Addr) (w : World) (B : Nat) (S1 S2 : Nat → Prop), p.length + 2 * (ct a).length ≤ 4000000 → p.length + 2 * (ct b).length ≤ 4000000 → ys.length + cntV a + cntV b ≤ 1000000 →
  CgR w B lv ys → Rep w S1 a (.iface t1 (.pointer (some g1))) → Rep w S2 b (.iface t2 (.pointer (some g2))) → Two w B S1 S2 → PW P w S1 S2 p (some a) (some b) →
  Calls Tryz.prog f #[lv, .string (strOf p), .pointer (some g1), .pointer (some g2)] w fun e w' => ∃ (r : Value) (zs : List Chg), e = .returned r ∧ CgR w' B r (ys ++ zs) ∧ ZM P zs ((keys2 a b).flatMap (chK n p a b)) ∧ CF B w w'
theorem asrt_arr {w : World} {S : Nat → Prop} {a : JV} {v : Value} (h : Rep w S a v) (hn : kd a ≠ 5) : ∀ X : World, (Instr.typeAssert v 65 117 true).run Tryz.prog X = .ok (.tuple #[.pointer none, .bool false]) X := by
  intro X
  cases a with
  | nul => rw [Rep] at h; subst h; kernel_rfl
  | tt => rw [Rep] at h; subst h; kernel_rfl
  | ff => rw [Rep] at h; subst h; kernel_rfl
  | num l => rw [Rep] at h; obtain ⟨z, h, _⟩ := h; subst h; kernel_rfl
  | str l => rw [Rep] at h; subst h; kernel_rfl
  | arr l => exact absurd rfl hn
  | obj m => rw [Rep] at h; obtain ⟨ob, b, nn, xs, h, _⟩ := h; subst h; kernel_rfl
theorem is_arr (g : Addr) (X : World) : (Instr.typeAssert (.iface 117 (.pointer (some g))) 65 117 true).run Tryz.prog X = .ok (.tuple #[.pointer (some g), .bool true]) X := by kernel_rfl
end Go.Proofs.YtocnekbedcnmgaaGreatDoor


namespace Go.Proofs.YtocnekbedcnmgaaGreatDoor
open Go.RowKit

end Go.Proofs.YtocnekbedcnmgaaGreatDoor

