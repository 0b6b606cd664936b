import Derived.Test.YtiolpmhodbefoaaKRow
import Derived.Test.YtiolpmhodbefoaaCondT
namespace Go.Proofs.Ytiolpmhodbefoaa
open Go.RowKit

/-- A condition in memory, of at most so many levels. -/
def condK : Nat → KE CT
  | 0 => { T := 96, wd := 1, pos := by decide, R := fun _ _ _ _ => False, len := fun h => h.elim, move := fun h _ => h }
  | n + 1 => {
    T := 96, wd := 1, pos := by decide
    R := fun w S vs c => ∃ (b : Nat) (st pa : Value) (bl : List Nat), vs = [.pointer (some ⟨b, 0, none⟩)] ∧ S b ∧ w.heap[b]? = some (.cells #[.int .i64 c.op.k, .int .i64 c.op.n, .string c.op.s, .bool c.op.root, st, pa] 123 (0, 0)) ∧
      ORow stepE w st c.op.steps bl ∧ (∀ x ∈ bl, S x) ∧ LRow (condK n) w S pa c.ps
    len := fun h => by obtain ⟨b, st, pa, bl, rfl, -⟩ := h; rfl
    move := fun h hm => by
      obtain ⟨b, st, pa, bl, rfl, hS, hb, ho, hbl, hp⟩ := h
      obtain ⟨hS', hb'⟩ := hm b hS (Array.getElem?_eq_some_iff.1 hb).1
      exact ⟨b, st, pa, bl, rfl, hS', hb'.trans hb, ho.keep fun x hx => (hm x (hbl x hx) (ho.lt x hx)).2, fun x hx => (hm x (hbl x hx) (ho.lt x hx)).1, hp.move hm⟩ }
theorem condK_T (n : Nat) : (condK n).T = 96 := by cases n <;> rfl
theorem condK_wd (n : Nat) : (condK n).wd = 1 := by cases n <;> rfl
theorem condK_up : ∀ (n : Nat) {w : World} {S : Nat → Prop} {vs : List Value} {c : CT}, (condK n).R w S vs c → (condK (n + 1)).R w S vs c
  | 0, _, _, _, _, h => h.elim
  | n + 1, _, _, _, _, h => by
    obtain ⟨b, st, pa, bl, h1, h2, h3, h4, h5, h6⟩ := h
    exact ⟨b, st, pa, bl, h1, h2, h3, h4, h5, h6.imp (by rw [condK_wd, condK_wd]) (condK_up n)⟩
theorem condK_cells {n : Nat} {w : World} {S : Nat → Prop} {vs : List Value} {c : CT} (h : (condK n).R w S vs c) : ∃ (b : Nat) (st pa : Value), vs = [.pointer (some ⟨b, 0, none⟩)] ∧ S b ∧ w.heap[b]? = some (.cells #[.int .i64 c.op.k, .int .i64 c.op.n, .string c.op.s, .bool c.op.root, st, pa] 123 (0, 0)) ∧ (∃ m, m < n ∧ LRow (condK m) w S pa c.ps) := by
  cases n with
  | zero => exact h.elim
  | succ n =>
    obtain ⟨b, st, pa, bl, h1, h2, h3, h4, h5, h6⟩ := h
    exact ⟨b, st, pa, h1, h2, h3, n, by omega, h6⟩
end Go.Proofs.Ytiolpmhodbefoaa
