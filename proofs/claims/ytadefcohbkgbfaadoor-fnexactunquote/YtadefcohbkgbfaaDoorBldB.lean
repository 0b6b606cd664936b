import Derived.Test.YtadefcohbkgbfaaDoorPtrPlain
import Derived.Test.YtadefcohbkgbfaaDoorBld
namespace Go.Proofs.YtadefcohbkgbfaaDoor
open Go.RowKit

abbrev IsB (B b : Nat) (l : List UInt8) (w : World) : Prop := Lib.IsBuilder 46 5 B b (Lib.byteCells l) w

theorem IsB.byte {B b : Nat} {l : List UInt8} {c : UInt8} {w : World} {n : Int} (hn : n = (c.toNat : Int)) (h : Lib.BuilderAt 46 5 B b (.pointer (some ⟨b, 0, none⟩)) (Lib.byteCells l ++ [.int .u8 n]) w) : IsB B b (l ++ [c]) w := by
  subst hn; exact Or.inr (by rw [Lib.byteCells_append]; exact h)
theorem IsB.str {B b : Nat} {l : List UInt8} {s : ByteArray} {m : List UInt8} {w : World} (hm : m = s.data.toList) (h : Lib.BuilderAt 46 5 B b (.pointer (some ⟨b, 0, none⟩)) (Lib.byteCells l ++ Lib.strCells s) w) : IsB B b (l ++ m) w := by
  subst hm; exact Or.inr (by rw [Lib.byteCells_append]; exact h)

theorem IsB.cells {B b : Nat} {l m : List UInt8} {xs : List Value} {w : World} (hx : xs = Lib.byteCells m) (h : Lib.BuilderAt 46 5 B b (.pointer (some ⟨b, 0, none⟩)) (Lib.byteCells l ++ xs) w) : IsB B b (l ++ m) w := by
  subst hx; exact Or.inr (by rw [Lib.byteCells_append]; exact h)
end Go.Proofs.YtadefcohbkgbfaaDoor
