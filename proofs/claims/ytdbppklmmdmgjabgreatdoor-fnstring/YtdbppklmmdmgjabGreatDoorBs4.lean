import Derived.Test.YtdbppklmmdmgjabGreatDoorBn39
import Derived.Test.YtdbppklmmdmgjabGreatDoorBn41
namespace Go.Proofs.YtdbppklmmdmgjabGreatDoor
open Go.RowKit

/-- What the row's condition says of the tables. -/
def StrOk (w : World) : Prop := Tabs w ∧ ErrB w.heap.size w ∧ PowB w.heap.size w
theorem StrOk.below {w w' : World} (h : StrOk w) (hb : Below w.heap.size w w') : StrOk w' :=
  ⟨h.1.below hb, ⟨Nat.lt_of_lt_of_le h.2.1.1 hb.size, (h.2.1.next hb (Nat.le_refl _)).2⟩, (h.2.2.next hb (Nat.le_refl _)).more hb.size⟩

/-- Canon leaves a quoted text as it is. -/
theorem canon_quoted (s : ByteArray) (w : World) (hv : Lib.validD s.data.toList = true) (hq : (strOf (quoted s.data.toList)).size ≤ 20000) (h : StrOk w) :
    Calls Tryz.prog 10 #[.string (strOf (quoted s.data.toList))] w fun e w' => e = .returned (.tuple #[.string (strOf (quoted s.data.toList)), .int .i64 0]) ∧ Below w.heap.size w w' := by
  have h1 := strQ_quoted s hv
  have b : bt (strOf (quoted s.data.toList)) 0 = 34 := by unfold bt; rw [strOf_toList]; rfl
  have h0 : sk (strOf (quoted s.data.toList)) 0 = 0 := sk_off (by rw [b]; omega)
  have hd : docR (strOf (quoted s.data.toList)) = some (.str s.data.toList) := by
    unfold docR
    rw [h0, val_str b, h1]
    simp only [Option.map_some, Option.bind_some]
    rw [if_pos (sk_past (Nat.le_refl _))]
  have hr : canonV (strOf (quoted s.data.toList)) = .tuple #[.string (strOf (quoted s.data.toList)), .int .i64 0] := by
    have e : readR (strOf (quoted s.data.toList)) = .inr (.str s.data.toList) := by
      unfold readR
      rw [if_neg (by omega), hd]
      rfl
    unfold canonV
    rw [e]
    rfl
  have hc := implCanon_walk (strOf (quoted s.data.toList)) w (TabsB.of h.1) h.2.1 h.2.2 (by omega)
  rw [hr] at hc
  exact hc
end Go.Proofs.YtdbppklmmdmgjabGreatDoor
