import Derived.Lib.ItoaMem
import Derived.Test.YtcjajchfjoffnaaGreatDoorBch7
import Derived.Test.YtcjajchfjoffnaaGreatDoorBch19
import Derived.Test.YtcjajchfjoffnaaGreatDoorBch10
import Derived.Test.YtcjajchfjoffnaaGreatDoorBch21
import Derived.Deep.RegionLaw
import Derived.Test.YtcjajchfjoffnaaGreatDoorBch1
namespace Go.Proofs.YtcjajchfjoffnaaGreatDoor
open Go.RowKit Go.Sort

theorem dec_same : ∀ n : Nat, Lib.decDigits n = decT n := by
  intro n
  induction n using Nat.strongRecOn with
  | _ n ih =>
    rw [Lib.decDigits]
    split
    · rename_i h; rw [decT_lo h]
    · rename_i h; rw [decT_hi h, ih (n / 10) (by omega), decT_lo (n := n % 10) (by omega)]
/-- The cells of the program's parts. -/
def ptC (y : List UInt8 × Value) : List Value := [.string (strOf y.1), y.2]
theorem pt_at (ps : List (List UInt8 × Value)) (j : Nat) (h : j < ps.length) : (ps.flatMap ptC)[j * 2]? = some (.string (strOf ps[j].1)) ∧ (ps.flatMap ptC)[j * 2 + 1]? = some ps[j].2 := by
  induction ps generalizing j with
  | nil => simp at h
  | cons p r ih =>
    cases j with
    | zero => exact ⟨rfl, rfl⟩
    | succ j =>
      have := ih j (by simpa using h)
      rw [List.flatMap_cons, show (j + 1) * 2 = j * 2 + 2 from by omega]
      exact this
def idxW : Nat → List Value → List (List UInt8 × Value)
  | _, [] => []
  | b, v :: r => (decT b, v) :: idxW (b + 1) r
theorem idxW_len : ∀ (vs : List Value) (b : Nat), (idxW b vs).length = vs.length
  | [], _ => rfl
  | v :: r, b => by rw [idxW, List.length_cons, List.length_cons, idxW_len r]
theorem idxW_at : ∀ (vs : List Value) (b j : Nat) (h : j < (idxW b vs).length), (idxW b vs)[j] = (decT (b + j), vs[j]'(by rw [idxW_len] at h; exact h))
  | [], b, j, h => by simp [idxW] at h
  | t :: r, b, 0, h => rfl
  | t :: r, b, j + 1, h => by
    simp only [idxW, List.getElem_cons_succ]
    rw [idxW_at r (b + 1) j]
    rw [show b + 1 + j = b + (j + 1) by omega]
theorem itoa_at (k : Nat) (w : World) (hk : k ≤ 1000000) (hP : PowB w.heap.size w) : Calls Tryz.prog 201 #[.int .i64 (k : Int)] w fun e w' => e = .returned (.string (strOf (decT k))) ∧ Below w.heap.size w w' := by
  refine (Tryz.strconv_Itoa (k : Int) (by omega) (by omega) w hP.2).mono ?_
  rintro e w' ⟨rfl, n, os, rfl⟩
  refine ⟨?_, below_grow _ _ _⟩
  rw [Lib.itoa_nonneg, dec_same]; rfl
theorem one_iface (a : ByteArray) (t : TypeId) (q : Value) : ∀ u ∈ [Value.string a, .iface t q], u.oneCell' = true := by
  intro u hu; simp at hu; rcases hu with rfl | rfl <;> rfl

end Go.Proofs.YtcjajchfjoffnaaGreatDoor

namespace Go.Proofs.YtcjajchfjoffnaaGreatDoor
open Go.RowKit Go.Sort

theorem keysJ (m : JM) : (isort (ctM m)).map (·.1) = (isortJ m.toL).map (·.1) := by
  have e : ctM m = m.toL.map kt := ctM_map m
  rw [e, ← isortJ_kt, List.map_map]
  rfl

end Go.Proofs.YtcjajchfjoffnaaGreatDoor

namespace Go.Proofs.YtcjajchfjoffnaaGreatDoor
open Go.RowKit Go.Sort

theorem one_textI (k : List UInt8) (w : World) (hk : k.length ≤ 1000000) (g : Nat) (c : w.cell? ⟨g, 0, none⟩ = some (.string (strOf k))) :
    Calls Tryz.prog 92 #[.slice (some ⟨g, 0, none⟩) 1 1] w fun e w' => e = .returned (.string (strOf (47 :: esc k))) ∧ Below w.heap.size w w' := by
  have h : SS w (some ⟨g, 0, none⟩) g 0 [strOf k] := ⟨fun _ => rfl, fun j hj => by
    have : j = 0 := by simp at hj; omega
    subst this; exact c⟩
  have ht : [strOf k].length + tot [strOf k] ≤ 1048576 := by simp [tot, strOf_size]; omega
  have e : ptrText [strOf k] = 47 :: esc k := by simp [ptrText, strOf_toList]
  have := implText_walk (some ⟨g, 0, none⟩) g 0 1 [strOf k] w h ht
  rw [e] at this
  exact this
end Go.Proofs.YtcjajchfjoffnaaGreatDoor
