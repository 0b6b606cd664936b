import Derived.Deep.RegionWith
import Derived.Test.YtcffdclgddmigaaGreatDoorBn2
import Derived.Test.YtcffdclgddmigaaGreatDoorBn1
import Derived.Test.YtcffdclgddmigaaGreatDoorBn6
import Derived.Test.YtcffdclgddmigaaGreatDoorBn42
namespace Go.Proofs.YtcffdclgddmigaaGreatDoor
open Go.RowKit

theorem below_draws (w : World) (n B : Nat) : Below B w (w.drewN n) := ⟨rfl, rfl, rfl, Nat.le_refl _, fun _ _ => rfl⟩

theorem eqT_walk {B1 B2 : Nat} (v u : Value) (ts : List (List UInt8)) (w : World) (h : OT w B1 v ts) (k : OT w B2 u ts) (hl : ts.length ≤ 9223372036854775807) :
    Calls Tryz.prog 12 #[v, u] w fun e w' => e = .returned (.bool true) ∧ ∃ n, w' = w.drewN n := by
  obtain ⟨a, g, cap, rfl, hs, _⟩ := h.shape
  obtain ⟨a', g', cap', rfl, hs', _⟩ := k.shape
  have e : ts.length = (ts.map baT).length := by simp
  rw [e]
  exact eq_walk a a' g 0 cap g' 0 cap' (ts.map baT) w hs hs' (by omega)

theorem toks_len_le (l : List UInt8) : ((ptoks l).getD []).length ≤ l.length := by
  cases l with
  | nil => simp [ptoks]
  | cons c r =>
    rw [ptoks]; split
    · unfold toks
      have h1 : ∀ (qs : List (List UInt8)), ((qs.mapM unesc).getD []).length ≤ qs.length := by
        intro qs
        induction qs with
        | nil => simp
        | cons q qs ih =>
          rw [mapM_cons']
          cases unesc q with
          | none => simp
          | some t =>
            cases hq : List.mapM unesc qs with
            | none => simp
            | some ts => rw [hq] at ih; simp at ih ⊢; omega
      have h2 : ∀ (l : List UInt8), (pieces l).length ≤ l.length + 1 := by
        intro l
        induction l with
        | nil => simp [pieces]
        | cons c r ih =>
          by_cases hc : c.toNat = 47
          · rw [pieces_cut r hc]; simp; omega
          · cases hp : pieces r with
            | nil => exact absurd hp (pieces_ne r)
            | cons q qs => rw [pieces_go hc hp]; rw [hp] at ih; simp at ih ⊢; omega
      have := h1 (pieces r); have := h2 r; simp; omega
    · simp

end Go.Proofs.YtcffdclgddmigaaGreatDoor
