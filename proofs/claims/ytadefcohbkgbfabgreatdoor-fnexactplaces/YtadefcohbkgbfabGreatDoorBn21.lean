import Derived.Test.YtadefcohbkgbfabGreatDoorBn20
import Derived.Test.YtadefcohbkgbfabGreatDoorBn4
import Derived.Deep.RegionWith
import Derived.Test.YtadefcohbkgbfabGreatDoorBn2
namespace Go.Proofs.YtadefcohbkgbfabGreatDoor
open Go.RowKit

theorem rs_step (s : ByteArray) : ∀ (f pos : Nat), s.size ≤ pos + f → Lib.validD (s.data.toList.drop pos) = true → rsFrom s f pos = qs (s.data.toList.drop pos)
  | 0, pos, h, _ => by rw [drop_end s pos (by omega)]; rfl
  | f + 1, pos, h, hv => by
    rw [rsFrom]
    by_cases hp : pos < s.size
    · rw [if_pos hp]
      have hr : ¬ rl s pos = 0 := fun e => by rw [valid_bad s pos hp e] at hv; cases hv
      have hv2 := hv
      rw [valid_go s pos hp hr] at hv2
      by_cases h8 : s[pos].toNat < 128
      · have ed := decode_ascii s pos hp h8
        have e1 : rl s pos = 1 := by unfold rl; rw [rlN_one (by rw [bt_at s pos hp]; exact h8)]
        rw [e1] at hv2
        rw [ed]
        have ih := rs_step s f (pos + 1) (by omega) hv2
        show pc s[pos].toNat ++ rsFrom s f (pos + 1) = _
        rw [ih, pc_lo h8, show UInt8.ofNat s[pos].toNat = s[pos] from UInt8.ofNat_toNat, drop_at s pos hp]
        rfl
      · obtain ⟨g1, g2, g3, g4⟩ := enc_multi s pos hp hr h8
        have ih := rs_step s f (pos + rl s pos) (by omega) hv2
        rw [g4, ih]
        have ep : pc (Utf8.decode s pos).1 = Lib.encodeRune ((Utf8.decode s pos).1 : Nat) := by unfold pc; rw [if_neg (by omega)]
        rw [ep, g1]
        have hsplit := (List.take_append_drop (rl s pos) (s.data.toList.drop pos)).symm
        rw [List.drop_drop] at hsplit
        conv => rhs; rw [hsplit]
        rw [qs_app, qs_high _ g2]
    · rw [if_neg hp, drop_end s pos hp]; rfl
theorem rs_eq (s : ByteArray) (h : Lib.validD s.data.toList = true) : rs s = qs s.data.toList := by
  have := rs_step s s.size 0 (by omega) (by simpa using h)
  simpa [rs] using this
end Go.Proofs.YtadefcohbkgbfabGreatDoor


namespace Go.Proofs.YtadefcohbkgbfabGreatDoor
open Go.RowKit

theorem below_draws (w : World) (n B : Nat) : Below B w (w.drewN n) := ⟨rfl, rfl, rfl, Nat.le_refl _, fun _ _ => rfl⟩

theorem eqT_walk {B1 B2 : Nat} (v u : Value) (ts : List (List UInt8)) (w : World) (h : OT w B1 v ts) (k : OT w B2 u ts) (hl : ts.length ≤ 9223372036854775807) :
    Calls Tryz.prog 17 #[v, u] w fun e w' => e = .returned (.bool true) ∧ ∃ n, w' = w.drewN n := by
  obtain ⟨a, g, cap, rfl, hs, _⟩ := h.shape
  obtain ⟨a', g', cap', rfl, hs', _⟩ := k.shape
  have e : ts.length = (ts.map baT).length := by simp
  rw [e]
  exact eq_walk a a' g 0 cap g' 0 cap' (ts.map baT) w hs hs' (by omega)

end Go.Proofs.YtadefcohbkgbfabGreatDoor

