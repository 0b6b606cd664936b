import Derived.Test.YtadefcohbkgbfaaDoorStrWrite
import Derived.Test.YtadefcohbkgbfaaDoorSpecValid
import Derived.Test.YtadefcohbkgbfaaDoorEncMulti
namespace Go.Proofs.YtadefcohbkgbfaaDoor
open Go.RowKit

theorem rs_step (s : ByteArray) : ∀ (f pos : Nat), s.size ≤ pos + f → Lib.validD (s.data.toList.drop pos) = true → rsFrom s f pos = qs (s.data.toList.drop pos)
  | 0, pos, h, _ => by rw [drop_end s pos (by omega)]; rfl
  | f + 1, pos, h, hv => by
    rw [rsFrom]
    by_cases hp : pos < s.size
    · rw [if_pos hp]
      have hr : ¬ rl s pos = 0 := fun e => by rw [valid_bad s pos hp e] at hv; cases hv
      have hv2 := hv
      rw [valid_go s pos hp hr] at hv2
      by_cases h8 : s[pos].toNat < 128
      · have ed := decode_ascii s pos hp h8
        have e1 : rl s pos = 1 := by unfold rl; rw [rlN_one (by rw [bt_at s pos hp]; exact h8)]
        rw [e1] at hv2
        rw [ed]
        have ih := rs_step s f (pos + 1) (by omega) hv2
        show pc s[pos].toNat ++ rsFrom s f (pos + 1) = _
        rw [ih, pc_lo h8, show UInt8.ofNat s[pos].toNat = s[pos] from UInt8.ofNat_toNat, drop_at s pos hp]
        rfl
      · obtain ⟨g1, g2, g3, g4⟩ := enc_multi s pos hp hr h8
        have ih := rs_step s f (pos + rl s pos) (by omega) hv2
        rw [g4, ih]
        have ep : pc (Utf8.decode s pos).1 = Lib.encodeRune ((Utf8.decode s pos).1 : Nat) := by unfold pc; rw [if_neg (by omega)]
        rw [ep, g1]
        have hsplit := (List.take_append_drop (rl s pos) (s.data.toList.drop pos)).symm
        rw [List.drop_drop] at hsplit
        conv => rhs; rw [hsplit]
        rw [qs_app, qs_high _ g2]
    · rw [if_neg hp, drop_end s pos hp]; rfl
theorem rs_eq (s : ByteArray) (h : Lib.validD s.data.toList = true) : rs s = qs s.data.toList := by
  have := rs_step s s.size 0 (by omega) (by simpa using h)
  simpa [rs] using this
end Go.Proofs.YtadefcohbkgbfaaDoor
