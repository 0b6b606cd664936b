import Derived.Deep.RegionWith
import Derived.Test.YtocnekbedcnmgaaGreatDoorBp2
import Derived.Test.YtocnekbedcnmgaaGreatDoorBp1
import Derived.Test.YtocnekbedcnmgaaGreatDoorBp11
import Derived.Test.YtocnekbedcnmgaaGreatDoorBp10
namespace Go.Proofs.YtocnekbedcnmgaaGreatDoor
open Go.RowKit

end Go.Proofs.YtocnekbedcnmgaaGreatDoor


namespace Go.Proofs.YtocnekbedcnmgaaGreatDoor
open Go.RowKit

theorem rs_step (s : ByteArray) : ∀ (f pos : Nat), s.size ≤ pos + f → Lib.validD (s.data.toList.drop pos) = true → rsFrom s f pos = qs (s.data.toList.drop pos)
  | 0, pos, h, _ => by rw [drop_end s pos (by omega)]; rfl
  | f + 1, pos, h, hv => by
    rw [rsFrom]
    by_cases hp : pos < s.size
    · rw [if_pos hp]
      have hr : ¬ rl s pos = 0 := fun e => by rw [valid_bad s pos hp e] at hv; cases hv
      have hv2 := hv
      rw [valid_go s pos hp hr] at hv2
      by_cases h8 : s[pos].toNat < 128
      · have ed := decode_ascii s pos hp h8
        have e1 : rl s pos = 1 := by unfold rl; rw [rlN_one (by rw [bt_at s pos hp]; exact h8)]
        rw [e1] at hv2
        rw [ed]
        have ih := rs_step s f (pos + 1) (by omega) hv2
        show pc s[pos].toNat ++ rsFrom s f (pos + 1) = _
        rw [ih, pc_lo h8, show UInt8.ofNat s[pos].toNat = s[pos] from UInt8.ofNat_toNat, drop_at s pos hp]
        rfl
      · obtain ⟨g1, g2, g3, g4⟩ := enc_multi s pos hp hr h8
        have ih := rs_step s f (pos + rl s pos) (by omega) hv2
        rw [g4, ih]
        have ep : pc (Utf8.decode s pos).1 = Lib.encodeRune ((Utf8.decode s pos).1 : Nat) := by unfold pc; rw [if_neg (by omega)]
        rw [ep, g1]
        have hsplit := (List.take_append_drop (rl s pos) (s.data.toList.drop pos)).symm
        rw [List.drop_drop] at hsplit
        conv => rhs; rw [hsplit]
        rw [qs_app, qs_high _ g2]
    · rw [if_neg hp, drop_end s pos hp]; rfl
theorem rs_eq (s : ByteArray) (h : Lib.validD s.data.toList = true) : rs s = qs s.data.toList := by
  have := rs_step s s.size 0 (by omega) (by simpa using h)
  simpa [rs] using this
end Go.Proofs.YtocnekbedcnmgaaGreatDoor


namespace Go.Proofs.YtocnekbedcnmgaaGreatDoor
open Go.RowKit

set_option maxHeartbeats 1000000 in
theorem isPtr_walk (s : ByteArray) (w : World) (hML : ML w) (hsz : s.size ≤ 1048576) :
    Calls Tryz.prog 132 #[.string s] w fun e w' => e = .returned (.bool (ptoks s.data.toList).isSome) ∧ Below w.heap.size w w' := by
  have HT := hide (implToks_walk s w hML hsz)
  clear hML
  generalize (ptoks s.data.toList).isSome = z at *
  go_enter Tryz.func132, Tryz.ntmps132
  go_wp2_with fail
  refine (unhide HT).mono ?_
  rintro e w1 ⟨v0, rfl, o1, b1⟩
  have HB := hide b1
  clear HT o1 b1
  go_wp2
  go_ret
  exact ⟨rfl, unhide HB⟩
end Go.Proofs.YtocnekbedcnmgaaGreatDoor

