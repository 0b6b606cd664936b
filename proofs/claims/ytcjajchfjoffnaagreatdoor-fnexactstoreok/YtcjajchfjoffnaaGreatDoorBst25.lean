import Derived.Test.YtcjajchfjoffnaaGreatDoorBst6
import Derived.Test.YtcjajchfjoffnaaGreatDoorBst24
import Derived.Test.YtcjajchfjoffnaaGreatDoorBst23
namespace Go.Proofs.YtcjajchfjoffnaaGreatDoor
open Go.RowKit

theorem ba_data (s : ByteArray) : baT s.data.toList = s := by obtain ⟨⟨l⟩⟩ := s; rfl
def onlyP (ss : List ByteArray) : List (List UInt8) := (ss.filter fun s => (ptoks s.data.toList).isSome).map (·.data.toList)
theorem onlyP_step {ss : List ByteArray} {k : Nat} (h : k < ss.length) : onlyP (ss.take (k + 1)) = onlyP (ss.take k) ++ (if (ptoks (ss.getD k ByteArray.empty).data.toList).isSome then [(ss.getD k ByteArray.empty).data.toList] else []) := by
  rw [take_snoc h]
  generalize ss.getD k ByteArray.empty = s
  unfold onlyP
  rw [List.filter_append, List.map_append]
  congr 1
  cases hp : (ptoks s.data.toList).isSome <;> simp [hp]
theorem onlyP_len (ss : List ByteArray) : (onlyP ss).length ≤ ss.length := by
  unfold onlyP; rw [List.length_map]; exact List.length_filter_le _ _

set_option maxHeartbeats 1000000 in
theorem isPtr_walk (s : ByteArray) (w : World) (hML : ML w) (hsz : s.size ≤ 1048576) :
    Calls Tryz.prog 127 #[.string s] w fun e w' => e = .returned (.bool (ptoks s.data.toList).isSome) ∧ Below w.heap.size w w' := by
  have HT := hide (implToks_walk s w hML hsz)
  clear hML
  generalize (ptoks s.data.toList).isSome = z at *
  go_enter Tryz.func127, Tryz.ntmps127
  go_wp2_with fail
  refine (unhide HT).mono ?_
  rintro e w1 ⟨v0, rfl, o1, b1⟩
  have HB := hide b1
  clear HT o1 b1
  go_wp2
  go_ret
  exact ⟨rfl, unhide HB⟩
end Go.Proofs.YtcjajchfjoffnaaGreatDoor

namespace Go.Proofs.YtcjajchfjoffnaaGreatDoor
open Go.RowKit

theorem rs_step (s : ByteArray) : ∀ (f pos : Nat), s.size ≤ pos + f → Lib.validD (s.data.toList.drop pos) = true → rsFrom s f pos = qs (s.data.toList.drop pos)
  | 0, pos, h, _ => by rw [drop_end s pos (by omega)]; rfl
  | f + 1, pos, h, hv => by
    rw [rsFrom]
    by_cases hp : pos < s.size
    · rw [if_pos hp]
      have hr : ¬ rl s pos = 0 := fun e => by rw [valid_bad s pos hp e] at hv; cases hv
      have hv2 := hv
      rw [valid_go s pos hp hr] at hv2
      by_cases h8 : s[pos].toNat < 128
      · have ed := decode_ascii s pos hp h8
        have e1 : rl s pos = 1 := by unfold rl; rw [rlN_one (by rw [bt_at s pos hp]; exact h8)]
        rw [e1] at hv2
        rw [ed]
        have ih := rs_step s f (pos + 1) (by omega) hv2
        show pc s[pos].toNat ++ rsFrom s f (pos + 1) = _
        rw [ih, pc_lo h8, show UInt8.ofNat s[pos].toNat = s[pos] from UInt8.ofNat_toNat, drop_at s pos hp]
        rfl
      · obtain ⟨g1, g2, g3, g4⟩ := enc_multi s pos hp hr h8
        have ih := rs_step s f (pos + rl s pos) (by omega) hv2
        rw [g4, ih]
        have ep : pc (Utf8.decode s pos).1 = Lib.encodeRune ((Utf8.decode s pos).1 : Nat) := by unfold pc; rw [if_neg (by omega)]
        rw [ep, g1]
        have hsplit := (List.take_append_drop (rl s pos) (s.data.toList.drop pos)).symm
        rw [List.drop_drop] at hsplit
        conv => rhs; rw [hsplit]
        rw [qs_app, qs_high _ g2]
    · rw [if_neg hp, drop_end s pos hp]; rfl
theorem rs_eq (s : ByteArray) (h : Lib.validD s.data.toList = true) : rs s = qs s.data.toList := by
  have := rs_step s s.size 0 (by omega) (by simpa using h)
  simpa [rs] using this
end Go.Proofs.YtcjajchfjoffnaaGreatDoor
