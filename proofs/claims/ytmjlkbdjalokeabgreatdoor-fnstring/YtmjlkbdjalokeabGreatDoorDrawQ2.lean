import Derived.Test.YtmjlkbdjalokeabGreatDoorDrawQ
import Derived.Lib.QuietBelow
namespace Go.Proofs.YtmjlkbdjalokeabGreatDoor
open Go.RowKit Go.Sort

def odds : List ByteArray := [⟨#[34]⟩, ⟨#[92]⟩, ⟨#[48, 49]⟩, ⟨#[45]⟩, ⟨#[44]⟩, ⟨#[58]⟩, ⟨#[91]⟩, ⟨#[93]⟩, ⟨#[123]⟩, ⟨#[125]⟩, ⟨#[32]⟩, ⟨#[128]⟩, ⟨#[92, 117, 100, 56, 48, 48]⟩, ⟨#[49, 46, 53]⟩, ⟨#[101]⟩, ⟨#[31]⟩, ⟨#[110, 117, 108]⟩, ⟨#[57, 57, 57, 57, 57, 57, 57, 57, 57, 57, 57, 57, 57, 57, 57, 57, 57, 57, 57, 57]⟩, ⟨#[237, 160, 128]⟩, ⟨#[192, 128]⟩]
def odd (k : Nat) : ByteArray := odds.getD (k % 20) ⟨#[]⟩
theorem odd_le (k : Nat) : (odd k).size ≤ 20 := by
  unfold odd
  have h : k % 20 < 20 := Nat.mod_lt _ (by decide)
  generalize k % 20 = j at *
  rcases (show j = 0 ∨ j = 1 ∨ j = 2 ∨ j = 3 ∨ j = 4 ∨ j = 5 ∨ j = 6 ∨ j = 7 ∨ j = 8 ∨ j = 9 ∨ j = 10 ∨ j = 11 ∨ j = 12 ∨ j = 13 ∨ j = 14 ∨ j = 15 ∨ j = 16 ∨ j = 17 ∨ j = 18 ∨ j = 19 from by omega) with rfl | rfl | rfl | rfl | rfl | rfl | rfl | rfl | rfl | rfl | rfl | rfl | rfl | rfl | rfl | rfl | rfl | rfl | rfl | rfl <;> decide

set_option maxHeartbeats 1600000 in
theorem odd_walk (k : Nat) (w : World) :
    Calls Tryz.prog 35 #[.int .i64 k] w fun e w' => e = .returned (.string (odd k)) ∧ Below w.heap.size w w' := by
  have HO : Hid (odd k = odds.getD (k % 20) ⟨#[]⟩) := rfl
  have h : k % 20 < 20 := Nat.mod_lt _ (by decide)
  have hI : (k : Int) % 20 = ((k % 20 : Nat) : Int) := by omega
  generalize k % 20 = j at *
  rcases (show j = 0 ∨ j = 1 ∨ j = 2 ∨ j = 3 ∨ j = 4 ∨ j = 5 ∨ j = 6 ∨ j = 7 ∨ j = 8 ∨ j = 9 ∨ j = 10 ∨ j = 11 ∨ j = 12 ∨ j = 13 ∨ j = 14 ∨ j = 15 ∨ j = 16 ∨ j = 17 ∨ j = 18 ∨ j = 19 from by omega) with rfl | rfl | rfl | rfl | rfl | rfl | rfl | rfl | rfl | rfl | rfl | rfl | rfl | rfl | rfl | rfl | rfl | rfl | rfl | rfl
  all_goals clear h
  all_goals go_enter Tryz.func35, Tryz.ntmps35
  all_goals go_wp2
  all_goals go_ret
  all_goals exact ⟨by rw [unhide HO]; rfl, (Below.refl _ _).alloc (Nat.le_refl _) _⟩

set_option maxHeartbeats 1600000 in
theorem repeat_walk (l : List UInt8) (n : Nat) (w : World) (hl : l.length ≤ 4) (hn : n ≤ 30000) :
    Calls Tryz.prog 18 #[.string (strOf l), .int .i64 n] w fun e w' => ∃ t : ByteArray, t.size ≤ 120000 ∧ e = .returned (.string t) ∧ Below w.heap.size w w' := by
  obtain ⟨i0, hi0, hz0, hz1, hz2⟩ := info_parts infoU8
  go_enter Tryz.func18, Tryz.ntmps18
  go_wp2
  go_loopw [5, 6] (fun v i wr => ∃ (j : Nat) (acc : List UInt8), i = .int .i64 (j : Int) ∧ j ≤ n ∧ acc.length ≤ 4 * j ∧ wr.ownsRow w.heap.size 5 1 v (Lib.byteCells acc).length (Lib.byteCells acc) ∧ Below w.heap.size w wr) (fun _ i _ => n - (intOf i).toNat)
  case atStart =>
    exact ⟨0, [], rfl, Nat.zero_le _, by simp, ⟨rfl, .inr ⟨w.heap.size, 0, #[], rfl, Nat.le_refl _, heap_alloc_new w _, Nat.le_refl _, by unfold maxLen; omega, rfl, rfl⟩⟩, (Below.refl _ _).alloc (Nat.le_refl _) _⟩
  case round =>
    obtain ⟨j, acc, rfl, hj, hal, hown, hb⟩ := hrel
    have HB := hide hb
    have hwsz := hb.size
    clear hb
    by_cases hin : j < n
    · have t1 : (j : Int) < (n : Int) := by omega
      obtain ⟨cap, W3, hcv, hcell, b3, hk3, hs3⟩ := conv_bytes wr l
      have own3 := hk3 _ _ _ _ _ hown
      have B3 := below_next (unhide HB) b3
      have HCELL := hide hcell
      clear hcell hk3 hown b3 HB
      go_wp2_with (at_builtin; refine wpList_append_own _ rfl (.tmp 13) (.tmp 15) 22 rfl w.heap.size 5 i0 (.int .u8 0) 1 1 Tryz.underlying22 hi0 hz0 hz1 hz2 rfl (by decide) _ _ _ rfl own3 ⟨wr.heap.size, 0, none⟩ l.length cap (Lib.byteCells l) rfl (by rw [Lib.byteCells_length]; omega) (unhide HCELL) (one_bytes l) (by rw [Lib.byteCells_length]; unfold maxLen; omega) (by rw [Lib.byteCells_length]; omega) (by omega) ?_)
      intro v4 w4 own4 hg4 _
      have B4 : Below w.heap.size w w4 := B3.grown hg4 (by omega) (fun k hk => (own3.lt k hk).1)
      have own4' := own_step (m := l) own4 rfl rfl
      clear own4 hg4 own3 HCELL B3 hcv
      go_wp2
      go_roundw
      case rel => exact ⟨j + 1, acc ++ l, by go_num, by omega, by rw [List.length_append]; omega, own4', B4⟩
      case measure => simp [intOf]; omega
    · have t1 : ¬ (j : Int) < (n : Int) := by omega
      have hcv := convert_own hown
      clear hown
      go_wp2
      go_ret
      exact ⟨_, by show acc.toArray.size ≤ _; simp; omega, rfl, unhide HB⟩
end Go.Proofs.YtmjlkbdjalokeabGreatDoor
