import Derived.Test.YtiolpmhodbefoaaImplPOk4
import Derived.Laws.AppendOwnNone
import Derived.Lib.SliceRun
namespace Go.Proofs.Ytiolpmhodbefoaa
open Go.RowKit Go.Lib

theorem infoCondP : (Try.prog.info? 96).map (fun i => (i.zero, i.size, i.bytes)) = some (some (.pointer none), 1, 8) := by kernel_rfl
/-- slices.Clone of a row of conditions: nil stays nil, else the values in a row of its own. -/
theorem cloneC_nil (w : World) : Calls Try.prog 70 #[.slice none 0 0] w fun e w' => e = .returned (.slice none 0 0) ∧ w = w' := by
  have q : ∀ (w : World) (a : Option Addr) (n c n' c' : Nat), (binOp .eql 119 (.slice a n c) (.slice none n' c')).run Try.prog w = .ok (.bool a.isNone) w := fun w a n c n' c' => Lib.run_eql_slice_nil w _ _ a n c n' c' Try.underlying119
  go_enter Try.func70, Try.ntmps70
  go_wp2
  go_ret
  exact ⟨rfl, rfl⟩
set_option maxHeartbeats 4000000 in
set_option maxRecDepth 100000 in
theorem cloneC_walk (a : Addr) (cap : Nat) (us : List Value) (w : World) (hc : ∀ (j : Nat) (u : Value), us[j]? = some u → w.cell? (a.add j) = some u) (h1 : ∀ u ∈ us, u.oneCell' = true) (hl : us.length ≤ 1000000) :
    Calls Try.prog 70 #[.slice (some a) us.length cap] w fun e w' => ∃ r, e = .returned r ∧ w'.ownsRow w.heap.size 96 1 r us.length us ∧ Below w.heap.size w w' := by
  have HV := hide hc
  have H1 := hide h1
  clear hc h1
  have q : ∀ (w : World) (a : Option Addr) (n c n' c' : Nat), (binOp .eql 119 (.slice a n c) (.slice none n' c')).run Try.prog w = .ok (.bool a.isNone) w := fun w a n c n' c' => Lib.run_eql_slice_nil w _ _ a n c n' c' Try.underlying119
  have HA : Hid (Below w.heap.size w (w.alloc (.cells #[] 96))) := (Below.refl _ _).alloc (Nat.le_refl _) _
  have HO : Hid ((w.alloc (.cells #[] 96)).ownsRow w.heap.size 96 1 (.slice (some ⟨w.heap.size, 0, none⟩) 0 0) 0 []) := World.ownsRow_made w #[] 0 (Nat.le_refl _) (Nat.zero_le _) rfl
  have HZ : Hid (w.heap.size ≤ (w.alloc (.cells #[] 96)).heap.size) := by show _ ≤ _; simp
  have HV2 : Hid (∀ (j : Nat) (u : Value), us[j]? = some u → (w.alloc (.cells #[] 96)).cell? (a.add j) = some u) := fun j u hu => by
    have h0 := unhide HV j u hu
    exact ((unhide HA).cell (World.block_lt_of_cell? _ _ h0)).trans h0
  obtain ⟨i0, hi, hz0, hz1, hz2⟩ := info_parts infoCondP
  go_enter Try.func70, Try.ntmps70
  go_wp2_with (at_builtin; refine wpList_append_own _ rfl (.tmp 5) (.tmp 6) 119 rfl w.heap.size 96 i0 (.pointer none) 1 8 Try.underlying119 hi hz0 hz1 hz2 rfl (by decide) _ _ _ rfl (unhide HO) a us.length cap us rfl (by simp) (unhide HV2) (unhide H1) (by unfold maxLen; omega) (by omega) (unhide HZ) ?_)
  intro v' w1 hown hgrow _
  have HB1 := hide ((unhide HA).grown hgrow (unhide HZ) (by intro k hk; simp [Value.ownBlock] at hk; omega))
  have HO1 : Hid (w1.ownsRow w.heap.size 96 1 v' us.length us) := hide (by simpa using hown)
  clear hown hgrow
  go_wp2
  go_ret
  exact ⟨v', rfl, unhide HO1, unhide HB1⟩
end Go.Proofs.Ytiolpmhodbefoaa
