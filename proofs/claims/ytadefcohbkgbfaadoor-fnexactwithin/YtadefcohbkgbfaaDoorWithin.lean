import Derived.Test.YtadefcohbkgbfaaDoorWithinPlain
import Derived.Test.YtadefcohbkgbfaaDoorPtrTokensLaw
namespace Go.Proofs.YtadefcohbkgbfaaDoor
open Go.RowKit

theorem opt_cases (o : Option (List (List UInt8))) : (o.isSome = false ∧ o = none) ∨ ∃ ts, o = some ts := by cases o with
  | none => exact .inl ⟨rfl, rfl⟩
  | some t => exact .inr ⟨t, rfl⟩

set_option maxHeartbeats 1000000 in
set_option maxRecDepth 100000 in
theorem specWithin_walk (s t : ByteArray) (w : World) (hs : s.size ≤ 1048576) (ht : t.size ≤ 1048576) :
    Calls Tryd.prog 10 #[.string s, .string t] w fun e w' => e = .returned (.int .i64 (wSpec (ptoks s.data.toList) (ptoks t.data.toList))) ∧ Below w.heap.size w w' := by
  have hl1 := toks_len_le s.data.toList
  have hl2 := toks_len_le t.data.toList
  rw [data_len] at hl1 hl2
  have HS := hide (specToks_walk s w hs)
  have HT : Hid (∀ w, Calls Tryd.prog 12 #[.string t] w fun e w' => ∃ v, e = .returned (.tuple #[v, .bool (ptoks t.data.toList).isSome]) ∧ OT w' w.heap.size v ((ptoks t.data.toList).getD []) ∧ Below w.heap.size w w') := fun w => specToks_walk t w ht
  generalize ptoks s.data.toList = o1 at *
  generalize ptoks t.data.toList = o2 at *
  rcases opt_cases o1 with ⟨h1, rfl⟩ | ⟨ts, rfl⟩
  · have HR : Hid (wSpec none o2 = -1) := rfl
    clear h1
    simp only [Option.isSome_none, Option.getD_none] at HS
    go_enter Tryd.func10, Tryd.ntmps10
    go_wp2_with fail
    refine (unhide HS).mono ?_
    rintro e w1 ⟨v0, rfl, o1, b1⟩
    clear o1
    go_wp2_with fail
    refine (unhide HT _).mono ?_
    rintro e w2 ⟨v1, rfl, o2, b2⟩
    have B2 := below_next b1 b2
    clear o2 b1 b2 HS HT
    go_wp2
    go_ret
    exact ⟨by rw [unhide HR]; rfl, B2⟩
  · rcases opt_cases o2 with ⟨h1, rfl⟩ | ⟨us, rfl⟩
    · have HR : Hid (wSpec (some ts) none = -1) := rfl
      clear h1
      simp only [Option.isSome_none, Option.getD_none, Option.isSome_some, Option.getD_some] at HS HT
      go_enter Tryd.func10, Tryd.ntmps10
      go_wp2_with fail
      refine (unhide HS).mono ?_
      rintro e w1 ⟨v0, rfl, o1, b1⟩
      clear o1
      go_wp2_with fail
      refine (unhide HT _).mono ?_
      rintro e w2 ⟨v1, rfl, o2, b2⟩
      have B2 := below_next b1 b2
      clear o2 b1 b2 HS HT
      go_wp2
      go_ret
      exact ⟨by rw [unhide HR]; rfl, B2⟩
    · simp only [Option.isSome_some, Option.getD_some] at HS HT hl1 hl2
      have HR : Hid (wSpec (some ts) (some us) = if pre ts us = true ∧ pre us ts = true then 1 else if pre ts us = true then 2 else if pre us ts = true then 3 else 0) := rfl
      go_enter Tryd.func10, Tryd.ntmps10
      go_wp2_with fail
      refine (unhide HS).mono ?_
      rintro e w1 ⟨v0, rfl, o1, b1⟩
      go_wp2_with fail
      refine (unhide HT _).mono ?_
      rintro e w2 ⟨v1, rfl, o2, b2⟩
      have B2 := below_next b1 b2
      have HA : Hid (∀ n, Calls Tryd.prog 26 #[v0, v1] (w2.drewN n) fun e w' => e = .returned (.bool (pre ts us)) ∧ ∃ n, w' = w2.drewN n) := fun n => (heads_walk v0 v1 ts us (w2.drewN n) (own_below o1 (b2.trans (below_draws _ _ _))) o2 (by omega) (by omega)).mono (by rintro e w' ⟨h1, m, rfl⟩; exact ⟨h1, _, World.drewN_drewN ..⟩)
      have HB : Hid (∀ n, Calls Tryd.prog 26 #[v1, v0] (w2.drewN n) fun e w' => e = .returned (.bool (pre us ts)) ∧ ∃ n, w' = w2.drewN n) := fun n => (heads_walk v1 v0 us ts (w2.drewN n) o2 (own_below o1 (b2.trans (below_draws _ _ _))) (by omega) (by omega)).mono (by rintro e w' ⟨h1, m, rfl⟩; exact ⟨h1, _, World.drewN_drewN ..⟩)
      clear o1 o2 b1 b2 HS HT
      generalize pre ts us = x at *
      generalize pre us ts = y at *
      go_wp2_with fail
      refine (unhide HA 0).mono ?_
      rintro e w3 ⟨rfl, n3, rfl⟩
      have B3 : ∀ n, Below w.heap.size w (w2.drewN n) := fun n => B2.trans (below_draws _ _ _)
      have HB3 := hide B3
      clear B3
      cases x <;> cases y
      · go_wp2_with fail
        refine (unhide HA _).mono ?_
        rintro e w4 ⟨rfl, n4, rfl⟩
        go_wp2_with fail
        refine (unhide HB _).mono ?_
        rintro e w5 ⟨rfl, n5, rfl⟩
        go_wp2
        go_ret
        exact ⟨by rw [unhide HR]; rfl, unhide HB3 _⟩
      · go_wp2_with fail
        refine (unhide HA _).mono ?_
        rintro e w4 ⟨rfl, n4, rfl⟩
        go_wp2_with fail
        refine (unhide HB _).mono ?_
        rintro e w5 ⟨rfl, n5, rfl⟩
        go_wp2
        go_ret
        exact ⟨by rw [unhide HR]; rfl, unhide HB3 _⟩
      · go_wp2_with fail
        refine (unhide HB _).mono ?_
        rintro e w4 ⟨rfl, n4, rfl⟩
        go_wp2_with fail
        refine (unhide HA _).mono ?_
        rintro e w5 ⟨rfl, n5, rfl⟩
        go_wp2
        go_ret
        exact ⟨by rw [unhide HR]; rfl, unhide HB3 _⟩
      · go_wp2_with fail
        refine (unhide HB _).mono ?_
        rintro e w4 ⟨rfl, n4, rfl⟩
        go_wp2
        go_ret
        exact ⟨by rw [unhide HR]; rfl, unhide HB3 _⟩
end Go.Proofs.YtadefcohbkgbfaaDoor
