import Derived.Test.YtadefcohbkgbfaaDoorWithin
namespace Go.Proofs.YtadefcohbkgbfaaDoor
open Go.RowKit

theorem eqS_walk {B1 B2 : Nat} (a a' : Option Addr) (cap cap' n : Nat) (ts us : List (List UInt8)) (w : World) (h : OT w B1 (.slice a ts.length cap) ts) (k : OT w B2 (.slice a' us.length cap') us) (h1 : n ≤ ts.length) (h2 : n ≤ us.length) (hl : ts.length ≤ 1048577) (c c' : Nat) :
    Calls Tryd.prog 27 #[.slice a n c, .slice a' n c'] w fun e w' => e = .returned (.bool (sameTo n ts us)) ∧ ∃ m, w' = w.drewN m := by
  obtain ⟨b, g, cp, e, hs, _⟩ := h.shape
  obtain ⟨b', g', cp', e', hs', _⟩ := k.shape
  injection e with e1 e2 e3
  injection e' with f1 f2 f3
  subst e1; subst f1
  by_cases h0 : n = 0
  · subst h0
    refine (Tryd.slices_Equal_string_empty a a' c 0 c' w (by omega)).mono ?_
    rintro e w' ⟨rfl, rfl⟩
    exact ⟨by simp [sameTo], 0, rfl⟩
  · have x1 := hs.ad (by simp; omega)
    have x2 := hs'.ad (by simp; omega)
    subst x1; subst x2
    exact Tryd.slices_Equal_string g 0 n c g' 0 n c' (ts.map baT) (us.map baT) w (by simp; omega) (by simp; omega) (by omega) (by omega) hs.cell hs'.cell

set_option maxHeartbeats 1000000 in
set_option maxRecDepth 100000 in
theorem implWithin_walk (s t : ByteArray) (w : World) (hML : ML w) (hs : s.size ≤ 1048576) (ht : t.size ≤ 1048576) :
    Calls Tryd.prog 11 #[.string s, .string t] w fun e w' => e = .returned (.int .i64 (wSpec (ptoks s.data.toList) (ptoks t.data.toList))) ∧ Below w.heap.size w w' := by
  have hl1 := toks_len_le s.data.toList
  have hl2 := toks_len_le t.data.toList
  rw [data_len] at hl1 hl2
  have HS := hide (implToks_walk s w hML hs)
  have HT : Hid (∀ w, ML w → Calls Tryd.prog 13 #[.string t] w fun e w' => ∃ v, e = .returned (.tuple #[v, .bool (ptoks t.data.toList).isSome]) ∧ OT w' w.heap.size v ((ptoks t.data.toList).getD []) ∧ Below w.heap.size w w') := fun w h => implToks_walk t w h ht
  generalize ptoks s.data.toList = o1 at *
  generalize ptoks t.data.toList = o2 at *
  rcases opt_cases o1 with ⟨h1, rfl⟩ | ⟨ts, rfl⟩
  · have HR : Hid (wSpec none o2 = -1) := rfl
    clear h1
    simp only [Option.isSome_none, Option.getD_none] at HS
    go_enter Tryd.func11, Tryd.ntmps11
    go_wp2_with fail
    refine (unhide HS).mono ?_
    rintro e w1 ⟨v0, rfl, o1, b1⟩
    clear o1
    have HML := hide (hML.below b1)
    go_wp2_with fail
    refine (unhide HT _ (unhide HML)).mono ?_
    rintro e w2 ⟨v1, rfl, o2, b2⟩
    have B2 := below_next b1 b2
    clear o2 b1 b2 HS HT
    go_wp2
    go_ret
    exact ⟨by rw [unhide HR]; rfl, B2⟩
  · rcases opt_cases o2 with ⟨h1, rfl⟩ | ⟨us, rfl⟩
    · have HR : Hid (wSpec (some ts) none = -1) := rfl
      clear h1
      simp only [Option.isSome_none, Option.getD_none, Option.isSome_some, Option.getD_some] at HS HT
      go_enter Tryd.func11, Tryd.ntmps11
      go_wp2_with fail
      refine (unhide HS).mono ?_
      rintro e w1 ⟨v0, rfl, o1, b1⟩
      clear o1
      have HML := hide (hML.below b1)
      go_wp2_with fail
      refine (unhide HT _ (unhide HML)).mono ?_
      rintro e w2 ⟨v1, rfl, o2, b2⟩
      have B2 := below_next b1 b2
      clear o2 b1 b2 HS HT
      go_wp2
      go_ret
      exact ⟨by rw [unhide HR]; rfl, B2⟩
    · simp only [Option.isSome_some, Option.getD_some] at HS HT hl1 hl2
      go_enter Tryd.func11, Tryd.ntmps11
      go_wp2_with fail
      refine (unhide HS).mono ?_
      rintro e w1 ⟨v0, rfl, o1, b1⟩
      have HML := hide (hML.below b1)
      go_wp2_with fail
      refine (unhide HT _ (unhide HML)).mono ?_
      rintro e w2 ⟨v1, rfl, o2, b2⟩
      have B2 := below_next b1 b2
      have o1' : OT w2 w.heap.size v0 ts := own_below o1 b2
      obtain ⟨a, g, cap, rfl, _, _⟩ := o1'.shape
      obtain ⟨a', g', cap', rfl, _, _⟩ := o2.shape
      have hcap : ts.length ≤ cap := by
        rcases o1'.2 with ⟨h, h0⟩ | ⟨g, cp, cur, h, _, _, h3, _⟩
        · injection h with _ h4 h5; omega
        · injection h with _ _ h5; omega
      have hcap' : us.length ≤ cap' := by
        rcases o2.2 with ⟨h, h0⟩ | ⟨g, cp, cur, h, _, _, h3, _⟩
        · injection h with _ h4 h5; omega
        · injection h with _ _ h5; omega
      have HE : Hid (∀ n m c c', n ≤ ts.length → n ≤ us.length → Calls Tryd.prog 27 #[.slice a n c, .slice a' n c'] (w2.drewN m) fun e w' => e = .returned (.bool (sameTo n ts us)) ∧ ∃ m', w' = (w2.drewN m).drewN m') := fun n m c c' h1 h2 =>
        eqS_walk a a' cap cap' n ts us (w2.drewN m) o1' o2 h1 h2 (by omega) c c'
      have HB3 : Hid (∀ n, Below w.heap.size w (w2.drewN n)) := fun n => B2.trans (below_draws _ _ _)
      have H0 := hide (@w_diff ts us)
      have H1 := hide (@w_eq ts us)
      have H2 := hide (@w_lt ts us)
      have H3 := hide (@w_gt ts us)
      clear o1 o2 b1 b2 HS HT HML o1' hML
      by_cases hlt : ts.length ≤ us.length
      · rw [Nat.min_eq_left hlt] at H0 H1 H2 H3
        have hmin : min (ts.length : Int) (us.length : Int) = (ts.length : Int) := by omega
        cases hx : sameTo ts.length ts us with
        | false =>
          have HR := hide (unhide H0 hx)
          have HC : Hid (∀ m c c', Calls Tryd.prog 27 #[.slice a ts.length c, .slice a' ts.length c'] (w2.drewN m) fun e w' => e = .returned (.bool false) ∧ ∃ m', w' = (w2.drewN m).drewN m') := fun m c c' => by have h := unhide HE ts.length m c c' (Nat.le_refl _) hlt; rw [hx] at h; exact h
          clear hx HE
          go_wp2
          go_quiet ((go_at_call 27; exact Calls.quiet_of (unhide HC _ _ _)))
          go_wp2
          go_ret
          exact ⟨by rw [unhide HR]; rfl, unhide HB3 _⟩
        | true =>
          by_cases he : ts.length = us.length
          · have HR := hide (unhide H1 hx he)
            have t1 : ((ts.length : Int) == (us.length : Int)) = true := by rw [beq_iff_eq]; omega
            clear he
            have HC : Hid (∀ m c c', Calls Tryd.prog 27 #[.slice a ts.length c, .slice a' ts.length c'] (w2.drewN m) fun e w' => e = .returned (.bool true) ∧ ∃ m', w' = (w2.drewN m).drewN m') := fun m c c' => by have h := unhide HE ts.length m c c' (Nat.le_refl _) hlt; rw [hx] at h; exact h
            clear hx HE
            go_wp2
            go_quiet ((go_at_call 27; exact Calls.quiet_of (unhide HC _ _ _)))
            go_wp2
            go_ret
            exact ⟨by rw [unhide HR]; rfl, unhide HB3 _⟩
          · have HR := hide (unhide H2 hx (by omega))
            have t1 : ((ts.length : Int) == (us.length : Int)) = false := by rw [beq_eq_false_iff_ne]; omega
            have t2 : (ts.length : Int) < (us.length : Int) := by omega
            have HC : Hid (∀ m c c', Calls Tryd.prog 27 #[.slice a ts.length c, .slice a' ts.length c'] (w2.drewN m) fun e w' => e = .returned (.bool true) ∧ ∃ m', w' = (w2.drewN m).drewN m') := fun m c c' => by have h := unhide HE ts.length m c c' (Nat.le_refl _) hlt; rw [hx] at h; exact h
            clear hx HE
            go_wp2
            go_quiet ((go_at_call 27; exact Calls.quiet_of (unhide HC _ _ _)))
            go_wp2
            go_ret
            exact ⟨by rw [unhide HR]; rfl, unhide HB3 _⟩
      · have hlt' : us.length ≤ ts.length := by omega
        rw [Nat.min_eq_right hlt'] at H0 H1 H2 H3
        have hmin : min (ts.length : Int) (us.length : Int) = (us.length : Int) := by omega
        have t1 : ((ts.length : Int) == (us.length : Int)) = false := by rw [beq_eq_false_iff_ne]; omega
        have t2 : ¬ (ts.length : Int) < (us.length : Int) := by omega
        cases hx : sameTo us.length ts us with
        | false =>
          have HR := hide (unhide H0 hx)
          have HC : Hid (∀ m c c', Calls Tryd.prog 27 #[.slice a us.length c, .slice a' us.length c'] (w2.drewN m) fun e w' => e = .returned (.bool false) ∧ ∃ m', w' = (w2.drewN m).drewN m') := fun m c c' => by have h := unhide HE us.length m c c' hlt' (Nat.le_refl _); rw [hx] at h; exact h
          clear hx HE
          go_wp2
          go_quiet ((go_at_call 27; exact Calls.quiet_of (unhide HC _ _ _)))
          go_wp2
          go_ret
          exact ⟨by rw [unhide HR]; rfl, unhide HB3 _⟩
        | true =>
          have HR := hide (unhide H3 hx (by omega))
          have HC : Hid (∀ m c c', Calls Tryd.prog 27 #[.slice a us.length c, .slice a' us.length c'] (w2.drewN m) fun e w' => e = .returned (.bool true) ∧ ∃ m', w' = (w2.drewN m).drewN m') := fun m c c' => by have h := unhide HE us.length m c c' hlt' (Nat.le_refl _); rw [hx] at h; exact h
          clear hx HE
          go_wp2
          go_quiet ((go_at_call 27; exact Calls.quiet_of (unhide HC _ _ _)))
          go_wp2
          go_ret
          exact ⟨by rw [unhide HR]; rfl, unhide HB3 _⟩
end Go.Proofs.YtadefcohbkgbfaaDoor
