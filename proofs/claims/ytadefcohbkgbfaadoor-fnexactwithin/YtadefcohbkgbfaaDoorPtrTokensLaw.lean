import Derived.Test.YtadefcohbkgbfaaDoorStrEq
import Derived.Test.YtadefcohbkgbfaaDoorSpecToks
import Derived.Test.YtadefcohbkgbfaaDoorImplToks
import Derived.Test.YtadefcohbkgbfaaDoorMarkS
import Derived.Deep.RegionWith
namespace Go.Proofs.YtadefcohbkgbfaaDoor
open Go.RowKit

theorem below_draws (w : World) (n B : Nat) : Below B w (w.drewN n) := ⟨rfl, rfl, rfl, Nat.le_refl _, fun _ _ => rfl⟩

theorem eqT_walk {B1 B2 : Nat} (v u : Value) (ts : List (List UInt8)) (w : World) (h : OT w B1 v ts) (k : OT w B2 u ts) (hl : ts.length ≤ 9223372036854775807) :
    Calls Tryd.prog 14 #[v, u] w fun e w' => e = .returned (.bool true) ∧ ∃ n, w' = w.drewN n := by
  obtain ⟨a, g, cap, rfl, hs, _⟩ := h.shape
  obtain ⟨a', g', cap', rfl, hs', _⟩ := k.shape
  have e : ts.length = (ts.map baT).length := by simp
  rw [e]
  exact eq_walk a a' g 0 cap g' 0 cap' (ts.map baT) w hs hs' (by omega)

theorem toks_len_le (l : List UInt8) : ((ptoks l).getD []).length ≤ l.length := by
  cases l with
  | nil => simp [ptoks]
  | cons c r =>
    rw [ptoks]; split
    · unfold toks
      have h1 : ∀ (qs : List (List UInt8)), ((qs.mapM unesc).getD []).length ≤ qs.length := by
        intro qs
        induction qs with
        | nil => simp
        | cons q qs ih =>
          rw [mapM_cons']
          cases unesc q with
          | none => simp
          | some t =>
            cases hq : List.mapM unesc qs with
            | none => simp
            | some ts => rw [hq] at ih; simp at ih ⊢; omega
      have h2 : ∀ (l : List UInt8), (pieces l).length ≤ l.length + 1 := by
        intro l
        induction l with
        | nil => simp [pieces]
        | cons c r ih =>
          by_cases hc : c.toNat = 47
          · rw [pieces_cut r hc]; simp; omega
          · cases hp : pieces r with
            | nil => exact absurd hp (pieces_ne r)
            | cons q qs => rw [pieces_go hc hp]; rw [hp] at ih; simp at ih ⊢; omega
      have := h1 (pieces r); have := h2 r; simp; omega
    · simp

set_option maxHeartbeats 1000000 in
set_option maxRecDepth 100000 in
theorem ptrTokensLaw_walk (s : ByteArray) (w : World) (hML : ML w) :
    Calls Tryd.prog 5 #[.string s] w fun e w' => e = .returned (.bool true) ∧ Below w.heap.size w w' := by
  by_cases hsz : s.size ≤ 1048576
  · have hlen := toks_len_le s.data.toList
    rw [data_len] at hlen
    have HS := hide (specToks_walk s w hsz)
    generalize hb : (ptoks s.data.toList).isSome = ok at *
    generalize ht : (ptoks s.data.toList).getD [] = ts at *
    have Hb := hide hb
    have Ht := hide ht
    clear hb ht
    go_enter Tryd.func5, Tryd.ntmps5
    go_wp2_with fail
    refine (unhide HS).mono ?_
    rintro e w1 ⟨v0, rfl, o1, b1⟩
    have C2 := implToks_walk s w1 (hML.below b1) hsz
    rw [unhide Hb, unhide Ht] at C2
    have HC2 := hide C2
    have O1 := hide o1
    clear C2 HS o1
    go_wp2_with fail
    refine (unhide HC2).mono ?_
    rintro e w2 ⟨v1, rfl, o2, b2⟩
    have HE := hide (eqT_walk v1 v0 ts w2 o2 (own_below (unhide O1) b2) (by omega))
    have O2 := hide o2
    clear HC2 o2
    go_wp2_with fail
    refine (unhide HE).mono ?_
    rintro e w3 ⟨rfl, n3, rfl⟩
    have b3 : Below w1.heap.size w1 (w2.drewN n3) := b2.trans (below_draws _ _ _)
    have o3 : (w2.drewN n3).ownsRow w1.heap.size 9 1 v1 ts.length (ts.map tokCell) := unhide O2
    have HM := hide (markS_walk w1.heap.size v1 ts.length 1 _ (w2.drewN n3) o3 b3.size (by omega) (Nat.le_refl _) (by omega))
    clear HE O2 o3
    generalize w2.drewN n3 = w3 at *
    go_wp2_with fail
    refine (unhide HM).mono ?_
    rintro e w4 ⟨rfl, o4, b4⟩
    have b4' := b3.trans b4
    have HH := hide (heldS_walk w1.heap.size v1 ts.length 1 w4 o4 (by omega) (Nat.le_refl _) (by omega))
    have O4 := hide o4
    clear HM o4 b4 b3 b2
    go_wp2_with fail
    refine (unhide HH).mono ?_
    rintro e w5 ⟨rfl, b5⟩
    have O5 := hide (own_below (unhide O4) b5)
    have b5' := b4'.trans (b5.mono b4'.size)
    have B5 := b1.trans (b5'.mono b1.size)
    clear HH O4 b4' b5
    have C6 := implToks_walk s w5 (hML.below B5) hsz
    rw [unhide Hb, unhide Ht] at C6
    have HC6 := hide C6
    clear C6
    go_wp2_with fail
    refine (unhide HC6).mono ?_
    rintro e w6 ⟨v6, rfl, o6, b6⟩
    have b6' := b5'.trans (b6.mono b5'.size)
    have HE := hide (eqT_walk v6 v0 ts w6 o6 (own_below (unhide O1) b6') (by omega))
    have O6 := hide (own_below (unhide O5) b6)
    clear HC6 o6 O5
    go_wp2_with fail
    refine (unhide HE).mono ?_
    rintro e w7 ⟨rfl, n7, rfl⟩
    have o7 : (w6.drewN n7).ownsRow w1.heap.size 9 1 v1 ts.length (marks 1 ts.length) := unhide O6
    have B7 : Below w.heap.size w (w6.drewN n7) := (B5.trans (b6.mono B5.size)).trans (below_draws _ _ _)
    have HH := hide (heldS_walk w1.heap.size v1 ts.length 1 (w6.drewN n7) o7 (by omega) (Nat.le_refl _) (by omega))
    clear HE O6 o7
    generalize w6.drewN n7 = w7 at *
    go_wp2_with fail
    refine (unhide HH).mono ?_
    rintro e w8 ⟨rfl, b8⟩
    have B8 := B7.trans (b8.mono B7.size)
    go_wp2
    go_ret
    exact ⟨rfl, B8⟩
  · have hsz' : (1048576 : Int) < (s.size : Int) := by omega
    go_enter Tryd.func5, Tryd.ntmps5
    go_wp2
    go_ret
    exact ⟨rfl, Below.refl _ _⟩
end Go.Proofs.YtadefcohbkgbfaaDoor
