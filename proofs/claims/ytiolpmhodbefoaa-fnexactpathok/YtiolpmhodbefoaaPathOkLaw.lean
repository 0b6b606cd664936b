import Derived.Test.YtiolpmhodbefoaaImplPOk
import Derived.Test.YtiolpmhodbefoaaSpecPOk6
namespace Go.Proofs.Ytiolpmhodbefoaa
open Go.RowKit

set_option maxRecDepth 100000 in
set_option maxHeartbeats 4000000 in
theorem pathOkLaw_walk (v : Value) (ms : List PSeg) (w : World) (hr : RRow segR w v ms) :
    Calls Try.prog 3 #[v] w fun e w' => e = .returned (.bool true) ∧ Below w.heap.size w w' := by
  have HR := hide hr
  have HS := hide (szSegs_walk v ms 1048576 w hr (Nat.le_refl _))
  clear hr
  by_cases hsz : szSegs ms ≤ 1048576
  · rw [szI_ok hsz] at HS
    have HT : Hid (∀ wx, Below w.heap.size w wx → Calls Try.prog 7 #[v] wx fun e w' => ∃ v' bl, e = .returned v' ∧ ORow segE w' v' ms bl ∧ Fsh wx.heap.size bl ∧ Below wx.heap.size wx w') := fun wx hx => toSegs_walk v ms wx ((unhide HR).below hx) hsz
    have hle : 1048576 - szSegs ms ≤ 1048576 := by omega
    generalize 1048576 - szSegs ms = L at *
    go_enter Try.func3, Try.ntmps3
    go_wp2_with fail
    refine (unhide HS).mono ?_
    rintro e w1 ⟨rfl, b1⟩
    have HT1 := hide (unhide HT w1 b1)
    have HB1 := hide b1
    clear HS b1
    go_wp2_with fail
    refine (unhide HT1).mono ?_
    rintro e w2 ⟨v2, bl2, rfl, o2, _, b2⟩
    have HE := hide (specPathOk_walk v2 ms bl2 w2 o2 hsz)
    have HB2 := hide (below_next (unhide HB1) b2)
    clear HT1 o2 b2 HB1
    go_wp2_with fail
    refine (unhide HE).mono ?_
    rintro e w3 ⟨rfl, b3⟩
    have b03 := below_next (unhide HB2) b3
    have HT3 := hide (unhide HT w3 b03)
    have HB3 := hide b03
    clear HE b3 b03 HB2
    obtain ⟨eb, heb⟩ : ∃ eb, pathOk ms = eb := ⟨_, rfl⟩
    rw [heb]
    have HEB := hide heb
    clear heb
    go_wp2_with fail
    refine (unhide HT3).mono ?_
    rintro e w4 ⟨v4, bl4, rfl, o4, _, b4⟩
    have b04 := below_next (unhide HB3) b4
    have HI := hide (implPathOk_walk v4 ms bl4 w4 o4 hsz)
    rw [unhide HEB] at HI
    have HB4 := hide b04
    have HO4 := hide o4
    obtain ⟨xa, xc, rfl, -, -⟩ := o4.form
    clear HT3 o4 b4 b04 HB3
    go_wp2_with fail
    refine (unhide HI).mono ?_
    rintro e w5 ⟨rfl, b5⟩
    have b05 := below_next (unhide HB4) b5
    have HO5 := hide ((unhide HO4).below b5)
    have HB5 := hide b05
    have HT5 := hide (unhide HT w5 b05)
    clear HI b5 b05 HB4 HO4
    go_wp2_with fail
    refine (unhide HT5).mono ?_
    rintro e w6 ⟨v6, bl6, rfl, o6, _, b6⟩
    have HQ := hide (eqSegs_walk _ v6 ms bl4 bl6 w6 ((unhide HO5).below b6) o6)
    have HB6 := hide (below_next (unhide HB5) b6)
    clear HT5 o6 b6 HB5 HO5
    go_wp2_with fail
    refine (unhide HQ).mono ?_
    rintro e w7 ⟨rfl, b7⟩
    have HB7 := hide (below_next (unhide HB6) b7)
    clear HQ b7 HB6
    go_wp2
    go_ret
    exact ⟨rfl, unhide HB7⟩
  · rw [szI_no (by omega)] at HS
    go_enter Try.func3, Try.ntmps3
    go_wp2_with fail
    refine (unhide HS).mono ?_
    rintro e w1 ⟨rfl, b1⟩
    clear HS
    go_wp2
    go_ret
    exact ⟨rfl, b1⟩
end Go.Proofs.Ytiolpmhodbefoaa
