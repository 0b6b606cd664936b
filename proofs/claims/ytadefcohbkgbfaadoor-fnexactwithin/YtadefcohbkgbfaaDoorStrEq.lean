import Derived.Test.YtadefcohbkgbfaaDoorStr
import Derived.Deep.QuietTactic
import Derived.BigQuiet
namespace Go.Proofs.YtadefcohbkgbfaaDoor
open Go.RowKit

theorem SS.drewN {w : World} {xa : Option Addr} {xb xo : Nat} {ss : List ByteArray} (h : SS w xa xb xo ss) (n : Nat) : SS (w.drewN n) xa xb xo ss := ⟨h.ad, h.cell⟩

set_option maxHeartbeats 400000 in
theorem eq_walk (xa ya : Option Addr) (xb xo xc yb yo yc : Nat) (ss : List ByteArray) (w : World) (hx : SS w xa xb xo ss) (hy : SS w ya yb yo ss) (hm : ss.length ≤ 9223372036854775807) :
    Calls Tryd.prog 14 #[.slice xa ss.length xc, .slice ya ss.length yc] w fun e w' => e = .returned (.bool true) ∧ ∃ n, w' = w.drewN n := by
  have hax := hx.ad
  have hay := hy.ad
  have HX := hide hx.cell
  have HY := hide hy.cell
  clear hx hy
  go_enter Tryd.func14, Tryd.ntmps14
  go_wp2
  go_loopw [5] (fun i wr => ∃ k : Nat, k ≤ ss.length ∧ i = .int .i64 k ∧ ∃ n, wr = w.drewN n) (fun i _ => ss.length - (intOf i).toNat)
  case atStart => exact ⟨0, Nat.zero_le _, rfl, 0, rfl⟩
  case round =>
    obtain ⟨k, hk, rfl, n, rfl⟩ := hrel
    by_cases hlt : k < ss.length
    · have hcx := unhide HX k hlt
      have hcy := unhide HY k hlt
      obtain rfl := hax (by omega)
      obtain rfl := hay (by omega)
      clear hax hay
      generalize ss.getD k ByteArray.empty = s at *
      have hlt' : (k : Int) < (ss.length : Int) := by omega
      have dcx : (w.drewN n).cell? ⟨xb, xo + k, none⟩ = some (.string s) := hcx
      have dcy : (w.drewN n).cell? ⟨yb, yo + k, none⟩ = some (.string s) := hcy
      go_wp2
      go_quiet (fail)
      go_wp2
      go_roundw
      case rel => exact ⟨k + 1, by omega, by go_num, _, by first | rfl | (simp [World.drewN_drewN])⟩
      case measure => simp [intOf]; omega
    · clear hax hay
      go_wp2
      go_ret
      exact ⟨rfl, _, rfl⟩
end Go.Proofs.YtadefcohbkgbfaaDoor
