import Derived.Deep.QuietTactic
import Derived.BigQuiet
import Derived.Test.YtbihihkdgckgnaaDoorBq1
namespace Go.Proofs.YtbihihkdgckgnaaDoor
open Go.RowKit

theorem SS.drewN {w : World} {xa : Option Addr} {xb xo : Nat} {ss : List ByteArray} (h : SS w xa xb xo ss) (n : Nat) : SS (w.drewN n) xa xb xo ss := ⟨h.ad, h.cell⟩

end Go.Proofs.YtbihihkdgckgnaaDoor

