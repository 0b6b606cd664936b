import Derived.WalkSmall
import Derived.Test.YtpaecnbdoljafaaGreatDoorBp1
namespace Go.Proofs.YtpaecnbdoljafaaGreatDoor
open Go.RowKit
theorem JZ {P:Program} {fn:Func} {p r:Tmp} {ty:TypeId} (h:fn.results=#[.cell p ty,.tmp r]) (tmps:Array Value) (w:Wo) (g:Nat) (t:TypeId) (cs:Array Value) (fr:Nat×Nat) (d:TypeDesc) (v:Value)
  (hp:tmps.getD p undef= .pointer (some ⟨g,0,none⟩)) (hr:tmps.getD r undef=v) (hg:w.heap[g]?=some (.cells cs t fr))
  (hu:P.underlying ty=some d) (hd:(match d with | .struct _ | .array _ _=>true | _=>false)=true) (hi:(P.info? ty).map (·.size)=some cs.size):
  (results fn tmps).run P w= .ok (.tuple #[.agg cs,v]) w:=by
 have a:tmps[p]?.getD undef= .pointer (some ⟨g,0,none⟩):=by simpa using hp
 have b:tmps[r]?.getD undef=v:=by simpa using hr
 simp[results,h,a,b,asAddr,run_loadVar_row w g t ty cs fr d hg hu hd hi]
end Go.Proofs.YtpaecnbdoljafaaGreatDoor
