import Derived.Test.YtekpghcckdjnhaaGreatDoorBa5
import Derived.Test.YtekpghcckdjnhaaGreatDoorBa21
namespace Go.Proofs.YtekpghcckdjnhaaGreatDoor
open Go.RowKit
theorem zql (w:World) (vs:List Value) (T:TypeId) : ∀ (j:Nat) (u:Value),vs[j]?=some u->(w.alloc (.cells vs.toArray T)).cell? ((⟨w.heap.size,0,none⟩ : Addr).add j)=some u:=by
 intro j u hu
 have h:=yF (yG w (.cells vs.toArray T)) j
 rw[Go.WideShapes.add_plain,Nat.zero_add,h]
 simpa using hu
theorem zkD (w:World) (e size:Nat) : (w.alloc (.cells #[] e)).ownsRow w.heap.size e size (.slice (some ⟨w.heap.size,0,none⟩) 0 0) 0 []:=by
 exact w.ownsRow_made #[] 0 (ye _) (yt _) (by simp)
end Go.Proofs.YtekpghcckdjnhaaGreatDoor
