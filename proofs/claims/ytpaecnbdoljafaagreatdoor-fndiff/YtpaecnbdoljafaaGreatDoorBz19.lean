import Derived.Test.YtpaecnbdoljafaaGreatDoorBz13
namespace Go.Proofs.YtpaecnbdoljafaaGreatDoor
open Go.RowKit
def Uy(ts:List (List UInt8)):List UInt8:=ZC (ts.map zH)
theorem za8(ts:List (List UInt8))(k:List UInt8):Uy (ts++[k])=Zp (Uy ts) k:=by
 unfold Uy ZC Zp;simp[zH]
theorem za9(v:JV)(t:List UInt8)(ts:List (List UInt8)):zr v (t :: ts)=(zn v t).bind fun u=>zr u ts:=by
 have:=Gc [t] ts v;have e:zr v [t]=zn v t:=by
  simp only[zr]
  cases zn v t<;>rfl
 rwa [e]at this
theorem ZF.kid{v:JV}{q:List UInt8×JV}(h:ZF v)(hq:q∈zu v):zn v q.1=some q.2/\ZF q.2:=by
 have a:=Cn h.tw (by have:=h.cnt;omega) hq;exact⟨a,h.child a⟩
end Go.Proofs.YtpaecnbdoljafaaGreatDoor
