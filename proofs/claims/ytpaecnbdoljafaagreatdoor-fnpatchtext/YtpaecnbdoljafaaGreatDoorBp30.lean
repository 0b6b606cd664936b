import Derived.Test.YtpaecnbdoljafaaGreatDoorBp20
import Derived.Test.YtpaecnbdoljafaaGreatDoorBp28
set_option maxRecDepth 100000
set_option maxHeartbeats 8000000
namespace Go.Proofs.YtpaecnbdoljafaaGreatDoor
open Go.RowKit Go.Sort Go.Proofs.Tryz
def Vd(t:List UInt8):Value:=match qJ t with
 | some i=>.tuple #[.int .i64 (i:Int),.bool true]
 | none=>.tuple #[.int .i64 0,.bool false]
theorem Ad(s:Bs)(w:Wo)(hs:s.size<=1048576):
  Calls prog 157 #[.string s] w fun e w'=>e= .returned (Vd s.data.toList)/\w=w':=by
 have f:¬ Gx s.data.toList=true->Vd s.data.toList= .tuple #[.int .i64 0,.bool false]:=fun h=>by unfold Vd qJ;rw[ye h]
 have o:=Zb s;have k:=zh (MM s 6 w hs (by decide));obtain⟨z,b,j⟩:=MN 6 s.data.toList;have d:¬ (s.data.toList.getD 0 0=(48:UInt8)/\1<s.size)->Vd s.data.toList=Ya 6 s.data.toList:=fun l=>by
  by_cases g:Wa 6 s.data.toList
  ·have p:Gx s.data.toList=true:=Yo.2 ⟨g.1,g.2.1,fun ⟨a,b⟩=>l ⟨UInt8.toNat_inj.1 a,by omega⟩,g.2.2⟩;unfold Vd qJ Ya;rw[yf p,yf g]
  ·rw[f (fun h=>g ⟨(Yo.1 h).1,(Yo.1 h).2.1,(Yo.1 h).2.2.2⟩)];unfold Ya;rw[ye g]
 rw[j]at k d;by_cases n:1<s.size
 ·have v:0<s.size:=by omega
  have i:(s.data.toList.getD 0 0)=s[0]:=by rw[List.getD,yw (by omega)];rfl
  have x:(0:Int)<(s.size:Int):=by omega
  have r:(1:Int)<(s.size:Int):=by omega
  by_cases l:s[0].toNat=48
  ·have m:=zh (f (fun h=>(Yo.1 h).2.2.1 ⟨by rw[i];exact l,by omega⟩));have q:((s[0].toNat:Int) ==48)=true:=by rw[yB];omega
   clear f n l i d k j;go_in;go_wp2;go_ret2;exact⟨by rw[uh m];rfl,rfl⟩
  ·have m:=zh (d (fun h=>l (by rw[← i,h.1];rfl)));have q:((s[0].toNat:Int) ==48)=false:=by rw[yb];omega
   clear f n l i d j;go_in;go_wp2_with fail;refine (uh k).mono ?_;rintro e u ⟨rfl,rfl⟩;clear k;go_wp2;go_ret2;exact⟨by rw[uh m];rfl,rfl⟩
 ·have m:=zh (d (fun h=>n h.2));have r:¬ (1:Int)<(s.size:Int):=by omega
  clear f n d j;go_in;go_wp2_with fail;refine (uh k).mono ?_;rintro e u ⟨rfl,rfl⟩;clear k;go_wp2;go_ret2;exact⟨by rw[uh m];rfl,rfl⟩
end Go.Proofs.YtpaecnbdoljafaaGreatDoor
