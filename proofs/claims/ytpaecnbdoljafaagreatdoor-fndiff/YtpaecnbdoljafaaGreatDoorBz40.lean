import Derived.Test.YtpaecnbdoljafaaGreatDoorBz34
import Derived.Test.YtpaecnbdoljafaaGreatDoorBz12
set_option maxRecDepth 100000
set_option maxHeartbeats 8000000
namespace Go.Proofs.YtpaecnbdoljafaaGreatDoor
open Go.RowKit Go.Sort Go.Proofs.Tryz
def CH(s:Bs)(w:Wo)(e:Ending)(w':Wo):Prop:=
 Bw w w'/\(Qy s=false->e= .returned (.tuple #[.nilIface,.bool false])) /\
 (Qy s=true->∃ (v:JV) (t:TypeId) (p:Value),zI s= .inr v/\zh (ct v)=s/\e= .returned (.tuple #[.iface t p,.bool true])/\zk w' (fun k=>w.heap.size<=k/\k<w'.heap.size) v (.iface t p))
theorem zeo{s:Bs}{v:JV}(h:zI s= .inr v)(hb:Qy s=false):((zh (ct v)).toList ==s.toList)=false:=by
 unfold Qy at hb;rw[h]at hb;exact hb
theorem zep(s:Bs)(w:Wo)(hT:qL w.heap.size w)(hE:Qt w.heap.size w)(hP:QE w.heap.size w)(hz:s.size<=9223372036854775807):
  Calls prog 96 #[.string s] w (CH s w):=by
 have f:=ze (Xc s w hT hE hP hz);have z:=ze hP;clear hT hE hP
 cases hr:zI s with
 | inl c=>
  obtain⟨c1,c2⟩:=GK hr;have b:Qy s=false:=by unfold Qy;rw[hr]
  rw[hr]at f;have G:((c:Int) ==0)=false:=by simp;omega
  have H:((c:Int) !=0)=true:=by simp;omega
  have I:¬ (c:Int)=0:=by omega
  have J:¬ c=0:=by omega
  have j:=ze b;clear hr b;go_in;go_wp2_with fail;refine (uh f).mono ?_;rintro e x ⟨g,rfl⟩;clear f;go_wp2;go_ret2;exact⟨g,fun _=>rfl,fun h=>by rw[uh j]at h;cases h⟩
 | inr v=>
  obtain⟨F,u,o,_,_,_⟩:=Y7 hr;obtain⟨n,A,B⟩:=Vy u;have HR:=ze hr;rw[hr]at f;clear hr u;go_in;go_wp2_with fail;refine (uh f).mono ?_;rintro e x ⟨g,t,p,rfl,d⟩;have l:=ze d;have HC:=ze (K0 v n o t p x _ d (fun k hk=>hk.2) (((uh z).next g (ye _)).more g.size) (by omega));clear f d n o;have i:=ze g;clear g
  cases b:Qy s with
  | true=>
   have j:=ze b;obtain⟨K,q,r⟩:=XU.1 b;rw[uh HR]at q;injection q with q;subst q;rw[r]at HC;have y:=ze r;clear b r;go_wp2_with fail;refine (uh HC).mono ?_;rintro e D ⟨rfl,m⟩;have a:=ze m;clear HC m;go_wp2;go_ret2;refine⟨zi (uh i) (uh a),fun h=>(by rw[uh j]at h;cases h),fun _=>⟨v,t,p,uh HR,uh y,rfl,?_⟩⟩;exact zk.keep (fun k hk=>(uh a).block k hk.2) (fun k hk=>⟨hk.1,yF hk.2 (uh a).size⟩) _ _ (uh l)
  | false=>
   have j:=ze b;have C:=zeo (uh HR) b;generalize zh (ct v)=E at *;clear b;go_wp2_with fail;refine (uh HC).mono ?_;rintro e D ⟨rfl,m⟩;have a:=ze m;clear HC m;go_wp2;go_ret2;exact⟨zi (uh i) (uh a),fun _=>rfl,fun h=>by rw[uh j]at h;cases h⟩
end Go.Proofs.YtpaecnbdoljafaaGreatDoor
