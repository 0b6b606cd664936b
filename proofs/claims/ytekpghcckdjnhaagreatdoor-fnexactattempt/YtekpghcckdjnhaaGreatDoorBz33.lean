import Derived.Test.YtekpghcckdjnhaaGreatDoorBz15
import Derived.Test.YtekpghcckdjnhaaGreatDoorBz32
set_option maxRecDepth 100000
set_option maxHeartbeats 8000000
namespace Go.Proofs.YtekpghcckdjnhaaGreatDoor
open Go.RowKit Go.Proofs.Tryz
end Go.Proofs.YtekpghcckdjnhaaGreatDoor
namespace Go.Proofs.YtekpghcckdjnhaaGreatDoor
open Go.RowKit Go.Sort Go.Proofs.Tryz
def Pp(s:Bs)(w:Wo)(e:Ending)(w':Wo):Prop:=
 Bw w w'/\(Z6 s=false->e= .returned (.tuple #[.nilIface,.bool false])) /\
 (Z6 s=true->∃ (v:JV) (t:TypeId) (p:Value),ZI s= .inr v/\ze (ct v)=s/\e= .returned (.tuple #[.iface t p,.bool true])/\zi w' (fun k=>w.heap.size<=k/\k<w'.heap.size) v (.iface t p))
theorem zcb{s:Bs}{v:JV}(h:ZI s= .inr v)(hb:Z6 s=false):((ze (ct v)).toList ==s.toList)=false:=by
 unfold Z6 at hb;rw[h]at hb;exact hb
theorem Pq(s:Bs)(w:Wo)(hT:qJ w.heap.size w)(hE:Qr w.heap.size w)(hP:Jd w.heap.size w)(hz:s.size<=9223372036854775807):
  Calls prog 53 #[.string s] w (Pp s w):=by
 have f:=zb (zb6 s w hT hE hP hz);have B:=zb hP;clear hT hE hP
 cases hr:ZI s with
 | inl c=>
  obtain⟨c1,c2⟩:=TR hr;have b:Z6 s=false:=by unfold Z6;rw[hr]
  rw[hr]at f;have I:((c:Int) ==0)=false:=by simp;omega
  have J:((c:Int) !=0)=true:=by simp;omega
  have K:¬ (c:Int)=0:=by omega
  have L:¬ c=0:=by omega
  have l:=zb b;clear hr b;go_in;go_wp2_with fail;refine (uh f).mono ?_;rintro e z ⟨g,rfl⟩;clear f;go_wp2;go_ret2;exact⟨g,fun _=>rfl,fun h=>by rw[uh l]at h;cases h⟩
 | inr v=>
  obtain⟨H,y,q,_,_,_⟩:=TQ hr;obtain⟨o,C,D⟩:=FC y;have u:=zb hr;rw[hr]at f;clear hr y;go_in;go_wp2_with fail;refine (uh f).mono ?_;rintro e z ⟨g,t,p,rfl,d⟩;have m:=zb d;have j:=zb (Nt v o q t p z _ d (fun k hk=>hk.2) (((uh B).next g (ye _)).more g.size) (by omega));clear f d o q;have i:=zb g;clear g
  cases b:Z6 s with
  | true=>
   have l:=zb b;obtain⟨M,r,x⟩:=CJ.1 b;rw[uh u]at r;injection r with r;subst r;rw[x]at j;have A:=zb x;clear b x;go_wp2_with fail;refine (uh j).mono ?_;rintro e F ⟨rfl,n⟩;have a:=zb n;clear j n;go_wp2;go_ret2;refine⟨zh (uh i) (uh a),fun h=>(by rw[uh l]at h;cases h),fun _=>⟨v,t,p,uh u,uh A,rfl,?_⟩⟩;exact zi.keep (fun k hk=>(uh a).block k hk.2) (fun k hk=>⟨hk.1,yE hk.2 (uh a).size⟩) _ _ (uh m)
  | false=>
   have l:=zb b;have E:=zcb (uh u) b;generalize ze (ct v)=G at *;clear b;go_wp2_with fail;refine (uh j).mono ?_;rintro e F ⟨rfl,n⟩;have a:=zb n;clear j n;go_wp2;go_ret2;exact⟨zh (uh i) (uh a),fun _=>rfl,fun h=>by rw[uh l]at h;cases h⟩
end Go.Proofs.YtekpghcckdjnhaaGreatDoor
