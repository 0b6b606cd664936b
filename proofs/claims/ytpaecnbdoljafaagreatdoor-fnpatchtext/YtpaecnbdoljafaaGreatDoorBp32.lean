import Derived.Test.YtpaecnbdoljafaaGreatDoorBp31
import Derived.Test.YtpaecnbdoljafaaGreatDoorBp13
set_option maxRecDepth 100000
set_option maxHeartbeats 8000000
namespace Go.Proofs.YtpaecnbdoljafaaGreatDoor
open Go.RowKit Go.Sort Go.Proofs.Tryz
def LB(s:Bs)(w:Wo)(e:Ending)(w':Wo):Prop:=
 Bw w w'/\(Z1 s=false->e= .returned (.tuple #[.nilIface,.bool false])) /\
 (Z1 s=true->∃ (v:JV) (t:TypeId) (p:Value),Zo s= .inr v/\zi (ct v)=s/\e= .returned (.tuple #[.iface t p,.bool true])/\zl w' (fun k=>w.heap.size<=k/\k<w'.heap.size) v (.iface t p))
theorem Aj{s:Bs}{v:JV}(h:Zo s= .inr v)(hb:Z1 s=false):((zi (ct v)).toList ==s.toList)=false:=by
 unfold Z1 at hb;rw[h]at hb;exact hb
theorem Ak(s:Bs)(w:Wo)(hT:qc w.heap.size w)(hE:q8 w.heap.size w)(hP:Qx w.heap.size w)(hz:s.size<=9223372036854775807):
  Calls prog 96 #[.string s] w (LB s w):=by
 have f:=zh (OU s w hT hE hP hz);have z:=zh hP;clear hT hE hP
 cases hr:Zo s with
 | inl c=>
  obtain⟨c1,c2⟩:=OE hr;have b:Z1 s=false:=by unfold Z1;rw[hr]
  rw[hr]at f;have G:((c:Int) ==0)=false:=by simp;omega
  have H:((c:Int) !=0)=true:=by simp;omega
  have I:¬ (c:Int)=0:=by omega
  have J:¬ c=0:=by omega
  have j:=zh b;clear hr b;go_in;go_wp2_with fail;refine (uh f).mono ?_;rintro e x ⟨g,rfl⟩;clear f;go_wp2;go_ret2;exact⟨g,fun _=>rfl,fun h=>by rw[uh j]at h;cases h⟩
 | inr v=>
  obtain⟨F,u,o,_,_,_⟩:=UK hr;obtain⟨n,A,B⟩:=Gw u;have HR:=zh hr;rw[hr]at f;clear hr u;go_in;go_wp2_with fail;refine (uh f).mono ?_;rintro e x ⟨g,t,p,rfl,d⟩;have l:=zh d;have HC:=zh (UD v n o t p x _ d (fun k hk=>hk.2) (((uh z).next g (yd _)).more g.size) (by omega));clear f d n o;have i:=zh g;clear g
  cases b:Z1 s with
  | true=>
   have j:=zh b;obtain⟨K,q,r⟩:=Kk.1 b;rw[uh HR]at q;injection q with q;subst q;rw[r]at HC;have y:=zh r;clear b r;go_wp2_with fail;refine (uh HC).mono ?_;rintro e D ⟨rfl,m⟩;have a:=zh m;clear HC m;go_wp2;go_ret2;refine⟨zj (uh i) (uh a),fun h=>(by rw[uh j]at h;cases h),fun _=>⟨v,t,p,uh HR,uh y,rfl,?_⟩⟩;exact zl.keep (fun k hk=>(uh a).block k hk.2) (fun k hk=>⟨hk.1,yD hk.2 (uh a).size⟩) _ _ (uh l)
  | false=>
   have j:=zh b;have C:=Aj (uh HR) b;generalize zi (ct v)=E at *;clear b;go_wp2_with fail;refine (uh HC).mono ?_;rintro e D ⟨rfl,m⟩;have a:=zh m;clear HC m;go_wp2;go_ret2;exact⟨zj (uh i) (uh a),fun _=>rfl,fun h=>by rw[uh j]at h;cases h⟩
end Go.Proofs.YtpaecnbdoljafaaGreatDoor
namespace Go.Proofs.YtpaecnbdoljafaaGreatDoor
open Go.RowKit Go.Proofs.Tryz
theorem Al{v:JV}(hok:zy v)(htw:zw v=false)(key:List UInt8):((ZA v key).getD []).length<=(ct v).length:=by
 unfold ZA
 cases h:zL v key with
 | none=>exact yr _
 | some u=>
  obtain⟨_,_,a,_⟩:=UL h hok htw;show ((We u).getD []).length<=_
  cases u with
  | str l=>
   have d:=Uu l;have b:ct (.str l)=quoted l:=rfl;rw[b]at a;show l.length<=_
   omega
  | _=>exact yr _
theorem Am{w:Wo}{S:Nat->Prop}{a:JV}{v:Value}(h:zl w S a v):∀ X:Wo,(Instr.typeAssert v 61 171 true).run prog X= .ok (.tuple #[.string (zi ((We a).getD [])),.bool (We a).isSome]) X:=by
 intro X
 cases a with
 | nul=>rw[zl]at h;subst h;kernel_rfl
 | tt=>rw[zl]at h;subst h;kernel_rfl
 | ff=>rw[zl]at h;subst h;kernel_rfl
 | num l=>rw[zl]at h;obtain⟨z,rfl,_⟩:=h;kernel_rfl
 | str l=>rw[zl]at h;subst h;kernel_rfl
 | arr l=>rw[zl]at h;obtain⟨f,j,d,rfl,_⟩:=h;kernel_rfl
 | obj m=>rw[zl]at h;obtain⟨i,b,g,d,rfl,_⟩:=h;kernel_rfl
theorem LC(v:JV)(htw:zw v=false)(t:List UInt8)(ht:t.length<=1048576)(ty:TypeId)(p:Value)(w:Wo)(S:Nat->Prop)(h:zl w S v (.iface ty p)):
  Calls prog 110 #[.iface ty p,.string (zi t)] w fun e w'=>e= .returned (.tuple #[.string (zi ((ZA v t).getD [])),.bool (ZA v t).isSome])/\w=w':=by
 have HC:=zh (LA v htw t ht ty p w S h);clear h htw;have a:Hid (ZA v t=(zL v t).bind We):=rfl;generalize ZA v t=g at *;go_in;go_wp2_with fail;refine (uh HC).mono ?_;rintro e l ⟨rfl,⟨x,rfl,d⟩ |⟨x,u,rfl,f,b⟩⟩
 ·obtain rfl:g=none:=by rw[uh a,d];rfl
  clear HC d;go_wp2;go_ret2;exact⟨rfl,rfl⟩
 ·obtain rfl:g=We u:=by rw[uh a,f];rfl
  have i:=Am b;obtain⟨k,j,rfl⟩:=Gs b;clear HC f b a;go_wp2;go_ret2;exact⟨rfl,rfl⟩
theorem An(v:JV)(hok:zy v)(htw:zw v=false)(hl:(ct v).length<=1000000)(t:List UInt8)(ht:t.length<=1048576)(ty:TypeId)(p:Value)(w:Wo)(S:Nat->Prop)(h:zl w S v (.iface ty p))(hML:ML w):
  Calls prog 112 #[.iface ty p,.string (zi t)] w fun e w'=>e= .returned (.tuple #[.string (zi ((ZA v t).getD [])),.bool ((ZA v t).isSome && (zG ((ZA v t).getD [])).isSome)])/\Bw w w':=by
 have b:=zh (LC v htw t ht ty p w S h);have a:(zi ((ZA v t).getD [])).size<=1048576:=by rw[zS];have:=Al hok htw t;omega
 have d:=zh (zaD (zi ((ZA v t).getD [])) w hML a);rw[Zd]at d;clear h htw hok hl hML a
 cases hsm:ZA v t with
 | none=>
  rw[hsm]at b;clear hsm d;go_in;go_wp2_with fail;refine (uh b).mono ?_;rintro e i ⟨rfl,rfl⟩;clear b;go_wp2;go_ret2;exact⟨rfl,yG _ _⟩
 | some l=>
  rw[hsm]at b d;clear hsm;go_in;go_wp2_with fail;refine (uh b).mono ?_;rintro e i ⟨rfl,rfl⟩;clear b;go_wp2_with fail;refine (uh d).mono ?_;rintro e j ⟨rfl,f⟩;have g:=zh f;clear d f;go_wp2;go_ret2;exact⟨by simp,uh g⟩
theorem Ao(a:JV)(ty:TypeId)(p:Value)(w:Wo)(S:Nat->Prop)(h:zl w S a (.iface ty p))(hn:kd a≠5):
  Calls prog 62 #[.iface ty p] w fun e w'=>e= .returned (.tuple #[.slice none 0 0,.bool false])/\w=w':=by
 have b:=Ed h hn;clear h hn;go_in;go_wp2;go_ret2;exact⟨rfl,rfl⟩
theorem Ap(ab:Nat)(sv:Value)(w:Wo)(hg:w.heap[ab]?=some (.cells #[sv] 105 (0,0))):
  Calls prog 62 #[.iface 102 (.pointer (some ⟨ab,0,none⟩))] w fun e w'=>e= .returned (.tuple #[sv,.bool true])/\w=w':=by
 have a:=Ee ⟨ab,0,none⟩;have b:w.cell? ⟨ab,0,none⟩=some sv:=yE hg 0;clear hg;go_in;go_wp2;go_ret2;exact⟨rfl,rfl⟩
end Go.Proofs.YtpaecnbdoljafaaGreatDoor
