import Derived.Test.YtekpghcckdjnhaaGreatDoorBz19
import Derived.Test.YtekpghcckdjnhaaGreatDoorBz33
import Derived.Test.YtekpghcckdjnhaaGreatDoorBz34
import Derived.Test.YtekpghcckdjnhaaGreatDoorBz35
import Derived.Test.YtekpghcckdjnhaaGreatDoorBz36
set_option maxRecDepth 100000
set_option maxHeartbeats 8000000
namespace Go.Proofs.YtekpghcckdjnhaaGreatDoor
open Go.RowKit Go.Proofs.Tryz
structure Bg where
 ops:List zw
 base:Int
 doc:Bs
 kind:Int
 code:Int
 pos:Int
def QL(no:Int)(a:Bs×Int×Int)(ops:List zw):Bg:=if a.2.1=0 then ⟨ops,no,a.1,1,0,0⟩else ⟨[],0,⟨#[]⟩,5,a.2.1,a.2.2⟩
theorem MG{vs:List zl}(h:q9 vs=true):∃ (k:Nat) (hk:k<vs.length) (r:List zl),vs.length=k+1/\vs.length<=8/\vs.reverse=vs[k] :: r:=by
 obtain⟨b,a,-,-,-⟩:=Wd.1 h;refine⟨vs.length - 1,by omega,(vs.take (vs.length - 1)).reverse,by omega,a,?_⟩;have:vs=vs.take (vs.length - 1)++[vs[vs.length - 1]]:=by
  rw[← yy (by omega),show vs.length - 1+1=vs.length by omega,yU]
 conv=>lhs;rw[this]
 rw[List.reverse_append];rfl
theorem Pw {P:Program} {fn:Func} {p q:Tmp} {t1 t2:TypeId} (h:fn.results=#[.cell p t1,.cell q t2]) {tmps:Array Value} {w:Wo} (w':Wo) {g1 g2:Nat} {cs1 cs2:Array Value} (xs ys:List Value) {d1 d2:TypeDesc}
  (hp:tmps.getD p undef= .pointer (some ⟨g1,0,none⟩)) (hq:tmps.getD q undef= .pointer (some ⟨g2,0,none⟩)) (k1:w.heap[g1]?=some (.cells cs1 t1 (0,0))) (k2:w.heap[g2]?=some (.cells cs2 t2 (0,0))) (hne:g1≠g2) (hw:w'=putN (putN w g1 0 xs) g2 0 ys) (l1:xs.length=cs1.size) (l2:ys.length=cs2.size)
  (hu1:P.underlying t1=some d1) (hd1:(match d1 with | .struct _ | .array _ _=>true | _=>false)=true) (hi1:(P.info? t1).map (·.size)=some xs.toArray.size) (hu2:P.underlying t2=some d2) (hd2:(match d2 with | .struct _ | .array _ _=>true | _=>false)=true) (hi2:(P.info? t2).map (·.size)=some ys.toArray.size):
  (results fn tmps).run P w'= .ok (.tuple #[.agg xs.toArray,.agg ys.toArray]) w':=by
 have a:tmps[p]?.getD undef= .pointer (some ⟨g1,0,none⟩):=by simpa using hp
 have b:tmps[q]?.getD undef= .pointer (some ⟨g2,0,none⟩):=by simpa using hq
 have d:w'.heap[g1]?=some (.cells xs.toArray t1 (0,0)):=by rw[hw,ZO hne,qV k1 xs l1]
 have f:w'.heap[g2]?=some (.cells ys.toArray t2 (0,0)):=by rw[hw];exact qV ((ZO (Ne.symm hne) _ _).trans k2) ys l2
 simp[results,h,a,b,asAddr,run_loadVar_row w' g1 t1 t1 _ (0,0) d1 d hu1 hd1 hi1,run_loadVar_row w' g2 t2 t2 _ (0,0) d2 f hu2 hd2 hi2]
def Zt(g:Nat)(a b c d:Value)(w:Wo):Prop:=w.cell? ⟨g,0,none⟩=some a/\w.cell? ⟨g,1,none⟩=some b/\w.cell? ⟨g,2,none⟩=some c/\w.cell? ⟨g,3,none⟩=some d
theorem Zt.of{g:Nat}{a b c d:Value}{w:Wo}{t:TypeId}(h:w.heap[g]?=some (.cells #[a,b,c,d] t (0,0))):Zt g a b c d w:=⟨yF h 0,yF h 1,yF h 2,yF h 3⟩
theorem Yz(w:Wo)(B:Nat):Z3 w B (.slice none 0 0) []:=World.ownsRow_nil w B 95 4
theorem YS{w:Wo}{B:Nat}{v:Value}{ms:List zw}(h:Z3 w B v ms):∃ a cap,v= .slice a ms.length cap:=by
 obtain⟨a,cap,b,_⟩:=h.orow.1.form;exact⟨a,cap,b⟩
theorem Kx{w:Wo}{B g:Nat}{v:Value}{ms:List zw}(h:Z3 w B v ms)(hg:g<B)(xs:List Value)(o:Nat):Z3 (putN w g o xs) B v ms:=
 GW h (fun b hb=>ZO (fun e=>by have:=(h.lt b (by simpa using hb)).1;omega) xs o)
theorem Ky{w:Wo}{B g:Nat}{v:Value}{ms:List zw}(h:Z3 w B v ms)(hl:∀ b,v.ownBlock=some b->b<g)(xs:List Value)(o:Nat):Z3 (putN w g o xs) B v ms:=
 GW h (fun b hb=>ZO (fun e=>by have:=hl b (by simpa using hb);omega) xs o)
end Go.Proofs.YtekpghcckdjnhaaGreatDoor
namespace Go.Proofs.YtekpghcckdjnhaaGreatDoor
open Go.RowKit Go.Sort Go.Proofs.Tryz
end Go.Proofs.YtekpghcckdjnhaaGreatDoor
namespace Go.Proofs.YtekpghcckdjnhaaGreatDoor
open Go.RowKit Go.Proofs.Tryz
def Zy(s:Bs):List (List UInt8):=(zG s.data.toList).getD []
def GB(k:Int)(pv fv vv:Value):Obj:=.cells #[.string (Ud k),.int .i64 k,.bool (Q5 k),.bool (qS k),.bool (Vz k),.bool (VA k),Y7 k,pv,fv,vv] 208 (0,0)
structure Uw(w:Wo)(B:Nat)(m:zw)(g:Nat)(pv fv vv:Value)(v:JV):Prop where
 blk:w.heap[g]?=some (GB m.kind pv fv vv)
 ge:B<=g
 path:OT w B pv (Zy m.path)
 src:OT w B fv (Zy m.src)
 val:qS m.kind=true->ZI m.val= .inr v/\ze (ct v)=m.val/\∃ t p,vv= .iface t p/\zi w (fun k=>B<=k/\k<w.heap.size) v vv
def MH(m:zw)(w:Wo)(e:Ending)(w':Wo):Prop:=∃ g pv fv vv v,e= .returned (.tuple #[.pointer (some ⟨g,0,none⟩),.bool true])/\Uw w' w.heap.size m g pv fv vv v/\Bw w w'
theorem zcm(k:Int):∃ fid,Y7 k= .func (Fn.func fid) #[] #[]:=by
 unfold Y7
 repeat' split
 all_goals exact⟨_,rfl⟩
def Px(w:Wo)(e:Ending)(w':Wo):Prop:=e= .returned (.tuple #[.pointer none,.bool false])/\Bw w w'
theorem JN{w:Wo}{b i:Nat}{cs:Array Value}{t:TypeId}{f:Nat×Nat}{x:Value}(h:w.heap[b]?=some (.cells cs t f))(hx:cs[i]?=some x):w.cell? ⟨b,i,none⟩=some x:=(yF h i).trans hx
theorem MI(m:zw)(w:Wo)(k1:1<=m.kind)(k6:m.kind<=6)(hw:Qh w)(hz1:m.path.size<=1048576)(hz2:m.src.size<=1048576)(hz3:m.val.size<=1048576):
  Calls prog 110 #[.agg #[.int .i64 m.kind,.string m.path,.string m.src,.string m.val]] w fun e w'=>(Z1 m=true->MH m w e w')/\(Z1 m=false->Px w e w'):=by
 have hA:=zu w (JT m);have kA:=yG w (JT m);have S:(w.alloc (JT m)).heap.size=w.heap.size+1:=by simp
 have L:=zb (AY w.heap.size m (w.alloc (JT m)) kA k1 k6);have HTP:Hid (∀ wx,Bw w wx->Calls prog 131 #[.string m.path] wx fun e w'=>∃ v,e= .returned (.tuple #[v,.bool (zG m.path.data.toList).isSome])/\OT w' wx.heap.size v (Zy m.path)/\Bw wx w'):=fun wx hx=>OG m.path wx (hw.up hx).ml hz1;have M:Hid (∀ wx,Bw w wx->Calls prog 131 #[.string m.src] wx fun e w'=>∃ v,e= .returned (.tuple #[v,.bool (zG m.src.data.toList).isSome])/\OT w' wx.heap.size v (Zy m.src)/\Bw wx w'):=fun wx hx=>OG m.src wx (hw.up hx).ml hz2;have u:Hid (∀ wx,Bw w wx->Calls prog 53 #[.string m.val] wx (Pp m.val wx)):=fun wx hx=>Pq m.val wx (hw.up hx).tab (hw.up hx).err (hw.up hx).pow (by omega);have a:Hid (Z1 m=((zG m.path.data.toList).isSome && (if Q5 m.kind then (zG m.src.data.toList).isSome else m.src.toList ==[]) && (if qS m.kind then Z6 m.val else m.val.toList ==[]))):=by show _=_;unfold Z1;rw[yj k1,yj k6];rfl
 have HSE:Hid (m.src.toList=[]->(zG m.src.data.toList).isSome=true):=fun e=>by rw[ByteArray.toList_eq]at e;rw[e];rfl
 obtain⟨d,A⟩:=zcm m.kind;obtain⟨J,hwb⟩:∃ J,Ud m.kind=J:=⟨_,rfl⟩;obtain⟨H,C⟩:∃ H,Vz m.kind=H:=⟨_,rfl⟩;obtain⟨I,D⟩:∃ I,VA m.kind=I:=⟨_,rfl⟩;obtain⟨g,P⟩:∃ g,Q5 m.kind=g:=⟨_,rfl⟩;obtain⟨f,R⟩:∃ f,qS m.kind=f:=⟨_,rfl⟩;unfold Nd at L;rw[A,hwb,C,D,P,R]at L;rw[P,R]at a;have l:Hid (Y7 m.kind= .func (Fn.func d) #[] #[]/\Ud m.kind=J/\Vz m.kind=H/\VA m.kind=I/\Q5 m.kind=g/\qS m.kind=f):=⟨A,hwb,C,D,P,R⟩;have HA:=zb hA;have HKA:=zb kA;have n:=zb S;generalize (zG m.path.data.toList).isSome=zp at *;generalize (zG m.src.data.toList).isSome=zq at *;obtain⟨U,hok⟩:∃ U,Z1 m=U:=⟨_,rfl⟩;rw[hok]at a ⊢;unfold JT at *;clear A hwb C D P R hA kA S k1 k6 hw hok hz1 hz2 hz3;go_in;go_wp2_with fail;generalize w.alloc _=wA at *;refine (uh L).mono ?_;rintro e w1 ⟨rfl,b1⟩;have hB:=zu w1 (.cells #[.string J,.int .i64 m.kind,.bool g,.bool f,.bool H,.bool I,.func (Fn.func d) #[] #[]] 202);have kB:=yG w1 (.cells #[.string J,.int .i64 m.kind,.bool g,.bool f,.bool H,.bool I,.func (Fn.func d) #[] #[]] 202);have T:(w1.alloc (.cells #[.string J,.int .i64 m.kind,.bool g,.bool f,.bool H,.bool I,.func (Fn.func d) #[] #[]] 202)).heap.size=w1.heap.size+1:=by simp
 have b2:=zh b1 hB;have hz1:=b1.size;have k2:=(b2.block w.heap.size (by have:=uh n;omega)).trans (uh HKA);have c1:=JN (i:=1) k2 rfl;have c2:=JN (i:=2) k2 rfl;have c3:=JN (i:=3) k2 rfl;have HT:=zb (uh HTP _ (zh (uh HA) b2));have K:=zb b2;have HK2:=zb k2;have HKB:=zb kB;have y:=zb hz1;have z:=zb T;have s:Hid (∀ (wx:Wo) (p q:Value),Bw wx (wx.alloc (.cells #[.string J,.int .i64 m.kind,.bool g,.bool f,.bool H,.bool I,.func (Fn.func d) #[] #[],p,q,.nilIface] 208))/\(wx.alloc (.cells #[.string J,.int .i64 m.kind,.bool g,.bool f,.bool H,.bool I,.func (Fn.func d) #[] #[],p,q,.nilIface] 208)).heap[wx.heap.size]?=some (.cells #[.string J,.int .i64 m.kind,.bool g,.bool f,.bool H,.bool I,.func (Fn.func d) #[] #[],p,q,.nilIface] 208 (0,0))/\(wx.alloc (.cells #[.string J,.int .i64 m.kind,.bool g,.bool f,.bool H,.bool I,.func (Fn.func d) #[] #[],p,q,.nilIface] 208)).heap.size=wx.heap.size+1):=fun wx p q=>⟨zu _ _,yG _ _,by simp⟩;clear L b1 hB kB b2 hz1 k2 HKA T HTP;obtain⟨bq,Q⟩:∃ b,b=f:=⟨_,rfl⟩;by_cases B:g=false->m.src.toList=[]
 ·by_cases hvn:f=false->m.val.toList=[]
  ·cases g<;>cases f
   all_goals (
    try have es:=B rfl
    try have ev:=hvn rfl
    clear B hvn;have HBQ:=zb Q;clear Q;go_wp2_with fail;generalize w1.alloc _=w2 at *;generalize w1.heap.size=V0 at *;refine (uh HT).mono ?_;rintro e w3 ⟨pv,rfl,op,b3⟩;obtain⟨pa,pg,pc,rfl,-,-⟩:=op.shape;have T:=uh z;have S:=uh n;have hz1:=uh y;have k3:=(b3.block w.heap.size (by omega)).trans (uh HK2);have d2:=JN (i:=2) k3 rfl;have af:=zh (uh K) b3;have aa:=zb (uh M _ (zh (uh HA) af));have HOP:=zb op;have Y:=zb k3;have r:=zb ((b3.block V0 (by omega)).trans (uh HKB));have N:=zb b3.size;have o:=zb af;clear HT op b3 k3 af HK2 HKB K c1 c2 c3 S T hz1 M;go_wp2_with fail;refine (uh aa).mono ?_;rintro e w4 ⟨fv,rfl,of,b4⟩;obtain⟨fa,fg,fc,rfl,-,-⟩:=of.shape;have O:=zh (uh o) b4;by_cases hpq:zp=true/\zq=true
    ·obtain⟨rfl,rfl⟩:=hpq;have T:=uh z;have S:=uh n;have hz1:=uh y;have hz3:=uh N;have G:=(b4.block V0 (by omega)).trans (uh r);have v0:=JN (i:=0) G rfl;have v1:=JN (i:=1) G rfl;have v2:=JN (i:=2) G rfl;have v3:=JN (i:=3) G rfl;have v4:=JN (i:=4) G rfl;have v5:=JN (i:=5) G rfl;have v6:=JN (i:=6) G rfl;have F:=b4.size;have k4:=(b4.block w.heap.size (by omega)).trans (uh Y);have d3:=JN (i:=3) k4 rfl;obtain⟨hC,kC,zC⟩:=uh s w4 (.slice pa (Zy m.path).length pc) (.slice fa (Zy m.src).length fc);have e3:=JN (i:=3) ((hC.block V0 (yB.1 G).1).trans G) rfl;have f3:=JN (i:=3) ((hC.block w.heap.size (by omega)).trans k4) rfl;have b5:=zh (uh HA) (zh O hC);have HR:=zb (uh u _ b5);have OPX:=zb (ZB (uh HOP) b4);have OFX:=zb of;have X:=zb hC;have V:=zb b5;have Z:=zb kC;have ad:=zb zC;have ab:=zb F;clear aa of b4 O k4 G HOP Y r o d2 S T hz1 hz3 hC kC zC u s b5 F
     cases bq with
     | false=>
      first
      | exact Bool.noConfusion (uh HBQ)
      |(
        have x:Hid (U=true):=by show _=_;rw[uh a];simp[*]
        clear HR;go_wp2;go_ret2;have T:=uh z;have S:=uh n;have hz1:=uh y;have hz3:=uh N;have F:=uh ab;refine⟨fun _=>⟨w4.heap.size,_,_,.nilIface,.nul,rfl,⟨?_,by omega,qT (ZB (uh OPX) (uh X)) (by omega),qT (ZB (uh OFX) (uh X)) (by omega),fun h=>?_⟩,uh V⟩,fun h=>?_⟩
        ·unfold GB;rw[(uh l).1,(uh l).2.1,(uh l).2.2.1,(uh l).2.2.2.1,(uh l).2.2.2.2.1,(uh l).2.2.2.2.2];exact uh Z
        ·rw[(uh l).2.2.2.2.2]at h;cases h
        ·rw[uh x]at h;cases h)
     | true=>
      first
      | exact Bool.noConfusion (uh HBQ)
      |(
        go_wp2_with fail;generalize w4.alloc _=w5 at *;generalize hG:w4.heap.size=j at *;have HGE:=zb hG;clear hG;refine (uh HR).mono ?_;rintro e w6 ⟨b6,hno,E⟩;have zC:=uh ad;have k6:=(b6.block j (by omega)).trans (uh Z);have g9:=JN (i:=9) k6 rfl;have f9:=yI k6 9;have W:=zb b6;have HK6:=zb k6;clear HR b6 k6 zC Z
        cases hg:Z6 m.val with
        | false=>
         obtain rfl:=hno hg;have x:Hid (U=false):=by show _=_;rw[uh a,hg];simp
         clear hno E hg;go_wp2;go_ret2;refine⟨fun h=>?_,fun _=>⟨rfl,?_⟩⟩
         ·rw[uh x]at h;cases h
         ·have T:=uh z;have S:=uh n;have hz1:=uh y;have hz3:=uh N;have F:=uh ab;have zC:=uh ad;exact ((uh V).trans ((uh W).mono (by omega))).setCell (p:=⟨j,9,none⟩) (by show w.heap.size<=j;omega) _
        | true=>
         obtain⟨v,t,p,r1,r2,rfl,rep⟩:=E hg;have x:Hid (U=true):=by show _=_;rw[uh a,hg];simp[*]
         have HR1:=zb r1;have HR2:=zb r2;have HREP:=zb rep;have HK7:=zb (heap_setCell_same w6 j 9 _ _ (.iface t p) (uh HK6));clear hno E hg r1 r2 rep;go_wp2;go_ret2;have T:=uh z;have S:=uh n;have hz1:=uh y;have hz3:=uh N;have F:=uh ab;have zC:=uh ad;have B47:Bw w4 (w6.setCell ⟨j,9,none⟩ (.iface t p)):=by
          have hGE:=uh HGE;exact (((uh X).mono (by omega)).trans ((uh W).mono (by omega))).setCell (p:=⟨j,9,none⟩) (by show w4.heap.size<=j;omega) _
         have z7:(w6.setCell ⟨j,9,none⟩ (.iface t p)).heap.size=w6.heap.size:=by simp[World.setCell]
         refine⟨fun _=>⟨j,_,_,.iface t p,v,rfl,⟨?_,by omega,qT (ZB (uh OPX) B47) (by omega),qT (ZB (uh OFX) B47) (by omega),fun _=>⟨uh HR1,uh HR2,t,p,rfl,?_⟩⟩,((uh V).trans ((uh W).mono (by omega))).setCell (p:=⟨j,9,none⟩) (by show w.heap.size<=j;omega) _⟩,fun h=>?_⟩
         ·unfold GB;rw[(uh l).1,(uh l).2.1,(uh l).2.2.1,(uh l).2.2.2.1,(uh l).2.2.2.2.1,(uh l).2.2.2.2.2];exact uh HK7
         ·exact zi.keep (fun k hk=>Below.heap_setCell w6 ⟨j,9,none⟩ _ k (fun e=>by have:k=j:=e;omega)) (fun k hk=>⟨by omega,by rw[z7];exact hk.2⟩) _ _ (uh HREP)
         ·rw[uh x]at h;cases h)
    ·have x:Hid (U=false):=by
      have hse:=uh HSE;show _=_
      rw[uh a]
      cases zp<;>cases zq<;>simp_all
     have HB4:=zb (zh (uh HA) O);clear aa of b4 O Y r o d2 u s
     cases zp<;>cases zq
     all_goals first
      | exact absurd ⟨rfl,rfl⟩ hpq
      |(
        clear hpq;go_wp2;go_ret2;exact⟨fun h=>(by rw[uh x]at h;cases h),fun _=>⟨rfl,uh HB4⟩⟩))
  ·obtain⟨rfl,hv⟩:f=false/\¬ m.val.toList=[]:=by cases f<;>simp_all
   have hi:m.val.toList.isEmpty=false:=by rw[← Bool.not_eq_true,List.isEmpty_iff];exact hv
   have x:Hid (U=false):=by show _=_;rw[uh a];simp[hv]
   have HB:=zb (zh (uh HA) (uh K));clear hvn hv Q s M u
   cases g
   all_goals (
    try have es:=B rfl
    clear B;go_wp2;go_ret2;exact⟨fun h=>(by rw[uh x]at h;cases h),fun _=>⟨rfl,uh HB⟩⟩)
 ·obtain⟨rfl,hs⟩:g=false/\¬ m.src.toList=[]:=by cases g<;>simp_all
  have x:Hid (U=false):=by show _=_;rw[uh a];simp[hs]
  have HB:=zb (zh (uh HA) (uh K));clear B Q s M u
  cases f
  all_goals (
   go_wp2;go_ret2;exact⟨fun h=>(by rw[uh x]at h;cases h),fun _=>⟨rfl,uh HB⟩⟩)
theorem zcn(m:zw)(w:Wo)(hno:¬ (1<=m.kind/\m.kind<=6)):
  Calls prog 110 #[.agg #[.int .i64 m.kind,.string m.path,.string m.src,.string m.val]] w (Px w):=by
 have f:=zu w (JT m);have g:=yG w (JT m);have j:(w.alloc (JT m)).heap.size=w.heap.size+1:=by simp
 have a:=zb (AZ w.heap.size m (w.alloc (JT m)) g hno);have h:=zb f;unfold JT Yp at *;clear f g j hno;go_in;go_wp2_with fail;generalize (w.alloc (.cells #[.int .i64 m.kind,.string m.path,.string m.src,.string m.val] 95))=k at *;refine (uh a).mono ?_;rintro e i ⟨rfl,d⟩;have b:=zb (zh (uh h) (zh d (zu i (.cells #[.string ⟨#[]⟩,.int .i64 0,.bool false,.bool false,.bool false,.bool false,.nilFunc] 202))));clear a d;go_wp2;go_ret2;exact⟨rfl,uh b⟩
theorem MJ(m:zw)(w:Wo)(h:Z1 m=true)(hw:Qh w)(hz1:m.path.size<=1048576)(hz2:m.src.size<=1048576)(hz3:m.val.size<=1048576):
  Calls prog 110 #[.agg #[.int .i64 m.kind,.string m.path,.string m.src,.string m.val]] w (MH m w):=by
 have a:1<=m.kind/\m.kind<=6:=by unfold Z1 at h;simp only[Bool.and_eq_true,decide_eq_true_eq]at h;exact h.1.1.1
 exact (MI m w a.1 a.2 hw hz1 hz2 hz3).mono fun e w' hr=>hr.1 h
theorem MK(m:zw)(w:Wo)(h:Z1 m=false)(hw:Qh w)(hz1:m.path.size<=1048576)(hz2:m.src.size<=1048576)(hz3:m.val.size<=1048576):
  Calls prog 110 #[.agg #[.int .i64 m.kind,.string m.path,.string m.src,.string m.val]] w (Px w):=by
 by_cases a:1<=m.kind/\m.kind<=6
 ·exact (MI m w a.1 a.2 hw hz1 hz2 hz3).mono fun e w' hr=>hr.2 h
 ·exact zcn m w a
theorem MM{m:zw}(h:Z1 m=true):1<=m.kind/\m.kind<=6/\(zG m.path.data.toList).isSome=true/\(zG m.src.data.toList).isSome=true/\(Q5 m.kind=false->m.src.toList=[])/\(qS m.kind=true->Z6 m.val=true)/\(qS m.kind=false->m.val.toList=[]):=by
 unfold Z1 at h;simp only[Bool.and_eq_true,decide_eq_true_eq]at h;obtain⟨⟨⟨⟨g,i⟩,j⟩,a⟩,b⟩:=h;refine⟨g,i,j,?_,?_,?_,?_⟩
 ·cases d:Q5 m.kind with
  | true=>rw[d]at a;exact a
  | false=>
   rw[d]at a;have e:m.src.toList=[]:=by simpa using a
   rw[ByteArray.toList_eq]at e;rw[e];rfl
 ·intro d;rw[d]at a;simpa using a
 ·intro f;rw[f]at b;exact b
 ·intro f;rw[f]at b;simpa using b
def Yg(t:List UInt8):Bool:=(t !=[] && t.all fun c=>zI c.toNat) || t ==[45]
def Qi(ts:List (List UInt8)):List (List UInt8):=if ts≠[]/\Yg (ts.getLastD [])=true then ts.dropLast else ts
theorem Fg{ts:List (List UInt8)}{t:List UInt8}(h:Yg t=true):Qi (ts++[t])=ts:=by
 unfold Qi;rw[yg ⟨by simp,by simpa using h⟩];simp
theorem Fh{ts:List (List UInt8)}{t:List UInt8}(h:Yg t=false):Qi (ts++[t])=ts++[t]:=by
 unfold Qi;rw[yf (by rintro⟨_,a⟩;simp[h]at a)]
theorem zco(c:UInt8):1<=(QI c).length:=by unfold QI;split<;>(try split)<;>simp
theorem MN:∀ (l:List UInt8),l.length<=(Zq l).length
 | []=>yt _
 | c :: r=>by
  have h1:=zco c;have a:=MN r;simp only[Zq,List.flatMap_cons,yh,yn]at *;omega
theorem MO:∀ (ts:List (List UInt8)),ts.length+Q9 ts<=(ZY ts).length
 | []=>yt _
 | t :: r=>by
  have h1:=MN t;have a:=MO r;simp only[ZY,Q9,List.flatMap_cons,yh,yn,yi,yL]at *;omega
theorem MP(ts:List (List UInt8)):(Qi ts).length+Q9 (Qi ts)<=ts.length+Q9 ts:=by
 rcases List.eq_nil_or_concat ts with rfl |⟨r,t,rfl⟩
 ·exact ye _
 ·rw[List.concat_eq_append]
  cases h:Yg t with
  | true=>rw[Fg h,UX];simp;omega
  | false=>rw[Fh h];exact ye _
theorem Fi{s:Bs}(h:(zG s.data.toList).isSome=true):(Zy s).length+Q9 (Zy s)<=s.size:=by
 obtain⟨f,a⟩:=Option.isSome_iff_exists.1 h;have d:=Sz a;have b:=MO f;rw[← Wf,d,Zn]at b;unfold Zy;rw[a];exact b
def Kz(m:zw):List (List UInt8):=if VA m.kind then Qi (Zy m.path)else Zy m.path
def KA(m:zw):List (List UInt8):=if Vz m.kind then Qi (Zy m.src)else Zy m.src
def YT(m:zw):List (List UInt8):=ZY (Kz m) ::(if Q5 m.kind then [ZY (KA m)]else [])
def QM(m:zw):List (List UInt8):=if Z1 m then YT m else []
def QG(ms:List zw):List (List UInt8):=ms.flatMap QM
def ZF(ms:List zw):List (List UInt8):=if 100<ms.length then []else qC (QG ms)
theorem MQ(m:zw):(QM m).length<=2:=by unfold QM YT;split<;>(try split)<;>simp
theorem KC:∀ (ms:List zw),(QG ms).length<=2*ms.length
 | []=>yt _
 | m :: r=>by
  have h1:=MQ m;have a:=KC r;simp only[QG,List.flatMap_cons,yh,yn]at *;omega
theorem MR{ms:List zw}{k:Nat}(h:k<ms.length):QG (ms.take (k+1))=QG (ms.take k)++QM ms[k]:=by
 unfold QG;rw[yy h,List.flatMap_append,List.flatMap_singleton]
structure ZP where
 ops:List zw
 base:Int
 doc:Bs
 tries:Int
def Jt:ZP:=⟨[],0,⟨#[]⟩,0⟩
structure Jk where
 vs:List zl
 pn:ZP
 kind:Int
 code:Int
 pos:Int
 no:Int
def YA:Jk:=⟨[],Jt,0,0,0,0⟩
def Q1(no:Int)(p:ZP):Bool:=decide (ZT p.ops<0) && decide (0<=p.base) && decide (p.base<=no) && Z6 p.doc && decide (0<=p.tries) && decide (p.tries<=4)
def Zk(ops:List zw):List Bs:=(ZF ops).map zz
def meets(vs:List zl)(tch:List Bs)(base:Int):Bool:=decide (base+1<(vs.head?.map (·.no)).getD 0) || vs.any fun m=>decide (base<m.no) && qD tch m.touched
def QN(vs:List zl):List zl:=vs.drop (vs.length - 8)
def Ww(vs:List zl)(no t:Int)(a:Bs×Int×Int)(ops:List zw):Jk:=if a.2.1=0 then ⟨vs,⟨ops,no,a.1,t⟩,1,0,0,0⟩else ⟨vs,Jt,5,a.2.1,a.2.2,0⟩
def qA(vs:List zl)(m:zl)(p:ZP):Jk:=
 if p.base=m.no then ⟨QN (vs++[⟨m.no+1,p.doc,Zk p.ops⟩]),Jt,2,0,0,m.no+1⟩
 else if 4<p.tries+1 then ⟨vs,Jt,4,0,0,0⟩
 else if meets vs (Zk p.ops) p.base then ⟨vs,Jt,3,0,0,0⟩
 else Ww vs m.no (p.tries+1) (qk m.doc p.ops) p.ops
def Ju(vs:List zl)(p:ZP):Jk:=if q9 vs then (match vs.reverse with | []=>YA | m :: _=>if Q1 m.no p then qA vs m p else YA)else YA
theorem MS{vs:List zl}{p:ZP}(h:q9 vs=false):Ju vs p=YA:=by unfold Ju;rw[h];rfl
theorem MT{vs r:List zl}{m:zl}{p:ZP}(h:q9 vs=true)(hr:vs.reverse=m :: r):Ju vs p=if Q1 m.no p then qA vs m p else YA:=by unfold Ju;rw[yg h,hr]
theorem GC{w:Wo}{B:Nat}{v:Value}{ts:List (List UInt8)}(h:OT w B v ts):qy w v (ts.map zz) v.ownBlock.toList/\∀ g,v.ownBlock=some g->B<=g:=by
 refine⟨Y0.2 ⟨?_,rfl⟩,fun g hg=>(World.ownsRow.lt h g hg).1⟩;have a:=qT h (yt B);rw[yl,List.map_map];exact a
theorem MU{w:Wo}{v:Value}{ms:List zw}{bl:List Nat}(h:zk Zh w v ms bl):Z3 w 0 v ms:=by
 obtain⟨f,k,i,d,rfl⟩:=h;have a:f=ms.map fun m=>(Yr m,[]):=by
  apply List.ext_getElem?;intro j;by_cases b:j<ms.length
  ·obtain⟨a,g⟩:=i j f[j] ms[j] (yx (by omega)) (yx b);rw[yx (by omega),List.getElem?_map,yx b];exact congrArg some (Prod.ext a g)
  ·rw[List.getElem?_eq_none (by omega),List.getElem?_eq_none (by rw[yl];omega)]
 subst a;have e:(ms.map fun m=>((Yr m,[]):List Value×List Nat)).flatMap (·.1)=ms.flatMap Yr:=by rw[List.flatMap_map]
 rw[e]at d;exact d
theorem GD{g:Nat}:∀ (vs:List Value) (o:Nat) (w:Wo),putN w.drew g o vs=(putN w g o vs).drew
 | [],_,_=>rfl
 | a :: r,o,w=>by
  have h:w.drew.setCell ⟨g,o,none⟩ a=(w.setCell ⟨g,o,none⟩ a).drew:=rfl;show putN (w.drew.setCell ⟨g,o,none⟩ a) g (o+1) r=(putN (w.setCell ⟨g,o,none⟩ a) g (o+1) r).drew
  rw[h];exact GD r (o+1) _
def YU(w:Wo)(v:Value)(p:ZP):Prop:=∃ o,v= .agg #[o,.int .i64 p.base,.string p.doc,.int .i64 p.tries]/\Je Va w o p.ops
theorem YU.below{w w':Wo}{v:Value}{p:ZP}(h:YU w v p)(hb:Bw w w'):YU w' v p:=by
 obtain⟨o,b,a⟩:=h;exact⟨o,b,a.below hb⟩
theorem zcp(v:Value)(p:ZP)(L:Nat)(w:Wo)(hr:YU w v p)(hL:L<=1048576)(hd:p.doc.size<=9223372036854775807):
  Calls prog 15 #[v,.int .i64 L] w fun e w'=>e= .returned (.int .i64 (Qa L (Z4 p.ops+p.doc.size)))/\Bw w w':=by
 obtain⟨o,rfl,n⟩:=hr;have i:=zu w (.cells #[o,.int .i64 p.base,.string p.doc,.int .i64 p.tries] 45);have r:=yG w (.cells #[o,.int .i64 p.base,.string p.doc,.int .i64 p.tries] 45);have u:(w.alloc (.cells #[o,.int .i64 p.base,.string p.doc,.int .i64 p.tries] 45)).heap.size=w.heap.size+1:=by simp
 have b:=zb (Ho o p.ops L _ (n.below i) hL);have h:=zb i;have l:=zb r;have m:=zb u;clear n i r u;by_cases q:Z4 p.ops<=L
 ·rw[Vt q]at b;by_cases x:p.doc.size<=L - Z4 p.ops
  ·have f:Hid (Qa L (Z4 p.ops+p.doc.size)=((L - Z4 p.ops:Nat):Int) - (p.doc.size:Int)):=by show _=_;rw[Vt (by omega)];omega
   have k:L - Z4 p.ops<=1048576:=by omega
   generalize L - Z4 p.ops=M at *;have j:¬ ((M:Int) - (p.doc.size:Int)<0):=by omega
   go_in;go_wp2_with fail;generalize w.alloc _=s at *;refine (uh b).mono ?_;rintro e g ⟨rfl,a⟩;have c2:g.cell? ⟨w.heap.size,2,none⟩=some (.string p.doc):=yF ((a.block w.heap.size (by rw[uh m];omega)).trans (uh l)) 2;have d:=zb (zh (uh h) a);clear b a;go_wp2;go_ret;exact⟨by rw[uh f];rfl,uh d⟩
  ·have f:Hid (Qa L (Z4 p.ops+p.doc.size)= -1):=JC (by omega);have k:L - Z4 p.ops<=1048576:=by omega
   generalize L - Z4 p.ops=M at *;have j:(M:Int) - (p.doc.size:Int)<0:=by omega
   go_in;go_wp2_with fail;generalize w.alloc _=s at *;refine (uh b).mono ?_;rintro e g ⟨rfl,a⟩;have c2:g.cell? ⟨w.heap.size,2,none⟩=some (.string p.doc):=yF ((a.block w.heap.size (by rw[uh m];omega)).trans (uh l)) 2;have d:=zb (zh (uh h) a);clear b a;go_wp2;go_ret;exact⟨by rw[uh f];rfl,uh d⟩
 ·rw[JC q]at b;have f:Hid (Qa L (Z4 p.ops+p.doc.size)= -1):=JC (by omega);go_in;go_wp2_with fail;generalize w.alloc _=s at *;refine (uh b).mono ?_;rintro e g ⟨rfl,a⟩;have d:=zb (zh (uh h) a);clear b a;go_wp2;go_ret;exact⟨by rw[uh f];rfl,uh d⟩
theorem zcq(v:Value)(p:ZP)(w:Wo)(hr:YU w v p)(hs:Z4 p.ops<=1048576):
  Calls prog 17 #[v] w fun e w'=>∃ o bl,e= .returned (.agg #[o,.int .i64 p.base,.string p.doc,.int .i64 p.tries])/\zk Zh w' o p.ops bl/\Zj w.heap.size bl/\Bw w w':=by
 obtain⟨o,rfl,l⟩:=hr;have h:=VF w (.cells #[o,.int .i64 p.base,.string p.doc,.int .i64 p.tries] 45) (.cells #[.slice none 0 0,.int .i64 0,.string ⟨#[]⟩,.int .i64 0] 28) (.cells #[.slice none 0 0,.int .i64 0,.string ⟨#[]⟩,.int .i64 0] 28);have k:=zb (Hq o p.ops _ (l.below h.bel) hs);have a:=zb h;clear l h;go_in;go_wp2_with fail;generalize ((w.alloc _).alloc _).alloc _=L at *;refine (uh k).mono ?_;rintro e z ⟨K,bl,rfl,i,m,b⟩;obtain⟨M,N,rfl,-,-⟩:=i.form;have u:=(uh a).size;have n:=(b.block w.heap.size (by omega)).trans (uh a).k0;have d:=(b.block (w.heap.size+1) (by omega)).trans (uh a).k1;have j:=(b.block (w.heap.size+1+1) (by omega)).trans (uh a).k2;obtain⟨c0,c1,c2,c3⟩:=Zt.of n;obtain⟨A,B,C,D⟩:=Zt.of d;obtain⟨E,F,G,H⟩:=Zt.of j;have I:=yI d;have J:=yI j;have q:=zb (zh (uh a).bel b);have s:=zb i;have f:=zb m;have r:=zb d;clear b i m k n d j;go_wp2;refine bodyPost_ret (results_cell_row rfl _ _ (w.heap.size+1) 28 #[_,_,_,_] (0,0) _ rfl (qV (w:=putN z (w.heap.size+1+1) 0 [_,_,_,_]) ((ZO (by omega) _ _).trans (uh r)) [_,_,_,_] rfl) underlying28 rfl (by kernel_rfl)) rfl ?_;have x:=(uh f).not (g:=w.heap.size+1) (by omega);have y:=(uh f).not (g:=w.heap.size+1+1) (by omega);refine⟨_,bl,rfl,((uh s).putN y [_,_,_,_] 0).putN x [_,_,_,_] 0,(uh f).mono (by omega),?_⟩;exact ZL (g:=w.heap.size+1) (ZL (g:=w.heap.size+1+1) (uh q) (by omega) [_,_,_,_] 0) (by omega) [_,_,_,_] 0
theorem Wx{w:Wo}{v:Value}{xs:List zl}{bl:List Nat}(h:zk zT w v xs bl):Qk [57,9] w bl:=Dy (e:=zT) XF h
theorem Wy{w:Wo}{g:Nat}{cur:Array Value}{t:TypeId}{f:Nat×Nat}{bl:List Nat}{ts:List TypeId}(hk:w.heap[g]?=some (.cells cur t f))(ht:Qk ts w bl)(hn:t ∉ ts):g ∉ bl:=fun hm=>by
 obtain⟨b,h,a,d⟩:=ht g hm;rw[hk]at a;injection a with a;injection a with _ a;subst a;exact hn d
theorem zcr(a0 a1 a2:Value)(m:zl)(ib:List Nat)(w:Wo)(h:zT.E w [a0,a1,a2] m ib)(hm:m.touched.length<=2097154):
  Calls prog 65 #[.agg #[a0,a1,a2]] w fun e w'=>∃ b0 b1 b2 jb,e= .returned (.agg #[b0,b1,b2])/\zT.E w' [b0,b1,b2] m jb/\Zj w.heap.size jb/\Bw w w':=by
 obtain⟨q,d,u⟩:=h;injection d with e0 d;subst e0;injection d with e1 d;subst e1;injection d with e2 d;subst e2;clear d;obtain⟨l,n,rfl,-,-⟩:=u.form;have o:=VF w (.cells #[.int .i64 m.no,.string m.doc,.slice l m.touched.length n] 57) (.cells #[.int .i64 0,.string ⟨#[]⟩,.slice none 0 0] 57) (.cells #[] 9);have C:(((w.alloc (.cells #[.int .i64 m.no,.string m.doc,.slice l m.touched.length n] 57)).alloc (.cells #[.int .i64 0,.string ⟨#[]⟩,.slice none 0 0] 57)).alloc (.cells #[] 9)).ownsRow (w.heap.size+1+1) 9 1 (.slice (some ⟨w.heap.size+1+1,0,none⟩) 0 0) 0 []:=by
  have:=Dz ((w.alloc (.cells #[.int .i64 m.no,.string m.doc,.slice l m.touched.length n] 57)).alloc (.cells #[.int .i64 0,.string ⟨#[]⟩,.slice none 0 0] 57)) 9 1;simpa using this
 have c2:(((w.alloc (.cells #[.int .i64 m.no,.string m.doc,.slice l m.touched.length n] 57)).alloc (.cells #[.int .i64 0,.string ⟨#[]⟩,.slice none 0 0] 57)).alloc (.cells #[] 9)).cell? ⟨w.heap.size,2,none⟩=some (.slice l m.touched.length n):=yF o.k0 2;have B:=zb (u.below o.bel);have A:=zb C;have f:=zb o;clear u o C;go_in;go_wp2_with (at_builtin;refine AN rfl (.tmp 5) (.tmp 7) rfl (ss:=[]) rfl rfl (uh A) (uh B) (by have:=(uh f).size;omega) (by simp;omega) ?_);intro H w' x p;have G:=(uh f).size;obtain⟨I,J,rfl⟩:∃ a c,H= .slice a m.touched.length c:=by
  rcases x.2 with ⟨y,v⟩ |⟨g,E,F,y,_⟩
  ·exact⟨_,_,by rw[y,show m.touched.length=0 by simpa using v]⟩
  ·exact⟨_,_,by simpa using y⟩
 have j:Bw w w':=(uh f).bel.grown p (uh f).bel.size (fun k hk=>by injection hk with hk;simp at hk;omega);have z:=(p.block w.heap.size (by omega) (fun e=>by injection e with e;simp at e<;>omega)).trans (uh f).k0;have i:=(p.block (w.heap.size+1) (by omega) (fun e=>by injection e with e;simp at e<;>omega)).trans (uh f).k1;have K:w'.cell? ⟨w.heap.size,0,none⟩=some (.int .i64 m.no):=yF z 0;have L:w'.cell? ⟨w.heap.size,1,none⟩=some (.string m.doc):=yF z 1;have M:w'.cell? ⟨w.heap.size+1,0,none⟩=some (.int .i64 0):=yF i 0;have N:w'.cell? ⟨w.heap.size+1,1,none⟩=some (.string ⟨#[]⟩):=yF i 1;have O:w'.cell? ⟨w.heap.size+1,2,none⟩=some (.slice none 0 0):=yF i 2;have fr:=yI i;have s:=zb (AO (ss:=m.touched) (by simpa using x));have D:=zb j;have r:=zb i;clear x p j z i A B c2;go_wp2;refine bodyPost_ret (results_cell_row rfl _ _ (w.heap.size+1) 57 #[_,_,_] (0,0) _ rfl (qV (uh r) [_,_,_] rfl) underlying57 rfl (by kernel_rfl)) rfl ?_;have v:∀ b∈(Value.slice I m.touched.length J).ownBlock.toList,w.heap.size+1+1<=b:=fun b hb=>(uh s).2.2 b hb;refine⟨_,_,_,_,rfl,⟨_,rfl,(uh s).1.putN (fun hm=>by have:=v _ hm;omega) [_,_,_] 0⟩,(uh s).2.mono (by omega),ZL (uh D) (by omega) [_,_,_] 0⟩
structure CV(w:Wo)(A B:Obj)(wr:Wo)(p:Value)(ws:List zl)(b1:List Nat):Prop where
 bel:Bw w wr
 k0:wr.heap[w.heap.size]?=some A
 k1:wr.heap[w.heap.size+1]?=some B
 ko:wr.heap[w.heap.size+1+1+1]?=some (.cells #[p] 35 (0,0))
 o1:zk zT wr p ws b1
 fs:Zj (w.heap.size+1+1) b1
section
variable {w:Wo} {A B:Obj} {wr w3:Wo} {p p':Value} {ws:List zl} {b1 b1':List Nat}
theorem CV.below(h:CV w A B wr p ws b1)(hb:Bw wr w3):CV w A B w3 p ws b1:=by
 have b:=h.bel.size;have a:=(yB.1 h.ko).1;exact⟨zh h.bel hb,(hb.block _ (by omega)).trans h.k0,(hb.block _ (by omega)).trans h.k1,(hb.block _ a).trans h.ko,h.o1.below hb,h.fs⟩
theorem CV.koW(h:CV w A B wr p ws b1)(hg:wr.grownBy w3 p.ownBlock):w3.heap[w.heap.size+1+1+1]?=some (.cells #[p] 35 (0,0)):=
 (hg.block _ (yB.1 h.ko).1 fun e=>Wy h.ko (Wx h.o1) (by decide) (h.o1.head e.symm)).trans h.ko
theorem CV.snoc(h:CV w A B wr p ws b1)(hg:wr.grownBy w3 p.ownBlock){x:zl}(ho:zk zT w3 p' (ws++[x]) b1')(hF:Zj (w.heap.size+1+1) b1'):
  CV w A B (w3.setCell ⟨w.heap.size+1+1+1,0,none⟩ p') p' (ws++[x]) b1':=by
 have i:=(yB.1 h.ko).1;have b:∀ g,p.ownBlock=some g->g∈b1:=fun g hg=>h.o1.head hg;have a:∀ g,p.ownBlock=some g->w.heap.size+1+1<=g:=fun g hg=>h.fs.2 g (b g hg);have d:=h.koW hg;have f:=Wy d (Wx ho) (by decide);have j:=h.bel.size;refine⟨(h.bel.grown hg j fun k hk=>by have:=a k hk;omega).setCell (p:=⟨w.heap.size+1+1+1,0,none⟩) (by simp;omega) _,?_,?_,heap_setCell_same _ _ 0 _ _ _ d,ho.other f 0 p',hF⟩
 ·exact (Below.heap_setCell _ _ _ _ (by simp;omega)).trans ((hg.block _ (by omega) fun e=>by have:=a _ e.symm;omega).trans h.k0)
 ·exact (Below.heap_setCell _ _ _ _ (by simp)).trans ((hg.block _ (by omega) fun e=>by have:=a _ e.symm;omega).trans h.k1)
end
structure zcs(w:Wo)(a b c d:Obj)(w':Wo):Prop where
 bel:Bw w w'
 size:w'.heap.size=w.heap.size+1+1+1+1
 k0:w'.heap[w.heap.size]?=some a
 k1:w'.heap[w.heap.size+1]?=some b
 k2:w'.heap[w.heap.size+1+1]?=some c
 k3:w'.heap[w.heap.size+1+1+1]?=some d
theorem zct(w:Wo)(a b c d:Obj):zcs w a b c d ((((w.alloc a).alloc b).alloc c).alloc d):=by
 have h:=VF w a b c;generalize ((w.alloc a).alloc b).alloc c=j at *;have g:=h.size;have i:=yG j d;have f:=zu j d;rw[g]at i;exact⟨zh h.bel f,by simp[g],(f.block _ (by omega)).trans h.k0,(f.block _ (by omega)).trans h.k1,(f.block _ (by omega)).trans h.k2,i⟩
theorem MV(p:Value)(vs:List zl)(d:Nat)(bl:List Nat)(w:Wo)(h:zk zT w p vs bl)(hs:vs.length<=2097152/\∀ m∈vs,m.touched.length<=2097152)(hd:d<=vs.length):
  Calls prog 36 #[.agg #[p],.int .i64 d] w fun e w'=>∃ p' bl',e= .returned (.agg #[p'])/\zk zT w' p' (vs.drop d) bl'/\Zj w.heap.size bl'/\Bw w w':=by
 obtain⟨V,W,rfl,-,P⟩:=h.form;have hl:=hs.1;have HZ:Hid (∀ k (hk:k<vs.length),vs[k].touched.length<=2097152):=fun k hk=>hs.2 _ (yr hk);have O1:=zb h;have Y:=zb P;clear h P hs;go_in;go_wp2;have F:=zct w (.cells #[.slice V vs.length W] 35) (.cells #[.slice none 0 0] 35) (.cells #[] 57) (.cells #[.slice (some ⟨w.heap.size+1+1,0,none⟩) 0 0] 35);generalize (((w.alloc _).alloc _).alloc _).alloc _=wA at *;have I:Hid (CV w (.cells #[.slice V vs.length W] 35 (0,0)) (.cells #[.slice none 0 0] 35 (0,0)) wA (.slice (some ⟨w.heap.size+1+1,0,none⟩) 0 0) [] [w.heap.size+1+1]):=
  ⟨F.bel,F.k0,F.k1,F.k3,⟨[],rfl,fun _ _ _ h=>by simp at h,⟨by simp,.inr ⟨w.heap.size+1+1,0,#[],rfl,yt _,F.k2,yt _,yt _,by simp,by simp⟩⟩,rfl⟩,by simp,fun b hb=>by simp at hb;omega⟩
 clear F;go_loopw [6] (fun i wr=>∃ k:Nat,d<=k/\k<=vs.length/\i= .int .i64 (k:Int)/\∃ p R,CV w (.cells #[.slice V vs.length W] 35 (0,0)) (.cells #[.slice none 0 0] 35 (0,0)) wr p ((vs.drop d).take (k - d)) R) (fun i _=>vs.length - (intOf i).toNat)
 case atStart=>exact⟨d,ye _,hd,rfl,_,_,by rw[Nat.sub_self];exact uh I⟩
 case round=>
  obtain⟨k,hdk,hk,rfl,p,R,a⟩:=hrel;clear I;have c00:wr.cell? ⟨w.heap.size,0,none⟩=some (.slice V vs.length W):=yF a.k0 0;by_cases B:k<vs.length
  ·have O:(vs.drop d).take (k+1 - d)=(vs.drop d).take (k - d)++[vs[k]]:=by
    rw[show k+1 - d=k - d+1 from by omega,List.take_add_one,List.getElem?_drop,show d+(k - d)=k from by omega,yx B];rfl
   have hll:((vs.drop d).take (k - d)).length=k - d:=by rw[ym,yu];omega
   have X:=zb O;obtain⟨pa,pc,rfl,-,-⟩:=a.o1.form;generalize (vs.drop d).take (k - d)=Q at *;have hll':Q.length<=2097152:=by omega
   have N:=a.bel;have v:wr.cell? ⟨w.heap.size+1+1+1,0,none⟩=some (.slice pa Q.length pc):=yF a.ko 0;have fO:=yI a.ko;obtain⟨g,rfl⟩:=uh Y (by omega);obtain⟨U,jb,S,T,-,-,-⟩:=((uh O1).below N).at (yx B);obtain⟨a0,a1,a2,rfl⟩:∃ a0 a1 a2,U=[a0,a1,a2]:=by obtain⟨q,hq,_⟩:=S;exact⟨_,_,_,hq⟩
   have c0:wr.cell? ⟨g,k*3,none⟩=_:=(T 0 _ rfl).1;have c1:wr.cell? ⟨g,k*3+1,none⟩=_:=(T 1 _ rfl).1;have c2:wr.cell? ⟨g,k*3+2,none⟩=_:=(T 2 _ rfl).1;have z:Bw wr wr.drew:=(yH _ _).drew;have HM:=zb (zcr a0 a1 a2 vs[k] jb wr.drew (zT.keep S (.of_below z (zT.lt S))) (by have:=uh HZ k B;omega));have o:=zb (a.below z);have hltI:(k:Int)<(vs.length:Int):=by omega
   clear T S N O z a hll;generalize vs[k]=m at *;go_wp2;go_region_law (first
    |(
      refine Na (e:=zT) XF (by decide) underlying33 Nc rfl (by decide) (by decide) rfl (.tmp 18) (.tmp 25) rfl rfl (uh O3) (uh J) (uh E3) (uh K) (uh H) rfl (by exact Nb G [_,_,_] _) (uh s) (by have:=(uh l).bel.size;have hq:=(yB.1 (uh l).ko).1;omega) (by omega) ?_;intro v' w3 bl' o4 f4 m4 A;obtain⟨va,vc,rfl,-,-⟩:=o4.form;have D:=(uh l).koW A;have cO3:w3.cell? ⟨w.heap.size+1+1+1,0,none⟩=some (.slice pa Q.length pc):=yF D 0;have fO3:=yI D)
    |(
      go_simp;refine (uh HM).mono ?_;rintro e G ⟨b0,b1',b2',ib,rfl,r,x,L⟩;have hE0:=r;obtain⟨q0,f,M⟩:=hE0;injection f with e0 f;injection f with e1 f;injection f with e2 f;subst e0;subst e1;subst e2;obtain⟨za,zc,rfl,-,-⟩:=M.form;have n:=(uh o).below L;have y:Bw G (G.alloc (.cells #[.int .i64 m.no,.string m.doc,.slice za m.touched.length zc] 57)):=zu _ _;have j:=n.below y;have O3:=zb j.o1;have J:=zb j.fs;have E3:=zb (zT.keep r (.of_below y (zT.lt r)));have hcw:w.heap.size+1+1+1<wr.heap.size:=(yB.1 (uh o).ko).1;have K:=zb (x.mono (B':=w.heap.size+1+1) (by show _<=wr.heap.size;omega));have H:Hid (∀ b∈ib,b ∉ R):=fun b hb hbl=>by have h1:wr.heap.size<=b:=x.2 b hb;have h2:b<wr.heap.size:=(uh o).o1.lt b hbl;omega
      have s:Hid (∀ u∈[Value.int .i64 m.no,.string m.doc,.slice za m.touched.length zc],u.oneCell'=true):=fun u hu=>by simp at hu;rcases hu with rfl | rfl | rfl<;>rfl
      have l:=zb j;have cO2:G.cell? ⟨w.heap.size+1+1+1,0,none⟩=some (.slice pa Q.length pc):=yF n.ko 0;have cO4:(G.alloc (.cells #[.int .i64 m.no,.string m.doc,.slice za m.touched.length zc] 57)).cell? ⟨w.heap.size+1+1+1,0,none⟩=some (.slice pa Q.length pc):=yF j.ko 0))
   all_goals (
    have HN:=zb ((uh l).snoc A o4 f4);rw[yh,yR,← uh X]at HN;clear o4 f4 m4 A D cO3 fO3 cO2 cO4 l s H K E3 J O3 hcw j y n M f r x L HM o v fO c0 c1 c2;go_wp2;go_roundw)
   all_goals first
    | exact⟨k+1,by omega,by omega,by go_num,_,_,uh HN⟩
    |(simp[intOf];omega)
  ·obtain rfl:k=vs.length:=by omega
   have e:(vs.drop d).take (vs.length - d)=vs.drop d:=yq (by rw[yu];omega);rw[e]at a;obtain⟨pa,pc,rfl,-,-⟩:=a.o1.form;have v:wr.cell? ⟨w.heap.size+1+1+1,0,none⟩=some (.slice pa (vs.drop d).length pc):=yF a.ko 0;have r0:wr.cell? ⟨w.heap.size+1,0,none⟩=some (.slice none 0 0):=yF a.k1 0;have fr:=yI a.k1;have E:=zb a;obtain⟨U,C⟩:∃ U,vs.drop d=U:=⟨_,rfl⟩;rw[C]at E v;have Z:=zb C;clear a e C;go_wp2;refine bodyPost_ret (results_cell_row rfl _ _ (w.heap.size+1) 35 #[_] (0,0) _ rfl (qV (uh E).k1 [_] rfl) underlying35 rfl (by kernel_rfl)) rfl ?_;rw[uh Z];exact⟨_,R,rfl,(uh E).o1.putN (g:=w.heap.size+1) (fun hm=>by have:=(uh E).fs.2 _ hm;omega) [_] 0,(uh E).fs.mono (by omega),ZL (g:=w.heap.size+1) (uh E).bel (by omega) [_] 0⟩
theorem Py(p:Value)(vs:List zl)(bl:List Nat)(k:Nat)(w:Wo)(h:zk zT w p vs bl)(hk:k<vs.length)(hl:vs.length=k+1)(h8:vs.length<=8):
  ∃ ta tc,∀ wx,Bw w wx->Calls prog 23 #[.agg #[p]] wx fun e w'=>e= .returned (.agg #[.int .i64 vs[k].no,.string vs[k].doc,.slice ta vs[k].touched.length tc])/\Bw wx w':=by
 obtain⟨v,f,rfl,-,i⟩:=h.form;obtain⟨g,rfl⟩:=i (by omega);obtain⟨u,s,n,b,-⟩:=h.at (yx hk);obtain⟨q,rfl,l⟩:=n;have a:g<w.heap.size:=yJ _ _ (b 0 _ rfl).1;obtain⟨ta,tc,rfl,-,-⟩:=l.form;refine⟨ta,tc,fun wx hx=>?_⟩;have j:=Y8 wx (.cells #[.slice (some ⟨g,0,none⟩) vs.length f] 35) (.cells #[.int .i64 0,.string ⟨#[]⟩,.slice none 0 0] 57);have d:=zh hx j.bel;have c0:((wx.alloc (.cells #[.slice (some ⟨g,0,none⟩) vs.length f] 35)).alloc (.cells #[.int .i64 0,.string ⟨#[]⟩,.slice none 0 0] 57)).cell? ⟨g,k*3,none⟩=some (.int .i64 vs[k].no):=(d.cell (p:=⟨g,k*3,none⟩) a).trans (b 0 _ rfl).1;have c1:((wx.alloc (.cells #[.slice (some ⟨g,0,none⟩) vs.length f] 35)).alloc (.cells #[.int .i64 0,.string ⟨#[]⟩,.slice none 0 0] 57)).cell? ⟨g,k*3+1,none⟩=some (.string vs[k].doc):=(d.cell (p:=⟨g,k*3+1,none⟩) a).trans (b 1 _ rfl).1;have c2:((wx.alloc (.cells #[.slice (some ⟨g,0,none⟩) vs.length f] 35)).alloc (.cells #[.int .i64 0,.string ⟨#[]⟩,.slice none 0 0] 57)).cell? ⟨g,k*3+2,none⟩=some (.slice ta vs[k].touched.length tc):=(d.cell (p:=⟨g,k*3+2,none⟩) a).trans (b 2 _ rfl).1;have o:(k:Int)<8:=by omega
 generalize vs[k]=m at *;rw[hl]at *;have r:((k+1:Nat):Int) - 1=(k:Int):=by omega
 clear h b l j hl h8 hk d hx;go_in;go_wp2;go_returns;exact⟨rfl,zh (zu wx _) (zu _ _)⟩
theorem MW(ts:List (List UInt8)):(ZY (Qi ts)).length<=(ZY ts).length:=by
 rcases List.eq_nil_or_concat ts with rfl |⟨r,t,rfl⟩
 ·exact ye _
 ·rw[List.concat_eq_append]
  cases h:Yg t with
  | true=>rw[Fg h];simp[ZY]
  | false=>rw[Fh h];exact ye _
theorem MX{s:Bs}(h:(zG s.data.toList).isSome=true):(ZY (Zy s)).length=s.size:=by
 obtain⟨d,a⟩:=Option.isSome_iff_exists.1 h;have b:=Sz a;rw[Wf]at b;unfold Zy;rw[a];show (ZY d).length=_
 rw[b,Zn]
theorem zcu{m:zw}(h1:m.path.size<=1048576)(h2:m.src.size<=1048576){t:List UInt8}(ht:t∈QM m):t.length<=1048576:=by
 unfold QM at ht;split at ht
 ·rename_i ho;simp only[Z1,Bool.and_eq_true]at ho;have b:=MX ho.1.1.2;have d:=MW (Zy m.path);simp only[YT,List.mem_cons]at ht;rcases ht with rfl | ht
  ·unfold Kz;split<;>omega
  ·split at ht
   ·rename_i hf;have a:=ho.1.2;rw[yg hf]at a;have b:=MX a;have d:=MW (Zy m.src);rw[List.mem_singleton]at ht;subst ht;unfold KA;split<;>omega
   ·simp at ht
 ·simp at ht
theorem Pz{ops:List zw}(h:VY ops):Vx (Zk ops):=by
 unfold Zk ZF;split
 ·exact⟨by simp,fun s hs=>by simp at hs⟩
 ·rename_i hl;have d:=FJ _ (QG ops) rfl;have f:=KC ops;refine⟨by rw[yl];omega,fun s hs=>?_⟩;obtain⟨t,a,rfl⟩:=yO.1 hs;obtain⟨m,b,a⟩:=List.mem_flatMap.1 (Rg.1 a);have:=zcu (h m b).1 (h m b).2.1 a;show t.toArray.size<=_
  simpa using this
theorem Ux{vs:List zl}(hs:ZG vs<=1048576){m:zl}(hm:m∈vs):Vx m.touched:=by
 obtain⟨k,a,rfl⟩:=List.getElem_of_mem hm;have:=Xu hs k a;exact⟨this.2.2,this.2.1⟩
theorem zcv {w:Wo} {ops:Array Oper} {rest:List Oper} {o:Oper} {a:Act} {Q:Exit->Act->Wo->Prop} (hg:o.guard=none) (s x:Operand)
  (ho:o.op= .call {callee:=.builtin .append,args:=#[s,x],argTypes:=#[26,26]}) {v v0:Value} {ms:List zw} {bl:List Nat} {B:Nat} (hs:a.eval s=v0) (h0:Z3 w B v0 []) (hx:a.eval x=v) (h:zk Zh w v ms bl) (hl:ms.length<=40000000) (hB:B<=w.heap.size)
  (hK:∀ v' w',Z3 w' B v' ms->w.grownBy w' v0.ownBlock->wpList prog ops Q rest (a.put o.dst v') w'):wpList prog ops Q (o :: rest) a w:=by
 obtain⟨r,q,l,n,p⟩:=info_parts Nn;have b:=MU h;rcases b.2 with ⟨f,C⟩ |⟨g,i,y,f,_⟩
 ·have e:ms=[]:=List.length_eq_zero_iff.1 C;subst e;exact wpList_append_own_none hg s x _ ho B _ r 4 underlying26 q _ _ _ hs h0 (hx.trans f) (hK v0 w h0 (World.grownBy.refl _ _))
 ·have k:v.ownBlock=some g:=by rw[f];rfl
  refine wpList_append_own _ hg s x _ ho B _ r _ 4 56 underlying26 q l n p rfl (by decide) v0 0 [] hs h0 ⟨g,0,none⟩ ms.length i (ms.flatMap Yr) (hx.trans f) b.1 (fun j u d=>b.cells k j u d) ?_ (by unfold maxLen;omega) (by omega) hB ?_
  ·intro u d;obtain⟨m,-,d⟩:=List.mem_flatMap.1 d;simp only[Yr,List.mem_cons,List.not_mem_nil,or_false]at d;rcases d with rfl | rfl | rfl | rfl<;>rfl
  ·intro v' w' z A _;exact hK v' w' (by simpa [Z3]using z) A
theorem MY{M:Nat}:∀ {ss:List Bs},(∀ s∈ss,s.size<=M)->qh ss<=ss.length*M
 | [],_=>yt _
 | s :: r,h=>by
  have h1:=MY (M:=M) (ss:=r) fun x hx=>h x (yv _ hx);have a:=h s yp;simp only[qh,yi,yL,yn,Nat.add_mul]at *;omega
theorem MZ(ops:List zw):(Zk ops).length<=200:=by
 unfold Zk ZF;rw[yl];split
 ·simp
 ·have a:=FJ _ (QG ops) rfl;have b:=KC ops;omega
theorem zcw(l:List Nat)(n:Nat):(l.drop n).sum<=l.sum:=by
 have h:=congrArg List.sum (List.take_append_drop n l);rw[List.sum_append]at h;omega
theorem zcx(vs:List zl)(m:zl)(p:ZP):((qA vs m p).vs=vs∨(qA vs m p).vs=QN (vs++[⟨m.no+1,p.doc,Zk p.ops⟩]))/\((qA vs m p).pn.ops=p.ops∨(qA vs m p).pn.ops=[]):=by
 unfold qA;split
 ·exact⟨.inr rfl,.inr rfl⟩
 ·split
  ·exact⟨.inl rfl,.inr rfl⟩
  ·split
   ·exact⟨.inl rfl,.inr rfl⟩
   ·unfold Ww;split
    ·exact⟨.inl rfl,.inl rfl⟩
    ·exact⟨.inl rfl,.inr rfl⟩
structure KE(a:Jk):Prop where
 len:a.vs.length<=9
 tch:∀ m∈a.vs,m.touched.length<=1048576
 sz:ZG a.vs<=268435456
 ops:a.pn.ops.length<=1048576
theorem M0{vs:List zl}{m:zl}{p:ZP}(h8:vs.length<=8)(hs:ZG vs<=1048576)(hin:VY p.ops)(hd:p.doc.size<=1048576)(hz:p.ops.length<=1048576):KE (qA vs m p):=by
 obtain⟨b,d⟩:=zcx vs m p;have a:(qA vs m p).pn.ops.length<=1048576:=by rcases d with h | h<;>rw[h]<;>simp[hz]
 rcases b with h | h
 ·exact⟨by rw[h];omega,fun x hx=>(Ux hs (by rw[h]at hx;exact hx)).1,by rw[h];omega,a⟩
 ·have j:=MZ p.ops;have k:=MY (Pz hin).2;have l:(Zk p.ops).length*1048576<=200*1048576:=Nat.mul_le_mul_right _ j;have f:ZZ ⟨m.no+1,p.doc,Zk p.ops⟩=p.doc.size+((Zk p.ops).length+qh (Zk p.ops)):=rfl;have g:=zcw ((vs++[⟨m.no+1,p.doc,Zk p.ops⟩]:List zl).map ZZ) ((vs++[⟨m.no+1,p.doc,Zk p.ops⟩]:List zl).length - 8);have i:((vs++[⟨m.no+1,p.doc,Zk p.ops⟩]:List zl).map ZZ).sum=(vs.map ZZ).sum+ZZ ⟨m.no+1,p.doc,Zk p.ops⟩:=by rw[yw,List.sum_append,List.map_singleton,List.sum_singleton]
  rw[i,f]at g;refine⟨?_,fun x hx=>?_,?_,a⟩
  ·rw[h];simp only[QN,yu,yh,yR];omega
  ·rw[h]at hx;rcases List.mem_append.1 (List.mem_of_mem_drop hx)with hx | hx
   ·exact (Ux hs hx).1
   ·rw[List.mem_singleton]at hx;subst hx;simp only;omega
  ·rw[h];unfold ZG at *;unfold QN;rw[List.map_drop];simp only[yu,yh,yR]at *;omega
theorem zcy{vs:List zl}{p:ZP}(hs:ZG vs<=1048576)(hin:VY p.ops)(hd:p.doc.size<=1048576)(hz:p.ops.length<=1048576):KE (Ju vs p):=by
 have a:KE YA:=⟨yt _,fun m hm=>(by cases hm),by decide,yt _⟩;unfold Ju;split
 ·rename_i hok;split
  ·exact a
  ·split
   ·exact M0 (Wd.1 hok).2.1 hs hin hd hz
   ·exact a
 ·exact a
theorem KE.cnt{a:Jk}(h:KE a):Zs ZE a.vs<=1000000000:=by
 have b:∀ l:List zl,(l.map ZE).sum<=2*l.length+(l.map ZZ).sum:=fun l=>by
  induction l with
  | nil=>simp
  | cons m r ih=>
   have:ZE m<=ZZ m+2:=by unfold ZE ZZ YF;omega
   simp only[yi,yL,yn];omega
 have f:=b a.vs;have d:=h.sz;unfold ZG at d;unfold Zs;omega
theorem M2{vs:List zl}(h:q9 vs=true):∃ z:Int,0<vs.length/\(∀ j (hj:j<vs.length),vs[j].no=z+j)/\0<=z/\z<=1000000:=by
 obtain⟨d,-,a,b,f⟩:=Wd.1 h;refine⟨vs[0].no,d,fun j hj=>?_,a,b⟩;have:=f j hj;simp only[qN,Bool.and_eq_true,yC]at this;exact this.1.1
theorem zcz{vs:List zl}{m:zl}{p:ZP}(h:p.base=m.no):qA vs m p=⟨QN (vs++[⟨m.no+1,p.doc,Zk p.ops⟩]),Jt,2,0,0,m.no+1⟩:=by unfold qA;rw[yg h]
theorem zcA{vs:List zl}{m:zl}{p:ZP}(h:¬ p.base=m.no)(h4:4<p.tries+1):qA vs m p=⟨vs,Jt,4,0,0,0⟩:=by unfold qA;rw[yf h,yg h4]
theorem zcB{vs:List zl}{m:zl}{p:ZP}(h:¬ p.base=m.no)(h4:¬ 4<p.tries+1)(hm:meets vs (Zk p.ops) p.base=true):qA vs m p=⟨vs,Jt,3,0,0,0⟩:=by unfold qA;rw[yf h,yf h4,yg hm]
theorem zcC{vs:List zl}{m:zl}{p:ZP}(h:¬ p.base=m.no)(h4:¬ 4<p.tries+1)(hm:meets vs (Zk p.ops) p.base=false):qA vs m p=Ww vs m.no (p.tries+1) (qk m.doc p.ops) p.ops:=by unfold qA;rw[yf h,yf h4,yf (by rw[hm];simp)]
theorem Qw{b g:Nat}(h:¬ b=g)(w:Wo)(i j:Nat)(v:Value):(w.setCell ⟨b,i,none⟩ v).cell? ⟨g,j,none⟩=w.cell? ⟨g,j,none⟩:=by
 have:=Below.heap_setCell w ⟨b,i,none⟩ v g (fun e=>h e.symm);unfold World.cell?;rw[this]
def Uy(a:Jk)(w:Wo)(e:Ending)(w':Wo):Prop:=∃ v vo bl,e= .returned (.tuple #[.agg #[v],.agg #[vo,.int .i64 a.pn.base,.string a.pn.doc,.int .i64 a.pn.tries],.agg #[.int .i64 a.kind,.int .i64 a.code,.int .i64 a.pos,.int .i64 a.no]])/\zk zT w' v a.vs bl/\Zj w.heap.size bl/\Z3 w' w.heap.size vo a.pn.ops/\Bw w w'
structure AW(b:Nat)(s o:Value)(p:ZP)(w:Wo):Prop where
 k0:w.heap[b]?=some (.cells #[s] 35 (0,0))
 k1:w.heap[b+1]?=some (.cells #[o,.int .i64 p.base,.string p.doc,.int .i64 p.tries] 28 (0,0))
 k2:w.heap[b+1+1]?=some (.cells #[.slice none 0 0] 35 (0,0))
 k3:w.heap[b+1+1+1]?=some (.cells #[.slice none 0 0,.int .i64 0,.string ⟨#[]⟩,.int .i64 0] 28 (0,0))
 k4:w.heap[b+1+1+1+1]?=some (.cells #[.int .i64 0,.int .i64 0,.int .i64 0,.int .i64 0] 30 (0,0))
theorem AW.kp{b:Nat}{s o:Value}{p:ZP}{w w':Wo}(h:AW b s o p w)(hb:∀ k,b<=k->k<=b+1+1+1+1->w'.heap[k]?=w.heap[k]?):AW b s o p w':=
 ⟨(hb _ (by omega) (by omega)).trans h.k0,(hb _ (by omega) (by omega)).trans h.k1,(hb _ (by omega) (by omega)).trans h.k2,(hb _ (by omega) (by omega)).trans h.k3,(hb _ (by omega) (by omega)).trans h.k4⟩
theorem AW.lt{b:Nat}{s o:Value}{p:ZP}{w:Wo}(h:AW b s o p w):b+1+1+1+1<w.heap.size:=(yB.1 h.k4).1
theorem AW.next{b:Nat}{s o:Value}{p:ZP}{w w':Wo}(h:AW b s o p w)(hb:Bw w w'):AW b s o p w':=
 h.kp fun k _ hk=>hb.block k (by have:=h.lt;omega)
theorem AW.new(w:Wo)(s o:Value)(p:ZP):AW w.heap.size s o p (((((w.alloc (.cells #[s] 35)).alloc (.cells #[o,.int .i64 p.base,.string p.doc,.int .i64 p.tries] 28)).alloc (.cells #[.slice none 0 0] 35)).alloc (.cells #[.slice none 0 0,.int .i64 0,.string ⟨#[]⟩,.int .i64 0] 28)).alloc (.cells #[.int .i64 0,.int .i64 0,.int .i64 0,.int .i64 0] 30))/\Bw w (((((w.alloc (.cells #[s] 35)).alloc (.cells #[o,.int .i64 p.base,.string p.doc,.int .i64 p.tries] 28)).alloc (.cells #[.slice none 0 0] 35)).alloc (.cells #[.slice none 0 0,.int .i64 0,.string ⟨#[]⟩,.int .i64 0] 28)).alloc (.cells #[.int .i64 0,.int .i64 0,.int .i64 0,.int .i64 0] 30)):=by
 have h:=VF w (.cells #[s] 35) (.cells #[o,.int .i64 p.base,.string p.doc,.int .i64 p.tries] 28) (.cells #[.slice none 0 0] 35);generalize ((w.alloc _).alloc _).alloc _=f at *;have k:=Y8 f (.cells #[.slice none 0 0,.int .i64 0,.string ⟨#[]⟩,.int .i64 0] 28) (.cells #[.int .i64 0,.int .i64 0,.int .i64 0,.int .i64 0] 30);have d:=h.size;have a:=k.k0;have b:=k.k1;rw[d]at a b;exact⟨⟨(k.bel.block _ (by omega)).trans h.k0,(k.bel.block _ (by omega)).trans h.k1,(k.bel.block _ (by omega)).trans h.k2,a,b⟩,zh h.bel k.bel⟩
structure zcD(b:Nat)(w:Wo):Prop where
 c2:w.cell? ⟨b+1+1,0,none⟩=some (.slice none 0 0)
 c3:Zt (b+1+1+1) (.slice none 0 0) (.int .i64 0) (.string ⟨#[]⟩) (.int .i64 0) w
 c4:Zt (b+1+1+1+1) (.int .i64 0) (.int .i64 0) (.int .i64 0) (.int .i64 0) w
 f2:∀ j,w.frozen? ⟨b+1+1,j,none⟩=false
 f3:∀ j,w.frozen? ⟨b+1+1+1,j,none⟩=false
 f4:∀ j,w.frozen? ⟨b+1+1+1+1,j,none⟩=false
theorem AW.ac{b:Nat}{s o:Value}{p:ZP}{w:Wo}(h:AW b s o p w):zcD b w:=
 ⟨yF h.k2 0,Zt.of h.k3,Zt.of h.k4,yI h.k2,yI h.k3,yI h.k4⟩
def Vj(w:Wo)(b:Nat)(v y0 y1 y2 y3 z0 z1 z2 z3:Value):Wo:=putN (putN (putN w (b+1+1) 0 [v]) (b+1+1+1) 0 [y0,y1,y2,y3]) (b+1+1+1+1) 0 [z0,z1,z2,z3]
theorem M3(w:Wo)(b:Nat)(v y0 y1 y2 y3 z0 z1 z2 z3:Value):(Vj w b v y0 y1 y2 y3 z0 z1 z2 z3).drew=Vj w.drew b v y0 y1 y2 y3 z0 z1 z2 z3:=by
 unfold Vj;rw[GD,GD,GD]
theorem Vk {fn:Func} {p q r:Tmp} (h:fn.results=#[.cell p 35,.cell q 28,.cell r 30]) {tmps:Array Value} {w w':Wo} {b:Nat} {s o:Value} {pd:ZP} (hA:AW b s o pd w) {v y0 y1 y2 y3 z0 z1 z2 z3:Value}
  (hp:tmps.getD p undef= .pointer (some ⟨b+1+1,0,none⟩)) (hq:tmps.getD q undef= .pointer (some ⟨b+1+1+1,0,none⟩)) (hr:tmps.getD r undef= .pointer (some ⟨b+1+1+1+1,0,none⟩)) (hw:w'=Vj w b v y0 y1 y2 y3 z0 z1 z2 z3):
  (results fn tmps).run prog w'= .ok (.tuple #[.agg #[v],.agg #[y0,y1,y2,y3],.agg #[z0,z1,z2,z3]]) w':=by
 have a:tmps[p]?.getD undef= .pointer (some ⟨b+1+1,0,none⟩):=by simpa using hp
 have d:tmps[q]?.getD undef= .pointer (some ⟨b+1+1+1,0,none⟩):=by simpa using hq
 have f:tmps[r]?.getD undef= .pointer (some ⟨b+1+1+1+1,0,none⟩):=by simpa using hr
 have g:w'.heap[b+1+1]?=some (.cells #[v] 35 (0,0)):=by rw[hw,Vj,ZO (by omega),ZO (by omega),qV hA.k2 [v] rfl]
 have i:w'.heap[b+1+1+1]?=some (.cells #[y0,y1,y2,y3] 28 (0,0)):=by rw[hw,Vj,ZO (by omega)];exact qV ((ZO (by omega) _ _).trans hA.k3) [y0,y1,y2,y3] rfl
 have j:w'.heap[b+1+1+1+1]?=some (.cells #[z0,z1,z2,z3] 30 (0,0)):=by rw[hw,Vj];exact qV ((ZO (by omega) _ _).trans ((ZO (by omega) _ _).trans hA.k4)) [z0,z1,z2,z3] rfl
 have k:=run_loadVar_row (P:=prog) w' _ 35 35 _ (0,0) _ g underlying35 rfl (by kernel_rfl);have l:=run_loadVar_row (P:=prog) w' _ 28 28 _ (0,0) _ i underlying28 rfl (by kernel_rfl);have m:=run_loadVar_row (P:=prog) w' _ 30 30 _ (0,0) _ j underlying30 rfl (by kernel_rfl);simp[results,h,a,d,f,asAddr,k,l,m]
theorem Vl{w0 w:Wo}{a:Jk}{v vo:Value}{bl:List Nat}{N:Nat}(hB:Bw w0 w)(hN:w0.heap.size+1+1+1+1<N)(hv:zk zT w v a.vs bl)(hf:Zj N bl)(ho:Z3 w N vo a.pn.ops):
  Uy a w0 (.returned (.tuple #[.agg #[v],.agg #[vo,.int .i64 a.pn.base,.string a.pn.doc,.int .i64 a.pn.tries],.agg #[.int .i64 a.kind,.int .i64 a.code,.int .i64 a.pos,.int .i64 a.no]])) (Vj w w0.heap.size v vo (.int .i64 a.pn.base) (.string a.pn.doc) (.int .i64 a.pn.tries) (.int .i64 a.kind) (.int .i64 a.code) (.int .i64 a.pos) (.int .i64 a.no)):=
 ⟨v,vo,bl,rfl,((hv.putN (hf.not (by omega)) _ 0).putN (hf.not (by omega)) _ 0).putN (hf.not (by omega)) _ 0,hf.mono (by omega),qT (Kx (Kx (Kx ho (by omega) _ 0) (by omega) _ 0) (by omega) _ 0) (by omega),ZL (ZL (ZL hB (by omega) _ 0) (by omega) _ 0) (by omega) _ 0⟩
section
variable (b:Act) (w:Wo) (t d s:Tmp) (ty:TypeId) (ps:String) (af:Array Edge) (g:Nat)
theorem JO{b:Act}{t:Tmp}{v:Value}(h:b.eval (.tmp t)=v):b.tmps[t]?.getD undef=v:=by simpa [Act.eval]using h
theorem ldS{q:Value}(h:b.eval (.tmp t)= .pointer (some ⟨g,0,none⟩))(hg:w.heap[g]?=some (.cells #[q] 24 (0,0))):(execOp b.eval ⟨some d,.load 24 (.tmp t),ty,ps,af,none⟩).run prog w= .ok (.value (.agg #[q])) w:=by
 have c0:w.cell? ⟨g,0,none⟩=some q:=yF hg 0;have e:=JO h;clear h;go_simp
theorem ldP{x0 x1 x2 x3:Value}(h:b.eval (.tmp t)= .pointer (some ⟨g,0,none⟩))(hg:w.heap[g]?=some (.cells #[x0,x1,x2,x3] 45 (0,0))):(execOp b.eval ⟨some d,.load 45 (.tmp t),ty,ps,af,none⟩).run prog w= .ok (.value (.agg #[x0,x1,x2,x3])) w:=by
 obtain⟨c0,c1,c2,c3⟩:=Zt.of hg;have e:=JO h;clear h;go_simp
theorem alS:(execOp b.eval ⟨some d,.alloc 35,ty,ps,af,none⟩).run prog w= .ok (.value (.pointer (some ⟨w.heap.size,0,none⟩))) (w.alloc (.cells #[.slice none 0 0] 35 (0,0))):=by
 go_simp
theorem alP:(execOp b.eval ⟨some d,.alloc 28,ty,ps,af,none⟩).run prog w= .ok (.value (.pointer (some ⟨w.heap.size,0,none⟩))) (w.alloc (.cells #[.slice none 0 0,.int .i64 0,.string ⟨#[]⟩,.int .i64 0] 28 (0,0))):=by
 go_simp
theorem alV:(execOp b.eval ⟨some d,.alloc 30,ty,ps,af,none⟩).run prog w= .ok (.value (.pointer (some ⟨w.heap.size,0,none⟩))) (w.alloc (.cells #[.int .i64 0,.int .i64 0,.int .i64 0,.int .i64 0] 30 (0,0))):=by
 go_simp
theorem clS(u:Value)(ats:Array TypeId)(h:b.eval (.tmp t)=u):(execOp b.eval ⟨some d,.call {callee:=.value (.func 7),args:=#[.tmp t],argTypes:=ats},ty,ps,af,none⟩).run prog w= .ok (.enter 7 #[u]) w:=by
 have e:=JO h;clear h;go_simp
theorem clP(u:Value)(ats:Array TypeId)(h:b.eval (.tmp t)=u):(execOp b.eval ⟨some d,.call {callee:=.value (.func 17),args:=#[.tmp t],argTypes:=ats},ty,ps,af,none⟩).run prog w= .ok (.enter 17 #[u]) w:=by
 have e:=JO h;clear h;go_simp
theorem clA(u v:Value)(ats:Array TypeId)(h:b.eval (.tmp t)=u)(h':b.eval (.tmp s)=v):(execOp b.eval ⟨some d,.call {callee:=.value (.func 16),args:=#[.tmp t,.tmp s],argTypes:=ats},ty,ps,af,none⟩).run prog w= .ok (.enter 16 #[u,v]) w:=by
 have e:=JO h;have a:=JO h';clear h h';go_simp
theorem clI(u v:Value)(ats:Array TypeId)(h:b.eval (.tmp t)=u)(h':b.eval (.tmp s)=v):(execOp b.eval ⟨some d,.call {callee:=.value (.func 18),args:=#[.tmp t,.tmp s],argTypes:=ats},ty,ps,af,none⟩).run prog w= .ok (.enter 18 #[u,v]) w:=by
 have e:=JO h;have a:=JO h';clear h h';go_simp
theorem mv0:(execOp b.eval ⟨some d,.move (.tmp t),ty,ps,af,none⟩).run prog w= .ok (.value (b.eval (.tmp t))) w:=rfl
theorem PD(x y z:Value)(i:Nat)(u:Value)(h:b.eval (.tmp t)= .tuple #[x,y,z])(hi:(#[x,y,z]:Array Value)[i]?=some u):(execOp b.eval ⟨some d,.extract (.tmp t) i,ty,ps,af,none⟩).run prog w= .ok (.value u) w:=by
 have e:=JO h;clear h;go_simp
theorem stS{q v:Value}(h:b.eval (.tmp t)= .pointer (some ⟨g,0,none⟩))(h':b.eval (.tmp s)= .agg #[v])(hc:∃ a n c,v= .slice a n c)(hg:w.heap[g]?=some (.cells #[q] 35 (0,0))):
  (execOp b.eval ⟨none,.store 35 (.tmp t) (.tmp s),ty,ps,af,none⟩).run prog w= .ok .skip (putN w g 0 [v]):=by
 obtain⟨a,n,c,rfl⟩:=hc;have c0:w.cell? ⟨g,0,none⟩=some q:=yF hg 0;have f:=yI hg;have e:=JO h;have d:=JO h';clear h h' hg;go_simp;rfl
theorem stP{x0 x1 x2 x3 v:Value}{k n:Int}{c:Bs}(h:b.eval (.tmp t)= .pointer (some ⟨g,0,none⟩))(h':b.eval (.tmp s)= .agg #[v,.int .i64 k,.string c,.int .i64 n])(hc:∃ a n c,v= .slice a n c)(hg:w.heap[g]?=some (.cells #[x0,x1,x2,x3] 28 (0,0))):
  (execOp b.eval ⟨none,.store 28 (.tmp t) (.tmp s),ty,ps,af,none⟩).run prog w= .ok .skip (putN w g 0 [v,.int .i64 k,.string c,.int .i64 n]):=by
 obtain⟨a,m,d,rfl⟩:=hc;obtain⟨c0,c1,c2,c3⟩:=Zt.of hg;have f:=yI hg;have e:=JO h;have i:=JO h';clear h h' hg;go_simp;rfl
theorem stV{x0 x1 x2 x3:Value}{k c q n:Int}(h:b.eval (.tmp t)= .pointer (some ⟨g,0,none⟩))(h':b.eval (.tmp s)= .agg #[.int .i64 k,.int .i64 c,.int .i64 q,.int .i64 n])(hg:w.heap[g]?=some (.cells #[x0,x1,x2,x3] 30 (0,0))):
  (execOp b.eval ⟨none,.store 30 (.tmp t) (.tmp s),ty,ps,af,none⟩).run prog w= .ok .skip (putN w g 0 [.int .i64 k,.int .i64 c,.int .i64 q,.int .i64 n]):=by
 obtain⟨c0,c1,c2,c3⟩:=Zt.of hg;have f:=yI hg;have e:=JO h;have a:=JO h';clear h h' hg;go_simp;rfl
end
theorem Fj(v v':Value)(b t:Int)(d:Bs)(ms:List zw)(bl bl':List Nat)(w:Wo)(h:zk Zh w v ms bl)(h':zk Zh w v' ms bl'):
  Calls prog 9 #[.agg #[v,.int .i64 b,.string d,.int .i64 t],.agg #[v',.int .i64 b,.string d,.int .i64 t]] w fun e w'=>e= .returned (.bool true)/\Bw w w':=by
 obtain⟨a,c,rfl,-,-⟩:=h.form;obtain⟨k,l,rfl,-,-⟩:=h'.form;have H:=zb h;have i:=zb h';clear h h';go_in;go_wp2_with fail;have f:=Y8 w (.cells #[.slice a ms.length c,.int .i64 b,.string d,.int .i64 t] 28) (.cells #[.slice k ms.length l,.int .i64 b,.string d,.int .i64 t] 28);generalize (w.alloc _).alloc _=m at *;refine (Hs _ _ ms bl bl' m ((uh H).below f.bel) ((uh i).below f.bel)).mono ?_;rintro e s ⟨rfl,g⟩;have r:=f.size;obtain⟨c0,c1,c2,c3⟩:=Zt.of ((g.block w.heap.size (by omega)).trans f.k0);obtain⟨n,o,p,q⟩:=Zt.of ((g.block (w.heap.size+1) (by omega)).trans f.k1);have j:=zb (zh f.bel g);clear f g H i;go_wp2;go_ret;exact⟨rfl,uh j⟩
theorem PE(a b c d:Int)(w:Wo):
  Calls prog 10 #[.agg #[.int .i64 a,.int .i64 b,.int .i64 c,.int .i64 d],.agg #[.int .i64 a,.int .i64 b,.int .i64 c,.int .i64 d]] w fun e w'=>e= .returned (.bool true)/\Bw w w':=by
 have f:=Y8 w (.cells #[.int .i64 a,.int .i64 b,.int .i64 c,.int .i64 d] 30) (.cells #[.int .i64 a,.int .i64 b,.int .i64 c,.int .i64 d] 30);have g:=zb f.bel;clear f;go_in;go_wp2;go_ret;exact⟨rfl,uh g⟩
theorem M4(v:Value)(b t:Int)(d:Bs)(ms:List zw)(bl:List Nat)(k0:Nat)(w:Wo)(hv:zk Zh w v ms bl)(hd:bl.Nodup)(hn:ms.length<=268435456)(h2:k0+Zs ZU ms<=1099200000000):
  Calls prog 13 #[.agg #[v,.int .i64 b,.string d,.int .i64 t],.int .i64 k0] w fun e w'=>e= .returned (.int .i64 (k0+Zs ZU ms:Nat))/\zk Zh w' v (qe JH ZU k0 ms) bl/\Fr bl w w':=by
 obtain⟨a,c,rfl,-,-⟩:=hv.form;have f:=zu w (.cells #[.slice a ms.length c,.int .i64 b,.string d,.int .i64 t] 28);have g:=zb (zam _ ms bl k0 _ (hv.below f) hd hn h2);have m:=zb hv.lt;have j:=zb f;clear hv f;generalize (k0+Zs ZU ms:Nat)=K at *;go_in;go_wp2_with fail;refine (uh g).mono ?_;rintro e n ⟨rfl,i,h⟩;have l:=zb i;have k:=zb h;clear g i h;go_wp2;go_ret;exact⟨rfl,uh l,(Fr.of_below (uh j)).trans (uh k)⟩
theorem zcR(v:Value)(b t:Int)(d:Bs)(ms:List zw)(bl:List Nat)(k0:Nat)(w:Wo)(hv:zk Zh w v (qe JH ZU k0 ms) bl)(hn:ms.length<=268435456)(h2:k0+Zs ZU ms<=1099200000000):
  Calls prog 14 #[.agg #[v,.int .i64 b,.string d,.int .i64 t],.int .i64 k0] w fun e w'=>e= .returned (.int .i64 (k0+Zs ZU ms:Nat))/\Bw w w':=by
 obtain⟨a,c,rfl,-,-⟩:=hv.form;have f:=zu w (.cells #[.slice a (qe JH ZU k0 ms).length c,.int .i64 b,.string d,.int .i64 t] 28);have g:=zb (zan _ ms bl k0 _ (hv.below f) hn h2);have i:=zb f;clear hv f;generalize (qe JH ZU k0 ms).length=n at *;generalize (k0+Zs ZU ms:Nat)=K at *;go_in;go_wp2_with fail;refine (uh g).mono ?_;rintro e k ⟨rfl,h⟩;have j:=zb (zh (uh i) h);clear g h;go_wp2;go_ret;exact⟨rfl,uh j⟩
def Qx(w:Wo)(N:Nat):List zl->Value->Prop
 | [],v=>v= .pointer none
 | m :: r,v=>∃ (b:Nat) (q:Value) (t:TypeId) (p v':Value) (bl:List Nat) (jv:JV),v= .pointer (some ⟨b,0,none⟩)/\b<N/\w.heap[b]?=some (.cells #[.int .i64 m.no,.string m.doc,q,.iface t p,v'] 109 (0,0)) /\
  qy w q m.touched bl/\ZI m.doc= .inr jv/\ze (ct jv)=m.doc/\zi w (fun k=>k<N) jv (.iface t p)/\Qx w N r v'
theorem Qx.up{w w':Wo}{N N':Nat}(hb:Bw w w')(hN:N<=w.heap.size)(hN':N<=N'):∀ {l:List zl} {v:Value},Qx w N l v->Qx w' N' l v
 | [],_,h=>h
 | m :: r,v,h=>by
  obtain⟨b,q,t,p,v',bl,jv,h1,h2,h3,h4,h5,h6,h7,h8⟩:=h;exact⟨b,q,t,p,v',bl,jv,h1,by omega,(hb.block b (by omega)).trans h3,h4.below hb,h5,h6,zi.keep (fun k hk=>hb.block k (yE hk hN)) (fun k hk=>yE hk hN') _ _ h7,Qx.up hb hN hN' h8⟩
def GE:List zl->Int->Bool
 | [],no=>decide (0<=no) && decide (no<=1000000)
 | m :: _,no=>no ==m.no+1
theorem zcS(v:Value)(l:List zl)(N:Nat)(no:Int)(w:Wo)(h:Qx w N l v)(hr:∀ m,l.head?=some m->0<=m.no/\m.no<=2000000):
  Calls prog 54 #[v,.int .i64 no] w fun e w'=>e= .returned (.bool (GE l no))/\Bw w w':=by
 match l,h with
 | [],h=>
  rw[Qx]at h;subst h;exact zci no w
 | m :: r,h=>
  rw[Qx]at h;obtain⟨b,q,t,p,j,g,i,rfl,_,f,_⟩:=h;obtain⟨a,d⟩:=hr m rfl;exact zcj b m.no no w (yF f 0) a d
theorem Qx.ptr{w:Wo}{N:Nat}{l:List zl}{v:Value}(h:Qx w N l v):∃ a,v= .pointer a:=by
 match l,h with
 | [],h=>exact⟨_,h⟩
 | m :: r,h=>obtain⟨b,q,t,p,i,f,g,d,_⟩:=h;exact⟨_,d⟩
theorem M8{vs:List zl}{k:Nat}(hk:0<k)(h:k<=vs.length):∃ r,(vs.take k).reverse=vs[k - 1] :: r:=by
 obtain⟨j,rfl⟩:∃ j,k=j+1:=⟨k - 1,by omega⟩;rw[yy (by omega),List.reverse_append];exact⟨_,rfl⟩
theorem M9{vs:List zl}{k:Nat}(h0:0<vs.length)(hk:k<vs.length)(hall:∀ j (h:j<vs.length),j<k->qN vs[0].no j vs[j]=true):
  GE (vs.take k).reverse vs[k].no=true↔vs[k].no=vs[0].no+k/\(k=0->0<=vs[0].no/\vs[0].no<=1000000):=by
 by_cases e:k=0
 ·subst e;simp[GE]
 ·obtain⟨r,b⟩:=M8 (k:=k) (by omega) (by omega:k<=vs.length);have a:=(Xt.1 (hall (k - 1) (by omega) (by omega))).1;rw[b,GE,yC,a];constructor
  ·intro h;exact⟨by omega,fun h=>absurd h e⟩
  ·rintro⟨h,_⟩;omega
theorem zcT{vs:List zl}{k:Nat}(h0:0<vs.length)(hk:k<vs.length)(hall:∀ j (h:j<vs.length),j<k->qN vs[0].no j vs[j]=true)(hbad:Z6 vs[k].doc=false∨GE (vs.take k).reverse vs[k].no=false∨JA vs[k].touched=false):q9 vs=false:=by
 refine W8 ?_;rintro⟨_,_,d,f,g⟩;obtain⟨a,b,c⟩:=Xt.1 (g k hk);rcases hbad with h | h | h
 ·rw[b]at h;cases h
 ·rw[(M9 h0 hk hall).2 ⟨a,fun _=>⟨d,f⟩⟩]at h;cases h
 ·rw[c]at h;cases h
def HdP(vs:List zl)(w:Wo)(e:Ending)(w':Wo):Prop:=Bw w w'/\(q9 vs=false->e= .returned (.tuple #[.pointer none,.bool false])) /\
 (q9 vs=true->∃ v,e= .returned (.tuple #[v,.bool true])/\Qx w' w'.heap.size vs.reverse v)
theorem zcV(p:Value)(vs:List zl)(bl:List Nat)(w:Wo)(h:zk zT w p vs bl)(hs:ZG vs<=1048576)(hw:Qh w):
  Calls prog 26 #[.agg #[p]] w (HdP vs w):=by
 obtain⟨xa,xc,rfl,-,hxa⟩:=h.form;have hln:vs.length<=9223372036854775807:=by have:=h.len;unfold maxLen at this;omega
 have hA:=zu w (.cells #[.slice xa vs.length xc] 35);have kA:=yG w (.cells #[.slice xa vs.length xc] 35);have HO:=zb (h.below hA);have V:=zb hA;have HI:=zb (Xu hs);have HXA:=zb hxa;have HW:=zb (hw.up hA);clear h hs hA hw hxa;by_cases hn8:8<vs.length
 ·have L:Hid (q9 vs=false):=W8 (by rintro⟨_,h,_⟩;omega);clear kA;go_in;go_wp2;go_ret2;exact⟨uh V,fun _=>rfl,fun h=>by rw[uh L]at h;cases h⟩
 ·go_in;go_wp2;clear kA;generalize (w.alloc (.cells #[.slice xa vs.length xc] 35))=wA at *;go_loopw [4,16] (fun hd i wr=>∃ k:Nat,k<=vs.length/\i= .int .i64 k/\Bw wA wr/\Qx wr wr.heap.size (vs.take k).reverse hd/\(∀ (u:0<vs.length),(∀ j (h:j<vs.length),j<k->qN vs[0].no j vs[j]=true)/\(0<k->0<=vs[0].no/\vs[0].no<=1000000))) (fun _ i _=>vs.length - (intOf i).toNat)
  case atStart=>exact⟨0,yt _,rfl,yH _ _,rfl,fun _=>⟨fun j _ h=>by omega,fun h=>by omega⟩⟩
  case round=>
   obtain⟨k,P,rfl,hb,F,f⟩:=hrel;have x:=zb F;have o:=zb hb;have HALL:=zb f;obtain⟨X,rfl⟩:=F.ptr;by_cases G:k<vs.length
   ·have u:0<vs.length:=by omega
    obtain⟨n,v⟩:=f u;have Q:Hid (Z6 vs[k].doc=false∨GE (vs.take k).reverse vs[k].no=false∨JA vs[k].touched=false->q9 vs=false):=zcT u G n;have ah:Hid (Z6 vs[k].doc=true->GE (vs.take k).reverse vs[k].no=true->JA vs[k].touched=true->∀ (u:0<vs.length),(∀ j (h:j<vs.length),j<k+1->qN vs[0].no j vs[j]=true)/\(0<k+1->0<=vs[0].no/\vs[0].no<=1000000)):=fun a1 a2 a3 _=>by
     obtain⟨b1,O⟩:=(M9 u G n).1 a2;refine⟨fun j h hj=>?_,fun _=>?_⟩
     ·by_cases e:j=k
      ·subst e;exact Xt.2 ⟨b1,a1,a3⟩
      ·exact n j h (by omega)
     ·by_cases e:k=0
      ·exact O e
      ·exact v (by omega)
    have hrg:∀ m,(vs.take k).reverse.head?=some m->0<=m.no/\m.no<=2000000:=fun m hm=>by
     by_cases e:k=0
     ·subst e;simp at hm
     ·obtain⟨r,hr⟩:=M8 (vs:=vs) (k:=k) (by omega) (by omega);rw[hr]at hm;injection hm with hm;subst hm;have h1:=(Xt.1 (n (k - 1) (by omega) (by omega))).1;obtain⟨h2,h3⟩:=v (by omega);omega
    have HRG:=zb hrg;have af:Hid ((vs.take (k+1)).reverse=vs[k] ::(vs.take k).reverse):=by
     show _=_
     rw[yy G,List.reverse_append];rfl
    obtain⟨g,rfl⟩:=uh HXA u;obtain⟨hd1,T,hl1⟩:=uh HI k G;obtain⟨cs,ib,hE,y,-⟩:=((uh HO).below hb).at (yx G);obtain⟨q,rfl,hq⟩:=hE;obtain⟨z,A,rfl,-,-⟩:=hq.form;have c0:wr.cell? ⟨g,k*3,none⟩=some (.int .i64 vs[k].no):=(y 0 _ rfl).1;have c1:wr.cell? ⟨g,k*3+1,none⟩=some (.string vs[k].doc):=(y 1 _ rfl).1;have c2:wr.cell? ⟨g,k*3+2,none⟩=some (.slice z vs[k].touched.length A):=(y 2 _ rfl).1;have HQ:=zb hq;clear y hq hrg n v f F hb;generalize (vs.take k).reverse=l at *;generalize vs[k]=m at *;obtain⟨no,d,a⟩:=m;simp only at c0 c1 c2 hd1 T hl1;have hV:=zu wr (.cells #[.int .i64 no,.string d,.slice z a.length A] 57);have kV:=yG wr (.cells #[.int .i64 no,.string d,.slice z a.length A] 57);have zV:(wr.alloc (.cells #[.int .i64 no,.string d,.slice z a.length A] 57)).heap.size=wr.heap.size+1:=by simp
    have H:=(uh HW).up (zh (uh o) hV);have HR:=zb (Pq d _ H.tab H.err H.pow (by omega));have HML:=zb H.ml;have HKV:=zb kV;have ai:=zb zV;have HV:=zb hV;have HP1:=zb T;clear hV kV zV H T;go_wp2_with fail;generalize (wr.alloc (.cells #[.int .i64 no,.string d,.slice z a.length A] 57))=wV at *;refine (uh HR).mono ?_;rintro e w2 ⟨O,S,I⟩;have Z:=zb O;have k2:=(O.block wr.heap.size (by have:=uh ai;omega)).trans (uh HKV)
    cases hg:Z6 d with
    | false=>
     obtain rfl:=S hg;have L:=zb (uh Q (.inl hg));clear S I O k2 hg c0 c1 c2;go_wp2;go_ret2;exact⟨zh (uh V) (zh (uh o) (zh (uh HV) (uh Z))),fun _=>rfl,fun h=>by rw[uh L]at h;cases h⟩
    | true=>
     obtain⟨jv,t,p,hr,hct,rfl,rep⟩:=I hg;have HRR:=zb hr;have HCT:=zb hct;have N:=zb rep;have HG:=zb hg;have E:=zh (uh HV) O;have C:=zb (Qx.up E (ye _) E.size (uh x));have HF:=zb (zcS _ l _ no w2 (uh C) (uh HRG));have v0:w2.cell? ⟨wr.heap.size,0,none⟩=some (.int .i64 no):=yF k2 0;have Y:=zb E;have HK2:=zb k2;have hsz:=E.size;have hs1:wr.heap.size<w2.heap.size:=by have:=uh ai;have:=O.size;omega
     clear S I O k2 hg rep hr hct E c0 c1 c2 HR x;obtain⟨fo,R⟩:∃ fo,GE l no=fo:=⟨_,rfl⟩;rw[R]at HF;have aa:=zb R;clear R;go_wp2_with fail;refine (uh HF).mono ?_;rintro e w3 ⟨rfl,K⟩;have k3:=(K.block wr.heap.size hs1).trans (uh HK2);have v2:w3.cell? ⟨wr.heap.size,2,none⟩=some (.slice z a.length A):=yF k3 2;have B:=zb (zh (uh Y) K);have hs3:=K.size
     cases fo with
     | false=>
      have L:=zb (uh Q (.inr (.inl (uh aa))));clear K k3 v0 v2 HF;go_wp2;go_ret2;exact⟨zh (uh V) (zh (uh o) (uh B)),fun _=>rfl,fun h=>by rw[uh L]at h;cases h⟩
     | true=>
      have HT:=zb (zch _ a ib w3 ((uh HQ).below (uh B)) ((uh HML).below (zh (uh Z) K)) (uh HP1));have M:=zb (Qx.up K (ye _) K.size (uh C));have D:=zb (zi.keep (S':=fun k=>k<w3.heap.size) (fun k P=>K.block k P.2) (fun k P=>yE P.2 K.size) _ _ (uh N));have ab:=zb k3;clear K k3 v0 HF C N;obtain⟨tq,U⟩:∃ tq,JA a=tq:=⟨_,rfl⟩;rw[U]at HT;have ag:=zb U;clear U;go_wp2_with fail;refine (uh HT).mono ?_;rintro e J ⟨rfl,W⟩;have HB4:=zb (zh (uh B) W)
      cases tq with
      | false=>
       have L:=zb (uh Q (.inr (.inr (uh ag))));clear W v2 HT;go_wp2;go_ret2;exact⟨zh (uh V) (zh (uh o) (uh HB4)),fun _=>rfl,fun h=>by rw[uh L]at h;cases h⟩
      | true=>
       have k4:=(W.block wr.heap.size (by omega)).trans (uh ab);have x0:J.cell? ⟨wr.heap.size,0,none⟩=some (.int .i64 no):=yF k4 0;have x1:J.cell? ⟨wr.heap.size,1,none⟩=some (.string d):=yF k4 1;have x2:J.cell? ⟨wr.heap.size,2,none⟩=some (.slice z a.length A):=yF k4 2;have hR:=zu J (.cells #[.int .i64 no,.string d,.slice z a.length A,.iface t p,.pointer X] 109);have kR:=yG J (.cells #[.int .i64 no,.string d,.slice z a.length A,.iface t p,.pointer X] 109);have zR:(J.alloc (.cells #[.int .i64 no,.string d,.slice z a.length A,.iface t p,.pointer X] 109)).heap.size=J.heap.size+1:=by simp
       have s:=zh W hR;have hs4:=W.size;have ad:Hid (Qx (J.alloc (.cells #[.int .i64 no,.string d,.slice z a.length A,.iface t p,.pointer X] 109)) (J.alloc (.cells #[.int .i64 no,.string d,.slice z a.length A,.iface t p,.pointer X] 109)).heap.size (⟨no,d,a⟩ :: l) (.pointer (some ⟨J.heap.size,0,none⟩))):=
        ⟨J.heap.size,_,t,p,_,ib,jv,rfl,by omega,kR,(uh HQ).below (zh (uh B) s),uh HRR,uh HCT,zi.keep (fun k P=>s.block k P) (fun k P=>yE P s.size) _ _ (uh D),Qx.up s (ye _) s.size (uh M)⟩
       have HBN:=zb (zh (uh o) (zh (uh B) s));have HY:=zb (uh ah (uh HG) (uh aa) (uh ag));clear W v2 HT k4 hR kR zR s hs4 M D ab;go_wp2;go_roundw
       case rel=>exact⟨k+1,by omega,by go_num,uh HBN,by rw[uh af];exact uh ad,uh HY⟩
       case measure=>simp[intOf];omega
   ·have hkn:k=vs.length:=by omega
    subst hkn;rw[yU]at x;by_cases u:0<vs.length
    ·have L:Hid (q9 vs=true):=Wd.2 ⟨u,by omega,((f u).2 u).1,((f u).2 u).2,fun j hj=>(f u).1 j hj hj⟩;obtain⟨b,hbp⟩:∃ b,X=some ⟨b,0,none⟩:=by
      have y:=uh x
      cases hv:vs.reverse with
      | nil=>rw[List.reverse_eq_nil_iff]at hv;rw[hv]at u;simp at u
      | cons m r=>
       rw[hv,Qx]at y;obtain⟨b,q,t,p,v',bl',jv,h1,_⟩:=y;injection h1 with h1;exact⟨b,h1⟩
     subst hbp;clear f hb F;go_wp2;go_ret2;exact⟨zh (uh V) (uh o),fun h=>(by rw[uh L]at h;cases h),fun _=>⟨_,rfl,uh x⟩⟩
    ·have e:vs=[]:=yN (by omega);subst e;have y:=uh x;simp only[List.reverse_nil]at y;rw[Qx]at y;injection y with y;subst y;clear f hb F;go_wp2;go_ret2;exact⟨zh (uh V) (uh o),fun _=>rfl,fun h=>by cases h⟩
def Zm(w:Wo)(A S:Nat->Prop):List zl->Value->Prop
 | [],v=>v= .pointer none
 | m :: r,v=>∃ (b:Nat) (q:Value) (t:TypeId) (p v':Value) (bl:List Nat) (jv:JV),v= .pointer (some ⟨b,0,none⟩)/\A b/\w.heap[b]?=some (.cells #[.int .i64 m.no,.string m.doc,q,.iface t p,v'] 109 (0,0)) /\
  qy w q m.touched bl/\(∀ x∈bl,S x)/\ZI m.doc= .inr jv/\ze (ct jv)=m.doc/\zi w S jv (.iface t p)/\Zm w A S r v'
theorem Qx.toG{w:Wo}{N:Nat}(hN:w.heap.size<=N):∀ {l:List zl} {v:Value},Qx w N l v->Zm w (fun _=>True) (fun k=>k<N) l v
 | [],_,h=>h
 | m :: r,v,h=>by
  obtain⟨b,q,t,p,v',bl,jv,h1,h2,h3,h4,h5,h6,h7,h8⟩:=h;exact⟨b,q,t,p,v',bl,jv,h1,trivial,h3,h4,fun x hx=>yE (h4.lt x hx) hN,h5,h6,h7,Qx.toG hN h8⟩
theorem Zm.keep{w w':Wo}{A A' S:Nat->Prop}(hA:∀ b,A b->w'.heap[b]?=w.heap[b]?/\A' b)(hS:∀ b,S b->w'.heap[b]?=w.heap[b]?):∀ {l:List zl} {v:Value},Zm w A S l v->Zm w' A' S l v
 | [],_,h=>h
 | m :: r,v,h=>by
  obtain⟨b,q,t,p,v',bl,jv,h1,h2,h3,h4,h4',h5,h6,h7,h8⟩:=h;exact⟨b,q,t,p,v',bl,jv,h1,(hA b h2).2,(hA b h2).1.trans h3,h4.keep (fun x hx=>hS x (h4' x hx)),h4',h5,h6,zi.keep (fun k hk=>hS k hk) (fun _ hk=>hk) _ _ h7,Zm.keep hA hS h8⟩
theorem Zm.ptr{w:Wo}{A S:Nat->Prop}{l:List zl}{v:Value}(h:Zm w A S l v):∃ a,v= .pointer a:=by
 match l,h with
 | [],h=>exact⟨_,h⟩
 | m :: r,h=>obtain⟨b,q,t,p,i,f,g,d,_⟩:=h;exact⟨_,d⟩
def NwP(S:Nat->Prop)(l:List zl)(w:Wo)(e:Ending)(w':Wo):Prop:=∃ v',e= .returned v'/\Zm w' (fun b=>w.heap.size<=b/\b<w'.heap.size) S l v'/\Bw w w'
theorem Ta{S:Nat->Prop}{N:Nat}(hS:∀ k,S k->k<N):∀ (l:List zl) (k:Nat) (v:Value) (w:Wo),N<=w.heap.size->k<=1000->Zm w (fun _=>True) S l v ->
  Calls prog 112 #[v,.int .i64 (k:Int)] w (NwP S (l.take k) w)
 | [],k,v,w,hN,hk,h=>by
  obtain rfl:v= .pointer none:=h;go_in;go_wp2;go_ret;exact⟨_,rfl,by rw[List.take_nil];rfl,yH _ _⟩
 | m :: r,0,v,w,hN,hk,h=>by
  obtain⟨a,rfl⟩:=h.ptr;have C:a≠none:=by
   obtain⟨b,q,t,p,T,E,F,P,_⟩:=h;injection P with P;rw[P];simp
  clear h;obtain⟨ad,rfl⟩:=Option.ne_none_iff_exists'.1 C;clear C;go_in;go_wp2;go_ret;exact⟨_,rfl,by rw[List.take_zero];rfl,yH _ _⟩
 | m :: r,k+1,v,w,hN,hk,h=>by
  obtain⟨b,q,t,p,T,E,F,rfl,-,g,Q,z,Y,Z,h7,R⟩:=h;obtain⟨j,n,rfl,-,-⟩:=Q.form;obtain⟨f,rfl⟩:=R.ptr;have hb:=(yB.1 g).1;have B:=zu w (.cells #[.int .i64 m.no,.string m.doc,.slice j m.touched.length n,.iface t p,.pointer f] 109);have kA:=yG w (.cells #[.int .i64 m.no,.string m.doc,.slice j m.touched.length n,.iface t p,.pointer f] 109);have U:(w.alloc (.cells #[.int .i64 m.no,.string m.doc,.slice j m.touched.length n,.iface t p,.pointer f] 109)).heap.size=w.heap.size+1:=by simp
  have c0:w.cell? ⟨b,0,none⟩=some (.int .i64 m.no):=yF g 0;have c1:w.cell? ⟨b,1,none⟩=some (.string m.doc):=yF g 1;have c2:w.cell? ⟨b,2,none⟩=some (.slice j m.touched.length n):=yF g 2;have c3:w.cell? ⟨b,3,none⟩=some (.iface t p):=yF g 3;have c4:w.cell? ⟨b,4,none⟩=some (.pointer f):=yF g 4;have d4:(w.alloc (.cells #[.int .i64 m.no,.string m.doc,.slice j m.touched.length n,.iface t p,.pointer f] 109)).cell? ⟨b,4,none⟩=some (.pointer f):=yF ((B.block b hb).trans g) 4;have A:Zm (w.alloc (.cells #[.int .i64 m.no,.string m.doc,.slice j m.touched.length n,.iface t p,.pointer f] 109)) (fun _=>True) S r (.pointer f):=by
   have:∀ {l:List zl} {u:Value},Zm w (fun _=>True) S l u->Zm w (fun b=>b<w.heap.size) S l u:=by
    intro l;induction l with
    | nil=>intro u h;exact h
    | cons m r ih=>
     intro u h;obtain⟨b,q,t,p,T,E,F,g1,g2,X,g4,O,g5,g6,g7,g8⟩:=h;exact⟨b,q,t,p,T,E,F,g1,(yB.1 X).1,X,g4,O,g5,g6,g7,ih g8⟩
   exact (this R).keep (fun x hx=>⟨B.block x hx,trivial⟩) (fun x hx=>B.block x (yE (hS x hx) hN))
  have V:=zb (Ta hS r k (.pointer f) _ (by rw[U];omega) (by omega) A);have kk:((k+1:Nat):Int) - 1=(k:Int):=by omega
  have kz:(((k+1:Nat):Int) ==0)=false:=by rw[yd];omega
  have HA:=zb B;have y:=zb kA;have J:=zb U;have H4:=zb Q;have o:=zb z;have H5:=zb Y;have H6:=zb Z;have H7:=zb h7;have W:=zb hS;clear g Q z Y Z h7 R A B kA U hS hb;generalize ((k+1:Nat):Int)=K at *;go_in;go_wp2_with fail;generalize w.alloc _=wA at *;refine (uh V).mono ?_;rintro e i ⟨v1,rfl,M,D⟩;obtain⟨L,rfl⟩:=M.ptr;have hz:=uh J;have hz1:=D.size;have G:=(D.block w.heap.size (by omega)).trans (uh y);have e4:i.cell? ⟨w.heap.size,4,none⟩=some (.pointer f):=yF G 4;have f1:=yI G;have s:=zb (zh (uh HA) D);have I:=zb (heap_setCell_same i w.heap.size 4 _ _ (.pointer L) G);have H:=zb M;clear V D G M c0 c1 c2 c3 c4 d4 y;go_wp2;go_ret;have hN':=hN;have sz:(i.setCell ⟨w.heap.size,4,none⟩ (.pointer L)).heap.size=i.heap.size:=by simp[World.setCell]
  have d:∀ x,S x->(i.setCell ⟨w.heap.size,4,none⟩ (.pointer L)).heap[x]?=w.heap[x]?:=fun x hx=>by
   have:=uh W x hx;exact (Below.heap_setCell i ⟨w.heap.size,4,none⟩ _ x (fun e=>by have:x=w.heap.size:=e;omega)).trans ((uh s).block x (by omega))
  refine⟨_,rfl,?_,(uh s).setCell (p:=⟨w.heap.size,4,none⟩) (ye _) _⟩;rw[List.take_succ_cons];refine⟨w.heap.size,_,t,p,_,E,F,rfl,⟨ye _,by rw[sz];omega⟩,uh I,(uh H4).keep (fun x hx=>d x (uh o x hx)),uh o,uh H5,uh H6,zi.keep (fun x hx=>d x hx) (fun _ hk=>hk) _ _ (uh H7),?_⟩;exact (uh H).keep (fun x hx=>⟨Below.heap_setCell i ⟨w.heap.size,4,none⟩ _ x (fun e=>by have:x=w.heap.size:=e;omega),by omega,by rw[sz];exact hx.2⟩) (fun x hx=>Below.heap_setCell i ⟨w.heap.size,4,none⟩ _ x (fun e=>by have:x=w.heap.size:=e;have:=uh W x hx;omega))
structure VT where
 g:Nat
 pv:Value
 fv:Value
 vv:Value
 v:JV
structure GF(w:Wo)(S:Nat->Prop)(m:zw)(q:VT):Prop where
 blk:w.heap[q.g]?=some (GB m.kind q.pv q.fv q.vv)
 sg:S q.g
 path:OT w 0 q.pv (Zy m.path)
 sp:∀ b,q.pv.ownBlock=some b->S b
 src:OT w 0 q.fv (Zy m.src)
 ss:∀ b,q.fv.ownBlock=some b->S b
 val:qS m.kind=true->ZI m.val= .inr q.v/\ze (ct q.v)=m.val/\∃ t p,q.vv= .iface t p/\zi w S q.v q.vv
theorem Tb{w w':Wo}{e size n:Nat}{v:Value}{xs:List Value}(h:w.ownsRow 0 e size v n xs)(hk:∀ b,v.ownBlock=some b->w'.heap[b]?=w.heap[b]?):w'.ownsRow 0 e size v n xs:=by
 refine⟨h.1,?_⟩;rcases h.2 with i |⟨g,a,d,f,j,k,r⟩
 ·exact .inl i
 ·exact .inr ⟨g,a,d,f,j,(hk g (by rw[f];rfl)).trans k,r⟩
theorem GF.keep{w w':Wo}{S S':Nat->Prop}{m:zw}{q:VT}(h:GF w S m q)(hk:∀ k,S k->w'.heap[k]?=w.heap[k]?)(hS:∀ k,S k->S' k):GF w' S' m q:=
 ⟨(hk _ h.sg).trans h.blk,hS _ h.sg,Tb h.path fun b hb=>hk b (h.sp b hb),fun b hb=>hS b (h.sp b hb),Tb h.src fun b hb=>hk b (h.ss b hb),fun b hb=>hS b (h.ss b hb),
  fun hv=>by obtain⟨a,d,t,p,f,g⟩:=h.val hv;exact⟨a,d,t,p,f,zi.keep hk hS _ _ g⟩⟩
theorem Uw.toS{w:Wo}{B:Nat}{m:zw}{g:Nat}{pv fv vv:Value}{v:JV}(h:Uw w B m g pv fv vv v):GF w (fun k=>B<=k/\k<w.heap.size) m ⟨g,pv,fv,vv,v⟩:=
 ⟨h.blk,⟨h.ge,(yB.1 h.blk).1⟩,qT h.path (yt _),fun b hb=>h.path.lt b hb,qT h.src (yt _),fun b hb=>h.src.lt b hb,h.val⟩
def Fk(q:VT):Value:=.pointer (some ⟨q.g,0,none⟩)
structure Wz(w:Wo)(B:Nat)(S:Nat->Prop)(lv:Value)(ms:List zw)(qs:List VT):Prop where
 len:qs.length=ms.length
 row:w.ownsRow B 170 1 lv qs.length (qs.map Fk)
 ops:∀ (j:Nat) m q,ms[j]?=some m->qs[j]?=some q->GF w S m q
 off:∀ k,S k->lv.ownBlock≠some k
def WA(w0:Nat)(w:Wo)(lv:Value)(k:Nat):Prop:=w0<=k/\k<w.heap.size/\lv.ownBlock≠some k
theorem Wz.snoc {wr w2 w3 w4:Wo} {B Wb:Nat} {lv lv':Value} {ms:List zw} {qs:List VT} {m:zw} {q:VT} (hL:Wz wr B (WA B wr lv) lv ms qs) (hb2:Bw wr w2) (hat:Uw w2 Wb m q.g q.pv q.fv q.vv q.v) (hW:wr.heap.size<=Wb) (hB:B<=wr.heap.size)
  (hb3:Bw w2 w3) (hrow:w4.ownsRow B 170 1 lv' (qs.length+1) (qs.map Fk++[Fk q])) (hg:w3.grownBy w4 lv.ownBlock) (hwh:lv'.ownBlock=lv.ownBlock∨lv'.ownBlock=some w3.heap.size):
  Wz w4 B (WA B w4 lv') lv' (ms++[m]) (qs++[q]):=by
 have i:=hb2.size;have l:=hb3.size;have n:=hg.size;have a:∀ k,k<w3.heap.size->lv.ownBlock≠some k->w4.heap[k]?=w3.heap[k]?:=fun k h1 h2=>hg.block k h1 (fun e=>h2 e.symm);have d:∀ k,B<=k->k<w3.heap.size->lv.ownBlock≠some k->WA B w4 lv' k:=fun k h1 h2 h3=>⟨h1,by omega,fun e=>by
  rcases hwh with h | h
  ·exact h3 (h ▸ e)
  ·rw[h]at e;injection e with e;omega⟩
 refine⟨by simp[hL.len],by simpa using hrow,fun j m' q' hm hq=>?_,fun k hk=>hk.2.2⟩;by_cases g:j<ms.length
 ·rw[List.getElem?_append_left g]at hm;rw[List.getElem?_append_left (by rw[hL.len];exact g)]at hq;refine (hL.ops j m' q' hm hq).keep (fun k hk=>?_) (fun k hk=>d k hk.1 (by have:=hk.2.1;omega) hk.2.2);have:=hk.2.1;rw[a k (by omega) hk.2.2,hb3.block k (by omega),hb2.block k (by omega)]
 ·have f:=(List.getElem?_eq_some_iff.1 hm).1;rw[yh,yR]at f;obtain rfl:j=ms.length:=by omega
  rw[List.getElem?_append_right (ye _)]at hm;rw[List.getElem?_append_right (by rw[hL.len];exact ye _),hL.len]at hq;simp at hm hq;subst hm;subst hq;have b:∀ k,Wb<=k->lv.ownBlock≠some k:=fun k h1 e=>by
   have:=(hL.row.lt k e).2;omega
  refine hat.toS.keep (fun k hk=>?_) (fun k hk=>d k (by omega) (by omega) (b k hk.1));rw[a k (by omega) (b k hk.1),hb3.block k hk.2]
theorem Tc:(prog.info? 170).map (fun i=>(i.zero,i.size,i.bytes))=some (some (.pointer none),1,8):=by kernel_rfl
def Uz(w:Wo)(c:Int)(ev:Value):Prop:=∃ fb,ev= .iface 165 (.pointer (some ⟨fb,0,none⟩))/\w.heap[fb]?=some (.cells #[.int .i64 c] 167 (0,0))
theorem Uz.next{w w':Wo}{c:Int}{ev:Value}(h:Uz w c ev)(hb:Bw w w'):Uz w' c ev:=by
 obtain⟨fb,b,a⟩:=h;exact⟨fb,b,(hb.block fb (yB.1 a).1).trans a⟩
def KF(w:Wo)(i c:Int)(ev:Value):Prop:=∃ eb fv,ev= .iface 164 (.pointer (some ⟨eb,0,none⟩))/\w.heap[eb]?=some (.cells #[.int .i64 i,fv] 169 (0,0))/\Uz w c fv
theorem PF(w:Wo)(i c:Int):KF ((w.alloc (.cells #[.int .i64 c] 167)).alloc (.cells #[.int .i64 i,.iface 165 (.pointer (some ⟨w.heap.size,0,none⟩))] 169)) i c (.iface 164 (.pointer (some ⟨w.heap.size+1,0,none⟩))):=by
 have z:(w.alloc (.cells #[.int .i64 c] 167)).heap.size=w.heap.size+1:=by simp
 refine⟨w.heap.size+1,_,rfl,?_,w.heap.size,rfl,?_⟩
 ·have:=yG (w.alloc (.cells #[.int .i64 c] 167)) (.cells #[.int .i64 i,.iface 165 (.pointer (some ⟨w.heap.size,0,none⟩))] 169)
  rwa [z]at this
 ·exact ((zu _ _).block w.heap.size (by omega)).trans (yG w _)
def Td(ms:List zw)(w:Wo)(e:Ending)(w':Wo):Prop:=Bw w w' /\
 (0<=ZT ms->∃ t p,e= .returned (.tuple #[.slice none 0 0,.iface t p])/\KF w' (ZT ms) 2 (.iface t p)) /\
 (ZT ms<0->∃ lv qs,e= .returned (.tuple #[lv,.nilIface])/\Wz w' w.heap.size (WA w.heap.size w' lv) lv ms qs)
theorem Te(v:Value)(ms:List zw)(bl:List Nat)(w:Wo)(h:zk Zh w v ms bl)(hs:Xa ms)(hw:Qh w):
  Calls prog 73 #[v] w (Td ms w):=by
 have aa:=hs.1;obtain⟨xa,xc,rfl,h1,hxa⟩:=h.form;have H:=zb h;have HXA:=zb hxa;have HIN:=zb aa;have hln:=hs.2;clear h h1 hxa hs aa;by_cases W:100<ms.length
 ·have s:ZT ms=100:=by unfold ZT;rw[yg W]
  have HB:=zb s;clear s;go_in;go_wp2;go_ret2;exact⟨zh (zu w _) (zu _ _),fun _=>⟨_,_,rfl,by rw[uh HB];exact PF w 100 2⟩,fun h=>by rw[uh HB]at h;omega⟩
 ·have t100:¬ (100:Int)<(ms.length:Int):=by omega
  obtain⟨i0,hi,hz0,hz1,hz2⟩:=info_parts Tc;go_in;go_wp2_with (at_make;refine wpList_make_own _ rfl _ _ 126 rfl w.heap.size 170 i0 (.pointer none) 1 underlying126 hi hz0 hz1 .i64 .i64 _ ms.length rfl rfl rfl (by rw[hz2];omega) (by unfold maxLen;omega) (ye _) ?_);intro w1 p l;have Y:Bw w w1:=(yH _ _).grown l (ye _) (by intro k hk;cases hk);have HB1:=zb Y;have HO1:=zb p;clear Y p l;go_wp2;go_loopw [4,23] (fun lv i wr=>∃ (k:Nat) (qs:List VT),k<=ms.length/\i= .int .i64 k/\Bw w wr/\Wz wr w.heap.size (WA w.heap.size wr lv) lv (ms.take k) qs/\∀ j (h:j<ms.length),j<k->Z1 ms[j]=true) (fun _ i _=>ms.length - (intOf i).toNat)
  case atStart=>exact⟨0,[],yt _,rfl,uh HB1,⟨by simp,uh HO1,fun j m q hm _=>by simp at hm,fun k hk=>hk.2.2⟩,fun j h hj=>by omega⟩
  case round=>
   obtain⟨k,qs,hk,rfl,s,I,z⟩:=hrel;have n:qs.length=k:=by rw[I.len,ym];omega
   obtain⟨la,lc,rfl,ab⟩:∃ la lc,u4= .slice la k lc/\True:=by
    rcases I.row.2 with ⟨hv,hn⟩ |⟨g,V,cur,hv,_⟩
    ·exact⟨none,0,by rw[hv,← n,hn],trivial⟩
    ·exact⟨some ⟨g,0,none⟩,V,by rw[hv,n],trivial⟩
   by_cases A:k<ms.length
   ·obtain⟨g,rfl⟩:=uh HXA (by omega);obtain⟨vs,ib,hE,Z,_⟩:=((uh H).below s).at (yx A);obtain⟨rfl,_⟩:=hE;have c0:wr.cell? ⟨g,k*4,none⟩=some (.int .i64 ms[k].kind):=(Z 0 _ rfl).1;have c1:wr.cell? ⟨g,k*4+1,none⟩=some (.string ms[k].path):=(Z 1 _ rfl).1;have c2:wr.cell? ⟨g,k*4+2,none⟩=some (.string ms[k].src):=(Z 2 _ rfl).1;have c3:wr.cell? ⟨g,k*4+3,none⟩=some (.string ms[k].val):=(Z 3 _ rfl).1;have M:=zb I;have P:=zb z;have a:=zb s;clear Z I z s ab;have hA:=zu wr (.cells #[.int .i64 ms[k].kind,.string ms[k].path,.string ms[k].src,.string ms[k].val] 95);have zA:(wr.alloc (.cells #[.int .i64 ms[k].kind,.string ms[k].path,.string ms[k].src,.string ms[k].val] 95)).heap.size=wr.heap.size+1:=by simp
    obtain⟨i1,i2,i3⟩:=uh HIN ms[k] (yr A);have C:=hw.up (zh (uh a) hA);have HA:=zb hA;have T:=zb zA
    cases hok:Z1 ms[k]with
    | false=>
     have R:=zb (MK ms[k] _ hok C i1 i2 i3);have f:Hid (ZT ms=(k:Int)):=CO (by omega) A hok (uh P);clear hok C hA zA i1 i2 i3;go_wp2_with fail;generalize (wr.alloc (.cells #[.int .i64 ms[k].kind,.string ms[k].path,.string ms[k].src,.string ms[k].val] 95))=wA at *;refine (uh R).mono ?_;rintro e L ⟨rfl,U⟩;have HB2:=zb (zh (zh (uh a) (uh HA)) U);clear R U;go_wp2;go_ret2;exact⟨zh (zh (uh HB2) (zu _ _)) (zu _ _),fun _=>⟨_,_,rfl,by rw[uh f];exact PF _ _ 2⟩,fun h=>by rw[uh f]at h;omega⟩
    | true=>
     have R:=zb (MJ ms[k] _ hok C i1 i2 i3);have Q:Hid (∀ j (h:j<ms.length),j<k+1->Z1 ms[j]=true):=fun j h hj=>by
      by_cases e:j=k
      ·subst e;exact hok
      ·exact uh P j h (by omega)
     clear hok C hA zA i1 i2 i3;go_wp2_with fail;generalize (wr.alloc (.cells #[.int .i64 ms[k].kind,.string ms[k].path,.string ms[k].src,.string ms[k].val] 95))=wA at *;refine (uh R).mono ?_;rintro e L ⟨F,pv,fv,vv,v,rfl,X,U⟩;have x:=zh (uh HA) U;have G:=zu L (.cells #[.pointer (some ⟨F,0,none⟩)] 170);have k3:=yG L (.cells #[.pointer (some ⟨F,0,none⟩)] 170);have z02:=x.size;have z3:(L.alloc (.cells #[.pointer (some ⟨F,0,none⟩)] 170)).heap.size=L.heap.size+1:=by simp
     have hwr:=(uh a).size;have r:=ZB (ZB (uh M).row x) G;rw[n]at r;have N:=zb X;have o:=zb x;have E:=zb G;have u:=zb z3;have cx:(L.alloc (.cells #[.pointer (some ⟨F,0,none⟩)] 170)).cell? ⟨L.heap.size,0,none⟩=some (.pointer (some ⟨F,0,none⟩)):=yF k3 0;have S:=zb r;have O:=zb cx;clear R X U x G k3 z3 r cx;go_wp2_with (at_builtin;refine SA underlying126 Tc rfl (by decide) rfl (.tmp 42) (.tmp 44) rfl (B:=w.heap.size) rfl (uh S) (y:=.pointer (some ⟨F,0,none⟩)) rfl rfl (uh O) (by have:=uh u;omega) (by omega) ?_);intro lv' w4 d K D;obtain⟨la',lc',rfl⟩:∃ la lc,lv'= .slice la (k+1) lc:=by
      rcases d.2 with ⟨_,hn⟩ |⟨g,V,cur,hv,_⟩
      ·omega
      ·exact⟨_,_,hv⟩
     have J:=Wz.snoc (q:=⟨F,pv,fv,vv,v⟩) (uh M) (uh o) (uh N) (by have:=uh T;omega) hwr (uh E) (by rw[n];exact d) K (by rw[uh u];exact D);rw[← yy A]at J;have HL4:=zb J;have HB4:=zb ((zh (zh (uh a) (uh o)) (uh E)).grown K (by have:=uh u;omega) (fun b s=>((uh M).row.lt b s).1));clear J d K D M N o E u S O a HA T c0 c1 c2 c3;go_wp2;go_roundw
     case rel=>exact⟨k+1,_,by omega,by go_num,uh HB4,uh HL4,uh Q⟩
     case measure=>simp[intOf];omega
   ·have hk':k=ms.length:=by omega
    subst hk';rw[yU]at I;have f:Hid (ZT ms= -1):=CP (by omega) (fun j h=>z j h h);have M:=zb I;have a:=zb s;clear I s z ab;go_wp2;go_ret2;exact⟨uh a,fun h=>(by rw[uh f]at h;omega),fun _=>⟨_,qs,rfl,uh M⟩⟩
def zO(w:Wo)(v:JV)(x:Value):Prop:=zi w (fun k=>k<w.heap.size) v x
theorem zO.next{w w':Wo}{v:JV}{x:Value}(h:zO w v x)(hb:Bw w w'):zO w' v x:=
 zi.keep (fun k hk=>hb.block k hk) (fun _ hk=>yE hk hb.size) _ _ h
def Zg(w:Wo)(o:Nat⊕JV)(e:Ending)(w':Wo):Prop:=Bw w w' /\
 ((∃ c ev,o= .inl c/\e= .returned (.tuple #[.nilIface,ev])/\Uz w' (c:Int) ev)∨∃ u t p,o= .inr u/\e= .returned (.tuple #[.iface t p,.nilIface])/\zO w' u (.iface t p))
theorem PG(v:JV)(hv:zx v)(ts:List (List UInt8))(a:Option Addr)(g off cap:Nat)(w:Wo)(ty:TypeId)(p:Value)(hr:zO w v (.iface ty p))(hs:SS w a g off (ts.map zz))(hn:ts.length<=1048577)(ht:∀ t∈ts,t.length<=1048576):
  Calls prog 219 #[.iface ty p,.slice a ts.length cap] w (Zg w (ZM 3 (zM v ts))):=by
 have s:=zb hr;have r:=zb hv;have j:=hs.ad;have f:=zb hs.cell;simp only[yl]at j f;clear hr hs hv;go_in;go_wp2_with fail;go_loopw [6,7,13] (fun vv bv iv wr=>∃ (k:Nat) (u:JV) (ty:TypeId) (p:Value),k<=ts.length/\iv= .int .i64 (k:Int)/\bv= .bool true/\vv= .iface ty p/\zM v (ts.take k)=some u/\zx u/\zO w u (.iface ty p)/\w=wr) (fun _ _ iv _=>ts.length - (intOf iv).toNat)
 case atStart=>exact⟨0,v,ty,p,yt _,rfl,rfl,rfl,rfl,uh r,uh s,rfl⟩
 case round=>
  obtain⟨k,u,ty,p,K,rfl,rfl,rfl,q,i,b,rfl⟩:=hrel;clear s r;by_cases d:k<ts.length
  ·have F:(k:Int)<(ts.length:Int):=by omega
   obtain rfl:=j (by omega);have h:=uh f k d;rw[Xz d]at h;have A:zz (ts.getD k [])=ze ts[k]:=by simp[List.getD,d,zz,ze]
   rw[A]at h;have B:=zb (Po u i.tw ts[k] (by have:=ht _ (yr d);omega) ty p w _ b);have m:Hid (zQ u ts[k]=none->zM v ts=none):=fun hc=>TS d q hc;have l:Hid (∀ o,zQ u ts[k]=some o->zM v (ts.take (k+1))=some o/\zx o):=fun o hc=>⟨by rw[P9 d q];exact hc,i.child hc⟩;generalize ze ts[k]=st at *;clear q b A f i;go_wp2_with fail;refine (uh B).mono ?_;rintro e L ⟨rfl,⟨x,rfl,y⟩ |⟨x,o,rfl,z,n⟩⟩
   ·have I:=zb (uh m y);clear B m l h y;go_wp2;go_ret2;exact⟨zu _ _,.inl ⟨3,_,by rw[uh I];rfl,rfl,_,rfl,yG _ _⟩⟩
   ·have E:=zb (uh l o z);obtain⟨D,J,rfl⟩:=Vb n;have C:=zb n;clear B m l h z n;go_wp2;go_roundw
    case rel=>exact⟨k+1,o,D,J,by omega,by go_num,rfl,rfl,(uh E).1,(uh E).2,uh C,trivial⟩
    case measure=>simp[intOf];omega
  ·have e:ts.take k=ts:=yq (by omega);rw[e]at q;have G:=zb q;have H:=zb b;clear q b e f i;go_wp2;go_ret2;exact⟨yH _ _,.inr ⟨u,ty,p,by rw[uh G];rfl,rfl,uh H⟩⟩
theorem zcX{v:JV}(h:ZR v):zt v<=(ct v).length/\zL v<=zt v:=by
 have a:=(FC (zd4 h)).2.1;rw[Zw,(FN v).cnt]at a;exact⟨a,(Gy v).1⟩
theorem zcY(v:JV)(hr:ZR v)(htw:zy v=false)(w:Wo)(S:Nat->Prop)(t:TypeId)(p:Value)(rep:zi w S v (.iface t p))(hS:∀ k,S k->k<w.heap.size)(hP:Jd w.heap.size w)(hl:(ct v).length<=10000000):
  Calls prog 137 #[.iface t p] w fun e w'=>e= .returned (.bool (decide (zL v<=100/\zt v<=3000/\(ct v).length<=20000)))/\Bw w w':=by
 obtain⟨u,x⟩:=zcX hr;have o:=zb (Fc v (GM v hr) htw w S t p rep hS hP hl (by omega) (by omega));clear hr htw rep hS hP;generalize zL v=d at *;generalize zt v=c at *;generalize (ct v).length=n at *;obtain⟨z,m⟩:∃ z,decide (d<=100/\c<=3000/\n<=20000)=z:=⟨_,rfl⟩;rw[m];have i:=zb m;clear m;go_in;go_wp2_with fail;refine (uh o).mono ?_;rintro e y ⟨rfl,l⟩;have g:=zb (l.alloc l.size (ql d c n));clear o l;simp only[JX];by_cases b:d<=100
 ·have r:(d:Int)<=100:=by omega
  by_cases f:c<=3000
  ·have q:(c:Int)<=3000:=by omega
   by_cases j:n<=20000
   ·have s:(n:Int)<=20000:=by omega
    have a:Hid (z=true):=(uh i).symm.trans (yj ⟨b,f,j⟩);clear b f j;go_wp2;go_ret;exact⟨by rw[uh a];rfl,uh g⟩
   ·have s:¬ (n:Int)<=20000:=by omega
    have a:Hid (z=false):=(uh i).symm.trans (yk (fun h=>j h.2.2));clear b f j;go_wp2;go_ret;exact⟨by rw[uh a];rfl,uh g⟩
  ·have q:¬ (c:Int)<=3000:=by omega
   have a:Hid (z=false):=(uh i).symm.trans (yk (fun h=>f h.2.1));clear b f;go_wp2;go_ret;exact⟨by rw[uh a];rfl,uh g⟩
 ·have r:¬ (d:Int)<=100:=by omega
  have a:Hid (z=false):=(uh i).symm.trans (yk (fun h=>b h.1));clear b;go_wp2;go_ret;exact⟨by rw[uh a];rfl,uh g⟩
theorem zcZ{α:Type}{M:List α}(h:2<=M.length):∃ x M' y,M=x ::(M'++[y]):=by
 cases M with
 | nil=>simp at h
 | cons x r=>
  rcases List.eq_nil_or_concat r with rfl |⟨M',y,rfl⟩
  ·simp at h
  ·exact⟨x,M',y,by rw[List.concat_eq_append]⟩
theorem zc0(v:Value)(xs:List zl)(bl:List Nat)(w:Wo)(h:zk zT w v xs bl)(hd:bl.Nodup)(hl:xs.length<=1000):
  Calls prog 77 #[v] w fun e w'=>e= .returned (.tuple #[])/\∃ bl',zk zT w' v xs.reverse bl'/\bl'.Perm bl/\Fr v.ownBlock.toList w w':=by
 obtain⟨a,c,rfl,-,I⟩:=h.form;have H:=zb h;have V:=zb hd;clear h hd;go_in;go_wp2;go_loopw [2,3] (fun i j wr=>∃ (A M C:List zl) (n:List Nat),xs=A++(M++C)/\A.length=C.length/\i= .int .i64 (A.length:Int)/\j= .int .i64 ((xs.length:Int) - 1 - A.length)/\zk zT wr (.slice a xs.length c) (C.reverse++(M++A.reverse)) n/\n.Perm bl/\Fr (Value.slice a xs.length c).ownBlock.toList w wr) (fun i _ _=>xs.length - (intOf i).toNat)
 case atStart=>exact⟨[],xs,[],bl,by simp,rfl,rfl,by simp,by simpa using uh H,List.Perm.refl _,Fr.refl _ _⟩
 case round=>
  obtain⟨A,M,C,n,hx,d,rfl,rfl,r,p,B⟩:=hrel;have b:xs.length=A.length+M.length+C.length:=by rw[hx];simp;omega
  by_cases G:2<=M.length
  ·obtain⟨x,f,y,rfl⟩:=zcZ G;obtain⟨g,rfl⟩:=I (by omega);have s:zk zT wr (.slice (some ⟨g,0,none⟩) xs.length c) (C.reverse++x ::(f++y :: A.reverse)) n:=by simpa using r
   obtain⟨us,vs,lu,lv,k,l,fz,⟨ix,T⟩,⟨iy,U⟩,o,D,q⟩:=s.swap (p.nodup_iff.2 (uh V));simp only[yh,yn,yD]at b;rw[List.length_reverse]at k l fz D;have O:(xs.length:Int) - 1 - (C.length:Int)=((C.length+1+f.length:Nat):Int):=by omega
   obtain⟨q0,rfl,L⟩:=T;obtain⟨q1,rfl,N⟩:=U;obtain⟨P,Q,rfl,-,-⟩:=L.form;obtain⟨R,S,rfl,-,-⟩:=N.form;rw[show zT.wd=3 from rfl]at k l fz D;have hjn:C.length+1+f.length<xs.length:=by omega
   rw[d,O];generalize hJ:C.length+1+f.length=J at *;have u0:wr.cell? ⟨g,C.length*3,none⟩=_:=k 0 _ rfl;have u1:wr.cell? ⟨g,C.length*3+1,none⟩=_:=k 1 _ rfl;have u2:wr.cell? ⟨g,C.length*3+2,none⟩=_:=k 2 _ rfl;have v0:wr.cell? ⟨g,J*3,none⟩=_:=l 0 _ rfl;have v1:wr.cell? ⟨g,J*3+1,none⟩=_:=l 1 _ rfl;have v2:wr.cell? ⟨g,J*3+2,none⟩=_:=l 2 _ rfl;have g0:=fz (C.length*3) (by omega);have g1:=fz (C.length*3+1) (by omega);have g2:=fz (C.length*3+2) (by omega);have z0:=fz (J*3) (by omega);have z1:=fz (J*3+1) (by omega);have z2:=fz (J*3+2) (by omega);have i1:(C.length:Int)<(J:Int):=by omega
   have i2:(C.length:Int)<(xs.length:Int):=by omega
   have i3:(J:Int)<(xs.length:Int):=by omega
   have n1:¬ C.length=J:=by omega
   have n2:¬ J=C.length:=by omega
   have K:=zb D;have F:=zb (q.trans p);have z:=zb B;have Z:=zb hx;have W:=zb b;have hCn:C.length<=1000:=by omega
   have hJn:J<=1000:=by omega
   clear D p q B hx r s k l fz L N lu lv b G O;go_wp2;go_region;have X:Hid (zk zT ((((((wr.setCell ⟨g,C.length*3,none⟩ (.int .i64 y.no)).setCell ⟨g,C.length*3+1,none⟩ (.string y.doc)).setCell ⟨g,C.length*3+2,none⟩ (.slice R y.touched.length S)).setCell ⟨g,J*3,none⟩ (.int .i64 x.no)).setCell ⟨g,J*3+1,none⟩ (.string x.doc)).setCell ⟨g,J*3+2,none⟩ (.slice P x.touched.length Q)).drew (.slice (some ⟨g,0,none⟩) xs.length c) (C.reverse++y ::(f++x :: A.reverse)) o):=(uh K).below ((yH _ _).drew);have E:Hid (Fr (Value.slice (some ⟨g,0,none⟩) xs.length c).ownBlock.toList w ((((((wr.setCell ⟨g,C.length*3,none⟩ (.int .i64 y.no)).setCell ⟨g,C.length*3+1,none⟩ (.string y.doc)).setCell ⟨g,C.length*3+2,none⟩ (.slice R y.touched.length S)).setCell ⟨g,J*3,none⟩ (.int .i64 x.no)).setCell ⟨g,J*3+1,none⟩ (.string x.doc)).setCell ⟨g,J*3+2,none⟩ (.slice P x.touched.length Q)).drew):=by
    have m:g∈(Value.slice (some ⟨g,0,none⟩) xs.length c).ownBlock.toList:=by simp[Value.ownBlock]
    exact ((((((((uh z).set m _ _).set m _ _).set m _ _).set m _ _).set m _ _).set m _ _)).drew
   clear K z u0 u1 u2 v0 v1 v2 g0 g1 g2 z0 z1 z2;generalize World.drew _=wN at *;go_wp2;go_roundw
   case rel=>
    have b:=uh W;refine⟨A++[x],f,y :: C,o,?_,by simp[d],?_,?_,by simpa using uh X,uh F,uh E⟩
    ·rw[uh Z];simp
    ·rw[yh,d];go_num
    ·rw[yh,d,yR];congr 1;omega
   case measure=>simp[intOf];omega
  ·have u:C.reverse++(M++A.reverse)=xs.reverse:=by
    rw[hx,List.reverse_append,List.reverse_append,List.append_assoc];congr 2;rcases (show M.length=0∨M.length=1 by omega)with h | h
    ·rw[yN h];rfl
    ·obtain⟨x,rfl⟩:=List.length_eq_one_iff.1 h;rfl
   rw[u]at r;have tI:¬ (A.length:Int)<(xs.length:Int) - 1 - A.length:=by omega
   have Y:=zb r;have F:=zb p;have z:=zb B;clear r p B hx u d b G;go_wp2;go_end0;exact⟨rfl,n,uh Y,uh F,uh z⟩
structure TV(w:Wo)(wr:Wo)(p:Value)(ws:List zl)(b1:List Nat):Prop where
 bel:Bw w wr
 k1:wr.heap[w.heap.size]?=some (.cells #[.slice none 0 0] 35 (0,0))
 o1:zk zT wr p ws b1
 fs:Zj (w.heap.size+1) b1
section
variable {w wr w3:Wo} {p p':Value} {ws:List zl} {b1 b1':List Nat}
theorem TV.below(h:TV w wr p ws b1)(hb:Bw wr w3):TV w w3 p ws b1:=
 ⟨zh h.bel hb,(hb.block _ (yB.1 h.k1).1).trans h.k1,h.o1.below hb,h.fs⟩
theorem TV.snoc(h:TV w wr p ws b1)(hg:wr.grownBy w3 p.ownBlock){x:zl}(ho:zk zT w3 p' (ws++[x]) b1')(hF:Zj (w.heap.size+1) b1'):TV w w3 p' (ws++[x]) b1':=by
 have a:∀ g,p.ownBlock=some g->w.heap.size+1<=g:=fun g hg=>h.fs.2 g (h.o1.head hg);refine⟨h.bel.grown hg h.bel.size fun k hk=>by have:=a k hk;omega,?_,ho,hF⟩;exact (hg.block _ (yB.1 h.k1).1 fun e=>by have:=a _ e.symm;omega).trans h.k1
end
def Tf:Value->Nat
 | .slice _ n _=>n
 | _=>0
theorem zc1(S:Nat->Prop)(l:List zl)(v:Value)(w:Wo)(h:Zm w (fun _=>True) S l v)(hl:l.length<=1000)(ht:∀ m∈l,m.touched.length<=2097152):
  Calls prog 42 #[v] w (AU l.reverse w):=by
 obtain⟨a,rfl⟩:=h.ptr;have HH:=zb h;have HT:=zb ht;clear h ht;go_in;go_wp2;have hA:=zu w (.cells #[.slice none 0 0] 35);have kA:=yG w (.cells #[.slice none 0 0] 35);generalize w.alloc _=wA at *;have HS:Hid (TV w wA (.slice none 0 0) [] []):=⟨hA,kA,zk.nil _ _,Zj.nil _⟩;clear hA kA;go_loopw [3,4] (fun lv at' wr=>∃ (r d:List zl) (Q:List Nat),l=d++r/\Zm w (fun _=>True) S r at'/\TV w wr lv d Q) (fun lv _ _=>l.length - Tf lv)
 case atStart=>exact⟨l,[],[],rfl,uh HH,uh HS⟩
 case round=>
  obtain⟨r,d,Q,n,N,f⟩:=hrel;clear HS HH;obtain⟨la,lc,rfl,-,-⟩:=f.o1.form
  cases r with
  | nil=>
   obtain rfl:_=Value.pointer none:=N;rw[yS]at n;subst n;have i:=zb f;have HR:=zb (zc0 _ l Q wr f.o1 f.fs.1 hl);clear f;go_wp2_with fail;refine (uh HR).mono ?_;rintro e s ⟨rfl,b2,o2,p2,f2⟩;have k:∀ b∈(Value.slice la l.length lc).ownBlock.toList,w.heap.size+1<=b:=fun b k=>(uh i).fs.2 b ((uh i).o1.head (by simpa using k));have A:=(f2.block w.heap.size (yB.1 (uh i).k1).1 (fun hm=>by have:=k _ hm;omega)).trans (uh i).k1;have c0:s.cell? ⟨w.heap.size,0,none⟩=some (.slice none 0 0):=yF A 0;have fr:=yI A;have W:=zb ((uh i).bel.trans (f2.below (fun b hb'=>by have:=k b hb';omega) (uh i).bel.size));have HO2:=zb o2;have I:Hid (Zj (w.heap.size+1) b2):=⟨p2.nodup_iff.2 (uh i).fs.1,fun b k=>(uh i).fs.2 b (p2.mem_iff.1 k)⟩;have Y:=zb A;clear HR o2 p2 f2 k A;go_wp2;refine bodyPost_ret (results_cell_row rfl _ _ w.heap.size 35 #[_] (0,0) _ rfl (qV (uh Y) [_] rfl) underlying35 rfl (by kernel_rfl)) rfl ?_;exact⟨_,b2,rfl,(uh HO2).putN (g:=w.heap.size) (fun hm=>by have:=(uh I).2 _ hm;omega) [_] 0,(uh I).mono (by omega),ZL (g:=w.heap.size) (uh W) (ye _) [_] 0⟩
  | cons m r'=>
   obtain⟨b,q,t,p,v',bl,jv,rfl,-,R,h4,-,-,-,-,h8⟩:=N;obtain⟨xa,xc,rfl,-,-⟩:=h4.form;obtain⟨a',rfl⟩:=h8.ptr;have k:=(yB.1 R).1;have T:=(f.bel.block b k).trans R;have G:Bw wr wr.drew:=(yH _ _).drew;have c0:wr.cell? ⟨b,0,none⟩=some (.int .i64 m.no):=yF T 0;have c1:wr.cell? ⟨b,1,none⟩=some (.string m.doc):=yF T 1;have c2:wr.cell? ⟨b,2,none⟩=some (.slice xa m.touched.length xc):=yF T 2;have hmt:=uh HT m (by rw[n];simp);have HM:=zb (AR _ m.touched bl wr.drew (h4.below (zh f.bel G)) (by omega));have x:=zb (f.below G);have L:Hid (∀ wx,Bw w wx->wx.heap[b]?=some (.cells #[.int .i64 m.no,.string m.doc,.slice xa m.touched.length xc,.iface t p,.pointer a'] 109 (0,0))):=fun wx hx=>(hx.block b k).trans R;have H8:=zb h8;have O:d.length+r'.length+1=l.length:=by rw[n];simp;omega
   have Z:=zb n;have X:=zb O;have hd1:d.length<=1000:=by omega
   clear R h4 h8 k T G f hmt n O;go_wp2;go_region_law (first
    |(
      refine Na (e:=zT) XF (by decide) underlying33 Nc rfl (by decide) (by decide) rfl (.tmp 12) (.tmp 30) rfl rfl (uh O3) (uh J) (uh E3) (uh K) (uh H) rfl (by exact Nb s [_,_,_] _) (uh y) (by have:=(yB.1 (uh B).k1).1;omega) (by omega) ?_;intro v' w3 bl' o4 f4 m4 P;obtain⟨va,vc,rfl,-,-⟩:=o4.form)
    |(
      go_simp;refine (uh HM).mono ?_;rintro e s ⟨z,ib,rfl,C,D,M⟩;obtain⟨U,V,rfl,-,-⟩:=C.form;have o:=(uh x).below M;have F:Bw s (s.alloc (.cells #[.int .i64 m.no,.string m.doc,.slice U m.touched.length V] 57)):=zu _ _;have j:=o.below F;have O3:=zb j.o1;have J:=zb j.fs;have E3:Hid (zT.E (s.alloc (.cells #[.int .i64 m.no,.string m.doc,.slice U m.touched.length V] 57)) [.int .i64 m.no,.string m.doc,.slice U m.touched.length V] m ib):=⟨_,rfl,C.below F⟩;have hcw:w.heap.size<wr.heap.size:=(yB.1 (uh x).k1).1;have K:=zb (D.mono (B':=w.heap.size+1) (by show _<=wr.heap.size;omega));have H:Hid (∀ b∈ib,b ∉ Q):=fun b k hbl=>by have h1:wr.heap.size<=b:=D.2 b k;have h2:b<wr.heap.size:=(uh x).o1.lt b hbl;omega
      have y:Hid (∀ u∈[Value.int .i64 m.no,.string m.doc,.slice U m.touched.length V],u.oneCell'=true):=fun u hu=>by simp at hu;rcases hu with rfl | rfl | rfl<;>rfl
      have B:=zb j;have A:=uh L s o.bel;have d0:s.cell? ⟨b,0,none⟩=some (.int .i64 m.no):=yF A 0;have d1:s.cell? ⟨b,1,none⟩=some (.string m.doc):=yF A 1))
   all_goals (
    have HN:=zb ((uh B).snoc P o4 f4);have e4:w3.cell? ⟨b,4,none⟩=some (.pointer a'):=yF (uh L w3 (uh HN).bel) 4;rw[yh,yR]at HN;clear o4 f4 m4 P d0 d1 A B y H K E3 J O3 hcw j F o C D M HM x c0 c1 c2;go_wp2;go_roundw)
   all_goals first
    | exact⟨r',d++[m],_,by rw[uh Z];simp,uh H8,uh HN⟩
    |(have:=uh X;simp[Tf];omega)
theorem Tg{w:Wo}{xa:Option Addr}{xb xo n:Nat}{ss:List Bs}(h:SS w xa xb xo ss):SS w xa xb xo (ss.take n):=by
 refine⟨fun h0=>h.ad (by rw[ym]at h0;omega),fun j hj=>?_⟩;rw[ym]at hj;rw[h.cell j (by omega)];congr 2;simp only[List.getD_eq_getElem?_getD];rw[List.getElem?_take_of_lt (by omega)]
theorem zc2(xa:Option Addr)(xb xc:Nat)(r:List (List UInt8))(t:List UInt8)(w:Wo)(h:SS w xa xb 0 ((r++[t]).map zz))(hm:r.length+1+Q9 (r++[t])<=1048576):
  (Calls prog 68 #[.slice xa r.length xc] w fun e w'=>e= .returned (.string (ze (ZY r)))/\Bw w w') /\
  (Calls prog 68 #[.slice xa (r.length+1) xc] w fun e w'=>e= .returned (.string (ze (ZY (r++[t]))))/\Bw w w'):=by
 rw[UX]at hm;constructor
 ·have a:=Tg (n:=r.length) h;rw[← List.map_take,List.take_left]at a;have:=OA xa xb 0 xc (r.map zz) w a (by rw[UY,yl];omega);rw[yl,Wf]at this;exact this
 ·have:=OA xa xb 0 xc ((r++[t]).map zz) w h (by rw[UY,yl,UX,yh];simp;omega);rw[yl,Wf,yh]at this;exact this
theorem Fl{B:Nat}(v:Value)(ts:List (List UInt8))(w:Wo)(h:OT w B v ts)(hm:ts.length+Q9 ts<=1048576):
  Calls prog 69 #[v] w fun e w'=>e= .returned (.string (ze (ZY (Qi ts))))/\Bw w w':=by
 obtain⟨a,g,u,rfl,E,-⟩:=h.shape;rcases List.eq_nil_or_concat ts with rfl |⟨r,t,rfl⟩
 ·clear h E hm;go_in;go_wp2;go_ret;exact⟨rfl,yH _ _⟩
 ·rw[List.concat_eq_append]at *;rw[yh,yR]at hm;obtain⟨s,rfl⟩:∃ s:Bs,t=s.data.toList:=⟨ze t,by simp[ze]⟩;have L:Hid (∀ wx,Bw w wx->_):=fun wx hx=>zc2 a g u r s.data.toList wx (E.below hx) hm;obtain rfl:=E.ad (by simp);have c0:=E.cell r.length (by simp);rw[show ((r++[s.data.toList]).map zz).getD r.length ByteArray.empty=s by simp[List.getD_eq_getElem?_getD,zz],Nat.zero_add]at c0;have I:(r++[s.data.toList]).length=r.length+1:=by simp
  have W:r.length<=u:=by
   rcases h.2 with ⟨F,T⟩ |⟨g',M,S,F,_,_,U,_⟩
   ·simp at T
   ·injection F with _ _ F;rw[F];rw[I]at U;omega
  have N:(r.length:Int)<=(u:Int):=by omega
  rw[I];have X:r.length<=1048576:=by omega
  have Y:s.size<=1048576:=by rw[UX,Zn]at hm;omega
  have b:Hid (Yg s.data.toList=true->Qi (r++[s.data.toList])=r):=Fg;have j:Hid (Yg s.data.toList=false->Qi (r++[s.data.toList])=r++[s.data.toList]):=Fh;have A:Hid ((!s.toList.isEmpty)=(s.data.toList !=[])):=by show _=_;rw[ByteArray.toList_eq];cases s.data.toList<;>rfl
  clear h E hm I;generalize hR:r.length=n at *;generalize Qi (r++[s.data.toList])=sh at *;have K:Hid (∀ (k:Nat) (O:k<s.size) (w:Wo),Calls prog 108 #[.int .u8 (s[k].toNat:Int)] w (Rk (.bool (zI s[k].toNat)) w)):=fun k O w=>Pd s[k].toNat w;go_in;go_wp2;go_loopw [5,6] (fun d i wr=>∃ k:Nat,k<=s.size/\i= .int .i64 k/\d= .bool (s.data.toList !=[] && (s.data.toList.take k).all fun c=>zI c.toNat)/\Bw w wr) (fun _ i _=>s.size - (intOf i).toNat)
  case atStart=>exact⟨0,yt _,rfl,by simpa using uh A,yH _ _⟩
  case round=>
   obtain⟨k,O,rfl,rfl,y⟩:=hrel;by_cases C:k<s.size
   ·have P:(k:Int)<(s.size:Int):=by omega
    have o:=WM s k C;have G:=zb (uh K k C);have x:=zb y
    cases hdg:(s.data.toList !=[] && (s.data.toList.take k).all fun c=>zI c.toNat)with
    | true=>
     have q:Hid ((s.data.toList !=[] && (s.data.toList.take (k+1)).all fun c=>zI c.toNat)=zI s[k].toNat):=by
      show _=_
      rw[o,List.all_append,← Bool.and_assoc,hdg];simp
     generalize zI s[k].toNat=z at *;clear hdg o y;go_wp2_with fail;refine (uh G _).mono ?_;rintro e J ⟨rfl,rfl⟩;go_wp2;go_roundw
     case rel=>exact⟨k+1,by omega,by go_num,by rw[uh q],uh x⟩
     case measure=>simp[intOf];omega
    | false=>
     have q:Hid ((s.data.toList !=[] && (s.data.toList.take (k+1)).all fun c=>zI c.toNat)=false):=by
      show _=_
      rw[o,List.all_append,← Bool.and_assoc,hdg];simp
     clear hdg o y;go_wp2;go_roundw
     case rel=>exact⟨k+1,by omega,by go_num,by rw[uh q],uh x⟩
     case measure=>simp[intOf];omega
   ·have H:k=s.size:=by omega
    subst H;rw[Xf];have x:=zb y;obtain⟨Q,R⟩:=uh L wr y;have l:=zb Q;have m:=zb R;clear L Q R K A y;have D:Yg s.data.toList=((s.data.toList !=[] && s.data.toList.all fun c=>zI c.toNat) || s.data.toList ==[45]):=rfl;have V:(s.toList ==[45])=(s.data.toList ==[45]):=by rw[ByteArray.toList_eq]
    rw[D]at b j;clear D;generalize (s.data.toList !=[] && s.data.toList.all fun c=>zI c.toNat)=dg at *;generalize (s.data.toList ==[45])=Z at *
    cases dg with
    | true=>
     obtain rfl:=uh b rfl;clear b j m;go_wp2_with fail;refine (uh l).mono ?_;rintro e J ⟨rfl,p⟩;have f:=zb (zh (uh x) p);clear p l;go_wp2;go_ret;exact⟨rfl,uh f⟩
    | false=>
     cases Z with
     | true=>
      obtain rfl:=uh b rfl;clear b j m;go_wp2_with fail;refine (uh l).mono ?_;rintro e J ⟨rfl,p⟩;have f:=zb (zh (uh x) p);clear p l;go_wp2;go_ret;exact⟨rfl,uh f⟩
     | false=>
      obtain rfl:=uh j rfl;clear b j l;go_wp2_with fail;refine (uh m).mono ?_;rintro e J ⟨rfl,p⟩;have f:=zb (zh (uh x) p);clear p m;go_wp2;go_ret;exact⟨rfl,uh f⟩
theorem zc3(v:Value)(ms:List zw)(bl:List Nat)(w:Wo)(h:zk Zh w v ms bl)(hs:Z4 ms<=1048576):
  Calls prog 37 #[v] w fun e w'=>∃ r,e= .returned r/\OT w' w.heap.size r (ZF ms)/\Bw w w':=by
 have hin:=K6 hs;obtain⟨xa,xc,rfl,-,hxa⟩:=h.form;have hln:ms.length<=1048576:=by unfold Z4 at hs;omega
 have H:=zb h;have HXA:=zb hxa;have HIN:=zb hin;have HO0:Hid (OT (w.alloc (.cells #[] 9)) w.heap.size (.slice (some ⟨w.heap.size,0,none⟩) 0 0) []):=World.ownsRow_lit w #[] 0 (ye _) (by unfold maxLen;omega) rfl;have HB0:Hid (Bw w (w.alloc (.cells #[] 9))):=(yH _ _).alloc (ye _) _;clear h hxa hs hin;by_cases M:100<ms.length
 ·have t100:(100:Int)<(ms.length:Int):=by omega
  have HZ:Hid (ZF ms=[]):=by show _=_;unfold ZF;rw[yg M]
  go_in;go_wp2;go_ret;exact⟨_,rfl,by rw[uh HZ];exact uh HO0,uh HB0⟩
 ·have t100:¬ (100:Int)<(ms.length:Int):=by omega
  have HZ:Hid (ZF ms=qC (QG ms)):=by show _=_;unfold ZF;rw[yf M]
  go_in;go_wp2;go_loopw [3,4] (fun lv i wr=>∃ k:Nat,k<=ms.length/\i= .int .i64 k/\OT wr w.heap.size lv (QG (ms.take k))/\Bw w wr) (fun _ i _=>ms.length - (intOf i).toNat)
  case atStart=>exact⟨0,yt _,rfl,uh HO0,uh HB0⟩
  case round=>
   obtain⟨k,hk,rfl,ho,y⟩:=hrel;have hal:(QG (ms.take k)).length<=1000:=by
    have:=KC (ms.take k);rw[ym]at this;omega
   have q:=zb ho;have N:=zb y;have hbz:=y.size;by_cases ab:k<ms.length
   ·have X:Hid (QG (ms.take (k+1))=QG (ms.take k)++QM ms[k]):=MR ab;obtain⟨g,rfl⟩:=uh HXA (by omega);obtain⟨cs,ib,hE,hc,-⟩:=((uh H).below y).at (yx ab);obtain⟨rfl,-⟩:=hE;obtain⟨i1,i2,i3⟩:=uh HIN ms[k] (yr ab);have c0:wr.cell? ⟨g,k*4,none⟩=some (.int .i64 ms[k].kind):=(hc 0 _ rfl).1;have c1:wr.cell? ⟨g,k*4+1,none⟩=some (.string ms[k].path):=(hc 1 _ rfl).1;have c2:wr.cell? ⟨g,k*4+2,none⟩=some (.string ms[k].src):=(hc 2 _ rfl).1;have c3:wr.cell? ⟨g,k*4+3,none⟩=some (.string ms[k].val):=(hc 3 _ rfl).1;clear hc ho y;generalize ms[k]=m at *;generalize QG (ms.take k)=A at *;have hA:=zu wr (.cells #[.int .i64 m.kind,.string m.path,.string m.src,.string m.val] 95);have kA:=yG wr (.cells #[.int .i64 m.kind,.string m.path,.string m.src,.string m.val] 95);have zA:(wr.alloc (.cells #[.int .i64 m.kind,.string m.path,.string m.src,.string m.val] 95)).heap.size=wr.heap.size+1:=by simp
    have HOK:=zb (CK m (wr.alloc (.cells #[.int .i64 m.kind,.string m.path,.string m.src,.string m.val] 95)) i1 i2 i3);have HA:=zb hA;have HKA:=zb kA;have Y:=zb zA;clear hA kA zA;go_wp2_with fail;generalize (wr.alloc (.cells #[.int .i64 m.kind,.string m.path,.string m.src,.string m.val] 95))=wA at *;refine (uh HOK).mono ?_;rintro e w2 ⟨rfl,Z⟩;have b02:=zh (uh HA) Z;have k2:=(Z.block wr.heap.size (by have:=uh Y;omega)).trans (uh HKA);have U:Hid (wr.heap.size<w2.heap.size):=by show _<_;have:=uh Y;have:=Z.size;omega
    have s:=zb b02;have HK2:=zb k2;have d1:w2.cell? ⟨wr.heap.size,1,none⟩=some (.string m.path):=yF k2 1;clear c0 c1 c2 c3 Z k2 b02 HA HKA Y HOK
    cases hok:Z1 m with
    | false=>
     have HT:Hid (QM m=[]):=by show _=_;unfold QM;rw[hok];rfl
     have HBN:=zb (zh (uh N) (uh s));have HON:=zb (ZB (uh q) (uh s));clear hok;go_wp2;go_roundw
     case rel=>exact⟨k+1,by omega,by go_num,by rw[uh X,uh HT,yS];exact uh HON,uh HBN⟩
     case measure=>simp[intOf];omega
    | true=>
     obtain⟨q1,q6,qp,qs,-,-,-⟩:=MM hok;have C:Hid (QM m=YT m):=by show _=_;unfold QM;rw[hok];rfl
     have lp:=Fi qp;have ls:=Fi qs;have lps:=MP (Zy m.path);have lss:=MP (Zy m.src);have u:Hid ((Zy m.path).length+Q9 (Zy m.path)<=1048576/\(Zy m.src).length+Q9 (Zy m.src)<=1048576):=⟨by omega,by omega⟩;have T:=zb (Wa m.path w2 i1);have f:Hid (∀ wx,Calls prog 67 #[.string m.src] wx fun e w'=>∃ v,e= .returned (.tuple #[v,.bool (zG m.src.data.toList).isSome])/\OT w' wx.heap.size v (Zy m.src)/\Bw wx w'):=fun wx=>Wa m.src wx i2;rw[qp]at T;rw[qs]at f;clear hok lp ls lps lss qp qs i1 i2 i3;go_wp2_with fail;refine (uh T).mono ?_;rintro e w3 ⟨pv,rfl,op3,b3⟩;have k3:=(b3.block wr.heap.size (uh U)).trans (uh HK2);have d2:w3.cell? ⟨wr.heap.size,2,none⟩=some (.string m.src):=yF k3 2;have HB3:=zb (zh (uh s) b3);have V:Hid (wr.heap.size<w3.heap.size):=yE (uh U) b3.size;have HO3:Hid (OT w3 w2.heap.size pv (Zy m.path)):=op3;have HK3:=zb k3;have L:=zb (uh f w3);clear T f op3 b3 k3 d1 s HK2;go_wp2_with fail;refine (uh L).mono ?_;rintro e J ⟨fv,rfl,of4,b4⟩;have k4:=(b4.block wr.heap.size (uh V)).trans (uh HK3);have e0:J.cell? ⟨wr.heap.size,0,none⟩=some (.int .i64 m.kind):=yF k4 0;have I:=zb (zh (uh HB3) b4);have HS4:Hid (wr.heap.size<J.heap.size):=yE (uh V) b4.size;have f:=zb (ZB (uh HO3) b4);have P:Hid (OT J w3.heap.size fv (Zy m.src)):=of4;have Q:=zb k4;clear L of4 b4 k4 d2 HB3 HK3 HO3 U;obtain⟨l,a,j,val⟩:=m;simp only at q1 q6 e0;have hkk:l=1∨l=2∨l=3∨l=4∨l=5∨l=6:=by omega
     clear q1 q6;rcases hkk with rfl | rfl | rfl | rfl | rfl | rfl
     all_goals
      first
       |(
         have D:Hid (QM ⟨_,a,j,val⟩=[ZY (Qi (Zy a))]):=uh C;have K:=zb (Fl pv _ J (uh f) (uh u).1);generalize ZY (Qi (Zy a))=G at *)
       |(
         have D:Hid (QM ⟨_,a,j,val⟩=[ZY (Zy a)]):=uh C;have K:=zb (SU pv _ J (uh f) (uh u).1);generalize ZY (Zy a)=G at *)
       |(
         have D:Hid (QM ⟨_,a,j,val⟩=[ZY (Qi (Zy a)),ZY (Qi (Zy j))]):=uh C;have K:=zb (Fl pv _ J (uh f) (uh u).1);have O:=zb fun wx (h:OT wx w3.heap.size fv (Zy j))=>Fl fv _ wx h (uh u).2;generalize ZY (Qi (Zy a))=G,ZY (Qi (Zy j))=x2 at *)
       |(
         have D:Hid (QM ⟨_,a,j,val⟩=[ZY (Qi (Zy a)),ZY (Zy j)]):=uh C;have K:=zb (Fl pv _ J (uh f) (uh u).1);have O:=zb fun wx (h:OT wx w3.heap.size fv (Zy j))=>SU fv _ wx h (uh u).2;generalize ZY (Qi (Zy a))=G,ZY (Zy j)=x2 at *)
      clear C;go_wp2_with fail;refine (uh K).mono ?_;rintro e w5 ⟨rfl,b5⟩;have hC:=zu w5 (.cells #[.string (ze G)] 9);have x:=zh b5 hC;have cC:(w5.alloc (.cells #[.string (ze G)] 9)).cell? ⟨w5.heap.size,0,none⟩=some (.string (ze G)):=yF (yG w5 (.cells #[.string (ze G)] 9)) 0;have n:=zb cC;have o:=zb (ZB (uh q) (zh (uh I) x));have d:=zb (zh (uh I) x);have R:=zb ((x.block wr.heap.size (uh HS4)).trans (uh Q));have z:=zb (ZB (uh P) x);have W:Hid (J.heap.size<=(w5.alloc (.cells #[.string (ze G)] 9)).heap.size):=x.size;have HS5:Hid (J.heap.size<=w5.heap.size):=b5.size;clear hC x cC b5 K e0;go_wp2_with (at_builtin;first | refine Xr rfl (.tmp 53) (.tmp 56) rfl (B:=w.heap.size) rfl (uh o) rfl (uh n) (by have h1:=(uh d).size;omega) (by omega) ?_ | refine Xr rfl (.tmp 48) (.tmp 51) rfl (B:=w.heap.size) rfl (uh o) rfl (uh n) (by have h1:=(uh d).size;omega) (by omega) ?_);generalize (w5.alloc (.cells #[.string (ze G)] 9))=wC at *;intro l6 w6 o6 g6 wh6;have F:∀ b,wr.heap.size<=b->¬ some b=u3.ownBlock:=fun b y e=>by have h1:=((uh q).lt b e.symm).2;omega
      have hzC:=uh W;have hz4:=uh HS4;have k6:=(g6.block wr.heap.size (by omega) (F _ (ye _))).trans (uh R);have HB6:=zb ((zh (uh N) (uh d)).grown g6 (by have:=(uh d).size;omega) (fun b y=>((uh q).lt b y).1));have e6:w6.cell? ⟨wr.heap.size,0,none⟩=some (.int .i64 _):=yF k6 0;have S:=zb o6
      first
       |(
        have HC7:=zb (uh O w6 (EM (uh z) (fun b y=>g6.block b ((uh z).lt b y).2 (F b (by have h1:=((uh z).lt b y).1;have h2:=uh V;omega)))));have HNE6:Hid (¬ some wr.heap.size=l6.ownBlock):=fun e=>by
         rcases wh6 with h | h
         ·exact F _ (ye _) (e.trans h)
         ·rw[h]at e;injection e with e;have:=uh HS5;omega
        have HK6:=zb k6;clear k6 g6 o6 wh6 o n d R z W hzC hz4 F P f Q I O;go_wp2_with fail;refine (uh HC7).mono ?_;rintro e w7 ⟨rfl,b7⟩;have hC:=zu w7 (.cells #[.string (ze x2)] 9);have E:=zh b7 hC;have cC:(w7.alloc (.cells #[.string (ze x2)] 9)).cell? ⟨w7.heap.size,0,none⟩=some (.string (ze x2)):=yF (yG w7 (.cells #[.string (ze x2)] 9)) 0;have n:=zb cC;have o:=zb (ZB (uh S) E);have d:=zb (zh (uh HB6) E);have e7:=(b7.cell (p:=⟨wr.heap.size,0,none⟩) (yJ _ _ e6)).trans e6;have HKD:=zb ((E.block wr.heap.size (yJ _ _ e6)).trans (uh HK6));have HSD:Hid (wr.heap.size<(w7.alloc (.cells #[.string (ze x2)] 9)).heap.size):=yE (yJ _ _ e6) E.size;clear hC E cC HC7 b7 e6;have aa:(A++[G]).length<=1000000:=by rw[yh,yR];omega
        go_wp2_with (at_builtin;first | refine Xr rfl (.tmp 61) (.tmp 64) rfl (B:=w.heap.size) rfl (uh o) rfl (uh n) (by have h1:=(uh d).size;omega) aa ?_ | refine Xr rfl (.tmp 69) (.tmp 72) rfl (B:=w.heap.size) rfl (uh o) rfl (uh n) (by have h1:=(uh d).size;omega) aa ?_);generalize (w7.alloc (.cells #[.string (ze x2)] 9))=wD at *;intro l8 w8 o8 g8 wh8;clear wh8;have HB8:=zb ((uh d).grown g8 (by have:=(uh d).size;omega) (fun b y=>((uh S).lt b y).1));have HO8:=zb o8;have k8:=(g8.block wr.heap.size (uh HSD) (uh HNE6)).trans (uh HKD);have e8:w8.cell? ⟨wr.heap.size,0,none⟩=some (.int .i64 _):=yF k8 0;clear k8 g8 o8 e7 o n d HKD HSD aa;go_wp2;go_roundw
        case rel=>exact⟨k+1,by omega,by go_num,by rw[uh X,uh D];exact uh HO8,uh HB8⟩
        case measure=>simp[intOf];omega)
       |(
        clear k6 g6 o6 wh6 o n d R z W hzC hz4 F P f Q I;go_wp2;go_roundw
        case rel=>exact⟨k+1,by omega,by go_num,by rw[uh X,uh D];exact uh S,uh HB6⟩
        case measure=>simp[intOf];omega)
   ·have hkn:k=ms.length:=by omega
    subst hkn;rw[yU]at q hal;have K:=zb (Bn _ _ wr (uh q) (by omega));clear ho y;go_wp2_with fail;refine (uh K).mono ?_;rintro e w2 ⟨r,rfl,o2,Z⟩;have HO2:=zb (qT o2 hbz);have s:=zb (zh (uh N) Z);clear K o2 Z;go_wp2;go_ret;exact⟨r,rfl,by rw[uh HZ];exact uh HO2,uh s⟩
def Fm:Bs:=⟨#[48,49,50,51,52,53,54,55,56,57]⟩
theorem zc4(c:UInt8):(Fm.data.toList.contains c)=zI c.toNat:=by
 rw[Bool.eq_iff_iff,Qo];show ([48,49,50,51,52,53,54,55,56,57]:List UInt8).contains c=true↔_
 rw[List.contains_iff_mem];constructor
 ·intro h;simp only[List.mem_cons,List.not_mem_nil,or_false]at h;rcases h with rfl | rfl | rfl | rfl | rfl | rfl | rfl | rfl | rfl | rfl<;>decide
 ·rintro⟨a,b⟩;have e:c=UInt8.ofNat c.toNat:=by rw[UInt8.ofNat_toNat]
  have:c.toNat=48∨c.toNat=49∨c.toNat=50∨c.toNat=51∨c.toNat=52∨c.toNat=53∨c.toNat=54∨c.toNat=55∨c.toNat=56∨c.toNat=57:=by omega
  rcases this with h | h | h | h | h | h | h | h | h | h<;>(rw[h]at e;subst e;decide)
theorem zc5(t:List UInt8):Lib.trimLeftS t Fm.data.toList=t.dropWhile fun c=>zI c.toNat:=by
 unfold Lib.trimLeftS;congr 1;funext c;exact zc4 c
theorem Th:∀ (t:List UInt8),(t.dropWhile fun c=>zI c.toNat)=[]↔t.all (fun c=>zI c.toNat)=true
 | []=>by simp
 | c :: r=>by
  rw[List.dropWhile_cons,List.all_cons]
  cases h:zI c.toNat with
  | true=>simpa using Th r
  | false=>simp
theorem zc6(s:Bs)(w:Wo):
  Calls prog 222 #[.string s,.string Fm] w fun e w'=>e= .returned (.string (ze (s.data.toList.dropWhile fun c=>zI c.toNat)))/\Bw w w':=by
 have:=Any.strings_TrimLeft_laid Tryz.laysTrim (by kernel_rfl) s Fm w (by decide) (ascii_of_all (by decide));rw[zc5]at this;exact this
theorem zc7{B:Nat}(v:Value)(ts:List (List UInt8))(w:Wo)(h:OT w B v ts)(hm:ts.length+Q9 ts<=1048576):
  Calls prog 192 #[v] w fun e w'=>e= .returned (.string (ze (ZY ts)))/\Bw w w':=by
 obtain⟨a,g,b,rfl,d,_⟩:=h.shape;have e:ts.length=(ts.map zz).length:=by simp
 have:=Sv a g 0 b (ts.map zz) w d (by rw[UY,← e];exact hm);rw[← e,Wf]at this;exact this
theorem zc8(xa:Option Addr)(xb xc:Nat)(r:List (List UInt8))(t:List UInt8)(w:Wo)(h:SS w xa xb 0 ((r++[t]).map zz))(hm:r.length+1+Q9 (r++[t])<=1048576):
  Calls prog 192 #[.slice xa r.length xc] w fun e w'=>e= .returned (.string (ze (ZY r)))/\Bw w w':=by
 rw[UX]at hm;have a:=Tg (n:=r.length) h;rw[← List.map_take,List.take_left]at a;have:=Sv xa xb 0 xc (r.map zz) w a (by rw[UY,yl];omega);rw[yl,Wf]at this;exact this
theorem zc9(s:Bs)(w:Wo):
  Calls prog 191 #[.string s] w fun e w'=>e= .returned (.bool (Yg s.data.toList))/\Bw w w':=by
 have i:(s.toList ==[45])=(s.data.toList ==[45]):=by rw[ByteArray.toList_eq]
 have j:s.toList.isEmpty=(s.data.toList ==[]):=by rw[ByteArray.toList_eq];cases s.data.toList<;>rfl
 have d:=zb (zc6 s w);have b:(ze (s.data.toList.dropWhile fun c=>zI c.toNat)).toList.isEmpty=s.data.toList.all fun c=>zI c.toNat:=by
  rw[ByteArray.toList_eq,Bool.eq_iff_iff,List.isEmpty_iff];exact Th s.data.toList
 have a:Yg s.data.toList=((!(s.data.toList ==[]) && s.data.toList.all fun c=>zI c.toNat) || s.data.toList ==[45]):=rfl;rw[a];clear a;generalize ze (s.data.toList.dropWhile fun c=>zI c.toNat)=m at *;generalize (s.data.toList.all fun c=>zI c.toNat)=l at *;generalize (s.data.toList ==[])=h at *;generalize (s.data.toList ==[45])=k at *
 cases k with
 | true=>
  clear d b;go_in;go_wp2;go_ret;exact⟨by simp,yH _ _⟩
 | false=>
  cases h with
  | true=>
   clear d b;go_in;go_wp2;go_ret;exact⟨by simp,yH _ _⟩
  | false=>
   go_in;go_wp2_with fail;refine (uh d).mono ?_;rintro e n ⟨rfl,f⟩;have g:=zb f;clear f d;go_wp2;go_ret;exact⟨by simp,uh g⟩
theorem Ti{B:Nat}(b:Bool)(v:Value)(ts:List (List UInt8))(w:Wo)(h:OT w B v ts)(hm:ts.length+Q9 ts<=1048576):
  Calls prog 167 #[v,.bool b] w fun e w'=>e= .returned (.string (ze (ZY (if b then Qi ts else ts))))/\Bw w w':=by
 have d:Hid (∀ wx,Bw w wx->Calls prog 192 #[v] wx (Rb (.string (ze (ZY ts))) wx)):=fun wx hx=>zc7 v ts wx (ZB h hx) hm
 cases b with
 | false=>
  obtain⟨a,g,k,rfl,-,-⟩:=h.shape;have y:ts.length<=1048576:=by omega
  rw[yf (by simp)];have j:=zb (uh d w (yH _ _));clear h hm d;go_in;go_wp2_with fail;refine (uh j).mono ?_;rintro e u ⟨rfl,f⟩;have l:=zb f;clear f j;go_wp2;go_ret;exact⟨rfl,uh l⟩
 | true=>
  rw[yg rfl];obtain⟨a,g,k,rfl,q,-⟩:=h.shape;rcases List.eq_nil_or_concat ts with rfl |⟨r,t,rfl⟩
  ·have j:=zb (uh d w (yH _ _));clear h q hm d;go_in;go_wp2_with fail;refine (uh j).mono ?_;rintro e u ⟨rfl,f⟩;have l:=zb f;clear f j;go_wp2;go_ret;exact⟨rfl,uh l⟩
  ·rw[List.concat_eq_append]at *;obtain⟨s,rfl⟩:∃ s:Bs,t=s.data.toList:=⟨ze t,by simp[ze]⟩;rw[yh,yR]at hm;have A:Hid (∀ wx,Bw w wx->_):=fun wx hx=>zc8 a g k r s.data.toList wx (q.below hx) hm;obtain rfl:=q.ad (by simp);have c0:=q.cell r.length (by simp);rw[show ((r++[s.data.toList]).map zz).getD r.length ByteArray.empty=s by simp[List.getD_eq_getElem?_getD,zz],Nat.zero_add]at c0;have y:(r++[s.data.toList]).length=r.length+1:=by simp
   have H:r.length<=k:=by
    rcases h.2 with ⟨z,F⟩ |⟨L,C,E,z,_,_,G,_⟩
    ·simp at F
    ·injection z with _ _ z;rw[z];rw[y]at G;omega
   have D:(r.length:Int)<=(k:Int):=by omega
   rw[y]at d ⊢;have I:r.length<=1048576:=by omega
   have o:Hid (Yg s.data.toList=true->Qi (r++[s.data.toList])=r):=Fg;have m:Hid (Yg s.data.toList=false->Qi (r++[s.data.toList])=r++[s.data.toList]):=Fh;have x:=zb (zc9 s w);clear h q hm y;generalize hR:r.length=n at *;clear hR;generalize Qi (r++[s.data.toList])=M at *;generalize Yg s.data.toList=J at *
   cases J with
   | true=>
    obtain rfl:=uh o rfl;clear o m d;go_in;go_wp2_with fail;refine (uh x).mono ?_;rintro e u ⟨rfl,f⟩;have j:=zb (uh A u f);have i:=zb f;clear x A f c0;go_wp2_with fail;refine (uh j).mono ?_;rintro e K ⟨rfl,p⟩;have l:=zb (zh (uh i) p);clear p j i;go_wp2;go_ret;exact⟨rfl,uh l⟩
   | false=>
    obtain rfl:=uh m rfl;clear o m A;go_in;go_wp2_with fail;refine (uh x).mono ?_;rintro e u ⟨rfl,f⟩;have j:=zb (uh d u f);have i:=zb f;clear x d f c0;go_wp2_with fail;refine (uh j).mono ?_;rintro e K ⟨rfl,p⟩;have l:=zb (zh (uh i) p);clear p j i;go_wp2;go_ret;exact⟨rfl,uh l⟩
theorem zda(w:Wo)(x:List UInt8):OT (w.alloc (.cells #[.string (ze x)] 9)) w.heap.size (.slice (some ⟨w.heap.size,0,none⟩) 1 1) [x]:=
 World.ownsRow_lit w #[.string (ze x)] 1 (ye _) (by unfold maxLen;omega) rfl
theorem zdb(m:zw)(B g:Nat)(pv fv vv:Value)(v:JV)(w:Wo)(h:Uw w B m g pv fv vv v)(hok:Z1 m=true)(h1:m.path.size<=1048576)(h2:m.src.size<=1048576):
  Calls prog 140 #[.pointer (some ⟨g,0,none⟩)] w fun e w'=>∃ r,e= .returned r/\OT w' w.heap.size r (YT m)/\Bw w w':=by
 obtain⟨i0,hi,P,Q,R⟩:=info_parts G1;obtain⟨-,-,Y,qs,-,-,-⟩:=MM hok;have lp:=Fi Y;have ls:=Fi qs;have kb:=h.blk;have O:g<w.heap.size:=(yB.1 kb).1;have i:Hid (∀ wx,Bw w wx->wx.heap[g]?=some (GB m.kind pv fv vv)):=fun wx hx=>(hx.block g O).trans kb;have T:Hid (∀ wx,Bw w wx->Calls prog 167 #[pv,.bool (VA m.kind)] wx (Rb (.string (ze (ZY (Kz m)))) wx)):=fun wx hx=>Ti _ pv _ wx (ZB h.path hx) (by omega);have S:Hid (∀ wx,Bw w wx->Calls prog 167 #[fv,.bool (Vz m.kind)] wx (Rb (.string (ze (ZY (KA m)))) wx)):=fun wx hx=>Ti _ fv _ wx (ZB h.src hx) (by omega);have a:Hid (YT m=ZY (Kz m) ::(if Q5 m.kind then [ZY (KA m)]else [])):=rfl;have l:Bw w w.drew:=(yH _ _).drew;have kd:=uh i w.drew l;unfold GB at kd i;clear h hok Y qs lp ls kb h1 h2;generalize ZY (Kz m)=n at *;generalize ZY (KA m)=C at *;generalize VA m.kind=sp at *;generalize Vz m.kind=sf at *;generalize YT m=Z at *;have d7:w.drew.cell? ⟨g,7,none⟩=some pv:=yF kd 7;have d5:w.drew.cell? ⟨g,5,none⟩=some (.bool sp):=yF kd 5;have G:=zb (uh T w.drew l);clear kd T;go_in;go_wp2_with fail;go_region_law (go_simp;refine (uh G).mono ?_;rintro e p ⟨rfl,U⟩)
 all_goals (
  have s:=zh l U;have W:=zu p (.cells #[.string (ze n)] 9);have M:=zh s W;have X:=uh i _ M;have z:=s.size;have zA:(p.alloc (.cells #[.string (ze n)] 9)).heap.size=p.heap.size+1:=by simp
  have q:=zb (qT (zda p n) z);have d:=zb M;have y:(p.alloc (.cells #[.string (ze n)] 9)).cell? ⟨g,2,none⟩=some (.bool (Q5 m.kind)):=yF X 2;have HZA:Hid (w.heap.size<(p.alloc (.cells #[.string (ze n)] 9)).heap.size):=by show _<_;omega
  have HZ2:Hid (w.heap.size<=p.heap.size):=z;clear s W M z zA U d7 d5 G X l
  cases hf:Q5 m.kind with
  | false=>
   rw[hf]at a y;have L:Hid (Z=[n]):=uh a;clear hf a;go_wp2;go_ret;exact⟨_,rfl,by rw[uh L];exact uh q,uh d⟩
  | true=>
   rw[hf]at a y;have L:Hid (Z=[n]++[C]):=uh a;generalize hwA:p.alloc (.cells #[.string (ze n)] 9)=A at *;clear hf a hwA;have k:Bw A A.drew:=(yH _ _).drew;have kd:=uh i A.drew (zh (uh d) k);have e8:A.drew.cell? ⟨g,8,none⟩=some fv:=yF kd 8;have e4:A.drew.cell? ⟨g,4,none⟩=some (.bool sf):=yF kd 4;have E:=zb (uh S A.drew (zh (uh d) k));clear kd S;go_wp2_with fail;go_region_law (first
    |(
      go_simp;refine (uh E).mono ?_;rintro e I ⟨rfl,V⟩;have x:=zh k V;have N:=zu I (.cells #[.string (ze C)] 9);have F:=zb (ZB (ZB (uh q) x) N);have D:Hid (∀ j u,[Value.string (ze C)][j]?=some u->(I.alloc (.cells #[.string (ze C)] 9)).cell? ((⟨I.heap.size,0,none⟩:Addr).add j)=some u):=QD _ _ _;have f:=zb (zh (uh d) (zh x N));clear N)
    |(
      refine F1 rfl (.tmp 20) (.tmp 31) 55 rfl w.heap.size 9 i0 (.string ByteArray.empty) 1 16 underlying55 hi P Q R rfl (by decide) _ _ _ rfl (by exact uh F) ⟨I.heap.size,0,none⟩ 1 1 [.string (ze C)] rfl rfl (by exact uh D) (Vv _) (by rw[yR];unfold maxLen;decide) (by rw[yR];decide) (by exact (uh f).size) ?_;intro v5 w5 o H))
   all_goals (
    have J:=zb ((uh f).grown H (uh f).size (fun b hb=>((uh q).lt b hb).1));have K:Hid (OT w5 w.heap.size v5 ([n]++[C])):=o;clear o H F D f V x k e8 e4 E y;go_wp2;go_ret;exact⟨v5,rfl,by rw[uh L];exact uh K,uh J⟩))
theorem zdc(v:Value)(ms:List zw)(bl:List Nat)(w:Wo)(h:zk Zh w v ms bl)(hs:Z4 ms<=1048576)(hw:Qh w):
  Calls prog 111 #[v] w fun e w'=>∃ r,e= .returned r/\OT w' w.heap.size r (ZF ms)/\Bw w w':=by
 have N:=K6 hs;obtain⟨xa,xc,rfl,-,O⟩:=h.form;have hln:ms.length<=1048576:=by unfold Z4 at hs;omega
 have H:=zb h;have ai:=zb O;have ad:=zb N;have HW:=zb hw;clear h O hs N hw;have E:Hid (OT w w.heap.size (.slice none 0 0) []):=⟨rfl,.inl ⟨rfl,rfl⟩⟩;by_cases p:100<ms.length
 ·have T:(100:Int)<(ms.length:Int):=by omega
  have HZ:Hid (ZF ms=[]):=by show _=_;unfold ZF;rw[yg p]
  go_in;go_wp2;go_ret;exact⟨_,rfl,by rw[uh HZ];exact uh E,yH _ _⟩
 ·have T:¬ (100:Int)<(ms.length:Int):=by omega
  have HZ:Hid (ZF ms=qC (QG ms)):=by show _=_;unfold ZF;rw[yf p]
  go_in;go_wp2;go_loopw [3,13] (fun lv i wr=>∃ k:Nat,k<=ms.length/\i= .int .i64 k/\OT wr w.heap.size lv (QG (ms.take k))/\Bw w wr) (fun _ i _=>ms.length - (intOf i).toNat)
  case atStart=>exact⟨0,yt _,rfl,uh E,yH _ _⟩
  case round=>
   obtain⟨k,hk,rfl,ho,j⟩:=hrel;have hal:(QG (ms.take k)).length<=1000:=by
    have:=KC (ms.take k);rw[ym]at this;omega
   have d:=zb ho;have l:=zb j;have hbz:=j.size;by_cases u:k<ms.length
   ·have G:Hid (QG (ms.take (k+1))=QG (ms.take k)++QM ms[k]):=MR u;obtain⟨g,rfl⟩:=uh ai (by omega);obtain⟨cs,ib,hE,M,-⟩:=((uh H).below j).at (yx u);obtain⟨rfl,-⟩:=hE;obtain⟨P,Q,X⟩:=uh ad ms[k] (yr u);have c0:wr.cell? ⟨g,k*4,none⟩=some (.int .i64 ms[k].kind):=(M 0 _ rfl).1;have c1:wr.cell? ⟨g,k*4+1,none⟩=some (.string ms[k].path):=(M 1 _ rfl).1;have c2:wr.cell? ⟨g,k*4+2,none⟩=some (.string ms[k].src):=(M 2 _ rfl).1;have c3:wr.cell? ⟨g,k*4+3,none⟩=some (.string ms[k].val):=(M 3 _ rfl).1;clear M ho j;generalize ms[k]=m at *;generalize QG (ms.take k)=A at *;have W:=zu wr (.cells #[.int .i64 m.kind,.string m.path,.string m.src,.string m.val] 95);have o:=(uh HW).up (zh (uh l) W);have HA:=zb W
    cases hok:Z1 m with
    | false=>
     have D:=zb (MK m _ hok o P Q X);have V:Hid (QM m=[]):=by show _=_;unfold QM;rw[hok];rfl
     clear hok o W P Q X;go_wp2_with fail;generalize (wr.alloc (.cells #[.int .i64 m.kind,.string m.path,.string m.src,.string m.val] 95))=wA at *;refine (uh D).mono ?_;rintro e Y ⟨rfl,J⟩;have a:=zb (zh (uh HA) J);have aa:=zb (zh (uh l) (uh a));have ag:=zb (ZB (uh d) (uh a));clear D J c0 c1 c2 c3;go_wp2;go_roundw
     case rel=>exact⟨k+1,by omega,by go_num,by rw[uh G,uh V,yS];exact uh ag,uh aa⟩
     case measure=>simp[intOf];omega
    | true=>
     have D:=zb (MJ m _ hok o P Q X);have V:Hid (QM m=YT m):=by show _=_;unfold QM;rw[hok];rfl
     have ah:Hid ((YT m).length<=2):=by show _<=_;rw[← uh V];exact MQ m
     have I:Hid (∀ (B y:Nat) (pv K U:Value) (R:JV) (wx:Wo),Uw wx B m y pv K U R->Calls prog 140 #[.pointer (some ⟨y,0,none⟩)] wx fun e w'=>∃ r,e= .returned r/\OT w' wx.heap.size r (YT m)/\Bw wx w'):=fun B y pv K U R wx hx=>zdb m B y pv K U R wx hx hok P Q;clear hok o W P Q X;go_wp2_with fail;generalize (wr.alloc (.cells #[.int .i64 m.kind,.string m.path,.string m.src,.string m.val] 95))=wA at *;refine (uh D).mono ?_;rintro e Y ⟨y,pv,K,U,R,rfl,L,J⟩;have z:=zb (uh I _ y pv K U R Y L);have a:=zb (zh (uh HA) J);clear D L J c0 c1 c2 c3 I;generalize YT m=tp at *;go_wp2_with fail;refine (uh z).mono ?_;rintro e w3 ⟨rv,rfl,S,b3⟩;have s:=zh (uh a) b3;have n:=zb S;have f:=zb (zh (uh l) s);have q:=zb (ZB (uh d) s);have x:=(uh f).size;have htl:=uh ah;clear z S b3 s a;go_wp2_with (at_builtin;refine An rfl (.tmp 23) (.tmp 25) rfl rfl rfl (uh q) (uh n) x (by omega) ?_);intro l4 w4 o4 g4;have Z:=zb ((uh f).grown g4 x (fun b j=>((uh q).lt b j).1));have af:=zb o4;clear o4 g4 q n f x htl;go_wp2;go_roundw
     case rel=>exact⟨k+1,by omega,by go_num,by rw[uh G,uh V];exact uh af,uh Z⟩
     case measure=>simp[intOf];omega
   ·have hkn:k=ms.length:=by omega
    subst hkn;rw[yU]at d hal;have z:=zb (zck _ _ wr (uh d) (by omega));have ab:Hid (ZF ms=Lib.compact (Uv (QG ms))):=by show _=_;rw[uh HZ];exact (zgi _).symm
    clear ho j;go_wp2_with fail;refine (uh z).mono ?_;rintro e Y ⟨rfl,o2,g2⟩;have a:=zb ((uh l).grown g2 hbz (fun b j=>((uh d).lt b j).1));have C:=zb (zcl _ _ Y o2 (by rw[Pv];omega));have F:=zb o2;have hz2:=(uh a).size;clear z o2 g2;go_wp2_with fail;refine (uh C).mono ?_;rintro e w3 ⟨r3,rfl,S,g3⟩;have f:=zb ((uh a).grown g3 hz2 (fun b j=>((uh F).lt b j).1));have n:=zb S;clear C S g3 F;go_wp2;go_ret;exact⟨r3,rfl,by rw[uh ab];exact uh n,uh f⟩
theorem zdd(b1 b2 b3 b4 b5:Bool):b1=false∨(b1=true/\b2=false)∨(b1=true/\b2=true/\b3=false)∨(b1=true/\b2=true/\b3=true/\b4=false)∨(b1=true/\b2=true/\b3=true/\b4=true/\b5=false)∨(b1=true/\b2=true/\b3=true/\b4=true/\b5=true):=by
 cases b1<;>cases b2<;>cases b3<;>cases b4<;>cases b5<;>simp
theorem zde(s v:Value)(vs:List zl)(p:ZP)(bl cl:List Nat)(k:Nat)(w:Wo)(h:zk zT w s vs bl)(hk:k<vs.length)(hl:vs.length=k+1)(h8:vs.length<=8)(ho:zk Zh w v p.ops cl)(hin:VY p.ops)(hd:p.doc.size<=1048576):
  Calls prog 35 #[.agg #[s],.agg #[v,.int .i64 p.base,.string p.doc,.int .i64 p.tries]] w fun e w'=>e= .returned (.bool (Q1 vs[k].no p))/\Bw w w':=by
 obtain⟨I,J,H⟩:=Py s vs bl k w h hk hl h8;obtain⟨A,B,rfl,-,-⟩:=h.form;obtain⟨u,x,rfl,-,-⟩:=ho.form;have j:=zb (Y8 w (.cells #[.slice A vs.length B] 35) (.cells #[.slice u p.ops.length x,.int .i64 p.base,.string p.doc,.int .i64 p.tries] 28));have D:=zb H;have F:=zb ho;have f:=zb hin;have G:Hid (Q1 vs[k].no p=(decide (ZT p.ops<0) && decide (0<=p.base) && decide (p.base<=vs[k].no) && Z6 p.doc && decide (0<=p.tries) && decide (p.tries<=4))):=rfl;clear h ho hin hl h8 H;generalize vs[k]=m at *;generalize Q1 m.no p=pk at *;go_in;go_wp2_with fail;generalize (w.alloc _).alloc _=a at *;have n:Hid (∀ d os,Bw w (Sort.grow (redrawn a d) os)):=fun d os=>zh (uh j).bel (below_regrown a d os);have C:Hid (∀ d os,Calls prog 49 #[.slice u p.ops.length x] (Sort.grow (redrawn a d) os) fun e w''=>e= .returned (.int .i64 (ZT p.ops))/\∃ p:Regrown,w''=Sort.grow (redrawn a p.d) p.os):=fun d os=>Calls.regrown_of (CQ _ p.ops cl _ ((uh F).below (uh n d os)) (uh f));have E:Hid (∀ d os,Calls prog 23 #[.agg #[.slice A vs.length B]] (Sort.grow (redrawn a d) os) fun e w''=>e= .returned (.agg #[.int .i64 m.no,.string m.doc,.slice I m.touched.length J])/\∃ p:Regrown,w''=Sort.grow (redrawn a p.d) p.os):=fun d os=>Calls.regrown_of (uh D _ (uh n d os));have l:Hid (∀ d os,Calls prog 64 #[.string p.doc] (Sort.grow (redrawn a d) os) fun e w''=>e= .returned (.bool (Z6 p.doc))/\∃ p:Regrown,w''=Sort.grow (redrawn a p.d) p.os):=fun d os=>Calls.regrown_of (RC p.doc _ hd);have g:=Zt.of (uh j).k1;have X:∀ d os,(Sort.grow (redrawn a d) os).cell? ⟨w.heap.size,0,none⟩=some (.slice A vs.length B):=fun d os=>cell_regrown (yF (uh j).k0 0) d os;have Y:∀ d os,(Sort.grow (redrawn a d) os).cell? ⟨w.heap.size+1,0,none⟩=some (.slice u p.ops.length x):=fun d os=>cell_regrown g.1 d os;have Z:∀ d os,(Sort.grow (redrawn a d) os).cell? ⟨w.heap.size+1,1,none⟩=some (.int .i64 p.base):=fun d os=>cell_regrown g.2.1 d os;have f3:∀ d os,(Sort.grow (redrawn a d) os).cell? ⟨w.heap.size+1,2,none⟩=some (.string p.doc):=fun d os=>cell_regrown g.2.2.1 d os;have f4:∀ d os,(Sort.grow (redrawn a d) os).cell? ⟨w.heap.size+1,3,none⟩=some (.int .i64 p.tries):=fun d os=>cell_regrown g.2.2.2 d os;have V:∀ w':Wo,(Instr.field 57 (.agg #[.int .i64 m.no,.string m.doc,.slice I m.touched.length J]) 0).run prog w'= .ok (.int .i64 m.no) w':=fun _=>by kernel_rfl
 clear g F f D hd hk;generalize ZT p.ops=z at *;generalize p.ops.length=ol at *;obtain⟨K,Q⟩:∃ b,decide (z<0)=b:=⟨_,rfl⟩;obtain⟨L,R⟩:∃ b,decide (0<=p.base)=b:=⟨_,rfl⟩;obtain⟨M,S⟩:∃ b,decide (p.base<=m.no)=b:=⟨_,rfl⟩;obtain⟨N,o⟩:∃ b,Z6 p.doc=b:=⟨_,rfl⟩;obtain⟨O,T⟩:∃ b,decide (0<=p.tries)=b:=⟨_,rfl⟩;obtain⟨W,U⟩:∃ b,decide (p.tries<=4)=b:=⟨_,rfl⟩;rw[Q,R,S,o,T,U]at G;rw[o]at l;clear o;have q:=zdd K L M N O;rcases q with rfl |⟨rfl,rfl⟩ |⟨rfl,rfl,rfl⟩ |⟨rfl,rfl,rfl,rfl⟩ |⟨rfl,rfl,rfl,rfl,rfl⟩ |⟨rfl,rfl,rfl,rfl,rfl⟩
 all_goals (
  refine wp_region_quiet_below (by kernel_rfl) (by kernel_rfl) ?_
  repeat (first | go_big_quiet_step ((first |(go_at_call 49;exact uh C _ _) |(go_at_call 23;exact uh E _ _) |(go_at_call 64;exact uh l _ _))) | quiet_step ((first |(go_at_call 49;exact uh C _ _) |(go_at_call 23;exact uh E _ _) |(go_at_call 64;exact uh l _ _))))
  refine wpQuiet_nil ?_;intro _ r;obtain⟨⟨P,y⟩,i⟩:=r;subst i;go_wp2;go_ret;exact⟨by rw[uh G];simp,uh n P y⟩)
theorem zdf{vs:List zl}{z:Int}(h:0<vs.length)(hn:∀ j (hj:j<vs.length),vs[j].no=z+j):(vs.head?.map (·.no)).getD 0=z:=by
 cases vs with
 | nil=>exact absurd h (by simp)
 | cons a r=>
  have:=hn 0 h;simpa using this
theorem zdg{vs:List zl}{tch:List Bs}{base z:Int}(hz:(vs.head?.map (·.no)).getD 0=z)(hb:base+1<z):meets vs tch base=true:=by
 unfold meets;rw[hz,yj hb];rfl
theorem zdh{vs:List zl}{tch:List Bs}{base:Int}{i:Nat}(hi:i<vs.length)(hb:base<vs[i].no)(hc:qD tch vs[i].touched=true):meets vs tch base=true:=by
 unfold meets;rw[Bool.or_eq_true];exact .inr (List.any_eq_true.2 ⟨vs[i],yr hi,by rw[yj hb,hc];rfl⟩)
theorem zdi{vs:List zl}{tch:List Bs}{base z:Int}(hz:(vs.head?.map (·.no)).getD 0=z)(hb:z<=base+1)(hc:∀ i (hi:i<vs.length),base<vs[i].no->qD tch vs[i].touched=false):meets vs tch base=false:=by
 unfold meets;rw[hz,yk (by omega),Bool.false_or,List.any_eq_false];intro x hx;obtain⟨i,hi,rfl⟩:=List.getElem_of_mem hx;by_cases hb:base<vs[i].no
 ·rw[hc i hi hb];simp
 ·simp[hb]
theorem zdj (s v:Value) (vs:List zl) (ops:List zw) (base:Int) (bl cl:List Nat) (k:Nat) (w:Wo) (h:zk zT w s vs bl) (hk:k<vs.length) (hl:vs.length=k+1) (h8:vs.length<=8) (ho:zk Zh w v ops cl)
  (z:Int) (hno:∀ j (hj:j<vs.length),vs[j].no=z+j) (h0:0<=z) (h1:z<=1000000) (hb:0<=base) (hbk:base<=vs[k].no)
  (hT:∀ wx,Bw w wx->Calls prog 37 #[v] wx fun e w'=>∃ r,e= .returned r/\OT w' wx.heap.size r (ZF ops)/\Bw wx w')
  (hC:∀ (wx:Wo) (xa ya:Option Addr) (xb xo xc yb yo yc:Nat) (b:List Bs),Bw w wx->SS wx xa xb xo (Zk ops)->SS wx ya yb yo b->(∃ m∈vs,m.touched=b)->Calls prog 71 #[.slice xa (Zk ops).length xc,.slice ya b.length yc] wx fun e w'=>e= .returned (.bool (qD (Zk ops) b))/\Bw wx w'):
  Calls prog 38 #[.agg #[s],v,.int .i64 base] w fun e w'=>e= .returned (.bool (meets vs (Zk ops) base))/\Bw w w':=by
 obtain⟨ta,tc,hh⟩:=Py s vs bl k w h hk hl h8;obtain⟨xa,xc,rfl,-,X⟩:=h.form;obtain⟨g,rfl⟩:=X (by omega);obtain⟨oa,oc,rfl,-,-⟩:=ho.form;have hA:=zu w (.cells #[.slice (some ⟨g,0,none⟩) vs.length xc] 35);have kA:=yG w (.cells #[.slice (some ⟨g,0,none⟩) vs.length xc] 35);have hp:0<vs.length:=by omega
 have HV:Hid (∀ j (hj:j<vs.length) wx,Bw w wx->wx.cell? ⟨g,j*3,none⟩=some (.int .i64 (z+j))/\∃ (ya:Option Addr) (yb yc:Nat),wx.cell? ⟨g,j*3+2,none⟩=some (.slice ya vs[j].touched.length yc)/\∀ wy,Bw wx wy->SS wy ya yb 0 vs[j].touched):=fun j hj wx hx=>by
  obtain⟨ws,ib,hE,E,-⟩:=(h.below hx).at (yx hj);obtain⟨q,rfl,hq⟩:=hE;obtain⟨ya,yb,yc,rfl,ss⟩:=qy.ss hq;have c0:=(E 0 _ rfl).1;rw[hno j hj]at c0;exact⟨c0,ya,yb,yc,(E 2 _ rfl).1,fun wy hy=>ss.below hy⟩
 have HT:=zb hT;have HC:=zb hC;have HH:=zb hh;have u:=zb hno;have HP:=zb hp;have W:(Zk ops).length=(ZF ops).length:=by unfold Zk;simp
 have HTL:=zb W;have HM:Hid (vs[k].no=z+(k:Int)):=hno k hk;have hk8:k<=7:=by omega
 rw[hno k hk]at hbk;have HL:=zb hl;have N:=zb (zdf hp hno);generalize hm:vs[k]=m at *;rw[uh HM]at HH;clear h ho hT hC hh hno hl h8 W hm X hp;have hfl:∀ w':Wo,(Instr.field 57 (.agg #[.int .i64 (z+(k:Int)),.string m.doc,.slice ta m.touched.length tc]) 0).run prog w'= .ok (.int .i64 (z+(k:Int))) w':=fun _=>by kernel_rfl
 go_in;go_wp2;generalize w.alloc _=wA at *;have G:=zb hA;have C:Hid (∀ wx,Bw wA wx->wx.cell? ⟨w.heap.size,0,none⟩=some (.slice (some ⟨g,0,none⟩) vs.length xc)):=fun wx hx=>yF ((hx.block w.heap.size (yB.1 kA).1).trans kA) 0;clear hA kA;go_loopw [7] (fun nv wr=>∃ no:Int,nv= .int .i64 no/\base<no/\no<=2000000/\(no=base+1∨z<=base+1)/\(∀ i (R:i<vs.length),base<vs[i].no->vs[i].no<no->qD (Zk ops) vs[i].touched=false)/\Bw wA wr) (fun nv _=>(z+(k:Int)+1 - intOf nv).toNat)
 case atStart=>exact⟨base+1,rfl,by omega,by omega,.inl rfl,fun i R h1 h2=>by omega,yH _ _⟩
 case round=>
  obtain⟨no,rfl,hn1,hn2,V,P,A⟩:=hrel;have cB:=uh C wr A;have x:=zb V;have B:=zb P;have HBW:=zb A;have I:=zb (uh HH wr (zh (uh G) A));clear V P A;go_wp2_with fail;refine (uh I).mono ?_;rintro e d ⟨rfl,b1⟩;have y:=zh (uh HBW) b1;have O:=uh C d y;have f:=zb y;have c0:=(uh HV 0 (uh HP) d (zh (uh G) y)).1;rw[Nat.zero_mul]at c0;clear I b1 y cB;have S:(vs.length:Int)=(k:Int)+1:=by have:=uh HL;omega
  by_cases hle:no<=z+(k:Int)
  ·by_cases T:no<z
   ·have HX:Hid (meets vs (Zk ops) base=true):=by
     refine zdg (uh N) ?_;have h2:=uh x;omega
    have hdB:decide (no - z<0)=true:=yj (by omega);clear S;go_wp2_with fail;go_quiet (fail);go_wp2;go_ret;exact⟨by rw[uh HX];rfl,zh (uh G) (zh (uh f) (J8 d nq))⟩
   ·obtain⟨i,R⟩:∃ i:Nat,no - z=(i:Int):=⟨(no - z).toNat,by omega⟩;have hzb:z<=base+1:=by have:=uh x;omega
    have n:i<vs.length:=by have:=uh HL;omega
    have U:vs[i].no=no:=by have:=uh u i n;omega
    have hiI:(i:Int)<(vs.length:Int):=by omega
    have hiB:decide ((i:Int)<0)=false:=yk (by omega);have J:Hid (∃ m∈vs,m.touched=vs[i].touched):=⟨vs[i],yr n,rfl⟩;have M:Hid (qD (Zk ops) vs[i].touched=true->meets vs (Zk ops) base=true):=fun E=>zdh n (by rw[U];omega) E;have K:Hid (qD (Zk ops) vs[i].touched=false->∀ j (hj:j<vs.length),base<vs[j].no->vs[j].no<no+1->qD (Zk ops) vs[j].touched=false):=fun E j hj h1 h2=>by
     by_cases e:j=i
     ·subst e;exact E
     ·refine uh B j hj h1 ?_;have:=uh u j hj;omega
    have Q:Bw d d.drew:=(yH _ _).drew;have o:=zb (zh (uh G) (uh f));obtain⟨-,ya,yb,yc,cT,Y⟩:=uh HV i n d (uh o);have cTd:d.drew.cell? ⟨g,i*3+2,none⟩=_:=cT;have cBd:d.drew.cell? ⟨w.heap.size,0,none⟩=_:=O;have L:=zb (uh HT d.drew (zh (uh o) Q));have HSS:=zb Y;generalize vs[i].touched=ti at *;clear S T U n Q Y HV HH HM u HL B x HT
    cases hcb:qD (Zk ops) ti
    all_goals (
     go_wp2_with fail;go_region_law (first
      |(go_simp;refine (uh l).mono ?_;rintro e w3 ⟨rfl,b3⟩)
      |(
        go_simp;refine (uh L).mono ?_;rintro e F ⟨r2,rfl,o2,D⟩;obtain⟨ra,rg,rc,rfl,Z,-⟩:=OT.all o2;have a:Bw d F:=⟨D.os,D.tape,D.output,D.size,D.block⟩;have d0:F.cell? ⟨w.heap.size,0,none⟩=_:=uh C F (zh (uh f) a);have d2:F.cell? ⟨g,i*3+2,none⟩=some (.slice ya ti.length yc):=(a.cell (p:=⟨g,i*3+2,none⟩) (yJ _ _ cT)).trans cT;have l:=zb (uh HC F ra ya rg 0 rc yb 0 yc ti (zh (uh o) a) Z (uh HSS F a) (uh J));rw[uh HTL]at l;clear o2 D Z)))
    all_goals (
     have H:=zb (zh a b3);clear a b3 l d0 d2 cT cTd cBd O c0 L)
    all_goals first
     |(
       have HR:=zb (uh M hcb);go_wp2;go_ret;exact⟨by rw[uh HR];rfl,zh (uh o) (uh H)⟩)
     |(
       have HR:=zb (uh K hcb);go_wp2;refine⟨⟨no+1,rfl,by omega,by omega,.inr hzb,uh HR,zh (uh f) (uh H)⟩,?_⟩;simp only[intOf];omega)
  ·have HX:Hid (meets vs (Zk ops) base=false):=by
    refine zdi (uh N) ?_ fun i R hbi=>uh B i R hbi ?_
    ·have h2:=uh x;omega
    ·have h1:=uh u i R;have h2:=uh HL;omega
   go_wp2;go_ret;exact⟨by rw[uh HX];rfl,zh (uh G) (uh f)⟩
end Go.Proofs.YtekpghcckdjnhaaGreatDoor
