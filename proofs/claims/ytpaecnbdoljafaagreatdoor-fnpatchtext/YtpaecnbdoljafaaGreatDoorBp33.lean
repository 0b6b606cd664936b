import Derived.Test.YtpaecnbdoljafaaGreatDoorBp32
import Derived.Test.YtpaecnbdoljafaaGreatDoorBp17
set_option maxRecDepth 100000
set_option maxHeartbeats 8000000
namespace Go.Proofs.YtpaecnbdoljafaaGreatDoor
open Go.RowKit Go.Sort Go.Proofs.Tryz
end Go.Proofs.YtpaecnbdoljafaaGreatDoor
namespace Go.Proofs.YtpaecnbdoljafaaGreatDoor
open Go.RowKit Go.Proofs.Tryz
def ZK(s:Bs):List (List UInt8):=(zG s.data.toList).getD []
def Ve(k:Int)(pv fv vv:Value):Obj:=.cells #[.string (qW k),.int .i64 k,.bool (Zh k),.bool (zY k),.bool (Jo k),.bool (Jp k),Qt k,pv,fv,vv] 137 (0,0)
structure Xt(w:Wo)(B:Nat)(m:zk)(g:Nat)(pv fv vv:Value)(v:JV):Prop where
 blk:w.heap[g]?=some (Ve m.kind pv fv vv)
 ge:B<=g
 path:OT w B pv (ZK m.path)
 src:OT w B fv (ZK m.src)
 val:zY m.kind=true->Zo m.val= .inr v/\zi (ct v)=m.val/\∃ t p,vv= .iface t p/\zl w (fun k=>B<=k/\k<w.heap.size) v vv
def LE(m:zk)(w:Wo)(e:Ending)(w':Wo):Prop:=∃ g pv fv vv v,e= .returned (.tuple #[.pointer (some ⟨g,0,none⟩),.bool true])/\Xt w' w.heap.size m g pv fv vv v/\Bw w w'
theorem Aq(k:Int):∃ fid,Qt k= .func (Fn.func fid) #[] #[]:=by
 unfold Qt
 repeat' split
 all_goals exact⟨_,rfl⟩
def OV(w:Wo)(e:Ending)(w':Wo):Prop:=e= .returned (.tuple #[.pointer none,.bool false])/\Bw w w'
theorem Jd{w:Wo}{b i:Nat}{cs:Array Value}{t:TypeId}{f:Nat×Nat}{x:Value}(h:w.heap[b]?=some (.cells cs t f))(hx:cs[i]?=some x):w.cell? ⟨b,i,none⟩=some x:=(yE h i).trans hx
theorem LF(m:zk)(w:Wo)(k1:1<=m.kind)(k6:m.kind<=6)(hw:Qn w)(hz1:m.path.size<=1048576)(hz2:m.src.size<=1048576)(hz3:m.val.size<=1048576):
  Calls prog 47 #[.agg #[.int .i64 m.kind,.string m.path,.string m.src,.string m.val]] w fun e w'=>(Zp m=true->LE m w e w')/\(Zp m=false->OV w e w'):=by
 have hA:=Zx w (Jq m);have kA:=yF w (Jq m);have S:(w.alloc (Jq m)).heap.size=w.heap.size+1:=by simp
 have L:=zh (T6 w.heap.size m (w.alloc (Jq m)) kA k1 k6);have HTP:Hid (∀ wx,Bw w wx->Calls prog 95 #[.string m.path] wx fun e w'=>∃ v,e= .returned (.tuple #[v,.bool (zG m.path.data.toList).isSome])/\OT w' wx.heap.size v (ZK m.path)/\Bw wx w'):=fun wx hx=>Nh m.path wx (hw.up hx).ml hz1;have M:Hid (∀ wx,Bw w wx->Calls prog 95 #[.string m.src] wx fun e w'=>∃ v,e= .returned (.tuple #[v,.bool (zG m.src.data.toList).isSome])/\OT w' wx.heap.size v (ZK m.src)/\Bw wx w'):=fun wx hx=>Nh m.src wx (hw.up hx).ml hz2;have u:Hid (∀ wx,Bw w wx->Calls prog 96 #[.string m.val] wx (LB m.val wx)):=fun wx hx=>Ak m.val wx (hw.up hx).tab (hw.up hx).err (hw.up hx).pow (by omega);have a:Hid (Zp m=((zG m.path.data.toList).isSome && (if Zh m.kind then (zG m.src.data.toList).isSome else m.src.toList ==[]) && (if zY m.kind then Z1 m.val else m.val.toList ==[]))):=by show _=_;unfold Zp;rw[yi k1,yi k6];rfl
 have HSE:Hid (m.src.toList=[]->(zG m.src.data.toList).isSome=true):=fun e=>by rw[ByteArray.toList_eq]at e;rw[e];rfl
 obtain⟨d,A⟩:=Aq m.kind;obtain⟨J,hwb⟩:∃ J,qW m.kind=J:=⟨_,rfl⟩;obtain⟨H,C⟩:∃ H,Jo m.kind=H:=⟨_,rfl⟩;obtain⟨I,D⟩:∃ I,Jp m.kind=I:=⟨_,rfl⟩;obtain⟨g,P⟩:∃ g,Zh m.kind=g:=⟨_,rfl⟩;obtain⟨f,R⟩:∃ f,zY m.kind=f:=⟨_,rfl⟩;unfold Wk at L;rw[A,hwb,C,D,P,R]at L;rw[P,R]at a;have l:Hid (Qt m.kind= .func (Fn.func d) #[] #[]/\qW m.kind=J/\Jo m.kind=H/\Jp m.kind=I/\Zh m.kind=g/\zY m.kind=f):=⟨A,hwb,C,D,P,R⟩;have HA:=zh hA;have HKA:=zh kA;have n:=zh S;generalize (zG m.path.data.toList).isSome=zp at *;generalize (zG m.src.data.toList).isSome=zq at *;obtain⟨U,hok⟩:∃ U,Zp m=U:=⟨_,rfl⟩;rw[hok]at a ⊢;unfold Jq at *;clear A hwb C D P R hA kA S k1 k6 hw hok hz1 hz2 hz3;go_in;go_wp2_with fail;generalize w.alloc _=wA at *;refine (uh L).mono ?_;rintro e w1 ⟨rfl,b1⟩;have hB:=Zx w1 (.cells #[.string J,.int .i64 m.kind,.bool g,.bool f,.bool H,.bool I,.func (Fn.func d) #[] #[]] 135);have kB:=yF w1 (.cells #[.string J,.int .i64 m.kind,.bool g,.bool f,.bool H,.bool I,.func (Fn.func d) #[] #[]] 135);have T:(w1.alloc (.cells #[.string J,.int .i64 m.kind,.bool g,.bool f,.bool H,.bool I,.func (Fn.func d) #[] #[]] 135)).heap.size=w1.heap.size+1:=by simp
 have b2:=zj b1 hB;have hz1:=b1.size;have k2:=(b2.block w.heap.size (by have:=uh n;omega)).trans (uh HKA);have c1:=Jd (i:=1) k2 rfl;have c2:=Jd (i:=2) k2 rfl;have c3:=Jd (i:=3) k2 rfl;have HT:=zh (uh HTP _ (zj (uh HA) b2));have K:=zh b2;have HK2:=zh k2;have HKB:=zh kB;have y:=zh hz1;have z:=zh T;have s:Hid (∀ (wx:Wo) (p q:Value),Bw wx (wx.alloc (.cells #[.string J,.int .i64 m.kind,.bool g,.bool f,.bool H,.bool I,.func (Fn.func d) #[] #[],p,q,.nilIface] 137))/\(wx.alloc (.cells #[.string J,.int .i64 m.kind,.bool g,.bool f,.bool H,.bool I,.func (Fn.func d) #[] #[],p,q,.nilIface] 137)).heap[wx.heap.size]?=some (.cells #[.string J,.int .i64 m.kind,.bool g,.bool f,.bool H,.bool I,.func (Fn.func d) #[] #[],p,q,.nilIface] 137 (0,0))/\(wx.alloc (.cells #[.string J,.int .i64 m.kind,.bool g,.bool f,.bool H,.bool I,.func (Fn.func d) #[] #[],p,q,.nilIface] 137)).heap.size=wx.heap.size+1):=fun wx p q=>⟨Zx _ _,yF _ _,by simp⟩;clear L b1 hB kB b2 hz1 k2 HKA T HTP;obtain⟨bq,Q⟩:∃ b,b=f:=⟨_,rfl⟩;by_cases B:g=false->m.src.toList=[]
 ·by_cases hvn:f=false->m.val.toList=[]
  ·cases g<;>cases f
   all_goals (
    try have es:=B rfl
    try have ev:=hvn rfl
    clear B hvn;have HBQ:=zh Q;clear Q;go_wp2_with fail;generalize w1.alloc _=w2 at *;generalize w1.heap.size=V0 at *;refine (uh HT).mono ?_;rintro e w3 ⟨pv,rfl,op,b3⟩;obtain⟨pa,pg,pc,rfl,-,-⟩:=op.shape;have T:=uh z;have S:=uh n;have hz1:=uh y;have k3:=(b3.block w.heap.size (by omega)).trans (uh HK2);have d2:=Jd (i:=2) k3 rfl;have af:=zj (uh K) b3;have aa:=zh (uh M _ (zj (uh HA) af));have HOP:=zh op;have Y:=zh k3;have r:=zh ((b3.block V0 (by omega)).trans (uh HKB));have N:=zh b3.size;have o:=zh af;clear HT op b3 k3 af HK2 HKB K c1 c2 c3 S T hz1 M;go_wp2_with fail;refine (uh aa).mono ?_;rintro e w4 ⟨fv,rfl,of,b4⟩;obtain⟨fa,fg,fc,rfl,-,-⟩:=of.shape;have O:=zj (uh o) b4;by_cases hpq:zp=true/\zq=true
    ·obtain⟨rfl,rfl⟩:=hpq;have T:=uh z;have S:=uh n;have hz1:=uh y;have hz3:=uh N;have G:=(b4.block V0 (by omega)).trans (uh r);have v0:=Jd (i:=0) G rfl;have v1:=Jd (i:=1) G rfl;have v2:=Jd (i:=2) G rfl;have v3:=Jd (i:=3) G rfl;have v4:=Jd (i:=4) G rfl;have v5:=Jd (i:=5) G rfl;have v6:=Jd (i:=6) G rfl;have F:=b4.size;have k4:=(b4.block w.heap.size (by omega)).trans (uh Y);have d3:=Jd (i:=3) k4 rfl;obtain⟨hC,kC,zC⟩:=uh s w4 (.slice pa (ZK m.path).length pc) (.slice fa (ZK m.src).length fc);have e3:=Jd (i:=3) ((hC.block V0 (yA.1 G).1).trans G) rfl;have f3:=Jd (i:=3) ((hC.block w.heap.size (by omega)).trans k4) rfl;have b5:=zj (uh HA) (zj O hC);have HR:=zh (uh u _ b5);have OPX:=zh (ZI (uh HOP) b4);have OFX:=zh of;have X:=zh hC;have V:=zh b5;have Z:=zh kC;have ad:=zh zC;have ab:=zh F;clear aa of b4 O k4 G HOP Y r o d2 S T hz1 hz3 hC kC zC u s b5 F
     cases bq with
     | false=>
      first
      | exact Bool.noConfusion (uh HBQ)
      |(
        have x:Hid (U=true):=by show _=_;rw[uh a];simp[*]
        clear HR;go_wp2;go_ret2;have T:=uh z;have S:=uh n;have hz1:=uh y;have hz3:=uh N;have F:=uh ab;refine⟨fun _=>⟨w4.heap.size,_,_,.nilIface,.nul,rfl,⟨?_,by omega,JB (ZI (uh OPX) (uh X)) (by omega),JB (ZI (uh OFX) (uh X)) (by omega),fun h=>?_⟩,uh V⟩,fun h=>?_⟩
        ·unfold Ve;rw[(uh l).1,(uh l).2.1,(uh l).2.2.1,(uh l).2.2.2.1,(uh l).2.2.2.2.1,(uh l).2.2.2.2.2];exact uh Z
        ·rw[(uh l).2.2.2.2.2]at h;cases h
        ·rw[uh x]at h;cases h)
     | true=>
      first
      | exact Bool.noConfusion (uh HBQ)
      |(
        go_wp2_with fail;generalize w4.alloc _=w5 at *;generalize hG:w4.heap.size=j at *;have HGE:=zh hG;clear hG;refine (uh HR).mono ?_;rintro e w6 ⟨b6,hno,E⟩;have zC:=uh ad;have k6:=(b6.block j (by omega)).trans (uh Z);have g9:=Jd (i:=9) k6 rfl;have f9:=yH k6 9;have W:=zh b6;have HK6:=zh k6;clear HR b6 k6 zC Z
        cases hg:Z1 m.val with
        | false=>
         obtain rfl:=hno hg;have x:Hid (U=false):=by show _=_;rw[uh a,hg];simp
         clear hno E hg;go_wp2;go_ret2;refine⟨fun h=>?_,fun _=>⟨rfl,?_⟩⟩
         ·rw[uh x]at h;cases h
         ·have T:=uh z;have S:=uh n;have hz1:=uh y;have hz3:=uh N;have F:=uh ab;have zC:=uh ad;exact ((uh V).trans ((uh W).mono (by omega))).setCell (p:=⟨j,9,none⟩) (by show w.heap.size<=j;omega) _
        | true=>
         obtain⟨v,t,p,r1,r2,rfl,rep⟩:=E hg;have x:Hid (U=true):=by show _=_;rw[uh a,hg];simp[*]
         have HR1:=zh r1;have HR2:=zh r2;have HREP:=zh rep;have HK7:=zh (heap_setCell_same w6 j 9 _ _ (.iface t p) (uh HK6));clear hno E hg r1 r2 rep;go_wp2;go_ret2;have T:=uh z;have S:=uh n;have hz1:=uh y;have hz3:=uh N;have F:=uh ab;have zC:=uh ad;have B47:Bw w4 (w6.setCell ⟨j,9,none⟩ (.iface t p)):=by
          have hGE:=uh HGE;exact (((uh X).mono (by omega)).trans ((uh W).mono (by omega))).setCell (p:=⟨j,9,none⟩) (by show w4.heap.size<=j;omega) _
         have z7:(w6.setCell ⟨j,9,none⟩ (.iface t p)).heap.size=w6.heap.size:=by simp[World.setCell]
         refine⟨fun _=>⟨j,_,_,.iface t p,v,rfl,⟨?_,by omega,JB (ZI (uh OPX) B47) (by omega),JB (ZI (uh OFX) B47) (by omega),fun _=>⟨uh HR1,uh HR2,t,p,rfl,?_⟩⟩,((uh V).trans ((uh W).mono (by omega))).setCell (p:=⟨j,9,none⟩) (by show w.heap.size<=j;omega) _⟩,fun h=>?_⟩
         ·unfold Ve;rw[(uh l).1,(uh l).2.1,(uh l).2.2.1,(uh l).2.2.2.1,(uh l).2.2.2.2.1,(uh l).2.2.2.2.2];exact uh HK7
         ·exact zl.keep (fun k hk=>Below.heap_setCell w6 ⟨j,9,none⟩ _ k (fun e=>by have:k=j:=e;omega)) (fun k hk=>⟨by omega,by rw[z7];exact hk.2⟩) _ _ (uh HREP)
         ·rw[uh x]at h;cases h)
    ·have x:Hid (U=false):=by
      have hse:=uh HSE;show _=_
      rw[uh a]
      cases zp<;>cases zq<;>simp_all
     have HB4:=zh (zj (uh HA) O);clear aa of b4 O Y r o d2 u s
     cases zp<;>cases zq
     all_goals first
      | exact absurd ⟨rfl,rfl⟩ hpq
      |(
        clear hpq;go_wp2;go_ret2;exact⟨fun h=>(by rw[uh x]at h;cases h),fun _=>⟨rfl,uh HB4⟩⟩))
  ·obtain⟨rfl,hv⟩:f=false/\¬ m.val.toList=[]:=by cases f<;>simp_all
   have hi:m.val.toList.isEmpty=false:=by rw[← Bool.not_eq_true,List.isEmpty_iff];exact hv
   have x:Hid (U=false):=by show _=_;rw[uh a];simp[hv]
   have HB:=zh (zj (uh HA) (uh K));clear hvn hv Q s M u
   cases g
   all_goals (
    try have es:=B rfl
    clear B;go_wp2;go_ret2;exact⟨fun h=>(by rw[uh x]at h;cases h),fun _=>⟨rfl,uh HB⟩⟩)
 ·obtain⟨rfl,hs⟩:g=false/\¬ m.src.toList=[]:=by cases g<;>simp_all
  have x:Hid (U=false):=by show _=_;rw[uh a];simp[hs]
  have HB:=zh (zj (uh HA) (uh K));clear B Q s M u
  cases f
  all_goals (
   go_wp2;go_ret2;exact⟨fun h=>(by rw[uh x]at h;cases h),fun _=>⟨rfl,uh HB⟩⟩)
theorem Ar(m:zk)(w:Wo)(hno:¬ (1<=m.kind/\m.kind<=6)):
  Calls prog 47 #[.agg #[.int .i64 m.kind,.string m.path,.string m.src,.string m.val]] w (OV w):=by
 have f:=Zx w (Jq m);have g:=yF w (Jq m);have j:(w.alloc (Jq m)).heap.size=w.heap.size+1:=by simp
 have a:=zh (T7 w.heap.size m (w.alloc (Jq m)) g hno);have h:=zh f;unfold Jq qM at *;clear f g j hno;go_in;go_wp2_with fail;generalize (w.alloc (.cells #[.int .i64 m.kind,.string m.path,.string m.src,.string m.val] 59))=k at *;refine (uh a).mono ?_;rintro e i ⟨rfl,d⟩;have b:=zh (zj (uh h) (zj d (Zx i (.cells #[.string ⟨#[]⟩,.int .i64 0,.bool false,.bool false,.bool false,.bool false,.nilFunc] 135))));clear a d;go_wp2;go_ret2;exact⟨rfl,uh b⟩
theorem As(m:zk)(w:Wo)(h:Zp m=true)(hw:Qn w)(hz1:m.path.size<=1048576)(hz2:m.src.size<=1048576)(hz3:m.val.size<=1048576):
  Calls prog 47 #[.agg #[.int .i64 m.kind,.string m.path,.string m.src,.string m.val]] w (LE m w):=by
 have a:1<=m.kind/\m.kind<=6:=by unfold Zp at h;simp only[Bool.and_eq_true,decide_eq_true_eq]at h;exact h.1.1.1
 exact (LF m w a.1 a.2 hw hz1 hz2 hz3).mono fun e w' hr=>hr.1 h
theorem At(m:zk)(w:Wo)(h:Zp m=false)(hw:Qn w)(hz1:m.path.size<=1048576)(hz2:m.src.size<=1048576)(hz3:m.val.size<=1048576):
  Calls prog 47 #[.agg #[.int .i64 m.kind,.string m.path,.string m.src,.string m.val]] w (OV w):=by
 by_cases a:1<=m.kind/\m.kind<=6
 ·exact (LF m w a.1 a.2 hw hz1 hz2 hz3).mono fun e w' hr=>hr.2 h
 ·exact Ar m w a
structure Qi where
 g:Nat
 pv:Value
 fv:Value
 vv:Value
 v:JV
structure JO(w:Wo)(S:Nat->Prop)(m:zk)(q:Qi):Prop where
 blk:w.heap[q.g]?=some (Ve m.kind q.pv q.fv q.vv)
 sg:S q.g
 path:OT w 0 q.pv (ZK m.path)
 sp:∀ b,q.pv.ownBlock=some b->S b
 src:OT w 0 q.fv (ZK m.src)
 ss:∀ b,q.fv.ownBlock=some b->S b
 val:zY m.kind=true->Zo m.val= .inr q.v/\zi (ct q.v)=m.val/\∃ t p,q.vv= .iface t p/\zl w S q.v q.vv
theorem LG{w w':Wo}{e size n:Nat}{v:Value}{xs:List Value}(h:w.ownsRow 0 e size v n xs)(hk:∀ b,v.ownBlock=some b->w'.heap[b]?=w.heap[b]?):w'.ownsRow 0 e size v n xs:=by
 refine⟨h.1,?_⟩;rcases h.2 with i |⟨g,a,d,f,j,k,r⟩
 ·exact .inl i
 ·exact .inr ⟨g,a,d,f,j,(hk g (by rw[f];rfl)).trans k,r⟩
theorem JO.keep{w w':Wo}{S S':Nat->Prop}{m:zk}{q:Qi}(h:JO w S m q)(hk:∀ k,S k->w'.heap[k]?=w.heap[k]?)(hS:∀ k,S k->S' k):JO w' S' m q:=
 ⟨(hk _ h.sg).trans h.blk,hS _ h.sg,LG h.path fun b hb=>hk b (h.sp b hb),fun b hb=>hS b (h.sp b hb),LG h.src fun b hb=>hk b (h.ss b hb),fun b hb=>hS b (h.ss b hb),
  fun hv=>by obtain⟨a,d,t,p,f,g⟩:=h.val hv;exact⟨a,d,t,p,f,zl.keep hk hS _ _ g⟩⟩
theorem Xt.toS{w:Wo}{B:Nat}{m:zk}{g:Nat}{pv fv vv:Value}{v:JV}(h:Xt w B m g pv fv vv v):JO w (fun k=>B<=k/\k<w.heap.size) m ⟨g,pv,fv,vv,v⟩:=
 ⟨h.blk,⟨h.ge,(yA.1 h.blk).1⟩,JB h.path (yr _),fun b hb=>h.path.lt b hb,JB h.src (yr _),fun b hb=>h.src.lt b hb,h.val⟩
def QR(q:Qi):Value:=.pointer (some ⟨q.g,0,none⟩)
structure GD(w:Wo)(B:Nat)(S:Nat->Prop)(lv:Value)(ms:List zk)(qs:List Qi):Prop where
 len:qs.length=ms.length
 row:w.ownsRow B 83 1 lv qs.length (qs.map QR)
 ops:∀ (j:Nat) m q,ms[j]?=some m->qs[j]?=some q->JO w S m q
 off:∀ k,S k->lv.ownBlock≠some k
def VL(w0:Nat)(w:Wo)(lv:Value)(k:Nat):Prop:=w0<=k/\k<w.heap.size/\lv.ownBlock≠some k
theorem GD.snoc {wr w2 w3 w4:Wo} {B Wb:Nat} {lv lv':Value} {ms:List zk} {qs:List Qi} {m:zk} {q:Qi} (hL:GD wr B (VL B wr lv) lv ms qs) (hb2:Bw wr w2) (hat:Xt w2 Wb m q.g q.pv q.fv q.vv q.v) (hW:wr.heap.size<=Wb) (hB:B<=wr.heap.size)
  (hb3:Bw w2 w3) (hrow:w4.ownsRow B 83 1 lv' (qs.length+1) (qs.map QR++[QR q])) (hg:w3.grownBy w4 lv.ownBlock) (hwh:lv'.ownBlock=lv.ownBlock∨lv'.ownBlock=some w3.heap.size):
  GD w4 B (VL B w4 lv') lv' (ms++[m]) (qs++[q]):=by
 have i:=hb2.size;have l:=hb3.size;have n:=hg.size;have a:∀ k,k<w3.heap.size->lv.ownBlock≠some k->w4.heap[k]?=w3.heap[k]?:=fun k h1 h2=>hg.block k h1 (fun e=>h2 e.symm);have d:∀ k,B<=k->k<w3.heap.size->lv.ownBlock≠some k->VL B w4 lv' k:=fun k h1 h2 h3=>⟨h1,by omega,fun e=>by
  rcases hwh with h | h
  ·exact h3 (h ▸ e)
  ·rw[h]at e;injection e with e;omega⟩
 refine⟨by simp[hL.len],by simpa using hrow,fun j m' q' hm hq=>?_,fun k hk=>hk.2.2⟩;by_cases g:j<ms.length
 ·rw[List.getElem?_append_left g]at hm;rw[List.getElem?_append_left (by rw[hL.len];exact g)]at hq;refine (hL.ops j m' q' hm hq).keep (fun k hk=>?_) (fun k hk=>d k hk.1 (by have:=hk.2.1;omega) hk.2.2);have:=hk.2.1;rw[a k (by omega) hk.2.2,hb3.block k (by omega),hb2.block k (by omega)]
 ·have f:=(List.getElem?_eq_some_iff.1 hm).1;rw[yg,List.length_singleton]at f;obtain rfl:j=ms.length:=by omega
  rw[List.getElem?_append_right (yd _)]at hm;rw[List.getElem?_append_right (by rw[hL.len];exact yd _),hL.len]at hq;simp at hm hq;subst hm;subst hq;have b:∀ k,Wb<=k->lv.ownBlock≠some k:=fun k h1 e=>by
   have:=(hL.row.lt k e).2;omega
  refine hat.toS.keep (fun k hk=>?_) (fun k hk=>d k (by omega) (by omega) (b k hk.1));rw[a k (by omega) (b k hk.1),hb3.block k hk.2]
theorem LH:(prog.info? 83).map (fun i=>(i.zero,i.size,i.bytes))=some (some (.pointer none),1,8):=by kernel_rfl
def Xu(w:Wo)(c:Int)(ev:Value):Prop:=∃ fb,ev= .iface 138 (.pointer (some ⟨fb,0,none⟩))/\w.heap[fb]?=some (.cells #[.int .i64 c] 140 (0,0))
theorem Xu.next{w w':Wo}{c:Int}{ev:Value}(h:Xu w c ev)(hb:Bw w w'):Xu w' c ev:=by
 obtain⟨fb,b,a⟩:=h;exact⟨fb,b,(hb.block fb (yA.1 a).1).trans a⟩
def LI(w:Wo)(i c:Int)(ev:Value):Prop:=∃ eb fv,ev= .iface 141 (.pointer (some ⟨eb,0,none⟩))/\w.heap[eb]?=some (.cells #[.int .i64 i,fv] 143 (0,0))/\Xu w c fv
theorem LJ(w:Wo)(i c:Int):LI ((w.alloc (.cells #[.int .i64 c] 140)).alloc (.cells #[.int .i64 i,.iface 138 (.pointer (some ⟨w.heap.size,0,none⟩))] 143)) i c (.iface 141 (.pointer (some ⟨w.heap.size+1,0,none⟩))):=by
 have z:(w.alloc (.cells #[.int .i64 c] 140)).heap.size=w.heap.size+1:=by simp
 refine⟨w.heap.size+1,_,rfl,?_,w.heap.size,rfl,?_⟩
 ·have:=yF (w.alloc (.cells #[.int .i64 c] 140)) (.cells #[.int .i64 i,.iface 138 (.pointer (some ⟨w.heap.size,0,none⟩))] 143)
  rwa [z]at this
 ·exact ((Zx _ _).block w.heap.size (by omega)).trans (yF w _)
def Au(ms:List zk)(w:Wo)(e:Ending)(w':Wo):Prop:=Bw w w' /\
 (0<=qw ms->∃ t p,e= .returned (.tuple #[.slice none 0 0,.iface t p])/\LI w' (qw ms) 2 (.iface t p)) /\
 (qw ms<0->∃ lv qs,e= .returned (.tuple #[lv,.nilIface])/\GD w' w.heap.size (VL w.heap.size w' lv) lv ms qs)
def Av(ms:List zk)(w:Wo)(e:Ending)(w':Wo):Prop:=Bw w w' /\
 (0<=qw ms->∃ t p,e= .returned (.tuple #[.slice none 0 0,.iface t p])) /\
 (qw ms<0->∃ lv qs,e= .returned (.tuple #[lv,.nilIface])/\GD w' w.heap.size (VL w.heap.size w' lv) lv ms qs)
theorem Aw(v:Value)(ms:List zk)(bl:List Nat)(w:Wo)(h:Zn V9 w v ms bl)(hs:Wd ms)(hw:Qn w):
  Calls prog 59 #[v] w (Au ms w):=by
 have aa:=hs.1;obtain⟨xa,xc,rfl,h1,hxa⟩:=h.form;have H:=zh h;have HXA:=zh hxa;have HIN:=zh aa;have hln:=hs.2;clear h h1 hxa hs aa;by_cases W:100<ms.length
 ·have s:qw ms=100:=by unfold qw;rw[yf W]
  have HB:=zh s;clear s;go_in;go_wp2;go_ret2;exact⟨zj (Zx w _) (Zx _ _),fun _=>⟨_,_,rfl,by rw[uh HB];exact LJ w 100 2⟩,fun h=>by rw[uh HB]at h;omega⟩
 ·have t100:¬ (100:Int)<(ms.length:Int):=by omega
  obtain⟨i0,hi,hz0,hz1,hz2⟩:=info_parts LH;go_in;go_wp2_with (at_make;refine wpList_make_own _ rfl _ _ 99 rfl w.heap.size 83 i0 (.pointer none) 1 underlying99 hi hz0 hz1 .i64 .i64 _ ms.length rfl rfl rfl (by rw[hz2];omega) (by unfold maxLen;omega) (yd _) ?_);intro w1 p l;have Y:Bw w w1:=(yG _ _).grown l (yd _) (by intro k hk;cases hk);have HB1:=zh Y;have HO1:=zh p;clear Y p l;go_wp2;go_loopw [4,23] (fun lv i wr=>∃ (k:Nat) (qs:List Qi),k<=ms.length/\i= .int .i64 k/\Bw w wr/\GD wr w.heap.size (VL w.heap.size wr lv) lv (ms.take k) qs/\∀ j (h:j<ms.length),j<k->Zp ms[j]=true) (fun _ i _=>ms.length - (intOf i).toNat)
  case atStart=>exact⟨0,[],yr _,rfl,uh HB1,⟨by simp,uh HO1,fun j m q hm _=>by simp at hm,fun k hk=>hk.2.2⟩,fun j h hj=>by omega⟩
  case round=>
   obtain⟨k,qs,hk,rfl,s,I,z⟩:=hrel;have n:qs.length=k:=by rw[I.len,yl];omega
   obtain⟨la,lc,rfl,ab⟩:∃ la lc,u4= .slice la k lc/\True:=by
    rcases I.row.2 with ⟨hv,hn⟩ |⟨g,V,cur,hv,_⟩
    ·exact⟨none,0,by rw[hv,← n,hn],trivial⟩
    ·exact⟨some ⟨g,0,none⟩,V,by rw[hv,n],trivial⟩
   by_cases A:k<ms.length
   ·obtain⟨g,rfl⟩:=uh HXA (by omega);obtain⟨vs,ib,hE,Z,_⟩:=((uh H).below s).at (yw A);obtain⟨rfl,_⟩:=hE;have c0:wr.cell? ⟨g,k*4,none⟩=some (.int .i64 ms[k].kind):=(Z 0 _ rfl).1;have c1:wr.cell? ⟨g,k*4+1,none⟩=some (.string ms[k].path):=(Z 1 _ rfl).1;have c2:wr.cell? ⟨g,k*4+2,none⟩=some (.string ms[k].src):=(Z 2 _ rfl).1;have c3:wr.cell? ⟨g,k*4+3,none⟩=some (.string ms[k].val):=(Z 3 _ rfl).1;have M:=zh I;have P:=zh z;have a:=zh s;clear Z I z s ab;have hA:=Zx wr (.cells #[.int .i64 ms[k].kind,.string ms[k].path,.string ms[k].src,.string ms[k].val] 59);have zA:(wr.alloc (.cells #[.int .i64 ms[k].kind,.string ms[k].path,.string ms[k].src,.string ms[k].val] 59)).heap.size=wr.heap.size+1:=by simp
    obtain⟨i1,i2,i3⟩:=uh HIN ms[k] (yq A);have C:=hw.up (zj (uh a) hA);have HA:=zh hA;have T:=zh zA
    cases hok:Zp ms[k]with
    | false=>
     have R:=zh (At ms[k] _ hok C i1 i2 i3);have f:Hid (qw ms=(k:Int)):=Pb (by omega) A hok (uh P);clear hok C hA zA i1 i2 i3;go_wp2_with fail;generalize (wr.alloc (.cells #[.int .i64 ms[k].kind,.string ms[k].path,.string ms[k].src,.string ms[k].val] 59))=wA at *;refine (uh R).mono ?_;rintro e L ⟨rfl,U⟩;have HB2:=zh (zj (zj (uh a) (uh HA)) U);clear R U;go_wp2;go_ret2;exact⟨zj (zj (uh HB2) (Zx _ _)) (Zx _ _),fun _=>⟨_,_,rfl,by rw[uh f];exact LJ _ _ 2⟩,fun h=>by rw[uh f]at h;omega⟩
    | true=>
     have R:=zh (As ms[k] _ hok C i1 i2 i3);have Q:Hid (∀ j (h:j<ms.length),j<k+1->Zp ms[j]=true):=fun j h hj=>by
      by_cases e:j=k
      ·subst e;exact hok
      ·exact uh P j h (by omega)
     clear hok C hA zA i1 i2 i3;go_wp2_with fail;generalize (wr.alloc (.cells #[.int .i64 ms[k].kind,.string ms[k].path,.string ms[k].src,.string ms[k].val] 59))=wA at *;refine (uh R).mono ?_;rintro e L ⟨F,pv,fv,vv,v,rfl,X,U⟩;have x:=zj (uh HA) U;have G:=Zx L (.cells #[.pointer (some ⟨F,0,none⟩)] 83);have k3:=yF L (.cells #[.pointer (some ⟨F,0,none⟩)] 83);have z02:=x.size;have z3:(L.alloc (.cells #[.pointer (some ⟨F,0,none⟩)] 83)).heap.size=L.heap.size+1:=by simp
     have hwr:=(uh a).size;have r:=ZI (ZI (uh M).row x) G;rw[n]at r;have N:=zh X;have o:=zh x;have E:=zh G;have u:=zh z3;have cx:(L.alloc (.cells #[.pointer (some ⟨F,0,none⟩)] 83)).cell? ⟨L.heap.size,0,none⟩=some (.pointer (some ⟨F,0,none⟩)):=yE k3 0;have S:=zh r;have O:=zh cx;clear R X U x G k3 z3 r cx;go_wp2_with (at_builtin;refine NU underlying99 LH rfl (by decide) rfl (.tmp 42) (.tmp 44) rfl (B:=w.heap.size) rfl (uh S) (y:=.pointer (some ⟨F,0,none⟩)) rfl rfl (uh O) (by have:=uh u;omega) (by omega) ?_);intro lv' w4 d K D;obtain⟨la',lc',rfl⟩:∃ la lc,lv'= .slice la (k+1) lc:=by
      rcases d.2 with ⟨_,hn⟩ |⟨g,V,cur,hv,_⟩
      ·omega
      ·exact⟨_,_,hv⟩
     have J:=GD.snoc (q:=⟨F,pv,fv,vv,v⟩) (uh M) (uh o) (uh N) (by have:=uh T;omega) hwr (uh E) (by rw[n];exact d) K (by rw[uh u];exact D);rw[← yx A]at J;have HL4:=zh J;have HB4:=zh ((zj (zj (uh a) (uh o)) (uh E)).grown K (by have:=uh u;omega) (fun b s=>((uh M).row.lt b s).1));clear J d K D M N o E u S O a HA T c0 c1 c2 c3;go_wp2;go_roundw
     case rel=>exact⟨k+1,_,by omega,by go_num,uh HB4,uh HL4,uh Q⟩
     case measure=>simp[intOf];omega
   ·have hk':k=ms.length:=by omega
    subst hk';rw[List.take_length]at I;have f:Hid (qw ms= -1):=Pc (by omega) (fun j h=>z j h h);have M:=zh I;have a:=zh s;clear I s z ab;go_wp2;go_ret2;exact⟨uh a,fun h=>(by rw[uh f]at h;omega),fun _=>⟨_,qs,rfl,uh M⟩⟩
theorem Ax(v:Value)(ms:List zk)(bl:List Nat)(w:Wo)(h:Zn V9 w v ms bl)(hs:Wd ms)(hw:Qn w):
  Calls prog 59 #[v] w (Av ms w):=
 (Aw v ms bl w h hs hw).mono fun _ _ h=>⟨h.1,fun hb=>by obtain⟨t,p,e,_⟩:=h.2.1 hb;exact⟨t,p,e⟩,h.2.2⟩
theorem GE{m:zk}(h:Zp m=true):1<=m.kind/\m.kind<=6/\(zG m.path.data.toList).isSome=true/\(zG m.src.data.toList).isSome=true/\(Zh m.kind=false->m.src.toList=[])/\(zY m.kind=true->Z1 m.val=true)/\(zY m.kind=false->m.val.toList=[]):=by
 unfold Zp at h;simp only[Bool.and_eq_true,decide_eq_true_eq]at h;obtain⟨⟨⟨⟨g,i⟩,j⟩,a⟩,b⟩:=h;refine⟨g,i,j,?_,?_,?_,?_⟩
 ·cases d:Zh m.kind with
  | true=>rw[d]at a;exact a
  | false=>
   rw[d]at a;have e:m.src.toList=[]:=by simpa using a
   rw[ByteArray.toList_eq]at e;rw[e];rfl
 ·intro d;rw[d]at a;simpa using a
 ·intro f;rw[f]at b;exact b
 ·intro f;rw[f]at b;simpa using b
theorem Ay(l:List UInt8):l.length<=(Zz l).length:=by
 induction l with
 | nil=>simp
 | cons c l ih=>
  have a:1<=(Qz c).length:=by
   unfold Qz
   repeat' split
   all_goals simp
  have:Zz (c :: l)=Qz c++Zz l:=by simp[Zz]
  rw[this,yg,ym];omega
theorem LK:∀ ss:List Bs,ss.length+Z9 ss<=(Zf ss).length
 | []=>by simp[Z9,Zf]
 | s :: ss=>by
  have h1:=LK ss;have a:=Ay s.data.toList;rw[Zb]at a;rw[XV];simp[Z9]at *;omega
theorem Az{s:Bs}(h:(zG s.data.toList).isSome=true):Zf ((ZK s).map Zc)=s.data.toList:=by
 cases hp:zG s.data.toList with
 | none=>rw[hp]at h;cases h
 | some ts=>unfold ZK;rw[hp];exact MS hp
theorem YO(s:Bs)(v:Value)(w:Wo)(h:OT w 0 v (ZK s))(hp:(zG s.data.toList).isSome=true)(hs:s.size<=1048576):
  Calls prog 108 #[v] w fun e w'=>e= .returned (.string s)/\Bw w w':=by
 obtain⟨a,g,c,rfl,d,_⟩:=h.shape;have f:=Az hp;have i:(ZK s).length=((ZK s).map Zc).length:=by simp
 rw[i];refine (MQ a g 0 c _ w d ?_).mono ?_
 ·have:=LK ((ZK s).map Zc);rw[f,Zb]at this;omega
 ·rintro e w' ⟨rfl,b⟩;refine⟨?_,b⟩;rw[f]
theorem J7{w:Wo}{b n:Nat}{xs:List (List UInt8×Value)}(h:w.ownsMap prog 9 RH b n (ZE xs))(hn:n<=100)(key:List UInt8)(hk:key.length<=1048576)(v:Value):
  ∃ w',(Instr.mapUpdate 172 (.map (some b)) (.string (zi key)) v).run prog w= .ok () w'/\w'.ownsMap prog 9 RH b (n+1) (ZE (xs++[(key,v)]))/\w.grownBy w' (some b):=by
 obtain⟨w',a,d,f⟩:=h.update (Maps.string_keyed underlying9) underlying172 (by unfold maxLen;omega) (SK key hk) (show RH v=some (.held v,[])from rfl);exact⟨w',a,by rw[Wp];exact d,f⟩
theorem LL(s:Bs):zi s.data.toList=s:=by obtain⟨⟨l⟩⟩:=s;rfl
def JP(m:zk)(q:Qi):List (List UInt8×Value):=[(qU,.iface 171 (.string (qW m.kind))),(ZS,.iface 171 (.string m.path))]++(if Zh m.kind then [(qA,.iface 171 (.string m.src))]else [])++(if zY m.kind then [(Qj,q.vv)]else [])
theorem AA{w:Wo}{S:Nat->Prop}{m:zk}{q:Qi}(h:zY m.kind=true->zl w S q.v q.vv):Zm w S (JM.ofL (Ye m q.v)) (JP m q):=by
 have a:zl w S (.str (Zk m.kind)) (.iface 171 (.string (qW m.kind))):=by rw[zl];rfl
 have b:zl w S (.str m.path.data.toList) (.iface 171 (.string m.path)):=by rw[zl,LL]
 have d:zl w S (.str m.src.data.toList) (.iface 171 (.string m.src)):=by rw[zl,LL]
 unfold Ye JP
 cases hf:Zh m.kind with
 | false=>
  cases hv:zY m.kind with
  | false=>
   show Zm w S (.cons _ _ (.cons _ _ .nil)) [_,_]
   rw[Zm];refine⟨_,_,rfl,a,?_⟩;rw[Zm];refine⟨_,_,rfl,b,?_⟩;rw[Zm]
  | true=>
   show Zm w S (.cons _ _ (.cons _ _ (.cons _ _ .nil))) [_,_,_]
   rw[Zm];refine⟨_,_,rfl,a,?_⟩;rw[Zm];refine⟨_,_,rfl,b,?_⟩;rw[Zm];refine⟨_,_,rfl,h hv,?_⟩;rw[Zm]
 | true=>
  cases hv:zY m.kind with
  | false=>
   show Zm w S (.cons _ _ (.cons _ _ (.cons _ _ .nil))) [_,_,_]
   rw[Zm];refine⟨_,_,rfl,a,?_⟩;rw[Zm];refine⟨_,_,rfl,b,?_⟩;rw[Zm];refine⟨_,_,rfl,d,?_⟩;rw[Zm]
  | true=>
   show Zm w S (.cons _ _ (.cons _ _ (.cons _ _ (.cons _ _ .nil)))) [_,_,_,_]
   rw[Zm];refine⟨_,_,rfl,a,?_⟩;rw[Zm];refine⟨_,_,rfl,b,?_⟩;rw[Zm];refine⟨_,_,rfl,d,?_⟩;rw[Zm];refine⟨_,_,rfl,h hv,?_⟩;rw[Zm]
def GF(m:zk)(q:Qi)(S:Nat->Prop)(w:Wo)(e:Ending)(w':Wo):Prop:=∃ ob,e= .returned (.tuple #[.iface 173 (.pointer (some ⟨ob,0,none⟩)),.bool true])/\zl w' (fun k=>S k∨(w.heap.size<=k/\k<w'.heap.size)) (Jl m q.v) (.iface 173 (.pointer (some ⟨ob,0,none⟩)))/\Bw w w'
theorem Xv{m:zk}{q:Qi}{S:Nat->Prop}{w wm:Wo}{n b:Nat}(h:JO w S m q)(hS:∀ k,S k->k<w.heap.size)(hb:w.heap.size<=b)(hbel:Bw w wm)(hm:wm.ownsMap prog 9 RH b n (ZE (JP m q)))(hlt:b<wm.heap.size)(hn:n<=(JP m q).length):
  GF m q S w (.returned (.tuple #[.iface 173 (.pointer (some ⟨wm.heap.size,0,none⟩)),.bool true])) (wm.alloc (.cells #[.map (some b)] 175)):=by
 have a:=Zx wm (.cells #[.map (some b)] 175);have g:(wm.alloc (.cells #[.map (some b)] 175)).heap.size=wm.heap.size+1:=by simp
 have d:=hbel.size;refine⟨_,rfl,?_,zj hbel a⟩;unfold Jl;rw[zl];refine⟨_,b,n,JP m q,rfl,.inr ⟨by omega,by omega⟩,.inr ⟨hb,by omega⟩,yF _ _,Vr hm (a.block b hlt),hn,AA fun hv=>?_⟩;obtain⟨_,_,_,_,_,f⟩:=h.val hv;exact zl.keep (fun k hk=>(zj hbel a).block k (hS k hk)) (fun k hk=>.inl hk) _ _ f
theorem AB(m:zk)(q:Qi)(w:Wo)(S:Nat->Prop)(h:JO w S m q)(hS:∀ k,S k->k<w.heap.size)(hok:Zp m=true)(hw:Qn w)(hz1:m.path.size<=1048576)(hz2:m.src.size<=1048576)(hv:qV m=true)(ef:Zh m.kind=false)(ev:zY m.kind=false):
  Calls prog 60 #[QR q] w (GF m q S w):=by
 obtain⟨_,_,X,Y,_,_,_⟩:=GE hok;have f:=h.blk;have K:q.g<w.heap.size:=(yA.1 f).1;unfold qV at hv;rw[Bool.and_eq_true]at hv;obtain⟨pa,pg,pc,z,_,_⟩:=h.path.shape;obtain⟨G,fg,H,y,_,_⟩:=h.src.shape;have N:Hid (∀ wx,Bw w wx->Calls prog 108 #[q.pv] wx (Rb (.string m.path) wx)):=fun wx hx=>YO m.path q.pv wx (ZI h.path hx) X hz1;have M:Hid (∀ wx,Bw w wx->Calls prog 108 #[q.fv] wx (Rb (.string m.src) wx)):=fun wx hx=>YO m.src q.fv wx (ZI h.src hx) Y hz2;have E:Hid (∀ wx,Bw w wx->Calls prog 109 #[.string m.path] wx (Rb (.bool true) wx)):=fun wx hx=>by
  have:=Any.utf8_ValidString Tryz.laysValid m.path wx (by omega) (hw.up hx).tab.tabs;rw[hv.1]at this;exact this
 have F:Hid (∀ wx,Bw w wx->Calls prog 109 #[.string m.src] wx (Rb (.bool true) wx)):=fun wx hx=>by
  have:=Any.utf8_ValidString Tryz.laysValid m.src wx (by omega) (hw.up hx).tab.tabs;rw[hv.2]at this;exact this
 rw[z]at N f;rw[y]at M f;unfold Ve at f;rw[ef,ev]at f;have HC:Hid (∀ wx,Bw w wx->wx.heap[q.g]?=some (.cells #[.string (qW m.kind),.int .i64 m.kind,.bool false,.bool false,.bool (Jo m.kind),.bool (Jp m.kind),Qt m.kind,.slice pa (ZK m.path).length pc,.slice G (ZK m.src).length H,q.vv] 137 (0,0))):=fun wx hx=>(hx.block q.g K).trans f;have O:Hid (JP m q=[(qU,.iface 171 (.string (qW m.kind))),(ZS,.iface 171 (.string m.path))]):=by show _=_;unfold JP;rw[ef,ev];rfl
 have HH:=zh h;have C:=zh hS;have B:Bw w w.drew:=(yG _ _).drew;have c7:w.drew.cell? ⟨q.g,7,none⟩=some (.slice pa (ZK m.path).length pc):=yE (uh HC _ B) 7;have c8:w.drew.cell? ⟨q.g,8,none⟩=some (.slice G (ZK m.src).length H):=yE (uh HC _ B) 8;have D:=zh (uh N w.drew B);generalize qW m.kind=wb at *;clear f h hS X Y hw hv z y ef ev hok;unfold QR;go_in;go_wp2_with fail;go_region_law (first
  |(go_simp;refine (uh s).mono ?_;rintro e w2 ⟨rfl,R⟩)
  |(
    go_simp;refine (uh D).mono ?_;rintro e w1 ⟨rfl,Q⟩;have a:=zj B Q;have d8:w1.cell? ⟨q.g,8,none⟩=some (.slice G (ZK m.src).length H):=yE (uh HC _ a) 8;have s:=zh (uh M w1 a)))
 all_goals (
  have p:=zh (zj a R);have v:=zh (uh E w2 (uh p));clear Q R a d8 s c7 c8;go_wp2_with fail;refine (uh v).mono ?_;rintro e w3 ⟨rfl,T⟩;have r:=zh (zj (uh p) T);have x:=zh (uh F w3 (uh r));clear T v;go_wp2_with fail;refine (uh x).mono ?_;rintro e d ⟨rfl,U⟩;have i:=zj (uh r) U;have W:=Zx d (.map #[] 0);have zM:(d.alloc (.map #[] 0)).heap.size=d.heap.size+1:=by simp
  have j:=zj i W;have L:=i.size;have Z:(d.alloc (.map #[] 0)).ownsMap prog 9 RH d.heap.size 0 (ZE []):=World.ownsMap_made d prog 9 RH;obtain⟨wa,ra,ma,I⟩:=J7 Z (by omega) qU (by decide) (.iface 171 (.string wb));obtain⟨o,rb,mb,J⟩:=J7 ma (by omega) ZS (by decide) (.iface 171 (.string m.path));have za:=I.size;have zb:=J.size;have V:Bw w wa:=j.grown I (by omega) (fun k hk=>by injection hk with hk;omega);have A:Bw w o:=V.grown J (by omega) (fun k hk=>by injection hk with hk;omega);have hmm:=run_makeMap (P:=prog) 172 d;have d0:(d.alloc (.map #[] 0)).cell? ⟨q.g,0,none⟩=some (.string wb):=yE (uh HC _ j) 0;have e2:o.cell? ⟨q.g,2,none⟩=some (.bool false):=yE (uh HC _ A) 2;have e3:o.cell? ⟨q.g,3,none⟩=some (.bool false):=yE (uh HC _ A) 3;have u:=zh (Xv (n:=0+1+1) (b:=d.heap.size) (uh HH) (uh C) L A (by rw[uh O];exact mb) (by omega) (by rw[uh O];exact yd _));unfold qU at ra;unfold ZS at rb;have so:∀ l:List UInt8,zi l=⟨l.toArray⟩:=fun _=>rfl;rw[so]at ra rb;clear so U x i W zM j Z ma mb I J za zb V A;go_wp2;go_ret2;exact uh u)
theorem AC(m:zk)(q:Qi)(w:Wo)(S:Nat->Prop)(h:JO w S m q)(hS:∀ k,S k->k<w.heap.size)(hok:Zp m=true)(hw:Qn w)(hz1:m.path.size<=1048576)(hz2:m.src.size<=1048576)(hv:qV m=true)(ef:Zh m.kind=false)(ev:zY m.kind=true):
  Calls prog 60 #[QR q] w (GF m q S w):=by
 obtain⟨_,_,hp,hs,_,_,_⟩:=GE hok;have i:=h.blk;have M:q.g<w.heap.size:=(yA.1 i).1;unfold qV at hv;rw[Bool.and_eq_true]at hv;obtain⟨pa,pg,pc,B,_,_⟩:=h.path.shape;obtain⟨I,fg,J,A,_,_⟩:=h.src.shape;have T:Hid (∀ wx,Bw w wx->Calls prog 108 #[q.pv] wx (Rb (.string m.path) wx)):=fun wx hx=>YO m.path q.pv wx (ZI h.path hx) hp hz1;have R:Hid (∀ wx,Bw w wx->Calls prog 108 #[q.fv] wx (Rb (.string m.src) wx)):=fun wx hx=>YO m.src q.fv wx (ZI h.src hx) hs hz2;have F:Hid (∀ wx,Bw w wx->Calls prog 109 #[.string m.path] wx (Rb (.bool true) wx)):=fun wx hx=>by
  have:=Any.utf8_ValidString Tryz.laysValid m.path wx (by omega) (hw.up hx).tab.tabs;rw[hv.1]at this;exact this
 have G:Hid (∀ wx,Bw w wx->Calls prog 109 #[.string m.src] wx (Rb (.bool true) wx)):=fun wx hx=>by
  have:=Any.utf8_ValidString Tryz.laysValid m.src wx (by omega) (hw.up hx).tab.tabs;rw[hv.2]at this;exact this
 rw[B]at T i;rw[A]at R i;unfold Ve at i;rw[ef,ev]at i;have HC:Hid (∀ wx,Bw w wx->wx.heap[q.g]?=some (.cells #[.string (qW m.kind),.int .i64 m.kind,.bool false,.bool true,.bool (Jo m.kind),.bool (Jp m.kind),Qt m.kind,.slice pa (ZK m.path).length pc,.slice I (ZK m.src).length J,q.vv] 137 (0,0))):=fun wx hx=>(hx.block q.g M).trans i;have U:Hid (JP m q=[(qU,.iface 171 (.string (qW m.kind))),(ZS,.iface 171 (.string m.path)),(Qj,q.vv)]):=by show _=_;unfold JP;rw[ef,ev];rfl
 have H:Hid (∃ t p,q.vv= .iface t p):=by
  obtain⟨_,_,t,p,h3,_⟩:=h.val ev;exact⟨t,p,h3⟩
 have HH:=zh h;have D:=zh hS;have C:Bw w w.drew:=(yG _ _).drew;have c7:w.drew.cell? ⟨q.g,7,none⟩=some (.slice pa (ZK m.path).length pc):=yE (uh HC _ C) 7;have c8:w.drew.cell? ⟨q.g,8,none⟩=some (.slice I (ZK m.src).length J):=yE (uh HC _ C) 8;have E:=zh (uh T w.drew C);generalize qW m.kind=wb at *;clear i h hS hp hs hw hv B A ef ev hok;unfold QR;go_in;go_wp2_with fail;go_region_law (first
  |(go_simp;refine (uh u).mono ?_;rintro e w2 ⟨rfl,W⟩)
  |(
    go_simp;refine (uh E).mono ?_;rintro e w1 ⟨rfl,V⟩;have a:=zj C V;have d8:w1.cell? ⟨q.g,8,none⟩=some (.slice I (ZK m.src).length J):=yE (uh HC _ a) 8;have u:=zh (uh R w1 a)))
 all_goals (
  have r:=zh (zj a W);have x:=zh (uh F w2 (uh r));clear V W a d8 u c7 c8;go_wp2_with fail;refine (uh x).mono ?_;rintro e w3 ⟨rfl,X⟩;have s:=zh (zj (uh r) X);have y:=zh (uh G w3 (uh s));clear X x;go_wp2_with fail;refine (uh y).mono ?_;rintro e d ⟨rfl,Y⟩;have j:=zj (uh s) Y;have hM:=Zx d (.map #[] 0);have zM:(d.alloc (.map #[] 0)).heap.size=d.heap.size+1:=by simp
  have o:=zj j hM;have O:=j.size;have m0:(d.alloc (.map #[] 0)).ownsMap prog 9 RH d.heap.size 0 (ZE []):=World.ownsMap_made d prog 9 RH;obtain⟨wa,ra,ma,K⟩:=J7 m0 (by omega) qU (by decide) (.iface 171 (.string wb));obtain⟨f,rb,mb,L⟩:=J7 ma (by omega) ZS (by decide) (.iface 171 (.string m.path));have za:=K.size;have zb:=L.size;have Z:Bw w wa:=o.grown K (by omega) (fun k hk=>by injection hk with hk;omega);have z:Bw w f:=Z.grown L (by omega) (fun k hk=>by injection hk with hk;omega);obtain⟨vt,vp,N⟩:=uh H;obtain⟨we,Q,me,ge⟩:=J7 mb (by omega) Qj (by decide) q.vv;have ze:=ge.size;have bE:Bw w we:=z.grown ge (by omega) (fun k hk=>by injection hk with hk;omega);have hmm:=run_makeMap (P:=prog) 172 d;have d0:(d.alloc (.map #[] 0)).cell? ⟨q.g,0,none⟩=some (.string wb):=yE (uh HC _ o) 0;have e2:f.cell? ⟨q.g,2,none⟩=some (.bool false):=yE (uh HC _ z) 2;have e3:f.cell? ⟨q.g,3,none⟩=some (.bool true):=yE (uh HC _ z) 3;have e9:f.cell? ⟨q.g,9,none⟩=some q.vv:=yE (uh HC _ z) 9;rw[N]at e9 Q;have v:=zh (Xv (n:=0+1+1+1) (b:=d.heap.size) (uh HH) (uh D) O bE (by rw[uh U];exact me) (by omega) (by rw[uh U];exact yd _));unfold qU at ra;unfold ZS at rb;unfold Qj at Q;have so:∀ l:List UInt8,zi l=⟨l.toArray⟩:=fun _=>rfl;rw[so]at ra rb Q;clear so Y y j hM zM o m0 ma mb K L za zb Z z me ge ze bE;go_wp2;go_ret2;exact uh v)
theorem AD(m:zk)(q:Qi)(w:Wo)(S:Nat->Prop)(h:JO w S m q)(hS:∀ k,S k->k<w.heap.size)(hok:Zp m=true)(hw:Qn w)(hz1:m.path.size<=1048576)(hz2:m.src.size<=1048576)(hv:qV m=true)(ef:Zh m.kind=true)(ev:zY m.kind=false):
  Calls prog 60 #[QR q] w (GF m q S w):=by
 obtain⟨_,_,Z,hs,_,_,_⟩:=GE hok;have f:=h.blk;have M:q.g<w.heap.size:=(yA.1 f).1;unfold qV at hv;rw[Bool.and_eq_true]at hv;obtain⟨pa,pg,pc,y,_,_⟩:=h.path.shape;obtain⟨H,fg,I,x,_,_⟩:=h.src.shape;have Q:Hid (∀ wx,Bw w wx->Calls prog 108 #[q.pv] wx (Rb (.string m.path) wx)):=fun wx hx=>YO m.path q.pv wx (ZI h.path hx) Z hz1;have O:Hid (∀ wx,Bw w wx->Calls prog 108 #[q.fv] wx (Rb (.string m.src) wx)):=fun wx hx=>YO m.src q.fv wx (ZI h.src hx) hs hz2;have D:Hid (∀ wx,Bw w wx->Calls prog 109 #[.string m.path] wx (Rb (.bool true) wx)):=fun wx hx=>by
  have:=Any.utf8_ValidString Tryz.laysValid m.path wx (by omega) (hw.up hx).tab.tabs;rw[hv.1]at this;exact this
 have E:Hid (∀ wx,Bw w wx->Calls prog 109 #[.string m.src] wx (Rb (.bool true) wx)):=fun wx hx=>by
  have:=Any.utf8_ValidString Tryz.laysValid m.src wx (by omega) (hw.up hx).tab.tabs;rw[hv.2]at this;exact this
 rw[y]at Q f;rw[x]at O f;unfold Ve at f;rw[ef,ev]at f;have HC:Hid (∀ wx,Bw w wx->wx.heap[q.g]?=some (.cells #[.string (qW m.kind),.int .i64 m.kind,.bool true,.bool false,.bool (Jo m.kind),.bool (Jp m.kind),Qt m.kind,.slice pa (ZK m.path).length pc,.slice H (ZK m.src).length I,q.vv] 137 (0,0))):=fun wx hx=>(hx.block q.g M).trans f;have R:Hid (JP m q=[(qU,.iface 171 (.string (qW m.kind))),(ZS,.iface 171 (.string m.path)),(qA,.iface 171 (.string m.src))]):=by show _=_;unfold JP;rw[ef,ev];rfl
 have HH:=zh h;have B:=zh hS;have A:Bw w w.drew:=(yG _ _).drew;have c7:w.drew.cell? ⟨q.g,7,none⟩=some (.slice pa (ZK m.path).length pc):=yE (uh HC _ A) 7;have c8:w.drew.cell? ⟨q.g,8,none⟩=some (.slice H (ZK m.src).length I):=yE (uh HC _ A) 8;have C:=zh (uh Q w.drew A);generalize qW m.kind=wb at *;clear f h hS Z hs hw hv y x ef ev hok;unfold QR;go_in;go_wp2_with fail;go_region_law (first
  |(go_simp;refine (uh r).mono ?_;rintro e w2 ⟨rfl,U⟩)
  |(
    go_simp;refine (uh C).mono ?_;rintro e w1 ⟨rfl,T⟩;have a:=zj A T;have d8:w1.cell? ⟨q.g,8,none⟩=some (.slice H (ZK m.src).length I):=yE (uh HC _ a) 8;have r:=zh (uh O w1 a)))
 all_goals (
  have o:=zh (zj a U);have u:=zh (uh D w2 (uh o));clear T U a d8 r c7 c8;go_wp2_with fail;refine (uh u).mono ?_;rintro e w3 ⟨rfl,V⟩;have p:=zh (zj (uh o) V);have v:=zh (uh E w3 (uh p));clear V u;go_wp2_with fail;refine (uh v).mono ?_;rintro e d ⟨rfl,W⟩;have i:=zj (uh p) W;have Y:=Zx d (.map #[] 0);have zM:(d.alloc (.map #[] 0)).heap.size=d.heap.size+1:=by simp
  have j:=zj i Y;have N:=i.size;have m0:(d.alloc (.map #[] 0)).ownsMap prog 9 RH d.heap.size 0 (ZE []):=World.ownsMap_made d prog 9 RH;obtain⟨wa,ra,ma,J⟩:=J7 m0 (by omega) qU (by decide) (.iface 171 (.string wb));obtain⟨z,rb,mb,K⟩:=J7 ma (by omega) ZS (by decide) (.iface 171 (.string m.path));have za:=J.size;have zb:=K.size;have X:Bw w wa:=j.grown J (by omega) (fun k hk=>by injection hk with hk;omega);have F:Bw w z:=X.grown K (by omega) (fun k hk=>by injection hk with hk;omega);obtain⟨wc,rc,mc,L⟩:=J7 mb (by omega) qA (by decide) (.iface 171 (.string m.src));have zc:=L.size;have G:Bw w wc:=F.grown L (by omega) (fun k hk=>by injection hk with hk;omega);have hmm:=run_makeMap (P:=prog) 172 d;have d0:(d.alloc (.map #[] 0)).cell? ⟨q.g,0,none⟩=some (.string wb):=yE (uh HC _ j) 0;have e2:z.cell? ⟨q.g,2,none⟩=some (.bool true):=yE (uh HC _ F) 2;have e3:wc.cell? ⟨q.g,3,none⟩=some (.bool false):=yE (uh HC _ G) 3;have s:=zh (Xv (n:=0+1+1+1) (b:=d.heap.size) (uh HH) (uh B) N G (by rw[uh R];exact mc) (by omega) (by rw[uh R];exact yd _));unfold qU at ra;unfold ZS at rb;unfold qA at rc;have so:∀ l:List UInt8,zi l=⟨l.toArray⟩:=fun _=>rfl;rw[so]at ra rb rc;clear so W v i Y zM j m0 ma mb J K za zb X F mc L zc G;go_wp2;go_ret2;exact uh s)
theorem AE(m:zk)(q:Qi)(w:Wo)(S:Nat->Prop)(h:JO w S m q)(hS:∀ k,S k->k<w.heap.size)(hok:Zp m=true)(hw:Qn w)(hz1:m.path.size<=1048576)(hz2:m.src.size<=1048576)(hv:qV m=true)(ef:Zh m.kind=true)(ev:zY m.kind=true):
  Calls prog 60 #[QR q] w (GF m q S w):=by
 obtain⟨_,_,hp,hs,_,_,_⟩:=GE hok;have f:=h.blk;have O:q.g<w.heap.size:=(yA.1 f).1;unfold qV at hv;rw[Bool.and_eq_true]at hv;obtain⟨pa,pg,pc,z,_,_⟩:=h.path.shape;obtain⟨J,fg,K,y,_,_⟩:=h.src.shape;have W:Hid (∀ wx,Bw w wx->Calls prog 108 #[q.pv] wx (Rb (.string m.path) wx)):=fun wx hx=>YO m.path q.pv wx (ZI h.path hx) hp hz1;have V:Hid (∀ wx,Bw w wx->Calls prog 108 #[q.fv] wx (Rb (.string m.src) wx)):=fun wx hx=>YO m.src q.fv wx (ZI h.src hx) hs hz2;have F:Hid (∀ wx,Bw w wx->Calls prog 109 #[.string m.path] wx (Rb (.bool true) wx)):=fun wx hx=>by
  have:=Any.utf8_ValidString Tryz.laysValid m.path wx (by omega) (hw.up hx).tab.tabs;rw[hv.1]at this;exact this
 have G:Hid (∀ wx,Bw w wx->Calls prog 109 #[.string m.src] wx (Rb (.bool true) wx)):=fun wx hx=>by
  have:=Any.utf8_ValidString Tryz.laysValid m.src wx (by omega) (hw.up hx).tab.tabs;rw[hv.2]at this;exact this
 rw[z]at W f;rw[y]at V f;unfold Ve at f;rw[ef,ev]at f;have HC:Hid (∀ wx,Bw w wx->wx.heap[q.g]?=some (.cells #[.string (qW m.kind),.int .i64 m.kind,.bool true,.bool true,.bool (Jo m.kind),.bool (Jp m.kind),Qt m.kind,.slice pa (ZK m.path).length pc,.slice J (ZK m.src).length K,q.vv] 137 (0,0))):=fun wx hx=>(hx.block q.g O).trans f;have X:Hid (JP m q=[(qU,.iface 171 (.string (qW m.kind))),(ZS,.iface 171 (.string m.path)),(qA,.iface 171 (.string m.src)),(Qj,q.vv)]):=by show _=_;unfold JP;rw[ef,ev];rfl
 have H:Hid (∃ t p,q.vv= .iface t p):=by
  obtain⟨_,_,t,p,h3,_⟩:=h.val ev;exact⟨t,p,h3⟩
 have HH:=zh h;have D:=zh hS;have C:Bw w w.drew:=(yG _ _).drew;have c7:w.drew.cell? ⟨q.g,7,none⟩=some (.slice pa (ZK m.path).length pc):=yE (uh HC _ C) 7;have c8:w.drew.cell? ⟨q.g,8,none⟩=some (.slice J (ZK m.src).length K):=yE (uh HC _ C) 8;have E:=zh (uh W w.drew C);generalize qW m.kind=wb at *;clear f h hS hp hs hw hv z y ef ev hok;unfold QR;go_in;go_wp2_with fail;go_region_law (first
  |(go_simp;refine (uh s).mono ?_;rintro e w2 ⟨rfl,Z⟩)
  |(
    go_simp;refine (uh E).mono ?_;rintro e w1 ⟨rfl,Y⟩;have a:=zj C Y;have d8:w1.cell? ⟨q.g,8,none⟩=some (.slice J (ZK m.src).length K):=yE (uh HC _ a) 8;have s:=zh (uh V w1 a)))
 all_goals (
  have o:=zh (zj a Z);have v:=zh (uh F w2 (uh o));clear Y Z a d8 s c7 c8;go_wp2_with fail;refine (uh v).mono ?_;rintro e w3 ⟨rfl,b3⟩;have r:=zh (zj (uh o) b3);have x:=zh (uh G w3 (uh r));clear b3 v;go_wp2_with fail;refine (uh x).mono ?_;rintro e d ⟨rfl,b4⟩;have i:=zj (uh r) b4;have hM:=Zx d (.map #[] 0);have zM:(d.alloc (.map #[] 0)).heap.size=d.heap.size+1:=by simp
  have j:=zj i hM;have R:=i.size;have m0:(d.alloc (.map #[] 0)).ownsMap prog 9 RH d.heap.size 0 (ZE []):=World.ownsMap_made d prog 9 RH;obtain⟨wa,ra,ma,L⟩:=J7 m0 (by omega) qU (by decide) (.iface 171 (.string wb));obtain⟨A,rb,mb,M⟩:=J7 ma (by omega) ZS (by decide) (.iface 171 (.string m.path));have za:=L.size;have zb:=M.size;have bA:Bw w wa:=j.grown L (by omega) (fun k hk=>by injection hk with hk;omega);have I:Bw w A:=bA.grown M (by omega) (fun k hk=>by injection hk with hk;omega);obtain⟨U,rc,mc,N⟩:=J7 mb (by omega) qA (by decide) (.iface 171 (.string m.src));have zc:=N.size;have B:Bw w U:=I.grown N (by omega) (fun k hk=>by injection hk with hk;omega);obtain⟨vt,vp,Q⟩:=uh H;obtain⟨we,T,me,ge⟩:=J7 mc (by omega) Qj (by decide) q.vv;have ze:=ge.size;have bE:Bw w we:=B.grown ge (by omega) (fun k hk=>by injection hk with hk;omega);have hmm:=run_makeMap (P:=prog) 172 d;have d0:(d.alloc (.map #[] 0)).cell? ⟨q.g,0,none⟩=some (.string wb):=yE (uh HC _ j) 0;have e2:A.cell? ⟨q.g,2,none⟩=some (.bool true):=yE (uh HC _ I) 2;have e3:U.cell? ⟨q.g,3,none⟩=some (.bool true):=yE (uh HC _ B) 3;have e9:U.cell? ⟨q.g,9,none⟩=some q.vv:=yE (uh HC _ B) 9;rw[Q]at e9 T;have u:=zh (Xv (n:=0+1+1+1+1) (b:=d.heap.size) (uh HH) (uh D) R bE (by rw[uh X];exact me) (by omega) (by rw[uh X];exact yd _));unfold qU at ra;unfold ZS at rb;unfold qA at rc;unfold Qj at T;have so:∀ l:List UInt8,zi l=⟨l.toArray⟩:=fun _=>rfl;rw[so]at ra rb rc T;clear so b4 x i hM zM j m0 ma mb L M za zb bA I mc N zc B me ge ze bE;go_wp2;go_ret2;exact uh u)
def AF(w:Wo)(e:Ending)(w':Wo):Prop:=e= .returned (.tuple #[.nilIface,.bool false])/\Bw w w'
theorem AG(m:zk)(q:Qi)(w:Wo)(S:Nat->Prop)(h:JO w S m q)(hok:Zp m=true)(hw:Qn w)(hz1:m.path.size<=1048576)(hz2:m.src.size<=1048576)(hv:qV m=false):
  Calls prog 60 #[QR q] w (AF w):=by
 obtain⟨_,_,E,F,_,_,_⟩:=GE hok;have k:=h.blk;have v:q.g<w.heap.size:=(yA.1 k).1;obtain⟨pa,T,pc,n,_,_⟩:=h.path.shape;obtain⟨K,R,L,l,_,_⟩:=h.src.shape;have z:Hid (∀ wx,Bw w wx->Calls prog 108 #[q.pv] wx (Rb (.string m.path) wx)):=fun wx hx=>YO m.path q.pv wx (ZI h.path hx) E hz1;have y:Hid (∀ wx,Bw w wx->Calls prog 108 #[q.fv] wx (Rb (.string m.src) wx)):=fun wx hx=>YO m.src q.fv wx (ZI h.src hx) F hz2;have r:Hid (∀ wx,Bw w wx->Calls prog 109 #[.string m.path] wx (Rb (.bool (Lib.validD m.path.data.toList)) wx)):=fun wx hx=>Any.utf8_ValidString Tryz.laysValid m.path wx (by omega) (hw.up hx).tab.tabs;have s:Hid (∀ wx,Bw w wx->Calls prog 109 #[.string m.src] wx (Rb (.bool (Lib.validD m.src.data.toList)) wx)):=fun wx hx=>Any.utf8_ValidString Tryz.laysValid m.src wx (by omega) (hw.up hx).tab.tabs;rw[n]at z k;rw[l]at y k;have HC:Hid (∀ wx,Bw w wx->wx.cell? ⟨q.g,7,none⟩=some (.slice pa (ZK m.path).length pc)/\wx.cell? ⟨q.g,8,none⟩=some (.slice K (ZK m.src).length L)):=fun wx hx=>by
  have x:=(hx.block q.g v).trans k;unfold Ve at x;exact⟨yE x 7,yE x 8⟩
 have u:Bw w w.drew:=(yG _ _).drew;obtain⟨G,H⟩:=uh HC _ u;have p:=zh (uh z w.drew u);unfold qV at hv;generalize Lib.validD m.path.data.toList=P at *;generalize Lib.validD m.src.data.toList=Q at *;clear k h E F hw n l hok;unfold QR;go_in;go_wp2_with fail;go_region_law (first
  |(go_simp;refine (uh i).mono ?_;rintro e N ⟨rfl,B⟩)
  |(
    go_simp;refine (uh p).mono ?_;rintro e M ⟨rfl,A⟩;have a:=zj u A;have I:=(uh HC _ a).2;have i:=zh (uh y M a)))
 all_goals (
  have f:=zh (zj a B);have j:=zh (uh r N (uh f));clear A B a I i G H;go_wp2_with fail;refine (uh j).mono ?_;rintro e O ⟨rfl,C⟩;have b:=zh (zj (uh f) C);have d:=zh (uh s O (uh b));clear C j
  cases P with
  | false=>
   clear d hv;go_wp2;go_ret2;exact⟨rfl,uh b⟩
  | true=>
   have J:Q=false:=by simpa using hv
   subst J;clear hv;go_wp2_with fail;refine (uh d).mono ?_;rintro e U ⟨rfl,D⟩;have o:=zh (zj (uh b) D);clear D d;go_wp2;go_ret2;exact⟨rfl,uh o⟩)
theorem AH(m:zk)(q:Qi)(w:Wo)(S:Nat->Prop)(h:JO w S m q)(hS:∀ k,S k->k<w.heap.size)(hok:Zp m=true)(hw:Qn w)(hz1:m.path.size<=1048576)(hz2:m.src.size<=1048576)(hv:qV m=true):
  Calls prog 60 #[QR q] w (GF m q S w):=by
 cases ef:Zh m.kind with
 | false=>
  cases ev:zY m.kind with
  | false=>exact AB m q w S h hS hok hw hz1 hz2 hv ef ev
  | true=>exact AC m q w S h hS hok hw hz1 hz2 hv ef ev
 | true=>
  cases ev:zY m.kind with
  | false=>exact AD m q w S h hS hok hw hz1 hz2 hv ef ev
  | true=>exact AE m q w S h hS hok hw hz1 hz2 hv ef ev
theorem AJ{v:JV}(h:Zj v):zo v<=(ct v).length/\zE v<=zo v:=by
 have a:=(Gw (Lj h)).2.1;rw[zS,(VK v).cnt]at a;exact⟨a,(Jv v).1⟩
theorem AK(v:JV)(hr:Zj v)(htw:zw v=false)(w:Wo)(S:Nat->Prop)(t:TypeId)(p:Value)(rep:zl w S v (.iface t p))(hS:∀ k,S k->k<w.heap.size)(hP:Qx w.heap.size w)(hl:(ct v).length<=10000000):
  Calls prog 61 #[.iface t p] w fun e w'=>e= .returned (.bool (decide (zE v<=100/\zo v<=3000/\(ct v).length<=20000)))/\Bw w w':=by
 obtain⟨s,u⟩:=AJ hr;have HC:=zh (Xg v (Vc v hr) htw w S t p rep hS hP hl (by omega) (by omega));clear hr htw rep hS hP;generalize zE v=d at *;generalize zo v=c at *;generalize (ct v).length=n at *;obtain⟨z,m⟩:∃ z,decide (d<=100/\c<=3000/\n<=20000)=z:=⟨_,rfl⟩;rw[m];have i:=zh m;clear m;go_in;go_wp2_with fail;refine (uh HC).mono ?_;rintro e x ⟨rfl,l⟩;have g:=zh (l.alloc l.size (ZX d c n));clear HC l;simp only[Jx];by_cases b:d<=100
 ·have q:(d:Int)<=100:=by omega
  by_cases f:c<=3000
  ·have o:(c:Int)<=3000:=by omega
   by_cases j:n<=20000
   ·have r:(n:Int)<=20000:=by omega
    have a:Hid (z=true):=(uh i).symm.trans (yi ⟨b,f,j⟩);clear b f j;go_wp2;go_ret;exact⟨by rw[uh a];rfl,uh g⟩
   ·have r:¬ (n:Int)<=20000:=by omega
    have a:Hid (z=false):=(uh i).symm.trans (yj (fun h=>j h.2.2));clear b f j;go_wp2;go_ret;exact⟨by rw[uh a];rfl,uh g⟩
  ·have o:¬ (c:Int)<=3000:=by omega
   have a:Hid (z=false):=(uh i).symm.trans (yj (fun h=>f h.2.1));clear b f;go_wp2;go_ret;exact⟨by rw[uh a];rfl,uh g⟩
 ·have q:¬ (d:Int)<=100:=by omega
  have a:Hid (z=false):=(uh i).symm.trans (yj (fun h=>b h.1));clear b;go_wp2;go_ret;exact⟨by rw[uh a];rfl,uh g⟩
theorem OX:∀ ms:List zk,nl (ms.map qd)<=6*(ms.map Yd).sum+200*ms.length
 | []=>by simp[nl]
 | m :: r=>by
  have h1:=X9 m;have a:=OX r;simp[nl]at *;omega
theorem AL{ms:List zk}(hs:YV ms<=1048576)(hl:ms.length<=100):(Zi (ms.map qd)).length<=10000000:=by
 have b:=OX ms;have a:=Vw (ms.map qd);have d:(Zi (ms.map qd)).length=(joinC (ms.map qd)).length+2:=by simp[Zi]
 unfold YV at hs;unfold hold at a;simp at a;omega
theorem AM(a b:List JV):(JL.ofL a).app (JL.ofL b)=JL.ofL (a++b):=by
 induction a with
 | nil=>rfl
 | cons v r ih=>show JL.cons v ((JL.ofL r).app (JL.ofL b))=_;rw[ih];rfl
def JA(ms:List zk)(qs:List Qi):List (zk×JV):=(ms.zip qs).map fun p=>(p.1,p.2.v)
def GG(ms:List zk)(qs:List Qi)(k:Nat):List JV:=((JA ms qs).take k).map fun q=>Jl q.1 q.2
theorem AN{ms:List zk}{qs:List Qi}{k:Nat}(h1:k<ms.length)(h2:k<qs.length):GG ms qs (k+1)=GG ms qs k++[Jl ms[k] qs[k].v]:=by
 unfold GG JA;rw[yx (by simp;omega),yv];simp
structure UU(P0:Nat)(ts:List JV)(n:Nat)(wr:Wo)(xs:List Value)(sv:Value):Prop where
 blk:wr.heap[P0]?=some (.cells #[sv] 105 (0,0))
 row:wr.ownsRow (P0+1) 61 1 sv n xs
 len:xs.length=n
 rep:ZB wr (fun k=>k<P0∨(P0<k/\k<wr.heap.size/\sv.ownBlock≠some k)) (JL.ofL ts) xs
theorem UU.next {P0 n:Nat} {ts:List JV} {t:JV} {wr w2 w3 w4:Wo} {xs:List Value} {sv sv':Value} {x:Value} {T:Nat->Prop} (h:UU P0 ts n wr xs sv) (hT:∀ k,T k->k<P0) (b2:Bw wr w2) (b3:Bw w2 w3)
  (hx:zl w2 (fun k=>T k∨(wr.heap.size<=k/\k<w2.heap.size)) t x) (hrow:w4.ownsRow (P0+1) 61 1 sv' (n+1) (xs++[x])) (hg:w3.grownBy w4 sv.ownBlock) (hwh:sv'.ownBlock=sv.ownBlock∨sv'.ownBlock=some w3.heap.size):
  UU P0 (ts++[t]) (n+1) (w4.setCell ⟨P0,0,none⟩ sv') (xs++[x]) sv'/\Below P0 wr (w4.setCell ⟨P0,0,none⟩ sv'):=by
 have s:P0<wr.heap.size:=(yA.1 h.blk).1;have z:=b2.size;have A:=b3.size;have B:=hg.size;have C:(w4.setCell ⟨P0,0,none⟩ sv').heap.size=w4.heap.size:=by simp[World.setCell]
 have f:∀ k,sv.ownBlock=some k->P0<k/\k<wr.heap.size:=fun k a=>by have:=h.row.lt k a;omega
 have b:∀ k,k<w3.heap.size->sv.ownBlock≠some k->w4.heap[k]?=w3.heap[k]?:=fun k h1 h2=>hg.block k h1 (fun e=>h2 e.symm);have d:∀ k,k≠P0->(w4.setCell ⟨P0,0,none⟩ sv').heap[k]?=w4.heap[k]?:=fun k a=>Below.heap_setCell w4 ⟨P0,0,none⟩ sv' k a;have i:∀ k,sv'.ownBlock=some k->sv.ownBlock=some k∨k=w3.heap.size:=fun k a=>by
  rcases hwh with e | e
  ·exact .inl (e ▸ a)
  ·rw[e]at a;injection a with a;exact .inr a.symm
 have w:w4.heap[P0]?=some (.cells #[sv] 105 (0,0)):=by
  rw[b P0 (by omega) (fun e=>by have:=f P0 e;omega),b3.block P0 (by omega),b2.block P0 s];exact h.blk
 have v:=heap_setCell_same w4 P0 0 #[sv] 105 sv' w;refine⟨⟨v,?_,by simp[h.len],?_⟩,?_⟩
 ·refine⟨hrow.1,?_⟩;rcases hrow.2 with ⟨_,y⟩ |⟨g,j,l,u,q,m,r⟩
  ·omega
  ·exact .inr ⟨g,j,l,u,q,(d g (by omega)).trans m,r⟩
 ·rw[← AM];refine ZB.app _ _ _ _ (ZB.keep (fun k a=>?_) (fun k a=>?_) _ _ h.rep) ?_
  ·rcases a with a | a
   ·rw[d k (by omega),b k (by omega) (fun e=>by have:=f k e;omega),b3.block k (by omega),b2.block k (by omega)]
   ·rw[d k (by omega),b k (by omega) a.2.2,b3.block k (by omega),b2.block k (by omega)]
  ·rcases a with a | a
   ·exact .inl a
   ·refine .inr ⟨a.1,by omega,fun e=>?_⟩;rcases i k e with e | e
    ·exact a.2.2 e
    ·omega
  ·show ZB _ _ (.cons t .nil) [x]
   rw[ZB];refine⟨x,[],rfl,zl.keep (fun k a=>?_) (fun k a=>?_) _ _ hx,by rw[ZB]⟩
   ·rcases a with a | a
    ·have:=hT k a;rw[d k (by omega),b k (by omega) (fun e=>by have:=f k e;omega),b3.block k (by omega)]
    ·rw[d k (by omega),b k (by omega) (fun e=>by have:=f k e;omega),b3.block k a.2]
   ·rcases a with a | a
    ·exact .inl (hT k a)
    ·refine .inr ⟨by omega,by omega,fun e=>?_⟩;rcases i k e with e | e
     ·have:=f k e;omega
     ·omega
 ·have o:Below P0 wr w4:=((b2.mono (by omega)).trans (b3.mono (by omega))).grown hg (by omega) (fun k a=>by have:=f k a;omega);exact o.setCell (p:=⟨P0,0,none⟩) (yd _) _
theorem AO(v:Value)(ms:List zk)(bl:List Nat)(w:Wo)(h:Zn V9 w v ms bl)(hb:Wd ms)(hs:ms.length<=100->(Zi (ms.map qd)).length<=10000000)(hw:Qn w):
  Calls prog 20 #[v] w fun e w'=>e= .returned (.tuple #[.string (Q0 ms).1,.bool (Q0 ms).2])/\Bw w w':=by
 obtain⟨xa,xc,rfl,h1,hxa⟩:=h.form;have HR:=zh (Ax _ ms bl w h hb hw);have HIN:=zh hb.1;have hmz:=hb.2;clear h h1 hxa hb;obtain⟨ev,hev⟩:∃ ev,Q0 ms=ev:=⟨_,rfl⟩;rw[hev];have M:=zh hev;clear hev;by_cases f:0<=qw ms
 ·have hV:Q0 ms=(⟨#[]⟩,false):=by unfold Q0;rw[yf f]
  obtain rfl:ev=(⟨#[]⟩,false):=(uh M).symm.trans hV;have s:=zh f;clear hV M f;go_in;go_wp2_with fail;refine (uh HR).mono ?_;rintro e r ⟨b1,hb,_⟩;obtain⟨t,p,rfl⟩:=hb (uh s);clear HR hb;go_wp2;go_ret2;exact⟨rfl,b1⟩
 ·have hl100:ms.length<=100:=by
   by_cases hc:100<ms.length
   ·exact absurd (by unfold qw;rw[yf hc];omega) f
   ·omega
  have G:∀ m∈ms,Zp m=true:=fun m hm=>by
   obtain⟨j,a,rfl⟩:=List.mem_iff_getElem.1 hm
   cases hc:Zp ms[j]with
   | true=>rfl
   | false=>
    exfalso;apply f;unfold qw;rw[ye (by omega)]
    cases hf:ms.findIdx? (fun m=>!Zp m)with
    | none=>
     have:=List.findIdx?_eq_none_iff.1 hf ms[j] (yq a);rw[hc]at this;cases this
    | some i=>simp
  have HOK:=zh G;have P:¬ 0<=qw ms:=f;have s:=zh P;clear G f P;go_in;go_wp2_with fail;refine (uh HR).mono ?_;rintro e r ⟨b1,_,hg⟩;obtain⟨lv,qs,rfl,hL⟩:=hg (by have:=uh s;omega);obtain⟨la,lc,rfl⟩:∃ la lc,lv= .slice la qs.length lc:=by
   rcases hL.row.2 with ⟨D,hn⟩ |⟨g,N,cur,D,_⟩
   ·exact⟨none,0,by rw[D,hn]⟩
   ·exact⟨some ⟨g,0,none⟩,N,D⟩
  have HL:=zh hL;have HB1:=zh b1;have HLEN:=zh hL.len;clear HR hg hL b1;have hA:=Zx r (.cells #[.slice none 0 0] 105);have kA:=yF r (.cells #[.slice none 0 0] 105);have zA:(r.alloc (.cells #[.slice none 0 0] 105)).heap.size=r.heap.size+1:=by simp
  have HA:=zh hA;have HZA:=zh zA;have HST:Hid (UU r.heap.size (GG ms qs 0) 0 (r.alloc (.cells #[.slice none 0 0] 105)) [] (.slice none 0 0)):=⟨kA,World.ownsRow_nil _ _ _ _,rfl,by show ZB _ _ .nil [];rw[ZB]⟩;clear hA kA zA;go_wp2_with fail;generalize (r.alloc (.cells #[.slice none 0 0] 105))=wA at *;have HA:Hid (Below (r.heap.size) r wA):=uh HA;generalize hP0:r.heap.size=C at *;have HP0:=zh hP0;clear hP0;go_loopw [22] (fun i wr=>∃ (k:Nat) (xs:List Value) (sv:Value),k<=qs.length/\i= .int .i64 k/\Below C r wr/\UU C (GG ms qs k) k wr xs sv/\∀ j (a:j<ms.length),j<k->qV ms[j]=true) (fun i _=>qs.length - (intOf i).toNat)
  case atStart=>exact⟨0,[],_,yr _,rfl,uh HA,uh HST,fun j a h=>by omega⟩
  case round=>
   obtain⟨k,xs,sv,hk,rfl,hb,d,V⟩:=hrel;obtain⟨sa,sc,rfl⟩:∃ sa sc,sv= .slice sa k sc:=by
    rcases d.row.2 with ⟨D,hn⟩ |⟨g,N,cur,D,_⟩
    ·exact⟨none,0,by rw[D,hn]⟩
    ·exact⟨some ⟨g,0,none⟩,N,D⟩
   have O:C<wr.heap.size:=(yA.1 d.blk).1;have E:Bw r wr:=by show Below (r.heap.size) r wr;rw[uh HP0];exact hb
   have b0:=zj (uh HB1) E;by_cases S:k<qs.length
   ·have z:k<ms.length:=by rw[← uh HLEN];exact S
    have ab:=ZI (uh HL).row E;obtain⟨g,hg⟩:∃ g,la=some ⟨g,0,none⟩:=by
     rcases ab.2 with ⟨_,hn⟩ |⟨g,N,cur,D,_⟩
     ·omega
     ·injection D with D _ _;exact⟨g,D⟩
    subst hg;have cg:wr.cell? ⟨g,k,none⟩=some (QR qs[k]):=by
     rw[ab.cellAt k (by simpa using S),List.getElem?_map,yw S];rfl
    have U:=(uh HL).ops k ms[k] qs[k] (yw z) (yw S);have I:JO wr (VL w.heap.size r (.slice (some ⟨g,0,none⟩) qs.length lc)) ms[k] qs[k]:=U.keep (fun j a=>E.block j a.2.1) (fun _ h=>h);obtain⟨i1,i2,_⟩:=uh HIN ms[k] (yq z);have H:=uh HOK ms[k] (yq z);have A:=hw.up b0;have W:=zh b0;have HB:=zh hb;have l:=zh d;have HPV:=zh V;have hltI:(k:Int)<(qs.length:Int):=by omega
    cases hpq:qV ms[k]with
    | false=>
     have HE:=zh (AG ms[k] qs[k] wr _ I H A i1 i2 hpq);have hsrc:∀ m∈ms,Zh m.kind=false->m.src.toList=[]:=fun m hm=>(GE (uh HOK m hm)).2.2.2.2.1;have hV:Q0 ms=(⟨#[]⟩,false):=by unfold Q0;rw[ye (by have:=uh s;omega),Pl hsrc (yq z) hpq];rfl
     obtain rfl:ev=(⟨#[]⟩,false):=(uh M).symm.trans hV;unfold QR at cg HE;clear hV M hsrc hpq U I ab E b0 hb d V H A i1 i2;go_wp2_with fail;refine (uh HE).mono ?_;rintro e L ⟨rfl,x⟩;have n:=zh (zj (uh W) x);clear HE x cg;go_wp2;go_ret2;exact⟨rfl,uh n⟩
    | true=>
     have HE:=zh (AH ms[k] qs[k] wr _ I (fun j a=>yD a.2.1 E.size) H A i1 i2 hpq);have HPQ:Hid (∀ j (a:j<ms.length),j<k+1->qV ms[j]=true):=fun j a h=>by
      by_cases e:j=k
      ·subst e;exact hpq
      ·exact uh HPV j a (by omega)
     unfold QR at cg HE;unfold GF at HE;clear hpq U I ab E b0 hb d V H A i1 i2;go_wp2_with fail;refine (uh HE).mono ?_;rintro e L ⟨ob,rfl,K,x⟩;have hA3:=Zx L (.cells #[.iface 173 (.pointer (some ⟨ob,0,none⟩))] 61);have k3:=yF L (.cells #[.iface 173 (.pointer (some ⟨ob,0,none⟩))] 61);have z3:(L.alloc (.cells #[.iface 173 (.pointer (some ⟨ob,0,none⟩))] 61)).heap.size=L.heap.size+1:=by simp
     have cx:(L.alloc (.cells #[.iface 173 (.pointer (some ⟨ob,0,none⟩))] 61)).cell? ⟨L.heap.size,0,none⟩=some (.iface 173 (.pointer (some ⟨ob,0,none⟩))):=yE k3 0;have cP:L.cell? ⟨C,0,none⟩=some (.slice sa k sc):=yE ((x.block C O).trans (uh l).blk) 0;have row3:=ZI (ZI (uh l).row x) hA3;have z2:=x.size;have HCX:=zh cx;have HR3:=zh row3;have HZ3:=zh z3;have HA3:=zh hA3;have n:=zh x;have u:=zh K;clear HE cx row3 z3 hA3 k3 x K cg;go_wp2_with (at_builtin;refine NU underlying103 SN rfl (by decide) rfl (.tmp 37) (.tmp 39) rfl (B:=C+1) rfl (uh HR3) (y:=.iface 173 (.pointer (some ⟨ob,0,none⟩))) rfl rfl (uh HCX) (by have:=uh HZ3;omega) (by omega) ?_);intro sv' w4 F hg4 hwh4;obtain⟨sa',sc',rfl⟩:∃ sa sc,sv'= .slice sa (k+1) sc:=by
      rcases F.2 with ⟨_,hn⟩ |⟨g,N,cur,D,_⟩
      ·omega
      ·exact⟨_,_,D⟩
     have z3:=uh HZ3;have hsv:∀ j,(Value.slice sa k sc).ownBlock=some j->C<j:=fun j a=>by have:=(uh l).row.lt j a;omega
     have kP4:w4.heap[C]?=some (.cells #[.slice sa k sc] 105 (0,0)):=by
      rw[hg4.block C (by omega) (fun e=>by have:=hsv C e.symm;omega),(uh HA3).block C (by omega),(uh n).block C O];exact (uh l).blk
     have cP4:w4.cell? ⟨C,0,none⟩=some (.slice sa k sc):=yE kP4 0;have fP4:=yH kP4 0;obtain⟨hn1,hn2⟩:=(uh l).next (T:=VL w.heap.size r (.slice (some ⟨g,0,none⟩) qs.length lc)) (fun j a=>by have:=a.2.1;rw[uh HP0]at this;exact this) (uh n) (uh HA3) (uh u) F hg4 (by rw[z3];exact hwh4);rw[← AN z S]at hn1;have HN1:=zh hn1;have HN2:=zh ((uh HB).trans hn2);clear hn1 hn2 F hg4 hwh4 z3 hsv kP4 l HR3 HCX HZ3 HA3 n u cP z2;go_wp2;go_roundw
     case rel=>exact⟨k+1,_,_,by omega,by go_num,uh HN2,uh HN1,uh HPQ⟩
     case measure=>simp[intOf];omega
   ·have hk':k=qs.length:=by omega
    subst hk';have hkm:qs.length=ms.length:=uh HLEN;have hpr:(JA ms qs).length=qs.length:=by unfold JA;simp;omega
    have htk:GG ms qs qs.length=(JA ms qs).map fun q=>Jl q.1 q.2:=by unfold GG;rw[← hpr,List.take_length]
    rw[htk]at d;have hfst:(JA ms qs).map (·.1)=ms:=by
     unfold JA;rw[List.map_map];have e:((fun p:zk×JV=>p.1)∘fun p:zk×Qi=>(p.1,p.2.v))=Prod.fst:=rfl;rw[e,List.map_fst_zip (by omega)]
    have J:∀ q∈JA ms qs,Vk q.1 q.2/\qV q.1=true:=fun q hq=>by
     unfold JA at hq;obtain⟨⟨m,o⟩,hz,rfl⟩:=yN.1 hq;obtain⟨j,a,he⟩:=List.mem_iff_getElem.1 hz;rw[List.length_zip]at a;have hj1:j<ms.length:=by omega
     have hj2:j<qs.length:=by omega
     rw[List.getElem_zip]at he;injection he with e1 e2;subst e1;subst e2;have ho:=(uh HL).ops j ms[j] qs[j] (yw hj1) (yw hj2);exact⟨fun D=>⟨(ho.val D).1,(ho.val D).2.1⟩,V j hj1 hj2⟩
    obtain⟨Z,aa,hbig⟩:=Pj (fun q hq=>(J q hq).1) (fun q hq=>(J q hq).2);have X:=Pi (fun q hq=>(J q hq).1);rw[hfst]at X;have Q:=Pk Z hbig aa;have R:(ct (JD (JA ms qs))).length<=10000000:=by rw[X];exact hs hl100
    have K:zl wr (fun j=>j<wr.heap.size) (JD (JA ms qs)) (.iface 102 (.pointer (some ⟨C,0,none⟩))):=by
     unfold JD;rw[zl];refine⟨C,_,xs,rfl,O,d.blk,⟨by rw[d.len];exact JB d.row (yr _),fun b hb=>(d.row.lt b hb).2⟩,ZB.keep (fun _ _=>rfl) (fun j a=>?_) _ _ d.rep⟩;rcases a with a | a
     ·omega
     ·exact a.2.1
    have HV:Hid (ev=if Z1 (zi (ct (JD (JA ms qs))))then (zi (ct (JD (JA ms qs))),true)else (⟨#[]⟩,false)):=by
     show _=_
     rw[← uh M];unfold Q0;rw[ye (by have:=uh s;omega),X]
    rw[Q]at HV;have A:=hw.up b0;have HW:=zh (AK _ Z aa wr _ _ _ K (fun _ h=>h) A.pow R);have u:=zh K;have HOKV:=zh (Vc _ Z);have HTW:=zh aa;have HLEN2:=zh R;have W:=zh b0;have HPW:=zh A.pow;generalize JD (JA ms qs)=T at *;clear d V hkm hpr htk hfst J Z aa hbig X Q R K A b0 hb E;by_cases Y:zE T<=100/\zo T<=3000/\(ct T).length<=20000
    ·rw[yi Y]at HW HV;obtain rfl:ev=(zi (ct T),true):=uh HV;clear Y HV;go_wp2_with fail;refine (uh HW).mono ?_;rintro e L ⟨rfl,x⟩;have rep2:zl L (fun j=>j<wr.heap.size) T (.iface 102 (.pointer (some ⟨C,0,none⟩))):=zl.keep (fun j a=>x.block j a) (fun _ h=>h) _ _ (uh u);have HC:=zh (UD T (uh HOKV) (uh HTW) _ _ L _ rep2 (fun j a=>yD a x.size) (Lz (uh HPW) x) (uh HLEN2));have n:=zh (zj (uh W) x);clear HW x rep2 u;go_wp2_with fail;refine (uh HC).mono ?_;rintro e w3 ⟨rfl,b3⟩;have HB3:=zh (zj (uh n) b3);clear HC b3;go_wp2;go_ret2;exact⟨rfl,uh HB3⟩
    ·rw[yj Y]at HW HV;obtain rfl:ev=(⟨#[]⟩,false):=uh HV;clear Y HV;go_wp2_with fail;refine (uh HW).mono ?_;rintro e L ⟨rfl,x⟩;have n:=zh (zj (uh W) x);clear HW x;go_wp2;go_ret2;exact⟨rfl,uh n⟩
theorem LM{B:Nat}{a b c:Wo}(hB:B<=a.heap.size)(h:Below B a b)(k:Bw b c):Below B a c:=h.trans (k.mono (yO hB h.size))
theorem AP(v:JV)(hok:zy v)(htw:zw v=false)(hl:(ct v).length<=1000000)(ty:TypeId)(p:Value)(w:Wo)(S:Nat->Prop)(h:zl w S v (.iface ty p))(hS:∀ k,S k->k<w.heap.size)(hw:Qn w):
  Calls prog 63 #[.iface ty p] w (Rf v w):=by
 have E:Hid (∀ wx,Bw w wx->zl wx S v (.iface ty p)):=fun wx hx=>zl.keep (fun k hk=>hx.block k (hS k hk)) (fun _ h=>h) _ _ h;have HSM:Hid (∀ (t:List UInt8) (wx:Wo),t.length<=100->Bw w wx->Calls prog 110 #[.iface ty p,.string (zi t)] wx (Rk (.tuple #[.string (zi ((ZA v t).getD [])),.bool (ZA v t).isSome]) wx)):=fun t wx ht hx=>LC v htw t (by omega) ty p wx S (uh E wx hx);have HPM:Hid (∀ (t:List UInt8) (wx:Wo),t.length<=100->Bw w wx->Calls prog 112 #[.iface ty p,.string (zi t)] wx (Rb (.tuple #[.string (zi ((ZA v t).getD [])),.bool ((ZA v t).isSome && (zG ((ZA v t).getD [])).isSome)]) wx)):=fun t wx ht hx=>An v hok htw hl t (by omega) ty p wx S (uh E wx hx) (hw.up hx).ml;have kR:=yF w (.cells #[.int .i64 0,.string ⟨#[]⟩,.string ⟨#[]⟩,.string ⟨#[]⟩] 59);have hR:=Zx w (.cells #[.int .i64 0,.string ⟨#[]⟩,.string ⟨#[]⟩,.string ⟨#[]⟩] 59);have zR:(w.alloc (.cells #[.int .i64 0,.string ⟨#[]⟩,.string ⟨#[]⟩,.string ⟨#[]⟩] 59)).heap.size=w.heap.size+1:=by simp
 have o:=zh (uh HSM qU _ (by decide) hR);have HRR:=zh hR;have HKR:Hid (Zv (w.alloc (.cells #[.int .i64 0,.string ⟨#[]⟩,.string ⟨#[]⟩,.string ⟨#[]⟩] 59)) w.heap.size Vp):=kR;have HZR:=zh zR;have HSL:=zh hS;clear kR hR zR h hS
 cases hsm:ZA v qU with
 | none=>
  have g:Hid (qi v=false):=by
   show _=_
   have e:qC v=0:=by unfold qC;rw[hsm]
   unfold qi;rw[e];rfl
  rw[hsm]at o;clear hsm;go_in;go_wp2_with fail;generalize (w.alloc (.cells #[.int .i64 0,.string ⟨#[]⟩,.string ⟨#[]⟩,.string ⟨#[]⟩] 59))=J at *;refine (uh o).mono ?_;rintro e wR' ⟨rfl,rfl⟩;have V:=Zx J (.cells #[.string (zi ([]:List UInt8))] 9);have a:=(uh HKR).below V;have f:=zh a;have d:=zh (zj (uh HRR) V);have r0:=a.c;have rz:=a.fz;clear V a o;go_wp2;refine bodyPost_ret (JZ rfl _ _ w.heap.size 59 #[_,_,_,_] (0,0) _ _ rfl rfl (Jj (uh f) [_,_,_,_] rfl) underlying59 rfl (by kernel_rfl)) rfl ?_;exact⟨JU (uh d) (yd _) [_,_,_,_] 0,Vp,by rw[uh g];rfl,fun h=>by rw[uh g]at h;cases h⟩
 | some t=>
  have P:Hid (qC v=ZO t):=by show _=_;unfold qC;rw[hsm]
  rw[hsm]at o;have hKr:=Pm t;clear hsm;have ht0:(some t).getD []=t:=rfl;rw[ht0]at o;clear ht0;go_in;go_wp2_with fail;generalize (w.alloc (.cells #[.int .i64 0,.string ⟨#[]⟩,.string ⟨#[]⟩,.string ⟨#[]⟩] 59))=J at *;refine (uh o).mono ?_;rintro e wR' ⟨rfl,rfl⟩;have V:=Zx J (.cells #[.string (zi t)] 9);have kN:=yF J (.cells #[.string (zi t)] 9);have F:Hid (∀ wx,Below (J.alloc (.cells #[.string (zi t)] 9)).heap.size (J.alloc (.cells #[.string (zi t)] 9)) wx->Zv wx w.heap.size Vp/\Bw w wx):=fun wx hx=>⟨((uh HKR).below V).below hx,zj (zj (uh HRR) V) hx⟩;by_cases hK:ZO t=0
  ·have g:Hid (qi v=false):=by
    show _=_
    unfold qi;rw[uh P,hK];rfl
   have O:=zh (Bq J.heap.size t _ kN (by omega));unfold qM at O;clear o V kN hK hKr;go_wp2_with fail;generalize (J.alloc (.cells #[.string (zi t)] 9))=wN at *;refine (uh O).mono ?_;rintro e i ⟨rfl,b3⟩;have b3v:=zj b3 (Zx i (.cells #[.string ⟨#[]⟩,.int .i64 0,.bool false,.bool false,.bool false,.bool false,.nilFunc] 135));clear O b3;obtain⟨a,b⟩:=uh F _ (b3v);have r0:=a.c;have rz:=a.fz;have f:=zh a;have d:=zh b;clear a b;go_wp2;refine bodyPost_ret (JZ rfl _ _ w.heap.size 59 #[_,_,_,_] (0,0) _ _ rfl rfl (Jj (uh f) [_,_,_,_] rfl) underlying59 rfl (by kernel_rfl)) rfl ?_;exact⟨JU (uh d) (yd _) [_,_,_,_] 0,Vp,by rw[uh g];rfl,fun h=>by rw[uh g]at h;cases h⟩
  ·have O:=zh (Bp J.heap.size t _ kN (by omega) (by omega));obtain⟨l,W⟩:∃ l,Qt (ZO t)= .func (Fn.func l) #[] #[]:=by
    unfold Qt
    repeat' split
    all_goals exact⟨_,rfl⟩
   unfold Wk at O;rw[W]at O;have HKZ:=zh hK;clear o V kN W;generalize ZO t=K at *;obtain⟨m,hhf⟩:∃ m,Zh K=m:=⟨_,rfl⟩;obtain⟨n,hhv⟩:∃ n,zY K=n:=⟨_,rfl⟩;rw[hhf,hhv]at O;have Y:=zh hhf;have Z:=zh hhv;clear hhf hhv hK hKr;generalize qW K=L at *;generalize Jo K=H at *;generalize Jp K=I at *;go_wp2_with fail;generalize (J.alloc (.cells #[.string (zi t)] 9))=wN at *;refine (uh O).mono ?_;rintro e i ⟨rfl,b3⟩;have HZ3:=zh (uh F i b3).2.size;have hV:=Zx i (.cells #[.string L,.int .i64 K,.bool m,.bool n,.bool H,.bool I,.func (Fn.func l) #[] #[]] 135);have kV:=yF i (.cells #[.string L,.int .i64 K,.bool m,.bool n,.bool H,.bool I,.func (Fn.func l) #[] #[]] 135);have zV:(i.alloc (.cells #[.string L,.int .i64 K,.bool m,.bool n,.bool H,.bool I,.func (Fn.func l) #[] #[]] 135)).heap.size=i.heap.size+1:=by simp
   have bV:=zj b3 hV;have hO:=Zx (i.alloc (.cells #[.string L,.int .i64 K,.bool m,.bool n,.bool H,.bool I,.func (Fn.func l) #[] #[]] 135)) (.cells #[.int .i64 K,.string ⟨#[]⟩,.string ⟨#[]⟩,.string ⟨#[]⟩] 59);have kO:=yF (i.alloc (.cells #[.string L,.int .i64 K,.bool m,.bool n,.bool H,.bool I,.func (Fn.func l) #[] #[]] 135)) (.cells #[.int .i64 K,.string ⟨#[]⟩,.string ⟨#[]⟩,.string ⟨#[]⟩] 59);rw[zV]at kO;have bO:=zj bV hO;have HBO:=zh bO;have aa:=zh (uh HPM ZS _ (by decide) (uh F _ bO).2);have HVC:Hid (∀ wx,Below (i.heap.size+1) (i.alloc (.cells #[.string L,.int .i64 K,.bool m,.bool n,.bool H,.bool I,.func (Fn.func l) #[] #[]] 135)) wx->wx.cell? ⟨i.heap.size,2,none⟩=some (.bool m)/\wx.cell? ⟨i.heap.size,3,none⟩=some (.bool n)):=fun wx hx=>by
    have k:=(hx.block i.heap.size (by omega)).trans kV;exact⟨yE k 2,yE k 3⟩
   have HKO:Hid (Zv ((i.alloc (.cells #[.string L,.int .i64 K,.bool m,.bool n,.bool H,.bool I,.func (Fn.func l) #[] #[]] 135)).alloc (.cells #[.int .i64 K,.string ⟨#[]⟩,.string ⟨#[]⟩,.string ⟨#[]⟩] 59)) (i.heap.size+1) ⟨K,⟨#[]⟩,⟨#[]⟩,⟨#[]⟩⟩):=kO;have HHO:=zh hO;have HZV:=zh zV;clear O b3 hV kV zV bV hO kO bO;go_wp2_with fail;have bO:=uh HBO;obtain⟨hr1,hr2⟩:=uh F _ bO;have j:Hid (∀ wx,Below (i.heap.size+1) ((i.alloc (.cells #[.string L,.int .i64 K,.bool m,.bool n,.bool H,.bool I,.func (Fn.func l) #[] #[]] 135)).alloc (.cells #[.int .i64 K,.string ⟨#[]⟩,.string ⟨#[]⟩,.string ⟨#[]⟩] 59)) wx->(wx.cell? ⟨i.heap.size,2,none⟩=some (.bool m)/\wx.cell? ⟨i.heap.size,3,none⟩=some (.bool n))/\Zv wx w.heap.size Vp/\Bw w wx):=fun wx hx=>by
    have hzv:=uh HZV;have hho:Below _ _ _:=uh HHO;rw[hzv]at hho;have hz1:=uh HZ3;exact⟨uh HVC wx (hho.trans hx),(hx.block w.heap.size (by omega)).trans hr1,hr2.trans (hx.mono (by omega))⟩
   have hzO:((i.alloc (.cells #[.string L,.int .i64 K,.bool m,.bool n,.bool H,.bool I,.func (Fn.func l) #[] #[]] 135)).alloc (.cells #[.int .i64 K,.string ⟨#[]⟩,.string ⟨#[]⟩,.string ⟨#[]⟩] 59)).heap.size=i.heap.size+1+1:=by simp
   have af:=zh hzO;clear bO hr1 hr2 hzO HBO HVC HHO HZV F;generalize ((i.alloc (.cells #[.string L,.int .i64 K,.bool m,.bool n,.bool H,.bool I,.func (Fn.func l) #[] #[]] 135)).alloc (.cells #[.int .i64 K,.string ⟨#[]⟩,.string ⟨#[]⟩,.string ⟨#[]⟩] 59))=wO at *;have HDP:Hid (((ZA v ZS).isSome && (zG ((ZA v ZS).getD [])).isSome)=false->qi v=false):=fun h=>by
    unfold qi;rw[Bool.and_eq_false_iff]at h;rcases h with h | h<;>rw[h]<;>simp
   have HPT:Hid (((ZA v ZS).isSome && (zG ((ZA v ZS).getD [])).isSome)=true->(ZA v ZS).isSome=true/\(zG ((ZA v ZS).getD [])).isSome=true):=fun h=>by rwa [Bool.and_eq_true]at h
   obtain⟨s,hpp⟩:∃ s,zi ((ZA v ZS).getD [])=s:=⟨_,rfl⟩;obtain⟨op,hop⟩:∃ op,((ZA v ZS).isSome && (zG ((ZA v ZS).getD [])).isSome)=op:=⟨_,rfl⟩;rw[hpp,hop]at aa;rw[hop]at HDP HPT;have HPP:=zh hpp;clear hpp hop;refine (uh aa).mono ?_;rintro e w5 ⟨rfl,b5⟩;have hzo:=uh af;have o5:=(uh HKO).below b5;have k5:=o5.c;have f5:=o5.fz 1;have R:=zh (o5.s1 s);have b5m:Below (i.heap.size+1) wO w5:=b5.mono (by omega);have y:=zh (b5m.setCell (p:=⟨i.heap.size+1,1,none⟩) (yd _) (.string s));clear aa HKO o5 b5 hzo b5m;simp only at k5
   cases op with
   | false=>
    have g:=zh (uh HDP rfl);obtain⟨-,a,b⟩:=uh j _ (uh y);have r0:=a.c;have rz:=a.fz;have f:=zh a;have d:=zh b;clear a b;go_wp2;refine bodyPost_ret (JZ rfl _ _ w.heap.size 59 #[_,_,_,_] (0,0) _ _ rfl rfl (Jj (uh f) [_,_,_,_] rfl) underlying59 rfl (by kernel_rfl)) rfl ?_;exact⟨JU (uh d) (yd _) [_,_,_,_] 0,Vp,by rw[uh g];rfl,fun h=>by rw[uh g]at h;cases h⟩
   | true=>
    obtain⟨hp1,hp2⟩:=uh HPT rfl;have HP1:=zh hp1;have HP2:=zh hp2;obtain⟨⟨v2,v3⟩,_,q⟩:=uh j _ (uh y);have HZK:=zh (show qC v≠0 by rw[uh P];exact uh HKZ);have Q:=zh (uh HPM qA _ (by decide) q);have B:=zh (LA v htw Qj (by decide) ty p _ S (uh E _ q));have HPW:Hid (∀ wx,Bw w wx->Qx wx.heap.size wx):=fun wx hx=>(hw.up hx).pow;have z:Hid (Qd v=⟨K,s,if m then zi ((ZA v qA).getD [])else ⟨#[]⟩,if n then zi (((zL v Qj).map ct).getD [])else ⟨#[]⟩⟩):=by
     show _=_
     unfold Qd;rw[uh P,uh Y,uh Z,uh HPP]
    have r:Hid (qi v=((!m ||(ZA v qA).isSome) && (!n ||(zL v Qj).isSome) && (!m ||(zG ((ZA v qA).getD [])).isSome))):=by
     show _=_
     unfold qi;rw[yi (uh HZK),uh HP1,uh HP2,uh P,uh Y,uh Z];simp
    have ad:Hid (m=true->n=false):=fun h=>by
     have e:=uh Y;rw[h]at e;rw[← uh Z];unfold Zh at e;unfold zY;simp only[Bool.or_eq_true,yB]at e;rcases e with e | e<;>rw[e]<;>rfl
    have M:Hid (∀ u,zL v Qj=some u->zy u/\zw u=false/\(ct u).length<=1000000):=fun u hu=>by
     obtain⟨a1,a2,a3,_⟩:=UL hu hok htw;exact⟨a1,a2,by omega⟩
    have hz6:=q.size;have HB6W:=zh q;clear hp1 hp2 q hw htw hok hl;generalize hw6:w5.setCell ⟨i.heap.size+1,1,none⟩ (.string s)=w6 at *;have k6:=(uh R).c;simp only at k6
    cases m with
    | true=>
     obtain rfl:=uh ad rfl;obtain⟨ff,hff⟩:∃ ff,zi ((ZA v qA).getD [])=ff:=⟨_,rfl⟩;obtain⟨U,G⟩:∃ U,((ZA v qA).isSome && (zG ((ZA v qA).getD [])).isSome)=U:=⟨_,rfl⟩;have N:Hid (qi v=U):=by
      show _=_
      rw[uh r,← G];simp
     rw[hff,G]at Q;have X:Hid (Qd v=⟨K,s,ff,⟨#[]⟩⟩):=by show _=_;rw[uh z,hff];rfl
     clear hff G z r ad B;go_wp2_with fail;refine (uh Q).mono ?_;rintro e w7 ⟨rfl,b7⟩;have T:=(uh R).below b7;have k7:=T.c;have f7:=T.fz 2;simp only at k7;have ab:=zh (T.s2 ff);have A:=zh ((LM (by have:=uh af;omega) (uh y) b7).setCell (p:=⟨i.heap.size+1,2,none⟩) (yd _) (.string ff));clear Q b7 T
     cases U with
     | false=>
      have g:=zh (uh N);obtain⟨-,a,b⟩:=uh j _ (uh A);have r0:=a.c;have rz:=a.fz;have f:=zh a;have d:=zh b;clear a b;go_wp2;refine bodyPost_ret (JZ rfl _ _ w.heap.size 59 #[_,_,_,_] (0,0) _ _ rfl rfl (Jj (uh f) [_,_,_,_] rfl) underlying59 rfl (by kernel_rfl)) rfl ?_;exact⟨JU (uh d) (yd _) [_,_,_,_] 0,Vp,by rw[uh g];rfl,fun h=>by rw[uh g]at h;cases h⟩
     | true=>
      obtain⟨⟨y2,y3⟩,_,_⟩:=uh j _ (uh A);obtain⟨-,a,b⟩:=uh j _ (uh A);have r0:=a.c;have rz:=a.fz;obtain⟨x0,x1,x2,x3⟩:=(uh ab).c;simp only at x0 x1 x2 x3;have f:=zh a;have d:=zh b;have C:Hid (qi v=true):=uh N;have D:Hid ((⟨K,s,ff,⟨#[]⟩⟩:zk)=Qd v):=(uh X).symm;clear a b;go_wp2;refine bodyPost_ret (JZ rfl _ _ w.heap.size 59 #[_,_,_,_] (0,0) _ _ rfl rfl (Jj (uh f) [_,_,_,_] rfl) underlying59 rfl (by kernel_rfl)) rfl ?_;exact⟨JU (uh d) (yd _) [_,_,_,_] 0,(⟨K,s,ff,⟨#[]⟩⟩:zk),by rw[uh C];rfl,fun _=>uh D⟩
    | false=>
     clear Q ad
     cases n with
     | false=>
      clear B M;obtain⟨-,a,b⟩:=uh j _ (uh y);have r0:=a.c;have rz:=a.fz;obtain⟨x0,x1,x2,x3⟩:=(uh R).c;simp only at x0 x1 x2 x3;have f:=zh a;have d:=zh b;have C:Hid (qi v=true):=by show _=_;rw[uh r];rfl
      have D:Hid ((⟨K,s,⟨#[]⟩,⟨#[]⟩⟩:zk)=Qd v):=by show _=_;rw[uh z];rfl
      clear a b;go_wp2;refine bodyPost_ret (JZ rfl _ _ w.heap.size 59 #[_,_,_,_] (0,0) _ _ rfl rfl (Jj (uh f) [_,_,_,_] rfl) underlying59 rfl (by kernel_rfl)) rfl ?_;exact⟨JU (uh d) (yd _) [_,_,_,_] 0,(⟨K,s,⟨#[]⟩,⟨#[]⟩⟩:zk),by rw[uh C];rfl,fun _=>uh D⟩
     | true=>
      go_wp2_with fail;refine (uh B).mono ?_;rintro e w6' ⟨rfl,⟨x,rfl,hn⟩ |⟨x,u,rfl,hu,hr⟩⟩
      ·have g:Hid (qi v=false):=by show _=_;rw[uh r,hn];rfl
       clear B M hn z r;obtain⟨-,a,b⟩:=uh j _ (uh y);have r0:=a.c;have rz:=a.fz;have f:=zh a;have d:=zh b;clear a b;go_wp2;refine bodyPost_ret (JZ rfl _ _ w.heap.size 59 #[_,_,_,_] (0,0) _ _ rfl rfl (Jj (uh f) [_,_,_,_] rfl) underlying59 rfl (by kernel_rfl)) rfl ?_;exact⟨JU (uh d) (yd _) [_,_,_,_] 0,Vp,by rw[uh g];rfl,fun h=>by rw[uh g]at h;cases h⟩
      ·obtain⟨u1,u2,u3⟩:=uh M u hu;obtain⟨ty3,q3,rfl⟩:=Gs hr;have HCT:=zh (UD u u1 u2 ty3 q3 w6 S hr (fun k hk=>yD (uh HSL k hk) hz6) (uh HPW w6 (uh HB6W)) (by omega));have N:Hid (qi v=true):=by show _=_;rw[uh r,hu];rfl
       have X:Hid (Qd v=⟨K,s,⟨#[]⟩,zi (ct u)⟩):=by show _=_;rw[uh z,hu];rfl
       clear B M hu hr z r u1 u2 u3;generalize zi (ct u)=vv at *;go_wp2_with fail;refine (uh HCT).mono ?_;rintro e w7 ⟨rfl,b7⟩;have T:=(uh R).below b7;have k7:=T.c;have f7:=T.fz 3;simp only at k7;have ab:=zh (T.s3 vv);have A:=zh ((LM (by have:=uh af;omega) (uh y) b7).setCell (p:=⟨i.heap.size+1,3,none⟩) (yd _) (.string vv));clear HCT b7 T;obtain⟨-,a,b⟩:=uh j _ (uh A);have r0:=a.c;have rz:=a.fz;obtain⟨x0,x1,x2,x3⟩:=(uh ab).c;simp only at x0 x1 x2 x3;have f:=zh a;have d:=zh b;have C:Hid (qi v=true):=uh N;have D:Hid ((⟨K,s,⟨#[]⟩,vv⟩:zk)=Qd v):=(uh X).symm;clear a b;go_wp2;refine bodyPost_ret (JZ rfl _ _ w.heap.size 59 #[_,_,_,_] (0,0) _ _ rfl rfl (Jj (uh f) [_,_,_,_] rfl) underlying59 rfl (by kernel_rfl)) rfl ?_;exact⟨JU (uh d) (yd _) [_,_,_,_] 0,(⟨K,s,⟨#[]⟩,vv⟩:zk),by rw[uh C];rfl,fun _=>uh D⟩
theorem AQ(s:Bs)(w:Wo)(hw:Qn w)(hs:s.size<=1048576):
  Calls prog 22 #[.string s] w fun e w'=>∃ v,e= .returned (.tuple #[v,.int .i64 (Jm s).2.1,.int .i64 (Jm s).2.2])/\qX w' w.heap.size v (Jm s).1/\Bw w w':=by
 obtain⟨i0,hi,hz0,hz1,hz2⟩:=info_parts Fx;have K:=zh (OU s w hw.tab hw.err hw.pow (by omega));have m:Hid (∀ wx:Wo,qX wx w.heap.size (.slice none 0 0) []):=fun wx=>World.ownsRow_nil wx w.heap.size 59 4;have HW:=zh hw;clear hw hs
 cases hr:Zo s with
 | inl c=>
  have hc:=OE hr;have HR:Hid (Jm s=([],1,0)):=by show _=_;unfold Jm;rw[hr]
  rw[hr]at K;have t2:((c:Int) !=0)=true:=by simp;omega
  have t3:¬ (c:Int)=0:=by omega
  have t4:¬ c=0:=by omega
  clear hr hc;go_in;go_wp2_with fail;refine (uh K).mono ?_;rintro e g ⟨I,rfl⟩;have f:=zh I;clear I K;go_wp2;go_ret3;exact⟨_,by rw[uh HR];rfl,by rw[uh HR];exact uh m _,uh f⟩
 | inr a=>
  have Y:=Qe.of hr;rw[hr]at K;by_cases h5:kd a=5
  ·obtain⟨l,rfl⟩:∃ l,a= .arr l:=by cases a<;>first | exact⟨_,rfl⟩ |(simp[kd]at h5)
   have V:Hid (100<l.toL.length->Jm s=([],3,100)):=fun h=>by unfold Jm;rw[hr];simp only;rw[yf h]
   have ah:Hid (¬ 100<l.toL.length->∀ i (hi:i<l.toL.length),qi l.toL[i]=false->(∀ j (h:j<l.toL.length),j<i->qi l.toL[j]=true)->Jm s=([],4,(i:Int))):=fun h i hi J hg=>by
    have hf:l.toL.findIdx? (fun v=>!qi v)=some i:=by
     rw[List.findIdx?_eq_some_iff_getElem];exact⟨hi,by simp[J],fun j N=>by simp[hg j (by omega) N]⟩
    unfold Jm;rw[hr];simp only;rw[ye h,hf]
   have ai:Hid (¬ 100<l.toL.length->(∀ j (h:j<l.toL.length),qi l.toL[j]=true)->Jm s=(l.toL.map Qd,0,0)):=fun h hg=>by
    have hf:l.toL.findIdx? (fun v=>!qi v)=none:=by
     rw[List.findIdx?_eq_none_iff];intro x hx;obtain⟨j,N,rfl⟩:=List.mem_iff_getElem.1 hx;simp[hg j N]
    unfold Jm;rw[hr];simp only;rw[ye h,hf]
   have HGD:=zh Y;clear hr Y h5;go_in;go_wp2_with fail;refine (uh K).mono ?_;rintro e g ⟨I,ty,q,rfl,F⟩;have O:=F;rw[zl]at O;obtain⟨ab,sv,xs,e1,s1,g1,r1,rl1⟩:=O;injection e1 with e0 e1;subst e0;subst e1;obtain⟨x1,X,c1,rfl,C,r⟩:=Xc r1;obtain⟨n1,G⟩:=Gt l xs rl1;have B:=zh (Ap ab _ g g1);have f:=zh I;have hz2w:=I.size;have HD:Hid (∀ k (Z:k<xs.length) (hk':k<l.toL.length),∃ t q,x1=some ⟨X,0,none⟩/\(∀ wx,Bw g wx->wx.cell? ⟨X,k,none⟩=some (.iface t q)/\Calls prog 63 #[.iface t q] wx (Rf l.toL[k] wx))):=fun k Z hk'=>by
    obtain⟨t,q,he⟩:=Gs (G k Z hk');have hu:=(uh HGD).item (yq hk');obtain⟨ha,hag⟩:=C (by omega);refine⟨t,q,ha,fun wx hx=>⟨?_,?_⟩⟩
    ·rw[← he];exact (hx.cell (p:=⟨X,k,none⟩) hag.2).trans (r k Z)
    ·have hrk:=G k Z hk';rw[he]at hrk;exact AP _ hu.ok hu.tw (by have:=hu.len;omega) t q wx _ (zl.keep (fun j N=>hx.block j N.2) (fun _ h=>h) _ _ hrk) (fun j N=>yD N.2 hx.size) ((uh HW).up (zj (uh f) hx))
   clear K F s1 g1 r1 rl1 C r G I;generalize l.toL=d at *;generalize xs.length=n at *;subst n1;go_wp2_with fail;refine (uh B).mono ?_;rintro e w2' ⟨rfl,rfl⟩;clear B;by_cases M:100<d.length
   ·have t1:(100:Int)<(d.length:Int):=by omega
    have HR:=zh (uh V (by omega));clear V ah ai M;go_wp2;go_ret3;exact⟨_,by rw[uh HR];rfl,by rw[uh HR];exact uh m _,uh f⟩
   ·have t1:¬ (100:Int)<(d.length:Int):=by omega
    have hx100:d.length<=100:=by omega
    clear V M;go_wp2_with (at_make;refine wpList_make_own _ rfl _ _ 27 rfl g.heap.size 59 i0 (.agg #[.int .i64 0,.string ByteArray.empty,.string ByteArray.empty,.string ByteArray.empty]) 4 underlying27 hi hz0 hz1 .i64 .i64 _ d.length rfl rfl rfl (by rw[hz2];omega) (by unfold maxLen;omega) (yd _) ?_);intro w3 E u;have ad:Hid (Bw g w3):=(yG _ _).grown u (yd _) (by intro k Z;cases Z);have ag:Hid (qX w3 g.heap.size _ []):=E;clear E u;go_wp2;go_loopw [9,36] (fun lv i wr=>∃ k:Nat,k<=d.length/\i= .int .i64 k/\qX wr g.heap.size lv ((d.take k).map Qd)/\Bw g wr/\∀ j (h:j<d.length),j<k->qi d[j]=true) (fun _ i _=>d.length - (intOf i).toNat)
    case atStart=>exact⟨0,yr _,rfl,uh ag,uh ad,fun j _ h=>by omega⟩
    case round=>
     obtain⟨k,Z,rfl,ho,J,o⟩:=hrel;have HO:=zh ho;have R:=zh J;have L:=zh o;have hbz:=J.size;clear ag ad;by_cases hlt:k<d.length
     ·have hltI:(k:Int)<(d.length:Int):=by omega
      have D:k<d.length:=by omega
      obtain⟨t,q,rfl,hdx⟩:=uh HD k hlt D;obtain⟨hc,hd⟩:=hdx wr J;have S:=zh hd;have HST:Hid ((d.take (k+1)).map Qd=(d.take k).map Qd++[Qd d[k]]):=by
       show _=_
       rw[yx D,yv];rfl
      have hal:((d.take k).map Qd).length<=100:=by rw[yk,yl];omega
      clear ho J o hdx hd;go_wp2_with fail;refine (uh S).mono ?_;rintro e P ⟨b5,y,rfl,aa⟩;have W:=zj (uh R) b5
      cases hok:qi d[k]with
      | false=>
       have HR:=zh (uh ah (by omega) k D hok (uh L));have hN:=Zx P (.cells (qo y) 59);have z:=zh (zj (uh f) (zj W hN));clear S b5 W aa hok hN hc;go_wp2;go_ret3;exact⟨_,by rw[uh HR];rfl,by rw[uh HR];exact uh m _,uh z⟩
      | true=>
       obtain rfl:=aa hok;have Q:Hid (∀ j (h:j<d.length),j<k+1->qi d[j]=true):=fun j h N=>by
        by_cases e:j=k
        ·subst e;exact hok
        ·exact uh L j h (by omega)
       generalize Qd d[k]=y at *;generalize (d.take k).map Qd=A at *;have hN:=Zx P (.cells (qo y) 59);have hM:=Zx (P.alloc (.cells (qo y) 59)) (.cells (qo y) 59);have zN:(P.alloc (.cells (qo y) 59)).heap.size=P.heap.size+1:=by simp
       have lM:=Fy (P.alloc (.cells (qo y) 59)) y;rw[zN]at lM;have bN:=zj b5 (zj hN hM);have U:Hid (qX _ g.heap.size u9 A):=ZI (uh HO) bN;have H:=zh (zj (uh R) bN);have af:=zh lM;clear S b5 W aa hok hN hM zN lM bN hc;go_wp2_with (at_builtin;refine wpList_append_own _ rfl (.tmp 49) (.tmp 51) 27 rfl g.heap.size 59 i0 (.agg #[.int .i64 0,.string ByteArray.empty,.string ByteArray.empty,.string ByteArray.empty]) 4 56 underlying27 hi hz0 hz1 hz2 rfl (by decide) _ _ _ rfl (uh U) ⟨P.heap.size+1,0,none⟩ 1 1 (Jk y) rfl rfl (uh af) (Fz y) (by unfold maxLen;omega) (by omega) (uh H).size ?_);generalize ((P.alloc (.cells (qo y) 59)).alloc (.cells (qo y) 59))=wM at *;intro l6 w6 o6 g6 gx6;clear gx6;have T:Hid (qX w6 g.heap.size l6 (A++[y])):=qX.step o6;have z:=zh ((uh H).grown g6 (uh H).size (fun b J=>((uh U).lt b J).1));clear o6 g6 U H af;go_wp2;go_roundw
       case rel=>exact⟨k+1,by omega,by go_num,by rw[uh HST];exact uh T,uh z,uh Q⟩
       case measure=>simp[intOf];omega
     ·have hkn:k=d.length:=by omega
      subst hkn;rw[List.take_length]at HO;have HR:=zh (uh ai (by omega) (fun j h=>o j h h));have T:Hid (qX wr w.heap.size u9 (d.map Qd)):=JB (uh HO) hz2w;have z:=zh (zj (uh f) (uh R));clear ho J o;go_wp2;go_ret3;exact⟨_,by rw[uh HR];rfl,by rw[uh HR];exact uh T,uh z⟩
  ·have HR:Hid (Jm s=([],2,0)):=by show _=_;unfold Jm;rw[hr];cases a<;>first | rfl | exact absurd rfl h5
   clear hr Y;go_in;go_wp2_with fail;refine (uh K).mono ?_;rintro e g ⟨I,ty,q,rfl,F⟩;have B:=zh (Ao a ty q g _ F h5);have f:=zh I;clear I K F h5;go_wp2_with fail;refine (uh B).mono ?_;rintro e w2' ⟨rfl,rfl⟩;clear B;go_wp2;go_ret3;exact⟨_,by rw[uh HR];rfl,by rw[uh HR];exact uh m _,uh f⟩
end Go.Proofs.YtpaecnbdoljafaaGreatDoor
