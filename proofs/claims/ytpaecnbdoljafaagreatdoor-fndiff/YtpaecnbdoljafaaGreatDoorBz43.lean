import Derived.Test.YtpaecnbdoljafaaGreatDoorBz17
import Derived.Test.YtpaecnbdoljafaaGreatDoorBz40
import Derived.Test.YtpaecnbdoljafaaGreatDoorBz13
set_option maxRecDepth 100000
set_option maxHeartbeats 8000000
namespace Go.Proofs.YtpaecnbdoljafaaGreatDoor
open Go.RowKit Go.Sort Go.Proofs.Tryz
end Go.Proofs.YtpaecnbdoljafaaGreatDoor
namespace Go.Proofs.YtpaecnbdoljafaaGreatDoor
open Go.RowKit Go.Proofs.Tryz
def ZB(s:Bs):List (List UInt8):=(zK s.data.toList).getD []
def GY(k:Int)(pv fv vv:Value):Obj:=.cells #[.string (Ux k),.int .i64 k,.bool (Qj k),.bool (ZR k),.bool (VN k),.bool (Yo k),Vn k,pv,fv,vv] 137 (0,0)
structure UY(w:Wo)(B:Nat)(m:zG)(g:Nat)(pv fv vv:Value)(v:JV):Prop where
 blk:w.heap[g]?=some (GY m.kind pv fv vv)
 ge:B<=g
 path:OT w B pv (ZB m.path)
 src:OT w B fv (ZB m.src)
 val:ZR m.kind=true->zI m.val= .inr v/\zh (ct v)=m.val/\∃ t p,vv= .iface t p/\zk w (fun k=>B<=k/\k<w.heap.size) v vv
def CO(m:zG)(w:Wo)(e:Ending)(w':Wo):Prop:=∃ g pv fv vv v,e= .returned (.tuple #[.pointer (some ⟨g,0,none⟩),.bool true])/\UY w' w.heap.size m g pv fv vv v/\Bw w w'
theorem zeG(k:Int):∃ fid,Vn k= .func (Fn.func fid) #[] #[]:=by
 unfold Vn
 repeat' split
 all_goals exact⟨_,rfl⟩
def Ss(w:Wo)(e:Ending)(w':Wo):Prop:=e= .returned (.tuple #[.pointer none,.bool false])/\Bw w w'
theorem J4{w:Wo}{b i:Nat}{cs:Array Value}{t:TypeId}{f:Nat×Nat}{x:Value}(h:w.heap[b]?=some (.cells cs t f))(hx:cs[i]?=some x):w.cell? ⟨b,i,none⟩=some x:=(yG h i).trans hx
theorem CP(m:zG)(w:Wo)(k1:1<=m.kind)(k6:m.kind<=6)(hw:qQ w)(hz1:m.path.size<=1048576)(hz2:m.src.size<=1048576)(hz3:m.val.size<=1048576):
  Calls prog 47 #[.agg #[.int .i64 m.kind,.string m.path,.string m.src,.string m.val]] w fun e w'=>(Zu m=true->CO m w e w')/\(Zu m=false->Ss w e w'):=by
 have hA:=zY w (J9 m);have kA:=yH w (J9 m);have S:(w.alloc (J9 m)).heap.size=w.heap.size+1:=by simp
 have L:=ze (za5 w.heap.size m (w.alloc (J9 m)) kA k1 k6);have HTP:Hid (∀ wx,Bw w wx->Calls prog 95 #[.string m.path] wx fun e w'=>∃ v,e= .returned (.tuple #[v,.bool (zK m.path.data.toList).isSome])/\OT w' wx.heap.size v (ZB m.path)/\Bw wx w'):=fun wx hx=>SW m.path wx (hw.up hx).ml hz1;have M:Hid (∀ wx,Bw w wx->Calls prog 95 #[.string m.src] wx fun e w'=>∃ v,e= .returned (.tuple #[v,.bool (zK m.src.data.toList).isSome])/\OT w' wx.heap.size v (ZB m.src)/\Bw wx w'):=fun wx hx=>SW m.src wx (hw.up hx).ml hz2;have u:Hid (∀ wx,Bw w wx->Calls prog 96 #[.string m.val] wx (CH m.val wx)):=fun wx hx=>zep m.val wx (hw.up hx).tab (hw.up hx).err (hw.up hx).pow (by omega);have a:Hid (Zu m=((zK m.path.data.toList).isSome && (if Qj m.kind then (zK m.src.data.toList).isSome else m.src.toList ==[]) && (if ZR m.kind then Qy m.val else m.val.toList ==[]))):=by show _=_;unfold Zu;rw[yj k1,yj k6];rfl
 have HSE:Hid (m.src.toList=[]->(zK m.src.data.toList).isSome=true):=fun e=>by rw[ByteArray.toList_eq]at e;rw[e];rfl
 obtain⟨d,A⟩:=zeG m.kind;obtain⟨J,hwb⟩:∃ J,Ux m.kind=J:=⟨_,rfl⟩;obtain⟨H,C⟩:∃ H,VN m.kind=H:=⟨_,rfl⟩;obtain⟨I,D⟩:∃ I,Yo m.kind=I:=⟨_,rfl⟩;obtain⟨g,P⟩:∃ g,Qj m.kind=g:=⟨_,rfl⟩;obtain⟨f,R⟩:∃ f,ZR m.kind=f:=⟨_,rfl⟩;unfold Po at L;rw[A,hwb,C,D,P,R]at L;rw[P,R]at a;have l:Hid (Vn m.kind= .func (Fn.func d) #[] #[]/\Ux m.kind=J/\VN m.kind=H/\Yo m.kind=I/\Qj m.kind=g/\ZR m.kind=f):=⟨A,hwb,C,D,P,R⟩;have HA:=ze hA;have HKA:=ze kA;have n:=ze S;generalize (zK m.path.data.toList).isSome=zp at *;generalize (zK m.src.data.toList).isSome=zq at *;obtain⟨U,hok⟩:∃ U,Zu m=U:=⟨_,rfl⟩;rw[hok]at a ⊢;unfold J9 at *;clear A hwb C D P R hA kA S k1 k6 hw hok hz1 hz2 hz3;go_in;go_wp2_with fail;generalize w.alloc _=wA at *;refine (uh L).mono ?_;rintro e w1 ⟨rfl,b1⟩;have hB:=zY w1 (.cells #[.string J,.int .i64 m.kind,.bool g,.bool f,.bool H,.bool I,.func (Fn.func d) #[] #[]] 135);have kB:=yH w1 (.cells #[.string J,.int .i64 m.kind,.bool g,.bool f,.bool H,.bool I,.func (Fn.func d) #[] #[]] 135);have T:(w1.alloc (.cells #[.string J,.int .i64 m.kind,.bool g,.bool f,.bool H,.bool I,.func (Fn.func d) #[] #[]] 135)).heap.size=w1.heap.size+1:=by simp
 have b2:=zi b1 hB;have hz1:=b1.size;have k2:=(b2.block w.heap.size (by have:=uh n;omega)).trans (uh HKA);have c1:=J4 (i:=1) k2 rfl;have c2:=J4 (i:=2) k2 rfl;have c3:=J4 (i:=3) k2 rfl;have HT:=ze (uh HTP _ (zi (uh HA) b2));have K:=ze b2;have HK2:=ze k2;have HKB:=ze kB;have y:=ze hz1;have z:=ze T;have s:Hid (∀ (wx:Wo) (p q:Value),Bw wx (wx.alloc (.cells #[.string J,.int .i64 m.kind,.bool g,.bool f,.bool H,.bool I,.func (Fn.func d) #[] #[],p,q,.nilIface] 137))/\(wx.alloc (.cells #[.string J,.int .i64 m.kind,.bool g,.bool f,.bool H,.bool I,.func (Fn.func d) #[] #[],p,q,.nilIface] 137)).heap[wx.heap.size]?=some (.cells #[.string J,.int .i64 m.kind,.bool g,.bool f,.bool H,.bool I,.func (Fn.func d) #[] #[],p,q,.nilIface] 137 (0,0))/\(wx.alloc (.cells #[.string J,.int .i64 m.kind,.bool g,.bool f,.bool H,.bool I,.func (Fn.func d) #[] #[],p,q,.nilIface] 137)).heap.size=wx.heap.size+1):=fun wx p q=>⟨zY _ _,yH _ _,by simp⟩;clear L b1 hB kB b2 hz1 k2 HKA T HTP;obtain⟨bq,Q⟩:∃ b,b=f:=⟨_,rfl⟩;by_cases B:g=false->m.src.toList=[]
 ·by_cases hvn:f=false->m.val.toList=[]
  ·cases g<;>cases f
   all_goals (
    try have es:=B rfl
    try have ev:=hvn rfl
    clear B hvn;have HBQ:=ze Q;clear Q;go_wp2_with fail;generalize w1.alloc _=w2 at *;generalize w1.heap.size=V0 at *;refine (uh HT).mono ?_;rintro e w3 ⟨pv,rfl,op,b3⟩;obtain⟨pa,pg,pc,rfl,-,-⟩:=op.shape;have T:=uh z;have S:=uh n;have hz1:=uh y;have k3:=(b3.block w.heap.size (by omega)).trans (uh HK2);have d2:=J4 (i:=2) k3 rfl;have af:=zi (uh K) b3;have aa:=ze (uh M _ (zi (uh HA) af));have HOP:=ze op;have Y:=ze k3;have r:=ze ((b3.block V0 (by omega)).trans (uh HKB));have N:=ze b3.size;have o:=ze af;clear HT op b3 k3 af HK2 HKB K c1 c2 c3 S T hz1 M;go_wp2_with fail;refine (uh aa).mono ?_;rintro e w4 ⟨fv,rfl,of,b4⟩;obtain⟨fa,fg,fc,rfl,-,-⟩:=of.shape;have O:=zi (uh o) b4;by_cases hpq:zp=true/\zq=true
    ·obtain⟨rfl,rfl⟩:=hpq;have T:=uh z;have S:=uh n;have hz1:=uh y;have hz3:=uh N;have G:=(b4.block V0 (by omega)).trans (uh r);have v0:=J4 (i:=0) G rfl;have v1:=J4 (i:=1) G rfl;have v2:=J4 (i:=2) G rfl;have v3:=J4 (i:=3) G rfl;have v4:=J4 (i:=4) G rfl;have v5:=J4 (i:=5) G rfl;have v6:=J4 (i:=6) G rfl;have F:=b4.size;have k4:=(b4.block w.heap.size (by omega)).trans (uh Y);have d3:=J4 (i:=3) k4 rfl;obtain⟨hC,kC,zC⟩:=uh s w4 (.slice pa (ZB m.path).length pc) (.slice fa (ZB m.src).length fc);have e3:=J4 (i:=3) ((hC.block V0 (yC.1 G).1).trans G) rfl;have f3:=J4 (i:=3) ((hC.block w.heap.size (by omega)).trans k4) rfl;have b5:=zi (uh HA) (zi O hC);have HR:=ze (uh u _ b5);have OPX:=ze (Zd (uh HOP) b4);have OFX:=ze of;have X:=ze hC;have V:=ze b5;have Z:=ze kC;have ad:=ze zC;have ab:=ze F;clear aa of b4 O k4 G HOP Y r o d2 S T hz1 hz3 hC kC zC u s b5 F
     cases bq with
     | false=>
      first
      | exact Bool.noConfusion (uh HBQ)
      |(
        have x:Hid (U=true):=by show _=_;rw[uh a];simp[*]
        clear HR;go_wp2;go_ret2;have T:=uh z;have S:=uh n;have hz1:=uh y;have hz3:=uh N;have F:=uh ab;refine⟨fun _=>⟨w4.heap.size,_,_,.nilIface,.nul,rfl,⟨?_,by omega,QO (Zd (uh OPX) (uh X)) (by omega),QO (Zd (uh OFX) (uh X)) (by omega),fun h=>?_⟩,uh V⟩,fun h=>?_⟩
        ·unfold GY;rw[(uh l).1,(uh l).2.1,(uh l).2.2.1,(uh l).2.2.2.1,(uh l).2.2.2.2.1,(uh l).2.2.2.2.2];exact uh Z
        ·rw[(uh l).2.2.2.2.2]at h;cases h
        ·rw[uh x]at h;cases h)
     | true=>
      first
      | exact Bool.noConfusion (uh HBQ)
      |(
        go_wp2_with fail;generalize w4.alloc _=w5 at *;generalize hG:w4.heap.size=j at *;have HGE:=ze hG;clear hG;refine (uh HR).mono ?_;rintro e w6 ⟨b6,hno,E⟩;have zC:=uh ad;have k6:=(b6.block j (by omega)).trans (uh Z);have g9:=J4 (i:=9) k6 rfl;have f9:=yJ k6 9;have W:=ze b6;have HK6:=ze k6;clear HR b6 k6 zC Z
        cases hg:Qy m.val with
        | false=>
         obtain rfl:=hno hg;have x:Hid (U=false):=by show _=_;rw[uh a,hg];simp
         clear hno E hg;go_wp2;go_ret2;refine⟨fun h=>?_,fun _=>⟨rfl,?_⟩⟩
         ·rw[uh x]at h;cases h
         ·have T:=uh z;have S:=uh n;have hz1:=uh y;have hz3:=uh N;have F:=uh ab;have zC:=uh ad;exact ((uh V).trans ((uh W).mono (by omega))).setCell (p:=⟨j,9,none⟩) (by show w.heap.size<=j;omega) _
        | true=>
         obtain⟨v,t,p,r1,r2,rfl,rep⟩:=E hg;have x:Hid (U=true):=by show _=_;rw[uh a,hg];simp[*]
         have HR1:=ze r1;have HR2:=ze r2;have HREP:=ze rep;have HK7:=ze (heap_setCell_same w6 j 9 _ _ (.iface t p) (uh HK6));clear hno E hg r1 r2 rep;go_wp2;go_ret2;have T:=uh z;have S:=uh n;have hz1:=uh y;have hz3:=uh N;have F:=uh ab;have zC:=uh ad;have B47:Bw w4 (w6.setCell ⟨j,9,none⟩ (.iface t p)):=by
          have hGE:=uh HGE;exact (((uh X).mono (by omega)).trans ((uh W).mono (by omega))).setCell (p:=⟨j,9,none⟩) (by show w4.heap.size<=j;omega) _
         have z7:(w6.setCell ⟨j,9,none⟩ (.iface t p)).heap.size=w6.heap.size:=by simp[World.setCell]
         refine⟨fun _=>⟨j,_,_,.iface t p,v,rfl,⟨?_,by omega,QO (Zd (uh OPX) B47) (by omega),QO (Zd (uh OFX) B47) (by omega),fun _=>⟨uh HR1,uh HR2,t,p,rfl,?_⟩⟩,((uh V).trans ((uh W).mono (by omega))).setCell (p:=⟨j,9,none⟩) (by show w.heap.size<=j;omega) _⟩,fun h=>?_⟩
         ·unfold GY;rw[(uh l).1,(uh l).2.1,(uh l).2.2.1,(uh l).2.2.2.1,(uh l).2.2.2.2.1,(uh l).2.2.2.2.2];exact uh HK7
         ·exact zk.keep (fun k hk=>Below.heap_setCell w6 ⟨j,9,none⟩ _ k (fun e=>by have:k=j:=e;omega)) (fun k hk=>⟨by omega,by rw[z7];exact hk.2⟩) _ _ (uh HREP)
         ·rw[uh x]at h;cases h)
    ·have x:Hid (U=false):=by
      have hse:=uh HSE;show _=_
      rw[uh a]
      cases zp<;>cases zq<;>simp_all
     have HB4:=ze (zi (uh HA) O);clear aa of b4 O Y r o d2 u s
     cases zp<;>cases zq
     all_goals first
      | exact absurd ⟨rfl,rfl⟩ hpq
      |(
        clear hpq;go_wp2;go_ret2;exact⟨fun h=>(by rw[uh x]at h;cases h),fun _=>⟨rfl,uh HB4⟩⟩))
  ·obtain⟨rfl,hv⟩:f=false/\¬ m.val.toList=[]:=by cases f<;>simp_all
   have hi:m.val.toList.isEmpty=false:=by rw[← Bool.not_eq_true,List.isEmpty_iff];exact hv
   have x:Hid (U=false):=by show _=_;rw[uh a];simp[hv]
   have HB:=ze (zi (uh HA) (uh K));clear hvn hv Q s M u
   cases g
   all_goals (
    try have es:=B rfl
    clear B;go_wp2;go_ret2;exact⟨fun h=>(by rw[uh x]at h;cases h),fun _=>⟨rfl,uh HB⟩⟩)
 ·obtain⟨rfl,hs⟩:g=false/\¬ m.src.toList=[]:=by cases g<;>simp_all
  have x:Hid (U=false):=by show _=_;rw[uh a];simp[hs]
  have HB:=ze (zi (uh HA) (uh K));clear B Q s M u
  cases f
  all_goals (
   go_wp2;go_ret2;exact⟨fun h=>(by rw[uh x]at h;cases h),fun _=>⟨rfl,uh HB⟩⟩)
theorem zeH(m:zG)(w:Wo)(hno:¬ (1<=m.kind/\m.kind<=6)):
  Calls prog 47 #[.agg #[.int .i64 m.kind,.string m.path,.string m.src,.string m.val]] w (Ss w):=by
 have f:=zY w (J9 m);have g:=yH w (J9 m);have j:(w.alloc (J9 m)).heap.size=w.heap.size+1:=by simp
 have a:=ze (za6 w.heap.size m (w.alloc (J9 m)) g hno);have h:=ze f;unfold J9 YN at *;clear f g j hno;go_in;go_wp2_with fail;generalize (w.alloc (.cells #[.int .i64 m.kind,.string m.path,.string m.src,.string m.val] 59))=k at *;refine (uh a).mono ?_;rintro e i ⟨rfl,d⟩;have b:=ze (zi (uh h) (zi d (zY i (.cells #[.string ⟨#[]⟩,.int .i64 0,.bool false,.bool false,.bool false,.bool false,.nilFunc] 135))));clear a d;go_wp2;go_ret2;exact⟨rfl,uh b⟩
theorem CQ(m:zG)(w:Wo)(h:Zu m=true)(hw:qQ w)(hz1:m.path.size<=1048576)(hz2:m.src.size<=1048576)(hz3:m.val.size<=1048576):
  Calls prog 47 #[.agg #[.int .i64 m.kind,.string m.path,.string m.src,.string m.val]] w (CO m w):=by
 have a:1<=m.kind/\m.kind<=6:=by unfold Zu at h;simp only[Bool.and_eq_true,decide_eq_true_eq]at h;exact h.1.1.1
 exact (CP m w a.1 a.2 hw hz1 hz2 hz3).mono fun e w' hr=>hr.1 h
theorem CR(m:zG)(w:Wo)(h:Zu m=false)(hw:qQ w)(hz1:m.path.size<=1048576)(hz2:m.src.size<=1048576)(hz3:m.val.size<=1048576):
  Calls prog 47 #[.agg #[.int .i64 m.kind,.string m.path,.string m.src,.string m.val]] w (Ss w):=by
 by_cases a:1<=m.kind/\m.kind<=6
 ·exact (CP m w a.1 a.2 hw hz1 hz2 hz3).mono fun e w' hr=>hr.2 h
 ·exact zeH m w a
structure Gd where
 g:Nat
 pv:Value
 fv:Value
 vv:Value
 v:JV
structure GZ(w:Wo)(S:Nat->Prop)(m:zG)(q:Gd):Prop where
 blk:w.heap[q.g]?=some (GY m.kind q.pv q.fv q.vv)
 sg:S q.g
 path:OT w 0 q.pv (ZB m.path)
 sp:∀ b,q.pv.ownBlock=some b->S b
 src:OT w 0 q.fv (ZB m.src)
 ss:∀ b,q.fv.ownBlock=some b->S b
 val:ZR m.kind=true->zI m.val= .inr q.v/\zh (ct q.v)=m.val/\∃ t p,q.vv= .iface t p/\zk w S q.v q.vv
theorem CS{w w':Wo}{e size n:Nat}{v:Value}{xs:List Value}(h:w.ownsRow 0 e size v n xs)(hk:∀ b,v.ownBlock=some b->w'.heap[b]?=w.heap[b]?):w'.ownsRow 0 e size v n xs:=by
 refine⟨h.1,?_⟩;rcases h.2 with i |⟨g,a,d,f,j,k,r⟩
 ·exact .inl i
 ·exact .inr ⟨g,a,d,f,j,(hk g (by rw[f];rfl)).trans k,r⟩
theorem GZ.keep{w w':Wo}{S S':Nat->Prop}{m:zG}{q:Gd}(h:GZ w S m q)(hk:∀ k,S k->w'.heap[k]?=w.heap[k]?)(hS:∀ k,S k->S' k):GZ w' S' m q:=
 ⟨(hk _ h.sg).trans h.blk,hS _ h.sg,CS h.path fun b hb=>hk b (h.sp b hb),fun b hb=>hS b (h.sp b hb),CS h.src fun b hb=>hk b (h.ss b hb),fun b hb=>hS b (h.ss b hb),
  fun hv=>by obtain⟨a,d,t,p,f,g⟩:=h.val hv;exact⟨a,d,t,p,f,zk.keep hk hS _ _ g⟩⟩
theorem UY.toS{w:Wo}{B:Nat}{m:zG}{g:Nat}{pv fv vv:Value}{v:JV}(h:UY w B m g pv fv vv v):GZ w (fun k=>B<=k/\k<w.heap.size) m ⟨g,pv,fv,vv,v⟩:=
 ⟨h.blk,⟨h.ge,(yC.1 h.blk).1⟩,QO h.path (yu _),fun b hb=>h.path.lt b hb,QO h.src (yu _),fun b hb=>h.src.lt b hb,h.val⟩
def Ol(q:Gd):Value:=.pointer (some ⟨q.g,0,none⟩)
structure WY(w:Wo)(B:Nat)(S:Nat->Prop)(lv:Value)(ms:List zG)(qs:List Gd):Prop where
 len:qs.length=ms.length
 row:w.ownsRow B 83 1 lv qs.length (qs.map Ol)
 ops:∀ (j:Nat) m q,ms[j]?=some m->qs[j]?=some q->GZ w S m q
 off:∀ k,S k->lv.ownBlock≠some k
def WZ(w0:Nat)(w:Wo)(lv:Value)(k:Nat):Prop:=w0<=k/\k<w.heap.size/\lv.ownBlock≠some k
theorem WY.snoc {wr w2 w3 w4:Wo} {B Wb:Nat} {lv lv':Value} {ms:List zG} {qs:List Gd} {m:zG} {q:Gd} (hL:WY wr B (WZ B wr lv) lv ms qs) (hb2:Bw wr w2) (hat:UY w2 Wb m q.g q.pv q.fv q.vv q.v) (hW:wr.heap.size<=Wb) (hB:B<=wr.heap.size)
  (hb3:Bw w2 w3) (hrow:w4.ownsRow B 83 1 lv' (qs.length+1) (qs.map Ol++[Ol q])) (hg:w3.grownBy w4 lv.ownBlock) (hwh:lv'.ownBlock=lv.ownBlock∨lv'.ownBlock=some w3.heap.size):
  WY w4 B (WZ B w4 lv') lv' (ms++[m]) (qs++[q]):=by
 have i:=hb2.size;have l:=hb3.size;have n:=hg.size;have a:∀ k,k<w3.heap.size->lv.ownBlock≠some k->w4.heap[k]?=w3.heap[k]?:=fun k h1 h2=>hg.block k h1 (fun e=>h2 e.symm);have d:∀ k,B<=k->k<w3.heap.size->lv.ownBlock≠some k->WZ B w4 lv' k:=fun k h1 h2 h3=>⟨h1,by omega,fun e=>by
  rcases hwh with h | h
  ·exact h3 (h ▸ e)
  ·rw[h]at e;injection e with e;omega⟩
 refine⟨by simp[hL.len],by simpa using hrow,fun j m' q' hm hq=>?_,fun k hk=>hk.2.2⟩;by_cases g:j<ms.length
 ·rw[List.getElem?_append_left g]at hm;rw[List.getElem?_append_left (by rw[hL.len];exact g)]at hq;refine (hL.ops j m' q' hm hq).keep (fun k hk=>?_) (fun k hk=>d k hk.1 (by have:=hk.2.1;omega) hk.2.2);have:=hk.2.1;rw[a k (by omega) hk.2.2,hb3.block k (by omega),hb2.block k (by omega)]
 ·have f:=(List.getElem?_eq_some_iff.1 hm).1;rw[yh,List.length_singleton]at f;obtain rfl:j=ms.length:=by omega
  rw[List.getElem?_append_right (ye _)]at hm;rw[List.getElem?_append_right (by rw[hL.len];exact ye _),hL.len]at hq;simp at hm hq;subst hm;subst hq;have b:∀ k,Wb<=k->lv.ownBlock≠some k:=fun k h1 e=>by
   have:=(hL.row.lt k e).2;omega
  refine hat.toS.keep (fun k hk=>?_) (fun k hk=>d k (by omega) (by omega) (b k hk.1));rw[a k (by omega) (b k hk.1),hb3.block k hk.2]
theorem CT:(prog.info? 83).map (fun i=>(i.zero,i.size,i.bytes))=some (some (.pointer none),1,8):=by kernel_rfl
def UZ(w:Wo)(c:Int)(ev:Value):Prop:=∃ fb,ev= .iface 138 (.pointer (some ⟨fb,0,none⟩))/\w.heap[fb]?=some (.cells #[.int .i64 c] 140 (0,0))
theorem UZ.next{w w':Wo}{c:Int}{ev:Value}(h:UZ w c ev)(hb:Bw w w'):UZ w' c ev:=by
 obtain⟨fb,b,a⟩:=h;exact⟨fb,b,(hb.block fb (yC.1 a).1).trans a⟩
def Xl(w:Wo)(i c:Int)(ev:Value):Prop:=∃ eb fv,ev= .iface 141 (.pointer (some ⟨eb,0,none⟩))/\w.heap[eb]?=some (.cells #[.int .i64 i,fv] 143 (0,0))/\UZ w c fv
theorem St(w:Wo)(i c:Int):Xl ((w.alloc (.cells #[.int .i64 c] 140)).alloc (.cells #[.int .i64 i,.iface 138 (.pointer (some ⟨w.heap.size,0,none⟩))] 143)) i c (.iface 141 (.pointer (some ⟨w.heap.size+1,0,none⟩))):=by
 have z:(w.alloc (.cells #[.int .i64 c] 140)).heap.size=w.heap.size+1:=by simp
 refine⟨w.heap.size+1,_,rfl,?_,w.heap.size,rfl,?_⟩
 ·have:=yH (w.alloc (.cells #[.int .i64 c] 140)) (.cells #[.int .i64 i,.iface 138 (.pointer (some ⟨w.heap.size,0,none⟩))] 143)
  rwa [z]at this
 ·exact ((zY _ _).block w.heap.size (by omega)).trans (yH w _)
def zeI(ms:List zG)(w:Wo)(e:Ending)(w':Wo):Prop:=Bw w w' /\
 (0<=Z9 ms->∃ t p,e= .returned (.tuple #[.slice none 0 0,.iface t p])/\Xl w' (Z9 ms) 2 (.iface t p)) /\
 (Z9 ms<0->∃ lv qs,e= .returned (.tuple #[lv,.nilIface])/\WY w' w.heap.size (WZ w.heap.size w' lv) lv ms qs)
theorem zeJ(v:Value)(ms:List zG)(bl:List Nat)(w:Wo)(h:Zr Yk w v ms bl)(hs:Gt ms)(hw:qQ w):
  Calls prog 59 #[v] w (zeI ms w):=by
 have aa:=hs.1;obtain⟨xa,xc,rfl,h1,hxa⟩:=h.form;have H:=ze h;have HXA:=ze hxa;have HIN:=ze aa;have hln:=hs.2;clear h h1 hxa hs aa;by_cases W:100<ms.length
 ·have s:Z9 ms=100:=by unfold Z9;rw[yg W]
  have HB:=ze s;clear s;go_in;go_wp2;go_ret2;exact⟨zi (zY w _) (zY _ _),fun _=>⟨_,_,rfl,by rw[uh HB];exact St w 100 2⟩,fun h=>by rw[uh HB]at h;omega⟩
 ·have t100:¬ (100:Int)<(ms.length:Int):=by omega
  obtain⟨i0,hi,hz0,hz1,hz2⟩:=info_parts CT;go_in;go_wp2_with (at_make;refine wpList_make_own _ rfl _ _ 99 rfl w.heap.size 83 i0 (.pointer none) 1 underlying99 hi hz0 hz1 .i64 .i64 _ ms.length rfl rfl rfl (by rw[hz2];omega) (by unfold maxLen;omega) (ye _) ?_);intro w1 p l;have Y:Bw w w1:=(yI _ _).grown l (ye _) (by intro k hk;cases hk);have HB1:=ze Y;have HO1:=ze p;clear Y p l;go_wp2;go_loopw [4,23] (fun lv i wr=>∃ (k:Nat) (qs:List Gd),k<=ms.length/\i= .int .i64 k/\Bw w wr/\WY wr w.heap.size (WZ w.heap.size wr lv) lv (ms.take k) qs/\∀ j (h:j<ms.length),j<k->Zu ms[j]=true) (fun _ i _=>ms.length - (intOf i).toNat)
  case atStart=>exact⟨0,[],yu _,rfl,uh HB1,⟨by simp,uh HO1,fun j m q hm _=>by simp at hm,fun k hk=>hk.2.2⟩,fun j h hj=>by omega⟩
  case round=>
   obtain⟨k,qs,hk,rfl,s,I,z⟩:=hrel;have n:qs.length=k:=by rw[I.len,ym];omega
   obtain⟨la,lc,rfl,ab⟩:∃ la lc,u4= .slice la k lc/\True:=by
    rcases I.row.2 with ⟨hv,hn⟩ |⟨g,V,cur,hv,_⟩
    ·exact⟨none,0,by rw[hv,← n,hn],trivial⟩
    ·exact⟨some ⟨g,0,none⟩,V,by rw[hv,n],trivial⟩
   by_cases A:k<ms.length
   ·obtain⟨g,rfl⟩:=uh HXA (by omega);obtain⟨vs,ib,hE,Z,_⟩:=((uh H).below s).at (yy A);obtain⟨rfl,_⟩:=hE;have c0:wr.cell? ⟨g,k*4,none⟩=some (.int .i64 ms[k].kind):=(Z 0 _ rfl).1;have c1:wr.cell? ⟨g,k*4+1,none⟩=some (.string ms[k].path):=(Z 1 _ rfl).1;have c2:wr.cell? ⟨g,k*4+2,none⟩=some (.string ms[k].src):=(Z 2 _ rfl).1;have c3:wr.cell? ⟨g,k*4+3,none⟩=some (.string ms[k].val):=(Z 3 _ rfl).1;have M:=ze I;have P:=ze z;have a:=ze s;clear Z I z s ab;have hA:=zY wr (.cells #[.int .i64 ms[k].kind,.string ms[k].path,.string ms[k].src,.string ms[k].val] 59);have zA:(wr.alloc (.cells #[.int .i64 ms[k].kind,.string ms[k].path,.string ms[k].src,.string ms[k].val] 59)).heap.size=wr.heap.size+1:=by simp
    obtain⟨i1,i2,i3⟩:=uh HIN ms[k] (yt A);have C:=hw.up (zi (uh a) hA);have HA:=ze hA;have T:=ze zA
    cases hok:Zu ms[k]with
    | false=>
     have R:=ze (CR ms[k] _ hok C i1 i2 i3);have f:Hid (Z9 ms=(k:Int)):=D8 (by omega) A hok (uh P);clear hok C hA zA i1 i2 i3;go_wp2_with fail;generalize (wr.alloc (.cells #[.int .i64 ms[k].kind,.string ms[k].path,.string ms[k].src,.string ms[k].val] 59))=wA at *;refine (uh R).mono ?_;rintro e L ⟨rfl,U⟩;have HB2:=ze (zi (zi (uh a) (uh HA)) U);clear R U;go_wp2;go_ret2;exact⟨zi (zi (uh HB2) (zY _ _)) (zY _ _),fun _=>⟨_,_,rfl,by rw[uh f];exact St _ _ 2⟩,fun h=>by rw[uh f]at h;omega⟩
    | true=>
     have R:=ze (CQ ms[k] _ hok C i1 i2 i3);have Q:Hid (∀ j (h:j<ms.length),j<k+1->Zu ms[j]=true):=fun j h hj=>by
      by_cases e:j=k
      ·subst e;exact hok
      ·exact uh P j h (by omega)
     clear hok C hA zA i1 i2 i3;go_wp2_with fail;generalize (wr.alloc (.cells #[.int .i64 ms[k].kind,.string ms[k].path,.string ms[k].src,.string ms[k].val] 59))=wA at *;refine (uh R).mono ?_;rintro e L ⟨F,pv,fv,vv,v,rfl,X,U⟩;have x:=zi (uh HA) U;have G:=zY L (.cells #[.pointer (some ⟨F,0,none⟩)] 83);have k3:=yH L (.cells #[.pointer (some ⟨F,0,none⟩)] 83);have z02:=x.size;have z3:(L.alloc (.cells #[.pointer (some ⟨F,0,none⟩)] 83)).heap.size=L.heap.size+1:=by simp
     have hwr:=(uh a).size;have r:=Zd (Zd (uh M).row x) G;rw[n]at r;have N:=ze X;have o:=ze x;have E:=ze G;have u:=ze z3;have cx:(L.alloc (.cells #[.pointer (some ⟨F,0,none⟩)] 83)).cell? ⟨L.heap.size,0,none⟩=some (.pointer (some ⟨F,0,none⟩)):=yG k3 0;have S:=ze r;have O:=ze cx;clear R X U x G k3 z3 r cx;go_wp2_with (at_builtin;refine DK underlying99 CT rfl (by decide) rfl (.tmp 42) (.tmp 44) rfl (B:=w.heap.size) rfl (uh S) (y:=.pointer (some ⟨F,0,none⟩)) rfl rfl (uh O) (by have:=uh u;omega) (by omega) ?_);intro lv' w4 d K D;obtain⟨la',lc',rfl⟩:∃ la lc,lv'= .slice la (k+1) lc:=by
      rcases d.2 with ⟨_,hn⟩ |⟨g,V,cur,hv,_⟩
      ·omega
      ·exact⟨_,_,hv⟩
     have J:=WY.snoc (q:=⟨F,pv,fv,vv,v⟩) (uh M) (uh o) (uh N) (by have:=uh T;omega) hwr (uh E) (by rw[n];exact d) K (by rw[uh u];exact D);rw[← yz A]at J;have HL4:=ze J;have HB4:=ze ((zi (zi (uh a) (uh o)) (uh E)).grown K (by have:=uh u;omega) (fun b s=>((uh M).row.lt b s).1));clear J d K D M N o E u S O a HA T c0 c1 c2 c3;go_wp2;go_roundw
     case rel=>exact⟨k+1,_,by omega,by go_num,uh HB4,uh HL4,uh Q⟩
     case measure=>simp[intOf];omega
   ·have hk':k=ms.length:=by omega
    subst hk';rw[List.take_length]at I;have f:Hid (Z9 ms= -1):=NH (by omega) (fun j h=>z j h h);have M:=ze I;have a:=ze s;clear I s z ab;go_wp2;go_ret2;exact⟨uh a,fun h=>(by rw[uh f]at h;omega),fun _=>⟨_,qs,rfl,uh M⟩⟩
def zS(w:Wo)(v:JV)(x:Value):Prop:=zk w (fun k=>k<w.heap.size) v x
theorem zS.next{w w':Wo}{v:JV}{x:Value}(h:zS w v x)(hb:Bw w w'):zS w' v x:=
 zk.keep (fun k hk=>hb.block k hk) (fun _ hk=>yF hk hb.size) _ _ h
def Zj(w:Wo)(o:Nat⊕JV)(e:Ending)(w':Wo):Prop:=Bw w w' /\
 ((∃ c ev,o= .inl c/\e= .returned (.tuple #[.nilIface,ev])/\UZ w' (c:Int) ev)∨∃ u t p,o= .inr u/\e= .returned (.tuple #[.iface t p,.nilIface])/\zS w' u (.iface t p))
theorem Su(v:JV)(hv:zo v)(ts:List (List UInt8))(a:Option Addr)(g off cap:Nat)(w:Wo)(ty:TypeId)(p:Value)(hr:zS w v (.iface ty p))(hs:SS w a g off (ts.map zH))(hn:ts.length<=1048577)(ht:∀ t∈ts,t.length<=1048576):
  Calls prog 213 #[.iface ty p,.slice a ts.length cap] w (Zj w (ZS 3 (zr v ts))):=by
 have s:=ze hr;have r:=ze hv;have j:=hs.ad;have f:=ze hs.cell;simp only[yl]at j f;clear hr hs hv;go_in;go_wp2_with fail;go_loopw [6,7,13] (fun vv bv iv wr=>∃ (k:Nat) (u:JV) (ty:TypeId) (p:Value),k<=ts.length/\iv= .int .i64 (k:Int)/\bv= .bool true/\vv= .iface ty p/\zr v (ts.take k)=some u/\zo u/\zS w u (.iface ty p)/\w=wr) (fun _ _ iv _=>ts.length - (intOf iv).toNat)
 case atStart=>exact⟨0,v,ty,p,yu _,rfl,rfl,rfl,rfl,uh r,uh s,rfl⟩
 case round=>
  obtain⟨k,u,ty,p,I,rfl,rfl,rfl,q,i,b,rfl⟩:=hrel;clear s r;by_cases d:k<ts.length
  ·have E:(k:Int)<(ts.length:Int):=by omega
   obtain rfl:=j (by omega);have h:=uh f k d;rw[XQ d]at h;have A:zH (ts.getD k [])=zh ts[k]:=by simp[List.getD,d,zH,zh]
   rw[A]at h;have HC:=ze (RV u i.tw ts[k] (by have:=ht _ (yt d);omega) ty p w _ b);have m:Hid (zn u ts[k]=none->zr v ts=none):=fun hc=>TN d q hc;have l:Hid (∀ o,zn u ts[k]=some o->zr v (ts.take (k+1))=some o/\zo o):=fun o hc=>⟨by rw[Ry d q];exact hc,i.child hc⟩;generalize zh ts[k]=J at *;clear q b A f i;go_wp2_with fail;refine (uh HC).mono ?_;rintro e K ⟨rfl,⟨x,rfl,y⟩ |⟨x,o,rfl,z,n⟩⟩
   ·have G:=ze (uh m y);clear HC m l h y;go_wp2;go_ret2;exact⟨zY _ _,.inl ⟨3,_,by rw[uh G];rfl,rfl,_,rfl,yH _ _⟩⟩
   ·have D:=ze (uh l o z);obtain⟨C,H,rfl⟩:=Qe n;have B:=ze n;clear HC m l h z n;go_wp2;go_roundw
    case rel=>exact⟨k+1,o,C,H,by omega,by go_num,rfl,rfl,(uh D).1,(uh D).2,uh B,trivial⟩
    case measure=>simp[intOf];omega
  ·have e:ts.take k=ts:=yr (by omega);rw[e]at q;have F:=ze q;have HR:=ze b;clear q b e f i;go_wp2;go_ret2;exact⟨yI _ _,.inr ⟨u,ty,p,by rw[uh F];rfl,rfl,uh HR⟩⟩
theorem zeK{v:JV}(h:ZP v):zj v<=(ct v).length/\zm v<=zj v:=by
 have a:=(Vy (Bb h)).2.1;rw[zN,(VA v).cnt]at a;exact⟨a,(qz v).1⟩
theorem zeL(v:JV)(hr:ZP v)(htw:zw v=false)(w:Wo)(S:Nat->Prop)(t:TypeId)(p:Value)(rep:zk w S v (.iface t p))(hS:∀ k,S k->k<w.heap.size)(hP:QE w.heap.size w)(hl:(ct v).length<=10000000):
  Calls prog 61 #[.iface t p] w fun e w'=>e= .returned (.bool (decide (zm v<=100/\zj v<=3000/\(ct v).length<=20000)))/\Bw w w':=by
 obtain⟨s,u⟩:=zeK hr;have HC:=ze (FX v (GT v hr) htw w S t p rep hS hP hl (by omega) (by omega));clear hr htw rep hS hP;generalize zm v=d at *;generalize zj v=c at *;generalize (ct v).length=n at *;obtain⟨z,m⟩:∃ z,decide (d<=100/\c<=3000/\n<=20000)=z:=⟨_,rfl⟩;rw[m];have i:=ze m;clear m;go_in;go_wp2_with fail;refine (uh HC).mono ?_;rintro e x ⟨rfl,l⟩;have g:=ze (l.alloc l.size (qA d c n));clear HC l;simp only[Yc];by_cases b:d<=100
 ·have q:(d:Int)<=100:=by omega
  by_cases f:c<=3000
  ·have o:(c:Int)<=3000:=by omega
   by_cases j:n<=20000
   ·have r:(n:Int)<=20000:=by omega
    have a:Hid (z=true):=(uh i).symm.trans (yj ⟨b,f,j⟩);clear b f j;go_wp2;go_ret;exact⟨by rw[uh a];rfl,uh g⟩
   ·have r:¬ (n:Int)<=20000:=by omega
    have a:Hid (z=false):=(uh i).symm.trans (yk (fun h=>j h.2.2));clear b f j;go_wp2;go_ret;exact⟨by rw[uh a];rfl,uh g⟩
  ·have o:¬ (c:Int)<=3000:=by omega
   have a:Hid (z=false):=(uh i).symm.trans (yk (fun h=>f h.2.1));clear b f;go_wp2;go_ret;exact⟨by rw[uh a];rfl,uh g⟩
 ·have q:¬ (d:Int)<=100:=by omega
  have a:Hid (z=false):=(uh i).symm.trans (yk (fun h=>b h.1));clear b;go_wp2;go_ret;exact⟨by rw[uh a];rfl,uh g⟩
end Go.Proofs.YtpaecnbdoljafaaGreatDoor
