import Derived.Test.YtpaecnbdoljafaaGreatDoorBz39
import Derived.Test.YtpaecnbdoljafaaGreatDoorBz18
import Derived.Test.YtpaecnbdoljafaaGreatDoorBz40
set_option maxRecDepth 100000
set_option maxHeartbeats 8000000
namespace Go.Proofs.YtpaecnbdoljafaaGreatDoor
open Go.RowKit Go.Proofs.Tryz
theorem CI:∀ {ts:List (List UInt8)} {v u:JV},zo v->zr v ts=some u->zj u<=zj v
 | [],v,u,_,e=>by rw[Qz]at e;injection e with e;subst e;exact ye _
 | t :: ts,v,u,h,e=>by
  rw[qM]at e
  cases hc:zn v t with
  | none=>rw[hc]at e;cases e
  | some c=>
   rw[hc]at e;have h1:=CI (h.child hc) e;have a:=(Y8 hc h.ok h.tw).2.2.2;omega
theorem Si:((⟨#[]⟩:Bs).toList ==[])=true:=by rw[ByteArray.toList_eq];rfl
theorem zeq{a b:JV}(gb:zo b)(hd:zm b<=100)(hc:zj b<=3000)(hl:(ct b).length<=20000)(p:List UInt8)(ts:List (List UInt8))(hp:zK p=some ts):
  Zu (QF a b p)=true/\X4 ts (zr a ts) (zr b ts) (ZN (QF a b p)):=by
 have f:(zK p).getD []=ts:=by rw[hp];rfl
 have g:∀ q:List UInt8,(zh q).data.toList=q:=Za
 cases hb:zr b ts with
 | none=>
  have e:QF a b p=⟨2,zh p,⟨#[]⟩,⟨#[]⟩⟩:=by unfold QF;rw[f,hb]
  rw[e];refine⟨?_,?_,fun _=>rfl,fun v h=>(by cases h)⟩
  ·unfold Zu;simp[g,hp,Qj,ZR,eq_of_beq Si]
  ·show (zK (zh p).data.toList).getD []=ts
   rw[g];exact f
 | some v=>
  have o:=gb.get hb;have s:=Pb hb;have w:=CI gb hb;have x:=Yn gb hb;obtain⟨n,r⟩:=X7 o (by omega) (by omega) (by omega);have i:=VA v;have d:Qy (zh (ct v))=true:=XU.2 ⟨nv v,n,by rw[i.ct]⟩;obtain⟨k,m,e⟩:∃ k:Int,(k=if (zr a ts).isSome=true then 3 else 1)/\QF a b p=⟨k,zh p,⟨#[]⟩,zh (ct v)⟩:=by
   unfold QF;rw[f,hb]
   cases zr a ts with
   | none=>exact⟨1,rfl,rfl⟩
   | some _=>exact⟨3,rfl,rfl⟩
  rw[e];have j:k=1∨k=3:=by rw[m];split<;>simp
  have l:(ZN ⟨k,zh p,⟨#[]⟩,zh (ct v)⟩).val=nv v:=by
   show JB ⟨k,zh p,⟨#[]⟩,zh (ct v)⟩=_
   unfold JB;simp only;rw[n]
  refine⟨?_,?_,fun h=>(by cases h),fun u hu=>?_⟩
  ·unfold Zu;rcases j with rfl | rfl<;>simp[g,hp,d,Qj,ZR,eq_of_beq Si]
  ·show (zK (zh p).data.toList).getD []=ts
   rw[g];exact f
  ·injection hu with hu;subst hu;rw[l];exact⟨r,i.ct,i.cnt,i.dep,m⟩
theorem zer{s t:Bs}{a b:JV}(hs:zI s= .inr a)(ht:zI t= .inr b)(hc:zj a+zj b<=3000)(hl:(ct a).length+(ct b).length<=20000):Ze s (Qu s t)=(zh (ct b),0,0):=by
 have B:=(ZF.of hs).t;have v:=(ZF.of ht).t;obtain⟨-,-,-,-,F,-⟩:=Y7 hs;obtain⟨-,-,-,-,o,-⟩:=Y7 ht;have C:∀ ms:List zG,ms.length<=100->(∀ m∈ms,Zu m=true)->(∃ r,Zw a (ms.map ZN) 0= .inr r/\ct r=ct b)->Ze s ms=(zh (ct b),0,0):=fun ms h1 h2 ⟨r,h3,h4⟩=>by
  unfold Ze;rw[hs];simp only;rw[NH h1 fun j hj=>h2 _ (yt hj),yf (by decide),h3];simp only;rw[h4]
 have w:Qf s t=true:=by unfold Qf;rw[hs,ht]
 obtain⟨J,A,q,u,l,f⟩:=Cc w;rw[hs]at q;rw[ht]at u;injection q with q;injection u with u;subst q;subst u;by_cases g:100<(qR s t).length
 ·rw[l g];obtain⟨E,L⟩:=X7 v o (by omega) (by omega);have n:=VA b;have k:Qy (zh (ct b))=true:=XU.2 ⟨nv b,E,by rw[n.ct]⟩;have z:ZN ⟨3,⟨#[]⟩,⟨#[]⟩,zh (ct b)⟩=⟨3,[],[],nv b⟩:=by
   show Zv.mk _ _ _ (JB _)=_
   unfold JB;simp only;rw[E];rfl
  refine C _ (by simp) (fun m hm=>?_) ⟨nv b,?_,n.ct⟩
  ·rw[List.mem_singleton]at hm;subst hm;have I:zK []=some []:=F5 [];unfold Zu;simp[k,Qj,ZR,eq_of_beq Si,I]
  ·rw[List.map_singleton,z];have:=X5 (R:=[]) (i:=0) (LB (x:=⟨3,[],[],nv b⟩) (Qz a) rfl rfl) (by rw[QW];show zm (nv b)<=100;rw[n.dep];exact o) (by rw[QW];show zj (nv b)<=_;rw[n.cnt];omega) (by rw[QW];show (ct (nv b)).length<=_;rw[n.ct];omega);rw[this,QW];rfl
 ·rw[f g];have e:qR s t=(J8 (max (zm a) (zm b)) a b).map (JK []):=by
   unfold qR;rw[hs,ht];simp only;exact Pe _ _ _ _
  have h:∀ d∈J8 (max (zm a) (zm b)) a b,Zu (QF a b (JK [] d))=true/\X4 d (zr a d) (zr b d) (ZN (QF a b (JK [] d))):=fun d _=>
   zeq v o (by omega) (by omega) _ d (F5 d)
  refine C _ (by rw[yl];omega) (fun m hm=>?_) ?_
  ·obtain⟨p,D,rfl⟩:=yP.1 hm;rw[e]at D;obtain⟨d,y,rfl⟩:=yP.1 D;exact (h d y).1
  ·obtain⟨A,K,G,-,-,-,H⟩:=LF (max (zm a) (zm b)) a b B v (Nat.le_max_left _ _) (by omega) (by omega) a [] (fun d=>ZN (QF a b (JK [] d))) B (Qz a) (fun us hu=>(h us hu).2) F (by simpa using o) hc hl;refine⟨A,?_,G⟩;have:=H [] 0;rw[yT,QW]at this;rw[e,List.map_map,List.map_map];exact this
theorem CJ:∀ (n:Nat) (a b:JV),zo a->zo b->zm a<=n->zm a<=100->zj a<=3000->zj b<=3000->J8 n a b=[]->ct a=ct b
 | 0,a,_,_,_,h,_,_,_,_=>by have:=qz a;omega
 | n+1,a,b,ga,gb,hd,h1,ca,cb,h=>by
  by_cases f:qC a b=true
  ·rw[Pd f]at h;have i:∀ k,zX (zu a) k=zn a k:=Xh ga.tw (by omega);have j:∀ k,zX (zu b) k=zn b k:=Xh gb.tw (by omega);have hx:IX a b a [] (Zc a b) a:=by
    refine⟨ga,?_,fun k hk d=>absurd hk d,fun k hk=>?_,by rw[QW];exact h1,by rw[QW];exact Nat.le_add_right _ _,by rw[QW];exact Nat.le_add_right _ _⟩
    ·rcases LE f with ⟨m,k,rfl,rfl,_⟩ |⟨m,k,rfl,rfl⟩
     ·exact .inl ⟨m,m,k,rfl,rfl,rfl,rfl⟩
     ·refine .inr ⟨m,m,k,rfl,rfl,rfl,fun q g=>?_⟩;show q.1∈Qg _
      rw[WW,List.mem_append];exact .inl (yP.2 ⟨q,(Yy m.toL).symm.subset g,rfl⟩)
    ·have d:=List.flatMap_eq_nil_iff.1 h k hk;unfold VK at d;rw[i,j]at d
     cases hu:zn a k with
     | none=>rw[hu]at d;cases d
     | some u=>
      cases hv:zn b k with
      | none=>rw[hu,hv]at d;cases d
      | some v=>
       rw[hu,hv]at d;have:=Gv hu;have e:=CJ n u v (ga.child hu) (gb.child hv) (by omega) (by omega) (by have:=(Y8 hu ga.ok ga.tw).2.2.2;omega) (by have:=(Y8 hv gb.ok gb.tw).2.2.2;omega) (List.map_eq_nil_iff.1 d);show some (ct u)=some (ct v)
       rw[e]
   exact hx.fin f gb ca
  ·rw[J8,yf f]at h;by_cases g:Qo a b=true
   ·exact RK g
   ·rw[yf g]at h;cases h
theorem zes{s t:Bs}{a b:JV}(hs:zI s= .inr a)(ht:zI t= .inr b):(qR s t).length=0↔ct a=ct b:=by
 have d:=(ZF.of hs).t;have f:=(ZF.of ht).t;obtain⟨-,-,-,-,j,g⟩:=Y7 hs;obtain⟨-,-,-,-,k,i⟩:=Y7 ht;have e:qR s t=qS (max (zm a) (zm b)) [] a b:=by unfold qR;rw[hs,ht]
 rw[e];constructor
 ·intro h;rw[Pe,yl]at h;exact CJ _ a b d f (Nat.le_max_left _ _) j g i (yO h)
 ·intro h;rw[Cj _ _ a b d.ok f.ok d.tw f.tw h];rfl
theorem ZF.get:∀ {ts:List (List UInt8)} {v u:JV},ZF v->zr v ts=some u->ZF u
 | [],v,u,h,e=>by
  simp[zr]at e;subst e;exact h
 | t :: ts,v,u,h,e=>by
  rw[za9]at e
  cases hc:zn v t with
  | none=>rw[hc]at e;cases e
  | some x=>rw[hc]at e;exact ZF.get (h.child hc) e
def Vd(p:List UInt8)(oa ob:Option JV):zG:=match ob with
 | none=>⟨2,zh p,⟨#[]⟩,⟨#[]⟩⟩
 | some v=>match oa with
  | none=>⟨1,zh p,⟨#[]⟩,zh (ct v)⟩
  | some _=>⟨3,zh p,⟨#[]⟩,zh (ct v)⟩
theorem zet(a b:JV)(ts:List (List UInt8)):Vd (JK [] ts) (zr a ts) (zr b ts)=QF a b (JK [] ts):=by
 unfold QF Vd;rw[F5];rfl
theorem zeu(w:Wo)(m:zG):qg (w.alloc (.cells (qk m) 59)) w.heap.size (.slice (some ⟨w.heap.size,0,none⟩) 1 1) [m]:=World.ownsRow_lit w (qk m) 1 (ye _) (by unfold maxLen;omega) rfl
theorem zev(p:List UInt8)(v1 v2:Value)(oa:Option JV)(b:JV)(w:Wo)(S:Nat->Prop)(h1:QS w S oa v1)(h2:zk w S b v2)(hS:∀ k,S k->k<w.heap.size)(hg:zD b/\zw b=false/\(ct b).length<=1000000)(hP:QE w.heap.size w):
  Calls prog 30 #[.agg #[.string (zh p),v1,v2]] w fun e w'=>e= .returned (.agg (qk (Vd p oa (some b))))/\Bw w w':=by
 obtain⟨m,l,rfl⟩:=Qe h2;obtain⟨N,O,Y⟩:=hg;have F:Hid (∀ wx,Bw w wx->Calls prog 36 #[.iface m l] wx (Rb (.string (zh (ct b))) wx)):=fun wx hx=>K0 b N O m l wx S (zk.keep (fun k hk=>hx.block k (hS k hk)) (fun _ h=>h) _ _ h2) (fun k hk=>yF (hS k hk) hx.size) (BH hP hx) (by omega);clear h2 hS N O Y hP
 cases oa with
 | none=>
  have L:v1= .nilIface:=h1;subst L;clear h1;have K:Hid (Vd p none (some b)=⟨1,zh p,⟨#[]⟩,zh (ct b)⟩):=rfl;generalize Vd p none (some b)=M at *;generalize zh (ct b)=P at *;generalize zh p=n at *;have I:=yH w (.cells #[.string n,.nilIface,.iface m l] 63);have G:=zY w (.cells #[.string n,.nilIface,.iface m l] 63);have J:(w.alloc (.cells #[.string n,.nilIface,.iface m l] 63)).heap.size=w.heap.size+1:=by simp
  have A:=zY (w.alloc (.cells #[.string n,.nilIface,.iface m l] 63)) (.cells #[.int .i64 0,.string ⟨#[]⟩,.string ⟨#[]⟩,.string ⟨#[]⟩] 59);have B:=yH (w.alloc (.cells #[.string n,.nilIface,.iface m l] 63)) (.cells #[.int .i64 0,.string ⟨#[]⟩,.string ⟨#[]⟩,.string ⟨#[]⟩] 59);rw[J]at B;have r:=(A.block w.heap.size (by omega)).trans I;have s:=ze (zi G A);have f:=ze r;have i:=ze B;clear I G J A B r;go_in;have s:=s;generalize hwB:((w.alloc (.cells #[.string n,.nilIface,.iface m l] 63)).alloc (.cells #[.int .i64 0,.string ⟨#[]⟩,.string ⟨#[]⟩,.string ⟨#[]⟩] 59))=g at *;have c0:g.cell? ⟨w.heap.size,0,none⟩=some (.string n):=yG (uh f) 0;have c1:g.cell? ⟨w.heap.size,1,none⟩=some .nilIface:=yG (uh f) 1;have c2:g.cell? ⟨w.heap.size,2,none⟩=some (.iface m l):=yG (uh f) 2;have HC:=ze (uh F g.drew (uh s).drew);have o:Hid (∀ X,Below g.drew.heap.size g.drew X->X.cell? ⟨w.heap.size,0,none⟩=some (.string n)/\X.cell? ⟨w.heap.size,2,none⟩=some (.iface m l)/\(∀ j,X.frozen? ⟨w.heap.size+1,j,none⟩=false)/\X.cell? ⟨w.heap.size+1,0,none⟩=some (.int .i64 0)/\X.cell? ⟨w.heap.size+1,1,none⟩=some (.string ⟨#[]⟩)/\X.cell? ⟨w.heap.size+1,2,none⟩=some (.string ⟨#[]⟩)/\X.cell? ⟨w.heap.size+1,3,none⟩=some (.string ⟨#[]⟩)):=fun X hX=>by
   have H:=(hX.block w.heap.size (yC.1 (uh f)).1).trans (uh f);have q:=(hX.block (w.heap.size+1) (yC.1 (uh i)).1).trans (uh i);exact⟨yG H 0,yG H 2,fun j=>yJ q j,yG q 0,yG q 1,yG q 2,yG q 3⟩
  have y:Hid (∀ X,Below g.drew.heap.size g.drew X->X.heap[w.heap.size+1]?=some (.cells #[.int .i64 0,.string ⟨#[]⟩,.string ⟨#[]⟩,.string ⟨#[]⟩] 59 (0,0))):=fun X hX=>(hX.block (w.heap.size+1) (yC.1 (uh i)).1).trans (uh i);have x:Hid (∀ X,Below g.drew.heap.size g.drew X->Bw w X):=fun X hX=>zi (uh s).drew hX;go_wp2_with fail;go_region_law (go_simp;refine (uh HC).mono ?_;rintro e E ⟨rfl,u⟩;have d:=uh o E u;have Q:=d.1;have R:=d.2.1;have W:=d.2.2.1;have T:=d.2.2.2.1;have L:=d.2.2.2.2.1;have U:=d.2.2.2.2.2.1;have V:=d.2.2.2.2.2.2)
  all_goals (
   have z:=ze (uh y E u);have v:=ze (uh x E u);clear u d;go_wp2;refine bodyPost_ret (results_cell_row rfl _ _ (w.heap.size+1) 59 #[_,_,_,_] (0,0) _ rfl (Wt (uh z) [_,_,_,_] rfl) underlying59 rfl (by kernel_rfl)) rfl ?_;exact⟨by rw[uh K],Up (uh v) (by omega) [_,_,_,_] 0⟩)
 | some a=>
  obtain⟨D,C,rfl⟩:=Qe (show zk w S a v1 from h1);clear h1;have K:Hid (Vd p (some a) (some b)=⟨3,zh p,⟨#[]⟩,zh (ct b)⟩):=rfl;generalize Vd p (some a) (some b)=M at *;generalize zh (ct b)=P at *;generalize zh p=n at *;have I:=yH w (.cells #[.string n,.iface D C,.iface m l] 63);have G:=zY w (.cells #[.string n,.iface D C,.iface m l] 63);have J:(w.alloc (.cells #[.string n,.iface D C,.iface m l] 63)).heap.size=w.heap.size+1:=by simp
  have A:=zY (w.alloc (.cells #[.string n,.iface D C,.iface m l] 63)) (.cells #[.int .i64 0,.string ⟨#[]⟩,.string ⟨#[]⟩,.string ⟨#[]⟩] 59);have B:=yH (w.alloc (.cells #[.string n,.iface D C,.iface m l] 63)) (.cells #[.int .i64 0,.string ⟨#[]⟩,.string ⟨#[]⟩,.string ⟨#[]⟩] 59);rw[J]at B;have r:=(A.block w.heap.size (by omega)).trans I;have s:=ze (zi G A);have f:=ze r;have i:=ze B;clear I G J A B r;go_in;have s:=s;generalize hwB:((w.alloc (.cells #[.string n,.iface D C,.iface m l] 63)).alloc (.cells #[.int .i64 0,.string ⟨#[]⟩,.string ⟨#[]⟩,.string ⟨#[]⟩] 59))=g at *;have c0:g.cell? ⟨w.heap.size,0,none⟩=some (.string n):=yG (uh f) 0;have c1:g.cell? ⟨w.heap.size,1,none⟩=some (.iface D C):=yG (uh f) 1;have c2:g.cell? ⟨w.heap.size,2,none⟩=some (.iface m l):=yG (uh f) 2;have HC:=ze (uh F g.drew (uh s).drew);have o:Hid (∀ X,Below g.drew.heap.size g.drew X->X.cell? ⟨w.heap.size,0,none⟩=some (.string n)/\X.cell? ⟨w.heap.size,2,none⟩=some (.iface m l)/\(∀ j,X.frozen? ⟨w.heap.size+1,j,none⟩=false)/\X.cell? ⟨w.heap.size+1,0,none⟩=some (.int .i64 0)/\X.cell? ⟨w.heap.size+1,1,none⟩=some (.string ⟨#[]⟩)/\X.cell? ⟨w.heap.size+1,2,none⟩=some (.string ⟨#[]⟩)/\X.cell? ⟨w.heap.size+1,3,none⟩=some (.string ⟨#[]⟩)):=fun X hX=>by
   have H:=(hX.block w.heap.size (yC.1 (uh f)).1).trans (uh f);have q:=(hX.block (w.heap.size+1) (yC.1 (uh i)).1).trans (uh i);exact⟨yG H 0,yG H 2,fun j=>yJ q j,yG q 0,yG q 1,yG q 2,yG q 3⟩
  have y:Hid (∀ X,Below g.drew.heap.size g.drew X->X.heap[w.heap.size+1]?=some (.cells #[.int .i64 0,.string ⟨#[]⟩,.string ⟨#[]⟩,.string ⟨#[]⟩] 59 (0,0))):=fun X hX=>(hX.block (w.heap.size+1) (yC.1 (uh i)).1).trans (uh i);have x:Hid (∀ X,Below g.drew.heap.size g.drew X->Bw w X):=fun X hX=>zi (uh s).drew hX;go_wp2_with fail;go_region_law (go_simp;refine (uh HC).mono ?_;rintro e E ⟨rfl,u⟩;have d:=uh o E u;have Q:=d.1;have R:=d.2.1;have W:=d.2.2.1;have T:=d.2.2.2.1;have L:=d.2.2.2.2.1;have U:=d.2.2.2.2.2.1;have V:=d.2.2.2.2.2.2)
  all_goals (
   have z:=ze (uh y E u);have v:=ze (uh x E u);clear u d;go_wp2;refine bodyPost_ret (results_cell_row rfl _ _ (w.heap.size+1) 59 #[_,_,_,_] (0,0) _ rfl (Wt (uh z) [_,_,_,_] rfl) underlying59 rfl (by kernel_rfl)) rfl ?_;exact⟨by rw[uh K],Up (uh v) (by omega) [_,_,_,_] 0⟩)
theorem zew(p:List UInt8)(v1:Value)(oa:Option JV)(w:Wo)(S:Nat->Prop)(h1:QS w S oa v1):
  Calls prog 30 #[.agg #[.string (zh p),v1,.nilIface]] w fun e w'=>e= .returned (.agg (qk (Vd p oa none)))/\Bw w w':=by
 have v:Hid (Vd p oa none=⟨2,zh p,⟨#[]⟩,⟨#[]⟩⟩):=rfl;obtain⟨B,u⟩:∃ B:Bool,(v1= .nilIface∨∃ t q,v1= .iface t q):=⟨true,by
  cases oa with
  | none=>exact .inl h1
  | some a=>obtain⟨t,q,e⟩:=Qe (show zk w S a v1 from h1);exact .inr ⟨t,q,e⟩⟩
 clear h1;generalize Vd p oa none=M at *;generalize zh p=f at *;rcases u with rfl |⟨m,l,rfl⟩
 ·have o:=yH w (.cells #[.string f,.nilIface,.nilIface] 63);have n:=zY w (.cells #[.string f,.nilIface,.nilIface] 63);have r:(w.alloc (.cells #[.string f,.nilIface,.nilIface] 63)).heap.size=w.heap.size+1:=by simp
  have i:=zY (w.alloc (.cells #[.string f,.nilIface,.nilIface] 63)) (.cells #[.int .i64 0,.string ⟨#[]⟩,.string ⟨#[]⟩,.string ⟨#[]⟩] 59);have k:=yH (w.alloc (.cells #[.string f,.nilIface,.nilIface] 63)) (.cells #[.int .i64 0,.string ⟨#[]⟩,.string ⟨#[]⟩,.string ⟨#[]⟩] 59);rw[r]at k;have h:=(i.block w.heap.size (by omega)).trans o;have s:=ze (zi n i);have g:=ze h;have b:=ze k;clear o n r i k h;go_in;generalize hwB:((w.alloc (.cells #[.string f,.nilIface,.nilIface] 63)).alloc (.cells #[.int .i64 0,.string ⟨#[]⟩,.string ⟨#[]⟩,.string ⟨#[]⟩] 59))=d at *;have c0:d.cell? ⟨w.heap.size,0,none⟩=some (.string f):=yG (uh g) 0;have c2:d.cell? ⟨w.heap.size,2,none⟩=some .nilIface:=yG (uh g) 2;have x:d.cell? ⟨w.heap.size+1,0,none⟩=some (.int .i64 0):=yG (uh b) 0;have y:d.cell? ⟨w.heap.size+1,1,none⟩=some (.string ⟨#[]⟩):=yG (uh b) 1;have z:d.cell? ⟨w.heap.size+1,2,none⟩=some (.string ⟨#[]⟩):=yG (uh b) 2;have A:d.cell? ⟨w.heap.size+1,3,none⟩=some (.string ⟨#[]⟩):=yG (uh b) 3;have C:∀ j,d.frozen? ⟨w.heap.size+1,j,none⟩=false:=fun j=>yJ (uh b) j;go_wp2;refine bodyPost_ret (results_cell_row rfl _ _ (w.heap.size+1) 59 #[_,_,_,_] (0,0) _ rfl (Wt (uh b) [_,_,_,_] rfl) underlying59 rfl (by kernel_rfl)) rfl ?_;exact⟨by rw[uh v],Up (uh s) (by omega) [_,_,_,_] 0⟩
 ·have o:=yH w (.cells #[.string f,.iface m l,.nilIface] 63);have n:=zY w (.cells #[.string f,.iface m l,.nilIface] 63);have r:(w.alloc (.cells #[.string f,.iface m l,.nilIface] 63)).heap.size=w.heap.size+1:=by simp
  have i:=zY (w.alloc (.cells #[.string f,.iface m l,.nilIface] 63)) (.cells #[.int .i64 0,.string ⟨#[]⟩,.string ⟨#[]⟩,.string ⟨#[]⟩] 59);have k:=yH (w.alloc (.cells #[.string f,.iface m l,.nilIface] 63)) (.cells #[.int .i64 0,.string ⟨#[]⟩,.string ⟨#[]⟩,.string ⟨#[]⟩] 59);rw[r]at k;have h:=(i.block w.heap.size (by omega)).trans o;have s:=ze (zi n i);have g:=ze h;have b:=ze k;clear o n r i k h;go_in;generalize hwB:((w.alloc (.cells #[.string f,.iface m l,.nilIface] 63)).alloc (.cells #[.int .i64 0,.string ⟨#[]⟩,.string ⟨#[]⟩,.string ⟨#[]⟩] 59))=d at *;have c0:d.cell? ⟨w.heap.size,0,none⟩=some (.string f):=yG (uh g) 0;have c2:d.cell? ⟨w.heap.size,2,none⟩=some .nilIface:=yG (uh g) 2;have x:d.cell? ⟨w.heap.size+1,0,none⟩=some (.int .i64 0):=yG (uh b) 0;have y:d.cell? ⟨w.heap.size+1,1,none⟩=some (.string ⟨#[]⟩):=yG (uh b) 1;have z:d.cell? ⟨w.heap.size+1,2,none⟩=some (.string ⟨#[]⟩):=yG (uh b) 2;have A:d.cell? ⟨w.heap.size+1,3,none⟩=some (.string ⟨#[]⟩):=yG (uh b) 3;have C:∀ j,d.frozen? ⟨w.heap.size+1,j,none⟩=false:=fun j=>yJ (uh b) j;go_wp2;refine bodyPost_ret (results_cell_row rfl _ _ (w.heap.size+1) 59 #[_,_,_,_] (0,0) _ rfl (Wt (uh b) [_,_,_,_] rfl) underlying59 rfl (by kernel_rfl)) rfl ?_;exact⟨by rw[uh v],Up (uh s) (by omega) [_,_,_,_] 0⟩
theorem zex(s t:Bs)(w:Wo)(hw:qQ w)(hs:s.size<=1048576)(ht:t.size<=1048576):
  Calls prog 8 #[.string s,.string t] w fun e w'=>∃ v,e= .returned (.tuple #[v,.bool (Qf s t)])/\qg w' w.heap.size v (Qu s t)/\Bw w w':=by
 obtain⟨i0,hi,hz0,hz1,hz2⟩:=info_parts LQ;have H1:=ze (BV s t w hw hs ht);have hlen:=RZ s t;have HW:=ze hw;clear hw
 cases hz:Qf s t with
 | false=>
  have HN:=ze (Cb hz);have HZ:=ze hz;clear hs ht hz;go_in;go_wp2_with fail;refine (uh H1).mono ?_;rintro e q ⟨b1,hno,-⟩;obtain rfl:=hno (uh HZ);have T:=ze b1;clear hno H1 b1;go_wp2;go_ret2;exact⟨_,rfl,by rw[uh HN];exact World.ownsRow_nil q w.heap.size 59 4,uh T⟩
 | true=>
  obtain⟨a',b',hra,hrb,hbig,hsml⟩:=Cc hz;have HCN:Hid (∀ wx,qQ wx->Calls prog 21 #[.string t] wx (Rb (.tuple #[.string (zh (ct b')),.int .i64 0]) wx)):=fun wx hx=>by
   have:=zdt t wx hx.tab hx.err hx.pow (by omega);unfold Zx at this;rw[hrb]at this;exact this
  have V:=ze hbig;have X:=ze hsml;have HRA:=ze hra;have HRB:=ze hrb;have HZ:=ze hz;clear hs ht hbig hsml hra hrb hz;go_in;go_wp2_with fail;refine (uh H1).mono ?_;rintro e q ⟨b1,-,hyes⟩;obtain⟨r,h,B,a,b,rfl,o,ra,rb,z⟩:=hyes (uh HZ);obtain rfl:a=a':=by have:=uh HRA;rw[ra]at this;injection this
  obtain rfl:b=b':=by have:=uh HRB;rw[rb]at this;injection this
  have hW1:=(uh HW).up b1;have hga:=ZF.of ra;have hgb:=ZF.of rb;have hzl:h.length=(qR s t).length:=by rw[← z.1,yl]
  obtain⟨xa,xc,rfl,hcell⟩:=o.form;have O:=ze hcell;have HOP:Hid (∀ k (I:k<h.length) (wx:Wo),Bw q wx->Calls prog 30 #[.agg #[.string (zh h[k].1),h[k].2.1,h[k].2.2]] wx (Rb (.agg (qk (QF a b h[k].1))) wx)):=fun k I wx hx=>by
   obtain⟨_,_,ts,e1,r1,r2⟩:=z.2 h[k] (yt I);have r1':=r1.keep (w':=wx) (S':=fun k=>k<wx.heap.size) (fun k I=>hx.block k I) (fun k I=>yF I hx.size);have r2':=r2.keep (w':=wx) (S':=fun k=>k<wx.heap.size) (fun k I=>hx.block k I) (fun k I=>yF I hx.size);have e2:QF a b h[k].1=Vd h[k].1 (zr a ts) (zr b ts):=by rw[e1,zet]
   rw[e2]
   cases hvb:zr b ts with
   | none=>
    rw[hvb]at r2';have e3:h[k].2.2= .nilIface:=r2';rw[e3];exact zew h[k].1 _ (zr a ts) wx _ r1'
   | some v=>
    rw[hvb]at r2';have hgv:=hgb.get hvb;exact zev h[k].1 _ _ (zr a ts) v wx _ r1' r2' (fun k I=>I) ⟨hgv.ok,hgv.tw,by have:=hgv.len;omega⟩ (hW1.up hx).pow
  have HFO:Hid (∀ k (I:k<h.length),FO h[k].2.1/\FO h[k].2.2):=fun k I=>⟨(z.2 h[k] (yt I)).1,(z.2 h[k] (yt I)).2.1⟩;have W:Hid (h.map (fun y=>QF a b y.1)=(qR s t).map (QF a b)):=by
   show _=_
   rw[← z.1,List.map_map];rfl
  have T:=ze b1;have hz1w:=b1.size;have HW1:=ze hW1;clear H1 hyes o ra rb z hga hgb hW1 HW b1 hcell;by_cases h100:100<h.length
  ·have K:(100:Int)<(h.length:Int):=by omega
   have HR:=ze (uh V (by omega));have HC1:=ze (uh HCN q (uh HW1));generalize zh (ct b)=cB at *;clear V X HCN h100 HOP HFO W O HW1;go_wp2_with fail;refine (uh HC1).mono ?_;rintro e w3 ⟨rfl,b3⟩;have HB3:=ze (zi (zi (uh T) b3) (zY w3 (.cells (qk ⟨3,⟨#[]⟩,⟨#[]⟩,cB⟩) 59)));have HO3:Hid (qg (w3.alloc (.cells (qk ⟨3,⟨#[]⟩,⟨#[]⟩,cB⟩) 59)) w.heap.size (.slice (some ⟨w3.heap.size,0,none⟩) 1 1) [⟨3,⟨#[]⟩,⟨#[]⟩,cB⟩]):=QO (zeu w3 _) (zi (uh T) b3).size;clear HC1 b3 T;go_wp2;go_ret2;exact⟨_,rfl,by rw[uh HR];exact uh HO3,uh HB3⟩
  ·have K:¬ (100:Int)<(h.length:Int):=by omega
   have hx100:h.length<=100:=by omega
   have HR:Hid (Qu s t=h.map (fun y=>QF a b y.1)):=by show _=_;rw[uh X (by omega),uh W]
   clear V X HCN h100 W HW1 hzl;generalize QF a b=D at *;go_wp2_with (at_make;refine wpList_make_own _ rfl _ _ 27 rfl q.heap.size 59 i0 (.agg #[.int .i64 0,.string ByteArray.empty,.string ByteArray.empty,.string ByteArray.empty]) 4 underlying27 hi hz0 hz1 .i64 .i64 _ h.length rfl rfl rfl (by rw[hz2];omega) (by unfold maxLen;omega) (ye _) ?_);intro w3 hown3 S;have HB3:Hid (Bw q w3):=(yI _ _).grown S (ye _) (by intro k I;cases I);have HO3:Hid (qg w3 q.heap.size _ []):=hown3;clear hown3 S;go_wp2;go_loopw [10,37] (fun lv i wr=>∃ k:Nat,k<=h.length/\i= .int .i64 k/\qg wr q.heap.size lv ((h.take k).map fun y=>D y.1)/\Bw q wr) (fun _ i _=>h.length - (intOf i).toNat)
   case atStart=>exact⟨0,yu _,rfl,uh HO3,uh HB3⟩
   case round=>
    obtain⟨k,I,rfl,ho,U⟩:=hrel;have HO:=ze ho;have G:=ze U;have hbz:=U.size;clear HO3 HB3;by_cases hlt:k<h.length
    ·have hltI:(k:Int)<(h.length:Int):=by omega
     obtain⟨g,rfl,hgl,hcc⟩:=uh O k hlt;obtain⟨c0,c1,c2⟩:=hcc wr (U.block g hgl);obtain⟨f1,f2⟩:=uh HFO k hlt;have n:=ze (uh HOP k hlt);have Y:Hid ((h.take (k+1)).map (fun y=>D y.1)=(h.take k).map (fun y=>D y.1)++[D h[k].1]):=by
      show _=_
      rw[yz hlt,yx];rfl
     have hal:((h.take k).map fun y=>D y.1).length<=100:=by rw[yl,ym];omega
     clear ho U hcc HOP HFO O;generalize ((h.take k).map fun y=>D y.1)=A at *;generalize h[k]=y at *;obtain⟨x,v1,v2⟩:=y;simp only at c0 c1 c2 f1 f2 n Y;generalize D x=p at *;generalize zh x=j at *;rcases f1 with rfl |⟨K,L,rfl⟩<;>rcases f2 with rfl |⟨N,M,rfl⟩
     ·have R:=zY wr (.cells #[.string j,.nilIface,.nilIface] 63);have J:=yH wr (.cells #[.string j,.nilIface,.nilIface] 63);have d0:(wr.alloc (.cells #[.string j,.nilIface,.nilIface] 63)).cell? ⟨wr.heap.size,0,none⟩=some (.string j):=yG J 0;have d1:(wr.alloc (.cells #[.string j,.nilIface,.nilIface] 63)).cell? ⟨wr.heap.size,1,none⟩=some (.nilIface):=yG J 1;have d2:(wr.alloc (.cells #[.string j,.nilIface,.nilIface] 63)).cell? ⟨wr.heap.size,2,none⟩=some (.nilIface):=yG J 2;have d:=ze (uh n (wr.alloc (.cells #[.string j,.nilIface,.nilIface] 63)) (zi (uh G) R));have u:=ze R;clear R J n;go_wp2_with fail;generalize (wr.alloc (.cells #[.string j,.nilIface,.nilIface] 63))=wA at *;refine (uh d).mono ?_;rintro e E ⟨rfl,Z⟩;have m:=zi (uh u) Z;have P:=zY E (.cells (qk p) 59);have lM:=Ks E p;have l:Hid (qg (E.alloc (.cells (qk p) 59)) q.heap.size u10 A):=Zd (uh HO) (zi m P);have f:=ze (zi (uh G) (zi m P));have C:=ze lM;clear d Z m P lM u d0 d1 d2 c0 c1 c2;go_wp2_with (at_builtin;refine wpList_append_own _ rfl (.tmp 41) (.tmp 44) 27 rfl q.heap.size 59 i0 (.agg #[.int .i64 0,.string ByteArray.empty,.string ByteArray.empty,.string ByteArray.empty]) 4 56 underlying27 hi hz0 hz1 hz2 rfl (by decide) _ _ _ rfl (uh l) ⟨E.heap.size,0,none⟩ 1 1 (JA p) rfl rfl (uh C) (Kt p) (by unfold maxLen;omega) (by omega) (uh f).size ?_);generalize (E.alloc (.cells (qk p) 59))=wM at *;intro l6 w6 o6 g6 Q;clear Q;have H:Hid (qg w6 q.heap.size l6 (A++[p])):=qg.step o6;have F:=ze ((uh f).grown g6 (uh f).size (fun b U=>((uh l).lt b U).1));clear o6 g6 l f C;go_wp2;go_roundw
      case rel=>exact⟨k+1,by omega,by go_num,by rw[uh Y];exact uh H,uh F⟩
      case measure=>simp[intOf];omega
     ·have R:=zY wr (.cells #[.string j,.nilIface,.iface N M] 63);have J:=yH wr (.cells #[.string j,.nilIface,.iface N M] 63);have d0:(wr.alloc (.cells #[.string j,.nilIface,.iface N M] 63)).cell? ⟨wr.heap.size,0,none⟩=some (.string j):=yG J 0;have d1:(wr.alloc (.cells #[.string j,.nilIface,.iface N M] 63)).cell? ⟨wr.heap.size,1,none⟩=some (.nilIface):=yG J 1;have d2:(wr.alloc (.cells #[.string j,.nilIface,.iface N M] 63)).cell? ⟨wr.heap.size,2,none⟩=some (.iface N M):=yG J 2;have d:=ze (uh n (wr.alloc (.cells #[.string j,.nilIface,.iface N M] 63)) (zi (uh G) R));have u:=ze R;clear R J n;go_wp2_with fail;generalize (wr.alloc (.cells #[.string j,.nilIface,.iface N M] 63))=wA at *;refine (uh d).mono ?_;rintro e E ⟨rfl,Z⟩;have m:=zi (uh u) Z;have P:=zY E (.cells (qk p) 59);have lM:=Ks E p;have l:Hid (qg (E.alloc (.cells (qk p) 59)) q.heap.size u10 A):=Zd (uh HO) (zi m P);have f:=ze (zi (uh G) (zi m P));have C:=ze lM;clear d Z m P lM u d0 d1 d2 c0 c1 c2;go_wp2_with (at_builtin;refine wpList_append_own _ rfl (.tmp 41) (.tmp 44) 27 rfl q.heap.size 59 i0 (.agg #[.int .i64 0,.string ByteArray.empty,.string ByteArray.empty,.string ByteArray.empty]) 4 56 underlying27 hi hz0 hz1 hz2 rfl (by decide) _ _ _ rfl (uh l) ⟨E.heap.size,0,none⟩ 1 1 (JA p) rfl rfl (uh C) (Kt p) (by unfold maxLen;omega) (by omega) (uh f).size ?_);generalize (E.alloc (.cells (qk p) 59))=wM at *;intro l6 w6 o6 g6 Q;clear Q;have H:Hid (qg w6 q.heap.size l6 (A++[p])):=qg.step o6;have F:=ze ((uh f).grown g6 (uh f).size (fun b U=>((uh l).lt b U).1));clear o6 g6 l f C;go_wp2;go_roundw
      case rel=>exact⟨k+1,by omega,by go_num,by rw[uh Y];exact uh H,uh F⟩
      case measure=>simp[intOf];omega
     ·have R:=zY wr (.cells #[.string j,.iface K L,.nilIface] 63);have J:=yH wr (.cells #[.string j,.iface K L,.nilIface] 63);have d0:(wr.alloc (.cells #[.string j,.iface K L,.nilIface] 63)).cell? ⟨wr.heap.size,0,none⟩=some (.string j):=yG J 0;have d1:(wr.alloc (.cells #[.string j,.iface K L,.nilIface] 63)).cell? ⟨wr.heap.size,1,none⟩=some (.iface K L):=yG J 1;have d2:(wr.alloc (.cells #[.string j,.iface K L,.nilIface] 63)).cell? ⟨wr.heap.size,2,none⟩=some (.nilIface):=yG J 2;have d:=ze (uh n (wr.alloc (.cells #[.string j,.iface K L,.nilIface] 63)) (zi (uh G) R));have u:=ze R;clear R J n;go_wp2_with fail;generalize (wr.alloc (.cells #[.string j,.iface K L,.nilIface] 63))=wA at *;refine (uh d).mono ?_;rintro e E ⟨rfl,Z⟩;have m:=zi (uh u) Z;have P:=zY E (.cells (qk p) 59);have lM:=Ks E p;have l:Hid (qg (E.alloc (.cells (qk p) 59)) q.heap.size u10 A):=Zd (uh HO) (zi m P);have f:=ze (zi (uh G) (zi m P));have C:=ze lM;clear d Z m P lM u d0 d1 d2 c0 c1 c2;go_wp2_with (at_builtin;refine wpList_append_own _ rfl (.tmp 41) (.tmp 44) 27 rfl q.heap.size 59 i0 (.agg #[.int .i64 0,.string ByteArray.empty,.string ByteArray.empty,.string ByteArray.empty]) 4 56 underlying27 hi hz0 hz1 hz2 rfl (by decide) _ _ _ rfl (uh l) ⟨E.heap.size,0,none⟩ 1 1 (JA p) rfl rfl (uh C) (Kt p) (by unfold maxLen;omega) (by omega) (uh f).size ?_);generalize (E.alloc (.cells (qk p) 59))=wM at *;intro l6 w6 o6 g6 Q;clear Q;have H:Hid (qg w6 q.heap.size l6 (A++[p])):=qg.step o6;have F:=ze ((uh f).grown g6 (uh f).size (fun b U=>((uh l).lt b U).1));clear o6 g6 l f C;go_wp2;go_roundw
      case rel=>exact⟨k+1,by omega,by go_num,by rw[uh Y];exact uh H,uh F⟩
      case measure=>simp[intOf];omega
     ·have R:=zY wr (.cells #[.string j,.iface K L,.iface N M] 63);have J:=yH wr (.cells #[.string j,.iface K L,.iface N M] 63);have d0:(wr.alloc (.cells #[.string j,.iface K L,.iface N M] 63)).cell? ⟨wr.heap.size,0,none⟩=some (.string j):=yG J 0;have d1:(wr.alloc (.cells #[.string j,.iface K L,.iface N M] 63)).cell? ⟨wr.heap.size,1,none⟩=some (.iface K L):=yG J 1;have d2:(wr.alloc (.cells #[.string j,.iface K L,.iface N M] 63)).cell? ⟨wr.heap.size,2,none⟩=some (.iface N M):=yG J 2;have d:=ze (uh n (wr.alloc (.cells #[.string j,.iface K L,.iface N M] 63)) (zi (uh G) R));have u:=ze R;clear R J n;go_wp2_with fail;generalize (wr.alloc (.cells #[.string j,.iface K L,.iface N M] 63))=wA at *;refine (uh d).mono ?_;rintro e E ⟨rfl,Z⟩;have m:=zi (uh u) Z;have P:=zY E (.cells (qk p) 59);have lM:=Ks E p;have l:Hid (qg (E.alloc (.cells (qk p) 59)) q.heap.size u10 A):=Zd (uh HO) (zi m P);have f:=ze (zi (uh G) (zi m P));have C:=ze lM;clear d Z m P lM u d0 d1 d2 c0 c1 c2;go_wp2_with (at_builtin;refine wpList_append_own _ rfl (.tmp 41) (.tmp 44) 27 rfl q.heap.size 59 i0 (.agg #[.int .i64 0,.string ByteArray.empty,.string ByteArray.empty,.string ByteArray.empty]) 4 56 underlying27 hi hz0 hz1 hz2 rfl (by decide) _ _ _ rfl (uh l) ⟨E.heap.size,0,none⟩ 1 1 (JA p) rfl rfl (uh C) (Kt p) (by unfold maxLen;omega) (by omega) (uh f).size ?_);generalize (E.alloc (.cells (qk p) 59))=wM at *;intro l6 w6 o6 g6 Q;clear Q;have H:Hid (qg w6 q.heap.size l6 (A++[p])):=qg.step o6;have F:=ze ((uh f).grown g6 (uh f).size (fun b U=>((uh l).lt b U).1));clear o6 g6 l f C;go_wp2;go_roundw
      case rel=>exact⟨k+1,by omega,by go_num,by rw[uh Y];exact uh H,uh F⟩
      case measure=>simp[intOf];omega
    ·have hkn:k=h.length:=by omega
     subst hkn;rw[List.take_length]at HO;have H:Hid (qg wr w.heap.size u10 (h.map fun y=>D y.1)):=QO (uh HO) hz1w;have F:=ze (zi (uh T) (uh G));clear ho U;go_wp2;go_ret2;exact⟨_,rfl,by rw[uh HR];exact uh H,uh F⟩
end Go.Proofs.YtpaecnbdoljafaaGreatDoor
