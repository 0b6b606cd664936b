import Derived.Test.YtgoafoojaceadaaGreatDoorBd8
import Derived.Test.YtgoafoojaceadaaGreatDoorBd9
set_option maxRecDepth 100000
set_option maxHeartbeats 8000000
open Go renaming Calls->δ,Value->ω
open Go.Ending renaming returned->ε
open Go.IntKind renaming i64->κ,wrap_i64->Ξ
open Go.Lib renaming validD->Μ
open Go.Obj renaming cells->χ
open Go.Value renaming agg->γ,bool->θ,int->ι,pointer->π,slice->ς,string->Α,string->σ,tuple->τ
open _root_.Bool renaming false->ζ,true->ξ
open _root_.ByteArray renaming empty->Ω,size_append->Β,size_extract->Ζ
open _root_.List renaming getD_eq_getElem?_getD->Δ,map_congr_left->Ο,map_drop->Φ,map_map->Θ,map_take->Υ,mem_append->Ρ,mem_append_left->Ν,mem_cons->Ε,mem_of_find?_eq_some->Τ,mem_of_getElem?->Κ,nodup_cons->Η,sum_append->Ι
open _root_.Option renaming bind_eq_some_iff->Γ,map_eq_none_iff->Χ,none->ν,some->η
namespace Go.Proofs.YtgoafoojaceadaaGreatDoor
open Go.RowKit Go.Proofs.Tryz
variable{v u c r:JV}{ts:List (List UInt8)}{l:JL}{f:JV->Option JV}{B i j rb N x:Nat}{w w1 w2:Wo}{m:JM}{s:Bs}{hs:List zy}{q:zy}
def Gh:JV->Option (List UInt8)
 | .str l=>η l
 | _=>ν
def Zk(v:JV)(key:List UInt8):Option (List UInt8):=(zK v key).bind Gh
def qy(t:List UInt8):Int:=if t=ZV 1 then 1 else if t=ZV 2 then 2 else if t=ZV 3 then 3 else if t=ZV 4 then 4 else if t=ZV 5 then 5 else if t=ZV 6 then 6 else 0
theorem MZ{t:List UInt8}{k:Int}(h1:1<=k)(h6:k<=6):(ZV k ==t)=(k ==qy t):=by
 have m:k=1∨k=2∨k=3∨k=4∨k=5∨k=6:=om;have d:∀ a b:List UInt8,(a ==b)=decide (a=b):=fun a b=>by rw[Bool.eq_iff_iff,yD,decide_eq_true_eq]
 rw[d];unfold qy;rcases m with rfl | rfl | rfl | rfl | rfl | rfl
 all_goals (
  by_cases f:t=ZV 1
  .subst f;decide
  .rw[yf f];by_cases g:t=ZV 2
   .subst g;decide
   .rw[yf g];by_cases h:t=ZV 3
    .subst h;decide
    .rw[yf h];by_cases i:t=ZV 4
     .subst i;decide
     .rw[yf i];by_cases j:t=ZV 5
      .subst j;decide
      .rw[yf j];by_cases l:t=ZV 6
       .subst l;decide
       .rw[yf l];rw[yk (fun e=>by first | exact f e.symm | exact g e.symm | exact h e.symm | exact i e.symm | exact j e.symm | exact l e.symm)];decide)
theorem RF(t:List UInt8):0<=qy t/\qy t<=6:=by
 unfold qy
 repeat' split
 all_goals omega
def qO(v:JV):Int:=match Zk v Vr with
 | some t=>qy t
 | none=>0
def qD(v:JV):zk:=⟨qO v,ze ((Zk v Q9).getD []),if Z1 (qO v)then ze ((Zk v Ja).getD [])else ⟨#[]⟩,if Zz (qO v)then ze (((zK v JR).map ct).getD [])else ⟨#[]⟩⟩
def ZX(v:JV):Bool:=decide (qO v≠0) && (Zk v Q9).isSome && (!Z1 (qO v) ||(Zk v Ja).isSome) && (!Zz (qO v) ||(zK v JR).isSome) &&
 (zH ((Zk v Q9).getD [])).isSome && (!Z1 (qO v) ||(zH ((Zk v Ja).getD [])).isSome)
theorem zck(h:kd v≠6):∀ key∈[Vr,Q9,Ja,JR],zK v key=ν:=by
 intro key a
 cases v with
 | obj m=>exact absurd rfl h
 | arr l=>
  rw[JO];have:Qo key=ν:=by
   simp only[Ε,List.not_mem_nil,or_false]at a;rcases a with rfl | rfl | rfl | rfl<;>decide
  rw[this];rfl
 | nul=>rfl
 | tt=>rfl
 | ff=>rfl
 | num l=>rfl
 | str l=>rfl
theorem zcl(h:kd v≠6):ZX v=ζ:=by
 have:=zck h Vr sm;have e:qO v=0:=by unfold qO Zk;rw[this];rfl
 unfold ZX;rw[e];rfl
theorem zcm(v:JV):0<=qO v/\qO v<=6:=by
 unfold qO;split
 .exact RF _
 .omega
theorem zcn(hK:qO v≠0)(hp:(Zk v Q9).isSome=ξ)(hf:Z1 (qO v)=ξ->(Zk v Ja).isSome=ξ)(hv:Zz (qO v)=ξ->∃ u,zK v JR=η u/\ZR (ze (ct u))=ξ):ZD (qD v)=ZX v:=by
 obtain⟨m,j⟩:=zcm v;have d:decide (1<=qO v)=ξ:=yj om;have f:=yj j;have g:=yj hK;have a:(⟨#[]⟩:Bs).toList=[]:=by rw[ByteArray.toList_eq]
 unfold ZD ZX qD;simp only[d,f,g,hp,Bool.true_and,Zb]
 cases hF:Z1 (qO v)with
 | true=>
  have b:Zz (qO v)=ζ:=by
   unfold Z1 at hF;unfold Zz;simp only[Bool.or_eq_true,yD]at hF;rcases hF with h | h<;>rw[h]<;>rfl
  have i:=hf hF;simp[b,i,a,Zb]
 | false=>
  cases b:Zz (qO v)with
  | true=>
   obtain⟨u,l,k⟩:=hv b;simp[l,k,a]
  | false=>simp[a]
structure Z7(v:JV):Prop where
 rd:Z0 v
 big:zY v=ζ
 dep:zJ v<=100
 cnt:zn v<=3000
 tw:zF v=ζ
 ok:zz v
 len:(ct v).length<=20000
theorem RG:∀ {l:JL} {u:JV},Je l->qG l=ζ->u∈l.toL->Z0 u/\zY u=ζ/\zJ u<=YO l
 | .nil,u,_,_,h=>by simp[JL.toL]at h
 | .cons v r,u,h1,h2,h=>by
  rw[Je]at h1;rw[qG,Bool.or_eq_false_iff]at h2;rw[JL.toL,Ε]at h;rw[YO];rcases h with rfl | h
  .exact⟨h1.1,h2.1,Nat.le_max_left _ _⟩
  .obtain⟨a,b,c⟩:=RG h1.2 h2.2 h;exact⟨a,b,yQ c (Nat.le_max_right _ _)⟩
theorem M0:∀ {l:JM} {k:List UInt8} {u:JV},Jf l->qb l=ζ->(k,u)∈l.toL->Z0 u/\zY u=ζ/\zJ u<=Yd l
 | .nil,k,u,_,_,h=>by simp[JM.toL]at h
 | .cons k' v r,k,u,h1,h2,h=>by
  rw[Jf]at h1;rw[qb,Bool.or_eq_false_iff]at h2;rw[JM.toL,Ε]at h;rw[Yd];rcases h with h | h
  .injection h with _ h;subst h;exact⟨h1.2.1,h2.1,Nat.le_max_left _ _⟩
  .obtain⟨a,b,c⟩:=M0 h1.2.2 h2.2 h;exact⟨a,b,yQ c (Nat.le_max_right _ _)⟩
theorem Z7.child{t:List UInt8}(h:Z7 v)(hc:zK v t=η u):Z7 u:=by
 obtain⟨b,d,j,n⟩:=GJ hc h.ok h.tw;have p:=h.len;have r:=h.cnt;have o:=h.dep;have a:Z0 u/\zY u=ζ/\zJ u<=zJ v:=by
  cases v with
  | arr l=>
   rw[JO]at hc;obtain⟨i,_,f⟩:=Γ.1 hc;have:=RG h.rd h.big (Κ f);exact⟨this.1,this.2.1,by rw[zJ];omega⟩
  | obj m=>
   rw[VZ]at hc;obtain⟨q,g,e⟩:=yA.1 hc;have:=M0 (k:=q.1) (u:=q.2) h.rd h.big (Τ g);rw[← e];exact⟨this.1,this.2.1,by rw[zJ];omega⟩
  | _=>cases hc
 exact⟨a.1,a.2.1,om,om,d,b,om⟩
theorem Z7.good(h:Z7 v):ZR (ze (ct v))=ξ:=by
 rw[L9 h.rd h.big h.tw];exact yj ⟨h.dep,h.cnt,h.len⟩
theorem Z7.of(h:Zn s= .inr v):Z7 v:=by
 obtain⟨i,a,b,d,f,g⟩:=Hn h;exact⟨ziS a,d,f,g,b,(FP a).1,by have:=zi7 a;omega⟩
theorem Z7.item(h:Z7 (.arr l))(hu:u∈l.toL):Z7 u:=by
 obtain⟨j,i,rfl⟩:=yY.1 hu;have a:j<(QR 0 l.toL).length:=by rw[Pq];exact i
 have b:(Zj j,l.toL[j])∈ZB (.arr l):=by
  have e:=Ly l.toL 0 j a;rw[Nat.zero_add]at e;show _∈QR 0 l.toL
  rw[← e];exact yt a
 obtain⟨f,g,k,m⟩:=XG h.ok h.tw b;simp only at f g k m;have d:=RG h.rd h.big hu;have n:=XH (.arr l);have o:zn l.toL[j]<=_:=Ws (fun q=>zn q.2) b;have r:=h.dep;have p:=h.cnt;have s:=h.len;exact⟨d.1,d.2.1,om,om,g,f,om⟩
def ZL(s:Bs):List zk×Int×Int:=match Zn s with
 | .inl _=>([],1,0)
 | .inr (.arr l)=>if 100<l.toL.length then ([],3,100)else match l.toL.findIdx? (fun v=>!ZX v)with
  | some i=>([],4,i)
  | none=>(l.toL.map qD,0,0)
 | .inr _=>([],2,0)
theorem zco(s:Bs):(ZL s).1.length<=100:=by
 unfold ZL
 repeat' split
 all_goals first | exact yu _ |(simp only[yl];omega)
structure zx(v:JV):Prop where
 rd:Z0 v
 big:zY v=ζ
 tw:zF v=ζ
 ok:zz v
theorem Z7.t(h:Z7 v):zx v:=⟨h.rd,h.big,h.tw,h.ok⟩
theorem OE:∀ l:JL,qT l↔∀ v∈l.toL,zz v
 | .nil=>by rw[qT];simp[JL.toL]
 | .cons v r=>by rw[qT,OE r,JL.toL];simp
theorem OG:∀ m:JM,qR m↔∀ q∈m.toL,Μ q.1=ξ/\zz q.2
 | .nil=>by rw[qR];simp[JM.toL]
 | .cons k v r=>by rw[qR,OG r,JM.toL];simp[and_assoc]
theorem M2(m:JM):qb m=ζ↔∀ q∈m.toL,zY q.2=ζ:=by
 constructor
 .intro h q a
  cases hb:zY q.2 with
  | false=>rfl
  | true=>rw[(FX m).2 ⟨q,a,hb⟩]at h;cases h
 .intro h
  cases hb:qb m with
  | false=>rfl
  | true=>obtain⟨q,a,e⟩:=(FX m).1 hb;rw[h q a]at e;cases e
theorem Ve(l:JL):zx (.arr l)↔∀ u∈l.toL,zx u:=by
 constructor
 .rintro⟨b,d,f,g⟩ u a;rw[Z0,L6]at b;rw[zY,L8]at d;rw[zF,L7]at f;rw[zz,OE]at g;exact⟨b u a,d u a,f u a,g u a⟩
 .intro h;refine⟨?_,?_,?_,?_⟩
  .rw[Z0,L6];exact fun u a=>(h u a).rd
  .rw[zY,L8];exact fun u a=>(h u a).big
  .rw[zF,L7];exact fun u a=>(h u a).tw
  .rw[zz,OE];exact fun u a=>(h u a).ok
theorem Jv(m:JM):zx (.obj m)↔(m.toL.map (·.1)).Nodup/\∀ q∈m.toL,Μ q.1=ξ/\zx q.2:=by
 constructor
 .rintro⟨a,d,b,f⟩;rw[Z0,Pv]at a;rw[zY,M2]at d;rw[zF,FY]at b;rw[zz,OG]at f;exact⟨b.2.1,fun q hq=>⟨(a q hq).1,(a q hq).2,d q hq,b.1 q hq,(f q hq).2⟩⟩
 .rintro⟨g,h⟩;refine⟨?_,?_,?_,?_⟩
  .rw[Z0,Pv];exact fun q hq=>⟨(h q hq).1,(h q hq).2.rd⟩
  .rw[zY,M2];exact fun q hq=>(h q hq).2.big
  .rw[zF,FY];exact⟨fun q hq=>(h q hq).2.tw,g,fun q _=>sm⟩
  .rw[zz,OG];exact fun q hq=>⟨(h q hq).1,(h q hq).2.ok⟩
theorem zx.child{t:List UInt8}(h:zx v)(hc:zK v t=η u):zx u:=by
 cases v with
 | arr l=>
  rw[JO]at hc;obtain⟨i,_,a⟩:=Γ.1 hc;exact (Ve l).1 h u (Κ a)
 | obj m=>
  rw[VZ]at hc;obtain⟨q,b,e⟩:=yA.1 hc;rw[← e];exact (((Jv m).1 h).2 q (Τ b)).2
 | _=>cases hc
theorem WH(v:JV):zM v []=η v:=by simp[zM]
theorem Vx(v:JV)(t:List UInt8)(ts:List (List UInt8)):zM v (t :: ts)=(zK v t).bind fun u=>zM u ts:=by rw[zM]
theorem zx.get:∀ {ts:List (List UInt8)} {v u:JV},zx v->zM v ts=η u->zx u
 | [],v,u,h,e=>by
  rw[WH]at e;injection e with e;subst e;exact h
 | t :: ts,v,u,h,e=>by
  rw[Vx]at e
  cases hc:zK v t with
  | none=>rw[hc]at e;cases e
  | some x=>rw[hc]at e;exact zx.get (h.child hc) e
def qS(v:JV)(t:List UInt8)(u:JV):JV:=match v with
 | .arr l=>match Qo t with
  | some i=>.arr (JL.ofL (l.toL.set i u))
  | none=>.arr l
 | .obj m=>.obj (JM.ofL (m.toL.map fun q=>if q.1=t then (q.1,u)else q))
 | v=>v
def Qx(v:JV)(t:List UInt8):JV:=match v with
 | .arr l=>match Qo t with
  | some i=>.arr (JL.ofL (l.toL.eraseIdx i))
  | none=>.arr l
 | .obj m=>.obj (JM.ofL (m.toL.filter fun q=>!(q.1 ==t)))
 | v=>v
def qE(v:JV)(t:List UInt8)(u:JV):Option JV:=match v with
 | .arr l=>match (if t=[45]then η l.toL.length else Qo t)with
  | some i=>if i<=l.toL.length then η (.arr (JL.ofL (l.toL.take i++u :: l.toL.drop i)))else ν
  | none=>ν
 | .obj m=>if Μ t=ξ then η (if (zK (.obj m) t).isSome then qS (.obj m) t u else .obj (JM.ofL (m.toL++[(t,u)])))else ν
 | _=>ν
def qf:JV->List (List UInt8)->JV->JV
 | _,[],u=>u
 | v,t :: ts,u=>match zK v t with
  | some c=>qS v t (qf c ts u)
  | none=>v
theorem KC(v u:JV):qf v [] u=u:=by rw[qf]
theorem Uw{t:List UInt8}(h:zK v t=η c):qf v (t :: ts) u=qS v t (qf c ts u):=by rw[qf,h]
theorem M3:∀ (ts:List (List UInt8)) (v h c:JV) (t:List UInt8) (u:JV),zM v ts=η h->zK h t=η c->qf v (ts++[t]) u=qf v ts (qS h t u)
 | [],v,h,c,t,u,e,hc=>by
  rw[WH]at e;injection e with e;subst e;rw[List.nil_append,KC,Uw hc,KC]
 | x :: ts,v,h,c,t,u,e,hc=>by
  rw[Vx]at e
  cases hx:zK v x with
  | none=>rw[hx]at e;cases e
  | some y=>
   rw[hx]at e;rw[List.cons_append,Uw hx,Uw hx,M3 ts y h c t u e hc]
def qI(f:JV->Option JV)(v:JV)(ts:List (List UInt8)):Option JV:=((zM v ts).bind f).map (qf v ts)
theorem zcp(f:JV->Option JV)(v:JV):qI f v []=f v:=by
 unfold qI;rw[WH];show (f v).map (qf v [])=f v
 cases f v with
 | none=>rfl
 | some u=>show η (qf v [] u)=_;rw[KC]
theorem zcq{t:List UInt8}(h:zK v t=ν):qI f v (t :: ts)=ν:=by
 unfold qI;rw[Vx,h];rfl
theorem zcr{t:List UInt8}(h:zK v t=η c):qI f v (t :: ts)=(qI f c ts).map (qS v t):=by
 unfold qI;rw[Vx,h];show ((zM c ts).bind f).map (qf v (t :: ts))=_
 cases (zM c ts).bind f with
 | none=>rfl
 | some u=>show η (qf v (t :: ts) u)=η (qS v t (qf c ts u));rw[Uw h]
def QX(ts:List (List UInt8)):List UInt8:=ts.getLast?.getD []
def qV(v:JV)(ts:List (List UInt8))(u:JV):Option JV:=if ts=[]then η u else qI (fun h=>qE h (QX ts) u) v ts.dropLast
def Vf(h:JV)(t:List UInt8):Option JV:=(zK h t).map fun _=>Qx h t
def qZ(v:JV)(ts:List (List UInt8)):Option JV:=if ts=[]then ν else qI (fun h=>Vf h (QX ts)) v ts.dropLast
structure qj where
 kind:Int
 path:List (List UInt8)
 src:List (List UInt8)
 val:JV
def Z9(c:Nat):Option JV->Nat⊕JV
 | none=>.inl c
 | some v=>.inr v
def ZS(v:JV)(o:qj):Nat⊕JV:=
 if o.kind=1 then Z9 3 (qV v o.path o.val)
 else if o.kind=2 then Z9 3 (qZ v o.path)
 else if o.kind=3 then Z9 3 (qI (fun _=>η o.val) v o.path)
 else if o.kind=4 then match zM v o.src with
  | none=>.inl 3
  | some m=>if o.src=o.path then .inr v else if o.src.isPrefixOf o.path then .inl 6 else match qZ v o.src with
   | none=>.inl 3
   | some r=>Z9 3 (qV r o.path m)
 else if o.kind=5 then match zM v o.src with
  | none=>.inl 3
  | some m=>Z9 3 (qV v o.path m)
 else match zM v o.path with
  | none=>.inl 3
  | some h=>if ct h=ct o.val then .inr v else .inl 5
def YE(v:JV):Bool:=decide (zJ v<=100) && decide (zn v<=3000) && decide ((ct v).length<=20000)
def Qy:JV->List qj->Nat->(Nat×Nat)⊕JV
 | v,[],_=>.inr v
 | v,o :: r,i=>match ZS v o with
  | .inl c=>.inl (c,i)
  | .inr u=>if YE u=ξ then Qy u r (i+1)else .inl (7,i)
theorem M4{t:List UInt8}(h:zx v)(hu:zx u)(hc:zK v t=η c):zx (qS v t u):=by
 cases v with
 | arr l=>
  rw[JO]at hc;obtain⟨i,d,_⟩:=Γ.1 hc;have e:qS (.arr l) t u= .arr (JL.ofL (l.toL.set i u)):=by simp only[qS,d]
  rw[e,Ve,JL.toL_ofL];intro x hx;rcases List.mem_or_eq_of_mem_set hx with hx | rfl
  .exact (Ve l).1 h x hx
  .exact hu
 | obj m=>
  have a:=(Jv m).1 h;show zx (.obj (JM.ofL (m.toL.map fun q=>if q.1=t then (q.1,u)else q)))
  rw[Jv,JM.toL_ofL];have b:((m.toL.map fun q=>if q.1=t then (q.1,u)else q).map (·.1))=m.toL.map (·.1):=by
   rw[Θ];refine Ο fun q _=>?_;show (if q.1=t then (q.1,u)else q).1=q.1
   split<;>rfl
  rw[b];refine⟨a.1,fun q hq=>?_⟩;obtain⟨x,hx,rfl⟩:=yP.1 hq;split
  .exact⟨(a.2 x hx).1,hu⟩
  .exact a.2 x hx
 | _=>cases hc
theorem M8{t:List UInt8}(h:zx v)(hc:zK v t=η c):zx (Qx v t):=by
 cases v with
 | arr l=>
  rw[JO]at hc;obtain⟨i,b,_⟩:=Γ.1 hc;have e:Qx (.arr l) t= .arr (JL.ofL (l.toL.eraseIdx i)):=by simp only[Qx,b]
  rw[e,Ve,JL.toL_ofL];exact fun x hx=>(Ve l).1 h x (List.mem_of_mem_eraseIdx hx)
 | obj m=>
  have a:=(Jv m).1 h;show zx (.obj (JM.ofL (m.toL.filter fun q=>!(q.1 ==t))))
  rw[Jv,JM.toL_ofL];refine⟨(List.filter_sublist.map _).nodup a.1,fun q hq=>a.2 q ((List.mem_filter.1 hq).1)⟩
 | _=>cases hc
theorem M9{t:List UInt8}(h:zx v)(hu:zx u)(hp:qE v t u=η r):zx r:=by
 cases v with
 | arr l=>
  simp only[qE]at hp;split at hp
  .split at hp
   .injection hp with hp;subst hp;rw[Ve,JL.toL_ofL];intro x hx;rw[Ρ,Ε]at hx;rcases hx with hx | rfl | hx
    .exact (Ve l).1 h x (List.mem_of_mem_take hx)
    .exact hu
    .exact (Ve l).1 h x (List.mem_of_mem_drop hx)
   .cases hp
  .cases hp
 | obj m=>
  simp only[qE]at hp;split at hp
  .rename_i hv;injection hp with hp;subst hp
   cases hc:zK (.obj m) t with
   | some c=>exact M4 h hu hc
   | none=>
    have i:=(Jv m).1 h;show zx (.obj (JM.ofL (m.toL++[(t,u)])))
    rw[Jv,JM.toL_ofL];have g:t ∉ m.toL.map (·.1):=by
     intro f;obtain⟨q,d,e⟩:=yP.1 f;rw[VZ,Χ,List.find?_eq_none]at hc;exact hc q d (by simp[e])
    constructor
    .rw[yx,List.nodup_append];refine⟨i.1,sm,fun a ha b hb e=>?_⟩;simp at hb;subst hb;subst e;exact g ha
    .intro q d;rw[Ρ,List.mem_singleton]at d;rcases d with d | rfl
     .exact i.2 q d
     .exact⟨hv,hu⟩
  .cases hp
 | _=>cases hp
theorem Ta:∀ {ts:List (List UInt8)} {v u h:JV},zx v->zx u->zM v ts=η h->zx (qf v ts u)
 | [],v,u,h,_,hu,_=>by rw[KC];exact hu
 | t :: ts,v,u,h,hv,hu,e=>by
  rw[Vx]at e
  cases hc:zK v t with
  | none=>rw[hc]at e;cases e
  | some c=>
   rw[hc]at e;rw[Uw hc];exact M4 hv (Ta (hv.child hc) hu e) hc
theorem RI(hv:zx v)(hf:∀ h u,zx h->f h=η u->zx u)(h:qI f v ts=η r):zx r:=by
 obtain⟨u,b,rfl⟩:=yA.1 h;obtain⟨x,hx,a⟩:=Γ.1 b;exact Ta hv (hf x u (hv.get hx) a) hx
theorem RJ(hv:zx v)(hu:zx u)(h:qV v ts u=η r):zx r:=by
 unfold qV at h;split at h
 .injection h with h;subst h;exact hu
 .exact RI hv (fun x y hx e=>M9 hx hu e) h
theorem KE(hv:zx v)(h:qZ v ts=η r):zx r:=by
 unfold qZ at h;split at h
 .cases h
 .refine RI hv (fun x y hx e=>?_) h;obtain⟨c,a,rfl⟩:=yA.1 e;exact M8 hx a
theorem Jh{c:Nat}{o:Option JV}(h:Z9 c o= .inr r):o=η r:=by
 cases o with
 | none=>cases h
 | some x=>injection h with h;rw[h]
theorem X0{o:qj}(hv:zx v)(hu:zx o.val)(h:ZS v o= .inr r):zx r:=by
 unfold ZS at h;split at h
 .exact RJ hv hu (Jh h)
 .split at h
  .exact KE hv (Jh h)
  .split at h
   .exact RI hv (fun x y _ e=>by injection e with e;subst e;exact hu) (Jh h)
   .split at h
    .split at h
     .cases h
     .rename_i m hm;split at h
      .injection h with h;subst h;exact hv
      .split at h
       .cases h
       .split at h
        .cases h
        .rename_i x hx;exact RJ (KE hv hx) (hv.get hm) (Jh h)
    .split at h
     .split at h
      .cases h
      .rename_i m hm;exact RJ hv (hv.get hm) (Jh h)
     .split at h
      .cases h
      .split at h
       .injection h with h;subst h;exact hv
       .cases h
def DS(B rb:Nat)(w w':Wo):Prop:=YU w' B rb/\w.grownBy w' (η rb)
theorem DS.below(h:DS B rb w w1)(hb:Below w1 w1 w2):DS B rb w w2:=
 ⟨h.1.grown (YV (r:=ν) hb) sm (fun _ e=>by cases e),JF h.2 (YV hb)⟩
theorem DS.step(h:DS B rb w w1)(r:YU w2 B rb)(g:w1.grownBy w2 (η rb)):DS B rb w w2:=⟨r,JF h.2 g⟩
theorem Tb:Zn (ze [48])= .inr (.num [48]):=by rfl
def Vy(g:List UInt8->List UInt8×List UInt8)(kq:Nat):Nat->Nat->List zy->List UInt8->List zy×List UInt8
 | 0,_,ps,q=>(ps,q)
 | m+1,i,ps,q=>Vy g kq m (i+1) (if VP ps (QI (i+kq*i))=ζ then ps++[(QI (i+kq*i),(g q).1)]else ps) (g q).2
def GY(q:List UInt8):List UInt8×List UInt8:=if (nx q).1 % 6=5 then Qp 4 (nx q).2 else
 (qo (Vy (Qp 3) ((nx q).1 / 32) (2+(nx q).1 / 6 % 3) 0 [] (nx q).2).1,(Vy (Qp 3) ((nx q).1 / 32) (2+(nx q).1 / 6 % 3) 0 [] (nx q).2).2)
theorem RL{g:List UInt8->List UInt8×List UInt8}{kq M:Nat}(hg:∀ q,(g q).1.length<=M):∀ (n i:Nat) (ps:List zy) (q:List UInt8),Yz M ps->Yz M (Vy g kq n i ps q).1/\(Vy g kq n i ps q).1.length<=ps.length+n
 | 0,_,ps,q,h=>⟨h,ye _⟩
 | n+1,i,ps,q,h=>by
  rw[Vy];split
  .obtain⟨h1,h2⟩:=RL (kq:=kq) hg n (i+1) _ (g q).2 (h.snoc (Wy _) (hg q));rw[yh,yS]at h2;exact⟨h1,om⟩
  .obtain⟨h1,h2⟩:=RL (kq:=kq) hg n (i+1) _ (g q).2 h;exact⟨h1,om⟩
theorem zcs(q:List UInt8):(GY q).1.length<=22000:=by
 unfold GY;split
 .exact yQ (XM 4 _) dc
 .obtain⟨a,b⟩:=RL (kq:=(nx q).1 / 32) (XM 3) (2+(nx q).1 / 6 % 3) 0 [] (nx q).2 (fun p hp=>by cases hp);rw[yE]at b;have d:=a.sumT;have g:=zaW (Vy (Qp 3) ((nx q).1 / 32) (2+(nx q).1 / 6 % 3) 0 [] (nx q).2).1;have f:GB 3=5258:=dc;rw[f]at d;show (qo _).length<=_
  omega
theorem zct(B rb:Nat)(q:List UInt8)(w:Wo)(h:ZJ w B rb q):
  δ prog 104 #[rb] w (DT B rb w (GY q).1 (GY q).2):=by
 have M:=h.lt;have HX:=zb (Q6 B rb q w h);have hx:=QS q;have n:=zb fun (q:List UInt8) (w:Wo) (hr:ZJ w B rb q)=>LM 3 3 B rb q w rfl om hr;have C:=zb fun (q:List UInt8) (w:Wo) (hr:ZJ w B rb q)=>LM 4 4 B rb q w rfl om hr;have E:Hid (∀ q,(Qp 3 q).1.length<=5258):=fun q=>XM 3 q;unfold GY;generalize (nx q).1=x at *;generalize (nx q).2=O at *;generalize Qp 3=N at *;by_cases h5:x % 6=5
 .have e:(x:Int) % 6=5:=om;rw[yg h5];go_in;go_wp2_with fail;go_call HX as e w2 ⟨rfl,d1⟩;have HN:=zb (uh C O w2 d1.rd);have HD:=zb d1;go_wp2_with fail;go_call HN as e w3 ⟨rfl,d3⟩;go_wp2;go_ret;exact⟨rfl,HD.step d3⟩
 .have e:((x:Int) % 6 ==5)=ζ:=so;rw[yf h5];have hnn:2+(x:Int) / 6 % 3=((2+x / 6 % 3:Nat):Int):=om;have hn4:2+x / 6 % 3<=4:=om;have hkq:(x:Int) / 32=((x / 32:Nat):Int):=om;have W:x / 32<=7:=om;generalize 2+x / 6 % 3=m at *;generalize x / 32=b at *;generalize hRR:Vy N b m 0 [] O=RR at *;have f:=zb hRR;go_in;go_wp2_with fail;go_call HX as e w2 ⟨rfl,d1⟩;have Y:=d1.size;have HO:Hid ((w2.alloc (χ #[] 120)).ownsRow w 120 2 (ς (η w2) 0 0) 0 []):=World.ownsRow_lit w2 #[] 0 Y mo rfl;have S:Hid (GX w B rb 5258 (ς (η w2) 0 0) [] O (w2.alloc (χ #[] 120))):=⟨HO,fun p hp=>by (cases hp),d1.below (ZO w2 _)⟩;go_wp2_with fail;obtain⟨i0,V,ad,af,ag⟩:=info_parts WY;go_loopw [4,5] (fun v i wr=>∃ (j:Nat) (a:List zy) (Q:Option Addr) (R:Nat) (r:List UInt8),v=ς Q a.length R/\i=ι κ j/\j<=m/\a.length<=j/\GX w B rb 5258 (ς Q a.length R) a r wr/\Vy N b (m - j) j a r=RR) (fun _ i _=>m - (intOf i).toNat)
  case atStart=>exact⟨0,[],_,_,O,rfl,rfl,yu _,ye _,S,f⟩
  case round=>
   obtain⟨j,a,Q,R,r,rfl,rfl,hj,hpl,H,k⟩:=hrel;have y:=zb H;have hws:=H.dx.size;by_cases hlt:j<m
   .have J:(j:Int)<(m:Int):=om;rw[show m - j=(m - (j+1))+1 by omega,Vy]at k;have f:=zb k;clear k;have L:(b:Int)*(j:Int)=((b*j:Nat):Int):=sm;have hmb:b*j<=7*4:=Nat.mul_le_mul W om;have K:(j:Int)+((b*j:Nat):Int)=((j+b*j:Nat):Int):=om;have T:=zb (XK (j+b*j) wr om);rw[← K,← L]at T;have aa:=Wy (j+b*j);clear K L;have hb1:(b:Int)*(j:Int)<=28:=by
     have:(b:Int)*(j:Int)=((b*j:Nat):Int):=sm;omega
    have hb0:0<=(b:Int)*(j:Int):=by
     have:(b:Int)*(j:Int)=((b*j:Nat):Int):=sm;omega
    have HG:=zb (uh n r wr y.dx.rd);have ab:=uh E r;generalize QI (j+b*j)=P at *;generalize (N r).1=t2 at *;generalize (N r).2=r2 at *;go_wp2_with fail;go_call T as e w4 ⟨rfl,rfl⟩;clear T;go_wp2_with fail;go_call HG as e w5 ⟨rfl,d5⟩;have g:=zb (y.next d5 M);have hw5:=g.dx.size;have A:=zb fun (o:Obj)=>World.ownsRow.alloc g.row o;have HF:=zb (D8 w _ a P w5 g.row om);have D:Hid (a.length+1=(a++[(P,t2)]).length):=by show _=_;simp
    clear HG y d5;go_wp2_with fail;go_call HF as e w6 ⟨z,rfl,hz,rfl⟩;clear HF;by_cases hzz:z<0
    .have hkk:a.length<=4:=om;have d:=uh f;rw[yg (by rw[← hz];simp;omega)]at d;have s:=zb d;clear hz d f;go_wp2_with (at_builtin;refine wpList_append_own _ rfl (.tmp 37) (.tmp 41) 116 rfl w 120 i0 (γ #[Ω,Ω]) 2 32 underlying116 V ad af ag rfl dc _ _ _ rfl (uh A _) w5 1 1 (Zc (P,t2)) rfl rfl (Yf _ _ _ _) (fun u hu=>by {simp[Zc]at hu;rcases hu with rfl | rfl<;>rfl}) mo om so ?_);intro v7 w7 l G _;obtain⟨va7,vc7,rfl⟩:=F4 l;have F:=zb (g.step aa ab l G M);have I:=uh D;rw[I]at F;clear l G g A D;go_wp2;go_roundw
     case rel=>exact⟨j+1,a++[(P,t2)],va7,vc7,r2,by rw[I],by go_num,om,so,F,s⟩
     case measure=>simp[intOf];omega
    .have d:=uh f;rw[yf (by rw[← hz];simp;omega)]at d;have s:=zb d;clear A hz d f;go_wp2;go_roundw
     case rel=>exact⟨j+1,a,Q,R,r2,rfl,by go_num,om,om,g,s⟩
     case measure=>simp[intOf];omega
   .have J:¬ (j:Int)<(m:Int):=om;have X:a.length<=4:=om;obtain rfl:(a,r)=RR:=by rw[← k,show m - j=0 by omega,Vy]
    clear k;have Z:=y.key.sumT;have U:a.length*(5258+22)<=4*(5258+22):=Nat.mul_le_mul_right _ X;have HV:=zb (Ue w _ a wr y.row om om (fun p hp=>by have:=(y.key p hp).1;omega));clear Z U n E;have hO:(qo (a,r).1,(a,r).2)=(qo a,r):=rfl;generalize qo a=tO at *;go_wp2_with fail;go_call HV as e w6 ⟨rfl,b6⟩;clear HV;go_wp2;go_ret;exact⟨rfl,y.dx.below b6⟩
def Gi(t:List UInt8)(u:JV):JV:=match Zn (ze t)with
 | .inr v=>v
 | .inl _=>u
def JH(q:List UInt8):JV×List UInt8:=(Gi (GY q).1 U7,(GY q).2)
def Gj(q:List UInt8):JV×List UInt8:=(Gi (Qp 2 q).1 (.num [48]),(Qp 2 q).2)
theorem Tc{t:List UInt8}(hu:Zn s= .inr u):Z7 (Gi t u):=by
 unfold Gi;split
 .rename_i v hv;exact Z7.of hv
 .exact Z7.of hu
theorem zcu(B rb:Nat)(q:List UInt8)(w:Wo)(h:ZJ w B rb q):
  δ prog 53 #[rb] w fun e w'=>e=ε (σ (ze (ct (JH q).1)))/\DX B rb w (JH q).2 w':=by
 have d:=zb (zct B rb q w h);have i:=zcs q;unfold JH Gi;generalize (GY q).1=t at *;generalize (GY q).2=j at *;have a:=zb fun w2=>XN (ze t) w2 (by rw[zL];omega)
 cases hr:Zn (ze t)with
 | inl c=>
  have g:=Hz hr;have b:qk (ze t)= .tuple #[σ ⟨#[]⟩,ι κ (c:Int)]:=by unfold qk;rw[hr]
  rw[b]at a;have f:((c:Int) ==0)=ζ:=so;go_in;go_wp2_with fail;go_call d as e w2 ⟨rfl,d2⟩;go_wp2_with fail;go_call uh a w2 as e w3 ⟨rfl,b3⟩;go_wp2;go_ret;exact⟨by show _=Ending.returned (σ (ze (ct U7)));rw[ziH];rfl,d2.below b3⟩
 | inr v=>
  have b:qk (ze t)= .tuple #[σ (ze (ct v)),ι κ 0]:=by unfold qk;rw[hr]
  rw[b]at a;go_in;go_wp2_with fail;go_call d as e w2 ⟨rfl,d2⟩;go_wp2_with fail;go_call uh a w2 as e w3 ⟨rfl,b3⟩;go_wp2;go_ret;exact⟨rfl,d2.below b3⟩
theorem zcv(B rb:Nat)(q:List UInt8)(w:Wo)(h:ZJ w B rb q):
  δ prog 113 #[rb] w fun e w'=>e=ε (σ (ze (ct (Gj q).1)))/\DX B rb w (Gj q).2 w':=by
 have d:=zb (LM 2 2 B rb q w rfl om h);have i:(Qp 2 q).1.length<=2000:=yQ (XM 2 q) dc;unfold Gj Gi;generalize (Qp 2 q).1=t at *;generalize (Qp 2 q).2=j at *;have a:=zb fun w2=>XN (ze t) w2 (by rw[zL];omega)
 cases hr:Zn (ze t)with
 | inl c=>
  have g:=Hz hr;have b:qk (ze t)= .tuple #[σ ⟨#[]⟩,ι κ (c:Int)]:=by unfold qk;rw[hr]
  rw[b]at a;have f:((c:Int) ==0)=ζ:=so;go_in;go_wp2_with fail;go_call d as e w2 ⟨rfl,d2⟩;go_wp2_with fail;go_call uh a w2 as e w3 ⟨rfl,b3⟩;go_wp2;go_ret;exact⟨rfl,d2.below b3⟩
 | inr v=>
  have b:qk (ze t)= .tuple #[σ (ze (ct v)),ι κ 0]:=by unfold qk;rw[hr]
  rw[b]at a;go_in;go_wp2_with fail;go_call d as e w2 ⟨rfl,d2⟩;go_wp2_with fail;go_call uh a w2 as e w3 ⟨rfl,b3⟩;go_wp2;go_ret;exact⟨rfl,d2.below b3⟩
def OH:List (List UInt8):=[[34],[92],[48,49],[45],[44],[58],[91],[93],[123],[125],[32],[128],[92,117,100,56,48,48],[49,46,53],[101],[31],[110,117,108],[57,57,57,57,57,57,57,57,57,57,57,57,57,57,57,57,57,57,57,57],[237,160,128],[192,128]]
def Ux(k:Nat):List UInt8:=OH.getD (k % 20) []
theorem zcw:∀ j:Nat,j<20->(#[Α ⟨#[34]⟩,Α ⟨#[92]⟩,Α ⟨#[48,49]⟩,Α ⟨#[45]⟩,Α ⟨#[44]⟩,Α ⟨#[58]⟩,Α ⟨#[91]⟩,Α ⟨#[93]⟩,Α ⟨#[123]⟩,Α ⟨#[125]⟩,Α ⟨#[32]⟩,Α ⟨#[128]⟩,Α ⟨#[92,117,100,56,48,48]⟩,Α ⟨#[49,46,53]⟩,Α ⟨#[101]⟩,Α ⟨#[31]⟩,Α ⟨#[110,117,108]⟩,Α ⟨#[57,57,57,57,57,57,57,57,57,57,57,57,57,57,57,57,57,57,57,57]⟩,Α ⟨#[237,160,128]⟩,Α ⟨#[192,128]⟩]:Array ω)[j]?=η (σ (ze (OH.getD j [])))
 | 0,_=>rfl
 | 1,_=>rfl
 | 2,_=>rfl
 | 3,_=>rfl
 | 4,_=>rfl
 | 5,_=>rfl
 | 6,_=>rfl
 | 7,_=>rfl
 | 8,_=>rfl
 | 9,_=>rfl
 | 10,_=>rfl
 | 11,_=>rfl
 | 12,_=>rfl
 | 13,_=>rfl
 | 14,_=>rfl
 | 15,_=>rfl
 | 16,_=>rfl
 | 17,_=>rfl
 | 18,_=>rfl
 | 19,_=>rfl
 | j+20,h=>absurd h om
theorem Td(k:Nat):(Ux k).length<=20:=by
 unfold Ux;have h:∀ t∈OH,t.length<=20:=dc;rw[Δ]
 cases hq:OH[k % 20]? with
 | none=>exact yu _
 | some t=>exact h t (Κ hq)
theorem zcx(k:Nat)(w:Wo)(hk:k<=255):
  δ prog 61 #[ι κ k] w fun e w'=>e=ε (σ (ze (Ux k)))/\Below w w w':=by
 have a:(w.alloc (χ #[Α ⟨#[34]⟩,Α ⟨#[92]⟩,Α ⟨#[48,49]⟩,Α ⟨#[45]⟩,Α ⟨#[44]⟩,Α ⟨#[58]⟩,Α ⟨#[91]⟩,Α ⟨#[93]⟩,Α ⟨#[123]⟩,Α ⟨#[125]⟩,Α ⟨#[32]⟩,Α ⟨#[128]⟩,Α ⟨#[92,117,100,56,48,48]⟩,Α ⟨#[49,46,53]⟩,Α ⟨#[101]⟩,Α ⟨#[31]⟩,Α ⟨#[110,117,108]⟩,Α ⟨#[57,57,57,57,57,57,57,57,57,57,57,57,57,57,57,57,57,57,57,57]⟩,Α ⟨#[237,160,128]⟩,Α ⟨#[192,128]⟩] 9)).cell? ⟨w,k % 20,ν⟩=η (σ (ze (Ux k))):=(yG (yH w (χ #[Α ⟨#[34]⟩,Α ⟨#[92]⟩,Α ⟨#[48,49]⟩,Α ⟨#[45]⟩,Α ⟨#[44]⟩,Α ⟨#[58]⟩,Α ⟨#[91]⟩,Α ⟨#[93]⟩,Α ⟨#[123]⟩,Α ⟨#[125]⟩,Α ⟨#[32]⟩,Α ⟨#[128]⟩,Α ⟨#[92,117,100,56,48,48]⟩,Α ⟨#[49,46,53]⟩,Α ⟨#[101]⟩,Α ⟨#[31]⟩,Α ⟨#[110,117,108]⟩,Α ⟨#[57,57,57,57,57,57,57,57,57,57,57,57,57,57,57,57,57,57,57,57]⟩,Α ⟨#[237,160,128]⟩,Α ⟨#[192,128]⟩] 9)) (k % 20)).trans (zcw (k % 20) om);generalize Ux k=t at *;go_in;go_wp2;go_ret;exact⟨rfl,(yI _ _).alloc (ye _) _⟩
def DB(B rb:Nat)(w:Wo)(t:Bs)(q:List UInt8)(e:Ending)(w':Wo):Prop:=e=ε (.string t)/\DX B rb w q w'
def Te(s:Bs)(p:Nat):Bs:=s.extract 0 p++s.extract (p+1) s.size
def Tf(s:Bs)(p:Nat):Bs:=s.extract 0 (p+1)++s.extract p s.size
def Tg(s:Bs)(p:Nat)(o:Bs):Bs:=s.extract 0 p++o++s.extract p s.size
def Uy(s:Bs)(x pn:Nat):Bs:=if s.size=0 then ⟨#[45]⟩else if x % 4=0 then Te s (pn % s.size)else if x % 4=1 then Tf s (pn % s.size)else Tg s (pn % s.size) (ze (Ux (x / 4)))
def n3(q:List UInt8):List UInt8:=(nx (nx (nx q).2).2).2
def Uz(s:Bs)(q:List UInt8):Bs×List UInt8:=(Uy s (nx q).1 ((nx (nx q).2).1*256+(nx (nx (nx q).2).2).1),n3 q)
theorem Th(s:Bs)(x pn:Nat):(Uy s x pn).size<=s.size+20:=by
 have a:=Td (x / 4);unfold Uy;split
 .show 1<=_;omega
 .split
  .unfold Te;rw[Β,Ζ,Ζ];omega
  .split
   .unfold Tf;rw[Β,Ζ,Ζ];omega
   .unfold Tg;rw[Β,Β,Ζ,Ζ,zL];omega
theorem Ti(B rb:Nat)(s:Bs)(q:List UInt8)(w:Wo)(h:ZJ w B rb q)(hs:s.size<=34000000):
  δ prog 24 #[rb,s] w (DB B rb w (Uz s q).1 (Uz s q).2):=by
 have I:=zb (Q6 B rb q w h);have hx:=QS q;have X:=QS (nx q).2;have Y:=QS (nx (nx q).2).2;have E:=zb fun q w h=>Q6 B rb q w h;unfold Uz n3;generalize (nx q).1=x at *;generalize hq1:(nx q).2=A at *;have G:=zb (uh E A);generalize (nx A).1=y at *;generalize u:(nx A).2=C at *;have H:=zb (uh E C);generalize (nx C).1=z at *;generalize (nx C).2=T at *;show δ prog 24 #[rb,s] w (DB B rb w (Uy s x (y*256+z)) T)
 generalize hR:Uy s x (y*256+z)=R at *;have HR:=zb hR;go_in;go_wp2_with fail;go_call I as e w1 ⟨rfl,d1⟩;have f:=zb d1;have k:=zb (uh G w1 d1.rd);go_wp2_with fail;go_call k as e w2 ⟨rfl,d2⟩;have l:=zb (uh H w2 d2.rd);have g:=zb (f.step d2);go_wp2_with fail;go_call l as e w3 ⟨rfl,d3⟩;have b:=zb (g.step d3);have a:=uh HR;unfold Uy at a;by_cases m:s.size=0
 .have v:((s.size:Int) ==0)=ξ:=by simp[m]
  rw[yg m]at a;subst a;go_wp2;go_ret;exact⟨rfl,b⟩
 .have v:((s.size:Int) ==0)=ζ:=by
   simp only[yd,ne_eq];omega
  rw[yf m]at a;have HR:=zb a;have K:(y:Int)*256+(z:Int)=((y*256+z:Nat):Int):=om;have J:y*256+z<=65535:=om;generalize y*256+z=d at *;have W:(d:Int) % (s.size:Int)=((d % s.size:Nat):Int):=sm;have M:d % s.size<s.size:=Nat.mod_lt _ om;generalize d % s.size=p at *;have L:(p:Int)<(s.size:Int):=om;have N:(s.size:Int)≠0:=om;have Q:(x:Int) / 4=((x / 4:Nat):Int):=om;have j:=zb fun w=>zcx (x / 4) w om;have S:x / 4<=255:=om;have r:=Td (x / 4);by_cases n:x % 4=0
  .have e:(x:Int) % 4=0:=om;have a:=uh HR;rw[yg n]at a;subst a;go_wp2;go_quiet (fail);go_wp2;go_ret;exact⟨rfl,b.below (XO w3 _ _)⟩
  .by_cases F:x % 4=1
   .have e:(x:Int) % 4=1:=om;have a:=uh HR;rw[yf n,yg F]at a;subst a;go_wp2;go_quiet (fail);go_wp2;go_ret;exact⟨rfl,b.below (XO w3 _ _)⟩
   .have U:((x:Int) % 4 ==0)=ζ:=by simp only[yd,ne_eq];omega
    have V:((x:Int) % 4 ==1)=ζ:=by simp only[yd,ne_eq];omega
    have a:=uh HR;rw[yf n,yf F]at a;generalize x / 4=D at *;generalize Ux D=t at *;have O:(ze t).size<=20:=by rw[zL];exact r
    generalize ze t=o at *;subst a;have u:p<=s.size:=om;have P:IntKind.i64.wrap (D:Int)=(D:Int):=by rw[Ξ];omega
    have c1:(9223372036854775807<p+o.size)=False:=yR om;have c2:(9223372036854775807<p+o.size+(s.size - p))=False:=yR om;go_wp2_with fail;go_region_law (go_simp;go_call uh j _ as e w4 ⟨rfl,b4⟩)
    all_goals (
     have i:=zb (b.below (w2:=w4) ⟨b4.os,b4.tape,b4.output,b4.size,b4.block⟩);go_wp2;go_ret;exact⟨rfl,i⟩)
def Vz:Nat->List UInt8->List (List UInt8)×List UInt8
 | 0,q=>([],q)
 | n+1,q=>(QI (nx q).1 ::(Vz n (nx q).2).1,(Vz n (nx q).2).2)
theorem RM:∀ (n:Nat) (q:List UInt8),Small (Vz n q).1/\(Vz n q).1.length=n
 | 0,q=>⟨fun t ht=>(by cases ht),rfl⟩
 | n+1,q=>by
  obtain⟨h1,h2⟩:=RM n (nx q).2;rw[Vz];refine⟨fun t ht=>?_,by rw[yp,h2]⟩;rcases Ε.1 ht with rfl | ht
  .exact Wy _
  .exact h1 t ht
def VA(q:List UInt8):List (List UInt8)×List UInt8:=Vz ((nx q).1 % 5) (nx q).2
theorem zcy(B rb:Nat)(q:List UInt8)(w:Wo)(h:ZJ w B rb q):
  δ prog 208 #[rb] w fun e w'=>∃ v,e=ε v/\OT w' w v (VA q).1/\DX B rb w (VA q).2 w':=by
 obtain⟨W,Q,F,G,H⟩:=info_parts GU;have S:=h.lt;have P:=h.ge;have N:=zb (Q6 B rb q w h);have E:=zb fun q w h=>Q6 B rb q w h;unfold VA;generalize (nx q).1=x at *;generalize (nx q).2=I at *;generalize hRR:Vz (x % 5) I=RR at *;have b:=zb hRR;go_in;go_wp2_with fail;go_call N as e w1 ⟨rfl,d1⟩;have L:Hid ((w1.alloc (χ #[] 9)).ownsRow w 9 1 (ς (η w1) 0 0) 0 []):=World.ownsRow_lit w1 #[] 0 d1.size mo rfl;have p:Hid (DX B rb w I (w1.alloc (χ #[] 9))):=d1.below (ZO w1 _);go_wp2;go_loopw [4,5] (fun v i wr=>∃ (j:Nat) (o:List (List UInt8)) (r:List UInt8),i=ι κ j/\j<=x % 5/\o.length=j/\OT wr w v o/\DX B rb w r wr/\RR=(o++(Vz (x % 5 - j) r).1,(Vz (x % 5 - j) r).2)) (fun _ i _=>x % 5 - (intOf i).toNat)
 case atStart=>exact⟨0,[],I,rfl,yu _,rfl,L,p,by rw[← uh b];rfl⟩
 case round=>
  obtain⟨j,o,r,rfl,Y,a,l,s,g⟩:=hrel;have A:=zb s;have K:=zb a;clear L p b s a;by_cases R:j<x % 5
  .have u:(j:Int)<(x:Int) % 5:=om;rw[show x % 5 - j=(x % 5 - (j+1))+1 by omega,Vz]at g;have O:=zb (uh E r wr A.rd);have V:=QS r;have J:=zb fun w=>XK (nx r).1 w V;have b:=zb g;generalize (nx r).1=y at *;generalize (nx r).2=M at *;generalize QI y=t at *;go_wp2_with fail;go_call O as e w2 ⟨rfl,d2⟩;have f:=Km l d2.gr (fun k e=>by injection e with e;omega);have m:=zb (A.step d2);have U:=m.size;go_wp2_with fail;go_call uh J w2 as e w' ⟨rfl,rfl⟩;have a:=uh K;have T:o.length<=4:=om;have D:=zb a;clear a K J;go_wp2_with (at_builtin;refine wpList_append_own _ rfl (.tmp 15) (.tmp 19) 35 rfl w 9 W Ω 1 16 underlying35 Q F G H rfl dc _ _ _ rfl (f.alloc _) w2 1 1 [(zG t)] rfl rfl (QU _ _ _) (Ge _) mo om so ?_);intro Z X n d _;have C:Hid (DX B rb w M X):=⟨(m.rd.grown (World.grownBy_alloc w2 _ ν) sm (fun k e=>by cases e)).grown d (fun e=>by have:=(f.lt rb e.symm).1;omega) (fun k e=>by have:=(f.lt k e).1;omega),WC (JF m.gr (World.grownBy_alloc w2 _ _)) d (fun k hk=>(f.lt k hk).1)⟩;have z:=OT.step (t:=t) n;go_wp2;go_roundw
   case rel=>exact⟨j+1,o++[t],M,by go_num,om,by have:=uh D;simp;omega,z,C,by rw[uh b];simp⟩
   case measure=>simp[intOf];omega
  .have u:¬ (j:Int)<(x:Int) % 5:=om;rw[show x % 5 - j=0 by omega,Vz,yT]at g;have b:=zb g;clear g;go_wp2;go_ret;exact⟨_,rfl,by rw[uh b];exact l,by rw[uh b];exact uh A⟩
def Qz(hs:List zy)(i:Nat):Bs:=ze (hs.getD i ([],[])).1
def KF(hs:List zy)(q:List UInt8):Bs×List UInt8:=
 if (nx q).1 % 8=7 then (⟨(ZA ((VA (nx q).2).1.map zG)).toArray⟩,(VA (nx q).2).2)
 else if (nx q).1 % 8=6 then (Qz hs (((nx (nx q).2).1*3+(nx q).1) % hs.length)++⟨(ZA [ze (QI (nx (nx (nx q).2).2).1)]).toArray⟩,n3 q)
 else if (nx q).1 % 32=5 then Uz (Qz hs (((nx (nx q).2).1*3+(nx q).1) % hs.length)) (nx (nx q).2).2
 else if (nx q).1 % 32=13 then (Qz hs (((nx (nx q).2).1*3+(nx q).1) % hs.length)++⟨#[47,126,50]⟩,(nx (nx q).2).2)
 else (Qz hs (((nx (nx q).2).1*3+(nx q).1) % hs.length),(nx (nx q).2).2)
theorem OI(h:∀ x∈hs,x.1.length<=N)(i:Nat):(Qz hs i).size<=N:=by
 unfold Qz;rw[zL,Δ]
 cases hq:hs[i]? with
 | none=>exact yu _
 | some x=>exact h x (Κ hq)
theorem OJ(k:Nat):(ZA [ze (QI k)]).length<=7:=by
 rw[Oz,yp,yh,Zb];have:=Un (QI k);have:=Wy k;simp[ZA];omega
theorem X1(l:List UInt8):(⟨l.toArray⟩:Bs).size=l.length:=zL l
theorem zcz(h:∀ x∈hs,x.1.length<=40000)(q:List UInt8):(KF hs q).1.size<=40020:=by
 have b:=OI h (((nx (nx q).2).1*3+(nx q).1) % hs.length);have d:=OJ (nx (nx (nx q).2).2).1;have a:=RM ((nx (nx q).2).1 % 5) (nx (nx q).2).2;have f:=zka a.1 (by rw[a.2];omega);unfold KF;split
 .rw[X1];unfold VA;omega
 .split
  .rw[Β,X1 (ZA [ze (QI (nx (nx (nx q).2).2).1)])];omega
  .split
   .have:=Th (Qz hs (((nx (nx q).2).1*3+(nx q).1) % hs.length)) (nx (nx (nx q).2).2).1 ((nx (nx (nx (nx q).2).2).2).1*256+(nx (nx (nx (nx (nx q).2).2).2).2).1);show (Uy _ _ _).size<=_
    omega
   .split
    .rw[Β];have:(⟨#[47,126,50]⟩:Bs).size=3:=rfl;omega
    .show (Qz _ _).size<=_
     omega
theorem zcA(B rb:Nat)(v:JV)(q:List UInt8)(w:Wo)(h:ZJ w B rb q)(hd:U6 v):
  δ prog 164 #[rb,σ (ze (ct v))] w (DB B rb w (KF (Zu 100 [] v) q).1 (KF (Zu 100 [] v) q).2):=by
 have HX:=zb (Q6 B rb q w h);have hrb:=h.lt;have D:=hd.len;have A:=hd.cnt;have HH:=zb fun w=>za4 100 v [] w hd.ok hd.tw hd.dep om so om;have S:Hid (∀ x∈Zu 100 [] v,x.1.length<=40000):=fun x hx=>by have:=Ps 100 [] v x hx;have:=hd.mx;simp at *;omega
 have hn:=FU 100 [] v hd.ok hd.tw hd.dep;have hn1:1<=(Zu 100 [] v).length:=by have:=(YP v);omega
 have hn2:(Zu 100 [] v).length<=3000:=om;generalize Zu 100 [] v=f at *;generalize hsv:ze (ct v)=sv at *;clear h hd D A hn hsv;have hx:=QS q;have Y:=zb fun w h=>zcy B rb (nx q).2 w h;have T:=zb fun w h=>Q6 B rb (nx q).2 w h;have U:=zb fun w h=>Q6 B rb (nx (nx q).2).2 w h;have hy:=QS (nx q).2;have hk:=QS (nx (nx q).2).2;have F:=RM ((nx (nx q).2).1 % 5) (nx (nx q).2).2;have m:Small (VA (nx q).2).1/\(VA (nx q).2).1.length<=4:=⟨F.1,by unfold VA;rw[F.2];omega⟩;have L:=zb fun s w (h:ZJ w B rb (nx (nx q).2).2) (f:s.size<=40000)=>Ti B rb s (nx (nx q).2).2 w h om;unfold KF n3;generalize (nx q).1=x at *;generalize (nx q).2=J at *;generalize (nx J).1=y at *;generalize (nx J).2=G at *;by_cases h7:x % 8=7
 .have e:(x:Int) % 8=7:=om;rw[yg h7];have htl:=zj9 m.1 m.2;generalize (VA J).1=H at *;generalize (VA J).2=qt at *;have W:Hid (∀ wx o I r,SS wx o I 0 (H.map zG)->δ prog 98 #[ς o H.length r] wx fun e w'=>e=ε (σ ⟨(ZA (H.map zG)).toArray⟩)/\Below wx wx w'):=fun wx o I r z=>by
   have:=Us o I 0 r (H.map zG) wx z (by rw[yl];omega)
   rwa [yl]at this
  generalize (⟨(ZA (H.map zG)).toArray⟩:Bs)=tp at *;go_in;go_wp2_with fail;go_call HX as e w1 ⟨rfl,d1⟩;have X:=zb (uh Y w1 d1.rd);have i:=zb d1;go_wp2_with fail;go_call X as e w2 ⟨v2,rfl,o2,d2⟩;obtain⟨o,I,r,rfl,z,_⟩:=o2.shape;have n:=zb (uh W w2 o I r z);have l:=zb (i.step d2);go_wp2_with fail;go_call n as e w3 ⟨rfl,b3⟩;go_wp2;go_ret;exact⟨rfl,l.below b3⟩
 .have e:((x:Int) % 8 ==7)=ζ:=by simp only[yd,ne_eq];omega
  rw[yf h7];have hid:(y:Int)*3+(x:Int)=((y*3+x:Nat):Int):=om;have hib:y*3+x<=1020:=om;generalize y*3+x=K at *;have hq:(K:Int) % (f.length:Int)=((K % f.length:Nat):Int):=sm;have E:K % f.length<f.length:=Nat.mod_lt _ om;generalize K % f.length=p at *;have hqI:(p:Int)<(f.length:Int):=om;have hsn:(f.length:Int)≠0:=om;have ag:=OI S p;have P:Hid (ze f[p].1=Qz f p):=by
   show _=_
   unfold Qz;rw[Δ,yy E];rfl
  generalize hR:(if x % 8=6 then _ else _:Bs×List UInt8)=R at *;have HR:=zb hR;generalize Qz f p=s at *;go_in;go_wp2_with fail;go_call HX as e w1 ⟨rfl,d1⟩;have i:=zb d1;have X:=zb (uh HH w1);go_wp2_with fail;go_call X as e w2 ⟨v2,rfl,o2,b2⟩;obtain⟨o,r,rfl⟩:=F4 o2;have l:=zb (i.below b2);have Z:=zb (uh T w2 l.rd);go_wp2_with fail;go_call Z as e w3 ⟨rfl,d3⟩;obtain⟨g,cap,he,hg2,hgl,c0,c1⟩:=o2.cells p E;injection he with he1 he2 he3;subst he1;subst he3;have hz2:=b2.size;have C:g≠rb:=by have:=i.rd.lt;omega
  rw[uh P]at c0;have c0':=d3.gr.cell c0 (by simpa using C);have d:=zb (l.step d3);by_cases h6:x % 8=6
  .have e6:(x:Int) % 8=6:=om;have aa:=zb (uh U w3 d.rd);have a:=uh HR;rw[yg h6]at a;have Q:=zb fun w=>XK (nx G).1 w hk;have hkl:=Wy (nx G).1;have hkp:=OJ (nx G).1;generalize (nx G).1=k at *;generalize (nx G).2=q3 at *;generalize QI k=t at *;have n:Hid (∀ wx (b:Nat),wx.heap[b]?=η (χ #[(ze t)] 9 (0,0))->δ prog 98 #[ς (η b) 1 1] wx fun e w'=>e=ε (σ ⟨(ZA [ze t]).toArray⟩)/\Below wx wx w'):=fun wx b hb=>by
    have z:SS wx (η b) b 0 [ze t]:=⟨fun _=>rfl,fun j hj=>by
     have:j=0:=by simpa using hj
     subst this;exact yG hb 0⟩
    have af:qU [ze t]=t.length:=by simp[qU,zL]
    exact Us _ _ _ 1 [ze t] _ z (by rw[af];simp;omega)
   have htz:=X1 (ZA [ze t]);have htz2:(⟨(ZA [ze t]).toArray⟩:Bs).size<=7:=om;generalize (⟨(ZA [ze t]).toArray⟩:Bs)=tb at *;subst a;go_wp2_with fail;go_call aa as e w4 ⟨rfl,d4⟩;have M:=zb (d.step d4);go_wp2_with fail;go_call uh Q w4 as e w5 ⟨rfl,rfl⟩;have ad:=ZO w4 (χ #[(ze t)] 9);have V:=zb (uh n _ w4 (yH w4 (χ #[(ze t)] 9)));have N:=zb (M.below ad);go_wp2_with fail;go_call V as e w6 ⟨rfl,b6⟩;have O:=zb (N.below b6);go_wp2;go_ret;exact⟨rfl,O⟩
  .have e6:((x:Int) % 8 ==6)=ζ:=by simp only[yd,ne_eq];omega
   have a:=uh HR;rw[yf h6]at a;by_cases h5:x % 32=5
   .have e5:(x:Int) % 32=5:=om;rw[yg h5]at a;subst a;have HC:=zb (uh L s w3 d.rd ag);go_wp2_with fail;go_call HC as e w4 ⟨rfl,d4⟩;go_wp2;go_ret;exact⟨rfl,d.step d4⟩
   .have e5:((x:Int) % 32 ==5)=ζ:=by simp only[yd,ne_eq];omega
    rw[yf h5]at a;by_cases u:x % 32=13
    .have ab:(x:Int) % 32=13:=om;rw[yg u]at a;subst a;go_wp2;go_ret;exact⟨rfl,d⟩
    .have ab:((x:Int) % 32 ==13)=ζ:=by simp only[yd,ne_eq];omega
     rw[yf u]at a;subst a;go_wp2;go_ret;exact⟨rfl,d⟩
section
variable (ps:List zy) (p:Nat) (dr pu:Bool) (q:zy)
theorem Tj(h:i≠p)(hi:i<ps.length):qL ps p dr pu q i=[ps[i]]:=by unfold qL;simp[h,hi]
theorem zcB(h:i≠p)(hi:¬ i<ps.length):qL ps p dr pu q i=[]:=by unfold qL;simp[h,hi]
theorem RN:∀ k,k<=p->k<=ps.length->ZC ps p dr pu q k=ps.take k
 | 0,_,_=>by simp[ZC]
 | k+1,h1,h2=>by
  rw[Yj,RN k om om,Tj ps p dr pu q om om,yz om]
theorem Tk:∀ k,p<k->k<=ps.length->ZC ps p dr pu q k=ZC ps p dr pu q (p+1)++(ps.take k).drop (p+1)
 | 0,h,_=>by omega
 | k+1,h1,h2=>by
  by_cases e:k=p
  .subst e;rw[List.drop_of_length_le (by rw[ym];omega),yT]
  .rw[Yj,Tk k om om,Tj ps p dr pu q e om,List.append_assoc,yz om,List.drop_append_of_le_length (by rw[ym];omega)]
theorem RO(h:p<ps.length):ZC ps p dr pu q (ps.length+1)=ps.take p++qL ps p dr pu q p++ps.drop (p+1):=by
 rw[Yj,zcB ps p dr pu q om om,yT,Tk ps p dr pu q _ h (ye _),List.take_length,Yj,RN ps p dr pu q p (ye _) om]
theorem zcC(h:p=ps.length):ZC ps p dr pu q (ps.length+1)=ps++qL ps p dr pu q p:=by
 subst h;rw[Yj,RN ps _ dr pu q _ (ye _) (ye _),List.take_length]
theorem Tl(f:zy->Nat):∀ k,((ZC ps p dr pu q k).map f).sum<=((ps.take k).map f).sum+(if p<k then f q else 0)
 | 0=>by simp[ZC]
 | k+1=>by
  rw[Yj,yx,Ι];have ih:=Tl f k;have d:((ps.take (k+1)).map f).sum=((ps.take k).map f).sum+(if h:k<ps.length then f ps[k]else 0):=by
   by_cases a:k<ps.length
   .rw[yz a,yx,Ι,dif_pos a];simp
   .rw[yr om,yr om,dif_neg a];simp
  have b:((qL ps p dr pu q k).map f).sum<=(if k=p then f q else 0)+(if h:k<ps.length then f ps[k]else 0):=by
   unfold qL;rw[yx,Ι];by_cases e:k=p
   .by_cases a:k<ps.length
    .rw[yg e,dif_pos a,dif_pos a];refine Nat.add_le_add ?_ ?_
     .split<;>simp
     .split<;>simp
    .rw[yg e,dif_neg a,dif_neg a];refine Nat.add_le_add ?_ ?_
     .split<;>simp
     .simp
   .by_cases a:k<ps.length
    .rw[yf e,dif_pos a,dif_pos a,yf (by simp[e])];refine Nat.add_le_add ?_ ?_
     .simp
     .split<;>simp
    .rw[yf e,dif_neg a,dif_neg a,yf (by simp[e])];simp
  rw[d];split at ih
  .rename_i hp;rw[yg om];rw[yf om]at b;omega
  .rename_i hp;by_cases e:k=p
   .rw[yg om];rw[yg e]at b;omega
   .rw[yf e]at b;omega
end
theorem zcD(ps:List zy)(p:Nat)(q:zy)(h:p<ps.length):ZC ps p ξ ξ q (ps.length+1)=ps.take p++q :: ps.drop (p+1):=by
 rw[RO ps p ξ ξ q h];unfold qL;simp[h]
theorem zcE(ps:List zy)(p:Nat)(q:zy)(h:p<ps.length):ZC ps p ξ ζ q (ps.length+1)=ps.take p++ps.drop (p+1):=by
 rw[RO ps p ξ ζ q h];unfold qL;simp[h]
theorem Tm(ps:List zy)(p:Nat)(q:zy)(h:p<=ps.length):ZC ps p ζ ξ q (ps.length+1)=ps.take p++q :: ps.drop p:=by
 by_cases a:p<ps.length
 .rw[RO ps p ζ ξ q a];unfold qL;rw[List.drop_eq_getElem_cons a];simp[a]
 .have e:p=ps.length:=om;rw[zcC ps p ζ ξ q e];subst e;unfold qL;simp
theorem RP(l:List JV):zu (JL.ofL l)=l.map ct:=by rw[Qd,JL.toL_ofL]
theorem Tn:∀ {a b:List zy},a.Perm b->(a.map (·.1)).Nodup->a.Pairwise (fun x y=>x.1<=y.1)->b.Pairwise (fun x y=>x.1<=y.1)->a=b
 | [],b,h,_,_,_=>by rw[List.nil_perm.1 h]
 | x :: a,[],h,_,_,_=>by have:=h.length_eq;simp at this
 | x :: a,y :: b,h,hn,ha,hb=>by
  rw[List.pairwise_cons]at ha hb;rw[yi,Η]at hn;have e:x=y:=by
   have d:=h.symm.subset yq;have hx:=h.subset yq;rcases Ε.1 d with e | d
   .exact e.symm
   .rcases Ε.1 hx with e | hx
    .exact e
    .have g:=ha.1 y d;have i:=hb.1 x hx;have f:=List.le_antisymm g i;exact absurd (yP.2 ⟨y,d,f.symm⟩) hn.1
  subst e;rw[Tn (a:=a) (b:=b) ((List.perm_cons x).1 h) hn.2 ha.2 hb.2]
theorem OK{a b:List zy}(h:a.Perm b)(hn:(a.map (·.1)).Nodup):zI a=zI b:=
 Tn ((Qc a).trans (h.trans (Qc b).symm)) ((((Qc a).map _).nodup_iff).2 hn) (NZ a) (NZ b)
theorem To:∀ (ps:List zy) (p:Nat) (t x:List UInt8) (hp:p<ps.length),(ps.map (·.1)).Nodup->ps[p].1=t->ps.take p++(t,x) :: ps.drop (p+1)=ps.map fun q=>if q.1=t then (q.1,x)else q
 | [],p,t,x,hp,_,_=>by simp at hp
 | a :: ps,0,t,x,hp,hn,e=>by
  have e':a.1=t:=e;rw[yi,Η]at hn;rw[yi,yg e',e'];show (t,x) :: ps=_
  congr 1;rw[show ps=ps.map id from (List.map_id _).symm,Θ];refine Ο fun q hq=>?_;have:q.1≠t:=fun h=>hn.1 (by rw[e',← h];exact yP.2 ⟨q,hq,rfl⟩);simp[this]
 | a :: ps,p+1,t,x,hp,hn,e=>by
  have b:p<ps.length:=by simpa using hp
  have e':ps[p].1=t:=e;rw[yi,Η]at hn;have d:a.1≠t:=fun h=>hn.1 (by rw[h,← e'];exact yP.2 ⟨_,yt b,rfl⟩);rw[yi,yf d,← To ps p t x b hn.2 e'];rfl
theorem Tp:∀ (ps:List zy) (p:Nat) (t:List UInt8) (hp:p<ps.length),(ps.map (·.1)).Nodup->ps[p].1=t->ps.take p++ps.drop (p+1)=ps.filter fun q=>!(q.1 ==t)
 | [],p,t,hp,_,_=>by simp at hp
 | a :: ps,0,t,hp,hn,e=>by
  have e':a.1=t:=e;rw[yi,Η]at hn;rw[List.filter_cons_of_neg (by simp[e'])];show ps=_
  symm;rw[List.filter_eq_self];intro q d;have:q.1≠t:=fun h=>hn.1 (by rw[e',← h];exact yP.2 ⟨q,d,rfl⟩);simp[this]
 | a :: ps,p+1,t,hp,hn,e=>by
  have b:p<ps.length:=by simpa using hp
  have e':ps[p].1=t:=e;rw[yi,Η]at hn;have f:a.1≠t:=fun h=>hn.1 (by rw[h,← e'];exact yP.2 ⟨_,yt b,rfl⟩);rw[List.filter_cons_of_pos (by simp[f]),← Tp ps p t b hn.2 e'];rfl
theorem X4(h:zx (.obj m)):((zl (.obj m)).map (·.1)).Nodup:=by
 show ((zI (zm m)).map (·.1)).Nodup
 rw[((Qc _).map _).nodup_iff,Qn,Θ];exact ((Jv m).1 h).1
theorem KG(l:JL):(zl (.arr l)).map (·.2)=l.toL.map ct:=by
 rw[Lz,Θ];show (QR 0 l.toL).map (fun q=>ct q.2)=_
 rw[show (fun q:List UInt8×JV=>ct q.2)=ct∘(·.2)from rfl,← Θ,Pr]
theorem RQ(l:JL)(hj:j<(zl (.arr l)).length):(zl (.arr l))[j].1=Zj j:=by
 have e:zl (.arr l)=qY 0 (zu l):=rfl;have a:j<(qY 0 (zu l)).length:=by rw[← e];exact hj
 have:=FR (zu l) 0 j a;simp only[e];rw[this];simp
theorem Tq{α β:Type}(f:α->β):∀ (l:List α) (i:Nat) (x:α),i<l.length->(l.set i x).map f=(l.map f).take i++f x ::(l.map f).drop (i+1)
 | [],i,x,h=>by simp at h
 | a :: l,0,x,_=>by simp
 | a :: l,i+1,x,h=>by
  rw[List.set_cons_succ,yi,Tq f l i x (by simpa using h)];simp
theorem zcF{t:List UInt8}(hg:zx v)(hc:zK v t=η c)(hj:j<(zl v).length)(hk:(zl v)[j].1=t):Gb v (ZC (zl v) j ξ ξ (t,ct u) ((zl v).length+1))=ct (qS v t u):=by
 rw[zcD _ _ _ hj]
 cases v with
 | arr l=>
  rw[JO]at hc;obtain⟨i,d,b⟩:=Γ.1 hc;have e:j=i:=by
   rw[RQ]at hk;exact FQ (hk.trans (Pm d).symm)
  subst e;have f:qS (.arr l) t u= .arr (JL.ofL (l.toL.set j u)):=by simp only[qS,d]
  have a:=(List.getElem?_eq_some_iff.1 b).1;rw[f];show qg _=qg (zu (JL.ofL (l.toL.set j u)))
  congr 1;rw[RP,Tq ct l.toL j u a,← KG,yx,yi,Υ,Φ]
 | obj m=>
  rw[To _ j t (ct u) hj (X4 hg) hk];show qo (zI ((zI (zm m)).map _))=qo (zI (zm (JM.ofL _)))
  congr 1;have g:zm (JM.ofL (m.toL.map fun q=>if q.1=t then (q.1,u)else q))=(zm m).map fun q=>if q.1=t then (q.1,ct u)else q:=by
   rw[Qn,JM.toL_ofL,Qn,Θ,Θ];refine Ο fun q _=>?_;by_cases e:q.1=t<;>simp[e]
  rw[g];refine OK ((Qc _).map _) ?_;rw[Θ];have:((fun x:zy=>x.1)∘fun q:zy=>if q.1=t then (q.1,ct u)else q)=fun x:zy=>x.1:=by
   funext q;show (if q.1=t then (q.1,ct u)else q).1=q.1
   split<;>rfl
  rw[this];exact X4 hg
 | _=>cases hc
theorem zcG{t:List UInt8}(hg:zx v)(hc:zK v t=η c)(hj:j<(zl v).length)(hk:(zl v)[j].1=t):Gb v (ZC (zl v) j ξ ζ q ((zl v).length+1))=ct (Qx v t):=by
 rw[zcE _ _ _ hj]
 cases v with
 | arr l=>
  rw[JO]at hc;obtain⟨i,a,f⟩:=Γ.1 hc;have e:j=i:=by
   rw[RQ]at hk;exact FQ (hk.trans (Pm a).symm)
  subst e;have b:Qx (.arr l) t= .arr (JL.ofL (l.toL.eraseIdx j)):=by simp only[Qx,a]
  rw[b];show qg _=qg (zu (JL.ofL (l.toL.eraseIdx j)))
  congr 1;rw[RP,List.eraseIdx_eq_take_drop_succ,yx,yx,Υ,Φ,Υ,Φ,KG]
 | obj m=>
  rw[Tp _ j t hj (X4 hg) hk];show qo (zI ((zI (zm m)).filter _))=qo (zI (zm (JM.ofL _)))
  congr 1;have d:zm (JM.ofL (m.toL.filter fun q=>!(q.1 ==t)))=(zm m).filter fun q=>!(q.1 ==t):=by
   rw[Qn,JM.toL_ofL,Qn,List.filter_map];rfl
  rw[d];refine OK ((Qc _).filter _) ?_;exact (List.filter_sublist.map _).nodup (X4 hg)
 | _=>cases hc
theorem Tr{α β:Type}(f:α->β)(l:List α)(i:Nat)(x:α):(l.take i++x :: l.drop i).map f=(l.map f).take i++f x ::(l.map f).drop i:=by
 rw[yx,yi,Υ,Φ]
theorem zcH{t:List UInt8}(hi:i<=l.toL.length):Gb (.arr l) (ZC (zl (.arr l)) i ζ ξ (t,ct u) ((zl (.arr l)).length+1))=ct (.arr (JL.ofL (l.toL.take i++u :: l.toL.drop i))):=by
 have a:(zl (.arr l)).length=l.toL.length:=by
  have:=congrArg List.length (KG l);simpa using this
 rw[Tm _ _ _ om];show qg _=qg (zu (JL.ofL _))
 congr 1;rw[RP,Tr ct,← KG,Tr]
theorem zcI{t:List UInt8}(hg:zx (.obj m))(hn:zK (.obj m) t=ν):Gb (.obj m) (ZC (zl (.obj m)) 0 ζ ξ (t,ct u) ((zl (.obj m)).length+1))=ct (.obj (JM.ofL (m.toL++[(t,u)]))):=by
 rw[Tm _ _ _ (yu _)];show qo (zI ((t,ct u) :: zI (zm m)))=qo (zI (zm (JM.ofL _)))
 congr 1;have b:zm (JM.ofL (m.toL++[(t,u)]))=zm m++[(t,ct u)]:=by
  rw[Qn,JM.toL_ofL,Qn,yx];rfl
 rw[b];refine OK ?_ ?_
 .refine (List.Perm.cons _ (Qc _)).trans ?_;exact (List.perm_append_comm (l₁:=[(t,ct u)]) (l₂:=zm m))
 .rw[yi,Η];refine⟨fun h=>?_,X4 hg⟩;obtain⟨x,hx,e⟩:=yP.1 h;have a:=(Qc _).subset hx;rw[Qn]at a;obtain⟨y,d,rfl⟩:=yP.1 a;rw[VZ,Χ,List.find?_eq_none]at hn;exact hn y d (by simpa using e)
theorem OL(l:List JV):(ct (.arr (JL.ofL l))).length=hold l.length+(l.map fun v=>(ct v).length).sum:=by
 show (qg (zu (JL.ofL l))).length=_
 rw[Qd,JL.toL_ofL];have h:=Xx (l.map ct);have a:nl (l.map ct)=(l.map fun v=>(ct v).length).sum:=by
  unfold nl;rw[Θ];rfl
 rw[yl,a]at h;simp[qg];omega
theorem JL.ofL_toL:∀ l:JL,JL.ofL l.toL=l
 | .nil=>rfl
 | .cons v r=>by rw[JL.toL,JL.ofL,JL.ofL_toL r]
theorem X5(l:JL):(ct (.arr l)).length=hold l.toL.length+(l.toL.map fun v=>(ct v).length).sum:=by
 have:=OL l.toL
 rwa [JL.ofL_toL]at this
theorem Ts{α:Type}(f:α->Nat):∀ (l:List α) (i:Nat) (x y:α),l[i]?=η y->((l.set i x).map f).sum+f y=(l.map f).sum+f x
 | [],i,x,y,h=>by simp at h
 | a :: l,0,x,y,h=>by
  have e:a=y:=by simpa using h
  subst e;rw[List.set_cons_zero,yi,yi,yM,yM];omega
 | a :: l,i+1,x,y,h=>by
  have b:=Ts f l i x y (by simpa using h);rw[List.set_cons_succ,yi,yi,yM,yM];omega
theorem Tu(t:List UInt8)(u:JV):∀ (l:List (List UInt8×JV)) (c:JV),(l.map (·.1)).Nodup->(l.find? fun q=>q.1 ==t).map (·.2)=η c->((l.map fun q=>if q.1=t then (q.1,u)else q).map qr).sum+(ct c).length=(l.map qr).sum+(ct u).length
 | [],c,_,h=>by simp at h
 | a :: l,c,hn,h=>by
  rw[yi,Η]at hn;by_cases e:a.1=t
  .rw[List.find?_cons,show (a.1 ==t)=ξ by simp[e]]at h;have e2:a.2=c:=by simpa using h
   have b:(l.map fun q=>if q.1=t then (q.1,u)else q)=l:=by
    conv=>rhs;rw[← List.map_id l]
    refine Ο fun q hq=>?_;have:q.1≠t:=fun h=>hn.1 (by rw[e,← h];exact yP.2 ⟨q,hq,rfl⟩);simp[this]
   rw[yi,yg e,b,yi,yi,yM,yM,← e2];unfold qr;simp only;omega
  .rw[List.find?_cons,show (a.1 ==t)=ζ by simp[e]]at h;have d:=Tu t u l c hn.2 h;rw[yi,yf e,yi,yi,yM,yM];omega
theorem RS{t:List UInt8}(hg:zx v)(hc:zK v t=η c):(ct (qS v t u)).length+(ct c).length=(ct v).length+(ct u).length:=by
 cases v with
 | arr l=>
  rw[JO]at hc;obtain⟨i,b,a⟩:=Γ.1 hc;have e:qS (.arr l) t u= .arr (JL.ofL (l.toL.set i u)):=by simp only[qS,b]
  rw[e,OL,X5,List.length_set];have:=Ts (fun v=>(ct v).length) l.toL i u c a;omega
 | obj m=>
  rw[VZ]at hc;have e:qS (.obj m) t u= .obj (JM.ofL (m.toL.map fun q=>if q.1=t then (q.1,u)else q)):=rfl;rw[e,Y6,Y6,JM.toL_ofL,yl];have:=Tu t u m.toL c ((Jv m).1 hg).1 hc;omega
 | _=>cases hc
theorem Gk:∀ {ts:List (List UInt8)} {v u h:JV},zx v->zM v ts=η h->(ct (qf v ts u)).length+(ct h).length=(ct v).length+(ct u).length
 | [],v,u,h,_,e=>by
  rw[WH]at e;injection e with e;subst e;rw[KC];omega
 | t :: ts,v,u,h,hv,e=>by
  rw[Vx]at e
  cases hc:zK v t with
  | none=>rw[hc]at e;cases e
  | some c=>
   rw[hc]at e;rw[Uw hc];have h1:=RS (u:=qf c ts u) hv hc;have a:=Gk (u:=u) (hv.child hc) e;omega
theorem Tv{α:Type}(f:α->Nat)(p:α->Bool):∀ l:List α,((l.filter p).map f).sum<=(l.map f).sum
 | []=>by simp
 | a :: l=>by
  have ih:=Tv f p l;rw[yi,yM];by_cases h:p a=ξ
  .rw[List.filter_cons_of_pos h,yi,yM];omega
  .rw[List.filter_cons_of_neg h];omega
theorem Tw{α:Type}(f:α->Nat):∀ (l:List α) (i:Nat),((l.eraseIdx i).map f).sum<=(l.map f).sum
 | [],i=>by simp
 | a :: l,0=>by simp
 | a :: l,i+1=>by
  have ih:=Tw f l i;rw[List.eraseIdx_cons_succ,yi,yi,yM,yM];omega
theorem RT{t:List UInt8}(hc:zK v t=η c):(ct (Qx v t)).length<=(ct v).length:=by
 cases v with
 | arr l=>
  rw[JO]at hc;obtain⟨i,d,f⟩:=Γ.1 hc;have e:Qx (.arr l) t= .arr (JL.ofL (l.toL.eraseIdx i)):=by simp only[Qx,d]
  rw[e,OL,X5];have a:=Tw (fun v=>(ct v).length) l.toL i;have b:(l.toL.eraseIdx i).length<=l.toL.length:=List.length_eraseIdx_le ..;unfold hold;omega
 | obj m=>
  have e:Qx (.obj m) t= .obj (JM.ofL (m.toL.filter fun q=>!(q.1 ==t))):=rfl;rw[e,Y6,Y6,JM.toL_ofL];have a:=Tv qr (fun q=>!(q.1 ==t)) m.toL;have b:=List.length_filter_le (fun q:List UInt8×JV=>!(q.1 ==t)) m.toL;unfold hold;omega
 | _=>cases hc
theorem Tx{t:List UInt8}(hg:zx v)(h:qE v t u=η r):(ct r).length<=(ct v).length+(ct u).length+6*t.length+4:=by
 cases v with
 | arr l=>
  simp only[qE]at h;split at h
  .rename_i i hi;split at h
   .injection h with h;subst h;rw[OL,X5];have a:((l.toL.take i++u :: l.toL.drop i).map fun v=>(ct v).length).sum=(l.toL.map fun v=>(ct v).length).sum+(ct u).length:=by
     conv=>rhs;rw[← List.take_append_drop i l.toL]
     rw[yx,Ι,yi,yM,yx,Ι];omega
    have b:(l.toL.take i++u :: l.toL.drop i).length=l.toL.length+1:=by
     rw[yh,yp,ym,yv];omega
    rw[a,b];unfold hold;omega
   .cases h
  .cases h
 | obj m=>
  simp only[qE]at h;split at h
  .injection h with h;subst h
   cases hc:zK (.obj m) t with
   | some c=>
    have:=RS (u:=u) hg hc;rw[Option.isSome_some,yg rfl];omega
   | none=>
    rw[Option.isSome_none,yf sm];rw[Y6,Y6,JM.toL_ofL,yx,Ι,yh];have:=Q4 t;simp only[yi,List.map_nil,yM,List.sum_nil,yp,yE,qr];unfold hold;omega
  .cases h
 | _=>cases h
theorem zcJ(m:JM):sumT (zl (.obj m))<=(ct (.obj m)).length:=by
 show sumT (zI (zm m))<=(qo (zI (zm m))).length
 unfold qo;rw[yp,yh];have:∀ l:List zy,sumT l<=(joinC (l.map zo)).length+1:=fun l=>by
  cases l with
  | nil=>simp[sumT]
  | cons x r=>
   have a:∀ r:List zy,sumT r=(joinT (r.map zo)).length:=fun r=>by
    induction r with
    | nil=>rfl
    | cons y r ih=>unfold sumT at *;rw[yi,yi,yM,ih,joinT];simp;omega
   have b:=a r;show sumT (x :: r)<=(zo x++joinT (r.map zo)).length+1
   unfold sumT at *;rw[yi,yM,b,yh];omega
 have:=this (zI (zm m));simp;omega
theorem zcK(l:JL):sumA (zl (.arr l))<=(ct (.arr l)).length:=by
 have e:sumA (zl (.arr l))=((zu l).map fun t=>t.length+1).sum:=by
  unfold sumA;rw[show (fun p:zy=>p.2.length+1)=(fun t:List UInt8=>t.length+1)∘(·.2)from rfl,← Θ,KG,Qd]
 rw[e];show _<=(qg (zu l)).length
 unfold qg;rw[yp,yh];have:∀ l:List (List UInt8),(l.map fun t=>t.length+1).sum<=(joinC l).length+1:=fun l=>by
  cases l with
  | nil=>simp
  | cons x r=>
   have a:∀ r:List (List UInt8),(r.map fun t=>t.length+1).sum=(joinT r).length:=fun r=>by
    induction r with
    | nil=>rfl
    | cons y r ih=>rw[yi,yM,ih,joinT];simp;omega
   rw[yi,yM,a r];show _<=(x++joinT r).length+1
   rw[yh];omega
 have:=this (zu l);simp;omega
theorem zcL(hok:zz v)(htw:zF v=ζ){x:zy}(h:x∈zl v):x.1.length+x.2.length+1<=(ct v).length:=by
 rw[Lz]at h;obtain⟨y,a,rfl⟩:=yP.1 h;exact (XG hok htw a).2.2.2
theorem Ty{ps:List zy}{p:Nat}{dr pu:Bool}:∀ {k:Nat} {x:zy},x∈ZC ps p dr pu q k->x=q∨x∈ps
 | 0,x,h=>by simp[ZC]at h
 | k+1,x,h=>by
  rw[Yj,Ρ]at h;rcases h with h | h
  .exact Ty h
  .unfold qL at h;rw[Ρ]at h;rcases h with h | h
   .split at h
    .exact .inl (by simpa using h)
    .simp at h
   .split at h
    .split at h
     .rename_i hk _;rw[List.mem_singleton]at h;exact .inr (by rw[h];exact yt hk)
     .simp at h
    .simp at h
theorem X6{α:Type}(f g:α->Nat):∀ (l:List α),(∀ x∈l,f x<=g x)->(l.map f).sum<=(l.map g).sum
 | [],_=>by simp
 | x :: r,h=>by
  rw[yi,yi,yM,yM];have h1:=h x yq;have a:=X6 f g r fun y hy=>h y (yw _ hy);omega
theorem Tz{α:Type}(f:α->Nat)(c:Nat):∀ l:List α,(l.map fun x=>c*f x).sum=c*(l.map f).sum
 | []=>by simp
 | x :: r=>by rw[yi,yi,yM,yM,Tz f c r,Nat.mul_add]
theorem RU(hok:zz v)(htw:zF v=ζ)(hkd:kd v=5∨kd v=6)(hl:(ct v).length<=100000)(p:Nat)(dr pu:Bool)(q:zy)(h1:q.1.length<=1048576)(h2:q.2.length<=20000000):
  sumA (ZC (zl v) p dr pu q ((zl v).length+1))<=40000000/\sumT (zI (ZC (zl v) p dr pu q ((zl v).length+1)))<=40000000/\∀ x∈zI (ZC (zl v) p dr pu q ((zl v).length+1)),x.1.length<=1048576:=by
 have r:=Wx hok om;have a:∀ f:zy->Nat,((ZC (zl v) p dr pu q ((zl v).length+1)).map f).sum<=((zl v).map f).sum+f q:=fun f=>by
  have:=Tl (zl v) p dr pu q f ((zl v).length+1);rw[yr om]at this;refine yQ this ?_;split<;>omega
 have z:sumA (zl v)<=100000/\sumT (zl v)<=6000000:=by
  rcases hkd with b | b
  .obtain⟨l,rfl⟩:∃ l,v= .arr l:=by cases v<;>first | exact⟨_,rfl⟩ |(simp[kd]at b)
   have n:=zcK l;refine⟨om,?_⟩;have d:sumT (zl (.arr l))<=((zl (.arr l)).map fun x=>46*(x.2.length+1)).sum:=by
    refine X6 _ _ _ fun x hx=>?_;obtain⟨j,o,rfl⟩:=yY.1 hx;have e:=RQ l o;have s:=zi8 6 j om;have g:=Q4 (zl (.arr l))[j].1;rw[e]at g;unfold zo;rw[yh,yp,e];omega
   rw[Tz]at d;have y:((zl (.arr l)).map fun x=>x.2.length+1).sum=sumA (zl (.arr l)):=rfl;omega
  .obtain⟨m,rfl⟩:∃ m,v= .obj m:=by cases v<;>first | exact⟨_,rfl⟩ |(simp[kd]at b)
   have n:=zcJ m;refine⟨?_,om⟩;have d:sumA (zl (.obj m))<=sumT (zl (.obj m)):=by
    refine X6 _ _ _ fun x _=>?_;unfold zo;rw[yh,yp];omega
   omega
 have i:=a fun x=>x.2.length+1;have k:=a fun x=>(zo x).length+1;have u:=Q4 q.1;have w:(zo q).length+1<=6*1048576+4+20000000:=by
  unfold zo;rw[yh,yp];omega
 refine⟨?_,?_,fun x hx=>?_⟩
 .refine yQ i ?_;show sumA (zl v)+(q.2.length+1)<=_
  omega
 .rw[Xv];refine yQ k ?_;show sumT (zl v)+((zo q).length+1)<=_
  omega
 .rcases Ty ((Qc _).subset hx)with rfl | h
  .exact h1
  .have:=zcL hok htw h;omega
theorem X7:∀ (ts:List (List UInt8)) (v u h:JV) (a:Option Addr) (g off cap:Nat) (w:Wo),zx v->zx u->zM v ts=η h->(ct v).length<=100000->(ct (qf v ts u)).length<=20000000->(∀ t∈ts,t.length<=1048576)->ts.length<=1048577->ts.length<=cap->SS w a g off (ts.map zG) ->
  δ prog 118 #[σ (ze (ct v)),ς a ts.length cap,σ (ze (ct u))] w fun e w'=>e=ε (σ (ze (ct (qf v ts u))))/\Below w w w'
 | [],v,u,h,a,g,off,cap,w,_,_,_,_,_,_,_,_,_=>by
  rw[KC];generalize ze (ct u)=U at *;go_in;go_wp2;go_ret;exact⟨rfl,yI _ _⟩
 | t :: ts,v,u,h,a,g,off,cap,w,hv,hu,hg,hl,hs,ht,hn,hcap,hss=>by
  rw[Vx]at hg
  cases hc:zK v t with
  | none=>rw[hc]at hg;cases hg
  | some c=>
   rw[hc]at hg;have hgc:=hv.child hc;obtain⟨_,_,hcl,_⟩:=GJ hc hv.ok hv.tw;rw[Uw hc]at hs ⊢;have z:(ct (qf c ts u)).length<=20000000:=by
    have i:=RS (u:=qf c ts u) hv hc;omega
   have IH:=zb fun (a':Option Addr) (g' off' cap':Nat) (wx:Wo) (i:ts.length<=cap') (h2:SS wx a' g' off' (ts.map zG))=>X7 ts c u h a' g' off' cap' wx hgc hu hg om z (fun x hx=>ht x (yw _ hx)) (by simp at hn;omega) i h2;have G:=zb (LX v hv.ok hv.tw t (ht t yq) w om);have L:=zb fun wx=>Ww v hv.ok wx om;have W:kd v=5∨kd v=6:=by
    cases v with
    | arr l=>exact .inl rfl
    | obj m=>exact .inr rfl
    | _=>cases hc
   have O:Hid (∀ (j:Nat) (hj:j<(zl v).length) (wx:Wo),(zl v)[j].1=t->δ prog 167 #[σ (ze (ct v)),ι κ (j:Int),θ ξ,θ ξ,γ #[(ze t),σ (ze (ct (qf c ts u)))]] wx fun e w'=>e=ε (σ (ze (ct (qS v t (qf c ts u)))))/\Below wx wx w'):=fun j hj wx hk=>by
    obtain⟨s1,s2,s3⟩:=RU hv.ok hv.tw W hl j ξ ξ (t,ct (qf c ts u)) (ht t yq) z;have hpl:=Wx hv.ok (show (ct v).length<=1000000 by omega);have:=L0 v hv.ok om j ξ ξ (t,ct (qf c ts u)) wx om s1 s2 s3;rw[zcF hv hc hj hk]at this;exact this
   have r:=hss.ad sm;have T:=hss.cell 0 sm;have hc0':w.cell? ⟨g,off,ν⟩=η (ze t):=by simpa [zG,ze]using T
   have M:Hid (∀ wx,Below w w wx->SS wx (η ⟨g,off+1,ν⟩) g (off+1) (ts.map zG)):=fun wx hx=>⟨fun _=>rfl,fun j hj=>by
    have i:=(hss.below hx).cell (j+1) (by simpa using hj);rw[show off+(j+1)=off+1+j by omega]at i;simpa using i⟩
   subst r;generalize ct (qS v t (qf c ts u))=R at *;generalize ct (qf c ts u)=Z at *;generalize ze (ct u)=U at *;generalize ze R=sR at *;go_in;go_wp2_with fail;go_call G as e w1 ⟨b1,⟨rfl,hcn⟩ |⟨j,hj,u',rfl,hcs,hpt,hpk⟩⟩
   .rw[hc]at hcn;cases hcn
   .obtain rfl:u'=c:=by rw[hc]at hcs;injection hcs with hcs;exact hcs.symm
    have K:=zb (uh L w1);have q:=zb (fun wx=>uh O j hj wx hpk);have B:=zb b1;have hz1:=b1.size;go_wp2_with fail;go_call K as e w2 ⟨r2,rfl,p2,b2⟩;obtain⟨g2,cap2,rfl,hB2,hgl,c0,c1⟩:=p2.cells j hj;rw[hpk]at c0;rw[hpt]at c1;have n:=zb (zh B b2);have P:=zb n.size;generalize ze (ct u')=d at *;generalize ze t=b at *;generalize ze Z=A at *;generalize ze (ct v)=sv at *;have kA:=yH w2 (χ #[b,d] 120);have bA:=ZO w2 (χ #[b,d] 120);obtain⟨y0,y1⟩:=Oj kA;have y:=(yC.1 kA).1;have f:=zb fun X (hX:Below (w2.alloc (χ #[b,d] 120)).drew.heap.size (w2.alloc (χ #[b,d] 120)).drew X)=>(hX.block w2 y).trans kA;have o:Hid (∀ X,Below (w2.alloc (χ #[b,d] 120)).drew.heap.size (w2.alloc (χ #[b,d] 120)).drew X->X.cell? w2.heap.size=η b/\X.cell? ⟨w2,1,ν⟩=η d/\X.frozen? ⟨w2,1,ν⟩=ζ):=fun X hX=>⟨yG (uh f X hX) 0,yG (uh f X hX) 1,yJ (uh f X hX) 1⟩;have s:=(zh n bA);have F:=zb fun X (hX:Below (w2.alloc (χ #[b,d] 120)).drew.heap.size (w2.alloc (χ #[b,d] 120)).drew X)=>zh s.drew hX;have S:=uh M _ s.drew;have V:ts.length+1<=cap:=by simpa using hcap
    have hle1:(1:Int)<=(ts.length:Int)+1:=om;have Q:SS (w2.alloc (χ #[b,d] 120)).drew (if cap=1 then η ⟨g,off,ν⟩else η ⟨g,off+1,ν⟩) g (off+1) (ts.map zG):=by
     by_cases i:cap=1
     .have Y:ts=[]:=yO om;subst Y;exact⟨fun h=>by simp at h,fun j hj=>by simp at hj⟩
     .rw[yf i];exact S
    have H:=zb (uh IH (if cap=1 then η ⟨g,off,ν⟩else η ⟨g,off+1,ν⟩) g (off+1) (cap - 1) (w2.alloc (χ #[b,d] 120)).drew om Q);go_wp2_with fail;go_region_law (go_simp;go_call H as e w4 ⟨rfl,b4⟩;have k:=uh o w4 b4;have d0:=k.1;have d1:=k.2.1;have f4:=k.2.2)
    all_goals
     have I:=zb (uh f w4 b4);have C:=zb (uh F w4 b4);have J:Hid ((w4.setCell ⟨w2.heap.size,1,ν⟩ A).heap[w2.heap.size]?=η (χ #[b,A] 120 (0,0))):=heap_setCell_same w4 w2.heap.size 1 _ _ _ I;have D:=zb (C.setCell (p:=⟨w2,1,ν⟩) (by have:=uh P;exact this) A);obtain⟨e0,e1⟩:=Oj J;have N:=zb (uh q (w4.setCell ⟨w2,1,ν⟩ A));generalize (if cap=1 then η (⟨g,off,ν⟩:Addr)else η ⟨g,off+1,ν⟩)=ad at *;go_wp2_with fail;generalize (w4.setCell ⟨w2,1,ν⟩ A)=w5 at *;go_call N as e w6 ⟨rfl,b6⟩;have E:=zb (zh D b6);go_wp2;go_ret;exact⟨rfl,E⟩
theorem KI{h:JV}(e:zM v ts=η h):Ga v ts= .tuple #[σ (ze (ct h)),θ ξ]:=by unfold Ga;rw[e]
theorem X8(e:zM v ts=ν):Ga v ts= .tuple #[σ ⟨#[]⟩,θ ζ]:=by unfold Ga;rw[e]
theorem SS.init{a:Option Addr}{g off:Nat}{xs:List (List UInt8)}{t:List UInt8}(h:SS w a g off ((xs++[t]).map zG)):SS w a g off (xs.map zG)/\a=η ⟨g,off,ν⟩/\w.cell? ⟨g,off+xs.length,ν⟩=η (ze t):=by
 have b:((xs++[t]).map zG).length=xs.length+1:=sm;refine⟨⟨fun h0=>h.ad (by rw[b];omega),fun j hj=>?_⟩,h.ad (by rw[b];omega),?_⟩
 .rw[yl]at hj;have:=h.cell j (by rw[b];omega);rw[this,yx];simp[List.getElem?_append_left,hj]
 .have:=h.cell xs.length (by rw[b];omega);rw[this];simp[zG,ze]
theorem VC:∀ {ts:List (List UInt8)} {v u:JV},zx v->zM v ts=η u->(ct u).length<=(ct v).length
 | [],v,u,_,e=>by
  rw[WH]at e;injection e with e;subst e;exact ye _
 | t :: ts,v,u,h,e=>by
  rw[Vx]at e
  cases hc:zK v t with
  | none=>rw[hc]at e;cases e
  | some x=>
   rw[hc]at e;have h1:=VC (h.child hc) e;have a:=(GJ hc h.ok h.tw).2.2.1;omega
theorem zcM{t:List UInt8}(hv:zx v)(hc:zK v t=η c)(ht:t.length<=1048576)(hl:(ct v).length<=100000)(w:Wo):
  δ prog 165 #[σ (ze (ct v)),(ze t)] w fun e w'=>∃ (j:Nat) (hj:j<(zl v).length),e=ε (ι κ (j:Int))/\(zl v)[j].1=t/\Below w w w':=by
 go_call LX v hv.ok hv.tw t ht w om as e w1 ⟨b1,⟨rfl,hcn⟩ |⟨j,hj,u',rfl,_,_,hpk⟩⟩
 .rw[hc]at hcn;cases hcn
 .exact⟨j,hj,rfl,hpk,b1⟩
theorem zcN{t:List UInt8}(hc:zK v t=η c):kd v=5∨kd v=6:=by
 cases v with
 | arr l=>exact .inl rfl
 | obj m=>exact .inr rfl
 | _=>cases hc
theorem zcO(v h c:JV)(xs:List (List UInt8))(t:List UInt8)(a:Option Addr)(g off cap:Nat)(w:Wo)(hv:zx v)(hg:zM v xs=η h)(hc:zK h t=η c)(hl:(ct v).length<=100000)(hts:∀ x∈xs++[t],x.length<=1048576)(hn:xs.length<=1048576)(hcap:xs.length+1<=cap)(hss:SS w a g off ((xs++[t]).map zG)):
  δ prog 117 #[σ (ze (ct v)),ς a (xs.length+1) cap] w fun e w'=>e=ε (σ (ze (ct (qf v xs (Qx h t)))))/\Below w w w':=by
 obtain⟨n,rfl,m⟩:=SS.init hss;have b:=hv.get hg;have H:=VC hv hg;have s:=M8 b hc;have G:=RT hc;have K:=Gk (u:=Qx h t) hv hg;have y:=hts t sm;have d:=zb (PU v hv.ok hv.tw om (η ⟨g,off,ν⟩) g off cap xs w n om (fun x hx=>hts x (Ν _ hx)));rw[KI hg]at d;have q:=zb fun wx=>zcM b hc y om wx;have r:Hid (∀ (j:Nat) (hj:j<(zl h).length) (wx:Wo),(zl h)[j].1=t->δ prog 167 #[σ (ze (ct h)),ι κ (j:Int),θ ξ,θ ζ,γ #[σ ⟨#[]⟩,σ ⟨#[]⟩]] wx fun e w'=>e=ε (σ (ze (ct (Qx h t))))/\Below wx wx w'):=fun j hj wx hk=>by
  obtain⟨s1,s2,s3⟩:=RU b.ok b.tw (zcN hc) om j ξ ζ ([],[]) sm sm;have I:=Wx b.ok (show (ct h).length<=1000000 by omega);have:=L0 h b.ok om j ξ ζ ([],[]) wx om s1 s2 s3;rw[zcG b hc hj hk]at this;exact this
 have l:=zb fun wx (hx:Below w w wx)=>X7 xs v (Qx h t) h (η ⟨g,off,ν⟩) g off cap wx hv s hg hl om (fun x hx=>hts x (Ν _ hx)) om om (n.below hx);have k:=zb fun wx (hx:Below w w wx)=>(hx.cell (p:=⟨g,off+xs.length,ν⟩) (yK _ _ m)).trans m;have E:(xs.length:Int)+1 - 1=(xs.length:Int):=om;have A:xs.length<=cap:=om;have B:(xs.length:Int)<(xs.length:Int)+1:=om;have C:xs.length<xs.length+1:=om;generalize ze (ct (qf v xs (Qx h t)))=R at *;generalize ze (ct (Qx h t))=D at *;generalize ze (ct v)=O at *;generalize ze (ct h)=M at *;generalize ze t=N at *;go_in;go_wp2_with fail;go_call d as e w1 ⟨rfl,b1⟩;have z:=b1.drew;have L:=uh k w1.drew z;have F:=zb b1;go_wp2_with fail;go_region_law (first
  |(have J:=i;go_simp;go_call uh l _ i as e w6 ⟨rfl,b6⟩)
  |(have J:=f;go_simp;go_call uh r j hj w4 hpk as e w5 ⟨rfl,b5⟩;have i:=zh f b5)
  |(go_simp;go_call uh q _ as e w4 ⟨j,hj,rfl,hpk,b4⟩;have f:=zh z b4;have c4:=uh k w4 f))
 all_goals
  have o:=zb (zh i b6);go_wp2;go_ret;exact⟨rfl,o⟩
theorem TA(h:zz v)(h0:0<(ze (ct v)).size):∃ c:Nat,(ze (ct v))[0].toNat=c/\(c=91↔kd v=5)/\(c=123↔kd v=6):=by
 obtain⟨c,r,e,f⟩:=Uc h;refine⟨c.toNat,?_,?_⟩
 .rw[← Zx _ 0 h0,e];exact (VX (c:=c) (r:=r)).2
 .rw[← f];unfold fb
  repeat' split
  all_goals omega
def X9:Option JV->ω
 | none=>.tuple #[σ ⟨#[]⟩,θ ζ]
 | some r=>.tuple #[σ (ze (ct r)),θ ξ]
theorem zcP(v u:JV)(xs:List (List UInt8))(t:List UInt8)(a:Option Addr)(g off cap:Nat)(w:Wo)(hv:zx v)(hu:zx u)(hl:(ct v).length<=100000)(hul:(ct u).length<=100000)(hts:∀ x∈xs++[t],x.length<=1048576)(hn:xs.length<=1048576)(hcap:xs.length+1<=cap)(hss:SS w a g off ((xs++[t]).map zG)):
  δ prog 115 #[σ (ze (ct v)),ς a (xs.length+1) cap,σ (ze (ct u))] w fun e w'=>e=ε (X9 (qV v (xs++[t]) u))/\Below w w w':=by
 obtain⟨R,af⟩:∃ R,qV v (xs++[t]) u=R:=⟨_,rfl⟩;have hR:R=((zM v xs).bind fun h=>qE h t u).map (qf v xs):=by
  rw[← af];unfold qV;rw[yf sm,List.dropLast_concat];show ((zM v xs).bind fun h=>qE h (QX (xs++[t])) u).map _=_
  unfold QX;simp
 rw[af];clear af;obtain⟨U,rfl,T⟩:=SS.init hss;have K:=hts t sm;have s:=zb (PU v hv.ok hv.tw om (η ⟨g,off,ν⟩) g off cap xs w U om (fun x hx=>hts x (Ν _ hx)));have y:=zb fun wx (hx:Below w w wx)=>(hx.cell (p:=⟨g,off+xs.length,ν⟩) (yK _ _ T)).trans T;have hsub:(xs.length:Int)+1 - 1=(xs.length:Int):=om;have hlec:xs.length<=cap:=om;have hltI:(xs.length:Int)<(xs.length:Int)+1:=om
 cases hg:zM v xs with
 | none=>
  have Y:Hid (R=ν):=by show _=_;rw[hR,hg];rfl
  rw[X8 hg]at s;clear hg y hss U T hv hu hl hul hts K hcap hR;go_in;go_wp2_with fail;go_call s as e w1 ⟨rfl,b1⟩;have aa:=zb b1;clear s b1;go_wp2;go_ret2;exact⟨by rw[uh Y];rfl,aa⟩
 | some h=>
  have G:R=(qE h t u).map (qf v xs):=by rw[hR,hg];rfl
  have o:=hv.get hg;have hlh:=VC hv hg;have h0:=PV o.ok;have h0I:(0:Int)<((ze (ct h)).size:Int):=om;rw[KI hg]at s;obtain⟨c,W,c5,c6⟩:=TA o.ok h0;by_cases I:kd h=5∨kd h=6
  .have hpl:=Wx o.ok (show (ct h).length<=1000000 by omega);have O:Hid (∀ wx,δ prog 64 #[σ (ze (ct h))] wx fun e w'=>∃ xa xc,e=ε (ς xa (zl h).length xc)/\PR w' wx (ς xa (zl h).length xc) (zl h)/\Below wx wx w'):=fun wx=>by
    go_call Ww h o.ok wx om as e w' ⟨r,rfl,p,b⟩;obtain⟨xa,xc,rfl⟩:=PR.shape p;exact⟨xa,xc,rfl,p,b⟩
   have f:Hid (∀ (i:Nat) (D:JV) (wx:Wo),i<=1000000->Gb h (ZC (zl h) i ζ ξ (t,ct u) ((zl h).length+1))=ct D->δ prog 167 #[σ (ze (ct h)),ι κ (i:Int),θ ζ,θ ξ,γ #[(ze t),σ (ze (ct u))]] wx fun e w'=>e=ε (σ (ze (ct D)))/\Below wx wx w'):=fun i D wx X hD=>by
    obtain⟨s1,s2,s3⟩:=RU o.ok o.tw I om i ζ ξ (t,ct u) K (by show (ct u).length<=_;omega);have:=L0 h o.ok om i ζ ξ (t,ct u) wx X s1 s2 s3;rw[hD]at this;exact this
   have d:Hid (∀ D wx,qE h t u=η D->Below w w wx->δ prog 118 #[σ (ze (ct v)),ς (η ⟨g,off,ν⟩) xs.length cap,σ (ze (ct D))] wx fun e w'=>e=ε (σ (ze (ct (qf v xs D))))/\Below wx wx w'):=fun D wx hp hx=>by
    have hrl:=Tx o hp;have hsl:=Gk (u:=D) hv hg;exact X7 xs v D h (η ⟨g,off,ν⟩) g off cap wx hv (M9 o hu hp) hg hl om (fun x hx=>hts x (Ν _ hx)) om om (U.below hx)
   rcases I with I | I
   case' inl=>
    obtain⟨l,rfl⟩:∃ l,h= .arr l:=by cases h<;>first | exact⟨_,rfl⟩ | cases I
    have S:=c5.2 rfl;have f1:(((ze (ct (.arr l)))[0].toNat:Int) !=91)=ζ:=by rw[W,S];rfl
    have f3:(((ze (ct (.arr l)))[0].toNat:Int) ==123)=ζ:=by rw[W,S];rfl
    have hpe:(zl (.arr l)).length=l.toL.length:=by simpa using congrArg List.length (KG l)
    rw[hpe]at O hpl;have HIX:Hid (∀ wx,δ prog 168 #[(ze t)] wx (Rk (ι κ (Yx t)) wx)):=fun wx=>by
     have:=zaa (ze t) wx (by rw[zL];exact K)
     rwa [Zb]at this
    obtain⟨q,hq⟩:∃ q,((ze t).toList ==[45])=q:=⟨_,rfl⟩;obtain⟨Z,hZ⟩:∃ Z:Int,Z=if q then (l.toL.length:Int)else Yx t:=⟨_,rfl⟩
    have Q:R=if 0<=Z/\Z<=l.toL.length then η (qf v xs (.arr (JL.ofL (l.toL.take Z.toNat++u :: l.toL.drop Z.toNat))))else ν:=by
     rw[G,hZ,← hq,ByteArray.toList_eq,Zb];simp only[qE,yD];by_cases hd:t=[45]
     .simp only[hd,if_true,Int.toNat_natCast,ye,Int.le_refl,and_true];rw[yg om];rfl
     .simp only[hd,if_false];unfold Yx
      cases Qo t with
      | none=>rfl
      | some i=>
       simp only[Int.toNat_natCast];by_cases X:i<=l.toL.length
       .rw[yg X,yg om];rfl
       .rw[yf X,yf om];rfl
    have HP:Hid (∀ i:Nat,Z=i->i<=l.toL.length->qE (.arr l) t u=η (.arr (JL.ofL (l.toL.take i++u :: l.toL.drop i)))):=fun i H h2=>by
     rw[H,yg om]at Q;rw[G]at Q;simp only[qE]at Q ⊢;rw[hZ,← hq,ByteArray.toList_eq,Zb]at H;simp only[yD]at H;by_cases hd:t=[45]
     .simp only[hd,if_true]at H ⊢;rw[show i=l.toL.length by omega,yg (ye _)]
     .simp only[hd,if_false]at H ⊢;unfold Yx at H
      cases X:Qo t with
      | none=>rw[X]at H;simp only at H;omega
      | some j=>rw[X]at H;simp only at H;rw[show j=i by omega];simp only;rw[yg h2]
    have HZ:=zb hZ;have HR:=zb Q;have f:=zb fun (i:Nat) (wx:Wo) (X:i<=l.toL.length)=>uh f i _ wx om (zcH X);clear hZ Q hpe S
   case' inr=>
    obtain⟨m,rfl⟩:∃ m,h= .obj m:=by cases h<;>first | exact⟨_,rfl⟩ | cases I
    have C:=c6.2 rfl;have f1:(((ze (ct (.obj m)))[0].toNat:Int) !=91)=ξ:=by rw[W,C];rfl
    have f2:(((ze (ct (.obj m)))[0].toNat:Int) !=123)=ζ:=by rw[W,C];rfl
    have f3:(((ze (ct (.obj m)))[0].toNat:Int) ==123)=ξ:=by rw[W,C];rfl
    have HV:Hid (∀ wx,δ prog 166 #[(ze t)] wx fun e w'=>e=ε (θ (Μ t))/\Below wx wx w'):=fun wx=>by
     have:=zg4 (ze t) wx (by rw[zL];exact K)
     rwa [Zb]at this
    have HFI:Hid (∀ (wx:Wo) (B:Nat) (r:ω),PR wx B r (zl (.obj m))->δ prog 126 #[r,(ze t)] wx fun e w'=>wx=w'/\∃ z:Int,e=ε (ι κ z)/\Hid (z= -1/\zK (.obj m) t=ν∨0<=z/\∃ c,zK (.obj m) t=η c)):=fun wx B r hr=>by
     go_call Pt B r (zl (.obj m)) t wx hr om as e w' ⟨rfl,⟨rfl,hno⟩ |⟨j,hj,rfl,I⟩⟩
     .exact⟨rfl,_,rfl,.inl ⟨rfl,Pp hno⟩⟩
     .obtain⟨c,H,_⟩:=Po o.ok o.tw (fun ⟨l,e⟩=>by cases e) hj I;exact⟨rfl,_,rfl,.inr ⟨om,c,H⟩⟩
    have N:Hid (∀ c wx,zK (.obj m) t=η c->Μ t=ξ->Below w w wx->δ prog 118 #[σ (ze (ct v)),ς (η ⟨g,off,ν⟩) (xs.length+1) cap,σ (ze (ct u))] wx fun e w'=>e=ε (σ (ze (ct (qf v xs (qS (.obj m) t u)))))/\Below wx wx w'/\R=η (qf v xs (qS (.obj m) t u))):=fun c wx n hval hx=>by
     have e1:zM v (xs++[t])=η c:=by rw[XF,hg];show zM (.obj m) [t]=_;rw[Vx,n];exact WH c
     have e2:=M3 xs v (.obj m) c t u hg n;have e3:=Gk (u:=u) hv e1;have:=X7 (xs++[t]) v u c (η ⟨g,off,ν⟩) g off cap wx hv hu e1 hl om hts so so (hss.below hx);rw[e2,yh]at this;refine Calls.mono this ?_;rintro e w' ⟨H,h2⟩;refine⟨H,h2,?_⟩;rw[G];simp only[qE];rw[yg hval,n];rfl
    have M:Hid (zK (.obj m) t=ν->Μ t=ξ->qE (.obj m) t u=η (.obj (JM.ofL (m.toL++[(t,u)])))/\R=η (qf v xs (.obj (JM.ofL (m.toL++[(t,u)]))))):=fun n hval=>by
     have e:qE (.obj m) t u=η (.obj (JM.ofL (m.toL++[(t,u)]))):=by simp only[qE];rw[yg hval,n];rfl
     exact⟨e,by rw[G,e];rfl⟩
    have Y:Hid (Μ t=ζ->R=ν):=fun hval=>by rw[G];simp only[qE];rw[yf (by rw[hval];simp)];rfl
    have f:=zb fun wx n=>uh f 0 _ wx om (zcI o n);clear C
   all_goals
    clear W c5 c6 I hR G hg o hlh hss U T hv hu hl hul hts K hcap;go_in;go_wp2_with fail;go_call s as e w1 ⟨rfl,b1⟩;have c1:=uh y w1 b1;have kA:=yH w1 (χ #[(ze t),σ (ze (ct u))] 120);have bA:=zh b1 (ZO w1 (χ #[(ze t),σ (ze (ct u))] 120));have E:Hid (∀ wx,Below (w1.alloc (χ #[(ze t),σ (ze (ct u))] 120)).heap.size (w1.alloc (χ #[(ze t),σ (ze (ct u))] 120)) wx->wx.cell? w1.heap.size=η (ze t)/\wx.cell? ⟨w1,1,ν⟩=η (σ (ze (ct u)))):=fun wx hx=>by
     have k:=(hx.block w1 (yC.1 kA).1).trans kA;exact⟨yG k 0,yG k 1⟩
    have cA:=uh y _ bA;have HBA:=zb bA;clear s b1 kA bA;go_wp2_with fail;generalize (w1.alloc (χ #[(ze t),σ (ze (ct u))] 120))=wA at *
   .go_call uh HV _ as e w2 ⟨rfl,b2⟩;have L:=zb (zh HBA b2);have bD:=L.drew;have cD:=uh y w2.drew bD;have V:=zb b2;clear HV b2 c1 cA
    cases hval:Μ t with
    | false=>
     have Y:=zb (uh Y hval);clear hval;go_wp2;go_ret2;exact⟨by rw[uh Y];rfl,L⟩
    | true=>
     have HVT:=zb hval;clear hval Y;go_wp2_with fail;go_region_law (first
      |(have hq:=P;go_simp;go_call uh HFI _ _ _ p4 as e w5 ⟨rfl,z,rfl,HZ⟩)
      |(go_simp;go_call uh O _ as e w4 ⟨xa,xc,rfl,p4,b4⟩;have P:=zh bD b4;have c4:=uh y w4 P))
     all_goals
      have HB4:=zb P;have bP:=zh V.drew b4;have J:=P.drew;have F:=bP.drew;obtain⟨y0,y1⟩:=uh E w4.drew F;clear b4 p4 c4 O HFI cD bD P bP;rcases uh HZ with ⟨rfl,n⟩ |⟨hz,c,n⟩
      .obtain⟨hp,hr⟩:=uh M n HVT;have d:=zb fun wx=>uh d _ wx hp;have f:=zb fun wx=>uh f wx n;have HR:=zb hr;generalize (JV.obj (JM.ofL (m.toL++[(t,u)])))=D at *;clear hp hr n HZ M N;go_wp2_with fail;go_region_law (first
        |(have hq:=A;go_simp;go_call uh d _ A as e w7 ⟨rfl,b7⟩)
        |(go_simp;go_call uh f _ as e w6 ⟨rfl,b6⟩;have A:=zh J b6;have z6:=uh E w6 (zh F b6);have z0:=z6.1;have z1:=z6.2))
       all_goals
        have ab:=zb (zh A b7);clear b6 A b7 J F z6 z0 z1 y0 y1 d f E y;go_wp2;go_ret2;exact⟨by rw[uh HR];rfl,ab⟩
      .have HS:=zb (uh N c w4 n HVT HB4);clear d y E HZ n M N f y0 y1 J F;go_wp2_with fail;go_call HS as e w6 ⟨rfl,b6,hr⟩;have HB6:=zb (zh HB4 b6);have HR:=zb hr;clear HS b6 hr;go_wp2;go_ret2;exact⟨by rw[uh HR];rfl,HB6⟩
   .go_call uh O _ as e w2 ⟨xa,xc,rfl,-,b2⟩;have ad:=zh HBA b2;have c2:=uh y w2 ad;have L:=zb ad;have V:=zb b2;clear O ad b2 c1 cA;go_wp2_with fail;go_call uh HIX _ as e w2' ⟨rfl,rfl⟩;clear HIX;go_upto_if 90 with fail;go_cut [14]from 86 to 91 (fun x wx=>x=ι κ Z/\w2=wx)
    case first=>cases q<;>(go_wp2;go_meet;case rel=>exact⟨by rw[uh HZ];rfl,rfl⟩)
    obtain⟨rfl,rfl⟩:=hcut;by_cases hz:0<=Z/\Z<=l.toL.length
    .rw[yg hz]at HR;obtain⟨i,rfl⟩:∃ i:Nat,Z=i:=⟨Z.toNat,om⟩;have hin:i<=l.toL.length:=om;have HP:=zb (uh HP i rfl hin);have f:=zb fun wx=>uh f i wx hin;have d:=zb fun wx=>uh d _ wx HP;have hzl:¬ (i:Int)<0:=om;have hzl2:¬ (l.toL.length:Int)<(i:Int):=om;have J:=L.drew;have F:=V.drew;obtain⟨y0,y1⟩:=uh E w2.drew F;rw[Int.toNat_natCast]at HR;generalize (JV.arr (JL.ofL (l.toL.take i++u :: l.toL.drop i)))=D at *;clear hz HP;go_wp2_with fail;go_region_law (first
      |(have hq:=A;go_simp;go_call uh d _ A as e w7 ⟨rfl,b7⟩)
      |(go_simp;go_call uh f _ as e w6 ⟨rfl,b6⟩;have A:=zh J b6;have z6:=uh E w6 (zh F b6);have z0:=z6.1;have z1:=z6.2))
     all_goals
      have ab:=zb (zh A b7);clear b6 A b7 J F z6 z0 z1 y0 y1 d f E y;go_wp2;go_ret2;exact⟨by rw[uh HR];rfl,ab⟩
    .rw[yf hz]at HR;have hz:(Z<0)=True∨(Z<0)=False/\((l.toL.length:Int)<Z)=True:=by
      by_cases h:Z<0
      .exact .inl (eq_true h)
      .exact .inr ⟨yR h,eq_true om⟩
     clear E V d f HP y HZ;rcases hz with H |⟨H,h2⟩<;>(go_wp2;go_ret2;exact⟨by rw[uh HR];rfl,L⟩)
  .have Y:Hid (R=ν):=by show _=_;rw[G];cases h<;>first | rfl | exact absurd (.inl rfl) I | exact absurd (.inr rfl) I
   have f1:(((ze (ct h))[0].toNat:Int) !=91)=ξ:=by
    rw[W];simp;intro e;exact I (.inl (c5.1 om))
   have f2:(((ze (ct h))[0].toNat:Int) !=123)=ξ:=by
    rw[W];simp;intro e;exact I (.inr (c6.1 om))
   clear W c5 c6 I hg o hlh y hss U T hv hu hl hul hts K hcap hR G;go_in;go_wp2_with fail;go_call s as e w1 ⟨rfl,b1⟩;have aa:=zb b1;clear s b1;go_wp2;go_ret2;exact⟨by rw[uh Y];rfl,aa⟩
def GZ:Nat->List UInt8->JV->List (List UInt8×JV)
 | 0,_,_=>[]
 | n+1,p,v=>(p,v) ::(ZB v).flatMap fun q=>GZ n (Qw p q.1) q.2
theorem OM:∀ (n:Nat) (p:List UInt8) (v:JV),Zu n p v=(GZ n p v).map fun x=>(x.1,ct x.2)
 | 0,_,_=>rfl
 | n+1,p,v=>by
  rw[Zu,GZ,yi,List.map_flatMap];congr 2;funext q;exact OM n _ q.2
theorem TB:∀ (n:Nat) (p:List UInt8) (v:JV),zz v->zF v=ζ->∀ x∈GZ n p v,zz x.2/\(ct x.2).length<=(ct v).length
 | 0,_,_,_,_,x,h=>by cases h
 | n+1,p,v,ok,tw,x,h=>by
  rw[GZ,Ε]at h;rcases h with rfl | h
  .exact⟨ok,ye _⟩
  .obtain⟨q,hq,hx⟩:=List.mem_flatMap.1 h;obtain⟨a,b,-,f⟩:=XG ok tw hq;obtain⟨d,g⟩:=TB n _ q.2 a b x hx;exact⟨d,om⟩
def Gl(v:JV)(i:Nat):JV:=((GZ 100 [] v).getD i ([],.nul)).2
theorem zcQ(v:JV)(i:Nat)(h:i<(Zu 100 [] v).length):(Zu 100 [] v)[i].2=ct (Gl v i):=by
 have a:(Zu 100 [] v).length=(GZ 100 [] v).length:=by rw[OM,yl]
 have e:(Zu 100 [] v)[i]?=((GZ 100 [] v).map fun x=>(x.1,ct x.2))[i]?:=by rw[OM]
 rw[yy h,List.getElem?_map,yy om]at e;injection e with e;rw[e];unfold Gl;rw[Δ,yy om];rfl
theorem zcR(h1:zz v)(h2:zF v=ζ)(i:Nat)(h:i<(Zu 100 [] v).length):zz (Gl v i)/\(ct (Gl v i)).length<=(ct v).length:=by
 have a:(Zu 100 [] v).length=(GZ 100 [] v).length:=by rw[OM,yl]
 unfold Gl;rw[Δ,yy om];exact TB 100 [] v h1 h2 _ (yt _)
theorem zcS(hs:List zy)(i:Nat)(h:i<hs.length):ze hs[i].1=Qz hs i:=by
 unfold Qz;rw[Δ,yy h];rfl
def RV(x:Nat):Bs:=if x=252 then ⟨#[47,255]⟩else if x=253 then ⟨#[47,97,195]⟩else ⟨#[47,228,184,150]⟩
def UA(x:Nat)(p:Bs)(u:JV):Option Bs:=if kd u=6 then η (if 252<=x then p++RV x else p++⟨(ZA [ze (QI (x / 4))]).toArray⟩)
 else if kd u=5 then η (if x % 3=0 then p++⟨#[47,45]⟩else p++⟨#[47]⟩++ze (Zj (x / 4 % ((zl u).length+1))))else ν
def Gm(P:Nat->Bs)(U:Nat->JV)(N x:Nat)(d:Bs):Nat->Nat->Bs
 | 0,_=>d
 | m+1,k=>(UA x (P ((x / 4+k) % N)) (U ((x / 4+k) % N))).getD (Gm P U N x d m (k+1))
def Gn(v:JV)(ad:Bool)(q:List UInt8):Bs×List UInt8:=
 if (nx q).1 % 16=15 then KF (Zu 100 [] v) (nx (nx q).2).2
 else if ad=ξ/\(nx q).1 % 4<3 then (Gm (Qz (Zu 100 [] v)) (Gl v) (Zu 100 [] v).length (nx q).1 (Qz (Zu 100 [] v) (((nx q).1 / 4+(nx (nx q).2).1) % (Zu 100 [] v).length)) (Zu 100 [] v).length 0,(nx (nx q).2).2)
 else (Qz (Zu 100 [] v) (((nx q).1 / 4+(nx (nx q).2).1) % (Zu 100 [] v).length),(nx (nx q).2).2)
theorem zcT{p:Bs}{t:Bs}(hx:x<=255)(hp:p.size<=40000)(h:UA x p u=η t):t.size<=40100:=by
 unfold UA at h;have a:=OJ (x / 4);have b:=XL (x / 4 % ((zl u).length+1)) (by have:=Nat.mod_le (x / 4) ((zl u).length+1);omega);have d:(⟨#[47,255]⟩:Bs).size=2:=rfl;have f:(⟨#[47,97,195]⟩:Bs).size=3:=rfl;have g:(⟨#[47,228,184,150]⟩:Bs).size=4:=rfl;have i:(⟨#[47,45]⟩:Bs).size=2:=rfl;have j:(⟨#[47]⟩:Bs).size=1:=rfl;split at h
 .injection h with h;subst h;split
  .unfold RV;rw[Β]
   repeat' split
   all_goals omega
  .rw[Β,X1 (ZA [ze (QI (x / 4))])];omega
 .split at h
  .injection h with h;subst h;split
   .rw[Β];omega
   .rw[Β,Β,zL];omega
  .cases h
theorem TC{P:Nat->Bs}{U:Nat->JV}{d:Bs}(hx:x<=255)(hP:∀ i,(P i).size<=40000)(hd:d.size<=40000):∀ (m k:Nat),(Gm P U N x d m k).size<=40100
 | 0,_=>by rw[Gm];omega
 | m+1,k=>by
  rw[Gm]
  cases h:UA x (P ((x / 4+k) % N)) (U ((x / 4+k) % N))with
  | none=>exact TC hx hP hd m (k+1)
  | some t=>exact zcT hx (hP _) h
theorem RW(hd:U6 v)(ad:Bool)(q:List UInt8):(Gn v ad q).1.size<=40100:=by
 have b:∀ x∈Zu 100 [] v,x.1.length<=40000:=fun x hx=>by have:=Ps 100 [] v x hx;have:=hd.mx;simp at *;omega
 have d:=zcz b (nx (nx q).2).2;have a:=OI b;unfold Gn;split
 .omega
 .split
  .exact TC (QS q) a (a _) _ _
  .have:=a (((nx q).1 / 4+(nx (nx q).2).1) % (Zu 100 [] v).length);show (Qz _ _).size<=_
   omega
theorem zcU(B rb:Nat)(v:JV)(ad:Bool)(q0:List UInt8)(w:Wo)(h:ZJ w B rb q0)(hd:U6 v):
  δ prog 112 #[π (η ⟨rb,0,ν⟩),σ (ze (ct v)),θ ad] w (DB B rb w (Gn v ad q0).1 (Gn v ad q0).2):=by
 have HX1:=zb fun w (h:ZJ w B rb q0)=>Q6 B rb q0 w h;have HX2:=zb fun w (h:ZJ w B rb (nx q0).2)=>Q6 B rb (nx q0).2 w h;have hlen:=hd.len;have hcnt:=hd.cnt;have HH:=zb fun w=>za4 100 v [] w hd.ok hd.tw hd.dep om so om;have N:Hid (∀ i,i<(Zu 100 [] v).length->(Qz (Zu 100 [] v) i).size<=40000/\zz (Gl v i)/\(ct (Gl v i)).length<=600000):=fun i hi=>by
  have hm:∀ x∈Zu 100 [] v,x.1.length<=40000:=fun x hx=>by have:=Ps 100 [] v x hx;have:=hd.mx;simp at *;omega
  obtain⟨u1,u4⟩:=zcR hd.ok hd.tw i hi;exact⟨OI hm i,u1,om⟩
 have HAT:Hid (∀ i (hi:i<(Zu 100 [] v).length),ze (Zu 100 [] v)[i].1=Qz (Zu 100 [] v) i/\(Zu 100 [] v)[i].2=ct (Gl v i)):=fun i hi=>⟨zcS _ i hi,zcQ v i hi⟩;have HDP:=zb fun w h=>zcA B rb v (nx (nx q0).2).2 w h hd;have hn:=FU 100 [] v hd.ok hd.tw hd.dep;have hn1:1<=(Zu 100 [] v).length:=by have:=(YP v);omega
 have hn2:(Zu 100 [] v).length<=3000:=om;have hx:=QS q0;have hy:=QS (nx q0).2;generalize hRR:Gn v ad q0=RR at *;unfold Gn at hRR;have aa:=zb hRR;clear hRR;generalize Zu 100 [] v=f at *;generalize hsv:ze (ct v)=sv at *;generalize Gl v=U at *;generalize (nx q0).1=x at *;generalize (nx q0).2=q1 at *;generalize (nx q1).1=y at *;generalize (nx q1).2=q2 at *;have HR0:=zb h;clear h hd hlen hcnt hn hsv;go_in;go_wp2_with fail;go_call uh HX1 _ HR0 as e w1 ⟨rfl,d1⟩;have HS1:=zb d1;have hrb:=d1.rd.lt;have D:=zb (uh HH w1);clear d1 HR0 HH HX1;go_wp2_with fail;go_call D as e w2 ⟨v2,rfl,o2,b2⟩;obtain⟨va,vc,rfl⟩:=F4 o2;have HS2:=zb ((uh HS1).below b2);have M:Hid (∀ wx,w2.grownBy wx (η rb)->∀ q (hq:q<f.length),∃ g,va=η ⟨g,0,ν⟩/\wx.cell? ⟨g,q*2,ν⟩=η (σ (Qz f q))/\wx.cell? ⟨g,q*2+1,ν⟩=η (σ (ze (ct (U q))))):=fun wx hg q hq=>by
  obtain⟨g,cap,he,hg2,hgl,c0,c1⟩:=o2.cells q hq;obtain⟨a0,a1⟩:=uh HAT q hq;rw[a0]at c0;rw[a1]at c1;injection he with he1 he2 he3;have hne:g≠rb:=om;exact⟨g,he1,hg.cell c0 (by simpa using hne),hg.cell c1 (by simpa using hne)⟩
 have HB2:=zb b2;clear D o2 b2 HAT;go_wp2_with fail;go_call uh HX2 _ (uh HS2).rd as e w3 ⟨rfl,d3⟩;have ZG:=zb ((uh HS2).step d3);have g3:=d3.gr;have HG3:=zb g3;have hid:(x:Int) / 4+(y:Int)=((x / 4+y:Nat):Int):=om;have hib:x / 4+y<=400:=om;generalize x / 4+y=yn at *;have hq:(yn:Int) % (f.length:Int)=((yn % f.length:Nat):Int):=sm;have hql:yn % f.length<f.length:=Nat.mod_lt _ om;generalize yn % f.length=q at *;obtain⟨g,rfl,c0,c1⟩:=uh M w3 g3 q hql;have hqI:(q:Int)<(f.length:Int):=om;have hsn:(f.length:Int)≠0:=om;have hzs:=(uh N q hql).1;clear d3 g3 HX2;generalize Qz f q=s at *;generalize ze (ct (U q))=s2 at *;have F:=ZO w3 (χ #[.string s,.string s2] 256);have L:=yH w3 (χ #[.string s,.string s2] 256);have O:=zb ((uh ZG).below F);have HG4:=zb (JF HG3 (YV (r:=η rb) F));have HK4:=zb L;have HZ4:Hid (w3.heap.size<(w3.alloc (χ #[.string s,.string s2] 256)).heap.size):=by simp[Hid]
 clear F L ZG HG3 HS2 HS1 HB2;by_cases h15:x % 16=15
 .have e:(x:Int) % 16=15:=om;have HD:=zb (uh HDP _ (uh O).rd);have z:=uh aa;rw[yg h15]at z;have J:=zb z;clear h15 HDP M N HK4 z aa;go_wp2_with fail;generalize w3.alloc _=w4 at *;go_call HD as e V ⟨rfl,d5⟩;clear HD;go_wp2;go_ret;exact by rw[← uh J];exact⟨rfl,(uh O).step d5⟩
 .have e:((x:Int) % 16 ==15)=ζ:=by simp only[yd,ne_eq];omega
  have z:=uh aa;rw[yf h15]at z;have J:=zb z;clear HDP z aa;have HK:=zb fun k (hk:k<=255) w=>XK k w hk;have I:Hid (∀ (t:List UInt8) (wx:Wo) (b:Nat),t.length<=3->wx.heap[b]?=η (χ #[σ (ze t)] 9 (0,0))->δ prog 98 #[ς (η ⟨b,0,ν⟩) 1 1] wx (Rb (σ ⟨(ZA [ze t]).toArray⟩) wx)):=fun t wx b ht hb=>by
   have hS:SS wx (η ⟨b,0,ν⟩) b 0 [ze t]:=⟨fun _=>rfl,fun j hj=>by
    have:j=0:=by simpa using hj
    subst this;exact yG hb 0⟩
   have htt:qU [ze t]=t.length:=by simp[qU,zL]
   exact Us _ _ _ 1 [ze t] _ hS (by rw[htt];simp;omega)
  have Y:Hid (∀ (u:JV) (wx:Wo),zz u->(ct u).length<=600000->(zl u).length<=1000000/\δ prog 64 #[σ (ze (ct u))] wx fun e w'=>∃ xa xc,e=ε (ς xa (zl u).length xc)/\Bw wx w'):=fun u wx ou hu=>by
   refine⟨Wx ou (show (ct u).length<=1000000 by omega),(Ww u ou wx om).mono ?_⟩;rintro e w' ⟨r,rfl,p,b⟩;obtain⟨xa,xc,rfl⟩:=PR.shape p;exact⟨xa,xc,rfl,b⟩
  have G:Hid (∀ (n:Nat) (wx:Wo),n<=255->(Zj n).length<=10/\δ prog 123 #[ι κ (n:Int)] wx (Rb (σ (ze (Zj n))) wx)):=fun n wx hn=>⟨XL n om,Xw n n wx (ye _) om⟩;by_cases S:ad=ξ/\x % 4<3
  .have z:=uh J;rw[yg S]at z;obtain⟨rfl,h3⟩:=S;have e3:(x:Int) % 4<3:=om;subst z;generalize hT:Gm (Qz f) U f.length x s f.length 0=T at *;have D:=zb hT;clear h3 hT J;go_wp2_with fail;generalize w3.heap.size=g9 at *;generalize w3.alloc _=w4 at *;go_loopw [10] (fun d wr=>∃ k:Nat,k<=f.length/\d=ι κ (k:Int)/\DX B rb w q2 wr/\w2.grownBy wr (η rb)/\wr.heap[g9]?=η (χ #[.string s,.string s2] 256 (0,0))/\Gm (Qz f) U f.length x s (f.length - k) k=T) (fun d _=>f.length - (intOf d).toNat)
   case atStart=>exact⟨0,yu _,rfl,O,HG4,HK4,D⟩
   case round=>
    obtain⟨k,hk,rfl,hS,hG,hK,hT⟩:=hrel;clear D;by_cases hlt:k<f.length
    .have hltI:(k:Int)<(f.length:Int):=om;rw[show f.length - k=(f.length - (k+1))+1 by omega,Gm]at hT;have D:=zb hT;clear hT;have hid2:(x:Int) / 4+(k:Int)=((x / 4+k:Nat):Int):=om;have hib2:x / 4+k<=4000:=om;generalize x / 4+k=m at *;have hq2:(m:Int) % (f.length:Int)=((m % f.length:Nat):Int):=sm;have hjl:m % f.length<f.length:=Nat.mod_lt _ om;generalize m % f.length=j at *;have hjI:(j:Int)<(f.length:Int):=om;obtain⟨g',e',d0,d1⟩:=uh M wr hG j hjl;injection e' with e';injection e' with e';subst e';obtain⟨hpz,ou,lu⟩:=uh N j hjl;generalize Qz f j=p at *;generalize U j=u at *;have h0:=PV ou;have h0I:(0:Int)<((ze (ct u)).size:Int):=om;obtain⟨c,hc,c5,c6⟩:=TA ou h0;have F:=ZO wr (χ #[.string p,σ (ze (ct u))] 256);have L:=yH wr (χ #[.string p,σ (ze (ct u))] 256);have K:=zb (hS.below F);have W:=zb (JF hG (YV (r:=η rb) F));have X:=zb ((F.block g9 (yC.1 hK).1).trans hK);have E:Hid (∀ wx,Below (wr.alloc (χ #[.string p,σ (ze (ct u))] 256)).heap.size (wr.alloc (χ #[.string p,σ (ze (ct u))] 256)) wx->wx.cell? ⟨wr.heap.size,0,ν⟩=η (.string p)/\wx.cell? ⟨wr.heap.size,1,ν⟩=η (σ (ze (ct u)))):=fun wx hb=>by
      have k:=(hb.block _ (yC.1 L).1).trans L;exact⟨yG k 0,yG k 1⟩
     obtain⟨y0,y1⟩:=uh E _ (yI _ _);have hnp:=(uh Y u wr ou lu).1;have Z:=zb fun wx=>(uh Y u wx ou lu).2;clear F L lu N M Y hS hG hK;by_cases C:c=123
     .have f1:(((ze (ct u))[0].toNat:Int) ==123)=ξ:=by rw[hc,C];rfl
      have A:Hid ((if 252<=x then p++RV x else p++⟨(ZA [ze (QI (x / 4))]).toArray⟩)=T):=by
       have:=uh D;unfold UA at this;rw[yg (c6.1 C)]at this;exact this
      clear hc C c5 c6 Z G D;by_cases Q:252<=x
      .have e252:(252:Int)<=(x:Int):=om;have l:=uh A;rw[yg Q]at l;have D:=zb l;clear HK I W X A l;have hx3:x=252∨x=253∨x=254:=om;have hs3:(9223372036854775807<p.size+2)=False:=yR om;have hs4:(9223372036854775807<p.size+3)=False:=yR om;have hs5:(9223372036854775807<p.size+4)=False:=yR om;have HA:Hid (∀ wx:Wo,Below (wr.alloc (χ #[.string p,σ (ze (ct u))] 256)).heap.size (wr.alloc (χ #[.string p,σ (ze (ct u))] 256)) wx->∀ o,DX B rb w q2 (wx.alloc o).drew):=fun wx hb o=>(((uh K).below hb).below (ZO _ _)).below (yI _ _).drew;have y0':(wr.alloc (χ #[.string p,σ (ze (ct u))] 256)).drew.cell? ⟨wr.heap.size,0,ν⟩=η (.string p):=y0;go_wp2_with fail;generalize hwe:wr.alloc _=V at *;have hlt5:wr.heap.size<V.heap.size:=yK _ _ y0;have y2:=fun o=>(uh E _ ((ZO V o).trans (yI _ _).drew)).1;rcases hx3 with rfl | rfl | rfl
       all_goals
        go_region
        all_goals
         go_wp2;go_ret;exact by rw[← uh D];exact⟨rfl,uh HA V (yI _ _) _⟩
      .have e252:¬ (252:Int)<=(x:Int):=om;have l:=uh A;rw[yf Q]at l;have D:=zb l;have y0':(wr.alloc (χ #[.string p,σ (ze (ct u))] 256)).drew.cell? ⟨wr.heap.size,0,ν⟩=η (.string p):=y0;clear A l;go_wp2_with fail;generalize wr.alloc _=V at *;have hx4:(x:Int) / 4=((x / 4:Nat):Int):=om;have hx5:x / 4<=255:=om;have htl:=Wy (x / 4);have htp:=OJ (x / 4);clear hid hid2 hq hq2 W X Q;generalize x / 4=a at *;have hwa:IntKind.i64.wrap (a:Int)=(a:Int):=by rw[Ξ];omega
       have hwd:Int.tdiv (x:Int) 4=(a:Int):=by rw[Int.tdiv_eq_ediv_of_nonneg om];exact hx4
       have hwx:IntKind.i64.wrap (x:Int)=(x:Int):=by rw[Ξ];omega
       have HKA:=zb fun w=>uh HK a hx5 w;generalize QI a=t at *;have HPX:=zb fun wx b hb=>uh I t wx b htl hb;have htz:=X1 (ZA [ze t]);have htb:(⟨(ZA [ze t]).toArray⟩:Bs).size<=7:=om;generalize (⟨(ZA [ze t]).toArray⟩:Bs)=tb at *;have hs6:(9223372036854775807<p.size+tb.size)=False:=yR om;clear HK I htz htp;have HAL:=zb fun o=>(ZO V o).trans (yI _ _).drew;have y6:=(uh E _ (uh HAL (χ #[σ (ze t)] 9))).1;go_region_law (first
        |(go_simp;go_call uh HPX _ V.heap.size (show ((V.alloc (χ #[σ (ze t)] 9)).drew).heap[V.heap.size]?=_ from yH V _) as e w7 ⟨rfl,b7⟩;have b7':=zh (uh HAL _) b7;have z7:=(uh E w7 b7').1)
        |(go_simp;go_call uh HKA _ as e w6 ⟨rfl,rfl⟩))
       all_goals
        have P:=zb ((uh K).below b7');clear b7 b7' z7 y6 y0 y1 y0' HKA HPX E HAL K;go_wp2;go_ret;exact by rw[← uh D];exact⟨rfl,P⟩
     .have f1:(((ze (ct u))[0].toNat:Int) ==123)=ζ:=by rw[hc,yd];omega
      by_cases R:c=91
      .have f2:(((ze (ct u))[0].toNat:Int) ==91)=ξ:=by rw[hc,R];rfl
       have A:Hid ((if x % 3=0 then p++⟨#[47,45]⟩else p++⟨#[47]⟩++ze (Zj (x / 4 % ((zl u).length+1))))=T):=by
        have:=uh D;unfold UA at this;rw[yf (fun h=>C (c6.2 h)),yg (c5.1 R)]at this;exact this
       clear hc C R c5 c6 HK I D;generalize (zl u).length=n at *;go_wp2_with fail;generalize wr.alloc _=V at *;go_call uh Z _ as e w6 ⟨xa,xc,rfl,b6⟩;have z0:=(uh E w6 b6).1;have HS6:=zb ((uh K).below b6);have HB6:=zb b6;have hx4:(x:Int) / 4=((x / 4:Nat):Int):=om;have hx5:x / 4<=63:=om;clear Z b6 y0 y1 K W X hid hid2 hq hq2;generalize x / 4=a at *;by_cases ab:x % 3=0
       .have e30:(x:Int) % 3=0:=om;have l:=uh A;rw[yg ab]at l;have D:=zb l;clear ab G E HB6 A l;go_wp2;go_ret;exact by rw[← uh D];exact⟨rfl,HS6⟩
       .have e30:((x:Int) % 3 ==0)=ζ:=by simp only[yd,ne_eq];omega
        have l:=uh A;rw[yf ab]at l;obtain⟨H,hN1⟩:∃ H:Nat,H=n+1:=⟨_,rfl⟩;rw[← hN1]at l;have D:=zb l;have hnI:(n:Int)+1=(H:Int):=om;have hN0:(H:Int)≠0:=om;have hq3:(a:Int) % (H:Int)=((a % H:Nat):Int):=sm;have hq4:a % H<=255:=by have:=Nat.mod_le a H;omega
        have hwN:IntKind.i64.wrap (H:Int)=(H:Int):=by rw[Ξ];omega
        have hwa:IntKind.i64.wrap (a:Int)=(a:Int):=by rw[Ξ];omega
        have htm:Int.tmod (a:Int) (H:Int)=((a % H:Nat):Int):=rfl;have hN2:(H=0)=False:=yR om;clear hN1 ab A l;generalize a % H=r at *;have hdl:=(uh G r w6 hq4).1;have HDR:=zb fun wx=>(uh G r wx hq4).2;have hdz:(ze (Zj r)).size<=10:=by rw[zL];exact hdl
        generalize ze (Zj r)=tb at *;have z0':w6.drew.cell? ⟨wr.heap.size,0,ν⟩=η (.string p):=z0;have HBD:=zb ((uh HB6).drew);have HSD:=zb ((uh HS6).below (yI _ _).drew);have hs1:(9223372036854775807<p.size+1)=False:=yR om;have hs2:(9223372036854775807<p.size+1+tb.size)=False:=yR om;clear G hdl;go_wp2_with fail;go_region_law (go_simp;go_call uh HDR _ as e w7 ⟨rfl,b7⟩;have z7:=(uh E w7 (zh HBD b7)).1)
        all_goals
         have P:=zb ((uh HSD).below b7);clear b7 z7 z0 z0' HDR E HB6 HBD HS6 HSD;go_wp2;go_ret;exact by rw[← uh D];exact⟨rfl,P⟩
      .have f2:(((ze (ct u))[0].toNat:Int) ==91)=ζ:=by rw[hc,yd];omega
       have A:Hid (Gm (Qz f) U f.length x s (f.length - (k+1)) (k+1)=T):=by
        have:=uh D;unfold UA at this;rw[yf (fun h=>C (c6.2 h)),yf (fun h=>R (c5.2 h))]at this;exact this
       clear hc C R c5 c6 Z HK I G D;go_wp2;go_roundw
       case rel=>exact⟨k+1,om,by go_num,K,W,X,A⟩
       case measure=>simp[intOf];omega
    .have hltI:¬ (k:Int)<(f.length:Int):=om;rw[show f.length - k=0 by omega,Gm]at hT;have D:=zb hT;have P:=zb hS;have c9:=(Oj hK).1;clear hS hG hK HK I Y G M N hT;go_wp2;go_ret;exact by rw[← uh D];exact⟨rfl,P⟩
  .have c9:=(Oj HK4).1;have z:=uh J;rw[yf S]at z;subst z;clear J
   cases ad with
   | false=>
    go_wp2;go_ret;exact⟨rfl,O⟩
   | true=>
    have e3:¬ (x:Int) % 4<3:=by have:¬ x % 4<3:=fun h=>S ⟨rfl,h⟩;omega
    clear S;go_wp2;go_ret;exact⟨rfl,O⟩
theorem zcV(h:zz u)(h0:0<(ze (ct u)).size):((((ze (ct u))[0]).toNat:Int) !=34)=!(kd u ==4):=by
 obtain⟨c,r,e,f⟩:=Uc h;have d:((ze (ct u))[0]).toNat=c.toNat:=by
  rw[← Zx _ 0 h0,e];exact (VX (c:=c) (r:=r)).2
 rw[d,← f];unfold fb;by_cases b:c.toNat=34
 .rw[b];rfl
 .have a:((c.toNat:Int) !=34)=ξ:=so;rw[a];symm;rw[Bool.not_eq_true',yd]
  repeat (first |(split;omega) | split)
  all_goals omega
theorem RY(h:zz u):0<(ze (ct u)).size:=by
 rw[zL]
 cases e:ct u with
 | nil=>exact absurd e (Pb u h)
 | cons _ _=>simp
theorem zcW(m:JM)(hok:zz (.obj m))(htw:zF (.obj m)=ζ)(hl:(ct (.obj m)).length<=1000000)(key:List UInt8)(pv:ω)(w:Wo)(h:PR w B pv (zl (.obj m))):
  δ prog 125 #[pv,σ (ze key)] w fun e w'=>e=ε (τ #[σ (ze ((Zk (.obj m) key).getD [])),θ (Zk (.obj m) key).isSome])/\Below w w w':=by
 have J:=Wx hok hl;have D:=zb (Pt B pv (zl (.obj m)) key w h om);obtain⟨x,z,rfl⟩:∃ x z,pv=ς x (zl (.obj m)).length z:=by
  rcases h.2 with ⟨b,r⟩ |⟨g,q,F,b,_⟩
  .exact⟨ν,0,by rw[b,r]⟩
  .exact⟨_,_,b⟩
 have C:Hid (∀ j (hj:j<(zl (.obj m)).length),∃ g,x=η ⟨g,0,ν⟩/\w.cell? ⟨g,j*2+1,ν⟩=η (σ (ze (zl (.obj m))[j].2))):=fun j hj=>by
  obtain⟨g,q,b,_,_,_,s⟩:=h.cells j hj;injection b with b _ _;exact⟨g,b,s⟩
 have o:Hid ((∀ j (hj:j<(zl (.obj m)).length),(zl (.obj m))[j].1≠key)->Zk (.obj m) key=ν):=fun hk=>by unfold Zk;rw[Pp hk];rfl
 have d:Hid (∀ j (hj:j<(zl (.obj m)).length),(zl (.obj m))[j].1=key->∃ u,(zl (.obj m))[j].2=ct u/\Zk (.obj m) key=Gh u/\zz u/\(ct u).length<=1000000):=fun j hj hk=>by
  obtain⟨u,k,H⟩:=Po hok htw (fun ⟨l,e⟩=>by cases e) hj hk;obtain⟨E,_,M,_⟩:=GJ k hok htw;exact⟨u,H,by unfold Zk;rw[k];rfl,E,om⟩
 generalize zl (.obj m)=L at *;generalize Zk (.obj m) key=sm at *;go_in;go_wp2_with fail;go_call D as e w1 ⟨rfl,⟨rfl,hk⟩ |⟨j,hj,rfl,hk⟩⟩
 .obtain rfl:=uh o hk;go_wp2;go_ret2;exact⟨rfl,yI _ _⟩
 .obtain⟨u,k,rfl,n,N⟩:=uh d j hj hk;obtain⟨g,rfl,s⟩:=uh C j hj;have I:(j:Int)<(L.length:Int):=om;rw[k]at s;have r:=RY n;have G:(0:Int)<((ze (ct u)).size:Int):=om;have f:=zcV n r;by_cases a:kd u=4
  .obtain⟨l,rfl⟩:∃ l,u= .str l:=by cases u<;>first | exact⟨_,rfl⟩ |(simp[kd]at a)
   have i:Μ l=ξ:=by rw[zz]at n;exact n
   have K:=GF l (ze (ct (.str l))) [] i 0 (by rw[Zb,List.drop_zero,yT];rfl);have y:=zb (U2 (ze (ct (.str l))) 0 w (by rw[zL];omega) om);rw[K]at y;rw[show (!(kd (.str l) ==4))=ζ from rfl]at f;have p:Hid (Gh (.str l)=η l):=rfl;generalize ze (ct (.str l))=T at *;go_wp2_with fail;go_call y as e w2 ⟨b2,he⟩;obtain rfl:e=ε (τ #[σ (ze l),ι κ ((0+(quoted l).length:Nat):Int),θ ξ]):=he;have A:=zb b2;generalize 0+(quoted l).length=O at *;go_wp2;go_ret2;exact⟨by rw[uh p];rfl,A⟩
  .have v:(!(kd u ==4))=ξ:=by simp[a]
   rw[v]at f;have p:Hid (Gh u=ν):=by show _=_;cases u<;>first | rfl | exact absurd rfl a
   generalize ze (ct u)=T at *;go_wp2;go_ret2;exact⟨by rw[uh p];rfl,yI _ _⟩
theorem TD{α:Type} [DecidableEq α]:∀ (a b:List α),a.Nodup->(∀ x∈a,x∈b)->b.length<=a.length->a.Perm b
 | [],b,_,_,h=>by
  have:b=[]:=List.length_eq_zero_iff.1 (by simpa using h);rw[this]
 | x :: r,b,hn,hs,h=>by
  have hx:=hs x yq;rw[Η]at hn;have f:(b.erase x).length+1=b.length:=by
   rw[List.length_erase_of_mem hx];have:=List.length_pos_of_mem hx;omega
  have d:=TD r (b.erase x) hn.2 (fun y hy=>(List.mem_erase_of_ne (by intro e;subst e;exact hn.1 hy)).2 (hs y (yw _ hy))) (by rw[yp]at h;omega);exact (d.cons x).trans (List.perm_cons_erase hx).symm
theorem zcX{α β:Type}{l:List (α×β)}(h:(l.map (·.1)).Nodup):l.Nodup:=by
 unfold List.Nodup at h ⊢;rw[List.pairwise_map]at h;exact h.imp fun hab e=>hab (by rw[e])
theorem RZ{α β:Type}:∀ {l:List (α×β)} {p q:α×β},(l.map (·.1)).Nodup->p∈l->q∈l->p.1=q.1->p=q
 | [],_,_,_,h,_,_=>by cases h
 | x :: r,p,q,hn,hp,hq,e=>by
  rw[yi,Η]at hn;rcases Ε.1 hp with e1 | hp
  .rcases Ε.1 hq with e2 | hq
   .rw[e1,e2]
   .exact absurd (yP.2 ⟨q,hq,by rw[← e,e1]⟩) hn.1
  .rcases Ε.1 hq with e2 | hq
   .exact absurd (yP.2 ⟨p,hp,by rw[e,e2]⟩) hn.1
   .exact RZ hn.2 hp hq e
theorem TE{m:JL}(hl:zx (.arr l))(hm:zx (.arr m)):ct (.arr l)=ct (.arr m)↔l.toL.map ct=m.toL.map ct:=by
 rw[← Qd,← Qd];constructor
 .intro h;have a:=hl.ok;have b:=hm.ok;rw[zz]at a b;exact ziU a b h
 .intro h;rw[ct,ct,h]
theorem TF{k:JM}(hk:zx (.obj k))(hm:zx (.obj m)):ct (.obj k)=ct (.obj m)↔k.toL.length=m.toL.length/\∀ q∈k.toL,∃ u,(q.1,u)∈m.toL/\ct q.2=ct u:=by
 have gk:=(Jv k).1 hk;constructor
 .intro h;have f:=hk.ok;have g:=hm.ok;rw[zz]at f g;have a:(zm k).Perm (zm m):=(Qc _).symm.trans ((ziV f g h) ▸ Qc _);rw[Qn,Qn]at a;refine⟨by simpa using a.length_eq,fun q b=>?_⟩;obtain⟨n,d,e⟩:=yP.1 (a.subset (yP.2 ⟨q,b,rfl⟩));injection e with e1 e2;exact⟨n.2,by rw[← e1];exact d,e2.symm⟩
 .rintro⟨o,j⟩;have i:((zm k).map (·.1)).Nodup:=by rw[Qn,Θ];exact gk.1
  have a:(zm k).Perm (zm m):=TD _ _ (zcX i) (fun x hx=>by
   rw[Qn]at hx;obtain⟨q,b,rfl⟩:=yP.1 hx;obtain⟨u,l,e⟩:=j q b;rw[Qn];exact yP.2 ⟨(q.1,u),l,by rw[e]⟩) (by rw[Qn,Qn,yl,yl];omega)
  rw[ct,ct,OK a i]
theorem TG(h:u∈l.toL):(ct u).length<=(ct (.arr l)).length:=by
 have b:ct (.arr l)=qg (zu l):=by rw[ct]
 rw[b,Qd];have d:(ct u).length+1<=((l.toL.map ct).map fun t=>t.length+1).sum:=by
  have:∀ (L:List JV),u∈L->(ct u).length+1<=((L.map ct).map fun t=>t.length+1).sum:=by
   intro L;induction L with
   | nil=>intro h;cases h
   | cons x r ih=>
    intro h;rw[yi,yi,yM];rcases Ε.1 h with rfl | h
    .omega
    .have:=ih h;omega
  exact this _ h
 have a:l.toL.map ct≠[]:=by intro e;rw[List.map_eq_nil_iff]at e;rw[e]at h;cases h
 have:=LE _ a;show _<=(91 ::(joinC (l.toL.map ct)++[93])).length
 simp only[yp,yh,yE];omega
