import Derived.Test.YtpaecnbdoljafaaGreatDoorBp10
import Derived.Test.YtpaecnbdoljafaaGreatDoorBp12
set_option maxRecDepth 100000
set_option maxHeartbeats 8000000
namespace Go.Proofs.YtpaecnbdoljafaaGreatDoor
open Go.RowKit Go.Proofs.Tryz
def We:JV->Option (List UInt8)
 | .str l=>some l
 | _=>none
def ZA(v:JV)(key:List UInt8):Option (List UInt8):=(zL v key).bind We
def ZO(t:List UInt8):Int:=if t=Zk 1 then 1 else if t=Zk 2 then 2 else if t=Zk 3 then 3 else if t=Zk 4 then 4 else if t=Zk 5 then 5 else if t=Zk 6 then 6 else 0
theorem Tv{t:List UInt8}{k:Int}(h1:1<=k)(h6:k<=6):(Zk k ==t)=(k ==ZO t):=by
 have m:k=1∨k=2∨k=3∨k=4∨k=5∨k=6:=by omega
 have d:∀ a b:List UInt8,(a ==b)=decide (a=b):=fun a b=>by rw[Bool.eq_iff_iff,yB,decide_eq_true_eq]
 rw[d];unfold ZO;rcases m with rfl | rfl | rfl | rfl | rfl | rfl
 all_goals (
  by_cases f:t=Zk 1
  ·subst f;decide
  ·rw[ye f];by_cases g:t=Zk 2
   ·subst g;decide
   ·rw[ye g];by_cases h:t=Zk 3
    ·subst h;decide
    ·rw[ye h];by_cases i:t=Zk 4
     ·subst i;decide
     ·rw[ye i];by_cases j:t=Zk 5
      ·subst j;decide
      ·rw[ye j];by_cases l:t=Zk 6
       ·subst l;decide
       ·rw[ye l];rw[yj (fun e=>by first | exact f e.symm | exact g e.symm | exact h e.symm | exact i e.symm | exact j e.symm | exact l e.symm)];decide)
theorem Pm(t:List UInt8):0<=ZO t/\ZO t<=6:=by
 unfold ZO
 repeat' split
 all_goals omega
def qC(v:JV):Int:=match ZA v qU with
 | some t=>ZO t
 | none=>0
def Qd(v:JV):zk:=⟨qC v,zi ((ZA v ZS).getD []),if Zh (qC v)then zi ((ZA v qA).getD [])else ⟨#[]⟩,if zY (qC v)then zi (((zL v Qj).map ct).getD [])else ⟨#[]⟩⟩
def qi(v:JV):Bool:=decide (qC v≠0) && (ZA v ZS).isSome && (!Zh (qC v) ||(ZA v qA).isSome) && (!zY (qC v) ||(zL v Qj).isSome) &&
 (zG ((ZA v ZS).getD [])).isSome && (!Zh (qC v) ||(zG ((ZA v qA).getD [])).isSome)
theorem Tw(v:JV):0<=qC v/\qC v<=6:=by
 unfold qC;split
 ·exact Pm _
 ·omega
theorem Tx{v:JV}(hK:qC v≠0)(hp:(ZA v ZS).isSome=true)(hf:Zh (qC v)=true->(ZA v qA).isSome=true)(hv:zY (qC v)=true->∃ u,zL v Qj=some u/\Z1 (zi (ct u))=true):Zp (Qd v)=qi v:=by
 obtain⟨m,j⟩:=Tw v;have d:decide (1<=qC v)=true:=yi (by omega);have f:decide (qC v<=6)=true:=yi j;have g:decide (qC v≠0)=true:=yi hK;have a:(⟨#[]⟩:Bs).toList=[]:=by rw[ByteArray.toList_eq]
 unfold Zp qi Qd;simp only[d,f,g,hp,Bool.true_and,Zd]
 cases hF:Zh (qC v)with
 | true=>
  have b:zY (qC v)=false:=by
   unfold Zh at hF;unfold zY;simp only[Bool.or_eq_true,yB]at hF;rcases hF with h | h<;>rw[h]<;>rfl
  have i:=hf hF;simp[b,i,a,Zd]
 | false=>
  cases b:zY (qC v)with
  | true=>
   obtain⟨u,l,k⟩:=hv b;simp[l,k,a]
  | false=>simp[a]
structure Qe(v:JV):Prop where
 rd:Zj v
 big:zD v=false
 dep:zE v<=100
 cnt:zo v<=3000
 tw:zw v=false
 ok:zy v
 len:(ct v).length<=20000
theorem Pn:∀ {l:JL} {u:JV},Qb l->ZU l=false->u∈l.toL->Zj u/\zD u=false/\zE u<=Jt l
 | .nil,u,_,_,h=>by simp[JL.toL]at h
 | .cons v r,u,h1,h2,h=>by
  rw[Qb]at h1;rw[ZU,Bool.or_eq_false_iff]at h2;rw[JL.toL,List.mem_cons]at h;rw[Jt];rcases h with rfl | h
  ·exact⟨h1.1,h2.1,Nat.le_max_left _ _⟩
  ·obtain⟨a,b,c⟩:=Pn h1.2 h2.2 h;exact⟨a,b,yO c (Nat.le_max_right _ _)⟩
theorem Qe.of{s:Bs}{v:JV}(h:Zo s= .inr v):Qe v:=by
 obtain⟨i,a,b,d,f,g⟩:=UK h;exact⟨Lk a,d,f,g,b,(Gw a).1,by have:=E9 a;omega⟩
theorem Qe.item{l:JL}{u:JV}(h:Qe (.arr l))(hu:u∈l.toL):Qe u:=by
 obtain⟨j,i,rfl⟩:=List.mem_iff_getElem.1 hu;have a:j<(qS 0 l.toL).length:=by rw[Xm];exact i
 have b:(zP j,l.toL[j])∈zZ (.arr l):=by
  have e:=OJ l.toL 0 j a;rw[Nat.zero_add]at e;show _∈qS 0 l.toL
  rw[← e];exact yq a
 obtain⟨f,g,k,m⟩:=WH h.ok h.tw b;simp only at f g k m;have d:=Pn h.rd h.big hu;have n:=WI (.arr l);have o:zo l.toL[j]<=_:=Vx (fun q=>zo q.2) b;have r:=h.dep;have p:=h.cnt;have s:=h.len;exact⟨d.1,d.2.1,by omega,by omega,g,f,by omega⟩
def Jm(s:Bs):List zk×Int×Int:=match Zo s with
 | .inl _=>([],1,0)
 | .inr (.arr l)=>if 100<l.toL.length then ([],3,100)else match l.toL.findIdx? (fun v=>!qi v)with
  | some i=>([],4,i)
  | none=>(l.toL.map Qd,0,0)
 | .inr _=>([],2,0)
structure zI(v:JV):Prop where
 rd:Zj v
 big:zD v=false
 tw:zw v=false
 ok:zy v
theorem Qe.t{v:JV}(h:Qe v):zI v:=⟨h.rd,h.big,h.tw,h.ok⟩
theorem Kt:∀ l:JL,Z8 l↔∀ v∈l.toL,zy v
 | .nil=>by rw[Z8];simp[JL.toL]
 | .cons v r=>by rw[Z8,Kt r,JL.toL];simp
theorem Ku:∀ m:JM,Z6 m↔∀ q∈m.toL,Lib.validD q.1=true/\zy q.2
 | .nil=>by rw[Z6];simp[JM.toL]
 | .cons k v r=>by rw[Z6,Ku r,JM.toL];simp[and_assoc]
theorem Po(m:JM):ZF m=false↔∀ q∈m.toL,zD q.2=false:=by
 constructor
 ·intro h q a
  cases hb:zD q.2 with
  | false=>rfl
  | true=>rw[(WJ m).2 ⟨q,a,hb⟩]at h;cases h
 ·intro h
  cases hb:ZF m with
  | false=>rfl
  | true=>obtain⟨q,a,e⟩:=(WJ m).1 hb;rw[h q a]at e;cases e
theorem Vl(l:JL):zI (.arr l)↔∀ u∈l.toL,zI u:=by
 constructor
 ·rintro⟨b,d,f,g⟩ u a;rw[Zj,Kq]at b;rw[zD,Ks]at d;rw[zw,Kr]at f;rw[zy,Kt]at g;exact⟨b u a,d u a,f u a,g u a⟩
 ·intro h;refine⟨?_,?_,?_,?_⟩
  ·rw[Zj,Kq];exact fun u a=>(h u a).rd
  ·rw[zD,Ks];exact fun u a=>(h u a).big
  ·rw[zw,Kr];exact fun u a=>(h u a).tw
  ·rw[zy,Kt];exact fun u a=>(h u a).ok
theorem YW(m:JM):zI (.obj m)↔(m.toL.map (·.1)).Nodup/\∀ q∈m.toL,Lib.validD q.1=true/\zI q.2:=by
 constructor
 ·rintro⟨a,d,b,f⟩;rw[Zj,UR]at a;rw[zD,Po]at d;rw[zw,WK]at b;rw[zy,Ku]at f;exact⟨b.2.1,fun q hq=>⟨(a q hq).1,(a q hq).2,d q hq,b.1 q hq,(f q hq).2⟩⟩
 ·rintro⟨g,h⟩;refine⟨?_,?_,?_,?_⟩
  ·rw[Zj,UR];exact fun q hq=>⟨(h q hq).1,(h q hq).2.rd⟩
  ·rw[zD,Po];exact fun q hq=>(h q hq).2.big
  ·rw[zw,WK];exact⟨fun q hq=>(h q hq).2.tw,g,fun q _=>by simp⟩
  ·rw[zy,Ku];exact fun q hq=>⟨(h q hq).1,(h q hq).2.ok⟩
theorem zI.child{v u:JV}{t:List UInt8}(h:zI v)(hc:zL v t=some u):zI u:=by
 cases v with
 | arr l=>
  rw[Ja]at hc;obtain⟨i,_,a⟩:=Option.bind_eq_some_iff.1 hc;exact (Vl l).1 h u (List.mem_of_getElem? a)
 | obj m=>
  rw[YN]at hc;obtain⟨q,b,e⟩:=yy.1 hc;rw[← e];exact (((YW m).1 h).2 q (List.mem_of_find?_eq_some b)).2
 | _=>cases hc
theorem Ga(v:JV):Za v []=some v:=by simp[Za]
theorem YX(v:JV)(t:List UInt8)(ts:List (List UInt8)):Za v (t :: ts)=(zL v t).bind fun u=>Za u ts:=by rw[Za]
theorem zI.get:∀ {ts:List (List UInt8)} {v u:JV},zI v->Za v ts=some u->zI u
 | [],v,u,h,e=>by
  rw[Ga]at e;injection e with e;subst e;exact h
 | t :: ts,v,u,h,e=>by
  rw[YX]at e
  cases hc:zL v t with
  | none=>rw[hc]at e;cases e
  | some x=>rw[hc]at e;exact zI.get (h.child hc) e
def QC(v:JV)(t:List UInt8)(u:JV):JV:=match v with
 | .arr l=>match qJ t with
  | some i=>.arr (JL.ofL (l.toL.set i u))
  | none=>.arr l
 | .obj m=>.obj (JM.ofL (m.toL.map fun q=>if q.1=t then (q.1,u)else q))
 | v=>v
def q9(v:JV)(t:List UInt8):JV:=match v with
 | .arr l=>match qJ t with
  | some i=>.arr (JL.ofL (l.toL.eraseIdx i))
  | none=>.arr l
 | .obj m=>.obj (JM.ofL (m.toL.filter fun q=>!(q.1 ==t)))
 | v=>v
def Qr(v:JV)(t:List UInt8)(u:JV):Option JV:=match v with
 | .arr l=>match (if t=[45]then some l.toL.length else qJ t)with
  | some i=>if i<=l.toL.length then some (.arr (JL.ofL (l.toL.take i++u :: l.toL.drop i)))else none
  | none=>none
 | .obj m=>if Lib.validD t=true then some (if (zL (.obj m) t).isSome then QC (.obj m) t u else .obj (JM.ofL (m.toL++[(t,u)])))else none
 | _=>none
def ZP:JV->List (List UInt8)->JV->JV
 | _,[],u=>u
 | v,t :: ts,u=>match zL v t with
  | some c=>QC v t (ZP c ts u)
  | none=>v
theorem W2(v u:JV):ZP v [] u=u:=by rw[ZP]
theorem Wf{v c:JV}{t:List UInt8}{ts:List (List UInt8)}{u:JV}(h:zL v t=some c):ZP v (t :: ts) u=QC v t (ZP c ts u):=by rw[ZP,h]
theorem Pp:∀ (ts:List (List UInt8)) (v h c:JV) (t:List UInt8) (u:JV),Za v ts=some h->zL h t=some c->ZP v (ts++[t]) u=ZP v ts (QC h t u)
 | [],v,h,c,t,u,e,hc=>by
  rw[Ga]at e;injection e with e;subst e;rw[List.nil_append,W2,Wf hc,W2]
 | x :: ts,v,h,c,t,u,e,hc=>by
  rw[YX]at e
  cases hx:zL v x with
  | none=>rw[hx]at e;cases e
  | some y=>
   rw[hx]at e;rw[List.cons_append,Wf hx,Wf hx,Pp ts y h c t u e hc]
def JW(f:JV->Option JV)(v:JV)(ts:List (List UInt8)):Option JV:=((Za v ts).bind f).map (ZP v ts)
def Ys(ts:List (List UInt8)):List UInt8:=ts.getLast?.getD []
def Qk(v:JV)(ts:List (List UInt8))(u:JV):Option JV:=if ts=[]then some u else JW (fun h=>Qr h (Ys ts) u) v ts.dropLast
def W6(h:JV)(t:List UInt8):Option JV:=(zL h t).map fun _=>q9 h t
def Jn(v:JV)(ts:List (List UInt8)):Option JV:=if ts=[]then none else JW (fun h=>W6 h (Ys ts)) v ts.dropLast
structure W7 where
 kind:Int
 path:List (List UInt8)
 src:List (List UInt8)
 val:JV
def Yt(c:Nat):Option JV->Nat⊕JV
 | none=>.inl c
 | some v=>.inr v
def Qs(v:JV)(o:W7):Nat⊕JV:=
 if o.kind=1 then Yt 3 (Qk v o.path o.val)
 else if o.kind=2 then Yt 3 (Jn v o.path)
 else if o.kind=3 then Yt 3 (JW (fun _=>some o.val) v o.path)
 else if o.kind=4 then match Za v o.src with
  | none=>.inl 3
  | some m=>if o.src=o.path then .inr v else if o.src.isPrefixOf o.path then .inl 6 else match Jn v o.src with
   | none=>.inl 3
   | some r=>Yt 3 (Qk r o.path m)
 else if o.kind=5 then match Za v o.src with
  | none=>.inl 3
  | some m=>Yt 3 (Qk v o.path m)
 else match Za v o.path with
  | none=>.inl 3
  | some h=>if ct h=ct o.val then .inr v else .inl 5
def Fa(v:JV):Bool:=decide (zE v<=100) && decide (zo v<=3000) && decide ((ct v).length<=20000)
theorem Pq{v u c:JV}{t:List UInt8}(h:zI v)(hu:zI u)(hc:zL v t=some c):zI (QC v t u):=by
 cases v with
 | arr l=>
  rw[Ja]at hc;obtain⟨i,d,_⟩:=Option.bind_eq_some_iff.1 hc;have e:QC (.arr l) t u= .arr (JL.ofL (l.toL.set i u)):=by simp only[QC,d]
  rw[e,Vl,JL.toL_ofL];intro x hx;rcases List.mem_or_eq_of_mem_set hx with hx | rfl
  ·exact (Vl l).1 h x hx
  ·exact hu
 | obj m=>
  have a:=(YW m).1 h;show zI (.obj (JM.ofL (m.toL.map fun q=>if q.1=t then (q.1,u)else q)))
  rw[YW,JM.toL_ofL];have b:((m.toL.map fun q=>if q.1=t then (q.1,u)else q).map (·.1))=m.toL.map (·.1):=by
   rw[List.map_map];refine List.map_congr_left fun q _=>?_;show (if q.1=t then (q.1,u)else q).1=q.1
   split<;>rfl
  rw[b];refine⟨a.1,fun q hq=>?_⟩;obtain⟨x,hx,rfl⟩:=yN.1 hq;split
  ·exact⟨(a.2 x hx).1,hu⟩
  ·exact a.2 x hx
 | _=>cases hc
theorem Pr{v c:JV}{t:List UInt8}(h:zI v)(hc:zL v t=some c):zI (q9 v t):=by
 cases v with
 | arr l=>
  rw[Ja]at hc;obtain⟨i,b,_⟩:=Option.bind_eq_some_iff.1 hc;have e:q9 (.arr l) t= .arr (JL.ofL (l.toL.eraseIdx i)):=by simp only[q9,b]
  rw[e,Vl,JL.toL_ofL];exact fun x hx=>(Vl l).1 h x (List.mem_of_mem_eraseIdx hx)
 | obj m=>
  have a:=(YW m).1 h;show zI (.obj (JM.ofL (m.toL.filter fun q=>!(q.1 ==t))))
  rw[YW,JM.toL_ofL];refine⟨(List.filter_sublist.map _).nodup a.1,fun q hq=>a.2 q ((List.mem_filter.1 hq).1)⟩
 | _=>cases hc
theorem Ps{v u r:JV}{t:List UInt8}(h:zI v)(hu:zI u)(hp:Qr v t u=some r):zI r:=by
 cases v with
 | arr l=>
  simp only[Qr]at hp;split at hp
  ·split at hp
   ·injection hp with hp;subst hp;rw[Vl,JL.toL_ofL];intro x hx;rw[List.mem_append,List.mem_cons]at hx;rcases hx with hx | rfl | hx
    ·exact (Vl l).1 h x (List.mem_of_mem_take hx)
    ·exact hu
    ·exact (Vl l).1 h x (List.mem_of_mem_drop hx)
   ·cases hp
  ·cases hp
 | obj m=>
  simp only[Qr]at hp;split at hp
  ·rename_i hv;injection hp with hp;subst hp
   cases hc:zL (.obj m) t with
   | some c=>exact Pq h hu hc
   | none=>
    have i:=(YW m).1 h;show zI (.obj (JM.ofL (m.toL++[(t,u)])))
    rw[YW,JM.toL_ofL];have g:t ∉ m.toL.map (·.1):=by
     intro f;obtain⟨q,d,e⟩:=yN.1 f;rw[YN,Option.map_eq_none_iff,List.find?_eq_none]at hc;exact hc q d (by simp[e])
    constructor
    ·rw[yv,List.nodup_append];refine⟨i.1,by simp,fun a ha b hb e=>?_⟩;simp at hb;subst hb;subst e;exact g ha
    ·intro q d;rw[List.mem_append,List.mem_singleton]at d;rcases d with d | rfl
     ·exact i.2 q d
     ·exact⟨hv,hu⟩
  ·cases hp
 | _=>cases hp
theorem Pt:∀ {ts:List (List UInt8)} {v u h:JV},zI v->zI u->Za v ts=some h->zI (ZP v ts u)
 | [],v,u,h,_,hu,_=>by rw[W2];exact hu
 | t :: ts,v,u,h,hv,hu,e=>by
  rw[YX]at e
  cases hc:zL v t with
  | none=>rw[hc]at e;cases e
  | some c=>
   rw[hc]at e;rw[Wf hc];exact Pq hv (Pt (hv.child hc) hu e) hc
theorem Fb{f:JV->Option JV}{v r:JV}{ts:List (List UInt8)}(hv:zI v)(hf:∀ h u,zI h->f h=some u->zI u)(h:JW f v ts=some r):zI r:=by
 unfold JW at h;obtain⟨u,b,rfl⟩:=yy.1 h;obtain⟨x,hx,a⟩:=Option.bind_eq_some_iff.1 b;exact Pt hv (hf x u (hv.get hx) a) hx
theorem Fc{v u r:JV}{ts:List (List UInt8)}(hv:zI v)(hu:zI u)(h:Qk v ts u=some r):zI r:=by
 unfold Qk at h;split at h
 ·injection h with h;subst h;exact hu
 ·exact Fb hv (fun x y hx e=>Ps hx hu e) h
theorem Kv{v r:JV}{ts:List (List UInt8)}(hv:zI v)(h:Jn v ts=some r):zI r:=by
 unfold Jn at h;split at h
 ·cases h
 ·refine Fb hv (fun x y hx e=>?_) h;unfold W6 at e;obtain⟨c,a,rfl⟩:=yy.1 e;exact Pr hx a
theorem Yu{c:Nat}{o:Option JV}{r:JV}(h:Yt c o= .inr r):o=some r:=by
 cases o with
 | none=>cases h
 | some x=>injection h with h;rw[h]
theorem Pu{v r:JV}{o:W7}(hv:zI v)(hu:zI o.val)(h:Qs v o= .inr r):zI r:=by
 unfold Qs at h;split at h
 ·exact Fc hv hu (Yu h)
 ·split at h
  ·exact Kv hv (Yu h)
  ·split at h
   ·exact Fb hv (fun x y _ e=>by injection e with e;subst e;exact hu) (Yu h)
   ·split at h
    ·split at h
     ·cases h
     ·rename_i m hm;split at h
      ·injection h with h;subst h;exact hv
      ·split at h
       ·cases h
       ·split at h
        ·cases h
        ·rename_i x hx;exact Fc (Kv hv hx) (hv.get hm) (Yu h)
    ·split at h
     ·split at h
      ·cases h
      ·rename_i m hm;exact Fc hv (hv.get hm) (Yu h)
     ·split at h
      ·cases h
      ·split at h
       ·injection h with h;subst h;exact hv
       ·cases h
def DS(B rb:Nat)(w w':Wo):Prop:=JC w' B rb/\w.grownBy w' (some rb)
theorem DS.below{B rb:Nat}{w w1 w2:Wo}(h:DS B rb w w1)(hb:Bw w1 w2):DS B rb w w2:=
 ⟨h.1.grown (VU (r:=none) hb) (by simp) (fun _ e=>by cases e),J9 h.2 (VU hb)⟩
theorem DS.step{B rb:Nat}{w w1 w2:Wo}(h:DS B rb w w1)(r:JC w2 B rb)(g:w1.grownBy w2 (some rb)):DS B rb w w2:=⟨r,J9 h.2 g⟩
theorem Pv:Zo (zi [48])= .inr (.num [48]):=by rfl
def JX(g:List UInt8->List UInt8×List UInt8)(kq:Nat):Nat->Nat->List zx->List UInt8->List zx×List UInt8
 | 0,_,ps,q=>(ps,q)
 | m+1,i,ps,q=>JX g kq m (i+1) (if Yk ps (qz (i+kq*i))=false then ps++[(qz (i+kq*i),(g q).1)]else ps) (g q).2
def Yv(q:List UInt8):List UInt8×List UInt8:=if (nx q).1 % 6=5 then ZR 4 (nx q).2 else
 (ZD (JX (ZR 3) ((nx q).1 / 32) (2+(nx q).1 / 6 % 3) 0 [] (nx q).2).1,(JX (ZR 3) ((nx q).1 / 32) (2+(nx q).1 / 6 % 3) 0 [] (nx q).2).2)
theorem Fd{g:List UInt8->List UInt8×List UInt8}{kq M:Nat}(hg:∀ q,(g q).1.length<=M):∀ (n i:Nat) (ps:List zx) (q:List UInt8),Je M ps->Je M (JX g kq n i ps q).1/\(JX g kq n i ps q).1.length<=ps.length+n
 | 0,_,ps,q,h=>⟨h,yd _⟩
 | n+1,i,ps,q,h=>by
  rw[JX];split
  ·obtain⟨h1,h2⟩:=Fd (kq:=kq) hg n (i+1) _ (g q).2 (h.snoc (Vf _) (hg q));rw[yg,List.length_singleton]at h2;exact⟨h1,by omega⟩
  ·obtain⟨h1,h2⟩:=Fd (kq:=kq) hg n (i+1) _ (g q).2 h;exact⟨h1,by omega⟩
theorem Ty(q:List UInt8):(Yv q).1.length<=22000:=by
 unfold Yv;split
 ·exact yO (WR 4 _) (by decide)
 ·obtain⟨a,b⟩:=Fd (kq:=(nx q).1 / 32) (WR 3) (2+(nx q).1 / 6 % 3) 0 [] (nx q).2 (fun p hp=>by cases hp);rw[yC]at b;have d:=a.sumT;have g:=L7 (JX (ZR 3) ((nx q).1 / 32) (2+(nx q).1 / 6 % 3) 0 [] (nx q).2).1;have f:GB 3=5258:=by decide
  rw[f]at d;have h:=Nat.mul_le_mul_right (5258+22) (show (JX (ZR 3) ((nx q).1 / 32) (2+(nx q).1 / 6 % 3) 0 [] (nx q).2).1.length<=4 by omega);show (ZD _).length<=_
  omega
theorem Tz(B rb:Nat)(q:List UInt8)(w:Wo)(h:Zy w B rb q):
  Calls prog 82 #[.pointer (some ⟨rb,0,none⟩)] w (DT B rb w (Yv q).1 (Yv q).2):=by
 have P:=h.lt;have S:=zh (QS B rb q w h);have hx:=Qo q;have l:Hid (∀ (q:List UInt8) (w:Wo),Zy w B rb q->Calls prog 130 #[.pointer (some ⟨rb,0,none⟩),.int .i64 3] w (DT B rb w (ZR 3 q).1 (ZR 3 q).2)):=fun q w hr=>Nc 3 3 B rb q w rfl (by omega) hr;have k:Hid (∀ (q:List UInt8) (w:Wo),Zy w B rb q->Calls prog 130 #[.pointer (some ⟨rb,0,none⟩),.int .i64 4] w (DT B rb w (ZR 4 q).1 (ZR 4 q).2)):=fun q w hr=>Nc 4 4 B rb q w rfl (by omega) hr;have A:Hid (∀ q,(ZR 3 q).1.length<=5258):=fun q=>WR 3 q;unfold Yv;clear h;generalize (nx q).1=x at *;generalize (nx q).2=W at *;generalize ZR 3=T at *;by_cases U:x % 6=5
 ·have e:(x:Int) % 6=5:=by omega
  rw[yf U];clear U l A;go_in;go_wp2_with fail;refine (uh S).mono ?_;rintro e y ⟨rfl,F⟩;have HN:=zh (uh k W y F.rd);have HD:=zh F;clear S F k;go_wp2_with fail;refine (uh HN).mono ?_;rintro e w3 ⟨rfl,d3⟩;clear HN;go_wp2;go_ret;exact⟨rfl,(uh HD).step d3⟩
 ·have e:((x:Int) % 6 ==5)=false:=by simp;omega
  rw[ye U];have hnn:2+(x:Int) / 6 % 3=((2+x / 6 % 3:Nat):Int):=by omega
  have hn4:2+x / 6 % 3<=4:=by omega
  have hkq:(x:Int) / 32=((x / 32:Nat):Int):=by omega
  have ab:x / 32<=7:=by omega
  generalize 2+x / 6 % 3=s at *;generalize x / 32=b at *;generalize hRR:JX T b s 0 [] W=RR at *;have f:=zh hRR;clear U k hRR;go_in;go_wp2_with fail;refine (uh S).mono ?_;rintro e y ⟨rfl,F⟩;have af:=F.size;have HO:Hid ((y.alloc (.cells #[] 97)).ownsRow w.heap.size 97 2 (.slice (some ⟨y.heap.size,0,none⟩) 0 0) 0 []):=World.ownsRow_lit y #[] 0 af (by unfold maxLen;omega) rfl;have H:Hid (GX w B rb 5258 (.slice (some ⟨y.heap.size,0,none⟩) 0 0) [] W (y.alloc (.cells #[] 97))):=⟨uh HO,fun p hp=>by (cases hp),F.below (ZJ y _)⟩;clear HO S F;go_wp2_with fail;obtain⟨i0,aa,aj,ak,al⟩:=info_parts Y9;go_loopw [4,5] (fun v i wr=>∃ (j:Nat) (a:List zx) (Q:Option Addr) (R:Nat) (r:List UInt8),v= .slice Q a.length R/\i= .int .i64 j/\j<=s/\a.length<=j/\GX w B rb 5258 (.slice Q a.length R) a r wr/\JX T b (s - j) j a r=RR) (fun _ i _=>s - (intOf i).toNat)
  case atStart=>exact⟨0,[],_,_,W,rfl,rfl,yr _,yd _,uh H,uh f⟩
  case round=>
   obtain⟨j,a,Q,R,r,rfl,rfl,hj,hpl,G,m⟩:=hrel;have D:=zh G;have hws:=G.dx.size;clear G H f;by_cases hlt:j<s
   ·have M:(j:Int)<(s:Int):=by omega
    rw[show s - j=(s - (j+1))+1 by omega,JX]at m;have f:=zh m;clear m;have O:(b:Int)*(j:Int)=((b*j:Nat):Int):=by simp
    have hmb:b*j<=7*4:=Nat.mul_le_mul ab (by omega);have N:(j:Int)+((b*j:Nat):Int)=((j+b*j:Nat):Int):=by omega
    have Y:=zh (WN (j+b*j) wr (by omega));rw[← N,← O]at Y;have ah:=Vf (j+b*j);clear N O;have hb1:(b:Int)*(j:Int)<=28:=by
     have:(b:Int)*(j:Int)=((b*j:Nat):Int):=by simp
     omega
    have hb0:0<=(b:Int)*(j:Int):=by
     have:(b:Int)*(j:Int)=((b*j:Nat):Int):=by simp
     omega
    have HG:=zh (uh l r wr (uh D).dx.rd);have ai:=uh A r;generalize qz (j+b*j)=X at *;generalize (T r).1=t2 at *;generalize (T r).2=r2 at *;go_wp2_with fail;refine (uh Y).mono ?_;rintro e w4 ⟨rfl,rfl⟩;clear Y;go_wp2_with fail;refine (uh HG).mono ?_;rintro e w5 ⟨rfl,d5⟩;have g:=zh ((uh D).next d5 P);have hw5:=(uh g).dx.size;have E:Hid (∀ o:Obj,(w5.alloc o).ownsRow w.heap.size 97 2 (.slice Q a.length R) a.length (a.flatMap zF)):=fun o=>World.ownsRow.alloc (uh g).row o;have HF:=zh (F1 w.heap.size _ a X w5 (uh g).row (by omega));have I:Hid (a.length+1=(a++[(X,t2)]).length):=by show _=_;simp
    clear HG D d5;go_wp2_with fail;refine (uh HF).mono ?_;rintro e w6 ⟨z,rfl,V,rfl⟩;clear HF;by_cases hzz:z<0
    ·have hkk:a.length<=4:=by omega
     have d:=uh f;rw[yf (by rw[← V];simp;omega)]at d;have C:=zh d;clear V d f;go_wp2_with (at_builtin;refine wpList_append_own _ rfl (.tmp 37) (.tmp 41) 94 rfl w.heap.size 97 i0 (.agg #[.string ByteArray.empty,.string ByteArray.empty]) 2 32 underlying94 aa aj ak al rfl (by decide) _ _ _ rfl (uh E _) ⟨w5.heap.size,0,none⟩ 1 1 (zF (X,t2)) rfl rfl (QE _ _ _ _) (fun u hu=>by {simp[zF]at hu;rcases hu with rfl | rfl<;>rfl}) (by unfold maxLen;omega) (by omega) (by simp;omega) ?_);intro v7 w7 n K _;obtain⟨va7,vc7,rfl⟩:=WP n;have J:=zh ((uh g).step ah ai n K P);have L:=uh I;rw[L]at J;clear n K g E I;go_wp2;go_roundw
     case rel=>exact⟨j+1,a++[(X,t2)],va7,vc7,r2,by rw[L],by go_num,by omega,by simp;omega,uh J,uh C⟩
     case measure=>simp[intOf];omega
    ·have d:=uh f;rw[ye (by rw[← V];simp;omega)]at d;have C:=zh d;clear E V d f;go_wp2;go_roundw
     case rel=>exact⟨j+1,a,Q,R,r2,rfl,by go_num,by omega,by omega,uh g,uh C⟩
     case measure=>simp[intOf];omega
   ·have M:¬ (j:Int)<(s:Int):=by omega
    have ad:a.length<=4:=by omega
    obtain rfl:(a,r)=RR:=by rw[← m,show s - j=0 by omega,JX]
    clear m;have ag:=(uh D).key.sumT;have Z:a.length*(5258+22)<=4*(5258+22):=Nat.mul_le_mul_right _ ad;have HV:=zh (VN w.heap.size _ a wr (uh D).row (by omega) (by omega) (fun p hp=>by have:=((uh D).key p hp).1;omega));clear ag Z l A;have hO:(ZD (a,r).1,(a,r).2)=(ZD a,r):=rfl;generalize ZD a=tO at *;go_wp2_with fail;refine (uh HV).mono ?_;rintro e w6 ⟨rfl,b6⟩;clear HV;go_wp2;go_ret;exact⟨rfl,(uh D).dx.below b6⟩
def Gb(t:List UInt8)(u:JV):JV:=match Zo (zi t)with
 | .inr v=>v
 | .inl _=>u
def Kw(q:List UInt8):JV×List UInt8:=(Gb (Yv q).1 Xp,(Yv q).2)
def Yw(q:List UInt8):JV×List UInt8:=(Gb (ZR 2 q).1 (.num [48]),(ZR 2 q).2)
theorem Pw{t:List UInt8}{u:JV}{s:Bs}(hu:Zo s= .inr u):Qe (Gb t u):=by
 unfold Gb;split
 ·rename_i v hv;exact Qe.of hv
 ·exact Qe.of hu
theorem TA(B rb:Nat)(q:List UInt8)(w:Wo)(h:Zy w B rb q):
  Calls prog 37 #[.pointer (some ⟨rb,0,none⟩)] w fun e w'=>e= .returned (.string (zi (ct (Kw q).1)))/\DX B rb w (Kw q).2 w':=by
 have g:=zh (Tz B rb q w h);have m:=Ty q;unfold Kw Gb;clear h;generalize (Yv q).1=t at *;generalize (Yv q).2=n at *;have HC:=zh fun b=>Nd (zi t) b (by rw[zS];omega)
 cases hr:Zo (zi t)with
 | inl c=>
  have i:=D4 hr;have a:ZY (zi t)= .tuple #[.string ⟨#[]⟩,.int .i64 (c:Int)]:=by unfold ZY;rw[hr]
  rw[a]at HC;have j:((c:Int) ==0)=false:=by simp;omega
  have k:((c:Int)=0)=False:=yP (by omega);clear hr i a;go_in;go_wp2_with fail;refine (uh g).mono ?_;rintro e b ⟨rfl,f⟩;go_wp2_with fail;refine (uh HC b).mono ?_;rintro e l ⟨rfl,d⟩;clear HC;go_wp2;go_ret;exact⟨by show _=Ending.returned (.string (zi (ct Xp)));rw[EE];rfl,f.below d⟩
 | inr v=>
  have a:ZY (zi t)= .tuple #[.string (zi (ct v)),.int .i64 0]:=by unfold ZY;rw[hr]
  rw[a]at HC;clear hr a;go_in;go_wp2_with fail;refine (uh g).mono ?_;rintro e b ⟨rfl,f⟩;go_wp2_with fail;refine (uh HC b).mono ?_;rintro e l ⟨rfl,d⟩;clear HC;go_wp2;go_ret;exact⟨rfl,f.below d⟩
theorem TB(B rb:Nat)(q:List UInt8)(w:Wo)(h:Zy w B rb q):
  Calls prog 133 #[.pointer (some ⟨rb,0,none⟩)] w fun e w'=>e= .returned (.string (zi (ct (Yw q).1)))/\DX B rb w (Yw q).2 w':=by
 have g:=zh (Nc 2 2 B rb q w rfl (by omega) h);have m:(ZR 2 q).1.length<=2000:=yO (WR 2 q) (by decide);unfold Yw Gb;clear h;generalize (ZR 2 q).1=t at *;generalize (ZR 2 q).2=n at *;have HC:=zh fun b=>Nd (zi t) b (by rw[zS];omega)
 cases hr:Zo (zi t)with
 | inl c=>
  have i:=D4 hr;have a:ZY (zi t)= .tuple #[.string ⟨#[]⟩,.int .i64 (c:Int)]:=by unfold ZY;rw[hr]
  rw[a]at HC;have j:((c:Int) ==0)=false:=by simp;omega
  have k:((c:Int)=0)=False:=yP (by omega);clear hr i a;go_in;go_wp2_with fail;refine (uh g).mono ?_;rintro e b ⟨rfl,f⟩;go_wp2_with fail;refine (uh HC b).mono ?_;rintro e l ⟨rfl,d⟩;clear HC;go_wp2;go_ret;exact⟨rfl,f.below d⟩
 | inr v=>
  have a:ZY (zi t)= .tuple #[.string (zi (ct v)),.int .i64 0]:=by unfold ZY;rw[hr]
  rw[a]at HC;clear hr a;go_in;go_wp2_with fail;refine (uh g).mono ?_;rintro e b ⟨rfl,f⟩;go_wp2_with fail;refine (uh HC b).mono ?_;rintro e l ⟨rfl,d⟩;clear HC;go_wp2;go_ret;exact⟨rfl,f.below d⟩
def Kx:List (List UInt8):=[[34],[92],[48,49],[45],[44],[58],[91],[93],[123],[125],[32],[128],[92,117,100,56,48,48],[49,46,53],[101],[31],[110,117,108],[57,57,57,57,57,57,57,57,57,57,57,57,57,57,57,57,57,57,57,57],[237,160,128],[192,128]]
def Gc(k:Nat):List UInt8:=Kx.getD (k % 20) []
theorem TC:∀ j:Nat,j<20->(#[Value.string ⟨#[34]⟩,Value.string ⟨#[92]⟩,Value.string ⟨#[48,49]⟩,Value.string ⟨#[45]⟩,Value.string ⟨#[44]⟩,Value.string ⟨#[58]⟩,Value.string ⟨#[91]⟩,Value.string ⟨#[93]⟩,Value.string ⟨#[123]⟩,Value.string ⟨#[125]⟩,Value.string ⟨#[32]⟩,Value.string ⟨#[128]⟩,Value.string ⟨#[92,117,100,56,48,48]⟩,Value.string ⟨#[49,46,53]⟩,Value.string ⟨#[101]⟩,Value.string ⟨#[31]⟩,Value.string ⟨#[110,117,108]⟩,Value.string ⟨#[57,57,57,57,57,57,57,57,57,57,57,57,57,57,57,57,57,57,57,57]⟩,Value.string ⟨#[237,160,128]⟩,Value.string ⟨#[192,128]⟩]:Array Value)[j]?=some (.string (zi (Kx.getD j [])))
 | 0,_=>rfl
 | 1,_=>rfl
 | 2,_=>rfl
 | 3,_=>rfl
 | 4,_=>rfl
 | 5,_=>rfl
 | 6,_=>rfl
 | 7,_=>rfl
 | 8,_=>rfl
 | 9,_=>rfl
 | 10,_=>rfl
 | 11,_=>rfl
 | 12,_=>rfl
 | 13,_=>rfl
 | 14,_=>rfl
 | 15,_=>rfl
 | 16,_=>rfl
 | 17,_=>rfl
 | 18,_=>rfl
 | 19,_=>rfl
 | j+20,h=>absurd h (by omega)
theorem Px(k:Nat):(Gc k).length<=20:=by
 unfold Gc;have h:∀ t∈Kx,t.length<=20:=by decide
 rw[List.getD_eq_getElem?_getD]
 cases hq:Kx[k % 20]? with
 | none=>exact yr _
 | some t=>exact h t (List.mem_of_getElem? hq)
theorem TD(k:Nat)(w:Wo)(hk:k<=255):
  Calls prog 114 #[.int .i64 k] w fun e w'=>e= .returned (.string (zi (Gc k)))/\Bw w w':=by
 have a:(w.alloc (.cells #[Value.string ⟨#[34]⟩,Value.string ⟨#[92]⟩,Value.string ⟨#[48,49]⟩,Value.string ⟨#[45]⟩,Value.string ⟨#[44]⟩,Value.string ⟨#[58]⟩,Value.string ⟨#[91]⟩,Value.string ⟨#[93]⟩,Value.string ⟨#[123]⟩,Value.string ⟨#[125]⟩,Value.string ⟨#[32]⟩,Value.string ⟨#[128]⟩,Value.string ⟨#[92,117,100,56,48,48]⟩,Value.string ⟨#[49,46,53]⟩,Value.string ⟨#[101]⟩,Value.string ⟨#[31]⟩,Value.string ⟨#[110,117,108]⟩,Value.string ⟨#[57,57,57,57,57,57,57,57,57,57,57,57,57,57,57,57,57,57,57,57]⟩,Value.string ⟨#[237,160,128]⟩,Value.string ⟨#[192,128]⟩] 9)).cell? ⟨w.heap.size,k % 20,none⟩=some (.string (zi (Gc k))):=(yE (yF w (.cells #[Value.string ⟨#[34]⟩,Value.string ⟨#[92]⟩,Value.string ⟨#[48,49]⟩,Value.string ⟨#[45]⟩,Value.string ⟨#[44]⟩,Value.string ⟨#[58]⟩,Value.string ⟨#[91]⟩,Value.string ⟨#[93]⟩,Value.string ⟨#[123]⟩,Value.string ⟨#[125]⟩,Value.string ⟨#[32]⟩,Value.string ⟨#[128]⟩,Value.string ⟨#[92,117,100,56,48,48]⟩,Value.string ⟨#[49,46,53]⟩,Value.string ⟨#[101]⟩,Value.string ⟨#[31]⟩,Value.string ⟨#[110,117,108]⟩,Value.string ⟨#[57,57,57,57,57,57,57,57,57,57,57,57,57,57,57,57,57,57,57,57]⟩,Value.string ⟨#[237,160,128]⟩,Value.string ⟨#[192,128]⟩] 9)) (k % 20)).trans (TC (k % 20) (by omega));generalize Gc k=t at *;go_in;go_wp2;go_ret;exact⟨rfl,(yG _ _).alloc (yd _) _⟩
def DB(B rb:Nat)(w:Wo)(t:Bs)(q:List UInt8)(e:Ending)(w':Wo):Prop:=e= .returned (.string t)/\DX B rb w q w'
def Py(s:Bs)(p:Nat):Bs:=s.extract 0 p++s.extract (p+1) s.size
def Pz(s:Bs)(p:Nat):Bs:=s.extract 0 (p+1)++s.extract p s.size
def PD(s:Bs)(p:Nat)(o:Bs):Bs:=s.extract 0 p++o++s.extract p s.size
def Vm(s:Bs)(x pn:Nat):Bs:=if s.size=0 then ⟨#[45]⟩else if x % 4=0 then Py s (pn % s.size)else if x % 4=1 then Pz s (pn % s.size)else PD s (pn % s.size) (zi (Gc (x / 4)))
def n3(q:List UInt8):List UInt8:=(nx (nx (nx q).2).2).2
def W8(s:Bs)(q:List UInt8):Bs×List UInt8:=(Vm s (nx q).1 ((nx (nx q).2).1*256+(nx (nx (nx q).2).2).1),n3 q)
theorem PE(s:Bs)(x pn:Nat):(Vm s x pn).size<=s.size+20:=by
 have a:=Px (x / 4);unfold Vm;split
 ·show 1<=_;omega
 ·rename_i h0;have b:pn % s.size<s.size:=Nat.mod_lt _ (by omega);split
  ·unfold Py;rw[ByteArray.size_append,ByteArray.size_extract,ByteArray.size_extract];omega
  ·split
   ·unfold Pz;rw[ByteArray.size_append,ByteArray.size_extract,ByteArray.size_extract];omega
   ·unfold PD;rw[ByteArray.size_append,ByteArray.size_append,ByteArray.size_extract,ByteArray.size_extract,zS];omega
theorem PF(B rb:Nat)(s:Bs)(q:List UInt8)(w:Wo)(h:Zy w B rb q)(hs:s.size<=400000):
  Calls prog 65 #[.pointer (some ⟨rb,0,none⟩),.string s] w (DB B rb w (W8 s q).1 (W8 s q).2):=by
 have N:=zh (QS B rb q w h);have hx:=Qo q;have hy:=Qo (nx q).2;have hz:=Qo (nx (nx q).2).2;have E:=zh fun q w h=>QS B rb q w h;unfold W8 n3;clear h;generalize (nx q).1=x at *;generalize hq1:(nx q).2=I at *;have L:=zh (uh E I);generalize (nx I).1=y at *;generalize n:(nx I).2=J at *;have M:=zh (uh E J);generalize (nx J).1=z at *;generalize (nx J).2=P at *;clear E hq1 n;show Calls prog 65 #[.pointer (some ⟨rb,0,none⟩),.string s] w (DB B rb w (Vm s x (y*256+z)) P)
 generalize hR:Vm s x (y*256+z)=R at *;have HR:=zh hR;clear hR;go_in;go_wp2_with fail;refine (uh N).mono ?_;rintro e w1 ⟨rfl,F⟩;have j:=zh F;have l:=zh (uh L w1 F.rd);clear N F L;go_wp2_with fail;refine (uh l).mono ?_;rintro e w2 ⟨rfl,G⟩;have m:=zh (uh M w2 G.rd);have k:=zh ((uh j).step G);clear l G j M;go_wp2_with fail;refine (uh m).mono ?_;rintro e Q ⟨rfl,O⟩;have v:=zh ((uh k).step O);clear m O k;have a:=uh HR;unfold Vm at a;clear HR;by_cases f:s.size=0
 ·have H:((s.size:Int) ==0)=true:=by simp[f]
  rw[yf f]at a;subst a;clear f;go_wp2;go_ret;exact⟨rfl,uh v⟩
 ·have H:((s.size:Int) ==0)=false:=by
   simp only[yb,ne_eq];omega
  rw[ye f]at a;have HR:=zh a;clear a;have U:(y:Int)*256+(z:Int)=((y*256+z:Nat):Int):=by omega
  have T:y*256+z<=65535:=by omega
  generalize y*256+z=C at *;have hq:(C:Int) % (s.size:Int)=((C % s.size:Nat):Int):=by simp
  have W:C % s.size<s.size:=Nat.mod_lt _ (by omega);generalize C % s.size=p at *;have V:(p:Int)<(s.size:Int):=by omega
  have X:(s.size:Int)≠0:=by omega
  have r:(x:Int) / 4=((x / 4:Nat):Int):=by omega
  have d:=zh fun w=>TD (x / 4) w (by omega);have u:x / 4<=255:=by omega
  have b:=Px (x / 4);by_cases i:x % 4=0
  ·have e:(x:Int) % 4=0:=by omega
   have a:=uh HR;rw[yf i]at a;subst a;clear i f d r u HR b;go_wp2;go_quiet (fail);go_wp2;go_ret;exact⟨rfl,(uh v).below (Ni Q _ _)⟩
  ·by_cases A:x % 4=1
   ·have e:(x:Int) % 4=1:=by omega
    have a:=uh HR;rw[ye i,yf A]at a;subst a;clear i f A d r u HR b;go_wp2;go_quiet (fail);go_wp2;go_ret;exact⟨rfl,(uh v).below (Ni Q _ _)⟩
   ·have e1:((x:Int) % 4 ==0)=false:=by simp only[yb,ne_eq];omega
    have e2:((x:Int) % 4 ==1)=false:=by simp only[yb,ne_eq];omega
    have a:=uh HR;rw[ye i,ye A]at a;generalize x / 4=K at *;generalize Gc K=t at *;have Y:(zi t).size<=20:=by rw[zS];exact b
    generalize zi t=o at *;subst a;have n:p<=s.size:=by omega
    have Z:IntKind.i64.wrap (K:Int)=(K:Int):=by rw[IntKind.wrap_i64];omega
    have c1:(9223372036854775807<p+o.size)=False:=yP (by omega);have c2:(9223372036854775807<p+o.size+(s.size - p))=False:=yP (by omega);clear i f A HR b;go_wp2_with fail;go_region_law (go_simp;refine (uh d _).mono ?_;rintro e S ⟨rfl,g⟩)
    all_goals (
     have D:Hid (DX B rb w P S):=(uh v).below (w2:=S) ⟨g.os,g.tape,g.output,g.size,g.block⟩;clear c1 c2 g;go_wp2;go_ret;exact⟨rfl,uh D⟩)
def Yf:Nat->List UInt8->List (List UInt8)×List UInt8
 | 0,q=>([],q)
 | n+1,q=>(qz (nx q).1 ::(Yf n (nx q).2).1,(Yf n (nx q).2).2)
theorem Fe:∀ (n:Nat) (q:List UInt8),Small (Yf n q).1/\(Yf n q).1.length=n
 | 0,q=>⟨fun t ht=>(by cases ht),rfl⟩
 | n+1,q=>by
  obtain⟨h1,h2⟩:=Fe n (nx q).2;rw[Yf];refine⟨fun t ht=>?_,by rw[ym,h2]⟩;rcases List.mem_cons.1 ht with rfl | ht
  ·exact Vf _
  ·exact h1 t ht
def JY(q:List UInt8):List (List UInt8)×List UInt8:=Yf ((nx q).1 % 5) (nx q).2
theorem TE(B rb:Nat)(q:List UInt8)(w:Wo)(h:Zy w B rb q):
  Calls prog 207 #[.pointer (some ⟨rb,0,none⟩)] w fun e w'=>∃ v,e= .returned v/\OT w' w.heap.size v (JY q).1/\DX B rb w (JY q).2 w':=by
 obtain⟨i0,U,J,K,L⟩:=info_parts XJ;have W:=h.lt;have T:=h.ge;have P:=zh (QS B rb q w h);have u:=zh fun q w h=>QS B rb q w h;have hx:=Qo q;unfold JY;clear h;generalize (nx q).1=x at *;generalize (nx q).2=M at *;have aa:x % 5<=4:=by omega
 generalize hRR:Yf (x % 5) M=RR at *;have f:=zh hRR;clear hRR;go_in;go_wp2_with fail;refine (uh P).mono ?_;rintro e C ⟨rfl,H⟩;have Q:Hid ((C.alloc (.cells #[] 9)).ownsRow w.heap.size 9 1 (.slice (some ⟨C.heap.size,0,none⟩) 0 0) 0 []):=World.ownsRow_lit C #[] 0 H.size (by unfold maxLen;omega) rfl;have s:Hid (DX B rb w M (C.alloc (.cells #[] 9))):=H.below (ZJ C _);clear H P;go_wp2;go_loopw [4,5] (fun v i wr=>∃ (j:Nat) (p:List (List UInt8)) (r:List UInt8),i= .int .i64 j/\j<=x % 5/\p.length=j/\OT wr w.heap.size v p/\DX B rb w r wr/\RR=(p++(Yf (x % 5 - j) r).1,(Yf (x % 5 - j) r).2)) (fun _ i _=>x % 5 - (intOf i).toNat)
 case atStart=>exact⟨0,[],M,rfl,yr _,rfl,uh Q,uh s,by rw[← uh f];rfl⟩
 case round=>
  obtain⟨j,p,r,rfl,hj,b,l,o,g⟩:=hrel;have D:=zh o;have Z:=o.size;have O:=zh b;clear Q s f o b;by_cases V:j<x % 5
  ·have z:(j:Int)<(x:Int) % 5:=by omega
   rw[show x % 5 - j=(x % 5 - (j+1))+1 by omega,Yf]at g;have R:=zh (uh u r wr (uh D).rd);have hy:=Qo r;have N:=zh fun w=>WN (nx r).1 w hy;have f:=zh g;clear g u;generalize (nx r).1=y at *;generalize (nx r).2=S at *;generalize qz y=t at *;go_wp2_with fail;refine (uh R).mono ?_;rintro e E ⟨rfl,I⟩;have d:=GO l I.gr (fun k e=>by injection e with e;omega);have n:=zh ((uh D).step I);have Y:=(uh n).size;clear l I D R;go_wp2_with fail;refine (uh N E).mono ?_;rintro e w' ⟨rfl,rfl⟩;have b:=uh O;have X:p.length<=4:=by omega
   have G:=zh b;clear b O N;go_wp2_with (at_builtin;refine wpList_append_own _ rfl (.tmp 15) (.tmp 19) 30 rfl w.heap.size 9 i0 (.string ByteArray.empty) 1 16 underlying30 U J K L rfl (by decide) _ _ _ rfl (d.alloc _) ⟨E.heap.size,0,none⟩ 1 1 [.string (Zc t)] rfl rfl (QH _ _ _) (U4 _) (by unfold maxLen;omega) (by omega) (by simp;omega) ?_);intro v3 w3 m a _;have F:Hid (DX B rb w S w3):=⟨((uh n).rd.grown (World.grownBy_alloc E _ none) (by simp) (fun k e=>by cases e)).grown a (fun e=>by have:=(d.lt rb e.symm).1;omega) (fun k e=>by have:=(d.lt k e).1;omega),VT (J9 (uh n).gr (World.grownBy_alloc E _ _)) a (fun k hk=>(d.lt k hk).1)⟩;have A:=OT.step (t:=t) m;clear m a d n;go_wp2;go_roundw
   case rel=>exact⟨j+1,p++[t],S,by go_num,by omega,by have:=uh G;simp;omega,A,uh F,by rw[uh f];simp⟩
   case measure=>simp[intOf];omega
  ·have z:¬ (j:Int)<(x:Int) % 5:=by omega
   rw[show x % 5 - j=0 by omega,Yf,List.append_nil]at g;have f:=zh g;clear g;go_wp2;go_ret;exact⟨_,rfl,by rw[uh f];exact l,by rw[uh f];exact uh D⟩
def qD(hs:List zx)(i:Nat):Bs:=zi (hs.getD i ([],[])).1
def Wg(hs:List zx)(q:List UInt8):Bs×List UInt8:=
 if (nx q).1 % 8=7 then (⟨(Zf ((JY (nx q).2).1.map Zc)).toArray⟩,(JY (nx q).2).2)
 else if (nx q).1 % 8=6 then (qD hs (((nx (nx q).2).1*3+(nx q).1) % hs.length)++⟨(Zf [zi (qz (nx (nx (nx q).2).2).1)]).toArray⟩,n3 q)
 else if (nx q).1 % 32=5 then W8 (qD hs (((nx (nx q).2).1*3+(nx q).1) % hs.length)) (nx (nx q).2).2
 else if (nx q).1 % 32=13 then (qD hs (((nx (nx q).2).1*3+(nx q).1) % hs.length)++⟨#[47,126,50]⟩,(nx (nx q).2).2)
 else (qD hs (((nx (nx q).2).1*3+(nx q).1) % hs.length),(nx (nx q).2).2)
theorem Ky{hs:List zx}{N:Nat}(h:∀ x∈hs,x.1.length<=N)(i:Nat):(qD hs i).size<=N:=by
 unfold qD;rw[zS,List.getD_eq_getElem?_getD]
 cases hq:hs[i]? with
 | none=>exact yr _
 | some x=>exact h x (List.mem_of_getElem? hq)
theorem Kz(k:Nat):(Zf [zi (qz k)]).length<=7:=by
 rw[XV,ym,yg,Zd];have:=VQ (qz k);have:=Vf k;simp[Zf];omega
theorem Wh(l:List UInt8):(⟨l.toArray⟩:Bs).size=l.length:=zS l
theorem TF{hs:List zx}(h:∀ x∈hs,x.1.length<=40000)(q:List UInt8):(Wg hs q).1.size<=40020:=by
 have b:=Ky h (((nx (nx q).2).1*3+(nx q).1) % hs.length);have d:=Kz (nx (nx (nx q).2).2).1;have a:=Fe ((nx (nx q).2).1 % 5) (nx (nx q).2).2;have f:=M3 a.1 (by rw[a.2];omega);unfold Wg;split
 ·show (⟨(Zf ((JY (nx q).2).1.map Zc)).toArray⟩:Bs).size<=_
  rw[Wh];unfold JY;omega
 ·split
  ·show (_++_:Bs).size<=_
   rw[ByteArray.size_append,Wh (Zf [zi (qz (nx (nx (nx q).2).2).1)])];omega
  ·split
   ·have:=PE (qD hs (((nx (nx q).2).1*3+(nx q).1) % hs.length)) (nx (nx (nx q).2).2).1 ((nx (nx (nx (nx q).2).2).2).1*256+(nx (nx (nx (nx (nx q).2).2).2).2).1);show (Vm _ _ _).size<=_
    omega
   ·split
    ·show (_++_:Bs).size<=_
     rw[ByteArray.size_append];have:(⟨#[47,126,50]⟩:Bs).size=3:=rfl;omega
    ·show (qD _ _).size<=_
     omega
theorem TG(B rb:Nat)(v:JV)(q:List UInt8)(w:Wo)(h:Zy w B rb q)(hd:VI v):
  Calls prog 177 #[.pointer (some ⟨rb,0,none⟩),.string (zi (ct v))] w (DB B rb w (Wg (zX 100 [] v) q).1 (Wg (zX 100 [] v) q).2):=by
 have HX:=zh (QS B rb q w h);have hrb:=h.lt;have Y:=hd.len;have W:=hd.cnt;have HH:Hid (∀ w,Calls prog 176 #[.string (zi (ct v)),.string (zi [])] w fun e w'=>∃ r,e= .returned r/\HR w' w.heap.size r (zX 100 [] v)/\Bw w w'):=fun w=>N0 100 v [] w hd.ok hd.tw hd.dep (by omega) (by simp;omega) (by omega);have N:Hid (∀ x∈zX 100 [] v,x.1.length<=40000):=fun x hx=>by have:=Xo 100 [] v x hx;have:=hd.mx;simp at *;omega
 have hn:(zX 100 [] v).length=zo v:=UO 100 [] v hd.ok hd.tw hd.dep;have hn1:1<=(zX 100 [] v).length:=by have:=(Jv v);omega
 have hn2:(zX 100 [] v).length<=3000:=by omega
 generalize zX 100 [] v=u at *;generalize hsv:zi (ct v)=sv at *;clear h hd Y W hn hsv;have hx:=Qo q;have C:=zh fun w h=>TE B rb (nx q).2 w h;have A:=zh fun w h=>QS B rb (nx q).2 w h;have l:=zh fun w h=>QS B rb (nx (nx q).2).2 w h;have hy:=Qo (nx q).2;have hk:=Qo (nx (nx q).2).2;have D:=Fe ((nx (nx q).2).1 % 5) (nx (nx q).2).2;have f:Small (JY (nx q).2).1/\(JY (nx q).2).1.length<=4:=⟨D.1,by unfold JY;rw[D.2];omega⟩;have i:=zh fun s w (h:Zy w B rb (nx (nx q).2).2) (u:s.size<=40000)=>PF B rb s (nx (nx q).2).2 w h (by omega);unfold Wg n3;clear D;generalize (nx q).1=x at *;generalize (nx q).2=q1 at *;generalize (nx q1).1=y at *;generalize (nx q1).2=q2 at *;by_cases h7:x % 8=7
 ·have e:(x:Int) % 8=7:=by omega
  rw[yf h7];have htl:=M2 f.1 f.2;generalize (JY q1).1=ts at *;generalize (JY q1).2=qt at *;have P:Hid (∀ wx E vg J,SS wx E vg 0 (ts.map Zc)->Calls prog 42 #[.slice E ts.length J] wx (Rb (.string ⟨(Zf (ts.map Zc)).toArray⟩) wx)):=fun wx E vg J H=>by
   have:=Ke E vg 0 J (ts.map Zc) wx H (by rw[yk];omega)
   rwa [yk]at this
  generalize (⟨(Zf (ts.map Zc)).toArray⟩:Bs)=tp at *;clear h7 HH A l i f htl;go_in;go_wp2_with fail;refine (uh HX).mono ?_;rintro e w1 ⟨rfl,F⟩;have Q:=zh (uh C w1 F.rd);have m:=zh F;clear HX F C;go_wp2_with fail;refine (uh Q).mono ?_;rintro e w2 ⟨v2,rfl,I,d2⟩;obtain⟨E,vg,J,rfl,H,_⟩:=I.shape;have o:=zh (uh P w2 E vg J H);have n:=zh ((uh m).step d2);clear Q I d2 H P;go_wp2_with fail;refine (uh o).mono ?_;rintro e w3 ⟨rfl,b3⟩;clear o;go_wp2;go_ret;exact⟨rfl,(uh n).below b3⟩
 ·have e:((x:Int) % 8 ==7)=false:=by simp only[yb,ne_eq];omega
  rw[ye h7];have hid:(y:Int)*3+(x:Int)=((y*3+x:Nat):Int):=by omega
  have hib:y*3+x<=1020:=by omega
  generalize y*3+x=yn at *;have hq:(yn:Int) % (u.length:Int)=((yn % u.length:Nat):Int):=by simp
  have Z:yn % u.length<u.length:=Nat.mod_lt _ (by omega);generalize yn % u.length=p at *;have hqI:(p:Int)<(u.length:Int):=by omega
  have hsn:(u.length:Int)≠0:=by omega
  have hzs:=Ky (uh N) p;have L:Hid (zi u[p].1=qD u p):=by
   show _=_
   unfold qD;rw[List.getD_eq_getElem?_getD,yw Z];rfl
  generalize hR:(if x % 8=6 then _ else _:Bs×List UInt8)=R at *;have HR:=zh hR;clear h7 C f hR N;generalize qD u p=s at *;go_in;go_wp2_with fail;refine (uh HX).mono ?_;rintro e w1 ⟨rfl,F⟩;have m:=zh F;have Q:=zh (uh HH w1);clear HX F HH;go_wp2_with fail;refine (uh Q).mono ?_;rintro e w2 ⟨v2,rfl,I,b2⟩;obtain⟨E,J,rfl⟩:=WP I;have n:=zh ((uh m).below b2);have S:=zh (uh A w2 (uh n).rd);clear Q A;go_wp2_with fail;refine (uh S).mono ?_;rintro e w3 ⟨rfl,d3⟩;obtain⟨g,cap,he,hg2,hgl,c0,c1⟩:=I.cells p Z;injection he with he1 he2 he3;subst he1;subst he3;have hz2:=b2.size;have X:g≠rb:=by have:=(uh m).rd.lt;omega
  rw[uh L]at c0;have c0':w3.cell? ⟨g,p*2,none⟩=some (.string s):=d3.gr.cell c0 (by simpa using X);have d:=zh ((uh n).step d3);clear S d3 b2 I c0 c1 he2 m n L;by_cases G:x % 8=6
  ·have e6:(x:Int) % 8=6:=by omega
   have T:=zh (uh l w3 (uh d).rd);have a:=uh HR;rw[yf G]at a;have M:=zh fun w=>WN (nx q2).1 w hk;have hkl:=Vf (nx q2).1;have hkp:=Kz (nx q2).1;generalize (nx q2).1=k at *;generalize (nx q2).2=q3 at *;generalize qz k=t at *;have o:Hid (∀ wx (b:Nat),wx.heap[b]?=some (.cells #[.string (zi t)] 9 (0,0))->Calls prog 42 #[.slice (some ⟨b,0,none⟩) 1 1] wx (Rb (.string ⟨(Zf [zi t]).toArray⟩) wx)):=fun wx b hb=>by
    have H:SS wx (some ⟨b,0,none⟩) b 0 [zi t]:=⟨fun _=>rfl,fun j hj=>by
     have:j=0:=by simpa using hj
     subst this;exact yE hb 0⟩
    have htt:Z9 [zi t]=t.length:=by simp[Z9,zS]
    exact Ke _ _ _ 1 [zi t] _ H (by rw[htt];simp;omega)
   have htz:=Wh (Zf [zi t]);have htz2:(⟨(Zf [zi t]).toArray⟩:Bs).size<=7:=by omega
   generalize (⟨(Zf [zi t]).toArray⟩:Bs)=tb at *;subst a;clear G HR l i htz hkp;go_wp2_with fail;refine (uh T).mono ?_;rintro e w4 ⟨rfl,d4⟩;have HD4:=zh ((uh d).step d4);clear T d4 d c0';go_wp2_with fail;refine (uh M w4).mono ?_;rintro e w5 ⟨rfl,rfl⟩;have V:=ZJ w4 (.cells #[.string (zi t)] 9);have O:=zh (uh o _ w4.heap.size (yF w4 (.cells #[.string (zi t)] 9)));have K:=zh ((uh HD4).below V);clear V M o;go_wp2_with fail;refine (uh O).mono ?_;rintro e w6 ⟨rfl,b6⟩;have HD6:=zh ((uh K).below b6);clear O b6 K;go_wp2;go_ret;exact⟨rfl,uh HD6⟩
  ·have e6:((x:Int) % 8 ==6)=false:=by simp only[yb,ne_eq];omega
   have a:=uh HR;rw[ye G]at a;by_cases U:x % 32=5
   ·have e5:(x:Int) % 32=5:=by omega
    rw[yf U]at a;subst a;have HC:=zh (uh i s w3 (uh d).rd hzs);clear G U HR l i;go_wp2_with fail;refine (uh HC).mono ?_;rintro e w4 ⟨rfl,d4⟩;clear HC;go_wp2;go_ret;exact⟨rfl,(uh d).step d4⟩
   ·have e5:((x:Int) % 32 ==5)=false:=by simp only[yb,ne_eq];omega
    rw[ye U]at a;by_cases z:x % 32=13
    ·have e13:(x:Int) % 32=13:=by omega
     rw[yf z]at a;subst a;clear G U z HR l i;go_wp2;go_ret;exact⟨rfl,uh d⟩
    ·have e13:((x:Int) % 32 ==13)=false:=by simp only[yb,ne_eq];omega
     rw[ye z]at a;subst a;clear G U z HR l i;go_wp2;go_ret;exact⟨rfl,uh d⟩
section
variable (ps:List zx) (p:Nat) (dr pu:Bool) (q:zx)
theorem PG{i:Nat}(h:i≠p)(hi:i<ps.length):ZW ps p dr pu q i=[ps[i]]:=by unfold ZW;simp[h,hi]
theorem TH{i:Nat}(h:i≠p)(hi:¬ i<ps.length):ZW ps p dr pu q i=[]:=by unfold ZW;simp[h,hi]
theorem Ff:∀ k,k<=p->k<=ps.length->Ze ps p dr pu q k=ps.take k
 | 0,_,_=>by simp[Ze]
 | k+1,h1,h2=>by
  rw[QU,Ff k (by omega) (by omega),PG ps p dr pu q (by omega) (by omega),yx (by omega)]
theorem PH:∀ k,p<k->k<=ps.length->Ze ps p dr pu q k=Ze ps p dr pu q (p+1)++(ps.take k).drop (p+1)
 | 0,h,_=>by omega
 | k+1,h1,h2=>by
  by_cases e:k=p
  ·subst e;rw[List.drop_of_length_le (by rw[yl];omega),List.append_nil]
  ·rw[QU,PH k (by omega) (by omega),PG ps p dr pu q e (by omega),List.append_assoc,yx (by omega),List.drop_append_of_le_length (by rw[yl];omega)]
theorem Fg(h:p<ps.length):Ze ps p dr pu q (ps.length+1)=ps.take p++ZW ps p dr pu q p++ps.drop (p+1):=by
 rw[QU,TH ps p dr pu q (by omega) (by omega),List.append_nil,PH ps p dr pu q _ h (yd _),List.take_length,QU,Ff ps p dr pu q p (yd _) (by omega)]
theorem TI(h:p=ps.length):Ze ps p dr pu q (ps.length+1)=ps++ZW ps p dr pu q p:=by
 subst h;rw[QU,Ff ps _ dr pu q _ (yd _) (yd _),List.take_length]
theorem PI(f:zx->Nat):∀ k,((Ze ps p dr pu q k).map f).sum<=((ps.take k).map f).sum+(if p<k then f q else 0)
 | 0=>by simp[Ze]
 | k+1=>by
  rw[QU,yv,List.sum_append];have ih:=PI f k;have d:((ps.take (k+1)).map f).sum=((ps.take k).map f).sum+(if h:k<ps.length then f ps[k]else 0):=by
   by_cases a:k<ps.length
   ·rw[yx a,yv,List.sum_append,dif_pos a];simp
   ·rw[yp (by omega),yp (by omega),dif_neg a];simp
  have b:((ZW ps p dr pu q k).map f).sum<=(if k=p then f q else 0)+(if h:k<ps.length then f ps[k]else 0):=by
   unfold ZW;rw[yv,List.sum_append];by_cases e:k=p
   ·by_cases a:k<ps.length
    ·rw[yf e,dif_pos a,dif_pos a];refine Nat.add_le_add ?_ ?_
     ·split<;>simp
     ·split<;>simp
    ·rw[yf e,dif_neg a,dif_neg a];refine Nat.add_le_add ?_ ?_
     ·split<;>simp
     ·simp
   ·by_cases a:k<ps.length
    ·rw[ye e,dif_pos a,dif_pos a,ye (by simp[e])];refine Nat.add_le_add ?_ ?_
     ·simp
     ·split<;>simp
    ·rw[ye e,dif_neg a,dif_neg a,ye (by simp[e])];simp
  rw[d];split at ih
  ·rename_i hp;rw[yf (by omega)];rw[ye (by omega)]at b;omega
  ·rename_i hp;by_cases e:k=p
   ·rw[yf (by omega)];rw[yf e]at b;omega
   ·rw[ye e]at b;omega
end
theorem TJ(ps:List zx)(p:Nat)(q:zx)(h:p<ps.length):Ze ps p true true q (ps.length+1)=ps.take p++q :: ps.drop (p+1):=by
 rw[Fg ps p true true q h];unfold ZW;simp[h]
theorem TK(ps:List zx)(p:Nat)(q:zx)(h:p<ps.length):Ze ps p true false q (ps.length+1)=ps.take p++ps.drop (p+1):=by
 rw[Fg ps p true false q h];unfold ZW;simp[h]
theorem PJ(ps:List zx)(p:Nat)(q:zx)(h:p<=ps.length):Ze ps p false true q (ps.length+1)=ps.take p++q :: ps.drop p:=by
 by_cases a:p<ps.length
 ·rw[Fg ps p false true q a];unfold ZW;rw[List.drop_eq_getElem_cons a];simp[a]
 ·have e:p=ps.length:=by omega
  rw[TI ps p false true q e];subst e;unfold ZW;simp
theorem Fh(l:List JV):zu (JL.ofL l)=l.map ct:=by rw[qH,JL.toL_ofL]
theorem PK:∀ {a b:List zx},a.Perm b->(a.map (·.1)).Nodup->a.Pairwise (fun x y=>x.1<=y.1)->b.Pairwise (fun x y=>x.1<=y.1)->a=b
 | [],b,h,_,_,_=>by rw[List.nil_perm.1 h]
 | x :: a,[],h,_,_,_=>by have:=h.length_eq;simp at this
 | x :: a,y :: b,h,hn,ha,hb=>by
  rw[List.pairwise_cons]at ha hb;rw[yh,List.nodup_cons]at hn;have e:x=y:=by
   have d:y∈x :: a:=h.symm.subset yo;have hx:x∈y :: b:=h.subset yo;rcases List.mem_cons.1 d with e | d
   ·exact e.symm
   ·rcases List.mem_cons.1 hx with e | hx
    ·exact e
    ·have g:=ha.1 y d;have i:=hb.1 x hx;have f:x.1=y.1:=List.le_antisymm g i;exact absurd (yN.2 ⟨y,d,f.symm⟩) hn.1
  subst e;rw[PK (a:=a) (b:=b) ((List.perm_cons x).1 h) hn.2 ha.2 hb.2]
theorem Fi{a b:List zx}(h:a.Perm b)(hn:(a.map (·.1)).Nodup):zz a=zz b:=
 PK ((qj a).trans (h.trans (qj b).symm)) ((((qj a).map _).nodup_iff).2 hn) (KT a) (KT b)
theorem PL:∀ (ps:List zx) (p:Nat) (t x:List UInt8) (hp:p<ps.length),(ps.map (·.1)).Nodup->ps[p].1=t->ps.take p++(t,x) :: ps.drop (p+1)=ps.map fun q=>if q.1=t then (q.1,x)else q
 | [],p,t,x,hp,_,_=>by simp at hp
 | a :: ps,0,t,x,hp,hn,e=>by
  have e':a.1=t:=e;rw[yh,List.nodup_cons]at hn;rw[yh,yf e',e'];show (t,x) :: ps=_
  congr 1;rw[show ps=ps.map id from (List.map_id _).symm,List.map_map];refine List.map_congr_left fun q hq=>?_;have:q.1≠t:=fun h=>hn.1 (by rw[e',← h];exact yN.2 ⟨q,hq,rfl⟩);simp[this]
 | a :: ps,p+1,t,x,hp,hn,e=>by
  have b:p<ps.length:=by simpa using hp
  have e':ps[p].1=t:=e;rw[yh,List.nodup_cons]at hn;have d:a.1≠t:=fun h=>hn.1 (by rw[h,← e'];exact yN.2 ⟨_,yq b,rfl⟩);rw[yh,ye d,← PL ps p t x b hn.2 e'];rfl
theorem PM:∀ (ps:List zx) (p:Nat) (t:List UInt8) (hp:p<ps.length),(ps.map (·.1)).Nodup->ps[p].1=t->ps.take p++ps.drop (p+1)=ps.filter fun q=>!(q.1 ==t)
 | [],p,t,hp,_,_=>by simp at hp
 | a :: ps,0,t,hp,hn,e=>by
  have e':a.1=t:=e;rw[yh,List.nodup_cons]at hn;rw[List.filter_cons_of_neg (by simp[e'])];show ps=_
  symm;rw[List.filter_eq_self];intro q d;have:q.1≠t:=fun h=>hn.1 (by rw[e',← h];exact yN.2 ⟨q,d,rfl⟩);simp[this]
 | a :: ps,p+1,t,hp,hn,e=>by
  have b:p<ps.length:=by simpa using hp
  have e':ps[p].1=t:=e;rw[yh,List.nodup_cons]at hn;have f:a.1≠t:=fun h=>hn.1 (by rw[h,← e'];exact yN.2 ⟨_,yq b,rfl⟩);rw[List.filter_cons_of_pos (by simp[f]),← PM ps p t b hn.2 e'];rfl
theorem W9{m:JM}(h:zI (.obj m)):((zm (.obj m)).map (·.1)).Nodup:=by
 show ((zz (zn m)).map (·.1)).Nodup
 rw[((qj _).map _).nodup_iff,Qg,List.map_map];exact ((YW m).1 h).1
theorem Wi(l:JL):(zm (.arr l)).map (·.2)=l.toL.map ct:=by
 rw[OK,List.map_map];show (qS 0 l.toL).map (fun q=>ct q.2)=_
 rw[show (fun q:List UInt8×JV=>ct q.2)=ct∘(·.2)from rfl,← List.map_map,Xn]
theorem Fj(l:JL){j:Nat}(hj:j<(zm (.arr l)).length):(zm (.arr l))[j].1=zP j:=by
 have e:zm (.arr l)=qk 0 (zu l):=rfl;have a:j<(qk 0 (zu l)).length:=by rw[← e];exact hj
 have:=Xl (zu l) 0 j a;simp only[e];rw[this];simp
theorem PN{α β:Type}(f:α->β):∀ (l:List α) (i:Nat) (x:α),i<l.length->(l.set i x).map f=(l.map f).take i++f x ::(l.map f).drop (i+1)
 | [],i,x,h=>by simp at h
 | a :: l,0,x,_=>by simp
 | a :: l,i+1,x,h=>by
  rw[List.set_cons_succ,yh,PN f l i x (by simpa using h)];simp
theorem TL{v u:JV}{t:List UInt8}{j:Nat}{c:JV}(hg:zI v)(hc:zL v t=some c)(hj:j<(zm v).length)(hk:(zm v)[j].1=t):Yc v (Ze (zm v) j true true (t,ct u) ((zm v).length+1))=ct (QC v t u):=by
 rw[TJ _ _ _ hj]
 cases v with
 | arr l=>
  rw[Ja]at hc;obtain⟨i,d,b⟩:=Option.bind_eq_some_iff.1 hc;have e:j=i:=by
   rw[Fj]at hk;exact OG (hk.trans (Xk d).symm)
  subst e;have f:QC (.arr l) t u= .arr (JL.ofL (l.toL.set j u)):=by simp only[QC,d]
  have a:j<l.toL.length:=(List.getElem?_eq_some_iff.1 b).1;rw[f];show Zi _=Zi (zu (JL.ofL (l.toL.set j u)))
  congr 1;rw[Fh,PN ct l.toL j u a,← Wi,yv,yh,List.map_take,List.map_drop]
 | obj m=>
  rw[PL _ j t (ct u) hj (W9 hg) hk];show ZD (zz ((zz (zn m)).map _))=ZD (zz (zn (JM.ofL _)))
  congr 1;have g:zn (JM.ofL (m.toL.map fun q=>if q.1=t then (q.1,u)else q))=(zn m).map fun q=>if q.1=t then (q.1,ct u)else q:=by
   rw[Qg,JM.toL_ofL,Qg,List.map_map,List.map_map];refine List.map_congr_left fun q _=>?_;show ((if q.1=t then (q.1,u)else q).1,ct (if q.1=t then (q.1,u)else q).2)=if (q.1,ct q.2).1=t then ((q.1,ct q.2).1,ct u)else (q.1,ct q.2)
   by_cases e:q.1=t<;>simp[e]
  rw[g];refine Fi ((qj _).map _) ?_;rw[List.map_map];have:((fun x:zx=>x.1)∘fun q:zx=>if q.1=t then (q.1,ct u)else q)=fun x:zx=>x.1:=by
   funext q;show (if q.1=t then (q.1,ct u)else q).1=q.1
   split<;>rfl
  rw[this];exact W9 hg
 | _=>cases hc
theorem TM{v:JV}{t:List UInt8}{j:Nat}{c:JV}{q:zx}(hg:zI v)(hc:zL v t=some c)(hj:j<(zm v).length)(hk:(zm v)[j].1=t):Yc v (Ze (zm v) j true false q ((zm v).length+1))=ct (q9 v t):=by
 rw[TK _ _ _ hj]
 cases v with
 | arr l=>
  rw[Ja]at hc;obtain⟨i,a,f⟩:=Option.bind_eq_some_iff.1 hc;have e:j=i:=by
   rw[Fj]at hk;exact OG (hk.trans (Xk a).symm)
  subst e;have b:q9 (.arr l) t= .arr (JL.ofL (l.toL.eraseIdx j)):=by simp only[q9,a]
  rw[b];show Zi _=Zi (zu (JL.ofL (l.toL.eraseIdx j)))
  congr 1;rw[Fh,List.eraseIdx_eq_take_drop_succ,yv,yv,List.map_take,List.map_drop,List.map_take,List.map_drop,Wi]
 | obj m=>
  rw[PM _ j t hj (W9 hg) hk];show ZD (zz ((zz (zn m)).filter _))=ZD (zz (zn (JM.ofL _)))
  congr 1;have d:zn (JM.ofL (m.toL.filter fun q=>!(q.1 ==t)))=(zn m).filter fun q=>!(q.1 ==t):=by
   rw[Qg,JM.toL_ofL,Qg,List.filter_map];rfl
  rw[d];refine Fi ((qj _).filter _) ?_;exact (List.filter_sublist.map _).nodup (W9 hg)
 | _=>cases hc
theorem PO{α β:Type}(f:α->β)(l:List α)(i:Nat)(x:α):(l.take i++x :: l.drop i).map f=(l.map f).take i++f x ::(l.map f).drop i:=by
 rw[yv,yh,List.map_take,List.map_drop]
theorem TN{l:JL}{u:JV}{i:Nat}{t:List UInt8}(hi:i<=l.toL.length):Yc (.arr l) (Ze (zm (.arr l)) i false true (t,ct u) ((zm (.arr l)).length+1))=ct (.arr (JL.ofL (l.toL.take i++u :: l.toL.drop i))):=by
 have a:(zm (.arr l)).length=l.toL.length:=by
  have:=congrArg List.length (Wi l);simpa using this
 rw[PJ _ _ _ (by omega)];show Zi _=Zi (zu (JL.ofL _))
 congr 1;rw[Fh,PO ct,← Wi,PO]
theorem TO{m:JM}{u:JV}{t:List UInt8}(hg:zI (.obj m))(hn:zL (.obj m) t=none):Yc (.obj m) (Ze (zm (.obj m)) 0 false true (t,ct u) ((zm (.obj m)).length+1))=ct (.obj (JM.ofL (m.toL++[(t,u)]))):=by
 rw[PJ _ _ _ (yr _)];show ZD (zz ((t,ct u) :: zz (zn m)))=ZD (zz (zn (JM.ofL _)))
 congr 1;have b:zn (JM.ofL (m.toL++[(t,u)]))=zn m++[(t,ct u)]:=by
  rw[Qg,JM.toL_ofL,Qg,yv];rfl
 rw[b];refine Fi ?_ ?_
 ·refine (List.Perm.cons _ (qj _)).trans ?_;exact (List.perm_append_comm (l₁:=[(t,ct u)]) (l₂:=zn m))
 ·rw[yh,List.nodup_cons];refine⟨fun h=>?_,W9 hg⟩;obtain⟨x,hx,e⟩:=yN.1 h;have a:=(qj _).subset hx;rw[Qg]at a;obtain⟨y,d,rfl⟩:=yN.1 a;rw[YN,Option.map_eq_none_iff,List.find?_eq_none]at hn;exact hn y d (by simpa using e)
theorem KA(l:List JV):(ct (.arr (JL.ofL l))).length=hold l.length+(l.map fun v=>(ct v).length).sum:=by
 show (Zi (zu (JL.ofL l))).length=_
 rw[qH,JL.toL_ofL];have h:=Vw (l.map ct);have a:nl (l.map ct)=(l.map fun v=>(ct v).length).sum:=by
  unfold nl;rw[List.map_map];rfl
 rw[yk,a]at h;simp[Zi];omega
theorem JL.ofL_toL:∀ l:JL,JL.ofL l.toL=l
 | .nil=>rfl
 | .cons v r=>by rw[JL.toL,JL.ofL,JL.ofL_toL r]
theorem KC(l:JL):(ct (.arr l)).length=hold l.toL.length+(l.toL.map fun v=>(ct v).length).sum:=by
 have:=KA l.toL
 rwa [JL.ofL_toL]at this
theorem PQ{α:Type}(f:α->Nat):∀ (l:List α) (i:Nat) (x y:α),l[i]?=some y->((l.set i x).map f).sum+f y=(l.map f).sum+f x
 | [],i,x,y,h=>by simp at h
 | a :: l,0,x,y,h=>by
  have e:a=y:=by simpa using h
  subst e;rw[List.set_cons_zero,yh,yh,yK,yK];omega
 | a :: l,i+1,x,y,h=>by
  have b:=PQ f l i x y (by simpa using h);rw[List.set_cons_succ,yh,yh,yK,yK];omega
theorem PS(t:List UInt8)(u:JV):∀ (l:List (List UInt8×JV)) (c:JV),(l.map (·.1)).Nodup->(l.find? fun q=>q.1 ==t).map (·.2)=some c->((l.map fun q=>if q.1=t then (q.1,u)else q).map ZV).sum+(ct c).length=(l.map ZV).sum+(ct u).length
 | [],c,_,h=>by simp at h
 | a :: l,c,hn,h=>by
  rw[yh,List.nodup_cons]at hn;by_cases e:a.1=t
  ·rw[List.find?_cons,show (a.1 ==t)=true by simp[e]]at h;have e2:a.2=c:=by simpa using h
   have b:(l.map fun q=>if q.1=t then (q.1,u)else q)=l:=by
    conv=>rhs;rw[← List.map_id l]
    refine List.map_congr_left fun q hq=>?_;have:q.1≠t:=fun h=>hn.1 (by rw[e,← h];exact yN.2 ⟨q,hq,rfl⟩);simp[this]
   rw[yh,yf e,b,yh,yh,yK,yK,← e2];unfold ZV;simp only;omega
  ·rw[List.find?_cons,show (a.1 ==t)=false by simp[e]]at h;have d:=PS t u l c hn.2 h;rw[yh,ye e,yh,yh,yK,yK];omega
theorem Fk{v u c:JV}{t:List UInt8}(hg:zI v)(hc:zL v t=some c):(ct (QC v t u)).length+(ct c).length=(ct v).length+(ct u).length:=by
 cases v with
 | arr l=>
  rw[Ja]at hc;obtain⟨i,b,a⟩:=Option.bind_eq_some_iff.1 hc;have e:QC (.arr l) t u= .arr (JL.ofL (l.toL.set i u)):=by simp only[QC,b]
  rw[e,KA,KC,List.length_set];have:=PQ (fun v=>(ct v).length) l.toL i u c a;omega
 | obj m=>
  rw[YN]at hc;have e:QC (.obj m) t u= .obj (JM.ofL (m.toL.map fun q=>if q.1=t then (q.1,u)else q)):=rfl;rw[e,Ym,Ym,JM.toL_ofL,yk];have:=PS t u m.toL c ((YW m).1 hg).1 hc;omega
 | _=>cases hc
theorem YY:∀ {ts:List (List UInt8)} {v u h:JV},zI v->Za v ts=some h->(ct (ZP v ts u)).length+(ct h).length=(ct v).length+(ct u).length
 | [],v,u,h,_,e=>by
  rw[Ga]at e;injection e with e;subst e;rw[W2];omega
 | t :: ts,v,u,h,hv,e=>by
  rw[YX]at e
  cases hc:zL v t with
  | none=>rw[hc]at e;cases e
  | some c=>
   rw[hc]at e;rw[Wf hc];have h1:=Fk (u:=ZP c ts u) hv hc;have a:=YY (u:=u) (hv.child hc) e;omega
theorem PT{α:Type}(f:α->Nat)(p:α->Bool):∀ l:List α,((l.filter p).map f).sum<=(l.map f).sum
 | []=>by simp
 | a :: l=>by
  have ih:=PT f p l;rw[yh,yK];by_cases h:p a=true
  ·rw[List.filter_cons_of_pos h,yh,yK];omega
  ·rw[List.filter_cons_of_neg h];omega
theorem PU{α:Type}(f:α->Nat):∀ (l:List α) (i:Nat),((l.eraseIdx i).map f).sum<=(l.map f).sum
 | [],i=>by simp
 | a :: l,0=>by simp
 | a :: l,i+1=>by
  have ih:=PU f l i;rw[List.eraseIdx_cons_succ,yh,yh,yK,yK];omega
theorem Fl{v c:JV}{t:List UInt8}(hc:zL v t=some c):(ct (q9 v t)).length<=(ct v).length:=by
 cases v with
 | arr l=>
  rw[Ja]at hc;obtain⟨i,d,f⟩:=Option.bind_eq_some_iff.1 hc;have e:q9 (.arr l) t= .arr (JL.ofL (l.toL.eraseIdx i)):=by simp only[q9,d]
  rw[e,KA,KC];have a:=PU (fun v=>(ct v).length) l.toL i;have b:(l.toL.eraseIdx i).length<=l.toL.length:=List.length_eraseIdx_le ..;unfold hold;omega
 | obj m=>
  have e:q9 (.obj m) t= .obj (JM.ofL (m.toL.filter fun q=>!(q.1 ==t))):=rfl;rw[e,Ym,Ym,JM.toL_ofL];have a:=PT ZV (fun q=>!(q.1 ==t)) m.toL;have b:=List.length_filter_le (fun q:List UInt8×JV=>!(q.1 ==t)) m.toL;unfold hold;omega
 | _=>cases hc
theorem PV{v u r:JV}{t:List UInt8}(hg:zI v)(h:Qr v t u=some r):(ct r).length<=(ct v).length+(ct u).length+6*t.length+4:=by
 cases v with
 | arr l=>
  simp only[Qr]at h;split at h
  ·rename_i i hi;split at h
   ·injection h with h;subst h;rw[KA,KC];have a:((l.toL.take i++u :: l.toL.drop i).map fun v=>(ct v).length).sum=(l.toL.map fun v=>(ct v).length).sum+(ct u).length:=by
     conv=>rhs;rw[← List.take_append_drop i l.toL]
     rw[yv,List.sum_append,yh,yK,yv,List.sum_append];omega
    have b:(l.toL.take i++u :: l.toL.drop i).length=l.toL.length+1:=by
     rw[yg,ym,yl,yt];omega
    rw[a,b];unfold hold;omega
   ·cases h
  ·cases h
 | obj m=>
  simp only[Qr]at h;split at h
  ·injection h with h;subst h
   cases hc:zL (.obj m) t with
   | some c=>
    have:=Fk (u:=u) hg hc;rw[Option.isSome_some,yf rfl];omega
   | none=>
    rw[Option.isSome_none,ye (by simp)];rw[Ym,Ym,JM.toL_ofL,yv,List.sum_append,yg];have:=qQ t;simp only[yh,List.map_nil,yK,List.sum_nil,ym,yC,ZV];unfold hold;omega
  ·cases h
 | _=>cases h
theorem TP(m:JM):sumT (zm (.obj m))<=(ct (.obj m)).length:=by
 show sumT (zz (zn m))<=(ZD (zz (zn m))).length
 unfold ZD;rw[ym,yg];have:∀ l:List zx,sumT l<=(joinC (l.map zt)).length+1:=fun l=>by
  cases l with
  | nil=>simp[sumT]
  | cons x r=>
   have a:∀ r:List zx,sumT r=(joinT (r.map zt)).length:=fun r=>by
    induction r with
    | nil=>rfl
    | cons y r ih=>unfold sumT at *;rw[yh,yh,yK,ih,joinT];simp;omega
   have b:=a r;show sumT (x :: r)<=(zt x++joinT (r.map zt)).length+1
   unfold sumT at *;rw[yh,yK,b,yg];omega
 have:=this (zz (zn m));simp;omega
theorem TQ(l:JL):sumA (zm (.arr l))<=(ct (.arr l)).length:=by
 have e:sumA (zm (.arr l))=((zu l).map fun t=>t.length+1).sum:=by
  unfold sumA;rw[show (fun p:zx=>p.2.length+1)=(fun t:List UInt8=>t.length+1)∘(·.2)from rfl,← List.map_map,Wi,qH]
 rw[e];show _<=(Zi (zu l)).length
 unfold Zi;rw[ym,yg];have:∀ l:List (List UInt8),(l.map fun t=>t.length+1).sum<=(joinC l).length+1:=fun l=>by
  cases l with
  | nil=>simp
  | cons x r=>
   have a:∀ r:List (List UInt8),(r.map fun t=>t.length+1).sum=(joinT r).length:=fun r=>by
    induction r with
    | nil=>rfl
    | cons y r ih=>rw[yh,yK,ih,joinT];simp;omega
   rw[yh,yK,a r];show _<=(x++joinT r).length+1
   rw[yg];omega
 have:=this (zu l);simp;omega
theorem TR{v:JV}(hok:zy v)(htw:zw v=false){x:zx}(h:x∈zm v):x.1.length+x.2.length+1<=(ct v).length:=by
 rw[OK]at h;obtain⟨y,a,rfl⟩:=yN.1 h;exact (WH hok htw a).2.2.2
theorem PY{ps:List zx}{p:Nat}{dr pu:Bool}{q:zx}:∀ {k:Nat} {x:zx},x∈Ze ps p dr pu q k->x=q∨x∈ps
 | 0,x,h=>by simp[Ze]at h
 | k+1,x,h=>by
  rw[QU,List.mem_append]at h;rcases h with h | h
  ·exact PY h
  ·unfold ZW at h;rw[List.mem_append]at h;rcases h with h | h
   ·split at h
    ·exact .inl (by simpa using h)
    ·simp at h
   ·split at h
    ·split at h
     ·rename_i hk _;rw[List.mem_singleton]at h;exact .inr (by rw[h];exact yq hk)
     ·simp at h
    ·simp at h
theorem Ua{α:Type}(f g:α->Nat):∀ (l:List α),(∀ x∈l,f x<=g x)->(l.map f).sum<=(l.map g).sum
 | [],_=>by simp
 | x :: r,h=>by
  rw[yh,yh,yK,yK];have h1:=h x yo;have a:=Ua f g r fun y hy=>h y (yu _ hy);omega
theorem PZ{α:Type}(f:α->Nat)(c:Nat):∀ l:List α,(l.map fun x=>c*f x).sum=c*(l.map f).sum
 | []=>by simp
 | x :: r=>by rw[yh,yh,yK,yK,PZ f c r,Nat.mul_add]
theorem Fm{v:JV}(hok:zy v)(htw:zw v=false)(hkd:kd v=5∨kd v=6)(hl:(ct v).length<=100000)(p:Nat)(dr pu:Bool)(q:zx)(h1:q.1.length<=1048576)(h2:q.2.length<=20000000):
  sumA (Ze (zm v) p dr pu q ((zm v).length+1))<=40000000/\sumT (zz (Ze (zm v) p dr pu q ((zm v).length+1)))<=40000000/\∀ x∈zz (Ze (zm v) p dr pu q ((zm v).length+1)),x.1.length<=1048576:=by
 have r:=V8 hok (by omega);have a:∀ f:zx->Nat,((Ze (zm v) p dr pu q ((zm v).length+1)).map f).sum<=((zm v).map f).sum+f q:=fun f=>by
  have:=PI (zm v) p dr pu q f ((zm v).length+1);rw[yp (by omega)]at this;refine yO this ?_;split<;>omega
 have z:sumA (zm v)<=100000/\sumT (zm v)<=6000000:=by
  rcases hkd with b | b
  ·obtain⟨l,rfl⟩:∃ l,v= .arr l:=by cases v<;>first | exact⟨_,rfl⟩ |(simp[kd]at b)
   have n:=TQ l;refine⟨by omega,?_⟩;have d:sumT (zm (.arr l))<=((zm (.arr l)).map fun x=>46*(x.2.length+1)).sum:=by
    unfold sumT;refine Ua _ _ _ fun x hx=>?_;obtain⟨j,o,rfl⟩:=List.mem_iff_getElem.1 hx;have e:=Fj l o;have s:=AZ 6 j (by omega);have g:=qQ (zm (.arr l))[j].1;rw[e]at g;unfold zt;rw[yg,ym,e];omega
   rw[PZ]at d;have y:((zm (.arr l)).map fun x=>x.2.length+1).sum=sumA (zm (.arr l)):=rfl;omega
  ·obtain⟨m,rfl⟩:∃ m,v= .obj m:=by cases v<;>first | exact⟨_,rfl⟩ |(simp[kd]at b)
   have n:=TP m;refine⟨?_,by omega⟩;have d:sumA (zm (.obj m))<=sumT (zm (.obj m)):=by
    unfold sumA sumT;refine Ua _ _ _ fun x _=>?_;unfold zt;rw[yg,ym];omega
   omega
 have i:=a fun x=>x.2.length+1;have k:=a fun x=>(zt x).length+1;have u:=qQ q.1;have w:(zt q).length+1<=6*1048576+4+20000000:=by
  unfold zt;rw[yg,ym];omega
 refine⟨?_,?_,fun x hx=>?_⟩
 ·refine yO i ?_;show sumA (zm v)+(q.2.length+1)<=_
  omega
 ·rw[Wz];refine yO k ?_;show sumT (zm v)+((zt q).length+1)<=_
  omega
 ·rcases PY ((qj _).subset hx)with rfl | h
  ·exact h1
  ·have:=TR hok htw h;omega
theorem Ub:∀ (ts:List (List UInt8)) (v u h:JV) (a:Option Addr) (g off cap:Nat) (w:Wo),zI v->zI u->Za v ts=some h->(ct v).length<=100000->(ct (ZP v ts u)).length<=20000000->(∀ t∈ts,t.length<=1048576)->ts.length<=1048577->ts.length<=cap->SS w a g off (ts.map Zc) ->
  Calls prog 103 #[.string (zi (ct v)),.slice a ts.length cap,.string (zi (ct u))] w fun e w'=>e= .returned (.string (zi (ct (ZP v ts u))))/\Bw w w'
 | [],v,u,h,a,g,off,cap,w,_,_,_,_,_,_,_,_,_=>by
  rw[W2];generalize zi (ct u)=U at *;go_in;go_wp2;go_ret;exact⟨rfl,yG _ _⟩
 | t :: ts,v,u,h,a,g,off,cap,w,hv,hu,hg,hl,hs,ht,hn,hcap,hss=>by
  rw[YX]at hg
  cases hc:zL v t with
  | none=>rw[hc]at hg;cases hg
  | some c=>
   rw[hc]at hg;have hgc:=hv.child hc;obtain⟨_,_,hcl,_⟩:=UL hc hv.ok hv.tw;rw[Wf hc]at hs ⊢;have F:(ct (ZP c ts u)).length<=20000000:=by
    have C:=Fk (u:=ZP c ts u) hv hc;omega
   have IH:Hid (∀ (a':Option Addr) (g' off' cap':Nat) (wx:Wo),ts.length<=cap'->SS wx a' g' off' (ts.map Zc)->Calls prog 103 #[.string (zi (ct c)),.slice a' ts.length cap',.string (zi (ct u))] wx (Rb (.string (zi (ct (ZP c ts u)))) wx)):=fun a' g' off' cap' wx C h2=>Ub ts c u h a' g' off' cap' wx hgc hu hg (by omega) F (fun x hx=>ht x (yu _ hx)) (by simp at hn;omega) C h2;have K:=zh (X1 v hv.ok hv.tw t (ht t yo) w (by omega));have O:Hid (∀ wx,Calls prog 74 #[.string (zi (ct v))] wx fun e w'=>∃ r,e= .returned r/\PR w' wx.heap.size r (zm v)/\Bw wx w'):=fun wx=>V2 v hv.ok wx (by omega);have ab:kd v=5∨kd v=6:=by
    cases v with
    | arr l=>exact .inl rfl
    | obj m=>exact .inr rfl
    | _=>cases hc
   have S:Hid (∀ (j:Nat) (q:j<(zm v).length) (wx:Wo),(zm v)[j].1=t->Calls prog 153 #[.string (zi (ct v)),.int .i64 (j:Int),.bool true,.bool true,.agg #[.string (zi t),.string (zi (ct (ZP c ts u)))]] wx (Rb (.string (zi (ct (QC v t (ZP c ts u))))) wx)):=fun j q wx hk=>by
    obtain⟨s1,s2,s3⟩:=Fm hv.ok hv.tw ab hl j true true (t,ct (ZP c ts u)) (ht t yo) F;have hpl:=V8 hv.ok (show (ct v).length<=1000000 by omega);have:=X5 v hv.ok (by omega) j true true (t,ct (ZP c ts u)) wx (by omega) s1 s2 s3;rw[TL hv hc q hk]at this;exact this
   have W:=hss.ad (by simp);have Y:=hss.cell 0 (by simp);have hc0':w.cell? ⟨g,off,none⟩=some (.string (zi t)):=by simpa [Zc,zi]using Y
   have P:Hid (∀ wx,Bw w wx->SS wx (some ⟨g,off+1,none⟩) g (off+1) (ts.map Zc)):=fun wx hx=>⟨fun _=>rfl,fun j q=>by
    have C:=(hss.below hx).cell (j+1) (by simpa using q);rw[show off+(j+1)=off+1+j by omega]at C;simpa using C⟩
   subst W;clear hss Y hg hgc hcl hs F hv hu ab hl;generalize ct (QC v t (ZP c ts u))=R at *;generalize ct (ZP c ts u)=Z at *;generalize zi (ct u)=U at *;generalize zi R=sR at *;go_in;go_wp2_with fail;refine (uh K).mono ?_;rintro e w1 ⟨b1,⟨rfl,aa⟩ |⟨j,q,u',rfl,k,af,E⟩⟩
   ·rw[hc]at aa;cases aa
   ·obtain rfl:u'=c:=by rw[hc]at k;injection k with k;exact k.symm
    have N:=zh (uh O w1);have y:=zh (fun wx=>uh S j q wx E);have G:=zh b1;have hz1:=b1.size;clear K O S k hc b1 ht;go_wp2_with fail;refine (uh N).mono ?_;rintro e b ⟨r2,rfl,p2,b2⟩;obtain⟨g2,cap2,rfl,hB2,hgl,c0,c1⟩:=p2.cells j q;rw[E]at c0;rw[af]at c1;have hjI:(j:Int)<((zm v).length:Int):=by omega
    have H:=zh (zj (uh G) b2);have HZ2:=zh (uh H).size;clear N p2 E af b2 G;generalize zi (ct u')=f at *;generalize zi t=d at *;generalize zi Z=A at *;generalize zi (ct v)=sv at *;have kA:=yF b (.cells #[.string d,.string f] 97);have bA:=ZJ b (.cells #[.string d,.string f] 97);have y0:(b.alloc (.cells #[.string d,.string f] 97)).cell? ⟨b.heap.size,0,none⟩=some (.string d):=yE kA 0;have y1:(b.alloc (.cells #[.string d,.string f] 97)).cell? ⟨b.heap.size,1,none⟩=some (.string f):=yE kA 1;have z:=(yA.1 kA).1;have i:Hid (∀ X,Below (b.alloc (.cells #[.string d,.string f] 97)).drew.heap.size (b.alloc (.cells #[.string d,.string f] 97)).drew X->X.heap[b.heap.size]?=some (.cells #[.string d,.string f] 97 (0,0))):=fun X hX=>(hX.block b.heap.size z).trans kA;have s:Hid (∀ X,Below (b.alloc (.cells #[.string d,.string f] 97)).drew.heap.size (b.alloc (.cells #[.string d,.string f] 97)).drew X->X.cell? ⟨b.heap.size,0,none⟩=some (.string d)/\X.cell? ⟨b.heap.size,1,none⟩=some (.string f)/\X.frozen? ⟨b.heap.size,1,none⟩=false):=fun X hX=>⟨yE (uh i X hX) 0,yE (uh i X hX) 1,yH (uh i X hX) 1⟩;have D:=(zj (uh H) bA);have J:Hid (∀ X,Below (b.alloc (.cells #[.string d,.string f] 97)).drew.heap.size (b.alloc (.cells #[.string d,.string f] 97)).drew X->Bw w X):=fun X hX=>zj D.drew hX;have V:=uh P _ D.drew;have hcap1:ts.length+1<=cap:=by simpa using hcap
    have hz0:¬ ((ts.length:Int)+1=0):=by omega
    have hle1:(1:Int)<=(ts.length:Int)+1:=by omega
    clear kA bA z D hcap hn;have T:SS (b.alloc (.cells #[.string d,.string f] 97)).drew (if cap=1 then some ⟨g,off,none⟩else some ⟨g,off+1,none⟩) g (off+1) (ts.map Zc):=by
     by_cases C:cap=1
     ·have ht0:ts=[]:=yM (by omega);subst ht0;exact⟨fun h=>by simp at h,fun j q=>by simp at q⟩
     ·rw[ye C];exact V
    clear V;have L:=zh (uh IH (if cap=1 then some ⟨g,off,none⟩else some ⟨g,off+1,none⟩) g (off+1) (cap - 1) (b.alloc (.cells #[.string d,.string f] 97)).drew (by omega) T);clear IH P T;go_wp2_with fail;go_region_law (go_simp;refine (uh L).mono ?_;rintro e n ⟨rfl,b4⟩;have o:=uh s n b4;have d0:=o.1;have d1:=o.2.1;have f4:=o.2.2)
    all_goals
     have M:Hid (n.heap[b.heap.size]?=some (.cells #[.string d,.string f] 97 (0,0))):=uh i n b4;have I:=zh (uh J n b4);clear b4 o L s i J;have B:Hid ((n.setCell ⟨b.heap.size,1,none⟩ (.string A)).heap[b.heap.size]?=some (.cells #[.string d,.string A] 97 (0,0))):=heap_setCell_same n b.heap.size 1 _ _ _ (uh M);have HB5:=zh ((uh I).setCell (p:=⟨b.heap.size,1,none⟩) (by have:=uh HZ2;exact this) (.string A));have e0:(n.setCell ⟨b.heap.size,1,none⟩ (.string A)).cell? ⟨b.heap.size,0,none⟩=some (.string d):=yE (uh B) 0;have e1:(n.setCell ⟨b.heap.size,1,none⟩ (.string A)).cell? ⟨b.heap.size,1,none⟩=some (.string A):=yE (uh B) 1;have Q:=zh (uh y (n.setCell ⟨b.heap.size,1,none⟩ (.string A)));clear M B I y d0 d1 f4;generalize (if cap=1 then some (⟨g,off,none⟩:Addr)else some ⟨g,off+1,none⟩)=ad at *;go_wp2_with fail;generalize (n.setCell ⟨b.heap.size,1,none⟩ (.string A))=w5 at *;refine (uh Q).mono ?_;rintro e w6 ⟨rfl,b6⟩;have HB6:=zh (zj (uh HB5) b6);clear Q b6 e0 e1;go_wp2;go_ret;exact⟨rfl,uh HB6⟩
theorem Wj{v h:JV}{ts:List (List UInt8)}(e:Za v ts=some h):Ji v ts= .tuple #[.string (zi (ct h)),.bool true]:=by unfold Ji;rw[e]
theorem Uc{v:JV}{ts:List (List UInt8)}(e:Za v ts=none):Ji v ts= .tuple #[.string ⟨#[]⟩,.bool false]:=by unfold Ji;rw[e]
theorem SS.init{w:Wo}{a:Option Addr}{g off:Nat}{xs:List (List UInt8)}{t:List UInt8}(h:SS w a g off ((xs++[t]).map Zc)):SS w a g off (xs.map Zc)/\a=some ⟨g,off,none⟩/\w.cell? ⟨g,off+xs.length,none⟩=some (.string (zi t)):=by
 have b:((xs++[t]).map Zc).length=xs.length+1:=by simp
 refine⟨⟨fun h0=>h.ad (by rw[b];omega),fun j hj=>?_⟩,h.ad (by rw[b];omega),?_⟩
 ·rw[yk]at hj;have:=h.cell j (by rw[b];omega);rw[this,yv];simp[List.getElem?_append_left,hj]
 ·have:=h.cell xs.length (by rw[b];omega);rw[this];simp[Zc,zi]
theorem Vn:∀ {ts:List (List UInt8)} {v u:JV},zI v->Za v ts=some u->(ct u).length<=(ct v).length
 | [],v,u,_,e=>by
  rw[Ga]at e;injection e with e;subst e;exact yd _
 | t :: ts,v,u,h,e=>by
  rw[YX]at e
  cases hc:zL v t with
  | none=>rw[hc]at e;cases e
  | some x=>
   rw[hc]at e;have h1:=Vn (h.child hc) e;have a:=(UL hc h.ok h.tw).2.2.1;omega
theorem TS{v c:JV}{t:List UInt8}(hv:zI v)(hc:zL v t=some c)(ht:t.length<=1048576)(hl:(ct v).length<=100000)(w:Wo):
  Calls prog 151 #[.string (zi (ct v)),.string (zi t)] w fun e w'=>∃ (j:Nat) (hj:j<(zm v).length),e= .returned (.int .i64 (j:Int))/\(zm v)[j].1=t/\Bw w w':=by
 refine (X1 v hv.ok hv.tw t ht w (by omega)).mono ?_;rintro e g ⟨d,⟨rfl,a⟩ |⟨j,hj,f,rfl,_,_,b⟩⟩
 ·rw[hc]at a;cases a
 ·exact⟨j,hj,rfl,b,d⟩
theorem TT{v c:JV}{t:List UInt8}(hc:zL v t=some c):kd v=5∨kd v=6:=by
 cases v with
 | arr l=>exact .inl rfl
 | obj m=>exact .inr rfl
 | _=>cases hc
theorem TU(v h c:JV)(xs:List (List UInt8))(t:List UInt8)(a:Option Addr)(g off cap:Nat)(w:Wo)(hv:zI v)(hg:Za v xs=some h)(hc:zL h t=some c)(hl:(ct v).length<=100000)(hts:∀ x∈xs++[t],x.length<=1048576)(hn:xs.length<=1048576)(hcap:xs.length+1<=cap)(hss:SS w a g off ((xs++[t]).map Zc)):
  Calls prog 102 #[.string (zi (ct v)),.slice a (xs.length+1) cap] w fun e w'=>e= .returned (.string (zi (ct (ZP v xs (q9 h t)))))/\Bw w w':=by
 obtain⟨n,rfl,m⟩:=SS.init hss;have b:=hv.get hg;have E:=Vn hv hg;have r:=Pr b hc;have C:=Fl hc;have G:=YY (u:=q9 h t) hv hg;have y:t.length<=1048576:=hts t (by simp);have d:=zh (Kh v hv.ok hv.tw (by omega) (some ⟨g,off,none⟩) g off cap xs w n (by omega) (fun x hx=>hts x (List.mem_append_left _ hx)));rw[Wj hg]at d;have o:Hid (∀ wx,Calls prog 151 #[.string (zi (ct h)),.string (zi t)] wx fun e w'=>∃ (j:Nat) (s:j<(zm h).length),e= .returned (.int .i64 (j:Int))/\(zm h)[j].1=t/\Bw wx w'):=fun wx=>TS b hc y (by omega) wx;have q:Hid (∀ (j:Nat) (s:j<(zm h).length) (wx:Wo),(zm h)[j].1=t->Calls prog 153 #[.string (zi (ct h)),.int .i64 (j:Int),.bool true,.bool false,.agg #[.string ⟨#[]⟩,.string ⟨#[]⟩]] wx (Rb (.string (zi (ct (q9 h t)))) wx)):=fun j s wx hk=>by
  obtain⟨s1,s2,s3⟩:=Fm b.ok b.tw (TT hc) (by omega) j true false ([],[]) (by simp) (by simp);have T:=V8 b.ok (show (ct h).length<=1000000 by omega);have:=X5 h b.ok (by omega) j true false ([],[]) wx (by omega) s1 s2 s3;rw[TM b hc s hk]at this;exact this
 have k:Hid (∀ wx,Bw w wx->Calls prog 103 #[.string (zi (ct v)),.slice (some ⟨g,off,none⟩) xs.length cap,.string (zi (ct (q9 h t)))] wx (Rb (.string (zi (ct (ZP v xs (q9 h t))))) wx)):=fun wx hx=>Ub xs v (q9 h t) h (some ⟨g,off,none⟩) g off cap wx hv r hg hl (by omega) (fun x hx=>hts x (List.mem_append_left _ hx)) (by omega) (by omega) (n.below hx);have l:Hid (∀ wx,Bw w wx->wx.cell? ⟨g,off+xs.length,none⟩=some (.string (zi t))):=fun wx hx=>(hx.cell (p:=⟨g,off+xs.length,none⟩) (yI _ _ m)).trans m;have N:(xs.length:Int)+1 - 1=(xs.length:Int):=by omega
 have K:xs.length<=cap:=by omega
 have L:(xs.length:Int)<(xs.length:Int)+1:=by omega
 have M:xs.length<xs.length+1:=by omega
 clear hss n m b E r C G hv hg hc hl hts y;generalize zi (ct (ZP v xs (q9 h t)))=R at *;generalize zi (ct (q9 h t))=D at *;generalize zi (ct v)=X at *;generalize zi (ct h)=V at *;generalize zi t=W at *;go_in;go_wp2_with fail;refine (uh d).mono ?_;rintro e O ⟨rfl,A⟩;have B:Bw w O.drew:=A.drew;have S:=uh l O.drew B;have Q:=zh A;clear d A;go_wp2_with fail;go_region_law (first
  |(have U:=i;go_simp;refine (uh k _ i).mono ?_;rintro e Z ⟨rfl,J⟩)
  |(have U:=f;go_simp;refine (uh q j s P F).mono ?_;rintro e Y ⟨rfl,I⟩;have i:=zj f I)
  |(go_simp;refine (uh o _).mono ?_;rintro e P ⟨j,s,rfl,F,H⟩;have f:=zj B H;have c4:=uh l P f))
 all_goals
  have z:=zh (zj i J);clear H I J f i k q o l B S;go_wp2;go_ret;exact⟨rfl,uh z⟩
theorem P8{v:JV}(h:zy v)(h0:0<(zi (ct v)).size):∃ c:Nat,(zi (ct v))[0].toNat=c/\(c=91↔kd v=5)/\(c=123↔kd v=6):=by
 obtain⟨c,r,e,f⟩:=OQ h;refine⟨c.toNat,?_,?_⟩
 ·rw[← Zg _ 0 h0,e];exact (VD (c:=c) (r:=r)).2
 ·rw[← f];unfold fb
  repeat' split
  all_goals omega
def Vo:Option JV->Value
 | none=>.tuple #[.string ⟨#[]⟩,.bool false]
 | some r=>.tuple #[.string (zi (ct r)),.bool true]
theorem TV(v u:JV)(xs:List (List UInt8))(t:List UInt8)(a:Option Addr)(g off cap:Nat)(w:Wo)(hv:zI v)(hu:zI u)(hl:(ct v).length<=100000)(hul:(ct u).length<=100000)(hts:∀ x∈xs++[t],x.length<=1048576)(hn:xs.length<=1048576)(hcap:xs.length+1<=cap)(hss:SS w a g off ((xs++[t]).map Zc)):
  Calls prog 101 #[.string (zi (ct v)),.slice a (xs.length+1) cap,.string (zi (ct u))] w fun e w'=>e= .returned (Vo (Qk v (xs++[t]) u))/\Bw w w':=by
 obtain⟨R,hR0⟩:∃ R,Qk v (xs++[t]) u=R:=⟨_,rfl⟩;have hR:R=((Za v xs).bind fun h=>Qr h t u).map (ZP v xs):=by
  rw[← hR0];unfold Qk;rw[ye (by simp),List.dropLast_concat];show ((Za v xs).bind fun h=>Qr h (Ys (xs++[t])) u).map _=_
  unfold Ys;simp
 rw[hR0];clear hR0;obtain⟨U,rfl,T⟩:=SS.init hss;have K:t.length<=1048576:=hts t (by simp);have s:=zh (Kh v hv.ok hv.tw (by omega) (some ⟨g,off,none⟩) g off cap xs w U (by omega) (fun x hx=>hts x (List.mem_append_left _ hx)));have y:Hid (∀ wx,Bw w wx->wx.cell? ⟨g,off+xs.length,none⟩=some (.string (zi t))):=fun wx hx=>(hx.cell (p:=⟨g,off+xs.length,none⟩) (yI _ _ T)).trans T;have hsub:(xs.length:Int)+1 - 1=(xs.length:Int):=by omega
 have hlec:xs.length<=cap:=by omega
 have hltI:(xs.length:Int)<(xs.length:Int)+1:=by omega
 cases hg:Za v xs with
 | none=>
  have HN:Hid (R=none):=by show _=_;rw[hR,hg];rfl
  rw[Uc hg]at s;clear hg y hss U T hv hu hl hul hts K hcap hR;go_in;go_wp2_with fail;refine (uh s).mono ?_;rintro e V ⟨rfl,Y⟩;have HB1:=zh Y;clear s Y;go_wp2;go_ret2;exact⟨by rw[uh HN];rfl,uh HB1⟩
 | some h=>
  have G:R=(Qr h t u).map (ZP v xs):=by rw[hR,hg];rfl
  have o:=hv.get hg;have hlh:=Vn hv hg;have h0:=Ki o.ok;have h0I:(0:Int)<((zi (ct h)).size:Int):=by omega
  rw[Wj hg]at s;obtain⟨c,hc,c5,c6⟩:=P8 o.ok h0;by_cases I:kd h=5∨kd h=6
  ·have hpl:=V8 o.ok (show (ct h).length<=1000000 by omega);have O:Hid (∀ wx,Calls prog 74 #[.string (zi (ct h))] wx fun e w'=>∃ xa xc,e= .returned (.slice xa (zm h).length xc)/\PR w' wx.heap.size (.slice xa (zm h).length xc) (zm h)/\Bw wx w'):=fun wx=>by
    refine (V2 h o.ok wx (by omega)).mono ?_;rintro e w' ⟨r,rfl,p,b⟩;obtain⟨xa,xc,rfl⟩:=PR.shape p;exact⟨xa,xc,rfl,p,b⟩
   have f:Hid (∀ (i:Nat) (D:JV) (wx:Wo),i<=1000000->Yc h (Ze (zm h) i false true (t,ct u) ((zm h).length+1))=ct D->Calls prog 153 #[.string (zi (ct h)),.int .i64 (i:Int),.bool false,.bool true,.agg #[.string (zi t),.string (zi (ct u))]] wx (Rb (.string (zi (ct D))) wx)):=fun i D wx hi hD=>by
    obtain⟨s1,s2,s3⟩:=Fm o.ok o.tw I (by omega) i false true (t,ct u) K (by show (ct u).length<=_;omega);have:=X5 h o.ok (by omega) i false true (t,ct u) wx hi s1 s2 s3;rw[hD]at this;exact this
   have d:Hid (∀ D wx,Qr h t u=some D->Bw w wx->Calls prog 103 #[.string (zi (ct v)),.slice (some ⟨g,off,none⟩) xs.length cap,.string (zi (ct D))] wx (Rb (.string (zi (ct (ZP v xs D)))) wx)):=fun D wx hp hx=>by
    have hrl:=PV o hp;have hsl:=YY (u:=D) hv hg;exact Ub xs v D h (some ⟨g,off,none⟩) g off cap wx hv (Ps o hu hp) hg hl (by omega) (fun x hx=>hts x (List.mem_append_left _ hx)) (by omega) (by omega) (U.below hx)
   rcases I with I | I
   case' inl=>
    obtain⟨l,rfl⟩:∃ l,h= .arr l:=by cases h<;>first | exact⟨_,rfl⟩ | cases I
    have S:c=91:=c5.2 rfl;have f1:(((zi (ct (.arr l)))[0].toNat:Int) !=91)=false:=by rw[hc,S];rfl
    have f3:(((zi (ct (.arr l)))[0].toNat:Int) ==123)=false:=by rw[hc,S];rfl
    have hpe:(zm (.arr l)).length=l.toL.length:=by simpa using congrArg List.length (Wi l)
    rw[hpe]at O hpl;have HIX:Hid (∀ wx,Calls prog 154 #[.string (zi t)] wx (Rk (.int .i64 (Jb t)) wx)):=fun wx=>by
     have:=D6 (zi t) wx (by rw[zS];exact K)
     rwa [Zd]at this
    obtain⟨q,hq⟩:∃ q,((zi t).toList ==[45])=q:=⟨_,rfl⟩;obtain⟨Z,hZ⟩:∃ Z:Int,Z=if q then (l.toL.length:Int)else Jb t:=⟨_,rfl⟩
    have Q:R=if 0<=Z/\Z<=l.toL.length then some (ZP v xs (.arr (JL.ofL (l.toL.take Z.toNat++u :: l.toL.drop Z.toNat))))else none:=by
     rw[G,hZ,← hq,ByteArray.toList_eq,Zd];simp only[Qr,yB];by_cases hd:t=[45]
     ·simp only[hd,if_true,Int.toNat_natCast,yd,Int.le_refl,and_true];rw[yf (by omega)];rfl
     ·simp only[hd,if_false];unfold Jb
      cases qJ t with
      | none=>rfl
      | some i=>
       simp only[Int.toNat_natCast];by_cases hi:i<=l.toL.length
       ·rw[yf hi,yf (by omega)];rfl
       ·rw[ye hi,ye (by omega)];rfl
    have HP:Hid (∀ i:Nat,Z=i->i<=l.toL.length->Qr (.arr l) t u=some (.arr (JL.ofL (l.toL.take i++u :: l.toL.drop i)))):=fun i H h2=>by
     rw[H,yf (by omega)]at Q;rw[G]at Q;simp only[Qr]at Q ⊢;rw[hZ,← hq,ByteArray.toList_eq,Zd]at H;simp only[yB]at H;by_cases hd:t=[45]
     ·simp only[hd,if_true]at H ⊢;rw[show i=l.toL.length by omega,yf (yd _)]
     ·simp only[hd,if_false]at H ⊢;unfold Jb at H
      cases hi:qJ t with
      | none=>rw[hi]at H;simp only at H;omega
      | some j=>rw[hi]at H;simp only at H;rw[show j=i by omega];simp only;rw[yf h2]
    have HZ:=zh hZ;have HR:=zh Q;have f:Hid (∀ (i:Nat) (wx:Wo),i<=l.toL.length->Calls prog 153 #[.string (zi (ct (.arr l))),.int .i64 (i:Int),.bool false,.bool true,.agg #[.string (zi t),.string (zi (ct u))]] wx (Rb (.string (zi (ct (.arr (JL.ofL (l.toL.take i++u :: l.toL.drop i)))))) wx)):=fun i wx hi=>uh f i _ wx (by omega) (TN hi);clear hZ Q hpe S
   case' inr=>
    obtain⟨m,rfl⟩:∃ m,h= .obj m:=by cases h<;>first | exact⟨_,rfl⟩ | cases I
    have C:c=123:=c6.2 rfl;have f1:(((zi (ct (.obj m)))[0].toNat:Int) !=91)=true:=by rw[hc,C];rfl
    have f2:(((zi (ct (.obj m)))[0].toNat:Int) !=123)=false:=by rw[hc,C];rfl
    have f3:(((zi (ct (.obj m)))[0].toNat:Int) ==123)=true:=by rw[hc,C];rfl
    have HV:Hid (∀ wx,Calls prog 152 #[.string (zi t)] wx (Rb (.bool (Lib.validD t)) wx)):=fun wx=>by
     have:=Cg (zi t) wx (by rw[zS];exact K)
     rwa [Zd]at this
    have HFI:Hid (∀ (wx:Wo) (B:Nat) (r:Value),PR wx B r (zm (.obj m))->Calls prog 115 #[r,.string (zi t)] wx fun e w'=>wx=w'/\∃ z:Int,e= .returned (.int .i64 z)/\Hid (z= -1/\zL (.obj m) t=none∨0<=z/\∃ c,zL (.obj m) t=some c)):=fun wx B r hr=>by
     refine (NZ B r (zm (.obj m)) t wx hr (by omega)).mono ?_;rintro e w' ⟨rfl,⟨rfl,hno⟩ |⟨j,hj,rfl,I⟩⟩
     ·exact⟨rfl,_,rfl,.inl ⟨rfl,DN hno⟩⟩
     ·obtain⟨c,H,_⟩:=DM o.ok o.tw (fun ⟨l,e⟩=>by cases e) hj I;exact⟨rfl,_,rfl,.inr ⟨by omega,c,H⟩⟩
    have N:Hid (∀ c wx,zL (.obj m) t=some c->Lib.validD t=true->Bw w wx->Calls prog 103 #[.string (zi (ct v)),.slice (some ⟨g,off,none⟩) (xs.length+1) cap,.string (zi (ct u))] wx fun e w'=>e= .returned (.string (zi (ct (ZP v xs (QC (.obj m) t u)))))/\Bw wx w'/\R=some (ZP v xs (QC (.obj m) t u))):=fun c wx n hval hx=>by
     have e1:Za v (xs++[t])=some c:=by rw[WG,hg];show Za (.obj m) [t]=_;rw[YX,n];exact Ga c
     have e2:=Pp xs v (.obj m) c t u hg n;have e3:=YY (u:=u) hv e1;have:=Ub (xs++[t]) v u c (some ⟨g,off,none⟩) g off cap wx hv hu e1 hl (by omega) hts (by simp;omega) (by simp;omega) (hss.below hx);rw[e2,yg]at this;refine Calls.mono this ?_;rintro e w' ⟨H,h2⟩;refine⟨H,h2,?_⟩;rw[G];simp only[Qr];rw[yf hval,n];rfl
    have M:Hid (zL (.obj m) t=none->Lib.validD t=true->Qr (.obj m) t u=some (.obj (JM.ofL (m.toL++[(t,u)])))/\R=some (ZP v xs (.obj (JM.ofL (m.toL++[(t,u)]))))):=fun n hval=>by
     have e:Qr (.obj m) t u=some (.obj (JM.ofL (m.toL++[(t,u)]))):=by simp only[Qr];rw[yf hval,n];rfl
     exact⟨e,by rw[G,e];rfl⟩
    have HN:Hid (Lib.validD t=false->R=none):=fun hval=>by rw[G];simp only[Qr];rw[ye (by rw[hval];simp)];rfl
    have f:=zh fun wx n=>uh f 0 _ wx (by omega) (TO o n);clear C
   all_goals
    clear hc c5 c6 I hR G hg o hlh hss U T hv hu hl hul hts K hcap;go_in;go_wp2_with fail;refine (uh s).mono ?_;rintro e V ⟨rfl,Y⟩;have c1:=uh y V Y;have kA:=yF V (.cells #[.string (zi t),.string (zi (ct u))] 97);have bA:=zj Y (ZJ V (.cells #[.string (zi t),.string (zi (ct u))] 97));have E:Hid (∀ wx,Below (V.alloc (.cells #[.string (zi t),.string (zi (ct u))] 97)).heap.size (V.alloc (.cells #[.string (zi t),.string (zi (ct u))] 97)) wx->wx.cell? ⟨V.heap.size,0,none⟩=some (.string (zi t))/\wx.cell? ⟨V.heap.size,1,none⟩=some (.string (zi (ct u)))):=fun wx hx=>by
     have k:=(hx.block V.heap.size (yA.1 kA).1).trans kA;exact⟨yE k 0,yE k 1⟩
    have cA:=uh y _ bA;have HBA:=zh bA;clear s Y kA bA;go_wp2_with fail;generalize (V.alloc (.cells #[.string (zi t),.string (zi (ct u))] 97))=wA at *
   ·refine (uh HV _).mono ?_;rintro e w2 ⟨rfl,b2⟩;have L:=zh (zj (uh HBA) b2);have bD:Bw w w2.drew:=(uh L).drew;have cD:=uh y w2.drew bD;have X:=zh b2;clear HV b2 c1 cA
    cases hval:Lib.validD t with
    | false=>
     have HN:=zh (uh HN hval);clear hval;go_wp2;go_ret2;exact⟨by rw[uh HN];rfl,uh L⟩
    | true=>
     have HVT:=zh hval;clear hval HN;go_wp2_with fail;go_region_law (first
      |(have hq:=P;go_simp;refine (uh HFI _ _ _ p4).mono ?_;rintro e w5 ⟨rfl,z,rfl,HZ⟩)
      |(go_simp;refine (uh O _).mono ?_;rintro e w4 ⟨xa,xc,rfl,p4,b4⟩;have P:=zj bD b4;have c4:=uh y w4 P))
     all_goals
      have HB4:=zh P;have bP:=zj (uh X).drew b4;have J:Bw w w4.drew:=P.drew;have F:=bP.drew;obtain⟨y0,y1⟩:=uh E w4.drew F;clear b4 p4 c4 O HFI cD bD P bP;rcases uh HZ with ⟨rfl,n⟩ |⟨hz,c,n⟩
      ·obtain⟨hp,hr⟩:=uh M n (uh HVT);have d:=zh fun wx=>uh d _ wx hp;have f:=zh fun wx=>uh f wx n;have HR:=zh hr;generalize (JV.obj (JM.ofL (m.toL++[(t,u)])))=D at *;clear hp hr n HZ M N;go_wp2_with fail;go_region_law (first
        |(have hq:=A;go_simp;refine (uh d _ A).mono ?_;rintro e w7 ⟨rfl,b7⟩)
        |(go_simp;refine (uh f _).mono ?_;rintro e w6 ⟨rfl,W⟩;have A:=zj J W;have z6:=uh E w6 (zj F W);have z0:=z6.1;have z1:=z6.2))
       all_goals
        have HBF:=zh (zj A b7);clear W A b7 J F z6 z0 z1 y0 y1 d f E y;go_wp2;go_ret2;exact⟨by rw[uh HR];rfl,uh HBF⟩
      ·have HS:=zh (uh N c w4 n (uh HVT) (uh HB4));clear d y E HZ n M N f y0 y1 J F;go_wp2_with fail;refine (uh HS).mono ?_;rintro e w6 ⟨rfl,W,hr⟩;have HB6:=zh (zj (uh HB4) W);have HR:=zh hr;clear HS W hr;go_wp2;go_ret2;exact⟨by rw[uh HR];rfl,uh HB6⟩
   ·refine (uh O _).mono ?_;rintro e w2 ⟨xa,xc,rfl,-,b2⟩;have hB2:=zj (uh HBA) b2;have c2:=uh y w2 hB2;have L:=zh hB2;have X:=zh b2;clear O hB2 b2 c1 cA;go_wp2_with fail;refine (uh HIX _).mono ?_;rintro e w2' ⟨rfl,rfl⟩;clear HIX;go_upto_if 90 with fail;go_cut [14]from 86 to 91 (fun x wx=>x= .int .i64 Z/\w2=wx)
    case first=>cases q<;>(go_wp2;go_meet;case rel=>exact⟨by rw[uh HZ];rfl,rfl⟩)
    obtain⟨rfl,rfl⟩:=hcut;by_cases hz:0<=Z/\Z<=l.toL.length
    ·rw[yf hz]at HR;obtain⟨i,rfl⟩:∃ i:Nat,Z=i:=⟨Z.toNat,by omega⟩;have hin:i<=l.toL.length:=by omega
     have HP:=zh (uh HP i rfl hin);have f:=zh fun wx=>uh f i wx hin;have d:=zh fun wx=>uh d _ wx (uh HP);have hzl:¬ (i:Int)<0:=by omega
     have hzl2:¬ (l.toL.length:Int)<(i:Int):=by omega
     have J:Bw w w2.drew:=(uh L).drew;have F:=(uh X).drew;obtain⟨y0,y1⟩:=uh E w2.drew F;rw[Int.toNat_natCast]at HR;generalize (JV.arr (JL.ofL (l.toL.take i++u :: l.toL.drop i)))=D at *;clear hz HP;go_wp2_with fail;go_region_law (first
      |(have hq:=A;go_simp;refine (uh d _ A).mono ?_;rintro e w7 ⟨rfl,b7⟩)
      |(go_simp;refine (uh f _).mono ?_;rintro e w6 ⟨rfl,W⟩;have A:=zj J W;have z6:=uh E w6 (zj F W);have z0:=z6.1;have z1:=z6.2))
     all_goals
      have HBF:=zh (zj A b7);clear W A b7 J F z6 z0 z1 y0 y1 d f E y;go_wp2;go_ret2;exact⟨by rw[uh HR];rfl,uh HBF⟩
    ·rw[ye hz]at HR;have hz:(Z<0)=True∨(Z<0)=False/\((l.toL.length:Int)<Z)=True:=by
      by_cases h:Z<0
      ·exact .inl (eq_true h)
      ·exact .inr ⟨yP h,eq_true (by omega)⟩
     clear E X d f HP y HZ;rcases hz with H |⟨H,h2⟩<;>(go_wp2;go_ret2;exact⟨by rw[uh HR];rfl,uh L⟩)
  ·have HN:Hid (R=none):=by show _=_;rw[G];cases h<;>first | rfl | exact absurd (.inl rfl) I | exact absurd (.inr rfl) I
   have f1:(((zi (ct h))[0].toNat:Int) !=91)=true:=by
    rw[hc];simp;intro e;exact I (.inl (c5.1 (by omega)))
   have f2:(((zi (ct h))[0].toNat:Int) !=123)=true:=by
    rw[hc];simp;intro e;exact I (.inr (c6.1 (by omega)))
   clear hc c5 c6 I hg o hlh y hss U T hv hu hl hul hts K hcap hR G;go_in;go_wp2_with fail;refine (uh s).mono ?_;rintro e V ⟨rfl,Y⟩;have HB1:=zh Y;clear s Y;go_wp2;go_ret2;exact⟨by rw[uh HN];rfl,uh HB1⟩
def YZ:Nat->List UInt8->JV->List (List UInt8×JV)
 | 0,_,_=>[]
 | n+1,p,v=>(p,v) ::(zZ v).flatMap fun q=>YZ n (Z7 p q.1) q.2
theorem KE:∀ (n:Nat) (p:List UInt8) (v:JV),zX n p v=(YZ n p v).map fun x=>(x.1,ct x.2)
 | 0,_,_=>rfl
 | n+1,p,v=>by
  rw[zX,YZ,yh,List.map_flatMap];congr 2;funext q;exact KE n _ q.2
theorem P9:∀ (n:Nat) (p:List UInt8) (v:JV),zy v->zw v=false->∀ x∈YZ n p v,zy x.2/\(ct x.2).length<=(ct v).length
 | 0,_,_,_,_,x,h=>by cases h
 | n+1,p,v,ok,tw,x,h=>by
  rw[YZ,List.mem_cons]at h;rcases h with rfl | h
  ·exact⟨ok,yd _⟩
  ·obtain⟨q,hq,hx⟩:=List.mem_flatMap.1 h;obtain⟨a,b,-,f⟩:=WH ok tw hq;obtain⟨d,g⟩:=P9 n _ q.2 a b x hx;exact⟨d,by omega⟩
def Yx(v:JV)(i:Nat):JV:=((YZ 100 [] v).getD i ([],.nul)).2
theorem TW(v:JV)(i:Nat)(h:i<(zX 100 [] v).length):(zX 100 [] v)[i].2=ct (Yx v i):=by
 have a:(zX 100 [] v).length=(YZ 100 [] v).length:=by rw[KE,yk]
 have e:(zX 100 [] v)[i]?=((YZ 100 [] v).map fun x=>(x.1,ct x.2))[i]?:=by rw[KE]
 rw[yw h,List.getElem?_map,yw (by omega)]at e;injection e with e;rw[e];unfold Yx;rw[List.getD_eq_getElem?_getD,yw (by omega)];rfl
theorem TX{v:JV}(h1:zy v)(h2:zw v=false)(i:Nat)(h:i<(zX 100 [] v).length):zy (Yx v i)/\(ct (Yx v i)).length<=(ct v).length:=by
 have a:(zX 100 [] v).length=(YZ 100 [] v).length:=by rw[KE,yk]
 unfold Yx;rw[List.getD_eq_getElem?_getD,yw (by omega)];exact P9 100 [] v h1 h2 _ (yq _)
theorem TY(hs:List zx)(i:Nat)(h:i<hs.length):zi hs[i].1=qD hs i:=by
 unfold qD;rw[List.getD_eq_getElem?_getD,yw h];rfl
def Fo(x:Nat):Bs:=if x=252 then ⟨#[47,255]⟩else if x=253 then ⟨#[47,97,195]⟩else ⟨#[47,228,184,150]⟩
def Gd(x:Nat)(p:Bs)(u:JV):Option Bs:=if kd u=6 then some (if 252<=x then p++Fo x else p++⟨(Zf [zi (qz (x / 4))]).toArray⟩)
 else if kd u=5 then some (if x % 3=0 then p++⟨#[47,45]⟩else p++⟨#[47]⟩++zi (zP (x / 4 % ((zm u).length+1))))else none
def Yy(P:Nat->Bs)(U:Nat->JV)(N x:Nat)(d:Bs):Nat->Nat->Bs
 | 0,_=>d
 | m+1,k=>(Gd x (P ((x / 4+k) % N)) (U ((x / 4+k) % N))).getD (Yy P U N x d m (k+1))
def Yz(v:JV)(ad:Bool)(q:List UInt8):Bs×List UInt8:=
 if (nx q).1 % 16=15 then Wg (zX 100 [] v) (nx (nx q).2).2
 else if ad=true/\(nx q).1 % 4<3 then (Yy (qD (zX 100 [] v)) (Yx v) (zX 100 [] v).length (nx q).1 (qD (zX 100 [] v) (((nx q).1 / 4+(nx (nx q).2).1) % (zX 100 [] v).length)) (zX 100 [] v).length 0,(nx (nx q).2).2)
 else (qD (zX 100 [] v) (((nx q).1 / 4+(nx (nx q).2).1) % (zX 100 [] v).length),(nx (nx q).2).2)
theorem TZ{x:Nat}{p:Bs}{u:JV}{t:Bs}(hx:x<=255)(hp:p.size<=40000)(h:Gd x p u=some t):t.size<=40100:=by
 unfold Gd at h;have a:=Kz (x / 4);have b:=WO (x / 4 % ((zm u).length+1)) (by have:=Nat.mod_le (x / 4) ((zm u).length+1);omega);have d:(⟨#[47,255]⟩:Bs).size=2:=rfl;have f:(⟨#[47,97,195]⟩:Bs).size=3:=rfl;have g:(⟨#[47,228,184,150]⟩:Bs).size=4:=rfl;have i:(⟨#[47,45]⟩:Bs).size=2:=rfl;have j:(⟨#[47]⟩:Bs).size=1:=rfl;split at h
 ·injection h with h;subst h;split
  ·unfold Fo;rw[ByteArray.size_append]
   repeat' split
   all_goals omega
  ·rw[ByteArray.size_append,Wh (Zf [zi (qz (x / 4))])];omega
 ·split at h
  ·injection h with h;subst h;split
   ·rw[ByteArray.size_append];omega
   ·rw[ByteArray.size_append,ByteArray.size_append,zS];omega
  ·cases h
theorem Ra{P:Nat->Bs}{U:Nat->JV}{N x:Nat}{d:Bs}(hx:x<=255)(hP:∀ i,(P i).size<=40000)(hd:d.size<=40000):∀ (m k:Nat),(Yy P U N x d m k).size<=40100
 | 0,_=>by rw[Yy];omega
 | m+1,k=>by
  rw[Yy]
  cases h:Gd x (P ((x / 4+k) % N)) (U ((x / 4+k) % N))with
  | none=>exact Ra hx hP hd m (k+1)
  | some t=>exact TZ hx (hP _) h
theorem Fp{v:JV}(hd:VI v)(ad:Bool)(q:List UInt8):(Yz v ad q).1.size<=40100:=by
 have b:∀ x∈zX 100 [] v,x.1.length<=40000:=fun x hx=>by have:=Xo 100 [] v x hx;have:=hd.mx;simp at *;omega
 have d:=TF b (nx (nx q).2).2;have a:=Ky b;unfold Yz;split
 ·omega
 ·split
  ·exact Ra (Qo q) a (a _) _ _
  ·have:=a (((nx q).1 / 4+(nx (nx q).2).1) % (zX 100 [] v).length);show (qD _ _).size<=_
   omega
theorem T0(B rb:Nat)(v:JV)(ad:Bool)(q0:List UInt8)(w:Wo)(h:Zy w B rb q0)(hd:VI v):
  Calls prog 132 #[.pointer (some ⟨rb,0,none⟩),.string (zi (ct v)),.bool ad] w (DB B rb w (Yz v ad q0).1 (Yz v ad q0).2):=by
 have HX1:=zh fun w (h:Zy w B rb q0)=>QS B rb q0 w h;have HX2:=zh fun w (h:Zy w B rb (nx q0).2)=>QS B rb (nx q0).2 w h;have hlen:=hd.len;have hcnt:=hd.cnt;have HH:Hid (∀ w,Calls prog 176 #[.string (zi (ct v)),.string (zi [])] w fun e w'=>∃ r,e= .returned r/\HR w' w.heap.size r (zX 100 [] v)/\Bw w w'):=fun w=>N0 100 v [] w hd.ok hd.tw hd.dep (by omega) (by simp;omega) (by omega);have O:Hid (∀ i,i<(zX 100 [] v).length->(qD (zX 100 [] v) i).size<=40000/\zy (Yx v i)/\(ct (Yx v i)).length<=600000):=fun i hi=>by
  have hm:∀ x∈zX 100 [] v,x.1.length<=40000:=fun x hx=>by have:=Xo 100 [] v x hx;have:=hd.mx;simp at *;omega
  obtain⟨u1,u4⟩:=TX hd.ok hd.tw i hi;exact⟨Ky hm i,u1,by omega⟩
 have HAT:Hid (∀ i (hi:i<(zX 100 [] v).length),zi (zX 100 [] v)[i].1=qD (zX 100 [] v) i/\(zX 100 [] v)[i].2=ct (Yx v i)):=fun i hi=>⟨TY _ i hi,TW v i hi⟩;have HDP:=zh fun w h=>TG B rb v (nx (nx q0).2).2 w h hd;have hn:(zX 100 [] v).length=zo v:=UO 100 [] v hd.ok hd.tw hd.dep;have hn1:1<=(zX 100 [] v).length:=by have:=(Jv v);omega
 have hn2:(zX 100 [] v).length<=3000:=by omega
 have hx:=Qo q0;have hy:=Qo (nx q0).2;generalize hRR:Yz v ad q0=RR at *;unfold Yz at hRR;have ab:=zh hRR;clear hRR;generalize zX 100 [] v=f at *;generalize hsv:zi (ct v)=sv at *;generalize Yx v=U at *;generalize (nx q0).1=x at *;generalize (nx q0).2=q1 at *;generalize (nx q1).1=y at *;generalize (nx q1).2=q2 at *;have HR0:=zh h;clear h hd hlen hcnt hn hsv;go_in;go_wp2_with fail;refine (uh HX1 _ (uh HR0)).mono ?_;rintro e w1 ⟨rfl,d1⟩;have HS1:=zh d1;have hrb:=d1.rd.lt;have D:=zh (uh HH w1);clear d1 HR0 HH HX1;go_wp2_with fail;refine (uh D).mono ?_;rintro e w2 ⟨v2,rfl,o2,b2⟩;obtain⟨va,vc,rfl⟩:=WP o2;have HS2:=zh ((uh HS1).below b2);have N:Hid (∀ wx,w2.grownBy wx (some rb)->∀ q (hq:q<f.length),∃ g,va=some ⟨g,0,none⟩/\wx.cell? ⟨g,q*2,none⟩=some (.string (qD f q))/\wx.cell? ⟨g,q*2+1,none⟩=some (.string (zi (ct (U q))))):=fun wx hg q hq=>by
  obtain⟨g,cap,he,hg2,hgl,c0,c1⟩:=o2.cells q hq;obtain⟨a0,a1⟩:=uh HAT q hq;rw[a0]at c0;rw[a1]at c1;injection he with he1 he2 he3;have hne:g≠rb:=by omega
  exact⟨g,he1,hg.cell c0 (by simpa using hne),hg.cell c1 (by simpa using hne)⟩
 have HB2:=zh b2;clear D o2 b2 HAT;go_wp2_with fail;refine (uh HX2 _ (uh HS2).rd).mono ?_;rintro e W ⟨rfl,d3⟩;have Z3:=zh ((uh HS2).step d3);have g3:=d3.gr;have HG3:=zh g3;have hid:(x:Int) / 4+(y:Int)=((x / 4+y:Nat):Int):=by omega
 have hib:x / 4+y<=400:=by omega
 generalize x / 4+y=yn at *;have hq:(yn:Int) % (f.length:Int)=((yn % f.length:Nat):Int):=by simp
 have hql:yn % f.length<f.length:=Nat.mod_lt _ (by omega);generalize yn % f.length=q at *;obtain⟨g,rfl,c0,c1⟩:=uh N W g3 q hql;have hqI:(q:Int)<(f.length:Int):=by omega
 have hsn:(f.length:Int)≠0:=by omega
 have hzs:=(uh O q hql).1;clear d3 g3 HX2;generalize qD f q=s at *;generalize zi (ct (U q))=s2 at *;have F:=ZJ W (.cells #[.string s,.string s2] 257);have M:=yF W (.cells #[.string s,.string s2] 257);have P:=zh ((uh Z3).below F);have HG4:=zh (J9 (uh HG3) (VU (r:=some rb) F));have HK4:=zh M;have HZ4:Hid (W.heap.size<(W.alloc (.cells #[.string s,.string s2] 257)).heap.size):=by simp[Hid]
 clear F M Z3 HG3 HS2 HS1 HB2;by_cases h15:x % 16=15
 ·have e:(x:Int) % 16=15:=by omega
  have HD:=zh (uh HDP _ (uh P).rd);have z:=uh ab;rw[yf h15]at z;have K:=zh z;clear h15 HDP N O HK4 z ab;go_wp2_with fail;generalize W.alloc _=w4 at *;refine (uh HD).mono ?_;rintro e G ⟨rfl,d5⟩;clear HD;go_wp2;go_ret;exact by rw[← uh K];exact⟨rfl,(uh P).step d5⟩
 ·have e:((x:Int) % 16 ==15)=false:=by simp only[yb,ne_eq];omega
  have z:=uh ab;rw[ye h15]at z;have K:=zh z;clear HDP z ab;have HK:=zh fun k (hk:k<=255) w=>WN k w hk;have J:Hid (∀ (t:List UInt8) (wx:Wo) (b:Nat),t.length<=3->wx.heap[b]?=some (.cells #[.string (zi t)] 9 (0,0))->Calls prog 42 #[.slice (some ⟨b,0,none⟩) 1 1] wx (Rb (.string ⟨(Zf [zi t]).toArray⟩) wx)):=fun t wx b ht hb=>by
   have hS:SS wx (some ⟨b,0,none⟩) b 0 [zi t]:=⟨fun _=>rfl,fun j hj=>by
    have:j=0:=by simpa using hj
    subst this;exact yE hb 0⟩
   have htt:Z9 [zi t]=t.length:=by simp[Z9,zS]
   exact Ke _ _ _ 1 [zi t] _ hS (by rw[htt];simp;omega)
  have Z:Hid (∀ (u:JV) (wx:Wo),zy u->(ct u).length<=600000->(zm u).length<=1000000/\Calls prog 74 #[.string (zi (ct u))] wx fun e w'=>∃ xa xc,e= .returned (.slice xa (zm u).length xc)/\Bw wx w'):=fun u wx ou hu=>by
   refine⟨V8 ou (show (ct u).length<=1000000 by omega),(V2 u ou wx (by omega)).mono ?_⟩;rintro e w' ⟨r,rfl,p,b⟩;obtain⟨xa,xc,rfl⟩:=PR.shape p;exact⟨xa,xc,rfl,b⟩
  have H:Hid (∀ (n:Nat) (wx:Wo),n<=255->(zP n).length<=10/\Calls prog 119 #[.int .i64 (n:Int)] wx (Rb (.string (zi (zP n))) wx)):=fun n wx hn=>⟨WO n (by omega),WB n n wx (yd _) (by omega)⟩;by_cases V:ad=true/\x % 4<3
  ·have z:=uh K;rw[yf V]at z;obtain⟨rfl,h3⟩:=V;have e3:(x:Int) % 4<3:=by omega
   subst z;generalize hT:Yy (qD f) U f.length x s f.length 0=T at *;have D:=zh hT;clear h3 hT K;go_wp2_with fail;generalize W.heap.size=g9 at *;generalize W.alloc _=w4 at *;go_loopw [10] (fun d wr=>∃ k:Nat,k<=f.length/\d= .int .i64 (k:Int)/\DX B rb w q2 wr/\w2.grownBy wr (some rb)/\wr.heap[g9]?=some (.cells #[.string s,.string s2] 257 (0,0))/\Yy (qD f) U f.length x s (f.length - k) k=T) (fun d _=>f.length - (intOf d).toNat)
   case atStart=>exact⟨0,yr _,rfl,uh P,uh HG4,uh HK4,uh D⟩
   case round=>
    obtain⟨k,hk,rfl,hS,hG,hK,hT⟩:=hrel;clear D;by_cases hlt:k<f.length
    ·have hltI:(k:Int)<(f.length:Int):=by omega
     rw[show f.length - k=(f.length - (k+1))+1 by omega,Yy]at hT;have D:=zh hT;clear hT;have hid2:(x:Int) / 4+(k:Int)=((x / 4+k:Nat):Int):=by omega
     have hib2:x / 4+k<=4000:=by omega
     generalize x / 4+k=m at *;have hq2:(m:Int) % (f.length:Int)=((m % f.length:Nat):Int):=by simp
     have hjl:m % f.length<f.length:=Nat.mod_lt _ (by omega);generalize m % f.length=j at *;have hjI:(j:Int)<(f.length:Int):=by omega
     obtain⟨g',e',d0,d1⟩:=uh N wr hG j hjl;injection e' with e';injection e' with e';subst e';obtain⟨hpz,ou,lu⟩:=uh O j hjl;generalize qD f j=p at *;generalize U j=u at *;have h0:=Ki ou;have h0I:(0:Int)<((zi (ct u)).size:Int):=by omega
     obtain⟨c,hc,c5,c6⟩:=P8 ou h0;have F:=ZJ wr (.cells #[.string p,.string (zi (ct u))] 257);have M:=yF wr (.cells #[.string p,.string (zi (ct u))] 257);have L:=zh (hS.below F);have X:=zh (J9 hG (VU (r:=some rb) F));have Y:=zh ((F.block g9 (yA.1 hK).1).trans hK);have E:Hid (∀ wx,Below (wr.alloc (.cells #[.string p,.string (zi (ct u))] 257)).heap.size (wr.alloc (.cells #[.string p,.string (zi (ct u))] 257)) wx->wx.cell? ⟨wr.heap.size,0,none⟩=some (.string p)/\wx.cell? ⟨wr.heap.size,1,none⟩=some (.string (zi (ct u)))):=fun wx hb=>by
      have k:=(hb.block _ (yA.1 M).1).trans M;exact⟨yE k 0,yE k 1⟩
     obtain⟨y0,y1⟩:=uh E _ (yG _ _);have hnp:=(uh Z u wr ou lu).1;have aa:=zh fun wx=>(uh Z u wx ou lu).2;clear F M lu O N Z hS hG hK;by_cases C:c=123
     ·have f1:(((zi (ct u))[0].toNat:Int) ==123)=true:=by rw[hc,C];rfl
      have A:Hid ((if 252<=x then p++Fo x else p++⟨(Zf [zi (qz (x / 4))]).toArray⟩)=T):=by
       have:=uh D;unfold Gd at this;rw[yf (c6.1 C)]at this;exact this
      clear hc C c5 c6 aa H D;by_cases R:252<=x
      ·have e252:(252:Int)<=(x:Int):=by omega
       have l:=uh A;rw[yf R]at l;have D:=zh l;clear HK J X Y A l;have hx3:x=252∨x=253∨x=254:=by omega
       have hs3:(9223372036854775807<p.size+2)=False:=yP (by omega);have hs4:(9223372036854775807<p.size+3)=False:=yP (by omega);have hs5:(9223372036854775807<p.size+4)=False:=yP (by omega);have HA:Hid (∀ wx:Wo,Below (wr.alloc (.cells #[.string p,.string (zi (ct u))] 257)).heap.size (wr.alloc (.cells #[.string p,.string (zi (ct u))] 257)) wx->∀ o,DX B rb w q2 (wx.alloc o).drew):=fun wx hb o=>(((uh L).below hb).below (ZJ _ _)).below (yG _ _).drew;have y0':(wr.alloc (.cells #[.string p,.string (zi (ct u))] 257)).drew.cell? ⟨wr.heap.size,0,none⟩=some (.string p):=y0;go_wp2_with fail;generalize hwe:wr.alloc _=G at *;have hlt5:wr.heap.size<G.heap.size:=yI _ _ y0;have y2:∀ o,(G.alloc o).drew.cell? ⟨wr.heap.size,0,none⟩=some (.string p):=fun o=>(uh E _ ((ZJ G o).trans (yG _ _).drew)).1;rcases hx3 with rfl | rfl | rfl
       all_goals
        go_region
        all_goals
         go_wp2;go_ret;exact by rw[← uh D];exact⟨rfl,uh HA G (yG _ _) _⟩
      ·have e252:¬ (252:Int)<=(x:Int):=by omega
       have l:=uh A;rw[ye R]at l;have D:=zh l;have y0':(wr.alloc (.cells #[.string p,.string (zi (ct u))] 257)).drew.cell? ⟨wr.heap.size,0,none⟩=some (.string p):=y0;clear A l;go_wp2_with fail;generalize wr.alloc _=G at *;have hx4:(x:Int) / 4=((x / 4:Nat):Int):=by omega
       have hx5:x / 4<=255:=by omega
       have htl:=Vf (x / 4);have htp:=Kz (x / 4);clear hid hid2 hq hq2 X Y R;generalize x / 4=a at *;have hwa:IntKind.i64.wrap (a:Int)=(a:Int):=by rw[IntKind.wrap_i64];omega
       have hwd:Int.tdiv (x:Int) 4=(a:Int):=by rw[Int.tdiv_eq_ediv_of_nonneg (by omega)];exact hx4
       have hwx:IntKind.i64.wrap (x:Int)=(x:Int):=by rw[IntKind.wrap_i64];omega
       have HKA:=zh fun w=>uh HK a hx5 w;generalize qz a=t at *;have HPX:=zh fun wx b hb=>uh J t wx b htl hb;have htz:=Wh (Zf [zi t]);have htb:(⟨(Zf [zi t]).toArray⟩:Bs).size<=7:=by omega
       generalize (⟨(Zf [zi t]).toArray⟩:Bs)=tb at *;have hs6:(9223372036854775807<p.size+tb.size)=False:=yP (by omega);clear HK J htz htp;have HAL:Hid (∀ o,Bw G (G.alloc o).drew):=fun o=>(ZJ G o).trans (yG _ _).drew;have y6:=(uh E _ (uh HAL (.cells #[.string (zi t)] 9))).1;go_region_law (first
        |(go_simp;refine (uh HPX _ G.heap.size (show ((G.alloc (.cells #[.string (zi t)] 9)).drew).heap[G.heap.size]?=_ from yF G _)).mono ?_;rintro e w7 ⟨rfl,b7⟩;have b7':=zj (uh HAL _) b7;have z7:=(uh E w7 b7').1)
        |(go_simp;refine (uh HKA _).mono ?_;rintro e w6 ⟨rfl,rfl⟩))
       all_goals
        have Q:=zh ((uh L).below b7');clear b7 b7' z7 y6 y0 y1 y0' HKA HPX E HAL L;go_wp2;go_ret;exact by rw[← uh D];exact⟨rfl,uh Q⟩
     ·have f1:(((zi (ct u))[0].toNat:Int) ==123)=false:=by rw[hc,yb];omega
      by_cases S:c=91
      ·have f2:(((zi (ct u))[0].toNat:Int) ==91)=true:=by rw[hc,S];rfl
       have A:Hid ((if x % 3=0 then p++⟨#[47,45]⟩else p++⟨#[47]⟩++zi (zP (x / 4 % ((zm u).length+1))))=T):=by
        have:=uh D;unfold Gd at this;rw[ye (fun h=>C (c6.2 h)),yf (c5.1 S)]at this;exact this
       clear hc C S c5 c6 HK J D;generalize (zm u).length=n at *;go_wp2_with fail;generalize wr.alloc _=G at *;refine (uh aa _).mono ?_;rintro e w6 ⟨xa,xc,rfl,b6⟩;have z0:=(uh E w6 b6).1;have HS6:=zh ((uh L).below b6);have HB6:=zh b6;have hx4:(x:Int) / 4=((x / 4:Nat):Int):=by omega
       have hx5:x / 4<=63:=by omega
       clear aa b6 y0 y1 L X Y hid hid2 hq hq2;generalize x / 4=a at *;by_cases af:x % 3=0
       ·have e30:(x:Int) % 3=0:=by omega
        have l:=uh A;rw[yf af]at l;have D:=zh l;clear af H E HB6 A l;go_wp2;go_ret;exact by rw[← uh D];exact⟨rfl,uh HS6⟩
       ·have e30:((x:Int) % 3 ==0)=false:=by simp only[yb,ne_eq];omega
        have l:=uh A;rw[ye af]at l;obtain⟨I,hN1⟩:∃ I:Nat,I=n+1:=⟨_,rfl⟩;rw[← hN1]at l;have D:=zh l;have hnI:(n:Int)+1=(I:Int):=by omega
        have hN0:(I:Int)≠0:=by omega
        have hq3:(a:Int) % (I:Int)=((a % I:Nat):Int):=by simp
        have hq4:a % I<=255:=by have:=Nat.mod_le a I;omega
        have hwN:IntKind.i64.wrap (I:Int)=(I:Int):=by rw[IntKind.wrap_i64];omega
        have hwa:IntKind.i64.wrap (a:Int)=(a:Int):=by rw[IntKind.wrap_i64];omega
        have htm:Int.tmod (a:Int) (I:Int)=((a % I:Nat):Int):=rfl;have hN2:(I=0)=False:=yP (by omega);clear hN1 af A l;generalize a % I=r at *;have hdl:=(uh H r w6 hq4).1;have HDR:=zh fun wx=>(uh H r wx hq4).2;have hdz:(zi (zP r)).size<=10:=by rw[zS];exact hdl
        generalize zi (zP r)=tb at *;have z0':w6.drew.cell? ⟨wr.heap.size,0,none⟩=some (.string p):=z0;have HBD:Hid (Bw G w6.drew):=(uh HB6).drew;have HSD:Hid (DX B rb w q2 w6.drew):=(uh HS6).below (yG _ _).drew;have hs1:(9223372036854775807<p.size+1)=False:=yP (by omega);have hs2:(9223372036854775807<p.size+1+tb.size)=False:=yP (by omega);clear H hdl;go_wp2_with fail;go_region_law (go_simp;refine (uh HDR _).mono ?_;rintro e w7 ⟨rfl,b7⟩;have z7:=(uh E w7 (zj (uh HBD) b7)).1)
        all_goals
         have Q:=zh ((uh HSD).below b7);clear b7 z7 z0 z0' HDR E HB6 HBD HS6 HSD;go_wp2;go_ret;exact by rw[← uh D];exact⟨rfl,uh Q⟩
      ·have f2:(((zi (ct u))[0].toNat:Int) ==91)=false:=by rw[hc,yb];omega
       have A:Hid (Yy (qD f) U f.length x s (f.length - (k+1)) (k+1)=T):=by
        have:=uh D;unfold Gd at this;rw[ye (fun h=>C (c6.2 h)),ye (fun h=>S (c5.2 h))]at this;exact this
       clear hc C S c5 c6 aa HK J H D;go_wp2;go_roundw
       case rel=>exact⟨k+1,by omega,by go_num,uh L,uh X,uh Y,uh A⟩
       case measure=>simp[intOf];omega
    ·have hltI:¬ (k:Int)<(f.length:Int):=by omega
     rw[show f.length - k=0 by omega,Yy]at hT;have D:=zh hT;have Q:=zh hS;have c9:wr.cell? ⟨g9,0,none⟩=some (.string s):=yE hK 0;clear hS hG hK HK J Z H N O hT;go_wp2;go_ret;exact by rw[← uh D];exact⟨rfl,uh Q⟩
  ·have c9:(W.alloc (.cells #[.string s,.string s2] 257)).cell? ⟨W.heap.size,0,none⟩=some (.string s):=yE (uh HK4) 0;have z:=uh K;rw[ye V]at z;subst z;clear K
   cases ad with
   | false=>
    go_wp2;go_ret;exact⟨rfl,uh P⟩
   | true=>
    have e3:¬ (x:Int) % 4<3:=by have:¬ x % 4<3:=fun h=>V ⟨rfl,h⟩;omega
    clear V;go_wp2;go_ret;exact⟨rfl,uh P⟩
end Go.Proofs.YtpaecnbdoljafaaGreatDoor
