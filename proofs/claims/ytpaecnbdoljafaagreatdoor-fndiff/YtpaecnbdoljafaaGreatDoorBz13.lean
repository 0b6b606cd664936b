import Derived.Test.YtpaecnbdoljafaaGreatDoorBz10
import Derived.Test.YtpaecnbdoljafaaGreatDoorBz12
set_option maxRecDepth 100000
set_option maxHeartbeats 8000000
namespace Go.Proofs.YtpaecnbdoljafaaGreatDoor
open Go.RowKit Go.Proofs.Tryz
structure ZF(v:JV):Prop where
 rd:ZP v
 big:zV v=false
 dep:zm v<=100
 cnt:zj v<=3000
 tw:zw v=false
 ok:zD v
 len:(ct v).length<=20000
theorem D9:∀ {l:JL} {u:JV},QM l->qu l=false->u∈l.toL->ZP u/\zV u=false/\zm u<=Yb l
 | .nil,u,_,_,h=>by simp[JL.toL]at h
 | .cons v r,u,h1,h2,h=>by
  rw[QM]at h1;rw[qu,Bool.or_eq_false_iff]at h2;rw[JL.toL,List.mem_cons]at h;rw[Yb];rcases h with rfl | h
  ·exact⟨h1.1,h2.1,Nat.le_max_left _ _⟩
  ·obtain⟨a,b,c⟩:=D9 h1.2 h2.2 h;exact⟨a,b,yQ c (Nat.le_max_right _ _)⟩
theorem La:∀ {l:JM} {k:List UInt8} {u:JV},QN l->ZZ l=false->(k,u)∈l.toL->ZP u/\zV u=false/\zm u<=JC l
 | .nil,k,u,_,_,h=>by simp[JM.toL]at h
 | .cons k' v r,k,u,h1,h2,h=>by
  rw[QN]at h1;rw[ZZ,Bool.or_eq_false_iff]at h2;rw[JM.toL,List.mem_cons]at h;rw[JC];rcases h with h | h
  ·injection h with _ h;subst h;exact⟨h1.2.1,h2.1,Nat.le_max_left _ _⟩
  ·obtain⟨a,b,c⟩:=La h1.2.2 h2.2 h;exact⟨a,b,yQ c (Nat.le_max_right _ _)⟩
theorem ZF.child{v u:JV}{t:List UInt8}(h:ZF v)(hc:zn v t=some u):ZF u:=by
 obtain⟨b,d,j,n⟩:=Y8 hc h.ok h.tw;have p:=h.len;have r:=h.cnt;have o:=h.dep;have a:ZP u/\zV u=false/\zm u<=zm v:=by
  cases v with
  | arr l=>
   rw[ql]at hc;obtain⟨i,_,f⟩:=Option.bind_eq_some_iff.1 hc;have:=D9 h.rd h.big (List.mem_of_getElem? f);exact⟨this.1,this.2.1,by rw[zm];omega⟩
  | obj m=>
   rw[Qb]at hc;obtain⟨q,g,e⟩:=yA.1 hc;have:=La (k:=q.1) (u:=q.2) h.rd h.big (List.mem_of_find?_eq_some g);rw[← e];exact⟨this.1,this.2.1,by rw[zm];omega⟩
  | _=>cases hc
 exact⟨a.1,a.2.1,by omega,by omega,d,b,by omega⟩
theorem ZF.of{s:Bs}{v:JV}(h:zI s= .inr v):ZF v:=by
 obtain⟨i,a,b,d,f,g⟩:=Y7 h;exact⟨zcX a,d,f,g,b,(Vy a).1,by have:=zc8 a;omega⟩
structure zo(v:JV):Prop where
 rd:ZP v
 big:zV v=false
 tw:zw v=false
 ok:zD v
theorem ZF.t{v:JV}(h:ZF v):zo v:=⟨h.rd,h.big,h.tw,h.ok⟩
theorem XV:∀ l:JL,qJ l↔∀ v∈l.toL,zD v
 | .nil=>by rw[qJ];simp[JL.toL]
 | .cons v r=>by rw[qJ,XV r,JL.toL];simp
theorem XW:∀ m:JM,qG m↔∀ q∈m.toL,Lib.validD q.1=true/\zD q.2
 | .nil=>by rw[qG];simp[JM.toL]
 | .cons k v r=>by rw[qG,XW r,JM.toL];simp[and_assoc]
theorem Lb(m:JM):ZZ m=false↔∀ q∈m.toL,zV q.2=false:=by
 constructor
 ·intro h q a
  cases hb:zV q.2 with
  | false=>rfl
  | true=>rw[(KU m).2 ⟨q,a,hb⟩]at h;cases h
 ·intro h
  cases hb:ZZ m with
  | false=>rfl
  | true=>obtain⟨q,a,e⟩:=(KU m).1 hb;rw[h q a]at e;cases e
theorem YM(l:JL):zo (.arr l)↔∀ u∈l.toL,zo u:=by
 constructor
 ·rintro⟨b,d,f,g⟩ u a;rw[ZP,NI]at b;rw[zV,NK]at d;rw[zw,NJ]at f;rw[zD,XV]at g;exact⟨b u a,d u a,f u a,g u a⟩
 ·intro h;refine⟨?_,?_,?_,?_⟩
  ·rw[ZP,NI];exact fun u a=>(h u a).rd
  ·rw[zV,NK];exact fun u a=>(h u a).big
  ·rw[zw,NJ];exact fun u a=>(h u a).tw
  ·rw[zD,XV];exact fun u a=>(h u a).ok
theorem qq(m:JM):zo (.obj m)↔(m.toL.map (·.1)).Nodup/\∀ q∈m.toL,Lib.validD q.1=true/\zo q.2:=by
 constructor
 ·rintro⟨a,d,b,f⟩;rw[ZP,FP]at a;rw[zV,Lb]at d;rw[zw,KV]at b;rw[zD,XW]at f;exact⟨b.2.1,fun q hq=>⟨(a q hq).1,(a q hq).2,d q hq,b.1 q hq,(f q hq).2⟩⟩
 ·rintro⟨g,h⟩;refine⟨?_,?_,?_,?_⟩
  ·rw[ZP,FP];exact fun q hq=>⟨(h q hq).1,(h q hq).2.rd⟩
  ·rw[zV,Lb];exact fun q hq=>(h q hq).2.big
  ·rw[zw,KV];exact⟨fun q hq=>(h q hq).2.tw,g,fun q _=>by simp⟩
  ·rw[zD,XW];exact fun q hq=>⟨(h q hq).1,(h q hq).2.ok⟩
theorem zo.child{v u:JV}{t:List UInt8}(h:zo v)(hc:zn v t=some u):zo u:=by
 cases v with
 | arr l=>
  rw[ql]at hc;obtain⟨i,_,a⟩:=Option.bind_eq_some_iff.1 hc;exact (YM l).1 h u (List.mem_of_getElem? a)
 | obj m=>
  rw[Qb]at hc;obtain⟨q,b,e⟩:=yA.1 hc;rw[← e];exact (((qq m).1 h).2 q (List.mem_of_find?_eq_some b)).2
 | _=>cases hc
theorem Qz(v:JV):zr v []=some v:=by simp[zr]
theorem qM(v:JV)(t:List UInt8)(ts:List (List UInt8)):zr v (t :: ts)=(zn v t).bind fun u=>zr u ts:=by rw[zr]
theorem zo.get:∀ {ts:List (List UInt8)} {v u:JV},zo v->zr v ts=some u->zo u
 | [],v,u,h,e=>by
  rw[Qz]at e;injection e with e;subst e;exact h
 | t :: ts,v,u,h,e=>by
  rw[qM]at e
  cases hc:zn v t with
  | none=>rw[hc]at e;cases e
  | some x=>rw[hc]at e;exact zo.get (h.child hc) e
def Zs(v:JV)(t:List UInt8)(u:JV):JV:=match v with
 | .arr l=>match Z8 t with
  | some i=>.arr (JL.ofL (l.toL.set i u))
  | none=>.arr l
 | .obj m=>.obj (JM.ofL (m.toL.map fun q=>if q.1=t then (q.1,u)else q))
 | v=>v
def ZU(v:JV)(t:List UInt8):JV:=match v with
 | .arr l=>match Z8 t with
  | some i=>.arr (JL.ofL (l.toL.eraseIdx i))
  | none=>.arr l
 | .obj m=>.obj (JM.ofL (m.toL.filter fun q=>!(q.1 ==t)))
 | v=>v
def ZG(v:JV)(t:List UInt8)(u:JV):Option JV:=match v with
 | .arr l=>match (if t=[45]then some l.toL.length else Z8 t)with
  | some i=>if i<=l.toL.length then some (.arr (JL.ofL (l.toL.take i++u :: l.toL.drop i)))else none
  | none=>none
 | .obj m=>if Lib.validD t=true then some (if (zn (.obj m) t).isSome then Zs (.obj m) t u else .obj (JM.ofL (m.toL++[(t,u)])))else none
 | _=>none
def zO:JV->List (List UInt8)->JV->JV
 | _,[],u=>u
 | v,t :: ts,u=>match zn v t with
  | some c=>Zs v t (zO c ts u)
  | none=>v
theorem QW(v u:JV):zO v [] u=u:=by rw[zO]
theorem JU{v c:JV}{t:List UInt8}{ts:List (List UInt8)}{u:JV}(h:zn v t=some c):zO v (t :: ts) u=Zs v t (zO c ts u):=by rw[zO,h]
theorem NM:∀ (ts:List (List UInt8)) (v h c:JV) (t:List UInt8) (u:JV),zr v ts=some h->zn h t=some c->zO v (ts++[t]) u=zO v ts (Zs h t u)
 | [],v,h,c,t,u,e,hc=>by
  rw[Qz]at e;injection e with e;subst e;rw[List.nil_append,QW,JU hc,QW]
 | x :: ts,v,h,c,t,u,e,hc=>by
  rw[qM]at e
  cases hx:zn v x with
  | none=>rw[hx]at e;cases e
  | some y=>
   rw[hx]at e;rw[List.cons_append,JU hx,JU hx,NM ts y h c t u e hc]
def ZO(f:JV->Option JV)(v:JV)(ts:List (List UInt8)):Option JV:=((zr v ts).bind f).map (zO v ts)
theorem zai(f:JV->Option JV)(v:JV):ZO f v []=f v:=by
 unfold ZO;rw[Qz];show (f v).map (zO v [])=f v
 cases f v with
 | none=>rfl
 | some u=>show some (zO v [] u)=_;rw[QW]
theorem zaj{f:JV->Option JV}{v:JV}{t:List UInt8}{ts:List (List UInt8)}(h:zn v t=none):ZO f v (t :: ts)=none:=by
 unfold ZO;rw[qM,h];rfl
theorem zak{f:JV->Option JV}{v c:JV}{t:List UInt8}{ts:List (List UInt8)}(h:zn v t=some c):ZO f v (t :: ts)=(ZO f c ts).map (Zs v t):=by
 unfold ZO;rw[qM,h];show ((zr c ts).bind f).map (zO v (t :: ts))=_
 cases (zr c ts).bind f with
 | none=>rfl
 | some u=>show some (zO v (t :: ts) u)=some (Zs v t (zO c ts u));rw[JU h]
def q7(ts:List (List UInt8)):List UInt8:=ts.getLast?.getD []
def Z4(v:JV)(ts:List (List UInt8))(u:JV):Option JV:=if ts=[]then some u else ZO (fun h=>ZG h (q7 ts) u) v ts.dropLast
def QA(h:JV)(t:List UInt8):Option JV:=(zn h t).map fun _=>ZU h t
def qe(v:JV)(ts:List (List UInt8)):Option JV:=if ts=[]then none else ZO (fun h=>QA h (q7 ts)) v ts.dropLast
structure Zv where
 kind:Int
 path:List (List UInt8)
 src:List (List UInt8)
 val:JV
def ZS(c:Nat):Option JV->Nat⊕JV
 | none=>.inl c
 | some v=>.inr v
def Zl(v:JV)(o:Zv):Nat⊕JV:=
 if o.kind=1 then ZS 3 (Z4 v o.path o.val)
 else if o.kind=2 then ZS 3 (qe v o.path)
 else if o.kind=3 then ZS 3 (ZO (fun _=>some o.val) v o.path)
 else if o.kind=4 then match zr v o.src with
  | none=>.inl 3
  | some m=>if o.src=o.path then .inr v else if o.src.isPrefixOf o.path then .inl 6 else match qe v o.src with
   | none=>.inl 3
   | some r=>ZS 3 (Z4 r o.path m)
 else if o.kind=5 then match zr v o.src with
  | none=>.inl 3
  | some m=>ZS 3 (Z4 v o.path m)
 else match zr v o.path with
  | none=>.inl 3
  | some h=>if ct h=ct o.val then .inr v else .inl 5
def Q5(v:JV):Bool:=decide (zm v<=100) && decide (zj v<=3000) && decide ((ct v).length<=20000)
def Zw:JV->List Zv->Nat->(Nat×Nat)⊕JV
 | v,[],_=>.inr v
 | v,o :: r,i=>match Zl v o with
  | .inl c=>.inl (c,i)
  | .inr u=>if Q5 u=true then Zw u r (i+1)else .inl (7,i)
theorem NO{v u c:JV}{t:List UInt8}(h:zo v)(hu:zo u)(hc:zn v t=some c):zo (Zs v t u):=by
 cases v with
 | arr l=>
  rw[ql]at hc;obtain⟨i,d,_⟩:=Option.bind_eq_some_iff.1 hc;have e:Zs (.arr l) t u= .arr (JL.ofL (l.toL.set i u)):=by simp only[Zs,d]
  rw[e,YM,JL.toL_ofL];intro x hx;rcases List.mem_or_eq_of_mem_set hx with hx | rfl
  ·exact (YM l).1 h x hx
  ·exact hu
 | obj m=>
  have a:=(qq m).1 h;show zo (.obj (JM.ofL (m.toL.map fun q=>if q.1=t then (q.1,u)else q)))
  rw[qq,JM.toL_ofL];have b:((m.toL.map fun q=>if q.1=t then (q.1,u)else q).map (·.1))=m.toL.map (·.1):=by
   rw[List.map_map];refine List.map_congr_left fun q _=>?_;show (if q.1=t then (q.1,u)else q).1=q.1
   split<;>rfl
  rw[b];refine⟨a.1,fun q hq=>?_⟩;obtain⟨x,hx,rfl⟩:=yP.1 hq;split
  ·exact⟨(a.2 x hx).1,hu⟩
  ·exact a.2 x hx
 | _=>cases hc
theorem NP{v c:JV}{t:List UInt8}(h:zo v)(hc:zn v t=some c):zo (ZU v t):=by
 cases v with
 | arr l=>
  rw[ql]at hc;obtain⟨i,b,_⟩:=Option.bind_eq_some_iff.1 hc;have e:ZU (.arr l) t= .arr (JL.ofL (l.toL.eraseIdx i)):=by simp only[ZU,b]
  rw[e,YM,JL.toL_ofL];exact fun x hx=>(YM l).1 h x (List.mem_of_mem_eraseIdx hx)
 | obj m=>
  have a:=(qq m).1 h;show zo (.obj (JM.ofL (m.toL.filter fun q=>!(q.1 ==t))))
  rw[qq,JM.toL_ofL];refine⟨(List.filter_sublist.map _).nodup a.1,fun q hq=>a.2 q ((List.mem_filter.1 hq).1)⟩
 | _=>cases hc
theorem NQ{v u r:JV}{t:List UInt8}(h:zo v)(hu:zo u)(hp:ZG v t u=some r):zo r:=by
 cases v with
 | arr l=>
  simp only[ZG]at hp;split at hp
  ·split at hp
   ·injection hp with hp;subst hp;rw[YM,JL.toL_ofL];intro x hx;rw[List.mem_append,List.mem_cons]at hx;rcases hx with hx | rfl | hx
    ·exact (YM l).1 h x (List.mem_of_mem_take hx)
    ·exact hu
    ·exact (YM l).1 h x (List.mem_of_mem_drop hx)
   ·cases hp
  ·cases hp
 | obj m=>
  simp only[ZG]at hp;split at hp
  ·rename_i hv;injection hp with hp;subst hp
   cases hc:zn (.obj m) t with
   | some c=>exact NO h hu hc
   | none=>
    have i:=(qq m).1 h;show zo (.obj (JM.ofL (m.toL++[(t,u)])))
    rw[qq,JM.toL_ofL];have g:t ∉ m.toL.map (·.1):=by
     intro f;obtain⟨q,d,e⟩:=yP.1 f;rw[Qb,Option.map_eq_none_iff,List.find?_eq_none]at hc;exact hc q d (by simp[e])
    constructor
    ·rw[yx,List.nodup_append];refine⟨i.1,by simp,fun a ha b hb e=>?_⟩;simp at hb;subst hb;subst e;exact g ha
    ·intro q d;rw[List.mem_append,List.mem_singleton]at d;rcases d with d | rfl
     ·exact i.2 q d
     ·exact⟨hv,hu⟩
  ·cases hp
 | _=>cases hp
theorem NR:∀ {ts:List (List UInt8)} {v u h:JV},zo v->zo u->zr v ts=some h->zo (zO v ts u)
 | [],v,u,h,_,hu,_=>by rw[QW];exact hu
 | t :: ts,v,u,h,hv,hu,e=>by
  rw[qM]at e
  cases hc:zn v t with
  | none=>rw[hc]at e;cases e
  | some c=>
   rw[hc]at e;rw[JU hc];exact NO hv (NR (hv.child hc) hu e) hc
theorem NS{f:JV->Option JV}{v r:JV}{ts:List (List UInt8)}(hv:zo v)(hf:∀ h u,zo h->f h=some u->zo u)(h:ZO f v ts=some r):zo r:=by
 unfold ZO at h;obtain⟨u,b,rfl⟩:=yA.1 h;obtain⟨x,hx,a⟩:=Option.bind_eq_some_iff.1 b;exact NR hv (hf x u (hv.get hx) a) hx
theorem NT{v u r:JV}{ts:List (List UInt8)}(hv:zo v)(hu:zo u)(h:Z4 v ts u=some r):zo r:=by
 unfold Z4 at h;split at h
 ·injection h with h;subst h;exact hu
 ·exact NS hv (fun x y hx e=>NQ hx hu e) h
theorem Wv{v r:JV}{ts:List (List UInt8)}(hv:zo v)(h:qe v ts=some r):zo r:=by
 unfold qe at h;split at h
 ·cases h
 ·refine NS hv (fun x y hx e=>?_) h;unfold QA at e;obtain⟨c,a,rfl⟩:=yA.1 e;exact NP hx a
theorem Qc{c:Nat}{o:Option JV}{r:JV}(h:ZS c o= .inr r):o=some r:=by
 cases o with
 | none=>cases h
 | some x=>injection h with h;rw[h]
theorem Ki{v r:JV}{o:Zv}(hv:zo v)(hu:zo o.val)(h:Zl v o= .inr r):zo r:=by
 unfold Zl at h;split at h
 ·exact NT hv hu (Qc h)
 ·split at h
  ·exact Wv hv (Qc h)
  ·split at h
   ·exact NS hv (fun x y _ e=>by injection e with e;subst e;exact hu) (Qc h)
   ·split at h
    ·split at h
     ·cases h
     ·rename_i m hm;split at h
      ·injection h with h;subst h;exact hv
      ·split at h
       ·cases h
       ·split at h
        ·cases h
        ·rename_i x hx;exact NT (Wv hv hx) (hv.get hm) (Qc h)
    ·split at h
     ·split at h
      ·cases h
      ·rename_i m hm;exact NT hv (hv.get hm) (Qc h)
     ·split at h
      ·cases h
      ·split at h
       ·injection h with h;subst h;exact hv
       ·cases h
def DS(B rb:Nat)(w w':Wo):Prop:=zR w' B rb/\w.grownBy w' (some rb)
theorem DS.below{B rb:Nat}{w w1 w2:Wo}(h:DS B rb w w1)(hb:Bw w1 w2):DS B rb w w2:=
 ⟨h.1.grown (qI (r:=none) hb) (by simp) (fun _ e=>by cases e),ZD h.2 (qI hb)⟩
theorem DS.step{B rb:Nat}{w w1 w2:Wo}(h:DS B rb w w1)(r:zR w2 B rb)(g:w1.grownBy w2 (some rb)):DS B rb w w2:=⟨r,ZD h.2 g⟩
theorem Lc:zI (zh [48])= .inr (.num [48]):=by rfl
def VP(B rb:Nat)(w:Wo)(e:Ending)(w':Wo):Prop:=∃ u:JV,zo u/\(ct u).length<=20000/\e= .returned (.string (zh (ct u)))/\DS B rb w w'
theorem zal(B rb:Nat)(w:Wo)(h:zR w B rb):
  Calls prog 133 #[.pointer (some ⟨rb,0,none⟩)] w (VP B rb w):=by
 have g:=ze (ST 2 2 B rb w rfl (by omega) h);clear h;go_in;go_wp2_with fail;refine (uh g).mono ?_;rintro e l ⟨t,j,rfl,k,i⟩;have f:Hid (DS B rb w l):=⟨k,i⟩;have p:t.length<=2000:=yQ j (by decide);have HC:=ze (Wi (zh t) l (by rw[zN];omega));clear g k i j
 cases hr:zI (zh t)with
 | inl c=>
  have m:=FM hr;have a:Zx (zh t)= .tuple #[.string ⟨#[]⟩,.int .i64 (c:Int)]:=by unfold Zx;rw[hr]
  rw[a]at HC;have n:((c:Int) ==0)=false:=by simp;omega
  have o:((c:Int)=0)=False:=yR (by omega);clear hr m a;go_wp2_with fail;refine (uh HC).mono ?_;rintro e q ⟨rfl,b⟩;clear HC;go_wp2;go_ret;exact⟨.num [48],(ZF.of Lc).t,by decide,rfl,(uh f).below b⟩
 | inr v=>
  have d:=ze (ZF.of hr);have a:Zx (zh t)= .tuple #[.string (zh (ct v)),.int .i64 0]:=by unfold Zx;rw[hr]
  rw[a]at HC;clear hr a;go_wp2_with fail;refine (uh HC).mono ?_;rintro e q ⟨rfl,b⟩;clear HC;go_wp2;go_ret;exact⟨v,(uh d).t,by have:=(uh d).len;omega,rfl,(uh f).below b⟩
theorem Ld:∀ (n:Nat) (p:List UInt8) (v:JV),zD v->zw v=false->∀ x∈ZV n p v,∃ u:JV,zD u/\zw u=false/\x.2=ct u/\(ct u).length<=(ct v).length
 | 0,_,_,_,_,x,h=>by simp[ZV]at h
 | n+1,p,v,ok,tw,x,h=>by
  rw[ZV,List.mem_cons]at h;rcases h with rfl | h
  ·exact⟨v,ok,tw,rfl,ye _⟩
  ·obtain⟨q,hq,hx⟩:=List.mem_flatMap.1 h;obtain⟨a,b,-,i⟩:=JG ok tw hq;obtain⟨u,d,f,g,j⟩:=Ld n _ q.2 a b x hx;exact⟨u,d,f,g,by omega⟩
section
variable (ps:List zL) (p:Nat) (dr pu:Bool) (q:zL)
theorem Le{i:Nat}(h:i≠p)(hi:i<ps.length):qy ps p dr pu q i=[ps[i]]:=by unfold qy;simp[h,hi]
theorem zam{i:Nat}(h:i≠p)(hi:¬ i<ps.length):qy ps p dr pu q i=[]:=by unfold qy;simp[h,hi]
theorem NU:∀ k,k<=p->k<=ps.length->Zn ps p dr pu q k=ps.take k
 | 0,_,_=>by simp[Zn]
 | k+1,h1,h2=>by
  rw[Jz,NU k (by omega) (by omega),Le ps p dr pu q (by omega) (by omega),yz (by omega)]
theorem Lf:∀ k,p<k->k<=ps.length->Zn ps p dr pu q k=Zn ps p dr pu q (p+1)++(ps.take k).drop (p+1)
 | 0,h,_=>by omega
 | k+1,h1,h2=>by
  by_cases e:k=p
  ·subst e;rw[List.drop_of_length_le (by rw[ym];omega),yT]
  ·rw[Jz,Lf k (by omega) (by omega),Le ps p dr pu q e (by omega),List.append_assoc,yz (by omega),List.drop_append_of_le_length (by rw[ym];omega)]
theorem NW(h:p<ps.length):Zn ps p dr pu q (ps.length+1)=ps.take p++qy ps p dr pu q p++ps.drop (p+1):=by
 rw[Jz,zam ps p dr pu q (by omega) (by omega),yT,Lf ps p dr pu q _ h (ye _),List.take_length,Jz,NU ps p dr pu q p (ye _) (by omega)]
theorem zan(h:p=ps.length):Zn ps p dr pu q (ps.length+1)=ps++qy ps p dr pu q p:=by
 subst h;rw[Jz,NU ps _ dr pu q _ (ye _) (ye _),List.take_length]
theorem Lg(f:zL->Nat):∀ k,((Zn ps p dr pu q k).map f).sum<=((ps.take k).map f).sum+(if p<k then f q else 0)
 | 0=>by simp[Zn]
 | k+1=>by
  rw[Jz,yx,List.sum_append];have ih:=Lg f k;have d:((ps.take (k+1)).map f).sum=((ps.take k).map f).sum+(if h:k<ps.length then f ps[k]else 0):=by
   by_cases a:k<ps.length
   ·rw[yz a,yx,List.sum_append,dif_pos a];simp
   ·rw[yr (by omega),yr (by omega),dif_neg a];simp
  have b:((qy ps p dr pu q k).map f).sum<=(if k=p then f q else 0)+(if h:k<ps.length then f ps[k]else 0):=by
   unfold qy;rw[yx,List.sum_append];by_cases e:k=p
   ·by_cases a:k<ps.length
    ·rw[yg e,dif_pos a,dif_pos a];refine Nat.add_le_add ?_ ?_
     ·split<;>simp
     ·split<;>simp
    ·rw[yg e,dif_neg a,dif_neg a];refine Nat.add_le_add ?_ ?_
     ·split<;>simp
     ·simp
   ·by_cases a:k<ps.length
    ·rw[yf e,dif_pos a,dif_pos a,yf (by simp[e])];refine Nat.add_le_add ?_ ?_
     ·simp
     ·split<;>simp
    ·rw[yf e,dif_neg a,dif_neg a,yf (by simp[e])];simp
  rw[d];split at ih
  ·rename_i hp;rw[yg (by omega)];rw[yf (by omega)]at b;omega
  ·rename_i hp;by_cases e:k=p
   ·rw[yg (by omega)];rw[yg e]at b;omega
   ·rw[yf e]at b;omega
end
theorem zao(ps:List zL)(p:Nat)(q:zL)(h:p<ps.length):Zn ps p true true q (ps.length+1)=ps.take p++q :: ps.drop (p+1):=by
 rw[NW ps p true true q h];unfold qy;simp[h]
theorem zap(ps:List zL)(p:Nat)(q:zL)(h:p<ps.length):Zn ps p true false q (ps.length+1)=ps.take p++ps.drop (p+1):=by
 rw[NW ps p true false q h];unfold qy;simp[h]
theorem Lh(ps:List zL)(p:Nat)(q:zL)(h:p<=ps.length):Zn ps p false true q (ps.length+1)=ps.take p++q :: ps.drop p:=by
 by_cases a:p<ps.length
 ·rw[NW ps p false true q a];unfold qy;rw[List.drop_eq_getElem_cons a];simp[a]
 ·have e:p=ps.length:=by omega
  rw[zan ps p false true q e];subst e;unfold qy;simp
theorem NX(l:List JV):zF (JL.ofL l)=l.map ct:=by rw[Z6,JL.toL_ofL]
theorem Li:∀ {a b:List zL},a.Perm b->(a.map (·.1)).Nodup->a.Pairwise (fun x y=>x.1<=y.1)->b.Pairwise (fun x y=>x.1<=y.1)->a=b
 | [],b,h,_,_,_=>by rw[List.nil_perm.1 h]
 | x :: a,[],h,_,_,_=>by have:=h.length_eq;simp at this
 | x :: a,y :: b,h,hn,ha,hb=>by
  rw[List.pairwise_cons]at ha hb;rw[yi,List.nodup_cons]at hn;have e:x=y:=by
   have d:y∈x :: a:=h.symm.subset yq;have hx:x∈y :: b:=h.subset yq;rcases List.mem_cons.1 d with e | d
   ·exact e.symm
   ·rcases List.mem_cons.1 hx with e | hx
    ·exact e
    ·have g:=ha.1 y d;have i:=hb.1 x hx;have f:x.1=y.1:=List.le_antisymm g i;exact absurd (yP.2 ⟨y,d,f.symm⟩) hn.1
  subst e;rw[Li (a:=a) (b:=b) ((List.perm_cons x).1 h) hn.2 ha.2 hb.2]
theorem XX{a b:List zL}(h:a.Perm b)(hn:(a.map (·.1)).Nodup):zJ a=zJ b:=
 Li ((qw a).trans (h.trans (qw b).symm)) ((((qw a).map _).nodup_iff).2 hn) (UJ a) (UJ b)
theorem Lj:∀ (ps:List zL) (p:Nat) (t x:List UInt8) (hp:p<ps.length),(ps.map (·.1)).Nodup->ps[p].1=t->ps.take p++(t,x) :: ps.drop (p+1)=ps.map fun q=>if q.1=t then (q.1,x)else q
 | [],p,t,x,hp,_,_=>by simp at hp
 | a :: ps,0,t,x,hp,hn,e=>by
  have e':a.1=t:=e;rw[yi,List.nodup_cons]at hn;rw[yi,yg e',e'];show (t,x) :: ps=_
  congr 1;rw[show ps=ps.map id from (List.map_id _).symm,List.map_map];refine List.map_congr_left fun q hq=>?_;have:q.1≠t:=fun h=>hn.1 (by rw[e',← h];exact yP.2 ⟨q,hq,rfl⟩);simp[this]
 | a :: ps,p+1,t,x,hp,hn,e=>by
  have b:p<ps.length:=by simpa using hp
  have e':ps[p].1=t:=e;rw[yi,List.nodup_cons]at hn;have d:a.1≠t:=fun h=>hn.1 (by rw[h,← e'];exact yP.2 ⟨_,yt b,rfl⟩);rw[yi,yf d,← Lj ps p t x b hn.2 e'];rfl
theorem Lk:∀ (ps:List zL) (p:Nat) (t:List UInt8) (hp:p<ps.length),(ps.map (·.1)).Nodup->ps[p].1=t->ps.take p++ps.drop (p+1)=ps.filter fun q=>!(q.1 ==t)
 | [],p,t,hp,_,_=>by simp at hp
 | a :: ps,0,t,hp,hn,e=>by
  have e':a.1=t:=e;rw[yi,List.nodup_cons]at hn;rw[List.filter_cons_of_neg (by simp[e'])];show ps=_
  symm;rw[List.filter_eq_self];intro q d;have:q.1≠t:=fun h=>hn.1 (by rw[e',← h];exact yP.2 ⟨q,d,rfl⟩);simp[this]
 | a :: ps,p+1,t,hp,hn,e=>by
  have b:p<ps.length:=by simpa using hp
  have e':ps[p].1=t:=e;rw[yi,List.nodup_cons]at hn;have f:a.1≠t:=fun h=>hn.1 (by rw[h,← e'];exact yP.2 ⟨_,yt b,rfl⟩);rw[List.filter_cons_of_pos (by simp[f]),← Lk ps p t b hn.2 e'];rfl
theorem Kj{m:JM}(h:zo (.obj m)):((zt (.obj m)).map (·.1)).Nodup:=by
 show ((zJ (zl m)).map (·.1)).Nodup
 rw[((qw _).map _).nodup_iff,qh,List.map_map];exact ((qq m).1 h).1
theorem Uq(l:JL):(zt (.arr l)).map (·.2)=l.toL.map ct:=by
 rw[UR,List.map_map];show (ZX 0 l.toL).map (fun q=>ct q.2)=_
 rw[show (fun q:List UInt8×JV=>ct q.2)=ct∘(·.2)from rfl,← List.map_map,FK]
theorem NY(l:JL){j:Nat}(hj:j<(zt (.arr l)).length):(zt (.arr l))[j].1=zM j:=by
 have e:zt (.arr l)=qP 0 (zF l):=rfl;have a:j<(qP 0 (zF l)).length:=by rw[← e];exact hj
 have:=FJ (zF l) 0 j a;simp only[e];rw[this];simp
theorem Ll{α β:Type}(f:α->β):∀ (l:List α) (i:Nat) (x:α),i<l.length->(l.set i x).map f=(l.map f).take i++f x ::(l.map f).drop (i+1)
 | [],i,x,h=>by simp at h
 | a :: l,0,x,_=>by simp
 | a :: l,i+1,x,h=>by
  rw[List.set_cons_succ,yi,Ll f l i x (by simpa using h)];simp
theorem zaq{v u:JV}{t:List UInt8}{j:Nat}{c:JV}(hg:zo v)(hc:zn v t=some c)(hj:j<(zt v).length)(hk:(zt v)[j].1=t):Y0 v (Zn (zt v) j true true (t,ct u) ((zt v).length+1))=ct (Zs v t u):=by
 rw[zao _ _ _ hj]
 cases v with
 | arr l=>
  rw[ql]at hc;obtain⟨i,d,b⟩:=Option.bind_eq_some_iff.1 hc;have e:j=i:=by
   rw[NY]at hk;exact WN (hk.trans (UQ d).symm)
  subst e;have f:Zs (.arr l) t u= .arr (JL.ofL (l.toL.set j u)):=by simp only[Zs,d]
  have a:j<l.toL.length:=(List.getElem?_eq_some_iff.1 b).1;rw[f];show ZT _=ZT (zF (JL.ofL (l.toL.set j u)))
  congr 1;rw[NX,Ll ct l.toL j u a,← Uq,yx,yi,List.map_take,List.map_drop]
 | obj m=>
  rw[Lj _ j t (ct u) hj (Kj hg) hk];show qb (zJ ((zJ (zl m)).map _))=qb (zJ (zl (JM.ofL _)))
  congr 1;have g:zl (JM.ofL (m.toL.map fun q=>if q.1=t then (q.1,u)else q))=(zl m).map fun q=>if q.1=t then (q.1,ct u)else q:=by
   rw[qh,JM.toL_ofL,qh,List.map_map,List.map_map];refine List.map_congr_left fun q _=>?_;show ((if q.1=t then (q.1,u)else q).1,ct (if q.1=t then (q.1,u)else q).2)=if (q.1,ct q.2).1=t then ((q.1,ct q.2).1,ct u)else (q.1,ct q.2)
   by_cases e:q.1=t<;>simp[e]
  rw[g];refine XX ((qw _).map _) ?_;rw[List.map_map];have:((fun x:zL=>x.1)∘fun q:zL=>if q.1=t then (q.1,ct u)else q)=fun x:zL=>x.1:=by
   funext q;show (if q.1=t then (q.1,ct u)else q).1=q.1
   split<;>rfl
  rw[this];exact Kj hg
 | _=>cases hc
theorem zar{v:JV}{t:List UInt8}{j:Nat}{c:JV}{q:zL}(hg:zo v)(hc:zn v t=some c)(hj:j<(zt v).length)(hk:(zt v)[j].1=t):Y0 v (Zn (zt v) j true false q ((zt v).length+1))=ct (ZU v t):=by
 rw[zap _ _ _ hj]
 cases v with
 | arr l=>
  rw[ql]at hc;obtain⟨i,a,f⟩:=Option.bind_eq_some_iff.1 hc;have e:j=i:=by
   rw[NY]at hk;exact WN (hk.trans (UQ a).symm)
  subst e;have b:ZU (.arr l) t= .arr (JL.ofL (l.toL.eraseIdx j)):=by simp only[ZU,a]
  rw[b];show ZT _=ZT (zF (JL.ofL (l.toL.eraseIdx j)))
  congr 1;rw[NX,List.eraseIdx_eq_take_drop_succ,yx,yx,List.map_take,List.map_drop,List.map_take,List.map_drop,Uq]
 | obj m=>
  rw[Lk _ j t hj (Kj hg) hk];show qb (zJ ((zJ (zl m)).filter _))=qb (zJ (zl (JM.ofL _)))
  congr 1;have d:zl (JM.ofL (m.toL.filter fun q=>!(q.1 ==t)))=(zl m).filter fun q=>!(q.1 ==t):=by
   rw[qh,JM.toL_ofL,qh,List.filter_map];rfl
  rw[d];refine XX ((qw _).filter _) ?_;exact (List.filter_sublist.map _).nodup (Kj hg)
 | _=>cases hc
theorem Lm{α β:Type}(f:α->β)(l:List α)(i:Nat)(x:α):(l.take i++x :: l.drop i).map f=(l.map f).take i++f x ::(l.map f).drop i:=by
 rw[yx,yi,List.map_take,List.map_drop]
theorem zas{l:JL}{u:JV}{i:Nat}{t:List UInt8}(hi:i<=l.toL.length):Y0 (.arr l) (Zn (zt (.arr l)) i false true (t,ct u) ((zt (.arr l)).length+1))=ct (.arr (JL.ofL (l.toL.take i++u :: l.toL.drop i))):=by
 have a:(zt (.arr l)).length=l.toL.length:=by
  have:=congrArg List.length (Uq l);simpa using this
 rw[Lh _ _ _ (by omega)];show ZT _=ZT (zF (JL.ofL _))
 congr 1;rw[NX,Lm ct,← Uq,Lm]
theorem zat{m:JM}{u:JV}{t:List UInt8}(hg:zo (.obj m))(hn:zn (.obj m) t=none):Y0 (.obj m) (Zn (zt (.obj m)) 0 false true (t,ct u) ((zt (.obj m)).length+1))=ct (.obj (JM.ofL (m.toL++[(t,u)]))):=by
 rw[Lh _ _ _ (yu _)];show qb (zJ ((t,ct u) :: zJ (zl m)))=qb (zJ (zl (JM.ofL _)))
 congr 1;have b:zl (JM.ofL (m.toL++[(t,u)]))=zl m++[(t,ct u)]:=by
  rw[qh,JM.toL_ofL,qh,yx];rfl
 rw[b];refine XX ?_ ?_
 ·refine (List.Perm.cons _ (qw _)).trans ?_;exact (List.perm_append_comm (l₁:=[(t,ct u)]) (l₂:=zl m))
 ·rw[yi,List.nodup_cons];refine⟨fun h=>?_,Kj hg⟩;obtain⟨x,hx,e⟩:=yP.1 h;have a:=(qw _).subset hx;rw[qh]at a;obtain⟨y,d,rfl⟩:=yP.1 a;rw[Qb,Option.map_eq_none_iff,List.find?_eq_none]at hn;exact hn y d (by simpa using e)
theorem XY(l:List JV):(ct (.arr (JL.ofL l))).length=hold l.length+(l.map fun v=>(ct v).length).sum:=by
 show (ZT (zF (JL.ofL l))).length=_
 rw[Z6,JL.toL_ofL];have h:=UK (l.map ct);have a:nl (l.map ct)=(l.map fun v=>(ct v).length).sum:=by
  unfold nl;rw[List.map_map];rfl
 rw[yl,a]at h;simp[ZT];omega
theorem JL.ofL_toL:∀ l:JL,JL.ofL l.toL=l
 | .nil=>rfl
 | .cons v r=>by rw[JL.toL,JL.ofL,JL.ofL_toL r]
theorem Ur(l:JL):(ct (.arr l)).length=hold l.toL.length+(l.toL.map fun v=>(ct v).length).sum:=by
 have:=XY l.toL
 rwa [JL.ofL_toL]at this
theorem NZ{α:Type}(f:α->Nat):∀ (l:List α) (i:Nat) (x y:α),l[i]?=some y->((l.set i x).map f).sum+f y=(l.map f).sum+f x
 | [],i,x,y,h=>by simp at h
 | a :: l,0,x,y,h=>by
  have e:a=y:=by simpa using h
  subst e;rw[List.set_cons_zero,yi,yi,yM,yM];omega
 | a :: l,i+1,x,y,h=>by
  have b:=NZ f l i x y (by simpa using h);rw[List.set_cons_succ,yi,yi,yM,yM];omega
theorem Ln(t:List UInt8)(u:JV):∀ (l:List (List UInt8×JV)) (c:JV),(l.map (·.1)).Nodup->(l.find? fun q=>q.1 ==t).map (·.2)=some c->((l.map fun q=>if q.1=t then (q.1,u)else q).map Zo).sum+(ct c).length=(l.map Zo).sum+(ct u).length
 | [],c,_,h=>by simp at h
 | a :: l,c,hn,h=>by
  rw[yi,List.nodup_cons]at hn;by_cases e:a.1=t
  ·rw[List.find?_cons,show (a.1 ==t)=true by simp[e]]at h;have e2:a.2=c:=by simpa using h
   have b:(l.map fun q=>if q.1=t then (q.1,u)else q)=l:=by
    conv=>rhs;rw[← List.map_id l]
    refine List.map_congr_left fun q hq=>?_;have:q.1≠t:=fun h=>hn.1 (by rw[e,← h];exact yP.2 ⟨q,hq,rfl⟩);simp[this]
   rw[yi,yg e,b,yi,yi,yM,yM,← e2];unfold Zo;simp only;omega
  ·rw[List.find?_cons,show (a.1 ==t)=false by simp[e]]at h;have d:=Ln t u l c hn.2 h;rw[yi,yf e,yi,yi,yM,yM];omega
theorem N0{v u c:JV}{t:List UInt8}(hg:zo v)(hc:zn v t=some c):(ct (Zs v t u)).length+(ct c).length=(ct v).length+(ct u).length:=by
 cases v with
 | arr l=>
  rw[ql]at hc;obtain⟨i,b,a⟩:=Option.bind_eq_some_iff.1 hc;have e:Zs (.arr l) t u= .arr (JL.ofL (l.toL.set i u)):=by simp only[Zs,b]
  rw[e,XY,Ur,List.length_set];have:=NZ (fun v=>(ct v).length) l.toL i u c a;omega
 | obj m=>
  rw[Qb]at hc;have e:Zs (.obj m) t u= .obj (JM.ofL (m.toL.map fun q=>if q.1=t then (q.1,u)else q)):=rfl;rw[e,Jm,Jm,JM.toL_ofL,yl];have:=Ln t u m.toL c ((qq m).1 hg).1 hc;omega
 | _=>cases hc
theorem Ym:∀ {ts:List (List UInt8)} {v u h:JV},zo v->zr v ts=some h->(ct (zO v ts u)).length+(ct h).length=(ct v).length+(ct u).length
 | [],v,u,h,_,e=>by
  rw[Qz]at e;injection e with e;subst e;rw[QW];omega
 | t :: ts,v,u,h,hv,e=>by
  rw[qM]at e
  cases hc:zn v t with
  | none=>rw[hc]at e;cases e
  | some c=>
   rw[hc]at e;rw[JU hc];have h1:=N0 (u:=zO c ts u) hv hc;have a:=Ym (u:=u) (hv.child hc) e;omega
theorem N6{α:Type}(f:α->Nat)(p:α->Bool):∀ l:List α,((l.filter p).map f).sum<=(l.map f).sum
 | []=>by simp
 | a :: l=>by
  have ih:=N6 f p l;rw[yi,yM];by_cases h:p a=true
  ·rw[List.filter_cons_of_pos h,yi,yM];omega
  ·rw[List.filter_cons_of_neg h];omega
theorem Lo{α:Type}(f:α->Nat):∀ (l:List α) (i:Nat),((l.eraseIdx i).map f).sum<=(l.map f).sum
 | [],i=>by simp
 | a :: l,0=>by simp
 | a :: l,i+1=>by
  have ih:=Lo f l i;rw[List.eraseIdx_cons_succ,yi,yi,yM,yM];omega
theorem XZ{v c:JV}{t:List UInt8}(hc:zn v t=some c):(ct (ZU v t)).length<=(ct v).length:=by
 cases v with
 | arr l=>
  rw[ql]at hc;obtain⟨i,d,f⟩:=Option.bind_eq_some_iff.1 hc;have e:ZU (.arr l) t= .arr (JL.ofL (l.toL.eraseIdx i)):=by simp only[ZU,d]
  rw[e,XY,Ur];have a:=Lo (fun v=>(ct v).length) l.toL i;have b:(l.toL.eraseIdx i).length<=l.toL.length:=List.length_eraseIdx_le ..;unfold hold;omega
 | obj m=>
  have e:ZU (.obj m) t= .obj (JM.ofL (m.toL.filter fun q=>!(q.1 ==t))):=rfl;rw[e,Jm,Jm,JM.toL_ofL];have a:=N6 Zo (fun q=>!(q.1 ==t)) m.toL;have b:=List.length_filter_le (fun q:List UInt8×JV=>!(q.1 ==t)) m.toL;unfold hold;omega
 | _=>cases hc
theorem Lp{v u r:JV}{t:List UInt8}(hg:zo v)(h:ZG v t u=some r):(ct r).length<=(ct v).length+(ct u).length+6*t.length+4:=by
 cases v with
 | arr l=>
  simp only[ZG]at h;split at h
  ·rename_i i hi;split at h
   ·injection h with h;subst h;rw[XY,Ur];have a:((l.toL.take i++u :: l.toL.drop i).map fun v=>(ct v).length).sum=(l.toL.map fun v=>(ct v).length).sum+(ct u).length:=by
     conv=>rhs;rw[← List.take_append_drop i l.toL]
     rw[yx,List.sum_append,yi,yM,yx,List.sum_append];omega
    have b:(l.toL.take i++u :: l.toL.drop i).length=l.toL.length+1:=by
     rw[yh,yp,ym,yv];omega
    rw[a,b];unfold hold;omega
   ·cases h
  ·cases h
 | obj m=>
  simp only[ZG]at h;split at h
  ·injection h with h;subst h
   cases hc:zn (.obj m) t with
   | some c=>
    have:=N0 (u:=u) hg hc;rw[Option.isSome_some,yg rfl];omega
   | none=>
    rw[Option.isSome_none,yf (by simp)];rw[Jm,Jm,JM.toL_ofL,yx,List.sum_append,yh];have:=GC t;simp only[yi,List.map_nil,yM,List.sum_nil,yp,yE,Zo];unfold hold;omega
  ·cases h
 | _=>cases h
theorem zau(m:JM):sumT (zt (.obj m))<=(ct (.obj m)).length:=by
 show sumT (zJ (zl m))<=(qb (zJ (zl m))).length
 unfold qb;rw[yp,yh];have:∀ l:List zL,sumT l<=(joinC (l.map zz)).length+1:=fun l=>by
  cases l with
  | nil=>simp[sumT]
  | cons x r=>
   have a:∀ r:List zL,sumT r=(joinT (r.map zz)).length:=fun r=>by
    induction r with
    | nil=>rfl
    | cons y r ih=>unfold sumT at *;rw[yi,yi,yM,ih,joinT];simp;omega
   have b:=a r;show sumT (x :: r)<=(zz x++joinT (r.map zz)).length+1
   unfold sumT at *;rw[yi,yM,b,yh];omega
 have:=this (zJ (zl m));simp;omega
theorem zav(l:JL):sumA (zt (.arr l))<=(ct (.arr l)).length:=by
 have e:sumA (zt (.arr l))=((zF l).map fun t=>t.length+1).sum:=by
  unfold sumA;rw[show (fun p:zL=>p.2.length+1)=(fun t:List UInt8=>t.length+1)∘(·.2)from rfl,← List.map_map,Uq,Z6]
 rw[e];show _<=(ZT (zF l)).length
 unfold ZT;rw[yp,yh];have:∀ l:List (List UInt8),(l.map fun t=>t.length+1).sum<=(joinC l).length+1:=fun l=>by
  cases l with
  | nil=>simp
  | cons x r=>
   have a:∀ r:List (List UInt8),(r.map fun t=>t.length+1).sum=(joinT r).length:=fun r=>by
    induction r with
    | nil=>rfl
    | cons y r ih=>rw[yi,yM,ih,joinT];simp;omega
   rw[yi,yM,a r];show _<=(x++joinT r).length+1
   rw[yh];omega
 have:=this (zF l);simp;omega
theorem zaw{v:JV}(hok:zD v)(htw:zw v=false){x:zL}(h:x∈zt v):x.1.length+x.2.length+1<=(ct v).length:=by
 rw[UR]at h;obtain⟨y,a,rfl⟩:=yP.1 h;exact (JG hok htw a).2.2.2
theorem Lq{ps:List zL}{p:Nat}{dr pu:Bool}{q:zL}:∀ {k:Nat} {x:zL},x∈Zn ps p dr pu q k->x=q∨x∈ps
 | 0,x,h=>by simp[Zn]at h
 | k+1,x,h=>by
  rw[Jz,List.mem_append]at h;rcases h with h | h
  ·exact Lq h
  ·unfold qy at h;rw[List.mem_append]at h;rcases h with h | h
   ·split at h
    ·exact .inl (by simpa using h)
    ·simp at h
   ·split at h
    ·split at h
     ·rename_i hk _;rw[List.mem_singleton]at h;exact .inr (by rw[h];exact yt hk)
     ·simp at h
    ·simp at h
theorem Kk{α:Type}(f g:α->Nat):∀ (l:List α),(∀ x∈l,f x<=g x)->(l.map f).sum<=(l.map g).sum
 | [],_=>by simp
 | x :: r,h=>by
  rw[yi,yi,yM,yM];have h1:=h x yq;have a:=Kk f g r fun y hy=>h y (yw _ hy);omega
theorem Lr{α:Type}(f:α->Nat)(c:Nat):∀ l:List α,(l.map fun x=>c*f x).sum=c*(l.map f).sum
 | []=>by simp
 | x :: r=>by rw[yi,yi,yM,yM,Lr f c r,Nat.mul_add]
theorem N7{v:JV}(hok:zD v)(htw:zw v=false)(hkd:kd v=5∨kd v=6)(hl:(ct v).length<=100000)(p:Nat)(dr pu:Bool)(q:zL)(h1:q.1.length<=1048576)(h2:q.2.length<=20000000):
  sumA (Zn (zt v) p dr pu q ((zt v).length+1))<=40000000/\sumT (zJ (Zn (zt v) p dr pu q ((zt v).length+1)))<=40000000/\∀ x∈zJ (Zn (zt v) p dr pu q ((zt v).length+1)),x.1.length<=1048576:=by
 have r:=Wr hok (by omega);have a:∀ f:zL->Nat,((Zn (zt v) p dr pu q ((zt v).length+1)).map f).sum<=((zt v).map f).sum+f q:=fun f=>by
  have:=Lg (zt v) p dr pu q f ((zt v).length+1);rw[yr (by omega)]at this;refine yQ this ?_;split<;>omega
 have z:sumA (zt v)<=100000/\sumT (zt v)<=6000000:=by
  rcases hkd with b | b
  ·obtain⟨l,rfl⟩:∃ l,v= .arr l:=by cases v<;>first | exact⟨_,rfl⟩ |(simp[kd]at b)
   have n:=zav l;refine⟨by omega,?_⟩;have d:sumT (zt (.arr l))<=((zt (.arr l)).map fun x=>46*(x.2.length+1)).sum:=by
    unfold sumT;refine Kk _ _ _ fun x hx=>?_;obtain⟨j,o,rfl⟩:=yY.1 hx;have e:=NY l o;have s:=Cl 6 j (by omega);have g:=GC (zt (.arr l))[j].1;rw[e]at g;unfold zz;rw[yh,yp,e];omega
   rw[Lr]at d;have y:((zt (.arr l)).map fun x=>x.2.length+1).sum=sumA (zt (.arr l)):=rfl;omega
  ·obtain⟨m,rfl⟩:∃ m,v= .obj m:=by cases v<;>first | exact⟨_,rfl⟩ |(simp[kd]at b)
   have n:=zau m;refine⟨?_,by omega⟩;have d:sumA (zt (.obj m))<=sumT (zt (.obj m)):=by
    unfold sumA sumT;refine Kk _ _ _ fun x _=>?_;unfold zz;rw[yh,yp];omega
   omega
 have i:=a fun x=>x.2.length+1;have k:=a fun x=>(zz x).length+1;have u:=GC q.1;have w:(zz q).length+1<=6*1048576+4+20000000:=by
  unfold zz;rw[yh,yp];omega
 refine⟨?_,?_,fun x hx=>?_⟩
 ·refine yQ i ?_;show sumA (zt v)+(q.2.length+1)<=_
  omega
 ·rw[KE];refine yQ k ?_;show sumT (zt v)+((zz q).length+1)<=_
  omega
 ·rcases Lq ((qw _).subset hx)with rfl | h
  ·exact h1
  ·have:=zaw hok htw h;omega
theorem Kl:∀ (ts:List (List UInt8)) (v u h:JV) (a:Option Addr) (g off cap:Nat) (w:Wo),zo v->zo u->zr v ts=some h->(ct v).length<=100000->(ct (zO v ts u)).length<=20000000->(∀ t∈ts,t.length<=1048576)->ts.length<=1048577->ts.length<=cap->SS w a g off (ts.map zH) ->
  Calls prog 103 #[.string (zh (ct v)),.slice a ts.length cap,.string (zh (ct u))] w fun e w'=>e= .returned (.string (zh (ct (zO v ts u))))/\Bw w w'
 | [],v,u,h,a,g,off,cap,w,_,_,_,_,_,_,_,_,_=>by
  rw[QW];generalize zh (ct u)=U at *;go_in;go_wp2;go_ret;exact⟨rfl,yI _ _⟩
 | t :: ts,v,u,h,a,g,off,cap,w,hv,hu,hg,hl,hs,ht,hn,hcap,hss=>by
  rw[qM]at hg
  cases hc:zn v t with
  | none=>rw[hc]at hg;cases hg
  | some c=>
   rw[hc]at hg;have hgc:=hv.child hc;obtain⟨_,_,hcl,_⟩:=Y8 hc hv.ok hv.tw;rw[JU hc]at hs ⊢;have F:(ct (zO c ts u)).length<=20000000:=by
    have C:=N0 (u:=zO c ts u) hv hc;omega
   have IH:Hid (∀ (a':Option Addr) (g' off' cap':Nat) (wx:Wo),ts.length<=cap'->SS wx a' g' off' (ts.map zH)->Calls prog 103 #[.string (zh (ct c)),.slice a' ts.length cap',.string (zh (ct u))] wx (Rb (.string (zh (ct (zO c ts u)))) wx)):=fun a' g' off' cap' wx C h2=>Kl ts c u h a' g' off' cap' wx hgc hu hg (by omega) F (fun x hx=>ht x (yw _ hx)) (by simp at hn;omega) C h2;have K:=ze (Nx v hv.ok hv.tw t (ht t yq) w (by omega));have O:Hid (∀ wx,Calls prog 74 #[.string (zh (ct v))] wx fun e w'=>∃ r,e= .returned r/\PR w' wx.heap.size r (zt v)/\Bw wx w'):=fun wx=>Wq v hv.ok wx (by omega);have ab:kd v=5∨kd v=6:=by
    cases v with
    | arr l=>exact .inl rfl
    | obj m=>exact .inr rfl
    | _=>cases hc
   have S:Hid (∀ (j:Nat) (q:j<(zt v).length) (wx:Wo),(zt v)[j].1=t->Calls prog 153 #[.string (zh (ct v)),.int .i64 (j:Int),.bool true,.bool true,.agg #[.string (zh t),.string (zh (ct (zO c ts u)))]] wx (Rb (.string (zh (ct (Zs v t (zO c ts u))))) wx)):=fun j q wx hk=>by
    obtain⟨s1,s2,s3⟩:=N7 hv.ok hv.tw ab hl j true true (t,ct (zO c ts u)) (ht t yq) F;have hpl:=Wr hv.ok (show (ct v).length<=1000000 by omega);have:=NA v hv.ok (by omega) j true true (t,ct (zO c ts u)) wx (by omega) s1 s2 s3;rw[zaq hv hc q hk]at this;exact this
   have W:=hss.ad (by simp);have Y:=hss.cell 0 (by simp);have hc0':w.cell? ⟨g,off,none⟩=some (.string (zh t)):=by simpa [zH,zh]using Y
   have P:Hid (∀ wx,Bw w wx->SS wx (some ⟨g,off+1,none⟩) g (off+1) (ts.map zH)):=fun wx hx=>⟨fun _=>rfl,fun j q=>by
    have C:=(hss.below hx).cell (j+1) (by simpa using q);rw[show off+(j+1)=off+1+j by omega]at C;simpa using C⟩
   subst W;clear hss Y hg hgc hcl hs F hv hu ab hl;generalize ct (Zs v t (zO c ts u))=R at *;generalize ct (zO c ts u)=Z at *;generalize zh (ct u)=U at *;generalize zh R=sR at *;go_in;go_wp2_with fail;refine (uh K).mono ?_;rintro e w1 ⟨b1,⟨rfl,aa⟩ |⟨j,q,u',rfl,k,af,E⟩⟩
   ·rw[hc]at aa;cases aa
   ·obtain rfl:u'=c:=by rw[hc]at k;injection k with k;exact k.symm
    have N:=ze (uh O w1);have y:=ze (fun wx=>uh S j q wx E);have G:=ze b1;have hz1:=b1.size;clear K O S k hc b1 ht;go_wp2_with fail;refine (uh N).mono ?_;rintro e b ⟨r2,rfl,p2,b2⟩;obtain⟨g2,cap2,rfl,hB2,hgl,c0,c1⟩:=p2.cells j q;rw[E]at c0;rw[af]at c1;have hjI:(j:Int)<((zt v).length:Int):=by omega
    have H:=ze (zi (uh G) b2);have HZ2:=ze (uh H).size;clear N p2 E af b2 G;generalize zh (ct u')=f at *;generalize zh t=d at *;generalize zh Z=A at *;generalize zh (ct v)=sv at *;have kA:=yH b (.cells #[.string d,.string f] 97);have bA:=Z0 b (.cells #[.string d,.string f] 97);have y0:(b.alloc (.cells #[.string d,.string f] 97)).cell? ⟨b.heap.size,0,none⟩=some (.string d):=yG kA 0;have y1:(b.alloc (.cells #[.string d,.string f] 97)).cell? ⟨b.heap.size,1,none⟩=some (.string f):=yG kA 1;have z:=(yC.1 kA).1;have i:Hid (∀ X,Below (b.alloc (.cells #[.string d,.string f] 97)).drew.heap.size (b.alloc (.cells #[.string d,.string f] 97)).drew X->X.heap[b.heap.size]?=some (.cells #[.string d,.string f] 97 (0,0))):=fun X hX=>(hX.block b.heap.size z).trans kA;have s:Hid (∀ X,Below (b.alloc (.cells #[.string d,.string f] 97)).drew.heap.size (b.alloc (.cells #[.string d,.string f] 97)).drew X->X.cell? ⟨b.heap.size,0,none⟩=some (.string d)/\X.cell? ⟨b.heap.size,1,none⟩=some (.string f)/\X.frozen? ⟨b.heap.size,1,none⟩=false):=fun X hX=>⟨yG (uh i X hX) 0,yG (uh i X hX) 1,yJ (uh i X hX) 1⟩;have D:=(zi (uh H) bA);have J:Hid (∀ X,Below (b.alloc (.cells #[.string d,.string f] 97)).drew.heap.size (b.alloc (.cells #[.string d,.string f] 97)).drew X->Bw w X):=fun X hX=>zi D.drew hX;have V:=uh P _ D.drew;have hcap1:ts.length+1<=cap:=by simpa using hcap
    have hz0:¬ ((ts.length:Int)+1=0):=by omega
    have hle1:(1:Int)<=(ts.length:Int)+1:=by omega
    clear kA bA z D hcap hn;have T:SS (b.alloc (.cells #[.string d,.string f] 97)).drew (if cap=1 then some ⟨g,off,none⟩else some ⟨g,off+1,none⟩) g (off+1) (ts.map zH):=by
     by_cases C:cap=1
     ·have ht0:ts=[]:=yO (by omega);subst ht0;exact⟨fun h=>by simp at h,fun j q=>by simp at q⟩
     ·rw[yf C];exact V
    clear V;have L:=ze (uh IH (if cap=1 then some ⟨g,off,none⟩else some ⟨g,off+1,none⟩) g (off+1) (cap - 1) (b.alloc (.cells #[.string d,.string f] 97)).drew (by omega) T);clear IH P T;go_wp2_with fail;go_region_law (go_simp;refine (uh L).mono ?_;rintro e n ⟨rfl,b4⟩;have o:=uh s n b4;have d0:=o.1;have d1:=o.2.1;have f4:=o.2.2)
    all_goals
     have M:Hid (n.heap[b.heap.size]?=some (.cells #[.string d,.string f] 97 (0,0))):=uh i n b4;have I:=ze (uh J n b4);clear b4 o L s i J;have B:Hid ((n.setCell ⟨b.heap.size,1,none⟩ (.string A)).heap[b.heap.size]?=some (.cells #[.string d,.string A] 97 (0,0))):=heap_setCell_same n b.heap.size 1 _ _ _ (uh M);have HB5:=ze ((uh I).setCell (p:=⟨b.heap.size,1,none⟩) (by have:=uh HZ2;exact this) (.string A));have e0:(n.setCell ⟨b.heap.size,1,none⟩ (.string A)).cell? ⟨b.heap.size,0,none⟩=some (.string d):=yG (uh B) 0;have e1:(n.setCell ⟨b.heap.size,1,none⟩ (.string A)).cell? ⟨b.heap.size,1,none⟩=some (.string A):=yG (uh B) 1;have Q:=ze (uh y (n.setCell ⟨b.heap.size,1,none⟩ (.string A)));clear M B I y d0 d1 f4;generalize (if cap=1 then some (⟨g,off,none⟩:Addr)else some ⟨g,off+1,none⟩)=ad at *;go_wp2_with fail;generalize (n.setCell ⟨b.heap.size,1,none⟩ (.string A))=w5 at *;refine (uh Q).mono ?_;rintro e w6 ⟨rfl,b6⟩;have HB6:=ze (zi (uh HB5) b6);clear Q b6 e0 e1;go_wp2;go_ret;exact⟨rfl,uh HB6⟩
theorem Us{v h:JV}{ts:List (List UInt8)}(e:zr v ts=some h):Yj v ts= .tuple #[.string (zh (ct h)),.bool true]:=by unfold Yj;rw[e]
theorem Km{v:JV}{ts:List (List UInt8)}(e:zr v ts=none):Yj v ts= .tuple #[.string ⟨#[]⟩,.bool false]:=by unfold Yj;rw[e]
theorem SS.init{w:Wo}{a:Option Addr}{g off:Nat}{xs:List (List UInt8)}{t:List UInt8}(h:SS w a g off ((xs++[t]).map zH)):SS w a g off (xs.map zH)/\a=some ⟨g,off,none⟩/\w.cell? ⟨g,off+xs.length,none⟩=some (.string (zh t)):=by
 have b:((xs++[t]).map zH).length=xs.length+1:=by simp
 refine⟨⟨fun h0=>h.ad (by rw[b];omega),fun j hj=>?_⟩,h.ad (by rw[b];omega),?_⟩
 ·rw[yl]at hj;have:=h.cell j (by rw[b];omega);rw[this,yx];simp[List.getElem?_append_left,hj]
 ·have:=h.cell xs.length (by rw[b];omega);rw[this];simp[zH,zh]
theorem Yn:∀ {ts:List (List UInt8)} {v u:JV},zo v->zr v ts=some u->(ct u).length<=(ct v).length
 | [],v,u,_,e=>by
  rw[Qz]at e;injection e with e;subst e;exact ye _
 | t :: ts,v,u,h,e=>by
  rw[qM]at e
  cases hc:zn v t with
  | none=>rw[hc]at e;cases e
  | some x=>
   rw[hc]at e;have h1:=Yn (h.child hc) e;have a:=(Y8 hc h.ok h.tw).2.2.1;omega
theorem zax{v c:JV}{t:List UInt8}(hv:zo v)(hc:zn v t=some c)(ht:t.length<=1048576)(hl:(ct v).length<=100000)(w:Wo):
  Calls prog 151 #[.string (zh (ct v)),.string (zh t)] w fun e w'=>∃ (j:Nat) (hj:j<(zt v).length),e= .returned (.int .i64 (j:Int))/\(zt v)[j].1=t/\Bw w w':=by
 refine (Nx v hv.ok hv.tw t ht w (by omega)).mono ?_;rintro e g ⟨d,⟨rfl,a⟩ |⟨j,hj,f,rfl,_,_,b⟩⟩
 ·rw[hc]at a;cases a
 ·exact⟨j,hj,rfl,b,d⟩
theorem zay{v c:JV}{t:List UInt8}(hc:zn v t=some c):kd v=5∨kd v=6:=by
 cases v with
 | arr l=>exact .inl rfl
 | obj m=>exact .inr rfl
 | _=>cases hc
theorem zaz(v h c:JV)(xs:List (List UInt8))(t:List UInt8)(a:Option Addr)(g off cap:Nat)(w:Wo)(hv:zo v)(hg:zr v xs=some h)(hc:zn h t=some c)(hl:(ct v).length<=100000)(hts:∀ x∈xs++[t],x.length<=1048576)(hn:xs.length<=1048576)(hcap:xs.length+1<=cap)(hss:SS w a g off ((xs++[t]).map zH)):
  Calls prog 102 #[.string (zh (ct v)),.slice a (xs.length+1) cap] w fun e w'=>e= .returned (.string (zh (ct (zO v xs (ZU h t)))))/\Bw w w':=by
 obtain⟨n,rfl,m⟩:=SS.init hss;have b:=hv.get hg;have E:=Yn hv hg;have r:=NP b hc;have C:=XZ hc;have G:=Ym (u:=ZU h t) hv hg;have y:t.length<=1048576:=hts t (by simp);have d:=ze (XS v hv.ok hv.tw (by omega) (some ⟨g,off,none⟩) g off cap xs w n (by omega) (fun x hx=>hts x (List.mem_append_left _ hx)));rw[Us hg]at d;have o:Hid (∀ wx,Calls prog 151 #[.string (zh (ct h)),.string (zh t)] wx fun e w'=>∃ (j:Nat) (s:j<(zt h).length),e= .returned (.int .i64 (j:Int))/\(zt h)[j].1=t/\Bw wx w'):=fun wx=>zax b hc y (by omega) wx;have q:Hid (∀ (j:Nat) (s:j<(zt h).length) (wx:Wo),(zt h)[j].1=t->Calls prog 153 #[.string (zh (ct h)),.int .i64 (j:Int),.bool true,.bool false,.agg #[.string ⟨#[]⟩,.string ⟨#[]⟩]] wx (Rb (.string (zh (ct (ZU h t)))) wx)):=fun j s wx hk=>by
  obtain⟨s1,s2,s3⟩:=N7 b.ok b.tw (zay hc) (by omega) j true false ([],[]) (by simp) (by simp);have T:=Wr b.ok (show (ct h).length<=1000000 by omega);have:=NA h b.ok (by omega) j true false ([],[]) wx (by omega) s1 s2 s3;rw[zar b hc s hk]at this;exact this
 have k:Hid (∀ wx,Bw w wx->Calls prog 103 #[.string (zh (ct v)),.slice (some ⟨g,off,none⟩) xs.length cap,.string (zh (ct (ZU h t)))] wx (Rb (.string (zh (ct (zO v xs (ZU h t))))) wx)):=fun wx hx=>Kl xs v (ZU h t) h (some ⟨g,off,none⟩) g off cap wx hv r hg hl (by omega) (fun x hx=>hts x (List.mem_append_left _ hx)) (by omega) (by omega) (n.below hx);have l:Hid (∀ wx,Bw w wx->wx.cell? ⟨g,off+xs.length,none⟩=some (.string (zh t))):=fun wx hx=>(hx.cell (p:=⟨g,off+xs.length,none⟩) (yK _ _ m)).trans m;have N:(xs.length:Int)+1 - 1=(xs.length:Int):=by omega
 have K:xs.length<=cap:=by omega
 have L:(xs.length:Int)<(xs.length:Int)+1:=by omega
 have M:xs.length<xs.length+1:=by omega
 clear hss n m b E r C G hv hg hc hl hts y;generalize zh (ct (zO v xs (ZU h t)))=R at *;generalize zh (ct (ZU h t))=D at *;generalize zh (ct v)=X at *;generalize zh (ct h)=V at *;generalize zh t=W at *;go_in;go_wp2_with fail;refine (uh d).mono ?_;rintro e O ⟨rfl,A⟩;have B:Bw w O.drew:=A.drew;have S:=uh l O.drew B;have Q:=ze A;clear d A;go_wp2_with fail;go_region_law (first
  |(have U:=i;go_simp;refine (uh k _ i).mono ?_;rintro e Z ⟨rfl,J⟩)
  |(have U:=f;go_simp;refine (uh q j s P F).mono ?_;rintro e Y ⟨rfl,I⟩;have i:=zi f I)
  |(go_simp;refine (uh o _).mono ?_;rintro e P ⟨j,s,rfl,F,H⟩;have f:=zi B H;have c4:=uh l P f))
 all_goals
  have z:=ze (zi i J);clear H I J f i k q o l B S;go_wp2;go_ret;exact⟨rfl,uh z⟩
theorem Ls{v:JV}(h:zD v)(h0:0<(zh (ct v)).size):∃ c:Nat,(zh (ct v))[0].toNat=c/\(c=91↔kd v=5)/\(c=123↔kd v=6):=by
 obtain⟨c,r,e,f⟩:=KY h;refine⟨c.toNat,?_,?_⟩
 ·rw[← Zq _ 0 h0,e];exact (GJ (c:=c) (r:=r)).2
 ·rw[← f];unfold fb
  repeat' split
  all_goals omega
def Gu:Option JV->Value
 | none=>.tuple #[.string ⟨#[]⟩,.bool false]
 | some r=>.tuple #[.string (zh (ct r)),.bool true]
theorem zaA(v u:JV)(xs:List (List UInt8))(t:List UInt8)(a:Option Addr)(g off cap:Nat)(w:Wo)(hv:zo v)(hu:zo u)(hl:(ct v).length<=100000)(hul:(ct u).length<=100000)(hts:∀ x∈xs++[t],x.length<=1048576)(hn:xs.length<=1048576)(hcap:xs.length+1<=cap)(hss:SS w a g off ((xs++[t]).map zH)):
  Calls prog 101 #[.string (zh (ct v)),.slice a (xs.length+1) cap,.string (zh (ct u))] w fun e w'=>e= .returned (Gu (Z4 v (xs++[t]) u))/\Bw w w':=by
 obtain⟨R,hR0⟩:∃ R,Z4 v (xs++[t]) u=R:=⟨_,rfl⟩;have hR:R=((zr v xs).bind fun h=>ZG h t u).map (zO v xs):=by
  rw[← hR0];unfold Z4;rw[yf (by simp),List.dropLast_concat];show ((zr v xs).bind fun h=>ZG h (q7 (xs++[t])) u).map _=_
  unfold q7;simp
 rw[hR0];clear hR0;obtain⟨U,rfl,T⟩:=SS.init hss;have K:t.length<=1048576:=hts t (by simp);have s:=ze (XS v hv.ok hv.tw (by omega) (some ⟨g,off,none⟩) g off cap xs w U (by omega) (fun x hx=>hts x (List.mem_append_left _ hx)));have y:Hid (∀ wx,Bw w wx->wx.cell? ⟨g,off+xs.length,none⟩=some (.string (zh t))):=fun wx hx=>(hx.cell (p:=⟨g,off+xs.length,none⟩) (yK _ _ T)).trans T;have hsub:(xs.length:Int)+1 - 1=(xs.length:Int):=by omega
 have hlec:xs.length<=cap:=by omega
 have hltI:(xs.length:Int)<(xs.length:Int)+1:=by omega
 cases hg:zr v xs with
 | none=>
  have HN:Hid (R=none):=by show _=_;rw[hR,hg];rfl
  rw[Km hg]at s;clear hg y hss U T hv hu hl hul hts K hcap hR;go_in;go_wp2_with fail;refine (uh s).mono ?_;rintro e V ⟨rfl,Y⟩;have HB1:=ze Y;clear s Y;go_wp2;go_ret2;exact⟨by rw[uh HN];rfl,uh HB1⟩
 | some h=>
  have G:R=(ZG h t u).map (zO v xs):=by rw[hR,hg];rfl
  have o:=hv.get hg;have hlh:=Yn hv hg;have h0:=XT o.ok;have h0I:(0:Int)<((zh (ct h)).size:Int):=by omega
  rw[Us hg]at s;obtain⟨c,hc,c5,c6⟩:=Ls o.ok h0;by_cases I:kd h=5∨kd h=6
  ·have hpl:=Wr o.ok (show (ct h).length<=1000000 by omega);have O:Hid (∀ wx,Calls prog 74 #[.string (zh (ct h))] wx fun e w'=>∃ xa xc,e= .returned (.slice xa (zt h).length xc)/\PR w' wx.heap.size (.slice xa (zt h).length xc) (zt h)/\Bw wx w'):=fun wx=>by
    refine (Wq h o.ok wx (by omega)).mono ?_;rintro e w' ⟨r,rfl,p,b⟩;obtain⟨xa,xc,rfl⟩:=PR.shape p;exact⟨xa,xc,rfl,p,b⟩
   have f:Hid (∀ (i:Nat) (D:JV) (wx:Wo),i<=1000000->Y0 h (Zn (zt h) i false true (t,ct u) ((zt h).length+1))=ct D->Calls prog 153 #[.string (zh (ct h)),.int .i64 (i:Int),.bool false,.bool true,.agg #[.string (zh t),.string (zh (ct u))]] wx (Rb (.string (zh (ct D))) wx)):=fun i D wx hi hD=>by
    obtain⟨s1,s2,s3⟩:=N7 o.ok o.tw I (by omega) i false true (t,ct u) K (by show (ct u).length<=_;omega);have:=NA h o.ok (by omega) i false true (t,ct u) wx hi s1 s2 s3;rw[hD]at this;exact this
   have d:Hid (∀ D wx,ZG h t u=some D->Bw w wx->Calls prog 103 #[.string (zh (ct v)),.slice (some ⟨g,off,none⟩) xs.length cap,.string (zh (ct D))] wx (Rb (.string (zh (ct (zO v xs D)))) wx)):=fun D wx hp hx=>by
    have hrl:=Lp o hp;have hsl:=Ym (u:=D) hv hg;exact Kl xs v D h (some ⟨g,off,none⟩) g off cap wx hv (NQ o hu hp) hg hl (by omega) (fun x hx=>hts x (List.mem_append_left _ hx)) (by omega) (by omega) (U.below hx)
   rcases I with I | I
   case' inl=>
    obtain⟨l,rfl⟩:∃ l,h= .arr l:=by cases h<;>first | exact⟨_,rfl⟩ | cases I
    have S:c=91:=c5.2 rfl;have f1:(((zh (ct (.arr l)))[0].toNat:Int) !=91)=false:=by rw[hc,S];rfl
    have f3:(((zh (ct (.arr l)))[0].toNat:Int) ==123)=false:=by rw[hc,S];rfl
    have hpe:(zt (.arr l)).length=l.toL.length:=by simpa using congrArg List.length (Uq l)
    rw[hpe]at O hpl;have HIX:Hid (∀ wx,Calls prog 154 #[.string (zh t)] wx (Rk (.int .i64 (J2 t)) wx)):=fun wx=>by
     have:=TX (zh t) wx (by rw[zN];exact K)
     rwa [Za]at this
    obtain⟨q,hq⟩:∃ q,((zh t).toList ==[45])=q:=⟨_,rfl⟩;obtain⟨Z,hZ⟩:∃ Z:Int,Z=if q then (l.toL.length:Int)else J2 t:=⟨_,rfl⟩
    have Q:R=if 0<=Z/\Z<=l.toL.length then some (zO v xs (.arr (JL.ofL (l.toL.take Z.toNat++u :: l.toL.drop Z.toNat))))else none:=by
     rw[G,hZ,← hq,ByteArray.toList_eq,Za];simp only[ZG,yD];by_cases hd:t=[45]
     ·simp only[hd,if_true,Int.toNat_natCast,ye,Int.le_refl,and_true];rw[yg (by omega)];rfl
     ·simp only[hd,if_false];unfold J2
      cases Z8 t with
      | none=>rfl
      | some i=>
       simp only[Int.toNat_natCast];by_cases hi:i<=l.toL.length
       ·rw[yg hi,yg (by omega)];rfl
       ·rw[yf hi,yf (by omega)];rfl
    have HP:Hid (∀ i:Nat,Z=i->i<=l.toL.length->ZG (.arr l) t u=some (.arr (JL.ofL (l.toL.take i++u :: l.toL.drop i)))):=fun i H h2=>by
     rw[H,yg (by omega)]at Q;rw[G]at Q;simp only[ZG]at Q ⊢;rw[hZ,← hq,ByteArray.toList_eq,Za]at H;simp only[yD]at H;by_cases hd:t=[45]
     ·simp only[hd,if_true]at H ⊢;rw[show i=l.toL.length by omega,yg (ye _)]
     ·simp only[hd,if_false]at H ⊢;unfold J2 at H
      cases hi:Z8 t with
      | none=>rw[hi]at H;simp only at H;omega
      | some j=>rw[hi]at H;simp only at H;rw[show j=i by omega];simp only;rw[yg h2]
    have HZ:=ze hZ;have HR:=ze Q;have f:Hid (∀ (i:Nat) (wx:Wo),i<=l.toL.length->Calls prog 153 #[.string (zh (ct (.arr l))),.int .i64 (i:Int),.bool false,.bool true,.agg #[.string (zh t),.string (zh (ct u))]] wx (Rb (.string (zh (ct (.arr (JL.ofL (l.toL.take i++u :: l.toL.drop i)))))) wx)):=fun i wx hi=>uh f i _ wx (by omega) (zas hi);clear hZ Q hpe S
   case' inr=>
    obtain⟨m,rfl⟩:∃ m,h= .obj m:=by cases h<;>first | exact⟨_,rfl⟩ | cases I
    have C:c=123:=c6.2 rfl;have f1:(((zh (ct (.obj m)))[0].toNat:Int) !=91)=true:=by rw[hc,C];rfl
    have f2:(((zh (ct (.obj m)))[0].toNat:Int) !=123)=false:=by rw[hc,C];rfl
    have f3:(((zh (ct (.obj m)))[0].toNat:Int) ==123)=true:=by rw[hc,C];rfl
    have HV:Hid (∀ wx,Calls prog 152 #[.string (zh t)] wx (Rb (.bool (Lib.validD t)) wx)):=fun wx=>by
     have:=zbC (zh t) wx (by rw[zN];exact K)
     rwa [Za]at this
    have HFI:Hid (∀ (wx:Wo) (B:Nat) (r:Value),PR wx B r (zt (.obj m))->Calls prog 115 #[r,.string (zh t)] wx fun e w'=>wx=w'/\∃ z:Int,e= .returned (.int .i64 z)/\Hid (z= -1/\zn (.obj m) t=none∨0<=z/\∃ c,zn (.obj m) t=some c)):=fun wx B r hr=>by
     refine (DZ B r (zt (.obj m)) t wx hr (by omega)).mono ?_;rintro e w' ⟨rfl,⟨rfl,hno⟩ |⟨j,hj,rfl,I⟩⟩
     ·exact⟨rfl,_,rfl,.inl ⟨rfl,RB hno⟩⟩
     ·obtain⟨c,H,_⟩:=TO o.ok o.tw (fun ⟨l,e⟩=>by cases e) hj I;exact⟨rfl,_,rfl,.inr ⟨by omega,c,H⟩⟩
    have N:Hid (∀ c wx,zn (.obj m) t=some c->Lib.validD t=true->Bw w wx->Calls prog 103 #[.string (zh (ct v)),.slice (some ⟨g,off,none⟩) (xs.length+1) cap,.string (zh (ct u))] wx fun e w'=>e= .returned (.string (zh (ct (zO v xs (Zs (.obj m) t u)))))/\Bw wx w'/\R=some (zO v xs (Zs (.obj m) t u))):=fun c wx n hval hx=>by
     have e1:zr v (xs++[t])=some c:=by rw[Gc,hg];show zr (.obj m) [t]=_;rw[qM,n];exact Qz c
     have e2:=NM xs v (.obj m) c t u hg n;have e3:=Ym (u:=u) hv e1;have:=Kl (xs++[t]) v u c (some ⟨g,off,none⟩) g off cap wx hv hu e1 hl (by omega) hts (by simp;omega) (by simp;omega) (hss.below hx);rw[e2,yh]at this;refine Calls.mono this ?_;rintro e w' ⟨H,h2⟩;refine⟨H,h2,?_⟩;rw[G];simp only[ZG];rw[yg hval,n];rfl
    have M:Hid (zn (.obj m) t=none->Lib.validD t=true->ZG (.obj m) t u=some (.obj (JM.ofL (m.toL++[(t,u)])))/\R=some (zO v xs (.obj (JM.ofL (m.toL++[(t,u)]))))):=fun n hval=>by
     have e:ZG (.obj m) t u=some (.obj (JM.ofL (m.toL++[(t,u)]))):=by simp only[ZG];rw[yg hval,n];rfl
     exact⟨e,by rw[G,e];rfl⟩
    have HN:Hid (Lib.validD t=false->R=none):=fun hval=>by rw[G];simp only[ZG];rw[yf (by rw[hval];simp)];rfl
    have f:=ze fun wx n=>uh f 0 _ wx (by omega) (zat o n);clear C
   all_goals
    clear hc c5 c6 I hR G hg o hlh hss U T hv hu hl hul hts K hcap;go_in;go_wp2_with fail;refine (uh s).mono ?_;rintro e V ⟨rfl,Y⟩;have c1:=uh y V Y;have kA:=yH V (.cells #[.string (zh t),.string (zh (ct u))] 97);have bA:=zi Y (Z0 V (.cells #[.string (zh t),.string (zh (ct u))] 97));have E:Hid (∀ wx,Below (V.alloc (.cells #[.string (zh t),.string (zh (ct u))] 97)).heap.size (V.alloc (.cells #[.string (zh t),.string (zh (ct u))] 97)) wx->wx.cell? ⟨V.heap.size,0,none⟩=some (.string (zh t))/\wx.cell? ⟨V.heap.size,1,none⟩=some (.string (zh (ct u)))):=fun wx hx=>by
     have k:=(hx.block V.heap.size (yC.1 kA).1).trans kA;exact⟨yG k 0,yG k 1⟩
    have cA:=uh y _ bA;have HBA:=ze bA;clear s Y kA bA;go_wp2_with fail;generalize (V.alloc (.cells #[.string (zh t),.string (zh (ct u))] 97))=wA at *
   ·refine (uh HV _).mono ?_;rintro e w2 ⟨rfl,b2⟩;have L:=ze (zi (uh HBA) b2);have bD:Bw w w2.drew:=(uh L).drew;have cD:=uh y w2.drew bD;have X:=ze b2;clear HV b2 c1 cA
    cases hval:Lib.validD t with
    | false=>
     have HN:=ze (uh HN hval);clear hval;go_wp2;go_ret2;exact⟨by rw[uh HN];rfl,uh L⟩
    | true=>
     have HVT:=ze hval;clear hval HN;go_wp2_with fail;go_region_law (first
      |(have hq:=P;go_simp;refine (uh HFI _ _ _ p4).mono ?_;rintro e w5 ⟨rfl,z,rfl,HZ⟩)
      |(go_simp;refine (uh O _).mono ?_;rintro e w4 ⟨xa,xc,rfl,p4,b4⟩;have P:=zi bD b4;have c4:=uh y w4 P))
     all_goals
      have HB4:=ze P;have bP:=zi (uh X).drew b4;have J:Bw w w4.drew:=P.drew;have F:=bP.drew;obtain⟨y0,y1⟩:=uh E w4.drew F;clear b4 p4 c4 O HFI cD bD P bP;rcases uh HZ with ⟨rfl,n⟩ |⟨hz,c,n⟩
      ·obtain⟨hp,hr⟩:=uh M n (uh HVT);have d:=ze fun wx=>uh d _ wx hp;have f:=ze fun wx=>uh f wx n;have HR:=ze hr;generalize (JV.obj (JM.ofL (m.toL++[(t,u)])))=D at *;clear hp hr n HZ M N;go_wp2_with fail;go_region_law (first
        |(have hq:=A;go_simp;refine (uh d _ A).mono ?_;rintro e w7 ⟨rfl,b7⟩)
        |(go_simp;refine (uh f _).mono ?_;rintro e w6 ⟨rfl,W⟩;have A:=zi J W;have z6:=uh E w6 (zi F W);have z0:=z6.1;have z1:=z6.2))
       all_goals
        have HBF:=ze (zi A b7);clear W A b7 J F z6 z0 z1 y0 y1 d f E y;go_wp2;go_ret2;exact⟨by rw[uh HR];rfl,uh HBF⟩
      ·have HS:=ze (uh N c w4 n (uh HVT) (uh HB4));clear d y E HZ n M N f y0 y1 J F;go_wp2_with fail;refine (uh HS).mono ?_;rintro e w6 ⟨rfl,W,hr⟩;have HB6:=ze (zi (uh HB4) W);have HR:=ze hr;clear HS W hr;go_wp2;go_ret2;exact⟨by rw[uh HR];rfl,uh HB6⟩
   ·refine (uh O _).mono ?_;rintro e w2 ⟨xa,xc,rfl,-,b2⟩;have hB2:=zi (uh HBA) b2;have c2:=uh y w2 hB2;have L:=ze hB2;have X:=ze b2;clear O hB2 b2 c1 cA;go_wp2_with fail;refine (uh HIX _).mono ?_;rintro e w2' ⟨rfl,rfl⟩;clear HIX;go_upto_if 90 with fail;go_cut [14]from 86 to 91 (fun x wx=>x= .int .i64 Z/\w2=wx)
    case first=>cases q<;>(go_wp2;go_meet;case rel=>exact⟨by rw[uh HZ];rfl,rfl⟩)
    obtain⟨rfl,rfl⟩:=hcut;by_cases hz:0<=Z/\Z<=l.toL.length
    ·rw[yg hz]at HR;obtain⟨i,rfl⟩:∃ i:Nat,Z=i:=⟨Z.toNat,by omega⟩;have hin:i<=l.toL.length:=by omega
     have HP:=ze (uh HP i rfl hin);have f:=ze fun wx=>uh f i wx hin;have d:=ze fun wx=>uh d _ wx (uh HP);have hzl:¬ (i:Int)<0:=by omega
     have hzl2:¬ (l.toL.length:Int)<(i:Int):=by omega
     have J:Bw w w2.drew:=(uh L).drew;have F:=(uh X).drew;obtain⟨y0,y1⟩:=uh E w2.drew F;rw[Int.toNat_natCast]at HR;generalize (JV.arr (JL.ofL (l.toL.take i++u :: l.toL.drop i)))=D at *;clear hz HP;go_wp2_with fail;go_region_law (first
      |(have hq:=A;go_simp;refine (uh d _ A).mono ?_;rintro e w7 ⟨rfl,b7⟩)
      |(go_simp;refine (uh f _).mono ?_;rintro e w6 ⟨rfl,W⟩;have A:=zi J W;have z6:=uh E w6 (zi F W);have z0:=z6.1;have z1:=z6.2))
     all_goals
      have HBF:=ze (zi A b7);clear W A b7 J F z6 z0 z1 y0 y1 d f E y;go_wp2;go_ret2;exact⟨by rw[uh HR];rfl,uh HBF⟩
    ·rw[yf hz]at HR;have hz:(Z<0)=True∨(Z<0)=False/\((l.toL.length:Int)<Z)=True:=by
      by_cases h:Z<0
      ·exact .inl (eq_true h)
      ·exact .inr ⟨yR h,eq_true (by omega)⟩
     clear E X d f HP y HZ;rcases hz with H |⟨H,h2⟩<;>(go_wp2;go_ret2;exact⟨by rw[uh HR];rfl,uh L⟩)
  ·have HN:Hid (R=none):=by show _=_;rw[G];cases h<;>first | rfl | exact absurd (.inl rfl) I | exact absurd (.inr rfl) I
   have f1:(((zh (ct h))[0].toNat:Int) !=91)=true:=by
    rw[hc];simp;intro e;exact I (.inl (c5.1 (by omega)))
   have f2:(((zh (ct h))[0].toNat:Int) !=123)=true:=by
    rw[hc];simp;intro e;exact I (.inr (c6.1 (by omega)))
   clear hc c5 c6 I hg o hlh y hss U T hv hu hl hul hts K hcap hR G;go_in;go_wp2_with fail;refine (uh s).mono ?_;rintro e V ⟨rfl,Y⟩;have HB1:=ze Y;clear s Y;go_wp2;go_ret2;exact⟨by rw[uh HN];rfl,uh HB1⟩
theorem zaB(B rb:Nat)(v:JV)(ad:Bool)(w:Wo)(h:zR w B rb)(hd:KR v):
  Calls prog 132 #[.pointer (some ⟨rb,0,none⟩),.string (zh (ct v)),.bool ad] w (DP B rb 40100 w):=by
 have HX:=ze fun w (h:zR w B rb)=>Jq B rb w h;have HR0:=ze h;have hlen:=hd.len;have hcnt:=hd.cnt;have HH:Hid (∀ w,Calls prog 176 #[.string (zh (ct v)),.string (zh [])] w fun e L=>∃ r,e= .returned r/\HR L w.heap.size r (ZV 100 [] v)/\Bw w L):=fun w=>D1 100 v [] w hd.ok hd.tw hd.dep (by omega) (by simp;omega) (by omega);have J:Hid (∀ x∈ZV 100 [] v,x.1.length<=40000/\∃ u:JV,zD u/\x.2=ct u/\(ct u).length<=600000):=fun x hx=>by
  have h1:=RF 100 [] v x hx;have h2:=hd.mx;obtain⟨u,u1,_,u3,u4⟩:=Ld 100 [] v hd.ok hd.tw x hx;exact⟨by simp at *;omega,u,u1,u3,by omega⟩
 have X:Hid (∀ w,zR w B rb->Calls prog 177 #[.pointer (some ⟨rb,0,none⟩),.string (zh (ct v))] w (DP B rb 40020 w)):=fun w h=>Hq B rb v w h hd;have hn:(ZV 100 [] v).length=zj v:=KQ 100 [] v hd.ok hd.tw hd.dep;have hn1:1<=(ZV 100 [] v).length:=by have:=(qz v);omega
 have hn2:(ZV 100 [] v).length<=3000:=by omega
 generalize ZV 100 [] v=f at *;generalize hsv:zh (ct v)=sv at *;clear h hd hlen hcnt hn hsv;go_in;go_wp2_with fail;refine (uh HX _ (uh HR0)).mono ?_;rintro e w1 ⟨x,hx,rfl,r1,g1⟩;have HS1:Hid (DS B rb w w1):=⟨r1,g1⟩;have hrb:=r1.lt;have HT:=ze (uh HH w1);clear r1 g1 HR0 HH;go_wp2_with fail;refine (uh HT).mono ?_;rintro e w2 ⟨v2,rfl,o2,b2⟩;obtain⟨va,vc,rfl⟩:=Xy o2;have aa:=ze ((uh HS1).below b2);have I:Hid (∀ wx,w2.grownBy wx (some rb)->∀ q (hq:q<f.length),∃ g,va=some ⟨g,0,none⟩/\wx.cell? ⟨g,q*2,none⟩=some (.string (zh f[q].1))/\wx.cell? ⟨g,q*2+1,none⟩=some (.string (zh f[q].2))):=fun wx hg q hq=>by
  obtain⟨g,cap,he,hg2,hgl,c0,c1⟩:=o2.cells q hq;injection he with he1 he2 he3;have hne:g≠rb:=by omega
  exact⟨g,he1,hg.cell c0 (by simpa using hne),hg.cell c1 (by simpa using hne)⟩
 have HB2:=ze b2;clear HT o2 b2;go_wp2_with fail;refine (uh HX _ (uh aa).1).mono ?_;rintro e M ⟨y,hy,rfl,r3,g3⟩;have ZL:=ze ((uh aa).step r3 g3);have HG3:=ze g3;have hid:(x:Int) / 4+(y:Int)=((x / 4+y:Nat):Int):=by omega
 have hib:x / 4+y<=400:=by omega
 generalize x / 4+y=yn at *;have hq:(yn:Int) % (f.length:Int)=((yn % f.length:Nat):Int):=by simp
 have hql:yn % f.length<f.length:=Nat.mod_lt _ (by omega);generalize yn % f.length=q at *;obtain⟨g,rfl,c0,c1⟩:=uh I M g3 q hql;have hqI:(q:Int)<(f.length:Int):=by omega
 have hsn:(f.length:Int)≠0:=by omega
 have hml:=(uh J f[q] (yt _)).1;have hzs:(zh f[q].1).size<=40000:=by rw[zN];exact hml
 clear r3 g3 hml HX;generalize zh f[q].1=s at *;generalize zh f[q].2=s2 at *;have z:=Z0 M (.cells #[.string s,.string s2] 257);have H:=yH M (.cells #[.string s,.string s2] 257);have K:=ze ((uh ZL).below z);have HG4:=ze (ZD (uh HG3) (qI (r:=some rb) z));have Y:=ze H;have HZ4:Hid (M.heap.size<(M.alloc (.cells #[.string s,.string s2] 257)).heap.size):=by simp[Hid]
 clear z H ZL HG3 aa HS1 HB2;by_cases h15:x % 16=15
 ·have e:(x:Int) % 16=15:=by omega
  have HD:=ze (uh X _ (uh K).1);clear h15 X I J Y;go_wp2_with fail;generalize M.alloc _=w4 at *;refine (uh HD).mono ?_;rintro e i ⟨t,ht,rfl,r5,g5⟩;clear HD;go_wp2;go_ret;exact⟨t,by omega,rfl,((uh K).step r5 g5)⟩
 ·have e:((x:Int) % 16 ==15)=false:=by simp only[yd,ne_eq];omega
  clear X;have HK:=ze fun k (hk:k<=255) w=>Xx k w hk;have G:Hid (∀ (t:List UInt8) (wx:Wo) (b:Nat),t.length<=3->wx.heap[b]?=some (.cells #[.string (zh t)] 9 (0,0))->Calls prog 42 #[.slice (some ⟨b,0,none⟩) 1 1] wx fun e L=>∃ T:Bs,T.size<=7/\e= .returned (.string T)/\Bw wx L):=fun t wx b ht hb=>by
   have hS:SS wx (some ⟨b,0,none⟩) b 0 [zh t]:=⟨fun _=>rfl,fun j hj=>by
    have:j=0:=by simpa using hj
    subst this;exact yG hb 0⟩
   have htt:qH [zh t]=t.length:=by simp[qH,zN]
   refine (Wm _ _ _ 1 [zh t] _ hS (by rw[htt];simp;omega)).mono ?_;rintro e L ⟨rfl,b'⟩;refine⟨_,?_,rfl,b'⟩;show (ZC [zh t]).length<=7
   rw[Kc,yp,yh,Za];have:=Vg t;simp[ZC];omega
  have Z:Hid (∀ (u:JV) (wx:Wo),zD u->(ct u).length<=600000->Calls prog 74 #[.string (zh (ct u))] wx fun e L=>∃ xa n xc,e= .returned (.slice xa n xc)/\n<=1000000/\Bw wx L):=fun u wx ou hu=>by
   have hpl:=Wr ou (show (ct u).length<=1000000 by omega);refine (Wq u ou wx (by omega)).mono ?_;rintro e L ⟨r,rfl,p,b⟩;obtain⟨xa,xc,rfl⟩:=PR.shape p;exact⟨xa,_,xc,rfl,by omega,b⟩
  have F:Hid (∀ (n:Nat) (wx:Wo),n<=255->Calls prog 119 #[.int .i64 (n:Int)] wx fun e L=>∃ T:Bs,T.size<=10/\e= .returned (.string T)/\Bw wx L):=fun n wx hn=>by
   refine (UI n n wx (ye _) (by omega)).mono ?_;rintro e L ⟨rfl,b'⟩;exact⟨_,by rw[zN];exact OO n (by omega),rfl,b'⟩
  have fin:Hid (∀ (wr:Wo),DS B rb w wr->DP B rb 40100 w (.returned (.string s)) wr):=fun wr h=>YL (by omega) h.1 h.2;by_cases hlp:ad=true/\x % 4<3
  ·obtain⟨rfl,h3⟩:=hlp;have e3:(x:Int) % 4<3:=by omega
   clear h3;go_wp2_with fail;generalize M.heap.size=g9 at *;generalize M.alloc _=w4 at *;go_loopw [10] (fun d wr=>∃ k:Nat,k<=f.length/\d= .int .i64 (k:Int)/\DS B rb w wr/\w2.grownBy wr (some rb)/\wr.heap[g9]?=some (.cells #[.string s,.string s2] 257 (0,0))) (fun d _=>f.length - (intOf d).toNat)
   case atStart=>exact⟨0,yu _,rfl,uh K,uh HG4,uh Y⟩
   case round=>
    obtain⟨k,hk,rfl,hS,hG,hK⟩:=hrel;by_cases hlt:k<f.length
    ·have hltI:(k:Int)<(f.length:Int):=by omega
     have U:(x:Int) / 4+(k:Int)=((x / 4+k:Nat):Int):=by omega
     have hib2:x / 4+k<=4000:=by omega
     generalize x / 4+k=m at *;have hq2:(m:Int) % (f.length:Int)=((m % f.length:Nat):Int):=by simp
     have hjl:m % f.length<f.length:=Nat.mod_lt _ (by omega);generalize m % f.length=j at *;have hjI:(j:Int)<(f.length:Int):=by omega
     obtain⟨g',e',d0,d1⟩:=uh I wr hG j hjl;injection e' with e';injection e' with e';subst e';obtain⟨p1,u,ou,eu,lu⟩:=uh J f[j] (yt _);rw[eu]at d1;have hpz:(zh f[j].1).size<=40000:=by rw[zN];exact p1
     generalize zh f[j].1=p at *;have h0:=XT ou;have h0I:(0:Int)<((zh (ct u)).size:Int):=by omega
     obtain⟨c,hc,c5,c6⟩:=Ls ou h0;have z:=Z0 wr (.cells #[.string p,.string (zh (ct u))] 257);have H:=yH wr (.cells #[.string p,.string (zh (ct u))] 257);have A:=ze (hS.below z);have O:=ze (ZD hG (qI (r:=some rb) z));have P:=ze ((z.block g9 (yC.1 hK).1).trans hK);have l:Hid (∀ wx,Below (wr.alloc (.cells #[.string p,.string (zh (ct u))] 257)).heap.size (wr.alloc (.cells #[.string p,.string (zh (ct u))] 257)) wx->wx.cell? ⟨wr.heap.size,0,none⟩=some (.string p)/\wx.cell? ⟨wr.heap.size,1,none⟩=some (.string (zh (ct u)))):=fun wx hb=>by
      have k:=(hb.block _ (yC.1 H).1).trans H;exact⟨yG k 0,yG k 1⟩
     obtain⟨y0,y1⟩:=uh l _ (yI _ _);have Q:=ze fun wx=>uh Z u wx ou lu;clear z H p1 eu lu J I Z hS hG hK;by_cases E:c=123
     ·have f1:(((zh (ct u))[0].toNat:Int) ==123)=true:=by rw[hc,E];rfl
      clear hc E c5 c6 Q F;by_cases h252:252<=x
      ·have e252:(252:Int)<=(x:Int):=by omega
       clear HK G O P;have hx3:x=252∨x=253∨x=254:=by omega
       have hs3:(9223372036854775807<p.size+2)=False:=yR (by omega);have hs4:(9223372036854775807<p.size+3)=False:=yR (by omega);have hs5:(9223372036854775807<p.size+4)=False:=yR (by omega);have HA:Hid (∀ wx:Wo,Below (wr.alloc (.cells #[.string p,.string (zh (ct u))] 257)).heap.size (wr.alloc (.cells #[.string p,.string (zh (ct u))] 257)) wx->∀ o,DS B rb w (wx.alloc o).drew):=fun wx hb o=>(((uh A).below hb).below (Z0 _ _)).below (yI _ _).drew;have y0':(wr.alloc (.cells #[.string p,.string (zh (ct u))] 257)).drew.cell? ⟨wr.heap.size,0,none⟩=some (.string p):=y0;go_wp2_with fail;generalize hwe:wr.alloc _=i at *;have hlt5:wr.heap.size<i.heap.size:=yK _ _ y0;have y2:∀ o,(i.alloc o).drew.cell? ⟨wr.heap.size,0,none⟩=some (.string p):=fun o=>(uh l _ ((Z0 i o).trans (yI _ _).drew)).1;rcases hx3 with rfl | rfl | rfl
       all_goals
        have hsz:(⟨#[47,255]⟩:Bs).size=2/\(⟨#[47,97,195]⟩:Bs).size=3/\(⟨#[47,228,184,150]⟩:Bs).size=4:=⟨rfl,rfl,rfl⟩;have HZ:=ze hsz;clear hsz;go_region
        all_goals
         go_wp2;go_ret;exact YL (by have:=uh HZ;rw[ByteArray.size_append];omega) (uh HA i (yI _ _) _).1 (uh HA i (yI _ _) _).2
      ·have e252:¬ (252:Int)<=(x:Int):=by omega
       have y0':(wr.alloc (.cells #[.string p,.string (zh (ct u))] 257)).drew.cell? ⟨wr.heap.size,0,none⟩=some (.string p):=y0;go_wp2_with fail;generalize wr.alloc _=i at *;have hx4:(x:Int) / 4=((x / 4:Nat):Int):=by omega
       have hx5:x / 4<=255:=by omega
       clear hid U hq hq2 O P h252;generalize x / 4=a at *;have hwa:IntKind.i64.wrap (a:Int)=(a:Int):=by rw[IntKind.wrap_i64];omega
       have hwd:Int.tdiv (x:Int) 4=(a:Int):=by rw[Int.tdiv_eq_ediv_of_nonneg (by omega)];exact hx4
       have hwx:IntKind.i64.wrap (x:Int)=(x:Int):=by rw[IntKind.wrap_i64];omega
       have S:Hid (DS B rb w i.drew):=(uh A).below (yI _ _).drew;have HKA:=ze fun w=>uh HK a hx5 w;have N:Hid (Bw i i.drew):=(yI _ _).drew;clear HK;have V:Hid (∀ o,Bw i (i.alloc o).drew):=fun o=>(Z0 i o).trans (yI _ _).drew;go_region_law (first
        |(have hq:=htl;go_simp;refine (uh G t _ i.heap.size htl (show ((i.alloc (.cells #[.string (zh t)] 9)).drew).heap[i.heap.size]?=_ from yH i _)).mono ?_;rintro e w7 ⟨T,htb,rfl,b7⟩;have ab:=zi (uh V _) b7;have z7:=(uh l w7 ab).1;have hs6:(9223372036854775807<p.size+T.size)=False:=yR (by omega))
        |(go_simp;refine (uh HKA _).mono ?_;rintro e w6 ⟨t,htl,rfl,rfl⟩;have y6:=(uh l _ (uh V (.cells #[.string (zh t)] 9))).1))
       all_goals
        have C:=ze ((uh A).below ab);clear b7 ab z7 y6 y0 y1 y0' HKA G l S N V A;go_wp2;go_ret;exact YL (by rw[ByteArray.size_append];omega) (uh C).1 (uh C).2
     ·have f1:(((zh (ct u))[0].toNat:Int) ==123)=false:=by rw[hc,yd];omega
      by_cases af:c=91
      ·have f2:(((zh (ct u))[0].toNat:Int) ==91)=true:=by rw[hc,af];rfl
       clear hc E af c5 c6 HK G;go_wp2_with fail;generalize wr.alloc _=i at *;refine (uh Q _).mono ?_;rintro e w6 ⟨xa,n,xc,rfl,hn6,b6⟩;have z0:=(uh l w6 b6).1;have R:=ze ((uh A).below b6);have W:=ze b6;have hx4:(x:Int) / 4=((x / 4:Nat):Int):=by omega
       have hx5:x / 4<=63:=by omega
       clear Q b6 y0 y1 A O P hid U hq hq2;generalize x / 4=a at *;by_cases h30:x % 3=0
       ·have e30:(x:Int) % 3=0:=by omega
        clear h30 F l W;go_wp2;go_ret;refine YL ?_ (uh R).1 (uh R).2;have h3:(⟨#[47,45]⟩:Bs).size=2:=rfl;rw[ByteArray.size_append];omega
       ·have e30:((x:Int) % 3 ==0)=false:=by simp only[yd,ne_eq];omega
        obtain⟨D,hN1⟩:∃ D:Nat,D=n+1:=⟨_,rfl⟩;have hnI:(n:Int)+1=(D:Int):=by omega
        have hN0:(D:Int)≠0:=by omega
        have hq3:(a:Int) % (D:Int)=((a % D:Nat):Int):=by simp
        have hq4:a % D<=255:=by have:=Nat.mod_le a D;omega
        have hwN:IntKind.i64.wrap (D:Int)=(D:Int):=by rw[IntKind.wrap_i64];omega
        have hwa:IntKind.i64.wrap (a:Int)=(a:Int):=by rw[IntKind.wrap_i64];omega
        have htm:Int.tmod (a:Int) (D:Int)=((a % D:Nat):Int):=rfl;have hN2:(D=0)=False:=yR (by omega);clear hN1 h30;generalize a % D=r at *;have HDR:=ze fun wx=>uh F r wx hq4;have z0':w6.drew.cell? ⟨wr.heap.size,0,none⟩=some (.string p):=z0;have N:Hid (Bw i w6.drew):=(uh W).drew;have S:Hid (DS B rb w w6.drew):=(uh R).below (yI _ _).drew;have hs1:(9223372036854775807<p.size+1)=False:=yR (by omega);clear F;go_wp2_with fail;go_region_law (go_simp;refine (uh HDR _).mono ?_;rintro e w7 ⟨T,htb,rfl,b7⟩;have z7:=(uh l w7 (zi (uh N) b7)).1;have hs2:(9223372036854775807<p.size+1+T.size)=False:=yR (by omega))
        all_goals
         have C:=ze ((uh S).below b7);clear b7 z7 z0 z0' HDR l W N R S;go_wp2;go_ret;refine YL ?_ (uh C).1 (uh C).2;have h3:(⟨#[47]⟩:Bs).size=1:=rfl;rw[ByteArray.size_append,ByteArray.size_append];omega
      ·have f2:(((zh (ct u))[0].toNat:Int) ==91)=false:=by rw[hc,yd];omega
       clear hc E af c5 c6 Q HK G F;go_wp2;go_roundw
       case rel=>exact⟨k+1,by omega,by go_num,uh A,uh O,uh P⟩
       case measure=>simp[intOf];omega
    ·have hltI:¬ (k:Int)<(f.length:Int):=by omega
     have C:=ze hS;have c9:wr.cell? ⟨g9,0,none⟩=some (.string s):=yG hK 0;clear hS hG hK HK G Z F I J;go_wp2;go_ret;exact uh fin _ (uh C)
  ·have c9:(M.alloc (.cells #[.string s,.string s2] 257)).cell? ⟨M.heap.size,0,none⟩=some (.string s):=yG (uh Y) 0
   cases ad with
   | false=>
    go_wp2;go_ret;exact uh fin _ (uh K)
   | true=>
    have e3:¬ (x:Int) % 4<3:=by have:¬ x % 4<3:=fun h=>hlp ⟨rfl,h⟩;omega
    clear hlp;go_wp2;go_ret;exact uh fin _ (uh K)
theorem JM.ofL_back:∀ m:JM,JM.ofL m.toL=m
 | .nil=>rfl
 | .cons k v r=>by rw[JM.toL,JM.ofL,JM.ofL_back r]
theorem zaC{s t:List UInt8}{i:Nat}(h:Z8 s=some i)(k:Z8 t=some i):s=t:=(UQ h).symm.trans (UQ k)
theorem Lt(t k:List UInt8)(u:JV):∀ l:List (List UInt8×JV),((l.map fun q=>if q.1=t then (q.1,u)else q).find? fun q=>q.1 ==k).map (·.2)=if k=t then ((l.find? fun q=>q.1 ==k).map fun _=>u)else (l.find? fun q=>q.1 ==k).map (·.2)
 | []=>by simp
 | a :: l=>by
  have ih:=Lt t k u l;rw[yi,List.find?_cons,List.find?_cons];by_cases e:a.1=t
  ·rw[yg e];by_cases f:a.1=k
   ·simp[f,← f.symm.trans e]
   ·rw[show ((a.1,u).1 ==k)=false by simp[f]];exact ih
  ·rw[yf e];by_cases f:a.1=k
   ·have:k≠t:=fun g=>e (f.trans g);simp[f,this]
   ·rw[show (a.1 ==k)=false by simp[f]];exact ih
theorem Ut{v c u:JV}{t:List UInt8}(h:zn v t=some c)(k:List UInt8):zn (Zs v t u) k=if k=t then some u else zn v k:=by
 cases v with
 | arr l=>
  rw[ql]at h;obtain⟨i,b,d⟩:=Option.bind_eq_some_iff.1 h;have e:Zs (.arr l) t u= .arr (JL.ofL (l.toL.set i u)):=by simp only[Zs,b]
  have f:=(List.getElem?_eq_some_iff.1 d).1;rw[e,ql,ql,JL.toL_ofL];by_cases a:k=t
  ·subst a;rw[yg rfl,b];simp[f]
  ·rw[yf a]
   cases hj:Z8 k with
   | none=>rfl
   | some j=>
    have g:i≠j:=fun e=>a (zaC (by rw[hj,e]) b);simp[List.getElem?_set,g]
 | obj m=>
  have e:Zs (.obj m) t u= .obj (JM.ofL (m.toL.map fun q=>if q.1=t then (q.1,u)else q)):=rfl;rw[e,Qb,Qb,JM.toL_ofL,Lt];rw[Qb]at h;split
  ·rename_i a;subst a;obtain⟨q,n,_⟩:=yA.1 h;rw[n];rfl
  ·rfl
 | _=>cases h
theorem Lu{t:List UInt8}{c:JV}:∀ l:List (List UInt8×JV),(l.map (·.1)).Nodup->(l.find? fun q=>q.1 ==t).map (·.2)=some c->(l.map fun q=>if q.1=t then (q.1,c)else q)=l
 | [],_,h=>by simp at h
 | a :: l,hn,h=>by
  rw[yi,List.nodup_cons]at hn;rw[List.find?_cons]at h;rw[yi];by_cases e:a.1=t
  ·rw[show (a.1 ==t)=true by simp[e]]at h;have e2:a.2=c:=by simpa using h
   rw[yg e,← e2];congr 1
   conv=>rhs;rw[← List.map_id l]
   refine List.map_congr_left fun q hq=>?_;have:q.1≠t:=fun h=>hn.1 (by rw[e,← h];exact yP.2 ⟨q,hq,rfl⟩);simp[this]
  ·rw[show (a.1 ==t)=false by simp[e]]at h;rw[yf e,Lu l hn.2 h]
theorem zaD{v c:JV}{t:List UInt8}(hg:zo v)(h:zn v t=some c):Zs v t c=v:=by
 cases v with
 | arr l=>
  rw[ql]at h;obtain⟨i,d,a⟩:=Option.bind_eq_some_iff.1 h;have e:Zs (.arr l) t c= .arr (JL.ofL (l.toL.set i c)):=by simp only[Zs,d]
  have b:l.toL.set i c=l.toL:=by
   apply List.ext_getElem?;intro j;rw[List.getElem?_set];split
   ·rename_i hj;subst hj;split
    ·exact a.symm
    ·rename_i h1;rw[List.getElem?_eq_none (by omega)]
   ·rfl
  rw[e,b,JL.ofL_toL]
 | obj m=>
  rw[Qb]at h;show JV.obj (JM.ofL (m.toL.map fun q=>if q.1=t then (q.1,c)else q))=_
  rw[Lu m.toL ((qq m).1 hg).1 h,JM.ofL_back]
 | _=>cases h
theorem set_set{v c x y:JV}{t:List UInt8}(h:zn v t=some c):Zs (Zs v t x) t y=Zs v t y:=by
 cases v with
 | arr l=>
  rw[ql]at h;obtain⟨i,a,b⟩:=Option.bind_eq_some_iff.1 h;have e:∀ (l:JL) z,Zs (.arr l) t z= .arr (JL.ofL (l.toL.set i z)):=fun l z=>by simp only[Zs,a]
  rw[e,e,e,JL.toL_ofL,List.set_set]
 | obj m=>
  have e:∀ (m:JM) z,Zs (.obj m) t z= .obj (JM.ofL (m.toL.map fun q=>if q.1=t then (q.1,z)else q)):=fun _ _=>rfl;rw[e,e,e,JM.toL_ofL,List.map_map];congr 2;refine List.map_congr_left fun q _=>?_;show (if (if q.1=t then (q.1,x)else q).1=t then ((if q.1=t then (q.1,x)else q).1,y)else (if q.1=t then (q.1,x)else q))=_
  by_cases e:q.1=t<;>simp[e]
 | _=>cases h
theorem N8:∀ {ts:List (List UInt8)} {v h u:JV},zr v ts=some h->zr (zO v ts u) ts=some u
 | [],v,h,u,_=>by rw[QW,Qz]
 | t :: ts,v,h,u,e=>by
  rw[qM]at e
  cases hc:zn v t with
  | none=>rw[hc]at e;cases e
  | some c=>
   rw[hc]at e;rw[JU hc,qM,Ut hc,yg rfl];exact N8 (v:=c) e
theorem N9:∀ {ts:List (List UInt8)} {v h:JV},zo v->zr v ts=some h->zO v ts h=v
 | [],v,h,_,e=>by rw[Qz]at e;injection e with e;rw[QW,e]
 | t :: ts,v,h,hg,e=>by
  rw[qM]at e
  cases hc:zn v t with
  | none=>rw[hc]at e;cases e
  | some c=>
   rw[hc]at e;rw[JU hc,N9 (hg.child hc) e,zaD hg hc]
theorem Lv:∀ {ts:List (List UInt8)} {v h x y:JV},zr v ts=some h->zO (zO v ts x) ts y=zO v ts y
 | [],v,h,x,y,_=>by rw[QW,QW]
 | t :: ts,v,h,x,y,e=>by
  rw[qM]at e
  cases hc:zn v t with
  | none=>rw[hc]at e;cases e
  | some c=>
   rw[hc]at e;rw[JU hc,JU (c:=zO c ts x) (by rw[Ut hc,yg rfl]),JU hc,set_set hc,Lv (v:=c) e]
theorem Uu(m:JM)(t k:List UInt8):zn (ZU (.obj m) t) k=if k=t then none else zn (.obj m) k:=by
 show zn (.obj (JM.ofL (m.toL.filter fun q=>!(q.1 ==t)))) k=_
 rw[Qb,Qb,JM.toL_ofL];generalize m.toL=l;induction l with
 | nil=>simp
 | cons a l ih=>
  rw[List.filter_cons,List.find?_cons];by_cases e:a.1=t
  ·rw[yf (by simp[e]),ih];by_cases b:k=t
   ·simp[b]
   ·rw[yf b,yf b,show (a.1 ==k)=false by simp[e,Ne.symm b]]
  ·rw[yg (by simp[e]),List.find?_cons];by_cases f:a.1=k
   ·have:k≠t:=fun g=>e (f.trans g);simp[f,this]
   ·rw[show (a.1 ==k)=false by simp[f]];exact ih
theorem Pa{m:JM}{t:List UInt8}{u:JV}(h:zn (.obj m) t=none)(k:List UInt8):zn (.obj (JM.ofL (m.toL++[(t,u)]))) k=if k=t then some u else zn (.obj m) k:=by
 rw[Qb,Qb,JM.toL_ofL,List.find?_append];by_cases a:k=t
 ·subst a;rw[Qb,Option.map_eq_none_iff]at h;rw[h];simp
 ·rw[yf a]
  cases m.toL.find? fun q=>q.1 ==k with
  | some q=>rfl
  | none=>simp[Ne.symm a]
theorem zaE{v c u:JV}{t:List UInt8}(h:zn v t=some c):zm (Zs v t u)<=max (zm v) (zm u+1):=by
 cases v with
 | arr l=>
  rw[ql]at h;obtain⟨i,a,b⟩:=Option.bind_eq_some_iff.1 h;have e:Zs (.arr l) t u= .arr (JL.ofL (l.toL.set i u)):=by simp only[Zs,a]
  rw[e,zm,zm,Vu,Vu,JL.toL_ofL];have:dl (l.toL.set i u)<=max (dl l.toL) (zm u):=(YA _ _).2 fun x hx=>by
   rcases List.mem_or_eq_of_mem_set hx with hx | rfl
   ·have:=(YA l.toL (dl l.toL)).1 (ye _) x hx;omega
   ·omega
  omega
 | obj m=>
  show zm (.obj (JM.ofL (m.toL.map fun q=>if q.1=t then (q.1,u)else q)))<=_
  rw[zm,zm,JE,JE,JM.toL_ofL];have:dl ((m.toL.map fun q=>if q.1=t then (q.1,u)else q).map (·.2))<=max (dl (m.toL.map (·.2))) (zm u):=(YA _ _).2 fun x hx=>by
   rw[List.map_map]at hx;obtain⟨q,d,rfl⟩:=yP.1 hx;show zm (if q.1=t then (q.1,u)else q).2<=_
   split
   ·show zm u<=_;omega
   ·have:=(YA (m.toL.map (·.2)) _).1 (ye _) q.2 (yP.2 ⟨q,d,rfl⟩);omega
  omega
 | _=>cases h
theorem Gv{v c:JV}{t:List UInt8}(h:zn v t=some c):zm c+1<=zm v:=by
 cases v with
 | arr l=>
  rw[ql]at h;obtain⟨i,d,a⟩:=Option.bind_eq_some_iff.1 h;rw[zm,Vu];have:=(YA l.toL _).1 (ye _) c (List.mem_of_getElem? a);omega
 | obj m=>
  rw[Qb]at h;obtain⟨q,b,rfl⟩:=yA.1 h;rw[zm,JE];have:=(YA (m.toL.map (·.2)) _).1 (ye _) q.2 (yP.2 ⟨q,List.mem_of_find?_eq_some b,rfl⟩);omega
 | _=>cases h
theorem Pb:∀ {ts:List (List UInt8)} {v h:JV},zr v ts=some h->ts.length+zm h<=zm v
 | [],v,h,e=>by rw[Qz]at e;injection e with e;subst e;simp
 | t :: ts,v,h,e=>by
  rw[qM]at e
  cases hc:zn v t with
  | none=>rw[hc]at e;cases e
  | some c=>
   rw[hc]at e;have h1:=Pb (v:=c) e;have a:=Gv hc;rw[yp];omega
theorem Pc:∀ {ts:List (List UInt8)} {v h u:JV},zr v ts=some h->zm (zO v ts u)<=max (zm v) (ts.length+zm u)
 | [],v,h,u,_=>by rw[QW];simp;omega
 | t :: ts,v,h,u,e=>by
  rw[qM]at e
  cases hc:zn v t with
  | none=>rw[hc]at e;cases e
  | some c=>
   rw[hc]at e;have h1:=Pc (u:=u) (v:=c) e;have a:=Gv hc;rw[JU hc,yp];have b:=zaE (u:=zO c ts u) hc;omega
theorem zaF(m:JM)(t:List UInt8):zm (ZU (.obj m) t)<=zm (.obj m):=by
 show zm (.obj (JM.ofL (m.toL.filter fun q=>!(q.1 ==t))))<=_
 rw[zm,zm,JE,JE,JM.toL_ofL];have:dl ((m.toL.filter fun q=>!(q.1 ==t)).map (·.2))<=dl (m.toL.map (·.2)):=(YA _ _).2 fun x hx=>by
  obtain⟨q,a,rfl⟩:=yP.1 hx;exact (YA (m.toL.map (·.2)) _).1 (ye _) q.2 (yP.2 ⟨q,(List.mem_filter.1 a).1,rfl⟩)
 omega
theorem zaG(m:JM)(t:List UInt8)(u:JV):zm (.obj (JM.ofL (m.toL++[(t,u)])))<=max (zm (.obj m)) (zm u+1):=by
 rw[zm,zm,JE,JE,JM.toL_ofL,yx];show dl (m.toL.map (·.2)++[u])+1<=_
 rw[PZ];omega
theorem Lw(t:List UInt8)(u:JV)(f:JV->Nat):∀ (l:List (List UInt8×JV)) (c:JV),(l.map (·.1)).Nodup->(l.find? fun q=>q.1 ==t).map (·.2)=some c->((l.map fun q=>if q.1=t then (q.1,u)else q).map fun q=>f q.2).sum+f c=(l.map fun q=>f q.2).sum+f u
 | [],c,_,h=>by simp at h
 | a :: l,c,hn,h=>by
  rw[yi,List.nodup_cons]at hn;rw[List.find?_cons]at h;rw[yi];by_cases e:a.1=t
  ·rw[show (a.1 ==t)=true by simp[e]]at h;have e2:a.2=c:=by simpa using h
   have b:(l.map fun q=>if q.1=t then (q.1,u)else q)=l:=by
    conv=>rhs;rw[← List.map_id l]
    refine List.map_congr_left fun q hq=>?_;have:q.1≠t:=fun h=>hn.1 (by rw[e,← h];exact yP.2 ⟨q,hq,rfl⟩);simp[this]
   rw[yg e,b,yi,yi,yM,yM,← e2];show f u+_+_=_;omega
  ·rw[show (a.1 ==t)=false by simp[e]]at h;have d:=Lw t u f l c hn.2 h;rw[yf e,yi,yi,yM,yM];omega
theorem zaH{v c u:JV}{t:List UInt8}(hg:zo v)(h:zn v t=some c):zj (Zs v t u)+zj c=zj v+zj u:=by
 cases v with
 | arr l=>
  rw[ql]at h;obtain⟨i,b,a⟩:=Option.bind_eq_some_iff.1 h;have e:Zs (.arr l) t u= .arr (JL.ofL (l.toL.set i u)):=by simp only[Zs,b]
  rw[e,zj,zj,Vv,Vv,JL.toL_ofL];have:=NZ zj l.toL i u c a;unfold cl;omega
 | obj m=>
  rw[Qb]at h;show zj (.obj (JM.ofL (m.toL.map fun q=>if q.1=t then (q.1,u)else q)))+_=_
  rw[zj,zj,Ys,Ys,JM.toL_ofL];have:=Lw t u zj m.toL c ((qq m).1 hg).1 h;omega
 | _=>cases h
theorem Kn:∀ {ts:List (List UInt8)} {v u h:JV},zo v->zr v ts=some h->zj (zO v ts u)+zj h=zj v+zj u
 | [],v,u,h,_,e=>by
  rw[Qz]at e;injection e with e;subst e;rw[QW];omega
 | t :: ts,v,u,h,hv,e=>by
  rw[qM]at e
  cases hc:zn v t with
  | none=>rw[hc]at e;cases e
  | some c=>
   rw[hc]at e;rw[JU hc];have h1:=zaH (u:=zO c ts u) hv hc;have a:=Kn (u:=u) (hv.child hc) e;omega
theorem Lx(m:JM)(t:List UInt8):zj (ZU (.obj m) t)<=zj (.obj m):=by
 show zj (.obj (JM.ofL (m.toL.filter fun q=>!(q.1 ==t))))<=_
 rw[zj,zj,Ys,Ys,JM.toL_ofL];have:=N6 (fun q:List UInt8×JV=>zj q.2) (fun q=>!(q.1 ==t)) m.toL;omega
theorem zaI(m:JM)(t:List UInt8)(u:JV):zj (.obj (JM.ofL (m.toL++[(t,u)])))=zj (.obj m)+zj u:=by
 rw[zj,zj,Ys,Ys,JM.toL_ofL];simp;omega
theorem zaJ(m:JM)(t:List UInt8)(u:JV):(ct (.obj (JM.ofL (m.toL++[(t,u)])))).length<=(ct (.obj m)).length+(Zo (t,u)+1):=by
 rw[Jm,Jm,JM.toL_ofL];simp[hold];omega
def J8:Nat->JV->JV->List (List (List UInt8))
 | 0,_,_=>[]
 | n+1,a,b=>if qC a b=true then (Zc a b).flatMap fun key=>match zX (zu a) key,zX (zu b) key with
   | some u,some v=>(J8 n u v).map fun us=>key :: us
   | _,_=>[[key]]
  else if Qo a b=true then []else [[]]
def VK(n:Nat)(a b:JV)(key:List UInt8):List (List (List UInt8)):=match zX (zu a) key,zX (zu b) key with
 | some u,some v=>(J8 n u v).map fun us=>key :: us
 | _,_=>[[key]]
theorem Pd{n:Nat}{a b:JV}(h:qC a b=true):J8 (n+1) a b=(Zc a b).flatMap (VK n a b):=by
 rw[J8,yg h];rfl
theorem Pe:∀ (n:Nat) (p:List UInt8) (a b:JV),qS n p a b=(J8 n a b).map (JK p)
 | 0,p,a,b=>rfl
 | n+1,p,a,b=>by
  by_cases hc:qC a b=true
  ·rw[F8 hc,Pd hc,List.map_flatMap];congr 1;funext key;unfold qT VK
   cases zX (zu a) key with
   | none=>rfl
   | some u=>
    cases zX (zu b) key with
    | none=>rfl
    | some v=>
     show qS n (Zp p key) u v=_
     rw[Pe n (Zp p key) u v,List.map_map];rfl
  ·rw[qS,J8,yf hc,yf hc];split<;>rfl
theorem Pf(g:List UInt8->JV->Nat):∀ (K:List (List UInt8×JV)) (keys:List (List UInt8)),keys.Nodup->(keys.map fun k=>(zX K k).elim 0 (g k)).sum<=(K.map fun q=>g q.1 q.2).sum
 | [],keys,_=>by
  have:(keys.map fun k=>(zX [] k).elim 0 (g k))=keys.map fun _=>0:=List.map_congr_left fun k _=>rfl;have z:∀ l:List (List UInt8),(l.map fun _=>(0:Nat)).sum=0:=fun l=>by
   induction l with
   | nil=>rfl
   | cons _ _ a=>simpa using a
  rw[this,z];exact yu _
 | q :: K,keys,h=>by
  have a:=Pf g K keys h;have b:=Sc (fun k=>(zX K k).elim 0 (g k)) q.1 (g q.1 q.2) keys h;have e:(keys.map fun k=>(zX (q :: K) k).elim 0 (g k))=keys.map fun k=>if q.1 ==k then g q.1 q.2 else (zX K k).elim 0 (g k):=List.map_congr_left fun k _=>by
   unfold zX;rw[List.find?_cons];by_cases f:q.1=k
   ·rw[show (q.1 ==k)=true by simp[f]];simp[f]
   ·rw[show (q.1 ==k)=false by simp[f]];rfl
  rw[e,yi,yM];omega
def Ec(b:JV)(k:List UInt8):Nat:=(zX (zu b) k).elim 0 zj
def X0(b:JV)(k:List UInt8)(v:JV):Nat:=match b with
 | .arr _=>(ct v).length
 | _=>Zo (k,v)+1
def El(b:JV)(k:List UInt8):Nat:=(zX (zu b) k).elim 0 (X0 b k)
theorem Ly(b:JV){keys:List (List UInt8)}(h:keys.Nodup):(keys.map (Ec b)).sum<=zj b:=by
 have:=Pf (fun _=>zj) (zu b) keys h;rw[JH b];show (keys.map fun k=>(zX (zu b) k).elim 0 zj).sum<=_
 omega
theorem Lz(b:JV){keys:List (List UInt8)}(h:keys.Nodup):(keys.map (El b)).sum<=(ct b).length:=by
 have a:=Pf (X0 b) (zu b) keys h;refine yQ a ?_
 cases b with
 | arr l=>
  show ((ZX 0 l.toL).map fun q=>(ct q.2).length).sum<=_
  have:∀ (vs:List JV) (b:Nat),((ZX b vs).map fun q=>(ct q.2).length)=vs.map fun v=>(ct v).length:=fun vs=>by
   induction vs with
   | nil=>intro b;rfl
   | cons v r ih=>intro b;rw[ZX,yi,yi,ih]
  rw[this,Ur];omega
 | obj m=>
  show ((JF m.toL).map fun q=>Zo (q.1,q.2)+1).sum<=_
  rw[((Yy m.toL).map _).sum_nat,Jm];have:∀ l:List (List UInt8×JV),(l.map fun q=>Zo (q.1,q.2)+1).sum=l.length+(l.map Zo).sum:=fun l=>by
   induction l with
   | nil=>rfl
   | cons q r ih=>rw[yi,yM,ih,yi,yM,yp];have:Zo (q.1,q.2)=Zo q:=rfl;omega
  rw[this];unfold hold;omega
 | _=>exact yu _
theorem Pg{l m:List (List UInt8×List UInt8)}(hl:(l.map (·.1)).Nodup)(hm:(m.map (·.1)).Nodup)(h:∀ q,q∈l↔q∈m):zJ l=zJ m:=by
 have p:l.Perm m:=(List.perm_ext_iff_of_nodup (List.Pairwise.imp (fun hne e=>hne (by rw[e])) (List.pairwise_map.1 hl)) (List.Pairwise.imp (fun hne e=>hne (by rw[e])) (List.pairwise_map.1 hm))).2 h;refine List.Perm.eq_of_pairwise (le:=fun a b=>a.1<=b.1) (fun a b ha hb h1 h2=>?_) (UJ l) (UJ m) (((qw l).trans p).trans (qw m).symm);have e:a.1=b.1:=List.le_antisymm h1 h2;have f:=(qw l).subset ha;have k:=(h b).2 ((qw m).subset hb);obtain⟨i,n,rfl⟩:=yY.1 f;obtain⟨j,o,rfl⟩:=yY.1 k;have d:=List.pairwise_iff_getElem.1 (List.pairwise_map.1 hl);rcases Nat.lt_trichotomy i j with g | g | g
 ·exact absurd e (d i j n o g)
 ·subst g;rfl
 ·exact absurd e.symm (d j i o n g)
structure X4(ts:List (List UInt8))(oa ob:Option JV)(x:Zv):Prop where
 path:x.path=ts
 no:ob=none->x.kind=2
 yes:∀ v,ob=some v->zo x.val/\ct x.val=ct v/\zj x.val=zj v/\zm x.val=zm v/\x.kind=if oa.isSome=true then 3 else 1
theorem LA{v:JV}(h1:zm v<=100)(h2:zj v<=3000)(h3:(ct v).length<=20000):Q5 v=true:=by
 unfold Q5;simp[h1,h2,h3]
theorem X5{V V':JV}{x:Zv}{R:List Zv}{i:Nat}(h:Zl V x= .inr V')(h1:zm V'<=100)(h2:zj V'<=3000)(h3:(ct V').length<=20000):Zw V (x :: R) i=Zw V' R (i+1):=by
 rw[Zw,h];simp only;rw[yg (LA h1 h2 h3)]
structure IX(a b V:JV)(ts done:List (List UInt8))(X:JV):Prop where
 gd:zo X
 sh:(∃ l m k,X= .arr l/\a= .arr m/\b= .arr k/\l.toL.length=m.toL.length)∨∃ l m k,X= .obj l/\a= .obj m/\b= .obj k/\∀ q∈l.toL,q.1∈Zc a b
 old:∀ k∈Zc a b,k ∉ done->zn X k=zn a k
 new:∀ k∈done,(zn X k).map ct=(zn b k).map ct
 dep:zm (zO V ts X)<=100
 cnt:zj (zO V ts X)<=zj V+(done.map (Ec b)).sum
 len:(ct (zO V ts X)).length<=(ct V).length+(done.map (El b)).sum
theorem VL{l:JL}{i:Nat}(h:i<1000000):zn (.arr l) (zM i)=l.toL[i]?:=by rw[ql,Cm h];rfl
theorem IX.fin{a b V X:JV}{ts:List (List UInt8)}(h:IX a b V ts (Zc a b) X)(hc:qC a b=true)(gb:zo b)(ca:zj a<=3000):ct X=ct b:=by
 rcases h.sh with ⟨l,m,k,rfl,rfl,rfl,j⟩ |⟨l,m,k,rfl,rfl,rfl,B⟩
 ·have E:m.toL.length=k.toL.length:=by simpa [qC]using hc
  have F:m.toL.length<=3000:=by
   have C:=JH (.arr m);have z:∀ (vs:List JV) (b:Nat),vs.length<=((ZX b vs).map fun q=>zj q.2).sum:=fun vs=>by
    induction vs with
    | nil=>intro b;simp
    | cons v r ih=>intro b;rw[ZX,yi,yM,yp];have:=ih (b+1);have:=qz v;show r.length+1<=zj v+_;omega
   have:=z m.toL 0;show m.toL.length<=3000
   have D:((zu (.arr m)).map fun q=>zj q.2).sum=((ZX 0 m.toL).map fun q=>zj q.2).sum:=rfl;omega
  show ZT (zF l)=ZT (zF k)
  rw[Z6,Z6];congr 1;apply List.ext_getElem?;intro i;rw[List.getElem?_map,List.getElem?_map];by_cases A:i<m.toL.length
  ·have d:zM i∈Zc (.arr m) (.arr k):=by
    show zM i∈(ZX 0 m.toL).map (·.1)
    refine yP.2 ⟨(ZX 0 m.toL)[i]'(by rw[Vz];exact A),yt _,?_⟩;rw[GN];simp
   have:=h.new _ d
   rwa [VL (by omega),VL (by omega)]at this
  ·rw[List.getElem?_eq_none (by omega),List.getElem?_eq_none (by omega)]
 ·have j:=(qq l).1 h.gd;have s:=(qq k).1 gb;show qb (zJ (zl l))=qb (zJ (zl k))
  have f:∀ (r:JM),(r.toL.map (·.1)).Nodup->∀ q:List UInt8×List UInt8,q∈zl r↔(zn (.obj r) q.1).map ct=some q.2:=fun r hr q=>by
   rw[qh,Qb];generalize r.toL=L at *;induction L with
   | nil=>simp
   | cons x L ih=>
    rw[yi,List.nodup_cons]at hr;rw[yi,List.mem_cons,List.find?_cons,ih hr.2];by_cases e:x.1=q.1
    ·rw[show (x.1 ==q.1)=true by simp[e]];have n:(L.find? fun y=>y.1 ==q.1)=none:=List.find?_eq_none.2 fun y p g=>hr.1 (yP.2 ⟨y,p,by simpa [e]using g⟩);rw[n];constructor
     ·rintro (rfl | h)
      ·rfl
      ·cases h
     ·intro h;left;have h:ct x.2=q.2:=by simpa using h
      rw[e,h]
    ·rw[show (x.1 ==q.1)=false by simp[e]];constructor
     ·rintro (rfl | h)
      ·exact absurd rfl e
      ·exact h
     ·exact .inr
  rw[Pg (l:=zl l) (m:=zl k) (by rw[qh,List.map_map];exact j.1) (by rw[qh,List.map_map];exact s.1) fun q=>?_];rw[f l j.1,f k s.1];by_cases o:q.1∈Zc (.obj m) (.obj k)
  ·rw[h.new _ o]
  ·have u:zn (.obj l) q.1=none:=by
    rw[Qb,Option.map_eq_none_iff,List.find?_eq_none];intro y p e;have e:y.1=q.1:=by simpa using e
    exact o (e ▸ B y p)
   have w:zn (.obj k) q.1=none:=Co fun d=>o (by
    show q.1∈Qg _
    rw[WW,List.mem_append];exact .inr d)
   rw[u,w]
theorem X6(ts:List (List UInt8))(t:List UInt8):q7 (ts++[t])=t:=by unfold q7;simp
theorem zaK{V X Y:JV}{ts:List (List UInt8)}{t:List UInt8}{x:Zv}(hX:zr V ts=some X)(hp:x.path=ts++[t])(hk:x.kind=1)(h:ZG X t x.val=some Y):Zl V x= .inr (zO V ts Y):=by
 unfold Zl;rw[yg hk,hp];unfold Z4;rw[yf (by simp),List.dropLast_concat,X6];unfold ZO;rw[hX];show ZS 3 ((ZG X t x.val).map _)=_
 rw[h];rfl
theorem zaL{V X c:JV}{ts:List (List UInt8)}{t:List UInt8}{x:Zv}(hX:zr V ts=some X)(hp:x.path=ts++[t])(hk:x.kind=2)(h:zn X t=some c):Zl V x= .inr (zO V ts (ZU X t)):=by
 unfold Zl;rw[yf (by rw[hk];decide),yg hk,hp];unfold qe;rw[yf (by simp),List.dropLast_concat,X6];unfold ZO;rw[hX];show ZS 3 ((QA X t).map _)=_
 unfold QA;rw[h];rfl
theorem LB{V X:JV}{ts:List (List UInt8)}{x:Zv}(hX:zr V ts=some X)(hp:x.path=ts)(hk:x.kind=3):Zl V x= .inr (zO V ts x.val):=by
 unfold Zl;rw[yf (by rw[hk];decide),yf (by rw[hk];decide),yg hk,hp];unfold ZO;rw[hX];rfl
theorem LC{m:JL}{b:JV}{key:List UInt8}(h:key∈Zc (.arr m) b):∃ i,i<m.toL.length/\key=zM i:=by
 obtain⟨q,d,rfl⟩:=yP.1 (show key∈(ZX 0 m.toL).map (·.1)from h);obtain⟨i,a,rfl⟩:=yY.1 d;rw[GN];rw[Vz]at a;exact⟨i,a,by simp⟩
theorem LE{a b:JV}(h:qC a b=true):(∃ m k,a= .arr m/\b= .arr k/\m.toL.length=k.toL.length)∨∃ m k,a= .obj m/\b= .obj k:=by
 cases a with
 | arr m=>
  cases b with
  | arr k=>exact .inl ⟨m,k,rfl,rfl,by simpa [qC]using h⟩
  | _=>cases h
 | obj m=>
  cases b with
  | obj k=>exact .inr ⟨m,k,rfl,rfl⟩
  | _=>cases h
 | _=>cases h
theorem Ko{m:JL}(h:zj (.arr m)<=3000):m.toL.length<=3000:=by
 rw[zj,Vv]at h;have:∀ l:List JV,l.length<=cl l:=fun l=>by
  induction l with
  | nil=>exact yu _
  | cons v r ih=>have:=qz v;simp only[cl,yi,yM,yp]at *;omega
 have:=this m.toL;omega
theorem LF:∀ (n:Nat) (a b:JV),zo a->zo b->zm a<=n->zj a<=3000->zj b<=3000->∀ (V:JV) (ts:List (List UInt8)) (f:List (List UInt8)->Zv),zo V->zr V ts=some a ->
  (∀ us∈J8 n a b,X4 (ts++us) (zr a us) (zr b us) (f us))->zm V<=100->ts.length+zm b<=100->zj V+zj b<=3000->(ct V).length+(ct b).length<=20000 ->
  ∃ b',zo b'/\ct b'=ct b/\zm (zO V ts b')<=100/\zj (zO V ts b')<=zj V+zj b/\(ct (zO V ts b')).length<=(ct V).length+(ct b).length /\
   ∀ (R:List Zv) (i:Nat),Zw V ((J8 n a b).map f++R) i=Zw (zO V ts b') R (i+(J8 n a b).length)
 | 0,a,b,ga,gb,hd,_,_,V,ts,f,_,_,_,_,_,_,_=>by have:=qz a;omega
 | n+1,a,b,ga,gb,hd,ca,cb,V,ts,f,gV,hV,hf,dV,db,cV,lV=>by
  by_cases Q:qC a b=true
  ·have K:=Xg (b:=b) ga.tw;have fA:∀ k,zX (zu a) k=zn a k:=Xh ga.tw (by omega);have T:∀ k,zX (zu b) k=zn b k:=Xh gb.tw (by omega);have W:∀ k v,zn b k=some v->Ec b k=zj v:=fun k v h=>by unfold Ec;rw[T,h];rfl
   have hEl:∀ k v,zn b k=some v->(ct v).length<=El b k:=fun k v h=>by
    unfold El;rw[T,h];show _<=X0 b k v
    unfold X0;split
    ·exact ye _
    ·unfold Zo;show _<=_+1+(ct v).length+1;omega
   rw[Pd Q]at hf ⊢;have inner:∀ (r d:List (List UInt8)) (X:JV),Zc a b=d++r->IX a b V ts d X->∃ P,IX a b V ts (Zc a b) P/\∀ (R:List Zv) (i:Nat),Zw (zO V ts X) ((r.flatMap (VK n a b)).map f++R) i=Zw (zO V ts P) R (i+(r.flatMap (VK n a b)).length):=by
    intro r;induction r with
    | nil=>
     intro d X e h;rw[yT]at e;exact⟨X,e ▸ h,fun _ _=>rfl⟩
    | cons key r ih=>
     intro d X e h;have C:=K;rw[e]at C;have ab:key ∉ d:=fun D=>(List.nodup_append.1 C).2.2 _ D key (by simp) rfl;have p:key∈Zc a b:=by rw[e];simp
     have A:=h.old key p ab;have B:zr (zO V ts X) ts=some X:=N8 hV;have hsub:∀ k∈d++[key],k∈Zc a b:=fun k o=>by rw[e];simp at o ⊢;rcases o with o | o<;>simp[o]
     have L:((d++[key]).map (Ec b)).sum=(d.map (Ec b)).sum+Ec b key:=by simp
     have M:((d++[key]).map (El b)).sum=(d.map (El b)).sum+El b key:=by simp
     have G:(d++[key]).Nodup:=by
      rw[List.append_cons]at C;exact (List.nodup_append.1 C).1
     have hC:=Ly b G;have hL:=Lz b G;have hdX:=Pb B;have aa:=h.dep;have Z:=h.cnt;have F:=h.len;have N:∀ Y,zO (zO V ts X) ts Y=zO V ts Y:=fun Y=>Lv hV
     suffices hs:∃ z,IX a b V ts (d++[key]) z/\∀ (R:List Zv) (i:Nat),Zw (zO V ts X) ((VK n a b key).map f++R) i=Zw (zO V ts z) R (i+(VK n a b key).length) by
      obtain⟨z,E,hr⟩:=hs;obtain⟨P,h2,hr2⟩:=ih (d++[key]) z (by rw[e];simp) E;refine⟨P,h2,fun R i=>?_⟩;rw[List.flatMap_cons,yx,List.append_assoc,hr,hr2,yh,Nat.add_assoc]
     have g:∀ us∈VK n a b key,X4 (ts++us) (zr a us) (zr b us) (f us):=fun us hu=>hf us (List.mem_flatMap.2 ⟨key,p,hu⟩)
     -- what the next state must keep
     have mk:∀ z,zo z->((∃ l m k,z= .arr l/\a= .arr m/\b= .arr k/\l.toL.length=m.toL.length)∨∃ l m k,z= .obj l/\a= .obj m/\b= .obj k/\∀ q∈l.toL,q.1∈Zc a b) ->
       (∀ k,k≠key->zn z k=zn X k)->(zn z key).map ct=(zn b key).map ct->zm (zO V ts z)<=100->zj (zO V ts z)<=zj (zO V ts X)+Ec b key->(ct (zO V ts z)).length<=(ct (zO V ts X)).length+El b key->IX a b V ts (d++[key]) z:=
      fun z g1 g2 U g4 g5 g6 g7=>⟨g1,g2,fun k o hn=>by
       rw[List.mem_append,List.mem_singleton,not_or]at hn;rw[U k hn.2];exact h.old k o hn.1,fun k o=>by
       rcases List.mem_append.1 o with o | o
       ·rw[U k fun e=>ab (e ▸ o)];exact h.new k o
       ·rw[List.mem_singleton]at o;rw[o];exact g4,g5,by rw[L];omega,by rw[M];omega⟩
     have one:∀ Y,zr (zO V ts X) ts=some X->zm Y<=max (zm X) (zm b)->zj Y<=zj X+Ec b key->(ct Y).length<=(ct X).length+El b key->zm (zO V ts Y)<=100/\zj (zO V ts Y)<=zj (zO V ts X)+Ec b key/\(ct (zO V ts Y)).length<=(ct (zO V ts X)).length+El b key:=fun Y _ y1 y2 y3=>by
      have I:=Pc (u:=Y) hV;have c1:=Kn (u:=Y) gV hV;have c2:=Kn (u:=X) gV hV;have S:=Ym (u:=Y) gV hV;have l2:=Ym (u:=X) gV hV;exact⟨by omega,by omega,by omega⟩
     unfold VK at g ⊢;rw[fA,T]at g ⊢
     cases hau:zn a key with
     | some u=>
      rw[hau]at A g
      cases hbv:zn b key with
      | some v=>
       rw[hbv]at g;simp only at g ⊢;have dv:=Gv hbv;have gW:zo (zO V ts X):=NR gV h.gd hV;have e1:=W key v hbv;have e2:=hEl key v hbv;have hgu:zr (zO V ts X) (ts++[key])=some u:=by rw[Gc,B];show zr X [key]=_;rw[qM,A];exact Qz u
       have hcu:=(Y8 hau ga.ok ga.tw).2.2.2;have hcv:=(Y8 hbv gb.ok gb.tw).2.2.2;obtain⟨O,g1,g2,U,g4,g5,g6⟩:=LF n u v (ga.child hau) (gb.child hbv) (by have:=Gv hau;omega) (by omega) (by omega) (zO V ts X) (ts++[key]) (fun us=>f (key :: us)) gW hgu (fun us hu=>by
        have:=g (key :: us) (yP.2 ⟨us,hu,rfl⟩);rw[qM,hau,qM,hbv]at this;rw[List.append_assoc];exact this) aa (by rw[yh,List.length_singleton];omega) (by omega) (by omega)
       have ee:zO (zO V ts X) (ts++[key]) O=zO V ts (Zs X key O):=by
        rw[NM ts (zO V ts X) X u key O B A,N]
       rw[ee]at U g4 g5 g6;refine⟨Zs X key O,mk _ (NO h.gd g1 A) ?_ (fun k o=>by rw[Ut A,yf o]) (by rw[Ut A,yg rfl,hbv];show some (ct O)=some (ct v);rw[g2]) U (by omega) (by omega),fun R i=>?_⟩
       ·rcases h.sh with ⟨l,m,k,rfl,rfl,rfl,hl⟩ |⟨l,m,k,rfl,rfl,rfl,o⟩
        ·left;rw[ql]at A;obtain⟨j,J,_⟩:=Option.bind_eq_some_iff.1 A;exact⟨JL.ofL (l.toL.set j O),m,k,by simp only[Zs,J],rfl,rfl,by rw[JL.toL_ofL,List.length_set];exact hl⟩
        ·right;refine⟨JM.ofL (l.toL.map fun q=>if q.1=key then (q.1,O)else q),m,k,rfl,rfl,rfl,fun q s=>?_⟩;rw[JM.toL_ofL]at s;obtain⟨y,hy,rfl⟩:=yP.1 s;have:=o y hy;split
         ·exact this
         ·exact this
       ·rw[List.map_map,yl];exact g6 R i
      | none=>
       rw[hbv]at g;simp only at g ⊢;rcases h.sh with ⟨l,m,k,rfl,rfl,rfl,hl⟩ |⟨l,m,k,rfl,rfl,rfl,o⟩
       ·exfalso;obtain⟨j,J,rfl⟩:=LC p;have F:m.toL.length=k.toL.length:=by simpa [qC]using Q
        have:=Ko ca;rw[VL (by omega),List.getElem?_eq_none_iff]at hbv;omega
       ·have x:=g [key] (by simp);have ob:zr (.obj k) [key]=none:=by rw[qM,hbv];rfl
        obtain⟨I,c1,S⟩:=one (ZU (.obj l) key) B (yQ (zaF l key) (Nat.le_max_left _ _)) (yQ (Lx l key) (Nat.le_add_right _ _)) (yQ (XZ A) (Nat.le_add_right _ _));refine⟨ZU (.obj l) key,mk _ (NP h.gd A) (.inr ⟨JM.ofL (l.toL.filter fun q=>!(q.1 ==key)),m,k,rfl,rfl,rfl,fun q s=>by rw[JM.toL_ofL]at s;exact o q (List.mem_filter.1 s).1⟩) (fun j J=>by rw[Uu,yf J]) (by rw[Uu,yg rfl,hbv]) I c1 S,fun R i=>?_⟩;have:=zaL B x.path (x.no ob) A;rw[N]at this;exact X5 this I (by omega) (by omega)
     | none=>
      rw[hau]at A g
      cases hbv:zn b key with
      | some v=>
       rw[hbv]at g;simp only at g ⊢;have e1:=W key v hbv;have dv:=Gv hbv;rcases h.sh with ⟨l,m,k,rfl,rfl,rfl,hl⟩ |⟨l,m,k,rfl,rfl,rfl,o⟩
       ·exfalso;obtain⟨j,J,rfl⟩:=LC p;have:=Ko ca;rw[VL (by omega),List.getElem?_eq_none_iff]at hau;omega
       ·have x:=g [key] (by simp);have ob:zr (.obj k) [key]=some v:=by rw[qM,hbv];exact Qz v
        have oa:zr (.obj m) [key]=none:=by rw[qM,hau];rfl
        obtain⟨x1,x2,x3,x4,x5⟩:=x.yes v ob;rw[oa]at x5;have ad:Lib.validD key=true:=by
         rw[Qb]at hbv;obtain⟨q,s,_⟩:=yA.1 hbv;have E:=(((qq k).1 gb).2 q (List.mem_of_find?_eq_some s)).1;have h2:q.1=key:=by simpa using List.find?_some s
         rwa [h2]at E
        have H:ZG (.obj l) key (f [key]).val=some (.obj (JM.ofL (l.toL++[(key,(f [key]).val)]))):=by
         simp only[ZG];rw[yg ad,A];rfl
        have hl1:El (.obj k) key=Zo (key,v)+1:=by unfold El;rw[T,hbv];rfl
        have hm1:Zo (key,(f [key]).val)=Zo (key,v):=by unfold Zo;simp only;rw[x2]
        have hlp:=zaJ l key (f [key]).val;obtain⟨I,c1,S⟩:=one (.obj (JM.ofL (l.toL++[(key,(f [key]).val)]))) B (by have:=zaG l key (f [key]).val;omega) (by rw[zaI];omega) (by omega);refine⟨.obj (JM.ofL (l.toL++[(key,(f [key]).val)])),mk _ (NQ h.gd x1 H) (.inr ⟨_,m,k,rfl,rfl,rfl,fun q s=>?_⟩) (fun j J=>by rw[Pa A,yf J]) (by rw[Pa A,yg rfl,hbv];show some _=some _;rw[x2]) I c1 S,fun R i=>?_⟩
        ·rw[JM.toL_ofL,List.mem_append,List.mem_singleton]at s;rcases s with s | rfl
         ·exact o q s
         ·exact p
        ·have:=zaK B x.path (by rw[x5];rfl) H;rw[N]at this;exact X5 this I (by omega) (by omega)
      | none=>
       exfalso;rcases UV Q p with D | D
       ·exact Vb.1 ((fA key).trans hau) D
       ·exact Vb.1 ((T key).trans hbv) D
   have w:zO V ts a=V:=N9 gV hV;have h0:IX a b V ts [] a:=by
    refine⟨ga,?_,fun k _ _=>rfl,fun k o=>(by cases o),by rw[w];exact dV,by rw[w];simp,by rw[w];simp⟩;rcases LE Q with ⟨m,k,rfl,rfl,_⟩ |⟨m,k,rfl,rfl⟩
    ·exact .inl ⟨m,m,k,rfl,rfl,rfl,rfl⟩
    ·refine .inr ⟨m,m,k,rfl,rfl,rfl,fun q s=>?_⟩;show q.1∈Qg _
     rw[WW,List.mem_append];exact .inl (yP.2 ⟨q,(Yy m.toL).symm.subset s,rfl⟩)
   obtain⟨P,E,hr⟩:=inner (Zc a b) [] a rfl h0;rw[w]at hr;have hC:=Ly b K;have hL:=Lz b K;have Z:=E.cnt;have F:=E.len;exact⟨P,E.gd,E.fin Q gb ca,E.dep,by omega,by omega,hr⟩
  ·rw[J8,yf Q]at hf ⊢;by_cases s:Qo a b=true
   ·rw[yg s];have w:zO V ts a=V:=N9 gV hV;exact⟨a,ga,RK s,by rw[w];exact dV,by rw[w];omega,by rw[w];omega,fun R i=>by rw[w];rfl⟩
   ·rw[yf s]at hf ⊢;have x:=hf [] (by simp);obtain⟨x1,x2,x3,x4,x5⟩:=x.yes b (Qz b);rw[Qz]at x5;have I:=Pc (u:=(f []).val) hV;have c1:=Kn (u:=(f []).val) gV hV;have S:=Ym (u:=(f []).val) gV hV;have ca1:=qz a;rw[x2]at S;refine⟨(f []).val,x1,x2,by omega,by omega,by omega,fun R i=>?_⟩;have hd:=LB hV (by have:=x.path;rwa [yT]at this) (by rw[x5];rfl);exact X5 hd (by omega) (by omega) (by omega)
theorem X7{v:JV}(h:zo v)(hd:zm v<=100)(hc:zj v<=3000)(hl:(ct v).length<=20000):zI (zh (ct v))= .inr (nv v)/\zo (nv v):=by
 have e:=Bc h.rd h.big h.tw;rw[yf (by omega),yf (by omega)]at e;exact⟨e,(ZF.of e).t⟩
theorem LG{α:Type} [DecidableEq α]:∀ (a b:List α),a.Nodup->(∀ x∈a,x∈b)->b.length<=a.length->a.Perm b
 | [],b,_,_,h=>by
  have:b=[]:=List.length_eq_zero_iff.1 (by simpa using h);rw[this]
 | x :: r,b,hn,hs,h=>by
  have hx:=hs x yq;rw[List.nodup_cons]at hn;have f:(b.erase x).length+1=b.length:=by
   rw[List.length_erase_of_mem hx];have:=List.length_pos_of_mem hx;omega
  have d:=LG r (b.erase x) hn.2 (fun y hy=>(List.mem_erase_of_ne (by intro e;subst e;exact hn.1 hy)).2 (hs y (yw _ hy))) (by rw[yp]at h;omega);exact (d.cons x).trans (List.perm_cons_erase hx).symm
theorem zaM{α β:Type}{l:List (α×β)}(h:(l.map (·.1)).Nodup):l.Nodup:=by
 unfold List.Nodup at h ⊢;rw[List.pairwise_map]at h;exact h.imp fun hab e=>hab (by rw[e])
theorem Ph{α β:Type}:∀ {l:List (α×β)} {p q:α×β},(l.map (·.1)).Nodup->p∈l->q∈l->p.1=q.1->p=q
 | [],_,_,_,h,_,_=>by cases h
 | x :: r,p,q,hn,hp,hq,e=>by
  rw[yi,List.nodup_cons]at hn;rcases List.mem_cons.1 hp with e1 | hp
  ·rcases List.mem_cons.1 hq with e2 | hq
   ·rw[e1,e2]
   ·exact absurd (yP.2 ⟨q,hq,by rw[← e,e1]⟩) hn.1
  ·rcases List.mem_cons.1 hq with e2 | hq
   ·exact absurd (yP.2 ⟨p,hp,by rw[e,e2]⟩) hn.1
   ·exact Ph hn.2 hp hq e
theorem LH{l m:JL}(hl:zo (.arr l))(hm:zo (.arr m)):ct (.arr l)=ct (.arr m)↔l.toL.map ct=m.toL.map ct:=by
 rw[← Z6,← Z6];constructor
 ·intro h;have a:=hl.ok;have b:=hm.ok;rw[zD]at a b;exact KX a b h
 ·intro h;rw[ct,ct,h]
theorem LI{k m:JM}(hk:zo (.obj k))(hm:zo (.obj m)):ct (.obj k)=ct (.obj m)↔k.toL.length=m.toL.length/\∀ q∈k.toL,∃ u,(q.1,u)∈m.toL/\ct q.2=ct u:=by
 have j:=(qq k).1 hk;constructor
 ·intro h;have f:=hk.ok;have g:=hm.ok;rw[zD]at f g;have a:(zl k).Perm (zl m):=(qw _).symm.trans ((RJ f g h) ▸ qw _);rw[qh,qh]at a;refine⟨by simpa using a.length_eq,fun q b=>?_⟩;obtain⟨o,d,e⟩:=yP.1 (a.subset (yP.2 ⟨q,b,rfl⟩));injection e with e1 e2;exact⟨o.2,by rw[← e1];exact d,e2.symm⟩
 ·rintro⟨p,l⟩;have i:((zl k).map (·.1)).Nodup:=by rw[qh,List.map_map];exact j.1
  have a:(zl k).Perm (zl m):=LG _ _ (zaM i) (fun x hx=>by
   rw[qh]at hx;obtain⟨q,b,rfl⟩:=yP.1 hx;obtain⟨u,n,e⟩:=l q b;rw[qh];exact yP.2 ⟨(q.1,u),n,by rw[e]⟩) (by rw[qh,qh,yl,yl];omega)
  rw[ct,ct,XX a i]
theorem LJ{l:JL}{u:JV}(h:u∈l.toL):(ct u).length<=(ct (.arr l)).length:=by
 have b:ct (.arr l)=ZT (zF l):=by rw[ct]
 rw[b,Z6];have d:(ct u).length+1<=((l.toL.map ct).map fun t=>t.length+1).sum:=by
  have:∀ (L:List JV),u∈L->(ct u).length+1<=((L.map ct).map fun t=>t.length+1).sum:=by
   intro L;induction L with
   | nil=>intro h;cases h
   | cons x r ih=>
    intro h;rw[yi,yi,yM];rcases List.mem_cons.1 h with rfl | h
    ·omega
    ·have:=ih h;omega
  exact this _ h
 have a:l.toL.map ct≠[]:=by intro e;rw[List.map_eq_nil_iff]at e;rw[e]at h;cases h
 have:=RM _ a;show _<=(91 ::(joinC (l.toL.map ct)++[93])).length
 simp only[yp,yh,yE];omega
end Go.Proofs.YtpaecnbdoljafaaGreatDoor
