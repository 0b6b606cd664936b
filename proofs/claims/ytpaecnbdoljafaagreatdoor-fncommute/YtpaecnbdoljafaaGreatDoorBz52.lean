import Derived.Test.YtpaecnbdoljafaaGreatDoorBz13
namespace Go.Proofs.YtpaecnbdoljafaaGreatDoor
open Go.RowKit
def shp:JV->JV×Nat
 | .arr l=>(.arr .nil,l.toL.length)
 | .obj _=>(.obj .nil,0)
 | v=>(v,0)
def qo(v:JV)(p:List (List UInt8)):Option (JV×Nat):=(zr v p).map shp
theorem Yh(v:JV):qo v []=some (shp v):=by unfold qo;rw[Qz];rfl
theorem Jo(v:JV)(t:List UInt8)(p:List (List UInt8)):qo v (t :: p)=(zn v t).bind fun u=>qo u p:=by
 unfold qo;rw[qM];cases zn v t<;>rfl
theorem We(v:JV)(a b:List (List UInt8)):qo v (a++b)=(zr v a).bind fun u=>qo u b:=by
 unfold qo;rw[Gc];cases zr v a<;>rfl
def qD(a b:JV):Prop:=∀ p,qo a p=qo b p
theorem qD.get{v w h:JV}{ts:List (List UInt8)}(e:∀ q,qo v (ts++q)=qo w (ts++q))(hv:zr v ts=some h):∃ h',zr w ts=some h'/\qD h h':=by
 have a:=e [];rw[We,We,hv]at a
 cases hw:zr w ts with
 | none=>rw[hw]at a;simp[Yh]at a
 | some h'=>
  refine⟨h',rfl,fun q=>?_⟩;have:=e q;rw[We,We,hv,hw]at this;exact this
theorem qD.kid{a b c:JV}{t:List UInt8}(h:qD a b)(hc:zn a t=some c):∃ c',zn b t=some c'/\qD c c':=by
 obtain⟨c',d,f⟩:=qD.get (v:=a) (w:=b) (ts:=[t]) (fun q=>h _) (by rw[qM,hc];exact Qz c);rw[qM]at d
 cases hb:zn b t with
 | none=>rw[hb]at d;cases d
 | some x=>rw[hb]at d;have d:zr x []=some c':=d;rw[Qz]at d;injection d with d;subst d;exact⟨x,rfl,f⟩
theorem qD.symm{a b:JV}(h:qD a b):qD b a:=fun p=>(h p).symm
theorem qD.nokid{a b:JV}{t:List UInt8}(h:qD a b)(hc:zn a t=none):zn b t=none:=by
 cases hb:zn b t with
 | none=>rfl
 | some x=>obtain⟨y,d,_⟩:=h.symm.kid hb;rw[hc]at d;cases d
theorem qD.shp{a b:JV}(h:qD a b):shp a=shp b:=by have:=h [];rw[Yh,Yh]at this;injection this
theorem Ox{l:JL}{b:JV}(h:shp (.arr l)=shp b):∃ m,b= .arr m/\l.toL.length=m.toL.length:=by
 cases b with
 | arr m=>exact⟨m,rfl,by simpa [shp]using h⟩
 | _=>simp[shp]at h
theorem U2{l:JM}{b:JV}(h:shp (.obj l)=shp b):∃ m,b= .obj m:=by
 cases b with
 | obj m=>exact⟨m,rfl⟩
 | _=>simp[shp]at h
theorem Wf{r:JM}(hr:(r.toL.map (·.1)).Nodup)(q:List UInt8×List UInt8):q∈zl r↔(zn (.obj r) q.1).map ct=some q.2:=by
 rw[qh,Qb];generalize r.toL=L at *;induction L with
 | nil=>simp
 | cons x L ih=>
  rw[yi,List.nodup_cons]at hr;rw[yi,List.mem_cons,List.find?_cons,ih hr.2];by_cases e:x.1=q.1
  ·rw[show (x.1 ==q.1)=true by simp[e]];have a:(L.find? fun y=>y.1 ==q.1)=none:=List.find?_eq_none.2 fun y hy g=>hr.1 (yP.2 ⟨y,hy,by simpa [e]using g⟩);rw[a];constructor
   ·rintro (rfl | h)
    ·rfl
    ·cases h
   ·intro h;left;have h:ct x.2=q.2:=by simpa using h
    rw[e,h]
  ·rw[show (x.1 ==q.1)=false by simp[e]];constructor
   ·rintro (rfl | h)
    ·exact absurd rfl e
    ·exact h
   ·exact .inr
theorem SK{v c:JV}{t:List UInt8}(h:zo v)(hc:zn v t=some c):zj c<=zj v:=(Y8 hc h.ok h.tw).2.2.2
theorem Ev:∀ (n:Nat) (a b:JV),zm a<=n->zo a->zo b->zj a<=3000->zj b<=3000->qD a b->ct a=ct b:=by
 intro n;induction n with
 | zero=>
  intro a b y g h k v d;have p:∀ t,zn a t=none:=fun t=>by
   cases hc:zn a t with
   | none=>rfl
   | some c=>have:=Gv hc;omega
  cases a with
  | arr l=>
   obtain⟨m,rfl,s⟩:=Ox d.shp;have z:=Ko k;have:l.toL=[]:=by
    cases hq:l.toL with
    | nil=>rfl
    | cons x r=>have:=p (zM 0);rw[VL (by omega),hq]at this;cases this
   have w:m.toL=[]:=yO (by rw[← s,this];rfl);show ZT (zF l)=ZT (zF m)
   rw[Z6,Z6,this,w]
  | obj l=>
   obtain⟨m,rfl⟩:=U2 d.shp;show qb (zJ (zl l))=qb (zJ (zl m))
   rw[Pg (l:=zl l) (m:=zl m) (by rw[qh,List.map_map];exact ((qq l).1 g).1) (by rw[qh,List.map_map];exact ((qq m).1 h).1) fun q=>?_];rw[Wf ((qq l).1 g).1,Wf ((qq m).1 h).1,p,d.nokid (p _)]
  | _=>have:=d.shp;cases b<;>simp[shp]at this<;>first | rfl |(subst this;rfl)
 | succ n ih=>
  intro a b y g h k v d;have f:∀ t,(zn a t).map ct=(zn b t).map ct:=fun t=>by
   cases hc:zn a t with
   | none=>rw[d.nokid hc]
   | some c=>
    obtain⟨u,j,o⟩:=d.kid hc;have A:=Gv hc;have B:=SK g hc;have C:=SK h j;rw[j,Option.map_some,Option.map_some,ih c u (by omega) (g.child hc) (h.child j) (by omega) (by omega) o]
  cases a with
  | arr l=>
   obtain⟨m,rfl,s⟩:=Ox d.shp;have z:=Ko k;show ZT (zF l)=ZT (zF m)
   rw[Z6,Z6];congr 1;apply List.ext_getElem?;intro i;rw[List.getElem?_map,List.getElem?_map];by_cases D:i<l.toL.length
   ·have:=f (zM i)
    rwa [VL (by omega),VL (by omega)]at this
   ·rw[List.getElem?_eq_none (by omega),List.getElem?_eq_none (by omega)]
  | obj l=>
   obtain⟨m,rfl⟩:=U2 d.shp;show qb (zJ (zl l))=qb (zJ (zl m))
   rw[Pg (l:=zl l) (m:=zl m) (by rw[qh,List.map_map];exact ((qq l).1 g).1) (by rw[qh,List.map_map];exact ((qq m).1 h).1) fun q=>?_];rw[Wf ((qq l).1 g).1,Wf ((qq m).1 h).1,f]
  | _=>have:=d.shp;cases b<;>simp[shp]at this<;>first | rfl |(subst this;rfl)
theorem Ew:∀ (p:List (List UInt8)) (a b:JV),zo a->zo b->ct a=ct b->qo a p=qo b p:=by
 intro p;induction p with
 | nil=>
  intro a b g j e;rw[Yh,Yh];rcases KZ g.ok j.ok e with h |⟨l,m,rfl,rfl⟩ |⟨l,m,rfl,rfl⟩
  ·unfold Qo at h;split at h<;>first | rfl |(rw[yD]at h;rw[h]) | cases h
  ·have k:=g.ok;have n:=j.ok;rw[zD]at k n;have:=congrArg List.length (KX k n e);rw[Z6,Z6,yl,yl]at this;simp[shp,this]
  ·rfl
 | cons t p ih=>
  intro a b g j e;have f:(zn a t).map ct=(zn b t).map ct:=by
   rcases KZ g.ok j.ok e with h |⟨l,m,rfl,rfl⟩ |⟨l,m,rfl,rfl⟩
   ·unfold Qo at h;split at h<;>first | rfl | cases h
   ·have k:=g.ok;have n:=j.ok;rw[zD]at k n;have:=KX k n e;rw[Z6,Z6]at this;rw[ql,ql]
    cases Z8 t with
    | none=>rfl
    | some i=>
     show (l.toL[i]?).map ct=(m.toL[i]?).map ct
     rw[← List.getElem?_map,← List.getElem?_map,this]
   ·have k:=g.ok;have n:=j.ok;rw[zD]at k n;have o:∀ x,x∈zl l↔x∈zl m:=fun x=>by rw[← (qw (zl l)).mem_iff,RJ k n e,(qw (zl m)).mem_iff]
    have q:=((qq l).1 g).1;have r:=((qq m).1 j).1
    cases hx:(zn (.obj l) t).map ct with
    | some x=>exact ((Wf r (t,x)).1 ((o _).1 ((Wf q (t,x)).2 hx))).symm
    | none=>
     cases hy:(zn (.obj m) t).map ct with
     | none=>rfl
     | some y=>have:=(Wf q (t,y)).1 ((o _).2 ((Wf r (t,y)).2 hy));rw[hx]at this;cases this
  rw[Jo,Jo]
  cases hc:zn a t with
  | none=>
   rw[hc]at f
   cases hd:zn b t with
   | none=>rfl
   | some d=>rw[hd]at f;cases f
  | some c=>
   rw[hc]at f
   cases hd:zn b t with
   | none=>rw[hd]at f;cases f
   | some d=>
    rw[hd]at f;injection f with f;exact ih c d (g.child hc) (j.child hd) f
theorem zf4{v c u:JV}{t:List UInt8}(h:zn v t=some c):shp (Zs v t u)=shp v:=by
 cases v with
 | arr l=>
  rw[ql]at h;obtain⟨i,a,_⟩:=Option.bind_eq_some_iff.1 h;have e:Zs (.arr l) t u= .arr (JL.ofL (l.toL.set i u)):=by simp only[Zs,a]
  rw[e];simp[shp,JL.toL_ofL]
 | obj m=>rfl
 | _=>cases h
theorem Xq{v h u:JV}{ts:List (List UInt8)}(e:zr v ts=some h)(r:List (List UInt8)):qo (zO v ts u) (ts++r)=qo u r:=by
 rw[We,N8 e];rfl
theorem Oy:∀ {ts:List (List UInt8)} {v h u:JV},zr v ts=some h->∀ p,¬ ts<+:p->qo (zO v ts u) p=qo v p
 | [],v,h,u,_,p,hp=>absurd (List.nil_prefix) hp
 | t :: ts,v,h,u,e,p,hp=>by
  rw[qM]at e
  cases hc:zn v t with
  | none=>rw[hc]at e;cases e
  | some c=>
   rw[hc]at e;rw[JU hc]
   cases p with
   | nil=>rw[Yh,Yh,zf4 hc]
   | cons s p=>
    rw[Jo,Jo,Ut hc];by_cases hs:s=t
    ·subst hs;rw[yg rfl,hc];exact Oy e p (fun g=>hp (List.cons_prefix_cons.2 ⟨rfl,g⟩))
    ·rw[yf hs]
def Ag(T:List (List (List UInt8)))(v w:JV):Prop:=∀ p,(∃ t∈T,p<+:t∨t<+:p)->qo v p=qo w p
def Xr(T:List (List (List UInt8)))(v v':JV):Prop:=∀ p,(∀ t∈T,¬ t<+:p)->qo v' p=qo v p
structure Jg(T:List (List (List UInt8)))(v w v' w':JV):Prop where
 ag:Ag T v' w'
 f1:Xr T v v'
 f2:Xr T w w'
theorem Jg.of{T:List (List (List UInt8))}{t0:List (List UInt8)}{v w v' w':JV}(ht:t0∈T)(h:Ag T v w)(h1:Xr [t0] v v')(h2:Xr [t0] w w')(h3:Ag [t0] v' w'):Jg T v w v' w':=by
 refine⟨fun p hp=>?_,fun p hp=>h1 p (fun t h=>?_),fun p hp=>h2 p (fun t h=>?_)⟩
 ·by_cases a:p<+:t0∨t0<+:p
  ·exact h3 p ⟨t0,by simp,a⟩
  ·rw[h1 p (fun t ht g=>a (.inr (by simp at ht;rwa [ht]at g))),h2 p (fun t ht g=>a (.inr (by simp at ht;rwa [ht]at g))),h p hp]
 ·simp at h;subst h;exact hp _ ht
 ·simp at h;subst h;exact hp _ ht
theorem Jg.refl{T:List (List (List UInt8))}{v w:JV}(h:Ag T v w):Jg T v w v w:=⟨h,fun _ _=>rfl,fun _ _=>rfl⟩
theorem Jg.trans{T:List (List (List UInt8))}{v w v1 w1 v2 w2:JV}(h:Jg T v w v1 w1)(k:Jg T v1 w1 v2 w2):Jg T v w v2 w2:=
 ⟨k.ag,fun p hp=>(k.f1 p hp).trans (h.f1 p hp),fun p hp=>(k.f2 p hp).trans (h.f2 p hp)⟩
theorem Ag.get{T:List (List (List UInt8))}{t0 ts:List (List UInt8)}{v w h:JV}(hA:Ag T v w)(ht:t0∈T)(hp:t0<+:ts)(hv:zr v ts=some h):∃ h',zr w ts=some h'/\qD h h':=
 qD.get (fun _=>hA _ ⟨t0,ht,.inr (hp.trans (List.prefix_append _ _))⟩) hv
theorem SL{F:JV->Option JV}{v v':JV}{ts:List (List UInt8)}(h:ZO F v ts=some v'):∃ x r,zr v ts=some x/\F x=some r/\v'=zO v ts r:=by
 unfold ZO at h;obtain⟨r,a,b⟩:=yA.1 h;obtain⟨x,d,f⟩:=Option.bind_eq_some_iff.1 a;exact⟨x,r,d,f,b.symm⟩
theorem Ex{F:JV->Option JV}{v x r:JV}{ts:List (List UInt8)}(h:zr v ts=some x)(k:F x=some r):ZO F v ts=some (zO v ts r):=by
 unfold ZO;rw[h];show Option.map _ (F x)=_;rw[k];rfl
theorem SM {T:List (List (List UInt8))} {ts:List (List UInt8)} {v w v':JV} {F G:JV->Option JV} (hT:ts∈T) (hA:Ag T v w) (h:ZO F v ts=some v')
  (hF:∀ x y r,zr v ts=some x->zr w ts=some y->qD x y->F x=some r->∃ r',G y=some r'/\qD r r'):∃ w',ZO G w ts=some w'/\Jg T v w v' w':=by
 obtain⟨x,r,b,k,rfl⟩:=SL h;obtain⟨y,d,m⟩:=hA.get hT (List.prefix_refl _) b;obtain⟨r',n,l⟩:=hF x y r b d m k;have i:=fun p a=>Oy (u:=r) b p a;have j:=fun p a=>Oy (u:=r') d p a;refine⟨_,Ex d n,Jg.of hT hA (fun p a=>i p (a _ (by simp))) (fun p a=>j p (a _ (by simp))) fun p a=>?_⟩;by_cases f:ts<+:p
 ·obtain⟨q,rfl⟩:=f;rw[Xq b,Xq d];exact l q
 ·obtain⟨t,g,a⟩:=a;simp at g;subst g;rw[i p f,j p f];exact hA p ⟨t,hT,a⟩
structure Xs(t:List UInt8)(x r:JV):Prop where
 sh:shp r=shp x
 rest:∀ s,s≠t->zn r s=zn x s
theorem Ey {T:List (List (List UInt8))} {ts:List (List UInt8)} {t:List UInt8} {v w v':JV} {F G:JV->Option JV} (hT:ts++[t]∈T) (hA:Ag T v w) (h:ZO F v ts=some v')
  (eF:∀ x r,F x=some r->Xs t x r) (eG:∀ x r,G x=some r->Xs t x r)
  (hF:∀ x y r,shp x=shp y->(∀ q,qo x (t :: q)=qo y (t :: q))->F x=some r->∃ r',G y=some r'/\∀ q,qo r (t :: q)=qo r' (t :: q)):∃ w',ZO G w ts=some w'/\Jg T v w v' w':=by
 obtain⟨x,r,a,l,rfl⟩:=SL h;have g:=hA ts ⟨_,hT,.inl (List.prefix_append _ _)⟩;unfold qo at g;rw[a]at g
 cases k1:zr w ts with
 | none=>rw[k1]at g;cases g
 | some y=>
  rw[k1]at g;injection g with g;have o:∀ q,qo x (t :: q)=qo y (t :: q):=fun q=>by
   have:=hA (ts++t :: q) ⟨_,hT,.inr ⟨q,by simp⟩⟩;rw[We,We,a,k1]at this;exact this
  obtain⟨r',n,u⟩:=hF x y r g o l;have j:=eF _ _ l;have k:=eG _ _ n;have d:∀ (v x r:JV),zr v ts=some x->Xs t x r->∀ p,¬ (ts++[t])<+:p->qo (zO v ts r) p=qo v p:=fun v x r a f p b=>by
   by_cases i:ts<+:p
   ·obtain⟨q,rfl⟩:=i;rw[Xq a,We,a];show qo r q=qo x q
    cases q with
    | nil=>rw[Yh,Yh,f.sh]
    | cons s q=>
     rw[Jo,Jo,f.rest s (fun e=>b (by subst e;exact⟨q,by simp⟩))]
   ·exact Oy a p i
  refine⟨_,Ex k1 n,Jg.of hT hA (fun p b=>d v x r a j p (b _ (by simp))) (fun p b=>d w y r' k1 k p (b _ (by simp))) fun p b=>?_⟩;by_cases i:(ts++[t])<+:p
  ·obtain⟨q,rfl⟩:=i;rw[List.append_assoc,Xq a,Xq k1];exact u q
  ·obtain⟨s,m,b⟩:=b;simp at m;subst m;rw[d v x r a j p i,d w y r' k1 k p i];exact hA p ⟨_,hT,b⟩
def lk(l:List JV)(j:Nat)(q:List (List UInt8)):Option (JV×Nat):=(l[j]?).bind fun u=>qo u q
theorem Ez{l m:JL}(hl:l.toL.length<=3000)(h:qD (.arr l) (.arr m)):l.toL.length=m.toL.length/\∀ j q,lk l.toL j q=lk m.toL j q:=by
 have a:l.toL.length=m.toL.length:=by have:=h.shp;simpa [shp]using this
 refine⟨a,fun j q=>?_⟩;by_cases b:j<l.toL.length
 ·have:=h (zM j :: q);rw[Jo,Jo,VL (by omega),VL (by omega)]at this;exact this
 ·unfold lk;rw[List.getElem?_eq_none (by omega),List.getElem?_eq_none (by omega)]
theorem EA{l m:List JV}(hn:l.length=m.length)(h:∀ j q,lk l j q=lk m j q):qD (.arr (JL.ofL l)) (.arr (JL.ofL m)):=by
 intro p
 cases p with
 | nil=>rw[Yh,Yh];simp[shp,JL.toL_ofL,hn]
 | cons t q=>
  rw[Jo,Jo,ql,ql,JL.toL_ofL,JL.toL_ofL]
  cases Z8 t with
  | none=>rfl
  | some i=>exact h i q
theorem EB(l:List JV)(i:Nat)(u:JV)(hi:i<=l.length)(j:Nat)(q:List (List UInt8)):lk (l.take i++u :: l.drop i) j q=if j<i then lk l j q else if j=i then qo u q else lk l (j - 1) q:=by
 unfold lk;have a:(l.take i).length=i:=by simp;omega
 by_cases h:j<i
 ·rw[yg h,List.getElem?_append_left (by omega),List.getElem?_take,yg h]
 ·rw[yf h,List.getElem?_append_right (by omega),a];by_cases b:j=i
  ·subst b;rw[yg rfl,Nat.sub_self];rfl
  ·rw[yf b];obtain⟨k,rfl⟩:∃ k,j=i+k+1:=⟨j - i - 1,by omega⟩;rw[show i+k+1 - i=k+1 by omega,List.getElem?_cons_succ,List.getElem?_drop,show i+k+1 - 1=i+k by omega]
theorem EC(l:List JV)(i j:Nat)(q:List (List UInt8)):lk (l.eraseIdx i) j q=if j<i then lk l j q else lk l (j+1) q:=by
 unfold lk;rw[List.getElem?_eraseIdx];split<;>rfl
theorem SN{m:JM}{t:List UInt8}{u r:JV}(h:ZG (.obj m) t u=some r):Lib.validD t=true/\(∃ k,r= .obj k)/\∀ s,zn r s=if s=t then some u else zn (.obj m) s:=by
 simp only[ZG]at h;split at h
 ·rename_i hv;injection h with h;subst h;refine⟨hv,?_,fun s=>?_⟩
  ·split
   ·exact⟨_,rfl⟩
   ·exact⟨_,rfl⟩
  ·cases hc:zn (.obj m) t with
   | some c=>exact Ut hc s
   | none=>exact Pa hc s
 ·cases h
theorem ED{m:JM}{t:List UInt8}(u:JV)(h:Lib.validD t=true):∃ r,ZG (.obj m) t u=some r:=by
 simp only[ZG];rw[yg h];exact⟨_,rfl⟩
theorem EE{a b:JV}(h0:shp a=shp b)(h:∀ s,(∃ c d,zn a s=some c/\zn b s=some d/\qD c d)∨(zn a s=none/\zn b s=none)):qD a b:=by
 intro p
 cases p with
 | nil=>rw[Yh,Yh,h0]
 | cons s q=>
  rw[Jo,Jo];rcases h s with ⟨c,d,f,g,i⟩ |⟨f,g⟩
  ·rw[f,g];exact i q
  ·rw[f,g]
theorem qD.both{a b:JV}(h:qD a b)(s:List UInt8):(∃ c d,zn a s=some c/\zn b s=some d/\qD c d)∨(zn a s=none/\zn b s=none):=by
 cases hc:zn a s with
 | none=>exact .inr ⟨rfl,h.nokid hc⟩
 | some c=>obtain⟨d,e,f⟩:=h.kid hc;exact .inl ⟨c,d,rfl,e,f⟩
theorem zf5{x y u u' r:JV}{t:List UInt8}(hx:∀ l,x= .arr l->l.toL.length<=3000)(hs:qD x y)(hu:qD u u')(h:ZG x t u=some r):∃ r',ZG y t u'=some r'/\qD r r':=by
 cases x with
 | arr l=>
  obtain⟨m,rfl,f⟩:=Ox hs.shp;obtain⟨_,d⟩:=Ez (hx l rfl) hs;simp only[ZG]at h ⊢;rw[← f]
  cases hi:(if t=[45]then some l.toL.length else Z8 t)with
  | none=>rw[hi]at h;cases h
  | some i=>
   rw[hi]at h;simp only at h ⊢;split at h
   ·rename_i hle;injection h with h;subst h;rw[yg hle];refine⟨_,rfl,EA (by simp[f]) fun j q=>?_⟩;rw[EB _ _ _ hle,EB _ _ _ (by omega),d,d,hu q]
   ·cases h
 | obj m=>
  obtain⟨k,rfl⟩:=U2 hs.shp;obtain⟨n,⟨z,rfl⟩,g⟩:=SN h;obtain⟨r',a⟩:=ED (m:=k) u' n;obtain⟨_,⟨o,rfl⟩,b⟩:=SN a;refine⟨_,a,EE rfl fun s=>?_⟩;rw[g,b];by_cases e:s=t
  ·rw[yg e,yg e];exact .inl ⟨u,u',rfl,rfl,hu⟩
  ·rw[yf e,yf e];exact hs.both s
 | _=>cases h
theorem Oz{x r:JV}{t:List UInt8}(h:QA x t=some r):∃ c,zn x t=some c/\r=ZU x t:=by
 unfold QA at h;obtain⟨c,a,b⟩:=yA.1 h;exact⟨c,a,b.symm⟩
theorem zf6{x y r:JV}{t:List UInt8}(hx:∀ l,x= .arr l->l.toL.length<=3000)(hs:qD x y)(h:QA x t=some r):∃ r',QA y t=some r'/\qD r r':=by
 obtain⟨c,a,rfl⟩:=Oz h;obtain⟨d,o,_⟩:=hs.kid a;refine⟨ZU y t,by unfold QA;rw[o];rfl,?_⟩
 cases x with
 | arr l=>
  obtain⟨m,rfl,p⟩:=Ox hs.shp;obtain⟨_,f⟩:=Ez (hx l rfl) hs;rw[ql]at a;obtain⟨i,b,_⟩:=Option.bind_eq_some_iff.1 a;have g:ZU (.arr l) t= .arr (JL.ofL (l.toL.eraseIdx i)):=by simp only[ZU,b]
  have n:ZU (.arr m) t= .arr (JL.ofL (m.toL.eraseIdx i)):=by simp only[ZU,b]
  rw[g,n];refine EA (by rw[List.length_eraseIdx,List.length_eraseIdx,p]) fun j q=>?_;rw[EC,EC,f,f]
 | obj m=>
  obtain⟨k,rfl⟩:=U2 hs.shp;refine EE rfl fun s=>?_;rw[Uu,Uu];by_cases e:s=t
  ·rw[yg e,yg e];exact .inr ⟨rfl,rfl⟩
  ·rw[yf e,yf e];exact hs.both s
 | _=>cases a
theorem OA{x u r:JV}{t:List UInt8}(h1:Z8 t=none)(h2:t≠[45])(h:ZG x t u=some r):(∃ m,x= .obj m)/\Lib.validD t=true/\Xs t x r/\zn r t=some u:=by
 cases x with
 | arr l=>simp only[ZG,yf h2,h1]at h;cases h
 | obj m=>
  obtain⟨b,⟨z,rfl⟩,a⟩:=SN h;exact⟨⟨m,rfl⟩,b,⟨rfl,fun s hs=>by rw[a,yf hs]⟩,by rw[a,yg rfl]⟩
 | _=>cases h
theorem OB{x r:JV}{t:List UInt8}(h1:Z8 t=none)(h:QA x t=some r):(∃ m,x= .obj m)/\Xs t x r/\zn r t=none:=by
 obtain⟨c,a,rfl⟩:=Oz h
 cases x with
 | arr l=>rw[ql,h1]at a;cases a
 | obj m=>exact⟨⟨m,rfl⟩,⟨rfl,fun s hs=>by rw[Uu,yf hs]⟩,by rw[Uu,yg rfl]⟩
 | _=>cases a
def W7(ts t0:List (List UInt8)):Prop:=(ts=[]/\t0=[])∨∃ r t,ts=r++[t]/\(t0=r∨(t0=r++[t]/\Z8 t=none/\t≠[45]))
theorem W7.pre{ts t0:List (List UInt8)}(h:W7 ts t0):t0<+:ts:=by
 rcases h with ⟨rfl,rfl⟩ |⟨r,t,rfl,rfl |⟨rfl,_⟩⟩
 ·exact List.prefix_refl _
 ·exact List.prefix_append _ _
 ·exact List.prefix_refl _
theorem OC:∀ {ts:List (List UInt8)} {v u:JV},zo v->zr v ts=some u->zj u<=zj v
 | [],v,u,_,e=>by rw[Qz]at e;injection e with e;subst e;exact ye _
 | t :: ts,v,u,h,e=>by
  rw[qM]at e
  cases hc:zn v t with
  | none=>rw[hc]at e;cases e
  | some c=>
   rw[hc]at e;exact yQ (OC (h.child hc) e) (SK h hc)
theorem EF{v x:JV}{ts:List (List UInt8)}(g:zo v)(c:zj v<=3000)(h:zr v ts=some x):∀ l,x= .arr l->l.toL.length<=3000:=fun l e=>by
 subst e;exact Ko (yQ (OC g h) c)
theorem SO{T:List (List (List UInt8))}{ts t0:List (List UInt8)}{v w v' u u':JV}(ht:W7 ts t0)(hT:t0∈T)(g:zo v)(c:zj v<=3000)(hA:Ag T v w)(hu:qD u u')(h:Z4 v ts u=some v'):∃ w',Z4 w ts u'=some w'/\Jg T v w v' w':=by
 rcases ht with ⟨rfl,rfl⟩ |⟨r,t,rfl,ht⟩
 ·unfold Z4 at h ⊢;rw[yg rfl]at h ⊢;injection h with h;subst h;exact⟨u',rfl,fun p _=>hu p,fun p hp=>absurd List.nil_prefix (hp _ hT),fun p hp=>absurd List.nil_prefix (hp _ hT)⟩
 ·unfold Z4 at h ⊢;rw[yf (by simp),List.dropLast_concat,X6]at h ⊢;rcases ht with rfl |⟨rfl,b,d⟩
  ·exact SM hT hA h fun x y r hx _ hs hr=>zf5 (EF g c hx) hs hu hr
  ·refine Ey hT hA h (fun x r hr=>(OA b d hr).2.2.1) (fun x r hr=>(OA b d hr).2.2.1) fun x y r e _ hr=>?_;obtain⟨⟨m,rfl⟩,i,_,f⟩:=OA b d hr;obtain⟨k,rfl⟩:=U2 e;obtain⟨j,a⟩:=ED (m:=k) u' i;refine⟨j,a,fun q=>?_⟩;rw[Jo,Jo,f,(OA b d a).2.2.2];exact hu q
theorem EG{T:List (List (List UInt8))}{ts t0:List (List UInt8)}{v w v':JV}(ht:W7 ts t0)(hT:t0∈T)(g:zo v)(c:zj v<=3000)(hA:Ag T v w)(h:qe v ts=some v'):∃ w',qe w ts=some w'/\Jg T v w v' w':=by
 rcases ht with ⟨rfl,rfl⟩ |⟨r,t,rfl,ht⟩
 ·unfold qe at h;rw[yg rfl]at h
  cases h
 ·unfold qe at h ⊢;rw[yf (by simp),List.dropLast_concat,X6]at h ⊢;rcases ht with rfl |⟨rfl,b,n⟩
  ·exact SM hT hA h fun x y r hx _ hs hr=>zf6 (EF g c hx) hs hr
  ·refine Ey hT hA h (fun x r hr=>(OB b hr).2.1) (fun x r hr=>(OB b hr).2.1) fun x y r e el hr=>?_;obtain⟨⟨m,rfl⟩,_,j⟩:=OB b hr;obtain⟨k,rfl⟩:=U2 e;obtain⟨l,i,_⟩:=Oz hr;have f:=el [];rw[Jo,Jo,i]at f
   cases hd:zn (.obj k) t with
   | none=>rw[hd]at f;simp[Yh]at f
   | some d=>
    have a:QA (.obj k) t=some (ZU (.obj k) t):=by unfold QA;rw[hd];rfl
    refine⟨_,a,fun q=>?_⟩;rw[Jo,Jo,j,(OB b a).2.2]
theorem EH:∀ (l:List JV) (i:Nat),cl (l.eraseIdx i)<=cl l
 | [],i=>by simp
 | x :: l,0=>by simp[cl]
 | x :: l,i+1=>by
  have:=EH l i;simp only[List.eraseIdx_cons_succ,cl,yi,yM]at *;omega
theorem zf7(x:JV)(t:List UInt8):zj (ZU x t)<=zj x:=by
 cases x with
 | arr l=>
  simp only[ZU];split
  ·rename_i i _;rw[zj,zj,Vv,Vv,JL.toL_ofL];have:=EH l.toL i;omega
  ·exact ye _
 | obj m=>exact Lx m t
 | _=>exact ye _
theorem zf8{v r:JV}{ts:List (List UInt8)}(g:zo v)(h:qe v ts=some r):zj r<=zj v:=by
 unfold qe at h;split at h
 ·cases h
 ·obtain⟨x,y,a,b,rfl⟩:=SL h;obtain⟨c,_,rfl⟩:=Oz b;have:=Kn (u:=ZU x (q7 ts)) g a;have:=zf7 x (q7 ts);omega
structure Wg(T:List (List (List UInt8)))(o:Zv):Prop where
 sh:o.kind=1∨o.kind=2∨o.kind=4∨o.kind=5->∃ t0∈T,W7 o.path t0
 full:¬ (o.kind=1∨o.kind=2∨o.kind=4∨o.kind=5)->o.path∈T
 mv:o.kind=4->∃ t0∈T,W7 o.src t0
 cp:o.kind=5->o.src∈T
theorem zf9{T:List (List (List UInt8))}{o:Zv}{v w v':JV}(hT:Wg T o)(gv:zo v)(gw:zo w)(cv:zj v<=3000)(cw:zj w<=3000)(hA:Ag T v w)(h:Zl v o= .inr v'):∃ w',Zl w o= .inr w'/\Jg T v w v' w':=by
 unfold Zl at h ⊢;split at h
 ·rename_i hk;obtain⟨p,d,i⟩:=hT.sh (.inl hk);obtain⟨w',b,a⟩:=SO i d gv cv hA (fun _=>rfl) (Qc h);rw[yg hk,b];exact⟨w',rfl,a⟩
 ·rename_i k1;rw[yf k1];split at h
  ·rename_i hk;obtain⟨p,d,i⟩:=hT.sh (.inr (.inl hk));obtain⟨w',b,a⟩:=EG i d gv cv hA (Qc h);rw[yg hk,b];exact⟨w',rfl,a⟩
  ·rename_i k2;rw[yf k2];split at h
   ·rename_i hk;obtain⟨w',b,a⟩:=SM (G:=fun _=>some o.val) (hT.full (by omega)) hA (Qc h) fun x y r _ _ _ e=>⟨o.val,rfl,by injection e with e;subst e;exact fun _=>rfl⟩;rw[yg hk,b];exact⟨w',rfl,a⟩
   ·rename_i k3;rw[yf k3];split at h
    ·rename_i hk;rw[yg hk];obtain⟨s0,j,l⟩:=hT.mv hk;obtain⟨p,d,i⟩:=hT.sh (.inr (.inr (.inl hk)));split at h
     ·cases h
     ·rename_i m hm;obtain⟨q,f,g⟩:=hA.get j l.pre hm;rw[f];simp only;split at h
      ·rename_i he;rw[yg he];injection h with h;subst h;exact⟨w,rfl,Jg.refl hA⟩
      ·rename_i he;rw[yf he];split at h
       ·cases h
       ·rename_i hf;rw[yf hf];split at h
        ·cases h
        ·rename_i x hx;obtain⟨y,k,a⟩:=EG l j gv cv hA hx;rw[k];simp only;obtain⟨w',b,n⟩:=SO i d (Wv gv hx) (yQ (zf8 gv hx) cv) a.ag g (Qc h);rw[b];exact⟨w',rfl,a.trans n⟩
    ·rename_i k4;rw[yf k4];split at h
     ·rename_i hk;rw[yg hk];obtain⟨p,d,i⟩:=hT.sh (.inr (.inr (.inr hk)));split at h
      ·cases h
      ·rename_i m hm;obtain⟨q,f,g⟩:=hA.get (hT.cp hk) (List.prefix_refl _) hm;rw[f];simp only;obtain⟨w',b,a⟩:=SO i d gv cv hA g (Qc h);rw[b];exact⟨w',rfl,a⟩
     ·rename_i k5;rw[yf k5];split at h
      ·cases h
      ·rename_i x hx;obtain⟨y,k,l⟩:=hA.get (hT.full (by omega)) (List.prefix_refl _) hx;rw[k];simp only;split at h
       ·rename_i he;injection h with h;subst h;rw[yg (by rw[← Ev _ x y (ye _) (gv.get hx) (gw.get k) (yQ (OC gv hx) cv) (yQ (OC gw k) cw) l];exact he)];exact⟨w,rfl,Jg.refl hA⟩
       ·cases h
theorem OD{v:JV}(h:Q5 v=true):zm v<=100/\zj v<=3000/\(ct v).length<=20000:=by
 unfold Q5 at h;simp only[Bool.and_eq_true,decide_eq_true_eq]at h;exact⟨h.1.1,h.1.2,h.2⟩
theorem OE{T:List (List (List UInt8))}:∀ {os:List Zv} {v w x:JV} {i k:Nat},(∀ o∈os,Wg T o/\zo o.val)->zo v->zo w->zj v<=3000->zj w<=3000->Ag T v w->Zw v os i= .inr x ->
  (∃ j,Zw w os k= .inl (7,j))∨∃ y,Zw w os k= .inr y/\Jg T v w x y/\zo y/\zj y<=3000
 | [],v,w,x,i,k,_,gv,gw,cv,cw,hA,h=>by
  rw[Zw]at h ⊢;injection h with h;subst h;exact .inr ⟨w,rfl,Jg.refl hA,gw,cw⟩
 | o :: os,v,w,x,i,k,hT,gv,gw,cv,cw,hA,h=>by
  rw[Zw]at h ⊢
  cases hd:Zl v o with
  | inl c=>rw[hd]at h;cases h
  | inr v'=>
   rw[hd]at h;simp only at h;obtain⟨w',hw,hg⟩:=zf9 (hT o (by simp)).1 gv gw cv cw hA hd;rw[hw];simp only;split at h
   ·rename_i hl;by_cases a:Q5 w'=true
    ·rw[yg a];have d:=Ki gv (hT o (by simp)).2 hd;have f:=Ki gw (hT o (by simp)).2 hw;rcases OE (k:=k+1) (fun o ho=>hT o (by simp[ho])) d f (OD hl).2.1 (OD a).2.1 hg.ag h with g |⟨y,l,b,r⟩
     ·exact .inl g
     ·exact .inr ⟨y,l,hg.trans b,r⟩
    ·rw[yf a];exact .inl ⟨k,rfl⟩
   ·cases h
def W8(A B:List (List (List UInt8))):Prop:=∀ a∈A,∀ b∈B,¬ a<+:b/\¬ b<+:a
theorem W8.no{A B:List (List (List UInt8))}(h:W8 A B){p b:List (List UInt8)}(hb:b∈B)(hp:p<+:b∨b<+:p):∀ a∈A,¬ a<+:p:=fun a ha g=>by
 obtain⟨d,f⟩:=h a ha b hb;rcases hp with hp | hp
 ·exact d (g.trans hp)
 ·rcases List.prefix_or_prefix_of_prefix g hp with q | q
  ·exact d q
  ·exact f q
theorem W8.symm{A B:List (List (List UInt8))}(h:W8 A B):W8 B A:=fun b hb a ha=>⟨(h a ha b hb).2,(h a ha b hb).1⟩
theorem OG{T:List (List (List UInt8))}{os:List Zv}{v x:JV}{i:Nat}(hT:∀ o∈os,Wg T o/\zo o.val)(g:zo v)(c:zj v<=3000)(h:Zw v os i= .inr x):Xr T v x/\zo x/\zj x<=3000:=by
 rcases OE (k:=i) hT g g c c (fun _ _=>rfl) h with ⟨j,b⟩ |⟨y,a,f,d,c2⟩
 ·rw[h]at b;cases b
 ·rw[h]at a;injection a with a;subst a;exact⟨f.f1,d,c2⟩
theorem zga {A B:List (List (List UInt8))} {oa ob:List Zv} {v x y x' y':JV} (hO:W8 A B) (hA:∀ o∈oa,Wg A o/\zo o.val) (hB:∀ o∈ob,Wg B o/\zo o.val) (g:zo v) (c:zj v<=3000)
  (hx:Zw v oa 0= .inr x) (hy:Zw v ob 0= .inr y) (sx:qD x x') (sy:qD y y') (gx:zo x') (gy:zo y') (cx:zj x'<=3000) (cy:zj y'<=3000):
  (∃ j,Zw x' ob 0= .inl (7,j))∨(∃ j,Zw y' oa 0= .inl (7,j))∨∃ p q,Zw x' ob 0= .inr p/\Zw y' oa 0= .inr q/\ct p=ct q:=by
 obtain⟨n,_,_⟩:=OG hA g c hx;obtain⟨r,_,_⟩:=OG hB g c hy;rcases OE (k:=0) hB g gx c cx (fun p ⟨t,ht,hp⟩=>by rw[← sx p];exact (n p (hO.no ht hp)).symm) hy with h7 |⟨p,hp,g1,e1,c1⟩
 ·exact .inl h7
 ·rcases OE (k:=0) hA g gy c cy (fun p ⟨t,ht,hp⟩=>by rw[← sy p];exact (r p (hO.symm.no ht hp)).symm) hx with h7 |⟨q,hq,g2,e2,c2⟩
  ·exact .inr (.inl h7)
  ·refine .inr (.inr ⟨p,q,hp,hq,Ev _ p q (ye _) e1 e2 c1 c2 fun z=>?_⟩);by_cases f:∃ b∈B,b<+:z
   ·obtain⟨b,f,m⟩:=f;rw[← g1.ag z ⟨b,f,.inr m⟩,g2.f2 z (hO.no f (.inr m)),← sy z]
   ·have i:∀ b∈B,¬ b<+:z:=fun b h k=>f ⟨b,h,k⟩;rw[g1.f2 z i,← sx z];by_cases l:∃ a∈A,a<+:z
    ·obtain⟨a,l,m⟩:=l;exact g2.ag z ⟨a,l,.inr m⟩
    ·have d:∀ a∈A,¬ a<+:z:=fun a h k=>l ⟨a,h,k⟩;rw[g2.f2 z d,← sy z,n z d,r z i]
end Go.Proofs.YtpaecnbdoljafaaGreatDoor
