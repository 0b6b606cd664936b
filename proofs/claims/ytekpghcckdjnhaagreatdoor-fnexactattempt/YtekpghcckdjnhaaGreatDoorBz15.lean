import Derived.Test.YtekpghcckdjnhaaGreatDoorBz14
import Derived.Test.YtekpghcckdjnhaaGreatDoorBz8
set_option maxRecDepth 100000
set_option maxHeartbeats 8000000
namespace Go.Proofs.YtekpghcckdjnhaaGreatDoor
open Go.RowKit Go.Proofs.Tryz
structure Ja(v:JV):Prop where
 rd:ZR v
 big:zY v=false
 dep:zL v<=100
 cnt:zt v<=3000
 tw:zy v=false
 ok:zF v
 len:(ct v).length<=20000
theorem Ja.of{s:Bs}{v:JV}(h:ZI s= .inr v):Ja v:=by
 obtain⟨i,a,b,d,f,g⟩:=TQ h;exact⟨zd7 a,d,f,g,b,(FC a).1,by have:=zfR a;omega⟩
structure zx(v:JV):Prop where
 rd:ZR v
 big:zY v=false
 tw:zy v=false
 ok:zF v
theorem Ja.t{v:JV}(h:Ja v):zx v:=⟨h.rd,h.big,h.tw,h.ok⟩
theorem XA:∀ l:JL,qw l↔∀ v∈l.toL,zF v
 | .nil=>by rw[qw];simp[JL.toL]
 | .cons v r=>by rw[qw,XA r,JL.toL];simp
theorem XB:∀ m:JM,qq m↔∀ q∈m.toL,Lib.validD q.1=true/\zF q.2
 | .nil=>by rw[qq];simp[JM.toL]
 | .cons k v r=>by rw[qq,XB r,JM.toL];simp[and_assoc]
theorem SV(m:JM):ZW m=false↔∀ q∈m.toL,zY q.2=false:=by
 constructor
 ·intro h q a
  cases hb:zY q.2 with
  | false=>rfl
  | true=>rw[(KR m).2 ⟨q,a,hb⟩]at h;cases h
 ·intro h
  cases hb:ZW m with
  | false=>rfl
  | true=>obtain⟨q,a,e⟩:=(KR m).1 hb;rw[h q a]at e;cases e
theorem Yn(l:JL):zx (.arr l)↔∀ u∈l.toL,zx u:=by
 constructor
 ·rintro⟨b,d,f,g⟩ u a;rw[ZR,RD]at b;rw[zY,RF]at d;rw[zy,RE]at f;rw[zF,XA]at g;exact⟨b u a,d u a,f u a,g u a⟩
 ·intro h;refine⟨?_,?_,?_,?_⟩
  ·rw[ZR,RD];exact fun u a=>(h u a).rd
  ·rw[zY,RF];exact fun u a=>(h u a).big
  ·rw[zy,RE];exact fun u a=>(h u a).tw
  ·rw[zF,XA];exact fun u a=>(h u a).ok
theorem QU(m:JM):zx (.obj m)↔(m.toL.map (·.1)).Nodup/\∀ q∈m.toL,Lib.validD q.1=true/\zx q.2:=by
 constructor
 ·rintro⟨a,d,b,f⟩;rw[ZR,FM]at a;rw[zY,SV]at d;rw[zy,KS]at b;rw[zF,XB]at f;exact⟨b.2.1,fun q hq=>⟨(a q hq).1,(a q hq).2,d q hq,b.1 q hq,(f q hq).2⟩⟩
 ·rintro⟨g,h⟩;refine⟨?_,?_,?_,?_⟩
  ·rw[ZR,FM];exact fun q hq=>⟨(h q hq).1,(h q hq).2.rd⟩
  ·rw[zY,SV];exact fun q hq=>(h q hq).2.big
  ·rw[zy,KS];exact⟨fun q hq=>(h q hq).2.tw,g,fun q _=>by simp⟩
  ·rw[zF,XB];exact fun q hq=>⟨(h q hq).1,(h q hq).2.ok⟩
theorem zx.child{v u:JV}{t:List UInt8}(h:zx v)(hc:zQ v t=some u):zx u:=by
 cases v with
 | arr l=>
  rw[Jv]at hc;obtain⟨i,_,a⟩:=Option.bind_eq_some_iff.1 hc;exact (Yn l).1 h u (List.mem_of_getElem? a)
 | obj m=>
  rw[Vo]at hc;obtain⟨q,b,e⟩:=yz.1 hc;rw[← e];exact (((QU m).1 h).2 q (List.mem_of_find?_eq_some b)).2
 | _=>cases hc
theorem Gj(v:JV):zM v []=some v:=by simp[zM]
theorem YL(v:JV)(t:List UInt8)(ts:List (List UInt8)):zM v (t :: ts)=(zQ v t).bind fun u=>zM u ts:=by rw[zM]
theorem zx.get:∀ {ts:List (List UInt8)} {v u:JV},zx v->zM v ts=some u->zx u
 | [],v,u,h,e=>by
  rw[Gj]at e;injection e with e;subst e;exact h
 | t :: ts,v,u,h,e=>by
  rw[YL]at e
  cases hc:zQ v t with
  | none=>rw[hc]at e;cases e
  | some x=>rw[hc]at e;exact zx.get (h.child hc) e
def qr(v:JV)(t:List UInt8)(u:JV):JV:=match v with
 | .arr l=>match qZ t with
  | some i=>.arr (JL.ofL (l.toL.set i u))
  | none=>.arr l
 | .obj m=>.obj (JM.ofL (m.toL.map fun q=>if q.1=t then (q.1,u)else q))
 | v=>v
def qO(v:JV)(t:List UInt8):JV:=match v with
 | .arr l=>match qZ t with
  | some i=>.arr (JL.ofL (l.toL.eraseIdx i))
  | none=>.arr l
 | .obj m=>.obj (JM.ofL (m.toL.filter fun q=>!(q.1 ==t)))
 | v=>v
def Z9(v:JV)(t:List UInt8)(u:JV):Option JV:=match v with
 | .arr l=>match (if t=[45]then some l.toL.length else qZ t)with
  | some i=>if i<=l.toL.length then some (.arr (JL.ofL (l.toL.take i++u :: l.toL.drop i)))else none
  | none=>none
 | .obj m=>if Lib.validD t=true then some (if (zQ (.obj m) t).isSome then qr (.obj m) t u else .obj (JM.ofL (m.toL++[(t,u)])))else none
 | _=>none
def ZS:JV->List (List UInt8)->JV->JV
 | _,[],u=>u
 | v,t :: ts,u=>match zQ v t with
  | some c=>qr v t (ZS c ts u)
  | none=>v
theorem Ua(v u:JV):ZS v [] u=u:=by rw[ZS]
theorem Wg{v c:JV}{t:List UInt8}{ts:List (List UInt8)}{u:JV}(h:zQ v t=some c):ZS v (t :: ts) u=qr v t (ZS c ts u):=by rw[ZS,h]
theorem SW:∀ (ts:List (List UInt8)) (v h c:JV) (t:List UInt8) (u:JV),zM v ts=some h->zQ h t=some c->ZS v (ts++[t]) u=ZS v ts (qr h t u)
 | [],v,h,c,t,u,e,hc=>by
  rw[Gj]at e;injection e with e;subst e;rw[List.nil_append,Ua,Wg hc,Ua]
 | x :: ts,v,h,c,t,u,e,hc=>by
  rw[YL]at e
  cases hx:zQ v x with
  | none=>rw[hx]at e;cases e
  | some y=>
   rw[hx]at e;rw[List.cons_append,Wg hx,Wg hx,SW ts y h c t u e hc]
def qj(f:JV->Option JV)(v:JV)(ts:List (List UInt8)):Option JV:=((zM v ts).bind f).map (ZS v ts)
theorem Ao(f:JV->Option JV)(v:JV):qj f v []=f v:=by
 unfold qj;rw[Gj];show (f v).map (ZS v [])=f v
 cases f v with
 | none=>rfl
 | some u=>show some (ZS v [] u)=_;rw[Ua]
theorem Ap{f:JV->Option JV}{v:JV}{t:List UInt8}{ts:List (List UInt8)}(h:zQ v t=none):qj f v (t :: ts)=none:=by
 unfold qj;rw[YL,h];rfl
theorem Aq{f:JV->Option JV}{v c:JV}{t:List UInt8}{ts:List (List UInt8)}(h:zQ v t=some c):qj f v (t :: ts)=(qj f c ts).map (qr v t):=by
 unfold qj;rw[YL,h];show ((zM c ts).bind f).map (ZS v (t :: ts))=_
 cases (zM c ts).bind f with
 | none=>rfl
 | some u=>show some (ZS v (t :: ts) u)=some (qr v t (ZS c ts u));rw[Wg h]
def Qq(ts:List (List UInt8)):List UInt8:=ts.getLast?.getD []
def qc(v:JV)(ts:List (List UInt8))(u:JV):Option JV:=if ts=[]then some u else qj (fun h=>Z9 h (Qq ts) u) v ts.dropLast
def J7(h:JV)(t:List UInt8):Option JV:=(zQ h t).map fun _=>qO h t
def qz(v:JV)(ts:List (List UInt8)):Option JV:=if ts=[]then none else qj (fun h=>J7 h (Qq ts)) v ts.dropLast
structure qd where
 kind:Int
 path:List (List UInt8)
 src:List (List UInt8)
 val:JV
def ZM(c:Nat):Option JV->Nat⊕JV
 | none=>.inl c
 | some v=>.inr v
def ZK(v:JV)(o:qd):Nat⊕JV:=
 if o.kind=1 then ZM 3 (qc v o.path o.val)
 else if o.kind=2 then ZM 3 (qz v o.path)
 else if o.kind=3 then ZM 3 (qj (fun _=>some o.val) v o.path)
 else if o.kind=4 then match zM v o.src with
  | none=>.inl 3
  | some m=>if o.src=o.path then .inr v else if o.src.isPrefixOf o.path then .inl 6 else match qz v o.src with
   | none=>.inl 3
   | some r=>ZM 3 (qc r o.path m)
 else if o.kind=5 then match zM v o.src with
  | none=>.inl 3
  | some m=>ZM 3 (qc v o.path m)
 else match zM v o.path with
  | none=>.inl 3
  | some h=>if ct h=ct o.val then .inr v else .inl 5
def Yo(v:JV):Bool:=decide (zL v<=100) && decide (zt v<=3000) && decide ((ct v).length<=20000)
def Jb:JV->List qd->Nat->(Nat×Nat)⊕JV
 | v,[],_=>.inr v
 | v,o :: r,i=>match ZK v o with
  | .inl c=>.inl (c,i)
  | .inr u=>if Yo u=true then Jb u r (i+1)else .inl (7,i)
theorem SX{v u c:JV}{t:List UInt8}(h:zx v)(hu:zx u)(hc:zQ v t=some c):zx (qr v t u):=by
 cases v with
 | arr l=>
  rw[Jv]at hc;obtain⟨i,d,_⟩:=Option.bind_eq_some_iff.1 hc;have e:qr (.arr l) t u= .arr (JL.ofL (l.toL.set i u)):=by simp only[qr,d]
  rw[e,Yn,JL.toL_ofL];intro x hx;rcases List.mem_or_eq_of_mem_set hx with hx | rfl
  ·exact (Yn l).1 h x hx
  ·exact hu
 | obj m=>
  have a:=(QU m).1 h;show zx (.obj (JM.ofL (m.toL.map fun q=>if q.1=t then (q.1,u)else q)))
  rw[QU,JM.toL_ofL];have b:((m.toL.map fun q=>if q.1=t then (q.1,u)else q).map (·.1))=m.toL.map (·.1):=by
   rw[List.map_map];refine List.map_congr_left fun q _=>?_;show (if q.1=t then (q.1,u)else q).1=q.1
   split<;>rfl
  rw[b];refine⟨a.1,fun q hq=>?_⟩;obtain⟨x,hx,rfl⟩:=yO.1 hq;split
  ·exact⟨(a.2 x hx).1,hu⟩
  ·exact a.2 x hx
 | _=>cases hc
theorem SY{v c:JV}{t:List UInt8}(h:zx v)(hc:zQ v t=some c):zx (qO v t):=by
 cases v with
 | arr l=>
  rw[Jv]at hc;obtain⟨i,b,_⟩:=Option.bind_eq_some_iff.1 hc;have e:qO (.arr l) t= .arr (JL.ofL (l.toL.eraseIdx i)):=by simp only[qO,b]
  rw[e,Yn,JL.toL_ofL];exact fun x hx=>(Yn l).1 h x (List.mem_of_mem_eraseIdx hx)
 | obj m=>
  have a:=(QU m).1 h;show zx (.obj (JM.ofL (m.toL.filter fun q=>!(q.1 ==t))))
  rw[QU,JM.toL_ofL];refine⟨(List.filter_sublist.map _).nodup a.1,fun q hq=>a.2 q ((List.mem_filter.1 hq).1)⟩
 | _=>cases hc
theorem SZ{v u r:JV}{t:List UInt8}(h:zx v)(hu:zx u)(hp:Z9 v t u=some r):zx r:=by
 cases v with
 | arr l=>
  simp only[Z9]at hp;split at hp
  ·split at hp
   ·injection hp with hp;subst hp;rw[Yn,JL.toL_ofL];intro x hx;rw[List.mem_append,List.mem_cons]at hx;rcases hx with hx | rfl | hx
    ·exact (Yn l).1 h x (List.mem_of_mem_take hx)
    ·exact hu
    ·exact (Yn l).1 h x (List.mem_of_mem_drop hx)
   ·cases hp
  ·cases hp
 | obj m=>
  simp only[Z9]at hp;split at hp
  ·rename_i hv;injection hp with hp;subst hp
   cases hc:zQ (.obj m) t with
   | some c=>exact SX h hu hc
   | none=>
    have i:=(QU m).1 h;show zx (.obj (JM.ofL (m.toL++[(t,u)])))
    rw[QU,JM.toL_ofL];have g:t ∉ m.toL.map (·.1):=by
     intro f;obtain⟨q,d,e⟩:=yO.1 f;rw[Vo,Option.map_eq_none_iff,List.find?_eq_none]at hc;exact hc q d (by simp[e])
    constructor
    ·rw[yw,List.nodup_append];refine⟨i.1,by simp,fun a ha b hb e=>?_⟩;simp at hb;subst hb;subst e;exact g ha
    ·intro q d;rw[List.mem_append,List.mem_singleton]at d;rcases d with d | rfl
     ·exact i.2 q d
     ·exact⟨hv,hu⟩
  ·cases hp
 | _=>cases hp
theorem Da:∀ {ts:List (List UInt8)} {v u h:JV},zx v->zx u->zM v ts=some h->zx (ZS v ts u)
 | [],v,u,h,_,hu,_=>by rw[Ua];exact hu
 | t :: ts,v,u,h,hv,hu,e=>by
  rw[YL]at e
  cases hc:zQ v t with
  | none=>rw[hc]at e;cases e
  | some c=>
   rw[hc]at e;rw[Wg hc];exact SX hv (Da (hv.child hc) hu e) hc
theorem OR{f:JV->Option JV}{v r:JV}{ts:List (List UInt8)}(hv:zx v)(hf:∀ h u,zx h->f h=some u->zx u)(h:qj f v ts=some r):zx r:=by
 unfold qj at h;obtain⟨u,b,rfl⟩:=yz.1 h;obtain⟨x,hx,a⟩:=Option.bind_eq_some_iff.1 b;exact Da hv (hf x u (hv.get hx) a) hx
theorem OU{v u r:JV}{ts:List (List UInt8)}(hv:zx v)(hu:zx u)(h:qc v ts u=some r):zx r:=by
 unfold qc at h;split at h
 ·injection h with h;subst h;exact hu
 ·exact OR hv (fun x y hx e=>SZ hx hu e) h
theorem UZ{v r:JV}{ts:List (List UInt8)}(hv:zx v)(h:qz v ts=some r):zx r:=by
 unfold qz at h;split at h
 ·cases h
 ·refine OR hv (fun x y hx e=>?_) h;unfold J7 at e;obtain⟨c,a,rfl⟩:=yz.1 e;exact SY hx a
theorem Jq{c:Nat}{o:Option JV}{r:JV}(h:ZM c o= .inr r):o=some r:=by
 cases o with
 | none=>cases h
 | some x=>injection h with h;rw[h]
theorem Db{v r:JV}{o:qd}(hv:zx v)(hu:zx o.val)(h:ZK v o= .inr r):zx r:=by
 unfold ZK at h;split at h
 ·exact OU hv hu (Jq h)
 ·split at h
  ·exact UZ hv (Jq h)
  ·split at h
   ·exact OR hv (fun x y _ e=>by injection e with e;subst e;exact hu) (Jq h)
   ·split at h
    ·split at h
     ·cases h
     ·rename_i m hm;split at h
      ·injection h with h;subst h;exact hv
      ·split at h
       ·cases h
       ·split at h
        ·cases h
        ·rename_i x hx;exact OU (UZ hv hx) (hv.get hm) (Jq h)
    ·split at h
     ·split at h
      ·cases h
      ·rename_i m hm;exact OU hv (hv.get hm) (Jq h)
     ·split at h
      ·cases h
      ·split at h
       ·injection h with h;subst h;exact hv
       ·cases h
section
variable (ps:List zK) (p:Nat) (dr pu:Bool) (q:zK)
theorem Dc{i:Nat}(h:i≠p)(hi:i<ps.length):qi ps p dr pu q i=[ps[i]]:=by unfold qi;simp[h,hi]
theorem Ar{i:Nat}(h:i≠p)(hi:¬ i<ps.length):qi ps p dr pu q i=[]:=by unfold qi;simp[h,hi]
theorem OV:∀ k,k<=p->k<=ps.length->Zo ps p dr pu q k=ps.take k
 | 0,_,_=>by simp[Zo]
 | k+1,h1,h2=>by
  rw[Jp,OV k (by omega) (by omega),Dc ps p dr pu q (by omega) (by omega),yy (by omega)]
theorem Dd:∀ k,p<k->k<=ps.length->Zo ps p dr pu q k=Zo ps p dr pu q (p+1)++(ps.take k).drop (p+1)
 | 0,h,_=>by omega
 | k+1,h1,h2=>by
  by_cases e:k=p
  ·subst e;rw[List.drop_of_length_le (by rw[ym];omega),yS]
  ·rw[Jp,Dd k (by omega) (by omega),Dc ps p dr pu q e (by omega),List.append_assoc,yy (by omega),List.drop_append_of_le_length (by rw[ym];omega)]
theorem OX(h:p<ps.length):Zo ps p dr pu q (ps.length+1)=ps.take p++qi ps p dr pu q p++ps.drop (p+1):=by
 rw[Jp,Ar ps p dr pu q (by omega) (by omega),yS,Dd ps p dr pu q _ h (ye _),yU,Jp,OV ps p dr pu q p (ye _) (by omega)]
theorem As(h:p=ps.length):Zo ps p dr pu q (ps.length+1)=ps++qi ps p dr pu q p:=by
 subst h;rw[Jp,OV ps _ dr pu q _ (ye _) (ye _),yU]
theorem De(f:zK->Nat):∀ k,((Zo ps p dr pu q k).map f).sum<=((ps.take k).map f).sum+(if p<k then f q else 0)
 | 0=>by simp[Zo]
 | k+1=>by
  rw[Jp,yw,List.sum_append];have ih:=De f k;have d:((ps.take (k+1)).map f).sum=((ps.take k).map f).sum+(if h:k<ps.length then f ps[k]else 0):=by
   by_cases a:k<ps.length
   ·rw[yy a,yw,List.sum_append,dif_pos a];simp
   ·rw[yq (by omega),yq (by omega),dif_neg a];simp
  have b:((qi ps p dr pu q k).map f).sum<=(if k=p then f q else 0)+(if h:k<ps.length then f ps[k]else 0):=by
   unfold qi;rw[yw,List.sum_append];by_cases e:k=p
   ·by_cases a:k<ps.length
    ·rw[yg e,dif_pos a,dif_pos a];refine Nat.add_le_add ?_ ?_
     ·split<;>simp
     ·split<;>simp
    ·rw[yg e,dif_neg a,dif_neg a];refine Nat.add_le_add ?_ ?_
     ·split<;>simp
     ·simp
   ·by_cases a:k<ps.length
    ·rw[yf e,dif_pos a,dif_pos a,yf (by simp[e])];refine Nat.add_le_add ?_ ?_
     ·simp
     ·split<;>simp
    ·rw[yf e,dif_neg a,dif_neg a,yf (by simp[e])];simp
  rw[d];split at ih
  ·rename_i hp;rw[yg (by omega)];rw[yf (by omega)]at b;omega
  ·rename_i hp;by_cases e:k=p
   ·rw[yg (by omega)];rw[yg e]at b;omega
   ·rw[yf e]at b;omega
end
theorem At(ps:List zK)(p:Nat)(q:zK)(h:p<ps.length):Zo ps p true true q (ps.length+1)=ps.take p++q :: ps.drop (p+1):=by
 rw[OX ps p true true q h];unfold qi;simp[h]
theorem Au(ps:List zK)(p:Nat)(q:zK)(h:p<ps.length):Zo ps p true false q (ps.length+1)=ps.take p++ps.drop (p+1):=by
 rw[OX ps p true false q h];unfold qi;simp[h]
theorem Df(ps:List zK)(p:Nat)(q:zK)(h:p<=ps.length):Zo ps p false true q (ps.length+1)=ps.take p++q :: ps.drop p:=by
 by_cases a:p<ps.length
 ·rw[OX ps p false true q a];unfold qi;rw[List.drop_eq_getElem_cons a];simp[a]
 ·have e:p=ps.length:=by omega
  rw[As ps p false true q e];subst e;unfold qi;simp
theorem OY(l:List JV):zr (JL.ofL l)=l.map ct:=by rw[qR,JL.toL_ofL]
theorem Dh:∀ {a b:List zK},a.Perm b->(a.map (·.1)).Nodup->a.Pairwise (fun x y=>x.1<=y.1)->b.Pairwise (fun x y=>x.1<=y.1)->a=b
 | [],b,h,_,_,_=>by rw[List.nil_perm.1 h]
 | x :: a,[],h,_,_,_=>by have:=h.length_eq;simp at this
 | x :: a,y :: b,h,hn,ha,hb=>by
  rw[List.pairwise_cons]at ha hb;rw[yi,List.nodup_cons]at hn;have e:x=y:=by
   have d:y∈x :: a:=h.symm.subset yp;have hx:x∈y :: b:=h.subset yp;rcases List.mem_cons.1 d with e | d
   ·exact e.symm
   ·rcases List.mem_cons.1 hx with e | hx
    ·exact e
    ·have g:=ha.1 y d;have i:=hb.1 x hx;have f:x.1=y.1:=List.le_antisymm g i;exact absurd (yO.2 ⟨y,d,f.symm⟩) hn.1
  subst e;rw[Dh (a:=a) (b:=b) ((List.perm_cons x).1 h) hn.2 ha.2 hb.2]
theorem XC{a b:List zK}(h:a.Perm b)(hn:(a.map (·.1)).Nodup):zH a=zH b:=
 Dh ((qL a).trans (h.trans (qL b).symm)) ((((qL a).map _).nodup_iff).2 hn) (X4 a) (X4 b)
theorem Di:∀ (ps:List zK) (p:Nat) (t x:List UInt8) (hp:p<ps.length),(ps.map (·.1)).Nodup->ps[p].1=t->ps.take p++(t,x) :: ps.drop (p+1)=ps.map fun q=>if q.1=t then (q.1,x)else q
 | [],p,t,x,hp,_,_=>by simp at hp
 | a :: ps,0,t,x,hp,hn,e=>by
  have e':a.1=t:=e;rw[yi,List.nodup_cons]at hn;rw[yi,yg e',e'];show (t,x) :: ps=_
  congr 1;rw[show ps=ps.map id from (List.map_id _).symm,List.map_map];refine List.map_congr_left fun q hq=>?_;have:q.1≠t:=fun h=>hn.1 (by rw[e',← h];exact yO.2 ⟨q,hq,rfl⟩);simp[this]
 | a :: ps,p+1,t,x,hp,hn,e=>by
  have b:p<ps.length:=by simpa using hp
  have e':ps[p].1=t:=e;rw[yi,List.nodup_cons]at hn;have d:a.1≠t:=fun h=>hn.1 (by rw[h,← e'];exact yO.2 ⟨_,yr b,rfl⟩);rw[yi,yf d,← Di ps p t x b hn.2 e'];rfl
theorem Dj:∀ (ps:List zK) (p:Nat) (t:List UInt8) (hp:p<ps.length),(ps.map (·.1)).Nodup->ps[p].1=t->ps.take p++ps.drop (p+1)=ps.filter fun q=>!(q.1 ==t)
 | [],p,t,hp,_,_=>by simp at hp
 | a :: ps,0,t,hp,hn,e=>by
  have e':a.1=t:=e;rw[yi,List.nodup_cons]at hn;rw[List.filter_cons_of_neg (by simp[e'])];show ps=_
  symm;rw[List.filter_eq_self];intro q d;have:q.1≠t:=fun h=>hn.1 (by rw[e',← h];exact yO.2 ⟨q,d,rfl⟩);simp[this]
 | a :: ps,p+1,t,hp,hn,e=>by
  have b:p<ps.length:=by simpa using hp
  have e':ps[p].1=t:=e;rw[yi,List.nodup_cons]at hn;have f:a.1≠t:=fun h=>hn.1 (by rw[h,← e'];exact yO.2 ⟨_,yr b,rfl⟩);rw[List.filter_cons_of_pos (by simp[f]),← Dj ps p t b hn.2 e'];rfl
theorem U0{m:JM}(h:zx (.obj m)):((zm (.obj m)).map (·.1)).Nodup:=by
 show ((zH (zj m)).map (·.1)).Nodup
 rw[((qL _).map _).nodup_iff,qQ,List.map_map];exact ((QU m).1 h).1
theorem Ub(l:JL):(zm (.arr l)).map (·.2)=l.toL.map ct:=by
 rw[T7,List.map_map];show (Q4 0 l.toL).map (fun q=>ct q.2)=_
 rw[show (fun q:List UInt8×JV=>ct q.2)=ct∘(·.2)from rfl,← List.map_map,FI]
theorem OZ(l:JL){j:Nat}(hj:j<(zm (.arr l)).length):(zm (.arr l))[j].1=Zp j:=by
 have e:zm (.arr l)=qM 0 (zr l):=rfl;have a:j<(qM 0 (zr l)).length:=by rw[← e];exact hj
 have:=FG (zr l) 0 j a;simp only[e];rw[this];simp
theorem Dk{α β:Type}(f:α->β):∀ (l:List α) (i:Nat) (x:α),i<l.length->(l.set i x).map f=(l.map f).take i++f x ::(l.map f).drop (i+1)
 | [],i,x,h=>by simp at h
 | a :: l,0,x,_=>by simp
 | a :: l,i+1,x,h=>by
  rw[List.set_cons_succ,yi,Dk f l i x (by simpa using h)];simp
theorem Av{v u:JV}{t:List UInt8}{j:Nat}{c:JV}(hg:zx v)(hc:zQ v t=some c)(hj:j<(zm v).length)(hk:(zm v)[j].1=t):YK v (Zo (zm v) j true true (t,ct u) ((zm v).length+1))=ct (qr v t u):=by
 rw[At _ _ _ hj]
 cases v with
 | arr l=>
  rw[Jv]at hc;obtain⟨i,d,b⟩:=Option.bind_eq_some_iff.1 hc;have e:j=i:=by
   rw[OZ]at hk;exact KM (hk.trans (FD d).symm)
  subst e;have f:qr (.arr l) t u= .arr (JL.ofL (l.toL.set j u)):=by simp only[qr,d]
  have a:j<l.toL.length:=(List.getElem?_eq_some_iff.1 b).1;rw[f];show qg _=qg (zr (JL.ofL (l.toL.set j u)))
  congr 1;rw[OY,Dk ct l.toL j u a,← Ub,yw,yi,List.map_take,List.map_drop]
 | obj m=>
  rw[Di _ j t (ct u) hj (U0 hg) hk];show qX (zH ((zH (zj m)).map _))=qX (zH (zj (JM.ofL _)))
  congr 1;have g:zj (JM.ofL (m.toL.map fun q=>if q.1=t then (q.1,u)else q))=(zj m).map fun q=>if q.1=t then (q.1,ct u)else q:=by
   rw[qQ,JM.toL_ofL,qQ,List.map_map,List.map_map];refine List.map_congr_left fun q _=>?_;show ((if q.1=t then (q.1,u)else q).1,ct (if q.1=t then (q.1,u)else q).2)=if (q.1,ct q.2).1=t then ((q.1,ct q.2).1,ct u)else (q.1,ct q.2)
   by_cases e:q.1=t<;>simp[e]
  rw[g];refine XC ((qL _).map _) ?_;rw[List.map_map];have:((fun x:zK=>x.1)∘fun q:zK=>if q.1=t then (q.1,ct u)else q)=fun x:zK=>x.1:=by
   funext q;show (if q.1=t then (q.1,ct u)else q).1=q.1
   split<;>rfl
  rw[this];exact U0 hg
 | _=>cases hc
theorem Aw{v:JV}{t:List UInt8}{j:Nat}{c:JV}{q:zK}(hg:zx v)(hc:zQ v t=some c)(hj:j<(zm v).length)(hk:(zm v)[j].1=t):YK v (Zo (zm v) j true false q ((zm v).length+1))=ct (qO v t):=by
 rw[Au _ _ _ hj]
 cases v with
 | arr l=>
  rw[Jv]at hc;obtain⟨i,a,f⟩:=Option.bind_eq_some_iff.1 hc;have e:j=i:=by
   rw[OZ]at hk;exact KM (hk.trans (FD a).symm)
  subst e;have b:qO (.arr l) t= .arr (JL.ofL (l.toL.eraseIdx j)):=by simp only[qO,a]
  rw[b];show qg _=qg (zr (JL.ofL (l.toL.eraseIdx j)))
  congr 1;rw[OY,List.eraseIdx_eq_take_drop_succ,yw,yw,List.map_take,List.map_drop,List.map_take,List.map_drop,Ub]
 | obj m=>
  rw[Dj _ j t hj (U0 hg) hk];show qX (zH ((zH (zj m)).filter _))=qX (zH (zj (JM.ofL _)))
  congr 1;have d:zj (JM.ofL (m.toL.filter fun q=>!(q.1 ==t)))=(zj m).filter fun q=>!(q.1 ==t):=by
   rw[qQ,JM.toL_ofL,qQ,List.filter_map];rfl
  rw[d];refine XC ((qL _).filter _) ?_;exact (List.filter_sublist.map _).nodup (U0 hg)
 | _=>cases hc
theorem Dl{α β:Type}(f:α->β)(l:List α)(i:Nat)(x:α):(l.take i++x :: l.drop i).map f=(l.map f).take i++f x ::(l.map f).drop i:=by
 rw[yw,yi,List.map_take,List.map_drop]
theorem Ax{l:JL}{u:JV}{i:Nat}{t:List UInt8}(hi:i<=l.toL.length):YK (.arr l) (Zo (zm (.arr l)) i false true (t,ct u) ((zm (.arr l)).length+1))=ct (.arr (JL.ofL (l.toL.take i++u :: l.toL.drop i))):=by
 have a:(zm (.arr l)).length=l.toL.length:=by
  have:=congrArg List.length (Ub l);simpa using this
 rw[Df _ _ _ (by omega)];show qg _=qg (zr (JL.ofL _))
 congr 1;rw[OY,Dl ct,← Ub,Dl]
theorem Ay{m:JM}{u:JV}{t:List UInt8}(hg:zx (.obj m))(hn:zQ (.obj m) t=none):YK (.obj m) (Zo (zm (.obj m)) 0 false true (t,ct u) ((zm (.obj m)).length+1))=ct (.obj (JM.ofL (m.toL++[(t,u)]))):=by
 rw[Df _ _ _ (yt _)];show qX (zH ((t,ct u) :: zH (zj m)))=qX (zH (zj (JM.ofL _)))
 congr 1;have b:zj (JM.ofL (m.toL++[(t,u)]))=zj m++[(t,ct u)]:=by
  rw[qQ,JM.toL_ofL,qQ,yw];rfl
 rw[b];refine XC ?_ ?_
 ·refine (List.Perm.cons _ (qL _)).trans ?_;exact (List.perm_append_comm (l₁:=[(t,ct u)]) (l₂:=zj m))
 ·rw[yi,List.nodup_cons];refine⟨fun h=>?_,U0 hg⟩;obtain⟨x,hx,e⟩:=yO.1 h;have a:=(qL _).subset hx;rw[qQ]at a;obtain⟨y,d,rfl⟩:=yO.1 a;rw[Vo,Option.map_eq_none_iff,List.find?_eq_none]at hn;exact hn y d (by simpa using e)
theorem XD(l:List JV):(ct (.arr (JL.ofL l))).length=hold l.length+(l.map fun v=>(ct v).length).sum:=by
 show (qg (zr (JL.ofL l))).length=_
 rw[qR,JL.toL_ofL];have h:=UC (l.map ct);have a:nl (l.map ct)=(l.map fun v=>(ct v).length).sum:=by
  unfold nl;rw[List.map_map];rfl
 rw[yl,a]at h;simp[qg];omega
theorem JL.ofL_toL:∀ l:JL,JL.ofL l.toL=l
 | .nil=>rfl
 | .cons v r=>by rw[JL.toL,JL.ofL,JL.ofL_toL r]
theorem U1(l:JL):(ct (.arr l)).length=hold l.toL.length+(l.toL.map fun v=>(ct v).length).sum:=by
 have:=XD l.toL
 rwa [JL.ofL_toL]at this
theorem Dm{α:Type}(f:α->Nat):∀ (l:List α) (i:Nat) (x y:α),l[i]?=some y->((l.set i x).map f).sum+f y=(l.map f).sum+f x
 | [],i,x,y,h=>by simp at h
 | a :: l,0,x,y,h=>by
  have e:a=y:=by simpa using h
  subst e;rw[List.set_cons_zero,yi,yi,yL,yL];omega
 | a :: l,i+1,x,y,h=>by
  have b:=Dm f l i x y (by simpa using h);rw[List.set_cons_succ,yi,yi,yL,yL];omega
theorem Dn(t:List UInt8)(u:JV):∀ (l:List (List UInt8×JV)) (c:JV),(l.map (·.1)).Nodup->(l.find? fun q=>q.1 ==t).map (·.2)=some c->((l.map fun q=>if q.1=t then (q.1,u)else q).map Z0).sum+(ct c).length=(l.map Z0).sum+(ct u).length
 | [],c,_,h=>by simp at h
 | a :: l,c,hn,h=>by
  rw[yi,List.nodup_cons]at hn;by_cases e:a.1=t
  ·rw[List.find?_cons,show (a.1 ==t)=true by simp[e]]at h;have e2:a.2=c:=by simpa using h
   have b:(l.map fun q=>if q.1=t then (q.1,u)else q)=l:=by
    conv=>rhs;rw[← List.map_id l]
    refine List.map_congr_left fun q hq=>?_;have:q.1≠t:=fun h=>hn.1 (by rw[e,← h];exact yO.2 ⟨q,hq,rfl⟩);simp[this]
   rw[yi,yg e,b,yi,yi,yL,yL,← e2];unfold Z0;simp only;omega
  ·rw[List.find?_cons,show (a.1 ==t)=false by simp[e]]at h;have d:=Dn t u l c hn.2 h;rw[yi,yf e,yi,yi,yL,yL];omega
theorem O4{v u c:JV}{t:List UInt8}(hg:zx v)(hc:zQ v t=some c):(ct (qr v t u)).length+(ct c).length=(ct v).length+(ct u).length:=by
 cases v with
 | arr l=>
  rw[Jv]at hc;obtain⟨i,b,a⟩:=Option.bind_eq_some_iff.1 hc;have e:qr (.arr l) t u= .arr (JL.ofL (l.toL.set i u)):=by simp only[qr,b]
  rw[e,XD,U1,List.length_set];have:=Dm (fun v=>(ct v).length) l.toL i u c a;omega
 | obj m=>
  rw[Vo]at hc;have e:qr (.obj m) t u= .obj (JM.ofL (m.toL.map fun q=>if q.1=t then (q.1,u)else q)):=rfl;rw[e,Yh,Yh,JM.toL_ofL,yl];have:=Dn t u m.toL c ((QU m).1 hg).1 hc;omega
 | _=>cases hc
theorem Vy:∀ {ts:List (List UInt8)} {v u h:JV},zx v->zM v ts=some h->(ct (ZS v ts u)).length+(ct h).length=(ct v).length+(ct u).length
 | [],v,u,h,_,e=>by
  rw[Gj]at e;injection e with e;subst e;rw[Ua];omega
 | t :: ts,v,u,h,hv,e=>by
  rw[YL]at e
  cases hc:zQ v t with
  | none=>rw[hc]at e;cases e
  | some c=>
   rw[hc]at e;rw[Wg hc];have h1:=O4 (u:=ZS c ts u) hv hc;have a:=Vy (u:=u) (hv.child hc) e;omega
theorem Do{α:Type}(f:α->Nat)(p:α->Bool):∀ l:List α,((l.filter p).map f).sum<=(l.map f).sum
 | []=>by simp
 | a :: l=>by
  have ih:=Do f p l;rw[yi,yL];by_cases h:p a=true
  ·rw[List.filter_cons_of_pos h,yi,yL];omega
  ·rw[List.filter_cons_of_neg h];omega
theorem Dp{α:Type}(f:α->Nat):∀ (l:List α) (i:Nat),((l.eraseIdx i).map f).sum<=(l.map f).sum
 | [],i=>by simp
 | a :: l,0=>by simp
 | a :: l,i+1=>by
  have ih:=Dp f l i;rw[List.eraseIdx_cons_succ,yi,yi,yL,yL];omega
theorem O5{v c:JV}{t:List UInt8}(hc:zQ v t=some c):(ct (qO v t)).length<=(ct v).length:=by
 cases v with
 | arr l=>
  rw[Jv]at hc;obtain⟨i,d,f⟩:=Option.bind_eq_some_iff.1 hc;have e:qO (.arr l) t= .arr (JL.ofL (l.toL.eraseIdx i)):=by simp only[qO,d]
  rw[e,XD,U1];have a:=Dp (fun v=>(ct v).length) l.toL i;have b:(l.toL.eraseIdx i).length<=l.toL.length:=List.length_eraseIdx_le ..;unfold hold;omega
 | obj m=>
  have e:qO (.obj m) t= .obj (JM.ofL (m.toL.filter fun q=>!(q.1 ==t))):=rfl;rw[e,Yh,Yh,JM.toL_ofL];have a:=Do Z0 (fun q=>!(q.1 ==t)) m.toL;have b:=List.length_filter_le (fun q:List UInt8×JV=>!(q.1 ==t)) m.toL;unfold hold;omega
 | _=>cases hc
theorem Dq{v u r:JV}{t:List UInt8}(hg:zx v)(h:Z9 v t u=some r):(ct r).length<=(ct v).length+(ct u).length+6*t.length+4:=by
 cases v with
 | arr l=>
  simp only[Z9]at h;split at h
  ·rename_i i hi;split at h
   ·injection h with h;subst h;rw[XD,U1];have a:((l.toL.take i++u :: l.toL.drop i).map fun v=>(ct v).length).sum=(l.toL.map fun v=>(ct v).length).sum+(ct u).length:=by
     conv=>rhs;rw[← List.take_append_drop i l.toL]
     rw[yw,List.sum_append,yi,yL,yw,List.sum_append];omega
    have b:(l.toL.take i++u :: l.toL.drop i).length=l.toL.length+1:=by
     rw[yh,yn,ym,yu];omega
    rw[a,b];unfold hold;omega
   ·cases h
  ·cases h
 | obj m=>
  simp only[Z9]at h;split at h
  ·injection h with h;subst h
   cases hc:zQ (.obj m) t with
   | some c=>
    have:=O4 (u:=u) hg hc;rw[Option.isSome_some,yg rfl];omega
   | none=>
    rw[Option.isSome_none,yf (by simp)];rw[Yh,Yh,JM.toL_ofL,yw,List.sum_append,yh];have:=UB t;simp only[yi,List.map_nil,yL,List.sum_nil,yn,yD,Z0];unfold hold;omega
  ·cases h
 | _=>cases h
theorem Az(m:JM):Zd (zm (.obj m))<=(ct (.obj m)).length:=by
 show Zd (zH (zj m))<=(qX (zH (zj m))).length
 unfold qX;rw[yn,yh];have:∀ l:List zK,Zd l<=(joinC (l.map zn)).length+1:=fun l=>by
  cases l with
  | nil=>simp[Zd]
  | cons x r=>
   have a:∀ r:List zK,Zd r=(joinT (r.map zn)).length:=fun r=>by
    induction r with
    | nil=>rfl
    | cons y r ih=>unfold Zd at *;rw[yi,yi,yL,ih,joinT];simp;omega
   have b:=a r;show Zd (x :: r)<=(zn x++joinT (r.map zn)).length+1
   unfold Zd at *;rw[yi,yL,b,yh];omega
 have:=this (zH (zj m));simp;omega
theorem AA(l:JL):QA (zm (.arr l))<=(ct (.arr l)).length:=by
 have e:QA (zm (.arr l))=((zr l).map fun t=>t.length+1).sum:=by
  unfold QA;rw[show (fun p:zK=>p.2.length+1)=(fun t:List UInt8=>t.length+1)∘(·.2)from rfl,← List.map_map,Ub,qR]
 rw[e];show _<=(qg (zr l)).length
 unfold qg;rw[yn,yh];have:∀ l:List (List UInt8),(l.map fun t=>t.length+1).sum<=(joinC l).length+1:=fun l=>by
  cases l with
  | nil=>simp
  | cons x r=>
   have a:∀ r:List (List UInt8),(r.map fun t=>t.length+1).sum=(joinT r).length:=fun r=>by
    induction r with
    | nil=>rfl
    | cons y r ih=>rw[yi,yL,ih,joinT];simp;omega
   rw[yi,yL,a r];show _<=(x++joinT r).length+1
   rw[yh];omega
 have:=this (zr l);simp;omega
theorem AB{v:JV}(hok:zF v)(htw:zy v=false){x:zK}(h:x∈zm v):x.1.length+x.2.length+1<=(ct v).length:=by
 rw[T7]at h;obtain⟨y,a,rfl⟩:=yO.1 h;exact (zdK hok htw a).2.2.2
theorem Dr{ps:List zK}{p:Nat}{dr pu:Bool}{q:zK}:∀ {k:Nat} {x:zK},x∈Zo ps p dr pu q k->x=q∨x∈ps
 | 0,x,h=>by simp[Zo]at h
 | k+1,x,h=>by
  rw[Jp,List.mem_append]at h;rcases h with h | h
  ·exact Dr h
  ·unfold qi at h;rw[List.mem_append]at h;rcases h with h | h
   ·split at h
    ·exact .inl (by simpa using h)
    ·simp at h
   ·split at h
    ·split at h
     ·rename_i hk _;rw[List.mem_singleton]at h;exact .inr (by rw[h];exact yr hk)
     ·simp at h
    ·simp at h
theorem U2{α:Type}(f g:α->Nat):∀ (l:List α),(∀ x∈l,f x<=g x)->(l.map f).sum<=(l.map g).sum
 | [],_=>by simp
 | x :: r,h=>by
  rw[yi,yi,yL,yL];have h1:=h x yp;have a:=U2 f g r fun y hy=>h y (yv _ hy);omega
theorem Ds{α:Type}(f:α->Nat)(c:Nat):∀ l:List α,(l.map fun x=>c*f x).sum=c*(l.map f).sum
 | []=>by simp
 | x :: r=>by rw[yi,yi,yL,yL,Ds f c r,Nat.mul_add]
theorem O6{v:JV}(hok:zF v)(htw:zy v=false)(hkd:kd v=5∨kd v=6)(hl:(ct v).length<=100000)(p:Nat)(dr pu:Bool)(q:zK)(h1:q.1.length<=1048576)(h2:q.2.length<=20000000):
  QA (Zo (zm v) p dr pu q ((zm v).length+1))<=40000000/\Zd (zH (Zo (zm v) p dr pu q ((zm v).length+1)))<=40000000/\∀ x∈zH (Zo (zm v) p dr pu q ((zm v).length+1)),x.1.length<=1048576:=by
 have r:=W9 hok (by omega);have a:∀ f:zK->Nat,((Zo (zm v) p dr pu q ((zm v).length+1)).map f).sum<=((zm v).map f).sum+f q:=fun f=>by
  have:=De (zm v) p dr pu q f ((zm v).length+1);rw[yq (by omega)]at this;refine yP this ?_;split<;>omega
 have z:QA (zm v)<=100000/\Zd (zm v)<=6000000:=by
  rcases hkd with b | b
  ·obtain⟨l,rfl⟩:∃ l,v= .arr l:=by cases v<;>first | exact⟨_,rfl⟩ |(simp[kd]at b)
   have n:=AA l;refine⟨by omega,?_⟩;have d:Zd (zm (.arr l))<=((zm (.arr l)).map fun x=>46*(x.2.length+1)).sum:=by
    unfold Zd;refine U2 _ _ _ fun x hx=>?_;obtain⟨j,o,rfl⟩:=yX.1 hx;have e:=OZ l o;have s:=zfS 6 j (by omega);have g:=UB (zm (.arr l))[j].1;rw[e]at g;unfold zn;rw[yh,yn,e];omega
   rw[Ds]at d;have y:((zm (.arr l)).map fun x=>x.2.length+1).sum=QA (zm (.arr l)):=rfl;omega
  ·obtain⟨m,rfl⟩:∃ m,v= .obj m:=by cases v<;>first | exact⟨_,rfl⟩ |(simp[kd]at b)
   have n:=Az m;refine⟨?_,by omega⟩;have d:QA (zm (.obj m))<=Zd (zm (.obj m)):=by
    unfold QA Zd;refine U2 _ _ _ fun x _=>?_;unfold zn;rw[yh,yn];omega
   omega
 have i:=a fun x=>x.2.length+1;have k:=a fun x=>(zn x).length+1;have u:=UB q.1;have w:(zn q).length+1<=6*1048576+4+20000000:=by
  unfold zn;rw[yh,yn];omega
 refine⟨?_,?_,fun x hx=>?_⟩
 ·refine yP i ?_;show QA (zm v)+(q.2.length+1)<=_
  omega
 ·rw[KI];refine yP k ?_;show Zd (zm v)+((zn q).length+1)<=_
  omega
 ·rcases Dr ((qL _).subset hx)with rfl | h
  ·exact h1
  ·have:=AB hok htw h;omega
theorem U3:∀ (ts:List (List UInt8)) (v u h:JV) (a:Option Addr) (g off cap:Nat) (w:Wo),zx v->zx u->zM v ts=some h->(ct v).length<=100000->(ct (ZS v ts u)).length<=20000000->(∀ t∈ts,t.length<=1048576)->ts.length<=1048577->ts.length<=cap->SS w a g off (ts.map zz) ->
  Calls prog 96 #[.string (ze (ct v)),.slice a ts.length cap,.string (ze (ct u))] w fun e w'=>e= .returned (.string (ze (ct (ZS v ts u))))/\Bw w w'
 | [],v,u,h,a,g,off,cap,w,_,_,_,_,_,_,_,_,_=>by
  rw[Ua];generalize ze (ct u)=U at *;go_in;go_wp2;go_ret;exact⟨rfl,yH _ _⟩
 | t :: ts,v,u,h,a,g,off,cap,w,hv,hu,hg,hl,hs,ht,hn,hcap,hss=>by
  rw[YL]at hg
  cases hc:zQ v t with
  | none=>rw[hc]at hg;cases hg
  | some c=>
   rw[hc]at hg;have hgc:=hv.child hc;obtain⟨_,_,hcl,_⟩:=FF hc hv.ok hv.tw;rw[Wg hc]at hs ⊢;have E:(ct (ZS c ts u)).length<=20000000:=by
    have B:=O4 (u:=ZS c ts u) hv hc;omega
   have IH:Hid (∀ (a':Option Addr) (g' off' cap':Nat) (wx:Wo),ts.length<=cap'->SS wx a' g' off' (ts.map zz)->Calls prog 96 #[.string (ze (ct c)),.slice a' ts.length cap',.string (ze (ct u))] wx (Rb (.string (ze (ct (ZS c ts u)))) wx)):=fun a' g' off' cap' wx B h2=>U3 ts c u h a' g' off' cap' wx hgc hu hg (by omega) E (fun x hx=>ht x (yv _ hx)) (by simp at hn;omega) B h2;have J:=zb (OM v hv.ok hv.tw t (ht t yp) w (by omega));have N:Hid (∀ wx,Calls prog 47 #[.string (ze (ct v))] wx fun e w'=>∃ r,e= .returned r/\PR w' wx.heap.size r (zm v)/\Bw wx w'):=fun wx=>UW v hv.ok wx (by omega);have aa:kd v=5∨kd v=6:=by
    cases v with
    | arr l=>exact .inl rfl
    | obj m=>exact .inr rfl
    | _=>cases hc
   have Q:Hid (∀ (j:Nat) (o:j<(zm v).length) (wx:Wo),(zm v)[j].1=t->Calls prog 123 #[.string (ze (ct v)),.int .i64 (j:Int),.bool true,.bool true,.agg #[.string (ze t),.string (ze (ct (ZS c ts u)))]] wx (Rb (.string (ze (ct (qr v t (ZS c ts u))))) wx)):=fun j o wx hk=>by
    obtain⟨s1,s2,s3⟩:=O6 hv.ok hv.tw aa hl j true true (t,ct (ZS c ts u)) (ht t yp) E;have hpl:=W9 hv.ok (show (ct v).length<=1000000 by omega);have:=OQ v hv.ok (by omega) j true true (t,ct (ZS c ts u)) wx (by omega) s1 s2 s3;rw[Av hv hc o hk]at this;exact this
   have V:=hss.ad (by simp);have W:=hss.cell 0 (by simp);have hc0':w.cell? ⟨g,off,none⟩=some (.string (ze t)):=by simpa [zz,ze]using W
   have O:Hid (∀ wx,Bw w wx->SS wx (some ⟨g,off+1,none⟩) g (off+1) (ts.map zz)):=fun wx hx=>⟨fun _=>rfl,fun j o=>by
    have B:=(hss.below hx).cell (j+1) (by simpa using o);rw[show off+(j+1)=off+1+j by omega]at B;simpa using B⟩
   subst V;clear hss W hg hgc hcl hs E hv hu aa hl;generalize ct (qr v t (ZS c ts u))=R at *;generalize ct (ZS c ts u)=Z at *;generalize ze (ct u)=U at *;generalize ze R=sR at *;go_in;go_wp2_with fail;refine (uh J).mono ?_;rintro e w1 ⟨b1,⟨rfl,Y⟩ |⟨j,o,u',rfl,i,ab,D⟩⟩
   ·rw[hc]at Y;cases Y
   ·obtain rfl:u'=c:=by rw[hc]at i;injection i with i;exact i.symm
    have M:=zb (uh N w1);have s:=zb (fun wx=>uh Q j o wx D);have F:=zb b1;have hz1:=b1.size;clear J N Q i hc b1 ht;go_wp2_with fail;refine (uh M).mono ?_;rintro e b ⟨r2,rfl,p2,b2⟩;obtain⟨g2,cap2,rfl,hB2,hgl,c0,c1⟩:=p2.cells j o;rw[D]at c0;rw[ab]at c1;have hjI:(j:Int)<((zm v).length:Int):=by omega
    have G:=zb (zh (uh F) b2);have HZ2:=zb (uh G).size;clear M p2 D ab b2 F;generalize ze (ct u')=d at *;generalize ze t=st at *;generalize ze Z=z at *;generalize ze (ct v)=sv at *;have kA:=yG b (.cells #[.string st,.string d] 99);have bA:=QF b (.cells #[.string st,.string d] 99);have y0:(b.alloc (.cells #[.string st,.string d] 99)).cell? ⟨b.heap.size,0,none⟩=some (.string st):=yF kA 0;have y1:(b.alloc (.cells #[.string st,.string d] 99)).cell? ⟨b.heap.size,1,none⟩=some (.string d):=yF kA 1;have y:=(yB.1 kA).1;have f:Hid (∀ X,Below (b.alloc (.cells #[.string st,.string d] 99)).drew.heap.size (b.alloc (.cells #[.string st,.string d] 99)).drew X->X.heap[b.heap.size]?=some (.cells #[.string st,.string d] 99 (0,0))):=fun X hX=>(hX.block b.heap.size y).trans kA;have q:Hid (∀ X,Below (b.alloc (.cells #[.string st,.string d] 99)).drew.heap.size (b.alloc (.cells #[.string st,.string d] 99)).drew X->X.cell? ⟨b.heap.size,0,none⟩=some (.string st)/\X.cell? ⟨b.heap.size,1,none⟩=some (.string d)/\X.frozen? ⟨b.heap.size,1,none⟩=false):=fun X hX=>⟨yF (uh f X hX) 0,yF (uh f X hX) 1,yI (uh f X hX) 1⟩;have C:=(zh (uh G) bA);have I:Hid (∀ X,Below (b.alloc (.cells #[.string st,.string d] 99)).drew.heap.size (b.alloc (.cells #[.string st,.string d] 99)).drew X->Bw w X):=fun X hX=>zh C.drew hX;have T:=uh O _ C.drew;have hcap1:ts.length+1<=cap:=by simpa using hcap
    have hz0:¬ ((ts.length:Int)+1=0):=by omega
    have hle1:(1:Int)<=(ts.length:Int)+1:=by omega
    clear kA bA y C hcap hn;have S:SS (b.alloc (.cells #[.string st,.string d] 99)).drew (if cap=1 then some ⟨g,off,none⟩else some ⟨g,off+1,none⟩) g (off+1) (ts.map zz):=by
     by_cases B:cap=1
     ·have ht0:ts=[]:=yN (by omega);subst ht0;exact⟨fun h=>by simp at h,fun j o=>by simp at o⟩
     ·rw[yf B];exact T
    clear T;have K:=zb (uh IH (if cap=1 then some ⟨g,off,none⟩else some ⟨g,off+1,none⟩) g (off+1) (cap - 1) (b.alloc (.cells #[.string st,.string d] 99)).drew (by omega) S);clear IH O S;go_wp2_with fail;go_region_law (go_simp;refine (uh K).mono ?_;rintro e k ⟨rfl,b4⟩;have n:=uh q k b4;have d0:=n.1;have d1:=n.2.1;have f4:=n.2.2)
    all_goals
     have L:Hid (k.heap[b.heap.size]?=some (.cells #[.string st,.string d] 99 (0,0))):=uh f k b4;have H:=zb (uh I k b4);clear b4 n K q f I;have A:Hid ((k.setCell ⟨b.heap.size,1,none⟩ (.string z)).heap[b.heap.size]?=some (.cells #[.string st,.string z] 99 (0,0))):=heap_setCell_same k b.heap.size 1 _ _ _ (uh L);have HB5:=zb ((uh H).setCell (p:=⟨b.heap.size,1,none⟩) (by have:=uh HZ2;exact this) (.string z));have e0:(k.setCell ⟨b.heap.size,1,none⟩ (.string z)).cell? ⟨b.heap.size,0,none⟩=some (.string st):=yF (uh A) 0;have e1:(k.setCell ⟨b.heap.size,1,none⟩ (.string z)).cell? ⟨b.heap.size,1,none⟩=some (.string z):=yF (uh A) 1;have P:=zb (uh s (k.setCell ⟨b.heap.size,1,none⟩ (.string z)));clear L A H s d0 d1 f4;generalize (if cap=1 then some (⟨g,off,none⟩:Addr)else some ⟨g,off+1,none⟩)=ad at *;go_wp2_with fail;generalize (k.setCell ⟨b.heap.size,1,none⟩ (.string z))=w5 at *;refine (uh P).mono ?_;rintro e w6 ⟨rfl,b6⟩;have HB6:=zb (zh (uh HB5) b6);clear P b6 e0 e1;go_wp2;go_ret;exact⟨rfl,uh HB6⟩
theorem U4{v h:JV}{ts:List (List UInt8)}(e:zM v ts=some h):YJ v ts= .tuple #[.string (ze (ct h)),.bool true]:=by unfold YJ;rw[e]
theorem XE{v:JV}{ts:List (List UInt8)}(e:zM v ts=none):YJ v ts= .tuple #[.string ⟨#[]⟩,.bool false]:=by unfold YJ;rw[e]
theorem SS.init{w:Wo}{a:Option Addr}{g off:Nat}{xs:List (List UInt8)}{t:List UInt8}(h:SS w a g off ((xs++[t]).map zz)):SS w a g off (xs.map zz)/\a=some ⟨g,off,none⟩/\w.cell? ⟨g,off+xs.length,none⟩=some (.string (ze t)):=by
 have b:((xs++[t]).map zz).length=xs.length+1:=by simp
 refine⟨⟨fun h0=>h.ad (by rw[b];omega),fun j hj=>?_⟩,h.ad (by rw[b];omega),?_⟩
 ·rw[yl]at hj;have:=h.cell j (by rw[b];omega);rw[this,yw];simp[List.getElem?_append_left,hj]
 ·have:=h.cell xs.length (by rw[b];omega);rw[this];simp[zz,ze]
theorem Gk:∀ {ts:List (List UInt8)} {v u:JV},zx v->zM v ts=some u->(ct u).length<=(ct v).length
 | [],v,u,_,e=>by
  rw[Gj]at e;injection e with e;subst e;exact ye _
 | t :: ts,v,u,h,e=>by
  rw[YL]at e
  cases hc:zQ v t with
  | none=>rw[hc]at e;cases e
  | some x=>
   rw[hc]at e;have h1:=Gk (h.child hc) e;have a:=(FF hc h.ok h.tw).2.2.1;omega
theorem AC{v c:JV}{t:List UInt8}(hv:zx v)(hc:zQ v t=some c)(ht:t.length<=1048576)(hl:(ct v).length<=100000)(w:Wo):
  Calls prog 121 #[.string (ze (ct v)),.string (ze t)] w fun e w'=>∃ (j:Nat) (hj:j<(zm v).length),e= .returned (.int .i64 (j:Int))/\(zm v)[j].1=t/\Bw w w':=by
 refine (OM v hv.ok hv.tw t ht w (by omega)).mono ?_;rintro e g ⟨d,⟨rfl,a⟩ |⟨j,hj,f,rfl,_,_,b⟩⟩
 ·rw[hc]at a;cases a
 ·exact⟨j,hj,rfl,b,d⟩
theorem AD{v c:JV}{t:List UInt8}(hc:zQ v t=some c):kd v=5∨kd v=6:=by
 cases v with
 | arr l=>exact .inl rfl
 | obj m=>exact .inr rfl
 | _=>cases hc
theorem AE(v h c:JV)(xs:List (List UInt8))(t:List UInt8)(a:Option Addr)(g off cap:Nat)(w:Wo)(hv:zx v)(hg:zM v xs=some h)(hc:zQ h t=some c)(hl:(ct v).length<=100000)(hts:∀ x∈xs++[t],x.length<=1048576)(hn:xs.length<=1048576)(hcap:xs.length+1<=cap)(hss:SS w a g off ((xs++[t]).map zz)):
  Calls prog 95 #[.string (ze (ct v)),.slice a (xs.length+1) cap] w fun e w'=>e= .returned (.string (ze (ct (ZS v xs (qO h t)))))/\Bw w w':=by
 obtain⟨n,rfl,m⟩:=SS.init hss;have b:=hv.get hg;have E:=Gk hv hg;have r:=SY b hc;have C:=O5 hc;have G:=Vy (u:=qO h t) hv hg;have y:t.length<=1048576:=hts t (by simp);have d:=zb (ON v hv.ok hv.tw (by omega) (some ⟨g,off,none⟩) g off cap xs w n (by omega) (fun x hx=>hts x (List.mem_append_left _ hx)));rw[U4 hg]at d;have o:Hid (∀ wx,Calls prog 121 #[.string (ze (ct h)),.string (ze t)] wx fun e w'=>∃ (j:Nat) (s:j<(zm h).length),e= .returned (.int .i64 (j:Int))/\(zm h)[j].1=t/\Bw wx w'):=fun wx=>AC b hc y (by omega) wx;have q:Hid (∀ (j:Nat) (s:j<(zm h).length) (wx:Wo),(zm h)[j].1=t->Calls prog 123 #[.string (ze (ct h)),.int .i64 (j:Int),.bool true,.bool false,.agg #[.string ⟨#[]⟩,.string ⟨#[]⟩]] wx (Rb (.string (ze (ct (qO h t)))) wx)):=fun j s wx hk=>by
  obtain⟨V,W,X⟩:=O6 b.ok b.tw (AD hc) (by omega) j true false ([],[]) (by simp) (by simp);have T:=W9 b.ok (show (ct h).length<=1000000 by omega);have:=OQ h b.ok (by omega) j true false ([],[]) wx (by omega) V W X;rw[Aw b hc s hk]at this;exact this
 have k:Hid (∀ wx,Bw w wx->Calls prog 96 #[.string (ze (ct v)),.slice (some ⟨g,off,none⟩) xs.length cap,.string (ze (ct (qO h t)))] wx (Rb (.string (ze (ct (ZS v xs (qO h t))))) wx)):=fun wx hx=>U3 xs v (qO h t) h (some ⟨g,off,none⟩) g off cap wx hv r hg hl (by omega) (fun x hx=>hts x (List.mem_append_left _ hx)) (by omega) (by omega) (n.below hx);have l:Hid (∀ wx,Bw w wx->wx.cell? ⟨g,off+xs.length,none⟩=some (.string (ze t))):=fun wx hx=>(hx.cell (p:=⟨g,off+xs.length,none⟩) (yJ _ _ m)).trans m;have N:(xs.length:Int)+1 - 1=(xs.length:Int):=by omega
 have K:xs.length<=cap:=by omega
 have L:(xs.length:Int)<(xs.length:Int)+1:=by omega
 have M:xs.length<xs.length+1:=by omega
 clear hss n m b E r C G hv hg hc hl hts y;generalize ze (ct (ZS v xs (qO h t)))=R at *;generalize ze (ct (qO h t))=D at *;generalize ze (ct v)=Z at *;generalize ze (ct h)=Y at *;generalize ze t=st at *;go_in;go_wp2_with fail;refine (uh d).mono ?_;rintro e O ⟨rfl,A⟩;have B:Bw w O.drew:=A.drew;have S:=uh l O.drew B;have Q:=zb A;clear d A;go_wp2_with fail;go_region_law (first
  |(have U:=i;go_simp;refine (uh k _ i).mono ?_;rintro e w6 ⟨rfl,J⟩)
  |(have U:=f;go_simp;refine (uh q j s P F).mono ?_;rintro e w5 ⟨rfl,I⟩;have i:=zh f I)
  |(go_simp;refine (uh o _).mono ?_;rintro e P ⟨j,s,rfl,F,H⟩;have f:=zh B H;have c4:=uh l P f))
 all_goals
  have z:=zb (zh i J);clear H I J f i k q o l B S;go_wp2;go_ret;exact⟨rfl,uh z⟩
theorem AF{v:JV}(h:zF v)(h0:0<(ze (ct v)).size):∃ c:Nat,(ze (ct v))[0].toNat=c/\(c=91↔kd v=5)/\(c=123↔kd v=6):=by
 obtain⟨c,r,e,f⟩:=KO h;refine⟨c.toNat,?_,?_⟩
 ·rw[← Zr _ 0 h0,e];exact (GI (c:=c) (r:=r)).2
 ·rw[← f];unfold fb
  repeat' split
  all_goals omega
def Gl:Option JV->Value
 | none=>.tuple #[.string ⟨#[]⟩,.bool false]
 | some r=>.tuple #[.string (ze (ct r)),.bool true]
theorem AG(v u:JV)(xs:List (List UInt8))(t:List UInt8)(a:Option Addr)(g off cap:Nat)(w:Wo)(hv:zx v)(hu:zx u)(hl:(ct v).length<=100000)(hul:(ct u).length<=100000)(hts:∀ x∈xs++[t],x.length<=1048576)(hn:xs.length<=1048576)(hcap:xs.length+1<=cap)(hss:SS w a g off ((xs++[t]).map zz)):
  Calls prog 93 #[.string (ze (ct v)),.slice a (xs.length+1) cap,.string (ze (ct u))] w fun e w'=>e= .returned (Gl (qc v (xs++[t]) u))/\Bw w w':=by
 obtain⟨R,hR0⟩:∃ R,qc v (xs++[t]) u=R:=⟨_,rfl⟩;have hR:R=((zM v xs).bind fun h=>Z9 h t u).map (ZS v xs):=by
  rw[← hR0];unfold qc;rw[yf (by simp),List.dropLast_concat];show ((zM v xs).bind fun h=>Z9 h (Qq (xs++[t])) u).map _=_
  unfold Qq;simp
 rw[hR0];clear hR0;obtain⟨U,rfl,T⟩:=SS.init hss;have K:t.length<=1048576:=hts t (by simp);have s:=zb (ON v hv.ok hv.tw (by omega) (some ⟨g,off,none⟩) g off cap xs w U (by omega) (fun x hx=>hts x (List.mem_append_left _ hx)));have y:Hid (∀ wx,Bw w wx->wx.cell? ⟨g,off+xs.length,none⟩=some (.string (ze t))):=fun wx hx=>(hx.cell (p:=⟨g,off+xs.length,none⟩) (yJ _ _ T)).trans T;have hsub:(xs.length:Int)+1 - 1=(xs.length:Int):=by omega
 have hlec:xs.length<=cap:=by omega
 have hltI:(xs.length:Int)<(xs.length:Int)+1:=by omega
 cases hg:zM v xs with
 | none=>
  have HN:Hid (R=none):=by show _=_;rw[hR,hg];rfl
  rw[XE hg]at s;clear hg y hss U T hv hu hl hul hts K hcap hR;go_in;go_wp2_with fail;refine (uh s).mono ?_;rintro e V ⟨rfl,b1⟩;have HB1:=zb b1;clear s b1;go_wp2;go_ret2;exact⟨by rw[uh HN];rfl,uh HB1⟩
 | some h=>
  have G:R=(Z9 h t u).map (ZS v xs):=by rw[hR,hg];rfl
  have o:=hv.get hg;have hlh:=Gk hv hg;have h0:=OP o.ok;have h0I:(0:Int)<((ze (ct h)).size:Int):=by omega
  rw[U4 hg]at s;obtain⟨c,hc,c5,c6⟩:=AF o.ok h0;by_cases I:kd h=5∨kd h=6
  ·have hpl:=W9 o.ok (show (ct h).length<=1000000 by omega);have O:Hid (∀ wx,Calls prog 47 #[.string (ze (ct h))] wx fun e w'=>∃ xa xc,e= .returned (.slice xa (zm h).length xc)/\PR w' wx.heap.size (.slice xa (zm h).length xc) (zm h)/\Bw wx w'):=fun wx=>by
    refine (UW h o.ok wx (by omega)).mono ?_;rintro e w' ⟨r,rfl,p,b⟩;obtain⟨xa,xc,rfl⟩:=PR.shape p;exact⟨xa,xc,rfl,p,b⟩
   have f:Hid (∀ (i:Nat) (D:JV) (wx:Wo),i<=1000000->YK h (Zo (zm h) i false true (t,ct u) ((zm h).length+1))=ct D->Calls prog 123 #[.string (ze (ct h)),.int .i64 (i:Int),.bool false,.bool true,.agg #[.string (ze t),.string (ze (ct u))]] wx (Rb (.string (ze (ct D))) wx)):=fun i D wx hi hD=>by
    obtain⟨s1,s2,s3⟩:=O6 o.ok o.tw I (by omega) i false true (t,ct u) K (by show (ct u).length<=_;omega);have:=OQ h o.ok (by omega) i false true (t,ct u) wx hi s1 s2 s3;rw[hD]at this;exact this
   have d:Hid (∀ D wx,Z9 h t u=some D->Bw w wx->Calls prog 96 #[.string (ze (ct v)),.slice (some ⟨g,off,none⟩) xs.length cap,.string (ze (ct D))] wx (Rb (.string (ze (ct (ZS v xs D)))) wx)):=fun D wx hp hx=>by
    have hrl:=Dq o hp;have hsl:=Vy (u:=D) hv hg;exact U3 xs v D h (some ⟨g,off,none⟩) g off cap wx hv (SZ o hu hp) hg hl (by omega) (fun x hx=>hts x (List.mem_append_left _ hx)) (by omega) (by omega) (U.below hx)
   rcases I with I | I
   case' inl=>
    obtain⟨l,rfl⟩:∃ l,h= .arr l:=by cases h<;>first | exact⟨_,rfl⟩ | cases I
    have S:c=91:=c5.2 rfl;have f1:(((ze (ct (.arr l)))[0].toNat:Int) !=91)=false:=by rw[hc,S];rfl
    have f3:(((ze (ct (.arr l)))[0].toNat:Int) ==123)=false:=by rw[hc,S];rfl
    have hpe:(zm (.arr l)).length=l.toL.length:=by simpa using congrArg List.length (Ub l)
    rw[hpe]at O hpl;have HIX:Hid (∀ wx,Calls prog 124 #[.string (ze t)] wx (Rk (.int .i64 (JP t)) wx)):=fun wx=>by
     have:=Bo (ze t) wx (by rw[Zw];exact K)
     rwa [Zf]at this
    obtain⟨q,hq⟩:∃ q,((ze t).toList ==[45])=q:=⟨_,rfl⟩;obtain⟨Z,hZ⟩:∃ Z:Int,Z=if q then (l.toL.length:Int)else JP t:=⟨_,rfl⟩
    have Q:R=if 0<=Z/\Z<=l.toL.length then some (ZS v xs (.arr (JL.ofL (l.toL.take Z.toNat++u :: l.toL.drop Z.toNat))))else none:=by
     rw[G,hZ,← hq,ByteArray.toList_eq,Zf];simp only[Z9,yC];by_cases hd:t=[45]
     ·simp only[hd,if_true,Int.toNat_natCast,ye,Int.le_refl,and_true];rw[yg (by omega)];rfl
     ·simp only[hd,if_false];unfold JP
      cases qZ t with
      | none=>rfl
      | some i=>
       simp only[Int.toNat_natCast];by_cases hi:i<=l.toL.length
       ·rw[yg hi,yg (by omega)];rfl
       ·rw[yf hi,yf (by omega)];rfl
    have HP:Hid (∀ i:Nat,Z=i->i<=l.toL.length->Z9 (.arr l) t u=some (.arr (JL.ofL (l.toL.take i++u :: l.toL.drop i)))):=fun i H h2=>by
     rw[H,yg (by omega)]at Q;rw[G]at Q;simp only[Z9]at Q ⊢;rw[hZ,← hq,ByteArray.toList_eq,Zf]at H;simp only[yC]at H;by_cases hd:t=[45]
     ·simp only[hd,if_true]at H ⊢;rw[show i=l.toL.length by omega,yg (ye _)]
     ·simp only[hd,if_false]at H ⊢;unfold JP at H
      cases hi:qZ t with
      | none=>rw[hi]at H;simp only at H;omega
      | some j=>rw[hi]at H;simp only at H;rw[show j=i by omega];simp only;rw[yg h2]
    have HZ:=zb hZ;have Y:=zb Q;have f:Hid (∀ (i:Nat) (wx:Wo),i<=l.toL.length->Calls prog 123 #[.string (ze (ct (.arr l))),.int .i64 (i:Int),.bool false,.bool true,.agg #[.string (ze t),.string (ze (ct u))]] wx (Rb (.string (ze (ct (.arr (JL.ofL (l.toL.take i++u :: l.toL.drop i)))))) wx)):=fun i wx hi=>uh f i _ wx (by omega) (Ax hi);clear hZ Q hpe S
   case' inr=>
    obtain⟨m,rfl⟩:∃ m,h= .obj m:=by cases h<;>first | exact⟨_,rfl⟩ | cases I
    have C:c=123:=c6.2 rfl;have f1:(((ze (ct (.obj m)))[0].toNat:Int) !=91)=true:=by rw[hc,C];rfl
    have f2:(((ze (ct (.obj m)))[0].toNat:Int) !=123)=false:=by rw[hc,C];rfl
    have f3:(((ze (ct (.obj m)))[0].toNat:Int) ==123)=true:=by rw[hc,C];rfl
    have HV:Hid (∀ wx,Calls prog 122 #[.string (ze t)] wx (Rb (.bool (Lib.validD t)) wx)):=fun wx=>by
     have:=zbq (ze t) wx (by rw[Zw];exact K)
     rwa [Zf]at this
    have HFI:Hid (∀ (wx:Wo) (B:Nat) (r:Value),PR wx B r (zm (.obj m))->Calls prog 91 #[r,.string (ze t)] wx fun e w'=>wx=w'/\∃ z:Int,e= .returned (.int .i64 z)/\Hid (z= -1/\zQ (.obj m) t=none∨0<=z/\∃ c,zQ (.obj m) t=some c)):=fun wx B r hr=>by
     refine (SR B r (zm (.obj m)) t wx hr (by omega)).mono ?_;rintro e w' ⟨rfl,⟨rfl,hno⟩ |⟨j,hj,rfl,I⟩⟩
     ·exact⟨rfl,_,rfl,.inl ⟨rfl,TU hno⟩⟩
     ·obtain⟨c,H,_⟩:=TT o.ok o.tw (fun ⟨l,e⟩=>by cases e) hj I;exact⟨rfl,_,rfl,.inr ⟨by omega,c,H⟩⟩
    have N:Hid (∀ c wx,zQ (.obj m) t=some c->Lib.validD t=true->Bw w wx->Calls prog 96 #[.string (ze (ct v)),.slice (some ⟨g,off,none⟩) (xs.length+1) cap,.string (ze (ct u))] wx fun e w'=>e= .returned (.string (ze (ct (ZS v xs (qr (.obj m) t u)))))/\Bw wx w'/\R=some (ZS v xs (qr (.obj m) t u))):=fun c wx n hval hx=>by
     have e1:zM v (xs++[t])=some c:=by rw[UE,hg];show zM (.obj m) [t]=_;rw[YL,n];exact Gj c
     have e2:=SW xs v (.obj m) c t u hg n;have e3:=Vy (u:=u) hv e1;have:=U3 (xs++[t]) v u c (some ⟨g,off,none⟩) g off cap wx hv hu e1 hl (by omega) hts (by simp;omega) (by simp;omega) (hss.below hx);rw[e2,yh]at this;refine Calls.mono this ?_;rintro e w' ⟨H,h2⟩;refine⟨H,h2,?_⟩;rw[G];simp only[Z9];rw[yg hval,n];rfl
    have M:Hid (zQ (.obj m) t=none->Lib.validD t=true->Z9 (.obj m) t u=some (.obj (JM.ofL (m.toL++[(t,u)])))/\R=some (ZS v xs (.obj (JM.ofL (m.toL++[(t,u)]))))):=fun n hval=>by
     have e:Z9 (.obj m) t u=some (.obj (JM.ofL (m.toL++[(t,u)]))):=by simp only[Z9];rw[yg hval,n];rfl
     exact⟨e,by rw[G,e];rfl⟩
    have HN:Hid (Lib.validD t=false->R=none):=fun hval=>by rw[G];simp only[Z9];rw[yf (by rw[hval];simp)];rfl
    have f:=zb fun wx n=>uh f 0 _ wx (by omega) (Ay o n);clear C
   all_goals
    clear hc c5 c6 I hR G hg o hlh hss U T hv hu hl hul hts K hcap;go_in;go_wp2_with fail;refine (uh s).mono ?_;rintro e V ⟨rfl,b1⟩;have c1:=uh y V b1;have kA:=yG V (.cells #[.string (ze t),.string (ze (ct u))] 99);have bA:=zh b1 (QF V (.cells #[.string (ze t),.string (ze (ct u))] 99));have E:Hid (∀ wx,Below (V.alloc (.cells #[.string (ze t),.string (ze (ct u))] 99)).heap.size (V.alloc (.cells #[.string (ze t),.string (ze (ct u))] 99)) wx->wx.cell? ⟨V.heap.size,0,none⟩=some (.string (ze t))/\wx.cell? ⟨V.heap.size,1,none⟩=some (.string (ze (ct u)))):=fun wx hx=>by
     have k:=(hx.block V.heap.size (yB.1 kA).1).trans kA;exact⟨yF k 0,yF k 1⟩
    have cA:=uh y _ bA;have HBA:=zb bA;clear s b1 kA bA;go_wp2_with fail;generalize (V.alloc (.cells #[.string (ze t),.string (ze (ct u))] 99))=wA at *
   ·refine (uh HV _).mono ?_;rintro e w2 ⟨rfl,b2⟩;have L:=zb (zh (uh HBA) b2);have bD:Bw w w2.drew:=(uh L).drew;have cD:=uh y w2.drew bD;have X:=zb b2;clear HV b2 c1 cA
    cases hval:Lib.validD t with
    | false=>
     have HN:=zb (uh HN hval);clear hval;go_wp2;go_ret2;exact⟨by rw[uh HN];rfl,uh L⟩
    | true=>
     have HVT:=zb hval;clear hval HN;go_wp2_with fail;go_region_law (first
      |(have hq:=P;go_simp;refine (uh HFI _ _ _ p4).mono ?_;rintro e w5 ⟨rfl,z,rfl,HZ⟩)
      |(go_simp;refine (uh O _).mono ?_;rintro e w4 ⟨xa,xc,rfl,p4,b4⟩;have P:=zh bD b4;have c4:=uh y w4 P))
     all_goals
      have HB4:=zb P;have bP:=zh (uh X).drew b4;have J:Bw w w4.drew:=P.drew;have F:=bP.drew;obtain⟨y0,y1⟩:=uh E w4.drew F;clear b4 p4 c4 O HFI cD bD P bP;rcases uh HZ with ⟨rfl,n⟩ |⟨hz,c,n⟩
      ·obtain⟨hp,hr⟩:=uh M n (uh HVT);have d:=zb fun wx=>uh d _ wx hp;have f:=zb fun wx=>uh f wx n;have Y:=zb hr;generalize (JV.obj (JM.ofL (m.toL++[(t,u)])))=D at *;clear hp hr n HZ M N;go_wp2_with fail;go_region_law (first
        |(have hq:=A;go_simp;refine (uh d _ A).mono ?_;rintro e w7 ⟨rfl,b7⟩)
        |(go_simp;refine (uh f _).mono ?_;rintro e w6 ⟨rfl,W⟩;have A:=zh J W;have z6:=uh E w6 (zh F W);have z0:=z6.1;have z1:=z6.2))
       all_goals
        have HBF:=zb (zh A b7);clear W A b7 J F z6 z0 z1 y0 y1 d f E y;go_wp2;go_ret2;exact⟨by rw[uh Y];rfl,uh HBF⟩
      ·have HS:=zb (uh N c w4 n (uh HVT) (uh HB4));clear d y E HZ n M N f y0 y1 J F;go_wp2_with fail;refine (uh HS).mono ?_;rintro e w6 ⟨rfl,W,hr⟩;have HB6:=zb (zh (uh HB4) W);have Y:=zb hr;clear HS W hr;go_wp2;go_ret2;exact⟨by rw[uh Y];rfl,uh HB6⟩
   ·refine (uh O _).mono ?_;rintro e w2 ⟨xa,xc,rfl,-,b2⟩;have hB2:=zh (uh HBA) b2;have c2:=uh y w2 hB2;have L:=zb hB2;have X:=zb b2;clear O hB2 b2 c1 cA;go_wp2_with fail;refine (uh HIX _).mono ?_;rintro e w2' ⟨rfl,rfl⟩;clear HIX;go_upto_if 90 with fail;go_cut [14]from 86 to 91 (fun x wx=>x= .int .i64 Z/\w2=wx)
    case first=>cases q<;>(go_wp2;go_meet;case rel=>exact⟨by rw[uh HZ];rfl,rfl⟩)
    obtain⟨rfl,rfl⟩:=hcut;by_cases hz:0<=Z/\Z<=l.toL.length
    ·rw[yg hz]at Y;obtain⟨i,rfl⟩:∃ i:Nat,Z=i:=⟨Z.toNat,by omega⟩;have hin:i<=l.toL.length:=by omega
     have HP:=zb (uh HP i rfl hin);have f:=zb fun wx=>uh f i wx hin;have d:=zb fun wx=>uh d _ wx (uh HP);have hzl:¬ (i:Int)<0:=by omega
     have hzl2:¬ (l.toL.length:Int)<(i:Int):=by omega
     have J:Bw w w2.drew:=(uh L).drew;have F:=(uh X).drew;obtain⟨y0,y1⟩:=uh E w2.drew F;rw[Int.toNat_natCast]at Y;generalize (JV.arr (JL.ofL (l.toL.take i++u :: l.toL.drop i)))=D at *;clear hz HP;go_wp2_with fail;go_region_law (first
      |(have hq:=A;go_simp;refine (uh d _ A).mono ?_;rintro e w7 ⟨rfl,b7⟩)
      |(go_simp;refine (uh f _).mono ?_;rintro e w6 ⟨rfl,W⟩;have A:=zh J W;have z6:=uh E w6 (zh F W);have z0:=z6.1;have z1:=z6.2))
     all_goals
      have HBF:=zb (zh A b7);clear W A b7 J F z6 z0 z1 y0 y1 d f E y;go_wp2;go_ret2;exact⟨by rw[uh Y];rfl,uh HBF⟩
    ·rw[yf hz]at Y;have hz:(Z<0)=True∨(Z<0)=False/\((l.toL.length:Int)<Z)=True:=by
      by_cases h:Z<0
      ·exact .inl (eq_true h)
      ·exact .inr ⟨yQ h,eq_true (by omega)⟩
     clear E X d f HP y HZ;rcases hz with H |⟨H,h2⟩<;>(go_wp2;go_ret2;exact⟨by rw[uh Y];rfl,uh L⟩)
  ·have HN:Hid (R=none):=by show _=_;rw[G];cases h<;>first | rfl | exact absurd (.inl rfl) I | exact absurd (.inr rfl) I
   have f1:(((ze (ct h))[0].toNat:Int) !=91)=true:=by
    rw[hc];simp;intro e;exact I (.inl (c5.1 (by omega)))
   have f2:(((ze (ct h))[0].toNat:Int) !=123)=true:=by
    rw[hc];simp;intro e;exact I (.inr (c6.1 (by omega)))
   clear hc c5 c6 I hg o hlh y hss U T hv hu hl hul hts K hcap hR G;go_in;go_wp2_with fail;refine (uh s).mono ?_;rintro e V ⟨rfl,b1⟩;have HB1:=zb b1;clear s b1;go_wp2;go_ret2;exact⟨by rw[uh HN];rfl,uh HB1⟩
theorem Dt{α:Type} [DecidableEq α]:∀ (a b:List α),a.Nodup->(∀ x∈a,x∈b)->b.length<=a.length->a.Perm b
 | [],b,_,_,h=>by
  have:b=[]:=List.length_eq_zero_iff.1 (by simpa using h);rw[this]
 | x :: r,b,hn,hs,h=>by
  have hx:=hs x yp;rw[List.nodup_cons]at hn;have f:(b.erase x).length+1=b.length:=by
   rw[List.length_erase_of_mem hx];have:=List.length_pos_of_mem hx;omega
  have d:=Dt r (b.erase x) hn.2 (fun y hy=>(List.mem_erase_of_ne (by intro e;subst e;exact hn.1 hy)).2 (hs y (yv _ hy))) (by rw[yn]at h;omega);exact (d.cons x).trans (List.perm_cons_erase hx).symm
theorem AH{α β:Type}{l:List (α×β)}(h:(l.map (·.1)).Nodup):l.Nodup:=by
 unfold List.Nodup at h ⊢;rw[List.pairwise_map]at h;exact h.imp fun hab e=>hab (by rw[e])
theorem O9{α β:Type}:∀ {l:List (α×β)} {p q:α×β},(l.map (·.1)).Nodup->p∈l->q∈l->p.1=q.1->p=q
 | [],_,_,_,h,_,_=>by cases h
 | x :: r,p,q,hn,hp,hq,e=>by
  rw[yi,List.nodup_cons]at hn;rcases List.mem_cons.1 hp with e1 | hp
  ·rcases List.mem_cons.1 hq with e2 | hq
   ·rw[e1,e2]
   ·exact absurd (yO.2 ⟨q,hq,by rw[← e,e1]⟩) hn.1
  ·rcases List.mem_cons.1 hq with e2 | hq
   ·exact absurd (yO.2 ⟨p,hp,by rw[e,e2]⟩) hn.1
   ·exact O9 hn.2 hp hq e
theorem Du{l m:JL}(hl:zx (.arr l))(hm:zx (.arr m)):ct (.arr l)=ct (.arr m)↔l.toL.map ct=m.toL.map ct:=by
 rw[← qR,← qR];constructor
 ·intro h;have a:=hl.ok;have b:=hm.ok;rw[zF]at a b;exact zdM a b h
 ·intro h;rw[ct,ct,h]
theorem Dv{k m:JM}(hk:zx (.obj k))(hm:zx (.obj m)):ct (.obj k)=ct (.obj m)↔k.toL.length=m.toL.length/\∀ q∈k.toL,∃ u,(q.1,u)∈m.toL/\ct q.2=ct u:=by
 have j:=(QU k).1 hk;constructor
 ·intro h;have f:=hk.ok;have g:=hm.ok;rw[zF]at f g;have a:(zj k).Perm (zj m):=(qL _).symm.trans ((zdN f g h) ▸ qL _);rw[qQ,qQ]at a;refine⟨by simpa using a.length_eq,fun q b=>?_⟩;obtain⟨o,d,e⟩:=yO.1 (a.subset (yO.2 ⟨q,b,rfl⟩));injection e with e1 e2;exact⟨o.2,by rw[← e1];exact d,e2.symm⟩
 ·rintro⟨p,l⟩;have i:((zj k).map (·.1)).Nodup:=by rw[qQ,List.map_map];exact j.1
  have a:(zj k).Perm (zj m):=Dt _ _ (AH i) (fun x hx=>by
   rw[qQ]at hx;obtain⟨q,b,rfl⟩:=yO.1 hx;obtain⟨u,n,e⟩:=l q b;rw[qQ];exact yO.2 ⟨(q.1,u),n,by rw[e]⟩) (by rw[qQ,qQ,yl,yl];omega)
  rw[ct,ct,XC a i]
theorem Dw{l:JL}{u:JV}(h:u∈l.toL):(ct u).length<=(ct (.arr l)).length:=by
 have b:ct (.arr l)=qg (zr l):=by rw[ct]
 rw[b,qR];have d:(ct u).length+1<=((l.toL.map ct).map fun t=>t.length+1).sum:=by
  have:∀ (L:List JV),u∈L->(ct u).length+1<=((L.map ct).map fun t=>t.length+1).sum:=by
   intro L;induction L with
   | nil=>intro h;cases h
   | cons x r ih=>
    intro h;rw[yi,yi,yL];rcases List.mem_cons.1 h with rfl | h
    ·omega
    ·have:=ih h;omega
  exact this _ h
 have a:l.toL.map ct≠[]:=by intro e;rw[List.map_eq_nil_iff]at e;rw[e]at h;cases h
 have:=Ry _ a;show _<=(91 ::(joinC (l.toL.map ct)++[93])).length
 simp only[yn,yh,yD];omega
end Go.Proofs.YtekpghcckdjnhaaGreatDoor
