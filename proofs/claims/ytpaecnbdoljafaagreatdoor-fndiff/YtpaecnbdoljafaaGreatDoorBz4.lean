import Derived.Test.YtpaecnbdoljafaaGreatDoorBz3
import Derived.Lib.ParseIntBCases
import Derived.Lib.ItoaMem
import Derived.Lib.SlicesCompact
set_option maxRecDepth 100000
set_option maxHeartbeats 8000000
namespace Go.Proofs.YtpaecnbdoljafaaGreatDoor
open Go.RowKit Go.Proofs.Tryz
def QG(x:List UInt8):List (List UInt8)->List (List UInt8)
 | []=>[x]
 | y :: r=>if y<x then y :: QG x r else if y=x then y :: r else x :: y :: r
def Qg(l:List (List UInt8)):List (List UInt8):=l.foldl (fun acc x=>QG x acc) []
theorem Sb{z x:List UInt8}:∀ {l:List (List UInt8)},z∈QG x l↔z=x∨z∈l
 | []=>by simp[QG]
 | y :: r=>by
  rw[QG];split
  ·rw[List.mem_cons,Sb,List.mem_cons];constructor
   ·rintro (h | h | h)
    ·exact .inr (.inl h)
    ·exact .inl h
    ·exact .inr (.inr h)
   ·rintro (h | h | h)
    ·exact .inr (.inl h)
    ·exact .inl h
    ·exact .inr (.inr h)
  ·split
   ·rename_i h;subst h;constructor
    ·intro h;exact .inr h
    ·rintro (h | h)
     ·rw[h];exact yq
     ·exact h
   ·rw[List.mem_cons]
theorem Cd{z:List UInt8}:∀ (l acc:List (List UInt8)),z∈l.foldl (fun acc x=>QG x acc) acc↔z∈acc∨z∈l
 | [],acc=>by simp
 | x :: l,acc=>by
  rw[List.foldl_cons,Cd l,Sb,List.mem_cons];constructor
  ·rintro ((h | h) | h)
   ·exact .inr (.inl h)
   ·exact .inl h
   ·exact .inr (.inr h)
  ·rintro (h | h | h)
   ·exact .inl (.inr h)
   ·exact .inl (.inl h)
   ·exact .inr h
theorem WW{z:List UInt8}{l:List (List UInt8)}:z∈Qg l↔z∈l:=by
 unfold Qg;rw[Cd];simp
def Yf(l:List (List UInt8)):Prop:=l.Pairwise (fun a b=>a<b)
theorem Ce{x:List UInt8}:∀ {l:List (List UInt8)},Yf l->Yf (QG x l)
 | [],_=>by simp[QG,Yf]
 | y :: r,h=>by
  unfold Yf at *;rw[List.pairwise_cons]at h;rw[QG];split
  ·rename_i hlt;rw[List.pairwise_cons];refine⟨fun a ha=>?_,Ce h.2⟩;rcases Sb.1 ha with rfl | ha
   ·exact hlt
   ·exact h.1 a ha
  ·split
   ·rw[List.pairwise_cons];exact h
   ·rename_i h1 h2;have hxy:x<y:=by
     rcases Classical.em (x<y)with g | g
     ·exact g
     ·exact absurd (List.le_antisymm (List.not_lt.1 g) (List.not_lt.1 h1)) h2
    rw[List.pairwise_cons,List.pairwise_cons];refine⟨fun a ha=>?_,h⟩;rcases List.mem_cons.1 ha with rfl | ha
    ·exact hxy
    ·exact List.lt_trans hxy (h.1 a ha)
theorem Cf:∀ (l acc:List (List UInt8)),Yf acc->Yf (l.foldl (fun acc x=>QG x acc) acc)
 | [],_,h=>h
 | x :: l,acc,h=>by rw[List.foldl_cons];exact Cf l _ (Ce h)
theorem Cg(l:List (List UInt8)):Yf (Qg l):=Cf l [] List.Pairwise.nil
theorem Ch:∀ {a b:List (List UInt8)},Yf a->Yf b->(∀ z,z∈a↔z∈b)->a=b
 | [],[],_,_,_=>rfl
 | [],y :: _,_,_,h=>by have:=(h y).2 yq;simp at this
 | x :: _,[],_,_,h=>by have:=(h x).1 yq;simp at this
 | x :: r,y :: s,ha,hb,h=>by
  unfold Yf at ha hb;rw[List.pairwise_cons]at ha hb;have e:x=y:=by
   rcases List.mem_cons.1 ((h x).1 yq)with e | d
   ·exact e
   ·rcases List.mem_cons.1 ((h y).2 yq)with e | g
    ·exact e.symm
    ·exact absurd (List.lt_trans (hb.1 x d) (ha.1 y g)) (List.lt_irrefl _)
  subst e;rw[Ch (a:=r) (b:=s) ha.2 hb.2 (fun z=>?_)];constructor
  ·intro f;rcases List.mem_cons.1 ((h z).1 (yw _ f))with e | d
   ·exact absurd (ha.1 z f) (by rw[e];exact List.lt_irrefl _)
   ·exact d
  ·intro f;rcases List.mem_cons.1 ((h z).2 (yw _ f))with e | d
   ·exact absurd (hb.1 z f) (by rw[e];exact List.lt_irrefl _)
   ·exact d
theorem zdP{l:List (List UInt8)}(h:Yf l):l.Nodup:=by
 refine h.imp ?_;intro a b d e;rw[e]at d;exact List.lt_irrefl _ d
def zX(K:List (List UInt8×JV))(key:List UInt8):Option JV:=(K.find? fun q=>q.1 ==key).map (·.2)
def qC:JV->JV->Bool
 | .arr l,.arr m=>l.toL.length ==m.toL.length
 | .obj _,.obj _=>true
 | _,_=>false
def Zc(a b:JV):List (List UInt8):=match a with
 | .arr _=>(zu a).map (·.1)
 | _=>Qg ((zu a).map (·.1)++(zu b).map (·.1))
def qS:Nat->List UInt8->JV->JV->List (List UInt8)
 | 0,_,_,_=>[]
 | n+1,p,a,b=>if qC a b=true then (Zc a b).flatMap fun key=>match zX (zu a) key,zX (zu b) key with
   | some u,some v=>qS n (Zp p key) u v
   | _,_=>[Zp p key]
  else if Qo a b=true then []else [p]
theorem YU{K:List (List UInt8×JV)}{key:List UInt8}{u:JV}(h:zX K key=some u):(key,u)∈K:=by
 unfold zX at h
 cases hf:K.find? fun q=>q.1 ==key with
 | none=>rw[hf]at h;simp at h
 | some q=>
  rw[hf]at h;simp at h;have a:=List.find?_some hf;have b:=List.mem_of_find?_eq_some hf;simp at a;subst h;subst a;exact b
theorem Vb{K:List (List UInt8×JV)}{key:List UInt8}:zX K key=none↔key ∉ K.map (·.1):=by
 unfold zX;rw[Option.map_eq_none_iff,List.find?_eq_none];constructor
 ·intro h b;obtain⟨q,a,e⟩:=yP.1 b;exact h q a (by simp[e])
 ·intro h q a e;exact h (yP.2 ⟨q,a,by simpa using e⟩)
theorem Ci:∀ {K L:List (List UInt8×JV)},K.map kt=L.map kt->∀ key,(zX K key).map ct=(zX L key).map ct
 | [],[],_,_=>rfl
 | [],_ :: _,h,_=>by simp at h
 | _ :: _,[],h,_=>by simp at h
 | q :: K,r :: L,h,key=>by
  rw[yi,yi]at h;injection h with h1 h2;have a:q.1=r.1:=congrArg (fun z:List UInt8×List UInt8=>z.1) h1;have b:ct q.2=ct r.2:=congrArg (fun z:List UInt8×List UInt8=>z.2) h1;have d:=Ci h2 key;unfold zX at *;rw[List.find?_cons,List.find?_cons,a]
  cases hq:r.1 ==key with
  | true=>simp[b]
  | false=>exact d
theorem zdQ{a b:JV}(ha:zD a)(hb:zD b)(h:ct a=ct b):zt a=zt b:=by
 rcases KZ ha hb h with e |⟨l,m,rfl,rfl⟩ |⟨l,m,rfl,rfl⟩
 ·unfold Qo at e;split at e<;>first | rfl | cases e
 ·rw[zD]at ha hb;show qP 0 (zF l)=qP 0 (zF m)
  rw[KX ha hb h]
 ·rw[zD]at ha hb;exact RJ ha hb h
theorem zdR{a b:JV}(ha:zD a)(hb:zD b)(h:ct a=ct b):qC a b=true∨Qo a b=true:=by
 rcases KZ ha hb h with e |⟨l,m,rfl,rfl⟩ |⟨l,m,rfl,rfl⟩
 ·exact .inr e
 ·rw[zD]at ha hb;have:=congrArg List.length (KX ha hb h);rw[Z6,Z6,yl,yl]at this;left;simp[qC,this]
 ·exact .inl rfl
theorem UV{a b:JV}(hc:qC a b=true){key:List UInt8}(h:key∈Zc a b):key∈(zu a).map (·.1)∨key∈(zu b).map (·.1):=by
 unfold Zc at h;split at h
 ·exact .inl h
 ·rw[WW,List.mem_append]at h;exact h
theorem Cj:∀ (n:Nat) (p:List UInt8) (a b:JV),zD a->zD b->zw a=false->zw b=false->ct a=ct b->qS n p a b=[]
 | 0,_,_,_,_,_,_,_,_=>rfl
 | n+1,p,a,b,ha,hb,ta,tb,h=>by
  rw[qS];have hps:=zdQ ha hb h;rw[UR,UR]at hps;split
  ·rename_i hc;rw[List.flatMap_eq_nil_iff];intro d k;have g:=Ci hps d;have f:(zu a).map (·.1)=(zu b).map (·.1):=by
    have:=congrArg (List.map Prod.fst) hps;rw[List.map_map,List.map_map]at this;exact this
   have j:d∈(zu a).map (·.1):=by
    rcases UV hc k with h | h
    ·exact h
    ·rw[f];exact h
   cases hu:zX (zu a) d with
   | none=>exact absurd j (Vb.1 hu)
   | some u=>
    rw[hu]at g
    cases hv:zX (zu b) d with
    | none=>rw[hv]at g;simp at g
    | some v=>
     rw[hv]at g;simp at g;obtain⟨l,m,_,_⟩:=JG ha ta (YU hu);obtain⟨o,q,_,_⟩:=JG hb tb (YU hv);exact Cj n _ u v l o m q g
  ·rename_i hc;rcases zdR ha hb h with i | i
   ·exact absurd i hc
   ·rw[yg i]
def Qv:Option JV->Nat
 | none=>0
 | some v=>zj v
theorem Sc(f:List UInt8->Nat)(x:List UInt8)(c:Nat):∀ keys:List (List UInt8),keys.Nodup->(keys.map fun k=>if x ==k then c else f k).sum<=c+(keys.map f).sum
 | [],_=>by simp
 | k :: r,h=>by
  rw[List.nodup_cons]at h;have ih:=Sc f x c r h.2;rw[yi,yi,yM,yM];by_cases e:x ==k
  ·rw[yg e];have:(r.map fun k=>if x ==k then c else f k)=r.map f:=List.map_congr_left (fun y hy=>by
    rw[yf];intro a;rw[yD]at e a;exact h.1 (by rw[← e,a];exact hy))
   rw[this];omega
  ·rw[yf e];omega
theorem Xf:∀ (K:List (List UInt8×JV)) (keys:List (List UInt8)),keys.Nodup->(keys.map fun k=>Qv (zX K k)).sum<=(K.map fun q=>zj q.2).sum
 | [],keys,_=>by
  have:(keys.map fun k=>Qv (zX [] k))=keys.map fun _=>0:=List.map_congr_left (fun _ _=>rfl);rw[this];have:∀ l:List (List UInt8),(l.map fun _=>0).sum=0:=by intro l;induction l with
   | nil=>rfl
   | cons x r ih=>simpa using ih
  rw[this];simp
 | q :: K,keys,h=>by
  have e:(keys.map fun k=>Qv (zX (q :: K) k))=keys.map fun k=>if q.1 ==k then zj q.2 else Qv (zX K k):=List.map_congr_left (fun k _=>by
   unfold zX;rw[List.find?_cons]
   cases hq:q.1 ==k with
   | true=>simp[Qv]
   | false=>rfl)
  rw[e,yi,yM];have:=Sc (fun k=>Qv (zX K k)) q.1 (zj q.2) keys h;have:=Xf K keys h;omega
theorem Xg{a b:JV}(ta:zw a=false):(Zc a b).Nodup:=by
 unfold Zc;split
 ·rename_i l;show ((ZX 0 l.toL).map (·.1)).Nodup
  rw[List.nodup_iff_pairwise_ne,List.pairwise_map,List.pairwise_iff_getElem];intro i j f g d;rw[GN,GN];intro e;have:=WN e;omega
 ·exact zdP (Cg _)
theorem Sd{α β:Type}(f:α->List β)(g:α->Nat):∀ l:List α,(∀ x∈l,(f x).length<=g x)->(l.flatMap f).length<=(l.map g).sum
 | [],_=>by simp
 | x :: r,h=>by
  rw[List.flatMap_cons,yh,yi,yM];have:=h x yq;have:=Sd f g r (fun y hy=>h y (yw _ hy));omega
theorem Se{α:Type}(f g:α->Nat):∀ l:List α,(l.map fun x=>f x+g x).sum=(l.map f).sum+(l.map g).sum
 | []=>rfl
 | x :: r=>by simp only[yi,yM,Se f g r];omega
def cw(a b:JV)(key:List UInt8):Nat:=Qv (zX (zu a) key)+Qv (zX (zu b) key)
def qT(n:Nat)(p:List UInt8)(a b:JV)(key:List UInt8):List (List UInt8):=match zX (zu a) key,zX (zu b) key with
 | some u,some v=>qS n (Zp p key) u v
 | _,_=>[Zp p key]
theorem F8{n:Nat}{p:List UInt8}{a b:JV}(h:qC a b=true):qS (n+1) p a b=(Zc a b).flatMap (qT n p a b):=by
 rw[qS,yg h];rfl
theorem Sf:∀ (n:Nat) (p:List UInt8) (a b:JV),zD a->zD b->zw a=false->zw b=false->(qS n p a b).length+1<=zj a+zj b
 | 0,p,a,b,_,_,_,_=>by
  have:=qz a;have:=qz b;simp[qS];omega
 | n+1,p,a,b,ha,hb,ta,tb=>by
  have o:=qz a;have q:=qz b;by_cases d:qC a b=true
  ·rw[F8 d];have g:=Sd (qT n p a b) (cw a b) (Zc a b) (fun key hk=>by
    unfold qT cw
    cases hu:zX (zu a) key with
    | none=>
     cases hv:zX (zu b) key with
     | none=>
      rcases UV d hk with h | h
      ·exact absurd h (Vb.1 hu)
      ·exact absurd h (Vb.1 hv)
     | some v=>have:=qz v;simp[Qv];omega
    | some u=>
     have f:=qz u
     cases hv:zX (zu b) key with
     | none=>simp[Qv];omega
     | some v=>
      obtain⟨i,j,_,_⟩:=JG ha ta (YU hu);obtain⟨l,m,_,_⟩:=JG hb tb (YU hv);have:=Sf n (Zp p key) u v i l j m;simp only[Qv];omega)
   have e:((Zc a b).map (cw a b)).sum=((Zc a b).map fun k=>Qv (zX (zu a) k)).sum+((Zc a b).map fun k=>Qv (zX (zu b) k)).sum:=Se _ _ _;have s1:=Xf (zu a) _ (Xg (a:=a) (b:=b) ta);have s2:=Xf (zu b) _ (Xg (a:=a) (b:=b) ta);have r:=JH a;have s:=JH b;omega
  ·rw[qS,yf d];split
   ·simp;omega
   ·simp;omega
theorem Ck:∀ {K:List (List UInt8×JV)} {j:Nat} {key:List UInt8},(K.map (·.1)).Nodup->(h:j<K.length)->K[j].1=key->zX K key=some K[j].2
 | q :: K,0,key,_,_,e=>by
  have e':q.1=key:=e;unfold zX;rw[List.find?_cons,show (q.1 ==key)=true from by rw[yD];exact e'];rfl
 | q :: K,j+1,key,hn,h,e=>by
  rw[yi,List.nodup_cons]at hn;have b:j<K.length:=by simpa using h
  have e':K[j].1=key:=e;have f:=Ck hn.2 b e';have a:(q.1 ==key)=false:=by
   rw[yd];intro d;exact hn.1 (by rw[d,← e'];exact yP.2 ⟨_,yt b,rfl⟩)
  unfold zX at *;rw[List.find?_cons,a];exact f
theorem Cl:∀ (k n:Nat),n<10 ^ (k+1)->(zM n).length<=k+1:=by
 intro k;induction k with
 | zero=>intro n a;rw[Jb (by omega)];simp
 | succ k ih=>
  intro n a;by_cases h:n<10
  ·rw[Jb h];simp
  ·rw[GD h,yh];have b:=ih (n / 10) (by rw[Nat.pow_succ]at a;omega);rw[Jb (n:=n % 10) (by omega)];simp;omega
theorem Cm{n:Nat}(h:n<1000000):Z8 (zM n)=some n:=by
 obtain⟨b,d,f,g⟩:=KO n;have i:=Cl 5 n h;have a:GL (zM n)=true:=Yx.2 ⟨by cases hd:zM n with
  | nil=>exact absurd hd b
  | cons c r=>simp,i,g,d⟩
 unfold Z8;rw[yg a,f]
theorem Cn{v:JV}{q:List UInt8×JV}(htw:zw v=false)(hc:zj v<=1000000)(hq:q∈zu v):zn v q.1=some q.2:=by
 cases v with
 | arr l=>
  have a:q∈ZX 0 l.toL:=hq;obtain⟨j,b,rfl⟩:=List.getElem_of_mem a;have f:j<l.toL.length:=by rw[Vz]at b;exact b
  have h:j<1000000:=by
   have i:=JH (.arr l);have k:(ZX 0 l.toL).length<=((ZX 0 l.toL).map fun q=>zj q.2).sum:=by
    have:∀ K:List (List UInt8×JV),K.length<=(K.map fun q=>zj q.2).sum:=by
     intro K;induction K with
     | nil=>exact yu _
     | cons x r ih=>rw[yp,yi,yM];have:=(qz x.2).2;have:=(qz x.2).1;omega
    exact this _
   have n:((zu (.arr l)).map fun q=>zj q.2).sum=((ZX 0 l.toL).map fun q=>zj q.2).sum:=rfl;omega
  rw[GN];simp only[Nat.zero_add];rw[ql,Cm h];simp[f]
 | obj m=>
  have a:q∈JF m.toL:=hq;have g:q∈m.toL:=(Yy _).subset a;rw[zw]at htw;have d:(m.toL.map (·.1)).Nodup:=by rw[← Qs];exact (WD m [] htw).1
  rw[Qb];obtain⟨j,b,e⟩:=List.getElem_of_mem g;have:=Ck d b (key:=q.1) (by rw[e]);rw[e]at this;exact this
 | nul=>simp[zu]at hq
 | tt=>simp[zu]at hq
 | ff=>simp[zu]at hq
 | num l=>simp[zu]at hq
 | str l=>simp[zu]at hq
theorem Co{v:JV}{key:List UInt8}(h:key ∉ (zu v).map (·.1)):zn v key=none:=by
 refine RB fun j hj e=>h ?_;have b:=UR v;have a:j<(zu v).length:=by rw[b,yl]at hj;exact hj
 refine yP.2 ⟨(zu v)[j],yt a,?_⟩;rw[← e];simp only[b,List.getElem_map];rfl
theorem Xh{v:JV}(htw:zw v=false)(hc:zj v<=1000000)(key:List UInt8):zX (zu v) key=zn v key:=by
 cases h:zX (zu v) key with
 | none=>exact (Co (Vb.1 h)).symm
 | some u=>exact (Cn htw hc (YU h)).symm
def JK(p:List UInt8):List (List UInt8)->List UInt8
 | []=>p
 | k :: r=>JK (Zp p k) r
def WX(o:Option JV)(ts:List (List UInt8)):Option JV:=o.bind fun u=>zr u ts
theorem Cp(o:Option JV):WX o []=o:=by cases o<;>simp[WX,zr]
theorem Cq{a:JV}(htw:zw a=false)(hc:zj a<=1000000)(key:List UInt8)(ts:List (List UInt8)):WX (some a) (key :: ts)=WX (zX (zu a) key) ts:=by
 rw[Xh htw hc];simp[WX,zr]
theorem Cr(x:List UInt8):∀ l:List (List UInt8),(QG x l).length<=l.length+1
 | []=>by simp[QG]
 | y :: r=>by
  rw[QG];split
  ·have:=Cr x r;simp;omega
  ·split<;>simp
theorem Cs(l:List (List UInt8))(x:List UInt8):Qg (l++[x])=QG x (Qg l):=by
 unfold Qg;rw[List.foldl_append];rfl
theorem F9:∀ (n:Nat) (l:List (List UInt8)),l.length=n->(Qg l).length<=n:=by
 intro n;induction n with
 | zero=>intro l h;rw[yO h];simp[Qg]
 | succ n ih=>
  intro l h;rcases List.eq_nil_or_concat l with rfl |⟨a,x,rfl⟩
  ·simp at h
  ·rw[List.concat_eq_append]at h ⊢;rw[Cs];have b:=Cr x (Qg a);have d:=ih a (by simpa using h);omega
theorem Ct(x:List UInt8):∀ (A:List (List UInt8)) (j:Nat),(∀ i (h:i<A.length),i<j->A[i]<x)->(h:j<A.length)->¬ A[j]<x->QG x A=if A[j]=x then A else A.take j++x :: A.drop j
 | y :: r,0,_,_,hn=>by
  have hn':¬ y<x:=hn;rw[QG,yf hn'];show _=if y=x then _ else _
  split<;>rfl
 | y :: r,j+1,hA,h,hn=>by
  have a:y<x:=hA 0 (by simp) (by omega);have b:=Ct x r j (fun i hi hij=>hA (i+1) (by simpa using hi) (by omega)) (by simpa using h) hn;rw[QG,yg a,b];show _=if r[j]'(by simpa using h)=x then _ else _
  split<;>rfl
theorem Cu(x:List UInt8):∀ (A:List (List UInt8)),(∀ i (h:i<A.length),A[i]<x)->QG x A=A++[x]
 | [],_=>rfl
 | y :: r,h=>by
  have h0:y<x:=h 0 (by simp);rw[QG,yg h0,Cu x r (fun i hi=>h (i+1) (by simpa using hi))];rfl
theorem zdS{a b:List UInt8}(h:a<b):Op.bytesLess (zh a).toList (zh b).toList=true:=by
 rw[bytesLess_eq,ByteArray.toList_eq,ByteArray.toList_eq,Za,Za];exact yj h
theorem zdT{a b:List UInt8}(h:¬ a<b):Op.bytesLess (zh a).toList (zh b).toList=false:=by
 rw[bytesLess_eq,ByteArray.toList_eq,ByteArray.toList_eq,Za,Za];exact yk h
def Vc(w:Wo)(B:Nat)(v:Value)(ts:List (List UInt8)):Prop:=OT w B v ts/\∃ g cap,v= .slice (some ⟨g,0,none⟩) ts.length cap/\B<=g/\g<w.heap.size/\ts.length<=cap/\∀ j u,(ts.map QJ)[j]?=some u->w.cell? ⟨g,j,none⟩=some u
theorem Vc.of{w:Wo}{B:Nat}{v:Value}{ts:List (List UInt8)}(h:OT w B v ts)(hn:v≠.slice none 0 0):Vc w B v ts:=by
 refine⟨h,?_⟩;rcases h.2 with ⟨d,_⟩ |⟨g,a,f,d,i,k,b,_⟩
 ·exact absurd d hn
 ·subst d;refine⟨g,a,rfl,i,(yC.1 k).1,b,fun j u hj=>?_⟩;have:=World.ownsRow.cells h rfl j u hj
  rwa [show ((⟨g,0,none⟩:Addr).add j)=⟨g,j,none⟩from by simp[Addr.add];omega]at this
theorem zdU{ts:List (List UInt8)}{j:Nat}(h:j<ts.length):(ts.map QJ)[j]?=some (.string (zh ts[j])):=by
 rw[List.getElem?_map,yy h];rfl
theorem zdV{A:List (List UInt8)}{j i:Nat}{u:Value}(h:((A.take j).map QJ)[i]?=some u):(A.map QJ)[i]?=some u:=by
 rw[List.map_take]at h;rw[List.getElem?_take]at h;split at h
 ·exact h
 ·cases h
theorem zdW{A:List (List UInt8)}{j i:Nat}{u:Value}(h:((A.drop j).map QJ)[i]?=some u):(A.map QJ)[j+i]?=some u:=by
 rwa [List.map_drop,List.getElem?_drop]at h
theorem Oa(ts:List (List UInt8)):∀ u∈ts.map QJ,u.oneCell'=true:=by
 intro u a;obtain⟨t,_,rfl⟩:=yP.1 a;rfl
theorem zdX{B:Nat}(v:Value)(ts:List (List UInt8))(w:Wo)(h:OT w B v ts)(hn:ts.length<=1000000):
  Calls prog 44 #[v] w fun e w'=>∃ r,e= .returned r/\OT w' w.heap.size r (Qg ts)/\Bw w w':=by
 obtain⟨i0,O,J,K,L⟩:=info_parts Vi;obtain⟨a,Z,cap0,rfl,hs,_⟩:=h.shape;have M:=hs.ad;have HC:=ze hs.cell;rw[yl]at M;simp only[yl]at HC;clear h hs;have aj:Hid (Vc (w.alloc (.cells #[] 9)) w.heap.size (.slice (some ⟨w.heap.size,0,none⟩) 0 0) []):=Vc.of (World.ownsRow_lit w #[] 0 (ye _) (by unfold maxLen;omega) rfl) (by intro e;cases e);have aa:Hid (Bw w (w.alloc (.cells #[] 9))):=(yI _ _).alloc (ye _) _;go_in;go_wp2_with fail;go_loopw [3,4] (fun u i wr=>∃ k:Nat,k<=ts.length/\i= .int .i64 (k:Int)/\Vc wr w.heap.size u (Qg (ts.take k))/\Bw w wr) (fun _ i _=>ts.length - (intOf i).toNat)
 case atStart=>exact⟨0,yu _,rfl,uh aj,uh aa⟩
 case round=>
  obtain⟨k,P,rfl,ho,hb⟩:=hrel;clear aj aa;have hAl:(Qg (ts.take k)).length<=1000000:=by
   have:=F9 k (ts.take k) (by rw[ym];omega);omega
  by_cases V:k<ts.length
  ·have hltI:(k:Int)<(ts.length:Int):=by omega
   obtain rfl:=M (by omega);have n:=uh HC k V;have hg0:Z<w.heap.size:=yK _ _ n;have ap:(ts.map zH).getD k ByteArray.empty=zh ts[k]:=by simp[List.getD,V,zH,zh]
   rw[ap,Nat.zero_add]at n;have af:Hid (∀ X:Wo,Bw w X->X.cell? ⟨Z,k,none⟩=some (.string (zh ts[k]))):=fun X hX=>(hX.cell (p:=⟨Z,k,none⟩) hg0).trans n;have HS:Hid (Qg (ts.take (k+1))=QG ts[k] (Qg (ts.take k))):=by
    show _=_
    rw[yz V,Cs]
   obtain⟨hO,g,f,rfl,hgB,hgl,hcap,C⟩:=ho;have HO:=ze hO;have HCELL:=ze C;have HB:=ze hb;generalize ts[k]=x at *;generalize Qg (ts.take k)=A at *;clear HC n ap hO C hb;go_wp2_with fail;go_loopw [5] (fun p wx=>∃ j:Nat,j<=A.length/\p= .int .i64 (j:Int)/\OT wx w.heap.size (.slice (some ⟨g,0,none⟩) A.length f) A/\Bw w wx/\∀ i (h:i<A.length),i<j->A[i]<x) (fun p _=>A.length - (intOf p).toNat)
   case atStart=>exact⟨0,yu _,rfl,uh HO,uh HB,fun i _ h=>by omega⟩
   case round=>
    obtain⟨j,hj,rfl,ar,T,N⟩:=hrel;have b:=ze N;have z:=ze ar;have H:=ze T;have R:Hid (∀ (X:Wo),OT X w.heap.size (.slice (some ⟨g,0,none⟩) A.length f) A->g<X.heap.size/\∀ i u,(A.map QJ)[i]?=some u->X.cell? ⟨g,i,none⟩=some u):=fun X hX=>by
     obtain⟨_,g',cap',he,_,h2,_,h3⟩:=Vc.of hX (by intro e;cases e);injection he with he1 _ _;injection he1 with he1;injection he1 with he1;subst he1;exact⟨h2,h3⟩
    have ck:=uh af _ T;clear N ar T HO HB;by_cases aq:j<A.length
    case' pos=>
     have hjI:(j:Int)<(A.length:Int):=by omega
     have cj:=(uh R _ (uh z)).2 j _ (zdU aq);by_cases o:A[j]<x
     ·have U:=zdS o;have HA2:Hid (∀ i (h:i<A.length),i<j+1->A[i]<x):=fun i O hij=>by
       by_cases e:i=j
       ·subst e;exact o
       ·exact uh b i O (by omega)
      clear o b;generalize A[j]=y at *;go_wp2_with fail;go_quiet (fail);go_wp2;go_roundw
      case rel=>exact⟨j+1,by omega,by go_num,uh z,YQ (uh H) _,uh HA2⟩
      case measure=>simp[intOf];omega
     have U:=zdT o;have m:=ze (Ct x A j (uh b) aq o);have am:=Fm A[j] x;clear o b;by_cases q:A[j]=x
     ·have t2:(A[j] ==x)=true:=by rw[yD];exact q
      rw[t2]at am;have s:Hid (QG x A=A):=by show _=_;rw[uh m,yg q]
      clear q t2 m;generalize A[j]=y at *;go_wp2_with fail;go_quiet (fail);go_wp2_with fail;go_quiet (fail);go_wp2;exact⟨⟨k+1,by omega,by go_num,by rw[uh HS,uh s];exact Vc.of (uh z) (by intro e;cases e),YQ (uh H) _⟩,by simp[intOf];omega⟩
     have t2:(A[j] ==x)=false:=by rw[yd];exact q
     rw[t2]at am;have s:Hid (QG x A=A.take j++x :: A.drop j):=by show _=_;rw[uh m,yf q]
     clear q t2 m;generalize A[j]=y at *
    case' neg=>
     have hjI:¬ (j:Int)<(A.length:Int):=by omega
     have s:Hid (QG x A=A.take j++x :: A.drop j):=by
      show _=_
      rw[Cu x A (fun i O=>uh b i O (by omega)),yr (by omega),List.drop_of_length_le (by omega)]
     clear b
    all_goals
     go_wp2_with fail;go_quiet (fail);have ak:Hid (OT (wr.drewN nq) w.heap.size (.slice (some ⟨g,0,none⟩) A.length f) A):=uh z;have ab:Hid (Bw w (wr.drewN nq)):=YQ (uh H) _;have ck1:(wr.drewN nq).cell? ⟨Z,k,none⟩=some (.string (zh x)):=ck;try have cj1:(wr.drewN nq).cell? ⟨g,j,none⟩=some (.string (zh y)):=cj
     try clear cj
     clear z H ck;generalize wr.drewN nq=W1 at *;go_wp2_with fail;go_quiet (fail);have al:Hid (OT (W1.drewN nq) w.heap.size (.slice (some ⟨g,0,none⟩) A.length f) A):=uh ak;have Q:Hid (Bw w (W1.drewN nq)):=YQ (uh ab) _;try clear cj1
     clear ak ab ck1;generalize W1.drewN nq=W at *;have hgW:=(uh R W (uh al)).1;have ag:=ze (uh R W (uh al)).2;have bW:=(uh Q);have I:=bW.size;have cx:=uh af W bW;have F:(W.alloc (.cells #[] 9)).ownsRow W.heap.size 9 1 (.slice (some ⟨W.heap.size,0,none⟩) 0 0) 0 []:=World.ownsRow_lit W #[] 0 (ye _) (by unfold maxLen;omega) rfl;have S:Hid (Bw W (W.alloc (.cells #[] 9))):=(yI _ _).alloc (ye _) _;have ah:Hid (g<W.heap.size):=hgW;have HG0:Hid (Z<W.heap.size):=by show _<_;omega
     clear bW;go_wp2_with (at_builtin;refine wpList_append_own _ rfl (.tmp 47) (.tmp 50) 30 rfl W.heap.size 9 i0 (.string ByteArray.empty) 1 16 underlying30 O J K L rfl (by decide) _ _ _ rfl F ⟨g,0,none⟩ j f ((A.take j).map QJ) rfl (by rw[yl,ym];omega) (fun i u hu=>by {rw[show ((⟨g,0,none⟩:Addr).add i)=⟨g,i,none⟩from by simp[Addr.add];omega];exact ((uh S).cell (p:=⟨g,i,none⟩) (uh ah)).trans (uh ag i u (zdV hu))}) (Oa _) (by unfold maxLen;omega) (by omega) (by simp) ?_);intro v1 w1 G an _;have B1:Hid (Bw W w1):=(uh S).grown an (by simp) (fun k P=>(F.lt k P).1);have c1:=((uh B1).cell (p:=⟨Z,k,none⟩) (uh HG0)).trans cx;have hw1:=(uh B1).size;clear F an S cx;go_wp2_with (at_builtin;refine wpList_append_own _ rfl (.tmp 52) (.tmp 57) 30 rfl W.heap.size 9 i0 (.string ByteArray.empty) 1 16 underlying30 O J K L rfl (by decide) _ _ _ rfl (G.alloc _) ⟨w1.heap.size,0,none⟩ 1 1 [.string (zh x)] rfl rfl (Qi _ _ _) (Vj _) (by unfold maxLen;omega) (by omega) (by simp;omega) ?_);intro v2 w2 d ao av;have Y:Hid (Bw W w2):=((uh B1).alloc hw1 _).grown ao (by simp;omega) (fun k P=>(G.lt k P).1);have au:=(uh Y).size;have ai:Hid (v2≠.slice none 0 0):=av;clear G ao av B1 c1;rcases Nat.lt_or_ge j f with hjc | hjc
     ·have hjc1:¬ f<=j:=by omega
      go_wp2_with (at_builtin;refine wpList_append_own _ rfl (.tmp 59) (.tmp 62) 30 rfl W.heap.size 9 i0 (.string ByteArray.empty) 1 16 underlying30 O J K L rfl (by decide) _ _ _ rfl d ⟨g,j,none⟩ (A.length - j) (f - j) ((A.drop j).map QJ) (by first | rfl |(simp;omega)) (by rw[yl,yv];omega) (fun i u hu=>by {rw[show ((⟨g,j,none⟩:Addr).add i)=⟨g,j+i,none⟩from by simp[Addr.add]];exact ((uh Y).cell (p:=⟨g,j+i,none⟩) (uh ah)).trans (uh ag (j+i) u (zdW hu))}) (Oa _) (by unfold maxLen;omega) (by omega) (by omega) ?_);intro v3 w3 l D E;have B3:Hid (Bw w w3):=(uh Q).trans (((uh Y).grown D au (fun k P=>(d.lt k P).1)).mono I);have O3:Hid (Vc w3 w.heap.size v3 (Qg (ts.take (k+1)))):=by
       refine Vc.of (QO ?_ I) (fun e=>uh ai (E.1 e).1);rw[uh HS,uh s,yh,yx,yp,yi,ym,yv,show min j A.length+(A.length - j+1)=0+j+1+(A.length - j)from by omega];have et:QJ x= .string (zh x):=rfl;simpa [et]using l
      clear l D E d Y;go_wp2;exact⟨⟨k+1,by omega,by go_num,uh O3,uh B3⟩,by simp[intOf];omega⟩
     ·obtain rfl:j=f:=by omega
      go_wp2_with (at_builtin;refine wpList_append_own _ rfl (.tmp 59) (.tmp 62) 30 rfl W.heap.size 9 i0 (.string ByteArray.empty) 1 16 underlying30 O J K L rfl (by decide) _ _ _ rfl d _ _ _ ((A.drop j).map QJ) rfl (by rw[yl,yv];omega) (fun i u hu=>by {rw[List.drop_of_length_le (by omega)]at hu;simp at hu}) (Oa _) (by unfold maxLen;omega) (by omega) (by omega) ?_);intro v3 w3 l D E;have B3:Hid (Bw w w3):=(uh Q).trans (((uh Y).grown D au (fun k P=>(d.lt k P).1)).mono I);have O3:Hid (Vc w3 w.heap.size v3 (Qg (ts.take (k+1)))):=by
       refine Vc.of (QO ?_ I) (fun e=>uh ai (E.1 e));rw[uh HS,uh s,yh,yx,yp,yi,ym,yv,show min j A.length+(A.length - j+1)=j+1 from by omega];have et:QJ x= .string (zh x):=rfl;simpa [et]using l
      clear l D E d Y;go_wp2;exact⟨⟨k+1,by omega,by go_num,uh O3,uh B3⟩,by simp[intOf];omega⟩
  ·have e:ts.take k=ts:=yr (by omega);rw[e]at ho;have HO:=ze ho.1;have HB:=ze hb;clear ho hb e HC;go_wp2;go_ret;exact⟨_,rfl,uh HO,uh HB⟩
theorem PR.shape{w:Wo}{B:Nat}{v:Value}{ps:List zL}(h:PR w B v ps):∃ x cap,v= .slice x ps.length cap:=by
 rcases h.2 with ⟨a,d⟩ |⟨g,cap,b,a,_⟩
 ·exact⟨none,0,by rw[a,d]⟩
 ·exact⟨_,_,a⟩
end Go.Proofs.YtpaecnbdoljafaaGreatDoor
namespace Go.Proofs.YtpaecnbdoljafaaGreatDoor
open Go.RowKit Go.Lib Go.Proofs.Tryz
def dV(c:UInt8):Nat:=c.toNat - 48
def Zy(a:Nat)(d:List UInt8):Nat:=d.foldl (fun a c=>a*10+dV c) a
def Dg(d:List UInt8):Prop:=∀ c∈d,48<=c.toNat/\c.toNat<=57
def VC(d:List UInt8):Prop:=Dg d/\d≠[]/\(d=[48]∨∀ c r,d=c :: r->49<=c.toNat)
theorem Dg.tail{c:UInt8}{d:List UInt8}(h:Dg (c :: d)):Dg d:=fun x hx=>h x (yw _ hx)
theorem Dg.head{c:UInt8}{d:List UInt8}(h:Dg (c :: d)):48<=c.toNat/\c.toNat<=57:=h c yq
theorem GX(a:Nat)(c:UInt8)(d:List UInt8):Zy a (c :: d)=Zy (a*10+dV c) d:=by unfold Zy;rw[List.foldl_cons]
theorem zdY(a:Nat)(d:List UInt8)(c:UInt8):Zy a (d++[c])=Zy a d*10+dV c:=by unfold Zy;rw[List.foldl_append];rfl
theorem zdZ(d:List UInt8):∀ a,a<=Zy a d:=by
 induction d with
 | nil=>intro a;exact ye _
 | cons c d ih=>intro a;rw[GX];have:=ih (a*10+dV c);omega
theorem Ob(d:List UInt8):∀ a,Zy a d=a*10 ^ d.length+Zy 0 d:=by
 induction d with
 | nil=>intro a;simp[Zy]
 | cons c d ih=>
  intro a;rw[GX,GX,ih (a*10+dV c),ih (0*10+dV c),yp,Nat.pow_succ];rw[Nat.add_mul,Nat.zero_mul,Nat.zero_add,Nat.mul_assoc,Nat.mul_comm 10,Nat.add_assoc]
theorem Sg(d:List UInt8)(h:Dg d):Zy 0 d<10 ^ d.length:=by
 induction d with
 | nil=>simp[Zy]
 | cons c d ih=>
  rw[GX,Ob,yp,Nat.pow_succ];have a:=ih h.tail;have b:=h.head;have f:dV c<=9:=by unfold dV;omega
  have g:(0*10+dV c)*10 ^ d.length<=9*10 ^ d.length:=Nat.mul_le_mul_right _ (by omega);omega
theorem Sh{c:UInt8}{d:List UInt8}(hc:49<=c.toNat):10 ^ d.length<=Zy 0 (c :: d):=by
 rw[GX,Ob];have:1*10 ^ d.length<=(0*10+dV c)*10 ^ d.length:=Nat.mul_le_mul_right _ (by unfold dV;omega);omega
theorem zd0(d:List UInt8)(h:Dg d):∀ a,a<=18446744073709551615->parseUintM 18446744073709551615 a d=if Zy a d<=18446744073709551615 then .ok (Zy a d)else .range:=by
 induction d with
 | nil=>intro a g;rw[parseUintM];rw[yg (by exact g)];rfl
 | cons c d ih=>
  intro a g;rw[parseUintM,yg h.head,GX];have i:=zdZ d (a*10+dV c);have e:a*10+(c.toNat - 48)=a*10+dV c:=rfl;by_cases b:1844674407370955162<=a
  ·rw[yg b,yf (by omega)]
  ·rw[yf b,e];by_cases f:18446744073709551615<a*10+dV c
   ·rw[yg f,yf (by omega)]
   ·rw[yf f];exact ih h.tail _ (by omega)
theorem Cv:∀ (a b:List UInt8),Dg a->Dg b->a.length=b.length->(Op.bytesLess a b=decide (Zy 0 a<Zy 0 b))/\((a ==b)=decide (Zy 0 a=Zy 0 b))
 | [],[],_,_,_=>by simp[Op.bytesLess,Zy]
 | [],_ :: _,_,_,h=>by simp at h
 | _ :: _,[],_,_,h=>by simp at h
 | c :: a,x :: b,ha,hb,h=>by
  have hl:a.length=b.length:=by simpa using h
  obtain⟨n,o⟩:=Cv a b ha.tail hb.tail hl;have k:=Sg a ha.tail;have p:=Sg b hb.tail;have q:=ha.head;have hx:=hb.head;rw[GX,GX,Ob a,Ob b,hl];rw[hl]at k;have l:0*10+dV c=dV c:=by omega
  have m:0*10+dV x=dV x:=by omega
  rw[l,m];generalize Zy 0 a=A at *;generalize Zy 0 b=B at *;generalize 10 ^ b.length=P at *;have g:c<x↔dV c<dV x:=by rw[UInt8.lt_iff_toNat_lt];unfold dV;omega
  have d:c=x↔dV c=dV x:=by rw[← UInt8.toNat_inj];unfold dV;omega
  rw[Op.bytesLess];by_cases j:dV c<dV x
  ·have:(dV c+1)*P<=dV x*P:=Nat.mul_le_mul_right _ j;rw[Nat.add_mul,Nat.one_mul]at this;refine⟨?_,?_⟩
   ·rw[yj (g.2 j),Bool.true_or,yj (by omega)]
   ·rw[yk (by omega),yd];intro e;injection e with e1 e2;have:=d.1 e1;omega
  ·by_cases i:dV c=dV x
   ·have f:(c ==x)=true:=by rw[yD];exact d.2 i
    rw[yk (fun hh=>j (g.1 hh)),Bool.false_or,f,Bool.true_and,n,i];refine⟨?_,?_⟩
    ·apply decide_eq_decide.2;omega
    ·rw[d.2 i];rw[show ((x :: a) ==(x :: b))=(a ==b)from by simp,o];apply decide_eq_decide.2;omega
   ·have:(dV x+1)*P<=dV c*P:=Nat.mul_le_mul_right _ (by omega);rw[Nat.add_mul,Nat.one_mul]at this;have f:(c ==x)=false:=by rw[yd];exact fun e=>i (d.1 e)
    refine⟨?_,?_⟩
    ·rw[yk (fun hh=>j (g.1 hh)),Bool.false_or,f,Bool.false_and,yk (by omega)]
    ·rw[yk (by omega),yd];intro e;injection e with e1 e2;exact i (d.1 e1)
theorem VC.bounds{d:List UInt8}(h:VC d):(d.length<=18->Zy 0 d<1000000000000000000)/\(20<=d.length->10000000000000000000<=Zy 0 d):=by
 obtain⟨b,i,a⟩:=h;refine⟨fun hl=>?_,fun hl=>?_⟩
 ·have:=Sg d b;have f:10 ^ d.length<=10 ^ 18:=Nat.pow_le_pow_right (by decide) hl;have g:(10:Nat) ^ 18=1000000000000000000:=by decide
  omega
 ·rcases a with rfl | a
  ·simp at hl
  ·cases d with
   | nil=>simp at hl
   | cons c r=>
    have:=Sh (d:=r) (a c r rfl);have f:10 ^ 19<=10 ^ r.length:=Nat.pow_le_pow_right (by decide) (by simp at hl;omega);have g:(10:Nat) ^ 19=10000000000000000000:=by decide
    omega
theorem Cw{d lim:List UInt8}{m:Nat}(h:VC d)(hl:Dg lim)(h19:lim.length=19)(hm:Zy 0 lim=m)(h1:1000000000000000000<=m)(h2:m<10000000000000000000):over d lim=decide (m<Zy 0 d):=by
 unfold over;have b:=h.bounds;by_cases f:d.length=19
 ·rw[yf (by omega)];obtain⟨i,j⟩:=Cv d lim h.1 hl (by omega);rw[i,j,hm];by_cases g:m<Zy 0 d
  ·rw[yj g,yk (by omega),yk (by omega)];rfl
  ·rw[yk g];by_cases a:Zy 0 d=m
   ·rw[yj a];simp
   ·rw[yj (show Zy 0 d<m by omega)];rfl
 ·rw[yg f];apply decide_eq_decide.2;constructor
  ·intro g;have:=b.2 (by omega);omega
  ·intro g;rcases Nat.lt_or_ge d.length 19 with a | a
   ·have:=b.1 (by omega);omega
   ·omega
theorem zd1{d:List UInt8}(h:VC d):over d UF=decide (9223372036854775807<Zy 0 d):=Cw h (by unfold Dg UF;decide) rfl (by decide) (by decide) (by decide)
theorem zd2{d:List UInt8}(h:VC d):over d UG=decide (9223372036854775808<Zy 0 d):=Cw h (by unfold Dg UG;decide) rfl (by decide) (by decide) (by decide)
theorem Cx{c:UInt8}(h:48<=c.toNat/\c.toNat<=57):UInt8.ofNat (48+dV c)=c:=by
 apply UInt8.toNat_inj.1;rw[UInt8.toNat_ofNat'];unfold dV;omega
theorem zd3(n:Nat):∀ d:List UInt8,d.length=n->VC d->decDigits (Zy 0 d)=d:=by
 induction n with
 | zero=>intro d i h;exact absurd (yO i) h.2.1
 | succ n ih=>
  intro d i h;obtain⟨j,o,f⟩:=h;rcases List.eq_nil_or_concat d with e |⟨m,c,e⟩
  ·exact absurd e o
  ·rw[List.concat_eq_append]at e;subst e;have k:48<=c.toNat/\c.toNat<=57:=j c (by simp);have s:dV c<=9:=by unfold dV;omega
   rw[zdY]
   cases m with
   | nil=>
    show decDigits (0*10+dV c)=[c]
    rw[decDigits_one (by omega),show 48+(0*10+dV c)=48+dV c by omega,Cx k]
   | cons x r=>
    have hx:49<=x.toNat:=by
     rcases f with f | f
     ·simp at f
     ·exact f x (r++[c]) rfl
    have l:=Sh (d:=r) hx;have q:0<10 ^ r.length:=Nat.pow_pos (by decide);have p:VC (x :: r):=⟨fun y g=>j y (by simp at g ⊢;rcases g with g | g<;>simp[g]),by simp,.inr (fun a b e=>by injection e with e1 e2;subst e1;exact hx)⟩;have:=ih (x :: r) (by simp at i ⊢;omega) p;rw[decDigits,dif_neg (by omega),show (Zy 0 (x :: r)*10+dV c) / 10=Zy 0 (x :: r) by omega,show (Zy 0 (x :: r)*10+dV c) % 10=dV c by omega,this,Cx k]
theorem Xi{s:Bs}{i j:Nat}(hi:i<s.size)(hj:i<j):Zh s i j=s[i] :: Zh s (i+1) j:=by
 unfold Zh;rw[Qw s i hi,show j - i=(j - (i+1))+1 by omega,List.take_succ_cons]
theorem Cy(s:Bs)(i:Nat):Zh s i i=[]:=by unfold Zh;simp
theorem Cz(s:Bs):∀ n i,s.size - i<=n->Dg (Zh s i (dg s i))
 | n,i,hn=>by
  by_cases h:zP (bt s i)=true
  ·have hi:i<s.size:=Zb (by have:=Qx.1 h;omega)
   cases n with
   | zero=>omega
   | succ n=>
    have b:=Fi (s:=s) (i:=i+1) (by omega);rw[VW h,Xi hi (by omega)];intro c a;rcases List.mem_cons.1 a with rfl | a
    ·rw[Zq s i hi]at h;exact Qx.1 h
    ·exact Cz s n (i+1) (by omega) c a
  ·rw[UC h,Cy];intro c a;cases a
theorem zd4{s:Bs}{i j:Nat}{l:List UInt8}(h:nm s i=some (l,j)):j=qr s i/\VC (Zh s (zW s i) j)/\Zh s i j=(if bt s i=45 then 45 :: Zh s (zW s i) j else Zh s (zW s i) j)/\l=Qk (Zh s i j):=by
 have n:=Ky h;unfold nm at h;split at h
 ·rename_i hd;injection h with h;injection h with h1 h2;have k:=Qx.1 hd;have b:zW s i<s.size:=Zb (by omega);have g:=Zq s (zW s i) b;subst h2;refine⟨rfl,?_,?_,h1.symm⟩
  ·unfold qr;split
   ·rename_i h48;rw[Xi b (by omega),Cy];have e:s[zW s i]=48:=UInt8.toNat_inj.1 (by show _=48;omega);rw[e];exact⟨by unfold Dg;decide,by simp,.inl rfl⟩
   ·rename_i h48;have m:=Fi (s:=s) (i:=zW s i+1) (by omega);refine⟨Cz s _ _ (ye _),?_,.inr ?_⟩
    ·rw[VW hd,Xi b (by omega)];simp
    ·intro c r e;rw[VW hd,Xi b (by omega)]at e;injection e with e1 e2;subst e1;omega
  ·by_cases a:bt s i=45
   ·have f:i<s.size:=Zb (by omega);have e:s[i]=45:=UInt8.toNat_inj.1 (by show _=45;rw[← Zq s i f];exact a);have d:zW s i=i+1:=by unfold zW;rw[yg a]
    rw[yg a,Xi f (by omega),e,d]
   ·have d:zW s i=i:=by unfold zW;rw[yf a]
    rw[yf a,d]
 ·cases h
theorem zd5{d:List UInt8}(h:VC d):Qk d=d:=by
 unfold Qk;rw[yf];intro e;have:=h.1 45 (by rw[e];simp);exact absurd this.1 (by decide)
theorem zd6{d:List UInt8}(h:VC d):parseUintB 64 d=if Zy 0 d<=18446744073709551615 then .ok (Zy 0 d)else .range:=by
 unfold parseUintB;rw[yf h.2.1];exact zd0 d h.1 0 (by decide)
theorem zd7{s:Bs}{i j:Nat}{l:List UInt8}(h:nm s i=some (l,j)):
  (QC l=false->∃ z:Int,parseIntB 64 (Zh s i j)= .ok z/\itoa z=l/\-9223372036854775808<=z/\z<=9223372036854775807)/\(QC l=true->parseIntB 64 (Zh s i j)= .range):=by
 obtain⟨_,a,q,f⟩:=zd4 h;generalize Zh s (zW s i) j=d at *;have v:=zd6 a;have o:=zd3 d.length d rfl a;have y:(2:Nat) ^ (64 - 1)=9223372036854775808:=by decide
 by_cases m:bt s i=45
 ·rw[yg m]at q;rw[q]at f ⊢;rw[parseIntB_minus,v];by_cases u:d=[48]
  ·subst u;have e:l=[48]:=by rw[f];unfold Qk;rw[yg rfl]
   subst e;refine⟨fun _=>⟨0,by decide,by rw[show (0:Int)=((0:Nat):Int)from rfl,itoa_nonneg,decDigits_one (by decide)];rfl,by decide,by decide⟩,fun hb=>absurd hb (by decide)⟩
  ·have e:l=45 :: d:=by
    rw[f];unfold Qk;rw[yf];intro e;injection e with _ e;exact u e
   subst e;have w:QC (45 :: d)=decide (9223372036854775808<Zy 0 d):=by rw[QC,yg rfl,zd2 a]
   rw[w];have p:1<=Zy 0 d:=by
    obtain⟨A,x,k⟩:=a;rcases k with k | k
    ·exact absurd k u
    ·cases d with
     | nil=>exact absurd rfl x
     | cons c r=>
      have:=Sh (d:=r) (k c r rfl);have v:0<10 ^ r.length:=Nat.pow_pos (by decide);omega
   refine⟨fun hb=>?_,fun hb=>?_⟩
   ·have b:=of_decide_eq_false hb;rw[yg (by omega)];refine⟨-((Zy 0 d:Nat):Int),?_,?_,by omega,by omega⟩
    ·show (if 2 ^ (64 - 1)<Zy 0 d then NumEnd.range else .ok (-((Zy 0 d:Nat):Int)))=_
     rw[yf (by omega)]
    ·rw[itoa_neg _ p,o]
   ·have b:=of_decide_eq_true hb;by_cases g:Zy 0 d<=18446744073709551615
    ·rw[yg g];show (if 2 ^ (64 - 1)<Zy 0 d then NumEnd.range else .ok (-((Zy 0 d:Nat):Int)))=_
     rw[yg (by omega)]
    ·rw[yf g];rfl
 ·rw[yf m]at q;rw[q]at f ⊢;rw[zd5 a]at f;subst f
  cases hd:l with
  | nil=>exact absurd hd a.2.1
  | cons c r=>
   have n:=a.1 c (by rw[hd];simp);rw[parseIntB_plain 64 c r (by omega) (by omega),← hd,v];have w:QC l=decide (9223372036854775807<Zy 0 l):=by
    rw[hd,QC,yf (by intro e;rw[e]at n;exact absurd n.1 (by decide)),← hd,zd1 a]
   rw[w];refine⟨fun hb=>?_,fun hb=>?_⟩
   ·have b:=of_decide_eq_false hb;rw[yg (by omega)];refine⟨((Zy 0 l:Nat):Int),?_,?_,by omega,by omega⟩
    ·show (if 2 ^ (64 - 1)<=Zy 0 l then NumEnd.range else .ok ((Zy 0 l:Nat):Int))=_
     rw[yf (by omega)]
    ·rw[itoa_nonneg,o]
   ·have b:=of_decide_eq_true hb;by_cases g:Zy 0 l<=18446744073709551615
    ·rw[yg g];show (if 2 ^ (64 - 1)<=Zy 0 l then NumEnd.range else .ok ((Zy 0 l:Nat):Int))=_
     rw[yg (by omega)]
    ·rw[yf g];rfl
end Go.Proofs.YtpaecnbdoljafaaGreatDoor
namespace Go.Proofs.YtpaecnbdoljafaaGreatDoor
open Go.RowKit Go.Proofs.Tryz
theorem zd8(b:Nat)(hb:b<256)(w:Wo):
  Calls prog 288 #[.int .u8 b] w fun e w'=>w=w'/\e=(hx b).elim Js (fun v=>.returned (.int .i32 v)):=by
 by_cases d:48<=b/\b<=57
 ·have a:Hid (hx b=some (b - 48)):=by show _=_;unfold hx;rw[yg d]
  have i:(48:Int)<=(b:Int):=by omega
  have j:(b:Int)<=57:=by omega
  clear d;go_in;go_wp2;go_ret;refine⟨rfl,?_⟩;rw[uh a];exact Wj (by go_num)
 ·by_cases f:97<=b/\b<=102
  ·have a:Hid (hx b=some (b - 87)):=by show _=_;unfold hx;rw[yf d,yg f]
   have i:(97:Int)<=(b:Int):=by omega
   have j:(b:Int)<=102:=by omega
   clear d f;go_in;go_wp2;go_ret;refine⟨rfl,?_⟩;rw[uh a];exact Wj (by go_num)
  ·by_cases h:65<=b/\b<=70
   ·have a:Hid (hx b=some (b - 55)):=by show _=_;unfold hx;rw[yf d,yf f,yg h]
    have i:(65:Int)<=(b:Int):=by omega
    have j:(b:Int)<=70:=by omega
    clear d f h;go_in;go_wp2;go_ret;refine⟨rfl,?_⟩;rw[uh a];exact Wj (by go_num)
   ·have a:Hid (hx b=none):=by show _=_;unfold hx;rw[yf d,yf f,yf h]
    clear a;have a:Hid (hx b=none):=by show _=_;unfold hx;rw[yf d,yf f,yf h]
    rcases (show b<48∨(57<b/\b<65)∨(70<b/\b<97)∨102<b from by omega)with g | g | g | g
    ·have i:(b:Int)<48:=by omega
     clear d f h g;go_in;go_wp2;exact⟨rfl,rfl,by rw[uh a];rfl⟩
    ·have i:(57:Int)<(b:Int):=by omega
     have j:(b:Int)<65:=by omega
     clear d f h g;go_in;go_wp2;exact⟨rfl,rfl,by rw[uh a];rfl⟩
    ·have i:(70:Int)<(b:Int):=by omega
     have j:(b:Int)<97:=by omega
     clear d f h g;go_in;go_wp2;exact⟨rfl,rfl,by rw[uh a];rfl⟩
    ·have i:(102:Int)<(b:Int):=by omega
     clear d f h g;go_in;go_wp2;exact⟨rfl,rfl,by rw[uh a];rfl⟩
theorem CB(rb:Nat)(s:Bs)(i:Nat)(tb kt:Bool)(w:Wo)(h:zE rb s i tb kt w)(hs:s.size<=1048576)(hi:i<=s.size):
  Calls prog 273 #[.pointer (some ⟨rb,0,none⟩)] w (Yq rb s tb kt w ((qW s i 4).map fun v:Nat=>(.int .i32 (v:Int),i+4))):=by
 have H:=ze h;clear h;go_in;go_wp2;go_loopw [3,4] (fun n k wr=>∃ j v:Nat,j<=4/\i+j<=s.size/\v<16 ^ j/\k= .int .i64 j/\n= .int .i32 v/\qW s i j=some v/\zE rb s (i+j) tb kt wr/\KB rb w wr) (fun _ k _=>4 - (intOf k).toNat)
 case atStart=>exact⟨0,0,by omega,by omega,by decide,rfl,rfl,rfl,uh H,KB.refl _ _⟩
 case round=>
  obtain⟨j,v,J,D,x,rfl,rfl,u,r,m⟩:=hrel;have q:=ze u;have HR:=ze r;clear u r;by_cases G:j<4
  ·have y:v<65536:=by
    have:(16:Nat) ^ j<=16 ^ 3:=Nat.pow_le_pow_right (by decide) (by omega);omega
   have C:(j:Int)<4:=by omega
   by_cases p:i+j<s.size
   ·have a:=ze (Yp rb s (i+j) tb kt wr (uh HR) hs p);have f:=ze (zd8 (bt s (i+j)) (qi _ _));have E:(v:Int)<65536:=by omega
    cases hx1:hx (bt s (i+j))with
    | some d=>
     have I:=Pu hx1;have g:=ze (UB (uh q) hx1);rw[hx1]at f;generalize bt s (i+j)=b at *;clear hx1;go_wp2_with fail;refine (uh a).mono ?_;rintro e z ⟨rfl,o,l⟩;have A:=ze o;clear o;go_wp2_with fail;refine (uh f _).mono ?_;rintro e F ⟨rfl,rfl⟩;clear a f;simp only[Option.elim];go_wp2;go_roundw
     case rel=>exact⟨j+1,v*16+d,by omega,by omega,by rw[Nat.pow_succ];omega,by go_num,by go_num,uh g,uh A,m.trans l⟩
     case measure=>simp[intOf];omega
    | none=>
     have g:Hid (qW s i 4=none):=Pv (Fg hx1) (by omega);rw[hx1]at f;generalize bt s (i+j)=b at *;clear hx1;go_wp2_with fail;refine (uh a).mono ?_;rintro e z ⟨rfl,o,l⟩;clear o;go_wp2_with fail;refine (uh f _).mono ?_;rintro e F ⟨rfl,rfl⟩;clear a f;exact⟨rfl,m.trans l,by rw[uh g];rfl⟩
   ·have g:Hid (qW s i 4=none):=Pv (Fg (by rw[Ya s (i+j) (by omega)];rfl)) (show j+1<=4 by omega);have a:=ze (Pp rb s (i+j) tb kt wr (uh HR) (by omega));go_wp2_with fail;refine (uh a).mono ?_;rintro e z ⟨rfl,l⟩;clear a;exact⟨rfl,m.trans l,by rw[uh g];rfl⟩
  ·have B:j=4:=by omega
   subst B;go_wp2;go_ret;exact⟨m,by rw[uh q];exact⟨rfl,uh HR⟩⟩
def UW(s:Bs)(i:Nat)(wd:Bs):Prop:=∀ k,k<wd.size->bt s (i+k)=bt wd k
theorem Oc(rb:Nat)(s:Bs)(i:Nat)(tb kt:Bool)(w:Wo)(h:zE rb s i tb kt w)(hs:s.size<=1048576)(wd:Bs)(hw:wd.size<=1000)(hi:i+wd.size<=s.size)(hit:UW s i wd):
  Calls prog 166 #[.pointer (some ⟨rb,0,none⟩),.string wd] w fun e w'=>e= .returned (.tuple #[])/\zE rb s (i+wd.size) tb kt w'/\KB rb w w':=by
 have H:=ze h;have b:=ze hit;clear h hit;go_in;go_wp2;go_loopw [7] (fun k wr=>∃ j:Nat,j<=wd.size/\k= .int .i64 j/\zE rb s (i+j) tb kt wr/\KB rb w wr) (fun k _=>wd.size - (intOf k).toNat)
 case atStart=>exact⟨0,by omega,rfl,uh H,KB.refl _ _⟩
 case round=>
  obtain⟨j,q,rfl,l,g⟩:=hrel;have HR:=ze l;clear l;by_cases a:j<wd.size
  ·have f:=(uh b) j a;have d:Hid (Calls prog 200 #[.pointer (some ⟨rb,0,none⟩),.int .u8 (wd[j].toNat:Int)] wr fun e w'=>e= .returned (.tuple #[])/\zE rb s (i+j+1) tb kt w'/\KB rb wr w'):=
    Gx rb s (i+j) tb kt wr (uh HR) hs wd[j].toNat (by rw[f,Zq wd j a]) (by omega)
   clear f;go_wp2_with fail;refine (uh d).mono ?_;rintro e r ⟨rfl,m,p⟩;have n:=ze m;clear m d;go_wp2;go_roundw
   case rel=>exact⟨j+1,by omega,by go_num,uh n,g.trans p⟩
   case measure=>simp[intOf];omega
  ·have o:j=wd.size:=by omega
   subst o;go_wp2;go_end0;exact⟨rfl,uh HR,g⟩
theorem Od(rb:Nat)(s:Bs)(i:Nat)(tb kt:Bool)(w:Wo)(h:zE rb s i tb kt w)(hs:s.size<=1048576)(wd:Bs)(hw:wd.size<=1000)(hz:∀ k,k<wd.size->bt wd k≠0)(hi:i<=s.size)(hit:¬ UW s i wd):
  Calls prog 166 #[.pointer (some ⟨rb,0,none⟩),.string wd] w fun e w'=>e=Js/\KB rb w w':=by
 have H:=ze h;have f:=ze hit;have y:=ze hz;clear h hit hz;go_in;go_wp2;go_loopw [7] (fun k wr=>∃ j:Nat,j<=wd.size/\i+j<=s.size/\k= .int .i64 j/\(∀ m,m<j->bt s (i+m)=bt wd m)/\zE rb s (i+j) tb kt wr/\KB rb w wr) (fun k _=>wd.size - (intOf k).toNat)
 case atStart=>exact⟨0,by omega,hi,rfl,by omega,uh H,KB.refl _ _⟩
 case round=>
  obtain⟨j,B,n,rfl,p,v,u⟩:=hrel;have HR:=ze v;have r:=ze p;clear v p;by_cases b:j<wd.size
  ·by_cases a:bt s (i+j)=bt wd j
   ·have o:i+j<s.size:=Zb (by rw[a];exact (uh y) j b);have d:Hid (Calls prog 200 #[.pointer (some ⟨rb,0,none⟩),.int .u8 (wd[j].toNat:Int)] wr fun e w'=>e= .returned (.tuple #[])/\zE rb s (i+j+1) tb kt w'/\KB rb wr w'):=
     Gx rb s (i+j) tb kt wr (uh HR) hs wd[j].toNat (by rw[a,Zq wd j b]) o
    have l:Hid (∀ m,m<j+1->bt s (i+m)=bt wd m):=fun m p=>by
     rcases Nat.lt_or_ge m j with g | g
     ·exact (uh r) m g
     ·have:m=j:=by omega
      subst this;exact a
    clear a;go_wp2_with fail;refine (uh d).mono ?_;rintro e A ⟨rfl,x,q⟩;have z:=ze x;clear x d;go_wp2;go_roundw
    case rel=>exact⟨j+1,by omega,by omega,by go_num,uh l,uh z,u.trans q⟩
    case measure=>simp[intOf];omega
   ·have d:Hid (Calls prog 200 #[.pointer (some ⟨rb,0,none⟩),.int .u8 (wd[j].toNat:Int)] wr fun e w'=>e=Js/\KB rb wr w'):=
     Kv rb s (i+j) tb kt wr (uh HR) hs n wd[j].toNat (.inl (by rw[Zq wd j b]at a;exact a))
    clear a;go_wp2_with fail;refine (uh d).mono ?_;rintro e A ⟨rfl,q⟩;clear d;exact⟨rfl,rfl,u.trans q⟩
  ·exfalso;refine (uh f) fun k hk'=>(uh r) k (by omega)
theorem CD(s:Bs)(i:Nat):UW s i ⟨#[92,117]⟩↔bt s i=92/\bt s (i+1)=117:=by
 constructor
 ·intro h;exact⟨h 0 (by decide),h 1 (by decide)⟩
 ·rintro⟨a,b⟩ k d;have:k<2:=d
  match k,this with
  | 0,_=>exact a
  | 1,_=>exact b
theorem zd9(rb:Nat)(s:Bs)(i:Nat)(tb kt:Bool)(w:Wo)(h:zE rb s (i+2) tb kt w)(hs:s.size<=1048576)(hi:i+2<=s.size):
  Calls prog 252 #[.pointer (some ⟨rb,0,none⟩)] w (Yq rb s tb kt w (((qW s (i+2) 4).bind (q8 s i)).map fun p=>(.int .i32 (p.1:Int),i+p.2))):=by
 have d:=ze (CB rb s (i+2) tb kt w h hs hi);clear h
 cases hx1:qW s (i+2) 4 with
 | none=>
  rw[hx1]at d;clear hx1;go_in;go_wp2_with fail;refine (uh d).mono ?_;rintro e r ⟨f,rfl⟩;clear d;exact⟨rfl,f,rfl⟩
 | some u=>
  have R:u<65536:=Ff s (i+2) 4 u hx1;have O:=Mb hx1;rw[hx1]at d;clear hx1;simp only[yB];by_cases g:u<55296∨57344<=u
  ·have j:Hid (q8 s i u=some (u,6)):=by show _=_;unfold q8;rw[yg g]
   rcases g with g | g
   ·have H:(u:Int)<55296:=by omega
    go_in;go_wp2_with fail;refine (uh d).mono ?_;rintro e r ⟨f,rfl,a⟩;have l:=ze a;clear d a;go_wp2;go_ret;exact⟨f,by rw[uh j];exact⟨rfl,uh l⟩⟩
   ·have H:¬ (u:Int)<55296:=by omega
    have M:(57343:Int)<(u:Int):=by omega
    have Q:decide ((u:Int)<55296)=false:=by simp;omega
    go_in;go_wp2_with fail;refine (uh d).mono ?_;rintro e r ⟨f,rfl,a⟩;have l:=ze a;clear d a;go_wp2;go_ret;exact⟨f,by rw[uh j];exact⟨rfl,uh l⟩⟩
  ·have H:¬ (u:Int)<55296:=by omega
   have M:¬ (57343:Int)<(u:Int):=by omega
   by_cases o:56320<=u
   ·have j:Hid (q8 s i u=none):=by show _=_;unfold q8;rw[yf g,yg o]
    have N:(56319:Int)<(u:Int):=by omega
    clear g;go_in;go_wp2_with fail;refine (uh d).mono ?_;rintro e r ⟨f,rfl,a⟩;clear d a;go_wp2;exact⟨rfl,f,by rw[uh j];rfl⟩
   ·have N:¬ (56319:Int)<(u:Int):=by omega
    have F:Hid ((55296:Int)<=(u:Int)/\(u:Int)<=56319):=by show _/\_;omega
    by_cases z:bt s (i+6)=92/\bt s (i+6+1)=117
    ·have D:=(CD s (i+6)).2 z;have J:i+6+1<s.size:=Zb (by rw[z.2];decide);have m:Hid (∀ w,zE rb s (i+6) tb kt w->Calls prog 166 #[.pointer (some ⟨rb,0,none⟩),.string ⟨#[92,117]⟩] w fun e w'=>e= .returned (.tuple #[])/\zE rb s (i+6+2) tb kt w'/\KB rb w w'):=
      fun w h=>Oc rb s (i+6) tb kt w h hs ⟨#[92,117]⟩ (by decide) (by show i+6+2<=_;omega) D
     have b:Hid (∀ w,zE rb s (i+6+2) tb kt w->Calls prog 273 #[.pointer (some ⟨rb,0,none⟩)] w (Yq rb s tb kt w ((qW s (i+6+2) 4).map fun v:Nat=>(.int .i32 (v:Int),i+6+2+4)))):=
      fun w h=>CB rb s (i+6+2) tb kt w h hs (by omega)
     have y:Qr s (i+6)=qW s (i+6+2) 4:=by unfold Qr;rw[yg z]
     clear z D
     cases hx2:qW s (i+6+2) 4 with
     | none=>
      have j:Hid (q8 s i u=none):=by show _=_;unfold q8;rw[yf g,yf o,y,hx2];rfl
      rw[hx2]at b;clear hx2 y g o;go_in;go_wp2_with fail;refine (uh d).mono ?_;rintro e r ⟨f,rfl,a⟩;have l:=ze a;clear d a;go_wp2_with fail;refine (uh m _ (uh l)).mono ?_;rintro e E ⟨rfl,n,q⟩;have x:=ze n;clear m n;go_wp2_with fail;refine (uh b _ (uh x)).mono ?_;rintro e G ⟨A,rfl⟩;clear b;exact⟨rfl,(f.trans q).trans A,by rw[uh j];rfl⟩
     | some v=>
      have S:v<65536:=Ff s (i+6+2) 4 v hx2;rw[hx2]at b;by_cases C:56320<=v/\v<57344
      ·have j:Hid (q8 s i u=some (65536+(u - 55296)*1024+(v - 56320),12)):=by
        show _=_;unfold q8;rw[yf g,yf o,y,hx2];simp only[yB];rw[yg C]
       have K:(56320:Int)<=(v:Int):=by omega
       have P:(v:Int)<=57343:=by omega
       have V:¬ (v:Int)<56320:=by omega
       have W:¬ (57343:Int)<(v:Int):=by omega
       clear hx2 y g o C;go_in;go_wp2_with fail;refine (uh d).mono ?_;rintro e r ⟨f,rfl,a⟩;have l:=ze a;clear d a;go_wp2_with fail;refine (uh m _ (uh l)).mono ?_;rintro e E ⟨rfl,n,q⟩;have x:=ze n;clear m n;go_wp2_with fail;refine (uh b _ (uh x)).mono ?_;rintro e G ⟨A,rfl,B⟩;have L:=ze B;clear b B;obtain⟨T,U⟩:=uh F;go_wp2;go_ret;refine⟨(f.trans q).trans A,?_⟩;rw[uh j];exact⟨Wj (by omega),uh L⟩
      ·have j:Hid (q8 s i u=none):=by
        show _=_;unfold q8;rw[yf g,yf o,y,hx2];simp only[yB];rw[yf C]
       rcases (show v<56320∨57344<=v from by omega)with I | I
       ·have K:(v:Int)<=56319:=by omega
        clear hx2 y g o C I;go_in;go_wp2_with fail;refine (uh d).mono ?_;rintro e r ⟨f,rfl,a⟩;have l:=ze a;clear d a;go_wp2_with fail;refine (uh m _ (uh l)).mono ?_;rintro e E ⟨rfl,n,q⟩;have x:=ze n;clear m n;go_wp2_with fail;refine (uh b _ (uh x)).mono ?_;rintro e G ⟨A,rfl,B⟩;clear b B;go_wp2;exact⟨rfl,(f.trans q).trans A,by rw[uh j];rfl⟩
       ·have K:¬ (v:Int)<56320:=by omega
        have P:(57343:Int)<(v:Int):=by omega
        clear hx2 y g o C;go_in;go_wp2_with fail;refine (uh d).mono ?_;rintro e r ⟨f,rfl,a⟩;have l:=ze a;clear d a;go_wp2_with fail;refine (uh m _ (uh l)).mono ?_;rintro e E ⟨rfl,n,q⟩;have x:=ze n;clear m n;go_wp2_with fail;refine (uh b _ (uh x)).mono ?_;rintro e G ⟨A,rfl,B⟩;clear b B;go_wp2;exact⟨rfl,(f.trans q).trans A,by rw[uh j];rfl⟩
    ·have j:Hid (q8 s i u=none):=by
      show _=_;unfold q8;rw[yf g,yf o];unfold Qr;rw[yf z];rfl
     have m:Hid (∀ w,zE rb s (i+6) tb kt w->Calls prog 166 #[.pointer (some ⟨rb,0,none⟩),.string ⟨#[92,117]⟩] w fun e w'=>e=Js/\KB rb w w'):=
      fun w h=>Od rb s (i+6) tb kt w h hs ⟨#[92,117]⟩ (by decide) (fun k hk=>by
       have:k<2:=hk
       match k,this with
       | 0,_=>decide
       | 1,_=>decide) (by omega) (fun h=>z ((CD s (i+6)).1 h))
     clear g o z;go_in;go_wp2_with fail;refine (uh d).mono ?_;rintro e r ⟨f,rfl,a⟩;have l:=ze a;clear d a;go_wp2_with fail;refine (uh m _ (uh l)).mono ?_;rintro e E ⟨rfl,q⟩;clear m;exact⟨rfl,f.trans q,by rw[uh j];rfl⟩
theorem zea(rb:Nat)(s:Bs)(i:Nat)(tb kt:Bool)(w:Wo)(h:zE rb s (i+1) tb kt w)(hs:s.size<=1048576)(hb:bt s (i+1)=34):
  Calls prog 231 #[.pointer (some ⟨rb,0,none⟩)] w fun e w'=>e= .returned (.int .i32 34)/\zE rb s (i+2) tb kt w'/\KB rb w w':=by
 have a:=ze (Yp rb s (i+1) tb kt w h hs (Zb (by rw[hb];decide)));rw[hb]at a;clear h hb;go_in;go_wp2_with fail;refine (uh a).mono ?_;rintro e g ⟨rfl,b,f⟩;have d:=ze b;clear a b;go_wp2;go_ret;exact⟨rfl,uh d,f⟩
theorem zeb(rb:Nat)(s:Bs)(i:Nat)(tb kt:Bool)(w:Wo)(h:zE rb s (i+1) tb kt w)(hs:s.size<=1048576)(hb:bt s (i+1)=92):
  Calls prog 231 #[.pointer (some ⟨rb,0,none⟩)] w fun e w'=>e= .returned (.int .i32 92)/\zE rb s (i+2) tb kt w'/\KB rb w w':=by
 have a:=ze (Yp rb s (i+1) tb kt w h hs (Zb (by rw[hb];decide)));rw[hb]at a;clear h hb;go_in;go_wp2_with fail;refine (uh a).mono ?_;rintro e g ⟨rfl,b,f⟩;have d:=ze b;clear a b;go_wp2;go_ret;exact⟨rfl,uh d,f⟩
theorem zec(rb:Nat)(s:Bs)(i:Nat)(tb kt:Bool)(w:Wo)(h:zE rb s (i+1) tb kt w)(hs:s.size<=1048576)(hb:bt s (i+1)=47):
  Calls prog 231 #[.pointer (some ⟨rb,0,none⟩)] w fun e w'=>e= .returned (.int .i32 47)/\zE rb s (i+2) tb kt w'/\KB rb w w':=by
 have a:=ze (Yp rb s (i+1) tb kt w h hs (Zb (by rw[hb];decide)));rw[hb]at a;clear h hb;go_in;go_wp2_with fail;refine (uh a).mono ?_;rintro e g ⟨rfl,b,f⟩;have d:=ze b;clear a b;go_wp2;go_ret;exact⟨rfl,uh d,f⟩
theorem zed(rb:Nat)(s:Bs)(i:Nat)(tb kt:Bool)(w:Wo)(h:zE rb s (i+1) tb kt w)(hs:s.size<=1048576)(hb:bt s (i+1)=98):
  Calls prog 231 #[.pointer (some ⟨rb,0,none⟩)] w fun e w'=>e= .returned (.int .i32 8)/\zE rb s (i+2) tb kt w'/\KB rb w w':=by
 have a:=ze (Yp rb s (i+1) tb kt w h hs (Zb (by rw[hb];decide)));rw[hb]at a;clear h hb;go_in;go_wp2_with fail;refine (uh a).mono ?_;rintro e g ⟨rfl,b,f⟩;have d:=ze b;clear a b;go_wp2;go_ret;exact⟨rfl,uh d,f⟩
theorem zee(rb:Nat)(s:Bs)(i:Nat)(tb kt:Bool)(w:Wo)(h:zE rb s (i+1) tb kt w)(hs:s.size<=1048576)(hb:bt s (i+1)=102):
  Calls prog 231 #[.pointer (some ⟨rb,0,none⟩)] w fun e w'=>e= .returned (.int .i32 12)/\zE rb s (i+2) tb kt w'/\KB rb w w':=by
 have a:=ze (Yp rb s (i+1) tb kt w h hs (Zb (by rw[hb];decide)));rw[hb]at a;clear h hb;go_in;go_wp2_with fail;refine (uh a).mono ?_;rintro e g ⟨rfl,b,f⟩;have d:=ze b;clear a b;go_wp2;go_ret;exact⟨rfl,uh d,f⟩
theorem zef(rb:Nat)(s:Bs)(i:Nat)(tb kt:Bool)(w:Wo)(h:zE rb s (i+1) tb kt w)(hs:s.size<=1048576)(hb:bt s (i+1)=110):
  Calls prog 231 #[.pointer (some ⟨rb,0,none⟩)] w fun e w'=>e= .returned (.int .i32 10)/\zE rb s (i+2) tb kt w'/\KB rb w w':=by
 have a:=ze (Yp rb s (i+1) tb kt w h hs (Zb (by rw[hb];decide)));rw[hb]at a;clear h hb;go_in;go_wp2_with fail;refine (uh a).mono ?_;rintro e g ⟨rfl,b,f⟩;have d:=ze b;clear a b;go_wp2;go_ret;exact⟨rfl,uh d,f⟩
theorem zeg(rb:Nat)(s:Bs)(i:Nat)(tb kt:Bool)(w:Wo)(h:zE rb s (i+1) tb kt w)(hs:s.size<=1048576)(hb:bt s (i+1)=114):
  Calls prog 231 #[.pointer (some ⟨rb,0,none⟩)] w fun e w'=>e= .returned (.int .i32 13)/\zE rb s (i+2) tb kt w'/\KB rb w w':=by
 have a:=ze (Yp rb s (i+1) tb kt w h hs (Zb (by rw[hb];decide)));rw[hb]at a;clear h hb;go_in;go_wp2_with fail;refine (uh a).mono ?_;rintro e g ⟨rfl,b,f⟩;have d:=ze b;clear a b;go_wp2;go_ret;exact⟨rfl,uh d,f⟩
theorem zeh(rb:Nat)(s:Bs)(i:Nat)(tb kt:Bool)(w:Wo)(h:zE rb s (i+1) tb kt w)(hs:s.size<=1048576)(hb:bt s (i+1)=116):
  Calls prog 231 #[.pointer (some ⟨rb,0,none⟩)] w fun e w'=>e= .returned (.int .i32 9)/\zE rb s (i+2) tb kt w'/\KB rb w w':=by
 have a:=ze (Yp rb s (i+1) tb kt w h hs (Zb (by rw[hb];decide)));rw[hb]at a;clear h hb;go_in;go_wp2_with fail;refine (uh a).mono ?_;rintro e g ⟨rfl,b,f⟩;have d:=ze b;clear a b;go_wp2;go_ret;exact⟨rfl,uh d,f⟩
theorem zei(rb:Nat)(s:Bs)(i:Nat)(tb kt:Bool)(w:Wo)(h:zE rb s (i+1) tb kt w)(hs:s.size<=1048576)(hi:i+2<=s.size)(h0:bt s i=92)(hb:bt s (i+1)=117):
  Calls prog 231 #[.pointer (some ⟨rb,0,none⟩)] w (Yq rb s tb kt w ((QQ s i).map fun p=>(.int .i32 (p.1:Int),i+p.2))):=by
 have a:=ze (Yp rb s (i+1) tb kt w h hs (Zb (by rw[hb];decide)));rw[Mg h0 hb];rw[hb]at a;have d:Hid (∀ w,zE rb s (i+2) tb kt w->Calls prog 252 #[.pointer (some ⟨rb,0,none⟩)] w (Yq rb s tb kt w (((qW s (i+2) 4).bind (q8 s i)).map fun p=>(.int .i32 (p.1:Int),i+p.2)))):=fun w h=>zd9 rb s i tb kt w h hs hi;clear h hb h0;generalize (qW s (i+2) 4).bind (q8 s i)=o at *
 cases o with
 | none=>
  go_in;go_wp2_with fail;refine (uh a).mono ?_;rintro e m ⟨rfl,b,g⟩;have f:=ze b;clear a b;go_wp2_with fail;refine (uh d _ (uh f)).mono ?_;rintro e n ⟨j,rfl⟩;clear d;exact⟨rfl,g.trans j,rfl⟩
 | some p=>
  go_in;go_wp2_with fail;refine (uh a).mono ?_;rintro e m ⟨rfl,b,g⟩;have f:=ze b;clear a b;go_wp2_with fail;refine (uh d _ (uh f)).mono ?_;rintro e n ⟨j,rfl,k⟩;have l:=ze k;clear d k;go_wp2;go_ret;exact⟨g.trans j,rfl,uh l⟩
theorem zej(rb:Nat)(s:Bs)(i:Nat)(tb kt:Bool)(w:Wo)(h:zE rb s (i+1) tb kt w)(hi:i+1=s.size):
  Calls prog 231 #[.pointer (some ⟨rb,0,none⟩)] w fun e w'=>e=Js/\KB rb w w':=by
 have a:=ze (Pp rb s (i+1) tb kt w h hi);clear h hi;go_in;go_wp2_with fail;refine (uh a).mono ?_;rintro e d ⟨rfl,b⟩;clear a;exact⟨rfl,rfl,b⟩
theorem zek(rb:Nat)(s:Bs)(i:Nat)(tb kt:Bool)(w:Wo)(h:zE rb s (i+1) tb kt w)(hs:s.size<=1048576)(hi:i+1<s.size)(b:Nat)(hb:bt s (i+1)=b)(n34:b≠34)(n92:b≠92)(n47:b≠47)(n98:b≠98)(n102:b≠102)(n110:b≠110)(n114:b≠114)(n116:b≠116)(n117:b≠117):
  Calls prog 231 #[.pointer (some ⟨rb,0,none⟩)] w fun e w'=>e=Js/\KB rb w w':=by
 have a:=ze (Yp rb s (i+1) tb kt w h hs hi);rw[hb]at a;have n:((b:Int) ==34)=false:=by rw[yd];omega
 have p:((b:Int) ==92)=false:=by rw[yd];omega
 have o:((b:Int) ==47)=false:=by rw[yd];omega
 have q:((b:Int) ==98)=false:=by rw[yd];omega
 have d:((b:Int) ==102)=false:=by rw[yd];omega
 have f:((b:Int) ==110)=false:=by rw[yd];omega
 have g:((b:Int) ==114)=false:=by rw[yd];omega
 have j:((b:Int) ==116)=false:=by rw[yd];omega
 have k:((b:Int) ==117)=false:=by rw[yd];omega
 clear h hb n34 n92 n47 n98 n102 n110 n114 n116 n117;go_in;go_wp2_with fail;refine (uh a).mono ?_;rintro e r ⟨rfl,m,l⟩;clear a m;go_wp2;exact⟨rfl,rfl,l⟩
theorem zel{b:Nat}(n34:b≠34)(n92:b≠92)(n47:b≠47)(n98:b≠98)(n102:b≠102)(n110:b≠110)(n114:b≠114)(n116:b≠116):Jt b=none:=by
 unfold Jt;rw[yf n34,yf n92,yf n47,yf n98,yf n102,yf n110,yf n114,yf n116]
theorem VD{rb:Nat}{s:Bs}{tb kt:Bool}{w:Wo}{o:Option (Value×Nat)}{v:Value}{j:Nat}{e:Ending}{w':Wo}(ho:o=some (v,j))(h:e= .returned v/\zE rb s j tb kt w'/\KB rb w w'):Yq rb s tb kt w o e w':=by
 subst ho;exact⟨h.2.2,h.1,h.2.1⟩
theorem Xj{rb:Nat}{s:Bs}{tb kt:Bool}{w:Wo}{o:Option (Value×Nat)}{e:Ending}{w':Wo}(ho:o=none)(h:e=Js/\KB rb w w'):Yq rb s tb kt w o e w':=by
 subst ho;exact⟨h.2,h.1⟩
theorem zem(rb:Nat)(s:Bs)(i:Nat)(tb kt:Bool)(w:Wo)(h:zE rb s (i+1) tb kt w)(hs:s.size<=1048576)(hi:i+1<=s.size)(h0:bt s i=92):
  Calls prog 231 #[.pointer (some ⟨rb,0,none⟩)] w (Yq rb s tb kt w ((QQ s i).map fun p=>(.int .i32 (p.1:Int),i+p.2))):=by
 by_cases n:i+1=s.size
 ·have o:bt s (i+1)=0:=Ya s (i+1) (by omega);exact (zej rb s i tb kt w h n).mono fun e w' hh=>Xj (by rw[Mh o (by rfl) (by decide)];rfl) hh
 by_cases j:bt s (i+1)=34
 ·exact (zea rb s i tb kt w h hs j).mono fun e w' hh=>VD (by rw[Vp j (by rfl)];rfl) hh
 by_cases l:bt s (i+1)=92
 ·exact (zeb rb s i tb kt w h hs l).mono fun e w' hh=>VD (by rw[Vp l (by rfl)];rfl) hh
 by_cases k:bt s (i+1)=47
 ·exact (zec rb s i tb kt w h hs k).mono fun e w' hh=>VD (by rw[Vp k (by rfl)];rfl) hh
 by_cases m:bt s (i+1)=98
 ·exact (zed rb s i tb kt w h hs m).mono fun e w' hh=>VD (by rw[Vp m (by rfl)];rfl) hh
 by_cases a:bt s (i+1)=102
 ·exact (zee rb s i tb kt w h hs a).mono fun e w' hh=>VD (by rw[Vp a (by rfl)];rfl) hh
 by_cases b:bt s (i+1)=110
 ·exact (zef rb s i tb kt w h hs b).mono fun e w' hh=>VD (by rw[Vp b (by rfl)];rfl) hh
 by_cases d:bt s (i+1)=114
 ·exact (zeg rb s i tb kt w h hs d).mono fun e w' hh=>VD (by rw[Vp d (by rfl)];rfl) hh
 by_cases f:bt s (i+1)=116
 ·exact (zeh rb s i tb kt w h hs f).mono fun e w' hh=>VD (by rw[Vp f (by rfl)];rfl) hh
 by_cases g:bt s (i+1)=117
 ·exact zei rb s i tb kt w h hs (by omega) h0 g
 exact (zek rb s i tb kt w h hs (by omega) _ rfl j l k m a b d f g).mono fun e w' hh=>Xj (by rw[Mh rfl (zel j l k m a b d f) g];rfl) hh
theorem Xk{zs:List (List UInt8)}{m:Nat}(h:m<zs.length):zs.toArray[m]! =zs[m]:=by
 rw[getElem!_pos zs.toArray m (by simpa using h)];simp
theorem CE{zs:List (List UInt8)}(h:zs.Pairwise (fun a b=>a<=b)):∀ m,m<=zs.length->Yf (Lib.compactUpTo zs.toArray m)/\∀ x,x∈Lib.compactUpTo zs.toArray m↔x∈zs.take m
 | 0,_=>by simp[Lib.compactUpTo,Yf]
 | m+1,hm=>by
  obtain⟨h1,h2⟩:=CE h m (by omega);rw[Lib.compactUpTo_succ,Xk (by omega),yz (by omega)];have i:=List.pairwise_iff_getElem.1 h
  cases d:Lib.keeps zs.toArray m with
  | true=>
   rw[yg rfl];refine⟨?_,fun x=>by rw[List.mem_append,List.mem_append,h2]⟩;unfold Yf at *;rw[List.pairwise_append];refine⟨h1,List.pairwise_singleton _ _,fun x hx y hy=>?_⟩;rw[List.mem_singleton]at hy;subst hy;obtain⟨j,k,rfl⟩:=yY.1 ((h2 x).1 hx);rw[ym]at k;rw[List.getElem_take];rw[← List.not_le];intro f;have g:m≠0:=by omega
   unfold Lib.keeps at d;rw[decide_eq_true_eq,Xk (by omega),Xk (by omega)]at d;rcases d with d | d
   ·exact g d
   ·refine d (List.le_antisymm ?_ (i (m - 1) m (by omega) (by omega) (by omega)));by_cases e:j=m - 1
    ·subst e;exact f
    ·exact List.le_trans f (i j (m - 1) (by omega) (by omega) (by omega))
  | false=>
   rw[yf (by simp),yT];refine⟨h1,fun x=>?_⟩;unfold Lib.keeps at d;rw[decide_eq_false_iff_not,not_or]at d;obtain⟨g,d⟩:=d;rw[Xk (by omega),Xk (by omega),Classical.not_not]at d;rw[h2,List.mem_append,List.mem_singleton];refine⟨.inl,fun hx=>?_⟩;rcases hx with hx | hx
   ·exact hx
   ·rw[hx,d];exact yY.2 ⟨m - 1,by rw[ym];omega,by rw[List.getElem_take]⟩
theorem CG(l:List (List UInt8)):Lib.compact (l.mergeSort (fun x y=>decide (x<=y)))=Qg l:=by
 have i:∀ a b c:List UInt8,decide (a<=b)=true->decide (b<=c)=true->decide (a<=c)=true:=fun a b c d f=>by simp only[decide_eq_true_eq]at *;exact List.le_trans d f
 have j:∀ a b:List UInt8,(decide (a<=b) || decide (b<=a))=true:=fun a b=>by simp only[Bool.or_eq_true,decide_eq_true_eq];exact List.le_total a b
 have g:(l.mergeSort (fun x y=>decide (x<=y))).Pairwise (fun a b=>a<=b):=(List.pairwise_mergeSort i j l).imp fun h=>by simpa using h
 obtain⟨d,f⟩:=CE g _ (ye _);refine Ch d (Cg l) fun z=>?_;show z∈Lib.compactUpTo _ _↔_
 rw[f,List.take_length,WW];exact (List.mergeSort_perm l _).mem_iff
theorem zen(zs:List (List UInt8)):(Lib.compact zs).length<=zs.length:=by
 unfold Lib.compact Lib.compactUpTo;rw[yl];exact yQ (List.length_filter_le _ _) (by simp)
end Go.Proofs.YtpaecnbdoljafaaGreatDoor
