import Derived.Test.YtpaecnbdoljafaaGreatDoorBz1
namespace Go.Proofs.YtpaecnbdoljafaaGreatDoor
theorem Xt{c:UInt8}{n:Nat}(h:c.toNat=n):c=UInt8.ofNat n:=by rw[← h,UInt8.ofNat_toNat]
theorem OH:∀ (n:Nat) (l t:List UInt8),l.length<=n->zQ l=some t->(∀ c∈l,¬ c.toNat=47)->zT t=l
 | _,[],t,_,h,_=>by rw[zQ]at h;injection h with h;subst h;rfl
 | 0,c :: r,t,hn,_,_=>by simp at hn
 | n+1,c :: r,t,hn,h,hc=>by
  by_cases h1:c.toNat=126
  ·have hcI:(c.toNat:Int)=126:=by omega
   have j:=Xt h1
   cases r with
   | nil=>rw[U8 hcI]at h;cases h
   | cons d r=>
    have k:r.length<=n:=by simp at hn;omega
    have b:∀ c∈r,¬ c.toNat=47:=fun x hx=>hc x (yw _ (yw _ hx));by_cases m:d.toNat=48
    ·have i:=Xt m;rw[Uc r hcI (by omega)]at h;simp only[yA]at h;obtain⟨a,f,rfl⟩:=h;have g:=OH n r a k f b;show QV 126++zT a=_
     rw[g,j,i];rfl
    ·by_cases o:d.toNat=49
     ·have i:=Xt o;rw[Ud r hcI (by omega)]at h;simp only[yA]at h;obtain⟨a,f,rfl⟩:=h;have g:=OH n r a k f b;show QV 47++zT a=_
      rw[g,j,i];rfl
     ·rw[U9 r hcI (by omega) (by omega)]at h;cases h
  ·rw[Ub r (by omega)]at h;simp only[yA]at h;obtain⟨a,f,rfl⟩:=h;have g:=OH n r a (by simp at hn;omega) f (fun x hx=>hc x (yw _ hx));show QV c++zT a=_
   have p:=hc c yq;rw[g,U7 (by omega) (by omega)];rfl
theorem EI:∀ (l p:List UInt8) (ps:List (List UInt8)),ZK l=p :: ps->l=p++ps.flatMap (47 :: ·)/\∀ q∈p :: ps,∀ c∈q,¬ c.toNat=47
 | [],p,ps,h=>by
  rw[ZK]at h;injection h with h1 h2;subst h1;subst h2;exact⟨rfl,fun q hq c hc=>by simp at hq;subst hq;simp at hc⟩
 | c :: r,p,ps,h=>by
  obtain⟨p',ps',e⟩:∃ p' ps',ZK r=p' :: ps':=by
   cases hp:ZK r with
   | nil=>exact absurd hp (Gh r)
   | cons a b=>exact⟨a,b,rfl⟩
  obtain⟨h1,h2⟩:=EI r p' ps' e;by_cases hc:c.toNat=47
  ·rw[Gi r hc,e]at h;injection h with e1 e2;subst e1;subst e2;refine⟨?_,fun q hq x hx=>?_⟩
   ·have d:=Xt hc;rw[d,h1];rfl
   ·rcases List.mem_cons.1 hq with rfl | hq
    ·simp at hx
    ·exact h2 q hq x hx
  ·rw[Vh hc e]at h;injection h with e1 e2;subst e1;subst e2;refine⟨by rw[List.cons_append,← h1],fun q hq x hx=>?_⟩;rcases List.mem_cons.1 hq with rfl | hq
   ·rcases List.mem_cons.1 hx with rfl | hx
    ·exact hc
    ·exact h2 p' yq x hx
   ·exact h2 q (yw _ hq) x hx
theorem EJ:∀ (ps ts:List (List UInt8)),ps.mapM zQ=some ts->(∀ q∈ps,∀ c∈q,¬ c.toNat=47)->ts.map zT=ps
 | [],ts,h,_=>by simp at h;subst h;rfl
 | p :: ps,ts,h,hp=>by
  rw[List.mapM_cons]at h
  cases h1:zQ p with
  | none=>rw[h1]at h;cases h
  | some t=>
   cases h2:ps.mapM zQ with
   | none=>rw[h1,h2]at h;cases h
   | some ts'=>
    rw[h1,h2]at h;injection h with h;subst h;rw[yi,OH p.length p t (ye _) h1 (hp p yq),EJ ps ts' h2 (fun q hq=>hp q (yw _ hq))]
theorem zgb(ts:List (List UInt8)):ZC (ts.map zH)=(ts.map zT).flatMap (47 :: ·):=by
 unfold ZC;rw[List.flatMap_map,List.flatMap_map];rfl
theorem EK{l:List UInt8}{ts:List (List UInt8)}(h:zK l=some ts):ZC (ts.map zH)=l:=by
 cases l with
 | nil=>rw[zK]at h;injection h with h;subst h;rfl
 | cons c r=>
  rw[zK]at h;split at h
  ·rename_i hc;obtain⟨p,d,e⟩:∃ p d,ZK r=p :: d:=by
    cases hp:ZK r with
    | nil=>exact absurd hp (Gh r)
    | cons a b=>exact⟨a,b,rfl⟩
   obtain⟨g,i⟩:=EI r p d e;unfold Qq at h;rw[e]at h;rw[zgb,EJ _ ts h i];have f:=Xt hc;rw[f,g];rfl
  ·cases h
end Go.Proofs.YtpaecnbdoljafaaGreatDoor
