import Derived.Test.YtpaecnbdoljafaaGreatDoorBz19
import Derived.Test.YtpaecnbdoljafaaGreatDoorBz38
namespace Go.Proofs.YtpaecnbdoljafaaGreatDoor
open Go.RowKit
theorem BW:∀ (us ts:List (List UInt8)),JK (Uy ts) us=Uy (ts++us)
 | [],ts=>by simp[JK]
 | k :: r,ts=>by rw[JK,← za8,BW r,List.append_assoc];rfl
theorem F5(ts:List (List UInt8)):zK (JK [] ts)=some ts:=by
 have:=BW ts [];rw[show Uy []=[]from rfl]at this;rw[this,List.nil_append];exact Dz ts
theorem BZ:∀ (n:Nat) (p:List UInt8) (a b:JV),zD a->zD b->zw a=false->zw b=false->∀ q∈qS n p a b,∃ ts,q=JK p ts/\q.length<=p.length+2*max (ct a).length (ct b).length
 | 0,p,a,b,_,_,_,_,q,h=>by simp[qS]at h
 | n+1,p,a,b,oa,ob,ta,tb,q,h=>by
  by_cases hc:qC a b=true
  ·rw[F8 hc]at h;obtain⟨key,hk,hq⟩:=List.mem_flatMap.1 h;have s:=FL p key;have g:key.length+1<=max (ct a).length (ct b).length:=by
    rcases UV hc hk with f | f
    ·obtain⟨x,hx,rfl⟩:=yP.1 f;have:=(JG oa ta hx).2.2.2;omega
    ·obtain⟨x,hx,rfl⟩:=yP.1 f;have:=(JG ob tb hx).2.2.2;omega
   have d:q=Zp p key->∃ ts,q=JK p ts/\q.length<=p.length+2*max (ct a).length (ct b).length:=fun e=>⟨[key],by rw[e];rfl,by rw[e];omega⟩;unfold qT at hq
   cases hu:zX (zu a) key with
   | none=>
    rw[hu]at hq;exact d (by simpa using hq)
   | some u=>
    cases hv:zX (zu b) key with
    | none=>
     rw[hu,hv]at hq;exact d (by simpa using hq)
    | some v=>
     rw[hu,hv]at hq;obtain⟨j,k,_,l⟩:=JG oa ta (YU hu);obtain⟨m,o,_,r⟩:=JG ob tb (YU hv);obtain⟨ts,e,i⟩:=BZ n (Zp p key) u v j m k o q hq;simp only at l r;exact⟨key :: ts,e,by omega⟩
  ·rw[qS,yf hc]at h;split at h
   ·simp at h
   ·obtain rfl:q=p:=by simpa using h
    exact⟨[],rfl,by omega⟩
def QF(a b:JV)(p:List UInt8):zG:=match zr b ((zK p).getD [])with
 | none=>⟨2,zh p,⟨#[]⟩,⟨#[]⟩⟩
 | some v=>match zr a ((zK p).getD [])with
  | none=>⟨1,zh p,⟨#[]⟩,zh (ct v)⟩
  | some _=>⟨3,zh p,⟨#[]⟩,zh (ct v)⟩
def Qu(s t:Bs):List zG:=match zI s,zI t with
 | .inr a,.inr b=>if 100<(qR s t).length then [⟨3,⟨#[]⟩,⟨#[]⟩,zh (ct b)⟩]else (qR s t).map (QF a b)
 | _,_=>[]
theorem Ca(s t:Bs):(Qu s t).length<=100:=by
 unfold Qu;split
 ·split
  ·simp
  ·rw[yl];omega
 ·simp
theorem Cb{s t:Bs}(h:Qf s t=false):Qu s t=[]:=by
 revert h;unfold Qf Qu
 cases zI s<;>cases zI t<;>simp
theorem Cc{s t:Bs}(h:Qf s t=true):∃ a b,zI s= .inr a/\zI t= .inr b/\(100<(qR s t).length->Qu s t=[⟨3,⟨#[]⟩,⟨#[]⟩,zh (ct b)⟩])/\(¬ 100<(qR s t).length->Qu s t=(qR s t).map (QF a b)):=by
 revert h;unfold Qf
 cases hs:zI s with
 | inl c=>cases zI t<;>simp
 | inr a=>
  cases ht:zI t with
  | inl c=>simp
  | inr b=>
   intro _;refine⟨a,b,rfl,rfl,fun h=>?_,fun h=>?_⟩
   ·unfold Qu;rw[hs,ht];simp only;rw[yg h]
   ·unfold Qu;rw[hs,ht];simp only;rw[yf h]
theorem zdO{s t:Bs}{p:List UInt8}(hp:p∈qR s t):∃ ts,zK p=some ts/\p.length<=40000:=by
 unfold qR at hp
 cases hs:zI s with
 | inl c=>rw[hs]at hp;simp at hp
 | inr a=>
  cases ht:zI t with
  | inl c=>rw[hs,ht]at hp;simp at hp
  | inr b=>
   rw[hs,ht]at hp;have d:=ZF.of hs;have f:=ZF.of ht;obtain⟨ts,rfl,g⟩:=BZ _ _ _ _ d.ok f.ok d.tw f.tw p hp;refine⟨ts,F5 ts,?_⟩;have:=d.len;have:=f.len;simp at g;omega
end Go.Proofs.YtpaecnbdoljafaaGreatDoor
