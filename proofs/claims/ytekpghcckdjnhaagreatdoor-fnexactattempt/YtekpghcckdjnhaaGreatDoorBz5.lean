import Derived.Test.YtekpghcckdjnhaaGreatDoorBz4
import Derived.Lib.ParseIntBCases
import Derived.Lib.ItoaMem
import Derived.Lib.SlicesCompact
set_option maxRecDepth 100000
set_option maxHeartbeats 8000000
namespace Go.Proofs.YtekpghcckdjnhaaGreatDoor
open Go.RowKit Go.Proofs.Tryz
theorem zfK{c:UInt8}(h:128<=c.toNat):qB c=[c]:=by
 unfold qB;rw[yf (by omega),yf (by omega),yf (by omega),yf (by omega),yf (by omega),yf (by omega),yf (by omega)]
theorem Rx:∀ {l:List UInt8},(∀ c∈l,128<=c.toNat)->qs l=l
 | [],_=>rfl
 | c :: r,h=>by
  have h1:=Rx (l:=r) fun x hx=>h x (yv _ hx);have a:=zfK (h c yp);show qB c++qs r=c :: r
  rw[h1,a];rfl
theorem FX{x:Int}(h0:128<=x)(h1:x<=255):128<=(x.toNat.toUInt8).toNat:=by
 have:(x.toNat.toUInt8).toNat=x.toNat % 256:=rfl;rw[this];omega
theorem zfL{r:Nat}(h:128<=r)(h2:r<=1114111):(∀ c∈enc r,128<=c.toNat)/\(r<=2047->(enc r).length=2)/\(r<=65535->(enc r).length<=3):=by
 unfold enc Lib.encodeRune;by_cases a:r<=2047
 ·rw[Lib.encodeRuneZ_two (by omega) (by omega)];refine⟨fun c hc=>?_,fun _=>rfl,fun _=>by simp⟩;simp only[yi,List.map_nil,List.mem_cons,List.not_mem_nil,or_false]at hc;rcases hc with rfl | rfl<;>exact FX (by omega) (by omega)
 ·by_cases b:(2048<=(r:Int)/\(r:Int)<55296)∨(57343<(r:Int)/\(r:Int)<=65535)
  ·rw[Lib.encodeRuneZ_three b];refine⟨fun c hc=>?_,fun h=>absurd h a,fun _=>by simp⟩;simp only[yi,List.map_nil,List.mem_cons,List.not_mem_nil,or_false]at hc;rcases hc with rfl | rfl | rfl<;>exact FX (by omega) (by omega)
  ·by_cases d:65536<=r
   ·rw[Lib.encodeRuneZ_four (by omega) (by omega)];refine⟨fun c hc=>?_,fun h=>absurd h a,fun h=>by omega⟩;simp only[yi,List.map_nil,List.mem_cons,List.not_mem_nil,or_false]at hc;rcases hc with rfl | rfl | rfl | rfl<;>exact FX (by omega) (by omega)
   ·have e:Lib.encodeRuneZ (r:Int)=[239,191,189]:=by
     unfold Lib.encodeRuneZ;rw[yf (by omega),yf (by omega),yf b,yf (by omega)]
    rw[e];refine⟨fun c hc=>?_,fun h=>absurd h a,fun _=>by simp⟩;simp only[yi,List.map_nil,List.mem_cons,List.not_mem_nil,or_false]at hc;rcases hc with rfl | rfl | rfl<;>exact FX (by omega) (by omega)
theorem zfM{r:Nat}(h:r<=1114111):(qs (enc r)).length<=6/\(65536<=r->(qs (enc r)).length<=12):=by
 by_cases a:r<128
 ·rw[NZ a];have:=Ob (UInt8.ofNat r);have e:qs [UInt8.ofNat r]=qB (UInt8.ofNat r):=by simp[qs]
  rw[e];omega
 ·obtain⟨b,_,d⟩:=zfL (by omega) h;rw[Rx b];have:=XW r;omega
theorem zfN{s:Bs}{i r n:Nat}(h:piece s i=some (r,n))(h34:bt s i≠34):(qs (enc r)).length<=n:=by
 have b:=Gw h;unfold piece at h;split at h
 ·unfold QJ at h;split at h
  ·rename_i v a;injection h with h;injection h with h1 h2;subst h1;subst h2;have d:v=34∨v=92∨v=47∨v=8∨v=12∨v=10∨v=13∨v=9:=by
    unfold Jh at a
    repeat' split at a
    all_goals first |(injection a with a;omega) | cases a
   rcases d with rfl | rfl | rfl | rfl | rfl | rfl | rfl | rfl<;>decide
  ·simp only[Option.bind_eq_some_iff]at h;obtain⟨u,o,h⟩:=h;have m:=(zfM b.2.2).1;unfold qW at h;split at h
   ·injection h with h;injection h with h1 h2;omega
   ·split at h
    ·cases h
    ·simp only[Option.bind_eq_some_iff]at h;obtain⟨v,a,h⟩:=h;split at h
     ·injection h with h;injection h with h1 h2;omega
     ·cases h
 ·split at h
  ·cases h
  ·split at h
   ·rename_i h92 h32 h128;injection h with h;injection h with h1 h2;subst h1;subst h2;rw[NZ h128];have e:qs [UInt8.ofNat (bt s i)]=qB (UInt8.ofNat (bt s i)):=by simp[qs]
    have g:(UInt8.ofNat (bt s i)).toNat=bt s i:=by rw[UInt8.toNat_ofNat'];omega
    rw[e];unfold qB;rw[g,yf (by omega),yf (by omega),yf (by omega),yf (by omega),yf (by omega),yf (by omega),yf (by omega)];simp
   ·split at h
    ·cases h
    ·rename_i h92 h32 h128 hrl;injection h with h;injection h with h1 h2;have f:i<s.size:=zZ (by omega);have j:¬ s[i].toNat<128:=by rw[← Zr s i f];exact h128
     obtain⟨k,l,_,_⟩:=Wm s i f hrl j;subst h1;subst h2;unfold enc;rw[k,Rx l,ym];omega
theorem zfO{s:Bs}:∀ {i j:Nat} {l:List UInt8},qK s i=some (l,j)->(qs l).length+i+1<=j:=by
 intro i;generalize hn:s.size - i=n;induction n using Nat.strongRecOn generalizing i with
 | _ n ih=>
  intro j l h;by_cases a:bt s i=34
  ·rw[Wn a]at h;injection h with h;injection h with h1 h2;subst h1;simp[qs];omega
  ·cases hp:piece s i with
   | none=>rw[Wp a hp]at h;cases h
   | some p=>
    obtain⟨r,b⟩:=p;have g:=Gw hp;have f:=zfN hp a;rw[Gx a hp]at h;rcases hq:qK s (i+b)with _ |⟨d,k⟩
    ·rw[hq]at h;cases h
    ·rw[hq]at h;injection h with h;injection h with h1 h2;have:=ih (s.size - (i+b)) (by omega) rfl hq;subst h1;show (qs (enc r++d)).length+i+1<=j
     rw[Oc,yh];simp only at h2;omega
theorem Co{s:Bs}{i j:Nat}{l:List UInt8}(h:ZD s i=some (l,j)):(quoted l).length+i<=j:=by
 unfold ZD at h;split at h
 ·have:=zfO h;unfold quoted;simp only[yn,yh,yD];omega
 ·cases h
theorem Ry(l:List (List UInt8))(h:l≠[]):(joinC l).length+1=(l.map fun t=>t.length+1).sum:=by
 cases l with
 | nil=>exact absurd rfl h
 | cons t r=>
  rw[joinC,yh,PU,yi,yL];omega
theorem zfP(l:List (List UInt8×List UInt8))(h:l≠[]):(qX (zH l)).length=Zd l+1:=by
 have b:=(qL l);have a:(zH l).map zn≠[]:=by
  intro e;rw[List.map_eq_nil_iff]at e;rw[e]at b;exact h b.symm.eq_nil
 have d:=Ry ((zH l).map zn) a;have f:=KI l;unfold Zd at *;rw[List.map_map]at d;unfold qX;simp only[yn,yh,yD];have g:((zH l).map ((fun t=>t.length+1)∘zn)).sum=((zH l).map fun p=>(zn p).length+1).sum:=rfl;omega
theorem WJ(s:Bs):∀ f i,(∀ v j,pv s f i=some (v,j)->(ct v).length+i<=j)/\(∀ l j,pa s f i=some (l,j)->zr l≠[]/\((zr l).map fun t=>t.length+1).sum+i<=j)/\(∀ m j,po s f i=some (m,j)->zj m≠[]/\Zd (zj m)+i<=j)
 | 0,i=>⟨fun v j h=>by simp[pv]at h,fun v j h=>by simp[pa]at h,fun v j h=>by simp[po]at h⟩
 | f+1,i=>by
  refine⟨fun v j h=>?_,fun l j h=>?_,fun m j h=>?_⟩
  ·have hok:=(Qs s (f+1) i).1 v j h;rw[pv]at h;have g:=Ze s (i+1);split at h
   ·split at h
    ·injection h with h;injection h with b h;subst b;simp[ct,zr,qg,joinC];omega
    ·simp only[yz]at h;obtain⟨⟨l,k⟩,d,h⟩:=h;injection h with b h;have o:=(WJ s f (sk s (i+1))).2.1 l k d;have u:=(Qs s f (sk s (i+1))).2.1 l k d;have B:=Ry (zr l) o.1;have o:=o.2;subst b;simp only[ct,qg,yn,yh,yD];simp only at h;omega
   ·split at h
    ·split at h
     ·injection h with h;injection h with b h;subst b;simp[ct,zj,qX,zH,joinC];omega
     ·simp only[yz]at h;obtain⟨⟨l,k⟩,d,h⟩:=h;injection h with b h;have o:=(WJ s f (sk s (i+1))).2.2 l k d;have u:=(Qs s f (sk s (i+1))).2.2 l k d;have B:=zfP (zj l) o.1;have o:=o.2;subst b;simp only[ct];simp only at h;omega
    ·split at h
     ·simp only[yz]at h;obtain⟨⟨l,k⟩,d,h⟩:=h;injection h with b h;have o:=Co d;subst b;simp only[ct];simp only at h;omega
     ·split at h
      ·injection h with h;injection h with b h;subst b;simp[ct];omega
      ·split at h
       ·injection h with h;injection h with b h;subst b;simp[ct];omega
       ·split at h
        ·injection h with h;injection h with b h;subst b;simp[ct];omega
        ·simp only[yz]at h;obtain⟨⟨l,k⟩,d,h⟩:=h;injection h with b h;have o:=Tu d;subst b;simp only[ct];simp only at h;omega
  ·rw[pa]at h;simp only[Option.bind_eq_some_iff]at h;obtain⟨⟨v,k⟩,d,h⟩:=h;have o:=(Qs s f i).1 v k d;have r:=(WJ s f i).1 v k d;have y:=Ze s k;simp only at h;split at h
   ·injection h with h;injection h with b h;subst b;refine⟨by simp[zr],?_⟩;simp[zr];omega
   ·split at h
    ·simp only[yz]at h;obtain⟨⟨l,n⟩,q,h⟩:=h;injection h with b h;have u:=(Qs s f _).2.1 l n q;have w:=(WJ s f _).2.1 l n q;have z:=Ze s (sk s k+1);subst b;refine⟨by simp[zr],?_⟩;simp only[zr,yi,yL];simp only at h;omega
    ·cases h
  ·rw[po]at h;simp only[Option.bind_eq_some_iff]at h;obtain⟨⟨p,a⟩,x,h⟩:=h;have b:=Ye x;have A:=Co x;simp only at h;split at h
   ·simp only[Option.bind_eq_some_iff]at h;obtain⟨⟨v,k⟩,d,h⟩:=h;have o:=(Qs s f _).1 v k d;have r:=(WJ s f _).1 v k d;have D:=Ze s a;have E:=Ze s (sk s a+1);have y:=Ze s k;simp only at h;split at h
    ·injection h with h;injection h with b h;subst b;refine⟨by simp[zj],?_⟩;simp[zj,Zd,zn];omega
    ·split at h
     ·simp only[yz]at h;obtain⟨⟨l,n⟩,q,h⟩:=h;injection h with b h;have u:=(Qs s f _).2.2 l n q;have w:=(WJ s f _).2.2 l n q;have z:=Ze s (sk s k+1);subst b;have e:Zd (zj (.cons p v l))=(zn (p,ct v)).length+1+Zd (zj l):=by simp[zj,Zd]
      have C:(zn (p,ct v)).length=(quoted p).length+1+(ct v).length:=by simp[zn];omega
      refine⟨by simp[zj],?_⟩;simp only at h ⊢;omega
     ·cases h
   ·cases h
theorem zfQ{s:Bs}{i j:Nat}{v:JV}(h:val s i=some (v,j)):(ct v).length+i<=j:=(WJ s _ i).1 v j h
theorem zfR{s:Bs}{v:JV}(h:Qj s=some v):(ct v).length<=s.size:=by
 unfold Qj at h
 cases hv:val s (sk s 0)with
 | none=>rw[hv]at h;simp at h
 | some q=>
  rw[hv]at h;simp only[yA]at h;split at h
  ·rename_i hs;injection h with h;subst h;have a:=zfQ (v:=q.1) (j:=q.2) hv;have b:=Ze s q.2;omega
  ·cases h
theorem PR.shape{w:Wo}{B:Nat}{v:Value}{ps:List zK}(h:PR w B v ps):∃ x cap,v= .slice x ps.length cap:=by
 rcases h.2 with ⟨a,d⟩ |⟨g,cap,b,a,_⟩
 ·exact⟨none,0,by rw[a,d]⟩
 ·exact⟨_,_,a⟩
theorem zfS:∀ (k n:Nat),n<10 ^ (k+1)->(Zp n).length<=k+1:=by
 intro k;induction k with
 | zero=>intro n a;rw[J0 (by omega)];simp
 | succ k ih=>
  intro n a;by_cases h:n<10
  ·rw[J0 h];simp
  ·rw[Ut h,yh];have b:=ih (n / 10) (by rw[Nat.pow_succ]at a;omega);rw[J0 (n:=n % 10) (by omega)];simp;omega
end Go.Proofs.YtekpghcckdjnhaaGreatDoor
namespace Go.Proofs.YtekpghcckdjnhaaGreatDoor
open Go.RowKit Go.Lib Go.Proofs.Tryz
def dV(c:UInt8):Nat:=c.toNat - 48
def Zv(a:Nat)(d:List UInt8):Nat:=d.foldl (fun a c=>a*10+dV c) a
def Dg(d:List UInt8):Prop:=∀ c∈d,48<=c.toNat/\c.toNat<=57
def Vr(d:List UInt8):Prop:=Dg d/\d≠[]/\(d=[48]∨∀ c r,d=c :: r->49<=c.toNat)
theorem Dg.tail{c:UInt8}{d:List UInt8}(h:Dg (c :: d)):Dg d:=fun x hx=>h x (yv _ hx)
theorem Dg.head{c:UInt8}{d:List UInt8}(h:Dg (c :: d)):48<=c.toNat/\c.toNat<=57:=h c yp
theorem GT(a:Nat)(c:UInt8)(d:List UInt8):Zv a (c :: d)=Zv (a*10+dV c) d:=by unfold Zv;rw[List.foldl_cons]
theorem zfT(a:Nat)(d:List UInt8)(c:UInt8):Zv a (d++[c])=Zv a d*10+dV c:=by unfold Zv;rw[List.foldl_append];rfl
theorem zfU(d:List UInt8):∀ a,a<=Zv a d:=by
 induction d with
 | nil=>intro a;exact ye _
 | cons c d ih=>intro a;rw[GT];have:=ih (a*10+dV c);omega
theorem FY(d:List UInt8):∀ a,Zv a d=a*10 ^ d.length+Zv 0 d:=by
 induction d with
 | nil=>intro a;simp[Zv]
 | cons c d ih=>
  intro a;rw[GT,GT,ih (a*10+dV c),ih (0*10+dV c),yn,Nat.pow_succ];rw[Nat.add_mul,Nat.zero_mul,Nat.zero_add,Nat.mul_assoc,Nat.mul_comm 10,Nat.add_assoc]
theorem Rz(d:List UInt8)(h:Dg d):Zv 0 d<10 ^ d.length:=by
 induction d with
 | nil=>simp[Zv]
 | cons c d ih=>
  rw[GT,FY,yn,Nat.pow_succ];have a:=ih h.tail;have b:=h.head;have f:dV c<=9:=by unfold dV;omega
  have g:(0*10+dV c)*10 ^ d.length<=9*10 ^ d.length:=Nat.mul_le_mul_right _ (by omega);omega
theorem RA{c:UInt8}{d:List UInt8}(hc:49<=c.toNat):10 ^ d.length<=Zv 0 (c :: d):=by
 rw[GT,FY];have:1*10 ^ d.length<=(0*10+dV c)*10 ^ d.length:=Nat.mul_le_mul_right _ (by unfold dV;omega);omega
theorem zfV(d:List UInt8)(h:Dg d):∀ a,a<=18446744073709551615->parseUintM 18446744073709551615 a d=if Zv a d<=18446744073709551615 then .ok (Zv a d)else .range:=by
 induction d with
 | nil=>intro a g;rw[parseUintM];rw[yg (by exact g)];rfl
 | cons c d ih=>
  intro a g;rw[parseUintM,yg h.head,GT];have i:=zfU d (a*10+dV c);have e:a*10+(c.toNat - 48)=a*10+dV c:=rfl;by_cases b:1844674407370955162<=a
  ·rw[yg b,yf (by omega)]
  ·rw[yf b,e];by_cases f:18446744073709551615<a*10+dV c
   ·rw[yg f,yf (by omega)]
   ·rw[yf f];exact ih h.tail _ (by omega)
theorem Cp:∀ (a b:List UInt8),Dg a->Dg b->a.length=b.length->(Op.bytesLess a b=decide (Zv 0 a<Zv 0 b))/\((a ==b)=decide (Zv 0 a=Zv 0 b))
 | [],[],_,_,_=>by simp[Op.bytesLess,Zv]
 | [],_ :: _,_,_,h=>by simp at h
 | _ :: _,[],_,_,h=>by simp at h
 | c :: a,x :: b,ha,hb,h=>by
  have hl:a.length=b.length:=by simpa using h
  obtain⟨n,o⟩:=Cp a b ha.tail hb.tail hl;have k:=Rz a ha.tail;have p:=Rz b hb.tail;have q:=ha.head;have hx:=hb.head;rw[GT,GT,FY a,FY b,hl];rw[hl]at k;have l:0*10+dV c=dV c:=by omega
  have m:0*10+dV x=dV x:=by omega
  rw[l,m];generalize Zv 0 a=A at *;generalize Zv 0 b=B at *;generalize 10 ^ b.length=P at *;have g:c<x↔dV c<dV x:=by rw[UInt8.lt_iff_toNat_lt];unfold dV;omega
  have d:c=x↔dV c=dV x:=by rw[← UInt8.toNat_inj];unfold dV;omega
  rw[Op.bytesLess];by_cases j:dV c<dV x
  ·have:(dV c+1)*P<=dV x*P:=Nat.mul_le_mul_right _ j;rw[Nat.add_mul,Nat.one_mul]at this;refine⟨?_,?_⟩
   ·rw[yj (g.2 j),Bool.true_or,yj (by omega)]
   ·rw[yk (by omega),yd];intro e;injection e with e1 e2;have:=d.1 e1;omega
  ·by_cases i:dV c=dV x
   ·have f:(c ==x)=true:=by rw[yC];exact d.2 i
    rw[yk (fun hh=>j (g.1 hh)),Bool.false_or,f,Bool.true_and,n,i];refine⟨?_,?_⟩
    ·apply decide_eq_decide.2;omega
    ·rw[d.2 i];rw[show ((x :: a) ==(x :: b))=(a ==b)from by simp,o];apply decide_eq_decide.2;omega
   ·have:(dV x+1)*P<=dV c*P:=Nat.mul_le_mul_right _ (by omega);rw[Nat.add_mul,Nat.one_mul]at this;have f:(c ==x)=false:=by rw[yd];exact fun e=>i (d.1 e)
    refine⟨?_,?_⟩
    ·rw[yk (fun hh=>j (g.1 hh)),Bool.false_or,f,Bool.false_and,yk (by omega)]
    ·rw[yk (by omega),yd];intro e;injection e with e1 e2;exact i (d.1 e1)
theorem Vr.bounds{d:List UInt8}(h:Vr d):(d.length<=18->Zv 0 d<1000000000000000000)/\(20<=d.length->10000000000000000000<=Zv 0 d):=by
 obtain⟨b,i,a⟩:=h;refine⟨fun hl=>?_,fun hl=>?_⟩
 ·have:=Rz d b;have f:10 ^ d.length<=10 ^ 18:=Nat.pow_le_pow_right (by decide) hl;have g:(10:Nat) ^ 18=1000000000000000000:=by decide
  omega
 ·rcases a with rfl | a
  ·simp at hl
  ·cases d with
   | nil=>simp at hl
   | cons c r=>
    have:=RA (d:=r) (a c r rfl);have f:10 ^ 19<=10 ^ r.length:=Nat.pow_le_pow_right (by decide) (by simp at hl;omega);have g:(10:Nat) ^ 19=10000000000000000000:=by decide
    omega
theorem Cq{d lim:List UInt8}{m:Nat}(h:Vr d)(hl:Dg lim)(h19:lim.length=19)(hm:Zv 0 lim=m)(h1:1000000000000000000<=m)(h2:m<10000000000000000000):over d lim=decide (m<Zv 0 d):=by
 unfold over;have b:=h.bounds;by_cases f:d.length=19
 ·rw[yf (by omega)];obtain⟨i,j⟩:=Cp d lim h.1 hl (by omega);rw[i,j,hm];by_cases g:m<Zv 0 d
  ·rw[yj g,yk (by omega),yk (by omega)];rfl
  ·rw[yk g];by_cases a:Zv 0 d=m
   ·rw[yj a];simp
   ·rw[yj (show Zv 0 d<m by omega)];rfl
 ·rw[yg f];apply decide_eq_decide.2;constructor
  ·intro g;have:=b.2 (by omega);omega
  ·intro g;rcases Nat.lt_or_ge d.length 19 with a | a
   ·have:=b.1 (by omega);omega
   ·omega
theorem zfW{d:List UInt8}(h:Vr d):over d Un=decide (9223372036854775807<Zv 0 d):=Cq h (by unfold Dg Un;decide) rfl (by decide) (by decide) (by decide)
theorem zfX{d:List UInt8}(h:Vr d):over d Uo=decide (9223372036854775808<Zv 0 d):=Cq h (by unfold Dg Uo;decide) rfl (by decide) (by decide) (by decide)
theorem Cr{c:UInt8}(h:48<=c.toNat/\c.toNat<=57):UInt8.ofNat (48+dV c)=c:=by
 apply UInt8.toNat_inj.1;rw[UInt8.toNat_ofNat'];unfold dV;omega
theorem zfY(n:Nat):∀ d:List UInt8,d.length=n->Vr d->decDigits (Zv 0 d)=d:=by
 induction n with
 | zero=>intro d i h;exact absurd (yN i) h.2.1
 | succ n ih=>
  intro d i h;obtain⟨j,o,f⟩:=h;rcases List.eq_nil_or_concat d with e |⟨m,c,e⟩
  ·exact absurd e o
  ·rw[List.concat_eq_append]at e;subst e;have k:48<=c.toNat/\c.toNat<=57:=j c (by simp);have s:dV c<=9:=by unfold dV;omega
   rw[zfT]
   cases m with
   | nil=>
    show decDigits (0*10+dV c)=[c]
    rw[decDigits_one (by omega),show 48+(0*10+dV c)=48+dV c by omega,Cr k]
   | cons x r=>
    have hx:49<=x.toNat:=by
     rcases f with f | f
     ·simp at f
     ·exact f x (r++[c]) rfl
    have l:=RA (d:=r) hx;have q:0<10 ^ r.length:=Nat.pow_pos (by decide);have p:Vr (x :: r):=⟨fun y g=>j y (by simp at g ⊢;rcases g with g | g<;>simp[g]),by simp,.inr (fun a b e=>by injection e with e1 e2;subst e1;exact hx)⟩;have:=ih (x :: r) (by simp at i ⊢;omega) p;rw[decDigits,dif_neg (by omega),show (Zv 0 (x :: r)*10+dV c) / 10=Zv 0 (x :: r) by omega,show (Zv 0 (x :: r)*10+dV c) % 10=dV c by omega,this,Cr k]
theorem KX{s:Bs}{i j:Nat}(hi:i<s.size)(hj:i<j):Zc s i j=s[i] :: Zc s (i+1) j:=by
 unfold Zc;rw[Qn s i hi,show j - i=(j - (i+1))+1 by omega,List.take_succ_cons]
theorem Cs(s:Bs)(i:Nat):Zc s i i=[]:=by unfold Zc;simp
theorem Ct(s:Bs):∀ n i,s.size - i<=n->Dg (Zc s i (dg s i))
 | n,i,hn=>by
  by_cases h:zI (bt s i)=true
  ·have hi:i<s.size:=zZ (by have:=Qo.1 h;omega)
   cases n with
   | zero=>omega
   | succ n=>
    have b:=XX (s:=s) (i:=i+1) (by omega);rw[VL h,KX hi (by omega)];intro c a;rcases List.mem_cons.1 a with rfl | a
    ·rw[Zr s i hi]at h;exact Qo.1 h
    ·exact Ct s n (i+1) (by omega) c a
  ·rw[Uk h,Cs];intro c a;cases a
theorem zfZ{s:Bs}{i j:Nat}{l:List UInt8}(h:nm s i=some (l,j)):j=qf s i/\Vr (Zc s (zX s i) j)/\Zc s i j=(if bt s i=45 then 45 :: Zc s (zX s i) j else Zc s (zX s i) j)/\l=Qc (Zc s i j):=by
 have n:=Ki h;unfold nm at h;split at h
 ·rename_i hd;injection h with h;injection h with h1 h2;have k:=Qo.1 hd;have b:zX s i<s.size:=zZ (by omega);have g:=Zr s (zX s i) b;subst h2;refine⟨rfl,?_,?_,h1.symm⟩
  ·unfold qf;split
   ·rename_i h48;rw[KX b (by omega),Cs];have e:s[zX s i]=48:=UInt8.toNat_inj.1 (by show _=48;omega);rw[e];exact⟨by unfold Dg;decide,by simp,.inl rfl⟩
   ·rename_i h48;have m:=XX (s:=s) (i:=zX s i+1) (by omega);refine⟨Ct s _ _ (ye _),?_,.inr ?_⟩
    ·rw[VL hd,KX b (by omega)];simp
    ·intro c r e;rw[VL hd,KX b (by omega)]at e;injection e with e1 e2;subst e1;omega
  ·by_cases a:bt s i=45
   ·have f:i<s.size:=zZ (by omega);have e:s[i]=45:=UInt8.toNat_inj.1 (by show _=45;rw[← Zr s i f];exact a);have d:zX s i=i+1:=by unfold zX;rw[yg a]
    rw[yg a,KX f (by omega),e,d]
   ·have d:zX s i=i:=by unfold zX;rw[yf a]
    rw[yf a,d]
 ·cases h
theorem zf0{d:List UInt8}(h:Vr d):Qc d=d:=by
 unfold Qc;rw[yf];intro e;have:=h.1 45 (by rw[e];simp);exact absurd this.1 (by decide)
theorem zf1{d:List UInt8}(h:Vr d):parseUintB 64 d=if Zv 0 d<=18446744073709551615 then .ok (Zv 0 d)else .range:=by
 unfold parseUintB;rw[yf h.2.1];exact zfV d h.1 0 (by decide)
theorem zf2{s:Bs}{i j:Nat}{l:List UInt8}(h:nm s i=some (l,j)):
  (Qu l=false->∃ z:Int,parseIntB 64 (Zc s i j)= .ok z/\itoa z=l/\-9223372036854775808<=z/\z<=9223372036854775807)/\(Qu l=true->parseIntB 64 (Zc s i j)= .range):=by
 obtain⟨_,a,q,f⟩:=zfZ h;generalize Zc s (zX s i) j=d at *;have v:=zf1 a;have o:=zfY d.length d rfl a;have y:(2:Nat) ^ (64 - 1)=9223372036854775808:=by decide
 by_cases m:bt s i=45
 ·rw[yg m]at q;rw[q]at f ⊢;rw[parseIntB_minus,v];by_cases u:d=[48]
  ·subst u;have e:l=[48]:=by rw[f];unfold Qc;rw[yg rfl]
   subst e;refine⟨fun _=>⟨0,by decide,by rw[show (0:Int)=((0:Nat):Int)from rfl,itoa_nonneg,decDigits_one (by decide)];rfl,by decide,by decide⟩,fun hb=>absurd hb (by decide)⟩
  ·have e:l=45 :: d:=by
    rw[f];unfold Qc;rw[yf];intro e;injection e with _ e;exact u e
   subst e;have w:Qu (45 :: d)=decide (9223372036854775808<Zv 0 d):=by rw[Qu,yg rfl,zfX a]
   rw[w];have p:1<=Zv 0 d:=by
    obtain⟨A,x,k⟩:=a;rcases k with k | k
    ·exact absurd k u
    ·cases d with
     | nil=>exact absurd rfl x
     | cons c r=>
      have:=RA (d:=r) (k c r rfl);have v:0<10 ^ r.length:=Nat.pow_pos (by decide);omega
   refine⟨fun hb=>?_,fun hb=>?_⟩
   ·have b:=of_decide_eq_false hb;rw[yg (by omega)];refine⟨-((Zv 0 d:Nat):Int),?_,?_,by omega,by omega⟩
    ·show (if 2 ^ (64 - 1)<Zv 0 d then NumEnd.range else .ok (-((Zv 0 d:Nat):Int)))=_
     rw[yf (by omega)]
    ·rw[itoa_neg _ p,o]
   ·have b:=of_decide_eq_true hb;by_cases g:Zv 0 d<=18446744073709551615
    ·rw[yg g];show (if 2 ^ (64 - 1)<Zv 0 d then NumEnd.range else .ok (-((Zv 0 d:Nat):Int)))=_
     rw[yg (by omega)]
    ·rw[yf g];rfl
 ·rw[yf m]at q;rw[q]at f ⊢;rw[zf0 a]at f;subst f
  cases hd:l with
  | nil=>exact absurd hd a.2.1
  | cons c r=>
   have n:=a.1 c (by rw[hd];simp);rw[parseIntB_plain 64 c r (by omega) (by omega),← hd,v];have w:Qu l=decide (9223372036854775807<Zv 0 l):=by
    rw[hd,Qu,yf (by intro e;rw[e]at n;exact absurd n.1 (by decide)),← hd,zfW a]
   rw[w];refine⟨fun hb=>?_,fun hb=>?_⟩
   ·have b:=of_decide_eq_false hb;rw[yg (by omega)];refine⟨((Zv 0 l:Nat):Int),?_,?_,by omega,by omega⟩
    ·show (if 2 ^ (64 - 1)<=Zv 0 l then NumEnd.range else .ok ((Zv 0 l:Nat):Int))=_
     rw[yf (by omega)]
    ·rw[itoa_nonneg,o]
   ·have b:=of_decide_eq_true hb;by_cases g:Zv 0 l<=18446744073709551615
    ·rw[yg g];show (if 2 ^ (64 - 1)<=Zv 0 l then NumEnd.range else .ok ((Zv 0 l:Nat):Int))=_
     rw[yg (by omega)]
    ·rw[yf g];rfl
end Go.Proofs.YtekpghcckdjnhaaGreatDoor
namespace Go.Proofs.YtekpghcckdjnhaaGreatDoor
open Go.RowKit Go.Proofs.Tryz
theorem zf3(b:Nat)(hb:b<256)(w:Wo):
  Calls prog 286 #[.int .u8 b] w fun e w'=>w=w'/\e=(hx b).elim Jg (fun v=>.returned (.int .i32 v)):=by
 by_cases d:48<=b/\b<=57
 ·have a:Hid (hx b=some (b - 48)):=by show _=_;unfold hx;rw[yg d]
  have i:(48:Int)<=(b:Int):=by omega
  have j:(b:Int)<=57:=by omega
  clear d;go_in;go_wp2;go_ret;refine⟨rfl,?_⟩;rw[uh a];exact Jl (by go_num)
 ·by_cases f:97<=b/\b<=102
  ·have a:Hid (hx b=some (b - 87)):=by show _=_;unfold hx;rw[yf d,yg f]
   have i:(97:Int)<=(b:Int):=by omega
   have j:(b:Int)<=102:=by omega
   clear d f;go_in;go_wp2;go_ret;refine⟨rfl,?_⟩;rw[uh a];exact Jl (by go_num)
  ·by_cases h:65<=b/\b<=70
   ·have a:Hid (hx b=some (b - 55)):=by show _=_;unfold hx;rw[yf d,yf f,yg h]
    have i:(65:Int)<=(b:Int):=by omega
    have j:(b:Int)<=70:=by omega
    clear d f h;go_in;go_wp2;go_ret;refine⟨rfl,?_⟩;rw[uh a];exact Jl (by go_num)
   ·have a:Hid (hx b=none):=by show _=_;unfold hx;rw[yf d,yf f,yf h]
    clear a;have a:Hid (hx b=none):=by show _=_;unfold hx;rw[yf d,yf f,yf h]
    rcases (show b<48∨(57<b/\b<65)∨(70<b/\b<97)∨102<b from by omega)with g | g | g | g
    ·have i:(b:Int)<48:=by omega
     clear d f h g;go_in;go_wp2;exact⟨rfl,rfl,by rw[uh a];rfl⟩
    ·have i:(57:Int)<(b:Int):=by omega
     have j:(b:Int)<65:=by omega
     clear d f h g;go_in;go_wp2;exact⟨rfl,rfl,by rw[uh a];rfl⟩
    ·have i:(70:Int)<(b:Int):=by omega
     have j:(b:Int)<97:=by omega
     clear d f h g;go_in;go_wp2;exact⟨rfl,rfl,by rw[uh a];rfl⟩
    ·have i:(102:Int)<(b:Int):=by omega
     clear d f h g;go_in;go_wp2;exact⟨rfl,rfl,by rw[uh a];rfl⟩
theorem Cu(rb:Nat)(s:Bs)(i:Nat)(tb kt:Bool)(w:Wo)(h:zo rb s i tb kt w)(hs:s.size<=1048576)(hi:i<=s.size):
  Calls prog 274 #[.pointer (some ⟨rb,0,none⟩)] w (Yd rb s tb kt w ((qF s i 4).map fun v:Nat=>(.int .i32 (v:Int),i+4))):=by
 have H:=zb h;clear h;go_in;go_wp2;go_loopw [3,4] (fun n k wr=>∃ j v:Nat,j<=4/\i+j<=s.size/\v<16 ^ j/\k= .int .i64 j/\n= .int .i32 v/\qF s i j=some v/\zo rb s (i+j) tb kt wr/\KB rb w wr) (fun _ k _=>4 - (intOf k).toNat)
 case atStart=>exact⟨0,0,by omega,by omega,by decide,rfl,rfl,rfl,uh H,KB.refl _ _⟩
 case round=>
  obtain⟨j,v,K,E,y,rfl,rfl,x,u,m⟩:=hrel;have r:=zb x;have p:=zb u;clear x u;by_cases I:j<4
  ·have z:v<65536:=by
    have:(16:Nat) ^ j<=16 ^ 3:=Nat.pow_le_pow_right (by decide) (by omega);omega
   have D:(j:Int)<4:=by omega
   by_cases q:i+j<s.size
   ·have a:=zb (Yc rb s (i+j) tb kt wr (uh p) hs q);have f:=zb (zf3 (bt s (i+j)) (Z7 _ _));have F:(v:Int)<65536:=by omega
    cases hx1:hx (bt s (i+j))with
    | some d=>
     have J:=NK hx1;have g:=zb (Uj (uh r) hx1);rw[hx1]at f;generalize bt s (i+j)=b at *;clear hx1;go_wp2_with fail;refine (uh a).mono ?_;rintro e A ⟨rfl,o,l⟩;have B:=zb o;clear o;go_wp2_with fail;refine (uh f _).mono ?_;rintro e G ⟨rfl,rfl⟩;clear a f;simp only[Option.elim];go_wp2;go_roundw
     case rel=>exact⟨j+1,v*16+d,by omega,by omega,by rw[Nat.pow_succ];omega,by go_num,by go_num,uh g,uh B,m.trans l⟩
     case measure=>simp[intOf];omega
    | none=>
     have g:Hid (qF s i 4=none):=NM (XU hx1) (by omega);rw[hx1]at f;generalize bt s (i+j)=b at *;clear hx1;go_wp2_with fail;refine (uh a).mono ?_;rintro e A ⟨rfl,o,l⟩;clear o;go_wp2_with fail;refine (uh f _).mono ?_;rintro e G ⟨rfl,rfl⟩;clear a f;exact⟨rfl,m.trans l,by rw[uh g];rfl⟩
   ·have g:Hid (qF s i 4=none):=NM (XU (by rw[JY s (i+j) (by omega)];rfl)) (show j+1<=4 by omega);have a:=zb (NE rb s (i+j) tb kt wr (uh p) (by omega));go_wp2_with fail;refine (uh a).mono ?_;rintro e A ⟨rfl,l⟩;clear a;exact⟨rfl,m.trans l,by rw[uh g];rfl⟩
  ·have C:j=4:=by omega
   subst C;go_wp2;go_ret;exact⟨m,by rw[uh r];exact⟨rfl,uh p⟩⟩
def UJ(s:Bs)(i:Nat)(wd:Bs):Prop:=∀ k,k<wd.size->bt s (i+k)=bt wd k
theorem FZ(rb:Nat)(s:Bs)(i:Nat)(tb kt:Bool)(w:Wo)(h:zo rb s i tb kt w)(hs:s.size<=1048576)(wd:Bs)(hw:wd.size<=1000)(hi:i+wd.size<=s.size)(hit:UJ s i wd):
  Calls prog 174 #[.pointer (some ⟨rb,0,none⟩),.string wd] w fun e w'=>e= .returned (.tuple #[])/\zo rb s (i+wd.size) tb kt w'/\KB rb w w':=by
 have H:=zb h;have b:=zb hit;clear h hit;go_in;go_wp2;go_loopw [7] (fun k wr=>∃ j:Nat,j<=wd.size/\k= .int .i64 j/\zo rb s (i+j) tb kt wr/\KB rb w wr) (fun k _=>wd.size - (intOf k).toNat)
 case atStart=>exact⟨0,by omega,rfl,uh H,KB.refl _ _⟩
 case round=>
  obtain⟨j,r,rfl,m,l⟩:=hrel;have f:=zb m;clear m;by_cases a:j<wd.size
  ·have g:=(uh b) j a;have d:Hid (Calls prog 205 #[.pointer (some ⟨rb,0,none⟩),.int .u8 (wd[j].toNat:Int)] wr fun e w'=>e= .returned (.tuple #[])/\zo rb s (i+j+1) tb kt w'/\KB rb wr w'):=
    Gv rb s (i+j) tb kt wr (uh f) hs wd[j].toNat (by rw[g,Zr wd j a]) (by omega)
   clear g;go_wp2_with fail;refine (uh d).mono ?_;rintro e u ⟨rfl,n,q⟩;have o:=zb n;clear n d;go_wp2;go_roundw
   case rel=>exact⟨j+1,by omega,by go_num,uh o,l.trans q⟩
   case measure=>simp[intOf];omega
  ·have p:j=wd.size:=by omega
   subst p;go_wp2;go_end0;exact⟨rfl,uh f,l⟩
theorem F0(rb:Nat)(s:Bs)(i:Nat)(tb kt:Bool)(w:Wo)(h:zo rb s i tb kt w)(hs:s.size<=1048576)(wd:Bs)(hw:wd.size<=1000)(hz:∀ k,k<wd.size->bt wd k≠0)(hi:i<=s.size)(hit:¬ UJ s i wd):
  Calls prog 174 #[.pointer (some ⟨rb,0,none⟩),.string wd] w fun e w'=>e=Jg/\KB rb w w':=by
 have H:=zb h;have f:=zb hit;have z:=zb hz;clear h hit hz;go_in;go_wp2;go_loopw [7] (fun k wr=>∃ j:Nat,j<=wd.size/\i+j<=s.size/\k= .int .i64 j/\(∀ m,m<j->bt s (i+m)=bt wd m)/\zo rb s (i+j) tb kt wr/\KB rb w wr) (fun k _=>wd.size - (intOf k).toNat)
 case atStart=>exact⟨0,by omega,hi,rfl,by omega,uh H,KB.refl _ _⟩
 case round=>
  obtain⟨j,C,n,rfl,p,x,v⟩:=hrel;have u:=zb x;have r:=zb p;clear x p;by_cases b:j<wd.size
  ·by_cases a:bt s (i+j)=bt wd j
   ·have o:i+j<s.size:=zZ (by rw[a];exact (uh z) j b);have d:Hid (Calls prog 205 #[.pointer (some ⟨rb,0,none⟩),.int .u8 (wd[j].toNat:Int)] wr fun e w'=>e= .returned (.tuple #[])/\zo rb s (i+j+1) tb kt w'/\KB rb wr w'):=
     Gv rb s (i+j) tb kt wr (uh u) hs wd[j].toNat (by rw[a,Zr wd j b]) o
    have l:Hid (∀ m,m<j+1->bt s (i+m)=bt wd m):=fun m p=>by
     rcases Nat.lt_or_ge m j with g | g
     ·exact (uh r) m g
     ·have:m=j:=by omega
      subst this;exact a
    clear a;go_wp2_with fail;refine (uh d).mono ?_;rintro e B ⟨rfl,y,q⟩;have A:=zb y;clear y d;go_wp2;go_roundw
    case rel=>exact⟨j+1,by omega,by omega,by go_num,uh l,uh A,v.trans q⟩
    case measure=>simp[intOf];omega
   ·have d:Hid (Calls prog 205 #[.pointer (some ⟨rb,0,none⟩),.int .u8 (wd[j].toNat:Int)] wr fun e w'=>e=Jg/\KB rb wr w'):=
     Kg rb s (i+j) tb kt wr (uh u) hs n wd[j].toNat (.inl (by rw[Zr wd j b]at a;exact a))
    clear a;go_wp2_with fail;refine (uh d).mono ?_;rintro e B ⟨rfl,q⟩;clear d;exact⟨rfl,rfl,v.trans q⟩
  ·exfalso;refine (uh f) fun k hk'=>(uh r) k (by omega)
theorem Cv(s:Bs)(i:Nat):UJ s i ⟨#[92,117]⟩↔bt s i=92/\bt s (i+1)=117:=by
 constructor
 ·intro h;exact⟨h 0 (by decide),h 1 (by decide)⟩
 ·rintro⟨a,b⟩ k d;have:k<2:=d
  match k,this with
  | 0,_=>exact a
  | 1,_=>exact b
theorem zf4(rb:Nat)(s:Bs)(i:Nat)(tb kt:Bool)(w:Wo)(h:zo rb s (i+2) tb kt w)(hs:s.size<=1048576)(hi:i+2<=s.size):
  Calls prog 256 #[.pointer (some ⟨rb,0,none⟩)] w (Yd rb s tb kt w (((qF s (i+2) 4).bind (qW s i)).map fun p=>(.int .i32 (p.1:Int),i+p.2))):=by
 have d:=zb (Cu rb s (i+2) tb kt w h hs hi);clear h
 cases hx1:qF s (i+2) 4 with
 | none=>
  rw[hx1]at d;clear hx1;go_in;go_wp2_with fail;refine (uh d).mono ?_;rintro e r ⟨f,rfl⟩;clear d;exact⟨rfl,f,rfl⟩
 | some u=>
  have R:u<65536:=XT s (i+2) 4 u hx1;have O:=LK hx1;rw[hx1]at d;clear hx1;simp only[yA];by_cases g:u<55296∨57344<=u
  ·have j:Hid (qW s i u=some (u,6)):=by show _=_;unfold qW;rw[yg g]
   rcases g with g | g
   ·have H:(u:Int)<55296:=by omega
    go_in;go_wp2_with fail;refine (uh d).mono ?_;rintro e r ⟨f,rfl,a⟩;have l:=zb a;clear d a;go_wp2;go_ret;exact⟨f,by rw[uh j];exact⟨rfl,uh l⟩⟩
   ·have H:¬ (u:Int)<55296:=by omega
    have M:(57343:Int)<(u:Int):=by omega
    have Q:decide ((u:Int)<55296)=false:=by simp;omega
    go_in;go_wp2_with fail;refine (uh d).mono ?_;rintro e r ⟨f,rfl,a⟩;have l:=zb a;clear d a;go_wp2;go_ret;exact⟨f,by rw[uh j];exact⟨rfl,uh l⟩⟩
  ·have H:¬ (u:Int)<55296:=by omega
   have M:¬ (57343:Int)<(u:Int):=by omega
   by_cases o:56320<=u
   ·have j:Hid (qW s i u=none):=by show _=_;unfold qW;rw[yf g,yg o]
    have N:(56319:Int)<(u:Int):=by omega
    clear g;go_in;go_wp2_with fail;refine (uh d).mono ?_;rintro e r ⟨f,rfl,a⟩;clear d a;go_wp2;exact⟨rfl,f,by rw[uh j];rfl⟩
   ·have N:¬ (56319:Int)<(u:Int):=by omega
    have F:Hid ((55296:Int)<=(u:Int)/\(u:Int)<=56319):=by show _/\_;omega
    by_cases z:bt s (i+6)=92/\bt s (i+6+1)=117
    ·have D:=(Cv s (i+6)).2 z;have J:i+6+1<s.size:=zZ (by rw[z.2];decide);have m:Hid (∀ w,zo rb s (i+6) tb kt w->Calls prog 174 #[.pointer (some ⟨rb,0,none⟩),.string ⟨#[92,117]⟩] w fun e w'=>e= .returned (.tuple #[])/\zo rb s (i+6+2) tb kt w'/\KB rb w w'):=
      fun w h=>FZ rb s (i+6) tb kt w h hs ⟨#[92,117]⟩ (by decide) (by show i+6+2<=_;omega) D
     have b:Hid (∀ w,zo rb s (i+6+2) tb kt w->Calls prog 274 #[.pointer (some ⟨rb,0,none⟩)] w (Yd rb s tb kt w ((qF s (i+6+2) 4).map fun v:Nat=>(.int .i32 (v:Int),i+6+2+4)))):=
      fun w h=>Cu rb s (i+6+2) tb kt w h hs (by omega)
     have y:Qm s (i+6)=qF s (i+6+2) 4:=by unfold Qm;rw[yg z]
     clear z D
     cases hx2:qF s (i+6+2) 4 with
     | none=>
      have j:Hid (qW s i u=none):=by show _=_;unfold qW;rw[yf g,yf o,y,hx2];rfl
      rw[hx2]at b;clear hx2 y g o;go_in;go_wp2_with fail;refine (uh d).mono ?_;rintro e r ⟨f,rfl,a⟩;have l:=zb a;clear d a;go_wp2_with fail;refine (uh m _ (uh l)).mono ?_;rintro e E ⟨rfl,n,q⟩;have x:=zb n;clear m n;go_wp2_with fail;refine (uh b _ (uh x)).mono ?_;rintro e G ⟨A,rfl⟩;clear b;exact⟨rfl,(f.trans q).trans A,by rw[uh j];rfl⟩
     | some v=>
      have S:v<65536:=XT s (i+6+2) 4 v hx2;rw[hx2]at b;by_cases C:56320<=v/\v<57344
      ·have j:Hid (qW s i u=some (65536+(u - 55296)*1024+(v - 56320),12)):=by
        show _=_;unfold qW;rw[yf g,yf o,y,hx2];simp only[yA];rw[yg C]
       have K:(56320:Int)<=(v:Int):=by omega
       have P:(v:Int)<=57343:=by omega
       have V:¬ (v:Int)<56320:=by omega
       have W:¬ (57343:Int)<(v:Int):=by omega
       clear hx2 y g o C;go_in;go_wp2_with fail;refine (uh d).mono ?_;rintro e r ⟨f,rfl,a⟩;have l:=zb a;clear d a;go_wp2_with fail;refine (uh m _ (uh l)).mono ?_;rintro e E ⟨rfl,n,q⟩;have x:=zb n;clear m n;go_wp2_with fail;refine (uh b _ (uh x)).mono ?_;rintro e G ⟨A,rfl,B⟩;have L:=zb B;clear b B;obtain⟨T,U⟩:=uh F;go_wp2;go_ret;refine⟨(f.trans q).trans A,?_⟩;rw[uh j];exact⟨Jl (by omega),uh L⟩
      ·have j:Hid (qW s i u=none):=by
        show _=_;unfold qW;rw[yf g,yf o,y,hx2];simp only[yA];rw[yf C]
       rcases (show v<56320∨57344<=v from by omega)with I | I
       ·have K:(v:Int)<=56319:=by omega
        clear hx2 y g o C I;go_in;go_wp2_with fail;refine (uh d).mono ?_;rintro e r ⟨f,rfl,a⟩;have l:=zb a;clear d a;go_wp2_with fail;refine (uh m _ (uh l)).mono ?_;rintro e E ⟨rfl,n,q⟩;have x:=zb n;clear m n;go_wp2_with fail;refine (uh b _ (uh x)).mono ?_;rintro e G ⟨A,rfl,B⟩;clear b B;go_wp2;exact⟨rfl,(f.trans q).trans A,by rw[uh j];rfl⟩
       ·have K:¬ (v:Int)<56320:=by omega
        have P:(57343:Int)<(v:Int):=by omega
        clear hx2 y g o C;go_in;go_wp2_with fail;refine (uh d).mono ?_;rintro e r ⟨f,rfl,a⟩;have l:=zb a;clear d a;go_wp2_with fail;refine (uh m _ (uh l)).mono ?_;rintro e E ⟨rfl,n,q⟩;have x:=zb n;clear m n;go_wp2_with fail;refine (uh b _ (uh x)).mono ?_;rintro e G ⟨A,rfl,B⟩;clear b B;go_wp2;exact⟨rfl,(f.trans q).trans A,by rw[uh j];rfl⟩
    ·have j:Hid (qW s i u=none):=by
      show _=_;unfold qW;rw[yf g,yf o];unfold Qm;rw[yf z];rfl
     have m:Hid (∀ w,zo rb s (i+6) tb kt w->Calls prog 174 #[.pointer (some ⟨rb,0,none⟩),.string ⟨#[92,117]⟩] w fun e w'=>e=Jg/\KB rb w w'):=
      fun w h=>F0 rb s (i+6) tb kt w h hs ⟨#[92,117]⟩ (by decide) (fun k hk=>by
       have:k<2:=hk
       match k,this with
       | 0,_=>decide
       | 1,_=>decide) (by omega) (fun h=>z ((Cv s (i+6)).1 h))
     clear g o z;go_in;go_wp2_with fail;refine (uh d).mono ?_;rintro e r ⟨f,rfl,a⟩;have l:=zb a;clear d a;go_wp2_with fail;refine (uh m _ (uh l)).mono ?_;rintro e E ⟨rfl,q⟩;clear m;exact⟨rfl,f.trans q,by rw[uh j];rfl⟩
theorem zf5(rb:Nat)(s:Bs)(i:Nat)(tb kt:Bool)(w:Wo)(h:zo rb s (i+1) tb kt w)(hs:s.size<=1048576)(hb:bt s (i+1)=34):
  Calls prog 233 #[.pointer (some ⟨rb,0,none⟩)] w fun e w'=>e= .returned (.int .i32 34)/\zo rb s (i+2) tb kt w'/\KB rb w w':=by
 have a:=zb (Yc rb s (i+1) tb kt w h hs (zZ (by rw[hb];decide)));rw[hb]at a;clear h hb;go_in;go_wp2_with fail;refine (uh a).mono ?_;rintro e g ⟨rfl,b,f⟩;have d:=zb b;clear a b;go_wp2;go_ret;exact⟨rfl,uh d,f⟩
theorem zf6(rb:Nat)(s:Bs)(i:Nat)(tb kt:Bool)(w:Wo)(h:zo rb s (i+1) tb kt w)(hs:s.size<=1048576)(hb:bt s (i+1)=92):
  Calls prog 233 #[.pointer (some ⟨rb,0,none⟩)] w fun e w'=>e= .returned (.int .i32 92)/\zo rb s (i+2) tb kt w'/\KB rb w w':=by
 have a:=zb (Yc rb s (i+1) tb kt w h hs (zZ (by rw[hb];decide)));rw[hb]at a;clear h hb;go_in;go_wp2_with fail;refine (uh a).mono ?_;rintro e g ⟨rfl,b,f⟩;have d:=zb b;clear a b;go_wp2;go_ret;exact⟨rfl,uh d,f⟩
theorem zf7(rb:Nat)(s:Bs)(i:Nat)(tb kt:Bool)(w:Wo)(h:zo rb s (i+1) tb kt w)(hs:s.size<=1048576)(hb:bt s (i+1)=47):
  Calls prog 233 #[.pointer (some ⟨rb,0,none⟩)] w fun e w'=>e= .returned (.int .i32 47)/\zo rb s (i+2) tb kt w'/\KB rb w w':=by
 have a:=zb (Yc rb s (i+1) tb kt w h hs (zZ (by rw[hb];decide)));rw[hb]at a;clear h hb;go_in;go_wp2_with fail;refine (uh a).mono ?_;rintro e g ⟨rfl,b,f⟩;have d:=zb b;clear a b;go_wp2;go_ret;exact⟨rfl,uh d,f⟩
theorem zf8(rb:Nat)(s:Bs)(i:Nat)(tb kt:Bool)(w:Wo)(h:zo rb s (i+1) tb kt w)(hs:s.size<=1048576)(hb:bt s (i+1)=98):
  Calls prog 233 #[.pointer (some ⟨rb,0,none⟩)] w fun e w'=>e= .returned (.int .i32 8)/\zo rb s (i+2) tb kt w'/\KB rb w w':=by
 have a:=zb (Yc rb s (i+1) tb kt w h hs (zZ (by rw[hb];decide)));rw[hb]at a;clear h hb;go_in;go_wp2_with fail;refine (uh a).mono ?_;rintro e g ⟨rfl,b,f⟩;have d:=zb b;clear a b;go_wp2;go_ret;exact⟨rfl,uh d,f⟩
theorem zf9(rb:Nat)(s:Bs)(i:Nat)(tb kt:Bool)(w:Wo)(h:zo rb s (i+1) tb kt w)(hs:s.size<=1048576)(hb:bt s (i+1)=102):
  Calls prog 233 #[.pointer (some ⟨rb,0,none⟩)] w fun e w'=>e= .returned (.int .i32 12)/\zo rb s (i+2) tb kt w'/\KB rb w w':=by
 have a:=zb (Yc rb s (i+1) tb kt w h hs (zZ (by rw[hb];decide)));rw[hb]at a;clear h hb;go_in;go_wp2_with fail;refine (uh a).mono ?_;rintro e g ⟨rfl,b,f⟩;have d:=zb b;clear a b;go_wp2;go_ret;exact⟨rfl,uh d,f⟩
theorem zga(rb:Nat)(s:Bs)(i:Nat)(tb kt:Bool)(w:Wo)(h:zo rb s (i+1) tb kt w)(hs:s.size<=1048576)(hb:bt s (i+1)=110):
  Calls prog 233 #[.pointer (some ⟨rb,0,none⟩)] w fun e w'=>e= .returned (.int .i32 10)/\zo rb s (i+2) tb kt w'/\KB rb w w':=by
 have a:=zb (Yc rb s (i+1) tb kt w h hs (zZ (by rw[hb];decide)));rw[hb]at a;clear h hb;go_in;go_wp2_with fail;refine (uh a).mono ?_;rintro e g ⟨rfl,b,f⟩;have d:=zb b;clear a b;go_wp2;go_ret;exact⟨rfl,uh d,f⟩
theorem zgb(rb:Nat)(s:Bs)(i:Nat)(tb kt:Bool)(w:Wo)(h:zo rb s (i+1) tb kt w)(hs:s.size<=1048576)(hb:bt s (i+1)=114):
  Calls prog 233 #[.pointer (some ⟨rb,0,none⟩)] w fun e w'=>e= .returned (.int .i32 13)/\zo rb s (i+2) tb kt w'/\KB rb w w':=by
 have a:=zb (Yc rb s (i+1) tb kt w h hs (zZ (by rw[hb];decide)));rw[hb]at a;clear h hb;go_in;go_wp2_with fail;refine (uh a).mono ?_;rintro e g ⟨rfl,b,f⟩;have d:=zb b;clear a b;go_wp2;go_ret;exact⟨rfl,uh d,f⟩
theorem zgc(rb:Nat)(s:Bs)(i:Nat)(tb kt:Bool)(w:Wo)(h:zo rb s (i+1) tb kt w)(hs:s.size<=1048576)(hb:bt s (i+1)=116):
  Calls prog 233 #[.pointer (some ⟨rb,0,none⟩)] w fun e w'=>e= .returned (.int .i32 9)/\zo rb s (i+2) tb kt w'/\KB rb w w':=by
 have a:=zb (Yc rb s (i+1) tb kt w h hs (zZ (by rw[hb];decide)));rw[hb]at a;clear h hb;go_in;go_wp2_with fail;refine (uh a).mono ?_;rintro e g ⟨rfl,b,f⟩;have d:=zb b;clear a b;go_wp2;go_ret;exact⟨rfl,uh d,f⟩
theorem zgd(rb:Nat)(s:Bs)(i:Nat)(tb kt:Bool)(w:Wo)(h:zo rb s (i+1) tb kt w)(hs:s.size<=1048576)(hi:i+2<=s.size)(h0:bt s i=92)(hb:bt s (i+1)=117):
  Calls prog 233 #[.pointer (some ⟨rb,0,none⟩)] w (Yd rb s tb kt w ((QJ s i).map fun p=>(.int .i32 (p.1:Int),i+p.2))):=by
 have a:=zb (Yc rb s (i+1) tb kt w h hs (zZ (by rw[hb];decide)));rw[LQ h0 hb];rw[hb]at a;have d:Hid (∀ w,zo rb s (i+2) tb kt w->Calls prog 256 #[.pointer (some ⟨rb,0,none⟩)] w (Yd rb s tb kt w (((qF s (i+2) 4).bind (qW s i)).map fun p=>(.int .i32 (p.1:Int),i+p.2)))):=fun w h=>zf4 rb s i tb kt w h hs hi;clear h hb h0;generalize (qF s (i+2) 4).bind (qW s i)=o at *
 cases o with
 | none=>
  go_in;go_wp2_with fail;refine (uh a).mono ?_;rintro e m ⟨rfl,b,g⟩;have f:=zb b;clear a b;go_wp2_with fail;refine (uh d _ (uh f)).mono ?_;rintro e n ⟨j,rfl⟩;clear d;exact⟨rfl,g.trans j,rfl⟩
 | some p=>
  go_in;go_wp2_with fail;refine (uh a).mono ?_;rintro e m ⟨rfl,b,g⟩;have f:=zb b;clear a b;go_wp2_with fail;refine (uh d _ (uh f)).mono ?_;rintro e n ⟨j,rfl,k⟩;have l:=zb k;clear d k;go_wp2;go_ret;exact⟨g.trans j,rfl,uh l⟩
theorem zge(rb:Nat)(s:Bs)(i:Nat)(tb kt:Bool)(w:Wo)(h:zo rb s (i+1) tb kt w)(hi:i+1=s.size):
  Calls prog 233 #[.pointer (some ⟨rb,0,none⟩)] w fun e w'=>e=Jg/\KB rb w w':=by
 have a:=zb (NE rb s (i+1) tb kt w h hi);clear h hi;go_in;go_wp2_with fail;refine (uh a).mono ?_;rintro e d ⟨rfl,b⟩;clear a;exact⟨rfl,rfl,b⟩
theorem zgf(rb:Nat)(s:Bs)(i:Nat)(tb kt:Bool)(w:Wo)(h:zo rb s (i+1) tb kt w)(hs:s.size<=1048576)(hi:i+1<s.size)(b:Nat)(hb:bt s (i+1)=b)(n34:b≠34)(n92:b≠92)(n47:b≠47)(n98:b≠98)(n102:b≠102)(n110:b≠110)(n114:b≠114)(n116:b≠116)(n117:b≠117):
  Calls prog 233 #[.pointer (some ⟨rb,0,none⟩)] w fun e w'=>e=Jg/\KB rb w w':=by
 have a:=zb (Yc rb s (i+1) tb kt w h hs hi);rw[hb]at a;have n:((b:Int) ==34)=false:=by rw[yd];omega
 have p:((b:Int) ==92)=false:=by rw[yd];omega
 have o:((b:Int) ==47)=false:=by rw[yd];omega
 have q:((b:Int) ==98)=false:=by rw[yd];omega
 have d:((b:Int) ==102)=false:=by rw[yd];omega
 have f:((b:Int) ==110)=false:=by rw[yd];omega
 have g:((b:Int) ==114)=false:=by rw[yd];omega
 have j:((b:Int) ==116)=false:=by rw[yd];omega
 have k:((b:Int) ==117)=false:=by rw[yd];omega
 clear h hb n34 n92 n47 n98 n102 n110 n114 n116 n117;go_in;go_wp2_with fail;refine (uh a).mono ?_;rintro e r ⟨rfl,m,l⟩;clear a m;go_wp2;exact⟨rfl,rfl,l⟩
theorem zgg{b:Nat}(n34:b≠34)(n92:b≠92)(n47:b≠47)(n98:b≠98)(n102:b≠102)(n110:b≠110)(n114:b≠114)(n116:b≠116):Jh b=none:=by
 unfold Jh;rw[yf n34,yf n92,yf n47,yf n98,yf n102,yf n110,yf n114,yf n116]
theorem Vs{rb:Nat}{s:Bs}{tb kt:Bool}{w:Wo}{o:Option (Value×Nat)}{v:Value}{j:Nat}{e:Ending}{w':Wo}(ho:o=some (v,j))(h:e= .returned v/\zo rb s j tb kt w'/\KB rb w w'):Yd rb s tb kt w o e w':=by
 subst ho;exact⟨h.2.2,h.1,h.2.1⟩
theorem KY{rb:Nat}{s:Bs}{tb kt:Bool}{w:Wo}{o:Option (Value×Nat)}{e:Ending}{w':Wo}(ho:o=none)(h:e=Jg/\KB rb w w'):Yd rb s tb kt w o e w':=by
 subst ho;exact⟨h.2,h.1⟩
theorem zgh(rb:Nat)(s:Bs)(i:Nat)(tb kt:Bool)(w:Wo)(h:zo rb s (i+1) tb kt w)(hs:s.size<=1048576)(hi:i+1<=s.size)(h0:bt s i=92):
  Calls prog 233 #[.pointer (some ⟨rb,0,none⟩)] w (Yd rb s tb kt w ((QJ s i).map fun p=>(.int .i32 (p.1:Int),i+p.2))):=by
 by_cases n:i+1=s.size
 ·have o:bt s (i+1)=0:=JY s (i+1) (by omega);exact (zge rb s i tb kt w h n).mono fun e w' hh=>KY (by rw[LR o (by rfl) (by decide)];rfl) hh
 by_cases j:bt s (i+1)=34
 ·exact (zf5 rb s i tb kt w h hs j).mono fun e w' hh=>Vs (by rw[Vd j (by rfl)];rfl) hh
 by_cases l:bt s (i+1)=92
 ·exact (zf6 rb s i tb kt w h hs l).mono fun e w' hh=>Vs (by rw[Vd l (by rfl)];rfl) hh
 by_cases k:bt s (i+1)=47
 ·exact (zf7 rb s i tb kt w h hs k).mono fun e w' hh=>Vs (by rw[Vd k (by rfl)];rfl) hh
 by_cases m:bt s (i+1)=98
 ·exact (zf8 rb s i tb kt w h hs m).mono fun e w' hh=>Vs (by rw[Vd m (by rfl)];rfl) hh
 by_cases a:bt s (i+1)=102
 ·exact (zf9 rb s i tb kt w h hs a).mono fun e w' hh=>Vs (by rw[Vd a (by rfl)];rfl) hh
 by_cases b:bt s (i+1)=110
 ·exact (zga rb s i tb kt w h hs b).mono fun e w' hh=>Vs (by rw[Vd b (by rfl)];rfl) hh
 by_cases d:bt s (i+1)=114
 ·exact (zgb rb s i tb kt w h hs d).mono fun e w' hh=>Vs (by rw[Vd d (by rfl)];rfl) hh
 by_cases f:bt s (i+1)=116
 ·exact (zgc rb s i tb kt w h hs f).mono fun e w' hh=>Vs (by rw[Vd f (by rfl)];rfl) hh
 by_cases g:bt s (i+1)=117
 ·exact zgd rb s i tb kt w h hs (by omega) h0 g
 exact (zgf rb s i tb kt w h hs (by omega) _ rfl j l k m a b d f g).mono fun e w' hh=>KY (by rw[LR rfl (zgg j l k m a b d f) g];rfl) hh
theorem KZ{zs:List (List UInt8)}{m:Nat}(h:m<zs.length):zs.toArray[m]! =zs[m]:=by
 rw[getElem!_pos zs.toArray m (by simpa using h)];simp
theorem Cw{zs:List (List UInt8)}(h:zs.Pairwise (fun a b=>a<=b)):∀ m,m<=zs.length->Jw (Lib.compactUpTo zs.toArray m)/\∀ x,x∈Lib.compactUpTo zs.toArray m↔x∈zs.take m
 | 0,_=>by simp[Lib.compactUpTo,Jw]
 | m+1,hm=>by
  obtain⟨h1,h2⟩:=Cw h m (by omega);rw[Lib.compactUpTo_succ,KZ (by omega),yy (by omega)];have i:=List.pairwise_iff_getElem.1 h
  cases d:Lib.keeps zs.toArray m with
  | true=>
   rw[yg rfl];refine⟨?_,fun x=>by rw[List.mem_append,List.mem_append,h2]⟩;unfold Jw at *;rw[List.pairwise_append];refine⟨h1,List.pairwise_singleton _ _,fun x hx y hy=>?_⟩;rw[List.mem_singleton]at hy;subst hy;obtain⟨j,k,rfl⟩:=yX.1 ((h2 x).1 hx);rw[ym]at k;rw[List.getElem_take];rw[← List.not_le];intro f;have g:m≠0:=by omega
   unfold Lib.keeps at d;rw[decide_eq_true_eq,KZ (by omega),KZ (by omega)]at d;rcases d with d | d
   ·exact g d
   ·refine d (List.le_antisymm ?_ (i (m - 1) m (by omega) (by omega) (by omega)));by_cases e:j=m - 1
    ·subst e;exact f
    ·exact List.le_trans f (i j (m - 1) (by omega) (by omega) (by omega))
  | false=>
   rw[yf (by simp),yS];refine⟨h1,fun x=>?_⟩;unfold Lib.keeps at d;rw[decide_eq_false_iff_not,not_or]at d;obtain⟨g,d⟩:=d;rw[KZ (by omega),KZ (by omega),Classical.not_not]at d;rw[h2,List.mem_append,List.mem_singleton];refine⟨.inl,fun hx=>?_⟩;rcases hx with hx | hx
   ·exact hx
   ·rw[hx,d];exact yX.2 ⟨m - 1,by rw[ym];omega,by rw[List.getElem_take]⟩
theorem zgi(l:List (List UInt8)):Lib.compact (l.mergeSort (fun x y=>decide (x<=y)))=qC l:=by
 have i:∀ a b c:List UInt8,decide (a<=b)=true->decide (b<=c)=true->decide (a<=c)=true:=fun a b c d f=>by simp only[decide_eq_true_eq]at *;exact List.le_trans d f
 have j:∀ a b:List UInt8,(decide (a<=b) || decide (b<=a))=true:=fun a b=>by simp only[Bool.or_eq_true,decide_eq_true_eq];exact List.le_total a b
 have g:(l.mergeSort (fun x y=>decide (x<=y))).Pairwise (fun a b=>a<=b):=(List.pairwise_mergeSort i j l).imp fun h=>by simpa using h
 obtain⟨d,f⟩:=Cw g _ (ye _);refine Ri d (Rh l) fun z=>?_;show z∈Lib.compactUpTo _ _↔_
 rw[f,yU,Rg];exact (List.mergeSort_perm l _).mem_iff
theorem zgj(zs:List (List UInt8)):(Lib.compact zs).length<=zs.length:=by
 unfold Lib.compact Lib.compactUpTo;rw[yl];exact yP (List.length_filter_le _ _) (by simp)
end Go.Proofs.YtekpghcckdjnhaaGreatDoor
