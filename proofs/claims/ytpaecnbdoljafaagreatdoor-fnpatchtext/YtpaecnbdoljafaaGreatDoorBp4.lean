import Derived.Test.YtpaecnbdoljafaaGreatDoorBp3
import Derived.Lib.ParseIntBCases
import Derived.Lib.ItoaMem
set_option maxRecDepth 100000
set_option maxHeartbeats 8000000
namespace Go.Proofs.YtpaecnbdoljafaaGreatDoor
open Go.RowKit Go.Proofs.Tryz
theorem AZ:∀ (k n:Nat),n<10 ^ (k+1)->(zP n).length<=k+1:=by
 intro k;induction k with
 | zero=>intro n a;rw[Q5 (by omega)];simp
 | succ k ih=>
  intro n a;by_cases h:n<10
  ·rw[Q5 h];simp
  ·rw[WA h,yg];have b:=ih (n / 10) (by rw[Nat.pow_succ]at a;omega);rw[Q5 (n:=n % 10) (by omega)];simp;omega
def LQ(p:List UInt8):List (List UInt8)->List UInt8
 | []=>p
 | k :: r=>LQ (Z7 p k) r
def LR(o:Option JV)(ts:List (List UInt8)):Option JV:=o.bind fun u=>Za u ts
def LS(w:Wo)(B:Nat)(v:Value)(ts:List (List UInt8)):Prop:=OT w B v ts/\∃ g cap,v= .slice (some ⟨g,0,none⟩) ts.length cap/\B<=g/\g<w.heap.size/\ts.length<=cap/\∀ j u,(ts.map GN)[j]?=some u->w.cell? ⟨g,j,none⟩=some u
theorem LS.of{w:Wo}{B:Nat}{v:Value}{ts:List (List UInt8)}(h:OT w B v ts)(hn:v≠.slice none 0 0):LS w B v ts:=by
 refine⟨h,?_⟩;rcases h.2 with ⟨d,_⟩ |⟨g,a,f,d,i,k,b,_⟩
 ·exact absurd d hn
 ·subst d;refine⟨g,a,rfl,i,(yA.1 k).1,b,fun j u hj=>?_⟩;have:=World.ownsRow.cells h rfl j u hj
  rwa [show ((⟨g,0,none⟩:Addr).add j)=⟨g,j,none⟩from by simp[Addr.add];omega]at this
theorem PR.shape{w:Wo}{B:Nat}{v:Value}{ps:List zx}(h:PR w B v ps):∃ x cap,v= .slice x ps.length cap:=by
 rcases h.2 with ⟨a,d⟩ |⟨g,cap,b,a,_⟩
 ·exact⟨none,0,by rw[a,d]⟩
 ·exact⟨_,_,a⟩
end Go.Proofs.YtpaecnbdoljafaaGreatDoor
namespace Go.Proofs.YtpaecnbdoljafaaGreatDoor
open Go.RowKit Go.Lib Go.Proofs.Tryz
def dV(c:UInt8):Nat:=c.toNat - 48
def Zl(a:Nat)(d:List UInt8):Nat:=d.foldl (fun a c=>a*10+dV c) a
def Dg(d:List UInt8):Prop:=∀ c∈d,48<=c.toNat/\c.toNat<=57
def YP(d:List UInt8):Prop:=Dg d/\d≠[]/\(d=[48]∨∀ c r,d=c :: r->49<=c.toNat)
theorem Dg.tail{c:UInt8}{d:List UInt8}(h:Dg (c :: d)):Dg d:=fun x hx=>h x (yu _ hx)
theorem Dg.head{c:UInt8}{d:List UInt8}(h:Dg (c :: d)):48<=c.toNat/\c.toNat<=57:=h c yo
theorem VM(a:Nat)(c:UInt8)(d:List UInt8):Zl a (c :: d)=Zl (a*10+dV c) d:=by unfold Zl;rw[List.foldl_cons]
theorem A4(a:Nat)(d:List UInt8)(c:UInt8):Zl a (d++[c])=Zl a d*10+dV c:=by unfold Zl;rw[List.foldl_append];rfl
theorem A5(d:List UInt8):∀ a,a<=Zl a d:=by
 induction d with
 | nil=>intro a;exact yd _
 | cons c d ih=>intro a;rw[VM];have:=ih (a*10+dV c);omega
theorem Xx(d:List UInt8):∀ a,Zl a d=a*10 ^ d.length+Zl 0 d:=by
 induction d with
 | nil=>intro a;simp[Zl]
 | cons c d ih=>
  intro a;rw[VM,VM,ih (a*10+dV c),ih (0*10+dV c),ym,Nat.pow_succ];rw[Nat.add_mul,Nat.zero_mul,Nat.zero_add,Nat.mul_assoc,Nat.mul_comm 10,Nat.add_assoc]
theorem OZ(d:List UInt8)(h:Dg d):Zl 0 d<10 ^ d.length:=by
 induction d with
 | nil=>simp[Zl]
 | cons c d ih=>
  rw[VM,Xx,ym,Nat.pow_succ];have a:=ih h.tail;have b:=h.head;have f:dV c<=9:=by unfold dV;omega
  have g:(0*10+dV c)*10 ^ d.length<=9*10 ^ d.length:=Nat.mul_le_mul_right _ (by omega);omega
theorem O4{c:UInt8}{d:List UInt8}(hc:49<=c.toNat):10 ^ d.length<=Zl 0 (c :: d):=by
 rw[VM,Xx];have:1*10 ^ d.length<=(0*10+dV c)*10 ^ d.length:=Nat.mul_le_mul_right _ (by unfold dV;omega);omega
theorem A6(d:List UInt8)(h:Dg d):∀ a,a<=18446744073709551615->parseUintM 18446744073709551615 a d=if Zl a d<=18446744073709551615 then .ok (Zl a d)else .range:=by
 induction d with
 | nil=>intro a g;rw[parseUintM];rw[yf (by exact g)];rfl
 | cons c d ih=>
  intro a g;rw[parseUintM,yf h.head,VM];have i:=A5 d (a*10+dV c);have e:a*10+(c.toNat - 48)=a*10+dV c:=rfl;by_cases b:1844674407370955162<=a
  ·rw[yf b,ye (by omega)]
  ·rw[ye b,e];by_cases f:18446744073709551615<a*10+dV c
   ·rw[yf f,ye (by omega)]
   ·rw[ye f];exact ih h.tail _ (by omega)
theorem LT:∀ (a b:List UInt8),Dg a->Dg b->a.length=b.length->(Op.bytesLess a b=decide (Zl 0 a<Zl 0 b))/\((a ==b)=decide (Zl 0 a=Zl 0 b))
 | [],[],_,_,_=>by simp[Op.bytesLess,Zl]
 | [],_ :: _,_,_,h=>by simp at h
 | _ :: _,[],_,_,h=>by simp at h
 | c :: a,x :: b,ha,hb,h=>by
  have hl:a.length=b.length:=by simpa using h
  obtain⟨n,o⟩:=LT a b ha.tail hb.tail hl;have k:=OZ a ha.tail;have p:=OZ b hb.tail;have q:=ha.head;have hx:=hb.head;rw[VM,VM,Xx a,Xx b,hl];rw[hl]at k;have l:0*10+dV c=dV c:=by omega
  have m:0*10+dV x=dV x:=by omega
  rw[l,m];generalize Zl 0 a=A at *;generalize Zl 0 b=B at *;generalize 10 ^ b.length=P at *;have g:c<x↔dV c<dV x:=by rw[UInt8.lt_iff_toNat_lt];unfold dV;omega
  have d:c=x↔dV c=dV x:=by rw[← UInt8.toNat_inj];unfold dV;omega
  rw[Op.bytesLess];by_cases j:dV c<dV x
  ·have:(dV c+1)*P<=dV x*P:=Nat.mul_le_mul_right _ j;rw[Nat.add_mul,Nat.one_mul]at this;refine⟨?_,?_⟩
   ·rw[yi (g.2 j),Bool.true_or,yi (by omega)]
   ·rw[yj (by omega),yb];intro e;injection e with e1 e2;have:=d.1 e1;omega
  ·by_cases i:dV c=dV x
   ·have f:(c ==x)=true:=by rw[yB];exact d.2 i
    rw[yj (fun hh=>j (g.1 hh)),Bool.false_or,f,Bool.true_and,n,i];refine⟨?_,?_⟩
    ·apply decide_eq_decide.2;omega
    ·rw[d.2 i];rw[show ((x :: a) ==(x :: b))=(a ==b)from by simp,o];apply decide_eq_decide.2;omega
   ·have:(dV x+1)*P<=dV c*P:=Nat.mul_le_mul_right _ (by omega);rw[Nat.add_mul,Nat.one_mul]at this;have f:(c ==x)=false:=by rw[yb];exact fun e=>i (d.1 e)
    refine⟨?_,?_⟩
    ·rw[yj (fun hh=>j (g.1 hh)),Bool.false_or,f,Bool.false_and,yj (by omega)]
    ·rw[yj (by omega),yb];intro e;injection e with e1 e2;exact i (d.1 e1)
theorem YP.bounds{d:List UInt8}(h:YP d):(d.length<=18->Zl 0 d<1000000000000000000)/\(20<=d.length->10000000000000000000<=Zl 0 d):=by
 obtain⟨b,i,a⟩:=h;refine⟨fun hl=>?_,fun hl=>?_⟩
 ·have:=OZ d b;have f:10 ^ d.length<=10 ^ 18:=Nat.pow_le_pow_right (by decide) hl;have g:(10:Nat) ^ 18=1000000000000000000:=by decide
  omega
 ·rcases a with rfl | a
  ·simp at hl
  ·cases d with
   | nil=>simp at hl
   | cons c r=>
    have:=O4 (d:=r) (a c r rfl);have f:10 ^ 19<=10 ^ r.length:=Nat.pow_le_pow_right (by decide) (by simp at hl;omega);have g:(10:Nat) ^ 19=10000000000000000000:=by decide
    omega
theorem LU{d lim:List UInt8}{m:Nat}(h:YP d)(hl:Dg lim)(h19:lim.length=19)(hm:Zl 0 lim=m)(h1:1000000000000000000<=m)(h2:m<10000000000000000000):over d lim=decide (m<Zl 0 d):=by
 unfold over;have b:=h.bounds;by_cases f:d.length=19
 ·rw[ye (by omega)];obtain⟨i,j⟩:=LT d lim h.1 hl (by omega);rw[i,j,hm];by_cases g:m<Zl 0 d
  ·rw[yi g,yj (by omega),yj (by omega)];rfl
  ·rw[yj g];by_cases a:Zl 0 d=m
   ·rw[yi a];simp
   ·rw[yi (show Zl 0 d<m by omega)];rfl
 ·rw[yf f];apply decide_eq_decide.2;constructor
  ·intro g;have:=b.2 (by omega);omega
  ·intro g;rcases Nat.lt_or_ge d.length 19 with a | a
   ·have:=b.1 (by omega);omega
   ·omega
theorem A9{d:List UInt8}(h:YP d):over d Ww=decide (9223372036854775807<Zl 0 d):=LU h (by unfold Dg Ww;decide) rfl (by decide) (by decide) (by decide)
theorem Ha{d:List UInt8}(h:YP d):over d Wx=decide (9223372036854775808<Zl 0 d):=LU h (by unfold Dg Wx;decide) rfl (by decide) (by decide) (by decide)
theorem LV{c:UInt8}(h:48<=c.toNat/\c.toNat<=57):UInt8.ofNat (48+dV c)=c:=by
 apply UInt8.toNat_inj.1;rw[UInt8.toNat_ofNat'];unfold dV;omega
theorem Hc(n:Nat):∀ d:List UInt8,d.length=n->YP d->decDigits (Zl 0 d)=d:=by
 induction n with
 | zero=>intro d i h;exact absurd (yM i) h.2.1
 | succ n ih=>
  intro d i h;obtain⟨j,o,f⟩:=h;rcases List.eq_nil_or_concat d with e |⟨m,c,e⟩
  ·exact absurd e o
  ·rw[List.concat_eq_append]at e;subst e;have k:48<=c.toNat/\c.toNat<=57:=j c (by simp);have s:dV c<=9:=by unfold dV;omega
   rw[A4]
   cases m with
   | nil=>
    show decDigits (0*10+dV c)=[c]
    rw[decDigits_one (by omega),show 48+(0*10+dV c)=48+dV c by omega,LV k]
   | cons x r=>
    have hx:49<=x.toNat:=by
     rcases f with f | f
     ·simp at f
     ·exact f x (r++[c]) rfl
    have l:=O4 (d:=r) hx;have q:0<10 ^ r.length:=Nat.pow_pos (by decide);have p:YP (x :: r):=⟨fun y g=>j y (by simp at g ⊢;rcases g with g | g<;>simp[g]),by simp,.inr (fun a b e=>by injection e with e1 e2;subst e1;exact hx)⟩;have:=ih (x :: r) (by simp at i ⊢;omega) p;rw[decDigits,dif_neg (by omega),show (Zl 0 (x :: r)*10+dV c) / 10=Zl 0 (x :: r) by omega,show (Zl 0 (x :: r)*10+dV c) % 10=dV c by omega,this,LV k]
theorem UV{s:Bs}{i j:Nat}(hi:i<s.size)(hj:i<j):zW s i j=s[i] :: zW s (i+1) j:=by
 unfold zW;rw[qT s i hi,show j - i=(j - (i+1))+1 by omega,List.take_succ_cons]
theorem LW(s:Bs)(i:Nat):zW s i i=[]:=by unfold zW;simp
theorem LX(s:Bs):∀ n i,s.size - i<=n->Dg (zW s i (dg s i))
 | n,i,hn=>by
  by_cases h:zT (bt s i)=true
  ·have hi:i<s.size:=zQ (by have:=qL.1 h;omega)
   cases n with
   | zero=>omega
   | succ n=>
    have b:=KM (s:=s) (i:=i+1) (by omega);rw[Y5 h,UV hi (by omega)];intro c a;rcases List.mem_cons.1 a with rfl | a
    ·rw[Zg s i hi]at h;exact qL.1 h
    ·exact LX s n (i+1) (by omega) c a
  ·rw[Wt h,LW];intro c a;cases a
theorem Hd{s:Bs}{i j:Nat}{l:List UInt8}(h:nm s i=some (l,j)):j=ZT s i/\YP (zW s (zK s i) j)/\zW s i j=(if bt s i=45 then 45 :: zW s (zK s i) j else zW s (zK s i) j)/\l=qE (zW s i j):=by
 have n:=Um h;unfold nm at h;split at h
 ·rename_i hd;injection h with h;injection h with h1 h2;have k:=qL.1 hd;have b:zK s i<s.size:=zQ (by omega);have g:=Zg s (zK s i) b;subst h2;refine⟨rfl,?_,?_,h1.symm⟩
  ·unfold ZT;split
   ·rename_i h48;rw[UV b (by omega),LW];have e:s[zK s i]=48:=UInt8.toNat_inj.1 (by show _=48;omega);rw[e];exact⟨by unfold Dg;decide,by simp,.inl rfl⟩
   ·rename_i h48;have m:=KM (s:=s) (i:=zK s i+1) (by omega);refine⟨LX s _ _ (yd _),?_,.inr ?_⟩
    ·rw[Y5 hd,UV b (by omega)];simp
    ·intro c r e;rw[Y5 hd,UV b (by omega)]at e;injection e with e1 e2;subst e1;omega
  ·by_cases a:bt s i=45
   ·have f:i<s.size:=zQ (by omega);have e:s[i]=45:=UInt8.toNat_inj.1 (by show _=45;rw[← Zg s i f];exact a);have d:zK s i=i+1:=by unfold zK;rw[yf a]
    rw[yf a,UV f (by omega),e,d]
   ·have d:zK s i=i:=by unfold zK;rw[ye a]
    rw[ye a,d]
 ·cases h
theorem He{d:List UInt8}(h:YP d):qE d=d:=by
 unfold qE;rw[ye];intro e;have:=h.1 45 (by rw[e];simp);exact absurd this.1 (by decide)
theorem Hf{d:List UInt8}(h:YP d):parseUintB 64 d=if Zl 0 d<=18446744073709551615 then .ok (Zl 0 d)else .range:=by
 unfold parseUintB;rw[ye h.2.1];exact A6 d h.1 0 (by decide)
theorem Hg{s:Bs}{i j:Nat}{l:List UInt8}(h:nm s i=some (l,j)):
  (qZ l=false->∃ z:Int,parseIntB 64 (zW s i j)= .ok z/\itoa z=l/\-9223372036854775808<=z/\z<=9223372036854775807)/\(qZ l=true->parseIntB 64 (zW s i j)= .range):=by
 obtain⟨_,a,q,f⟩:=Hd h;generalize zW s (zK s i) j=d at *;have v:=Hf a;have o:=Hc d.length d rfl a;have y:(2:Nat) ^ (64 - 1)=9223372036854775808:=by decide
 by_cases m:bt s i=45
 ·rw[yf m]at q;rw[q]at f ⊢;rw[parseIntB_minus,v];by_cases u:d=[48]
  ·subst u;have e:l=[48]:=by rw[f];unfold qE;rw[yf rfl]
   subst e;refine⟨fun _=>⟨0,by decide,by rw[show (0:Int)=((0:Nat):Int)from rfl,itoa_nonneg,decDigits_one (by decide)];rfl,by decide,by decide⟩,fun hb=>absurd hb (by decide)⟩
  ·have e:l=45 :: d:=by
    rw[f];unfold qE;rw[ye];intro e;injection e with _ e;exact u e
   subst e;have w:qZ (45 :: d)=decide (9223372036854775808<Zl 0 d):=by rw[qZ,yf rfl,Ha a]
   rw[w];have p:1<=Zl 0 d:=by
    obtain⟨A,x,k⟩:=a;rcases k with k | k
    ·exact absurd k u
    ·cases d with
     | nil=>exact absurd rfl x
     | cons c r=>
      have:=O4 (d:=r) (k c r rfl);have v:0<10 ^ r.length:=Nat.pow_pos (by decide);omega
   refine⟨fun hb=>?_,fun hb=>?_⟩
   ·have b:=of_decide_eq_false hb;rw[yf (by omega)];refine⟨-((Zl 0 d:Nat):Int),?_,?_,by omega,by omega⟩
    ·show (if 2 ^ (64 - 1)<Zl 0 d then NumEnd.range else .ok (-((Zl 0 d:Nat):Int)))=_
     rw[ye (by omega)]
    ·rw[itoa_neg _ p,o]
   ·have b:=of_decide_eq_true hb;by_cases g:Zl 0 d<=18446744073709551615
    ·rw[yf g];show (if 2 ^ (64 - 1)<Zl 0 d then NumEnd.range else .ok (-((Zl 0 d:Nat):Int)))=_
     rw[yf (by omega)]
    ·rw[ye g];rfl
 ·rw[ye m]at q;rw[q]at f ⊢;rw[He a]at f;subst f
  cases hd:l with
  | nil=>exact absurd hd a.2.1
  | cons c r=>
   have n:=a.1 c (by rw[hd];simp);rw[parseIntB_plain 64 c r (by omega) (by omega),← hd,v];have w:qZ l=decide (9223372036854775807<Zl 0 l):=by
    rw[hd,qZ,ye (by intro e;rw[e]at n;exact absurd n.1 (by decide)),← hd,A9 a]
   rw[w];refine⟨fun hb=>?_,fun hb=>?_⟩
   ·have b:=of_decide_eq_false hb;rw[yf (by omega)];refine⟨((Zl 0 l:Nat):Int),?_,?_,by omega,by omega⟩
    ·show (if 2 ^ (64 - 1)<=Zl 0 l then NumEnd.range else .ok ((Zl 0 l:Nat):Int))=_
     rw[ye (by omega)]
    ·rw[itoa_nonneg,o]
   ·have b:=of_decide_eq_true hb;by_cases g:Zl 0 l<=18446744073709551615
    ·rw[yf g];show (if 2 ^ (64 - 1)<=Zl 0 l then NumEnd.range else .ok ((Zl 0 l:Nat):Int))=_
     rw[yf (by omega)]
    ·rw[ye g];rfl
end Go.Proofs.YtpaecnbdoljafaaGreatDoor
namespace Go.Proofs.YtpaecnbdoljafaaGreatDoor
open Go.RowKit Go.Proofs.Tryz
theorem Hh(b:Nat)(hb:b<256)(w:Wo):
  Calls prog 288 #[.int .u8 b] w fun e w'=>w=w'/\e=(hx b).elim QN (fun v=>.returned (.int .i32 v)):=by
 by_cases d:48<=b/\b<=57
 ·have a:Hid (hx b=some (b - 48)):=by show _=_;unfold hx;rw[yf d]
  have i:(48:Int)<=(b:Int):=by omega
  have j:(b:Int)<=57:=by omega
  clear d;go_in;go_wp2;go_ret;refine⟨rfl,?_⟩;rw[uh a];exact VP (by go_num)
 ·by_cases f:97<=b/\b<=102
  ·have a:Hid (hx b=some (b - 87)):=by show _=_;unfold hx;rw[ye d,yf f]
   have i:(97:Int)<=(b:Int):=by omega
   have j:(b:Int)<=102:=by omega
   clear d f;go_in;go_wp2;go_ret;refine⟨rfl,?_⟩;rw[uh a];exact VP (by go_num)
  ·by_cases h:65<=b/\b<=70
   ·have a:Hid (hx b=some (b - 55)):=by show _=_;unfold hx;rw[ye d,ye f,yf h]
    have i:(65:Int)<=(b:Int):=by omega
    have j:(b:Int)<=70:=by omega
    clear d f h;go_in;go_wp2;go_ret;refine⟨rfl,?_⟩;rw[uh a];exact VP (by go_num)
   ·have a:Hid (hx b=none):=by show _=_;unfold hx;rw[ye d,ye f,ye h]
    clear a;have a:Hid (hx b=none):=by show _=_;unfold hx;rw[ye d,ye f,ye h]
    rcases (show b<48∨(57<b/\b<65)∨(70<b/\b<97)∨102<b from by omega)with g | g | g | g
    ·have i:(b:Int)<48:=by omega
     clear d f h g;go_in;go_wp2;exact⟨rfl,rfl,by rw[uh a];rfl⟩
    ·have i:(57:Int)<(b:Int):=by omega
     have j:(b:Int)<65:=by omega
     clear d f h g;go_in;go_wp2;exact⟨rfl,rfl,by rw[uh a];rfl⟩
    ·have i:(70:Int)<(b:Int):=by omega
     have j:(b:Int)<97:=by omega
     clear d f h g;go_in;go_wp2;exact⟨rfl,rfl,by rw[uh a];rfl⟩
    ·have i:(102:Int)<(b:Int):=by omega
     clear d f h g;go_in;go_wp2;exact⟨rfl,rfl,by rw[uh a];rfl⟩
theorem LY(rb:Nat)(s:Bs)(i:Nat)(tb kt:Bool)(w:Wo)(h:zr rb s i tb kt w)(hs:s.size<=1048576)(hi:i<=s.size):
  Calls prog 273 #[.pointer (some ⟨rb,0,none⟩)] w (JG rb s tb kt w ((qe s i 4).map fun v:Nat=>(.int .i32 (v:Int),i+4))):=by
 have H:=zh h;clear h;go_in;go_wp2;go_loopw [3,4] (fun n k wr=>∃ j v:Nat,j<=4/\i+j<=s.size/\v<16 ^ j/\k= .int .i64 j/\n= .int .i32 v/\qe s i j=some v/\zr rb s (i+j) tb kt wr/\KB rb w wr) (fun _ k _=>4 - (intOf k).toNat)
 case atStart=>exact⟨0,0,by omega,by omega,by decide,rfl,rfl,rfl,uh H,KB.refl _ _⟩
 case round=>
  obtain⟨j,v,J,D,x,rfl,rfl,u,r,m⟩:=hrel;have q:=zh u;have HR:=zh r;clear u r;by_cases G:j<4
  ·have y:v<65536:=by
    have:(16:Nat) ^ j<=16 ^ 3:=Nat.pow_le_pow_right (by decide) (by omega);omega
   have C:(j:Int)<4:=by omega
   by_cases p:i+j<s.size
   ·have a:=zh (JF rb s (i+j) tb kt wr (uh HR) hs p);have f:=zh (Hh (bt s (i+j)) (ZL _ _));have E:(v:Int)<65536:=by omega
    cases hx1:hx (bt s (i+j))with
    | some d=>
     have I:=FL hx1;have g:=zh (Ws (uh q) hx1);rw[hx1]at f;generalize bt s (i+j)=b at *;clear hx1;go_wp2_with fail;refine (uh a).mono ?_;rintro e z ⟨rfl,o,l⟩;have A:=zh o;clear o;go_wp2_with fail;refine (uh f _).mono ?_;rintro e F ⟨rfl,rfl⟩;clear a f;simp only[Option.elim];go_wp2;go_roundw
     case rel=>exact⟨j+1,v*16+d,by omega,by omega,by rw[Nat.pow_succ];omega,by go_num,by go_num,uh g,uh A,m.trans l⟩
     case measure=>simp[intOf];omega
    | none=>
     have g:Hid (qe s i 4=none):=FM (KK hx1) (by omega);rw[hx1]at f;generalize bt s (i+j)=b at *;clear hx1;go_wp2_with fail;refine (uh a).mono ?_;rintro e z ⟨rfl,o,l⟩;clear o;go_wp2_with fail;refine (uh f _).mono ?_;rintro e F ⟨rfl,rfl⟩;clear a f;exact⟨rfl,m.trans l,by rw[uh g];rfl⟩
   ·have g:Hid (qe s i 4=none):=FM (KK (by rw[Jr s (i+j) (by omega)];rfl)) (show j+1<=4 by omega);have a:=zh (FG rb s (i+j) tb kt wr (uh HR) (by omega));go_wp2_with fail;refine (uh a).mono ?_;rintro e z ⟨rfl,l⟩;clear a;exact⟨rfl,m.trans l,by rw[uh g];rfl⟩
  ·have B:j=4:=by omega
   subst B;go_wp2;go_ret;exact⟨m,by rw[uh q];exact⟨rfl,uh HR⟩⟩
def WL(s:Bs)(i:Nat)(wd:Bs):Prop:=∀ k,k<wd.size->bt s (i+k)=bt wd k
theorem Xy(rb:Nat)(s:Bs)(i:Nat)(tb kt:Bool)(w:Wo)(h:zr rb s i tb kt w)(hs:s.size<=1048576)(wd:Bs)(hw:wd.size<=1000)(hi:i+wd.size<=s.size)(hit:WL s i wd):
  Calls prog 166 #[.pointer (some ⟨rb,0,none⟩),.string wd] w fun e w'=>e= .returned (.tuple #[])/\zr rb s (i+wd.size) tb kt w'/\KB rb w w':=by
 have H:=zh h;have b:=zh hit;clear h hit;go_in;go_wp2;go_loopw [7] (fun k wr=>∃ j:Nat,j<=wd.size/\k= .int .i64 j/\zr rb s (i+j) tb kt wr/\KB rb w wr) (fun k _=>wd.size - (intOf k).toNat)
 case atStart=>exact⟨0,by omega,rfl,uh H,KB.refl _ _⟩
 case round=>
  obtain⟨j,q,rfl,l,g⟩:=hrel;have HR:=zh l;clear l;by_cases a:j<wd.size
  ·have f:=(uh b) j a;have d:Hid (Calls prog 200 #[.pointer (some ⟨rb,0,none⟩),.int .u8 (wd[j].toNat:Int)] wr fun e w'=>e= .returned (.tuple #[])/\zr rb s (i+j+1) tb kt w'/\KB rb wr w'):=
    Vs rb s (i+j) tb kt wr (uh HR) hs wd[j].toNat (by rw[f,Zg wd j a]) (by omega)
   clear f;go_wp2_with fail;refine (uh d).mono ?_;rintro e r ⟨rfl,m,p⟩;have n:=zh m;clear m d;go_wp2;go_roundw
   case rel=>exact⟨j+1,by omega,by go_num,uh n,g.trans p⟩
   case measure=>simp[intOf];omega
  ·have o:j=wd.size:=by omega
   subst o;go_wp2;go_end0;exact⟨rfl,uh HR,g⟩
theorem Xz(rb:Nat)(s:Bs)(i:Nat)(tb kt:Bool)(w:Wo)(h:zr rb s i tb kt w)(hs:s.size<=1048576)(wd:Bs)(hw:wd.size<=1000)(hz:∀ k,k<wd.size->bt wd k≠0)(hi:i<=s.size)(hit:¬ WL s i wd):
  Calls prog 166 #[.pointer (some ⟨rb,0,none⟩),.string wd] w fun e w'=>e=QN/\KB rb w w':=by
 have H:=zh h;have f:=zh hit;have y:=zh hz;clear h hit hz;go_in;go_wp2;go_loopw [7] (fun k wr=>∃ j:Nat,j<=wd.size/\i+j<=s.size/\k= .int .i64 j/\(∀ m,m<j->bt s (i+m)=bt wd m)/\zr rb s (i+j) tb kt wr/\KB rb w wr) (fun k _=>wd.size - (intOf k).toNat)
 case atStart=>exact⟨0,by omega,hi,rfl,by omega,uh H,KB.refl _ _⟩
 case round=>
  obtain⟨j,B,n,rfl,p,v,u⟩:=hrel;have HR:=zh v;have r:=zh p;clear v p;by_cases b:j<wd.size
  ·by_cases a:bt s (i+j)=bt wd j
   ·have o:i+j<s.size:=zQ (by rw[a];exact (uh y) j b);have d:Hid (Calls prog 200 #[.pointer (some ⟨rb,0,none⟩),.int .u8 (wd[j].toNat:Int)] wr fun e w'=>e= .returned (.tuple #[])/\zr rb s (i+j+1) tb kt w'/\KB rb wr w'):=
     Vs rb s (i+j) tb kt wr (uh HR) hs wd[j].toNat (by rw[a,Zg wd j b]) o
    have l:Hid (∀ m,m<j+1->bt s (i+m)=bt wd m):=fun m p=>by
     rcases Nat.lt_or_ge m j with g | g
     ·exact (uh r) m g
     ·have:m=j:=by omega
      subst this;exact a
    clear a;go_wp2_with fail;refine (uh d).mono ?_;rintro e A ⟨rfl,x,q⟩;have z:=zh x;clear x d;go_wp2;go_roundw
    case rel=>exact⟨j+1,by omega,by omega,by go_num,uh l,uh z,u.trans q⟩
    case measure=>simp[intOf];omega
   ·have d:Hid (Calls prog 200 #[.pointer (some ⟨rb,0,none⟩),.int .u8 (wd[j].toNat:Int)] wr fun e w'=>e=QN/\KB rb wr w'):=
     Uj rb s (i+j) tb kt wr (uh HR) hs n wd[j].toNat (.inl (by rw[Zg wd j b]at a;exact a))
    clear a;go_wp2_with fail;refine (uh d).mono ?_;rintro e A ⟨rfl,q⟩;clear d;exact⟨rfl,rfl,u.trans q⟩
  ·exfalso;refine (uh f) fun k hk'=>(uh r) k (by omega)
theorem LZ(s:Bs)(i:Nat):WL s i ⟨#[92,117]⟩↔bt s i=92/\bt s (i+1)=117:=by
 constructor
 ·intro h;exact⟨h 0 (by decide),h 1 (by decide)⟩
 ·rintro⟨a,b⟩ k d;have:k<2:=d
  match k,this with
  | 0,_=>exact a
  | 1,_=>exact b
theorem Hi(rb:Nat)(s:Bs)(i:Nat)(tb kt:Bool)(w:Wo)(h:zr rb s (i+2) tb kt w)(hs:s.size<=1048576)(hi:i+2<=s.size):
  Calls prog 252 #[.pointer (some ⟨rb,0,none⟩)] w (JG rb s tb kt w (((qe s (i+2) 4).bind (qp s i)).map fun p=>(.int .i32 (p.1:Int),i+p.2))):=by
 have d:=zh (LY rb s (i+2) tb kt w h hs hi);clear h
 cases hx1:qe s (i+2) 4 with
 | none=>
  rw[hx1]at d;clear hx1;go_in;go_wp2_with fail;refine (uh d).mono ?_;rintro e r ⟨f,rfl⟩;clear d;exact⟨rfl,f,rfl⟩
 | some u=>
  have R:u<65536:=KJ s (i+2) 4 u hx1;have O:=RA hx1;rw[hx1]at d;clear hx1;simp only[yz];by_cases g:u<55296∨57344<=u
  ·have j:Hid (qp s i u=some (u,6)):=by show _=_;unfold qp;rw[yf g]
   rcases g with g | g
   ·have H:(u:Int)<55296:=by omega
    go_in;go_wp2_with fail;refine (uh d).mono ?_;rintro e r ⟨f,rfl,a⟩;have l:=zh a;clear d a;go_wp2;go_ret;exact⟨f,by rw[uh j];exact⟨rfl,uh l⟩⟩
   ·have H:¬ (u:Int)<55296:=by omega
    have M:(57343:Int)<(u:Int):=by omega
    have Q:decide ((u:Int)<55296)=false:=by simp;omega
    go_in;go_wp2_with fail;refine (uh d).mono ?_;rintro e r ⟨f,rfl,a⟩;have l:=zh a;clear d a;go_wp2;go_ret;exact⟨f,by rw[uh j];exact⟨rfl,uh l⟩⟩
  ·have H:¬ (u:Int)<55296:=by omega
   have M:¬ (57343:Int)<(u:Int):=by omega
   by_cases o:56320<=u
   ·have j:Hid (qp s i u=none):=by show _=_;unfold qp;rw[ye g,yf o]
    have N:(56319:Int)<(u:Int):=by omega
    clear g;go_in;go_wp2_with fail;refine (uh d).mono ?_;rintro e r ⟨f,rfl,a⟩;clear d a;go_wp2;exact⟨rfl,f,by rw[uh j];rfl⟩
   ·have N:¬ (56319:Int)<(u:Int):=by omega
    have F:Hid ((55296:Int)<=(u:Int)/\(u:Int)<=56319):=by show _/\_;omega
    by_cases z:bt s (i+6)=92/\bt s (i+6+1)=117
    ·have D:=(LZ s (i+6)).2 z;have J:i+6+1<s.size:=zQ (by rw[z.2];decide);have m:Hid (∀ w,zr rb s (i+6) tb kt w->Calls prog 166 #[.pointer (some ⟨rb,0,none⟩),.string ⟨#[92,117]⟩] w fun e w'=>e= .returned (.tuple #[])/\zr rb s (i+6+2) tb kt w'/\KB rb w w'):=
      fun w h=>Xy rb s (i+6) tb kt w h hs ⟨#[92,117]⟩ (by decide) (by show i+6+2<=_;omega) D
     have b:Hid (∀ w,zr rb s (i+6+2) tb kt w->Calls prog 273 #[.pointer (some ⟨rb,0,none⟩)] w (JG rb s tb kt w ((qe s (i+6+2) 4).map fun v:Nat=>(.int .i32 (v:Int),i+6+2+4)))):=
      fun w h=>LY rb s (i+6+2) tb kt w h hs (by omega)
     have y:qO s (i+6)=qe s (i+6+2) 4:=by unfold qO;rw[yf z]
     clear z D
     cases hx2:qe s (i+6+2) 4 with
     | none=>
      have j:Hid (qp s i u=none):=by show _=_;unfold qp;rw[ye g,ye o,y,hx2];rfl
      rw[hx2]at b;clear hx2 y g o;go_in;go_wp2_with fail;refine (uh d).mono ?_;rintro e r ⟨f,rfl,a⟩;have l:=zh a;clear d a;go_wp2_with fail;refine (uh m _ (uh l)).mono ?_;rintro e E ⟨rfl,n,q⟩;have x:=zh n;clear m n;go_wp2_with fail;refine (uh b _ (uh x)).mono ?_;rintro e G ⟨A,rfl⟩;clear b;exact⟨rfl,(f.trans q).trans A,by rw[uh j];rfl⟩
     | some v=>
      have S:v<65536:=KJ s (i+6+2) 4 v hx2;rw[hx2]at b;by_cases C:56320<=v/\v<57344
      ·have j:Hid (qp s i u=some (65536+(u - 55296)*1024+(v - 56320),12)):=by
        show _=_;unfold qp;rw[ye g,ye o,y,hx2];simp only[yz];rw[yf C]
       have K:(56320:Int)<=(v:Int):=by omega
       have P:(v:Int)<=57343:=by omega
       have V:¬ (v:Int)<56320:=by omega
       have W:¬ (57343:Int)<(v:Int):=by omega
       clear hx2 y g o C;go_in;go_wp2_with fail;refine (uh d).mono ?_;rintro e r ⟨f,rfl,a⟩;have l:=zh a;clear d a;go_wp2_with fail;refine (uh m _ (uh l)).mono ?_;rintro e E ⟨rfl,n,q⟩;have x:=zh n;clear m n;go_wp2_with fail;refine (uh b _ (uh x)).mono ?_;rintro e G ⟨A,rfl,B⟩;have L:=zh B;clear b B;obtain⟨T,U⟩:=uh F;go_wp2;go_ret;refine⟨(f.trans q).trans A,?_⟩;rw[uh j];exact⟨VP (by omega),uh L⟩
      ·have j:Hid (qp s i u=none):=by
        show _=_;unfold qp;rw[ye g,ye o,y,hx2];simp only[yz];rw[ye C]
       rcases (show v<56320∨57344<=v from by omega)with I | I
       ·have K:(v:Int)<=56319:=by omega
        clear hx2 y g o C I;go_in;go_wp2_with fail;refine (uh d).mono ?_;rintro e r ⟨f,rfl,a⟩;have l:=zh a;clear d a;go_wp2_with fail;refine (uh m _ (uh l)).mono ?_;rintro e E ⟨rfl,n,q⟩;have x:=zh n;clear m n;go_wp2_with fail;refine (uh b _ (uh x)).mono ?_;rintro e G ⟨A,rfl,B⟩;clear b B;go_wp2;exact⟨rfl,(f.trans q).trans A,by rw[uh j];rfl⟩
       ·have K:¬ (v:Int)<56320:=by omega
        have P:(57343:Int)<(v:Int):=by omega
        clear hx2 y g o C;go_in;go_wp2_with fail;refine (uh d).mono ?_;rintro e r ⟨f,rfl,a⟩;have l:=zh a;clear d a;go_wp2_with fail;refine (uh m _ (uh l)).mono ?_;rintro e E ⟨rfl,n,q⟩;have x:=zh n;clear m n;go_wp2_with fail;refine (uh b _ (uh x)).mono ?_;rintro e G ⟨A,rfl,B⟩;clear b B;go_wp2;exact⟨rfl,(f.trans q).trans A,by rw[uh j];rfl⟩
    ·have j:Hid (qp s i u=none):=by
      show _=_;unfold qp;rw[ye g,ye o];unfold qO;rw[ye z];rfl
     have m:Hid (∀ w,zr rb s (i+6) tb kt w->Calls prog 166 #[.pointer (some ⟨rb,0,none⟩),.string ⟨#[92,117]⟩] w fun e w'=>e=QN/\KB rb w w'):=
      fun w h=>Xz rb s (i+6) tb kt w h hs ⟨#[92,117]⟩ (by decide) (fun k hk=>by
       have:k<2:=hk
       match k,this with
       | 0,_=>decide
       | 1,_=>decide) (by omega) (fun h=>z ((LZ s (i+6)).1 h))
     clear g o z;go_in;go_wp2_with fail;refine (uh d).mono ?_;rintro e r ⟨f,rfl,a⟩;have l:=zh a;clear d a;go_wp2_with fail;refine (uh m _ (uh l)).mono ?_;rintro e E ⟨rfl,q⟩;clear m;exact⟨rfl,f.trans q,by rw[uh j];rfl⟩
theorem Hj(rb:Nat)(s:Bs)(i:Nat)(tb kt:Bool)(w:Wo)(h:zr rb s (i+1) tb kt w)(hs:s.size<=1048576)(hb:bt s (i+1)=34):
  Calls prog 231 #[.pointer (some ⟨rb,0,none⟩)] w fun e w'=>e= .returned (.int .i32 34)/\zr rb s (i+2) tb kt w'/\KB rb w w':=by
 have a:=zh (JF rb s (i+1) tb kt w h hs (zQ (by rw[hb];decide)));rw[hb]at a;clear h hb;go_in;go_wp2_with fail;refine (uh a).mono ?_;rintro e g ⟨rfl,b,f⟩;have d:=zh b;clear a b;go_wp2;go_ret;exact⟨rfl,uh d,f⟩
theorem Hk(rb:Nat)(s:Bs)(i:Nat)(tb kt:Bool)(w:Wo)(h:zr rb s (i+1) tb kt w)(hs:s.size<=1048576)(hb:bt s (i+1)=92):
  Calls prog 231 #[.pointer (some ⟨rb,0,none⟩)] w fun e w'=>e= .returned (.int .i32 92)/\zr rb s (i+2) tb kt w'/\KB rb w w':=by
 have a:=zh (JF rb s (i+1) tb kt w h hs (zQ (by rw[hb];decide)));rw[hb]at a;clear h hb;go_in;go_wp2_with fail;refine (uh a).mono ?_;rintro e g ⟨rfl,b,f⟩;have d:=zh b;clear a b;go_wp2;go_ret;exact⟨rfl,uh d,f⟩
theorem Hl(rb:Nat)(s:Bs)(i:Nat)(tb kt:Bool)(w:Wo)(h:zr rb s (i+1) tb kt w)(hs:s.size<=1048576)(hb:bt s (i+1)=47):
  Calls prog 231 #[.pointer (some ⟨rb,0,none⟩)] w fun e w'=>e= .returned (.int .i32 47)/\zr rb s (i+2) tb kt w'/\KB rb w w':=by
 have a:=zh (JF rb s (i+1) tb kt w h hs (zQ (by rw[hb];decide)));rw[hb]at a;clear h hb;go_in;go_wp2_with fail;refine (uh a).mono ?_;rintro e g ⟨rfl,b,f⟩;have d:=zh b;clear a b;go_wp2;go_ret;exact⟨rfl,uh d,f⟩
theorem Hm(rb:Nat)(s:Bs)(i:Nat)(tb kt:Bool)(w:Wo)(h:zr rb s (i+1) tb kt w)(hs:s.size<=1048576)(hb:bt s (i+1)=98):
  Calls prog 231 #[.pointer (some ⟨rb,0,none⟩)] w fun e w'=>e= .returned (.int .i32 8)/\zr rb s (i+2) tb kt w'/\KB rb w w':=by
 have a:=zh (JF rb s (i+1) tb kt w h hs (zQ (by rw[hb];decide)));rw[hb]at a;clear h hb;go_in;go_wp2_with fail;refine (uh a).mono ?_;rintro e g ⟨rfl,b,f⟩;have d:=zh b;clear a b;go_wp2;go_ret;exact⟨rfl,uh d,f⟩
theorem Hn(rb:Nat)(s:Bs)(i:Nat)(tb kt:Bool)(w:Wo)(h:zr rb s (i+1) tb kt w)(hs:s.size<=1048576)(hb:bt s (i+1)=102):
  Calls prog 231 #[.pointer (some ⟨rb,0,none⟩)] w fun e w'=>e= .returned (.int .i32 12)/\zr rb s (i+2) tb kt w'/\KB rb w w':=by
 have a:=zh (JF rb s (i+1) tb kt w h hs (zQ (by rw[hb];decide)));rw[hb]at a;clear h hb;go_in;go_wp2_with fail;refine (uh a).mono ?_;rintro e g ⟨rfl,b,f⟩;have d:=zh b;clear a b;go_wp2;go_ret;exact⟨rfl,uh d,f⟩
theorem Ho(rb:Nat)(s:Bs)(i:Nat)(tb kt:Bool)(w:Wo)(h:zr rb s (i+1) tb kt w)(hs:s.size<=1048576)(hb:bt s (i+1)=110):
  Calls prog 231 #[.pointer (some ⟨rb,0,none⟩)] w fun e w'=>e= .returned (.int .i32 10)/\zr rb s (i+2) tb kt w'/\KB rb w w':=by
 have a:=zh (JF rb s (i+1) tb kt w h hs (zQ (by rw[hb];decide)));rw[hb]at a;clear h hb;go_in;go_wp2_with fail;refine (uh a).mono ?_;rintro e g ⟨rfl,b,f⟩;have d:=zh b;clear a b;go_wp2;go_ret;exact⟨rfl,uh d,f⟩
theorem Hp(rb:Nat)(s:Bs)(i:Nat)(tb kt:Bool)(w:Wo)(h:zr rb s (i+1) tb kt w)(hs:s.size<=1048576)(hb:bt s (i+1)=114):
  Calls prog 231 #[.pointer (some ⟨rb,0,none⟩)] w fun e w'=>e= .returned (.int .i32 13)/\zr rb s (i+2) tb kt w'/\KB rb w w':=by
 have a:=zh (JF rb s (i+1) tb kt w h hs (zQ (by rw[hb];decide)));rw[hb]at a;clear h hb;go_in;go_wp2_with fail;refine (uh a).mono ?_;rintro e g ⟨rfl,b,f⟩;have d:=zh b;clear a b;go_wp2;go_ret;exact⟨rfl,uh d,f⟩
theorem Hq(rb:Nat)(s:Bs)(i:Nat)(tb kt:Bool)(w:Wo)(h:zr rb s (i+1) tb kt w)(hs:s.size<=1048576)(hb:bt s (i+1)=116):
  Calls prog 231 #[.pointer (some ⟨rb,0,none⟩)] w fun e w'=>e= .returned (.int .i32 9)/\zr rb s (i+2) tb kt w'/\KB rb w w':=by
 have a:=zh (JF rb s (i+1) tb kt w h hs (zQ (by rw[hb];decide)));rw[hb]at a;clear h hb;go_in;go_wp2_with fail;refine (uh a).mono ?_;rintro e g ⟨rfl,b,f⟩;have d:=zh b;clear a b;go_wp2;go_ret;exact⟨rfl,uh d,f⟩
theorem Hr(rb:Nat)(s:Bs)(i:Nat)(tb kt:Bool)(w:Wo)(h:zr rb s (i+1) tb kt w)(hs:s.size<=1048576)(hi:i+2<=s.size)(h0:bt s i=92)(hb:bt s (i+1)=117):
  Calls prog 231 #[.pointer (some ⟨rb,0,none⟩)] w (JG rb s tb kt w ((Qf s i).map fun p=>(.int .i32 (p.1:Int),i+p.2))):=by
 have a:=zh (JF rb s (i+1) tb kt w h hs (zQ (by rw[hb];decide)));rw[RF h0 hb];rw[hb]at a;have d:Hid (∀ w,zr rb s (i+2) tb kt w->Calls prog 252 #[.pointer (some ⟨rb,0,none⟩)] w (JG rb s tb kt w (((qe s (i+2) 4).bind (qp s i)).map fun p=>(.int .i32 (p.1:Int),i+p.2)))):=fun w h=>Hi rb s i tb kt w h hs hi;clear h hb h0;generalize (qe s (i+2) 4).bind (qp s i)=o at *
 cases o with
 | none=>
  go_in;go_wp2_with fail;refine (uh a).mono ?_;rintro e m ⟨rfl,b,g⟩;have f:=zh b;clear a b;go_wp2_with fail;refine (uh d _ (uh f)).mono ?_;rintro e n ⟨j,rfl⟩;clear d;exact⟨rfl,g.trans j,rfl⟩
 | some p=>
  go_in;go_wp2_with fail;refine (uh a).mono ?_;rintro e m ⟨rfl,b,g⟩;have f:=zh b;clear a b;go_wp2_with fail;refine (uh d _ (uh f)).mono ?_;rintro e n ⟨j,rfl,k⟩;have l:=zh k;clear d k;go_wp2;go_ret;exact⟨g.trans j,rfl,uh l⟩
theorem Hs(rb:Nat)(s:Bs)(i:Nat)(tb kt:Bool)(w:Wo)(h:zr rb s (i+1) tb kt w)(hi:i+1=s.size):
  Calls prog 231 #[.pointer (some ⟨rb,0,none⟩)] w fun e w'=>e=QN/\KB rb w w':=by
 have a:=zh (FG rb s (i+1) tb kt w h hi);clear h hi;go_in;go_wp2_with fail;refine (uh a).mono ?_;rintro e d ⟨rfl,b⟩;clear a;exact⟨rfl,rfl,b⟩
theorem Ht(rb:Nat)(s:Bs)(i:Nat)(tb kt:Bool)(w:Wo)(h:zr rb s (i+1) tb kt w)(hs:s.size<=1048576)(hi:i+1<s.size)(b:Nat)(hb:bt s (i+1)=b)(n34:b≠34)(n92:b≠92)(n47:b≠47)(n98:b≠98)(n102:b≠102)(n110:b≠110)(n114:b≠114)(n116:b≠116)(n117:b≠117):
  Calls prog 231 #[.pointer (some ⟨rb,0,none⟩)] w fun e w'=>e=QN/\KB rb w w':=by
 have a:=zh (JF rb s (i+1) tb kt w h hs hi);rw[hb]at a;have n:((b:Int) ==34)=false:=by rw[yb];omega
 have p:((b:Int) ==92)=false:=by rw[yb];omega
 have o:((b:Int) ==47)=false:=by rw[yb];omega
 have q:((b:Int) ==98)=false:=by rw[yb];omega
 have d:((b:Int) ==102)=false:=by rw[yb];omega
 have f:((b:Int) ==110)=false:=by rw[yb];omega
 have g:((b:Int) ==114)=false:=by rw[yb];omega
 have j:((b:Int) ==116)=false:=by rw[yb];omega
 have k:((b:Int) ==117)=false:=by rw[yb];omega
 clear h hb n34 n92 n47 n98 n102 n110 n114 n116 n117;go_in;go_wp2_with fail;refine (uh a).mono ?_;rintro e r ⟨rfl,m,l⟩;clear a m;go_wp2;exact⟨rfl,rfl,l⟩
theorem Hu{b:Nat}(n34:b≠34)(n92:b≠92)(n47:b≠47)(n98:b≠98)(n102:b≠102)(n110:b≠110)(n114:b≠114)(n116:b≠116):QO b=none:=by
 unfold QO;rw[ye n34,ye n92,ye n47,ye n98,ye n102,ye n110,ye n114,ye n116]
theorem YQ{rb:Nat}{s:Bs}{tb kt:Bool}{w:Wo}{o:Option (Value×Nat)}{v:Value}{j:Nat}{e:Ending}{w':Wo}(ho:o=some (v,j))(h:e= .returned v/\zr rb s j tb kt w'/\KB rb w w'):JG rb s tb kt w o e w':=by
 subst ho;exact⟨h.2.2,h.1,h.2.1⟩
theorem UW{rb:Nat}{s:Bs}{tb kt:Bool}{w:Wo}{o:Option (Value×Nat)}{e:Ending}{w':Wo}(ho:o=none)(h:e=QN/\KB rb w w'):JG rb s tb kt w o e w':=by
 subst ho;exact⟨h.2,h.1⟩
theorem Hv(rb:Nat)(s:Bs)(i:Nat)(tb kt:Bool)(w:Wo)(h:zr rb s (i+1) tb kt w)(hs:s.size<=1048576)(hi:i+1<=s.size)(h0:bt s i=92):
  Calls prog 231 #[.pointer (some ⟨rb,0,none⟩)] w (JG rb s tb kt w ((Qf s i).map fun p=>(.int .i32 (p.1:Int),i+p.2))):=by
 by_cases n:i+1=s.size
 ·have o:bt s (i+1)=0:=Jr s (i+1) (by omega);exact (Hs rb s i tb kt w h n).mono fun e w' hh=>UW (by rw[RG o (by rfl) (by decide)];rfl) hh
 by_cases j:bt s (i+1)=34
 ·exact (Hj rb s i tb kt w h hs j).mono fun e w' hh=>YQ (by rw[YG j (by rfl)];rfl) hh
 by_cases l:bt s (i+1)=92
 ·exact (Hk rb s i tb kt w h hs l).mono fun e w' hh=>YQ (by rw[YG l (by rfl)];rfl) hh
 by_cases k:bt s (i+1)=47
 ·exact (Hl rb s i tb kt w h hs k).mono fun e w' hh=>YQ (by rw[YG k (by rfl)];rfl) hh
 by_cases m:bt s (i+1)=98
 ·exact (Hm rb s i tb kt w h hs m).mono fun e w' hh=>YQ (by rw[YG m (by rfl)];rfl) hh
 by_cases a:bt s (i+1)=102
 ·exact (Hn rb s i tb kt w h hs a).mono fun e w' hh=>YQ (by rw[YG a (by rfl)];rfl) hh
 by_cases b:bt s (i+1)=110
 ·exact (Ho rb s i tb kt w h hs b).mono fun e w' hh=>YQ (by rw[YG b (by rfl)];rfl) hh
 by_cases d:bt s (i+1)=114
 ·exact (Hp rb s i tb kt w h hs d).mono fun e w' hh=>YQ (by rw[YG d (by rfl)];rfl) hh
 by_cases f:bt s (i+1)=116
 ·exact (Hq rb s i tb kt w h hs f).mono fun e w' hh=>YQ (by rw[YG f (by rfl)];rfl) hh
 by_cases g:bt s (i+1)=117
 ·exact Hr rb s i tb kt w h hs (by omega) h0 g
 exact (Ht rb s i tb kt w h hs (by omega) _ rfl j l k m a b d f g).mono fun e w' hh=>UW (by rw[RG rfl (Hu j l k m a b d f) g];rfl) hh
end Go.Proofs.YtpaecnbdoljafaaGreatDoor
