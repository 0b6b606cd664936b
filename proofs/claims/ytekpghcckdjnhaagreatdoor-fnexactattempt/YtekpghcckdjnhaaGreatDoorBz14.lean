import Derived.Test.YtekpghcckdjnhaaGreatDoorBz7
import Derived.Test.YtekpghcckdjnhaaGreatDoorBz13
set_option maxRecDepth 100000
set_option maxHeartbeats 8000000
namespace Go.Proofs.YtekpghcckdjnhaaGreatDoor
open Go.RowKit Go.Proofs.Tryz
theorem Xz{ts:List (List UInt8)}{j:Nat}(h:j<ts.length):(ts.map zz).getD j ByteArray.empty=zz (ts.getD j []):=by simp[h]
def We(ps:List zK)(key:List UInt8)(e:Ending):Prop:=(e= .returned (.int .i64 (-1))/\∀ j (hj:j<ps.length),ps[j].1≠key)∨∃ (j:Nat) (hj:j<ps.length),e= .returned (.int .i64 (j:Int))/\ps[j].1=key
theorem We.no{ps:List zK}{key:List UInt8}{e:Ending}(h:e= .returned (.int .i64 (-1)))(k:∀ j (hj:j<ps.length),ps[j].1≠key):We ps key e:=Or.inl ⟨h,k⟩
theorem We.yes{ps:List zK}{key:List UInt8}{e:Ending}{j:Nat}(hj:j<ps.length)(h:e= .returned (.int .i64 (j:Int)))(k:ps[j].1=key):We ps key e:=Or.inr ⟨j,hj,h,k⟩
def JS(v:JV)(t:List UInt8)(e:Ending):Prop:=(e= .returned (.int .i64 (-1))/\zQ v t=none)∨∃ (j:Nat) (hj:j<(zm v).length) (u:JV),e= .returned (.int .i64 (j:Int))/\zQ v t=some u/\(zm v)[j].2=ct u/\(zm v)[j].1=t
theorem JS.no{v:JV}{t:List UInt8}{e:Ending}(h:e= .returned (.int .i64 (-1)))(k:zQ v t=none):JS v t e:=Or.inl ⟨h,k⟩
theorem JS.yes{v u:JV}{t:List UInt8}{e:Ending}{j:Nat}(hj:j<(zm v).length)(h:e= .returned (.int .i64 (j:Int)))(k:zQ v t=some u/\(zm v)[j].2=ct u/\(zm v)[j].1=t):JS v t e:=Or.inr ⟨j,hj,u,h,k.1,k.2.1,k.2.2⟩
theorem SR(B:Nat)(v:Value)(ps:List zK)(key:List UInt8)(w:Wo)(h:PR w B v ps)(hn:ps.length<=40000000):
  Calls prog 91 #[v,.string (ze key)] w fun e w'=>w=w'/\We ps key e:=by
 obtain⟨x,len,a,rfl,m⟩:∃ x len a,v= .slice x len a/\len=ps.length:=by
  rcases h.2 with ⟨p,z⟩ |⟨g,a,y,p,_⟩
  ·exact⟨_,_,_,p,z.symm⟩
  ·exact⟨_,_,_,p,rfl⟩
 subst m;have s:=zb h;clear h;go_in;go_wp2_with fail;go_loopw [5] (fun k wr=>w=wr/\∃ j:Nat,k= .int .i64 (j:Int)/\j<=ps.length/\∀ i (hi:i<ps.length),i<j->ps[i].1≠key) (fun k _=>ps.length - (intOf k).toNat)
 case atStart=>exact⟨rfl,0,rfl,yt _,fun i _ hi=>by omega⟩
 case round=>
  obtain⟨rfl,j,rfl,F,n⟩:=hrel;have d:=zb n;clear n;by_cases l:j<ps.length
  ·have D:((j:Int)<(ps.length:Int))=True:=eq_true (by omega);obtain⟨g,q,A,E,C,c0,c1⟩:=(uh s).cells j l;injection A with he1 he2 he3;subst he1;subst he3;have f:=Fw ps[j].1 key;by_cases b:ps[j].1=key
   ·have o:(ps[j].1 ==key)=true:=by rw[yC];exact b
    have r:=zb b;rw[o]at f;clear b o;go_wp2;go_ret;exact⟨rfl,We.yes l rfl (uh r)⟩
   ·have o:(ps[j].1 ==key)=false:=by rw[yd];exact b
    have u:Hid (∀ i (hi:i<ps.length),i<j+1->ps[i].1≠key):=fun i hi hij=>by
     by_cases e:i=j
     ·subst e;exact b
     ·exact uh d i hi (by omega)
    rw[o]at f;clear b o;go_wp2;go_roundw
    case rel=>exact⟨trivial,j+1,by go_num,by omega,uh u⟩
    case measure=>simp[intOf];omega
  ·have D:((j:Int)<(ps.length:Int))=False:=yQ (by omega);go_wp2;go_ret;exact⟨rfl,We.no rfl (fun i hi=>uh d i hi (by omega))⟩
theorem UW(v:JV)(hok:zF v)(w:Wo)(hl:(ct v).length<=1000000):
  Calls prog 47 #[.string (ze (ct v))] w fun e w'=>∃ r,e= .returned r/\PR w' w.heap.size r (zm v)/\Bw w w':=by
 have leaf:∀ (c:UInt8) (r:List UInt8),ct v=c :: r->c.toNat≠91->c.toNat≠123->zm v=[]->Calls prog 47 #[.string (ze (ct v))] w fun e w'=>∃ r,e= .returned r/\PR w' w.heap.size r (zm v)/\Bw w w':=fun c r hc h1 h2 d=>by
  rw[d,hc];obtain⟨a,b⟩:=GI (c:=c) (r:=r);exact Tr _ w a (by rw[b];exact h1) (by rw[b];exact h2)
 cases v with
 | arr l=>rw[zF]at hok;exact Ts l hok w (by rw[Zw];exact hl)
 | obj m=>rw[zF]at hok;exact Tt m hok w (by rw[Zw];exact hl)
 | nul=>exact leaf 110 _ rfl (by decide) (by decide) rfl
 | tt=>exact leaf 116 _ rfl (by decide) (by decide) rfl
 | ff=>exact leaf 102 _ rfl (by decide) (by decide) rfl
 | num l=>
  have d:=Up hok
  cases l with
  | nil=>exact absurd rfl d.1
  | cons c r=>
   have:=(d.2 c yp).1;exact leaf c r rfl this.2.1 this.2.2.1 rfl
 | str l=>exact leaf 34 (qs l++[34]) rfl (by decide) (by decide) rfl
theorem W9{v:JV}(hok:zF v)(hl:(ct v).length<=1000000):(zm v).length<=1000000:=by
 cases v with
 | arr l=>
  show (qM 0 (zr l)).length<=_
  rw[GA];have:(ze (ct (.arr l))).data.toList=91 ::(joinC (zr l)++[93]):=by rw[Zf];rfl
  have:=PT this;rw[Zw]at this;omega
 | obj m=>
  show (zH (zj m)).length<=_
  have:(ze (ct (.obj m))).data.toList=123 ::(joinC ((zH (zj m)).map zn)++[125]):=by rw[Zf];rfl
  have:=PT this;rw[Zw,yl]at this;omega
 | nul=>simp[zm]
 | tt=>simp[zm]
 | ff=>simp[zm]
 | num l=>simp[zm]
 | str l=>simp[zm]
theorem OM(v:JV)(hok:zF v)(htw:zy v=false)(t:List UInt8)(ht:t.length<=1048576)(w:Wo)(hl:(ct v).length<=1000000):
  Calls prog 121 #[.string (ze (ct v)),.string (ze t)] w fun e w'=>Bw w w'/\JS v t e:=by
 have B:Hid (∀ w,Calls prog 47 #[.string (ze (ct v))] w fun e w'=>∃ r,e= .returned r/\PR w' w.heap.size r (zm v)/\Bw w w'):=fun w=>UW v hok w hl;have s:Hid (∀ w,Calls prog 124 #[.string (ze t)] w (Rk (.int .i64 (JP t)) w)):=fun w=>by
  have:=Bo (ze t) w (by rw[Zw];exact ht)
  rwa [Zf]at this
 have L:=W9 hok hl;have p:=Ph v hok;have K:0<(ze (ct v)).size:=by rw[Zw];cases h:ct v with
  | nil=>exact absurd h p
  | cons _ _=>simp
 have N:(0:Int)<((ze (ct v)).size:Int):=by omega
 have a:(ze (ct v))[0].toNat=91↔∃ l,v= .arr l:=by
  rw[← Zr _ 0 K];constructor
  ·intro h
   cases v with
   | arr l=>exact⟨l,rfl⟩
   | obj m=>exact absurd h (by rw[show ct (.obj m)=123 ::(joinC ((zH (zj m)).map zn)++[125])from rfl,(GI (c:=123) (r:=joinC ((zH (zj m)).map zn)++[125])).2];decide)
   | nul=>exact absurd h (by decide)
   | tt=>exact absurd h (by decide)
   | ff=>exact absurd h (by decide)
   | num l=>
    have H:=Up hok
    cases l with
    | nil=>exact absurd rfl H.1
    | cons c r=>
     have k:bt (ze (c :: r)) 0=91:=h;rw[(GI (c:=c) (r:=r)).2]at k;exact absurd k (H.2 c yp).1.2.1
   | str l=>exact absurd h (by rw[show ct (.str l)=34 ::(qs l++[34])from rfl,(GI (c:=34) (r:=qs l++[34])).2];decide)
  ·rintro⟨l,rfl⟩;exact (GI (c:=91) (r:=joinC (zr l)++[93])).2
 have z:Hid (((∃ l,v= .arr l)->(qZ t).isSome=true)->∀ {j:Nat} (n:j<(zm v).length),(zm v)[j].1=t->∃ u,zQ v t=some u/\(zm v)[j].2=ct u):=fun hi {j} n G=>TT hok htw hi n G;have A:Hid ((∀ j (n:j<(zm v).length),(zm v)[j].1≠t)->zQ v t=none):=fun h=>TU h;have o:Hid ((∃ l,v= .arr l)->qZ t=none->zQ v t=none):=fun ⟨l,e⟩ h=>by subst e;rw[Jv,h];rfl
 have f:((∃ l,v= .arr l)->(qZ t).isSome=true)->∀ g (r:Value),PR g w.heap.size r (zm v)->Calls prog 91 #[r,.string (ze t)] g fun e w'=>g=w'/\JS v t e:=fun hi g r hr=>by
  refine (SR _ r (zm v) t g hr (by omega)).mono ?_;rintro e w' ⟨rfl,⟨rfl,h⟩ |⟨j,n,rfl,G⟩⟩
  ·exact⟨rfl,JS.no rfl (uh A h)⟩
  ·obtain⟨u,x,k⟩:=uh z hi n G;exact⟨rfl,JS.yes n rfl ⟨x,k,G⟩⟩
 have b:=zb f;clear f z A;by_cases y:∃ l,v= .arr l
 ·have J:(((ze (ct v))[0].toNat:Int) ==91)=true:=by rw[yC];have:=a.2 y;omega
  cases hx:qZ t with
  | none=>
   have I:=zb (uh o y hx);have E:JP t= -1:=by unfold JP;rw[hx]
   rw[E]at s;clear a o b y hx E B p hok htw;generalize ze (ct v)=T at *;go_in;go_wp2_with fail;refine (uh s _).mono ?_;rintro e g ⟨rfl,rfl⟩;clear s;go_wp2;go_ret;exact⟨yH _ _,JS.no rfl (uh I)⟩
  | some i=>
   have C:=zb (uh b (fun _=>by rw[hx];rfl));have E:JP t=(i:Int):=by unfold JP;rw[hx]
   rw[E]at s;have O:¬ (i:Int)<0:=by omega
   clear a o b y hx E p hok htw;generalize ze (ct v)=T at *;go_in;go_wp2_with fail;refine (uh s _).mono ?_;rintro e g ⟨rfl,rfl⟩;clear s;go_wp2_with fail;refine (uh B _).mono ?_;rintro e g ⟨r,rfl,F,D⟩;have d:=zb (uh C g r F);clear B C F;go_wp2_with fail;refine (uh d).mono ?_;rintro e M ⟨rfl,⟨rfl,h⟩ |⟨j,n,u,rfl,x,k⟩⟩
   ·clear d;have q:=zb h;clear h;go_wp2;go_ret;exact⟨D,JS.no rfl (uh q)⟩
   ·clear d;have q:=zb (⟨x,k⟩:zQ v t=some u/\(zm v)[j].2=ct u/\(zm v)[j].1=t);clear x k;go_wp2;go_ret;exact⟨D,JS.yes n rfl (uh q)⟩
 ·have J:(((ze (ct v))[0].toNat:Int) ==91)=false:=by rw[yd];intro e;exact y (a.1 (by omega))
  have C:=zb (uh b (fun h=>absurd h y));clear a o b y p hok htw s;generalize ze (ct v)=T at *;go_in;go_wp2_with fail;refine (uh B _).mono ?_;rintro e g ⟨r,rfl,F,D⟩;have d:=zb (uh C g r F);clear B C F;go_wp2_with fail;refine (uh d).mono ?_;rintro e M ⟨rfl,⟨rfl,h⟩ |⟨j,n,u,rfl,x,k⟩⟩
  ·clear d;have q:=zb h;clear h;go_wp2;go_ret;exact⟨D,JS.no rfl (uh q)⟩
  ·clear d;have q:=zb (⟨x,k⟩:zQ v t=some u/\(zm v)[j].2=ct u/\(zm v)[j].1=t);clear x k;go_wp2;go_ret;exact⟨D,JS.yes n rfl (uh q)⟩
def YJ(v:JV)(ts:List (List UInt8)):Value:=match zM v ts with
 | some u=>.tuple #[.string (ze (ct u)),.bool true]
 | none=>.tuple #[.string ⟨#[]⟩,.bool false]
theorem ON(v:JV)(hok:zF v)(htw:zy v=false)(hl:(ct v).length<=1000000)(a:Option Addr)(g off cap:Nat)(ts:List (List UInt8))(w:Wo)(hs:SS w a g off (ts.map zz))(hn:ts.length<=1048577)(ht:∀ t∈ts,t.length<=1048576):
  Calls prog 92 #[.string (ze (ct v)),.slice a ts.length cap] w fun e w'=>e= .returned (YJ v ts)/\Bw w w':=by
 have h:=hs.ad;have H:=zb hs;rw[yl]at h;have i:Hid (∀ (u:JV) (k:Nat) (K:k<ts.length) (w:Wo),zF u->zy u=false->(ct u).length<=1000000->Calls prog 121 #[.string (ze (ct u)),.string (ze ts[k])] w fun e w'=>Bw w w'/\JS u ts[k] e):=fun u k K w o1 o2 o3=>OM u o1 o2 ts[k] (ht _ (yr K)) w o3;have m:Hid (∀ (u:JV) (w:Wo),zF u->(ct u).length<=1000000->Calls prog 47 #[.string (ze (ct u))] w fun e w'=>∃ r,e= .returned r/\PR w' w.heap.size r (zm u)/\Bw w w'):=fun u w o1 o2=>UW u o1 w o2;clear hs ht;go_in;go_wp2;go_loopw [0,6] (fun sv iv wr=>∃ (k:Nat) (u:JV),k<=ts.length/\iv= .int .i64 (k:Int)/\sv= .string (ze (ct u))/\zM v (ts.take k)=some u/\zF u/\zy u=false/\(ct u).length<=1000000/\Bw w wr) (fun _ iv _=>ts.length - (intOf iv).toNat)
 case atStart=>exact⟨0,v,yt _,rfl,rfl,rfl,hok,htw,hl,yH _ _⟩
 case round=>
  obtain⟨k,u,K,rfl,rfl,s,L,A,y,E⟩:=hrel;have C:=zb s;have F:=zb E;by_cases b:k<ts.length
  ·have O:(k:Int)<(ts.length:Int):=by omega
   obtain rfl:=h (by omega);have f:=((uh H).below E).cell k (by rw[yl];exact b);rw[Xz b]at f;have x:zz (ts.getD k [])=ze ts[k]:=by simp[List.getD,b,zz,ze]
   rw[x]at f;have G:=zb (uh i u k b wr L A y);have o:Hid (zQ u ts[k]=none->YJ v ts= .tuple #[.string ⟨#[]⟩,.bool false]):=fun hc=>by unfold YJ;rw[TS b s hc]
   have l:Hid (∀ d,zQ u ts[k]=some d->zM v (ts.take (k+1))=some d/\zF d/\zy d=false/\(ct d).length<=1000000):=fun d hc=>by
    obtain⟨c1,c2,c3,_⟩:=FF hc L A;exact⟨by rw[P9 b s];exact hc,c1,c2,by omega⟩
   have n:Hid (∀ w,Calls prog 47 #[.string (ze (ct u))] w fun e w'=>∃ r,e= .returned r/\PR w' w.heap.size r (zm u)/\Bw w w'):=fun w=>uh m u w L y;generalize ze (ct u)=Y at *;generalize ze ts[k]=st at *;clear s E C i m x;go_wp2_with fail;refine (uh G).mono ?_;rintro e w1 ⟨J,⟨rfl,p⟩ |⟨j,W,d,rfl,q,z,-⟩⟩
   ·have I:=zb (uh o p);have B:=zh (uh F) J;clear G o l n f p;go_wp2;go_ret2;exact⟨by rw[uh I];rfl,B⟩
   ·obtain⟨P,Q,R,S⟩:=uh l d q;have B:=zb (zh (uh F) J);have D:=zb (⟨P,Q,R,S⟩:zM v (ts.take (k+1))=some d/\zF d/\zy d=false/\(ct d).length<=1000000);have tj:¬ (j:Int)<0:=by omega
    clear G o l f q P Q R S J;go_wp2_with fail;refine (uh n _).mono ?_;rintro e w2 ⟨r2,rfl,T,M⟩;obtain⟨Z,N,V,_,_,c0,c1⟩:=T.cells j W;subst V;rw[z]at c1;have X:(j:Int)<((zm u).length:Int):=by omega
    have U:=zb (zh (uh B) M);clear n T M B c0 z;generalize (zm u).length=pl at *;go_wp2;go_roundw
    case rel=>exact⟨k+1,d,by omega,by go_num,rfl,(uh D).1,(uh D).2.1,(uh D).2.2.1,(uh D).2.2.2,uh U⟩
    case measure=>simp[intOf];omega
  ·have e:ts.take k=ts:=yq (by omega);rw[e]at C;have I:Hid (YJ v ts= .tuple #[.string (ze (ct u)),.bool true]):=by show _=_;unfold YJ;rw[uh C]
   generalize ze (ct u)=Y at *;clear s E C i m e;go_wp2;go_ret2;exact⟨by rw[uh I];rfl,uh F⟩
theorem Ah{ps:List (List UInt8)}:∀ {ts:List (List UInt8)},ps.mapM zJ=some ts->∀ t∈ts,∃ p∈ps,zJ p=some t:=by
 induction ps with
 | nil=>intro ts h t a;simp at h;subst h;simp at a
 | cons p ps ih=>
  intro ts h t a;rw[Xv]at h
  cases hu:zJ p with
  | none=>rw[hu]at h;simp at h
  | some q=>
   cases hm:List.mapM zJ ps with
   | none=>rw[hu,hm]at h;simp at h
   | some us=>
    rw[hu,hm]at h;simp at h;subst h;rcases List.mem_cons.1 a with rfl | a
    ·exact⟨p,yp,hu⟩
    ·obtain⟨f,b,d⟩:=ih hm t a;exact⟨f,yv _ b,d⟩
theorem Ai:∀ (n:Nat) (p t:List UInt8),p.length<=n->zJ p=some t->t.length<=p.length:=by
 intro n;induction n with
 | zero=>intro p t b h;obtain rfl:=yN (Nat.le_zero.1 b);simp[zJ]at h;subst h;simp
 | succ n ih=>
  intro p t b h
  cases p with
  | nil=>simp[zJ]at h;subst h;simp
  | cons c r=>
   have fin:∀ (r':List UInt8) (x:List UInt8),r'.length<=r.length->x.length=1->(zJ r').map (x++·)=some t->t.length<=(c :: r).length:=fun r' x hr hx hm=>by
    cases hu:zJ r' with
    | none=>rw[hu]at hm;simp at hm
    | some u=>
     rw[hu]at hm;simp at hm;have:=ih r' u (by simp at b;omega) hu;rw[← hm];simp;omega
   by_cases a:(c.toNat:Int)=126
   ·cases r with
    | nil=>rw[UO a]at h;cases h
    | cons d r=>
     by_cases f:(d.toNat:Int)=48
     ·rw[WO r a f]at h;exact fin r [126] (by simp) rfl h
     ·by_cases g:(d.toNat:Int)=49
      ·rw[WP r a g]at h;exact fin r [47] (by simp) rfl h
      ·rw[UP r a f g]at h;cases h
   ·rw[WN r a]at h;exact fin r [c] (ye _) rfl h
theorem ST{l:List UInt8}{ts:List (List UInt8)}(h:zG l=some ts):∀ t∈ts,t.length<=l.length:=by
 intro t a
 cases l with
 | nil=>simp[zG]at h;subst h;simp at a
 | cons c r=>
  rw[zG]at h;split at h
  ·unfold QB at h;obtain⟨p,b,d⟩:=Ah h t a;have f:=Ai _ p t (ye _) d;have g:=OE r p b;simp;omega
  ·cases h
def qi(ps:List zK)(p:Nat)(dr pu:Bool)(q:zK)(i:Nat):List zK:=
 (if i=p/\pu=true then [q]else [])++(if h:i<ps.length then (if i≠p∨dr=false then [ps[i]]else [])else [])
def Zo(ps:List zK)(p:Nat)(dr pu:Bool)(q:zK)(k:Nat):List zK:=(List.range k).flatMap (qi ps p dr pu q)
theorem Jp(ps:List zK)(p:Nat)(dr pu:Bool)(q:zK)(k:Nat):Zo ps p dr pu q (k+1)=Zo ps p dr pu q k++qi ps p dr pu q k:=by
 unfold Zo;rw[List.range_succ,List.flatMap_append,List.flatMap_singleton]
theorem Aj(ps:List zK)(p:Nat)(dr pu:Bool)(q:zK)(i:Nat):(qi ps p dr pu q i).length<=2:=by
 unfold qi;rw[yh]
 repeat' split
 all_goals simp
theorem OO(ps:List zK)(p:Nat)(dr pu:Bool)(q:zK):∀ k,(Zo ps p dr pu q k).length<=2*k
 | 0=>by simp[Zo]
 | k+1=>by
  rw[Jp,yh];have:=OO ps p dr pu q k;have:=Aj ps p dr pu q k;omega
theorem OP{v:JV}(h:zF v):0<(ze (ct v)).size:=by
 obtain⟨c,r,e,_⟩:=KO h;rw[Zw,e];simp
def YK(v:JV)(ps:List zK):List UInt8:=if kd v=5 then qg (ps.map (·.2))else qX (zH ps)
theorem Ak{v:JV}(h:zF v)(h0:0<(ze (ct v)).size):((((ze (ct v))[0]).toNat:Int) ==91)=(kd v ==5):=by
 obtain⟨c,r,e,f⟩:=KO h;have d:((ze (ct v))[0]).toNat=c.toNat:=by
  rw[← Zr _ 0 h0,e];exact (GI (c:=c) (r:=r)).2
 rw[d,← f];unfold fb;by_cases b:c.toNat=91
 ·rw[b];rfl
 ·have a:((c.toNat:Int) ==91)=false:=by rw[yd];omega
  rw[a];symm;rw[yd]
  repeat (first |(split;omega) | split)
  all_goals omega
theorem OQ (v:JV) (hok:zF v) (hl:(ct v).length<=1000000) (p:Nat) (dr pu:Bool) (q:zK) (w:Wo) (hp:p<=1000000)
  (hA:QA (Zo (zm v) p dr pu q ((zm v).length+1))<=40000000) (hT:Zd (zH (Zo (zm v) p dr pu q ((zm v).length+1)))<=40000000) (hk:∀ x∈zH (Zo (zm v) p dr pu q ((zm v).length+1)),x.1.length<=1048576):
  Calls prog 123 #[.string (ze (ct v)),.int .i64 (p:Int),.bool dr,.bool pu,.agg #[.string (ze q.1),.string (ze q.2)]] w fun e w'=>e= .returned (.string (ze (YK v (Zo (zm v) p dr pu q ((zm v).length+1)))))/\Bw w w':=by
 obtain⟨i0,F,G,H,I⟩:=info_parts KG;have hpl:=W9 hok hl;have h0:0<(ze (ct v)).size:=OP hok;have h0I:(0:Int)<((ze (ct v)).size:Int):=by omega
 have L:=Ak hok h0;have kA:=yG w (.cells #[.string (ze q.1),.string (ze q.2)] 99);have bA:=QF w (.cells #[.string (ze q.1),.string (ze q.2)] 99);have zA:(w.alloc (.cells #[.string (ze q.1),.string (ze q.2)] 99)).heap.size=w.heap.size+1:=by simp
 have HP:=zb (UW v hok (w.alloc (.cells #[.string (ze q.1),.string (ze q.2)] 99)) hl);have HKA:=zb kA;have HBA:=zb bA;have HZA:=zb zA;have hwl:=OO (zm v) p dr pu q ((zm v).length+1);have P:Hid (∀ (r:Value) (B:Nat) (wx:Wo),PR wx B r (Zo (zm v) p dr pu q ((zm v).length+1))->Calls prog 152 #[r] wx (Rb (.string (ze (qg ((Zo (zm v) p dr pu q ((zm v).length+1)).map (·.2))))) wx)):=fun r B wx h=>zgA B r _ wx h hA (by omega);have U:Hid (∀ (r:Value) (B:Nat) (wx:Wo),PR wx B r (Zo (zm v) p dr pu q ((zm v).length+1))->Calls prog 146 #[r] wx fun e w'=>∃ v',e= .returned v'/\PR w' wx.heap.size v' (zH (Zo (zm v) p dr pu q ((zm v).length+1)))/\Bw wx w'):=fun r B wx h=>Tq B r _ wx h (by omega);have hil:(zH (Zo (zm v) p dr pu q ((zm v).length+1))).length<=40000000:=by rw[(qL _).length_eq];omega
 have Q:Hid (∀ (r:Value) (B:Nat) (wx:Wo),PR wx B r (zH (Zo (zm v) p dr pu q ((zm v).length+1)))->Calls prog 145 #[r] wx (Rb (.string (ze (qX (zH (Zo (zm v) p dr pu q ((zm v).length+1)))))) wx)):=fun r B wx h=>Cz B r _ wx h hT hil hk;have N:Hid (kd v=5->YK v (Zo (zm v) p dr pu q ((zm v).length+1))=qg ((Zo (zm v) p dr pu q ((zm v).length+1)).map (·.2))):=fun h=>by unfold YK;rw[yg h]
 have O:Hid (¬ kd v=5->YK v (Zo (zm v) p dr pu q ((zm v).length+1))=qX (zH (Zo (zm v) p dr pu q ((zm v).length+1)))):=fun h=>by unfold YK;rw[yf h]
 clear kA bA zA hA hT hk hok hl hil hwl;generalize kd v=K at *;generalize YK v (Zo (zm v) p dr pu q ((zm v).length+1))=R at *;generalize zm v=a at *;generalize ze (ct v)=T at *;go_in;go_wp2_with fail;refine (uh HP).mono ?_;rintro e l ⟨r1,rfl,p1,b1⟩;have hB1:=zh (uh HBA) b1;have HB1:=zb hB1;have hz1w:w.heap.size<l.heap.size:=by have:=b1.size;have:=uh HZA;omega
 have HKQ:Hid (∀ wx,Bw l wx->wx.cell? ⟨w.heap.size,0,none⟩=some (.string (ze q.1))/\wx.cell? ⟨w.heap.size,1,none⟩=some (.string (ze q.2))):=fun wx hx=>by
  have k:=(hx.block w.heap.size hz1w).trans ((b1.block w.heap.size (by have:=uh HZA;omega)).trans (uh HKA));exact⟨yF k 0,yF k 1⟩
 have S:Hid (∀ k (hk:k<a.length) wx,Bw l wx->∃ g,r1.ownBlock=some g/\(∃ E,r1= .slice (some ⟨g,0,none⟩) a.length E)/\wx.cell? ⟨g,k*2,none⟩=some (.string (ze a[k].1))/\wx.cell? ⟨g,k*2+1,none⟩=some (.string (ze a[k].2))):=fun k hk wx hx=>by
  obtain⟨g,E,hv,_,_,c0,c1⟩:=(PR.below p1 hx).cells k hk;exact⟨g,by rw[hv];rfl,⟨E,hv⟩,c0,c1⟩
 obtain⟨xa,xc,rfl⟩:=PR.shape p1;clear HP b1 p1 hB1 HBA HKA;go_wp2;have HO0:Hid ((l.alloc (.cells #[] 99)).ownsRow l.heap.size 99 2 (.slice (some ⟨l.heap.size,0,none⟩) 0 0) 0 []):=World.ownsRow_lit l #[] 0 (ye _) (by unfold maxLen;omega) rfl;have HB0:Hid (Bw l (l.alloc (.cells #[] 99))):=QF l _;go_loopw [12,13] (fun r i wr=>∃ k:Nat,k<=a.length+1/\i= .int .i64 (k:Int)/\wr.ownsRow l.heap.size 99 2 r (Zo a p dr pu q k).length ((Zo a p dr pu q k).flatMap ZQ)/\Bw l wr) (fun _ i _=>a.length+1 - (intOf i).toNat)
 case atStart=>exact⟨0,yt _,rfl,uh HO0,uh HB0⟩
 case round=>
  obtain⟨k,hk,rfl,o,W⟩:=hrel;clear HO0 HB0;have f:=zb W;have hal:=OO a p dr pu q k;have hbz:=W.size;by_cases hle:k<=a.length
  ·have hleI:(k:Int)<=(a.length:Int):=by omega
   have z:(Zo a p dr pu q k).length<=2000002:=by omega
   clear P U Q N O;clear hal;by_cases M:k=p
   ·subst M;have tkp:((k:Int) ==(k:Int))=true:=by simp
    have tkn:((k:Int) !=(k:Int))=false:=by simp
    obtain⟨c0,c1⟩:=uh HKQ wr W
    cases pu with
    | true=>
     by_cases n:k<a.length
     ·have C:(k:Int)<(a.length:Int):=by omega
      cases dr with
      | true=>
       have b:Hid (qi a k true true q k=[q]):=by show _=_;unfold qi;simp[n]
       obtain⟨A,j⟩:∃ A,Zo a k true true q k=A:=⟨_,rfl⟩;rw[j]at o z;have s:=zb j;clear j;go_wp2_with (at_builtin;refine wpList_append_own _ rfl (.tmp 29) (.tmp 31) 92 rfl l.heap.size 99 i0 (.agg #[.string ByteArray.empty,.string ByteArray.empty]) 2 32 underlying92 F G H I rfl (by decide) _ _ _ rfl (o.alloc _) ⟨wr.heap.size,0,none⟩ 1 1 (ZQ q) rfl rfl (Vm _ _ _ _) (fun u hu=>by {simp[ZQ]at hu;rcases hu with rfl | rfl<;>rfl}) (by unfold maxLen;omega) (by omega) (by simp;omega) ?_);intro V J d m _;have y:J.ownsRow l.heap.size 99 2 V (A++[q]).length ((A++[q]).flatMap ZQ):=by rw[yh,List.flatMap_append,List.flatMap_singleton];exact d
       have D:=zb (((uh f).alloc (uh f).size _).grown m (by simp;have:=(uh f).size;omega) (fun k hk=>(o.lt k hk).1));clear d m;clear o c0 c1;go_wp2;go_roundw
       case rel=>exact⟨k+1,by omega,by go_num,by rw[Jp,uh b,uh s];exact y,uh D⟩
       case measure=>simp[intOf];omega
      | false=>
       have b:Hid (qi a k false true q k=[q]++[a[k]]):=by show _=_;unfold qi;simp[n]
       obtain⟨g,-,⟨E,e⟩,-,-⟩:=uh S k n wr W;injection e with e1 e2 e3;subst e1;subst e3;obtain⟨A,j⟩:∃ A,Zo a k false true q k=A:=⟨_,rfl⟩;rw[j]at o z;have s:=zb j;clear j;go_wp2_with (at_builtin;refine wpList_append_own _ rfl (.tmp 29) (.tmp 31) 92 rfl l.heap.size 99 i0 (.agg #[.string ByteArray.empty,.string ByteArray.empty]) 2 32 underlying92 F G H I rfl (by decide) _ _ _ rfl (o.alloc _) ⟨wr.heap.size,0,none⟩ 1 1 (ZQ q) rfl rfl (Vm _ _ _ _) (fun u hu=>by {simp[ZQ]at hu;rcases hu with rfl | rfl<;>rfl}) (by unfold maxLen;omega) (by omega) (by simp;omega) ?_);intro V J d m _;have y:J.ownsRow l.heap.size 99 2 V (A++[q]).length ((A++[q]).flatMap ZQ):=by rw[yh,List.flatMap_append,List.flatMap_singleton];exact d
       have D:=zb (((uh f).alloc (uh f).size _).grown m (by simp;have:=(uh f).size;omega) (fun k hk=>(o.lt k hk).1));clear d m;obtain⟨g',eg,-,d0,d1⟩:=uh S k n J (uh D);injection eg with eg;subst eg;have hal5:(A++[q]).length<=2000003:=by rw[yh];simp;omega
       obtain⟨A2,Z⟩:∃ A2,A++[q]=A2:=⟨_,rfl⟩;rw[Z]at y hal5;have HA2E:=zb Z;have hz5w:=(uh D).size;clear Z;clear o c0 c1;go_wp2_with (at_builtin;refine wpList_append_own _ rfl (.tmp 46) (.tmp 51) 92 rfl l.heap.size 99 i0 (.agg #[.string ByteArray.empty,.string ByteArray.empty]) 2 32 underlying92 F G H I rfl (by decide) _ _ _ rfl (y.alloc _) ⟨J.heap.size,0,none⟩ 1 1 (ZQ a[k]) rfl rfl (Vm _ _ _ _) (fun u hu=>by {simp[ZQ]at hu;rcases hu with rfl | rfl<;>rfl}) (by unfold maxLen;omega) (by omega) (by simp;omega) ?_);intro v7 w7 X hg7 _;have P7:w7.ownsRow l.heap.size 99 2 v7 (A2++[a[k]]).length ((A2++[a[k]]).flatMap ZQ):=by rw[yh,List.flatMap_append,List.flatMap_singleton];exact X
       have B7:=zb (((uh D).alloc (uh D).size _).grown hg7 (by simp;have:=(uh D).size;omega) (fun k hk=>(y.lt k hk).1));clear X hg7;clear y d0 d1;go_wp2;go_roundw
       case rel=>exact⟨k+1,by omega,by go_num,by rw[Jp,uh b,← List.append_assoc,uh s,uh HA2E];exact P7,uh B7⟩
       case measure=>simp[intOf];omega
     ·have C:¬ (k:Int)<(a.length:Int):=by omega
      have b:Hid (qi a k dr true q k=[q]):=by show _=_;unfold qi;simp[n]
      obtain⟨A,j⟩:∃ A,Zo a k dr true q k=A:=⟨_,rfl⟩;rw[j]at o z;have s:=zb j;clear j;go_wp2_with (at_builtin;refine wpList_append_own _ rfl (.tmp 29) (.tmp 31) 92 rfl l.heap.size 99 i0 (.agg #[.string ByteArray.empty,.string ByteArray.empty]) 2 32 underlying92 F G H I rfl (by decide) _ _ _ rfl (o.alloc _) ⟨wr.heap.size,0,none⟩ 1 1 (ZQ q) rfl rfl (Vm _ _ _ _) (fun u hu=>by {simp[ZQ]at hu;rcases hu with rfl | rfl<;>rfl}) (by unfold maxLen;omega) (by omega) (by simp;omega) ?_);intro V J d m _;have y:J.ownsRow l.heap.size 99 2 V (A++[q]).length ((A++[q]).flatMap ZQ):=by rw[yh,List.flatMap_append,List.flatMap_singleton];exact d
      have D:=zb (((uh f).alloc (uh f).size _).grown m (by simp;have:=(uh f).size;omega) (fun k hk=>(o.lt k hk).1));clear d m;clear o c0 c1;go_wp2;go_roundw
      case rel=>exact⟨k+1,by omega,by go_num,by rw[Jp,uh b,uh s];exact y,uh D⟩
      case measure=>simp[intOf];omega
    | false=>
     clear c0 c1;by_cases n:k<a.length
     ·have C:(k:Int)<(a.length:Int):=by omega
      cases dr with
      | true=>
       have b:Hid (qi a k true false q k=[]):=by show _=_;unfold qi;simp[n]
       have y:wr.ownsRow l.heap.size 99 2 u12 (Zo a k true false q k++[]).length ((Zo a k true false q k++[]).flatMap ZQ):=by rw[yS];exact o
       go_wp2;go_roundw
       case rel=>exact⟨k+1,by omega,by go_num,by rw[Jp,uh b];exact y,uh f⟩
       case measure=>simp[intOf];omega
      | false=>
       have b:Hid (qi a k false false q k=[a[k]]):=by show _=_;unfold qi;simp[n]
       obtain⟨g,-,⟨E,e⟩,d0,d1⟩:=uh S k n wr W;injection e with e1 e2 e3;subst e1;subst e3;obtain⟨A,j⟩:∃ A,Zo a k false false q k=A:=⟨_,rfl⟩;rw[j]at o z;have s:=zb j;clear j;go_wp2_with (at_builtin;refine wpList_append_own _ rfl (.tmp 46) (.tmp 51) 92 rfl l.heap.size 99 i0 (.agg #[.string ByteArray.empty,.string ByteArray.empty]) 2 32 underlying92 F G H I rfl (by decide) _ _ _ rfl (o.alloc _) ⟨wr.heap.size,0,none⟩ 1 1 (ZQ a[k]) rfl rfl (Vm _ _ _ _) (fun u hu=>by {simp[ZQ]at hu;rcases hu with rfl | rfl<;>rfl}) (by unfold maxLen;omega) (by omega) (by simp;omega) ?_);intro V J d m _;have y:J.ownsRow l.heap.size 99 2 V (A++[a[k]]).length ((A++[a[k]]).flatMap ZQ):=by rw[yh,List.flatMap_append,List.flatMap_singleton];exact d
       have D:=zb (((uh f).alloc (uh f).size _).grown m (by simp;have:=(uh f).size;omega) (fun k hk=>(o.lt k hk).1));clear d m;clear o d0 d1;go_wp2;go_roundw
       case rel=>exact⟨k+1,by omega,by go_num,by rw[Jp,uh b,uh s];exact y,uh D⟩
       case measure=>simp[intOf];omega
     ·have C:¬ (k:Int)<(a.length:Int):=by omega
      have b:Hid (qi a k dr false q k=[]):=by show _=_;unfold qi;simp[n]
      have y:wr.ownsRow l.heap.size 99 2 u12 (Zo a k dr false q k++[]).length ((Zo a k dr false q k++[]).flatMap ZQ):=by rw[yS];exact o
      go_wp2;go_roundw
      case rel=>exact⟨k+1,by omega,by go_num,by rw[Jp,uh b];exact y,uh f⟩
      case measure=>simp[intOf];omega
   ·have tkp:((k:Int) ==(p:Int))=false:=by rw[yd];omega
    have tkn:((k:Int) !=(p:Int))=true:=by simp;omega
    by_cases n:k<a.length
    ·have C:(k:Int)<(a.length:Int):=by omega
     have b:Hid (qi a p dr pu q k=[a[k]]):=by show _=_;unfold qi;simp[n,M]
     obtain⟨g,-,⟨E,e⟩,d0,d1⟩:=uh S k n wr W;injection e with e1 e2 e3;subst e1;subst e3;clear M;obtain⟨A,j⟩:∃ A,Zo a p dr pu q k=A:=⟨_,rfl⟩;rw[j]at o z;have s:=zb j;clear j;go_wp2_with (at_builtin;refine wpList_append_own _ rfl (.tmp 46) (.tmp 51) 92 rfl l.heap.size 99 i0 (.agg #[.string ByteArray.empty,.string ByteArray.empty]) 2 32 underlying92 F G H I rfl (by decide) _ _ _ rfl (o.alloc _) ⟨wr.heap.size,0,none⟩ 1 1 (ZQ a[k]) rfl rfl (Vm _ _ _ _) (fun u hu=>by {simp[ZQ]at hu;rcases hu with rfl | rfl<;>rfl}) (by unfold maxLen;omega) (by omega) (by simp;omega) ?_);intro V J d m _;have y:J.ownsRow l.heap.size 99 2 V (A++[a[k]]).length ((A++[a[k]]).flatMap ZQ):=by rw[yh,List.flatMap_append,List.flatMap_singleton];exact d
     have D:=zb (((uh f).alloc (uh f).size _).grown m (by simp;have:=(uh f).size;omega) (fun k hk=>(o.lt k hk).1));clear d m;clear o d0 d1;go_wp2;go_roundw
     case rel=>exact⟨k+1,by omega,by go_num,by rw[Jp,uh b,uh s];exact y,uh D⟩
     case measure=>simp[intOf];omega
    ·have C:¬ (k:Int)<(a.length:Int):=by omega
     have b:Hid (qi a p dr pu q k=[]):=by show _=_;unfold qi;simp[n,M]
     have y:wr.ownsRow l.heap.size 99 2 u12 (Zo a p dr pu q k++[]).length ((Zo a p dr pu q k++[]).flatMap ZQ):=by rw[yS];exact o
     clear M;go_wp2;go_roundw
     case rel=>exact⟨k+1,by omega,by go_num,by rw[Jp,uh b];exact y,uh f⟩
     case measure=>simp[intOf];omega
  ·have hleI:¬ (k:Int)<=(a.length:Int):=by omega
   have hkn:k=a.length+1:=by omega
   subst hkn;have HBF:=zb (zh (uh HB1) (uh f));by_cases h5:K=5
   ·have HM:=zb (uh P u12 _ wr o);have HE:=zb (uh N h5);rw[h5]at L;have hfk':(((T[0]).toNat:Int) ==91)=true:=L;clear P U Q N O L h5 o W;go_wp2_with fail;refine (uh HM).mono ?_;rintro e w4 ⟨rfl,b4⟩;have Y:=zb (zh (uh HBF) b4);clear HM b4;go_wp2;go_ret;exact⟨by rw[uh HE];rfl,uh Y⟩
   ·have HS:=zb (uh U u12 _ wr o);have HE:=zb (uh O h5);have hfk':(((T[0]).toNat:Int) ==91)=false:=by rw[L];simp[h5]
    clear P U N O L h5 o W;go_wp2_with fail;refine (uh HS).mono ?_;rintro e w4 ⟨r4,rfl,p4,b4⟩;have HM:=zb (uh Q r4 _ w4 p4);have Y:=zb (zh (uh HBF) b4);clear HS Q p4 b4;go_wp2_with fail;refine (uh HM).mono ?_;rintro e J ⟨rfl,b5⟩;have HB5:=zb (zh (uh Y) b5);clear HM b5;go_wp2;go_ret;exact⟨by rw[uh HE];rfl,uh HB5⟩
theorem Al(s:Bs)(w:Wo)(hs:s.size<=10000000):
  Calls prog 100 #[.iface 229 (.string s)] w fun e w'=>e= .returned (.string (ze (34 ::(rs s++[34]))))/\Bw w w':=by
 have a:=zb (OH w.heap.size w.heap.size [] s (w.alloc (.cells #[.pointer none,.slice none 0 0] 192)) (Lib.fresh_isBuilder _ _ w) (by simp) (by simp) hs);rw[List.nil_append]at a;go_in;go_wp2_with fail;refine (uh a).mono ?_;rintro e h ⟨rfl,g,f,_⟩;have d:Bw w h:=((yH _ _).alloc (ye _) _).trans f;have b:=d.size;have j:=zb (UU w.heap.size w.heap.size (34 ::(rs s++[34])) h g b);clear g f a;go_wp2_with fail;refine (uh j).mono ?_;rintro e l ⟨rfl,k⟩;have i:=d.trans k;go_wp2;go_ret;exact⟨rfl,i⟩
def ZY(ts:List (List UInt8)):List UInt8:=ts.flatMap fun t=>47 :: Zq t
def Q9(ts:List (List UInt8)):Nat:=(ts.map List.length).sum
theorem UX(ts:List (List UInt8))(k:List UInt8):Q9 (ts++[k])=Q9 ts+k.length:=by simp[Q9]
theorem Wf(ts:List (List UInt8)):qI (ts.map zz)=ZY ts:=by
 induction ts with
 | nil=>rfl
 | cons t r ih=>
  have e:(zz t).data.toList=t:=by simp[zz]
  rw[yi];show 47 :: Zq (zz t).data.toList++qI (r.map zz)=47 :: Zq t++ZY r
  rw[ih,e]
theorem UY(ts:List (List UInt8)):qh (ts.map zz)=Q9 ts:=by
 unfold qh Q9;rw[List.map_map];congr 1
theorem SU{B:Nat}(v:Value)(ts:List (List UInt8))(w:Wo)(h:OT w B v ts)(hm:ts.length+Q9 ts<=1048576):
  Calls prog 68 #[v] w fun e w'=>e= .returned (.string (ze (ZY ts)))/\Bw w w':=by
 obtain⟨a,g,b,rfl,d,_⟩:=h.shape;have e:ts.length=(ts.map zz).length:=by simp
 have:=OA a g 0 b (ts.map zz) w d (by rw[UY,← e];exact hm);rw[← e,Wf]at this;exact this
theorem Am{w:Wo}{B:Nat}{v:Value}{ts:List (List UInt8)}(h:OT w B v ts):(v= .slice none 0 0/\ts=[])∨∃ g cap,v= .slice (some ⟨g,0,none⟩) ts.length cap/\(∀ j u,(ts.map Qp)[j]?=some u->w.cell? ((⟨g,0,none⟩:Addr).add j)=some u):=by
 rcases h.2 with ⟨a,d⟩ |⟨g,cap,b,a,_⟩
 ·exact .inl ⟨a,yN d⟩
 ·refine .inr ⟨g,cap,a,fun j u hj=>?_⟩;subst a;exact World.ownsRow.cells h rfl j u hj
theorem An {w:Wo} {ops:Array Oper} {rest:List Oper} {o:Oper} {a:Act} {Q:Exit->Act->Wo->Prop} (hg:o.guard=none) (s x:Operand)
  (ho:o.op= .call {callee:=.builtin .append,args:=#[s,x],argTypes:=#[55,55]}) {B B':Nat} {v u:Value} {ts us:List (List UInt8)} (hs:a.eval s=v) (hx:a.eval x=u)
  (h:OT w B v ts) (k:OT w B' u us) (hB:B<=w.heap.size) (hl:ts.length+us.length<=1000000)
  (hK:∀ v' w',OT w' B v' (ts++us)->w.grownBy w' v.ownBlock->wpList prog ops Q rest (a.put o.dst v') w'):wpList prog ops Q (o :: rest) a w:=by
 obtain⟨m,l,f,i,j⟩:=info_parts G1;rcases Am k with ⟨rfl,rfl⟩ |⟨g,d,rfl,b⟩
 ·refine wpList_append_own_none hg s x 55 ho B 9 m 1 underlying55 l v _ _ hs h hx ?_;exact hK v w (by rw[yS];exact h) (World.grownBy.refl _ _)
 ·refine wpList_append_own _ hg s x 55 ho B 9 m (.string ByteArray.empty) 1 16 underlying55 l f i j rfl (by decide) v _ _ hs h ⟨g,0,none⟩ us.length d (us.map Qp) hx (by simp) b (FK us) (by unfold maxLen;omega) (by omega) hB ?_;intro v' w' n p _;exact hK v' w' (by unfold OT;rw[yh,yw];exact n) p
end Go.Proofs.YtekpghcckdjnhaaGreatDoor
