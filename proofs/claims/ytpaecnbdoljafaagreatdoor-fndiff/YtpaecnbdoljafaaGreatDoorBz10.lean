import Derived.Test.YtpaecnbdoljafaaGreatDoorBz6
import Derived.Test.YtpaecnbdoljafaaGreatDoorBz9
set_option maxRecDepth 100000
set_option maxHeartbeats 8000000
namespace Go.Proofs.YtpaecnbdoljafaaGreatDoor
open Go.RowKit Go.Proofs.Tryz
theorem XQ{ts:List (List UInt8)}{j:Nat}(h:j<ts.length):(ts.map zH).getD j ByteArray.empty=zH (ts.getD j []):=by simp[h]
def Wp(ps:List zL)(key:List UInt8)(e:Ending):Prop:=(e= .returned (.int .i64 (-1))/\∀ j (hj:j<ps.length),ps[j].1≠key)∨∃ (j:Nat) (hj:j<ps.length),e= .returned (.int .i64 (j:Int))/\ps[j].1=key
theorem Wp.no{ps:List zL}{key:List UInt8}{e:Ending}(h:e= .returned (.int .i64 (-1)))(k:∀ j (hj:j<ps.length),ps[j].1≠key):Wp ps key e:=Or.inl ⟨h,k⟩
theorem Wp.yes{ps:List zL}{key:List UInt8}{e:Ending}{j:Nat}(hj:j<ps.length)(h:e= .returned (.int .i64 (j:Int)))(k:ps[j].1=key):Wp ps key e:=Or.inr ⟨j,hj,h,k⟩
def J7(v:JV)(t:List UInt8)(e:Ending):Prop:=(e= .returned (.int .i64 (-1))/\zn v t=none)∨∃ (j:Nat) (hj:j<(zt v).length) (u:JV),e= .returned (.int .i64 (j:Int))/\zn v t=some u/\(zt v)[j].2=ct u/\(zt v)[j].1=t
theorem J7.no{v:JV}{t:List UInt8}{e:Ending}(h:e= .returned (.int .i64 (-1)))(k:zn v t=none):J7 v t e:=Or.inl ⟨h,k⟩
theorem J7.yes{v u:JV}{t:List UInt8}{e:Ending}{j:Nat}(hj:j<(zt v).length)(h:e= .returned (.int .i64 (j:Int)))(k:zn v t=some u/\(zt v)[j].2=ct u/\(zt v)[j].1=t):J7 v t e:=Or.inr ⟨j,hj,u,h,k.1,k.2.1,k.2.2⟩
theorem DZ(B:Nat)(v:Value)(ps:List zL)(key:List UInt8)(w:Wo)(h:PR w B v ps)(hn:ps.length<=40000000):
  Calls prog 115 #[v,.string (zh key)] w fun e w'=>w=w'/\Wp ps key e:=by
 obtain⟨x,len,a,rfl,m⟩:∃ x len a,v= .slice x len a/\len=ps.length:=by
  rcases h.2 with ⟨p,z⟩ |⟨g,a,y,p,_⟩
  ·exact⟨_,_,_,p,z.symm⟩
  ·exact⟨_,_,_,p,rfl⟩
 subst m;have s:=ze h;clear h;go_in;go_wp2_with fail;go_loopw [5] (fun k wr=>w=wr/\∃ j:Nat,k= .int .i64 (j:Int)/\j<=ps.length/\∀ i (hi:i<ps.length),i<j->ps[i].1≠key) (fun k _=>ps.length - (intOf k).toNat)
 case atStart=>exact⟨rfl,0,rfl,yu _,fun i _ hi=>by omega⟩
 case round=>
  obtain⟨rfl,j,rfl,F,n⟩:=hrel;have d:=ze n;clear n;by_cases l:j<ps.length
  ·have D:((j:Int)<(ps.length:Int))=True:=eq_true (by omega);obtain⟨g,q,A,E,C,c0,c1⟩:=(uh s).cells j l;injection A with he1 he2 he3;subst he1;subst he3;have f:=Fm ps[j].1 key;by_cases b:ps[j].1=key
   ·have o:(ps[j].1 ==key)=true:=by rw[yD];exact b
    have r:=ze b;rw[o]at f;clear b o;go_wp2;go_ret;exact⟨rfl,Wp.yes l rfl (uh r)⟩
   ·have o:(ps[j].1 ==key)=false:=by rw[yd];exact b
    have u:Hid (∀ i (hi:i<ps.length),i<j+1->ps[i].1≠key):=fun i hi hij=>by
     by_cases e:i=j
     ·subst e;exact b
     ·exact uh d i hi (by omega)
    rw[o]at f;clear b o;go_wp2;go_roundw
    case rel=>exact⟨trivial,j+1,by go_num,by omega,uh u⟩
    case measure=>simp[intOf];omega
  ·have D:((j:Int)<(ps.length:Int))=False:=yR (by omega);go_wp2;go_ret;exact⟨rfl,Wp.no rfl (fun i hi=>uh d i hi (by omega))⟩
theorem Wq(v:JV)(hok:zD v)(w:Wo)(hl:(ct v).length<=1000000):
  Calls prog 74 #[.string (zh (ct v))] w fun e w'=>∃ r,e= .returned r/\PR w' w.heap.size r (zt v)/\Bw w w':=by
 have leaf:∀ (c:UInt8) (r:List UInt8),ct v=c :: r->c.toNat≠91->c.toNat≠123->zt v=[]->Calls prog 74 #[.string (zh (ct v))] w fun e w'=>∃ r,e= .returned r/\PR w' w.heap.size r (zt v)/\Bw w w':=fun c r hc h1 h2 d=>by
  rw[d,hc];obtain⟨a,b⟩:=GJ (c:=c) (r:=r);exact Ty _ w a (by rw[b];exact h1) (by rw[b];exact h2)
 cases v with
 | arr l=>rw[zD]at hok;exact Tz l hok w (by rw[zN];exact hl)
 | obj m=>rw[zD]at hok;exact TA m hok w (by rw[zN];exact hl)
 | nul=>exact leaf 110 _ rfl (by decide) (by decide) rfl
 | tt=>exact leaf 116 _ rfl (by decide) (by decide) rfl
 | ff=>exact leaf 102 _ rfl (by decide) (by decide) rfl
 | num l=>
  have d:=UL hok
  cases l with
  | nil=>exact absurd rfl d.1
  | cons c r=>
   have:=(d.2 c yq).1;exact leaf c r rfl this.2.1 this.2.2.1 rfl
 | str l=>exact leaf 34 (qs l++[34]) rfl (by decide) (by decide) rfl
theorem Wr{v:JV}(hok:zD v)(hl:(ct v).length<=1000000):(zt v).length<=1000000:=by
 cases v with
 | arr l=>
  show (qP 0 (zF l)).length<=_
  rw[GF];have:(zh (ct (.arr l))).data.toList=91 ::(joinC (zF l)++[93]):=by rw[Za];rfl
  have:=Rt this;rw[zN]at this;omega
 | obj m=>
  show (zJ (zl m)).length<=_
  have:(zh (ct (.obj m))).data.toList=123 ::(joinC ((zJ (zl m)).map zz)++[125]):=by rw[Za];rfl
  have:=Rt this;rw[zN,yl]at this;omega
 | nul=>simp[zt]
 | tt=>simp[zt]
 | ff=>simp[zt]
 | num l=>simp[zt]
 | str l=>simp[zt]
theorem Nx(v:JV)(hok:zD v)(htw:zw v=false)(t:List UInt8)(ht:t.length<=1048576)(w:Wo)(hl:(ct v).length<=1000000):
  Calls prog 151 #[.string (zh (ct v)),.string (zh t)] w fun e w'=>Bw w w'/\J7 v t e:=by
 have B:Hid (∀ w,Calls prog 74 #[.string (zh (ct v))] w fun e w'=>∃ r,e= .returned r/\PR w' w.heap.size r (zt v)/\Bw w w'):=fun w=>Wq v hok w hl;have s:Hid (∀ w,Calls prog 154 #[.string (zh t)] w (Rk (.int .i64 (J2 t)) w)):=fun w=>by
  have:=TX (zh t) w (by rw[zN];exact ht)
  rwa [Za]at this
 have J:=Wr hok hl;have p:=Rd v hok;have I:0<(zh (ct v)).size:=by rw[zN];cases h:ct v with
  | nil=>exact absurd h p
  | cons _ _=>simp
 have L:(0:Int)<((zh (ct v)).size:Int):=by omega
 have a:(zh (ct v))[0].toNat=91↔∃ l,v= .arr l:=by
  rw[← Zq _ 0 I];constructor
  ·intro h
   cases v with
   | arr l=>exact⟨l,rfl⟩
   | obj m=>exact absurd h (by rw[show ct (.obj m)=123 ::(joinC ((zJ (zl m)).map zz)++[125])from rfl,(GJ (c:=123) (r:=joinC ((zJ (zl m)).map zz)++[125])).2];decide)
   | nul=>exact absurd h (by decide)
   | tt=>exact absurd h (by decide)
   | ff=>exact absurd h (by decide)
   | num l=>
    have F:=UL hok
    cases l with
    | nil=>exact absurd rfl F.1
    | cons c r=>
     have k:bt (zh (c :: r)) 0=91:=h;rw[(GJ (c:=c) (r:=r)).2]at k;exact absurd k (F.2 c yq).1.2.1
   | str l=>exact absurd h (by rw[show ct (.str l)=34 ::(qs l++[34])from rfl,(GJ (c:=34) (r:=qs l++[34])).2];decide)
  ·rintro⟨l,rfl⟩;exact (GJ (c:=91) (r:=joinC (zF l)++[93])).2
 have z:Hid (((∃ l,v= .arr l)->(Z8 t).isSome=true)->∀ {j:Nat} (n:j<(zt v).length),(zt v)[j].1=t->∃ u,zn v t=some u/\(zt v)[j].2=ct u):=fun hi {j} n E=>TO hok htw hi n E;have A:Hid ((∀ j (n:j<(zt v).length),(zt v)[j].1≠t)->zn v t=none):=fun h=>RB h;have o:Hid ((∃ l,v= .arr l)->Z8 t=none->zn v t=none):=fun ⟨l,e⟩ h=>by subst e;rw[ql,h];rfl
 have f:((∃ l,v= .arr l)->(Z8 t).isSome=true)->∀ g (r:Value),PR g w.heap.size r (zt v)->Calls prog 115 #[r,.string (zh t)] g fun e w'=>g=w'/\J7 v t e:=fun hi g r hr=>by
  refine (DZ _ r (zt v) t g hr (by omega)).mono ?_;rintro e w' ⟨rfl,⟨rfl,h⟩ |⟨j,n,rfl,E⟩⟩
  ·exact⟨rfl,J7.no rfl (uh A h)⟩
  ·obtain⟨u,x,k⟩:=uh z hi n E;exact⟨rfl,J7.yes n rfl ⟨x,k,E⟩⟩
 have b:=ze f;clear f z A;by_cases y:∃ l,v= .arr l
 ·have H:(((zh (ct v))[0].toNat:Int) ==91)=true:=by rw[yD];have:=a.2 y;omega
  cases hx:Z8 t with
  | none=>
   have G:=ze (uh o y hx);have D:J2 t= -1:=by unfold J2;rw[hx]
   rw[D]at s;clear a o b y hx D B p hok htw;generalize zh (ct v)=T at *;go_in;go_wp2_with fail;refine (uh s _).mono ?_;rintro e g ⟨rfl,rfl⟩;clear s;go_wp2;go_ret;exact⟨yI _ _,J7.no rfl (uh G)⟩
  | some i=>
   have HR:=ze (uh b (fun _=>by rw[hx];rfl));have D:J2 t=(i:Int):=by unfold J2;rw[hx]
   rw[D]at s;have M:¬ (i:Int)<0:=by omega
   clear a o b y hx D p hok htw;generalize zh (ct v)=T at *;go_in;go_wp2_with fail;refine (uh s _).mono ?_;rintro e g ⟨rfl,rfl⟩;clear s;go_wp2_with fail;refine (uh B _).mono ?_;rintro e g ⟨r,rfl,p1,C⟩;have d:=ze (uh HR g r p1);clear B HR p1;go_wp2_with fail;refine (uh d).mono ?_;rintro e K ⟨rfl,⟨rfl,h⟩ |⟨j,n,u,rfl,x,k⟩⟩
   ·clear d;have q:=ze h;clear h;go_wp2;go_ret;exact⟨C,J7.no rfl (uh q)⟩
   ·clear d;have q:=ze (⟨x,k⟩:zn v t=some u/\(zt v)[j].2=ct u/\(zt v)[j].1=t);clear x k;go_wp2;go_ret;exact⟨C,J7.yes n rfl (uh q)⟩
 ·have H:(((zh (ct v))[0].toNat:Int) ==91)=false:=by rw[yd];intro e;exact y (a.1 (by omega))
  have HR:=ze (uh b (fun h=>absurd h y));clear a o b y p hok htw s;generalize zh (ct v)=T at *;go_in;go_wp2_with fail;refine (uh B _).mono ?_;rintro e g ⟨r,rfl,p1,C⟩;have d:=ze (uh HR g r p1);clear B HR p1;go_wp2_with fail;refine (uh d).mono ?_;rintro e K ⟨rfl,⟨rfl,h⟩ |⟨j,n,u,rfl,x,k⟩⟩
  ·clear d;have q:=ze h;clear h;go_wp2;go_ret;exact⟨C,J7.no rfl (uh q)⟩
  ·clear d;have q:=ze (⟨x,k⟩:zn v t=some u/\(zt v)[j].2=ct u/\(zt v)[j].1=t);clear x k;go_wp2;go_ret;exact⟨C,J7.yes n rfl (uh q)⟩
theorem Hi:(prog.info? 257).map (fun i=>(i.zero,i.size,i.bytes))=some (some (.agg #[.string ByteArray.empty,.string ByteArray.empty]),2,32):=by kernel_rfl
def HR(w:Wo)(B:Nat)(v:Value)(hs:List zL):Prop:=w.ownsRow B 257 2 v hs.length (hs.flatMap Zm)
theorem HR.below{w w':Wo}{B:Nat}{v:Value}{hs:List zL}(h:HR w B v hs)(hb:Bw w w'):HR w' B v hs:=Zd h hb
theorem HR.cells{w:Wo}{B:Nat}{v:Value}{ps:List zL}(h:HR w B v ps)(j:Nat)(hj:j<ps.length):
  ∃ g cap,v= .slice (some ⟨g,0,none⟩) ps.length cap/\B<=g/\g<w.heap.size/\w.cell? ⟨g,j*2,none⟩=some (.string (zh ps[j].1))/\w.cell? ⟨g,j*2+1,none⟩=some (.string (zh ps[j].2)):=by
 obtain⟨o,m |⟨g,cap,f,l,i,b,p,n,k,d⟩⟩:=h
 ·omega
 ·have a:=Mq ps j hj;refine⟨g,cap,l,i,(yC.1 b).1,?_,?_⟩
  ·rw[yG b,← Array.getElem?_toList,← a.1,← d,List.getElem?_take_of_lt (by omega)]
  ·rw[yG b,← Array.getElem?_toList,← a.2,← d,List.getElem?_take_of_lt (by omega)]
theorem Hj(hs:List zL):(hs.flatMap Zm).length=hs.length*2:=by
 induction hs with
 | nil=>rfl
 | cons p r ih=>rw[List.flatMap_cons,yh,ih,yp];simp[Zm];omega
theorem Hk(hs:List zL):∀ u∈hs.flatMap Zm,u.oneCell'=true:=by
 intro u b;obtain⟨p,_,a⟩:=List.mem_flatMap.1 b;simp[Zm]at a;rcases a with rfl | rfl<;>rfl
theorem Hl(k:List UInt8)(w:Wo)(hk:k.length<=1000000)(g:Nat)(c:w.cell? ⟨g,0,none⟩=some (.string (zh k))):
  Calls prog 42 #[.slice (some ⟨g,0,none⟩) 1 1] w fun e w'=>e= .returned (.string (zh (47 :: zT k)))/\Bw w w':=by
 have h:SS w (some ⟨g,0,none⟩) g 0 [zh k]:=⟨fun _=>rfl,fun j hj=>by
  have:j=0:=by simp at hj;omega
  subst this;exact c⟩
 have a:[zh k].length+qH [zh k]<=1048576:=by simp[qH,zN];omega
 have e:ZC [zh k]=47 :: zT k:=by simp[ZC,Za]
 have:=Wm (some ⟨g,0,none⟩) g 0 1 [zh k] w h a;rw[e]at this;exact this
theorem D1:∀ (n:Nat) (v:JV) (p:List UInt8) (w:Wo),zD v->zw v=false->zm v<=n->(ct v).length<=1000000->p.length+2*(ct v).length<=4000000->zj v<=1000000 ->
  Calls prog 176 #[.string (zh (ct v)),.string (zh p)] w fun e w'=>∃ r,e= .returned r/\HR w' w.heap.size r (ZV n p v)/\Bw w w':=by
 intro n;induction n with
 | zero=>intro v p w _ _ h;have:=(qz v).2;omega
 | succ n ih=>
  intro v p w hok htw hd hl0 hl hc;obtain⟨i0,hi0,hz0,hz1,hz2⟩:=info_parts Hi;have HPA:Hid (∀ w,Calls prog 74 #[.string (zh (ct v))] w fun e w'=>∃ r,e= .returned r/\PR w' w.heap.size r (zt v)/\Bw w w'):=fun w=>Wq v hok w (by omega);rw[UR]at HPA;have HREC:Hid (∀ k (hk:k<(zu v).length) (w:Wo),(zu v)[k].1.length+(ct (zu v)[k].2).length<=1000000/\(Zp p (zu v)[k].1).length<=4000000/\(ZV n (Zp p (zu v)[k].1) (zu v)[k].2).length=zj (zu v)[k].2/\Calls prog 176 #[.string (zh (ct (zu v)[k].2)),.string (zh (Zp p (zu v)[k].1))] w fun e w'=>∃ r,e= .returned r/\HR w' w.heap.size r (ZV n (Zp p (zu v)[k].1) (zu v)[k].2)/\Bw w w'):=fun k hk w=>by
   obtain⟨a,b,c,d⟩:=JG hok htw (yt hk);have e1:=FL p (zu v)[k].1;have e2:zj (zu v)[k].2<=zj v:=by
    have:=TU v (k+1);rw[yz hk,yx,List.sum_append]at this;simp at this;omega
   exact⟨by omega,by omega,KQ n _ _ a b (by omega),ih _ _ w a b (by omega) (by omega) (by omega) (by omega)⟩
  have HT:Hid (∀ k,k<=(zu v).length->(((zu v).take k).flatMap fun q=>ZV n (Zp p q.1) q.2).length+1<=zj v):=fun k hk=>by
   rw[RD _ (fun q=>zj q.2) _ (fun q hq=>by
    obtain⟨a,b,c,_⟩:=JG hok htw (List.mem_of_mem_take hq);exact KQ n _ q.2 a b (by omega))]
   exact TU v k
  have HF:Hid (∀ k (hk:k<(zu v).length),(((zu v).take (k+1)).flatMap fun q=>ZV n (Zp p q.1) q.2)=(((zu v).take k).flatMap fun q=>ZV n (Zp p q.1) q.2)++ZV n (Zp p (zu v)[k].1) (zu v)[k].2):=fun k hk=>RE (fun q:List UInt8×JV=>ZV n (Zp p q.1) q.2) (zu v) k hk;have HE:Hid (ZV (n+1) p v=(p,ct v) ::(((zu v).take (zu v).length).flatMap fun q=>ZV n (Zp p q.1) q.2)):=by
   show _=_
   rw[ZV,yr (ye _)]
  generalize ZV (n+1) p v=R at *;have hkl:(zu v).length<=1000000:=by
   have:=uh HT (zu v).length (ye _);have h2:(zu v).length<=((zu v).map fun q=>zj q.2).sum:=by
    have:∀ l:List (List UInt8×JV),l.length<=(l.map fun q=>zj q.2).sum:=by
     intro l;induction l with
     | nil=>simp
     | cons q r ih=>have h3:=(qz q.2);rw[yi,yM,yp];omega
    exact this _
   have h4:=JH v;omega
  have hml:((zu v).map kt).length=(zu v).length:=yl _;generalize zu v=K at *;clear hok htw hd ih;have hcv:(zh (ct v)).size<=1000000:=by rw[zN];omega
  have hpl:p.length<=4000000:=by omega
  go_in;go_wp2_with fail;refine (uh HPA _).mono ?_;rintro e w1 ⟨r1,rfl,p1,b1⟩;have O0:Hid (HR (w.alloc (.cells #[.string (zh p),.string (zh (ct v))] 257)) w.heap.size (.slice (some ⟨w.heap.size,0,none⟩) 1 1) [(p,ct v)]):=World.ownsRow_lit w #[.string (zh p),.string (zh (ct v))] 1 (ye _) (by unfold maxLen;omega) rfl;have B0:Hid (Bw w (w.alloc (.cells #[.string (zh p),.string (zh (ct v))] 257))):=(yI _ _).alloc (ye _) _;have O1:=ze ((uh O0).below b1);have B1:=ze ((uh B0).trans (b1.mono (uh B0).size));have P1:Hid (PR w1 w.heap.size r1 (K.map kt)):=p1.mono (uh B0).size;obtain⟨x1,cap1,rfl⟩:∃ x cap,r1= .slice x K.length cap:=by
   rcases p1.2 with ⟨hv,h0⟩ |⟨g,cap,cur,hv,_⟩
   ·rw[hml]at h0;exact⟨none,0,by rw[hv,h0]⟩
   ·rw[hml]at hv;exact⟨_,_,hv⟩
  clear HPA p1 b1 O0 B0;go_wp2_with fail;go_loopw [5,7] (fun u i wr=>∃ k:Nat,k<=K.length/\i= .int .i64 (k:Int)/\HR wr w.heap.size u ((p,ct v) ::((K.take k).flatMap fun q=>ZV n (Zp p q.1) q.2))/\PR wr w.heap.size (.slice x1 K.length cap1) (K.map kt)/\Bw w wr) (fun _ i _=>K.length - (intOf i).toNat)
  case atStart=>exact⟨0,yu _,rfl,by simpa using uh O1,uh P1,uh B1⟩
  case round=>
   obtain⟨k,hk,rfl,ho,hpr,hb⟩:=hrel;clear O1 P1 B1;have hwsz:=hb.size;by_cases hlt:k<K.length
   ·have hltI:(k:Int)<(K.length:Int):=by omega
    obtain⟨g,cap',he,hgB,hgl,c0,c1⟩:=hpr.cells k (by rw[hml];exact hlt);injection he with he1 he2 he3;subst he1;subst he3;have ek:(K.map kt)[k]'(by rw[hml];exact hlt)=kt K[k]:=List.getElem_map _;rw[ek]at c0 c1;obtain⟨l1,l2,l3,_⟩:=uh HREC k hlt w;have HRC:Hid (∀ w,Calls prog 176 #[.string (zh (ct K[k].2)),.string (zh (Zp p K[k].1))] w fun e w'=>∃ r,e= .returned r/\HR w' w.heap.size r (ZV n (Zp p K[k].1) K[k].2)/\Bw w w'):=fun w=>(uh HREC k hlt w).2.2.2;have l4:=uh HT (k+1) hlt;have l5:=uh HT k hk;rw[uh HF k hlt,yh]at l4;have l6:=(qz K[k].2);have HEK:Hid ((p,ct v) ::((K.take (k+1)).flatMap fun q=>ZV n (Zp p q.1) q.2)=((p,ct v) ::((K.take k).flatMap fun q=>ZV n (Zp p q.1) q.2))++ZV n (Zp p K[k].1) K[k].2):=by
     show _=_
     rw[uh HF k hlt];rfl
    have hcat:zh p++zh (47 :: zT K[k].1)=zh (Zp p K[k].1):=Vs _ _;have hzz:(9223372036854775807<(zh p).size+(zh (47 :: zT K[k].1)).size)=False:=yR (by
     rw[zN,zN];have:=Vg K[k].1;simp only[yp];omega)
    have hAl:((p,ct v) ::((K.take k).flatMap fun q=>ZV n (Zp p q.1) q.2)).length+(ZV n (Zp p K[k].1) K[k].2).length<=1000000:=by
     simp only[yp];omega
    have hZ0:1<=(ZV n (Zp p K[k].1) K[k].2).length:=by omega
    have HT1:Hid (∀ (w:Wo) (g:Nat),w.cell? ⟨g,0,none⟩=some (.string (zh K[k].1))->Calls prog 42 #[.slice (some ⟨g,0,none⟩) 1 1] w (Rb (.string (zh (47 :: zT K[k].1))) w)):=fun w g c=>Hl K[k].1 w (by omega) g c;have d0:wr.cell? ⟨g,k*2,none⟩=some (.string (zh K[k].1)):=c0;have d1:wr.cell? ⟨g,k*2+1,none⟩=some (.string (zh (ct K[k].2))):=c1;have HO:=ze ho;have HPR:=ze hpr;have HB:=ze hb;clear c0 c1 ek he2 hml HREC HT HF HE l1 l2 l3 l4 l5 l6 ho hpr hb;generalize (p,ct v) ::((K.take k).flatMap fun q=>ZV n (Zp p q.1) q.2)=A at *;generalize ZV n (Zp p K[k].1) K[k].2=Z at *;generalize zh (Zp p K[k].1)=np at *;generalize zh (47 :: zT K[k].1)=tk at *;generalize zh K[k].1=key at *;generalize zh (ct K[k].2)=tx at *;have bA0:Bw wr (wr.alloc (.cells #[.string key] 9)):=(yI _ _).alloc (ye _) _;have bA:Bw wr ((wr.alloc (.cells #[.string key] 9)).drew):=bA0.drew;have a0:(wr.alloc (.cells #[.string key] 9)).cell? ⟨g,k*2,none⟩=some (.string key):=(bA0.cell (p:=⟨g,k*2,none⟩) hgl).trans d0;have a1:(wr.alloc (.cells #[.string key] 9)).cell? ⟨g,k*2+1,none⟩=some (.string tx):=(bA0.cell (p:=⟨g,k*2+1,none⟩) hgl).trans d1;have aT:((wr.alloc (.cells #[.string key] 9)).drew).cell? ⟨wr.heap.size,0,none⟩=some (.string key):=Qi wr 9 (.string key) 0 _ rfl;have HBA:=ze bA;have HTA:=ze (uh HT1 _ _ aT);clear bA HT1 bA0 aT;go_wp2_with fail
    go_region_law (first
      |(
        refine Xp rfl (.tmp 20) (.tmp 35) 254 rfl w.heap.size 257 i0 (.agg #[.string ByteArray.empty,.string ByteArray.empty]) 2 32 underlying254 hi0 hz0 hz1 hz2 rfl (by decide) _ _ _ rfl (by exact own5) ⟨g5,0,none⟩ Z.length cap5 (Z.flatMap Zm) rfl (Hj Z) (by exact uh HCELL) (Hk Z) (by unfold maxLen;omega) (by omega) (by omega) ?_;intro v6 w6 own6 hg6)
      |(
        have hb4:=b4;go_simp;refine (uh HRC _).mono ?_;rintro e w5 ⟨r5,rfl,h5,b5⟩;have b5':=zi b4' b5;have own5:=Zd (uh HO) b5';have P5:=(uh HPR).below b5';have B5:=(uh HB).trans (b5'.mono hwsz);have hw5:=B5.size;obtain⟨g5,cap5,rfl⟩:∃ g5 cap5,r5= .slice (some ⟨g5,0,none⟩) Z.length cap5:=(by
         rcases h5.2 with ⟨_,h0⟩ |⟨g5,cap5,cur5,hv5,_⟩
         ·omega
         ·exact⟨g5,cap5,hv5⟩)
        have HCELL:Hid (∀ j u,(Z.flatMap Zm)[j]?=some u->w5.cell? ((⟨g5,0,none⟩:Addr).add j)=some u):=fun j u hj=>World.ownsRow.cells h5 rfl j u hj)
      |(
        go_simp;refine (uh HTA).mono ?_;rintro e w4 ⟨rfl,b4⟩;have b4':=zi (uh HBA) b4;have k0:w4.cell? ⟨g,k*2,none⟩=some (.string key):=(b4'.cell (p:=⟨g,k*2,none⟩) hgl).trans d0;have k1:w4.cell? ⟨g,k*2+1,none⟩=some (.string tx):=(b4'.cell (p:=⟨g,k*2+1,none⟩) hgl).trans d1))
    all_goals
     have O6:Hid (HR w6 w.heap.size v6 (A++Z)):=by
      show HR w6 w.heap.size v6 (A++Z)
      unfold HR;rw[yh,List.flatMap_append];exact own6
     have B6:Hid (Bw w w6):=B5.grown hg6 hw5 (fun k hk=>(own5.lt k hk).1);have P6:Hid (PR w6 w.heap.size (.slice (some ⟨g,0,none⟩) K.length cap1) (K.map kt)):=World.ownsRow.kept P5 hg6 (zcD P5 own5 (by decide));clear own6 hg6 B5 P5 own5 h5 b5 b5' HCELL b4 b4' k0 k1 a0 a1 d0 d1 HBA HTA HRC HO HPR HB;go_wp2;go_roundw
    all_goals first
     | exact⟨k+1,by omega,by go_num,by rw[uh HEK];exact uh O6,uh P6,uh B6⟩
     |(simp[intOf];omega)
   ·have hk':k=K.length:=by omega
    subst hk';have e:=uh HE;rw[← e]at ho;have HO:=ze ho;have HB:=ze hb;clear ho hb e HREC HT HF HE hpr hml;go_wp2;go_ret;exact⟨_,rfl,uh HO,uh HB⟩
theorem Hm:∀ j:Nat,j<20->∃ t:List UInt8,t.length<=20/\(#[Value.string ⟨#[34]⟩,Value.string ⟨#[92]⟩,Value.string ⟨#[48,49]⟩,Value.string ⟨#[45]⟩,Value.string ⟨#[44]⟩,Value.string ⟨#[58]⟩,Value.string ⟨#[91]⟩,Value.string ⟨#[93]⟩,Value.string ⟨#[123]⟩,Value.string ⟨#[125]⟩,Value.string ⟨#[32]⟩,Value.string ⟨#[128]⟩,Value.string ⟨#[92,117,100,56,48,48]⟩,Value.string ⟨#[49,46,53]⟩,Value.string ⟨#[101]⟩,Value.string ⟨#[31]⟩,Value.string ⟨#[110,117,108]⟩,Value.string ⟨#[57,57,57,57,57,57,57,57,57,57,57,57,57,57,57,57,57,57,57,57]⟩,Value.string ⟨#[237,160,128]⟩,Value.string ⟨#[192,128]⟩]:Array Value)[j]?=some (.string (zh t))
 | 0,_=>⟨[34],by decide,rfl⟩
 | 1,_=>⟨[92],by decide,rfl⟩
 | 2,_=>⟨[48,49],by decide,rfl⟩
 | 3,_=>⟨[45],by decide,rfl⟩
 | 4,_=>⟨[44],by decide,rfl⟩
 | 5,_=>⟨[58],by decide,rfl⟩
 | 6,_=>⟨[91],by decide,rfl⟩
 | 7,_=>⟨[93],by decide,rfl⟩
 | 8,_=>⟨[123],by decide,rfl⟩
 | 9,_=>⟨[125],by decide,rfl⟩
 | 10,_=>⟨[32],by decide,rfl⟩
 | 11,_=>⟨[128],by decide,rfl⟩
 | 12,_=>⟨[92,117,100,56,48,48],by decide,rfl⟩
 | 13,_=>⟨[49,46,53],by decide,rfl⟩
 | 14,_=>⟨[101],by decide,rfl⟩
 | 15,_=>⟨[31],by decide,rfl⟩
 | 16,_=>⟨[110,117,108],by decide,rfl⟩
 | 17,_=>⟨[57,57,57,57,57,57,57,57,57,57,57,57,57,57,57,57,57,57,57,57],by decide,rfl⟩
 | 18,_=>⟨[237,160,128],by decide,rfl⟩
 | 19,_=>⟨[192,128],by decide,rfl⟩
 | j+20,h=>absurd h (by omega)
theorem Hn(k:Nat)(w:Wo)(hk:k<=255):
  Calls prog 114 #[.int .i64 k] w fun e w'=>∃ t:List UInt8,t.length<=20/\e= .returned (.string (zh t))/\Bw w w':=by
 obtain⟨t,d,b⟩:=Hm (k % 20) (by omega);have a:(w.alloc (.cells #[Value.string ⟨#[34]⟩,Value.string ⟨#[92]⟩,Value.string ⟨#[48,49]⟩,Value.string ⟨#[45]⟩,Value.string ⟨#[44]⟩,Value.string ⟨#[58]⟩,Value.string ⟨#[91]⟩,Value.string ⟨#[93]⟩,Value.string ⟨#[123]⟩,Value.string ⟨#[125]⟩,Value.string ⟨#[32]⟩,Value.string ⟨#[128]⟩,Value.string ⟨#[92,117,100,56,48,48]⟩,Value.string ⟨#[49,46,53]⟩,Value.string ⟨#[101]⟩,Value.string ⟨#[31]⟩,Value.string ⟨#[110,117,108]⟩,Value.string ⟨#[57,57,57,57,57,57,57,57,57,57,57,57,57,57,57,57,57,57,57,57]⟩,Value.string ⟨#[237,160,128]⟩,Value.string ⟨#[192,128]⟩] 9)).cell? ⟨w.heap.size,k % 20,none⟩=some (.string (zh t)):=(yG (yH w (.cells #[Value.string ⟨#[34]⟩,Value.string ⟨#[92]⟩,Value.string ⟨#[48,49]⟩,Value.string ⟨#[45]⟩,Value.string ⟨#[44]⟩,Value.string ⟨#[58]⟩,Value.string ⟨#[91]⟩,Value.string ⟨#[93]⟩,Value.string ⟨#[123]⟩,Value.string ⟨#[125]⟩,Value.string ⟨#[32]⟩,Value.string ⟨#[128]⟩,Value.string ⟨#[92,117,100,56,48,48]⟩,Value.string ⟨#[49,46,53]⟩,Value.string ⟨#[101]⟩,Value.string ⟨#[31]⟩,Value.string ⟨#[110,117,108]⟩,Value.string ⟨#[57,57,57,57,57,57,57,57,57,57,57,57,57,57,57,57,57,57,57,57]⟩,Value.string ⟨#[237,160,128]⟩,Value.string ⟨#[192,128]⟩] 9)) (k % 20)).trans b;clear b;go_in;go_wp2;go_ret;exact⟨t,d,rfl,(yI _ _).alloc (ye _) _⟩
theorem XR(b:Bs):zh b.data.toList=b:=by obtain⟨⟨l⟩⟩:=b;rfl
theorem YL{B rb N:Nat}{w w1:Wo}{b:Bs}(hb:b.size<=N)(hr:zR w1 B rb)(hg:w.grownBy w1 (some rb)):DP B rb N w (.returned (.string b)) w1:=
 ⟨b.data.toList,by rw[Zg];exact hb,by rw[XR],hr,hg⟩
theorem D2(B rb:Nat)(s:Bs)(w:Wo)(h:zR w B rb)(hs:s.size<=400000):
  Calls prog 65 #[.pointer (some ⟨rb,0,none⟩),.string s] w (DP B rb (s.size+20) w):=by
 have F:=ze (Jq B rb w h);clear h;go_in;go_wp2_with fail;refine (uh F).mono ?_;rintro e w1 ⟨x,hx,rfl,K,G⟩;have g:=ze (Jq B rb w1 K);have d:=ze G;clear F K G;go_wp2_with fail;refine (uh g).mono ?_;rintro e X ⟨y,hy,rfl,L,H⟩;have i:=ze (Jq B rb X L);have f:=ze (ZD (uh d) H);clear g L H d;go_wp2_with fail;refine (uh i).mono ?_;rintro e u ⟨z,hz,rfl,M,I⟩;have HR:=ze M;have n:=ze (ZD (uh f) I);clear i M I f;by_cases j:s.size=0
 ·have D:((s.size:Int) ==0)=true:=by simp[j]
  clear j;go_wp2;go_ret;exact QI (t:=[45]) (uh HR) (uh n) (by simp) (yI _ _)
 ·have D:((s.size:Int) ==0)=false:=by
   simp only[yd,ne_eq];omega
  have P:(y:Int)*256+(z:Int)=((y*256+z:Nat):Int):=by omega
  have O:y*256+z<=65535:=by omega
  generalize y*256+z=p at *;have hq:(p:Int) % (s.size:Int)=((p % s.size:Nat):Int):=by simp
  have S:p % s.size<s.size:=Nat.mod_lt _ (by omega);generalize p % s.size=q at *;have R:(q:Int)<(s.size:Int):=by omega
  have T:(s.size:Int)≠0:=by omega
  have l:(x:Int) / 4=((x / 4:Nat):Int):=by omega
  have b:Hid (∀ w,Calls prog 114 #[.int .i64 ((x / 4:Nat):Int)] w fun e w'=>∃ t:List UInt8,t.length<=20/\e= .returned (.string (zh t))/\Bw w w'):=fun w=>Hn (x / 4) w (by omega);have m:x / 4<=255:=by omega
  by_cases C:x % 4=0
  ·have e:(x:Int) % 4=0:=by omega
   clear C j b l m;go_wp2;go_quiet (fail);go_wp2;go_ret;refine YL ?_ ((uh HR).grown (Gj u _ none) (by simp) (fun _ e=>by cases e)) (ZD (uh n) (Gj u _ _));simp;omega
  ·by_cases J:x % 4=1
   ·have e:(x:Int) % 4=1:=by omega
    clear C j J b l m;go_wp2;go_quiet (fail);go_wp2;go_ret;refine YL ?_ ((uh HR).grown (Gj u _ none) (by simp) (fun _ e=>by cases e)) (ZD (uh n) (Gj u _ _));simp;omega
   ·have Y:((x:Int) % 4 ==0)=false:=by simp only[yd,ne_eq];omega
    have Z:((x:Int) % 4 ==1)=false:=by simp only[yd,ne_eq];omega
    generalize x / 4=N at *;have Q:q<=s.size:=by omega
    have W:IntKind.i64.wrap (N:Int)=(N:Int):=by rw[IntKind.wrap_i64];omega
    clear C j J;go_wp2_with fail;go_region_law (go_simp;refine (uh b _).mono ?_;rintro e E ⟨t,U,rfl,a⟩;have V:(zh t).size<=20:=(by rw[zN];exact U);have c1:(9223372036854775807<q+(zh t).size)=False:=yR (by omega);have c2:(9223372036854775807<q+(zh t).size+(s.size - q))=False:=yR (by omega))
    all_goals (
     clear c1 c2;generalize zh t=o at *;have A:Hid (zR E B rb):=(uh HR).grown (qI (r:=none) (w1:=E) ⟨a.os,a.tape,a.output,a.size,a.block⟩) (by simp) (fun _ e=>by cases e);have v:Hid (w.grownBy E (some rb)):=ZD (uh n) ⟨a.os,a.tape,a.output,a.size,fun k hk _=>a.block k hk⟩;clear a;go_wp2;go_ret;refine YL ?_ (uh A) (uh v);simp;omega)
theorem Ho{ts:List (List UInt8)}(hs:Small ts)(hl:ts.length<=4):qH (ts.map zH)<=12:=by
 have:∀ ts:List (List UInt8),Small ts->qH (ts.map zH)<=3*ts.length:=by
  intro ts;induction ts with
  | nil=>intro _;simp[qH]
  | cons t r ih=>
   intro h;have a:=ih (fun q hq=>h q (yw _ hq));have b:=h t yq;have d:(zH t).size=t.length:=zN t;unfold qH at *;simp only[yi,yM,yp];omega
 have:=this ts hs;omega
theorem Hp{ts:List (List UInt8)}(hs:Small ts)(hl:ts.length<=4):(ZC (ts.map zH)).length<=28:=by
 have:∀ ts:List (List UInt8),Small ts->(ZC (ts.map zH)).length<=7*ts.length:=by
  intro ts;induction ts with
  | nil=>intro _;simp[ZC]
  | cons t r ih=>
   intro h;have b:=ih (fun q hq=>h q (yw _ hq));have d:=h t yq;have f:=Vg t;have a:(zH t).data.toList=t:=Za t;rw[yi,Kc,yp,yh,a,yp];omega
 have:=this ts hs;omega
theorem Hq(B rb:Nat)(v:JV)(w:Wo)(h:zR w B rb)(hd:KR v):
  Calls prog 177 #[.pointer (some ⟨rb,0,none⟩),.string (zh (ct v))] w (DP B rb 40020 w):=by
 have HX:=ze (Jq B rb w h);have hrb:=h.lt;have K:=hd.len;have I:=hd.cnt;have X:Hid (∀ w,Calls prog 176 #[.string (zh (ct v)),.string (zh [])] w fun e w'=>∃ r,e= .returned r/\HR w' w.heap.size r (ZV 100 [] v)/\Bw w w'):=fun w=>D1 100 v [] w hd.ok hd.tw hd.dep (by omega) (by simp;omega) (by omega);have z:Hid (∀ x∈ZV 100 [] v,x.1.length<=40000):=fun x hx=>by have:=RF 100 [] v x hx;have:=hd.mx;simp at *;omega
 have hn:(ZV 100 [] v).length=zj v:=KQ 100 [] v hd.ok hd.tw hd.dep;have hn1:1<=(ZV 100 [] v).length:=by have:=(qz v);omega
 have hn2:(ZV 100 [] v).length<=3000:=by omega
 generalize ZV 100 [] v=f at *;generalize hsv:zh (ct v)=sv at *;clear h hd K I hn hsv;go_in;go_wp2_with fail;refine (uh HX).mono ?_;rintro e w1 ⟨x,hx,rfl,r1,g1⟩;have l:=ze r1;have p:=ze g1;clear HX r1 g1;by_cases h7:x % 8=7
 ·have e:(x:Int) % 8=7:=by omega
  have C:=ze (AD B rb w1 (uh l));clear h7 X;go_wp2_with fail;refine (uh C).mono ?_;rintro e w2 ⟨v2,ts,rfl,n,l2,s2,N,g2⟩;obtain⟨va,vg,vc,rfl,G,_⟩:=n.shape;have htl:=Ho s2 l2;have a:=ze (Wm va vg 0 vc (ts.map zH) w2 G (by rw[yl];omega));rw[yl]at a;have hpl:=Hp s2 l2;have Y:=ze N;have V:=ze (ZD (uh p) g2);generalize ZC (ts.map zH)=m at *;clear C n s2 N g2 G htl;go_wp2_with fail;refine (uh a).mono ?_;rintro e S ⟨rfl,b3⟩;clear a;go_wp2;go_ret;exact QI (t:=m) (uh Y) (uh V) (by omega) b3
 ·have e:((x:Int) % 8 ==7)=false:=by simp only[yd,ne_eq];omega
  have C:=ze (uh X w1);clear h7 X;go_wp2_with fail;refine (uh C).mono ?_;rintro e w2 ⟨v2,rfl,n,O⟩;obtain⟨va,vc,rfl⟩:=Xy n;have N:=(uh l).grown (qI (r:=none) O) (by simp) (fun _ e=>by cases e);have D:=ze (Jq B rb w2 N);clear C;go_wp2_with fail;refine (uh D).mono ?_;rintro e S ⟨y,hy,rfl,r3,g3⟩;have hid:(y:Int)*3+(x:Int)=((y*3+x:Nat):Int):=by omega
  have hib:y*3+x<=1020:=by omega
  generalize y*3+x=T at *;have hq:(T:Int) % (f.length:Int)=((T % f.length:Nat):Int):=by simp
  have hql:T % f.length<f.length:=Nat.mod_lt _ (by omega);generalize T % f.length=q at *;obtain⟨g,cap,he,hg2,hgl,c0,c1⟩:=n.cells q hql;injection he with he1 he2 he3;subst he1;subst he3;have hqI:(q:Int)<(f.length:Int):=by omega
  have hsn:(f.length:Int)≠0:=by omega
  have hz2:=O.size;have J:g≠rb:=by have:=(uh l).lt;omega
  have aa:S.cell? ⟨g,q*2,none⟩=some (.string (zh f[q].1)):=g3.cell c0 (by simpa using J);have L:=uh z f[q] (yt _);have hzs:(zh f[q].1).size<=40000:=by rw[zN];exact L
  generalize zh f[q].1=s at *;have d:=ze r3;have b:=ze (ZD (ZD (uh p) (qI O)) g3);clear D r3 g3 N O n c0 c1 L z he2;by_cases Q:x % 8=6
  ·have e6:(x:Int) % 8=6:=by omega
   have E:=ze (Jq B rb S (uh d));clear Q;go_wp2_with fail;refine (uh E).mono ?_;rintro e i ⟨k,hk,rfl,R,P⟩;have A:=ze R;have u:=ze (ZD (uh b) P);clear E R P d b aa;go_wp2_with fail;refine (Xx k i hk).mono ?_;rintro e w5 ⟨t,ht,rfl,rfl⟩;have H:Bw i (i.alloc (.cells #[.string (zh t)] 9)):=(yI _ _).alloc (ye _) _;have G:SS (i.alloc (.cells #[.string (zh t)] 9)) (some ⟨i.heap.size,0,none⟩) i.heap.size 0 [zh t]:=⟨fun _=>rfl,fun j hj=>by
    have:j=0:=by simpa using hj
    subst this;exact yG (yH i (.cells #[.string (zh t)] 9)) 0⟩
   have M:qH [zh t]=t.length:=by simp[qH,zN]
   have a:=ze (Wm _ _ _ 1 [zh t] _ G (by rw[M];simp;omega));have hpl:(ZC [zh t]).length<=7:=by
    rw[Kc,yp,yh,Za];have:=Vg t;simp[ZC];omega
   have o:=ze H;generalize ZC [zh t]=m at *;clear G M H;go_wp2_with fail;refine (uh a).mono ?_;rintro e w6 ⟨rfl,b6⟩;have U:=zi (uh o) b6;have Z:Hid (zR w6 B rb):=(uh A).grown (qI (r:=none) U) (by simp) (fun _ e=>by cases e);have W:=ze (ZD (uh u) (qI (r:=some rb) U));have htz:(⟨m.toArray⟩:Bs).size<=7:=by
    have:(zh m).size=m.length:=zN m;unfold zh at this;omega
   generalize (⟨m.toArray⟩:Bs)=tb at *;clear a b6 U o A u;go_wp2;go_ret;refine YL ?_ (uh Z) (uh W);rw[ByteArray.size_append];omega
  ·have e6:((x:Int) % 8 ==6)=false:=by simp only[yd,ne_eq];omega
   by_cases h5:x % 32=5
   ·have e5:(x:Int) % 32=5:=by omega
    have HC:=ze (D2 B rb s S (uh d) (by omega));clear Q h5;go_wp2_with fail;refine (uh HC).mono ?_;rintro e i ⟨t,ht,rfl,R,P⟩;clear HC;go_wp2;go_ret;exact⟨t,by omega,rfl,R,ZD (uh b) P⟩
   ·have e5:((x:Int) % 32 ==5)=false:=by simp only[yd,ne_eq];omega
    by_cases F:x % 32=13
    ·have ab:(x:Int) % 32=13:=by omega
     clear Q h5 F;go_wp2;go_ret;refine YL ?_ (uh d) (uh b);have h3:(⟨#[47,126,50]⟩:Bs).size=3:=rfl;rw[ByteArray.size_append];omega
    ·have ab:((x:Int) % 32 ==13)=false:=by simp only[yd,ne_eq];omega
     clear Q h5 F;go_wp2;go_ret;exact YL (by omega) (uh d) (uh b)
theorem Ws(w:Wo)(b:Bs):∃ cap W,(convert 9 22 (.string b)).run prog w= .ok (.slice (some ⟨w.heap.size,0,none⟩) b.data.toList.length cap) W /\
  (∀ j u,(Lib.byteCells b.data.toList)[j]?=some u->W.cell? ((⟨w.heap.size,0,none⟩:Addr).add j)=some u)/\Bw w W/\(∀ (B e:Nat) v n xs,w.ownsRow B e 1 v n xs->W.ownsRow B e 1 v n xs)/\w.heap.size<=W.heap.size:=by
 have:=Wl w b.data.toList
 rwa [XR]at this
theorem Hr(l:List UInt8)(n:Nat)(w:Wo)(hl:l.length<=100)(hn:n<=30000):
  Calls prog 55 #[.string (zh l),.int .i64 n] w fun e w'=>∃ t:List UInt8,t.length=n*l.length/\e= .returned (.string (zh t))/\Bw w w':=by
 obtain⟨Q,C,E,F,G⟩:=info_parts Gf;have M:Hid (∀ j,j<n->(j+1)*l.length<=3000000/\j*l.length<=3000000):=fun j J=>by
  have V:(j+1)*l.length<=n*l.length:=Nat.mul_le_mul_right _ J;have W:n*l.length<=30000*100:=Nat.mul_le_mul hn hl;have X:j*l.length<=(j+1)*l.length:=Nat.mul_le_mul_right _ (by omega);omega
 go_in;go_wp2;go_loopw [5,6] (fun r k wr=>∃ (j:Nat) (a:List UInt8),k= .int .i64 (j:Int)/\j<=n/\a.length=j*l.length/\wr.ownsRow w.heap.size 5 1 r (Lib.byteCells a).length (Lib.byteCells a)/\Bw w wr) (fun _ k _=>n - (intOf k).toNat)
 case atStart=>
  exact⟨0,[],rfl,yu _,by simp,World.ownsRow_lit w #[] 0 (ye _) (by unfold maxLen;omega) rfl,(yI _ _).alloc (ye _) _⟩
 case round=>
  obtain⟨j,a,rfl,J,h,b,B⟩:=hrel;have y:=ze h;have z:=ze B;have x:=B.size;clear h B;by_cases D:j<n
  ·have S:((j:Int)<(n:Int))=True:=eq_true (by omega);obtain⟨R,K⟩:=uh M j D;have O:a.length<=3000000:=by rw[uh y];exact K
   have A:Hid ((a++l).length=(j+1)*l.length):=by
    show _=_
    rw[yh,uh y,Nat.succ_mul]
   clear R K;obtain⟨p,U,q,f,I,v,P⟩:=Wl wr l;have g:=v _ _ _ _ _ b;have H:=(uh z).trans (I.mono x);have d:=ze f;clear f v b;go_wp2_with (at_builtin;refine wpList_append_own _ rfl (.tmp 13) (.tmp 15) 22 rfl w.heap.size 5 Q (.int .u8 0) 1 1 underlying22 C E F G rfl (by decide) _ _ _ rfl g ⟨wr.heap.size,0,none⟩ l.length p (Lib.byteCells l) rfl (by rw[yL];omega) (by exact uh d) (Yi _) (by rw[yL];unfold maxLen;omega) (by rw[yL];omega) (by omega) ?_;intro Y T i s _;have L:Bw w T:=H.grown s (by omega) (fun k hk=>(g.lt k hk).1));have o:=ZY (m:=l) i rfl rfl;clear i s g d H q I z;go_wp2;go_roundw
   all_goals first
    | exact⟨j+1,a++l,by go_num,by omega,uh A,o,L⟩
    |(simp[intOf];omega)
  ·have S:((j:Int)<(n:Int))=False:=yR (by omega);have u:j=n:=by omega
   have A:Hid (a.length=n*l.length):=by show _=_;rw[← u];exact uh y
   have q:=Gg b;have N:=ze b;clear u b;go_wp2;go_ret;exact⟨a,uh A,rfl,uh z⟩
theorem Hs(B rb:Nat)(s:Bs)(w:Wo)(h:zR w B rb)(hs:s.size<=45000):
  Calls prog 64 #[.pointer (some ⟨rb,0,none⟩),.string s] w (DP B rb (8*s.size) w):=by
 obtain⟨i0,S,T,U,V⟩:=info_parts Gf;have hrb:=h.lt;have P:Hid (B<=rb):=by obtain⟨_,_,_,_,_,_,_,h1,_⟩:=h;exact h1
 have HN:Hid (∀ w,zR w B rb->Calls prog 53 #[.pointer (some ⟨rb,0,none⟩)] w fun e w'=>∃ x:Nat,x<=255/\e= .returned (.int .i64 x)/\zR w' B rb/\w.grownBy w' (some rb)):=fun w h=>Jq B rb w h;have HSTR:Hid (∀ (j:Nat) w,j<=s.size->Calls prog 69 #[.string s,.int .i64 j] w (UN s w (Zz s j))):=fun j w hj=>UO s j w (by omega) (by omega);have HR0:Hid (zR (w.alloc (.cells #[] 5)) B rb):=h.grown (World.grownBy_alloc w _ none) (by simp) (fun k e=>by cases e);have HG0:Hid (w.grownBy (w.alloc (.cells #[] 5)) (some rb)):=World.grownBy_alloc w _ _;clear h;go_in;go_wp2;go_loopw [5,6] (fun r k wr=>∃ (j:Nat) (v:List UInt8),k= .int .i64 (j:Int)/\j<=s.size/\v.length<=8*j/\wr.ownsRow w.heap.size 5 1 r (Lib.byteCells v).length (Lib.byteCells v)/\zR wr B rb/\w.grownBy wr (some rb)) (fun _ k _=>s.size - (intOf k).toNat)
 case atStart=>
  exact⟨0,[],rfl,yu _,by simp,World.ownsRow_lit w #[] 0 (ye _) (by unfold maxLen;omega) rfl,uh HR0,uh HG0⟩
 case round=>
  obtain⟨j,v,rfl,hj,hacc,hown,hr,hg⟩:=hrel;clear HR0 HG0;have HA:=ze hacc;have HR:=ze hr;have HG:=ze hg;have hwsz:=hg.size;have hal:v.length<=360000:=by omega
  clear hacc hr hg;by_cases hin:j<s.size
  ·have t1:((j:Int)<(s.size:Int))=True:=eq_true (by omega);have i1:(0:Int)<=(j:Int):=by omega
   have i2:(j:Int)<(s.size:Int):=by omega
   have hb:=Zq s j hin;by_cases c34:bt s j=34
   ·have HSJ:=ze (uh HSTR j wr (by omega));have f34:((s[j].toNat:Int) ==34)=true:=by rw[yD];omega
    cases hq:Zz s j with
    | none=>
     rw[hq]at HSJ;clear hq hb c34 HN HSTR;go_wp2_with fail;refine (uh HSJ).mono ?_;rintro e W ⟨b2,tt,kk,_,_,rfl⟩;have HRF:Hid (zR W B rb):=(uh HR).grown (qI (r:=none) (w1:=W) ⟨b2.os,b2.tape,b2.output,b2.size,b2.block⟩) (by simp) (fun _ e=>by cases e);have HGF:Hid (w.grownBy W (some rb)):=ZD (uh HG) ⟨b2.os,b2.tape,b2.output,b2.size,fun k hk _=>b2.block k hk⟩;clear HSJ b2;go_wp2;go_ret;exact YL (by omega) (uh HRF) (uh HGF)
    | some p=>
     obtain⟨sl,n⟩:=p;obtain⟨n1,n2⟩:=JX hq;rw[hq]at HSJ;clear hq hb c34 HN HSTR;have nI:(n:Int)<=(s.size:Int):=by omega
     have njI:(j:Int)<=(n:Int):=by omega
     go_wp2_with fail;refine (uh HSJ).mono ?_;rintro e W ⟨b2,rfl⟩;have HRF:Hid (zR W B rb):=(uh HR).grown (qI (r:=none) (w1:=W) ⟨b2.os,b2.tape,b2.output,b2.size,b2.block⟩) (by simp) (fun _ e=>by cases e);have HGF:Hid (w.grownBy W (some rb)):=ZD (uh HG) ⟨b2.os,b2.tape,b2.output,b2.size,fun k hk _=>b2.block k hk⟩;have E:=Zd hown b2;have hz2w:=(uh HGF).size;have hel:(s.extract j n).data.toList.length=n - j:=by rw[Zg];simp;omega
     obtain⟨L,Z,R,q,o,M,hs3⟩:=Ws W (s.extract j n);have a:=M _ _ _ _ _ E;have l:=ze q;have d:=ze (ZD (uh HGF) (qI (r:=some rb) (w1:=Z) ⟨o.os,o.tape,o.output,o.size,o.block⟩));have J:Hid (zR Z B rb):=(uh HRF).grown (qI (r:=none) (w1:=Z) ⟨o.os,o.tape,o.output,o.size,o.block⟩) (by simp) (fun _ e=>by cases e);clear HSJ b2 hown E q M HRF HGF HR HG o;generalize (s.extract j n).data.toList=H at *;have HEL:=ze hel;have hell:H.length<=45000:=by omega
     clear hel;go_wp2_with (at_builtin;refine wpList_append_own _ rfl (.tmp 31) (.tmp 36) 22 rfl w.heap.size 5 i0 (.int .u8 0) 1 1 underlying22 S T U V rfl (by decide) _ _ _ rfl a ⟨W.heap.size,0,none⟩ H.length L (Lib.byteCells H) rfl (by rw[yL];omega) (by exact uh l) (Yi _) (by rw[yL];unfold maxLen;omega) (by rw[yL];omega) (by omega) ?_);intro v4 G z g _;have u:=ZY (m:=H) z rfl rfl;have F:Hid (w.grownBy G (some rb)):=⟨g.os.trans (uh d).os,g.tape.trans (uh d).tape,g.output.trans (uh d).output,yQ (uh d).size g.size,fun k hk hne=>(g.block k (yF hk (uh d).size) (fun e=>by have:=(a.lt k e.symm).1;omega)).trans ((uh d).block k hk hne)⟩;have N:Hid (zR G B rb):=(uh J).grown g (fun e=>by have:=(a.lt rb e.symm).1;omega) (fun k e=>by have:=(a.lt k e).1;have:=uh P;omega);have HQ:Hid ((v++H).length<=8*n):=by show _<=_;rw[yh,uh HEL];have:=uh HA;omega
     clear z g a l R d J HEL;go_wp2;go_roundw
     all_goals first
      | exact⟨n,v++H,by go_num,by omega,uh HQ,u,uh N,uh F⟩
      |(simp[intOf];omega)
   ·have f34:((s[j].toNat:Int) ==34)=false:=by rw[yd];omega
    have HNX:=ze (uh HN wr (uh HR));clear HN HSTR;obtain⟨c,hcc⟩:∃ c,s[j].toNat=c:=⟨_,rfl⟩;have O:c<256:=by rw[← hcc];exact UInt8.toNat_lt _
    rw[hcc]at f34;go_wp2_with fail;refine (uh HNX).mono ?_;rintro e W ⟨x,hx,rfl,r2,g2⟩;have hx7:(x:Int) % 7=((x % 7:Nat):Int):=by omega
    have hx6:x % 7<=6:=by omega
    have hx6I:((x % 7:Nat):Int)<=6:=by omega
    have Q:=ze r2;have I:=ze (ZD (uh HG) g2);have E:W.ownsRow w.heap.size 5 1 u5 (Lib.byteCells v).length (Lib.byteCells v):=hown.kept g2 (.inr (fun e=>by have:=(hown.lt rb e).1;omega));generalize x % 7=y at *;clear hb c34 hcc;by_cases hbr:c=91∨c=93∨c=123∨c=125∨c=44∨c=58
    ·rcases hbr with h | h | h | h | h | h
     ·have f91:((c:Int) ==91)=true:=by rw[yD];omega
      clear h;obtain⟨L,Z,R,q,o,M,hs3⟩:=Ws W ((⟨#[10,9,32,13,32,32]⟩:Bs).extract 0 y);have a:=M _ _ _ _ _ E;have hel:((⟨#[10,9,32,13,32,32]⟩:Bs).extract 0 y).data.toList.length<=6:=by
       have z6:(⟨#[10,9,32,13,32,32]⟩:Bs).size=6:=rfl;rw[Zg];simp;omega
      have l:=ze q;have d:=ze (ZD (uh I) (qI (r:=some rb) (w1:=Z) ⟨o.os,o.tape,o.output,o.size,o.block⟩));have J:Hid (zR Z B rb):=(uh Q).grown (qI (r:=none) (w1:=Z) ⟨o.os,o.tape,o.output,o.size,o.block⟩) (by simp) (fun _ e=>by cases e);have hz2w:=(uh I).size;clear q M o HNX E Q I r2 g2 HR HG;generalize ((⟨#[10,9,32,13,32,32]⟩:Bs).extract 0 y).data.toList=H at *;go_wp2_with (at_builtin;refine wpList_append_own _ rfl (.tmp 68) (.tmp 70) 22 rfl w.heap.size 5 i0 (.int .u8 0) 1 1 underlying22 S T U V rfl (by decide) _ _ _ rfl a ⟨W.heap.size,0,none⟩ H.length L (Lib.byteCells H) rfl (by rw[yL];omega) (by exact uh l) (Yi _) (by rw[yL];unfold maxLen;omega) (by rw[yL];omega) (by omega) ?_);intro v4 G z g _;have u:=ZY (m:=H) z rfl rfl;have F:Hid (w.grownBy G (some rb)):=⟨g.os.trans (uh d).os,g.tape.trans (uh d).tape,g.output.trans (uh d).output,yQ (uh d).size g.size,fun k hk hne=>(g.block k (yF hk (uh d).size) (fun e=>by have:=(a.lt k e.symm).1;omega)).trans ((uh d).block k hk hne)⟩;have N:Hid (zR G B rb):=(uh J).grown g (fun e=>by have:=(a.lt rb e.symm).1;omega) (fun k e=>by have:=(a.lt k e).1;have:=uh P;omega);have hz4w:=(uh F).size;have hal4:(v++H).length<=360010:=by rw[yh];omega
      have HAL:Hid ((v++H).length<=8*j+6):=by show _<=_;rw[yh];have:=uh HA;omega
      clear z g a l R d J;generalize v++H=D at *;have f:Hid (w.grownBy (G.alloc (.cells #[.int .u8 (c:Int),.int .u8 32] 5)) (some rb)):=ZD (uh F) (World.grownBy_alloc G _ _);have K:Hid (zR (G.alloc (.cells #[.int .u8 (c:Int),.int .u8 32] 5)) B rb):=(uh N).grown (World.grownBy_alloc G _ none) (by simp) (fun _ e=>by cases e);have b:=u.alloc (.cells #[.int .u8 (c:Int),.int .u8 32] 5);go_wp2_with (at_builtin;refine wpList_append_own _ rfl (.tmp 72) (.tmp 74) 22 rfl w.heap.size 5 i0 (.int .u8 0) 1 1 underlying22 S T U V rfl (by decide) _ _ _ rfl b ⟨G.heap.size,0,none⟩ 2 2 [.int .u8 (c:Int),.int .u8 32] rfl rfl (Jw _ _ _ _) (JQ _ _ _) (by rw[yL];unfold maxLen;omega) (by rw[yL];omega) (by simp;omega) ?_);intro v6 w6 A i _;have C:=ZY (m:=[UInt8.ofNat c,32]) A (by simp[Lib.byteCells,Nat.mod_eq_of_lt O]) rfl;have X:Hid (w.grownBy w6 (some rb)):=⟨i.os.trans (uh f).os,i.tape.trans (uh f).tape,i.output.trans (uh f).output,yQ (uh f).size i.size,fun k hk hne=>(i.block k (yF hk (uh f).size) (fun e=>by have:=(b.lt k e.symm).1;omega)).trans ((uh f).block k hk hne)⟩;have Y:Hid (zR w6 B rb):=(uh K).grown i (fun e=>by have:=(b.lt rb e.symm).1;omega) (fun k e=>by have:=(b.lt k e).1;have:=uh P;omega);have HQ:Hid ((D++[UInt8.ofNat c,32]).length<=8*(j+1)):=by show _<=_;rw[yh];have:=uh HAL;simp;omega
      clear A i b u f K F N;go_wp2;go_roundw
      all_goals first
       | exact⟨j+1,D++[UInt8.ofNat c,32],by go_num,by omega,uh HQ,C,uh Y,uh X⟩
       |(simp[intOf];omega)
     ·have f91:((c:Int) ==91)=false:=by rw[yd];omega
      have f93:((c:Int) ==93)=true:=by rw[yD];omega
      clear h;obtain⟨L,Z,R,q,o,M,hs3⟩:=Ws W ((⟨#[10,9,32,13,32,32]⟩:Bs).extract 0 y);have a:=M _ _ _ _ _ E;have hel:((⟨#[10,9,32,13,32,32]⟩:Bs).extract 0 y).data.toList.length<=6:=by
       have z6:(⟨#[10,9,32,13,32,32]⟩:Bs).size=6:=rfl;rw[Zg];simp;omega
      have l:=ze q;have d:=ze (ZD (uh I) (qI (r:=some rb) (w1:=Z) ⟨o.os,o.tape,o.output,o.size,o.block⟩));have J:Hid (zR Z B rb):=(uh Q).grown (qI (r:=none) (w1:=Z) ⟨o.os,o.tape,o.output,o.size,o.block⟩) (by simp) (fun _ e=>by cases e);have hz2w:=(uh I).size;clear q M o HNX E Q I r2 g2 HR HG;generalize ((⟨#[10,9,32,13,32,32]⟩:Bs).extract 0 y).data.toList=H at *;go_wp2_with (at_builtin;refine wpList_append_own _ rfl (.tmp 68) (.tmp 70) 22 rfl w.heap.size 5 i0 (.int .u8 0) 1 1 underlying22 S T U V rfl (by decide) _ _ _ rfl a ⟨W.heap.size,0,none⟩ H.length L (Lib.byteCells H) rfl (by rw[yL];omega) (by exact uh l) (Yi _) (by rw[yL];unfold maxLen;omega) (by rw[yL];omega) (by omega) ?_);intro v4 G z g _;have u:=ZY (m:=H) z rfl rfl;have F:Hid (w.grownBy G (some rb)):=⟨g.os.trans (uh d).os,g.tape.trans (uh d).tape,g.output.trans (uh d).output,yQ (uh d).size g.size,fun k hk hne=>(g.block k (yF hk (uh d).size) (fun e=>by have:=(a.lt k e.symm).1;omega)).trans ((uh d).block k hk hne)⟩;have N:Hid (zR G B rb):=(uh J).grown g (fun e=>by have:=(a.lt rb e.symm).1;omega) (fun k e=>by have:=(a.lt k e).1;have:=uh P;omega);have hz4w:=(uh F).size;have hal4:(v++H).length<=360010:=by rw[yh];omega
      have HAL:Hid ((v++H).length<=8*j+6):=by show _<=_;rw[yh];have:=uh HA;omega
      clear z g a l R d J;generalize v++H=D at *;have f:Hid (w.grownBy (G.alloc (.cells #[.int .u8 (c:Int),.int .u8 32] 5)) (some rb)):=ZD (uh F) (World.grownBy_alloc G _ _);have K:Hid (zR (G.alloc (.cells #[.int .u8 (c:Int),.int .u8 32] 5)) B rb):=(uh N).grown (World.grownBy_alloc G _ none) (by simp) (fun _ e=>by cases e);have b:=u.alloc (.cells #[.int .u8 (c:Int),.int .u8 32] 5);go_wp2_with (at_builtin;refine wpList_append_own _ rfl (.tmp 72) (.tmp 74) 22 rfl w.heap.size 5 i0 (.int .u8 0) 1 1 underlying22 S T U V rfl (by decide) _ _ _ rfl b ⟨G.heap.size,0,none⟩ 2 2 [.int .u8 (c:Int),.int .u8 32] rfl rfl (Jw _ _ _ _) (JQ _ _ _) (by rw[yL];unfold maxLen;omega) (by rw[yL];omega) (by simp;omega) ?_);intro v6 w6 A i _;have C:=ZY (m:=[UInt8.ofNat c,32]) A (by simp[Lib.byteCells,Nat.mod_eq_of_lt O]) rfl;have X:Hid (w.grownBy w6 (some rb)):=⟨i.os.trans (uh f).os,i.tape.trans (uh f).tape,i.output.trans (uh f).output,yQ (uh f).size i.size,fun k hk hne=>(i.block k (yF hk (uh f).size) (fun e=>by have:=(b.lt k e.symm).1;omega)).trans ((uh f).block k hk hne)⟩;have Y:Hid (zR w6 B rb):=(uh K).grown i (fun e=>by have:=(b.lt rb e.symm).1;omega) (fun k e=>by have:=(b.lt k e).1;have:=uh P;omega);have HQ:Hid ((D++[UInt8.ofNat c,32]).length<=8*(j+1)):=by show _<=_;rw[yh];have:=uh HAL;simp;omega
      clear A i b u f K F N;go_wp2;go_roundw
      all_goals first
       | exact⟨j+1,D++[UInt8.ofNat c,32],by go_num,by omega,uh HQ,C,uh Y,uh X⟩
       |(simp[intOf];omega)
     ·have f91:((c:Int) ==91)=false:=by rw[yd];omega
      have f93:((c:Int) ==93)=false:=by rw[yd];omega
      have f123:((c:Int) ==123)=true:=by rw[yD];omega
      clear h;obtain⟨L,Z,R,q,o,M,hs3⟩:=Ws W ((⟨#[10,9,32,13,32,32]⟩:Bs).extract 0 y);have a:=M _ _ _ _ _ E;have hel:((⟨#[10,9,32,13,32,32]⟩:Bs).extract 0 y).data.toList.length<=6:=by
       have z6:(⟨#[10,9,32,13,32,32]⟩:Bs).size=6:=rfl;rw[Zg];simp;omega
      have l:=ze q;have d:=ze (ZD (uh I) (qI (r:=some rb) (w1:=Z) ⟨o.os,o.tape,o.output,o.size,o.block⟩));have J:Hid (zR Z B rb):=(uh Q).grown (qI (r:=none) (w1:=Z) ⟨o.os,o.tape,o.output,o.size,o.block⟩) (by simp) (fun _ e=>by cases e);have hz2w:=(uh I).size;clear q M o HNX E Q I r2 g2 HR HG;generalize ((⟨#[10,9,32,13,32,32]⟩:Bs).extract 0 y).data.toList=H at *;go_wp2_with (at_builtin;refine wpList_append_own _ rfl (.tmp 68) (.tmp 70) 22 rfl w.heap.size 5 i0 (.int .u8 0) 1 1 underlying22 S T U V rfl (by decide) _ _ _ rfl a ⟨W.heap.size,0,none⟩ H.length L (Lib.byteCells H) rfl (by rw[yL];omega) (by exact uh l) (Yi _) (by rw[yL];unfold maxLen;omega) (by rw[yL];omega) (by omega) ?_);intro v4 G z g _;have u:=ZY (m:=H) z rfl rfl;have F:Hid (w.grownBy G (some rb)):=⟨g.os.trans (uh d).os,g.tape.trans (uh d).tape,g.output.trans (uh d).output,yQ (uh d).size g.size,fun k hk hne=>(g.block k (yF hk (uh d).size) (fun e=>by have:=(a.lt k e.symm).1;omega)).trans ((uh d).block k hk hne)⟩;have N:Hid (zR G B rb):=(uh J).grown g (fun e=>by have:=(a.lt rb e.symm).1;omega) (fun k e=>by have:=(a.lt k e).1;have:=uh P;omega);have hz4w:=(uh F).size;have hal4:(v++H).length<=360010:=by rw[yh];omega
      have HAL:Hid ((v++H).length<=8*j+6):=by show _<=_;rw[yh];have:=uh HA;omega
      clear z g a l R d J;generalize v++H=D at *;have f:Hid (w.grownBy (G.alloc (.cells #[.int .u8 (c:Int),.int .u8 32] 5)) (some rb)):=ZD (uh F) (World.grownBy_alloc G _ _);have K:Hid (zR (G.alloc (.cells #[.int .u8 (c:Int),.int .u8 32] 5)) B rb):=(uh N).grown (World.grownBy_alloc G _ none) (by simp) (fun _ e=>by cases e);have b:=u.alloc (.cells #[.int .u8 (c:Int),.int .u8 32] 5);go_wp2_with (at_builtin;refine wpList_append_own _ rfl (.tmp 72) (.tmp 74) 22 rfl w.heap.size 5 i0 (.int .u8 0) 1 1 underlying22 S T U V rfl (by decide) _ _ _ rfl b ⟨G.heap.size,0,none⟩ 2 2 [.int .u8 (c:Int),.int .u8 32] rfl rfl (Jw _ _ _ _) (JQ _ _ _) (by rw[yL];unfold maxLen;omega) (by rw[yL];omega) (by simp;omega) ?_);intro v6 w6 A i _;have C:=ZY (m:=[UInt8.ofNat c,32]) A (by simp[Lib.byteCells,Nat.mod_eq_of_lt O]) rfl;have X:Hid (w.grownBy w6 (some rb)):=⟨i.os.trans (uh f).os,i.tape.trans (uh f).tape,i.output.trans (uh f).output,yQ (uh f).size i.size,fun k hk hne=>(i.block k (yF hk (uh f).size) (fun e=>by have:=(b.lt k e.symm).1;omega)).trans ((uh f).block k hk hne)⟩;have Y:Hid (zR w6 B rb):=(uh K).grown i (fun e=>by have:=(b.lt rb e.symm).1;omega) (fun k e=>by have:=(b.lt k e).1;have:=uh P;omega);have HQ:Hid ((D++[UInt8.ofNat c,32]).length<=8*(j+1)):=by show _<=_;rw[yh];have:=uh HAL;simp;omega
      clear A i b u f K F N;go_wp2;go_roundw
      all_goals first
       | exact⟨j+1,D++[UInt8.ofNat c,32],by go_num,by omega,uh HQ,C,uh Y,uh X⟩
       |(simp[intOf];omega)
     ·have f91:((c:Int) ==91)=false:=by rw[yd];omega
      have f93:((c:Int) ==93)=false:=by rw[yd];omega
      have f123:((c:Int) ==123)=false:=by rw[yd];omega
      have f125:((c:Int) ==125)=true:=by rw[yD];omega
      clear h;obtain⟨L,Z,R,q,o,M,hs3⟩:=Ws W ((⟨#[10,9,32,13,32,32]⟩:Bs).extract 0 y);have a:=M _ _ _ _ _ E;have hel:((⟨#[10,9,32,13,32,32]⟩:Bs).extract 0 y).data.toList.length<=6:=by
       have z6:(⟨#[10,9,32,13,32,32]⟩:Bs).size=6:=rfl;rw[Zg];simp;omega
      have l:=ze q;have d:=ze (ZD (uh I) (qI (r:=some rb) (w1:=Z) ⟨o.os,o.tape,o.output,o.size,o.block⟩));have J:Hid (zR Z B rb):=(uh Q).grown (qI (r:=none) (w1:=Z) ⟨o.os,o.tape,o.output,o.size,o.block⟩) (by simp) (fun _ e=>by cases e);have hz2w:=(uh I).size;clear q M o HNX E Q I r2 g2 HR HG;generalize ((⟨#[10,9,32,13,32,32]⟩:Bs).extract 0 y).data.toList=H at *;go_wp2_with (at_builtin;refine wpList_append_own _ rfl (.tmp 68) (.tmp 70) 22 rfl w.heap.size 5 i0 (.int .u8 0) 1 1 underlying22 S T U V rfl (by decide) _ _ _ rfl a ⟨W.heap.size,0,none⟩ H.length L (Lib.byteCells H) rfl (by rw[yL];omega) (by exact uh l) (Yi _) (by rw[yL];unfold maxLen;omega) (by rw[yL];omega) (by omega) ?_);intro v4 G z g _;have u:=ZY (m:=H) z rfl rfl;have F:Hid (w.grownBy G (some rb)):=⟨g.os.trans (uh d).os,g.tape.trans (uh d).tape,g.output.trans (uh d).output,yQ (uh d).size g.size,fun k hk hne=>(g.block k (yF hk (uh d).size) (fun e=>by have:=(a.lt k e.symm).1;omega)).trans ((uh d).block k hk hne)⟩;have N:Hid (zR G B rb):=(uh J).grown g (fun e=>by have:=(a.lt rb e.symm).1;omega) (fun k e=>by have:=(a.lt k e).1;have:=uh P;omega);have hz4w:=(uh F).size;have hal4:(v++H).length<=360010:=by rw[yh];omega
      have HAL:Hid ((v++H).length<=8*j+6):=by show _<=_;rw[yh];have:=uh HA;omega
      clear z g a l R d J;generalize v++H=D at *;have f:Hid (w.grownBy (G.alloc (.cells #[.int .u8 (c:Int),.int .u8 32] 5)) (some rb)):=ZD (uh F) (World.grownBy_alloc G _ _);have K:Hid (zR (G.alloc (.cells #[.int .u8 (c:Int),.int .u8 32] 5)) B rb):=(uh N).grown (World.grownBy_alloc G _ none) (by simp) (fun _ e=>by cases e);have b:=u.alloc (.cells #[.int .u8 (c:Int),.int .u8 32] 5);go_wp2_with (at_builtin;refine wpList_append_own _ rfl (.tmp 72) (.tmp 74) 22 rfl w.heap.size 5 i0 (.int .u8 0) 1 1 underlying22 S T U V rfl (by decide) _ _ _ rfl b ⟨G.heap.size,0,none⟩ 2 2 [.int .u8 (c:Int),.int .u8 32] rfl rfl (Jw _ _ _ _) (JQ _ _ _) (by rw[yL];unfold maxLen;omega) (by rw[yL];omega) (by simp;omega) ?_);intro v6 w6 A i _;have C:=ZY (m:=[UInt8.ofNat c,32]) A (by simp[Lib.byteCells,Nat.mod_eq_of_lt O]) rfl;have X:Hid (w.grownBy w6 (some rb)):=⟨i.os.trans (uh f).os,i.tape.trans (uh f).tape,i.output.trans (uh f).output,yQ (uh f).size i.size,fun k hk hne=>(i.block k (yF hk (uh f).size) (fun e=>by have:=(b.lt k e.symm).1;omega)).trans ((uh f).block k hk hne)⟩;have Y:Hid (zR w6 B rb):=(uh K).grown i (fun e=>by have:=(b.lt rb e.symm).1;omega) (fun k e=>by have:=(b.lt k e).1;have:=uh P;omega);have HQ:Hid ((D++[UInt8.ofNat c,32]).length<=8*(j+1)):=by show _<=_;rw[yh];have:=uh HAL;simp;omega
      clear A i b u f K F N;go_wp2;go_roundw
      all_goals first
       | exact⟨j+1,D++[UInt8.ofNat c,32],by go_num,by omega,uh HQ,C,uh Y,uh X⟩
       |(simp[intOf];omega)
     ·have f91:((c:Int) ==91)=false:=by rw[yd];omega
      have f93:((c:Int) ==93)=false:=by rw[yd];omega
      have f123:((c:Int) ==123)=false:=by rw[yd];omega
      have f125:((c:Int) ==125)=false:=by rw[yd];omega
      have f44:((c:Int) ==44)=true:=by rw[yD];omega
      clear h;obtain⟨L,Z,R,q,o,M,hs3⟩:=Ws W ((⟨#[10,9,32,13,32,32]⟩:Bs).extract 0 y);have a:=M _ _ _ _ _ E;have hel:((⟨#[10,9,32,13,32,32]⟩:Bs).extract 0 y).data.toList.length<=6:=by
       have z6:(⟨#[10,9,32,13,32,32]⟩:Bs).size=6:=rfl;rw[Zg];simp;omega
      have l:=ze q;have d:=ze (ZD (uh I) (qI (r:=some rb) (w1:=Z) ⟨o.os,o.tape,o.output,o.size,o.block⟩));have J:Hid (zR Z B rb):=(uh Q).grown (qI (r:=none) (w1:=Z) ⟨o.os,o.tape,o.output,o.size,o.block⟩) (by simp) (fun _ e=>by cases e);have hz2w:=(uh I).size;clear q M o HNX E Q I r2 g2 HR HG;generalize ((⟨#[10,9,32,13,32,32]⟩:Bs).extract 0 y).data.toList=H at *;go_wp2_with (at_builtin;refine wpList_append_own _ rfl (.tmp 68) (.tmp 70) 22 rfl w.heap.size 5 i0 (.int .u8 0) 1 1 underlying22 S T U V rfl (by decide) _ _ _ rfl a ⟨W.heap.size,0,none⟩ H.length L (Lib.byteCells H) rfl (by rw[yL];omega) (by exact uh l) (Yi _) (by rw[yL];unfold maxLen;omega) (by rw[yL];omega) (by omega) ?_);intro v4 G z g _;have u:=ZY (m:=H) z rfl rfl;have F:Hid (w.grownBy G (some rb)):=⟨g.os.trans (uh d).os,g.tape.trans (uh d).tape,g.output.trans (uh d).output,yQ (uh d).size g.size,fun k hk hne=>(g.block k (yF hk (uh d).size) (fun e=>by have:=(a.lt k e.symm).1;omega)).trans ((uh d).block k hk hne)⟩;have N:Hid (zR G B rb):=(uh J).grown g (fun e=>by have:=(a.lt rb e.symm).1;omega) (fun k e=>by have:=(a.lt k e).1;have:=uh P;omega);have hz4w:=(uh F).size;have hal4:(v++H).length<=360010:=by rw[yh];omega
      have HAL:Hid ((v++H).length<=8*j+6):=by show _<=_;rw[yh];have:=uh HA;omega
      clear z g a l R d J;generalize v++H=D at *;have f:Hid (w.grownBy (G.alloc (.cells #[.int .u8 (c:Int),.int .u8 32] 5)) (some rb)):=ZD (uh F) (World.grownBy_alloc G _ _);have K:Hid (zR (G.alloc (.cells #[.int .u8 (c:Int),.int .u8 32] 5)) B rb):=(uh N).grown (World.grownBy_alloc G _ none) (by simp) (fun _ e=>by cases e);have b:=u.alloc (.cells #[.int .u8 (c:Int),.int .u8 32] 5);go_wp2_with (at_builtin;refine wpList_append_own _ rfl (.tmp 72) (.tmp 74) 22 rfl w.heap.size 5 i0 (.int .u8 0) 1 1 underlying22 S T U V rfl (by decide) _ _ _ rfl b ⟨G.heap.size,0,none⟩ 2 2 [.int .u8 (c:Int),.int .u8 32] rfl rfl (Jw _ _ _ _) (JQ _ _ _) (by rw[yL];unfold maxLen;omega) (by rw[yL];omega) (by simp;omega) ?_);intro v6 w6 A i _;have C:=ZY (m:=[UInt8.ofNat c,32]) A (by simp[Lib.byteCells,Nat.mod_eq_of_lt O]) rfl;have X:Hid (w.grownBy w6 (some rb)):=⟨i.os.trans (uh f).os,i.tape.trans (uh f).tape,i.output.trans (uh f).output,yQ (uh f).size i.size,fun k hk hne=>(i.block k (yF hk (uh f).size) (fun e=>by have:=(b.lt k e.symm).1;omega)).trans ((uh f).block k hk hne)⟩;have Y:Hid (zR w6 B rb):=(uh K).grown i (fun e=>by have:=(b.lt rb e.symm).1;omega) (fun k e=>by have:=(b.lt k e).1;have:=uh P;omega);have HQ:Hid ((D++[UInt8.ofNat c,32]).length<=8*(j+1)):=by show _<=_;rw[yh];have:=uh HAL;simp;omega
      clear A i b u f K F N;go_wp2;go_roundw
      all_goals first
       | exact⟨j+1,D++[UInt8.ofNat c,32],by go_num,by omega,uh HQ,C,uh Y,uh X⟩
       |(simp[intOf];omega)
     ·have f91:((c:Int) ==91)=false:=by rw[yd];omega
      have f93:((c:Int) ==93)=false:=by rw[yd];omega
      have f123:((c:Int) ==123)=false:=by rw[yd];omega
      have f125:((c:Int) ==125)=false:=by rw[yd];omega
      have f44:((c:Int) ==44)=false:=by rw[yd];omega
      have f58:((c:Int) ==58)=true:=by rw[yD];omega
      clear h;obtain⟨L,Z,R,q,o,M,hs3⟩:=Ws W ((⟨#[10,9,32,13,32,32]⟩:Bs).extract 0 y);have a:=M _ _ _ _ _ E;have hel:((⟨#[10,9,32,13,32,32]⟩:Bs).extract 0 y).data.toList.length<=6:=by
       have z6:(⟨#[10,9,32,13,32,32]⟩:Bs).size=6:=rfl;rw[Zg];simp;omega
      have l:=ze q;have d:=ze (ZD (uh I) (qI (r:=some rb) (w1:=Z) ⟨o.os,o.tape,o.output,o.size,o.block⟩));have J:Hid (zR Z B rb):=(uh Q).grown (qI (r:=none) (w1:=Z) ⟨o.os,o.tape,o.output,o.size,o.block⟩) (by simp) (fun _ e=>by cases e);have hz2w:=(uh I).size;clear q M o HNX E Q I r2 g2 HR HG;generalize ((⟨#[10,9,32,13,32,32]⟩:Bs).extract 0 y).data.toList=H at *;go_wp2_with (at_builtin;refine wpList_append_own _ rfl (.tmp 68) (.tmp 70) 22 rfl w.heap.size 5 i0 (.int .u8 0) 1 1 underlying22 S T U V rfl (by decide) _ _ _ rfl a ⟨W.heap.size,0,none⟩ H.length L (Lib.byteCells H) rfl (by rw[yL];omega) (by exact uh l) (Yi _) (by rw[yL];unfold maxLen;omega) (by rw[yL];omega) (by omega) ?_);intro v4 G z g _;have u:=ZY (m:=H) z rfl rfl;have F:Hid (w.grownBy G (some rb)):=⟨g.os.trans (uh d).os,g.tape.trans (uh d).tape,g.output.trans (uh d).output,yQ (uh d).size g.size,fun k hk hne=>(g.block k (yF hk (uh d).size) (fun e=>by have:=(a.lt k e.symm).1;omega)).trans ((uh d).block k hk hne)⟩;have N:Hid (zR G B rb):=(uh J).grown g (fun e=>by have:=(a.lt rb e.symm).1;omega) (fun k e=>by have:=(a.lt k e).1;have:=uh P;omega);have hz4w:=(uh F).size;have hal4:(v++H).length<=360010:=by rw[yh];omega
      have HAL:Hid ((v++H).length<=8*j+6):=by show _<=_;rw[yh];have:=uh HA;omega
      clear z g a l R d J;generalize v++H=D at *;have f:Hid (w.grownBy (G.alloc (.cells #[.int .u8 (c:Int),.int .u8 32] 5)) (some rb)):=ZD (uh F) (World.grownBy_alloc G _ _);have K:Hid (zR (G.alloc (.cells #[.int .u8 (c:Int),.int .u8 32] 5)) B rb):=(uh N).grown (World.grownBy_alloc G _ none) (by simp) (fun _ e=>by cases e);have b:=u.alloc (.cells #[.int .u8 (c:Int),.int .u8 32] 5);go_wp2_with (at_builtin;refine wpList_append_own _ rfl (.tmp 72) (.tmp 74) 22 rfl w.heap.size 5 i0 (.int .u8 0) 1 1 underlying22 S T U V rfl (by decide) _ _ _ rfl b ⟨G.heap.size,0,none⟩ 2 2 [.int .u8 (c:Int),.int .u8 32] rfl rfl (Jw _ _ _ _) (JQ _ _ _) (by rw[yL];unfold maxLen;omega) (by rw[yL];omega) (by simp;omega) ?_);intro v6 w6 A i _;have C:=ZY (m:=[UInt8.ofNat c,32]) A (by simp[Lib.byteCells,Nat.mod_eq_of_lt O]) rfl;have X:Hid (w.grownBy w6 (some rb)):=⟨i.os.trans (uh f).os,i.tape.trans (uh f).tape,i.output.trans (uh f).output,yQ (uh f).size i.size,fun k hk hne=>(i.block k (yF hk (uh f).size) (fun e=>by have:=(b.lt k e.symm).1;omega)).trans ((uh f).block k hk hne)⟩;have Y:Hid (zR w6 B rb):=(uh K).grown i (fun e=>by have:=(b.lt rb e.symm).1;omega) (fun k e=>by have:=(b.lt k e).1;have:=uh P;omega);have HQ:Hid ((D++[UInt8.ofNat c,32]).length<=8*(j+1)):=by show _<=_;rw[yh];have:=uh HAL;simp;omega
      clear A i b u f K F N;go_wp2;go_roundw
      all_goals first
       | exact⟨j+1,D++[UInt8.ofNat c,32],by go_num,by omega,uh HQ,C,uh Y,uh X⟩
       |(simp[intOf];omega)
    ·have f91:((c:Int) ==91)=false:=by rw[yd];omega
     have f93:((c:Int) ==93)=false:=by rw[yd];omega
     have f123:((c:Int) ==123)=false:=by rw[yd];omega
     have f125:((c:Int) ==125)=false:=by rw[yd];omega
     have f44:((c:Int) ==44)=false:=by rw[yd];omega
     have f58:((c:Int) ==58)=false:=by rw[yd];omega
     clear hbr;have f:Hid (w.grownBy (W.alloc (.cells #[.int .u8 (c:Int)] 5)) (some rb)):=ZD (uh I) (World.grownBy_alloc W _ _);have K:Hid (zR (W.alloc (.cells #[.int .u8 (c:Int)] 5)) B rb):=(uh Q).grown (World.grownBy_alloc W _ none) (by simp) (fun _ e=>by cases e);have b:=E.alloc (.cells #[.int .u8 (c:Int)] 5);have hz2w:=(uh I).size;clear HNX Q I r2 g2 HR HG;go_wp2_with (at_builtin;refine wpList_append_own _ rfl (.tmp 76) (.tmp 78) 22 rfl w.heap.size 5 i0 (.int .u8 0) 1 1 underlying22 S T U V rfl (by decide) _ _ _ rfl b ⟨W.heap.size,0,none⟩ 1 1 [.int .u8 (c:Int)] rfl rfl (Qi _ _ _) (YH _ _) (by rw[yL];unfold maxLen;omega) (by rw[yL];omega) (by simp;omega) ?_);intro v6 w6 A i _;have C:=ZY (m:=[UInt8.ofNat c]) A (by simp[Lib.byteCells,Nat.mod_eq_of_lt O]) rfl;have X:Hid (w.grownBy w6 (some rb)):=⟨i.os.trans (uh f).os,i.tape.trans (uh f).tape,i.output.trans (uh f).output,yQ (uh f).size i.size,fun k hk hne=>(i.block k (yF hk (uh f).size) (fun e=>by have:=(b.lt k e.symm).1;omega)).trans ((uh f).block k hk hne)⟩;have Y:Hid (zR w6 B rb):=(uh K).grown i (fun e=>by have:=(b.lt rb e.symm).1;omega) (fun k e=>by have:=(b.lt k e).1;have:=uh P;omega);have HQ:Hid ((v++[UInt8.ofNat c]).length<=8*(j+1)):=by show _<=_;rw[yh];have:=uh HA;simp;omega
     clear A i b E f K;go_wp2;go_roundw
     all_goals first
      | exact⟨j+1,v++[UInt8.ofNat c],by go_num,by omega,uh HQ,C,uh Y,uh X⟩
      |(simp[intOf];omega)
  ·have t1:((j:Int)<(s.size:Int))=False:=yR (by omega);have HQ:Hid (v.length<=8*s.size):=by have:=uh HA;show _<=_;omega
   have R:=Gg hown;clear hown;go_wp2;go_ret;exact⟨v,uh HQ,rfl,uh HR,uh HG⟩
theorem D3(w:Wo)(rb i:Nat)(z:Value):w.grownBy (w.setCell ⟨rb,i,none⟩ z) (some rb):=
 ⟨rfl,rfl,rfl,by simp[World.setCell],fun k _ hne=>Below.heap_setCell w ⟨rb,i,none⟩ z k (fun e=>hne (by rw[e]))⟩
theorem zR.p1{w:Wo}{B rb:Nat}(h:zR w B rb):(∃ p:Int,w.cell? ⟨rb,1,none⟩=some (.int .i64 p))/\w.frozen? ⟨rb,1,none⟩=false:=by
 obtain⟨a,c,p,l,d,f,b,_⟩:=h;exact⟨⟨p,by rw[yG b];rfl⟩,yJ b 1⟩
def Yj(v:JV)(ts:List (List UInt8)):Value:=match zr v ts with
 | some u=>.tuple #[.string (zh (ct u)),.bool true]
 | none=>.tuple #[.string ⟨#[]⟩,.bool false]
theorem XS(v:JV)(hok:zD v)(htw:zw v=false)(hl:(ct v).length<=1000000)(a:Option Addr)(g off cap:Nat)(ts:List (List UInt8))(w:Wo)(hs:SS w a g off (ts.map zH))(hn:ts.length<=1048577)(ht:∀ t∈ts,t.length<=1048576):
  Calls prog 100 #[.string (zh (ct v)),.slice a ts.length cap] w fun e w'=>e= .returned (Yj v ts)/\Bw w w':=by
 have h:=hs.ad;have G:=ze hs;rw[yl]at h;have i:Hid (∀ (u:JV) (k:Nat) (J:k<ts.length) (w:Wo),zD u->zw u=false->(ct u).length<=1000000->Calls prog 151 #[.string (zh (ct u)),.string (zh ts[k])] w fun e w'=>Bw w w'/\J7 u ts[k] e):=fun u k J w o1 o2 o3=>Nx u o1 o2 ts[k] (ht _ (yt J)) w o3;have m:Hid (∀ (u:JV) (w:Wo),zD u->(ct u).length<=1000000->Calls prog 74 #[.string (zh (ct u))] w fun e w'=>∃ r,e= .returned r/\PR w' w.heap.size r (zt u)/\Bw w w'):=fun u w o1 o2=>Wq u o1 w o2;clear hs ht;go_in;go_wp2;go_loopw [0,6] (fun sv iv wr=>∃ (k:Nat) (u:JV),k<=ts.length/\iv= .int .i64 (k:Int)/\sv= .string (zh (ct u))/\zr v (ts.take k)=some u/\zD u/\zw u=false/\(ct u).length<=1000000/\Bw w wr) (fun _ iv _=>ts.length - (intOf iv).toNat)
 case atStart=>exact⟨0,v,yu _,rfl,rfl,rfl,hok,htw,hl,yI _ _⟩
 case round=>
  obtain⟨k,u,J,rfl,rfl,s,K,A,y,E⟩:=hrel;have C:=ze s;have F:=ze E;by_cases b:k<ts.length
  ·have N:(k:Int)<(ts.length:Int):=by omega
   obtain rfl:=h (by omega);have f:=((uh G).below E).cell k (by rw[yl];exact b);rw[XQ b]at f;have x:zH (ts.getD k [])=zh ts[k]:=by simp[List.getD,b,zH,zh]
   rw[x]at f;have HC:=ze (uh i u k b wr K A y);have o:Hid (zn u ts[k]=none->Yj v ts= .tuple #[.string ⟨#[]⟩,.bool false]):=fun hc=>by unfold Yj;rw[TN b s hc]
   have l:Hid (∀ d,zn u ts[k]=some d->zr v (ts.take (k+1))=some d/\zD d/\zw d=false/\(ct d).length<=1000000):=fun d hc=>by
    obtain⟨c1,c2,c3,_⟩:=Y8 hc K A;exact⟨by rw[Ry b s];exact hc,c1,c2,by omega⟩
   have n:Hid (∀ w,Calls prog 74 #[.string (zh (ct u))] w fun e w'=>∃ r,e= .returned r/\PR w' w.heap.size r (zt u)/\Bw w w'):=fun w=>uh m u w K y;generalize zh (ct u)=X at *;generalize zh ts[k]=st at *;clear s E C i m x;go_wp2_with fail;refine (uh HC).mono ?_;rintro e w1 ⟨I,⟨rfl,p⟩ |⟨j,V,d,rfl,q,z,-⟩⟩
   ·have H:=ze (uh o p);have B:=zi (uh F) I;clear HC o l n f p;go_wp2;go_ret2;exact⟨by rw[uh H];rfl,B⟩
   ·obtain⟨O,P,Q,R⟩:=uh l d q;have B:=ze (zi (uh F) I);have D:=ze (⟨O,P,Q,R⟩:zr v (ts.take (k+1))=some d/\zD d/\zw d=false/\(ct d).length<=1000000);have tj:¬ (j:Int)<0:=by omega
    clear HC o l f q O P Q R I;go_wp2_with fail;refine (uh n _).mono ?_;rintro e w2 ⟨r2,rfl,S,L⟩;obtain⟨Y,M,U,_,_,c0,c1⟩:=S.cells j V;subst U;rw[z]at c1;have W:(j:Int)<((zt u).length:Int):=by omega
    have T:=ze (zi (uh B) L);clear n S L B c0 z;generalize (zt u).length=Z at *;go_wp2;go_roundw
    case rel=>exact⟨k+1,d,by omega,by go_num,rfl,(uh D).1,(uh D).2.1,(uh D).2.2.1,(uh D).2.2.2,uh T⟩
    case measure=>simp[intOf];omega
  ·have e:ts.take k=ts:=yr (by omega);rw[e]at C;have H:Hid (Yj v ts= .tuple #[.string (zh (ct u)),.bool true]):=by show _=_;unfold Yj;rw[uh C]
   generalize zh (ct u)=X at *;clear s E C i m e;go_wp2;go_ret2;exact⟨by rw[uh H];rfl,uh F⟩
theorem Ht{B1:Nat}(v:JV)(hok:zD v)(htw:zw v=false)(hl:(ct v).length<=1000000)(r:Value)(ts:List (List UInt8))(w:Wo)(h:OT w B1 r ts)(hn:ts.length<=1048577)(ht:∀ t∈ts,t.length<=1048576):
  Calls prog 100 #[.string (zh (ct v)),r] w fun e w'=>e= .returned (Yj v ts)/\Bw w w':=by
 obtain⟨a,g,b,rfl,d,_⟩:=h.shape;exact XS v hok htw hl a g 0 b ts w d hn ht
theorem Hu{ps:List (List UInt8)}:∀ {ts:List (List UInt8)},ps.mapM zQ=some ts->∀ t∈ts,∃ p∈ps,zQ p=some t:=by
 induction ps with
 | nil=>intro ts h t a;simp at h;subst h;simp at a
 | cons p ps ih=>
  intro ts h t a;rw[OR]at h
  cases hu:zQ p with
  | none=>rw[hu]at h;simp at h
  | some q=>
   cases hm:List.mapM zQ ps with
   | none=>rw[hu,hm]at h;simp at h
   | some us=>
    rw[hu,hm]at h;simp at h;subst h;rcases List.mem_cons.1 a with rfl | a
    ·exact⟨p,yq,hu⟩
    ·obtain⟨f,b,d⟩:=ih hm t a;exact⟨f,yw _ b,d⟩
theorem Hv:∀ (n:Nat) (p t:List UInt8),p.length<=n->zQ p=some t->t.length<=p.length:=by
 intro n;induction n with
 | zero=>intro p t b h;obtain rfl:=yO (Nat.le_zero.1 b);simp[zQ]at h;subst h;simp
 | succ n ih=>
  intro p t b h
  cases p with
  | nil=>simp[zQ]at h;subst h;simp
  | cons c r=>
   have fin:∀ (r':List UInt8) (x:List UInt8),r'.length<=r.length->x.length=1->(zQ r').map (x++·)=some t->t.length<=(c :: r).length:=fun r' x hr hx hm=>by
    cases hu:zQ r' with
    | none=>rw[hu]at hm;simp at hm
    | some u=>
     rw[hu]at hm;simp at hm;have:=ih r' u (by simp at b;omega) hu;rw[← hm];simp;omega
   by_cases a:(c.toNat:Int)=126
   ·cases r with
    | nil=>rw[U8 a]at h;cases h
    | cons d r=>
     by_cases f:(d.toNat:Int)=48
     ·rw[Uc r a f]at h;exact fin r [126] (by simp) rfl h
     ·by_cases g:(d.toNat:Int)=49
      ·rw[Ud r a g]at h;exact fin r [47] (by simp) rfl h
      ·rw[U9 r a f g]at h;cases h
   ·rw[Ub r a]at h;exact fin r [c] (ye _) rfl h
theorem Ny{l:List UInt8}{ts:List (List UInt8)}(h:zK l=some ts):∀ t∈ts,t.length<=l.length:=by
 intro t a
 cases l with
 | nil=>simp[zK]at h;subst h;simp at a
 | cons c r=>
  rw[zK]at h;split at h
  ·unfold Qq at h;obtain⟨p,b,d⟩:=Hu h t a;have f:=Hv _ p t (ye _) d;have g:=SV r p b;simp;omega
  ·cases h
def qy(ps:List zL)(p:Nat)(dr pu:Bool)(q:zL)(i:Nat):List zL:=
 (if i=p/\pu=true then [q]else [])++(if h:i<ps.length then (if i≠p∨dr=false then [ps[i]]else [])else [])
def Zn(ps:List zL)(p:Nat)(dr pu:Bool)(q:zL)(k:Nat):List zL:=(List.range k).flatMap (qy ps p dr pu q)
theorem Jz(ps:List zL)(p:Nat)(dr pu:Bool)(q:zL)(k:Nat):Zn ps p dr pu q (k+1)=Zn ps p dr pu q k++qy ps p dr pu q k:=by
 unfold Zn;rw[List.range_succ,List.flatMap_append,List.flatMap_singleton]
theorem Hw(ps:List zL)(p:Nat)(dr pu:Bool)(q:zL)(i:Nat):(qy ps p dr pu q i).length<=2:=by
 unfold qy;rw[yh]
 repeat' split
 all_goals simp
theorem Nz(ps:List zL)(p:Nat)(dr pu:Bool)(q:zL):∀ k,(Zn ps p dr pu q k).length<=2*k
 | 0=>by simp[Zn]
 | k+1=>by
  rw[Jz,yh];have:=Nz ps p dr pu q k;have:=Hw ps p dr pu q k;omega
theorem XT{v:JV}(h:zD v):0<(zh (ct v)).size:=by
 obtain⟨c,r,e,_⟩:=KY h;rw[zN,e];simp
def Y0(v:JV)(ps:List zL):List UInt8:=if kd v=5 then ZT (ps.map (·.2))else qb (zJ ps)
theorem Hx{v:JV}(h:zD v)(h0:0<(zh (ct v)).size):((((zh (ct v))[0]).toNat:Int) ==91)=(kd v ==5):=by
 obtain⟨c,r,e,f⟩:=KY h;have d:((zh (ct v))[0]).toNat=c.toNat:=by
  rw[← Zq _ 0 h0,e];exact (GJ (c:=c) (r:=r)).2
 rw[d,← f];unfold fb;by_cases b:c.toNat=91
 ·rw[b];rfl
 ·have a:((c.toNat:Int) ==91)=false:=by rw[yd];omega
  rw[a];symm;rw[yd]
  repeat (first |(split;omega) | split)
  all_goals omega
theorem NA (v:JV) (hok:zD v) (hl:(ct v).length<=1000000) (p:Nat) (dr pu:Bool) (q:zL) (w:Wo) (hp:p<=1000000)
  (hA:sumA (Zn (zt v) p dr pu q ((zt v).length+1))<=40000000) (hT:sumT (zJ (Zn (zt v) p dr pu q ((zt v).length+1)))<=40000000) (hk:∀ x∈zJ (Zn (zt v) p dr pu q ((zt v).length+1)),x.1.length<=1048576):
  Calls prog 153 #[.string (zh (ct v)),.int .i64 (p:Int),.bool dr,.bool pu,.agg #[.string (zh q.1),.string (zh q.2)]] w fun e w'=>e= .returned (.string (zh (Y0 v (Zn (zt v) p dr pu q ((zt v).length+1)))))/\Bw w w':=by
 obtain⟨i0,F,G,H,I⟩:=info_parts WG;have hpl:=Wr hok hl;have h0:0<(zh (ct v)).size:=XT hok;have h0I:(0:Int)<((zh (ct v)).size:Int):=by omega
 have L:=Hx hok h0;have kA:=yH w (.cells #[.string (zh q.1),.string (zh q.2)] 97);have bA:=Z0 w (.cells #[.string (zh q.1),.string (zh q.2)] 97);have zA:(w.alloc (.cells #[.string (zh q.1),.string (zh q.2)] 97)).heap.size=w.heap.size+1:=by simp
 have HP:=ze (Wq v hok (w.alloc (.cells #[.string (zh q.1),.string (zh q.2)] 97)) hl);have HKA:=ze kA;have HBA:=ze bA;have HZA:=ze zA;have hwl:=Nz (zt v) p dr pu q ((zt v).length+1);have P:Hid (∀ (r:Value) (B:Nat) (wx:Wo),PR wx B r (Zn (zt v) p dr pu q ((zt v).length+1))->Calls prog 57 #[r] wx (Rb (.string (zh (ZT ((Zn (zt v) p dr pu q ((zt v).length+1)).map (·.2))))) wx)):=fun r B wx h=>Ai B r _ wx h hA (by omega);have U:Hid (∀ (r:Value) (B:Nat) (wx:Wo),PR wx B r (Zn (zt v) p dr pu q ((zt v).length+1))->Calls prog 107 #[r] wx fun e w'=>∃ v',e= .returned v'/\PR w' wx.heap.size v' (zJ (Zn (zt v) p dr pu q ((zt v).length+1)))/\Bw wx w'):=fun r B wx h=>MS B r _ wx h (by omega);have hil:(zJ (Zn (zt v) p dr pu q ((zt v).length+1))).length<=40000000:=by rw[(qw _).length_eq];omega
 have Q:Hid (∀ (r:Value) (B:Nat) (wx:Wo),PR wx B r (zJ (Zn (zt v) p dr pu q ((zt v).length+1)))->Calls prog 106 #[r] wx (Rb (.string (zh (qb (zJ (Zn (zt v) p dr pu q ((zt v).length+1)))))) wx)):=fun r B wx h=>ON B r _ wx h hT hil hk;have N:Hid (kd v=5->Y0 v (Zn (zt v) p dr pu q ((zt v).length+1))=ZT ((Zn (zt v) p dr pu q ((zt v).length+1)).map (·.2))):=fun h=>by unfold Y0;rw[yg h]
 have O:Hid (¬ kd v=5->Y0 v (Zn (zt v) p dr pu q ((zt v).length+1))=qb (zJ (Zn (zt v) p dr pu q ((zt v).length+1)))):=fun h=>by unfold Y0;rw[yf h]
 clear kA bA zA hA hT hk hok hl hil hwl;generalize kd v=K at *;generalize Y0 v (Zn (zt v) p dr pu q ((zt v).length+1))=R at *;generalize zt v=a at *;generalize zh (ct v)=T at *;go_in;go_wp2_with fail;refine (uh HP).mono ?_;rintro e l ⟨r1,rfl,p1,b1⟩;have hB1:=zi (uh HBA) b1;have HB1:=ze hB1;have hz1w:w.heap.size<l.heap.size:=by have:=b1.size;have:=uh HZA;omega
 have HKQ:Hid (∀ wx,Bw l wx->wx.cell? ⟨w.heap.size,0,none⟩=some (.string (zh q.1))/\wx.cell? ⟨w.heap.size,1,none⟩=some (.string (zh q.2))):=fun wx hx=>by
  have k:=(hx.block w.heap.size hz1w).trans ((b1.block w.heap.size (by have:=uh HZA;omega)).trans (uh HKA));exact⟨yG k 0,yG k 1⟩
 have S:Hid (∀ k (hk:k<a.length) wx,Bw l wx->∃ g,r1.ownBlock=some g/\(∃ E,r1= .slice (some ⟨g,0,none⟩) a.length E)/\wx.cell? ⟨g,k*2,none⟩=some (.string (zh a[k].1))/\wx.cell? ⟨g,k*2+1,none⟩=some (.string (zh a[k].2))):=fun k hk wx hx=>by
  obtain⟨g,E,hv,_,_,c0,c1⟩:=(PR.below p1 hx).cells k hk;exact⟨g,by rw[hv];rfl,⟨E,hv⟩,c0,c1⟩
 obtain⟨xa,xc,rfl⟩:=PR.shape p1;clear HP b1 p1 hB1 HBA HKA;go_wp2;have HO0:Hid ((l.alloc (.cells #[] 97)).ownsRow l.heap.size 97 2 (.slice (some ⟨l.heap.size,0,none⟩) 0 0) 0 []):=World.ownsRow_lit l #[] 0 (ye _) (by unfold maxLen;omega) rfl;have HB0:Hid (Bw l (l.alloc (.cells #[] 97))):=Z0 l _;go_loopw [12,13] (fun r i wr=>∃ k:Nat,k<=a.length+1/\i= .int .i64 (k:Int)/\wr.ownsRow l.heap.size 97 2 r (Zn a p dr pu q k).length ((Zn a p dr pu q k).flatMap Zm)/\Bw l wr) (fun _ i _=>a.length+1 - (intOf i).toNat)
 case atStart=>exact⟨0,yu _,rfl,uh HO0,uh HB0⟩
 case round=>
  obtain⟨k,hk,rfl,o,W⟩:=hrel;clear HO0 HB0;have f:=ze W;have hal:=Nz a p dr pu q k;have hbz:=W.size;by_cases hle:k<=a.length
  ·have hleI:(k:Int)<=(a.length:Int):=by omega
   have z:(Zn a p dr pu q k).length<=2000002:=by omega
   clear P U Q N O;clear hal;by_cases M:k=p
   ·subst M;have tkp:((k:Int) ==(k:Int))=true:=by simp
    have tkn:((k:Int) !=(k:Int))=false:=by simp
    obtain⟨c0,c1⟩:=uh HKQ wr W
    cases pu with
    | true=>
     by_cases n:k<a.length
     ·have C:(k:Int)<(a.length:Int):=by omega
      cases dr with
      | true=>
       have b:Hid (qy a k true true q k=[q]):=by show _=_;unfold qy;simp[n]
       obtain⟨A,j⟩:∃ A,Zn a k true true q k=A:=⟨_,rfl⟩;rw[j]at o z;have s:=ze j;clear j;go_wp2_with (at_builtin;refine wpList_append_own _ rfl (.tmp 29) (.tmp 31) 94 rfl l.heap.size 97 i0 (.agg #[.string ByteArray.empty,.string ByteArray.empty]) 2 32 underlying94 F G H I rfl (by decide) _ _ _ rfl (o.alloc _) ⟨wr.heap.size,0,none⟩ 1 1 (Zm q) rfl rfl (Yt _ _ _ _) (fun u hu=>by {simp[Zm]at hu;rcases hu with rfl | rfl<;>rfl}) (by unfold maxLen;omega) (by omega) (by simp;omega) ?_);intro V J d m _;have y:J.ownsRow l.heap.size 97 2 V (A++[q]).length ((A++[q]).flatMap Zm):=by rw[yh,List.flatMap_append,List.flatMap_singleton];exact d
       have D:=ze (((uh f).alloc (uh f).size _).grown m (by simp;have:=(uh f).size;omega) (fun k hk=>(o.lt k hk).1));clear d m;clear o c0 c1;go_wp2;go_roundw
       case rel=>exact⟨k+1,by omega,by go_num,by rw[Jz,uh b,uh s];exact y,uh D⟩
       case measure=>simp[intOf];omega
      | false=>
       have b:Hid (qy a k false true q k=[q]++[a[k]]):=by show _=_;unfold qy;simp[n]
       obtain⟨g,-,⟨E,e⟩,-,-⟩:=uh S k n wr W;injection e with e1 e2 e3;subst e1;subst e3;obtain⟨A,j⟩:∃ A,Zn a k false true q k=A:=⟨_,rfl⟩;rw[j]at o z;have s:=ze j;clear j;go_wp2_with (at_builtin;refine wpList_append_own _ rfl (.tmp 29) (.tmp 31) 94 rfl l.heap.size 97 i0 (.agg #[.string ByteArray.empty,.string ByteArray.empty]) 2 32 underlying94 F G H I rfl (by decide) _ _ _ rfl (o.alloc _) ⟨wr.heap.size,0,none⟩ 1 1 (Zm q) rfl rfl (Yt _ _ _ _) (fun u hu=>by {simp[Zm]at hu;rcases hu with rfl | rfl<;>rfl}) (by unfold maxLen;omega) (by omega) (by simp;omega) ?_);intro V J d m _;have y:J.ownsRow l.heap.size 97 2 V (A++[q]).length ((A++[q]).flatMap Zm):=by rw[yh,List.flatMap_append,List.flatMap_singleton];exact d
       have D:=ze (((uh f).alloc (uh f).size _).grown m (by simp;have:=(uh f).size;omega) (fun k hk=>(o.lt k hk).1));clear d m;obtain⟨g',eg,-,d0,d1⟩:=uh S k n J (uh D);injection eg with eg;subst eg;have hal5:(A++[q]).length<=2000003:=by rw[yh];simp;omega
       obtain⟨A2,Z⟩:∃ A2,A++[q]=A2:=⟨_,rfl⟩;rw[Z]at y hal5;have HA2E:=ze Z;have hz5w:=(uh D).size;clear Z;clear o c0 c1;go_wp2_with (at_builtin;refine wpList_append_own _ rfl (.tmp 46) (.tmp 51) 94 rfl l.heap.size 97 i0 (.agg #[.string ByteArray.empty,.string ByteArray.empty]) 2 32 underlying94 F G H I rfl (by decide) _ _ _ rfl (y.alloc _) ⟨J.heap.size,0,none⟩ 1 1 (Zm a[k]) rfl rfl (Yt _ _ _ _) (fun u hu=>by {simp[Zm]at hu;rcases hu with rfl | rfl<;>rfl}) (by unfold maxLen;omega) (by omega) (by simp;omega) ?_);intro v7 w7 X hg7 _;have P7:w7.ownsRow l.heap.size 97 2 v7 (A2++[a[k]]).length ((A2++[a[k]]).flatMap Zm):=by rw[yh,List.flatMap_append,List.flatMap_singleton];exact X
       have B7:=ze (((uh D).alloc (uh D).size _).grown hg7 (by simp;have:=(uh D).size;omega) (fun k hk=>(y.lt k hk).1));clear X hg7;clear y d0 d1;go_wp2;go_roundw
       case rel=>exact⟨k+1,by omega,by go_num,by rw[Jz,uh b,← List.append_assoc,uh s,uh HA2E];exact P7,uh B7⟩
       case measure=>simp[intOf];omega
     ·have C:¬ (k:Int)<(a.length:Int):=by omega
      have b:Hid (qy a k dr true q k=[q]):=by show _=_;unfold qy;simp[n]
      obtain⟨A,j⟩:∃ A,Zn a k dr true q k=A:=⟨_,rfl⟩;rw[j]at o z;have s:=ze j;clear j;go_wp2_with (at_builtin;refine wpList_append_own _ rfl (.tmp 29) (.tmp 31) 94 rfl l.heap.size 97 i0 (.agg #[.string ByteArray.empty,.string ByteArray.empty]) 2 32 underlying94 F G H I rfl (by decide) _ _ _ rfl (o.alloc _) ⟨wr.heap.size,0,none⟩ 1 1 (Zm q) rfl rfl (Yt _ _ _ _) (fun u hu=>by {simp[Zm]at hu;rcases hu with rfl | rfl<;>rfl}) (by unfold maxLen;omega) (by omega) (by simp;omega) ?_);intro V J d m _;have y:J.ownsRow l.heap.size 97 2 V (A++[q]).length ((A++[q]).flatMap Zm):=by rw[yh,List.flatMap_append,List.flatMap_singleton];exact d
      have D:=ze (((uh f).alloc (uh f).size _).grown m (by simp;have:=(uh f).size;omega) (fun k hk=>(o.lt k hk).1));clear d m;clear o c0 c1;go_wp2;go_roundw
      case rel=>exact⟨k+1,by omega,by go_num,by rw[Jz,uh b,uh s];exact y,uh D⟩
      case measure=>simp[intOf];omega
    | false=>
     clear c0 c1;by_cases n:k<a.length
     ·have C:(k:Int)<(a.length:Int):=by omega
      cases dr with
      | true=>
       have b:Hid (qy a k true false q k=[]):=by show _=_;unfold qy;simp[n]
       have y:wr.ownsRow l.heap.size 97 2 u12 (Zn a k true false q k++[]).length ((Zn a k true false q k++[]).flatMap Zm):=by rw[yT];exact o
       go_wp2;go_roundw
       case rel=>exact⟨k+1,by omega,by go_num,by rw[Jz,uh b];exact y,uh f⟩
       case measure=>simp[intOf];omega
      | false=>
       have b:Hid (qy a k false false q k=[a[k]]):=by show _=_;unfold qy;simp[n]
       obtain⟨g,-,⟨E,e⟩,d0,d1⟩:=uh S k n wr W;injection e with e1 e2 e3;subst e1;subst e3;obtain⟨A,j⟩:∃ A,Zn a k false false q k=A:=⟨_,rfl⟩;rw[j]at o z;have s:=ze j;clear j;go_wp2_with (at_builtin;refine wpList_append_own _ rfl (.tmp 46) (.tmp 51) 94 rfl l.heap.size 97 i0 (.agg #[.string ByteArray.empty,.string ByteArray.empty]) 2 32 underlying94 F G H I rfl (by decide) _ _ _ rfl (o.alloc _) ⟨wr.heap.size,0,none⟩ 1 1 (Zm a[k]) rfl rfl (Yt _ _ _ _) (fun u hu=>by {simp[Zm]at hu;rcases hu with rfl | rfl<;>rfl}) (by unfold maxLen;omega) (by omega) (by simp;omega) ?_);intro V J d m _;have y:J.ownsRow l.heap.size 97 2 V (A++[a[k]]).length ((A++[a[k]]).flatMap Zm):=by rw[yh,List.flatMap_append,List.flatMap_singleton];exact d
       have D:=ze (((uh f).alloc (uh f).size _).grown m (by simp;have:=(uh f).size;omega) (fun k hk=>(o.lt k hk).1));clear d m;clear o d0 d1;go_wp2;go_roundw
       case rel=>exact⟨k+1,by omega,by go_num,by rw[Jz,uh b,uh s];exact y,uh D⟩
       case measure=>simp[intOf];omega
     ·have C:¬ (k:Int)<(a.length:Int):=by omega
      have b:Hid (qy a k dr false q k=[]):=by show _=_;unfold qy;simp[n]
      have y:wr.ownsRow l.heap.size 97 2 u12 (Zn a k dr false q k++[]).length ((Zn a k dr false q k++[]).flatMap Zm):=by rw[yT];exact o
      go_wp2;go_roundw
      case rel=>exact⟨k+1,by omega,by go_num,by rw[Jz,uh b];exact y,uh f⟩
      case measure=>simp[intOf];omega
   ·have tkp:((k:Int) ==(p:Int))=false:=by rw[yd];omega
    have tkn:((k:Int) !=(p:Int))=true:=by simp;omega
    by_cases n:k<a.length
    ·have C:(k:Int)<(a.length:Int):=by omega
     have b:Hid (qy a p dr pu q k=[a[k]]):=by show _=_;unfold qy;simp[n,M]
     obtain⟨g,-,⟨E,e⟩,d0,d1⟩:=uh S k n wr W;injection e with e1 e2 e3;subst e1;subst e3;clear M;obtain⟨A,j⟩:∃ A,Zn a p dr pu q k=A:=⟨_,rfl⟩;rw[j]at o z;have s:=ze j;clear j;go_wp2_with (at_builtin;refine wpList_append_own _ rfl (.tmp 46) (.tmp 51) 94 rfl l.heap.size 97 i0 (.agg #[.string ByteArray.empty,.string ByteArray.empty]) 2 32 underlying94 F G H I rfl (by decide) _ _ _ rfl (o.alloc _) ⟨wr.heap.size,0,none⟩ 1 1 (Zm a[k]) rfl rfl (Yt _ _ _ _) (fun u hu=>by {simp[Zm]at hu;rcases hu with rfl | rfl<;>rfl}) (by unfold maxLen;omega) (by omega) (by simp;omega) ?_);intro V J d m _;have y:J.ownsRow l.heap.size 97 2 V (A++[a[k]]).length ((A++[a[k]]).flatMap Zm):=by rw[yh,List.flatMap_append,List.flatMap_singleton];exact d
     have D:=ze (((uh f).alloc (uh f).size _).grown m (by simp;have:=(uh f).size;omega) (fun k hk=>(o.lt k hk).1));clear d m;clear o d0 d1;go_wp2;go_roundw
     case rel=>exact⟨k+1,by omega,by go_num,by rw[Jz,uh b,uh s];exact y,uh D⟩
     case measure=>simp[intOf];omega
    ·have C:¬ (k:Int)<(a.length:Int):=by omega
     have b:Hid (qy a p dr pu q k=[]):=by show _=_;unfold qy;simp[n,M]
     have y:wr.ownsRow l.heap.size 97 2 u12 (Zn a p dr pu q k++[]).length ((Zn a p dr pu q k++[]).flatMap Zm):=by rw[yT];exact o
     clear M;go_wp2;go_roundw
     case rel=>exact⟨k+1,by omega,by go_num,by rw[Jz,uh b];exact y,uh f⟩
     case measure=>simp[intOf];omega
  ·have hleI:¬ (k:Int)<=(a.length:Int):=by omega
   have hkn:k=a.length+1:=by omega
   subst hkn;have HBF:=ze (zi (uh HB1) (uh f));by_cases h5:K=5
   ·have HM:=ze (uh P u12 _ wr o);have HE:=ze (uh N h5);rw[h5]at L;have hfk':(((T[0]).toNat:Int) ==91)=true:=L;clear P U Q N O L h5 o W;go_wp2_with fail;refine (uh HM).mono ?_;rintro e w4 ⟨rfl,b4⟩;have Y:=ze (zi (uh HBF) b4);clear HM b4;go_wp2;go_ret;exact⟨by rw[uh HE];rfl,uh Y⟩
   ·have HS:=ze (uh U u12 _ wr o);have HE:=ze (uh O h5);have hfk':(((T[0]).toNat:Int) ==91)=false:=by rw[L];simp[h5]
    clear P U N O L h5 o W;go_wp2_with fail;refine (uh HS).mono ?_;rintro e w4 ⟨r4,rfl,p4,b4⟩;have HM:=ze (uh Q r4 _ w4 p4);have Y:=ze (zi (uh HBF) b4);clear HS Q p4 b4;go_wp2_with fail;refine (uh HM).mono ?_;rintro e J ⟨rfl,b5⟩;have HB5:=ze (zi (uh Y) b5);clear HM b5;go_wp2;go_ret;exact⟨by rw[uh HE];rfl,uh HB5⟩
def Z1(ts:List (List UInt8)):List UInt8:=ts.flatMap fun t=>47 :: zT t
def Jk(ts:List (List UInt8)):Nat:=(ts.map List.length).sum
theorem Kf(ts:List (List UInt8))(k:List UInt8):Jk (ts++[k])=Jk ts+k.length:=by simp[Jk]
theorem Gq(ts:List (List UInt8)):ZC (ts.map zH)=Z1 ts:=by
 induction ts with
 | nil=>rfl
 | cons t r ih=>
  have e:(zH t).data.toList=t:=by simp[zH]
  rw[yi];show 47 :: zT (zH t).data.toList++ZC (r.map zH)=47 :: zT t++Z1 r
  rw[ih,e]
theorem Kg(ts:List (List UInt8)):qH (ts.map zH)=Jk ts:=by
 unfold qH Jk;rw[List.map_map];congr 1
theorem D4{B:Nat}(v:Value)(ts:List (List UInt8))(w:Wo)(h:OT w B v ts)(hm:ts.length+Jk ts<=1048576):
  Calls prog 42 #[v] w fun e w'=>e= .returned (.string (zh (Z1 ts)))/\Bw w w':=by
 obtain⟨a,g,b,rfl,d,_⟩:=h.shape;have e:ts.length=(ts.map zH).length:=by simp
 have:=Wm a g 0 b (ts.map zH) w d (by rw[Kg,← e];exact hm);rw[← e,Gq]at this;exact this
theorem Hy{w:Wo}{B:Nat}{v:Value}{ts:List (List UInt8)}(h:OT w B v ts):(v= .slice none 0 0/\ts=[])∨∃ g cap,v= .slice (some ⟨g,0,none⟩) ts.length cap/\(∀ j u,(ts.map QJ)[j]?=some u->w.cell? ((⟨g,0,none⟩:Addr).add j)=some u):=by
 rcases h.2 with ⟨a,d⟩ |⟨g,cap,b,a,_⟩
 ·exact .inl ⟨a,yO d⟩
 ·refine .inr ⟨g,cap,a,fun j u hj=>?_⟩;subst a;exact World.ownsRow.cells h rfl j u hj
theorem NB {w:Wo} {ops:Array Oper} {rest:List Oper} {o:Oper} {a:Act} {Q:Exit->Act->Wo->Prop} (hg:o.guard=none) (s x:Operand)
  (ho:o.op= .call {callee:=.builtin .append,args:=#[s,x],argTypes:=#[30,30]}) {B B':Nat} {v u:Value} {ts us:List (List UInt8)} (hs:a.eval s=v) (hx:a.eval x=u)
  (h:OT w B v ts) (k:OT w B' u us) (hB:B<=w.heap.size) (hl:ts.length+us.length<=1000000)
  (hK:∀ v' w',OT w' B v' (ts++us)->w.grownBy w' v.ownBlock->wpList prog ops Q rest (a.put o.dst v') w'):wpList prog ops Q (o :: rest) a w:=by
 obtain⟨m,l,f,i,j⟩:=info_parts Vi;rcases Hy k with ⟨rfl,rfl⟩ |⟨g,d,rfl,b⟩
 ·refine wpList_append_own_none hg s x 30 ho B 9 m 1 underlying30 l v _ _ hs h hx ?_;exact hK v w (by rw[yT];exact h) (World.grownBy.refl _ _)
 ·refine wpList_append_own _ hg s x 30 ho B 9 m (.string ByteArray.empty) 1 16 underlying30 l f i j rfl (by decide) v _ _ hs h ⟨g,0,none⟩ us.length d (us.map QJ) hx (by simp) b (Oa us) (by unfold maxLen;omega) (by omega) hB ?_;intro v' w' n p _;exact hK v' w' (by unfold OT;rw[yh,yx];exact n) p
theorem Hz(s:Bs)(w:Wo)(hs:s.size<=10000000):
  Calls prog 36 #[.iface 171 (.string s)] w fun e w'=>e= .returned (.string (zh (34 ::(rs s++[34]))))/\Bw w w':=by
 have HC:=ze (SX w.heap.size w.heap.size [] s (w.alloc (.cells #[.pointer none,.slice none 0 0] 149)) (Lib.fresh_isBuilder _ _ w) (by simp) (by simp) hs);rw[List.nil_append]at HC;go_in;go_wp2_with fail;refine (uh HC).mono ?_;rintro e g ⟨rfl,f,d,_⟩;have b:Bw w g:=((yI _ _).alloc (ye _) _).trans d;have a:=b.size;have i:=ze (Kb w.heap.size w.heap.size (34 ::(rs s++[34])) g f a);clear f d HC;go_wp2_with fail;refine (uh i).mono ?_;rintro e k ⟨rfl,j⟩;have h:=b.trans j;go_wp2;go_ret;exact⟨rfl,h⟩
end Go.Proofs.YtpaecnbdoljafaaGreatDoor
