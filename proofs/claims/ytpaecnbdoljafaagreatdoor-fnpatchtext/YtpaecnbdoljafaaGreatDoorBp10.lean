import Derived.Test.YtpaecnbdoljafaaGreatDoorBp6
import Derived.Test.YtpaecnbdoljafaaGreatDoorBp9
set_option maxRecDepth 100000
set_option maxHeartbeats 8000000
namespace Go.Proofs.YtpaecnbdoljafaaGreatDoor
open Go.RowKit Go.Proofs.Tryz
theorem MV{ts:List (List UInt8)}{j:Nat}(h:j<ts.length):(ts.map Zc).getD j ByteArray.empty=Zc (ts.getD j []):=by simp[h]
def VZ(ps:List zx)(key:List UInt8)(e:Ending):Prop:=(e= .returned (.int .i64 (-1))/\∀ j (hj:j<ps.length),ps[j].1≠key)∨∃ (j:Nat) (hj:j<ps.length),e= .returned (.int .i64 (j:Int))/\ps[j].1=key
theorem VZ.no{ps:List zx}{key:List UInt8}{e:Ending}(h:e= .returned (.int .i64 (-1)))(k:∀ j (hj:j<ps.length),ps[j].1≠key):VZ ps key e:=Or.inl ⟨h,k⟩
theorem VZ.yes{ps:List zx}{key:List UInt8}{e:Ending}{j:Nat}(hj:j<ps.length)(h:e= .returned (.int .i64 (j:Int)))(k:ps[j].1=key):VZ ps key e:=Or.inr ⟨j,hj,h,k⟩
def Jh(v:JV)(t:List UInt8)(e:Ending):Prop:=(e= .returned (.int .i64 (-1))/\zL v t=none)∨∃ (j:Nat) (hj:j<(zm v).length) (u:JV),e= .returned (.int .i64 (j:Int))/\zL v t=some u/\(zm v)[j].2=ct u/\(zm v)[j].1=t
theorem Jh.no{v:JV}{t:List UInt8}{e:Ending}(h:e= .returned (.int .i64 (-1)))(k:zL v t=none):Jh v t e:=Or.inl ⟨h,k⟩
theorem Jh.yes{v u:JV}{t:List UInt8}{e:Ending}{j:Nat}(hj:j<(zm v).length)(h:e= .returned (.int .i64 (j:Int)))(k:zL v t=some u/\(zm v)[j].2=ct u/\(zm v)[j].1=t):Jh v t e:=Or.inr ⟨j,hj,u,h,k.1,k.2.1,k.2.2⟩
theorem NZ(B:Nat)(v:Value)(ps:List zx)(key:List UInt8)(w:Wo)(h:PR w B v ps)(hn:ps.length<=40000000):
  Calls prog 115 #[v,.string (zi key)] w fun e w'=>w=w'/\VZ ps key e:=by
 obtain⟨x,len,a,rfl,m⟩:∃ x len a,v= .slice x len a/\len=ps.length:=by
  rcases h.2 with ⟨p,z⟩ |⟨g,a,y,p,_⟩
  ·exact⟨_,_,_,p,z.symm⟩
  ·exact⟨_,_,_,p,rfl⟩
 subst m;have s:=zh h;clear h;go_in;go_wp2_with fail;go_loopw [5] (fun k wr=>w=wr/\∃ j:Nat,k= .int .i64 (j:Int)/\j<=ps.length/\∀ i (hi:i<ps.length),i<j->ps[i].1≠key) (fun k _=>ps.length - (intOf k).toNat)
 case atStart=>exact⟨rfl,0,rfl,yr _,fun i _ hi=>by omega⟩
 case round=>
  obtain⟨rfl,j,rfl,F,n⟩:=hrel;have d:=zh n;clear n;by_cases l:j<ps.length
  ·have D:((j:Int)<(ps.length:Int))=True:=eq_true (by omega);obtain⟨g,q,A,E,C,c0,c1⟩:=(uh s).cells j l;injection A with he1 he2 he3;subst he1;subst he3;have f:=Uq ps[j].1 key;by_cases b:ps[j].1=key
   ·have o:(ps[j].1 ==key)=true:=by rw[yB];exact b
    have r:=zh b;rw[o]at f;clear b o;go_wp2;go_ret;exact⟨rfl,VZ.yes l rfl (uh r)⟩
   ·have o:(ps[j].1 ==key)=false:=by rw[yb];exact b
    have u:Hid (∀ i (hi:i<ps.length),i<j+1->ps[i].1≠key):=fun i hi hij=>by
     by_cases e:i=j
     ·subst e;exact b
     ·exact uh d i hi (by omega)
    rw[o]at f;clear b o;go_wp2;go_roundw
    case rel=>exact⟨trivial,j+1,by go_num,by omega,uh u⟩
    case measure=>simp[intOf];omega
  ·have D:((j:Int)<(ps.length:Int))=False:=yP (by omega);go_wp2;go_ret;exact⟨rfl,VZ.no rfl (fun i hi=>uh d i hi (by omega))⟩
theorem V2(v:JV)(hok:zy v)(w:Wo)(hl:(ct v).length<=1000000):
  Calls prog 74 #[.string (zi (ct v))] w fun e w'=>∃ r,e= .returned r/\PR w' w.heap.size r (zm v)/\Bw w w':=by
 have leaf:∀ (c:UInt8) (r:List UInt8),ct v=c :: r->c.toNat≠91->c.toNat≠123->zm v=[]->Calls prog 74 #[.string (zi (ct v))] w fun e w'=>∃ r,e= .returned r/\PR w' w.heap.size r (zm v)/\Bw w w':=fun c r hc h1 h2 d=>by
  rw[d,hc];obtain⟨a,b⟩:=VD (c:=c) (r:=r);exact Dr _ w a (by rw[b];exact h1) (by rw[b];exact h2)
 cases v with
 | arr l=>rw[zy]at hok;exact Ds l hok w (by rw[zS];exact hl)
 | obj m=>rw[zy]at hok;exact Dt m hok w (by rw[zS];exact hl)
 | nul=>exact leaf 110 _ rfl (by decide) (by decide) rfl
 | tt=>exact leaf 116 _ rfl (by decide) (by decide) rfl
 | ff=>exact leaf 102 _ rfl (by decide) (by decide) rfl
 | num l=>
  have d:=WD hok
  cases l with
  | nil=>exact absurd rfl d.1
  | cons c r=>
   have:=(d.2 c yo).1;exact leaf c r rfl this.2.1 this.2.2.1 rfl
 | str l=>exact leaf 34 (qs l++[34]) rfl (by decide) (by decide) rfl
theorem V8{v:JV}(hok:zy v)(hl:(ct v).length<=1000000):(zm v).length<=1000000:=by
 cases v with
 | arr l=>
  show (qk 0 (zu l)).length<=_
  rw[Vz];have:(zi (ct (.arr l))).data.toList=91 ::(joinC (zu l)++[93]):=by rw[Zd];rfl
  have:=Oz this;rw[zS]at this;omega
 | obj m=>
  show (zz (zn m)).length<=_
  have:(zi (ct (.obj m))).data.toList=123 ::(joinC ((zz (zn m)).map zt)++[125]):=by rw[Zd];rfl
  have:=Oz this;rw[zS,yk]at this;omega
 | nul=>simp[zm]
 | tt=>simp[zm]
 | ff=>simp[zm]
 | num l=>simp[zm]
 | str l=>simp[zm]
theorem X1(v:JV)(hok:zy v)(htw:zw v=false)(t:List UInt8)(ht:t.length<=1048576)(w:Wo)(hl:(ct v).length<=1000000):
  Calls prog 151 #[.string (zi (ct v)),.string (zi t)] w fun e w'=>Bw w w'/\Jh v t e:=by
 have B:Hid (∀ w,Calls prog 74 #[.string (zi (ct v))] w fun e w'=>∃ r,e= .returned r/\PR w' w.heap.size r (zm v)/\Bw w w'):=fun w=>V2 v hok w hl;have s:Hid (∀ w,Calls prog 154 #[.string (zi t)] w (Rk (.int .i64 (Jb t)) w)):=fun w=>by
  have:=D6 (zi t) w (by rw[zS];exact ht)
  rwa [Zd]at this
 have J:=V8 hok hl;have p:=Od v hok;have I:0<(zi (ct v)).size:=by rw[zS];cases h:ct v with
  | nil=>exact absurd h p
  | cons _ _=>simp
 have L:(0:Int)<((zi (ct v)).size:Int):=by omega
 have a:(zi (ct v))[0].toNat=91↔∃ l,v= .arr l:=by
  rw[← Zg _ 0 I];constructor
  ·intro h
   cases v with
   | arr l=>exact⟨l,rfl⟩
   | obj m=>exact absurd h (by rw[show ct (.obj m)=123 ::(joinC ((zz (zn m)).map zt)++[125])from rfl,(VD (c:=123) (r:=joinC ((zz (zn m)).map zt)++[125])).2];decide)
   | nul=>exact absurd h (by decide)
   | tt=>exact absurd h (by decide)
   | ff=>exact absurd h (by decide)
   | num l=>
    have F:=WD hok
    cases l with
    | nil=>exact absurd rfl F.1
    | cons c r=>
     have k:bt (zi (c :: r)) 0=91:=h;rw[(VD (c:=c) (r:=r)).2]at k;exact absurd k (F.2 c yo).1.2.1
   | str l=>exact absurd h (by rw[show ct (.str l)=34 ::(qs l++[34])from rfl,(VD (c:=34) (r:=qs l++[34])).2];decide)
  ·rintro⟨l,rfl⟩;exact (VD (c:=91) (r:=joinC (zu l)++[93])).2
 have z:Hid (((∃ l,v= .arr l)->(qJ t).isSome=true)->∀ {j:Nat} (n:j<(zm v).length),(zm v)[j].1=t->∃ u,zL v t=some u/\(zm v)[j].2=ct u):=fun hi {j} n E=>DM hok htw hi n E;have A:Hid ((∀ j (n:j<(zm v).length),(zm v)[j].1≠t)->zL v t=none):=fun h=>DN h;have o:Hid ((∃ l,v= .arr l)->qJ t=none->zL v t=none):=fun ⟨l,e⟩ h=>by subst e;rw[Ja,h];rfl
 have f:((∃ l,v= .arr l)->(qJ t).isSome=true)->∀ g (r:Value),PR g w.heap.size r (zm v)->Calls prog 115 #[r,.string (zi t)] g fun e w'=>g=w'/\Jh v t e:=fun hi g r hr=>by
  refine (NZ _ r (zm v) t g hr (by omega)).mono ?_;rintro e w' ⟨rfl,⟨rfl,h⟩ |⟨j,n,rfl,E⟩⟩
  ·exact⟨rfl,Jh.no rfl (uh A h)⟩
  ·obtain⟨u,x,k⟩:=uh z hi n E;exact⟨rfl,Jh.yes n rfl ⟨x,k,E⟩⟩
 have b:=zh f;clear f z A;by_cases y:∃ l,v= .arr l
 ·have H:(((zi (ct v))[0].toNat:Int) ==91)=true:=by rw[yB];have:=a.2 y;omega
  cases hx:qJ t with
  | none=>
   have G:=zh (uh o y hx);have D:Jb t= -1:=by unfold Jb;rw[hx]
   rw[D]at s;clear a o b y hx D B p hok htw;generalize zi (ct v)=T at *;go_in;go_wp2_with fail;refine (uh s _).mono ?_;rintro e g ⟨rfl,rfl⟩;clear s;go_wp2;go_ret;exact⟨yG _ _,Jh.no rfl (uh G)⟩
  | some i=>
   have HR:=zh (uh b (fun _=>by rw[hx];rfl));have D:Jb t=(i:Int):=by unfold Jb;rw[hx]
   rw[D]at s;have M:¬ (i:Int)<0:=by omega
   clear a o b y hx D p hok htw;generalize zi (ct v)=T at *;go_in;go_wp2_with fail;refine (uh s _).mono ?_;rintro e g ⟨rfl,rfl⟩;clear s;go_wp2_with fail;refine (uh B _).mono ?_;rintro e g ⟨r,rfl,p1,C⟩;have d:=zh (uh HR g r p1);clear B HR p1;go_wp2_with fail;refine (uh d).mono ?_;rintro e K ⟨rfl,⟨rfl,h⟩ |⟨j,n,u,rfl,x,k⟩⟩
   ·clear d;have q:=zh h;clear h;go_wp2;go_ret;exact⟨C,Jh.no rfl (uh q)⟩
   ·clear d;have q:=zh (⟨x,k⟩:zL v t=some u/\(zm v)[j].2=ct u/\(zm v)[j].1=t);clear x k;go_wp2;go_ret;exact⟨C,Jh.yes n rfl (uh q)⟩
 ·have H:(((zi (ct v))[0].toNat:Int) ==91)=false:=by rw[yb];intro e;exact y (a.1 (by omega))
  have HR:=zh (uh b (fun h=>absurd h y));clear a o b y p hok htw s;generalize zi (ct v)=T at *;go_in;go_wp2_with fail;refine (uh B _).mono ?_;rintro e g ⟨r,rfl,p1,C⟩;have d:=zh (uh HR g r p1);clear B HR p1;go_wp2_with fail;refine (uh d).mono ?_;rintro e K ⟨rfl,⟨rfl,h⟩ |⟨j,n,u,rfl,x,k⟩⟩
  ·clear d;have q:=zh h;clear h;go_wp2;go_ret;exact⟨C,Jh.no rfl (uh q)⟩
  ·clear d;have q:=zh (⟨x,k⟩:zL v t=some u/\(zm v)[j].2=ct u/\(zm v)[j].1=t);clear x k;go_wp2;go_ret;exact⟨C,Jh.yes n rfl (uh q)⟩
theorem MW:(prog.info? 257).map (fun i=>(i.zero,i.size,i.bytes))=some (some (.agg #[.string ByteArray.empty,.string ByteArray.empty]),2,32):=by kernel_rfl
def HR(w:Wo)(B:Nat)(v:Value)(hs:List zx):Prop:=w.ownsRow B 257 2 v hs.length (hs.flatMap zF)
theorem HR.below{w w':Wo}{B:Nat}{v:Value}{hs:List zx}(h:HR w B v hs)(hb:Bw w w'):HR w' B v hs:=ZI h hb
theorem HR.cells{w:Wo}{B:Nat}{v:Value}{ps:List zx}(h:HR w B v ps)(j:Nat)(hj:j<ps.length):
  ∃ g cap,v= .slice (some ⟨g,0,none⟩) ps.length cap/\B<=g/\g<w.heap.size/\w.cell? ⟨g,j*2,none⟩=some (.string (zi ps[j].1))/\w.cell? ⟨g,j*2+1,none⟩=some (.string (zi ps[j].2)):=by
 obtain⟨o,m |⟨g,cap,f,l,i,b,p,n,k,d⟩⟩:=h
 ·omega
 ·have a:=RS ps j hj;refine⟨g,cap,l,i,(yA.1 b).1,?_,?_⟩
  ·rw[yE b,← Array.getElem?_toList,← a.1,← d,List.getElem?_take_of_lt (by omega)]
  ·rw[yE b,← Array.getElem?_toList,← a.2,← d,List.getElem?_take_of_lt (by omega)]
theorem MX(hs:List zx):(hs.flatMap zF).length=hs.length*2:=by
 induction hs with
 | nil=>rfl
 | cons p r ih=>rw[List.flatMap_cons,yg,ih,ym];simp[zF];omega
theorem MY(hs:List zx):∀ u∈hs.flatMap zF,u.oneCell'=true:=by
 intro u b;obtain⟨p,_,a⟩:=List.mem_flatMap.1 b;simp[zF]at a;rcases a with rfl | rfl<;>rfl
theorem MZ(k:List UInt8)(w:Wo)(hk:k.length<=1000000)(g:Nat)(c:w.cell? ⟨g,0,none⟩=some (.string (zi k))):
  Calls prog 42 #[.slice (some ⟨g,0,none⟩) 1 1] w fun e w'=>e= .returned (.string (zi (47 :: Zz k)))/\Bw w w':=by
 have h:SS w (some ⟨g,0,none⟩) g 0 [zi k]:=⟨fun _=>rfl,fun j hj=>by
  have:j=0:=by simp at hj;omega
  subst this;exact c⟩
 have a:[zi k].length+Z9 [zi k]<=1048576:=by simp[Z9,zS];omega
 have e:Zf [zi k]=47 :: Zz k:=by simp[Zf,Zd]
 have:=Ke (some ⟨g,0,none⟩) g 0 1 [zi k] w h a;rw[e]at this;exact this
theorem N0:∀ (n:Nat) (v:JV) (p:List UInt8) (w:Wo),zy v->zw v=false->zE v<=n->(ct v).length<=1000000->p.length+2*(ct v).length<=4000000->zo v<=1000000 ->
  Calls prog 176 #[.string (zi (ct v)),.string (zi p)] w fun e w'=>∃ r,e= .returned r/\HR w' w.heap.size r (zX n p v)/\Bw w w':=by
 intro n;induction n with
 | zero=>intro v p w _ _ h;have:=(Jv v).2;omega
 | succ n ih=>
  intro v p w hok htw hd hl0 hl hc;obtain⟨i0,hi0,hz0,hz1,hz2⟩:=info_parts MW;have HPA:Hid (∀ w,Calls prog 74 #[.string (zi (ct v))] w fun e w'=>∃ r,e= .returned r/\PR w' w.heap.size r (zm v)/\Bw w w'):=fun w=>V2 v hok w (by omega);rw[OK]at HPA;have HREC:Hid (∀ k (hk:k<(zZ v).length) (w:Wo),(zZ v)[k].1.length+(ct (zZ v)[k].2).length<=1000000/\(Z7 p (zZ v)[k].1).length<=4000000/\(zX n (Z7 p (zZ v)[k].1) (zZ v)[k].2).length=zo (zZ v)[k].2/\Calls prog 176 #[.string (zi (ct (zZ v)[k].2)),.string (zi (Z7 p (zZ v)[k].1))] w fun e w'=>∃ r,e= .returned r/\HR w' w.heap.size r (zX n (Z7 p (zZ v)[k].1) (zZ v)[k].2)/\Bw w w'):=fun k hk w=>by
   obtain⟨a,b,c,d⟩:=WH hok htw (yq hk);have e1:=DZ p (zZ v)[k].1;have e2:zo (zZ v)[k].2<=zo v:=by
    have:=D1 v (k+1);rw[yx hk,yv,List.sum_append]at this;simp at this;omega
   exact⟨by omega,by omega,UO n _ _ a b (by omega),ih _ _ w a b (by omega) (by omega) (by omega) (by omega)⟩
  have HT:Hid (∀ k,k<=(zZ v).length->(((zZ v).take k).flatMap fun q=>zX n (Z7 p q.1) q.2).length+1<=zo v):=fun k hk=>by
   rw[OL _ (fun q=>zo q.2) _ (fun q hq=>by
    obtain⟨a,b,c,_⟩:=WH hok htw (List.mem_of_mem_take hq);exact UO n _ q.2 a b (by omega))]
   exact D1 v k
  have HF:Hid (∀ k (hk:k<(zZ v).length),(((zZ v).take (k+1)).flatMap fun q=>zX n (Z7 p q.1) q.2)=(((zZ v).take k).flatMap fun q=>zX n (Z7 p q.1) q.2)++zX n (Z7 p (zZ v)[k].1) (zZ v)[k].2):=fun k hk=>Ew (fun q:List UInt8×JV=>zX n (Z7 p q.1) q.2) (zZ v) k hk;have HE:Hid (zX (n+1) p v=(p,ct v) ::(((zZ v).take (zZ v).length).flatMap fun q=>zX n (Z7 p q.1) q.2)):=by
   show _=_
   rw[zX,yp (yd _)]
  generalize zX (n+1) p v=R at *;have hkl:(zZ v).length<=1000000:=by
   have:=uh HT (zZ v).length (yd _);have h2:(zZ v).length<=((zZ v).map fun q=>zo q.2).sum:=by
    have:∀ l:List (List UInt8×JV),l.length<=(l.map fun q=>zo q.2).sum:=by
     intro l;induction l with
     | nil=>simp
     | cons q r ih=>have h3:=(Jv q.2);rw[yh,yK,ym];omega
    exact this _
   have h4:=WI v;omega
  have hml:((zZ v).map kt).length=(zZ v).length:=yk _;generalize zZ v=K at *;clear hok htw hd ih;have hcv:(zi (ct v)).size<=1000000:=by rw[zS];omega
  have hpl:p.length<=4000000:=by omega
  go_in;go_wp2_with fail;refine (uh HPA _).mono ?_;rintro e w1 ⟨r1,rfl,p1,b1⟩;have O0:Hid (HR (w.alloc (.cells #[.string (zi p),.string (zi (ct v))] 257)) w.heap.size (.slice (some ⟨w.heap.size,0,none⟩) 1 1) [(p,ct v)]):=World.ownsRow_lit w #[.string (zi p),.string (zi (ct v))] 1 (yd _) (by unfold maxLen;omega) rfl;have B0:Hid (Bw w (w.alloc (.cells #[.string (zi p),.string (zi (ct v))] 257))):=(yG _ _).alloc (yd _) _;have O1:=zh ((uh O0).below b1);have B1:=zh ((uh B0).trans (b1.mono (uh B0).size));have P1:Hid (PR w1 w.heap.size r1 (K.map kt)):=p1.mono (uh B0).size;obtain⟨x1,cap1,rfl⟩:∃ x cap,r1= .slice x K.length cap:=by
   rcases p1.2 with ⟨hv,h0⟩ |⟨g,cap,cur,hv,_⟩
   ·rw[hml]at h0;exact⟨none,0,by rw[hv,h0]⟩
   ·rw[hml]at hv;exact⟨_,_,hv⟩
  clear HPA p1 b1 O0 B0;go_wp2_with fail;go_loopw [5,7] (fun u i wr=>∃ k:Nat,k<=K.length/\i= .int .i64 (k:Int)/\HR wr w.heap.size u ((p,ct v) ::((K.take k).flatMap fun q=>zX n (Z7 p q.1) q.2))/\PR wr w.heap.size (.slice x1 K.length cap1) (K.map kt)/\Bw w wr) (fun _ i _=>K.length - (intOf i).toNat)
  case atStart=>exact⟨0,yr _,rfl,by simpa using uh O1,uh P1,uh B1⟩
  case round=>
   obtain⟨k,hk,rfl,ho,hpr,hb⟩:=hrel;clear O1 P1 B1;have hwsz:=hb.size;by_cases hlt:k<K.length
   ·have hltI:(k:Int)<(K.length:Int):=by omega
    obtain⟨g,cap',he,hgB,hgl,c0,c1⟩:=hpr.cells k (by rw[hml];exact hlt);injection he with he1 he2 he3;subst he1;subst he3;have ek:(K.map kt)[k]'(by rw[hml];exact hlt)=kt K[k]:=List.getElem_map _;rw[ek]at c0 c1;obtain⟨l1,l2,l3,_⟩:=uh HREC k hlt w;have HRC:Hid (∀ w,Calls prog 176 #[.string (zi (ct K[k].2)),.string (zi (Z7 p K[k].1))] w fun e w'=>∃ r,e= .returned r/\HR w' w.heap.size r (zX n (Z7 p K[k].1) K[k].2)/\Bw w w'):=fun w=>(uh HREC k hlt w).2.2.2;have l4:=uh HT (k+1) hlt;have l5:=uh HT k hk;rw[uh HF k hlt,yg]at l4;have l6:=(Jv K[k].2);have HEK:Hid ((p,ct v) ::((K.take (k+1)).flatMap fun q=>zX n (Z7 p q.1) q.2)=((p,ct v) ::((K.take k).flatMap fun q=>zX n (Z7 p q.1) q.2))++zX n (Z7 p K[k].1) K[k].2):=by
     show _=_
     rw[uh HF k hlt];rfl
    have hcat:zi p++zi (47 :: Zz K[k].1)=zi (Z7 p K[k].1):=Y7 _ _;have hzz:(9223372036854775807<(zi p).size+(zi (47 :: Zz K[k].1)).size)=False:=yP (by
     rw[zS,zS];have:=VQ K[k].1;simp only[ym];omega)
    have hAl:((p,ct v) ::((K.take k).flatMap fun q=>zX n (Z7 p q.1) q.2)).length+(zX n (Z7 p K[k].1) K[k].2).length<=1000000:=by
     simp only[ym];omega
    have hZ0:1<=(zX n (Z7 p K[k].1) K[k].2).length:=by omega
    have HT1:Hid (∀ (w:Wo) (g:Nat),w.cell? ⟨g,0,none⟩=some (.string (zi K[k].1))->Calls prog 42 #[.slice (some ⟨g,0,none⟩) 1 1] w (Rb (.string (zi (47 :: Zz K[k].1))) w)):=fun w g c=>MZ K[k].1 w (by omega) g c;have d0:wr.cell? ⟨g,k*2,none⟩=some (.string (zi K[k].1)):=c0;have d1:wr.cell? ⟨g,k*2+1,none⟩=some (.string (zi (ct K[k].2))):=c1;have HO:=zh ho;have HPR:=zh hpr;have HB:=zh hb;clear c0 c1 ek he2 hml HREC HT HF HE l1 l2 l3 l4 l5 l6 ho hpr hb;generalize (p,ct v) ::((K.take k).flatMap fun q=>zX n (Z7 p q.1) q.2)=A at *;generalize zX n (Z7 p K[k].1) K[k].2=Z at *;generalize zi (Z7 p K[k].1)=np at *;generalize zi (47 :: Zz K[k].1)=tk at *;generalize zi K[k].1=key at *;generalize zi (ct K[k].2)=tx at *;have bA0:Bw wr (wr.alloc (.cells #[.string key] 9)):=(yG _ _).alloc (yd _) _;have bA:Bw wr ((wr.alloc (.cells #[.string key] 9)).drew):=bA0.drew;have a0:(wr.alloc (.cells #[.string key] 9)).cell? ⟨g,k*2,none⟩=some (.string key):=(bA0.cell (p:=⟨g,k*2,none⟩) hgl).trans d0;have a1:(wr.alloc (.cells #[.string key] 9)).cell? ⟨g,k*2+1,none⟩=some (.string tx):=(bA0.cell (p:=⟨g,k*2+1,none⟩) hgl).trans d1;have aT:((wr.alloc (.cells #[.string key] 9)).drew).cell? ⟨wr.heap.size,0,none⟩=some (.string key):=QH wr 9 (.string key) 0 _ rfl;have HBA:=zh bA;have HTA:=zh (uh HT1 _ _ aT);clear bA HT1 bA0 aT;go_wp2_with fail
    go_region_law (first
      |(
        refine XA rfl (.tmp 20) (.tmp 35) 254 rfl w.heap.size 257 i0 (.agg #[.string ByteArray.empty,.string ByteArray.empty]) 2 32 underlying254 hi0 hz0 hz1 hz2 rfl (by decide) _ _ _ rfl (by exact own5) ⟨g5,0,none⟩ Z.length cap5 (Z.flatMap zF) rfl (MX Z) (by exact uh HCELL) (MY Z) (by unfold maxLen;omega) (by omega) (by omega) ?_;intro v6 w6 own6 hg6)
      |(
        have hb4:=b4;go_simp;refine (uh HRC _).mono ?_;rintro e w5 ⟨r5,rfl,h5,b5⟩;have b5':=zj b4' b5;have own5:=ZI (uh HO) b5';have P5:=(uh HPR).below b5';have B5:=(uh HB).trans (b5'.mono hwsz);have hw5:=B5.size;obtain⟨g5,cap5,rfl⟩:∃ g5 cap5,r5= .slice (some ⟨g5,0,none⟩) Z.length cap5:=(by
         rcases h5.2 with ⟨_,h0⟩ |⟨g5,cap5,cur5,hv5,_⟩
         ·omega
         ·exact⟨g5,cap5,hv5⟩)
        have HCELL:Hid (∀ j u,(Z.flatMap zF)[j]?=some u->w5.cell? ((⟨g5,0,none⟩:Addr).add j)=some u):=fun j u hj=>World.ownsRow.cells h5 rfl j u hj)
      |(
        go_simp;refine (uh HTA).mono ?_;rintro e w4 ⟨rfl,b4⟩;have b4':=zj (uh HBA) b4;have k0:w4.cell? ⟨g,k*2,none⟩=some (.string key):=(b4'.cell (p:=⟨g,k*2,none⟩) hgl).trans d0;have k1:w4.cell? ⟨g,k*2+1,none⟩=some (.string tx):=(b4'.cell (p:=⟨g,k*2+1,none⟩) hgl).trans d1))
    all_goals
     have O6:Hid (HR w6 w.heap.size v6 (A++Z)):=by
      show HR w6 w.heap.size v6 (A++Z)
      unfold HR;rw[yg,List.flatMap_append];exact own6
     have B6:Hid (Bw w w6):=B5.grown hg6 hw5 (fun k hk=>(own5.lt k hk).1);have P6:Hid (PR w6 w.heap.size (.slice (some ⟨g,0,none⟩) K.length cap1) (K.map kt)):=World.ownsRow.kept P5 hg6 (Ex P5 own5 (by decide));clear own6 hg6 B5 P5 own5 h5 b5 b5' HCELL b4 b4' k0 k1 a0 a1 d0 d1 HBA HTA HRC HO HPR HB;go_wp2;go_roundw
    all_goals first
     | exact⟨k+1,by omega,by go_num,by rw[uh HEK];exact uh O6,uh P6,uh B6⟩
     |(simp[intOf];omega)
   ·have hk':k=K.length:=by omega
    subst hk';have e:=uh HE;rw[← e]at ho;have HO:=zh ho;have HB:=zh hb;clear ho hb e HREC HT HF HE hpr hml;go_wp2;go_ret;exact⟨_,rfl,uh HO,uh HB⟩
theorem M0(b:Bs):zi b.data.toList=b:=by obtain⟨⟨l⟩⟩:=b;rfl
theorem M2{ts:List (List UInt8)}(hs:Small ts)(hl:ts.length<=4):Z9 (ts.map Zc)<=12:=by
 have:∀ ts:List (List UInt8),Small ts->Z9 (ts.map Zc)<=3*ts.length:=by
  intro ts;induction ts with
  | nil=>intro _;simp[Z9]
  | cons t r ih=>
   intro h;have a:=ih (fun q hq=>h q (yu _ hq));have b:=h t yo;have d:(Zc t).size=t.length:=zS t;unfold Z9 at *;simp only[yh,yK,ym];omega
 have:=this ts hs;omega
theorem M3{ts:List (List UInt8)}(hs:Small ts)(hl:ts.length<=4):(Zf (ts.map Zc)).length<=28:=by
 have:∀ ts:List (List UInt8),Small ts->(Zf (ts.map Zc)).length<=7*ts.length:=by
  intro ts;induction ts with
  | nil=>intro _;simp[Zf]
  | cons t r ih=>
   intro h;have b:=ih (fun q hq=>h q (yu _ hq));have d:=h t yo;have f:=VQ t;have a:(Zc t).data.toList=t:=Zd t;rw[yh,XV,ym,yg,a,ym];omega
 have:=this ts hs;omega
theorem WZ(w:Wo)(rb i:Nat)(z:Value):w.grownBy (w.setCell ⟨rb,i,none⟩ z) (some rb):=
 ⟨rfl,rfl,rfl,by simp[World.setCell],fun k _ hne=>Below.heap_setCell w ⟨rb,i,none⟩ z k (fun e=>hne (by rw[e]))⟩
theorem JC.p1{w:Wo}{B rb:Nat}(h:JC w B rb):(∃ p:Int,w.cell? ⟨rb,1,none⟩=some (.int .i64 p))/\w.frozen? ⟨rb,1,none⟩=false:=by
 obtain⟨a,c,p,l,d,f,b,_⟩:=h;exact⟨⟨p,by rw[yE b];rfl⟩,yH b 1⟩
def Ji(v:JV)(ts:List (List UInt8)):Value:=match Za v ts with
 | some u=>.tuple #[.string (zi (ct u)),.bool true]
 | none=>.tuple #[.string ⟨#[]⟩,.bool false]
theorem Kh(v:JV)(hok:zy v)(htw:zw v=false)(hl:(ct v).length<=1000000)(a:Option Addr)(g off cap:Nat)(ts:List (List UInt8))(w:Wo)(hs:SS w a g off (ts.map Zc))(hn:ts.length<=1048577)(ht:∀ t∈ts,t.length<=1048576):
  Calls prog 100 #[.string (zi (ct v)),.slice a ts.length cap] w fun e w'=>e= .returned (Ji v ts)/\Bw w w':=by
 have h:=hs.ad;have G:=zh hs;rw[yk]at h;have i:Hid (∀ (u:JV) (k:Nat) (J:k<ts.length) (w:Wo),zy u->zw u=false->(ct u).length<=1000000->Calls prog 151 #[.string (zi (ct u)),.string (zi ts[k])] w fun e w'=>Bw w w'/\Jh u ts[k] e):=fun u k J w o1 o2 o3=>X1 u o1 o2 ts[k] (ht _ (yq J)) w o3;have m:Hid (∀ (u:JV) (w:Wo),zy u->(ct u).length<=1000000->Calls prog 74 #[.string (zi (ct u))] w fun e w'=>∃ r,e= .returned r/\PR w' w.heap.size r (zm u)/\Bw w w'):=fun u w o1 o2=>V2 u o1 w o2;clear hs ht;go_in;go_wp2;go_loopw [0,6] (fun sv iv wr=>∃ (k:Nat) (u:JV),k<=ts.length/\iv= .int .i64 (k:Int)/\sv= .string (zi (ct u))/\Za v (ts.take k)=some u/\zy u/\zw u=false/\(ct u).length<=1000000/\Bw w wr) (fun _ iv _=>ts.length - (intOf iv).toNat)
 case atStart=>exact⟨0,v,yr _,rfl,rfl,rfl,hok,htw,hl,yG _ _⟩
 case round=>
  obtain⟨k,u,J,rfl,rfl,s,K,A,y,E⟩:=hrel;have C:=zh s;have F:=zh E;by_cases b:k<ts.length
  ·have N:(k:Int)<(ts.length:Int):=by omega
   obtain rfl:=h (by omega);have f:=((uh G).below E).cell k (by rw[yk];exact b);rw[MV b]at f;have x:Zc (ts.getD k [])=zi ts[k]:=by simp[List.getD,b,Zc,zi]
   rw[x]at f;have HC:=zh (uh i u k b wr K A y);have o:Hid (zL u ts[k]=none->Ji v ts= .tuple #[.string ⟨#[]⟩,.bool false]):=fun hc=>by unfold Ji;rw[Ev b s hc]
   have l:Hid (∀ d,zL u ts[k]=some d->Za v (ts.take (k+1))=some d/\zy d/\zw d=false/\(ct d).length<=1000000):=fun d hc=>by
    obtain⟨c1,c2,c3,_⟩:=UL hc K A;exact⟨by rw[DK b s];exact hc,c1,c2,by omega⟩
   have n:Hid (∀ w,Calls prog 74 #[.string (zi (ct u))] w fun e w'=>∃ r,e= .returned r/\PR w' w.heap.size r (zm u)/\Bw w w'):=fun w=>uh m u w K y;generalize zi (ct u)=W at *;generalize zi ts[k]=st at *;clear s E C i m x;go_wp2_with fail;refine (uh HC).mono ?_;rintro e w1 ⟨I,⟨rfl,p⟩ |⟨j,U,d,rfl,q,z,-⟩⟩
   ·have H:=zh (uh o p);have B:=zj (uh F) I;clear HC o l n f p;go_wp2;go_ret2;exact⟨by rw[uh H];rfl,B⟩
   ·obtain⟨O,P,n3,Q⟩:=uh l d q;have B:=zh (zj (uh F) I);have D:=zh (⟨O,P,n3,Q⟩:Za v (ts.take (k+1))=some d/\zy d/\zw d=false/\(ct d).length<=1000000);have tj:¬ (j:Int)<0:=by omega
    clear HC o l f q O P n3 Q I;go_wp2_with fail;refine (uh n _).mono ?_;rintro e w2 ⟨Z,rfl,R,L⟩;obtain⟨X,M,T,_,_,c0,c1⟩:=R.cells j U;subst T;rw[z]at c1;have V:(j:Int)<((zm u).length:Int):=by omega
    have S:=zh (zj (uh B) L);clear n R L B c0 z;generalize (zm u).length=Y at *;go_wp2;go_roundw
    case rel=>exact⟨k+1,d,by omega,by go_num,rfl,(uh D).1,(uh D).2.1,(uh D).2.2.1,(uh D).2.2.2,uh S⟩
    case measure=>simp[intOf];omega
  ·have e:ts.take k=ts:=yp (by omega);rw[e]at C;have H:Hid (Ji v ts= .tuple #[.string (zi (ct u)),.bool true]):=by show _=_;unfold Ji;rw[uh C]
   generalize zi (ct u)=W at *;clear s E C i m e;go_wp2;go_ret2;exact⟨by rw[uh H];rfl,uh F⟩
theorem M4{B1:Nat}(v:JV)(hok:zy v)(htw:zw v=false)(hl:(ct v).length<=1000000)(r:Value)(ts:List (List UInt8))(w:Wo)(h:OT w B1 r ts)(hn:ts.length<=1048577)(ht:∀ t∈ts,t.length<=1048576):
  Calls prog 100 #[.string (zi (ct v)),r] w fun e w'=>e= .returned (Ji v ts)/\Bw w w':=by
 obtain⟨a,g,b,rfl,d,_⟩:=h.shape;exact Kh v hok htw hl a g 0 b ts w d hn ht
theorem M8{ps:List (List UInt8)}:∀ {ts:List (List UInt8)},ps.mapM zJ=some ts->∀ t∈ts,∃ p∈ps,zJ p=some t:=by
 induction ps with
 | nil=>intro ts h t a;simp at h;subst h;simp at a
 | cons p ps ih=>
  intro ts h t a;rw[XD]at h
  cases hu:zJ p with
  | none=>rw[hu]at h;simp at h
  | some q=>
   cases hm:List.mapM zJ ps with
   | none=>rw[hu,hm]at h;simp at h
   | some us=>
    rw[hu,hm]at h;simp at h;subst h;rcases List.mem_cons.1 a with rfl | a
    ·exact⟨p,yo,hu⟩
    ·obtain⟨f,b,d⟩:=ih hm t a;exact⟨f,yu _ b,d⟩
theorem M9:∀ (n:Nat) (p t:List UInt8),p.length<=n->zJ p=some t->t.length<=p.length:=by
 intro n;induction n with
 | zero=>intro p t b h;obtain rfl:=yM (Nat.le_zero.1 b);simp[zJ]at h;subst h;simp
 | succ n ih=>
  intro p t b h
  cases p with
  | nil=>simp[zJ]at h;subst h;simp
  | cons c r=>
   have fin:∀ (r':List UInt8) (x:List UInt8),r'.length<=r.length->x.length=1->(zJ r').map (x++·)=some t->t.length<=(c :: r).length:=fun r' x hr hx hm=>by
    cases hu:zJ r' with
    | none=>rw[hu]at hm;simp at hm
    | some u=>
     rw[hu]at hm;simp at hm;have:=ih r' u (by simp at b;omega) hu;rw[← hm];simp;omega
   by_cases a:(c.toNat:Int)=126
   ·cases r with
    | nil=>rw[UZ a]at h;cases h
    | cons d r=>
     by_cases f:(d.toNat:Int)=48
     ·rw[U0 r a f]at h;exact fin r [126] (by simp) rfl h
     ·by_cases g:(d.toNat:Int)=49
      ·rw[U1 r a g]at h;exact fin r [47] (by simp) rfl h
      ·rw[U2 r a f g]at h;cases h
   ·rw[UY r a]at h;exact fin r [c] (yd _) rfl h
theorem N6{l:List UInt8}{ts:List (List UInt8)}(h:zG l=some ts):∀ t∈ts,t.length<=l.length:=by
 intro t a
 cases l with
 | nil=>simp[zG]at h;subst h;simp at a
 | cons c r=>
  rw[zG]at h;split at h
  ·unfold Qc at h;obtain⟨p,b,d⟩:=M8 h t a;have f:=M9 _ p t (yd _) d;have g:=Ng r p b;simp;omega
  ·cases h
def ZW(ps:List zx)(p:Nat)(dr pu:Bool)(q:zx)(i:Nat):List zx:=
 (if i=p/\pu=true then [q]else [])++(if h:i<ps.length then (if i≠p∨dr=false then [ps[i]]else [])else [])
def Ze(ps:List zx)(p:Nat)(dr pu:Bool)(q:zx)(k:Nat):List zx:=(List.range k).flatMap (ZW ps p dr pu q)
theorem QU(ps:List zx)(p:Nat)(dr pu:Bool)(q:zx)(k:Nat):Ze ps p dr pu q (k+1)=Ze ps p dr pu q k++ZW ps p dr pu q k:=by
 unfold Ze;rw[List.range_succ,List.flatMap_append,List.flatMap_singleton]
theorem Ta(ps:List zx)(p:Nat)(dr pu:Bool)(q:zx)(i:Nat):(ZW ps p dr pu q i).length<=2:=by
 unfold ZW;rw[yg]
 repeat' split
 all_goals simp
theorem X4(ps:List zx)(p:Nat)(dr pu:Bool)(q:zx):∀ k,(Ze ps p dr pu q k).length<=2*k
 | 0=>by simp[Ze]
 | k+1=>by
  rw[QU,yg];have:=X4 ps p dr pu q k;have:=Ta ps p dr pu q k;omega
theorem Ki{v:JV}(h:zy v):0<(zi (ct v)).size:=by
 obtain⟨c,r,e,_⟩:=OQ h;rw[zS,e];simp
def Yc(v:JV)(ps:List zx):List UInt8:=if kd v=5 then Zi (ps.map (·.2))else ZD (zz ps)
theorem Tb{v:JV}(h:zy v)(h0:0<(zi (ct v)).size):((((zi (ct v))[0]).toNat:Int) ==91)=(kd v ==5):=by
 obtain⟨c,r,e,f⟩:=OQ h;have d:((zi (ct v))[0]).toNat=c.toNat:=by
  rw[← Zg _ 0 h0,e];exact (VD (c:=c) (r:=r)).2
 rw[d,← f];unfold fb;by_cases b:c.toNat=91
 ·rw[b];rfl
 ·have a:((c.toNat:Int) ==91)=false:=by rw[yb];omega
  rw[a];symm;rw[yb]
  repeat (first |(split;omega) | split)
  all_goals omega
theorem X5 (v:JV) (hok:zy v) (hl:(ct v).length<=1000000) (p:Nat) (dr pu:Bool) (q:zx) (w:Wo) (hp:p<=1000000)
  (hA:sumA (Ze (zm v) p dr pu q ((zm v).length+1))<=40000000) (hT:sumT (zz (Ze (zm v) p dr pu q ((zm v).length+1)))<=40000000) (hk:∀ x∈zz (Ze (zm v) p dr pu q ((zm v).length+1)),x.1.length<=1048576):
  Calls prog 153 #[.string (zi (ct v)),.int .i64 (p:Int),.bool dr,.bool pu,.agg #[.string (zi q.1),.string (zi q.2)]] w fun e w'=>e= .returned (.string (zi (Yc v (Ze (zm v) p dr pu q ((zm v).length+1)))))/\Bw w w':=by
 obtain⟨i0,F,G,H,I⟩:=info_parts Y9;have hpl:=V8 hok hl;have h0:0<(zi (ct v)).size:=Ki hok;have h0I:(0:Int)<((zi (ct v)).size:Int):=by omega
 have L:=Tb hok h0;have kA:=yF w (.cells #[.string (zi q.1),.string (zi q.2)] 97);have bA:=ZJ w (.cells #[.string (zi q.1),.string (zi q.2)] 97);have zA:(w.alloc (.cells #[.string (zi q.1),.string (zi q.2)] 97)).heap.size=w.heap.size+1:=by simp
 have HP:=zh (V2 v hok (w.alloc (.cells #[.string (zi q.1),.string (zi q.2)] 97)) hl);have HKA:=zh kA;have HBA:=zh bA;have HZA:=zh zA;have hwl:=X4 (zm v) p dr pu q ((zm v).length+1);have P:Hid (∀ (r:Value) (B:Nat) (wx:Wo),PR wx B r (Ze (zm v) p dr pu q ((zm v).length+1))->Calls prog 57 #[r] wx (Rb (.string (zi (Zi ((Ze (zm v) p dr pu q ((zm v).length+1)).map (·.2))))) wx)):=fun r B wx h=>Na B r _ wx h hA (by omega);have U:Hid (∀ (r:Value) (B:Nat) (wx:Wo),PR wx B r (Ze (zm v) p dr pu q ((zm v).length+1))->Calls prog 107 #[r] wx fun e w'=>∃ v',e= .returned v'/\PR w' wx.heap.size v' (zz (Ze (zm v) p dr pu q ((zm v).length+1)))/\Bw wx w'):=fun r B wx h=>WC B r _ wx h (by omega);have hil:(zz (Ze (zm v) p dr pu q ((zm v).length+1))).length<=40000000:=by rw[(qj _).length_eq];omega
 have Q:Hid (∀ (r:Value) (B:Nat) (wx:Wo),PR wx B r (zz (Ze (zm v) p dr pu q ((zm v).length+1)))->Calls prog 106 #[r] wx (Rb (.string (zi (ZD (zz (Ze (zm v) p dr pu q ((zm v).length+1)))))) wx)):=fun r B wx h=>VN B r _ wx h hT hil hk;have N:Hid (kd v=5->Yc v (Ze (zm v) p dr pu q ((zm v).length+1))=Zi ((Ze (zm v) p dr pu q ((zm v).length+1)).map (·.2))):=fun h=>by unfold Yc;rw[yf h]
 have O:Hid (¬ kd v=5->Yc v (Ze (zm v) p dr pu q ((zm v).length+1))=ZD (zz (Ze (zm v) p dr pu q ((zm v).length+1)))):=fun h=>by unfold Yc;rw[ye h]
 clear kA bA zA hA hT hk hok hl hil hwl;generalize kd v=K at *;generalize Yc v (Ze (zm v) p dr pu q ((zm v).length+1))=R at *;generalize zm v=a at *;generalize zi (ct v)=T at *;go_in;go_wp2_with fail;refine (uh HP).mono ?_;rintro e l ⟨r1,rfl,p1,b1⟩;have hB1:=zj (uh HBA) b1;have HB1:=zh hB1;have hz1w:w.heap.size<l.heap.size:=by have:=b1.size;have:=uh HZA;omega
 have HKQ:Hid (∀ wx,Bw l wx->wx.cell? ⟨w.heap.size,0,none⟩=some (.string (zi q.1))/\wx.cell? ⟨w.heap.size,1,none⟩=some (.string (zi q.2))):=fun wx hx=>by
  have k:=(hx.block w.heap.size hz1w).trans ((b1.block w.heap.size (by have:=uh HZA;omega)).trans (uh HKA));exact⟨yE k 0,yE k 1⟩
 have S:Hid (∀ k (hk:k<a.length) wx,Bw l wx->∃ g,r1.ownBlock=some g/\(∃ E,r1= .slice (some ⟨g,0,none⟩) a.length E)/\wx.cell? ⟨g,k*2,none⟩=some (.string (zi a[k].1))/\wx.cell? ⟨g,k*2+1,none⟩=some (.string (zi a[k].2))):=fun k hk wx hx=>by
  obtain⟨g,E,hv,_,_,c0,c1⟩:=(PR.below p1 hx).cells k hk;exact⟨g,by rw[hv];rfl,⟨E,hv⟩,c0,c1⟩
 obtain⟨xa,xc,rfl⟩:=PR.shape p1;clear HP b1 p1 hB1 HBA HKA;go_wp2;have HO0:Hid ((l.alloc (.cells #[] 97)).ownsRow l.heap.size 97 2 (.slice (some ⟨l.heap.size,0,none⟩) 0 0) 0 []):=World.ownsRow_lit l #[] 0 (yd _) (by unfold maxLen;omega) rfl;have HB0:Hid (Bw l (l.alloc (.cells #[] 97))):=ZJ l _;go_loopw [12,13] (fun r i wr=>∃ k:Nat,k<=a.length+1/\i= .int .i64 (k:Int)/\wr.ownsRow l.heap.size 97 2 r (Ze a p dr pu q k).length ((Ze a p dr pu q k).flatMap zF)/\Bw l wr) (fun _ i _=>a.length+1 - (intOf i).toNat)
 case atStart=>exact⟨0,yr _,rfl,uh HO0,uh HB0⟩
 case round=>
  obtain⟨k,hk,rfl,o,W⟩:=hrel;clear HO0 HB0;have f:=zh W;have hal:=X4 a p dr pu q k;have hbz:=W.size;by_cases hle:k<=a.length
  ·have hleI:(k:Int)<=(a.length:Int):=by omega
   have z:(Ze a p dr pu q k).length<=2000002:=by omega
   clear P U Q N O;clear hal;by_cases M:k=p
   ·subst M;have tkp:((k:Int) ==(k:Int))=true:=by simp
    have tkn:((k:Int) !=(k:Int))=false:=by simp
    obtain⟨c0,c1⟩:=uh HKQ wr W
    cases pu with
    | true=>
     by_cases n:k<a.length
     ·have C:(k:Int)<(a.length:Int):=by omega
      cases dr with
      | true=>
       have b:Hid (ZW a k true true q k=[q]):=by show _=_;unfold ZW;simp[n]
       obtain⟨A,j⟩:∃ A,Ze a k true true q k=A:=⟨_,rfl⟩;rw[j]at o z;have s:=zh j;clear j;go_wp2_with (at_builtin;refine wpList_append_own _ rfl (.tmp 29) (.tmp 31) 94 rfl l.heap.size 97 i0 (.agg #[.string ByteArray.empty,.string ByteArray.empty]) 2 32 underlying94 F G H I rfl (by decide) _ _ _ rfl (o.alloc _) ⟨wr.heap.size,0,none⟩ 1 1 (zF q) rfl rfl (QE _ _ _ _) (fun u hu=>by {simp[zF]at hu;rcases hu with rfl | rfl<;>rfl}) (by unfold maxLen;omega) (by omega) (by simp;omega) ?_);intro V J d m _;have y:J.ownsRow l.heap.size 97 2 V (A++[q]).length ((A++[q]).flatMap zF):=by rw[yg,List.flatMap_append,List.flatMap_singleton];exact d
       have D:=zh (((uh f).alloc (uh f).size _).grown m (by simp;have:=(uh f).size;omega) (fun k hk=>(o.lt k hk).1));clear d m;clear o c0 c1;go_wp2;go_roundw
       case rel=>exact⟨k+1,by omega,by go_num,by rw[QU,uh b,uh s];exact y,uh D⟩
       case measure=>simp[intOf];omega
      | false=>
       have b:Hid (ZW a k false true q k=[q]++[a[k]]):=by show _=_;unfold ZW;simp[n]
       obtain⟨g,-,⟨E,e⟩,-,-⟩:=uh S k n wr W;injection e with e1 e2 e3;subst e1;subst e3;obtain⟨A,j⟩:∃ A,Ze a k false true q k=A:=⟨_,rfl⟩;rw[j]at o z;have s:=zh j;clear j;go_wp2_with (at_builtin;refine wpList_append_own _ rfl (.tmp 29) (.tmp 31) 94 rfl l.heap.size 97 i0 (.agg #[.string ByteArray.empty,.string ByteArray.empty]) 2 32 underlying94 F G H I rfl (by decide) _ _ _ rfl (o.alloc _) ⟨wr.heap.size,0,none⟩ 1 1 (zF q) rfl rfl (QE _ _ _ _) (fun u hu=>by {simp[zF]at hu;rcases hu with rfl | rfl<;>rfl}) (by unfold maxLen;omega) (by omega) (by simp;omega) ?_);intro V J d m _;have y:J.ownsRow l.heap.size 97 2 V (A++[q]).length ((A++[q]).flatMap zF):=by rw[yg,List.flatMap_append,List.flatMap_singleton];exact d
       have D:=zh (((uh f).alloc (uh f).size _).grown m (by simp;have:=(uh f).size;omega) (fun k hk=>(o.lt k hk).1));clear d m;obtain⟨g',eg,-,d0,d1⟩:=uh S k n J (uh D);injection eg with eg;subst eg;have hal5:(A++[q]).length<=2000003:=by rw[yg];simp;omega
       obtain⟨A2,Z⟩:∃ A2,A++[q]=A2:=⟨_,rfl⟩;rw[Z]at y hal5;have HA2E:=zh Z;have hz5w:=(uh D).size;clear Z;clear o c0 c1;go_wp2_with (at_builtin;refine wpList_append_own _ rfl (.tmp 46) (.tmp 51) 94 rfl l.heap.size 97 i0 (.agg #[.string ByteArray.empty,.string ByteArray.empty]) 2 32 underlying94 F G H I rfl (by decide) _ _ _ rfl (y.alloc _) ⟨J.heap.size,0,none⟩ 1 1 (zF a[k]) rfl rfl (QE _ _ _ _) (fun u hu=>by {simp[zF]at hu;rcases hu with rfl | rfl<;>rfl}) (by unfold maxLen;omega) (by omega) (by simp;omega) ?_);intro v7 w7 X hg7 _;have P7:w7.ownsRow l.heap.size 97 2 v7 (A2++[a[k]]).length ((A2++[a[k]]).flatMap zF):=by rw[yg,List.flatMap_append,List.flatMap_singleton];exact X
       have B7:=zh (((uh D).alloc (uh D).size _).grown hg7 (by simp;have:=(uh D).size;omega) (fun k hk=>(y.lt k hk).1));clear X hg7;clear y d0 d1;go_wp2;go_roundw
       case rel=>exact⟨k+1,by omega,by go_num,by rw[QU,uh b,← List.append_assoc,uh s,uh HA2E];exact P7,uh B7⟩
       case measure=>simp[intOf];omega
     ·have C:¬ (k:Int)<(a.length:Int):=by omega
      have b:Hid (ZW a k dr true q k=[q]):=by show _=_;unfold ZW;simp[n]
      obtain⟨A,j⟩:∃ A,Ze a k dr true q k=A:=⟨_,rfl⟩;rw[j]at o z;have s:=zh j;clear j;go_wp2_with (at_builtin;refine wpList_append_own _ rfl (.tmp 29) (.tmp 31) 94 rfl l.heap.size 97 i0 (.agg #[.string ByteArray.empty,.string ByteArray.empty]) 2 32 underlying94 F G H I rfl (by decide) _ _ _ rfl (o.alloc _) ⟨wr.heap.size,0,none⟩ 1 1 (zF q) rfl rfl (QE _ _ _ _) (fun u hu=>by {simp[zF]at hu;rcases hu with rfl | rfl<;>rfl}) (by unfold maxLen;omega) (by omega) (by simp;omega) ?_);intro V J d m _;have y:J.ownsRow l.heap.size 97 2 V (A++[q]).length ((A++[q]).flatMap zF):=by rw[yg,List.flatMap_append,List.flatMap_singleton];exact d
      have D:=zh (((uh f).alloc (uh f).size _).grown m (by simp;have:=(uh f).size;omega) (fun k hk=>(o.lt k hk).1));clear d m;clear o c0 c1;go_wp2;go_roundw
      case rel=>exact⟨k+1,by omega,by go_num,by rw[QU,uh b,uh s];exact y,uh D⟩
      case measure=>simp[intOf];omega
    | false=>
     clear c0 c1;by_cases n:k<a.length
     ·have C:(k:Int)<(a.length:Int):=by omega
      cases dr with
      | true=>
       have b:Hid (ZW a k true false q k=[]):=by show _=_;unfold ZW;simp[n]
       have y:wr.ownsRow l.heap.size 97 2 u12 (Ze a k true false q k++[]).length ((Ze a k true false q k++[]).flatMap zF):=by rw[List.append_nil];exact o
       go_wp2;go_roundw
       case rel=>exact⟨k+1,by omega,by go_num,by rw[QU,uh b];exact y,uh f⟩
       case measure=>simp[intOf];omega
      | false=>
       have b:Hid (ZW a k false false q k=[a[k]]):=by show _=_;unfold ZW;simp[n]
       obtain⟨g,-,⟨E,e⟩,d0,d1⟩:=uh S k n wr W;injection e with e1 e2 e3;subst e1;subst e3;obtain⟨A,j⟩:∃ A,Ze a k false false q k=A:=⟨_,rfl⟩;rw[j]at o z;have s:=zh j;clear j;go_wp2_with (at_builtin;refine wpList_append_own _ rfl (.tmp 46) (.tmp 51) 94 rfl l.heap.size 97 i0 (.agg #[.string ByteArray.empty,.string ByteArray.empty]) 2 32 underlying94 F G H I rfl (by decide) _ _ _ rfl (o.alloc _) ⟨wr.heap.size,0,none⟩ 1 1 (zF a[k]) rfl rfl (QE _ _ _ _) (fun u hu=>by {simp[zF]at hu;rcases hu with rfl | rfl<;>rfl}) (by unfold maxLen;omega) (by omega) (by simp;omega) ?_);intro V J d m _;have y:J.ownsRow l.heap.size 97 2 V (A++[a[k]]).length ((A++[a[k]]).flatMap zF):=by rw[yg,List.flatMap_append,List.flatMap_singleton];exact d
       have D:=zh (((uh f).alloc (uh f).size _).grown m (by simp;have:=(uh f).size;omega) (fun k hk=>(o.lt k hk).1));clear d m;clear o d0 d1;go_wp2;go_roundw
       case rel=>exact⟨k+1,by omega,by go_num,by rw[QU,uh b,uh s];exact y,uh D⟩
       case measure=>simp[intOf];omega
     ·have C:¬ (k:Int)<(a.length:Int):=by omega
      have b:Hid (ZW a k dr false q k=[]):=by show _=_;unfold ZW;simp[n]
      have y:wr.ownsRow l.heap.size 97 2 u12 (Ze a k dr false q k++[]).length ((Ze a k dr false q k++[]).flatMap zF):=by rw[List.append_nil];exact o
      go_wp2;go_roundw
      case rel=>exact⟨k+1,by omega,by go_num,by rw[QU,uh b];exact y,uh f⟩
      case measure=>simp[intOf];omega
   ·have tkp:((k:Int) ==(p:Int))=false:=by rw[yb];omega
    have tkn:((k:Int) !=(p:Int))=true:=by simp;omega
    by_cases n:k<a.length
    ·have C:(k:Int)<(a.length:Int):=by omega
     have b:Hid (ZW a p dr pu q k=[a[k]]):=by show _=_;unfold ZW;simp[n,M]
     obtain⟨g,-,⟨E,e⟩,d0,d1⟩:=uh S k n wr W;injection e with e1 e2 e3;subst e1;subst e3;clear M;obtain⟨A,j⟩:∃ A,Ze a p dr pu q k=A:=⟨_,rfl⟩;rw[j]at o z;have s:=zh j;clear j;go_wp2_with (at_builtin;refine wpList_append_own _ rfl (.tmp 46) (.tmp 51) 94 rfl l.heap.size 97 i0 (.agg #[.string ByteArray.empty,.string ByteArray.empty]) 2 32 underlying94 F G H I rfl (by decide) _ _ _ rfl (o.alloc _) ⟨wr.heap.size,0,none⟩ 1 1 (zF a[k]) rfl rfl (QE _ _ _ _) (fun u hu=>by {simp[zF]at hu;rcases hu with rfl | rfl<;>rfl}) (by unfold maxLen;omega) (by omega) (by simp;omega) ?_);intro V J d m _;have y:J.ownsRow l.heap.size 97 2 V (A++[a[k]]).length ((A++[a[k]]).flatMap zF):=by rw[yg,List.flatMap_append,List.flatMap_singleton];exact d
     have D:=zh (((uh f).alloc (uh f).size _).grown m (by simp;have:=(uh f).size;omega) (fun k hk=>(o.lt k hk).1));clear d m;clear o d0 d1;go_wp2;go_roundw
     case rel=>exact⟨k+1,by omega,by go_num,by rw[QU,uh b,uh s];exact y,uh D⟩
     case measure=>simp[intOf];omega
    ·have C:¬ (k:Int)<(a.length:Int):=by omega
     have b:Hid (ZW a p dr pu q k=[]):=by show _=_;unfold ZW;simp[n,M]
     have y:wr.ownsRow l.heap.size 97 2 u12 (Ze a p dr pu q k++[]).length ((Ze a p dr pu q k++[]).flatMap zF):=by rw[List.append_nil];exact o
     clear M;go_wp2;go_roundw
     case rel=>exact⟨k+1,by omega,by go_num,by rw[QU,uh b];exact y,uh f⟩
     case measure=>simp[intOf];omega
  ·have hleI:¬ (k:Int)<=(a.length:Int):=by omega
   have hkn:k=a.length+1:=by omega
   subst hkn;have HBF:=zh (zj (uh HB1) (uh f));by_cases h5:K=5
   ·have HM:=zh (uh P u12 _ wr o);have HE:=zh (uh N h5);rw[h5]at L;have hfk':(((T[0]).toNat:Int) ==91)=true:=L;clear P U Q N O L h5 o W;go_wp2_with fail;refine (uh HM).mono ?_;rintro e w4 ⟨rfl,b4⟩;have Y:=zh (zj (uh HBF) b4);clear HM b4;go_wp2;go_ret;exact⟨by rw[uh HE];rfl,uh Y⟩
   ·have HS:=zh (uh U u12 _ wr o);have HE:=zh (uh O h5);have hfk':(((T[0]).toNat:Int) ==91)=false:=by rw[L];simp[h5]
    clear P U N O L h5 o W;go_wp2_with fail;refine (uh HS).mono ?_;rintro e w4 ⟨r4,rfl,p4,b4⟩;have HM:=zh (uh Q r4 _ w4 p4);have Y:=zh (zj (uh HBF) b4);clear HS Q p4 b4;go_wp2_with fail;refine (uh HM).mono ?_;rintro e J ⟨rfl,b5⟩;have HB5:=zh (zj (uh Y) b5);clear HM b5;go_wp2;go_ret;exact⟨by rw[uh HE];rfl,uh HB5⟩
theorem Tc(s:Bs)(w:Wo)(hs:s.size<=10000000):
  Calls prog 36 #[.iface 171 (.string s)] w fun e w'=>e= .returned (.string (zi (34 ::(rs s++[34]))))/\Bw w w':=by
 have HC:=zh (Nj w.heap.size w.heap.size [] s (w.alloc (.cells #[.pointer none,.slice none 0 0] 149)) (Lib.fresh_isBuilder _ _ w) (by simp) (by simp) hs);rw[List.nil_append]at HC;go_in;go_wp2_with fail;refine (uh HC).mono ?_;rintro e g ⟨rfl,f,d,_⟩;have b:Bw w g:=((yG _ _).alloc (yd _) _).trans d;have a:=b.size;have i:=zh (WW w.heap.size w.heap.size (34 ::(rs s++[34])) g f a);clear f d HC;go_wp2_with fail;refine (uh i).mono ?_;rintro e k ⟨rfl,j⟩;have h:=b.trans j;go_wp2;go_ret;exact⟨rfl,h⟩
end Go.Proofs.YtpaecnbdoljafaaGreatDoor
