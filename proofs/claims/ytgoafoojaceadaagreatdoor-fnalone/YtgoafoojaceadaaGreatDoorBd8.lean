import Derived.Test.YtgoafoojaceadaaGreatDoorBd5
import Derived.Test.YtgoafoojaceadaaGreatDoorBd7
set_option maxRecDepth 100000
set_option maxHeartbeats 8000000
open Go renaming Calls->δ,Value->ω
open Go.Ending renaming returned->ε
open Go.IntKind renaming i64->κ
open Go.Obj renaming cells->χ
open Go.Value renaming agg->γ,bool->θ,iface->φ,int->ι,pointer->π,slice->ς,string->σ
open _root_.Bool renaming false->ζ,true->ξ
open _root_.ByteArray renaming empty->Α
open _root_.List renaming flatMap_append->Γ,flatMap_singleton->Β
open _root_.Option renaming none->ν,some->η
namespace Go.Proofs.YtgoafoojaceadaaGreatDoor
open Go.RowKit Go.Proofs.Tryz
variable{ts:List (List UInt8)}{v:JV}{B j:Nat}{t:List UInt8}{e:Ending}{w:Wo}
theorem PT(h:j<ts.length):(ts.map zG).getD j Α=zG (ts.getD j []):=by simp[h]
def YS(v:JV)(t:List UInt8)(e:Ending):Prop:=(e=ε (ι κ (-1))/\zK v t=ν)∨∃ (j:Nat) (hj:j<(zl v).length) (u:JV),e=ε (ι κ (j:Int))/\zK v t=η u/\(zl v)[j].2=ct u/\(zl v)[j].1=t
theorem YS.no(h:e=ε (ι κ (-1)))(k:zK v t=ν):YS v t e:=Or.inl ⟨h,k⟩
theorem YS.yes{u:JV}(hj:j<(zl v).length)(h:e=ε (ι κ (j:Int)))(k:zK v t=η u/\(zl v)[j].2=ct u/\(zl v)[j].1=t):YS v t e:=Or.inr ⟨j,hj,u,h,k.1,k.2.1,k.2.2⟩
theorem LX(v:JV)(hok:zz v)(htw:zF v=ζ)(t:List UInt8)(ht:t.length<=1048576)(w:Wo)(hl:(ct v).length<=1000000):
  δ prog 165 #[σ (ze (ct v)),(ze t)] w fun e w'=>Below w w w'/\YS v t e:=by
 have A:=zb fun w=>Ww v hok w hl;have o:Hid (∀ w,δ prog 168 #[(ze t)] w (Rk (ι κ (Yx t)) w)):=fun w=>by
  have:=zaa (ze t) w (by rw[zL];exact ht)
  rwa [Zb]at this
 have F:=Wx hok hl;have z:=Pb v hok;have E:0<(ze (ct v)).size:=by rw[zL];cases h:ct v with
  | nil=>exact absurd h z
  | cons _ _=>simp
 have G:(0:Int)<((ze (ct v)).size:Int):=om;have a:(ze (ct v))[0].toNat=91↔∃ l,v= .arr l:=by
  rw[← Zx _ 0 E];constructor
  .intro h
   cases v with
   | arr l=>exact⟨l,rfl⟩
   | obj m=>exact absurd h (by rw[show ct (.obj m)=123 ::(joinC ((zI (zm m)).map zo)++[125])from rfl,(VX (c:=123) (r:=joinC ((zI (zm m)).map zo)++[125])).2];decide)
   | nul=>exact absurd h dc
   | tt=>exact absurd h dc
   | ff=>exact absurd h dc
   | num l=>
    have B:=Xz hok
    cases l with
    | nil=>exact absurd rfl B.1
    | cons c r=>
     have d:bt (ze (c :: r)) 0=91:=h;rw[(VX (c:=c) (r:=r)).2]at d;exact absurd d (B.2 c yq).1.2.1
   | str l=>exact absurd h (by rw[show ct (.str l)=34 ::(qs l++[34])from rfl,(VX (c:=34) (r:=qs l++[34])).2];decide)
  .rintro⟨l,rfl⟩;exact (VX (c:=91) (r:=joinC (zu l)++[93])).2
 have q:Hid (((∃ l,v= .arr l)->(Qo t).isSome=ξ)->∀ {j:Nat} (hj:j<(zl v).length),(zl v)[j].1=t->∃ u,zK v t=η u/\(zl v)[j].2=ct u):=fun hi {j} hj hk=>Po hok htw hi hj hk;have s:=zb fun (h:(∀ j (hj:j<(zl v).length),(zl v)[j].1≠t))=>Pp h;have x:Hid ((∃ l,v= .arr l)->Qo t=ν->zK v t=ν):=fun ⟨l,e⟩ h=>by subst e;rw[JO,h];rfl
 have k:((∃ l,v= .arr l)->(Qo t).isSome=ξ)->∀ w1 (r:ω),PR w1 w r (zl v)->δ prog 126 #[r,(ze t)] w1 fun e w'=>w1=w'/\YS v t e:=fun hi w1 r hr=>by
  go_call Pt _ r (zl v) t w1 hr om as e w' ⟨rfl,⟨rfl,h⟩ |⟨j,hj,rfl,hk⟩⟩
  .exact⟨rfl,YS.no rfl (uh s h)⟩
  .obtain⟨u,n,d⟩:=uh q hi hj hk;exact⟨rfl,YS.yes hj rfl ⟨n,d,hk⟩⟩
 have b:=zb k;by_cases p:∃ l,v= .arr l
 .have D:(((ze (ct v))[0].toNat:Int) ==91)=ξ:=by rw[yD];have:=a.2 p;omega
  cases hx:Qo t with
  | none=>
   have C:=zb (uh x p hx);have y:Yx t= -1:=by unfold Yx;rw[hx]
   rw[y]at o;generalize ze (ct v)=T at *;go_in;go_wp2_with fail;go_call uh o _ as e w1 ⟨rfl,rfl⟩;go_wp2;go_ret;exact⟨yI _ _,YS.no rfl C⟩
  | some i=>
   have HR:=zb (uh b (fun _=>by rw[hx];rfl));have y:Yx t=(i:Int):=by unfold Yx;rw[hx]
   rw[y]at o;have H:¬ (i:Int)<0:=om;generalize ze (ct v)=T at *;go_in;go_wp2_with fail;go_call uh o _ as e w1 ⟨rfl,rfl⟩;go_wp2_with fail;go_call uh A _ as e w1 ⟨r,rfl,p1,b1⟩;have g:=zb (uh HR w1 r p1);go_wp2_with fail;go_call g as e w2 ⟨rfl,⟨rfl,h⟩ |⟨j,hj,u,rfl,n,d⟩⟩
   .have f:=zb h;go_wp2;go_ret;exact⟨b1,YS.no rfl f⟩
   .have f:=zb (⟨n,d⟩:zK v t=η u/\(zl v)[j].2=ct u/\(zl v)[j].1=t);go_wp2;go_ret;exact⟨b1,YS.yes hj rfl f⟩
 .have D:(((ze (ct v))[0].toNat:Int) ==91)=ζ:=by rw[yd];intro e;exact p (a.1 om)
  have HR:=zb (uh b (fun h=>absurd h p));generalize ze (ct v)=T at *;go_in;go_wp2_with fail;go_call uh A _ as e w1 ⟨r,rfl,p1,b1⟩;have g:=zb (uh HR w1 r p1);go_wp2_with fail;go_call g as e w2 ⟨rfl,⟨rfl,h⟩ |⟨j,hj,u,rfl,n,d⟩⟩
  .have f:=zb h;go_wp2;go_ret;exact⟨b1,YS.no rfl f⟩
  .have f:=zb (⟨n,d⟩:zK v t=η u/\(zl v)[j].2=ct u/\(zl v)[j].1=t);go_wp2;go_ret;exact⟨b1,YS.yes hj rfl f⟩
def Ga(v:JV)(ts:List (List UInt8)):ω:=match zM v ts with
 | some u=>.tuple #[σ (ze (ct u)),θ ξ]
 | none=>.tuple #[σ ⟨#[]⟩,θ ζ]
theorem PU(v:JV)(hok:zz v)(htw:zF v=ζ)(hl:(ct v).length<=1000000)(a:Option Addr)(g off cap:Nat)(ts:List (List UInt8))(w:Wo)(hs:SS w a g off (ts.map zG))(hn:ts.length<=1048577)(ht:∀ t∈ts,t.length<=1048576):
  δ prog 114 #[σ (ze (ct v)),ς a ts.length cap] w fun e w'=>e=ε (Ga v ts)/\Below w w w':=by
 have d:=hs.ad;have s:=zb hs;rw[yl]at d;have p:Hid (∀ (u:JV) (k:Nat) (B:k<ts.length) (w:Wo),zz u->zF u=ζ->(ct u).length<=1000000->δ prog 165 #[σ (ze (ct u)),(ze ts[k])] w fun e w'=>Below w w w'/\YS u ts[k] e):=fun u k B w o1 o2 o3=>LX u o1 o2 ts[k] (ht _ (yt B)) w o3;have r:=zb fun (u:JV) (w:Wo) (o1:zz u) (o2:(ct u).length<=1000000)=>Ww u o1 w o2;go_in;go_wp2;go_loopw [0,6] (fun sv iv wr=>∃ (k:Nat) (u:JV),k<=ts.length/\iv=ι κ (k:Int)/\sv=σ (ze (ct u))/\zM v (ts.take k)=η u/\zz u/\zF u=ζ/\(ct u).length<=1000000/\Below w w wr) (fun _ iv _=>ts.length - (intOf iv).toNat)
 case atStart=>exact⟨0,v,yu _,rfl,rfl,rfl,hok,htw,hl,yI _ _⟩
 case round=>
  obtain⟨k,u,B,rfl,rfl,z,C,l,i,F⟩:=hrel;have D:=zb z;have o:=zb F;by_cases b:k<ts.length
  .have G:(k:Int)<(ts.length:Int):=om;obtain rfl:=d om;have h:=(s.below F).cell k (by rw[yl];exact b);rw[PT b]at h;have A:zG (ts.getD k [])=ze ts[k]:=by simp[List.getD,b,zG,ze]
   rw[A]at h;have I:=zb (uh p u k b wr C l i);have x:Hid (zK u ts[k]=ν->Ga v ts= .tuple #[σ ⟨#[]⟩,θ ζ]):=fun hc=>by unfold Ga;rw[Ho b z hc]
   have q:Hid (∀ u',zK u ts[k]=η u'->zM v (ts.take (k+1))=η u'/\zz u'/\zF u'=ζ/\(ct u').length<=1000000):=fun u' hc=>by
    obtain⟨c1,c2,c3,_⟩:=GJ hc C l;exact⟨by rw[Lv b z];exact hc,c1,c2,om⟩
   have f:=zb fun w=>uh r u w C i;generalize ze (ct u)=O at *;generalize ze ts[k]=R at *;go_wp2_with fail;go_call I as e w1 ⟨b1,⟨rfl,hcn⟩ |⟨j,hj,u',rfl,hcs,hpt,-⟩⟩
   .have y:=zb (uh x hcn);have m:=zh o b1;go_wp2;go_ret2;exact⟨by rw[uh y];rfl,m⟩
   .obtain⟨L,M,n3,N⟩:=uh q u' hcs;have m:=zb (zh o b1);have n:=zb (⟨L,M,n3,N⟩:zM v (ts.take (k+1))=η u'/\zz u'/\zF u'=ζ/\(ct u').length<=1000000);have S:¬ (j:Int)<0:=om;go_wp2_with fail;go_call uh f _ as e w2 ⟨r2,rfl,p2,b2⟩;obtain⟨P,E,J,_,_,c0,c1⟩:=p2.cells j hj;subst J;rw[hpt]at c1;have K:(j:Int)<((zl u).length:Int):=om;have H:=zb (zh m b2);clear f p2 b2 m c0 hpt;generalize (zl u).length=Q at *;go_wp2;go_roundw
    case rel=>exact⟨k+1,u',om,by go_num,rfl,(uh n).1,(uh n).2.1,(uh n).2.2.1,(uh n).2.2.2,H⟩
    case measure=>simp[intOf];omega
  .have e:ts.take k=ts:=yr om;rw[e]at D;have y:Hid (Ga v ts= .tuple #[σ (ze (ct u)),θ ξ]):=by show _=_;unfold Ga;rw[uh D]
   generalize ze (ct u)=O at *;go_wp2;go_ret2;exact⟨by rw[uh y];rfl,o⟩
theorem zkw{B1:Nat}(v:JV)(hok:zz v)(htw:zF v=ζ)(hl:(ct v).length<=1000000)(r:ω)(ts:List (List UInt8))(w:Wo)(h:OT w B1 r ts)(hn:ts.length<=1048577)(ht:∀ t∈ts,t.length<=1048576):
  δ prog 114 #[σ (ze (ct v)),r] w fun e w'=>e=ε (Ga v ts)/\Below w w w':=by
 obtain⟨a,g,b,rfl,d,_⟩:=h.shape;exact PU v hok htw hl a g 0 b ts w d hn ht
theorem zkx{ps:List (List UInt8)}:∀ {ts:List (List UInt8)},ps.mapM zQ=η ts->∀ t∈ts,∃ p∈ps,zQ p=η t:=by
 induction ps with
 | nil=>intro ts h t a;simp at h;subst h;simp at a
 | cons p ps ih=>
  intro ts h t a;rw[PN]at h
  cases hu:zQ p with
  | none=>rw[hu]at h;simp at h
  | some q=>
   cases hm:List.mapM zQ ps with
   | none=>rw[hu,hm]at h;simp at h
   | some us=>
    rw[hu,hm]at h;simp at h;subst h;rcases List.mem_cons.1 a with rfl | a
    .exact⟨p,yq,hu⟩
    .obtain⟨f,b,d⟩:=ih hm t a;exact⟨f,yw _ b,d⟩
theorem zky:∀ (n:Nat) (p t:List UInt8),p.length<=n->zQ p=η t->t.length<=p.length:=by
 intro n;induction n with
 | zero=>intro p t b h;obtain rfl:=yO (Nat.le_zero.1 b);simp[zQ]at h;subst h;simp
 | succ n ih=>
  intro p t b h
  cases p with
  | nil=>simp[zQ]at h;subst h;simp
  | cons c r=>
   have fin:∀ (r':List UInt8) (x:List UInt8),r'.length<=r.length->x.length=1->(zQ r').map (x++·)=η t->t.length<=(c :: r).length:=fun r' x hr hx hm=>by
    cases hu:zQ r' with
    | none=>rw[hu]at hm;simp at hm
    | some u=>
     rw[hu]at hm;simp at hm;have:=ih r' u (by simp at b;omega) hu;rw[← hm];simp;omega
   by_cases a:(c.toNat:Int)=126
   .cases r with
    | nil=>rw[XT a]at h;cases h
    | cons d r=>
     by_cases f:(d.toNat:Int)=48
     .rw[Kj r a f]at h;exact fin r [126] sm rfl h
     .by_cases g:(d.toNat:Int)=49
      .rw[Kk r a g]at h;exact fin r [47] sm rfl h
      .rw[XU r a f g]at h;cases h
   .rw[Ki r a]at h;exact fin r [c] (ye _) rfl h
theorem LY{l:List UInt8}(h:zH l=η ts):∀ t∈ts,t.length<=l.length:=by
 intro t a
 cases l with
 | nil=>simp[zH]at h;subst h;simp at a
 | cons c r=>
  rw[zH]at h;split at h
  .unfold Jg at h;obtain⟨p,b,d⟩:=zkx h t a;have f:=zky _ p t (ye _) d;have g:=LO r p b;simp;omega
  .cases h
def qL(ps:List zy)(p:Nat)(dr pu:Bool)(q:zy)(i:Nat):List zy:=
 (if i=p/\pu=ξ then [q]else [])++(if h:i<ps.length then (if i≠p∨dr=ζ then [ps[i]]else [])else [])
def ZC(ps:List zy)(p:Nat)(dr pu:Bool)(q:zy)(k:Nat):List zy:=(List.range k).flatMap (qL ps p dr pu q)
theorem Yj(ps:List zy)(p:Nat)(dr pu:Bool)(q:zy)(k:Nat):ZC ps p dr pu q (k+1)=ZC ps p dr pu q k++qL ps p dr pu q k:=by
 unfold ZC;rw[List.range_succ,Γ,Β]
theorem zkz(ps:List zy)(p:Nat)(dr pu:Bool)(q:zy)(i:Nat):(qL ps p dr pu q i).length<=2:=by
 unfold qL;rw[yh]
 repeat' split
 all_goals simp
theorem LZ(ps:List zy)(p:Nat)(dr pu:Bool)(q:zy):∀ k,(ZC ps p dr pu q k).length<=2*k
 | 0=>by simp[ZC]
 | k+1=>by
  rw[Yj,yh];have:=LZ ps p dr pu q k;have:=zkz ps p dr pu q k;omega
theorem PV(h:zz v):0<(ze (ct v)).size:=by
 obtain⟨c,r,e,_⟩:=Uc h;rw[zL,e];simp
def Gb(v:JV)(ps:List zy):List UInt8:=if kd v=5 then qg (ps.map (·.2))else qo (zI ps)
theorem zkA(h:zz v)(h0:0<(ze (ct v)).size):((((ze (ct v))[0]).toNat:Int) ==91)=(kd v ==5):=by
 obtain⟨c,r,e,f⟩:=Uc h;have d:((ze (ct v))[0]).toNat=c.toNat:=by
  rw[← Zx _ 0 h0,e];exact (VX (c:=c) (r:=r)).2
 rw[d,← f];unfold fb;by_cases b:c.toNat=91
 .rw[b];rfl
 .have a:((c.toNat:Int) ==91)=ζ:=by rw[yd];omega
  rw[a];symm;rw[yd]
  repeat (first |(split;omega) | split)
  all_goals omega
theorem L0 (v:JV) (hok:zz v) (hl:(ct v).length<=1000000) (p:Nat) (dr pu:Bool) (q:zy) (w:Wo) (hp:p<=1000000)
  (hA:sumA (ZC (zl v) p dr pu q ((zl v).length+1))<=40000000) (hT:sumT (zI (ZC (zl v) p dr pu q ((zl v).length+1)))<=40000000) (hk:∀ x∈zI (ZC (zl v) p dr pu q ((zl v).length+1)),x.1.length<=1048576):
  δ prog 167 #[σ (ze (ct v)),ι κ (p:Int),θ dr,θ pu,γ #[(ze q.1),(ze q.2)]] w fun e w'=>e=ε (σ (ze (Gb v (ZC (zl v) p dr pu q ((zl v).length+1)))))/\Below w w w':=by
 obtain⟨Q,E,F,G,H⟩:=info_parts WY;have hpl:=Wx hok hl;have h0:=PV hok;have h0I:(0:Int)<((ze (ct v)).size:Int):=om;have N:=zkA hok h0;have kA:=yH w (χ #[(ze q.1),(ze q.2)] 120);have bA:=ZO w (χ #[(ze q.1),(ze q.2)] 120);have zA:(w.alloc (χ #[(ze q.1),(ze q.2)] 120)).heap.size=w.heap.size+1:=sm;have HP:=zb (Ww v hok (w.alloc (χ #[(ze q.1),(ze q.2)] 120)) hl);have HKA:=zb kA;have HBA:=zb bA;have V:=zb zA;have hwl:=LZ (zl v) p dr pu q ((zl v).length+1);have HMA:=zb fun (r:ω) (B:Nat) (wx:Wo) (h:PR wx B r (ZC (zl v) p dr pu q ((zl v).length+1)))=>zaT B r _ wx h hA om;have HSO:=zb fun (r:ω) (B:Nat) (wx:Wo) (h:PR wx B r (ZC (zl v) p dr pu q ((zl v).length+1)))=>Xy B r _ wx h om;have hil:(zI (ZC (zl v) p dr pu q ((zl v).length+1))).length<=40000000:=by rw[(Qc _).length_eq];omega
 have HMO:=zb fun (r:ω) (B:Nat) (wx:Wo) (h:PR wx B r (zI (ZC (zl v) p dr pu q ((zl v).length+1))))=>Ue B r _ wx h hT hil hk;have HEA:Hid (kd v=5->Gb v (ZC (zl v) p dr pu q ((zl v).length+1))=qg ((ZC (zl v) p dr pu q ((zl v).length+1)).map (·.2))):=fun h=>by unfold Gb;rw[yg h]
 have HEO:Hid (¬ kd v=5->Gb v (ZC (zl v) p dr pu q ((zl v).length+1))=qo (zI (ZC (zl v) p dr pu q ((zl v).length+1)))):=fun h=>by unfold Gb;rw[yf h]
 generalize kd v=K at *;generalize Gb v (ZC (zl v) p dr pu q ((zl v).length+1))=R at *;generalize zl v=a at *;generalize ze (ct v)=T at *;go_in;go_wp2_with fail;go_call HP as e w1 ⟨r1,rfl,p1,b1⟩;have hB1:=zh HBA b1;have HB1:=zb hB1;have aa:w.heap.size<w1.heap.size:=by have:=b1.size;have:=uh V;omega
 have HKQ:Hid (∀ wx,Below w1 w1 wx->wx.cell? w.heap.size=η (ze q.1)/\wx.cell? ⟨w,1,ν⟩=η (ze q.2)):=fun wx hx=>by
  have k:=(hx.block w aa).trans ((b1.block w (by have:=uh V;omega)).trans HKA);exact⟨yG k 0,yG k 1⟩
 have J:Hid (∀ k (hk:k<a.length) wx,Below w1 w1 wx->∃ g,r1.ownBlock=η g/\(∃ D,r1=ς (η g) a.length D)/\wx.cell? ⟨g,k*2,ν⟩=η (ze a[k].1)/\wx.cell? ⟨g,k*2+1,ν⟩=η (ze a[k].2)):=fun k hk wx hx=>by
  obtain⟨g,D,hv,_,_,c0,c1⟩:=(PR.below p1 hx).cells k hk;exact⟨g,by rw[hv];rfl,⟨D,hv⟩,c0,c1⟩
 obtain⟨xa,xc,rfl⟩:=PR.shape p1;go_wp2;have HO0:Hid ((w1.alloc (χ #[] 120)).ownsRow w1 120 2 (ς (η w1) 0 0) 0 []):=World.ownsRow_lit w1 #[] 0 (ye _) mo rfl;have HB0:Hid (Below w1 w1 (w1.alloc (χ #[] 120))):=ZO w1 _;go_loopw [12,13] (fun r i wr=>∃ k:Nat,k<=a.length+1/\i=ι κ (k:Int)/\wr.ownsRow w1 120 2 r (ZC a p dr pu q k).length ((ZC a p dr pu q k).flatMap Zc)/\Below w1 w1 wr) (fun _ i _=>a.length+1 - (intOf i).toNat)
 case atStart=>exact⟨0,yu _,rfl,HO0,HB0⟩
 case round=>
  obtain⟨k,hk,rfl,m,P⟩:=hrel;have d:=zb P;have hal:=LZ a p dr pu q k;have hbz:=P.size;by_cases hle:k<=a.length
  .have Z:(k:Int)<=(a.length:Int):=om;have y:(ZC a p dr pu q k).length<=2000002:=om;by_cases O:k=p
   .subst O;have tkp:((k:Int) ==(k:Int))=ξ:=sm;have tkn:((k:Int) !=(k:Int))=ζ:=sm;obtain⟨c0,c1⟩:=uh HKQ wr P
    cases pu with
    | true=>
     by_cases j:k<a.length
     .have z:(k:Int)<(a.length:Int):=om
      cases dr with
      | true=>
       have b:Hid (qL a k ξ ξ q k=[q]):=by show _=_;unfold qL;simp[j]
       obtain⟨A,f⟩:∃ A,ZC a k ξ ξ q k=A:=⟨_,rfl⟩;rw[f]at m y;have n:=zb f;go_wp2_with (at_builtin;refine wpList_append_own _ rfl (.tmp 29) (.tmp 31) 116 rfl w1 120 Q (γ #[Α,Α]) 2 32 underlying116 E F G H rfl dc _ _ _ rfl (m.alloc _) wr 1 1 (Zc q) rfl rfl (Yf _ _ _ _) (fun u hu=>by {simp[Zc]at hu;rcases hu with rfl | rfl<;>rfl}) mo om so ?_);intro L I l o _;have s:I.ownsRow w1 120 2 L (A++[q]).length ((A++[q]).flatMap Zc):=by rw[yh,Γ,Β];exact l
       have C:=zb ((d.alloc d.size _).grown o (by simp;have:=d.size;omega) (fun k hk=>(m.lt k hk).1));go_wp2;go_roundw
       case rel=>exact⟨k+1,om,by go_num,by rw[Yj,uh b,uh n];exact s,C⟩
       case measure=>simp[intOf];omega
      | false=>
       have b:Hid (qL a k ζ ξ q k=[q]++[a[k]]):=by show _=_;unfold qL;simp[j]
       obtain⟨g,-,⟨D,e⟩,-,-⟩:=uh J k j wr P;injection e with e1 e2 e3;subst e1;subst e3;obtain⟨A,f⟩:∃ A,ZC a k ζ ξ q k=A:=⟨_,rfl⟩;rw[f]at m y;have n:=zb f;go_wp2_with (at_builtin;refine wpList_append_own _ rfl (.tmp 29) (.tmp 31) 116 rfl w1 120 Q (γ #[Α,Α]) 2 32 underlying116 E F G H rfl dc _ _ _ rfl (m.alloc _) wr 1 1 (Zc q) rfl rfl (Yf _ _ _ _) (fun u hu=>by {simp[Zc]at hu;rcases hu with rfl | rfl<;>rfl}) mo om so ?_);intro L I l o _;have s:I.ownsRow w1 120 2 L (A++[q]).length ((A++[q]).flatMap Zc):=by rw[yh,Γ,Β];exact l
       have C:=zb ((d.alloc d.size _).grown o (by simp;have:=d.size;omega) (fun k hk=>(m.lt k hk).1));obtain⟨g',eg,-,d0,d1⟩:=uh J k j I C;injection eg with eg;subst eg;have X:(A++[q]).length<=2000003:=by rw[yh];simp;omega
       obtain⟨A2,W⟩:∃ A2,A++[q]=A2:=⟨_,rfl⟩;rw[W]at s X;have S:=zb W;have hz5w:=C.size;go_wp2_with (at_builtin;refine wpList_append_own _ rfl (.tmp 46) (.tmp 51) 116 rfl w1 120 Q (γ #[Α,Α]) 2 32 underlying116 E F G H rfl dc _ _ _ rfl (s.alloc _) I 1 1 (Zc a[k]) rfl rfl (Yf _ _ _ _) (fun u hu=>by {simp[Zc]at hu;rcases hu with rfl | rfl<;>rfl}) mo om so ?_);intro v7 w7 ab hg7 _;have P7:w7.ownsRow w1 120 2 v7 (A2++[a[k]]).length ((A2++[a[k]]).flatMap Zc):=by rw[yh,Γ,Β];exact ab
       have B7:=zb ((C.alloc C.size _).grown hg7 (by simp;have:=C.size;omega) (fun k hk=>(s.lt k hk).1));go_wp2;go_roundw
       case rel=>exact⟨k+1,om,by go_num,by rw[Yj,uh b,← List.append_assoc,uh n,uh S];exact P7,B7⟩
       case measure=>simp[intOf];omega
     .have z:¬ (k:Int)<(a.length:Int):=om;have b:Hid (qL a k dr ξ q k=[q]):=by show _=_;unfold qL;simp[j]
      obtain⟨A,f⟩:∃ A,ZC a k dr ξ q k=A:=⟨_,rfl⟩;rw[f]at m y;have n:=zb f;go_wp2_with (at_builtin;refine wpList_append_own _ rfl (.tmp 29) (.tmp 31) 116 rfl w1 120 Q (γ #[Α,Α]) 2 32 underlying116 E F G H rfl dc _ _ _ rfl (m.alloc _) wr 1 1 (Zc q) rfl rfl (Yf _ _ _ _) (fun u hu=>by {simp[Zc]at hu;rcases hu with rfl | rfl<;>rfl}) mo om so ?_);intro L I l o _;have s:I.ownsRow w1 120 2 L (A++[q]).length ((A++[q]).flatMap Zc):=by rw[yh,Γ,Β];exact l
      have C:=zb ((d.alloc d.size _).grown o (by simp;have:=d.size;omega) (fun k hk=>(m.lt k hk).1));go_wp2;go_roundw
      case rel=>exact⟨k+1,om,by go_num,by rw[Yj,uh b,uh n];exact s,C⟩
      case measure=>simp[intOf];omega
    | false=>
     by_cases j:k<a.length
     .have z:(k:Int)<(a.length:Int):=om
      cases dr with
      | true=>
       have b:Hid (qL a k ξ ζ q k=[]):=by show _=_;unfold qL;simp[j]
       have s:wr.ownsRow w1 120 2 u12 (ZC a k ξ ζ q k++[]).length ((ZC a k ξ ζ q k++[]).flatMap Zc):=by rw[yT];exact m
       go_wp2;go_roundw
       case rel=>exact⟨k+1,om,by go_num,by rw[Yj,uh b];exact s,d⟩
       case measure=>simp[intOf];omega
      | false=>
       have b:Hid (qL a k ζ ζ q k=[a[k]]):=by show _=_;unfold qL;simp[j]
       obtain⟨g,-,⟨D,e⟩,d0,d1⟩:=uh J k j wr P;injection e with e1 e2 e3;subst e1;subst e3;obtain⟨A,f⟩:∃ A,ZC a k ζ ζ q k=A:=⟨_,rfl⟩;rw[f]at m y;have n:=zb f;go_wp2_with (at_builtin;refine wpList_append_own _ rfl (.tmp 46) (.tmp 51) 116 rfl w1 120 Q (γ #[Α,Α]) 2 32 underlying116 E F G H rfl dc _ _ _ rfl (m.alloc _) wr 1 1 (Zc a[k]) rfl rfl (Yf _ _ _ _) (fun u hu=>by {simp[Zc]at hu;rcases hu with rfl | rfl<;>rfl}) mo om so ?_);intro L I l o _;have s:I.ownsRow w1 120 2 L (A++[a[k]]).length ((A++[a[k]]).flatMap Zc):=by rw[yh,Γ,Β];exact l
       have C:=zb ((d.alloc d.size _).grown o (by simp;have:=d.size;omega) (fun k hk=>(m.lt k hk).1));go_wp2;go_roundw
       case rel=>exact⟨k+1,om,by go_num,by rw[Yj,uh b,uh n];exact s,C⟩
       case measure=>simp[intOf];omega
     .have z:¬ (k:Int)<(a.length:Int):=om;have b:Hid (qL a k dr ζ q k=[]):=by show _=_;unfold qL;simp[j]
      have s:wr.ownsRow w1 120 2 u12 (ZC a k dr ζ q k++[]).length ((ZC a k dr ζ q k++[]).flatMap Zc):=by rw[yT];exact m
      go_wp2;go_roundw
      case rel=>exact⟨k+1,om,by go_num,by rw[Yj,uh b];exact s,d⟩
      case measure=>simp[intOf];omega
   .have tkp:((k:Int) ==(p:Int))=ζ:=by rw[yd];omega
    have tkn:((k:Int) !=(p:Int))=ξ:=so;by_cases j:k<a.length
    .have z:(k:Int)<(a.length:Int):=om;have b:Hid (qL a p dr pu q k=[a[k]]):=by show _=_;unfold qL;simp[j,O]
     obtain⟨g,-,⟨D,e⟩,d0,d1⟩:=uh J k j wr P;injection e with e1 e2 e3;subst e1;subst e3;obtain⟨A,f⟩:∃ A,ZC a p dr pu q k=A:=⟨_,rfl⟩;rw[f]at m y;have n:=zb f;go_wp2_with (at_builtin;refine wpList_append_own _ rfl (.tmp 46) (.tmp 51) 116 rfl w1 120 Q (γ #[Α,Α]) 2 32 underlying116 E F G H rfl dc _ _ _ rfl (m.alloc _) wr 1 1 (Zc a[k]) rfl rfl (Yf _ _ _ _) (fun u hu=>by {simp[Zc]at hu;rcases hu with rfl | rfl<;>rfl}) mo om so ?_);intro L I l o _;have s:I.ownsRow w1 120 2 L (A++[a[k]]).length ((A++[a[k]]).flatMap Zc):=by rw[yh,Γ,Β];exact l
     have C:=zb ((d.alloc d.size _).grown o (by simp;have:=d.size;omega) (fun k hk=>(m.lt k hk).1));go_wp2;go_roundw
     case rel=>exact⟨k+1,om,by go_num,by rw[Yj,uh b,uh n];exact s,C⟩
     case measure=>simp[intOf];omega
    .have z:¬ (k:Int)<(a.length:Int):=om;have b:Hid (qL a p dr pu q k=[]):=by show _=_;unfold qL;simp[j,O]
     have s:wr.ownsRow w1 120 2 u12 (ZC a p dr pu q k++[]).length ((ZC a p dr pu q k++[]).flatMap Zc):=by rw[yT];exact m
     go_wp2;go_roundw
     case rel=>exact⟨k+1,om,by go_num,by rw[Yj,uh b];exact s,d⟩
     case measure=>simp[intOf];omega
  .have Z:¬ (k:Int)<=(a.length:Int):=om;have hkn:k=a.length+1:=om;subst hkn;have U:=zb (zh HB1 d);by_cases h5:K=5
   .have HM:=zb (uh HMA u12 _ wr m);have HE:=zb (uh HEA h5);rw[h5]at N;have Y:(((T[0]).toNat:Int) ==91)=ξ:=N;go_wp2_with fail;go_call HM as e w4 ⟨rfl,b4⟩;have M:=zb (zh U b4);go_wp2;go_ret;exact⟨by rw[uh HE];rfl,M⟩
   .have HS:=zb (uh HSO u12 _ wr m);have HE:=zb (uh HEO h5);have Y:(((T[0]).toNat:Int) ==91)=ζ:=by rw[N];simp[h5]
    go_wp2_with fail;go_call HS as e w4 ⟨r4,rfl,p4,b4⟩;have HM:=zb (uh HMO r4 _ w4 p4);have M:=zb (zh U b4);go_wp2_with fail;go_call HM as e I ⟨rfl,b5⟩;have HB5:=zb (zh M b5);go_wp2;go_ret;exact⟨by rw[uh HE];rfl,HB5⟩
theorem zkB(s:Bs)(w:Wo)(hs:s.size<=10000000):
  δ prog 40 #[φ 213 s] w fun e w'=>e=ε (σ (ze (34 ::(rs s++[34]))))/\Below w w w':=by
 have d:=zb (LQ w w [] s (w.alloc (χ #[π ν,ς ν 0 0] 173)) (Lib.fresh_isBuilder _ _ w) sm sm hs);rw[List.nil_append]at d;go_in;go_wp2_with fail;go_call d as e w1 ⟨rfl,h1,b1,_⟩;have b:=((yI _ _).alloc (ye _) _).trans b1;have a:=b.size;have g:=zb (XY w w (34 ::(rs s++[34])) w1 h1 a);go_wp2_with fail;go_call g as e w2 ⟨rfl,b2⟩;have f:=b.trans b2;go_wp2;go_ret;exact⟨rfl,f⟩
def qm(ts:List (List UInt8)):List UInt8:=ts.flatMap fun t=>47 :: Zg t
def JQ(ts:List (List UInt8)):Nat:=(ts.map List.length).sum
theorem F7(ts:List (List UInt8))(k:List UInt8):JQ (ts++[k])=JQ ts+k.length:=by simp[JQ]
theorem Ug(ts:List (List UInt8)):ZA (ts.map zG)=qm ts:=by
 induction ts with
 | nil=>rfl
 | cons t r ih=>
  have e:(zG t).data.toList=t:=by simp[zG]
  rw[yi];show 47 :: Zg (zG t).data.toList++ZA (r.map zG)=47 :: Zg t++qm r
  rw[ih,e]
theorem F8(ts:List (List UInt8)):qU (ts.map zG)=JQ ts:=by
 unfold qU JQ;rw[List.map_map];congr 1
theorem zbf(v:ω)(ts:List (List UInt8))(w:Wo)(h:OT w B v ts)(hm:ts.length+JQ ts<=1048576):
  δ prog 98 #[v] w fun e w'=>e=ε (σ (ze (qm ts)))/\Below w w w':=by
 obtain⟨a,g,b,rfl,d,_⟩:=h.shape;have e:ts.length=(ts.map zG).length:=sm;have:=Us a g 0 b (ts.map zG) w d (by rw[F8,← e];exact hm);rw[← e,Ug]at this;exact this
theorem zkC{v:ω}(h:OT w B v ts):(v=ς ν 0 0/\ts=[])∨∃ g cap,v=ς (η g) ts.length cap/\(∀ j u,(ts.map QJ)[j]?=η u->w.cell? ((g:Addr).add j)=η u):=by
 rcases h.2 with ⟨a,d⟩ |⟨g,cap,b,a,_⟩
 .exact .inl ⟨a,yO d⟩
 .refine .inr ⟨g,cap,a,fun j u hj=>?_⟩;subst a;exact World.ownsRow.cells h rfl j u hj
theorem zkD  {ops:Array Oper} {rest:List Oper} {o:Oper} {a:Act} {Q:Exit->Act->Wo->Prop} (hg:o.guard=ν) (s x:Operand)
  (ho:o.op= .call {callee:=.builtin .append,args:=#[s,x],argTypes:=#[35,35]}) {B':Nat} {v u:ω} {us:List (List UInt8)} (hs:a.eval s=v) (hx:a.eval x=u)
  (h:OT w B v ts) (k:OT w B' u us) (hB:B<=w.heap.size) (hl:ts.length+us.length<=1000000)
  (hK:∀ v' w',OT w' B v' (ts++us)->w.grownBy w' v.ownBlock->wpList prog ops Q rest (a.put o.dst v') w'):wpList prog ops Q (o :: rest) a w:=by
 obtain⟨m,l,f,i,j⟩:=info_parts GU;rcases zkC k with ⟨rfl,rfl⟩ |⟨g,d,rfl,b⟩
 .refine wpList_append_own_none hg s x 35 ho B 9 m 1 underlying35 l v _ _ hs h hx ?_;exact hK v w (by rw[yT];exact h) (World.grownBy.refl _ _)
 .refine wpList_append_own _ hg s x 35 ho B 9 m Α 1 16 underlying35 l f i j rfl dc v _ _ hs h g us.length d (us.map QJ) hx sm b (PF us) mo om hB ?_;intro v' w' n p _;exact hK v' w' (by unfold OT;rw[yh,yx];exact n) p
