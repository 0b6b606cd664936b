import Derived.Test.YtpaecnbdoljafaaGreatDoorBp5
import Derived.Test.YtpaecnbdoljafaaGreatDoorBp3
set_option maxRecDepth 100000
set_option maxHeartbeats 8000000
namespace Go.Proofs.YtpaecnbdoljafaaGreatDoor
open Go.RowKit Go.Proofs.Tryz
theorem Hy(p:zx):zi (quoted p.1)++⟨#[58]⟩++zi p.2=zi (zt p):=by
 rw[show (⟨#[58]⟩:Bs)=zi [58]from rfl,Y7,Y7];simp[zt]
theorem Hz(ps:List zx)(j:Nat)(h:j<ps.length):joinC ((ps.take (j+1)).map zt)=joinC ((ps.take j).map zt)++(if j=0 then zt ps[j]else 44 :: zt ps[j]):=by
 rw[yx h,yv,List.map_singleton,KP];by_cases a:j=0
 ·subst a;simp
 ·rw[ye (by simp;exact⟨a,by intro e;subst e;simp at h⟩),ye a]
theorem O5(a b:List zx):sumT (a++b)=sumT a+sumT b:=by
 unfold sumT;rw[yv,List.sum_append]
theorem L0(ps:List zx)(j:Nat):sumT (ps.take j)<=sumT ps:=by
 have h:=congrArg sumT (List.take_append_drop j ps);have e:=O5 (ps.take j) (ps.drop j);omega
theorem L1(ps:List zx)(j:Nat):(joinC ((ps.take j).map zt)).length<=sumT ps:=by
 have h:=KQ ((ps.take j).map zt);have a:=L0 ps j;rw[List.map_map]at h;exact yO h a
theorem H6(ps:List zx)(j:Nat)(h:j<ps.length):(zt ps[j]).length+1<=sumT ps:=by
 have a:=L0 ps (j+1);rw[yx h]at a;have e:sumT (ps.take j++[ps[j]])=sumT (ps.take j)+((zt ps[j]).length+1):=by rw[O5];simp[sumT]
 omega
theorem VN(B:Nat)(v:Value)(ps:List zx)(w:Wo)(h:PR w B v ps)(hn:sumT ps<=40000000)(hl:ps.length<=40000000)(hk:∀ p∈ps,p.1.length<=1048576):
  Calls prog 106 #[v] w fun e w'=>e= .returned (.string (zi (ZD ps)))/\Bw w w':=by
 obtain⟨i0,hi0,hz0,hz1,hz2⟩:=info_parts VR;obtain⟨x,len,cap,rfl,hlen⟩:∃ x len cap,v= .slice x len cap/\len=ps.length:=by
  rcases h.2 with ⟨hv,h0⟩ |⟨g,cap,cur,hv,_⟩
  ·exact⟨_,_,_,hv,h0.symm⟩
  ·exact⟨_,_,_,hv,rfl⟩
 subst hlen;have HP:=zh h;have HK:=zh hk;clear h hk;go_in;go_wp2_with fail;go_loopw [3,4] (fun r k wr=>∃ (j:Nat) (acc:List UInt8),k= .int .i64 (j:Int)/\j<=ps.length/\acc=123 :: joinC ((ps.take j).map zt)/\wr.ownsRow w.heap.size 5 1 r (Lib.byteCells acc).length (Lib.byteCells acc)/\Bw w wr) (fun _ k _=>ps.length - (intOf k).toNat)
 case atStart=>
  exact⟨0,[123],rfl,yr _,rfl,World.ownsRow_lit w #[.int .u8 123] 1 (yd _) (by unfold maxLen;omega) rfl,(yG _ _).alloc (yd _) _⟩
 case round=>
  obtain⟨j,acc,rfl,hj,hacc,hown,hb⟩:=hrel;have HA:=zh hacc;have HB:=zh hb;have hwsz:=hb.size;have hal:acc.length<=40000001:=by
   have:=L1 ps j;rw[hacc];simp only[ym];omega
  clear hacc hb;by_cases hin:j<ps.length
  ·have t1:((j:Int)<(ps.length:Int))=True:=eq_true (by omega);have i1:(0:Int)<=(j:Int):=by omega
   have i2:(j:Int)<(ps.length:Int):=by omega
   have hm:=H6 ps j hin;have hcat:=Hy ps[j];have HQ:Hid (∀ w,Calls prog 70 #[.string (zi ps[j].1)] w (Rb (.string (zi (quoted ps[j].1))) w)):=fun w=>by
    have:=WM (zi ps[j].1) w (by rw[zS];exact uh HK _ (yq _))
    rwa [Zd]at this
   have HJ:=zh (Hz ps j hin);have z1:(zi (quoted ps[j].1)).size<=40000000:=by
    rw[zS];simp only[zt,yg,ym]at hm;omega
   have z2:(zi ps[j].2).size<=40000000:=by
    rw[zS];simp only[zt,yg,ym]at hm;omega
   have z3:(9223372036854775807<(zi (quoted ps[j].1)).size+1)=False:=yP (by omega);have z4:(9223372036854775807<(zi (quoted ps[j].1)).size+1+(zi ps[j].2).size)=False:=yP (by omega);by_cases hj0:j=0
   ·have t2:(0<j)=False:=yP (by omega);rw[yf hj0]at HJ;obtain⟨g,cap',he,hgB,hgl,c0,c1⟩:=(uh HP).cells j hin;injection he with he1 he2 he3;subst he1;subst he3;generalize ps[j]=p at *;clear hj0;have keepc:Hid (∀ X:Wo,Bw w X->X.cell? ⟨g,j*2,none⟩=some (.string (zi p.1))/\X.cell? ⟨g,j*2+1,none⟩=some (.string (zi p.2))):=fun X hX=>⟨(hX.cell hgl).trans c0,(hX.cell hgl).trans c1⟩;clear c0 c1;go_wp2_with fail;obtain⟨k00,k01⟩:=uh keepc _ ((uh HB).drew)
    go_region_law (first
      |(
        go_simp;refine (uh HQ _).mono ?_;rintro e w2 ⟨rfl,b2⟩;have B2:=zj ((uh HB).drew) b2;obtain⟨cap3,W3,hcv,hcell,b3,hk3,hs3⟩:=G1 w2 (zt p);have own3:=hk3 _ _ _ _ _ (ZI (w:=wr.drew) hown b2);have B3:=zj B2 b3;have HCELL:=zh hcell;have hw2:=B2.size;obtain⟨k0,k1⟩:=uh keepc _ B2;clear hcell hk3)
      |(
        refine XA rfl (.tmp 17) (.tmp 31) 22 rfl w.heap.size 5 i0 (.int .u8 0) 1 1 underlying22 hi0 hz0 hz1 hz2 rfl (by decide) _ _ _ rfl (by exact own3) ⟨w2.heap.size,0,none⟩ (zt p).length cap3 (Lib.byteCells (zt p)) rfl (by rw[yJ];omega) (by exact uh HCELL) (GZ _) (by rw[yJ];unfold maxLen;omega) (by rw[yJ];omega) (by omega) ?_;intro v4 w4 own4 hg4;have B4:Bw w w4:=B3.grown hg4 (by omega) (fun k hk=>(own3.lt k hk).1)))
    all_goals
     have own4':=qh (m:=zt p) own4 rfl rfl;clear own4 hg4 own3 HCELL B3 B2 hcv b2 b3 hown keepc HB;go_wp2;go_roundw
    all_goals first
     | exact⟨j+1,acc++zt p,by go_num,by omega,by rw[uh HA,uh HJ];simp,own4',B4⟩
     |(simp[intOf];omega)
   ·have t2:(0<j)=True:=eq_true (by omega);rw[ye hj0]at HJ;obtain⟨g,cap',he,hgB,hgl,c0,c1⟩:=(uh HP).cells j hin;injection he with he1 he2 he3;subst he1;subst he3;generalize ps[j]=p at *;clear hj0;have keepc:Hid (∀ X:Wo,Bw w X->X.cell? ⟨g,j*2,none⟩=some (.string (zi p.1))/\X.cell? ⟨g,j*2+1,none⟩=some (.string (zi p.2))):=fun X hX=>⟨(hX.cell hgl).trans c0,(hX.cell hgl).trans c1⟩;clear c0 c1;go_wp2_with (at_builtin;refine wpList_append_own _ rfl (.tmp 14) (.tmp 15) 22 rfl w.heap.size 5 i0 (.int .u8 0) 1 1 underlying22 hi0 hz0 hz1 hz2 rfl (by decide) _ _ _ rfl (hown.alloc _) ⟨wr.heap.size,0,none⟩ 1 1 [.int .u8 44] rfl rfl (QH _ _ _) (J8 _ _) (by rw[yJ];unfold maxLen;omega) (by rw[yJ];omega) (by simp;omega) ?_;intro v1 w1 own1 hg1 _;have own1':=qh (m:=[44]) own1 rfl rfl;have HB1:=zh (((uh HB).alloc hwsz _).grown hg1 (by simp;omega) (fun k hk=>(hown.lt k hk).1));have hw1:=(uh HB1).size;have hal1:(acc++[44]).length<=40000002:=by {simp;omega});clear own1 hg1 hown HB;obtain⟨k00,k01⟩:=uh keepc _ ((uh HB1).drew)
    go_region_law (first
      |(
        go_simp;refine (uh HQ _).mono ?_;rintro e w2 ⟨rfl,b2⟩;have B2:=zj ((uh HB1).drew) b2;obtain⟨cap3,W3,hcv,hcell,b3,hk3,hs3⟩:=G1 w2 (zt p);have own3:=hk3 _ _ _ _ _ (ZI (w:=w1.drew) own1' b2);have B3:=zj B2 b3;have HCELL:=zh hcell;have hw2:=B2.size;obtain⟨k0,k1⟩:=uh keepc _ B2;clear hcell hk3)
      |(
        refine XA rfl (.tmp 17) (.tmp 31) 22 rfl w.heap.size 5 i0 (.int .u8 0) 1 1 underlying22 hi0 hz0 hz1 hz2 rfl (by decide) _ _ _ rfl (by exact own3) ⟨w2.heap.size,0,none⟩ (zt p).length cap3 (Lib.byteCells (zt p)) rfl (by rw[yJ];omega) (by exact uh HCELL) (GZ _) (by rw[yJ];unfold maxLen;omega) (by rw[yJ];omega) (by omega) ?_;intro v4 w4 own4 hg4;have B4:Bw w w4:=B3.grown hg4 (by omega) (fun k hk=>(own3.lt k hk).1)))
    all_goals
     have own4':=qh (m:=zt p) own4 rfl rfl;clear own4 hg4 own3 HCELL B3 B2 hcv b2 b3 own1' keepc HB1;go_wp2;go_roundw
    all_goals first
     | exact⟨j+1,(acc++[44])++zt p,by go_num,by omega,by rw[uh HA,uh HJ];simp,own4',B4⟩
     |(simp[intOf];omega)
  ·have t1:((j:Int)<(ps.length:Int))=False:=yP (by omega);have HE:Hid (acc++[125]=ZD ps):=by
    show _=_
    rw[uh HA,yp (by omega)];simp[ZD]
   go_wp2_with (at_builtin;refine wpList_append_own _ rfl (.tmp 33) (.tmp 34) 22 rfl w.heap.size 5 i0 (.int .u8 0) 1 1 underlying22 hi0 hz0 hz1 hz2 rfl (by decide) _ _ _ rfl (hown.alloc _) ⟨wr.heap.size,0,none⟩ 1 1 [.int .u8 125] rfl rfl (QH _ _ _) (J8 _ _) (by rw[yJ];unfold maxLen;omega) (by rw[yJ];omega) (by simp;omega) ?_;intro v1 w1 own1 hg1 _;have own1':=qh (m:=[125]) own1 rfl rfl;have HB1:=zh (((uh HB).alloc hwsz _).grown hg1 (by simp;omega) (fun k hk=>(hown.lt k hk).1));have hcv:=VS own1';clear own1 hg1 own1' hown HB);go_ret;exact⟨by rw[← uh HE];rfl,uh HB1⟩
def nx:List UInt8->Nat×List UInt8
 | []=>(0,[])
 | c :: r=>(c.toNat,r)
theorem Qo(q:List UInt8):(nx q).1<=255:=by
 cases q with
 | nil=>exact yr _
 | cons c r=>have:=UInt8.toNat_lt c;show c.toNat<=255;omega
def qz(k:Nat):List UInt8:=if k % 12<4 then [UInt8.ofNat (97+k % 12)]else if k % 12=4 then [48]else if k % 12=5 then [49,50]else if k % 12=6 then [97,47,98]
 else if k % 12=7 then [126,116]else if k % 12=8 then [195,169]else if k % 12=9 then []else if k % 12=10 then [45]else [120,39,92]
theorem Vf(k:Nat):(qz k).length<=3:=by
 unfold qz
 repeat' split
 all_goals simp
def Zy(w:Wo)(B rb:Nat)(q:List UInt8):Prop:=∃ (a:Option Addr) (c p:Nat) (l:List UInt8) (bb bo:Nat),w.heap[rb]?=some (.cells #[.slice a l.length c,.int .i64 p] 115 (0,0))/\B<=rb/\p<=l.length/\l.length<=1200/\BS w a bb bo l/\(0<l.length->bb<B)/\q=l.drop p
theorem Zy.is{w:Wo}{B rb:Nat}{q:List UInt8}(h:Zy w B rb q):JC w B rb:=by
 obtain⟨a,c,p,l,b,d,k,f,m,g,i,j,_⟩:=h;exact⟨a,c,p,l,b,d,k,f,by omega,g,i,j⟩
theorem Zy.lt{w:Wo}{B rb:Nat}{q:List UInt8}(h:Zy w B rb q):rb<w.heap.size:=h.is.lt
theorem Zy.ge{w:Wo}{B rb:Nat}{q:List UInt8}(h:Zy w B rb q):B<=rb:=by obtain⟨_,_,_,_,_,_,_,a,_⟩:=h;exact a
theorem Zy.len{w:Wo}{B rb:Nat}{q:List UInt8}(h:Zy w B rb q):q.length<=1200:=by
 obtain⟨a,c,p,l,b,d,_,_,_,f,_,_,rfl⟩:=h;rw[yt];omega
theorem Zy.grown{w w':Wo}{B rb:Nat}{q:List UInt8}{r:Option Nat}(h:Zy w B rb q)(hg:w.grownBy w' r)(hne:some rb≠r)(hB:∀ k,r=some k->B<=k):Zy w' B rb q:=by
 have b:=h.lt;obtain⟨a,c,p,l,d,g,s,i,j,m,n,f,o⟩:=h;exact⟨a,c,p,l,d,g,(hg.block rb b hne).trans s,i,j,m,n.grown hg (fun h0 e=>by have:=hB d e.symm;have:=f h0;omega),f,o⟩
structure DX(B rb:Nat)(w:Wo)(q:List UInt8)(w':Wo):Prop where
 rd:Zy w' B rb q
 gr:w.grownBy w' (some rb)
theorem DX.below{B rb:Nat}{w w1 w2:Wo}{q:List UInt8}(h:DX B rb w q w1)(hb:Bw w1 w2):DX B rb w q w2:=
 ⟨h.rd.grown (VU (r:=none) hb) (by simp) (fun _ e=>by cases e),J9 h.gr (VU hb)⟩
theorem DX.step{B rb:Nat}{w w1 w2:Wo}{q r:List UInt8}(h:DX B rb w q w1)(k:DX B rb w1 r w2):DX B rb w r w2:=⟨k.rd,J9 h.gr k.gr⟩
theorem DX.refl{B rb:Nat}{w:Wo}{q:List UInt8}(h:Zy w B rb q):DX B rb w q w:=⟨h,World.grownBy.refl _ _⟩
theorem DX.size{B rb:Nat}{w w1:Wo}{q:List UInt8}(h:DX B rb w q w1):w.heap.size<=w1.heap.size:=h.gr.size
def DT(B rb:Nat)(w:Wo)(t q:List UInt8)(e:Ending)(w':Wo):Prop:=e= .returned (.string (zi t))/\DX B rb w q w'
theorem QS(B rb:Nat)(q:List UInt8)(w:Wo)(h:Zy w B rb q):
  Calls prog 53 #[.pointer (some ⟨rb,0,none⟩)] w fun e w'=>e= .returned (.int .i64 ((nx q).1:Int))/\DX B rb w (nx q).2 w':=by
 obtain⟨a,c,p,l,r,s,i,u,y,v,g,d,k⟩:=h;have c0:w.cell? ⟨rb,0,none⟩=some (.slice a l.length c):=by rw[yE i];rfl
 have c1:w.cell? ⟨rb,1,none⟩=some (.int .i64 p):=by rw[yE i];rfl
 have A:w.frozen? ⟨rb,1,none⟩=false:=yH i 1;have o:=zh i;have b:=zh g;clear i g;by_cases f:p<l.length
 ·have z:=(uh b).cell p f;obtain rfl:=(uh b).ad (by omega);have hx:(l.getD p 0).toNat<=255:=by have:=UInt8.toNat_lt (l.getD p 0);omega
  have m:Hid (nx q=((l.getD p 0).toNat,l.drop (p+1))):=by
   show nx q=_
   rw[k,List.drop_eq_getElem_cons f];simp[nx,List.getD,f]
  rw[uh m];clear k m;generalize (l.getD p 0).toNat=x at *;have j:(p:Int)<(l.length:Int):=by omega
  go_in;go_wp2;go_quiet (fail);go_wp2;go_quiet (fail);go_wp2;go_ret;refine⟨rfl,⟨_,c,p+1,l,r,s,?_,u,by omega,v,(uh b).grown (Nw w _ rb 1 _) (fun h0 e=>by have:=d h0;injection e with e;omega),d,rfl⟩,Nw w _ rb 1 _⟩;exact Mr _ rb _ _ _ _ (uh o)
 ·have j:¬ (p:Int)<(l.length:Int):=by omega
  have n:q=[]:=by rw[k,List.drop_eq_nil_iff];omega
  subst n;have m:=zh k;clear k;go_in;go_wp2;go_quiet (fail);go_wp2;go_ret;exact⟨rfl,⟨a,c,p,l,r,s,uh o,u,y,v,(uh b).grown (U7 w _ none) (fun _ e=>by cases e),d,uh m⟩,U7 w _ _⟩
theorem L2(B rb:Nat)(q:List UInt8)(w:Wo)(h:Zy w B rb q):
  Calls prog 83 #[.pointer (some ⟨rb,0,none⟩)] w fun e w'=>e= .returned (.int .i64 (q.length:Int))/\DX B rb w q w':=by
 obtain⟨a,c,p,l,o,r,d,s,x,u,b,g,i⟩:=h;have c0:w.cell? ⟨rb,0,none⟩=some (.slice a l.length c):=by rw[yE d];rfl
 have c1:w.cell? ⟨rb,1,none⟩=some (.int .i64 p):=by rw[yE d];rfl
 have k:=zh d;have f:=zh b;have m:Hid ((q.length:Int)=(l.length:Int) - (p:Int)):=by show _=_;rw[i,yt];omega
 have j:IntKind.i64.wrap ((l.length:Int) - (p:Int))=(l.length:Int) - (p:Int):=by rw[IntKind.wrap_i64];omega
 have v: -300<=(l.length:Int) - (p:Int)/\(l.length:Int) - (p:Int)<=1200:=by omega
 have n:=zh i;clear d b i;go_in;go_wp2;go_quiet (fail);go_wp2;go_ret;exact⟨by rw[uh m];rfl,⟨a,c,p,l,o,r,uh k,s,x,u,(uh f).grown (U7 w _ none) (fun _ e=>by cases e),g,uh n⟩,U7 w _ _⟩
theorem H7(xa:Option Addr)(xb xo xc:Nat)(l:List UInt8)(w:Wo)(h:BS w xa xb xo l)(hl:l.length<=1048576)(hc:l.length<=xc):
  Calls prog 25 #[.slice xa l.length xc] w fun e w'=>e= .returned (.pointer (some ⟨w.heap.size,0,none⟩))/\Zy w' w.heap.size w.heap.size (l.take 1200)/\Bw w w'/\w'.heap.size=w.heap.size+1:=by
 have b:0<l.length->xb<w.heap.size:=fun h0=>yI _ _ (h.cell 0 h0);have f:=zh h;have a:=zh b;clear h b;by_cases i:1200<l.length
 ·have d:(1200:Int)<(l.length:Int):=by omega
  go_in;go_wp2;go_ret;refine⟨rfl,⟨_,xc,0,l.take 1200,xb,xo,?_,yd _,yr _,by rw[yl];omega,((uh f).take 1200).grown (World.grownBy_alloc w _ none) (fun _ e=>by cases e),fun _=>uh a (by omega),by rw[List.drop_zero]⟩,(yG _ _).alloc (yd _) _,by simp⟩;rw[yF];rw[yl,Nat.min_eq_left (by omega)];rfl
 ·have d:¬ (1200:Int)<(l.length:Int):=by omega
  have g:Hid (l.take 1200=l):=yp (by omega);go_in;go_wp2;go_ret;refine⟨rfl,⟨_,xc,0,l,xb,xo,?_,yd _,yr _,by omega,(uh f).grown (World.grownBy_alloc w _ none) (fun _ e=>by cases e),uh a,by rw[List.drop_zero];exact uh g⟩,(yG _ _).alloc (yd _) _,by simp⟩;rw[yF];rfl
theorem WN(k:Nat)(w:Wo)(hk:k<=255):
  Calls prog 131 #[.int .i64 k] w fun e w'=>e= .returned (.string (zi (qz k)))/\w=w':=by
 have b:k % 12<12:=Nat.mod_lt _ (by decide);have e:(k:Int) % 12=((k % 12:Nat):Int):=by omega
 have a:Hid (qz k=qz (k % 12)):=by show _=_;unfold qz;rw[Nat.mod_mod]
 rw[uh a];generalize k % 12=m at *;clear a;rcases (show m=0∨m=1∨m=2∨m=3∨m=4∨m=5∨m=6∨m=7∨m=8∨m=9∨m=10∨m=11 from by omega)with rfl | rfl | rfl | rfl | rfl | rfl | rfl | rfl | rfl | rfl | rfl | rfl
 all_goals
  go_in;go_wp2;go_ret;exact⟨rfl,rfl⟩
theorem WO(n:Nat)(h:n<=1000000000):(zP n).length<=10:=by
 have:∀ (k n:Nat),n<10 ^ (k+1)->(zP n).length<=k+1:=by
  intro k;induction k with
  | zero=>intro n a;rw[Q5 (by omega)];simp
  | succ k ih=>
   intro n a;by_cases h:n<10
   ·rw[Q5 h];simp
   ·rw[WA h,yg];have b:=ih (n / 10) (by rw[Nat.pow_succ]at a;omega);rw[Q5 (n:=n % 10) (by omega)];simp;omega
 exact this 9 n (by omega)
def sumA(ps:List zx):Nat:=(ps.map (fun p=>p.2.length+1)).sum
theorem H8(ps:List zx)(j:Nat)(h:j<ps.length):joinC ((ps.take (j+1)).map (·.2))=joinC ((ps.take j).map (·.2))++(if j=0 then ps[j].2 else 44 :: ps[j].2):=by
 rw[yx h,yv,List.map_singleton,KP];by_cases a:j=0
 ·subst a;simp
 ·rw[ye (by simp;exact⟨a,by intro e;subst e;simp at h⟩),ye a]
theorem L3(a b:List zx):sumA (a++b)=sumA a+sumA b:=by
 unfold sumA;rw[yv,List.sum_append]
theorem L4(ps:List zx)(j:Nat):sumA (ps.take j)<=sumA ps:=by
 have h:=congrArg sumA (List.take_append_drop j ps);have e:=L3 (ps.take j) (ps.drop j);omega
theorem O9(ps:List zx)(j:Nat):(joinC ((ps.take j).map (·.2))).length<=sumA ps:=by
 have h:=KQ ((ps.take j).map (·.2));have a:=L4 ps j;rw[List.map_map]at h;exact yO h a
theorem H9(ps:List zx)(j:Nat)(h:j<ps.length):ps[j].2.length+1<=sumA ps:=by
 have a:=L4 ps (j+1);rw[yx h]at a;have e:sumA (ps.take j++[ps[j]])=sumA (ps.take j)+(ps[j].2.length+1):=by rw[L3];simp[sumA]
 omega
theorem Na(B:Nat)(v:Value)(ps:List zx)(w:Wo)(h:PR w B v ps)(hn:sumA ps<=40000000)(hl:ps.length<=40000000):
  Calls prog 57 #[v] w fun e w'=>e= .returned (.string (zi (Zi (ps.map (·.2)))))/\Bw w w':=by
 obtain⟨V,G,J,K,L⟩:=info_parts VR;obtain⟨x,len,O,rfl,T⟩:∃ x len O,v= .slice x len O/\len=ps.length:=by
  rcases h.2 with ⟨hv,h0⟩ |⟨g,O,cur,hv,_⟩
  ·exact⟨_,_,_,hv,h0.symm⟩
  ·exact⟨_,_,_,hv,rfl⟩
 subst T;have HP:=zh h;clear h;go_in;go_wp2_with fail;go_loopw [3,4] (fun r k wr=>∃ (j:Nat) (l:List UInt8),k= .int .i64 (j:Int)/\j<=ps.length/\l=91 :: joinC ((ps.take j).map (·.2))/\wr.ownsRow w.heap.size 5 1 r (Lib.byteCells l).length (Lib.byteCells l)/\Bw w wr) (fun _ k _=>ps.length - (intOf k).toNat)
 case atStart=>
  exact⟨0,[91],rfl,yr _,rfl,World.ownsRow_lit w #[.int .u8 91] 1 (yd _) (by unfold maxLen;omega) rfl,(yG _ _).alloc (yd _) _⟩
 case round=>
  obtain⟨j,l,rfl,hj,y,a,hb⟩:=hrel;have Y:=zh y;have M:=zh hb;have D:=hb.size;have hal:l.length<=40000001:=by
   have:=O9 ps j;rw[y];simp only[ym];omega
  clear y hb;by_cases H:j<ps.length
  ·have t1:((j:Int)<(ps.length:Int))=True:=eq_true (by omega);have i1:(0:Int)<=(j:Int):=by omega
   have i2:(j:Int)<(ps.length:Int):=by omega
   have hm:=H9 ps j H;have U:=zh (H8 ps j H);by_cases I:j=0
   ·have t2:(0<j)=False:=yP (by omega);rw[yf I]at U;obtain⟨g,S,he,hgB,P,c0,c1⟩:=(uh HP).cells j H;injection he with he1 he2 he3;subst he1;subst he3;generalize ps[j]=p at *;clear I;have N:wr.cell? ⟨g,j*2+1,none⟩=some (.string (zi p.2)):=((uh M).cell P).trans c1;have Z:=c1;clear c0 c1;obtain⟨u,W3,F,d,R,C,hs3⟩:=G1 wr p.2;have i:=C _ _ _ _ _ a;have Q:=(uh M).trans (R.mono D);have b:=zh d;clear d C a;go_wp2_with (at_builtin;refine wpList_append_own _ rfl (.tmp 17) (.tmp 23) 22 rfl w.heap.size 5 V (.int .u8 0) 1 1 underlying22 G J K L rfl (by decide) _ _ _ rfl i ⟨wr.heap.size,0,none⟩ p.2.length u (Lib.byteCells p.2) rfl (by rw[yJ];omega) (by exact uh b) (GZ _) (by rw[yJ];unfold maxLen;omega) (by rw[yJ];omega) (by omega) ?_;intro v4 w4 o A _;have W:Bw w w4:=Q.grown A (by omega) (fun k hk=>(i.lt k hk).1));have q:=qh (m:=p.2) o rfl rfl;clear o A i b Q F R N Z M;go_wp2;go_roundw
    all_goals first
     | exact⟨j+1,l++p.2,by go_num,by omega,by rw[uh Y,uh U];simp,q,W⟩
     |(simp[intOf];omega)
   ·have t2:(0<j)=True:=eq_true (by omega);rw[ye I]at U;obtain⟨g,S,he,hgB,P,c0,c1⟩:=(uh HP).cells j H;injection he with he1 he2 he3;subst he1;subst he3;generalize ps[j]=p at *;clear I;have E:Hid (∀ X:Wo,Bw w X->X.cell? ⟨g,j*2+1,none⟩=some (.string (zi p.2))):=fun X hX=>(hX.cell P).trans c1;clear c0 c1;go_wp2_with (at_builtin;refine wpList_append_own _ rfl (.tmp 14) (.tmp 15) 22 rfl w.heap.size 5 V (.int .u8 0) 1 1 underlying22 G J K L rfl (by decide) _ _ _ rfl (a.alloc _) ⟨wr.heap.size,0,none⟩ 1 1 [.int .u8 44] rfl rfl (QH _ _ _) (J8 _ _) (by rw[yJ];unfold maxLen;omega) (by rw[yJ];omega) (by simp;omega) ?_);intro v1 w1 n z _;have f:=qh (m:=[44]) n rfl rfl;have s:=zh (((uh M).alloc D _).grown z (by simp;omega) (fun k hk=>(a.lt k hk).1));have hw1:=(uh s).size;have hal1:(l++[44]).length<=40000002:=by simp;omega
    obtain⟨u,W3,F,d,R,C,hs3⟩:=G1 w1 p.2;have i:=C _ _ _ _ _ f;have Q:=(uh s).trans (R.mono hw1);have b:=zh d;have N:=uh E _ (uh s);clear n z a M f d C;go_wp2_with (at_builtin;refine wpList_append_own _ rfl (.tmp 17) (.tmp 23) 22 rfl w.heap.size 5 V (.int .u8 0) 1 1 underlying22 G J K L rfl (by decide) _ _ _ rfl i ⟨w1.heap.size,0,none⟩ p.2.length u (Lib.byteCells p.2) rfl (by rw[yJ];omega) (by exact uh b) (GZ _) (by rw[yJ];unfold maxLen;omega) (by rw[yJ];omega) (by omega) ?_;intro v4 w4 o A _;have W:Bw w w4:=Q.grown A (by omega) (fun k hk=>(i.lt k hk).1));have q:=qh (m:=p.2) o rfl rfl;clear o A i b Q F R N s E;go_wp2;go_roundw
    all_goals first
     | exact⟨j+1,(l++[44])++p.2,by go_num,by omega,by rw[uh Y,uh U];simp,q,W⟩
     |(simp[intOf];omega)
  ·have t1:((j:Int)<(ps.length:Int))=False:=yP (by omega);have HE:Hid (l++[93]=Zi (ps.map (·.2))):=by
    show _=_
    rw[uh Y,yp (by omega)];simp[Zi]
   go_wp2_with (at_builtin;refine wpList_append_own _ rfl (.tmp 25) (.tmp 26) 22 rfl w.heap.size 5 V (.int .u8 0) 1 1 underlying22 G J K L rfl (by decide) _ _ _ rfl (a.alloc _) ⟨wr.heap.size,0,none⟩ 1 1 [.int .u8 93] rfl rfl (QH _ _ _) (J8 _ _) (by rw[yJ];unfold maxLen;omega) (by rw[yJ];omega) (by simp;omega) ?_;intro v1 w1 n z _;have f:=qh (m:=[93]) n rfl rfl;have s:=zh (((uh M).alloc D _).grown z (by simp;omega) (fun k hk=>(a.lt k hk).1));have F:=VS f;clear n z f a M);go_ret;exact⟨by rw[← uh HE];rfl,uh s⟩
def GI(k:Nat):List UInt8:=if k % 8<5 then qz (k / 8)else if k % 8=5 then [10,1,34,127]else if k % 8=6 then [240,159,152,128,226,130,172]else [97,98]
theorem L5(k:Nat):(GI k).length<=8:=by
 unfold GI;have:=Vf (k / 8)
 repeat' split
 all_goals first |(simp;done) | omega
theorem zaa(k:Nat)(w:Wo)(hk:k<=255):
  Calls prog 206 #[.int .i64 k] w fun e w'=>e= .returned (.string (zi (GI k)))/\w=w':=by
 unfold GI;by_cases a:k % 8<5
 ·have e:(k:Int) % 8<5:=by omega
  rw[yf a];have f:(k:Int) / 8=((k / 8:Nat):Int):=by omega
  have b:=zh (WN (k / 8) w (by omega));have d:k / 8<=255:=by omega
  generalize k / 8=y at *;clear a;generalize qz y=t at *;go_in;go_wp2_with fail;refine (uh b).mono ?_;rintro e g ⟨rfl,rfl⟩;clear b;go_wp2;go_ret;exact⟨rfl,rfl⟩
 ·rw[ye a];rcases (show k % 8=5∨k % 8=6∨k % 8=7 from by omega)with h | h | h
  all_goals
   have e:(k:Int) % 8=((k % 8:Nat):Int):=by omega
   rw[h]at e ⊢;clear a h;go_in;go_wp2;go_ret;exact⟨rfl,rfl⟩
def GJ(k:Nat):List UInt8:=if k % 16=15 then [34,92,117,100,56,51,100,92,117,68,69,48,48,92,47,92,117,48,48,52,49,34]else if k % 16=14 then [34,92,116,92,117,48,48,48,97,92,117,48,48,101,57,92,98,34]else quoted (GI k)
theorem zab(k:Nat):(GJ k).length<=50:=by
 unfold GJ;have a:=L5 k;have b:=qQ (GI k)
 repeat' split
 all_goals first |(simp;done) | omega
theorem zac(k:Nat)(w:Wo)(hk:k<=255):
  Calls prog 175 #[.int .i64 k] w fun e w'=>e= .returned (.string (zi (GJ k)))/\Bw w w':=by
 unfold GJ;by_cases h:k % 16=15
 ·have e:(k:Int) % 16=15:=by omega
  rw[yf h];clear h;go_in;go_wp2;go_ret;exact⟨rfl,yG _ _⟩
 ·rw[ye h];by_cases a:k % 16=14
  ·have e:(k:Int) % 16=14:=by omega
   rw[yf a];clear h a;go_in;go_wp2;go_ret;exact⟨rfl,yG _ _⟩
  ·rw[ye a];have g:((k:Int) % 16 ==15)=false:=by simp;omega
   have i:((k:Int) % 16 ==14)=false:=by simp;omega
   have d:=zh (zaa k w hk);have j:=L5 k;clear h a;generalize GI k=t at *;have b:=zh (WM (zi t) w (by rw[zS];omega));rw[Zd]at b;generalize quoted t=u at *;go_in;go_wp2_with fail;refine (uh d).mono ?_;rintro e l ⟨rfl,rfl⟩;clear d;go_wp2_with fail;refine (uh b).mono ?_;rintro e m ⟨rfl,f⟩;clear b;go_wp2;go_ret;exact⟨rfl,f⟩
def VO(x:Nat):List UInt8:=if x=255 then [57,50,50,51,51,55,50,48,51,54,56,53,52,55,55,53,56,48,55]else if x=254 then [45,57,50,50,51,51,55,50,48,51,54,56,53,52,55,55,53,56,48,56]else if x=253 then [45,48]
 else if 200<=x then zP (x*1000003)else if x % 3=2 then 45 :: zP (1+x / 3 % 9)else zP (x / 3 % 12)
theorem zad(x:Nat)(hx:x<=255):(VO x).length<=20:=by
 unfold VO;have a:=WO (x*1000003) (by omega);have b:=WO (1+x / 3 % 9) (by omega);have d:=WO (x / 3 % 12) (by omega)
 repeat' split
 all_goals first |(simp;done) | omega |(rw[ym];omega)
theorem zae(B rb:Nat)(q:List UInt8)(w:Wo)(h:Zy w B rb q):
  Calls prog 174 #[.pointer (some ⟨rb,0,none⟩)] w (DT B rb w (VO (nx q).1) (nx q).2):=by
 have f:=zh (QS B rb q w h);have hx:=Qo q;clear h;generalize (nx q).1=x at *;generalize (nx q).2=F at *;unfold VO;by_cases i:x=255
 ·subst i;go_in;go_wp2_with fail;refine (uh f).mono ?_;rintro e a ⟨rfl,b⟩;go_wp2;go_ret;exact⟨rfl,b⟩
 ·by_cases j:x=254
  ·subst j;go_in;go_wp2_with fail;refine (uh f).mono ?_;rintro e a ⟨rfl,b⟩;go_wp2;go_ret;exact⟨rfl,b⟩
  ·by_cases k:x=253
   ·subst k;go_in;go_wp2_with fail;refine (uh f).mono ?_;rintro e a ⟨rfl,b⟩;go_wp2;go_ret;exact⟨rfl,b⟩
   ·have A:((x:Int) ==255)=false:=by simp;omega
    have C:((x:Int) ==254)=false:=by simp;omega
    have D:((x:Int) ==253)=false:=by simp;omega
    rw[ye i,ye j,ye k];by_cases l:200<=x
    ·have r:(200:Int)<=(x:Int):=by omega
     rw[yf l];have o:(x:Int)*1000003=((x*1000003:Nat):Int):=by omega
     have d:=zh fun a=>WB _ (x*1000003) a (yd _) (by omega);have n:x*1000003<=1000000000:=by omega
     generalize x*1000003=y at *;generalize zP y=u at *;clear i j k l;go_in;go_wp2_with fail;refine (uh f).mono ?_;rintro e a ⟨rfl,b⟩;go_wp2_with fail;refine (uh d a).mono ?_;rintro e p ⟨rfl,g⟩;clear d;go_wp2;go_ret;exact⟨rfl,b.below g⟩
    ·have r:¬ (200:Int)<=(x:Int):=by omega
     rw[ye l];by_cases m:x % 3=2
     ·have s:(x:Int) % 3=2:=by omega
      rw[yf m];have o:1+(x:Int) / 3 % 9=((1+x / 3 % 9:Nat):Int):=by omega
      have d:=zh fun a=>WB _ (1+x / 3 % 9) a (yd _) (by omega);have z:=WO (1+x / 3 % 9) (by omega);have n:1+x / 3 % 9<=10:=by omega
      generalize 1+x / 3 % 9=y at *;have v:(⟨#[45]⟩:Bs)++zi (zP y)=zi (45 :: zP y):=by rw[show (⟨#[45]⟩:Bs)=zi [45]from rfl,Y7];rfl
      have E:(zi (zP y)).size<=10:=by rw[zS];exact z
      generalize zP y=u at *;clear i j k l m;go_in;go_wp2_with fail;refine (uh f).mono ?_;rintro e a ⟨rfl,b⟩;go_wp2_with fail;refine (uh d a).mono ?_;rintro e p ⟨rfl,g⟩;clear d;go_wp2;go_ret;exact⟨rfl,b.below g⟩
     ·have s:((x:Int) % 3 ==2)=false:=by simp;omega
      rw[ye m];have o:(x:Int) / 3 % 12=((x / 3 % 12:Nat):Int):=by omega
      have d:=zh fun a=>WB _ (x / 3 % 12) a (yd _) (by omega);have n:x / 3 % 12<=12:=by omega
      generalize x / 3 % 12=y at *;generalize zP y=u at *;clear i j k l m;go_in;go_wp2_with fail;refine (uh f).mono ?_;rintro e a ⟨rfl,b⟩;go_wp2_with fail;refine (uh d a).mono ?_;rintro e p ⟨rfl,g⟩;clear d;go_wp2;go_ret;exact⟨rfl,b.below g⟩
def GB:Nat->Nat
 | 0=>50
 | d+1=>98+4*GB d
theorem L6:∀ d,50<=GB d
 | 0=>yd _
 | d+1=>by have:=L6 d;rw[GB];omega
theorem zaf:∀ d,d<=4->GB d<=21130:=by
 intro d a;rcases (show d=0∨d=1∨d=2∨d=3∨d=4 from by omega)with h | h | h | h | h<;>subst h<;>decide
structure GS(w:Wo)(B rb M:Nat)(v:Value)(ps:List zx)(wr:Wo):Prop where
 row:PR wr w.heap.size v ps
 key:∀ p∈ps,p.1.length<=3/\p.2.length<=M
 rd:JC wr B rb
 gr:w.grownBy wr (some rb)
theorem WP{w:Wo}{B e size n:Nat}{v:Value}{xs:List Value}(h:w.ownsRow B e size v n xs):∃ a c,v= .slice a n c:=by
 rcases h.2 with ⟨b,i⟩ |⟨g,d,f,b,_⟩
 ·exact⟨_,_,by rw[b,i]⟩
 ·exact⟨_,_,b⟩
theorem GS.next{w wr w1:Wo}{B rb M:Nat}{v:Value}{ps:List zx}(h:GS w B rb M v ps wr)(hr:JC w1 B rb)(hg:wr.grownBy w1 (some rb))(hrb:rb<w.heap.size):GS w B rb M v ps w1:=
 ⟨GO h.row hg (fun k e=>by injection e with e;omega),h.key,hr,J9 h.gr hg⟩
theorem GS.step{w wr w7:Wo}{B rb M:Nat}{v v7:Value}{ps:List zx}(h:GS w B rb M v ps wr){t1 t2:List UInt8}(h1:t1.length<=3)(h2:t2.length<=M){o:Obj}(own:w7.ownsRow w.heap.size 97 2 v7 (ps.length+1) (ps.flatMap zF++zF (t1,t2)))(hg:(wr.alloc o).grownBy w7 v.ownBlock)(hrb:rb<w.heap.size):GS w B rb M v7 (ps++[(t1,t2)]) w7:=by
 have g:=h.gr.size;have d:=h.rd.lt;obtain⟨_,_,_,_,_,_,_,b,_⟩:=id h.rd;refine⟨?_,fun p a=>?_,(h.rd.grown (World.grownBy_alloc wr o none) (by simp) (fun k e=>by cases e)).grown hg (fun e=>?_) (fun k e=>?_),VT (J9 h.gr (World.grownBy_alloc wr o _)) hg (fun k e=>(World.ownsRow.lt h.row k e).1)⟩
 ·unfold PR;rw[yg,List.flatMap_append];simpa using own
 ·rcases List.mem_append.1 a with a | a
  ·exact h.key p a
  ·simp at a;subst a;exact⟨h1,h2⟩
 ·have f:=(World.ownsRow.lt h.row rb e.symm).1;omega
 ·have:=(World.ownsRow.lt h.row k e).1;omega
theorem GS.sumA{w wr:Wo}{B rb M:Nat}{v:Value}{ps:List zx}(h:GS w B rb M v ps wr):sumA ps<=ps.length*(M+1):=by
 have:∀ ps:List zx,(∀ p∈ps,p.1.length<=3/\p.2.length<=M)->Go.Proofs.YtpaecnbdoljafaaGreatDoor.sumA ps<=ps.length*(M+1):=by
  intro ps;induction ps with
  | nil=>intro _;simp[Go.Proofs.YtpaecnbdoljafaaGreatDoor.sumA]
  | cons p r ih=>
   intro a;have b:=ih (fun q hq=>a q (yu _ hq));have d:=(a p yo).2;unfold Go.Proofs.YtpaecnbdoljafaaGreatDoor.sumA at *;rw[yh,yK,ym,Nat.add_mul];omega
 exact this ps h.key
theorem GS.sumT{w wr:Wo}{B rb M:Nat}{v:Value}{ps:List zx}(h:GS w B rb M v ps wr):sumT ps<=ps.length*(M+22):=by
 have:∀ ps:List zx,(∀ p∈ps,p.1.length<=3/\p.2.length<=M)->Go.Proofs.YtpaecnbdoljafaaGreatDoor.sumT ps<=ps.length*(M+22):=by
  intro ps;induction ps with
  | nil=>intro _;simp[Go.Proofs.YtpaecnbdoljafaaGreatDoor.sumT]
  | cons p r ih=>
   intro a;have b:=ih (fun q hq=>a q (yu _ hq));have d:=a p yo;have f:=qQ p.1;have g:=KV p;unfold Go.Proofs.YtpaecnbdoljafaaGreatDoor.sumT at *;rw[yh,yK,ym,Nat.add_mul];omega
 exact this ps h.key
theorem zag{ps:List zx}:(Zi (ps.map (·.2))).length<=sumA ps+2:=by
 have h:=O9 ps ps.length;rw[List.take_length]at h;simp[Zi];omega
theorem L7(ps:List zx):(ZD ps).length<=sumT ps+2:=by
 have h:=L1 ps ps.length;rw[List.take_length]at h;simp[ZD];omega
def Yp(g:List UInt8->List UInt8×List UInt8)(op:Nat):Nat->List zx->List UInt8->List zx×List UInt8
 | 0,ps,q=>(ps,q)
 | n+1,ps,q=>Yp g op n (if op<7∨Yk ps (qz (nx q).1)=false then ps++[(qz (nx q).1,(g (nx q).2).1)]else ps) (g (nx q).2).2
def Vg(op:Nat)(r:List zx×List UInt8):List UInt8×List UInt8:=(if op<7 then Zi (r.1.map (·.2))else ZD r.1,r.2)
def WQ(x op:Nat)(q:List UInt8):List UInt8×List UInt8:=if op=0 then (VO (nx q).1,(nx q).2)else if op=1 then (GJ (x / 10),q)else if op=2 then ([116,114,117,101],q)else if op=3 then ([110,117,108,108],q)
 else if x / 10 % 2=0 then (VO (nx q).1,(nx q).2)else ([102,97,108,115,101],q)
def qK(d:Nat)(q:List UInt8):Nat:=if d=0∨(nx q).2=[]then (nx q).1 % 5 else (nx q).1 % 10
def ZR:Nat->List UInt8->List UInt8×List UInt8
 | 0,q=>WQ (nx q).1 (qK 0 q) (nx q).2
 | d+1,q=>if qK (d+1) q<5 then WQ (nx q).1 (qK (d+1) q) (nx q).2 else Vg (qK (d+1) q) (Yp (ZR d) (qK (d+1) q) (1+(nx q).1 / 10 % 4) [] (nx q).2)
theorem L8(q:List UInt8):qK 0 q<5:=by unfold qK;rw[yf (.inl rfl)];omega
theorem zah(d:Nat)(q:List UInt8):qK d q<10:=by unfold qK;split<;>omega
theorem zai{d:Nat}{q:List UInt8}(h:qK d q<5):ZR d q=WQ (nx q).1 (qK d q) (nx q).2:=by
 cases d with
 | zero=>rw[ZR]
 | succ d=>rw[ZR,yf h]
theorem zaj{d:Nat}{q:List UInt8}(h:¬ qK d q<5):ZR d q=Vg (qK d q) (Yp (ZR (d - 1)) (qK d q) (1+(nx q).1 / 10 % 4) [] (nx q).2):=by
 cases d with
 | zero=>exact absurd (L8 q) h
 | succ d=>rw[ZR,ye h];rfl
def Je(M:Nat)(ps:List zx):Prop:=∀ p∈ps,p.1.length<=3/\p.2.length<=M
theorem Je.sumA{M:Nat}:∀ {ps:List zx},Je M ps->sumA ps<=ps.length*(M+1)
 | [],_=>yr _
 | p :: r,hk=>by
  have h1:=Je.sumA (ps:=r) (fun q hq=>hk q (yu _ hq));have a:=(hk p yo).2;unfold Go.Proofs.YtpaecnbdoljafaaGreatDoor.sumA at *;rw[yh,yK,ym,Nat.add_mul];omega
theorem Je.sumT{M:Nat}:∀ {ps:List zx},Je M ps->sumT ps<=ps.length*(M+22)
 | [],_=>yr _
 | p :: r,hk=>by
  have h1:=Je.sumT (ps:=r) (fun q hq=>hk q (yu _ hq));have a:=hk p yo;have b:=qQ p.1;have d:=KV p;unfold Go.Proofs.YtpaecnbdoljafaaGreatDoor.sumT at *;rw[yh,yK,ym,Nat.add_mul];omega
theorem Je.snoc{M:Nat}{ps:List zx}(h:Je M ps){a b:List UInt8}(ha:a.length<=3)(hb:b.length<=M):Je M (ps++[(a,b)]):=fun p d=>by
 rcases List.mem_append.1 d with d | d
 ·exact h p d
 ·rw[List.mem_singleton]at d;subst d;exact⟨ha,hb⟩
theorem Nb{g:List UInt8->List UInt8×List UInt8}{op M:Nat}(hg:∀ q,(g q).1.length<=M):∀ (n:Nat) (ps:List zx) (q:List UInt8),Je M ps->Je M (Yp g op n ps q).1/\(Yp g op n ps q).1.length<=ps.length+n
 | 0,ps,q,h=>⟨h,yd _⟩
 | n+1,ps,q,h=>by
  rw[Yp];split
  ·obtain⟨h1,h2⟩:=Nb (op:=op) hg n _ (g (nx q).2).2 (h.snoc (Vf _) (hg (nx q).2));rw[yg,List.length_singleton]at h2;exact⟨h1,by omega⟩
  ·obtain⟨h1,h2⟩:=Nb (op:=op) hg n _ (g (nx q).2).2 h;exact⟨h1,by omega⟩
theorem zak{op M:Nat}{r:List zx×List UInt8}(h:Je M r.1)(hl:r.1.length<=4):(Vg op r).1.length<=98+4*M:=by
 have a:=h.sumA;have b:=h.sumT;have d:=zag (ps:=r.1);have f:=L7 r.1;have g:r.1.length*(M+1)<=4*(M+1):=Nat.mul_le_mul_right _ hl;have i:r.1.length*(M+22)<=4*(M+22):=Nat.mul_le_mul_right _ hl;unfold Vg;simp only;split<;>omega
theorem L9(x op:Nat)(q:List UInt8):(WQ x op q).1.length<=50:=by
 have a:=zad (nx q).1 (Qo q);have b:=zab (x / 10);unfold WQ
 repeat' split
 all_goals first |(simp;done) |(simp only;omega)
theorem WR:∀ (d:Nat) (q:List UInt8),(ZR d q).1.length<=GB d
 | 0,q=>by rw[ZR];exact L9 _ _ _
 | d+1,q=>by
  have hb:=L6 d;rw[ZR];split
  ·have:=L9 (nx q).1 (qK (d+1) q) (nx q).2;rw[GB];omega
  ·obtain⟨a,b⟩:=Nb (op:=qK (d+1) q) (WR d) (1+(nx q).1 / 10 % 4) [] (nx q).2 (fun p hp=>by cases hp);rw[yC]at b;exact zak a (by omega)
structure GX(w:Wo)(B rb M:Nat)(v:Value)(ps:List zx)(q:List UInt8)(wr:Wo):Prop where
 row:PR wr w.heap.size v ps
 key:Je M ps
 dx:DX B rb w q wr
theorem GX.next{w wr w1:Wo}{B rb M:Nat}{v:Value}{ps:List zx}{q r:List UInt8}(h:GX w B rb M v ps q wr)(d:DX B rb wr r w1)(hrb:rb<w.heap.size):GX w B rb M v ps r w1:=
 ⟨GO h.row d.gr (fun k e=>by injection e with e;omega),h.key,h.dx.step d⟩
theorem GX.step{w wr w7:Wo}{B rb M:Nat}{v v7:Value}{ps:List zx}{q:List UInt8}(h:GX w B rb M v ps q wr){t1 t2:List UInt8}(h1:t1.length<=3)(h2:t2.length<=M){o:Obj}(own:w7.ownsRow w.heap.size 97 2 v7 (ps.length+1) (ps.flatMap zF++zF (t1,t2)))(hg:(wr.alloc o).grownBy w7 v.ownBlock)(hrb:rb<w.heap.size):GX w B rb M v7 (ps++[(t1,t2)]) q w7:=by
 have f:=h.dx.gr.size;have b:=h.dx.rd.lt;have a:=h.dx.rd.ge;refine⟨?_,h.key.snoc h1 h2,(h.dx.rd.grown (World.grownBy_alloc wr o none) (by simp) (fun k e=>by cases e)).grown hg (fun e=>?_) (fun k e=>?_),VT (J9 h.dx.gr (World.grownBy_alloc wr o _)) hg (fun k e=>(World.ownsRow.lt h.row k e).1)⟩
 ·unfold PR;rw[yg,List.flatMap_append];simpa using own
 ·have d:=(World.ownsRow.lt h.row rb e.symm).1;omega
 ·have:=(World.ownsRow.lt h.row k e).1;omega
theorem Nc:∀ (d:Nat) (dI:Int) (B rb:Nat) (q:List UInt8) (w:Wo),dI=d->d<=4->Zy w B rb q->Calls prog 130 #[.pointer (some ⟨rb,0,none⟩),.int .i64 dI] w (DT B rb w (ZR d q).1 (ZR d q).2):=by
 intro d;induction d using Nat.strongRecOn with
 | _ d ih=>
 intro dI B rb q w hd hd4 h;have V:=h.lt;have HX:=zh (QS B rb q w h);have hx:=Qo q;have W:Hid (0<d->∀ (q:List UInt8) (w:Wo),Zy w B rb q->Calls prog 130 #[.pointer (some ⟨rb,0,none⟩),.int .i64 (dI - 1)] w (DT B rb w (ZR (d - 1) q).1 (ZR (d - 1) q).2)):=fun h0 q w hr=>ih (d - 1) (by omega) (dI - 1) B rb q w (by omega) (by omega) hr;have HLN:=zh (WR (d - 1));have HGB:Hid (GB (d - 1)<=21130):=zaf (d - 1) (by omega);have A:Hid (qK d q<5->ZR d q=WQ (nx q).1 (qK d q) (nx q).2):=fun h=>zai h;have C:Hid (¬ qK d q<5->0<d/\ZR d q=Vg (qK d q) (Yp (ZR (d - 1)) (qK d q) (1+(nx q).1 / 10 % 4) [] (nx q).2)):=fun h=>⟨by
  cases d with
  | zero=>exact absurd (L8 q) h
  | succ d=>omega,zaj h⟩
 have hop:=zah d q;obtain⟨b,hb⟩:∃ b:Bool,decide (d=0∨(nx q).2=[])=b:=⟨_,rfl⟩;have T:Hid (qK d q=if b=true then (nx q).1 % 5 else (nx q).1 % 10):=by
  show qK d q=_
  unfold qK;rw[← hb];simp only[decide_eq_true_eq]
 have HL:Hid (∀ w,Zy w B rb (nx q).2->Calls prog 83 #[.pointer (some ⟨rb,0,none⟩)] w fun e w'=>e= .returned (.int .i64 ((nx q).2.length:Int))/\DX B rb w (nx q).2 w'):=fun w hr=>L2 B rb (nx q).2 w hr;have Q:Hid (decide (d=0∨(nx q).2=[])=b):=hb;have hlq:(nx q).2.length<=1200:=by
  have:=h.len
  cases q with
  | nil=>exact yr _
  | cons c r=>simp[nx]at *;omega
 have HDI:=zh hd;have hdz:Hid (d=0->dI<=0):=fun h=>by omega
 have X:Hid (¬ d=0->0<dI/\dI<=4):=fun h=>by omega
 clear ih h hb hd hd4;generalize ZR d q=R at *;generalize qK d q=k at *;generalize (nx q).1=x at *;generalize (nx q).2=m at *;generalize ZR (d - 1)=gg at *;generalize GB (d - 1)=M at *;go_in;go_wp2_with fail;refine (uh HX).mono ?_;rintro e w1 ⟨rfl,d1⟩;have F:=zh d1;clear HX d1;go_upto_region 3 with fail;go_cut [22]from 16 to 22 (fun y wx=>y= .bool b/\DX B rb w m wx)
 case first=>
  by_cases h0:d=0
  ·have hdp:dI<=0:=uh hdz h0;have eb:b=true:=by have:=uh Q;rw[← this];simp[h0]
   subst eb;go_wp2;go_meet
   case rel=>exact⟨rfl,uh F⟩
  ·have hdp:¬ dI<=0:=by have:=uh X h0;omega
   have hdd:decide (dI<=0)=false:=by simp;omega
   have HC:=zh (uh HL _ (uh F).rd);by_cases hq:m=[]
   ·subst hq;have eb:b=true:=by have:=uh Q;rw[← this];simp
    subst eb;go_wp2_with fail;refine (uh HC).mono ?_;rintro e w2 ⟨rfl,d2⟩;clear HC;go_wp2;go_meet
    case rel=>exact⟨rfl,(uh F).step d2⟩
   ·have hql:¬ m.length=0:=fun h=>hq (yM h);have eb:b=false:=by have:=uh Q;rw[← this];simp[h0,hq]
    have hli:((m.length:Int)<=0)=False:=yP (by omega);have hlj:decide ((m.length:Int)<=0)=false:=by simp;omega
    subst eb;generalize m.length=ql at *;clear hq;go_wp2_with fail;refine (uh HC).mono ?_;rintro e w2 ⟨rfl,d2⟩;clear HC;go_wp2;go_meet
    case rel=>exact⟨rfl,(uh F).step d2⟩
 obtain⟨rfl,hD⟩:=hcut;have N:=zh hD;clear hD F HL Q;go_upto_if 22 with fail;go_cut [6]from 23 to 24 (fun y wx=>y= .int .i64 (k:Int)/\wc=wx)
 case first=>
  cases b with
  | true=>
   have e5:(x:Int) % 5=(k:Int):=by have:=uh T;rw[yf rfl]at this;omega
   go_wp2;go_meet
   case rel=>exact⟨rfl,rfl⟩
  | false=>
   have e5:(x:Int) % 10=(k:Int):=by have:=uh T;rw[ye (by decide)]at this;omega
   go_wp2;go_meet
   case rel=>exact⟨by rw[e5],rfl⟩
 obtain⟨rfl,rfl⟩:=hcut;by_cases U:k<5
 ·have HR:=zh (uh A U);clear A C W HLN HGB T hop;have n:=zh (zae B rb m wc (uh N).rd);have D:=zh (zac (x / 10) wc (by omega));rcases (show k=0∨k=1∨k=2∨k=3∨k=4 from by omega)with rfl | rfl | rfl | rfl | rfl
  ·have E:R=(VO (nx m).1,(nx m).2):=by rw[uh HR];rfl
   subst E;clear HR U;go_wp2_with fail;refine (uh n).mono ?_;rintro e w3 ⟨rfl,d3⟩;clear n D;go_wp2;go_ret;exact⟨rfl,(uh N).step d3⟩
  ·have E:R=(GJ (x / 10),m):=by rw[uh HR];rfl
   subst E;clear HR U;have hd:(x:Int) / 10=((x / 10:Nat):Int):=by omega
   have hb:x / 10<=255:=by omega
   generalize x / 10=z at *;generalize GJ z=rt at *;go_wp2_with fail;refine (uh D).mono ?_;rintro e w3 ⟨rfl,b3⟩;clear n D;go_wp2;go_ret;exact⟨rfl,(uh N).below b3⟩
  ·have E:R=([116,114,117,101],m):=by rw[uh HR];rfl
   subst E;clear HR U n D;go_wp2;go_ret;exact⟨rfl,uh N⟩
  ·have E:R=([110,117,108,108],m):=by rw[uh HR];rfl
   subst E;clear HR U n D;go_wp2;go_ret;exact⟨rfl,uh N⟩
  ·by_cases h2:x / 10 % 2=0
   ·have e2:(x:Int) / 10 % 2=0:=by omega
    have E:R=(VO (nx m).1,(nx m).2):=by rw[uh HR];show (if x / 10 % 2=0 then _ else _)=_;rw[yf h2]
    subst E;clear HR U h2;go_wp2_with fail;refine (uh n).mono ?_;rintro e w3 ⟨rfl,d3⟩;clear n D;go_wp2;go_ret;exact⟨rfl,(uh N).step d3⟩
   ·have e2:((x:Int) / 10 % 2 ==0)=false:=by simp;omega
    have E:R=([102,97,108,115,101],m):=by rw[uh HR];show (if x / 10 % 2=0 then _ else _)=_;rw[ye h2]
    subst E;clear HR U h2 n D;go_wp2;go_ret;exact⟨rfl,uh N⟩
 ·obtain⟨hd0,E⟩:=uh C U;subst E;have HI:=zh (uh W hd0);clear A C W T;have e0:((k:Int) ==0)=false:=by simp;omega
  have e1:((k:Int) ==1)=false:=by simp;omega
  have e2:((k:Int) ==2)=false:=by simp;omega
  have e3:((k:Int) ==3)=false:=by simp;omega
  have e4:((k:Int) ==4)=false:=by simp;omega
  have hnn:1+(x:Int) / 10 % 4=((1+x / 10 % 4:Nat):Int):=by omega
  have hn4:1+x / 10 % 4<=4:=by omega
  generalize 1+x / 10 % 4=P at *;have hdp:¬ dI<=0:=by have:=uh X (by omega);omega
  have hdq:dI<=4:=by have:=uh X (by omega);omega
  have hs2:=(uh N).size;have HO:Hid ((wc.alloc (.cells #[] 97)).ownsRow w.heap.size 97 2 (.slice (some ⟨wc.heap.size,0,none⟩) 0 0) 0 []):=World.ownsRow_lit wc #[] 0 hs2 (by unfold maxLen;omega) rfl;have HGS:Hid (GX w B rb M (.slice (some ⟨wc.heap.size,0,none⟩) 0 0) [] m (wc.alloc (.cells #[] 97))):=⟨uh HO,fun p hp=>by (cases hp),(uh N).below (ZJ wc _)⟩;clear HO U N hd0;go_wp2_with fail;obtain⟨i0,hi0,hz0,hz1,hz2⟩:=info_parts Y9;generalize hRR:Yp gg k P [] m=RR at *;have l:=zh hRR;clear hRR;go_loopw [8,9] (fun v i wr=>∃ (j:Nat) (a:List zx) (va:Option Addr) (vc:Nat) (r:List UInt8),v= .slice va a.length vc/\i= .int .i64 j/\j<=P/\a.length<=j/\GX w B rb M (.slice va a.length vc) a r wr/\Yp gg k (P - j) a r=RR) (fun _ i _=>P - (intOf i).toNat)
  case atStart=>exact⟨0,[],_,_,m,rfl,rfl,yr _,yd _,uh HGS,uh l⟩
  case round=>
   obtain⟨j,a,va,vc,r,rfl,rfl,hj,hpl,Y,L⟩:=hrel;have O:=zh Y;have hws:=Y.dx.size;clear Y HGS l;by_cases hlt:j<P
   ·have hltI:(j:Int)<(P:Int):=by omega
    rw[show P - j=(P - (j+1))+1 by omega,Yp]at L;have HX:=zh (QS B rb r wr (uh O).dx.rd);have hy1:=Qo r;have ht1:=Vf (nx r).1;have HK:=zh fun w=>WN (nx r).1 w hy1;have ht2:=uh HLN (nx r).2;have HG:=zh (uh HI (nx r).2);have l:=zh L;clear L;generalize (nx r).1=y1 at *;generalize (nx r).2=r1 at *;generalize qz y1=t1 at *;generalize (gg r1).1=t2 at *;generalize (gg r1).2=r2 at *;go_wp2_with fail;refine (uh HX).mono ?_;rintro e w3 ⟨rfl,d3⟩;have Z3:=zh ((uh O).next d3 V);have hw3:=(uh Z3).dx.size;clear HX O d3;go_wp2_with fail;refine (uh HK w3).mono ?_;rintro e w4 ⟨rfl,rfl⟩;have HG3:=zh (uh HG w3 (uh Z3).dx.rd);clear HK HG;go_wp2_with fail;refine (uh HG3).mono ?_;rintro e w5 ⟨rfl,d5⟩;have s:=zh ((uh Z3).next d5 V);have hw5:=(uh s).dx.size;have I:Hid (∀ o:Obj,(w5.alloc o).ownsRow w.heap.size 97 2 (.slice va a.length vc) a.length (a.flatMap zF)):=fun o=>World.ownsRow.alloc (uh s).row o;clear HG3 Z3 d5 hy1;have hkk:a.length<=4:=by omega
    have S:Hid (a.length+1=(a++[(t1,t2)]).length):=by show _=_;simp
    by_cases h7:(k:Int)<7
    ·have f:=uh l;rw[yf (.inl (by omega))]at f;have G:=zh f;clear f l;go_wp2_with (at_builtin;refine wpList_append_own _ rfl (.tmp 71) (.tmp 75) 94 rfl w.heap.size 97 i0 (.agg #[.string ByteArray.empty,.string ByteArray.empty]) 2 32 underlying94 hi0 hz0 hz1 hz2 rfl (by decide) _ _ _ rfl (uh I _) ⟨w5.heap.size,0,none⟩ 1 1 (zF (t1,t2)) rfl rfl (QE _ _ _ _) (fun u hu=>by {simp[zF]at hu;rcases hu with rfl | rfl<;>rfl}) (by unfold maxLen;omega) (by omega) (by simp;omega) ?_);intro v7 w7 g J _;obtain⟨Z,aa,rfl⟩:=WP g;have H:=zh ((uh s).step ht1 ht2 g J V);have K:=uh S;rw[K]at H;clear g J s I S;go_wp2;go_roundw
     case rel=>exact⟨j+1,a++[(t1,t2)],Z,aa,r2,by rw[K],by go_num,by omega,by simp;omega,uh H,uh G⟩
     case measure=>simp[intOf];omega
    ·have HF:=zh (F1 w.heap.size _ a t1 w5 (uh s).row (by omega));go_wp2_with fail;refine (uh HF).mono ?_;rintro e w6 ⟨z,rfl,hz,rfl⟩;clear HF;by_cases hzz:z<0
     ·have f:=uh l;rw[yf (.inr (by rw[← hz];simp;omega))]at f;have G:=zh f;clear hz f l;go_wp2_with (at_builtin;refine wpList_append_own _ rfl (.tmp 71) (.tmp 75) 94 rfl w.heap.size 97 i0 (.agg #[.string ByteArray.empty,.string ByteArray.empty]) 2 32 underlying94 hi0 hz0 hz1 hz2 rfl (by decide) _ _ _ rfl (uh I _) ⟨w5.heap.size,0,none⟩ 1 1 (zF (t1,t2)) rfl rfl (QE _ _ _ _) (fun u hu=>by {simp[zF]at hu;rcases hu with rfl | rfl<;>rfl}) (by unfold maxLen;omega) (by omega) (by simp;omega) ?_);intro v7 w7 g J _;obtain⟨Z,aa,rfl⟩:=WP g;have H:=zh ((uh s).step ht1 ht2 g J V);have K:=uh S;rw[K]at H;clear g J s I S;go_wp2;go_roundw
      case rel=>exact⟨j+1,a++[(t1,t2)],Z,aa,r2,by rw[K],by go_num,by omega,by simp;omega,uh H,uh G⟩
      case measure=>simp[intOf];omega
     ·have f:=uh l;rw[ye (by rw[← hz];simp;omega)]at f;have G:=zh f;clear I hz f l;go_wp2;go_roundw
      case rel=>exact⟨j+1,a,va,vc,r2,rfl,by go_num,by omega,by omega,uh s,uh G⟩
      case measure=>simp[intOf];omega
   ·have hltI:¬ (j:Int)<(P:Int):=by omega
    have hl4:a.length<=4:=by omega
    obtain rfl:(a,r)=RR:=by rw[← L,show P - j=0 by omega,Yp]
    clear L;have hsA:=(uh O).key.sumA;have hsT:=(uh O).key.sumT;have hA4:a.length*(M+1)<=4*(M+1):=Nat.mul_le_mul_right _ hl4;have hT4:a.length*(M+22)<=4*(M+22):=Nat.mul_le_mul_right _ hl4;have hle:=uh HGB;have HW:=zh (Na w.heap.size _ a wr (uh O).row (by omega) (by omega));have HV:=zh (VN w.heap.size _ a wr (uh O).row (by omega) (by omega) (fun p hp=>by have:=((uh O).key p hp).1;omega));clear hsA hsT hA4 hT4 hle HI;by_cases h7:(k:Int)<7
    ·have hN:Vg k (a,r)=(Zi (a.map (·.2)),r):=by unfold Vg;rw[yf (by omega)]
     generalize Zi (a.map (·.2))=tA at *;have HN:=zh hN;clear HV hN;go_wp2_with fail;refine (uh HW).mono ?_;rintro e w6 ⟨rfl,b6⟩;clear HW;go_wp2;go_ret;exact by rw[uh HN];exact⟨rfl,(uh O).dx.below b6⟩
    ·have hN:Vg k (a,r)=(ZD a,r):=by unfold Vg;rw[ye (by omega)]
     generalize ZD a=tO at *;have HN:=zh hN;clear HW hN;go_wp2_with fail;refine (uh HV).mono ?_;rintro e w6 ⟨rfl,b6⟩;clear HV;go_wp2;go_ret;exact by rw[uh HN];exact⟨rfl,(uh O).dx.below b6⟩
theorem XB(l:List zx):l.length<=sumT l:=by
 induction l with
 | nil=>simp
 | cons p r ih=>simp[sumT]at *;omega
theorem zal(acc:JM)(k:List UInt8):Yk (zn acc) k=(qP acc).contains k:=by unfold Yk;rw[Up]
theorem PR.other{w:Wo}{B:Nat}{v:Value}{ps:List zx}(h:PR w B v ps){p:Addr}(hp:p.block<B)(u:Value):PR (w.setCell p u) B v ps:=by
 refine⟨h.1,?_⟩;rcases h.2 with d |⟨g,a,b,j,f,i,r⟩
 ·exact .inl d
 ·exact .inr ⟨g,a,b,j,f,(Below.heap_setCell w p u g (by omega)).trans i,r⟩
theorem zam (s:Bs) (i:Nat) (w:Wo) (hs:s.size<=100000) (hi:i<s.size) (h123:bt s i=123)
  (IH:∀ (j:Nat) (w:Wo),i<j->j<=s.size->Calls prog 26 #[.string s,.int .i64 j] w (GP w (val s j))):
  Calls prog 68 #[.string s,.int .i64 i] w (GP w (val s i)):=by
 obtain⟨i0,hi0,hz0,hz1,hz2⟩:=info_parts Y9;have o:=zh (F0 s (by omega));have HSTR:Hid (∀ (j:Nat) w,j<=s.size+1->Calls prog 69 #[.string s,.int .i64 j] w (UH s w (Zq s j))):=fun j w hj=>UI s j w (by omega) hj;have g0:=zO s (i+1);have g1:=(Qu (s:=s) (i:=i+1) (by omega)).2;have HV:=zh (KO h123);have HIH:=zh IH;clear IH;generalize hk0:sk s (i+1)=J at *;go_in;go_wp2_with fail;refine ((uh o).1 _ (i+1) _ (by omega)).mono ?_;rintro e w1 ⟨rfl,rfl⟩;rw[hk0];go_wp2_with fail;refine ((uh o).2 125 J _ (by decide)).mono ?_;rintro e w1 ⟨rfl,rfl⟩;clear hk0;by_cases g:bt s J=125
 ·rw[yi g];have HR:Hid (val s i=some (.obj .nil,J+1)):=by show _=_;rw[uh HV,yf g]
  clear g HV;go_wp2;go_returns;rw[uh HR];exact⟨((ZJ w _).trans ((yG _ _).alloc (by simp) _)).trans ((yG _ _).alloc (by simp;omega) _),rfl⟩
 ·rw[yj g];have HR:Hid (val s i=(qY s J).map fun q=>(.obj q.1,q.2)):=by show _=_;rw[uh HV,ye g]
  clear g HV h123;go_wp2_with fail;go_loopg [1,6] (s.size+1 - J) (fun gk k pr wr=>∃ (j:Nat) (f:JM),gk=s.size+1 - j/\k= .int .i64 (j:Int)/\J<=j/\j<=s.size/\zU w.heap.size ⟨#[]⟩ 0 false false false wr/\zU (w.heap.size+1) ⟨#[]⟩ 0 true (ZF f) (ZC [] f) wr/\PR wr (w.heap.size+2) pr (zn f)/\Bw w wr/\sumT (zn f)<=31*j/\(∀ p∈zn f,p.1.length<=1048576)/\qY s J=(qY s j).map fun q=>(f.app q.1,q.2))
  case atStart=>
   refine⟨J,.nil,rfl,rfl,yd _,g1,?_,?_,?_,((ZJ w _).trans ((yG _ _).alloc (by simp) _)).trans ((yG _ _).alloc (by simp;omega) _),by simp[zn,sumT],by simp[zn],by simp[JM.app]⟩
   ·show (World.alloc _ _).heap[_]?=_
    rw[Lib.alloc_old _ _ _ (by simp;omega),Lib.alloc_old _ _ _ (by simp)];exact yF w _
   ·show (World.alloc _ _).heap[_]?=_
    rw[Lib.alloc_old _ _ _ (by simp)];have:=yF (w.alloc (qf ⟨#[]⟩ 0 false false false)) (qf ⟨#[]⟩ 0 true false false);rw[show (w.alloc (qf ⟨#[]⟩ 0 false false false)).heap.size=w.heap.size+1 from by simp]at this;exact this
   ·refine⟨rfl,.inr ⟨w.heap.size+2,0,#[],rfl,yd _,?_,yd _,by unfold maxLen;omega,rfl,rfl⟩⟩;have:=yF ((w.alloc (qf ⟨#[]⟩ 0 false false false)).alloc (qf ⟨#[]⟩ 0 true false false)) (.cells #[] 97);rw[show ((w.alloc (qf ⟨#[]⟩ 0 false false false)).alloc (qf ⟨#[]⟩ 0 true false false)).heap.size=w.heap.size+2 from by simp]at this;exact this
  case round=>
   obtain⟨j,f,hg,rfl,hj1,hj2,hr,I,hpr,hb,hsl,hkl,hst⟩:=hrel;have HST:=zh hst;have HG:=zh I;have O:=zh hr;have HP:=zh hpr;have HB:=zh hb;have HKL:=zh hkl;have hwsz:=hb.size;have hgl:=I.lt;clear hst I hr hb hpr hkl;have HC:=zh (uh HSTR j wr (by omega))
   cases hq:Zq s j with
   | none=>
    have HN:Hid (val s i=none):=by
     show _=_
     rw[uh HR,uh HST,Uo,hq];rfl
    rw[hq]at HC;clear hq;go_wp2_with fail;refine (uh HC).mono ?_;rintro e w2 ⟨S,t,k,E,_,rfl⟩;have B:=(uh O).below S;have K:=zj (uh HB) S;clear HC O HB;go_wp2_with fail;refine ((uh o).1 _ k _ rfl).mono ?_;rintro e x ⟨rfl,rfl⟩;obtain⟨r0,r1,r2,r3,r4⟩:=B.cells;obtain⟨q0,q1,q2,q3,q4⟩:=B.fzs;have Q:=zh (B.put ⟨#[]⟩ 0 0 rfl false false false);have L:=zh (J2 K (yd _) (.string ⟨#[]⟩) (.int .i64 0) (.bool false) (.bool false) (.bool false));clear B K;go_wp2;try simp only[Exit.inBlock,Exit.then]
    refine bodyPost_ret (J3 rfl rfl (uh Q)) rfl ?_;exact GP.bad (uh HN) (uh L)
   | some q=>
    obtain⟨l,a⟩:=q;have hqo:=Js hq;have hql:=Ur hq;have HM:Hid (qY s J=(if bt s (sk s a)=58 then (val s (sk s (sk s a+1))).bind fun q=>
      if bt s (sk s q.2)=125 then some (JM.cons l q.1 .nil,sk s q.2+1)
      else if bt s (sk s q.2)=44 then (qY s (sk s (sk s q.2+1))).map fun r=>(JM.cons l q.1 r.1,r.2)
      else none else none).map fun q=>(f.app q.1,q.2)):=by
     show _=_
     rw[uh HST,Uo,hq];rfl
    rw[hq]at HC;have hn1:=zO s a;have hn2:=(Qu hqo.2).2;clear hq HST;go_wp2_with fail;refine (uh HC).mono ?_;rintro e w2 ⟨S,rfl⟩;have B:=(uh O).below S;have G2:=(uh HG).below S;have P2:=(uh HP).below S;have K:=zj (uh HB) S;have hw2:=S.size;clear HC O HB HG HP S;go_wp2_with fail;refine ((uh o).1 _ a _ rfl).mono ?_;rintro e x ⟨rfl,rfl⟩;generalize hsk:sk s a=ka at *;go_wp2_with fail;refine ((uh o).2 58 ka _ (by decide)).mono ?_;rintro e x ⟨rfl,rfl⟩;by_cases D:bt s ka=58
    ·rw[yi D];rw[yf D]at HM;have hka:ka<s.size:=zQ (by omega);have gs1:=zO s (ka+1);have gs2:=(Qu (s:=s) (i:=ka+1) (by omega)).2;clear D hsk;go_wp2_with fail;refine ((uh o).1 _ (ka+1) _ (by omega)).mono ?_;rintro e x ⟨rfl,rfl⟩;generalize sk s (ka+1)=kv at *;have HC:=zh (uh HIH kv w2 (by omega) (by omega))
     cases F:val s kv with
     | none=>
      have HN:Hid (val s i=none):=by
       show _=_
       rw[uh HR,uh HM,F];rfl
      rw[F]at HC;clear F;go_wp2_with fail;refine (uh HC).mono ?_;rintro e x ⟨H,t,n,bb,tw,rfl⟩;have R3:=(B.below H).alloc (qf t n false bb tw);have B3:Bw w (x.alloc (qf t n false bb tw)):=(zj K H).alloc (by have:=H.size;omega) _;obtain⟨r0,r1,r2,r3,r4⟩:=R3.cells;obtain⟨q0,q1,q2,q3,q4⟩:=R3.fzs;have Q:=zh (R3.put ⟨#[]⟩ 0 0 rfl false false false);have L:=zh (J2 B3 (yd _) (.string ⟨#[]⟩) (.int .i64 0) (.bool false) (.bool false) (.bool false));clear HC B R3 K B3 G2 P2;simp only[qF];go_wp2;try simp only[Exit.inBlock,Exit.then]
      refine bodyPost_ret (J3 rfl rfl (uh Q)) rfl ?_;exact GP.bad (uh HN) (uh L)
     | some q=>
      obtain⟨v,n⟩:=q;have hvo:=Yj F;have hvl:=KR F;have A:Hid (qY s J=(if bt s (sk s n)=125 then some (JM.cons l v .nil,sk s n+1)else if bt s (sk s n)=44 then (qY s (sk s (sk s n+1))).map fun r=>(JM.cons l v r.1,r.2)else none).map fun q=>(f.app q.1,q.2)):=by
       show _=_
       rw[uh HM,F];rfl
      rw[F]at HC;have hsn1:=zO s n;have hsn2:=(Qu hvo.2).2;clear F HM;have HBB:Hid (ZF (f.app (.cons l v .nil))=(ZF f || zD v)):=by show _=_;rw[FW];simp[ZF]
      have HTT:Hid (ZC [] (f.app (.cons l v .nil))=((ZC [] f || zw v) || Yk (zn f) l)):=by
       show _=_
       rw[FY,zal];simp[ZC,Bool.or_assoc]
      have HCT:Hid (zn (f.app (.cons l v .nil))=zn f++[(l,ct v)]):=by show _=_;rw[RK];simp[zn]
      go_wp2_with fail;refine (uh HC).mono ?_;rintro e x ⟨H,rfl⟩;simp only[qF];have R4:=zh ((B.below H).alloc (qf (zi (ct v)) n true (zD v) (zw v)));have G4:=zh ((G2.below H).alloc (qf (zi (ct v)) n true (zD v) (zw v)));have P4:=zh ((P2.below H).below (ZJ x (qf (zi (ct v)) n true (zD v) (zw v))));have V4:Hid (zU x.heap.size (zi (ct v)) n true (zD v) (zw v) (x.alloc (qf (zi (ct v)) n true (zD v) (zw v)))):=yF x _;have B4:Hid (Bw w (x.alloc (qf (zi (ct v)) n true (zD v) (zw v)))):=(zj K H).alloc (by have:=H.size;omega) _;have hw3:=H.size;have hgl2:=G2.lt;clear HC B G2 P2 K H;simp only[qf]at G4 V4 R4 B4 P4;generalize zD v=X at *;generalize zw v=V at *;generalize hbm:ZF f=ba at *;generalize htm:ZC [] f=ta at *;generalize hfk:Yk (zn f) l=fk at *;have vok:=(uh V4).c2;generalize hw4:x.alloc (.cells #[.string (zi (ct v)),.int .i64 (n:Int),.bool true,.bool X,.bool V] 51 (0,0))=w4 at *;have hvg:x.heap.size≠w.heap.size+1:=by omega
      go_upto_region 13 with fail;go_cut []from 23 to 102 (fun wx=>wx=w4.setCell ⟨w.heap.size+1,3,none⟩ (.bool (ba || X)))
      case first=>
       have g3:=(uh G4).c3;have v3:=(uh V4).c3;have f3:=(uh G4).fz 3
       cases ba
       ·go_wp2;go_meet
        case rel=>rfl
       ·go_wp2;go_meet
        case rel=>rfl
      case rest=>
       have G5:Hid (zU (w.heap.size+1) ⟨#[]⟩ 0 true (ba || X) ta wc):=hcut ▸ (uh G4).set3 (ba || X);have R5:Hid (zU w.heap.size ⟨#[]⟩ 0 false false false wc):=hcut ▸ (uh R4).other (p:=⟨w.heap.size+1,3,none⟩) (by show _≠w.heap.size+1;omega) _;have V5:Hid (zU x.heap.size (zi (ct v)) n true X V wc):=hcut ▸ (uh V4).other (p:=⟨w.heap.size+1,3,none⟩) hvg _;have P5:Hid (PR wc (w.heap.size+2) u6 (zn f)):=hcut ▸ (uh P4).other (p:=⟨w.heap.size+1,3,none⟩) (by show w.heap.size+1<_;omega) _;have B5:Hid (Bw w wc):=hcut ▸ (uh B4).setCell (p:=⟨w.heap.size+1,3,none⟩) (by show _<=w.heap.size+1;omega) _;clear hcut G4 R4 V4 P4 B4 vok hw4;generalize (ba || X)=bb at *;have HFI:Hid (Calls prog 115 #[u6,.string (zi l)] wc fun e w'=>∃ z:Int,e= .returned (.int .i64 z)/\decide ((0:Int)<=z)=fk/\wc=w'):=by
        have h:=F1 (w.heap.size+2) u6 (zn f) l wc (uh P5) (by have:=XB (zn f);omega);rw[hfk]at h;exact h
       go_upto_region 14 with fail;go_cut []from 23 to 102 (fun wx=>wx=wc.setCell ⟨w.heap.size+1,4,none⟩ (.bool ((ta || V) || fk)))
       case first=>
        have g3:=(uh G5).c4;have v3:=(uh V5).c4;have f3:=(uh G5).fz 4
        cases ta
        ·cases V
         ·go_wp2_with fail;refine (uh HFI).mono ?_;rintro e w6 ⟨z,rfl,hz,rfl⟩;go_wp2;go_meet
          case rel=>rw[← hz];simp
         ·go_wp2;go_meet
          case rel=>rfl
        ·go_wp2;go_meet
         case rel=>rfl
       case rest=>
        have G6:Hid (zU (w.heap.size+1) ⟨#[]⟩ 0 true bb ((ta || V) || fk) wc):=hcut ▸ (uh G5).set4 ((ta || V) || fk);have W:Hid (zU w.heap.size ⟨#[]⟩ 0 false false false wc):=hcut ▸ (uh R5).other (p:=⟨w.heap.size+1,4,none⟩) (by show _≠w.heap.size+1;omega) _;have V6:Hid (zU x.heap.size (zi (ct v)) n true X V wc):=hcut ▸ (uh V5).other (p:=⟨w.heap.size+1,4,none⟩) hvg _;have P6:Hid (PR wc (w.heap.size+2) u6 (zn f)):=hcut ▸ (uh P5).other (p:=⟨w.heap.size+1,4,none⟩) (by show w.heap.size+1<_;omega) _;have B6:Hid (Bw w wc):=hcut ▸ (uh B5).setCell (p:=⟨w.heap.size+1,4,none⟩) (by show _<=w.heap.size+1;omega) _;clear hcut G5 R5 V5 P5 B5 HFI hfk;generalize ((ta || V) || fk)=tt at *;have v0:=(uh V6).c0;have hw6:=(uh V6).lt;have y:wc.ownsRow (w.heap.size+2) 97 2 u6 (zn f).length ((zn f).flatMap zF):=uh P6;have hcl:=XB (zn f);have Z:∀ k,u6.ownBlock=some k->w.heap.size+2<=k/\k≠x.heap.size:=fun k E=>by
         refine⟨(y.lt k E).1,fun e=>?_⟩;subst e;rcases y.2 with ⟨F,_⟩ |⟨gg,cap,cur,F,_,T,_⟩
         ·rw[F]at E;cases E
         ·rw[F]at E;injection E with E;rw[show gg=x.heap.size from E,uh V6]at T;injection T with T;injection T with _ h2;exact absurd h2 (by decide)
        have G:=zh Z;clear Z;go_wp2_with (at_builtin;refine wpList_append_own _ rfl (.tmp 72) (.tmp 77) 94 rfl (w.heap.size+2) 97 i0 (.agg #[.string ByteArray.empty,.string ByteArray.empty]) 2 32 underlying94 hi0 hz0 hz1 hz2 rfl (by decide) _ _ _ rfl (y.alloc _) ⟨wc.heap.size,0,none⟩ 1 1 (zF (l,ct v)) rfl rfl (QE _ _ _ _) (fun u hu=>by {simp[zF]at hu;rcases hu with rfl | rfl<;>rfl}) (by unfold maxLen;omega) (by omega) (by simp;omega) ?_;intro v7 w7 aa hg7 _;have hg8:(wc.alloc (.cells #[.string (zi l),.string (zi (ct v))] 97)).grownBy w7 u6.ownBlock:=hg7;have keep:∀ k,k<wc.heap.size->some k≠u6.ownBlock->w7.heap[k]?=wc.heap[k]?:=(fun k E hn=>(hg8.block k (by simp;omega) hn).trans (Lib.alloc_old wc _ k E));have G7:Hid (zU (w.heap.size+1) ⟨#[]⟩ 0 true bb tt w7):=(keep _ (uh G6).lt (fun e=>by have:=(uh G _ e.symm).1;omega)).trans (uh G6);have R7:Hid (zU w.heap.size ⟨#[]⟩ 0 false false false w7):=(keep _ (uh W).lt (fun e=>by have:=(uh G _ e.symm).1;omega)).trans (uh W);have V7:Hid (zU x.heap.size (zi (ct v)) n true X V w7):=(keep _ (uh V6).lt (fun e=>(uh G _ e.symm).2 rfl)).trans (uh V6);have P7:Hid (PR w7 (w.heap.size+2) v7 (zn f++[(l,ct v)])):=(by show PR w7 (w.heap.size+2) v7 (zn f++[(l,ct v)]);unfold PR;rw[yg,List.flatMap_append];simpa using aa);have B7:Hid (Bw w w7):=((uh B6).alloc (by omega) _).grown hg8 (by simp;omega) (fun k E=>by have:=(uh G k E).1;omega);have v71:=(uh V7).c1;clear aa hg7 hg8 keep y G6 W V6 P6 B6 G v0);refine ((uh o).1 _ n _ rfl).mono ?_;rintro e w8 ⟨rfl,rfl⟩;clear v71 V7;rw[← uh HCT]at P7;have hsl2:sumT (zn (f.app (.cons l v .nil)))<=31*sk s n:=by
         rw[uh HCT,O5];have e2:sumT [(l,ct v)]=(quoted l).length+1+(ct v).length+1:=by simp[sumT,zt];omega
         have:=qQ l;omega
        have Y:Hid (∀ p∈zn (f.app (.cons l v .nil)),p.1.length<=1048576):=fun p U=>by
         rw[uh HCT]at U;rcases List.mem_append.1 U with U | U
         ·exact uh HKL p U
         ·simp at U;subst U;show l.length<=_;omega
        generalize sk s n=k at *;generalize hA2:f.app (.cons l v .nil)=m at *;go_wp2_with fail;refine ((uh o).2 125 k _ (by decide)).mono ?_;rintro e w8 ⟨rfl,rfl⟩;by_cases g:bt s k=125
        ·rw[yi g];have HVV:Hid (val s i=some (.obj m,k+1)):=by
          show _=_
          rw[uh HR,uh A,yf g,← hA2];rfl
         have HSO:=zh (WC _ _ _ _ (uh P7) (by have:=XB (zn m);omega));clear g A;go_wp2_with fail;refine (uh HSO).mono ?_;rintro e w9 ⟨v9,rfl,p9,b9⟩;have HMK:=zh (VN _ _ _ _ p9 (by rw[Wz];omega) (by have:=XB (zz (zn m));rw[Wz]at this;omega) (fun p U=>by
          have:p∈zn m:=by
           have hm:=qj (zn m);exact hm.mem_iff.1 U
          exact uh Y p this))
         have G9:=(uh G7).below b9;have R9:=(uh R7).below b9;have B9:=zj (uh B7) b9;clear HSO p9 b9 G7 R7 B7 P7;go_wp2_with fail;refine (uh HMK).mono ?_;rintro e w10 ⟨rfl,R⟩;have M:=G9.below R;have R10:=R9.below R;have B10:=zj B9 R;clear G9 R9 B9 R HMK;have HSF:Hid (zi (ct (.obj m))=zi (ZD (zz (zn m)))):=by show _=_;rw[ct]
         generalize zi (ZD (zz (zn m)))=sf at *;have c0:=M.c0;have f0:=M.fz 0;have N:=M.set0 sf;have c71:=N.c1;have f71:=N.fz 1;have G12:=N.set1 ((k:Int)+1) (k+1) (by omega);have P:=(R10.other (p:=⟨w.heap.size+1,0,none⟩) (by show _≠w.heap.size+1;omega) (.string sf)).other (p:=⟨w.heap.size+1,1,none⟩) (by show _≠w.heap.size+1;omega) (.int .i64 ((k:Int)+1));have B12:=(B10.setCell (p:=⟨w.heap.size+1,0,none⟩) (by show _<=w.heap.size+1;omega) (.string sf)).setCell (p:=⟨w.heap.size+1,1,none⟩) (by show _<=w.heap.size+1;omega) (.int .i64 ((k:Int)+1));obtain⟨a0,a1',a2,a3,a4⟩:=G12.cells;have a1:=a1'.trans (show _=some (Value.int .i64 ((k:Int)+1)) by rw[show ((k+1:Nat):Int)=(k:Int)+1 from by omega]);obtain⟨r0,r1,r2,r3,r4⟩:=P.cells;obtain⟨q0,q1,q2,q3,q4⟩:=P.fzs;have Q:=zh (P.copyTo G12 ((k:Int)+1) (by omega));have L:=zh (fun a b c d e=>J2 B12 (yd _) a b c d e);clear a1' M N G12 R10 P B10 B12 HR;go_wp2;try simp only[Exit.inBlock,Exit.then]
         refine bodyPost_ret (J3 rfl rfl (uh Q)) rfl ?_;rw[uh HVV];refine⟨uh L _ _ _ _ _,?_⟩;show _=Ending.returned (qF (zi (ct (.obj m))) (k+1) true (ZF m) (ZC [] m))
         rw[uh HSF,uh HBB,uh HTT]
        ·rw[yj g];go_wp2_with fail;refine ((uh o).2 44 k _ (by decide)).mono ?_;rintro e w8 ⟨rfl,rfl⟩;by_cases C:bt s k=44
         ·rw[yi C];have hkl:k<s.size:=zQ (by omega);have HST2:Hid (qY s J=(qY s (sk s (k+1))).map fun q=>(m.app q.1,q.2)):=by
           show _=_
           rw[uh A,ye g,yf C,Option.map_map,← hA2];congr 1;funext q;simp[JM.app_assoc,JM.app]
          have hs1:=zO s (k+1);have hs2:=(Qu (s:=s) (i:=k+1) (by omega)).2;clear A g C;go_wp2_with fail;refine ((uh o).1 _ (k+1) _ (by omega)).mono ?_;rintro e w9 ⟨rfl,rfl⟩;go_wp2;go_roundg (s.size+1 - sk s (k+1))
          case rel=>exact⟨sk s (k+1),m,rfl,rfl,by omega,hs2,uh R7,by rw[uh HBB,uh HTT];exact uh G7,uh P7,uh B7,by omega,uh Y,uh HST2⟩
          case measure=>omega
         ·rw[yj C];have HN:Hid (val s i=none):=by
           show _=_
           rw[uh HR,uh A,ye g,ye C];rfl
          have W:=uh R7;obtain⟨r0,r1,r2,r3,r4⟩:=W.cells;obtain⟨q0,q1,q2,q3,q4⟩:=W.fzs;have Q:=zh (W.put ⟨#[]⟩ 0 0 rfl false false false);have L:=zh (J2 (uh B7) (yd _) (.string ⟨#[]⟩) (.int .i64 0) (.bool false) (.bool false) (.bool false));clear W G7 R7 B7 P7 A g C;go_wp2;try simp only[Exit.inBlock,Exit.then]
          refine bodyPost_ret (J3 rfl rfl (uh Q)) rfl ?_;exact GP.bad (uh HN) (uh L)
    ·rw[yj D];have HN:Hid (val s i=none):=by
      show _=_
      rw[uh HR,uh HM,ye D];rfl
     obtain⟨r0,r1,r2,r3,r4⟩:=B.cells;obtain⟨q0,q1,q2,q3,q4⟩:=B.fzs;have Q:=zh (B.put ⟨#[]⟩ 0 0 rfl false false false);have L:=zh (J2 K (yd _) (.string ⟨#[]⟩) (.int .i64 0) (.bool false) (.bool false) (.bool false));clear B K G2 P2 D;go_wp2;try simp only[Exit.inBlock,Exit.then]
     refine bodyPost_ret (J3 rfl rfl (uh Q)) rfl ?_;exact GP.bad (uh HN) (uh L)
theorem Ma{s:Bs}{i:Nat}(h:i+4<=s.size):zW s i (i+4)=[s.data.toList.getD i 0,s.data.toList.getD (i+1) 0,s.data.toList.getD (i+2) 0,s.data.toList.getD (i+3) 0]:=by
 have e:∀ k,i+k<s.size->s.data.toList.drop (i+k)=s.data.toList.getD (i+k) 0 :: s.data.toList.drop (i+k+1):=fun k hk=>by
  rw[qT s (i+k) hk,List.getD_eq_getElem?_getD,XU s (i+k) hk];rfl
 unfold zW;rw[show i+4 - i=4 by omega];have a:=e 0 (by omega);rw[Nat.add_zero]at a;rw[a,e 1 (by omega),e 2 (by omega),e 3 (by omega)];rfl
theorem zan{s:Bs}{i:Nat}(h:i+5<=s.size):zW s i (i+5)=[s.data.toList.getD i 0,s.data.toList.getD (i+1) 0,s.data.toList.getD (i+2) 0,s.data.toList.getD (i+3) 0,s.data.toList.getD (i+4) 0]:=by
 have e:∀ k,i+k<s.size->s.data.toList.drop (i+k)=s.data.toList.getD (i+k) 0 :: s.data.toList.drop (i+k+1):=fun k hk=>by
  rw[qT s (i+k) hk,List.getD_eq_getElem?_getD,XU s (i+k) hk];rfl
 unfold zW;rw[show i+5 - i=5 by omega];have a:=e 0 (by omega);rw[Nat.add_zero]at a;rw[a,e 1 (by omega),e 2 (by omega),e 3 (by omega),e 4 (by omega)];rfl
theorem JQ(a:UInt8)(n:Nat)(h:n<256):(a=UInt8.ofNat n)↔a.toNat=n:=by
 constructor
 ·rintro rfl;rw[UInt8.toNat_ofNat'];omega
 ·intro e;apply UInt8.toNat_inj.1;rw[UInt8.toNat_ofNat'];omega
theorem Mb(s:Bs)(i:Nat):(decide (i+4<=s.size) && (s.extract i (i+4)).toList ==[110,117,108,108])=Ql s i:=by
 by_cases h:i+4<=s.size
 ·rw[yi h,Bool.true_and,Gi,Ma h];unfold Ql bt;rw[Bool.eq_iff_iff];simp only[yB,Bool.and_eq_true,List.cons.injEq,and_true];rw[show (110:UInt8)=UInt8.ofNat 110 from rfl,show (117:UInt8)=UInt8.ofNat 117 from rfl,show (108:UInt8)=UInt8.ofNat 108 from rfl,JQ _ _ (by decide),JQ _ _ (by decide),JQ _ _ (by decide),JQ _ _ (by decide)];simp only[and_assoc]
 ·rw[yj h,Bool.false_and];by_cases a:Ql s i=true
  ·exact absurd (Wu a) h
  ·simpa using a
theorem Mc(s:Bs)(i:Nat):(decide (i+4<=s.size) && (s.extract i (i+4)).toList ==[116,114,117,101])=Qw s i:=by
 by_cases h:i+4<=s.size
 ·rw[yi h,Bool.true_and,Gi,Ma h];unfold Qw bt;rw[Bool.eq_iff_iff];simp only[yB,Bool.and_eq_true,List.cons.injEq,and_true];rw[show (116:UInt8)=UInt8.ofNat 116 from rfl,show (114:UInt8)=UInt8.ofNat 114 from rfl,show (117:UInt8)=UInt8.ofNat 117 from rfl,show (101:UInt8)=UInt8.ofNat 101 from rfl,JQ _ _ (by decide),JQ _ _ (by decide),JQ _ _ (by decide),JQ _ _ (by decide)];simp only[and_assoc]
 ·rw[yj h,Bool.false_and];by_cases a:Qw s i=true
  ·exact absurd (Wv a) h
  ·simpa using a
theorem zao(s:Bs)(i:Nat):(decide (i+5<=s.size) && (s.extract i (i+5)).toList ==[102,97,108,115,101])=QP s i:=by
 by_cases h:i+5<=s.size
 ·rw[yi h,Bool.true_and,Gi,zan h];unfold QP bt;rw[Bool.eq_iff_iff];simp only[yB,Bool.and_eq_true,List.cons.injEq,and_true];rw[show (102:UInt8)=UInt8.ofNat 102 from rfl,show (97:UInt8)=UInt8.ofNat 97 from rfl,show (108:UInt8)=UInt8.ofNat 108 from rfl,show (115:UInt8)=UInt8.ofNat 115 from rfl,show (101:UInt8)=UInt8.ofNat 101 from rfl,JQ _ _ (by decide),JQ _ _ (by decide),JQ _ _ (by decide),JQ _ _ (by decide),JQ _ _ (by decide)];simp only[and_assoc]
 ·rw[yj h,Bool.false_and];by_cases a:QP s i=true
  ·exact absurd (Un a) h
  ·simpa using a
theorem zap{s:Bs}{i:Nat}(h:Ql s i=true):zW s i (i+4)=[110,117,108,108]:=by
 have a:=Mb s i;rw[h,yi (Wu h),Bool.true_and,yB,Gi]at a;exact a
theorem zaq{s:Bs}{i:Nat}(h:Qw s i=true):zW s i (i+4)=[116,114,117,101]:=by
 have a:=Mc s i;rw[h,yi (Wv h),Bool.true_and,yB,Gi]at a;exact a
theorem GP.form{w0 w2:Wo}{o:Option (JV×Nat)}{e:Ending}(h:GP w0 o e w2):∃ t n ok b tw,e= .returned (qF t n ok b tw)/\Bw w0 w2/\∀ W W',Bw W W'->GP W o (.returned (qF t n ok b tw)) W':=by
 obtain⟨a,h⟩:=h
 cases o with
 | none=>
  obtain⟨t,n,b,tw,rfl⟩:=h;exact⟨t,n,false,b,tw,rfl,a,fun W W' hW=>⟨hW,t,n,b,tw,rfl⟩⟩
 | some q=>
  exact⟨_,_,_,_,_,h,a,fun W W' hW=>⟨hW,rfl⟩⟩
theorem XC(w:Wo):zU w.heap.size ⟨#[]⟩ 0 false false false (w.alloc (qf ⟨#[]⟩ 0 false false false)):=yF w _
theorem Md (s:Bs) (i:Nat) (w:Wo) (hs:s.size<=100000) (hi:i<=s.size)
  (IH:∀ (j:Nat) (w:Wo),i<j->j<=s.size->Calls prog 26 #[.string s,.int .i64 j] w (GP w (val s j))):
  Calls prog 26 #[.string s,.int .i64 i] w (GP w (val s i)):=by
 have H:=zh (F0 s (by omega));have o:Hid (∀ w,i<s.size->bt s i=91->Calls prog 67 #[.string s,.int .i64 i] w (GP w (val s i))):=fun w J h=>Es s i w (by omega) J h IH;have r:Hid (∀ w,i<s.size->bt s i=123->Calls prog 68 #[.string s,.int .i64 i] w (GP w (val s i))):=fun w J h=>zam s i w hs J h IH;have p:Hid (∀ w,Calls prog 72 #[.string s,.int .i64 i] w (GP w ((nm s i).map fun q=>(.num q.1,q.2)))):=fun w=>BZ s i w (by omega) (by omega);have u:Hid (∀ w,Calls prog 69 #[.string s,.int .i64 i] w (UH s w (Zq s i))):=fun w=>UI s i w (by omega) (by omega);have v:Hid (∀ w,Calls prog 71 #[.string s,.int .i64 i,.string ⟨#[110,117,108,108]⟩] w (Rk (.bool (Ql s i)) w)):=fun w=>by
  have h:=FU s ⟨#[110,117,108,108]⟩ i w (by omega) (by decide) (by omega);rw[← Mb s i];rw[ByteArray.toList_eq (⟨#[110,117,108,108]⟩:Bs)]at h;exact h
 have x:Hid (∀ w,Calls prog 71 #[.string s,.int .i64 i,.string ⟨#[116,114,117,101]⟩] w (Rk (.bool (Qw s i)) w)):=fun w=>by
  have h:=FU s ⟨#[116,114,117,101]⟩ i w (by omega) (by decide) (by omega);rw[← Mc s i];rw[ByteArray.toList_eq (⟨#[116,114,117,101]⟩:Bs)]at h;exact h
 have y:Hid (∀ w,Calls prog 71 #[.string s,.int .i64 i,.string ⟨#[102,97,108,115,101]⟩] w (Rk (.bool (QP s i)) w)):=fun w=>by
  have h:=FU s ⟨#[102,97,108,115,101]⟩ i w (by omega) (by decide) (by omega);rw[← zao s i];rw[ByteArray.toList_eq (⟨#[102,97,108,115,101]⟩:Bs)]at h;exact h
 clear IH;go_in;go_wp2_with fail;refine ((uh H).2 91 i _ (by decide)).mono ?_;rintro e N ⟨rfl,rfl⟩;by_cases A:bt s i=91
 ·rw[yi A];have J:i<s.size:=zQ (by omega);go_wp2_with fail;refine (uh o _ J A).mono ?_;intro e O g;obtain⟨t,n,B,b,F,rfl,m,a⟩:=g.form;have z:=(XC w).below m;obtain⟨r0,r1,r2,r3,r4⟩:=z.cells;obtain⟨U,V,X,Y,Z⟩:=z.fzs;have I:=zh (z.put t (n:Int) n rfl B b F);have G:=zh (J2 (zj (ZJ w _) m) (yd _) (.string t) (.int .i64 (n:Int)) (.bool B) (.bool b) (.bool F));have d:=zh a;clear g m z a o r p u v x y A;simp only[qF];go_wp2;try simp only[Exit.inBlock,Exit.then]
  refine bodyPost_ret (J3 rfl rfl (uh I)) rfl ?_;exact uh d _ _ (uh G)
 ·rw[yj A];go_wp2_with fail;refine ((uh H).2 123 i _ (by decide)).mono ?_;rintro e N ⟨rfl,rfl⟩;by_cases f:bt s i=123
  ·rw[yi f];have J:i<s.size:=zQ (by omega);go_wp2_with fail;refine (uh r _ J f).mono ?_;intro e O g;obtain⟨t,n,B,b,F,rfl,m,a⟩:=g.form;have z:=(XC w).below m;obtain⟨r0,r1,r2,r3,r4⟩:=z.cells;obtain⟨U,V,X,Y,Z⟩:=z.fzs;have I:=zh (z.put t (n:Int) n rfl B b F);have G:=zh (J2 (zj (ZJ w _) m) (yd _) (.string t) (.int .i64 (n:Int)) (.bool B) (.bool b) (.bool F));have d:=zh a;clear g m z a o r p u v x y A f;simp only[qF];go_wp2;try simp only[Exit.inBlock,Exit.then]
   refine bodyPost_ret (J3 rfl rfl (uh I)) rfl ?_;exact uh d _ _ (uh G)
  ·rw[yj f];go_wp2_with fail;refine ((uh H).2 34 i _ (by decide)).mono ?_;rintro e N ⟨rfl,rfl⟩;by_cases C:bt s i=34
   ·rw[yi C];have D:=zh (FT C);go_wp2_with fail;refine (uh u _).mono ?_;intro e O M;obtain⟨t,n,B,T,rfl,m,a⟩:∃ (t:Bs) (n:Nat) (B:Bool),t.size<=1048576/\e= .returned (.tuple #[.string t,.int .i64 (n:Int),.bool B])/\Below (w.alloc (qf ⟨#[]⟩ 0 false false false)).heap.size (w.alloc (qf ⟨#[]⟩ 0 false false false)) O/\∀ W W',Bw W W'->GP W (val s i) (.returned (qF (zi (quoted t.data.toList)) n B false false)) W':=by
     obtain⟨m,Q⟩:=M
     cases hq:Zq s i with
     | none=>
      rw[hq]at Q;obtain⟨t,k,_,ht,rfl⟩:=Q;refine⟨t,k,false,by omega,rfl,m,fun W W' hW=>?_⟩;rw[uh D,hq];exact⟨hW,_,_,_,_,rfl⟩
     | some q=>
      rw[hq]at Q;obtain⟨l,k⟩:=q;have hql:=Ur hq;have hqo:=Js hq;refine⟨zi l,k,true,by rw[zS];omega,Q,m,fun W W' hW=>?_⟩;rw[uh D,hq,Zd];exact⟨hW,rfl⟩
    have HQ:=zh (WM t O T);have z:=(XC w).below m;have B2:=zj (ZJ w _) m;have d:=zh a;clear M m a o r p u v x y A f C;go_wp2_with fail;refine (uh HQ).mono ?_;rintro e w3 ⟨rfl,S⟩;have P:=z.below S;have B3:=zj B2 S;generalize zi (quoted t.data.toList)=qt at *;obtain⟨r0,r1,r2,r3,r4⟩:=P.cells;obtain⟨U,V,X,Y,Z⟩:=P.fzs;have I:=zh (P.put qt (n:Int) n rfl B false false);have G:=zh (J2 B3 (yd _) (.string qt) (.int .i64 (n:Int)) (.bool B) (.bool false) (.bool false));clear HQ z B2 P B3 S;go_wp2;try simp only[Exit.inBlock,Exit.then]
    refine bodyPost_ret (J3 rfl rfl (uh I)) rfl ?_;exact uh d _ _ (uh G)
   ·rw[yj C];have D:=zh (Y6 A f C);clear A f C;go_wp2_with fail;refine (uh v _).mono ?_;rintro e N ⟨rfl,rfl⟩
    cases hw:Ql s i with
    | true=>
     have L:=Wu hw;have HR:Hid (val s i=some (JV.nul,i+4)):=by show _=_;rw[uh D,yf hw]
     have R:Hid (s.extract i (i+4)=zi (ct JV.nul)):=by show _=_;rw[Wy,zap hw];rfl
     have i1:(i:Int)<=(i:Int)+4:=by omega
     have i2:(i:Int)+4<=(s.size:Int):=by omega
     have i3:(0:Int)<=(i:Int):=by omega
     clear o r p u v x y hw D;go_wp2;go_returns;rw[uh HR,uh R];exact⟨ZJ w _,rfl⟩
    | false=>
     have K:=hw;clear hw;go_wp2_with fail;refine (uh x _).mono ?_;rintro e N ⟨rfl,rfl⟩
     cases hw:Qw s i with
     | true=>
      have L:=Wv hw;have HR:Hid (val s i=some (JV.tt,i+4)):=by show _=_;rw[uh D,ye (by rw[K];simp),yf hw]
      have R:Hid (s.extract i (i+4)=zi (ct JV.tt)):=by show _=_;rw[Wy,zaq hw];rfl
      have i1:(i:Int)<=(i:Int)+4:=by omega
      have i2:(i:Int)+4<=(s.size:Int):=by omega
      have i3:(0:Int)<=(i:Int):=by omega
      clear o r p u v x y hw D K;go_wp2;go_returns;rw[uh HR,uh R];exact⟨ZJ w _,rfl⟩
     | false=>
      have E:=hw;clear hw;go_wp2_with fail;refine (uh y _).mono ?_;rintro e N ⟨rfl,rfl⟩
      cases hw:QP s i with
      | true=>
       have L:=Un hw;have HR:Hid (val s i=some (JV.ff,i+5)):=by show _=_;rw[uh D,ye (by rw[K];simp),ye (by rw[E];simp),yf hw]
       clear o r p u v x y hw D K E;go_wp2;go_returns;rw[uh HR];exact⟨ZJ w _,rfl⟩
      | false=>
       have HR:Hid (val s i=(nm s i).map fun q=>(JV.num q.1,q.2)):=by show _=_;rw[uh D,ye (by rw[K];simp),ye (by rw[E];simp),ye (by rw[hw];simp)]
       clear hw D K E;go_wp2_with fail;refine (uh p _).mono ?_;intro e O g;rw[← uh HR]at g;obtain⟨t,n,B,b,F,rfl,m,a⟩:=g.form;have z:=(XC w).below m;obtain⟨r0,r1,r2,r3,r4⟩:=z.cells;obtain⟨U,V,X,Y,Z⟩:=z.fzs;have I:=zh (z.put t (n:Int) n rfl B b F);have G:=zh (J2 (zj (ZJ w _) m) (yd _) (.string t) (.int .i64 (n:Int)) (.bool B) (.bool b) (.bool F));have d:=zh a;clear g m z a o r p u v x y;simp only[qF];go_wp2;try simp only[Exit.inBlock,Exit.then]
       refine bodyPost_ret (J3 rfl rfl (uh I)) rfl ?_;exact uh d _ _ (uh G)
theorem Me(s:Bs)(hs:s.size<=100000):∀ (n i:Nat) (w:Wo),s.size - i<=n->i<=s.size->Calls prog 26 #[.string s,.int .i64 i] w (GP w (val s i))
 | 0,i,w,hn,hi=>Md s i w hs hi fun j w' hj hj2=>by omega
 | n+1,i,w,hn,hi=>Md s i w hs hi fun j w' hj hj2=>Me s hs n j w' (by omega) hj2
def WS:Option JV->Sum Nat JV
 | none=>.inl 2
 | some v=>if zD v then .inl 3 else if zw v then .inl 4 else if 100<zE v∨3000<zo v then .inl 5 else .inr v
theorem zar{s:Bs}(h:¬ 20000<s.size):Zo s=WS (qu s):=by
 unfold Zo;rw[ye h]
 cases qu s<;>rfl
theorem Nd(s:Bs)(w:Wo)(hz:s.size<=1048576):
  Calls prog 7 #[.string s] w fun e w'=>e= .returned (ZY s)/\Bw w w':=by
 by_cases B:20000<s.size
 ·have P:(20000:Int)<(s.size:Int):=by omega
  have u:Hid (ZY s= .tuple #[.string ⟨#[]⟩,.int .i64 1]):=by show _=_;unfold ZY Zo;rw[yf B];rfl
  clear B;go_in;go_wp2;go_ret2;exact⟨by rw[uh u];rfl,yG _ _⟩
 ·have P:¬ (20000:Int)<(s.size:Int):=by omega
  have J:sk s 0<=s.size:=(Qu (yr _)).2;have k:Hid (∀ (i:Nat) (w:Wo),Calls prog 27 #[.string s,.int .i64 (i:Int)] w (Rk (.int .i64 ((sk s i:Nat):Int)) w)):=fun i w=>RJ s i w hz;have g:Hid (Calls prog 27 #[.string s,.int .i64 0] w (Rk (.int .i64 ((sk s 0:Nat):Int)) w)):=uh k 0 w;have f:=zh (Me s (by omega) s.size (sk s 0) w (by omega) J);have HR:Hid (Zo s=WS (qu s)):=zar B;have d:qu s=(val s (sk s 0)).bind fun q=>if sk s q.2=s.size then some q.1 else none:=rfl
  cases hv:val s (sk s 0)with
  | none=>
   rw[hv]at f d;have u:Hid (ZY s= .tuple #[.string ⟨#[]⟩,.int .i64 2]):=by show _=_;unfold ZY;rw[uh HR,d];rfl
   clear HR d hv B;go_in;go_wp2_with fail;refine (uh g).mono ?_;rintro e p ⟨rfl,rfl⟩;go_wp2_with fail;refine (uh f).mono ?_;rintro e p ⟨o,t,n,b,F,rfl⟩;have r:=o.alloc o.size (.cells #[.string t,.int .i64 (n:Int),.bool false,.bool b,.bool F] 51);clear g f k;simp only[qF];go_wp2;go_ret2;exact⟨by rw[uh u];rfl,r⟩
  | some q=>
   obtain⟨v,n⟩:=q;obtain⟨M,N⟩:=Yj hv;have x:=Sj hv;have y:=DI hv;have z:=KR hv;rw[hv]at f d;simp only[yz]at d;by_cases D:sk s n=s.size
   ·rw[yf D]at d;have O:((sk s n:Int) !=(s.size:Int))=false:=by rw[bne_eq_false_iff_eq];omega
    rw[d]at HR;have j:=zh (fun w=>uh k n w);have l:Hid (∀ w:Wo,Calls prog 28 #[.string (zi (ct v))] w (Rb (.bool (decide (zE v<=100/\zo v<=3000))) w)):=fun w=>DH v x w (by omega) (by omega)
    cases hb:zD v with
    | true=>
     have u:Hid (ZY s= .tuple #[.string ⟨#[]⟩,.int .i64 3]):=by show _=_;unfold ZY;rw[uh HR,WS,hb];rfl
     have a:Hid (Calls prog 26 #[.string s,.int .i64 ((sk s 0:Nat):Int)] w (Rb (qF (zi (ct v)) n true true (zw v)) w)):=(uh f).mono fun e w' h=>⟨by have:=h.2;simp only[Option.elim_some]at this;rw[hb]at this;exact this,h.1⟩;generalize zi (ct v)=A at *;generalize zw v=F at *;generalize sk s n=m at *;clear f HR d hv B D hb l k x y z;go_in;go_wp2_with fail;refine (uh g).mono ?_;rintro e p ⟨rfl,rfl⟩;go_wp2_with fail;refine (uh a).mono ?_;rintro e p ⟨rfl,o⟩;have r:=o.alloc o.size (.cells #[.string A,.int .i64 (n:Int),.bool true,.bool true,.bool F] 51);clear g a;simp only[qF];go_wp2_with fail;refine (uh j _).mono ?_;rintro e H ⟨rfl,rfl⟩;clear j;go_wp2;go_ret2;exact⟨by rw[uh u];rfl,r⟩
    | false=>
     cases ht:zw v with
     | true=>
      have u:Hid (ZY s= .tuple #[.string ⟨#[]⟩,.int .i64 4]):=by show _=_;unfold ZY;rw[uh HR,WS,hb,ht];rfl
      have a:Hid (Calls prog 26 #[.string s,.int .i64 ((sk s 0:Nat):Int)] w (Rb (qF (zi (ct v)) n true false true) w)):=(uh f).mono fun e w' h=>⟨by have:=h.2;simp only[Option.elim_some]at this;rw[hb,ht]at this;exact this,h.1⟩;generalize zi (ct v)=A at *;generalize sk s n=m at *;clear f HR d hv B D hb ht l k x y z;go_in;go_wp2_with fail;refine (uh g).mono ?_;rintro e p ⟨rfl,rfl⟩;go_wp2_with fail;refine (uh a).mono ?_;rintro e p ⟨rfl,o⟩;have r:=o.alloc o.size (.cells #[.string A,.int .i64 (n:Int),.bool true,.bool false,.bool true] 51);clear g a;simp only[qF];go_wp2_with fail;refine (uh j _).mono ?_;rintro e H ⟨rfl,rfl⟩;clear j;go_wp2;go_ret2;exact⟨by rw[uh u];rfl,r⟩
     | false=>
      have a:Hid (Calls prog 26 #[.string s,.int .i64 ((sk s 0:Nat):Int)] w (Rb (qF (zi (ct v)) n true false false) w)):=(uh f).mono fun e w' h=>⟨by have:=h.2;simp only[Option.elim_some]at this;rw[hb,ht]at this;exact this,h.1⟩;by_cases G:zE v<=100/\zo v<=3000
      ·have u:Hid (ZY s= .tuple #[.string (zi (ct v)),.int .i64 0]):=by show _=_;unfold ZY;rw[uh HR,WS,hb,ht,ye (by decide),ye (by decide),ye (by omega)]
       rw[yi G]at l;generalize zi (ct v)=A at *;generalize sk s n=m at *;clear f HR d hv B D hb ht k x y z G;go_in;go_wp2_with fail;refine (uh g).mono ?_;rintro e p ⟨rfl,rfl⟩;go_wp2_with fail;refine (uh a).mono ?_;rintro e p ⟨rfl,o⟩;have r:=zh (o.alloc o.size (.cells #[.string A,.int .i64 (n:Int),.bool true,.bool false,.bool false] 51));clear g a;simp only[qF];go_wp2_with fail;refine (uh j _).mono ?_;rintro e H ⟨rfl,rfl⟩;clear j;have K:zU p.heap.size A n true false false (p.alloc (.cells #[.string A,.int .i64 (n:Int),.bool true,.bool false,.bool false] 51)):=yF p _;have E:=zh K;clear K;go_wp2_with fail;refine (uh l _).mono ?_;rintro e Q ⟨rfl,C⟩;have c3:=((uh E).below C).c0;have I:=zj (uh r) C;clear l E C r;go_wp2;go_ret2;exact⟨by rw[uh u];rfl,I⟩
      ·have u:Hid (ZY s= .tuple #[.string ⟨#[]⟩,.int .i64 5]):=by show _=_;unfold ZY;rw[uh HR,WS,hb,ht,ye (by decide),ye (by decide),yf (by omega)];rfl
       rw[yj G]at l;generalize zi (ct v)=A at *;generalize sk s n=m at *;clear f HR d hv B D hb ht k x y z G;go_in;go_wp2_with fail;refine (uh g).mono ?_;rintro e p ⟨rfl,rfl⟩;go_wp2_with fail;refine (uh a).mono ?_;rintro e p ⟨rfl,o⟩;have r:=zh (o.alloc o.size (.cells #[.string A,.int .i64 (n:Int),.bool true,.bool false,.bool false] 51));clear g a;simp only[qF];go_wp2_with fail;refine (uh j _).mono ?_;rintro e H ⟨rfl,rfl⟩;clear j;go_wp2_with fail;refine (uh l _).mono ?_;rintro e Q ⟨rfl,C⟩;have I:=zj (uh r) C;clear l C r;go_wp2;go_ret2;exact⟨by rw[uh u];rfl,I⟩
   ·rw[ye D]at d;have O:((sk s n:Int) !=(s.size:Int))=true:=by rw[bne_iff_ne];omega
    have u:Hid (ZY s= .tuple #[.string ⟨#[]⟩,.int .i64 2]):=by show _=_;unfold ZY;rw[uh HR,d];rfl
    have j:=zh (fun w=>uh k n w);have a:Hid (Calls prog 26 #[.string s,.int .i64 ((sk s 0:Nat):Int)] w (Rb (qF (zi (ct v)) n true (zD v) (zw v)) w)):=(uh f).mono fun e w' h=>⟨h.2,h.1⟩;generalize zi (ct v)=A at *;generalize zw v=F at *;generalize zD v=L at *;generalize sk s n=m at *;clear f HR d hv B k x y z;go_in;go_wp2_with fail;refine (uh g).mono ?_;rintro e p ⟨rfl,rfl⟩;go_wp2_with fail;refine (uh a).mono ?_;rintro e p ⟨rfl,o⟩;have r:=o.alloc o.size (.cells #[.string A,.int .i64 (n:Int),.bool true,.bool L,.bool F] 51);clear g a;simp only[qF];go_wp2_with fail;refine (uh j _).mono ?_;rintro e H ⟨rfl,rfl⟩;clear j;go_wp2;go_ret2;exact⟨by rw[uh u];rfl,r⟩
end Go.Proofs.YtpaecnbdoljafaaGreatDoor
