import Derived.Test.YtpaecnbdoljafaaGreatDoorBz5
import Derived.Test.YtpaecnbdoljafaaGreatDoorBz3
set_option maxRecDepth 100000
set_option maxHeartbeats 8000000
namespace Go.Proofs.YtpaecnbdoljafaaGreatDoor
open Go.RowKit Go.Proofs.Tryz
theorem zgy(p:zL):zh (quoted p.1)++⟨#[58]⟩++zh p.2=zh (zz p):=by
 rw[show (⟨#[58]⟩:Bs)=zh [58]from rfl,Vs,Vs];simp[zz]
theorem zgz(ps:List zL)(j:Nat)(h:j<ps.length):joinC ((ps.take (j+1)).map zz)=joinC ((ps.take j).map zz)++(if j=0 then zz ps[j]else 44 :: zz ps[j]):=by
 rw[yz h,yx,List.map_singleton,Fl];by_cases a:j=0
 ·subst a;simp
 ·rw[yf (by simp;exact⟨a,by intro e;subst e;simp at h⟩),yf a]
theorem SQ(a b:List zL):sumT (a++b)=sumT a+sumT b:=by
 unfold sumT;rw[yx,List.sum_append]
theorem Ab(ps:List zL)(j:Nat):sumT (ps.take j)<=sumT ps:=by
 have h:=congrArg sumT (List.take_append_drop j ps);have e:=SQ (ps.take j) (ps.drop j);omega
theorem Ac(ps:List zL)(j:Nat):(joinC ((ps.take j).map zz)).length<=sumT ps:=by
 have h:=Fo ((ps.take j).map zz);have a:=Ab ps j;rw[List.map_map]at h;exact yQ h a
theorem zgA(ps:List zL)(j:Nat)(h:j<ps.length):(zz ps[j]).length+1<=sumT ps:=by
 have a:=Ab ps (j+1);rw[yz h]at a;have e:sumT (ps.take j++[ps[j]])=sumT (ps.take j)+((zz ps[j]).length+1):=by rw[SQ];simp[sumT]
 omega
theorem ON(B:Nat)(v:Value)(ps:List zL)(w:Wo)(h:PR w B v ps)(hn:sumT ps<=40000000)(hl:ps.length<=40000000)(hk:∀ p∈ps,p.1.length<=1048576):
  Calls prog 106 #[v] w fun e w'=>e= .returned (.string (zh (qb ps)))/\Bw w w':=by
 obtain⟨i0,hi0,hz0,hz1,hz2⟩:=info_parts Gf;obtain⟨x,len,cap,rfl,hlen⟩:∃ x len cap,v= .slice x len cap/\len=ps.length:=by
  rcases h.2 with ⟨hv,h0⟩ |⟨g,cap,cur,hv,_⟩
  ·exact⟨_,_,_,hv,h0.symm⟩
  ·exact⟨_,_,_,hv,rfl⟩
 subst hlen;have HP:=ze h;have HK:=ze hk;clear h hk;go_in;go_wp2_with fail;go_loopw [3,4] (fun r k wr=>∃ (j:Nat) (acc:List UInt8),k= .int .i64 (j:Int)/\j<=ps.length/\acc=123 :: joinC ((ps.take j).map zz)/\wr.ownsRow w.heap.size 5 1 r (Lib.byteCells acc).length (Lib.byteCells acc)/\Bw w wr) (fun _ k _=>ps.length - (intOf k).toNat)
 case atStart=>
  exact⟨0,[123],rfl,yu _,rfl,World.ownsRow_lit w #[.int .u8 123] 1 (ye _) (by unfold maxLen;omega) rfl,(yI _ _).alloc (ye _) _⟩
 case round=>
  obtain⟨j,acc,rfl,hj,hacc,hown,hb⟩:=hrel;have HA:=ze hacc;have HB:=ze hb;have hwsz:=hb.size;have hal:acc.length<=40000001:=by
   have:=Ac ps j;rw[hacc];simp only[yp];omega
  clear hacc hb;by_cases hin:j<ps.length
  ·have t1:((j:Int)<(ps.length:Int))=True:=eq_true (by omega);have i1:(0:Int)<=(j:Int):=by omega
   have i2:(j:Int)<(ps.length:Int):=by omega
   have hm:=zgA ps j hin;have hcat:=zgy ps[j];have HQ:Hid (∀ w,Calls prog 70 #[.string (zh ps[j].1)] w (Rb (.string (zh (quoted ps[j].1))) w)):=fun w=>by
    have:=SI (zh ps[j].1) w (by rw[zN];exact uh HK _ (yt _))
    rwa [Za]at this
   have HJ:=ze (zgz ps j hin);have z1:(zh (quoted ps[j].1)).size<=40000000:=by
    rw[zN];simp only[zz,yh,yp]at hm;omega
   have z2:(zh ps[j].2).size<=40000000:=by
    rw[zN];simp only[zz,yh,yp]at hm;omega
   have z3:(9223372036854775807<(zh (quoted ps[j].1)).size+1)=False:=yR (by omega);have z4:(9223372036854775807<(zh (quoted ps[j].1)).size+1+(zh ps[j].2).size)=False:=yR (by omega);by_cases hj0:j=0
   ·have t2:(0<j)=False:=yR (by omega);rw[yg hj0]at HJ;obtain⟨g,cap',he,hgB,hgl,c0,c1⟩:=(uh HP).cells j hin;injection he with he1 he2 he3;subst he1;subst he3;generalize ps[j]=p at *;clear hj0;have keepc:Hid (∀ X:Wo,Bw w X->X.cell? ⟨g,j*2,none⟩=some (.string (zh p.1))/\X.cell? ⟨g,j*2+1,none⟩=some (.string (zh p.2))):=fun X hX=>⟨(hX.cell hgl).trans c0,(hX.cell hgl).trans c1⟩;clear c0 c1;go_wp2_with fail;obtain⟨k00,k01⟩:=uh keepc _ ((uh HB).drew)
    go_region_law (first
      |(
        go_simp;refine (uh HQ _).mono ?_;rintro e w2 ⟨rfl,b2⟩;have B2:=zi ((uh HB).drew) b2;obtain⟨cap3,W3,hcv,hcell,b3,hk3,hs3⟩:=Wl w2 (zz p);have own3:=hk3 _ _ _ _ _ (Zd (w:=wr.drew) hown b2);have B3:=zi B2 b3;have HCELL:=ze hcell;have hw2:=B2.size;obtain⟨k0,k1⟩:=uh keepc _ B2;clear hcell hk3)
      |(
        refine Xp rfl (.tmp 17) (.tmp 31) 22 rfl w.heap.size 5 i0 (.int .u8 0) 1 1 underlying22 hi0 hz0 hz1 hz2 rfl (by decide) _ _ _ rfl (by exact own3) ⟨w2.heap.size,0,none⟩ (zz p).length cap3 (Lib.byteCells (zz p)) rfl (by rw[yL];omega) (by exact uh HCELL) (Yi _) (by rw[yL];unfold maxLen;omega) (by rw[yL];omega) (by omega) ?_;intro v4 w4 own4 hg4;have B4:Bw w w4:=B3.grown hg4 (by omega) (fun k hk=>(own3.lt k hk).1)))
    all_goals
     have own4':=ZY (m:=zz p) own4 rfl rfl;clear own4 hg4 own3 HCELL B3 B2 hcv b2 b3 hown keepc HB;go_wp2;go_roundw
    all_goals first
     | exact⟨j+1,acc++zz p,by go_num,by omega,by rw[uh HA,uh HJ];simp,own4',B4⟩
     |(simp[intOf];omega)
   ·have t2:(0<j)=True:=eq_true (by omega);rw[yf hj0]at HJ;obtain⟨g,cap',he,hgB,hgl,c0,c1⟩:=(uh HP).cells j hin;injection he with he1 he2 he3;subst he1;subst he3;generalize ps[j]=p at *;clear hj0;have keepc:Hid (∀ X:Wo,Bw w X->X.cell? ⟨g,j*2,none⟩=some (.string (zh p.1))/\X.cell? ⟨g,j*2+1,none⟩=some (.string (zh p.2))):=fun X hX=>⟨(hX.cell hgl).trans c0,(hX.cell hgl).trans c1⟩;clear c0 c1;go_wp2_with (at_builtin;refine wpList_append_own _ rfl (.tmp 14) (.tmp 15) 22 rfl w.heap.size 5 i0 (.int .u8 0) 1 1 underlying22 hi0 hz0 hz1 hz2 rfl (by decide) _ _ _ rfl (hown.alloc _) ⟨wr.heap.size,0,none⟩ 1 1 [.int .u8 44] rfl rfl (Qi _ _ _) (YH _ _) (by rw[yL];unfold maxLen;omega) (by rw[yL];omega) (by simp;omega) ?_;intro v1 w1 own1 hg1 _;have own1':=ZY (m:=[44]) own1 rfl rfl;have HB1:=ze (((uh HB).alloc hwsz _).grown hg1 (by simp;omega) (fun k hk=>(hown.lt k hk).1));have hw1:=(uh HB1).size;have hal1:(acc++[44]).length<=40000002:=by {simp;omega});clear own1 hg1 hown HB;obtain⟨k00,k01⟩:=uh keepc _ ((uh HB1).drew)
    go_region_law (first
      |(
        go_simp;refine (uh HQ _).mono ?_;rintro e w2 ⟨rfl,b2⟩;have B2:=zi ((uh HB1).drew) b2;obtain⟨cap3,W3,hcv,hcell,b3,hk3,hs3⟩:=Wl w2 (zz p);have own3:=hk3 _ _ _ _ _ (Zd (w:=w1.drew) own1' b2);have B3:=zi B2 b3;have HCELL:=ze hcell;have hw2:=B2.size;obtain⟨k0,k1⟩:=uh keepc _ B2;clear hcell hk3)
      |(
        refine Xp rfl (.tmp 17) (.tmp 31) 22 rfl w.heap.size 5 i0 (.int .u8 0) 1 1 underlying22 hi0 hz0 hz1 hz2 rfl (by decide) _ _ _ rfl (by exact own3) ⟨w2.heap.size,0,none⟩ (zz p).length cap3 (Lib.byteCells (zz p)) rfl (by rw[yL];omega) (by exact uh HCELL) (Yi _) (by rw[yL];unfold maxLen;omega) (by rw[yL];omega) (by omega) ?_;intro v4 w4 own4 hg4;have B4:Bw w w4:=B3.grown hg4 (by omega) (fun k hk=>(own3.lt k hk).1)))
    all_goals
     have own4':=ZY (m:=zz p) own4 rfl rfl;clear own4 hg4 own3 HCELL B3 B2 hcv b2 b3 own1' keepc HB1;go_wp2;go_roundw
    all_goals first
     | exact⟨j+1,(acc++[44])++zz p,by go_num,by omega,by rw[uh HA,uh HJ];simp,own4',B4⟩
     |(simp[intOf];omega)
  ·have t1:((j:Int)<(ps.length:Int))=False:=yR (by omega);have HE:Hid (acc++[125]=qb ps):=by
    show _=_
    rw[uh HA,yr (by omega)];simp[qb]
   go_wp2_with (at_builtin;refine wpList_append_own _ rfl (.tmp 33) (.tmp 34) 22 rfl w.heap.size 5 i0 (.int .u8 0) 1 1 underlying22 hi0 hz0 hz1 hz2 rfl (by decide) _ _ _ rfl (hown.alloc _) ⟨wr.heap.size,0,none⟩ 1 1 [.int .u8 125] rfl rfl (Qi _ _ _) (YH _ _) (by rw[yL];unfold maxLen;omega) (by rw[yL];omega) (by simp;omega) ?_;intro v1 w1 own1 hg1 _;have own1':=ZY (m:=[125]) own1 rfl rfl;have HB1:=ze (((uh HB).alloc hwsz _).grown hg1 (by simp;omega) (fun k hk=>(hown.lt k hk).1));have hcv:=Gg own1';clear own1 hg1 own1' hown HB);go_ret;exact⟨by rw[← uh HE];rfl,uh HB1⟩
def DP(B rb N:Nat)(w:Wo)(e:Ending)(w':Wo):Prop:=∃ t:List UInt8,t.length<=N/\e= .returned (.string (zh t))/\zR w' B rb/\w.grownBy w' (some rb)
theorem Xx(k:Nat)(w:Wo)(hk:k<=255):
  Calls prog 131 #[.int .i64 k] w fun e w'=>∃ t:List UInt8,t.length<=3/\e= .returned (.string (zh t))/\w=w':=Di k w hk
theorem zgB(k:Nat)(w:Wo)(hk:k<=255):
  Calls prog 206 #[.int .i64 k] w fun e w'=>∃ t:List UInt8,t.length<=8/\e= .returned (.string (zh t))/\w=w':=by
 by_cases a:k % 8<5
 ·have e:(k:Int) % 8<5:=by omega
  have f:(k:Int) / 8=((k / 8:Nat):Int):=by omega
  have b:=ze (Xx (k / 8) w (by omega));have d:k / 8<=255:=by omega
  generalize k / 8=y at *;clear a;go_in;go_wp2_with fail;refine (uh b).mono ?_;rintro e i ⟨t,g,rfl,rfl⟩;clear b;go_wp2;go_ret;exact⟨t,by omega,rfl,rfl⟩
 ·rcases (show k % 8=5∨k % 8=6∨k % 8=7 from by omega)with h | h | h
  ·have e:(k:Int) % 8=5:=by omega
   clear a h;go_in;go_wp2;go_ret;exact⟨[10,1,34,127],by decide,rfl,rfl⟩
  ·have e:(k:Int) % 8=6:=by omega
   clear a h;go_in;go_wp2;go_ret;exact⟨[240,159,152,128,226,130,172],by decide,rfl,rfl⟩
  ·have e:(k:Int) % 8=7:=by omega
   clear a h;go_in;go_wp2;go_ret;exact⟨[97,98],by decide,rfl,rfl⟩
theorem SR(k:Nat)(w:Wo)(hk:k<=255):
  Calls prog 175 #[.int .i64 k] w fun e w'=>∃ t:List UInt8,t.length<=50/\e= .returned (.string (zh t))/\Bw w w':=by
 by_cases h:k % 16=15
 ·have e:(k:Int) % 16=15:=by omega
  clear h;go_in;go_wp2;go_ret;exact⟨[34,92,117,100,56,51,100,92,117,68,69,48,48,92,47,92,117,48,48,52,49,34],by decide,rfl,yI _ _⟩
 ·by_cases d:k % 16=14
  ·have e:(k:Int) % 16=14:=by omega
   clear h d;go_in;go_wp2;go_ret;exact⟨[34,92,116,92,117,48,48,48,97,92,117,48,48,101,57,92,98,34],by decide,rfl,yI _ _⟩
  ·have i:((k:Int) % 16 ==15)=false:=by simp;omega
   have j:((k:Int) % 16 ==14)=false:=by simp;omega
   have b:=ze (zgB k w hk);clear h d;go_in;go_wp2_with fail;refine (uh b).mono ?_;rintro e m ⟨t,l,rfl,rfl⟩;have a:=ze (SI (zh t) w (by rw[zN];omega));rw[Za]at a;have g:=GC t;clear b;go_wp2_with fail;refine (uh a).mono ?_;rintro e n ⟨rfl,f⟩;generalize quoted t=u at *;clear a;go_wp2;go_ret;exact⟨u,by omega,rfl,f⟩
theorem QI{B rb N:Nat}{w w1 w2:Wo}{t:List UInt8}(hr:zR w1 B rb)(hg:w.grownBy w1 (some rb))(ht:t.length<=N)(hb:Bw w1 w2):DP B rb N w (.returned (.string (zh t))) w2:=
 ⟨t,ht,rfl,hr.grown (qI (r:=none) hb) (by simp) (fun _ e=>by cases e),ZD hg (qI hb)⟩
theorem OO(n:Nat)(h:n<=1000000000):(zM n).length<=10:=by
 have:∀ (k n:Nat),n<10 ^ (k+1)->(zM n).length<=k+1:=by
  intro k;induction k with
  | zero=>intro n a;rw[Jb (by omega)];simp
  | succ k ih=>
   intro n a;by_cases h:n<10
   ·rw[Jb h];simp
   ·rw[GD h,yh];have b:=ih (n / 10) (by rw[Nat.pow_succ]at a;omega);rw[Jb (n:=n % 10) (by omega)];simp;omega
 exact this 9 n (by omega)
theorem U4(B rb:Nat)(w:Wo)(h:zR w B rb):
  Calls prog 174 #[.pointer (some ⟨rb,0,none⟩)] w (DP B rb 20 w):=by
 have n:=ze (Jq B rb w h);clear h;go_in;go_wp2_with fail;refine (uh n).mono ?_;rintro e m ⟨x,hx,rfl,s,o⟩;have HR:=ze s;have d:=ze o;clear n s o;by_cases g:x=255
 ·subst g;go_wp2;go_ret;exact QI (t:=[57,50,50,51,51,55,50,48,51,54,56,53,52,55,55,53,56,48,55]) (uh HR) (uh d) (by decide) (yI _ _)
 ·by_cases i:x=254
  ·subst i;go_wp2;go_ret;exact QI (t:=[45,57,50,50,51,51,55,50,48,51,54,56,53,52,55,55,53,56,48,56]) (uh HR) (uh d) (by decide) (yI _ _)
  ·by_cases j:x=253
   ·subst j;go_wp2;go_ret;exact QI (t:=[45,48]) (uh HR) (uh d) (by decide) (yI _ _)
   ·have D:((x:Int) ==255)=false:=by simp;omega
    have E:((x:Int) ==254)=false:=by simp;omega
    have F:((x:Int) ==253)=false:=by simp;omega
    by_cases k:200<=x
    ·have z:(200:Int)<=(x:Int):=by omega
     have r:(x:Int)*1000003=((x*1000003:Nat):Int):=by omega
     have b:=ze (UI _ (x*1000003) m (ye _) (by omega));have l:=OO (x*1000003) (by omega);have q:x*1000003<=1000000000:=by omega
     generalize x*1000003=y at *;generalize zM y=u at *;clear g i j k;go_wp2_with fail;refine (uh b).mono ?_;rintro e v ⟨rfl,f⟩;clear b;go_wp2;go_ret;exact QI (uh HR) (uh d) (by omega) f
    ·have z:¬ (200:Int)<=(x:Int):=by omega
     by_cases p:x % 3=2
     ·have A:(x:Int) % 3=2:=by omega
      have r:1+(x:Int) / 3 % 9=((1+x / 3 % 9:Nat):Int):=by omega
      have b:=ze (UI _ (1+x / 3 % 9) m (ye _) (by omega));have l:=OO (1+x / 3 % 9) (by omega);have q:1+x / 3 % 9<=10:=by omega
      have a:∀ u:List UInt8,(⟨#[45]⟩:Bs)++zh u=zh (45 :: u):=fun u=>by rw[show (⟨#[45]⟩:Bs)=zh [45]from rfl,Vs];rfl
      have HC:=ze a;generalize 1+x / 3 % 9=y at *;have C:=a (zM y);have G:(zh (zM y)).size<=10:=by rw[zN];exact l
      generalize zM y=u at *;clear g i j k p a;go_wp2_with fail;refine (uh b).mono ?_;rintro e v ⟨rfl,f⟩;clear b;go_wp2;go_ret;exact QI (t:=45 :: u) (uh HR) (uh d) (by simp;omega) f
     ·have A:((x:Int) % 3 ==2)=false:=by simp;omega
      have r:(x:Int) / 3 % 12=((x / 3 % 12:Nat):Int):=by omega
      have b:=ze (UI _ (x / 3 % 12) m (ye _) (by omega));have l:=OO (x / 3 % 12) (by omega);have q:x / 3 % 12<=12:=by omega
      generalize x / 3 % 12=y at *;generalize zM y=u at *;clear g i j k p;go_wp2_with fail;refine (uh b).mono ?_;rintro e v ⟨rfl,f⟩;clear b;go_wp2;go_ret;exact QI (uh HR) (uh d) (by omega) f
theorem Ad(B rb:Nat)(w:Wo)(h:zR w B rb):
  Calls prog 83 #[.pointer (some ⟨rb,0,none⟩)] w fun e w'=>∃ x:Int,(-300<=x/\x<=1200)/\e= .returned (.int .i64 x)/\zR w' B rb/\w.grownBy w' (some rb):=by
 obtain⟨a,c,p,l,m,n,d,o,r,q,b,g⟩:=h;have c0:w.cell? ⟨rb,0,none⟩=some (.slice a l.length c):=by rw[yG d];rfl
 have c1:w.cell? ⟨rb,1,none⟩=some (.int .i64 p):=by rw[yG d];rfl
 have k:=ze d;have f:=ze b;have i: -300<=(l.length:Int) - (p:Int)/\(l.length:Int) - (p:Int)<=1200:=by omega
 have j:IntKind.i64.wrap ((l.length:Int) - (p:Int))=(l.length:Int) - (p:Int):=by rw[IntKind.wrap_i64];omega
 clear d b;go_in;go_wp2;go_quiet (fail);go_wp2;go_ret;exact⟨(l.length:Int) - p,i,rfl,⟨a,c,p,l,m,n,uh k,o,r,q,(uh f).grown (Gj w _ none) (fun _ e=>by cases e),g⟩,Gj w _ _⟩
def sumA(ps:List zL):Nat:=(ps.map (fun p=>p.2.length+1)).sum
theorem zgC(ps:List zL)(j:Nat)(h:j<ps.length):joinC ((ps.take (j+1)).map (·.2))=joinC ((ps.take j).map (·.2))++(if j=0 then ps[j].2 else 44 :: ps[j].2):=by
 rw[yz h,yx,List.map_singleton,Fl];by_cases a:j=0
 ·subst a;simp
 ·rw[yf (by simp;exact⟨a,by intro e;subst e;simp at h⟩),yf a]
theorem Ae(a b:List zL):sumA (a++b)=sumA a+sumA b:=by
 unfold sumA;rw[yx,List.sum_append]
theorem Af(ps:List zL)(j:Nat):sumA (ps.take j)<=sumA ps:=by
 have h:=congrArg sumA (List.take_append_drop j ps);have e:=Ae (ps.take j) (ps.drop j);omega
theorem Ah(ps:List zL)(j:Nat):(joinC ((ps.take j).map (·.2))).length<=sumA ps:=by
 have h:=Fo ((ps.take j).map (·.2));have a:=Af ps j;rw[List.map_map]at h;exact yQ h a
theorem zgD(ps:List zL)(j:Nat)(h:j<ps.length):ps[j].2.length+1<=sumA ps:=by
 have a:=Af ps (j+1);rw[yz h]at a;have e:sumA (ps.take j++[ps[j]])=sumA (ps.take j)+(ps[j].2.length+1):=by rw[Ae];simp[sumA]
 omega
theorem Ai(B:Nat)(v:Value)(ps:List zL)(w:Wo)(h:PR w B v ps)(hn:sumA ps<=40000000)(hl:ps.length<=40000000):
  Calls prog 57 #[v] w fun e w'=>e= .returned (.string (zh (ZT (ps.map (·.2)))))/\Bw w w':=by
 obtain⟨V,G,J,K,L⟩:=info_parts Gf;obtain⟨x,len,O,rfl,T⟩:∃ x len O,v= .slice x len O/\len=ps.length:=by
  rcases h.2 with ⟨hv,h0⟩ |⟨g,O,cur,hv,_⟩
  ·exact⟨_,_,_,hv,h0.symm⟩
  ·exact⟨_,_,_,hv,rfl⟩
 subst T;have HP:=ze h;clear h;go_in;go_wp2_with fail;go_loopw [3,4] (fun r k wr=>∃ (j:Nat) (l:List UInt8),k= .int .i64 (j:Int)/\j<=ps.length/\l=91 :: joinC ((ps.take j).map (·.2))/\wr.ownsRow w.heap.size 5 1 r (Lib.byteCells l).length (Lib.byteCells l)/\Bw w wr) (fun _ k _=>ps.length - (intOf k).toNat)
 case atStart=>
  exact⟨0,[91],rfl,yu _,rfl,World.ownsRow_lit w #[.int .u8 91] 1 (ye _) (by unfold maxLen;omega) rfl,(yI _ _).alloc (ye _) _⟩
 case round=>
  obtain⟨j,l,rfl,hj,y,a,hb⟩:=hrel;have Y:=ze y;have M:=ze hb;have D:=hb.size;have hal:l.length<=40000001:=by
   have:=Ah ps j;rw[y];simp only[yp];omega
  clear y hb;by_cases H:j<ps.length
  ·have t1:((j:Int)<(ps.length:Int))=True:=eq_true (by omega);have i1:(0:Int)<=(j:Int):=by omega
   have i2:(j:Int)<(ps.length:Int):=by omega
   have hm:=zgD ps j H;have U:=ze (zgC ps j H);by_cases I:j=0
   ·have t2:(0<j)=False:=yR (by omega);rw[yg I]at U;obtain⟨g,S,he,hgB,P,c0,c1⟩:=(uh HP).cells j H;injection he with he1 he2 he3;subst he1;subst he3;generalize ps[j]=p at *;clear I;have N:wr.cell? ⟨g,j*2+1,none⟩=some (.string (zh p.2)):=((uh M).cell P).trans c1;have Z:=c1;clear c0 c1;obtain⟨u,W3,F,d,R,C,hs3⟩:=Wl wr p.2;have i:=C _ _ _ _ _ a;have Q:=(uh M).trans (R.mono D);have b:=ze d;clear d C a;go_wp2_with (at_builtin;refine wpList_append_own _ rfl (.tmp 17) (.tmp 23) 22 rfl w.heap.size 5 V (.int .u8 0) 1 1 underlying22 G J K L rfl (by decide) _ _ _ rfl i ⟨wr.heap.size,0,none⟩ p.2.length u (Lib.byteCells p.2) rfl (by rw[yL];omega) (by exact uh b) (Yi _) (by rw[yL];unfold maxLen;omega) (by rw[yL];omega) (by omega) ?_;intro v4 w4 o A _;have W:Bw w w4:=Q.grown A (by omega) (fun k hk=>(i.lt k hk).1));have q:=ZY (m:=p.2) o rfl rfl;clear o A i b Q F R N Z M;go_wp2;go_roundw
    all_goals first
     | exact⟨j+1,l++p.2,by go_num,by omega,by rw[uh Y,uh U];simp,q,W⟩
     |(simp[intOf];omega)
   ·have t2:(0<j)=True:=eq_true (by omega);rw[yf I]at U;obtain⟨g,S,he,hgB,P,c0,c1⟩:=(uh HP).cells j H;injection he with he1 he2 he3;subst he1;subst he3;generalize ps[j]=p at *;clear I;have E:Hid (∀ X:Wo,Bw w X->X.cell? ⟨g,j*2+1,none⟩=some (.string (zh p.2))):=fun X hX=>(hX.cell P).trans c1;clear c0 c1;go_wp2_with (at_builtin;refine wpList_append_own _ rfl (.tmp 14) (.tmp 15) 22 rfl w.heap.size 5 V (.int .u8 0) 1 1 underlying22 G J K L rfl (by decide) _ _ _ rfl (a.alloc _) ⟨wr.heap.size,0,none⟩ 1 1 [.int .u8 44] rfl rfl (Qi _ _ _) (YH _ _) (by rw[yL];unfold maxLen;omega) (by rw[yL];omega) (by simp;omega) ?_);intro v1 w1 n z _;have f:=ZY (m:=[44]) n rfl rfl;have s:=ze (((uh M).alloc D _).grown z (by simp;omega) (fun k hk=>(a.lt k hk).1));have hw1:=(uh s).size;have hal1:(l++[44]).length<=40000002:=by simp;omega
    obtain⟨u,W3,F,d,R,C,hs3⟩:=Wl w1 p.2;have i:=C _ _ _ _ _ f;have Q:=(uh s).trans (R.mono hw1);have b:=ze d;have N:=uh E _ (uh s);clear n z a M f d C;go_wp2_with (at_builtin;refine wpList_append_own _ rfl (.tmp 17) (.tmp 23) 22 rfl w.heap.size 5 V (.int .u8 0) 1 1 underlying22 G J K L rfl (by decide) _ _ _ rfl i ⟨w1.heap.size,0,none⟩ p.2.length u (Lib.byteCells p.2) rfl (by rw[yL];omega) (by exact uh b) (Yi _) (by rw[yL];unfold maxLen;omega) (by rw[yL];omega) (by omega) ?_;intro v4 w4 o A _;have W:Bw w w4:=Q.grown A (by omega) (fun k hk=>(i.lt k hk).1));have q:=ZY (m:=p.2) o rfl rfl;clear o A i b Q F R N s E;go_wp2;go_roundw
    all_goals first
     | exact⟨j+1,(l++[44])++p.2,by go_num,by omega,by rw[uh Y,uh U];simp,q,W⟩
     |(simp[intOf];omega)
  ·have t1:((j:Int)<(ps.length:Int))=False:=yR (by omega);have HE:Hid (l++[93]=ZT (ps.map (·.2))):=by
    show _=_
    rw[uh Y,yr (by omega)];simp[ZT]
   go_wp2_with (at_builtin;refine wpList_append_own _ rfl (.tmp 25) (.tmp 26) 22 rfl w.heap.size 5 V (.int .u8 0) 1 1 underlying22 G J K L rfl (by decide) _ _ _ rfl (a.alloc _) ⟨wr.heap.size,0,none⟩ 1 1 [.int .u8 93] rfl rfl (Qi _ _ _) (YH _ _) (by rw[yL];unfold maxLen;omega) (by rw[yL];omega) (by simp;omega) ?_;intro v1 w1 n z _;have f:=ZY (m:=[93]) n rfl rfl;have s:=ze (((uh M).alloc D _).grown z (by simp;omega) (fun k hk=>(a.lt k hk).1));have F:=Gg f;clear n z f a M);go_ret;exact⟨by rw[← uh HE];rfl,uh s⟩
def GB:Nat->Nat
 | 0=>50
 | d+1=>98+4*GB d
theorem Jh:∀ d,50<=GB d
 | 0=>ye _
 | d+1=>by have:=Jh d;rw[GB];omega
theorem zgE:∀ d,d<=4->GB d<=21130:=by
 intro d a;rcases (show d=0∨d=1∨d=2∨d=3∨d=4 from by omega)with h | h | h | h | h<;>subst h<;>decide
structure GS(w:Wo)(B rb M:Nat)(v:Value)(ps:List zL)(wr:Wo):Prop where
 row:PR wr w.heap.size v ps
 key:∀ p∈ps,p.1.length<=3/\p.2.length<=M
 rd:zR wr B rb
 gr:w.grownBy wr (some rb)
theorem Xy{w:Wo}{B e size n:Nat}{v:Value}{xs:List Value}(h:w.ownsRow B e size v n xs):∃ a c,v= .slice a n c:=by
 rcases h.2 with ⟨b,i⟩ |⟨g,d,f,b,_⟩
 ·exact⟨_,_,by rw[b,i]⟩
 ·exact⟨_,_,b⟩
theorem GS.next{w wr w1:Wo}{B rb M:Nat}{v:Value}{ps:List zL}(h:GS w B rb M v ps wr)(hr:zR w1 B rb)(hg:wr.grownBy w1 (some rb))(hrb:rb<w.heap.size):GS w B rb M v ps w1:=
 ⟨XG h.row hg (fun k e=>by injection e with e;omega),h.key,hr,ZD h.gr hg⟩
theorem GS.step{w wr w7:Wo}{B rb M:Nat}{v v7:Value}{ps:List zL}(h:GS w B rb M v ps wr){t1 t2:List UInt8}(h1:t1.length<=3)(h2:t2.length<=M){o:Obj}(own:w7.ownsRow w.heap.size 97 2 v7 (ps.length+1) (ps.flatMap Zm++Zm (t1,t2)))(hg:(wr.alloc o).grownBy w7 v.ownBlock)(hrb:rb<w.heap.size):GS w B rb M v7 (ps++[(t1,t2)]) w7:=by
 have g:=h.gr.size;have d:=h.rd.lt;obtain⟨_,_,_,_,_,_,_,b,_⟩:=id h.rd;refine⟨?_,fun p a=>?_,(h.rd.grown (World.grownBy_alloc wr o none) (by simp) (fun k e=>by cases e)).grown hg (fun e=>?_) (fun k e=>?_),XF (ZD h.gr (World.grownBy_alloc wr o _)) hg (fun k e=>(World.ownsRow.lt h.row k e).1)⟩
 ·unfold PR;rw[yh,List.flatMap_append];simpa using own
 ·rcases List.mem_append.1 a with a | a
  ·exact h.key p a
  ·simp at a;subst a;exact⟨h1,h2⟩
 ·have f:=(World.ownsRow.lt h.row rb e.symm).1;omega
 ·have:=(World.ownsRow.lt h.row k e).1;omega
theorem GS.sumA{w wr:Wo}{B rb M:Nat}{v:Value}{ps:List zL}(h:GS w B rb M v ps wr):sumA ps<=ps.length*(M+1):=by
 have:∀ ps:List zL,(∀ p∈ps,p.1.length<=3/\p.2.length<=M)->Go.Proofs.YtpaecnbdoljafaaGreatDoor.sumA ps<=ps.length*(M+1):=by
  intro ps;induction ps with
  | nil=>intro _;simp[Go.Proofs.YtpaecnbdoljafaaGreatDoor.sumA]
  | cons p r ih=>
   intro a;have b:=ih (fun q hq=>a q (yw _ hq));have d:=(a p yq).2;unfold Go.Proofs.YtpaecnbdoljafaaGreatDoor.sumA at *;rw[yi,yM,yp,Nat.add_mul];omega
 exact this ps h.key
theorem GS.sumT{w wr:Wo}{B rb M:Nat}{v:Value}{ps:List zL}(h:GS w B rb M v ps wr):sumT ps<=ps.length*(M+22):=by
 have:∀ ps:List zL,(∀ p∈ps,p.1.length<=3/\p.2.length<=M)->Go.Proofs.YtpaecnbdoljafaaGreatDoor.sumT ps<=ps.length*(M+22):=by
  intro ps;induction ps with
  | nil=>intro _;simp[Go.Proofs.YtpaecnbdoljafaaGreatDoor.sumT]
  | cons p r ih=>
   intro a;have b:=ih (fun q hq=>a q (yw _ hq));have d:=a p yq;have f:=GC p.1;have g:=PY p;unfold Go.Proofs.YtpaecnbdoljafaaGreatDoor.sumT at *;rw[yi,yM,yp,Nat.add_mul];omega
 exact this ps h.key
theorem zgF{ps:List zL}:(ZT (ps.map (·.2))).length<=sumA ps+2:=by
 have h:=Ah ps ps.length;rw[List.take_length]at h;simp[ZT];omega
theorem Aj(ps:List zL):(qb ps).length<=sumT ps+2:=by
 have h:=Ac ps ps.length;rw[List.take_length]at h;simp[qb];omega
theorem ST:∀ (d:Nat) (dI:Int) (B rb:Nat) (w:Wo),dI=d->d<=4->zR w B rb->Calls prog 130 #[.pointer (some ⟨rb,0,none⟩),.int .i64 dI] w (DP B rb (GB d) w):=by
 intro d;induction d with
 | zero=>
  intro dI B rb w S _ h;obtain rfl:dI=0:=by omega
  have H:=ze (Jq B rb w h);clear h S;go_in;go_wp2_with fail;refine (uh H).mono ?_;rintro e m ⟨x,hx,rfl,r1,X⟩;have b:=ze r1;have a:=ze X;clear H r1 X;rcases (show x % 5=0∨x % 5=1∨x % 5=2∨x % 5=3∨x % 5=4 from by omega)with h | h | h | h | h
  ·have e:(x:Int) % 5=0:=by omega
   clear h;have f:=ze (U4 B rb m (uh b));go_wp2_with fail;refine (uh f).mono ?_;rintro e G ⟨t,J,rfl,r,q⟩;clear f;go_wp2;go_ret;exact⟨t,by have:=Jh 0;omega,rfl,r,ZD (uh a) q⟩
  ·have e:(x:Int) % 5=1:=by omega
   have S:(x:Int) / 10=((x / 10:Nat):Int):=by omega
   have f:=ze (SR (x / 10) m (by omega));have hb:x / 10<=255:=by omega
   generalize x / 10=z at *;clear h;go_wp2_with fail;refine (uh f).mono ?_;rintro e G ⟨t,J,rfl,W⟩;clear f;go_wp2;go_ret;exact QI (uh b) (uh a) (by have:=Jh 0;omega) W
  ·have e:(x:Int) % 5=2:=by omega
   clear h;go_wp2;go_ret;exact QI (t:=[116,114,117,101]) (uh b) (uh a) (by have:=Jh 0;simp;omega) (yI _ _)
  ·have e:(x:Int) % 5=3:=by omega
   clear h;go_wp2;go_ret;exact QI (t:=[110,117,108,108]) (uh b) (uh a) (by have:=Jh 0;simp;omega) (yI _ _)
  ·have e:(x:Int) % 5=4:=by omega
   by_cases I:x / 10 % 2=0
   ·have R:(x:Int) / 10 % 2=0:=by omega
    clear h I;have f:=ze (U4 B rb m (uh b));go_wp2_with fail;refine (uh f).mono ?_;rintro e G ⟨t,J,rfl,r,q⟩;clear f;go_wp2;go_ret;exact⟨t,by have:=Jh 0;omega,rfl,r,ZD (uh a) q⟩
   ·have R:((x:Int) / 10 % 2 ==0)=false:=by simp;omega
    clear h I;go_wp2;go_ret;exact QI (t:=[102,97,108,115,101]) (uh b) (uh a) (by have:=Jh 0;simp;omega) (yI _ _)
 | succ d ih=>
  intro dI B rb w S hd4 h;have hdp:¬ dI<=0:=by omega
  have hdq:dI<=4:=by omega
  have hdd:decide (dI<=0)=false:=by simp;omega
  have F:=h.lt;have H:=ze (Jq B rb w h);have K:Hid (∀ (B rb:Nat) (w:Wo),zR w B rb->Calls prog 130 #[.pointer (some ⟨rb,0,none⟩),.int .i64 (dI - 1)] w (DP B rb (GB d) w)):=fun B rb w hr=>ih (dI - 1) B rb w (by omega) (by omega) hr;have L:Hid (98+4*GB d<=GB (d+1)/\GB (d+1)<=21130):=⟨Nat.le_of_eq rfl,zgE (d+1) (by omega)⟩;have hM:GB d<=21130:=by have:=uh L;omega
  clear h ih;generalize hM0:GB d=M at *;obtain⟨n,Y⟩:∃ n,n=d+1:=⟨_,rfl⟩;rw[← Y]at L ⊢;clear S hd4 hM0 Y;go_in;go_wp2_with fail;refine (uh H).mono ?_;rintro e w1 ⟨x,hx,rfl,r1,X⟩;have HL:=ze (Ad B rb w1 r1);have U:=ze X;clear H r1 X;go_wp2_with fail;refine (uh HL).mono ?_;rintro e m ⟨y,hy,rfl,r2,g2⟩;have b:=ze r2;have a:=ze (ZD (uh U) g2);clear HL r2 g2 U hy;by_cases hy0:(y:Int)<=0
  ·clear K hM F;rcases (show x % 5=0∨x % 5=1∨x % 5=2∨x % 5=3∨x % 5=4 from by omega)with h | h | h | h | h
   ·have e:(x:Int) % 5=0:=by omega
    clear h;have f:=ze (U4 B rb m (uh b));go_wp2_with fail;refine (uh f).mono ?_;rintro e G ⟨t,J,rfl,r,q⟩;clear f;go_wp2;go_ret;exact⟨t,by have:=Jh n;omega,rfl,r,ZD (uh a) q⟩
   ·have e:(x:Int) % 5=1:=by omega
    have S:(x:Int) / 10=((x / 10:Nat):Int):=by omega
    have f:=ze (SR (x / 10) m (by omega));have hb:x / 10<=255:=by omega
    generalize x / 10=z at *;clear h;go_wp2_with fail;refine (uh f).mono ?_;rintro e G ⟨t,J,rfl,W⟩;clear f;go_wp2;go_ret;exact QI (uh b) (uh a) (by have:=Jh n;omega) W
   ·have e:(x:Int) % 5=2:=by omega
    clear h;go_wp2;go_ret;exact QI (t:=[116,114,117,101]) (uh b) (uh a) (by have:=Jh n;simp;omega) (yI _ _)
   ·have e:(x:Int) % 5=3:=by omega
    clear h;go_wp2;go_ret;exact QI (t:=[110,117,108,108]) (uh b) (uh a) (by have:=Jh n;simp;omega) (yI _ _)
   ·have e:(x:Int) % 5=4:=by omega
    by_cases I:x / 10 % 2=0
    ·have R:(x:Int) / 10 % 2=0:=by omega
     clear h I;have f:=ze (U4 B rb m (uh b));go_wp2_with fail;refine (uh f).mono ?_;rintro e G ⟨t,J,rfl,r,q⟩;clear f;go_wp2;go_ret;exact⟨t,by have:=Jh n;omega,rfl,r,ZD (uh a) q⟩
    ·have R:((x:Int) / 10 % 2 ==0)=false:=by simp;omega
     clear h I;go_wp2;go_ret;exact QI (t:=[102,97,108,115,101]) (uh b) (uh a) (by have:=Jh n;simp;omega) (yI _ _)
  ·have hyd:decide (y=0)=false:=by simp;omega
   have hye:decide ((y:Int)<=0)=false:=by simp;omega
   rcases (show x % 10=0∨x % 10=1∨x % 10=2∨x % 10=3∨x % 10=4∨5<=x % 10 from by omega)with h | h | h | h | h | h
   ·have e:(x:Int) % 10=0:=by omega
    clear h;have f:=ze (U4 B rb m (uh b));go_wp2_with fail;refine (uh f).mono ?_;rintro e G ⟨t,J,rfl,r,q⟩;clear f;go_wp2;go_ret;exact⟨t,by have:=Jh n;omega,rfl,r,ZD (uh a) q⟩
   ·have e:(x:Int) % 10=1:=by omega
    have S:(x:Int) / 10=((x / 10:Nat):Int):=by omega
    have f:=ze (SR (x / 10) m (by omega));have hb:x / 10<=255:=by omega
    generalize x / 10=z at *;clear h;go_wp2_with fail;refine (uh f).mono ?_;rintro e G ⟨t,J,rfl,W⟩;clear f;go_wp2;go_ret;exact QI (uh b) (uh a) (by have:=Jh n;omega) W
   ·have e:(x:Int) % 10=2:=by omega
    clear h;go_wp2;go_ret;exact QI (t:=[116,114,117,101]) (uh b) (uh a) (by have:=Jh n;simp;omega) (yI _ _)
   ·have e:(x:Int) % 10=3:=by omega
    clear h;go_wp2;go_ret;exact QI (t:=[110,117,108,108]) (uh b) (uh a) (by have:=Jh n;simp;omega) (yI _ _)
   ·have e:(x:Int) % 10=4:=by omega
    by_cases I:x / 10 % 2=0
    ·have R:(x:Int) / 10 % 2=0:=by omega
     clear h I;have f:=ze (U4 B rb m (uh b));go_wp2_with fail;refine (uh f).mono ?_;rintro e G ⟨t,J,rfl,r,q⟩;clear f;go_wp2;go_ret;exact⟨t,by have:=Jh n;omega,rfl,r,ZD (uh a) q⟩
    ·have R:((x:Int) / 10 % 2 ==0)=false:=by simp;omega
     clear h I;go_wp2;go_ret;exact QI (t:=[102,97,108,115,101]) (uh b) (uh a) (by have:=Jh n;simp;omega) (yI _ _)
   ·have e0:((x:Int) % 10 ==0)=false:=by simp;omega
    have e1:((x:Int) % 10 ==1)=false:=by simp;omega
    have R:((x:Int) % 10 ==2)=false:=by simp;omega
    have e3:((x:Int) % 10 ==3)=false:=by simp;omega
    have e4:((x:Int) % 10 ==4)=false:=by simp;omega
    have hnn:1+(x:Int) / 10 % 4=((1+x / 10 % 4:Nat):Int):=by omega
    have hn4:1+x / 10 % 4<=4:=by omega
    generalize 1+x / 10 % 4=nn at *;have hs2:=(uh a).size;have HO:Hid ((m.alloc (.cells #[] 97)).ownsRow w.heap.size 97 2 (.slice (some ⟨m.heap.size,0,none⟩) 0 0) 0 []):=World.ownsRow_lit m #[] 0 hs2 (by unfold maxLen;omega) rfl;have V:Hid (GS w B rb M (.slice (some ⟨m.heap.size,0,none⟩) 0 0) [] (m.alloc (.cells #[] 97))):=⟨uh HO,fun p hp=>by (cases hp),(uh b).grown (World.grownBy_alloc m _ none) (by simp) (fun k e=>by cases e),ZD (uh a) (World.grownBy_alloc m _ _)⟩;clear HO h;go_wp2_with fail;obtain⟨i0,Z,ah,ai,aj⟩:=info_parts WG;go_loopw [8,9] (fun v i wr=>∃ (j:Nat) (ps:List zL) (va:Option Addr) (vc:Nat),v= .slice va ps.length vc/\i= .int .i64 j/\j<=nn/\ps.length<=j/\GS w B rb M (.slice va ps.length vc) ps wr) (fun _ i _=>nn - (intOf i).toNat)
    case atStart=>exact⟨0,[],_,_,rfl,rfl,yu _,ye _,uh V⟩
    case round=>
     obtain⟨j,ps,va,vc,rfl,rfl,hj,hpl,N⟩:=hrel;have s:=ze N;have hws:=N.gr.size;clear N V b a;by_cases hlt:j<nn
     ·have ab:(j:Int)<(nn:Int):=by omega
      have H:=ze (Jq B rb wr (uh s).rd);go_wp2_with fail;refine (uh H).mono ?_;rintro e G ⟨y1,ag,rfl,r,q⟩;have ZL:=ze ((uh s).next r q F);have hw3:=(uh ZL).gr.size;clear H s r q;go_wp2_with fail;refine (Xx y1 G ag).mono ?_;rintro e w4 ⟨O,ad,rfl,rfl⟩;have HG:=ze (uh K B rb G (uh ZL).rd);go_wp2_with fail;refine (uh HG).mono ?_;rintro e w5 ⟨T,af,rfl,r5,g5⟩;have l:=ze ((uh ZL).next r5 g5 F);have hw5:=(uh l).gr.size;have C:Hid (∀ o:Obj,(w5.alloc o).ownsRow w.heap.size 97 2 (.slice va ps.length vc) ps.length (ps.flatMap Zm)):=fun o=>World.ownsRow.alloc (uh l).row o;clear HG ZL r5 g5 ag;by_cases h7:(x:Int) % 10<7
      ·have hkk:ps.length<=4:=by omega
       go_wp2_with (at_builtin;refine wpList_append_own _ rfl (.tmp 71) (.tmp 75) 94 rfl w.heap.size 97 i0 (.agg #[.string ByteArray.empty,.string ByteArray.empty]) 2 32 underlying94 Z ah ai aj rfl (by decide) _ _ _ rfl (uh C _) ⟨w5.heap.size,0,none⟩ 1 1 (Zm (O,T)) rfl rfl (Yt _ _ _ _) (fun u hu=>by {simp[Zm]at hu;rcases hu with rfl | rfl<;>rfl}) (by unfold maxLen;omega) (by omega) (by simp;omega) ?_);intro v7 w7 g D _;obtain⟨P,Q,rfl⟩:=Xy g;have E:ps.length+1=(ps++[(O,T)]).length:=by simp
       have A:=ze ((uh l).step ad af g D F);rw[E]at A;clear g D l C;go_wp2;go_roundw
       case rel=>exact⟨j+1,ps++[(O,T)],P,Q,by rw[E],by go_num,by omega,by simp;omega,uh A⟩
       case measure=>simp[intOf];omega
      ·have HF:=ze (PN w.heap.size _ ps O w5 (uh l).row (by omega));go_wp2_with fail;refine (uh HF).mono ?_;rintro e w6 ⟨z,rfl,hz,rfl⟩;clear HF hz;by_cases hzz:z<0
       ·have hkk:ps.length<=4:=by omega
        go_wp2_with (at_builtin;refine wpList_append_own _ rfl (.tmp 71) (.tmp 75) 94 rfl w.heap.size 97 i0 (.agg #[.string ByteArray.empty,.string ByteArray.empty]) 2 32 underlying94 Z ah ai aj rfl (by decide) _ _ _ rfl (uh C _) ⟨w5.heap.size,0,none⟩ 1 1 (Zm (O,T)) rfl rfl (Yt _ _ _ _) (fun u hu=>by {simp[Zm]at hu;rcases hu with rfl | rfl<;>rfl}) (by unfold maxLen;omega) (by omega) (by simp;omega) ?_);intro v7 w7 g D _;obtain⟨P,Q,rfl⟩:=Xy g;have E:ps.length+1=(ps++[(O,T)]).length:=by simp
        have A:=ze ((uh l).step ad af g D F);rw[E]at A;clear g D l C;go_wp2;go_roundw
        case rel=>exact⟨j+1,ps++[(O,T)],P,Q,by rw[E],by go_num,by omega,by simp;omega,uh A⟩
        case measure=>simp[intOf];omega
       ·clear C;go_wp2;go_roundw
        case rel=>exact⟨j+1,ps,va,vc,rfl,by go_num,by omega,by omega,uh l⟩
        case measure=>simp[intOf];omega
     ·have ab:¬ (j:Int)<(nn:Int):=by omega
      have aa:ps.length<=4:=by omega
      have hsA:=(uh s).sumA;have hsT:=(uh s).sumT;have hA4:ps.length*(M+1)<=4*(M+1):=Nat.mul_le_mul_right _ aa;have hT4:ps.length*(M+22)<=4*(M+22):=Nat.mul_le_mul_right _ aa;have hlA:=zgF (ps:=ps);have hlO:=Aj ps;have hle:=uh L;have HW:=ze (Ai w.heap.size _ ps wr (uh s).row (by omega) (by omega));have HV:=ze (ON w.heap.size _ ps wr (uh s).row (by omega) (by omega) (fun p hp=>by have:=((uh s).key p hp).1;omega));have HAL:Hid ((ZT (ps.map (·.2))).length<=GB n):=by show _<=_;omega
      have HOL:Hid ((qb ps).length<=GB n):=by show _<=_;omega
      generalize ZT (ps.map (·.2))=tA at *;generalize qb ps=tO at *;clear hsA hsT hA4 hT4 hlA hlO hle K;by_cases h7:(x:Int) % 10<7
      ·go_wp2_with fail;refine (uh HW).mono ?_;rintro e w6 ⟨rfl,b6⟩;clear HW HV;go_wp2;go_ret;exact QI (uh s).rd (uh s).gr (uh HAL) b6
      ·go_wp2_with fail;refine (uh HV).mono ?_;rintro e w6 ⟨rfl,b6⟩;clear HW HV;go_wp2;go_ret;exact QI (uh s).rd (uh s).gr (uh HOL) b6
theorem OP(l:List zL):l.length<=sumT l:=by
 induction l with
 | nil=>simp
 | cons p r ih=>simp[sumT]at *;omega
theorem zgG(acc:JM)(k:List UInt8):VY (zl acc) k=(Ql acc).contains k:=by unfold VY;rw[WA]
theorem PR.other{w:Wo}{B:Nat}{v:Value}{ps:List zL}(h:PR w B v ps){p:Addr}(hp:p.block<B)(u:Value):PR (w.setCell p u) B v ps:=by
 refine⟨h.1,?_⟩;rcases h.2 with d |⟨g,a,b,j,f,i,r⟩
 ·exact .inl d
 ·exact .inr ⟨g,a,b,j,f,(Below.heap_setCell w p u g (by omega)).trans i,r⟩
theorem zgH (s:Bs) (i:Nat) (w:Wo) (hs:s.size<=100000) (hi:i<s.size) (h123:bt s i=123)
  (IH:∀ (j:Nat) (w:Wo),i<j->j<=s.size->Calls prog 26 #[.string s,.int .i64 j] w (GP w (val s j))):
  Calls prog 68 #[.string s,.int .i64 i] w (GP w (val s i)):=by
 obtain⟨i0,hi0,hz0,hz1,hz2⟩:=info_parts WG;have o:=ze (PM s (by omega));have HSTR:Hid (∀ (j:Nat) w,j<=s.size+1->Calls prog 69 #[.string s,.int .i64 j] w (UN s w (Zz s j))):=fun j w hj=>UO s j w (by omega) hj;have g0:=z8 s (i+1);have g1:=(Q6 (s:=s) (i:=i+1) (by omega)).2;have HV:=ze (Fk h123);have HIH:=ze IH;clear IH;generalize hk0:sk s (i+1)=J at *;go_in;go_wp2_with fail;refine ((uh o).1 _ (i+1) _ (by omega)).mono ?_;rintro e w1 ⟨rfl,rfl⟩;rw[hk0];go_wp2_with fail;refine ((uh o).2 125 J _ (by decide)).mono ?_;rintro e w1 ⟨rfl,rfl⟩;clear hk0;by_cases g:bt s J=125
 ·rw[yj g];have HR:Hid (val s i=some (.obj .nil,J+1)):=by show _=_;rw[uh HV,yg g]
  clear g HV;go_wp2;go_returns;rw[uh HR];exact⟨((Z0 w _).trans ((yI _ _).alloc (by simp) _)).trans ((yI _ _).alloc (by simp;omega) _),rfl⟩
 ·rw[yk g];have HR:Hid (val s i=(QB s J).map fun q=>(.obj q.1,q.2)):=by show _=_;rw[uh HV,yf g]
  clear g HV h123;go_wp2_with fail;go_loopg [1,6] (s.size+1 - J) (fun gk k pr wr=>∃ (j:Nat) (f:JM),gk=s.size+1 - j/\k= .int .i64 (j:Int)/\J<=j/\j<=s.size/\Zf w.heap.size ⟨#[]⟩ 0 false false false wr/\Zf (w.heap.size+1) ⟨#[]⟩ 0 true (ZZ f) (ZW [] f) wr/\PR wr (w.heap.size+2) pr (zl f)/\Bw w wr/\sumT (zl f)<=31*j/\(∀ p∈zl f,p.1.length<=1048576)/\QB s J=(QB s j).map fun q=>(f.app q.1,q.2))
  case atStart=>
   refine⟨J,.nil,rfl,rfl,ye _,g1,?_,?_,?_,((Z0 w _).trans ((yI _ _).alloc (by simp) _)).trans ((yI _ _).alloc (by simp;omega) _),by simp[zl,sumT],by simp[zl],by simp[JM.app]⟩
   ·show (World.alloc _ _).heap[_]?=_
    rw[Lib.alloc_old _ _ _ (by simp;omega),Lib.alloc_old _ _ _ (by simp)];exact yH w _
   ·show (World.alloc _ _).heap[_]?=_
    rw[Lib.alloc_old _ _ _ (by simp)];have:=yH (w.alloc (qX ⟨#[]⟩ 0 false false false)) (qX ⟨#[]⟩ 0 true false false);rw[show (w.alloc (qX ⟨#[]⟩ 0 false false false)).heap.size=w.heap.size+1 from by simp]at this;exact this
   ·refine⟨rfl,.inr ⟨w.heap.size+2,0,#[],rfl,ye _,?_,ye _,by unfold maxLen;omega,rfl,rfl⟩⟩;have:=yH ((w.alloc (qX ⟨#[]⟩ 0 false false false)).alloc (qX ⟨#[]⟩ 0 true false false)) (.cells #[] 97);rw[show ((w.alloc (qX ⟨#[]⟩ 0 false false false)).alloc (qX ⟨#[]⟩ 0 true false false)).heap.size=w.heap.size+2 from by simp]at this;exact this
  case round=>
   obtain⟨j,f,hg,rfl,hj1,hj2,hr,I,hpr,hb,hsl,hkl,hst⟩:=hrel;have HST:=ze hst;have HG:=ze I;have O:=ze hr;have HP:=ze hpr;have HB:=ze hb;have HKL:=ze hkl;have hwsz:=hb.size;have hgl:=I.lt;clear hst I hr hb hpr hkl;have HC:=ze (uh HSTR j wr (by omega))
   cases hq:Zz s j with
   | none=>
    have HN:Hid (val s i=none):=by
     show _=_
     rw[uh HR,uh HST,KA,hq];rfl
    rw[hq]at HC;clear hq;go_wp2_with fail;refine (uh HC).mono ?_;rintro e w2 ⟨S,t,k,E,_,rfl⟩;have B:=(uh O).below S;have K:=zi (uh HB) S;clear HC O HB;go_wp2_with fail;refine ((uh o).1 _ k _ rfl).mono ?_;rintro e x ⟨rfl,rfl⟩;obtain⟨r0,r1,r2,r3,r4⟩:=B.cells;obtain⟨q0,q1,q2,q3,q4⟩:=B.fzs;have Q:=ze (B.put ⟨#[]⟩ 0 0 rfl false false false);have L:=ze (YO K (ye _) (.string ⟨#[]⟩) (.int .i64 0) (.bool false) (.bool false) (.bool false));clear B K;go_wp2;try simp only[Exit.inBlock,Exit.then]
    refine bodyPost_ret (YP rfl rfl (uh Q)) rfl ?_;exact GP.bad (uh HN) (uh L)
   | some q=>
    obtain⟨l,a⟩:=q;have hqo:=JX hq;have hql:=KC hq;have HM:Hid (QB s J=(if bt s (sk s a)=58 then (val s (sk s (sk s a+1))).bind fun q=>
      if bt s (sk s q.2)=125 then some (JM.cons l q.1 .nil,sk s q.2+1)
      else if bt s (sk s q.2)=44 then (QB s (sk s (sk s q.2+1))).map fun r=>(JM.cons l q.1 r.1,r.2)
      else none else none).map fun q=>(f.app q.1,q.2)):=by
     show _=_
     rw[uh HST,KA,hq];rfl
    rw[hq]at HC;have hn1:=z8 s a;have hn2:=(Q6 hqo.2).2;clear hq HST;go_wp2_with fail;refine (uh HC).mono ?_;rintro e w2 ⟨S,rfl⟩;have B:=(uh O).below S;have G2:=(uh HG).below S;have P2:=(uh HP).below S;have K:=zi (uh HB) S;have hw2:=S.size;clear HC O HB HG HP S;go_wp2_with fail;refine ((uh o).1 _ a _ rfl).mono ?_;rintro e x ⟨rfl,rfl⟩;generalize hsk:sk s a=ka at *;go_wp2_with fail;refine ((uh o).2 58 ka _ (by decide)).mono ?_;rintro e x ⟨rfl,rfl⟩;by_cases D:bt s ka=58
    ·rw[yj D];rw[yg D]at HM;have hka:ka<s.size:=Zb (by omega);have gs1:=z8 s (ka+1);have gs2:=(Q6 (s:=s) (i:=ka+1) (by omega)).2;clear D hsk;go_wp2_with fail;refine ((uh o).1 _ (ka+1) _ (by omega)).mono ?_;rintro e x ⟨rfl,rfl⟩;generalize sk s (ka+1)=kv at *;have HC:=ze (uh HIH kv w2 (by omega) (by omega))
     cases F:val s kv with
     | none=>
      have HN:Hid (val s i=none):=by
       show _=_
       rw[uh HR,uh HM,F];rfl
      rw[F]at HC;clear F;go_wp2_with fail;refine (uh HC).mono ?_;rintro e x ⟨H,t,n,bb,tw,rfl⟩;have R3:=(B.below H).alloc (qX t n false bb tw);have B3:Bw w (x.alloc (qX t n false bb tw)):=(zi K H).alloc (by have:=H.size;omega) _;obtain⟨r0,r1,r2,r3,r4⟩:=R3.cells;obtain⟨q0,q1,q2,q3,q4⟩:=R3.fzs;have Q:=ze (R3.put ⟨#[]⟩ 0 0 rfl false false false);have L:=ze (YO B3 (ye _) (.string ⟨#[]⟩) (.int .i64 0) (.bool false) (.bool false) (.bool false));clear HC B R3 K B3 G2 P2;simp only[Qm];go_wp2;try simp only[Exit.inBlock,Exit.then]
      refine bodyPost_ret (YP rfl rfl (uh Q)) rfl ?_;exact GP.bad (uh HN) (uh L)
     | some q=>
      obtain⟨v,n⟩:=q;have hvo:=Y3 F;have hvl:=Fp F;have A:Hid (QB s J=(if bt s (sk s n)=125 then some (JM.cons l v .nil,sk s n+1)else if bt s (sk s n)=44 then (QB s (sk s (sk s n+1))).map fun r=>(JM.cons l v r.1,r.2)else none).map fun q=>(f.app q.1,q.2)):=by
       show _=_
       rw[uh HM,F];rfl
      rw[F]at HC;have hsn1:=z8 s n;have hsn2:=(Q6 hvo.2).2;clear F HM;have HBB:Hid (ZZ (f.app (.cons l v .nil))=(ZZ f || zV v)):=by show _=_;rw[PH];simp[ZZ]
      have HTT:Hid (ZW [] (f.app (.cons l v .nil))=((ZW [] f || zw v) || VY (zl f) l)):=by
       show _=_
       rw[PJ,zgG];simp[ZW,Bool.or_assoc]
      have HCT:Hid (zl (f.app (.cons l v .nil))=zl f++[(l,ct v)]):=by show _=_;rw[Mk];simp[zl]
      go_wp2_with fail;refine (uh HC).mono ?_;rintro e x ⟨H,rfl⟩;simp only[Qm];have R4:=ze ((B.below H).alloc (qX (zh (ct v)) n true (zV v) (zw v)));have G4:=ze ((G2.below H).alloc (qX (zh (ct v)) n true (zV v) (zw v)));have P4:=ze ((P2.below H).below (Z0 x (qX (zh (ct v)) n true (zV v) (zw v))));have V4:Hid (Zf x.heap.size (zh (ct v)) n true (zV v) (zw v) (x.alloc (qX (zh (ct v)) n true (zV v) (zw v)))):=yH x _;have B4:Hid (Bw w (x.alloc (qX (zh (ct v)) n true (zV v) (zw v)))):=(zi K H).alloc (by have:=H.size;omega) _;have hw3:=H.size;have hgl2:=G2.lt;clear HC B G2 P2 K H;simp only[qX]at G4 V4 R4 B4 P4;generalize zV v=X at *;generalize zw v=V at *;generalize hbm:ZZ f=ba at *;generalize htm:ZW [] f=ta at *;generalize hfk:VY (zl f) l=fk at *;have vok:=(uh V4).c2;generalize hw4:x.alloc (.cells #[.string (zh (ct v)),.int .i64 (n:Int),.bool true,.bool X,.bool V] 51 (0,0))=w4 at *;have hvg:x.heap.size≠w.heap.size+1:=by omega
      go_upto_region 13 with fail;go_cut []from 23 to 102 (fun wx=>wx=w4.setCell ⟨w.heap.size+1,3,none⟩ (.bool (ba || X)))
      case first=>
       have g3:=(uh G4).c3;have v3:=(uh V4).c3;have f3:=(uh G4).fz 3
       cases ba
       ·go_wp2;go_meet
        case rel=>rfl
       ·go_wp2;go_meet
        case rel=>rfl
      case rest=>
       have G5:Hid (Zf (w.heap.size+1) ⟨#[]⟩ 0 true (ba || X) ta wc):=hcut ▸ (uh G4).set3 (ba || X);have R5:Hid (Zf w.heap.size ⟨#[]⟩ 0 false false false wc):=hcut ▸ (uh R4).other (p:=⟨w.heap.size+1,3,none⟩) (by show _≠w.heap.size+1;omega) _;have V5:Hid (Zf x.heap.size (zh (ct v)) n true X V wc):=hcut ▸ (uh V4).other (p:=⟨w.heap.size+1,3,none⟩) hvg _;have P5:Hid (PR wc (w.heap.size+2) u6 (zl f)):=hcut ▸ (uh P4).other (p:=⟨w.heap.size+1,3,none⟩) (by show w.heap.size+1<_;omega) _;have B5:Hid (Bw w wc):=hcut ▸ (uh B4).setCell (p:=⟨w.heap.size+1,3,none⟩) (by show _<=w.heap.size+1;omega) _;clear hcut G4 R4 V4 P4 B4 vok hw4;generalize (ba || X)=bb at *;have HFI:Hid (Calls prog 115 #[u6,.string (zh l)] wc fun e w'=>∃ z:Int,e= .returned (.int .i64 z)/\decide ((0:Int)<=z)=fk/\wc=w'):=by
        have h:=PN (w.heap.size+2) u6 (zl f) l wc (uh P5) (by have:=OP (zl f);omega);rw[hfk]at h;exact h
       go_upto_region 14 with fail;go_cut []from 23 to 102 (fun wx=>wx=wc.setCell ⟨w.heap.size+1,4,none⟩ (.bool ((ta || V) || fk)))
       case first=>
        have g3:=(uh G5).c4;have v3:=(uh V5).c4;have f3:=(uh G5).fz 4
        cases ta
        ·cases V
         ·go_wp2_with fail;refine (uh HFI).mono ?_;rintro e w6 ⟨z,rfl,hz,rfl⟩;go_wp2;go_meet
          case rel=>rw[← hz];simp
         ·go_wp2;go_meet
          case rel=>rfl
        ·go_wp2;go_meet
         case rel=>rfl
       case rest=>
        have G6:Hid (Zf (w.heap.size+1) ⟨#[]⟩ 0 true bb ((ta || V) || fk) wc):=hcut ▸ (uh G5).set4 ((ta || V) || fk);have W:Hid (Zf w.heap.size ⟨#[]⟩ 0 false false false wc):=hcut ▸ (uh R5).other (p:=⟨w.heap.size+1,4,none⟩) (by show _≠w.heap.size+1;omega) _;have V6:Hid (Zf x.heap.size (zh (ct v)) n true X V wc):=hcut ▸ (uh V5).other (p:=⟨w.heap.size+1,4,none⟩) hvg _;have P6:Hid (PR wc (w.heap.size+2) u6 (zl f)):=hcut ▸ (uh P5).other (p:=⟨w.heap.size+1,4,none⟩) (by show w.heap.size+1<_;omega) _;have B6:Hid (Bw w wc):=hcut ▸ (uh B5).setCell (p:=⟨w.heap.size+1,4,none⟩) (by show _<=w.heap.size+1;omega) _;clear hcut G5 R5 V5 P5 B5 HFI hfk;generalize ((ta || V) || fk)=tt at *;have v0:=(uh V6).c0;have hw6:=(uh V6).lt;have y:wc.ownsRow (w.heap.size+2) 97 2 u6 (zl f).length ((zl f).flatMap Zm):=uh P6;have hcl:=OP (zl f);have Z:∀ k,u6.ownBlock=some k->w.heap.size+2<=k/\k≠x.heap.size:=fun k E=>by
         refine⟨(y.lt k E).1,fun e=>?_⟩;subst e;rcases y.2 with ⟨F,_⟩ |⟨gg,cap,cur,F,_,T,_⟩
         ·rw[F]at E;cases E
         ·rw[F]at E;injection E with E;rw[show gg=x.heap.size from E,uh V6]at T;injection T with T;injection T with _ h2;exact absurd h2 (by decide)
        have G:=ze Z;clear Z;go_wp2_with (at_builtin;refine wpList_append_own _ rfl (.tmp 72) (.tmp 77) 94 rfl (w.heap.size+2) 97 i0 (.agg #[.string ByteArray.empty,.string ByteArray.empty]) 2 32 underlying94 hi0 hz0 hz1 hz2 rfl (by decide) _ _ _ rfl (y.alloc _) ⟨wc.heap.size,0,none⟩ 1 1 (Zm (l,ct v)) rfl rfl (Yt _ _ _ _) (fun u hu=>by {simp[Zm]at hu;rcases hu with rfl | rfl<;>rfl}) (by unfold maxLen;omega) (by omega) (by simp;omega) ?_;intro v7 w7 aa hg7 _;have hg8:(wc.alloc (.cells #[.string (zh l),.string (zh (ct v))] 97)).grownBy w7 u6.ownBlock:=hg7;have keep:∀ k,k<wc.heap.size->some k≠u6.ownBlock->w7.heap[k]?=wc.heap[k]?:=(fun k E hn=>(hg8.block k (by simp;omega) hn).trans (Lib.alloc_old wc _ k E));have G7:Hid (Zf (w.heap.size+1) ⟨#[]⟩ 0 true bb tt w7):=(keep _ (uh G6).lt (fun e=>by have:=(uh G _ e.symm).1;omega)).trans (uh G6);have R7:Hid (Zf w.heap.size ⟨#[]⟩ 0 false false false w7):=(keep _ (uh W).lt (fun e=>by have:=(uh G _ e.symm).1;omega)).trans (uh W);have V7:Hid (Zf x.heap.size (zh (ct v)) n true X V w7):=(keep _ (uh V6).lt (fun e=>(uh G _ e.symm).2 rfl)).trans (uh V6);have P7:Hid (PR w7 (w.heap.size+2) v7 (zl f++[(l,ct v)])):=(by show PR w7 (w.heap.size+2) v7 (zl f++[(l,ct v)]);unfold PR;rw[yh,List.flatMap_append];simpa using aa);have B7:Hid (Bw w w7):=((uh B6).alloc (by omega) _).grown hg8 (by simp;omega) (fun k E=>by have:=(uh G k E).1;omega);have v71:=(uh V7).c1;clear aa hg7 hg8 keep y G6 W V6 P6 B6 G v0);refine ((uh o).1 _ n _ rfl).mono ?_;rintro e w8 ⟨rfl,rfl⟩;clear v71 V7;rw[← uh HCT]at P7;have hsl2:sumT (zl (f.app (.cons l v .nil)))<=31*sk s n:=by
         rw[uh HCT,SQ];have e2:sumT [(l,ct v)]=(quoted l).length+1+(ct v).length+1:=by simp[sumT,zz];omega
         have:=GC l;omega
        have Y:Hid (∀ p∈zl (f.app (.cons l v .nil)),p.1.length<=1048576):=fun p U=>by
         rw[uh HCT]at U;rcases List.mem_append.1 U with U | U
         ·exact uh HKL p U
         ·simp at U;subst U;show l.length<=_;omega
        generalize sk s n=k at *;generalize hA2:f.app (.cons l v .nil)=m at *;go_wp2_with fail;refine ((uh o).2 125 k _ (by decide)).mono ?_;rintro e w8 ⟨rfl,rfl⟩;by_cases g:bt s k=125
        ·rw[yj g];have HVV:Hid (val s i=some (.obj m,k+1)):=by
          show _=_
          rw[uh HR,uh A,yg g,← hA2];rfl
         have HSO:=ze (MS _ _ _ _ (uh P7) (by have:=OP (zl m);omega));clear g A;go_wp2_with fail;refine (uh HSO).mono ?_;rintro e w9 ⟨v9,rfl,p9,b9⟩;have HMK:=ze (ON _ _ _ _ p9 (by rw[KE];omega) (by have:=OP (zJ (zl m));rw[KE]at this;omega) (fun p U=>by
          have:p∈zl m:=by
           have hm:=qw (zl m);exact hm.mem_iff.1 U
          exact uh Y p this))
         have G9:=(uh G7).below b9;have R9:=(uh R7).below b9;have B9:=zi (uh B7) b9;clear HSO p9 b9 G7 R7 B7 P7;go_wp2_with fail;refine (uh HMK).mono ?_;rintro e w10 ⟨rfl,R⟩;have M:=G9.below R;have R10:=R9.below R;have B10:=zi B9 R;clear G9 R9 B9 R HMK;have HSF:Hid (zh (ct (.obj m))=zh (qb (zJ (zl m)))):=by show _=_;rw[ct]
         generalize zh (qb (zJ (zl m)))=sf at *;have c0:=M.c0;have f0:=M.fz 0;have N:=M.set0 sf;have c71:=N.c1;have f71:=N.fz 1;have G12:=N.set1 ((k:Int)+1) (k+1) (by omega);have P:=(R10.other (p:=⟨w.heap.size+1,0,none⟩) (by show _≠w.heap.size+1;omega) (.string sf)).other (p:=⟨w.heap.size+1,1,none⟩) (by show _≠w.heap.size+1;omega) (.int .i64 ((k:Int)+1));have B12:=(B10.setCell (p:=⟨w.heap.size+1,0,none⟩) (by show _<=w.heap.size+1;omega) (.string sf)).setCell (p:=⟨w.heap.size+1,1,none⟩) (by show _<=w.heap.size+1;omega) (.int .i64 ((k:Int)+1));obtain⟨a0,a1',a2,a3,a4⟩:=G12.cells;have a1:=a1'.trans (show _=some (Value.int .i64 ((k:Int)+1)) by rw[show ((k+1:Nat):Int)=(k:Int)+1 from by omega]);obtain⟨r0,r1,r2,r3,r4⟩:=P.cells;obtain⟨q0,q1,q2,q3,q4⟩:=P.fzs;have Q:=ze (P.copyTo G12 ((k:Int)+1) (by omega));have L:=ze (fun a b c d e=>YO B12 (ye _) a b c d e);clear a1' M N G12 R10 P B10 B12 HR;go_wp2;try simp only[Exit.inBlock,Exit.then]
         refine bodyPost_ret (YP rfl rfl (uh Q)) rfl ?_;rw[uh HVV];refine⟨uh L _ _ _ _ _,?_⟩;show _=Ending.returned (Qm (zh (ct (.obj m))) (k+1) true (ZZ m) (ZW [] m))
         rw[uh HSF,uh HBB,uh HTT]
        ·rw[yk g];go_wp2_with fail;refine ((uh o).2 44 k _ (by decide)).mono ?_;rintro e w8 ⟨rfl,rfl⟩;by_cases C:bt s k=44
         ·rw[yj C];have hkl:k<s.size:=Zb (by omega);have HST2:Hid (QB s J=(QB s (sk s (k+1))).map fun q=>(m.app q.1,q.2)):=by
           show _=_
           rw[uh A,yf g,yg C,Option.map_map,← hA2];congr 1;funext q;simp[JM.app_assoc,JM.app]
          have hs1:=z8 s (k+1);have hs2:=(Q6 (s:=s) (i:=k+1) (by omega)).2;clear A g C;go_wp2_with fail;refine ((uh o).1 _ (k+1) _ (by omega)).mono ?_;rintro e w9 ⟨rfl,rfl⟩;go_wp2;go_roundg (s.size+1 - sk s (k+1))
          case rel=>exact⟨sk s (k+1),m,rfl,rfl,by omega,hs2,uh R7,by rw[uh HBB,uh HTT];exact uh G7,uh P7,uh B7,by omega,uh Y,uh HST2⟩
          case measure=>omega
         ·rw[yk C];have HN:Hid (val s i=none):=by
           show _=_
           rw[uh HR,uh A,yf g,yf C];rfl
          have W:=uh R7;obtain⟨r0,r1,r2,r3,r4⟩:=W.cells;obtain⟨q0,q1,q2,q3,q4⟩:=W.fzs;have Q:=ze (W.put ⟨#[]⟩ 0 0 rfl false false false);have L:=ze (YO (uh B7) (ye _) (.string ⟨#[]⟩) (.int .i64 0) (.bool false) (.bool false) (.bool false));clear W G7 R7 B7 P7 A g C;go_wp2;try simp only[Exit.inBlock,Exit.then]
          refine bodyPost_ret (YP rfl rfl (uh Q)) rfl ?_;exact GP.bad (uh HN) (uh L)
    ·rw[yk D];have HN:Hid (val s i=none):=by
      show _=_
      rw[uh HR,uh HM,yf D];rfl
     obtain⟨r0,r1,r2,r3,r4⟩:=B.cells;obtain⟨q0,q1,q2,q3,q4⟩:=B.fzs;have Q:=ze (B.put ⟨#[]⟩ 0 0 rfl false false false);have L:=ze (YO K (ye _) (.string ⟨#[]⟩) (.int .i64 0) (.bool false) (.bool false) (.bool false));clear B K G2 P2 D;go_wp2;try simp only[Exit.inBlock,Exit.then]
     refine bodyPost_ret (YP rfl rfl (uh Q)) rfl ?_;exact GP.bad (uh HN) (uh L)
theorem Ak{s:Bs}{i:Nat}(h:i+4<=s.size):Zh s i (i+4)=[s.data.toList.getD i 0,s.data.toList.getD (i+1) 0,s.data.toList.getD (i+2) 0,s.data.toList.getD (i+3) 0]:=by
 have e:∀ k,i+k<s.size->s.data.toList.drop (i+k)=s.data.toList.getD (i+k) 0 :: s.data.toList.drop (i+k+1):=fun k hk=>by
  rw[Qw s (i+k) hk,List.getD_eq_getElem?_getD,Nl s (i+k) hk];rfl
 unfold Zh;rw[show i+4 - i=4 by omega];have a:=e 0 (by omega);rw[Nat.add_zero]at a;rw[a,e 1 (by omega),e 2 (by omega),e 3 (by omega)];rfl
theorem zgI{s:Bs}{i:Nat}(h:i+5<=s.size):Zh s i (i+5)=[s.data.toList.getD i 0,s.data.toList.getD (i+1) 0,s.data.toList.getD (i+2) 0,s.data.toList.getD (i+3) 0,s.data.toList.getD (i+4) 0]:=by
 have e:∀ k,i+k<s.size->s.data.toList.drop (i+k)=s.data.toList.getD (i+k) 0 :: s.data.toList.drop (i+k+1):=fun k hk=>by
  rw[Qw s (i+k) hk,List.getD_eq_getElem?_getD,Nl s (i+k) hk];rfl
 unfold Zh;rw[show i+5 - i=5 by omega];have a:=e 0 (by omega);rw[Nat.add_zero]at a;rw[a,e 1 (by omega),e 2 (by omega),e 3 (by omega),e 4 (by omega)];rfl
theorem YE(a:UInt8)(n:Nat)(h:n<256):(a=UInt8.ofNat n)↔a.toNat=n:=by
 constructor
 ·rintro rfl;rw[UInt8.toNat_ofNat'];omega
 ·intro e;apply UInt8.toNat_inj.1;rw[UInt8.toNat_ofNat'];omega
theorem Al(s:Bs)(i:Nat):(decide (i+4<=s.size) && (s.extract i (i+4)).toList ==[110,117,108,108])=QX s i:=by
 by_cases h:i+4<=s.size
 ·rw[yj h,Bool.true_and,WB,Ak h];unfold QX bt;rw[Bool.eq_iff_iff];simp only[yD,Bool.and_eq_true,List.cons.injEq,and_true];rw[show (110:UInt8)=UInt8.ofNat 110 from rfl,show (117:UInt8)=UInt8.ofNat 117 from rfl,show (108:UInt8)=UInt8.ofNat 108 from rfl,YE _ _ (by decide),YE _ _ (by decide),YE _ _ (by decide),YE _ _ (by decide)];simp only[and_assoc]
 ·rw[yk h,Bool.false_and];by_cases a:QX s i=true
  ·exact absurd (UD a) h
  ·simpa using a
theorem Am(s:Bs)(i:Nat):(decide (i+4<=s.size) && (s.extract i (i+4)).toList ==[116,114,117,101])=Ja s i:=by
 by_cases h:i+4<=s.size
 ·rw[yj h,Bool.true_and,WB,Ak h];unfold Ja bt;rw[Bool.eq_iff_iff];simp only[yD,Bool.and_eq_true,List.cons.injEq,and_true];rw[show (116:UInt8)=UInt8.ofNat 116 from rfl,show (114:UInt8)=UInt8.ofNat 114 from rfl,show (117:UInt8)=UInt8.ofNat 117 from rfl,show (101:UInt8)=UInt8.ofNat 101 from rfl,YE _ _ (by decide),YE _ _ (by decide),YE _ _ (by decide),YE _ _ (by decide)];simp only[and_assoc]
 ·rw[yk h,Bool.false_and];by_cases a:Ja s i=true
  ·exact absurd (UE a) h
  ·simpa using a
theorem zgJ(s:Bs)(i:Nat):(decide (i+5<=s.size) && (s.extract i (i+5)).toList ==[102,97,108,115,101])=Ju s i:=by
 by_cases h:i+5<=s.size
 ·rw[yj h,Bool.true_and,WB,zgI h];unfold Ju bt;rw[Bool.eq_iff_iff];simp only[yD,Bool.and_eq_true,List.cons.injEq,and_true];rw[show (102:UInt8)=UInt8.ofNat 102 from rfl,show (97:UInt8)=UInt8.ofNat 97 from rfl,show (108:UInt8)=UInt8.ofNat 108 from rfl,show (115:UInt8)=UInt8.ofNat 115 from rfl,show (101:UInt8)=UInt8.ofNat 101 from rfl,YE _ _ (by decide),YE _ _ (by decide),YE _ _ (by decide),YE _ _ (by decide),YE _ _ (by decide)];simp only[and_assoc]
 ·rw[yk h,Bool.false_and];by_cases a:Ju s i=true
  ·exact absurd (Kz a) h
  ·simpa using a
theorem zgK{s:Bs}{i:Nat}(h:QX s i=true):Zh s i (i+4)=[110,117,108,108]:=by
 have a:=Al s i;rw[h,yj (UD h),Bool.true_and,yD,WB]at a;exact a
theorem zgL{s:Bs}{i:Nat}(h:Ja s i=true):Zh s i (i+4)=[116,114,117,101]:=by
 have a:=Am s i;rw[h,yj (UE h),Bool.true_and,yD,WB]at a;exact a
theorem GP.form{w0 w2:Wo}{o:Option (JV×Nat)}{e:Ending}(h:GP w0 o e w2):∃ t n ok b tw,e= .returned (Qm t n ok b tw)/\Bw w0 w2/\∀ W W',Bw W W'->GP W o (.returned (Qm t n ok b tw)) W':=by
 obtain⟨a,h⟩:=h
 cases o with
 | none=>
  obtain⟨t,n,b,tw,rfl⟩:=h;exact⟨t,n,false,b,tw,rfl,a,fun W W' hW=>⟨hW,t,n,b,tw,rfl⟩⟩
 | some q=>
  exact⟨_,_,_,_,_,h,a,fun W W' hW=>⟨hW,rfl⟩⟩
theorem OQ(w:Wo):Zf w.heap.size ⟨#[]⟩ 0 false false false (w.alloc (qX ⟨#[]⟩ 0 false false false)):=yH w _
theorem An (s:Bs) (i:Nat) (w:Wo) (hs:s.size<=100000) (hi:i<=s.size)
  (IH:∀ (j:Nat) (w:Wo),i<j->j<=s.size->Calls prog 26 #[.string s,.int .i64 j] w (GP w (val s j))):
  Calls prog 26 #[.string s,.int .i64 i] w (GP w (val s i)):=by
 have H:=ze (PM s (by omega));have o:Hid (∀ w,i<s.size->bt s i=91->Calls prog 67 #[.string s,.int .i64 i] w (GP w (val s i))):=fun w J h=>zcA s i w (by omega) J h IH;have r:Hid (∀ w,i<s.size->bt s i=123->Calls prog 68 #[.string s,.int .i64 i] w (GP w (val s i))):=fun w J h=>zgH s i w hs J h IH;have p:Hid (∀ w,Calls prog 72 #[.string s,.int .i64 i] w (GP w ((nm s i).map fun q=>(.num q.1,q.2)))):=fun w=>zbv s i w (by omega) (by omega);have u:Hid (∀ w,Calls prog 69 #[.string s,.int .i64 i] w (UN s w (Zz s i))):=fun w=>UO s i w (by omega) (by omega);have v:Hid (∀ w,Calls prog 71 #[.string s,.int .i64 i,.string ⟨#[110,117,108,108]⟩] w (Rk (.bool (QX s i)) w)):=fun w=>by
  have h:=PF s ⟨#[110,117,108,108]⟩ i w (by omega) (by decide) (by omega);rw[← Al s i];rw[ByteArray.toList_eq (⟨#[110,117,108,108]⟩:Bs)]at h;exact h
 have x:Hid (∀ w,Calls prog 71 #[.string s,.int .i64 i,.string ⟨#[116,114,117,101]⟩] w (Rk (.bool (Ja s i)) w)):=fun w=>by
  have h:=PF s ⟨#[116,114,117,101]⟩ i w (by omega) (by decide) (by omega);rw[← Am s i];rw[ByteArray.toList_eq (⟨#[116,114,117,101]⟩:Bs)]at h;exact h
 have y:Hid (∀ w,Calls prog 71 #[.string s,.int .i64 i,.string ⟨#[102,97,108,115,101]⟩] w (Rk (.bool (Ju s i)) w)):=fun w=>by
  have h:=PF s ⟨#[102,97,108,115,101]⟩ i w (by omega) (by decide) (by omega);rw[← zgJ s i];rw[ByteArray.toList_eq (⟨#[102,97,108,115,101]⟩:Bs)]at h;exact h
 clear IH;go_in;go_wp2_with fail;refine ((uh H).2 91 i _ (by decide)).mono ?_;rintro e N ⟨rfl,rfl⟩;by_cases A:bt s i=91
 ·rw[yj A];have J:i<s.size:=Zb (by omega);go_wp2_with fail;refine (uh o _ J A).mono ?_;intro e O g;obtain⟨t,n,B,b,F,rfl,m,a⟩:=g.form;have z:=(OQ w).below m;obtain⟨r0,r1,r2,r3,r4⟩:=z.cells;obtain⟨U,V,X,Y,Z⟩:=z.fzs;have I:=ze (z.put t (n:Int) n rfl B b F);have G:=ze (YO (zi (Z0 w _) m) (ye _) (.string t) (.int .i64 (n:Int)) (.bool B) (.bool b) (.bool F));have d:=ze a;clear g m z a o r p u v x y A;simp only[Qm];go_wp2;try simp only[Exit.inBlock,Exit.then]
  refine bodyPost_ret (YP rfl rfl (uh I)) rfl ?_;exact uh d _ _ (uh G)
 ·rw[yk A];go_wp2_with fail;refine ((uh H).2 123 i _ (by decide)).mono ?_;rintro e N ⟨rfl,rfl⟩;by_cases f:bt s i=123
  ·rw[yj f];have J:i<s.size:=Zb (by omega);go_wp2_with fail;refine (uh r _ J f).mono ?_;intro e O g;obtain⟨t,n,B,b,F,rfl,m,a⟩:=g.form;have z:=(OQ w).below m;obtain⟨r0,r1,r2,r3,r4⟩:=z.cells;obtain⟨U,V,X,Y,Z⟩:=z.fzs;have I:=ze (z.put t (n:Int) n rfl B b F);have G:=ze (YO (zi (Z0 w _) m) (ye _) (.string t) (.int .i64 (n:Int)) (.bool B) (.bool b) (.bool F));have d:=ze a;clear g m z a o r p u v x y A f;simp only[Qm];go_wp2;try simp only[Exit.inBlock,Exit.then]
   refine bodyPost_ret (YP rfl rfl (uh I)) rfl ?_;exact uh d _ _ (uh G)
  ·rw[yk f];go_wp2_with fail;refine ((uh H).2 34 i _ (by decide)).mono ?_;rintro e N ⟨rfl,rfl⟩;by_cases C:bt s i=34
   ·rw[yj C];have D:=ze (PE C);go_wp2_with fail;refine (uh u _).mono ?_;intro e O M;obtain⟨t,n,B,T,rfl,m,a⟩:∃ (t:Bs) (n:Nat) (B:Bool),t.size<=1048576/\e= .returned (.tuple #[.string t,.int .i64 (n:Int),.bool B])/\Below (w.alloc (qX ⟨#[]⟩ 0 false false false)).heap.size (w.alloc (qX ⟨#[]⟩ 0 false false false)) O/\∀ W W',Bw W W'->GP W (val s i) (.returned (Qm (zh (quoted t.data.toList)) n B false false)) W':=by
     obtain⟨m,Q⟩:=M
     cases hq:Zz s i with
     | none=>
      rw[hq]at Q;obtain⟨t,k,_,ht,rfl⟩:=Q;refine⟨t,k,false,by omega,rfl,m,fun W W' hW=>?_⟩;rw[uh D,hq];exact⟨hW,_,_,_,_,rfl⟩
     | some q=>
      rw[hq]at Q;obtain⟨l,k⟩:=q;have hql:=KC hq;have hqo:=JX hq;refine⟨zh l,k,true,by rw[zN];omega,Q,m,fun W W' hW=>?_⟩;rw[uh D,hq,Za];exact⟨hW,rfl⟩
    have HQ:=ze (SI t O T);have z:=(OQ w).below m;have B2:=zi (Z0 w _) m;have d:=ze a;clear M m a o r p u v x y A f C;go_wp2_with fail;refine (uh HQ).mono ?_;rintro e w3 ⟨rfl,S⟩;have P:=z.below S;have B3:=zi B2 S;generalize zh (quoted t.data.toList)=qt at *;obtain⟨r0,r1,r2,r3,r4⟩:=P.cells;obtain⟨U,V,X,Y,Z⟩:=P.fzs;have I:=ze (P.put qt (n:Int) n rfl B false false);have G:=ze (YO B3 (ye _) (.string qt) (.int .i64 (n:Int)) (.bool B) (.bool false) (.bool false));clear HQ z B2 P B3 S;go_wp2;try simp only[Exit.inBlock,Exit.then]
    refine bodyPost_ret (YP rfl rfl (uh I)) rfl ?_;exact uh d _ _ (uh G)
   ·rw[yk C];have D:=ze (VX A f C);clear A f C;go_wp2_with fail;refine (uh v _).mono ?_;rintro e N ⟨rfl,rfl⟩
    cases hw:QX s i with
    | true=>
     have L:=UD hw;have HR:Hid (val s i=some (JV.nul,i+4)):=by show _=_;rw[uh D,yg hw]
     have R:Hid (s.extract i (i+4)=zh (ct JV.nul)):=by show _=_;rw[UH,zgK hw];rfl
     have i1:(i:Int)<=(i:Int)+4:=by omega
     have i2:(i:Int)+4<=(s.size:Int):=by omega
     have i3:(0:Int)<=(i:Int):=by omega
     clear o r p u v x y hw D;go_wp2;go_returns;rw[uh HR,uh R];exact⟨Z0 w _,rfl⟩
    | false=>
     have K:=hw;clear hw;go_wp2_with fail;refine (uh x _).mono ?_;rintro e N ⟨rfl,rfl⟩
     cases hw:Ja s i with
     | true=>
      have L:=UE hw;have HR:Hid (val s i=some (JV.tt,i+4)):=by show _=_;rw[uh D,yf (by rw[K];simp),yg hw]
      have R:Hid (s.extract i (i+4)=zh (ct JV.tt)):=by show _=_;rw[UH,zgL hw];rfl
      have i1:(i:Int)<=(i:Int)+4:=by omega
      have i2:(i:Int)+4<=(s.size:Int):=by omega
      have i3:(0:Int)<=(i:Int):=by omega
      clear o r p u v x y hw D K;go_wp2;go_returns;rw[uh HR,uh R];exact⟨Z0 w _,rfl⟩
     | false=>
      have E:=hw;clear hw;go_wp2_with fail;refine (uh y _).mono ?_;rintro e N ⟨rfl,rfl⟩
      cases hw:Ju s i with
      | true=>
       have L:=Kz hw;have HR:Hid (val s i=some (JV.ff,i+5)):=by show _=_;rw[uh D,yf (by rw[K];simp),yf (by rw[E];simp),yg hw]
       clear o r p u v x y hw D K E;go_wp2;go_returns;rw[uh HR];exact⟨Z0 w _,rfl⟩
      | false=>
       have HR:Hid (val s i=(nm s i).map fun q=>(JV.num q.1,q.2)):=by show _=_;rw[uh D,yf (by rw[K];simp),yf (by rw[E];simp),yf (by rw[hw];simp)]
       clear hw D K E;go_wp2_with fail;refine (uh p _).mono ?_;intro e O g;rw[← uh HR]at g;obtain⟨t,n,B,b,F,rfl,m,a⟩:=g.form;have z:=(OQ w).below m;obtain⟨r0,r1,r2,r3,r4⟩:=z.cells;obtain⟨U,V,X,Y,Z⟩:=z.fzs;have I:=ze (z.put t (n:Int) n rfl B b F);have G:=ze (YO (zi (Z0 w _) m) (ye _) (.string t) (.int .i64 (n:Int)) (.bool B) (.bool b) (.bool F));have d:=ze a;clear g m z a o r p u v x y;simp only[Qm];go_wp2;try simp only[Exit.inBlock,Exit.then]
       refine bodyPost_ret (YP rfl rfl (uh I)) rfl ?_;exact uh d _ _ (uh G)
theorem Ao(s:Bs)(hs:s.size<=100000):∀ (n i:Nat) (w:Wo),s.size - i<=n->i<=s.size->Calls prog 26 #[.string s,.int .i64 i] w (GP w (val s i))
 | 0,i,w,hn,hi=>An s i w hs hi fun j w' hj hj2=>by omega
 | n+1,i,w,hn,hi=>An s i w hs hi fun j w' hj hj2=>Ao s hs n j w' (by omega) hj2
def U5:Option JV->Sum Nat JV
 | none=>.inl 2
 | some v=>if zV v then .inl 3 else if zw v then .inl 4 else if 100<zm v∨3000<zj v then .inl 5 else .inr v
theorem zgM{s:Bs}(h:¬ 20000<s.size):zI s=U5 (Qa s):=by
 unfold zI;rw[yf h]
 cases Qa s<;>rfl
theorem Wi(s:Bs)(w:Wo)(hz:s.size<=1048576):
  Calls prog 7 #[.string s] w fun e w'=>e= .returned (Zx s)/\Bw w w':=by
 by_cases B:20000<s.size
 ·have P:(20000:Int)<(s.size:Int):=by omega
  have u:Hid (Zx s= .tuple #[.string ⟨#[]⟩,.int .i64 1]):=by show _=_;unfold Zx zI;rw[yg B];rfl
  clear B;go_in;go_wp2;go_ret2;exact⟨by rw[uh u];rfl,yI _ _⟩
 ·have P:¬ (20000:Int)<(s.size:Int):=by omega
  have J:sk s 0<=s.size:=(Q6 (yu _)).2;have k:Hid (∀ (i:Nat) (w:Wo),Calls prog 27 #[.string s,.int .i64 (i:Int)] w (Rk (.int .i64 ((sk s i:Nat):Int)) w)):=fun i w=>Mj s i w hz;have g:Hid (Calls prog 27 #[.string s,.int .i64 0] w (Rk (.int .i64 ((sk s 0:Nat):Int)) w)):=uh k 0 w;have f:=ze (Ao s (by omega) s.size (sk s 0) w (by omega) J);have HR:Hid (zI s=U5 (Qa s)):=zgM B;have d:Qa s=(val s (sk s 0)).bind fun q=>if sk s q.2=s.size then some q.1 else none:=rfl
  cases hv:val s (sk s 0)with
  | none=>
   rw[hv]at f d;have u:Hid (Zx s= .tuple #[.string ⟨#[]⟩,.int .i64 2]):=by show _=_;unfold Zx;rw[uh HR,d];rfl
   clear HR d hv B;go_in;go_wp2_with fail;refine (uh g).mono ?_;rintro e p ⟨rfl,rfl⟩;go_wp2_with fail;refine (uh f).mono ?_;rintro e p ⟨o,t,n,b,F,rfl⟩;have r:=o.alloc o.size (.cells #[.string t,.int .i64 (n:Int),.bool false,.bool b,.bool F] 51);clear g f k;simp only[Qm];go_wp2;go_ret2;exact⟨by rw[uh u];rfl,r⟩
  | some q=>
   obtain⟨v,n⟩:=q;obtain⟨M,N⟩:=Y3 hv;have x:=MG hv;have y:=TM hv;have z:=Fp hv;rw[hv]at f d;simp only[yB]at d;by_cases D:sk s n=s.size
   ·rw[yg D]at d;have O:((sk s n:Int) !=(s.size:Int))=false:=by rw[bne_eq_false_iff_eq];omega
    rw[d]at HR;have j:=ze (fun w=>uh k n w);have l:Hid (∀ w:Wo,Calls prog 28 #[.string (zh (ct v))] w (Rb (.bool (decide (zm v<=100/\zj v<=3000))) w)):=fun w=>Rx v x w (by omega) (by omega)
    cases hb:zV v with
    | true=>
     have u:Hid (Zx s= .tuple #[.string ⟨#[]⟩,.int .i64 3]):=by show _=_;unfold Zx;rw[uh HR,U5,hb];rfl
     have a:Hid (Calls prog 26 #[.string s,.int .i64 ((sk s 0:Nat):Int)] w (Rb (Qm (zh (ct v)) n true true (zw v)) w)):=(uh f).mono fun e w' h=>⟨by have:=h.2;simp only[Option.elim_some]at this;rw[hb]at this;exact this,h.1⟩;generalize zh (ct v)=A at *;generalize zw v=F at *;generalize sk s n=m at *;clear f HR d hv B D hb l k x y z;go_in;go_wp2_with fail;refine (uh g).mono ?_;rintro e p ⟨rfl,rfl⟩;go_wp2_with fail;refine (uh a).mono ?_;rintro e p ⟨rfl,o⟩;have r:=o.alloc o.size (.cells #[.string A,.int .i64 (n:Int),.bool true,.bool true,.bool F] 51);clear g a;simp only[Qm];go_wp2_with fail;refine (uh j _).mono ?_;rintro e H ⟨rfl,rfl⟩;clear j;go_wp2;go_ret2;exact⟨by rw[uh u];rfl,r⟩
    | false=>
     cases ht:zw v with
     | true=>
      have u:Hid (Zx s= .tuple #[.string ⟨#[]⟩,.int .i64 4]):=by show _=_;unfold Zx;rw[uh HR,U5,hb,ht];rfl
      have a:Hid (Calls prog 26 #[.string s,.int .i64 ((sk s 0:Nat):Int)] w (Rb (Qm (zh (ct v)) n true false true) w)):=(uh f).mono fun e w' h=>⟨by have:=h.2;simp only[Option.elim_some]at this;rw[hb,ht]at this;exact this,h.1⟩;generalize zh (ct v)=A at *;generalize sk s n=m at *;clear f HR d hv B D hb ht l k x y z;go_in;go_wp2_with fail;refine (uh g).mono ?_;rintro e p ⟨rfl,rfl⟩;go_wp2_with fail;refine (uh a).mono ?_;rintro e p ⟨rfl,o⟩;have r:=o.alloc o.size (.cells #[.string A,.int .i64 (n:Int),.bool true,.bool false,.bool true] 51);clear g a;simp only[Qm];go_wp2_with fail;refine (uh j _).mono ?_;rintro e H ⟨rfl,rfl⟩;clear j;go_wp2;go_ret2;exact⟨by rw[uh u];rfl,r⟩
     | false=>
      have a:Hid (Calls prog 26 #[.string s,.int .i64 ((sk s 0:Nat):Int)] w (Rb (Qm (zh (ct v)) n true false false) w)):=(uh f).mono fun e w' h=>⟨by have:=h.2;simp only[Option.elim_some]at this;rw[hb,ht]at this;exact this,h.1⟩;by_cases G:zm v<=100/\zj v<=3000
      ·have u:Hid (Zx s= .tuple #[.string (zh (ct v)),.int .i64 0]):=by show _=_;unfold Zx;rw[uh HR,U5,hb,ht,yf (by decide),yf (by decide),yf (by omega)]
       rw[yj G]at l;generalize zh (ct v)=A at *;generalize sk s n=m at *;clear f HR d hv B D hb ht k x y z G;go_in;go_wp2_with fail;refine (uh g).mono ?_;rintro e p ⟨rfl,rfl⟩;go_wp2_with fail;refine (uh a).mono ?_;rintro e p ⟨rfl,o⟩;have r:=ze (o.alloc o.size (.cells #[.string A,.int .i64 (n:Int),.bool true,.bool false,.bool false] 51));clear g a;simp only[Qm];go_wp2_with fail;refine (uh j _).mono ?_;rintro e H ⟨rfl,rfl⟩;clear j;have K:Zf p.heap.size A n true false false (p.alloc (.cells #[.string A,.int .i64 (n:Int),.bool true,.bool false,.bool false] 51)):=yH p _;have E:=ze K;clear K;go_wp2_with fail;refine (uh l _).mono ?_;rintro e Q ⟨rfl,C⟩;have c3:=((uh E).below C).c0;have I:=zi (uh r) C;clear l E C r;go_wp2;go_ret2;exact⟨by rw[uh u];rfl,I⟩
      ·have u:Hid (Zx s= .tuple #[.string ⟨#[]⟩,.int .i64 5]):=by show _=_;unfold Zx;rw[uh HR,U5,hb,ht,yf (by decide),yf (by decide),yg (by omega)];rfl
       rw[yk G]at l;generalize zh (ct v)=A at *;generalize sk s n=m at *;clear f HR d hv B D hb ht k x y z G;go_in;go_wp2_with fail;refine (uh g).mono ?_;rintro e p ⟨rfl,rfl⟩;go_wp2_with fail;refine (uh a).mono ?_;rintro e p ⟨rfl,o⟩;have r:=ze (o.alloc o.size (.cells #[.string A,.int .i64 (n:Int),.bool true,.bool false,.bool false] 51));clear g a;simp only[Qm];go_wp2_with fail;refine (uh j _).mono ?_;rintro e H ⟨rfl,rfl⟩;clear j;go_wp2_with fail;refine (uh l _).mono ?_;rintro e Q ⟨rfl,C⟩;have I:=zi (uh r) C;clear l C r;go_wp2;go_ret2;exact⟨by rw[uh u];rfl,I⟩
   ·rw[yf D]at d;have O:((sk s n:Int) !=(s.size:Int))=true:=by rw[bne_iff_ne];omega
    have u:Hid (Zx s= .tuple #[.string ⟨#[]⟩,.int .i64 2]):=by show _=_;unfold Zx;rw[uh HR,d];rfl
    have j:=ze (fun w=>uh k n w);have a:Hid (Calls prog 26 #[.string s,.int .i64 ((sk s 0:Nat):Int)] w (Rb (Qm (zh (ct v)) n true (zV v) (zw v)) w)):=(uh f).mono fun e w' h=>⟨h.2,h.1⟩;generalize zh (ct v)=A at *;generalize zw v=F at *;generalize zV v=L at *;generalize sk s n=m at *;clear f HR d hv B k x y z;go_in;go_wp2_with fail;refine (uh g).mono ?_;rintro e p ⟨rfl,rfl⟩;go_wp2_with fail;refine (uh a).mono ?_;rintro e p ⟨rfl,o⟩;have r:=o.alloc o.size (.cells #[.string A,.int .i64 (n:Int),.bool true,.bool L,.bool F] 51);clear g a;simp only[Qm];go_wp2_with fail;refine (uh j _).mono ?_;rintro e H ⟨rfl,rfl⟩;clear j;go_wp2;go_ret2;exact⟨by rw[uh u];rfl,r⟩
theorem zgN(B rb:Nat)(w:Wo)(h:zR w B rb):
  Calls prog 82 #[.pointer (some ⟨rb,0,none⟩)] w (DP B rb 22000 w):=by
 have K:=h.lt;have HX:=ze (Jq B rb w h);have d:Hid (∀ (w:Wo),zR w B rb->Calls prog 130 #[.pointer (some ⟨rb,0,none⟩),.int .i64 3] w (DP B rb (GB 3) w)):=fun w hr=>ST 3 3 B rb w rfl (by omega) hr;have b:Hid (∀ (w:Wo),zR w B rb->Calls prog 130 #[.pointer (some ⟨rb,0,none⟩),.int .i64 4] w (DP B rb (GB 4) w)):=fun w hr=>ST 4 4 B rb w rfl (by omega) hr;have D:GB 3=5258:=by decide
 have E:GB 4=21130:=by decide
 rw[D]at d;rw[E]at b;clear h D E;go_in;go_wp2_with fail;refine (uh HX).mono ?_;rintro e q ⟨x,hx,rfl,r1,g1⟩;have r:=ze r1;have m:=ze g1;clear HX r1 g1;by_cases h5:x % 6=5
 ·have e:(x:Int) % 6=5:=by omega
  have HN:=ze (uh b q (uh r));clear h5 d b;go_wp2_with fail;refine (uh HN).mono ?_;rintro e w3 ⟨t,ht,rfl,r3,g3⟩;clear HN;go_wp2;go_ret;exact⟨t,by omega,rfl,r3,ZD (uh m) g3⟩
 ·have e:((x:Int) % 6 ==5)=false:=by simp;omega
  have hnn:2+(x:Int) / 6 % 3=((2+x / 6 % 3:Nat):Int):=by omega
  have hn4:2+x / 6 % 3<=4:=by omega
  have hkq:(x:Int) / 32=((x / 32:Nat):Int):=by omega
  have T:x / 32<=7:=by omega
  generalize 2+x / 6 % 3=L at *;generalize x / 32=g at *;have W:=(uh m).size;have HO:Hid ((q.alloc (.cells #[] 97)).ownsRow w.heap.size 97 2 (.slice (some ⟨q.heap.size,0,none⟩) 0 0) 0 []):=World.ownsRow_lit q #[] 0 W (by unfold maxLen;omega) rfl;have A:Hid (GS w B rb 5258 (.slice (some ⟨q.heap.size,0,none⟩) 0 0) [] (q.alloc (.cells #[] 97))):=⟨uh HO,fun p hp=>by (cases hp),(uh r).grown (World.grownBy_alloc q _ none) (by simp) (fun k e=>by cases e),ZD (uh m) (World.grownBy_alloc q _ _)⟩;clear HO h5 b;go_wp2_with fail;obtain⟨i0,S,aa,ab,ad⟩:=info_parts WG;go_loopw [4,5] (fun v i wr=>∃ (j:Nat) (a:List zL) (M:Option Addr) (N:Nat),v= .slice M a.length N/\i= .int .i64 j/\j<=L/\a.length<=j/\GS w B rb 5258 (.slice M a.length N) a wr) (fun _ i _=>L - (intOf i).toNat)
  case atStart=>exact⟨0,[],_,_,rfl,rfl,yu _,ye _,uh A⟩
  case round=>
   obtain⟨j,a,M,N,rfl,rfl,hj,hpl,y⟩:=hrel;have n:=ze y;have hws:=y.gr.size;clear y A r m;by_cases hlt:j<L
   ·have H:(j:Int)<(L:Int):=by omega
    have J:(g:Int)*(j:Int)=((g*j:Nat):Int):=by simp
    have hmb:g*j<=7*4:=Nat.mul_le_mul T (by omega);have I:(j:Int)+((g*j:Nat):Int)=((j+g*j:Nat):Int):=by omega
    have P:=ze (Xx (j+g*j) wr (by omega));rw[← I,← J]at P;clear I J;have hb1:(g:Int)*(j:Int)<=28:=by
     have:(g:Int)*(j:Int)=((g*j:Nat):Int):=by simp
     omega
    have hb0:0<=(g:Int)*(j:Int):=by
     have:(g:Int)*(j:Int)=((g*j:Nat):Int):=by simp
     omega
    go_wp2_with fail;refine (uh P).mono ?_;rintro e w4 ⟨O,Y,rfl,rfl⟩;have HG:=ze (uh d wr (uh n).rd);clear P;go_wp2_with fail;refine (uh HG).mono ?_;rintro e w5 ⟨t2,Z,rfl,r5,g5⟩;have f:=ze ((uh n).next r5 g5 K);have hw5:=(uh f).gr.size;have s:Hid (∀ o:Obj,(w5.alloc o).ownsRow w.heap.size 97 2 (.slice M a.length N) a.length (a.flatMap Zm)):=fun o=>World.ownsRow.alloc (uh f).row o;have HF:=ze (PN w.heap.size _ a O w5 (uh f).row (by omega));clear HG n r5 g5;go_wp2_with fail;refine (uh HF).mono ?_;rintro e w6 ⟨z,rfl,hz,rfl⟩;clear HF hz;by_cases hzz:z<0
    ·have hkk:a.length<=4:=by omega
     go_wp2_with (at_builtin;refine wpList_append_own _ rfl (.tmp 37) (.tmp 41) 94 rfl w.heap.size 97 i0 (.agg #[.string ByteArray.empty,.string ByteArray.empty]) 2 32 underlying94 S aa ab ad rfl (by decide) _ _ _ rfl (uh s _) ⟨w5.heap.size,0,none⟩ 1 1 (Zm (O,t2)) rfl rfl (Yt _ _ _ _) (fun u hu=>by {simp[Zm]at hu;rcases hu with rfl | rfl<;>rfl}) (by unfold maxLen;omega) (by omega) (by simp;omega) ?_);intro v7 w7 l F _;obtain⟨va7,vc7,rfl⟩:=Xy l;have G:a.length+1=(a++[(O,t2)]).length:=by simp
     have C:=ze ((uh f).step Y Z l F K);rw[G]at C;clear l F f s;go_wp2;go_roundw
     case rel=>exact⟨j+1,a++[(O,t2)],va7,vc7,by rw[G],by go_num,by omega,by simp;omega,uh C⟩
     case measure=>simp[intOf];omega
    ·clear s;go_wp2;go_roundw
     case rel=>exact⟨j+1,a,M,N,rfl,by go_num,by omega,by omega,uh f⟩
     case measure=>simp[intOf];omega
   ·have H:¬ (j:Int)<(L:Int):=by omega
    have U:a.length<=4:=by omega
    have X:=(uh n).sumT;have R:a.length*(5258+22)<=4*(5258+22):=Nat.mul_le_mul_right _ U;have V:=Aj a;have HV:=ze (ON w.heap.size _ a wr (uh n).row (by omega) (by omega) (fun p hp=>by have:=((uh n).key p hp).1;omega));have Q:Hid ((qb a).length<=22000):=by show _<=_;omega
    generalize qb a=tO at *;clear X R V d;go_wp2_with fail;refine (uh HV).mono ?_;rintro e w6 ⟨rfl,b6⟩;clear HV;go_wp2;go_ret;exact QI (uh n).rd (uh n).gr (uh Q) b6
end Go.Proofs.YtpaecnbdoljafaaGreatDoor
