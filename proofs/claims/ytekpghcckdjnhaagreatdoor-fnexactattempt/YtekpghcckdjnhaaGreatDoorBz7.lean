import Derived.Test.YtekpghcckdjnhaaGreatDoorBz4
import Derived.Test.YtekpghcckdjnhaaGreatDoorBz6
set_option maxRecDepth 100000
set_option maxHeartbeats 8000000
namespace Go.Proofs.YtekpghcckdjnhaaGreatDoor
open Go.RowKit Go.Proofs.Tryz
theorem zgm(p:zK):ze (quoted p.1)++⟨#[58]⟩++ze p.2=ze (zn p):=by
 rw[show (⟨#[58]⟩:Bs)=ze [58]from rfl,Us,Us];simp[zn]
theorem zgn(ps:List zK)(j:Nat)(h:j<ps.length):joinC ((ps.take (j+1)).map zn)=joinC ((ps.take j).map zn)++(if j=0 then zn ps[j]else 44 :: zn ps[j]):=by
 rw[yy h,yw,List.map_singleton,X0];by_cases a:j=0
 ·subst a;simp
 ·rw[yf (by simp;exact⟨a,by intro e;subst e;simp at h⟩),yf a]
theorem RB(a b:List zK):Zd (a++b)=Zd a+Zd b:=by
 unfold Zd;rw[yw,List.sum_append]
theorem Cy(ps:List zK)(j:Nat):Zd (ps.take j)<=Zd ps:=by
 have h:=congrArg Zd (List.take_append_drop j ps);have e:=RB (ps.take j) (ps.drop j);omega
theorem zgo(ps:List zK)(j:Nat):(joinC ((ps.take j).map zn)).length<=Zd ps:=by
 have h:=Fx ((ps.take j).map zn);have a:=Cy ps j;rw[List.map_map]at h;exact yP h a
theorem zgp(ps:List zK)(j:Nat)(h:j<ps.length):(zn ps[j]).length+1<=Zd ps:=by
 have a:=Cy ps (j+1);rw[yy h]at a;have e:Zd (ps.take j++[ps[j]])=Zd (ps.take j)+((zn ps[j]).length+1):=by rw[RB];simp[Zd]
 omega
theorem Cz(B:Nat)(v:Value)(ps:List zK)(w:Wo)(h:PR w B v ps)(hn:Zd ps<=40000000)(hl:ps.length<=40000000)(hk:∀ p∈ps,p.1.length<=1048576):
  Calls prog 145 #[v] w fun e w'=>e= .returned (.string (ze (qX ps)))/\Bw w w':=by
 obtain⟨i0,hi0,hz0,hz1,hz2⟩:=info_parts WV;obtain⟨x,len,cap,rfl,hlen⟩:∃ x len cap,v= .slice x len cap/\len=ps.length:=by
  rcases h.2 with ⟨hv,h0⟩ |⟨g,cap,cur,hv,_⟩
  ·exact⟨_,_,_,hv,h0.symm⟩
  ·exact⟨_,_,_,hv,rfl⟩
 subst hlen;have HP:=zb h;have HK:=zb hk;clear h hk;go_in;go_wp2_with fail;go_loopw [3,4] (fun r k wr=>∃ (j:Nat) (acc:List UInt8),k= .int .i64 (j:Int)/\j<=ps.length/\acc=123 :: joinC ((ps.take j).map zn)/\wr.ownsRow w.heap.size 5 1 r (Lib.byteCells acc).length (Lib.byteCells acc)/\Bw w wr) (fun _ k _=>ps.length - (intOf k).toNat)
 case atStart=>
  exact⟨0,[123],rfl,yt _,rfl,World.ownsRow_lit w #[.int .u8 123] 1 (ye _) (by unfold maxLen;omega) rfl,(yH _ _).alloc (ye _) _⟩
 case round=>
  obtain⟨j,acc,rfl,hj,hacc,hown,hb⟩:=hrel;have HA:=zb hacc;have HB:=zb hb;have hwsz:=hb.size;have hal:acc.length<=40000001:=by
   have:=zgo ps j;rw[hacc];simp only[yn];omega
  clear hacc hb;by_cases hin:j<ps.length
  ·have t1:((j:Int)<(ps.length:Int))=True:=eq_true (by omega);have i1:(0:Int)<=(j:Int):=by omega
   have i2:(j:Int)<(ps.length:Int):=by omega
   have hm:=zgp ps j hin;have hcat:=zgm ps[j];have HQ:Hid (∀ w,Calls prog 117 #[.string (ze ps[j].1)] w (Rb (.string (ze (quoted ps[j].1))) w)):=fun w=>by
    have:=Cx (ze ps[j].1) w (by rw[Zw];exact uh HK _ (yr _))
    rwa [Zf]at this
   have HJ:=zb (zgn ps j hin);have z1:(ze (quoted ps[j].1)).size<=40000000:=by
    rw[Zw];simp only[zn,yh,yn]at hm;omega
   have z2:(ze ps[j].2).size<=40000000:=by
    rw[Zw];simp only[zn,yh,yn]at hm;omega
   have z3:(9223372036854775807<(ze (quoted ps[j].1)).size+1)=False:=yQ (by omega);have z4:(9223372036854775807<(ze (quoted ps[j].1)).size+1+(ze ps[j].2).size)=False:=yQ (by omega);by_cases hj0:j=0
   ·have t2:(0<j)=False:=yQ (by omega);rw[yg hj0]at HJ;obtain⟨g,cap',he,hgB,hgl,c0,c1⟩:=(uh HP).cells j hin;injection he with he1 he2 he3;subst he1;subst he3;generalize ps[j]=p at *;clear hj0;have keepc:Hid (∀ X:Wo,Bw w X->X.cell? ⟨g,j*2,none⟩=some (.string (ze p.1))/\X.cell? ⟨g,j*2+1,none⟩=some (.string (ze p.2))):=fun X hX=>⟨(hX.cell hgl).trans c0,(hX.cell hgl).trans c1⟩;clear c0 c1;go_wp2_with fail;obtain⟨k00,k01⟩:=uh keepc _ ((uh HB).drew)
    go_region_law (first
      |(
        go_simp;refine (uh HQ _).mono ?_;rintro e w2 ⟨rfl,b2⟩;have B2:=zh ((uh HB).drew) b2;obtain⟨cap3,W3,hcv,hcell,b3,hk3,hs3⟩:=UR w2 (zn p);have own3:=hk3 _ _ _ _ _ (ZB (w:=wr.drew) hown b2);have B3:=zh B2 b3;have HCELL:=zb hcell;have hw2:=B2.size;obtain⟨k0,k1⟩:=uh keepc _ B2;clear hcell hk3)
      |(
        refine F1 rfl (.tmp 17) (.tmp 31) 160 rfl w.heap.size 5 i0 (.int .u8 0) 1 1 underlying160 hi0 hz0 hz1 hz2 rfl (by decide) _ _ _ rfl (by exact own3) ⟨w2.heap.size,0,none⟩ (zn p).length cap3 (Lib.byteCells (zn p)) rfl (by rw[yK];omega) (by exact uh HCELL) (UQ _) (by rw[yK];unfold maxLen;omega) (by rw[yK];omega) (by omega) ?_;intro v4 w4 own4 hg4;have B4:Bw w w4:=B3.grown hg4 (by omega) (fun k hk=>(own3.lt k hk).1)))
    all_goals
     have own4':=qU (m:=zn p) own4 rfl rfl;clear own4 hg4 own3 HCELL B3 B2 hcv b2 b3 hown keepc HB;go_wp2;go_roundw
    all_goals first
     | exact⟨j+1,acc++zn p,by go_num,by omega,by rw[uh HA,uh HJ];simp,own4',B4⟩
     |(simp[intOf];omega)
   ·have t2:(0<j)=True:=eq_true (by omega);rw[yf hj0]at HJ;obtain⟨g,cap',he,hgB,hgl,c0,c1⟩:=(uh HP).cells j hin;injection he with he1 he2 he3;subst he1;subst he3;generalize ps[j]=p at *;clear hj0;have keepc:Hid (∀ X:Wo,Bw w X->X.cell? ⟨g,j*2,none⟩=some (.string (ze p.1))/\X.cell? ⟨g,j*2+1,none⟩=some (.string (ze p.2))):=fun X hX=>⟨(hX.cell hgl).trans c0,(hX.cell hgl).trans c1⟩;clear c0 c1;go_wp2_with (at_builtin;refine wpList_append_own _ rfl (.tmp 14) (.tmp 15) 160 rfl w.heap.size 5 i0 (.int .u8 0) 1 1 underlying160 hi0 hz0 hz1 hz2 rfl (by decide) _ _ _ rfl (hown.alloc _) ⟨wr.heap.size,0,none⟩ 1 1 [.int .u8 44] rfl rfl (QD _ _ _) (YG _ _) (by rw[yK];unfold maxLen;omega) (by rw[yK];omega) (by simp;omega) ?_;intro v1 w1 own1 hg1 _;have own1':=qU (m:=[44]) own1 rfl rfl;have HB1:=zb (((uh HB).alloc hwsz _).grown hg1 (by simp;omega) (fun k hk=>(hown.lt k hk).1));have hw1:=(uh HB1).size;have hal1:(acc++[44]).length<=40000002:=by {simp;omega});clear own1 hg1 hown HB;obtain⟨k00,k01⟩:=uh keepc _ ((uh HB1).drew)
    go_region_law (first
      |(
        go_simp;refine (uh HQ _).mono ?_;rintro e w2 ⟨rfl,b2⟩;have B2:=zh ((uh HB1).drew) b2;obtain⟨cap3,W3,hcv,hcell,b3,hk3,hs3⟩:=UR w2 (zn p);have own3:=hk3 _ _ _ _ _ (ZB (w:=w1.drew) own1' b2);have B3:=zh B2 b3;have HCELL:=zb hcell;have hw2:=B2.size;obtain⟨k0,k1⟩:=uh keepc _ B2;clear hcell hk3)
      |(
        refine F1 rfl (.tmp 17) (.tmp 31) 160 rfl w.heap.size 5 i0 (.int .u8 0) 1 1 underlying160 hi0 hz0 hz1 hz2 rfl (by decide) _ _ _ rfl (by exact own3) ⟨w2.heap.size,0,none⟩ (zn p).length cap3 (Lib.byteCells (zn p)) rfl (by rw[yK];omega) (by exact uh HCELL) (UQ _) (by rw[yK];unfold maxLen;omega) (by rw[yK];omega) (by omega) ?_;intro v4 w4 own4 hg4;have B4:Bw w w4:=B3.grown hg4 (by omega) (fun k hk=>(own3.lt k hk).1)))
    all_goals
     have own4':=qU (m:=zn p) own4 rfl rfl;clear own4 hg4 own3 HCELL B3 B2 hcv b2 b3 own1' keepc HB1;go_wp2;go_roundw
    all_goals first
     | exact⟨j+1,(acc++[44])++zn p,by go_num,by omega,by rw[uh HA,uh HJ];simp,own4',B4⟩
     |(simp[intOf];omega)
  ·have t1:((j:Int)<(ps.length:Int))=False:=yQ (by omega);have HE:Hid (acc++[125]=qX ps):=by
    show _=_
    rw[uh HA,yq (by omega)];simp[qX]
   go_wp2_with (at_builtin;refine wpList_append_own _ rfl (.tmp 33) (.tmp 34) 160 rfl w.heap.size 5 i0 (.int .u8 0) 1 1 underlying160 hi0 hz0 hz1 hz2 rfl (by decide) _ _ _ rfl (hown.alloc _) ⟨wr.heap.size,0,none⟩ 1 1 [.int .u8 125] rfl rfl (QD _ _ _) (YG _ _) (by rw[yK];unfold maxLen;omega) (by rw[yK];omega) (by simp;omega) ?_;intro v1 w1 own1 hg1 _;have own1':=qU (m:=[125]) own1 rfl rfl;have HB1:=zb (((uh HB).alloc hwsz _).grown hg1 (by simp;omega) (fun k hk=>(hown.lt k hk).1));have hcv:=WW own1';clear own1 hg1 own1' hown HB);go_ret;exact⟨by rw[← uh HE];rfl,uh HB1⟩
theorem F2(l:List zK):l.length<=Zd l:=by
 induction l with
 | nil=>simp
 | cons p r ih=>simp[Zd]at *;omega
theorem zgq(acc:JM)(k:List UInt8):VU (zj acc) k=(Qd acc).contains k:=by unfold VU;rw[Kl]
theorem PR.other{w:Wo}{B:Nat}{v:Value}{ps:List zK}(h:PR w B v ps){p:Addr}(hp:p.block<B)(u:Value):PR (w.setCell p u) B v ps:=by
 refine⟨h.1,?_⟩;rcases h.2 with d |⟨g,a,b,j,f,i,r⟩
 ·exact .inl d
 ·exact .inr ⟨g,a,b,j,f,(Below.heap_setCell w p u g (by omega)).trans i,r⟩
theorem zgr (s:Bs) (i:Nat) (w:Wo) (hs:s.size<=100000) (hi:i<s.size) (h123:bt s i=123)
  (IH:∀ (j:Nat) (w:Wo),i<j->j<=s.size->Calls prog 82 #[.string s,.int .i64 j] w (GP w (val s j))):
  Calls prog 116 #[.string s,.int .i64 i] w (GP w (val s i)):=by
 obtain⟨i0,hi0,hz0,hz1,hz2⟩:=info_parts KG;have o:=zb (Pf s (by omega));have HSTR:Hid (∀ (j:Nat) w,j<=s.size+1->Calls prog 85 #[.string s,.int .i64 j] w (Kr s w (ZD s j))):=fun j w hj=>Ks s j w (by omega) hj;have g0:=Ze s (i+1);have g1:=(QV (s:=s) (i:=i+1) (by omega)).2;have HV:=zb (XZ h123);have HIH:=zb IH;clear IH;generalize hk0:sk s (i+1)=K at *;go_in;go_wp2_with fail;refine ((uh o).1 _ (i+1) _ (by omega)).mono ?_;rintro e w1 ⟨rfl,rfl⟩;rw[hk0];go_wp2_with fail;refine ((uh o).2 125 K _ (by decide)).mono ?_;rintro e w1 ⟨rfl,rfl⟩;clear hk0;by_cases g:bt s K=125
 ·rw[yj g];have X:Hid (val s i=some (.obj .nil,K+1)):=by show _=_;rw[uh HV,yg g]
  clear g HV;go_wp2;go_returns;rw[uh X];exact⟨((QF w _).trans ((yH _ _).alloc (by simp) _)).trans ((yH _ _).alloc (by simp;omega) _),rfl⟩
 ·rw[yk g];have X:Hid (val s i=(Qt s K).map fun q=>(.obj q.1,q.2)):=by show _=_;rw[uh HV,yf g]
  clear g HV h123;go_wp2_with fail;go_loopg [1,6] (s.size+1 - K) (fun gk k pr wr=>∃ (j:Nat) (f:JM),gk=s.size+1 - j/\k= .int .i64 (j:Int)/\K<=j/\j<=s.size/\Za w.heap.size ⟨#[]⟩ 0 false false false wr/\Za (w.heap.size+1) ⟨#[]⟩ 0 true (ZW f) (ZN [] f) wr/\PR wr (w.heap.size+2) pr (zj f)/\Bw w wr/\Zd (zj f)<=31*j/\(∀ p∈zj f,p.1.length<=1048576)/\Qt s K=(Qt s j).map fun q=>(f.app q.1,q.2))
  case atStart=>
   refine⟨K,.nil,rfl,rfl,ye _,g1,?_,?_,?_,((QF w _).trans ((yH _ _).alloc (by simp) _)).trans ((yH _ _).alloc (by simp;omega) _),by simp[zj,Zd],by simp[zj],by simp[JM.app]⟩
   ·show (World.alloc _ _).heap[_]?=_
    rw[Lib.alloc_old _ _ _ (by simp;omega),Lib.alloc_old _ _ _ (by simp)];exact yG w _
   ·show (World.alloc _ _).heap[_]?=_
    rw[Lib.alloc_old _ _ _ (by simp)];have:=yG (w.alloc (qH ⟨#[]⟩ 0 false false false)) (qH ⟨#[]⟩ 0 true false false);rw[show (w.alloc (qH ⟨#[]⟩ 0 false false false)).heap.size=w.heap.size+1 from by simp]at this;exact this
   ·refine⟨rfl,.inr ⟨w.heap.size+2,0,#[],rfl,ye _,?_,ye _,by unfold maxLen;omega,rfl,rfl⟩⟩;have:=yG ((w.alloc (qH ⟨#[]⟩ 0 false false false)).alloc (qH ⟨#[]⟩ 0 true false false)) (.cells #[] 99);rw[show ((w.alloc (qH ⟨#[]⟩ 0 false false false)).alloc (qH ⟨#[]⟩ 0 true false false)).heap.size=w.heap.size+2 from by simp]at this;exact this
  case round=>
   obtain⟨j,f,hg,rfl,hj1,hj2,hr,J,hpr,hb,hsl,hkl,hst⟩:=hrel;have HST:=zb hst;have HG:=zb J;have P:=zb hr;have HP:=zb hpr;have HB:=zb hb;have HKL:=zb hkl;have hwsz:=hb.size;have hgl:=J.lt;clear hst J hr hb hpr hkl;have A:=zb (uh HSTR j wr (by omega))
   cases hq:ZD s j with
   | none=>
    have HN:Hid (val s i=none):=by
     show _=_
     rw[uh X,uh HST,Kk,hq];rfl
    rw[hq]at A;clear hq;go_wp2_with fail;refine (uh A).mono ?_;rintro e w2 ⟨T,t,k,F,_,rfl⟩;have C:=(uh P).below T;have L:=zh (uh HB) T;clear A P HB;go_wp2_with fail;refine ((uh o).1 _ k _ rfl).mono ?_;rintro e x ⟨rfl,rfl⟩;obtain⟨r0,r1,r2,r3,r4⟩:=C.cells;obtain⟨q0,q1,q2,q3,q4⟩:=C.fzs;have R:=zb (C.put ⟨#[]⟩ 0 0 rfl false false false);have M:=zb (Yw L (ye _) (.string ⟨#[]⟩) (.int .i64 0) (.bool false) (.bool false) (.bool false));clear C L;go_wp2;try simp only[Exit.inBlock,Exit.then]
    refine bodyPost_ret (Yx rfl rfl (uh R)) rfl ?_;exact GP.bad (uh HN) (uh M)
   | some q=>
    obtain⟨l,a⟩:=q;have hqo:=Ye hq;have hql:=KH hq;have HM:Hid (Qt s K=(if bt s (sk s a)=58 then (val s (sk s (sk s a+1))).bind fun q=>
      if bt s (sk s q.2)=125 then some (JM.cons l q.1 .nil,sk s q.2+1)
      else if bt s (sk s q.2)=44 then (Qt s (sk s (sk s q.2+1))).map fun r=>(JM.cons l q.1 r.1,r.2)
      else none else none).map fun q=>(f.app q.1,q.2)):=by
     show _=_
     rw[uh HST,Kk,hq];rfl
    rw[hq]at A;have hn1:=Ze s a;have hn2:=(QV hqo.2).2;clear hq HST;go_wp2_with fail;refine (uh A).mono ?_;rintro e w2 ⟨T,rfl⟩;have C:=(uh P).below T;have G2:=(uh HG).below T;have P2:=(uh HP).below T;have L:=zh (uh HB) T;have hw2:=T.size;clear A P HB HG HP T;go_wp2_with fail;refine ((uh o).1 _ a _ rfl).mono ?_;rintro e x ⟨rfl,rfl⟩;generalize hsk:sk s a=ka at *;go_wp2_with fail;refine ((uh o).2 58 ka _ (by decide)).mono ?_;rintro e x ⟨rfl,rfl⟩;by_cases E:bt s ka=58
    ·rw[yj E];rw[yg E]at HM;have hka:ka<s.size:=zZ (by omega);have gs1:=Ze s (ka+1);have gs2:=(QV (s:=s) (i:=ka+1) (by omega)).2;clear E hsk;go_wp2_with fail;refine ((uh o).1 _ (ka+1) _ (by omega)).mono ?_;rintro e x ⟨rfl,rfl⟩;generalize sk s (ka+1)=kv at *;have A:=zb (uh HIH kv w2 (by omega) (by omega))
     cases G:val s kv with
     | none=>
      have HN:Hid (val s i=none):=by
       show _=_
       rw[uh X,uh HM,G];rfl
      rw[G]at A;clear G;go_wp2_with fail;refine (uh A).mono ?_;rintro e x ⟨I,t,n,bb,tw,rfl⟩;have R3:=(C.below I).alloc (qH t n false bb tw);have B3:Bw w (x.alloc (qH t n false bb tw)):=(zh L I).alloc (by have:=I.size;omega) _;obtain⟨r0,r1,r2,r3,r4⟩:=R3.cells;obtain⟨q0,q1,q2,q3,q4⟩:=R3.fzs;have R:=zb (R3.put ⟨#[]⟩ 0 0 rfl false false false);have M:=zb (Yw B3 (ye _) (.string ⟨#[]⟩) (.int .i64 0) (.bool false) (.bool false) (.bool false));clear A C R3 L B3 G2 P2;simp only[Qe];go_wp2;try simp only[Exit.inBlock,Exit.then]
      refine bodyPost_ret (Yx rfl rfl (uh R)) rfl ?_;exact GP.bad (uh HN) (uh M)
     | some q=>
      obtain⟨v,n⟩:=q;have hvo:=Vf G;have hvl:=Fy G;have B:Hid (Qt s K=(if bt s (sk s n)=125 then some (JM.cons l v .nil,sk s n+1)else if bt s (sk s n)=44 then (Qt s (sk s (sk s n+1))).map fun r=>(JM.cons l v r.1,r.2)else none).map fun q=>(f.app q.1,q.2)):=by
       show _=_
       rw[uh HM,G];rfl
      rw[G]at A;have hsn1:=Ze s n;have hsn2:=(QV hvo.2).2;clear G HM;have HBB:Hid (ZW (f.app (.cons l v .nil))=(ZW f || zY v)):=by show _=_;rw[NU];simp[ZW]
      have HTT:Hid (ZN [] (f.app (.cons l v .nil))=((ZN [] f || zy v) || VU (zj f) l)):=by
       show _=_
       rw[NX,zgq];simp[ZN,Bool.or_assoc]
      have HCT:Hid (zj (f.app (.cons l v .nil))=zj f++[(l,ct v)]):=by show _=_;rw[LU];simp[zj]
      go_wp2_with fail;refine (uh A).mono ?_;rintro e x ⟨I,rfl⟩;simp only[Qe];have R4:=zb ((C.below I).alloc (qH (ze (ct v)) n true (zY v) (zy v)));have G4:=zb ((G2.below I).alloc (qH (ze (ct v)) n true (zY v) (zy v)));have P4:=zb ((P2.below I).below (QF x (qH (ze (ct v)) n true (zY v) (zy v))));have V4:Hid (Za x.heap.size (ze (ct v)) n true (zY v) (zy v) (x.alloc (qH (ze (ct v)) n true (zY v) (zy v)))):=yG x _;have B4:Hid (Bw w (x.alloc (qH (ze (ct v)) n true (zY v) (zy v)))):=(zh L I).alloc (by have:=I.size;omega) _;have hw3:=I.size;have hgl2:=G2.lt;clear A C G2 P2 L I;simp only[qH]at G4 V4 R4 B4 P4;generalize zY v=Z at *;generalize zy v=W at *;generalize hbm:ZW f=ba at *;generalize htm:ZN [] f=ta at *;generalize hfk:VU (zj f) l=fk at *;have vok:=(uh V4).c2;generalize hw4:x.alloc (.cells #[.string (ze (ct v)),.int .i64 (n:Int),.bool true,.bool Z,.bool W] 135 (0,0))=w4 at *;have hvg:x.heap.size≠w.heap.size+1:=by omega
      go_upto_region 13 with fail;go_cut []from 23 to 102 (fun wx=>wx=w4.setCell ⟨w.heap.size+1,3,none⟩ (.bool (ba || Z)))
      case first=>
       have g3:=(uh G4).c3;have v3:=(uh V4).c3;have f3:=(uh G4).fz 3
       cases ba
       ·go_wp2;go_meet
        case rel=>rfl
       ·go_wp2;go_meet
        case rel=>rfl
      case rest=>
       have G5:Hid (Za (w.heap.size+1) ⟨#[]⟩ 0 true (ba || Z) ta wc):=hcut ▸ (uh G4).set3 (ba || Z);have R5:Hid (Za w.heap.size ⟨#[]⟩ 0 false false false wc):=hcut ▸ (uh R4).other (p:=⟨w.heap.size+1,3,none⟩) (by show _≠w.heap.size+1;omega) _;have V5:Hid (Za x.heap.size (ze (ct v)) n true Z W wc):=hcut ▸ (uh V4).other (p:=⟨w.heap.size+1,3,none⟩) hvg _;have P5:Hid (PR wc (w.heap.size+2) u6 (zj f)):=hcut ▸ (uh P4).other (p:=⟨w.heap.size+1,3,none⟩) (by show w.heap.size+1<_;omega) _;have B5:Hid (Bw w wc):=hcut ▸ (uh B4).setCell (p:=⟨w.heap.size+1,3,none⟩) (by show _<=w.heap.size+1;omega) _;clear hcut G4 R4 V4 P4 B4 vok hw4;generalize (ba || Z)=bb at *;have HFI:Hid (Calls prog 91 #[u6,.string (ze l)] wc fun e w'=>∃ z:Int,e= .returned (.int .i64 z)/\decide ((0:Int)<=z)=fk/\wc=w'):=by
        have h:=zdv (w.heap.size+2) u6 (zj f) l wc (uh P5) (by have:=F2 (zj f);omega);rw[hfk]at h;exact h
       go_upto_region 14 with fail;go_cut []from 23 to 102 (fun wx=>wx=wc.setCell ⟨w.heap.size+1,4,none⟩ (.bool ((ta || W) || fk)))
       case first=>
        have g3:=(uh G5).c4;have v3:=(uh V5).c4;have f3:=(uh G5).fz 4
        cases ta
        ·cases W
         ·go_wp2_with fail;refine (uh HFI).mono ?_;rintro e w6 ⟨z,rfl,hz,rfl⟩;go_wp2;go_meet
          case rel=>rw[← hz];simp
         ·go_wp2;go_meet
          case rel=>rfl
        ·go_wp2;go_meet
         case rel=>rfl
       case rest=>
        have G6:Hid (Za (w.heap.size+1) ⟨#[]⟩ 0 true bb ((ta || W) || fk) wc):=hcut ▸ (uh G5).set4 ((ta || W) || fk);have Y:Hid (Za w.heap.size ⟨#[]⟩ 0 false false false wc):=hcut ▸ (uh R5).other (p:=⟨w.heap.size+1,4,none⟩) (by show _≠w.heap.size+1;omega) _;have V6:Hid (Za x.heap.size (ze (ct v)) n true Z W wc):=hcut ▸ (uh V5).other (p:=⟨w.heap.size+1,4,none⟩) hvg _;have P6:Hid (PR wc (w.heap.size+2) u6 (zj f)):=hcut ▸ (uh P5).other (p:=⟨w.heap.size+1,4,none⟩) (by show w.heap.size+1<_;omega) _;have B6:Hid (Bw w wc):=hcut ▸ (uh B5).setCell (p:=⟨w.heap.size+1,4,none⟩) (by show _<=w.heap.size+1;omega) _;clear hcut G5 R5 V5 P5 B5 HFI hfk;generalize ((ta || W) || fk)=tt at *;have v0:=(uh V6).c0;have hw6:=(uh V6).lt;have y:wc.ownsRow (w.heap.size+2) 99 2 u6 (zj f).length ((zj f).flatMap ZQ):=uh P6;have hcl:=F2 (zj f);have ab:∀ k,u6.ownBlock=some k->w.heap.size+2<=k/\k≠x.heap.size:=fun k F=>by
         refine⟨(y.lt k F).1,fun e=>?_⟩;subst e;rcases y.2 with ⟨G,_⟩ |⟨gg,cap,cur,G,_,U,_⟩
         ·rw[G]at F;cases F
         ·rw[G]at F;injection F with F;rw[show gg=x.heap.size from F,uh V6]at U;injection U with U;injection U with _ h2;exact absurd h2 (by decide)
        have H:=zb ab;clear ab;go_wp2_with (at_builtin;refine wpList_append_own _ rfl (.tmp 72) (.tmp 77) 92 rfl (w.heap.size+2) 99 i0 (.agg #[.string ByteArray.empty,.string ByteArray.empty]) 2 32 underlying92 hi0 hz0 hz1 hz2 rfl (by decide) _ _ _ rfl (y.alloc _) ⟨wc.heap.size,0,none⟩ 1 1 (ZQ (l,ct v)) rfl rfl (Vm _ _ _ _) (fun u hu=>by {simp[ZQ]at hu;rcases hu with rfl | rfl<;>rfl}) (by unfold maxLen;omega) (by omega) (by simp;omega) ?_;intro v7 w7 ad hg7 _;have hg8:(wc.alloc (.cells #[.string (ze l),.string (ze (ct v))] 99)).grownBy w7 u6.ownBlock:=hg7;have keep:∀ k,k<wc.heap.size->some k≠u6.ownBlock->w7.heap[k]?=wc.heap[k]?:=(fun k F hn=>(hg8.block k (by simp;omega) hn).trans (Lib.alloc_old wc _ k F));have G7:Hid (Za (w.heap.size+1) ⟨#[]⟩ 0 true bb tt w7):=(keep _ (uh G6).lt (fun e=>by have:=(uh H _ e.symm).1;omega)).trans (uh G6);have R7:Hid (Za w.heap.size ⟨#[]⟩ 0 false false false w7):=(keep _ (uh Y).lt (fun e=>by have:=(uh H _ e.symm).1;omega)).trans (uh Y);have V7:Hid (Za x.heap.size (ze (ct v)) n true Z W w7):=(keep _ (uh V6).lt (fun e=>(uh H _ e.symm).2 rfl)).trans (uh V6);have P7:Hid (PR w7 (w.heap.size+2) v7 (zj f++[(l,ct v)])):=(by show PR w7 (w.heap.size+2) v7 (zj f++[(l,ct v)]);unfold PR;rw[yh,List.flatMap_append];simpa using ad);have B7:Hid (Bw w w7):=((uh B6).alloc (by omega) _).grown hg8 (by simp;omega) (fun k F=>by have:=(uh H k F).1;omega);have v71:=(uh V7).c1;clear ad hg7 hg8 keep y G6 Y V6 P6 B6 H v0);refine ((uh o).1 _ n _ rfl).mono ?_;rintro e w8 ⟨rfl,rfl⟩;clear v71 V7;rw[← uh HCT]at P7;have hsl2:Zd (zj (f.app (.cons l v .nil)))<=31*sk s n:=by
         rw[uh HCT,RB];have e2:Zd [(l,ct v)]=(quoted l).length+1+(ct v).length+1:=by simp[Zd,zn];omega
         have:=UB l;omega
        have aa:Hid (∀ p∈zj (f.app (.cons l v .nil)),p.1.length<=1048576):=fun p V=>by
         rw[uh HCT]at V;rcases List.mem_append.1 V with V | V
         ·exact uh HKL p V
         ·simp at V;subst V;show l.length<=_;omega
        generalize sk s n=k at *;generalize hA2:f.app (.cons l v .nil)=m at *;go_wp2_with fail;refine ((uh o).2 125 k _ (by decide)).mono ?_;rintro e w8 ⟨rfl,rfl⟩;by_cases g:bt s k=125
        ·rw[yj g];have HVV:Hid (val s i=some (.obj m,k+1)):=by
          show _=_
          rw[uh X,uh B,yg g,← hA2];rfl
         have HSO:=zb (Tq _ _ _ _ (uh P7) (by have:=F2 (zj m);omega));clear g B;go_wp2_with fail;refine (uh HSO).mono ?_;rintro e w9 ⟨v9,rfl,p9,b9⟩;have HMK:=zb (Cz _ _ _ _ p9 (by rw[KI];omega) (by have:=F2 (zH (zj m));rw[KI]at this;omega) (fun p V=>by
          have:p∈zj m:=by
           have hm:=qL (zj m);exact hm.mem_iff.1 V
          exact uh aa p this))
         have G9:=(uh G7).below b9;have R9:=(uh R7).below b9;have B9:=zh (uh B7) b9;clear HSO p9 b9 G7 R7 B7 P7;go_wp2_with fail;refine (uh HMK).mono ?_;rintro e w10 ⟨rfl,S⟩;have N:=G9.below S;have R10:=R9.below S;have B10:=zh B9 S;clear G9 R9 B9 S HMK;have HSF:Hid (ze (ct (.obj m))=ze (qX (zH (zj m)))):=by show _=_;rw[ct]
         generalize ze (qX (zH (zj m)))=sf at *;have c0:=N.c0;have f0:=N.fz 0;have O:=N.set0 sf;have c71:=O.c1;have f71:=O.fz 1;have G12:=O.set1 ((k:Int)+1) (k+1) (by omega);have Q:=(R10.other (p:=⟨w.heap.size+1,0,none⟩) (by show _≠w.heap.size+1;omega) (.string sf)).other (p:=⟨w.heap.size+1,1,none⟩) (by show _≠w.heap.size+1;omega) (.int .i64 ((k:Int)+1));have B12:=(B10.setCell (p:=⟨w.heap.size+1,0,none⟩) (by show _<=w.heap.size+1;omega) (.string sf)).setCell (p:=⟨w.heap.size+1,1,none⟩) (by show _<=w.heap.size+1;omega) (.int .i64 ((k:Int)+1));obtain⟨a0,a1',a2,a3,a4⟩:=G12.cells;have a1:=a1'.trans (show _=some (Value.int .i64 ((k:Int)+1)) by rw[show ((k+1:Nat):Int)=(k:Int)+1 from by omega]);obtain⟨r0,r1,r2,r3,r4⟩:=Q.cells;obtain⟨q0,q1,q2,q3,q4⟩:=Q.fzs;have R:=zb (Q.copyTo G12 ((k:Int)+1) (by omega));have M:=zb (fun a b c d e=>Yw B12 (ye _) a b c d e);clear a1' N O G12 R10 Q B10 B12 X;go_wp2;try simp only[Exit.inBlock,Exit.then]
         refine bodyPost_ret (Yx rfl rfl (uh R)) rfl ?_;rw[uh HVV];refine⟨uh M _ _ _ _ _,?_⟩;show _=Ending.returned (Qe (ze (ct (.obj m))) (k+1) true (ZW m) (ZN [] m))
         rw[uh HSF,uh HBB,uh HTT]
        ·rw[yk g];go_wp2_with fail;refine ((uh o).2 44 k _ (by decide)).mono ?_;rintro e w8 ⟨rfl,rfl⟩;by_cases D:bt s k=44
         ·rw[yj D];have hkl:k<s.size:=zZ (by omega);have HST2:Hid (Qt s K=(Qt s (sk s (k+1))).map fun q=>(m.app q.1,q.2)):=by
           show _=_
           rw[uh B,yf g,yg D,Option.map_map,← hA2];congr 1;funext q;simp[JM.app_assoc,JM.app]
          have hs1:=Ze s (k+1);have hs2:=(QV (s:=s) (i:=k+1) (by omega)).2;clear B g D;go_wp2_with fail;refine ((uh o).1 _ (k+1) _ (by omega)).mono ?_;rintro e w9 ⟨rfl,rfl⟩;go_wp2;go_roundg (s.size+1 - sk s (k+1))
          case rel=>exact⟨sk s (k+1),m,rfl,rfl,by omega,hs2,uh R7,by rw[uh HBB,uh HTT];exact uh G7,uh P7,uh B7,by omega,uh aa,uh HST2⟩
          case measure=>omega
         ·rw[yk D];have HN:Hid (val s i=none):=by
           show _=_
           rw[uh X,uh B,yf g,yf D];rfl
          have Y:=uh R7;obtain⟨r0,r1,r2,r3,r4⟩:=Y.cells;obtain⟨q0,q1,q2,q3,q4⟩:=Y.fzs;have R:=zb (Y.put ⟨#[]⟩ 0 0 rfl false false false);have M:=zb (Yw (uh B7) (ye _) (.string ⟨#[]⟩) (.int .i64 0) (.bool false) (.bool false) (.bool false));clear Y G7 R7 B7 P7 B g D;go_wp2;try simp only[Exit.inBlock,Exit.then]
          refine bodyPost_ret (Yx rfl rfl (uh R)) rfl ?_;exact GP.bad (uh HN) (uh M)
    ·rw[yk E];have HN:Hid (val s i=none):=by
      show _=_
      rw[uh X,uh HM,yf E];rfl
     obtain⟨r0,r1,r2,r3,r4⟩:=C.cells;obtain⟨q0,q1,q2,q3,q4⟩:=C.fzs;have R:=zb (C.put ⟨#[]⟩ 0 0 rfl false false false);have M:=zb (Yw L (ye _) (.string ⟨#[]⟩) (.int .i64 0) (.bool false) (.bool false) (.bool false));clear C L G2 P2 E;go_wp2;try simp only[Exit.inBlock,Exit.then]
     refine bodyPost_ret (Yx rfl rfl (uh R)) rfl ?_;exact GP.bad (uh HN) (uh M)
theorem CA{s:Bs}{i:Nat}(h:i+4<=s.size):Zc s i (i+4)=[s.data.toList.getD i 0,s.data.toList.getD (i+1) 0,s.data.toList.getD (i+2) 0,s.data.toList.getD (i+3) 0]:=by
 have e:∀ k,i+k<s.size->s.data.toList.drop (i+k)=s.data.toList.getD (i+k) 0 :: s.data.toList.drop (i+k+1):=fun k hk=>by
  rw[Qn s (i+k) hk,List.getD_eq_getElem?_getD,Ol s (i+k) hk];rfl
 unfold Zc;rw[show i+4 - i=4 by omega];have a:=e 0 (by omega);rw[Nat.add_zero]at a;rw[a,e 1 (by omega),e 2 (by omega),e 3 (by omega)];rfl
theorem zgs{s:Bs}{i:Nat}(h:i+5<=s.size):Zc s i (i+5)=[s.data.toList.getD i 0,s.data.toList.getD (i+1) 0,s.data.toList.getD (i+2) 0,s.data.toList.getD (i+3) 0,s.data.toList.getD (i+4) 0]:=by
 have e:∀ k,i+k<s.size->s.data.toList.drop (i+k)=s.data.toList.getD (i+k) 0 :: s.data.toList.drop (i+k+1):=fun k hk=>by
  rw[Qn s (i+k) hk,List.getD_eq_getElem?_getD,Ol s (i+k) hk];rfl
 unfold Zc;rw[show i+5 - i=5 by omega];have a:=e 0 (by omega);rw[Nat.add_zero]at a;rw[a,e 1 (by omega),e 2 (by omega),e 3 (by omega),e 4 (by omega)];rfl
theorem Yj(a:UInt8)(n:Nat)(h:n<256):(a=UInt8.ofNat n)↔a.toNat=n:=by
 constructor
 ·rintro rfl;rw[UInt8.toNat_ofNat'];omega
 ·intro e;apply UInt8.toNat_inj.1;rw[UInt8.toNat_ofNat'];omega
theorem CB(s:Bs)(i:Nat):(decide (i+4<=s.size) && (s.extract i (i+4)).toList ==[110,117,108,108])=QK s i:=by
 by_cases h:i+4<=s.size
 ·rw[yj h,Bool.true_and,Wu,CA h];unfold QK bt;rw[Bool.eq_iff_iff];simp only[yC,Bool.and_eq_true,List.cons.injEq,and_true];rw[show (110:UInt8)=UInt8.ofNat 110 from rfl,show (117:UInt8)=UInt8.ofNat 117 from rfl,show (108:UInt8)=UInt8.ofNat 108 from rfl,Yj _ _ (by decide),Yj _ _ (by decide),Yj _ _ (by decide),Yj _ _ (by decide)];simp only[and_assoc]
 ·rw[yk h,Bool.false_and];by_cases a:QK s i=true
  ·exact absurd (Ul a) h
  ·simpa using a
theorem CD(s:Bs)(i:Nat):(decide (i+4<=s.size) && (s.extract i (i+4)).toList ==[116,114,117,101])=QX s i:=by
 by_cases h:i+4<=s.size
 ·rw[yj h,Bool.true_and,Wu,CA h];unfold QX bt;rw[Bool.eq_iff_iff];simp only[yC,Bool.and_eq_true,List.cons.injEq,and_true];rw[show (116:UInt8)=UInt8.ofNat 116 from rfl,show (114:UInt8)=UInt8.ofNat 114 from rfl,show (117:UInt8)=UInt8.ofNat 117 from rfl,show (101:UInt8)=UInt8.ofNat 101 from rfl,Yj _ _ (by decide),Yj _ _ (by decide),Yj _ _ (by decide),Yj _ _ (by decide)];simp only[and_assoc]
 ·rw[yk h,Bool.false_and];by_cases a:QX s i=true
  ·exact absurd (Um a) h
  ·simpa using a
theorem zgt(s:Bs)(i:Nat):(decide (i+5<=s.size) && (s.extract i (i+5)).toList ==[102,97,108,115,101])=Ji s i:=by
 by_cases h:i+5<=s.size
 ·rw[yj h,Bool.true_and,Wu,zgs h];unfold Ji bt;rw[Bool.eq_iff_iff];simp only[yC,Bool.and_eq_true,List.cons.injEq,and_true];rw[show (102:UInt8)=UInt8.ofNat 102 from rfl,show (97:UInt8)=UInt8.ofNat 97 from rfl,show (108:UInt8)=UInt8.ofNat 108 from rfl,show (115:UInt8)=UInt8.ofNat 115 from rfl,show (101:UInt8)=UInt8.ofNat 101 from rfl,Yj _ _ (by decide),Yj _ _ (by decide),Yj _ _ (by decide),Yj _ _ (by decide),Yj _ _ (by decide)];simp only[and_assoc]
 ·rw[yk h,Bool.false_and];by_cases a:Ji s i=true
  ·exact absurd (Kj a) h
  ·simpa using a
theorem zgu{s:Bs}{i:Nat}(h:QK s i=true):Zc s i (i+4)=[110,117,108,108]:=by
 have a:=CB s i;rw[h,yj (Ul h),Bool.true_and,yC,Wu]at a;exact a
theorem zgv{s:Bs}{i:Nat}(h:QX s i=true):Zc s i (i+4)=[116,114,117,101]:=by
 have a:=CD s i;rw[h,yj (Um h),Bool.true_and,yC,Wu]at a;exact a
theorem GP.form{w0 w2:Wo}{o:Option (JV×Nat)}{e:Ending}(h:GP w0 o e w2):∃ t n ok b tw,e= .returned (Qe t n ok b tw)/\Bw w0 w2/\∀ W W',Bw W W'->GP W o (.returned (Qe t n ok b tw)) W':=by
 obtain⟨a,h⟩:=h
 cases o with
 | none=>
  obtain⟨t,n,b,tw,rfl⟩:=h;exact⟨t,n,false,b,tw,rfl,a,fun W W' hW=>⟨hW,t,n,b,tw,rfl⟩⟩
 | some q=>
  exact⟨_,_,_,_,_,h,a,fun W W' hW=>⟨hW,rfl⟩⟩
theorem F3(w:Wo):Za w.heap.size ⟨#[]⟩ 0 false false false (w.alloc (qH ⟨#[]⟩ 0 false false false)):=yG w _
theorem CE (s:Bs) (i:Nat) (w:Wo) (hs:s.size<=100000) (hi:i<=s.size)
  (IH:∀ (j:Nat) (w:Wo),i<j->j<=s.size->Calls prog 82 #[.string s,.int .i64 j] w (GP w (val s j))):
  Calls prog 82 #[.string s,.int .i64 i] w (GP w (val s i)):=by
 have I:=zb (Pf s (by omega));have o:Hid (∀ w,i<s.size->bt s i=91->Calls prog 115 #[.string s,.int .i64 i] w (GP w (val s i))):=fun w K h=>zdH s i w (by omega) K h IH;have r:Hid (∀ w,i<s.size->bt s i=123->Calls prog 116 #[.string s,.int .i64 i] w (GP w (val s i))):=fun w K h=>zgr s i w hs K h IH;have p:Hid (∀ w,Calls prog 119 #[.string s,.int .i64 i] w (GP w ((nm s i).map fun q=>(.num q.1,q.2)))):=fun w=>zbE s i w (by omega) (by omega);have u:Hid (∀ w,Calls prog 85 #[.string s,.int .i64 i] w (Kr s w (ZD s i))):=fun w=>Ks s i w (by omega) (by omega);have v:Hid (∀ w,Calls prog 118 #[.string s,.int .i64 i,.string ⟨#[110,117,108,108]⟩] w (Rk (.bool (QK s i)) w)):=fun w=>by
  have h:=Pc s ⟨#[110,117,108,108]⟩ i w (by omega) (by decide) (by omega);rw[← CB s i];rw[ByteArray.toList_eq (⟨#[110,117,108,108]⟩:Bs)]at h;exact h
 have x:Hid (∀ w,Calls prog 118 #[.string s,.int .i64 i,.string ⟨#[116,114,117,101]⟩] w (Rk (.bool (QX s i)) w)):=fun w=>by
  have h:=Pc s ⟨#[116,114,117,101]⟩ i w (by omega) (by decide) (by omega);rw[← CD s i];rw[ByteArray.toList_eq (⟨#[116,114,117,101]⟩:Bs)]at h;exact h
 have y:Hid (∀ w,Calls prog 118 #[.string s,.int .i64 i,.string ⟨#[102,97,108,115,101]⟩] w (Rk (.bool (Ji s i)) w)):=fun w=>by
  have h:=Pc s ⟨#[102,97,108,115,101]⟩ i w (by omega) (by decide) (by omega);rw[← zgt s i];rw[ByteArray.toList_eq (⟨#[102,97,108,115,101]⟩:Bs)]at h;exact h
 clear IH;go_in;go_wp2_with fail;refine ((uh I).2 91 i _ (by decide)).mono ?_;rintro e O ⟨rfl,rfl⟩;by_cases A:bt s i=91
 ·rw[yj A];have K:i<s.size:=zZ (by omega);go_wp2_with fail;refine (uh o _ K A).mono ?_;intro e P g;obtain⟨t,n,B,b,F,rfl,m,a⟩:=g.form;have z:=(F3 w).below m;obtain⟨r0,r1,r2,r3,r4⟩:=z.cells;obtain⟨V,X,Y,Z,q4⟩:=z.fzs;have J:=zb (z.put t (n:Int) n rfl B b F);have G:=zb (Yw (zh (QF w _) m) (ye _) (.string t) (.int .i64 (n:Int)) (.bool B) (.bool b) (.bool F));have d:=zb a;clear g m z a o r p u v x y A;simp only[Qe];go_wp2;try simp only[Exit.inBlock,Exit.then]
  refine bodyPost_ret (Yx rfl rfl (uh J)) rfl ?_;exact uh d _ _ (uh G)
 ·rw[yk A];go_wp2_with fail;refine ((uh I).2 123 i _ (by decide)).mono ?_;rintro e O ⟨rfl,rfl⟩;by_cases f:bt s i=123
  ·rw[yj f];have K:i<s.size:=zZ (by omega);go_wp2_with fail;refine (uh r _ K f).mono ?_;intro e P g;obtain⟨t,n,B,b,F,rfl,m,a⟩:=g.form;have z:=(F3 w).below m;obtain⟨r0,r1,r2,r3,r4⟩:=z.cells;obtain⟨V,X,Y,Z,q4⟩:=z.fzs;have J:=zb (z.put t (n:Int) n rfl B b F);have G:=zb (Yw (zh (QF w _) m) (ye _) (.string t) (.int .i64 (n:Int)) (.bool B) (.bool b) (.bool F));have d:=zb a;clear g m z a o r p u v x y A f;simp only[Qe];go_wp2;try simp only[Exit.inBlock,Exit.then]
   refine bodyPost_ret (Yx rfl rfl (uh J)) rfl ?_;exact uh d _ _ (uh G)
  ·rw[yk f];go_wp2_with fail;refine ((uh I).2 34 i _ (by decide)).mono ?_;rintro e O ⟨rfl,rfl⟩;by_cases C:bt s i=34
   ·rw[yj C];have D:=zb (NS C);go_wp2_with fail;refine (uh u _).mono ?_;intro e P N;obtain⟨t,n,B,U,rfl,m,a⟩:∃ (t:Bs) (n:Nat) (B:Bool),t.size<=1048576/\e= .returned (.tuple #[.string t,.int .i64 (n:Int),.bool B])/\Below (w.alloc (qH ⟨#[]⟩ 0 false false false)).heap.size (w.alloc (qH ⟨#[]⟩ 0 false false false)) P/\∀ W W',Bw W W'->GP W (val s i) (.returned (Qe (ze (quoted t.data.toList)) n B false false)) W':=by
     obtain⟨m,R⟩:=N
     cases hq:ZD s i with
     | none=>
      rw[hq]at R;obtain⟨t,k,_,ht,rfl⟩:=R;refine⟨t,k,false,by omega,rfl,m,fun W W' hW=>?_⟩;rw[uh D,hq];exact⟨hW,_,_,_,_,rfl⟩
     | some q=>
      rw[hq]at R;obtain⟨l,k⟩:=q;have hql:=KH hq;have hqo:=Ye hq;refine⟨ze l,k,true,by rw[Zw];omega,R,m,fun W W' hW=>?_⟩;rw[uh D,hq,Zf];exact⟨hW,rfl⟩
    have HQ:=zb (Cx t P U);have z:=(F3 w).below m;have B2:=zh (QF w _) m;have d:=zb a;clear N m a o r p u v x y A f C;go_wp2_with fail;refine (uh HQ).mono ?_;rintro e w3 ⟨rfl,T⟩;have Q:=z.below T;have B3:=zh B2 T;generalize ze (quoted t.data.toList)=qt at *;obtain⟨r0,r1,r2,r3,r4⟩:=Q.cells;obtain⟨V,X,Y,Z,q4⟩:=Q.fzs;have J:=zb (Q.put qt (n:Int) n rfl B false false);have G:=zb (Yw B3 (ye _) (.string qt) (.int .i64 (n:Int)) (.bool B) (.bool false) (.bool false));clear HQ z B2 Q B3 T;go_wp2;try simp only[Exit.inBlock,Exit.then]
    refine bodyPost_ret (Yx rfl rfl (uh J)) rfl ?_;exact uh d _ _ (uh G)
   ·rw[yk C];have D:=zb (VM A f C);clear A f C;go_wp2_with fail;refine (uh v _).mono ?_;rintro e O ⟨rfl,rfl⟩
    cases hw:QK s i with
    | true=>
     have M:=Ul hw;have H:Hid (val s i=some (JV.nul,i+4)):=by show _=_;rw[uh D,yg hw]
     have S:Hid (s.extract i (i+4)=ze (ct JV.nul)):=by show _=_;rw[Ur,zgu hw];rfl
     have i1:(i:Int)<=(i:Int)+4:=by omega
     have i2:(i:Int)+4<=(s.size:Int):=by omega
     have i3:(0:Int)<=(i:Int):=by omega
     clear o r p u v x y hw D;go_wp2;go_returns;rw[uh H,uh S];exact⟨QF w _,rfl⟩
    | false=>
     have L:=hw;clear hw;go_wp2_with fail;refine (uh x _).mono ?_;rintro e O ⟨rfl,rfl⟩
     cases hw:QX s i with
     | true=>
      have M:=Um hw;have H:Hid (val s i=some (JV.tt,i+4)):=by show _=_;rw[uh D,yf (by rw[L];simp),yg hw]
      have S:Hid (s.extract i (i+4)=ze (ct JV.tt)):=by show _=_;rw[Ur,zgv hw];rfl
      have i1:(i:Int)<=(i:Int)+4:=by omega
      have i2:(i:Int)+4<=(s.size:Int):=by omega
      have i3:(0:Int)<=(i:Int):=by omega
      clear o r p u v x y hw D L;go_wp2;go_returns;rw[uh H,uh S];exact⟨QF w _,rfl⟩
     | false=>
      have E:=hw;clear hw;go_wp2_with fail;refine (uh y _).mono ?_;rintro e O ⟨rfl,rfl⟩
      cases hw:Ji s i with
      | true=>
       have M:=Kj hw;have H:Hid (val s i=some (JV.ff,i+5)):=by show _=_;rw[uh D,yf (by rw[L];simp),yf (by rw[E];simp),yg hw]
       clear o r p u v x y hw D L E;go_wp2;go_returns;rw[uh H];exact⟨QF w _,rfl⟩
      | false=>
       have H:Hid (val s i=(nm s i).map fun q=>(JV.num q.1,q.2)):=by show _=_;rw[uh D,yf (by rw[L];simp),yf (by rw[E];simp),yf (by rw[hw];simp)]
       clear hw D L E;go_wp2_with fail;refine (uh p _).mono ?_;intro e P g;rw[← uh H]at g;obtain⟨t,n,B,b,F,rfl,m,a⟩:=g.form;have z:=(F3 w).below m;obtain⟨r0,r1,r2,r3,r4⟩:=z.cells;obtain⟨V,X,Y,Z,q4⟩:=z.fzs;have J:=zb (z.put t (n:Int) n rfl B b F);have G:=zb (Yw (zh (QF w _) m) (ye _) (.string t) (.int .i64 (n:Int)) (.bool B) (.bool b) (.bool F));have d:=zb a;clear g m z a o r p u v x y;simp only[Qe];go_wp2;try simp only[Exit.inBlock,Exit.then]
       refine bodyPost_ret (Yx rfl rfl (uh J)) rfl ?_;exact uh d _ _ (uh G)
theorem CF(s:Bs)(hs:s.size<=100000):∀ (n i:Nat) (w:Wo),s.size - i<=n->i<=s.size->Calls prog 82 #[.string s,.int .i64 i] w (GP w (val s i))
 | 0,i,w,hn,hi=>CE s i w hs hi fun j w' hj hj2=>by omega
 | n+1,i,w,hn,hi=>CE s i w hs hi fun j w' hj hj2=>CF s hs n j w' (by omega) hj2
def UK:Option JV->Sum Nat JV
 | none=>.inl 2
 | some v=>if zY v then .inl 3 else if zy v then .inl 4 else if 100<zL v∨3000<zt v then .inl 5 else .inr v
theorem zgw{s:Bs}(h:¬ 20000<s.size):ZI s=UK (Qj s):=by
 unfold ZI;rw[yf h]
 cases Qj s<;>rfl
theorem CG(s:Bs)(w:Wo)(hz:s.size<=1048576):
  Calls prog 46 #[.string s] w fun e w'=>e= .returned (Qy s)/\Bw w w':=by
 by_cases C:20000<s.size
 ·have tl:(20000:Int)<(s.size:Int):=by omega
  have x:Hid (Qy s= .tuple #[.string ⟨#[]⟩,.int .i64 1]):=by show _=_;unfold Qy ZI;rw[yg C];rfl
  clear C;go_in;go_wp2;go_ret2;exact⟨by rw[uh x];rfl,yH _ _⟩
 ·have tl:¬ (20000:Int)<(s.size:Int):=by omega
  have K:sk s 0<=s.size:=(QV (yt _)).2;have k:Hid (∀ (i:Nat) (w:Wo),Calls prog 83 #[.string s,.int .i64 (i:Int)] w (Rk (.int .i64 ((sk s i:Nat):Int)) w)):=fun i w=>Md s i w hz;have g:Hid (Calls prog 83 #[.string s,.int .i64 0] w (Rk (.int .i64 ((sk s 0:Nat):Int)) w)):=uh k 0 w;have f:=zb (CF s (by omega) s.size (sk s 0) w (by omega) K);have u:Hid (ZI s=UK (Qj s)):=zgw C;have d:Qj s=(val s (sk s 0)).bind fun q=>if sk s q.2=s.size then some q.1 else none:=rfl
  cases hv:val s (sk s 0)with
  | none=>
   rw[hv]at f d;have x:Hid (Qy s= .tuple #[.string ⟨#[]⟩,.int .i64 2]):=by show _=_;unfold Qy;rw[uh u,d];rfl
   clear u d hv C;go_in;go_wp2_with fail;refine (uh g).mono ?_;rintro e p ⟨rfl,rfl⟩;go_wp2_with fail;refine (uh f).mono ?_;rintro e p ⟨o,t,n,b,G,rfl⟩;have r:=o.alloc o.size (.cells #[.string t,.int .i64 (n:Int),.bool false,.bool b,.bool G] 135);clear g f k;simp only[Qe];go_wp2;go_ret2;exact⟨by rw[uh x];rfl,r⟩
  | some q=>
   obtain⟨v,n⟩:=q;obtain⟨N,O⟩:=Vf hv;have y:=L5 hv;have z:=TP hv;have A:=Fy hv;rw[hv]at f d;simp only[yA]at d;by_cases E:sk s n=s.size
   ·rw[yg E]at d;have P:((sk s n:Int) !=(s.size:Int))=false:=by rw[bne_eq_false_iff_eq];omega
    rw[d]at u;have j:=zb (fun w=>uh k n w);have l:Hid (∀ w:Wo,Calls prog 51 #[.string (ze (ct v))] w (Rb (.bool (decide (zL v<=100/\zt v<=3000))) w)):=fun w=>TO v y w (by omega) (by omega)
    cases hb:zY v with
    | true=>
     have x:Hid (Qy s= .tuple #[.string ⟨#[]⟩,.int .i64 3]):=by show _=_;unfold Qy;rw[uh u,UK,hb];rfl
     have a:Hid (Calls prog 82 #[.string s,.int .i64 ((sk s 0:Nat):Int)] w (Rb (Qe (ze (ct v)) n true true (zy v)) w)):=(uh f).mono fun e w' h=>⟨by have:=h.2;simp only[Option.elim_some]at this;rw[hb]at this;exact this,h.1⟩;generalize ze (ct v)=B at *;generalize zy v=G at *;generalize sk s n=m at *;clear f u d hv C E hb l k y z A;go_in;go_wp2_with fail;refine (uh g).mono ?_;rintro e p ⟨rfl,rfl⟩;go_wp2_with fail;refine (uh a).mono ?_;rintro e p ⟨rfl,o⟩;have r:=o.alloc o.size (.cells #[.string B,.int .i64 (n:Int),.bool true,.bool true,.bool G] 135);clear g a;simp only[Qe];go_wp2_with fail;refine (uh j _).mono ?_;rintro e I ⟨rfl,rfl⟩;clear j;go_wp2;go_ret2;exact⟨by rw[uh x];rfl,r⟩
    | false=>
     cases ht:zy v with
     | true=>
      have x:Hid (Qy s= .tuple #[.string ⟨#[]⟩,.int .i64 4]):=by show _=_;unfold Qy;rw[uh u,UK,hb,ht];rfl
      have a:Hid (Calls prog 82 #[.string s,.int .i64 ((sk s 0:Nat):Int)] w (Rb (Qe (ze (ct v)) n true false true) w)):=(uh f).mono fun e w' h=>⟨by have:=h.2;simp only[Option.elim_some]at this;rw[hb,ht]at this;exact this,h.1⟩;generalize ze (ct v)=B at *;generalize sk s n=m at *;clear f u d hv C E hb ht l k y z A;go_in;go_wp2_with fail;refine (uh g).mono ?_;rintro e p ⟨rfl,rfl⟩;go_wp2_with fail;refine (uh a).mono ?_;rintro e p ⟨rfl,o⟩;have r:=o.alloc o.size (.cells #[.string B,.int .i64 (n:Int),.bool true,.bool false,.bool true] 135);clear g a;simp only[Qe];go_wp2_with fail;refine (uh j _).mono ?_;rintro e I ⟨rfl,rfl⟩;clear j;go_wp2;go_ret2;exact⟨by rw[uh x];rfl,r⟩
     | false=>
      have a:Hid (Calls prog 82 #[.string s,.int .i64 ((sk s 0:Nat):Int)] w (Rb (Qe (ze (ct v)) n true false false) w)):=(uh f).mono fun e w' h=>⟨by have:=h.2;simp only[Option.elim_some]at this;rw[hb,ht]at this;exact this,h.1⟩;by_cases H:zL v<=100/\zt v<=3000
      ·have x:Hid (Qy s= .tuple #[.string (ze (ct v)),.int .i64 0]):=by show _=_;unfold Qy;rw[uh u,UK,hb,ht,yf (by decide),yf (by decide),yf (by omega)]
       rw[yj H]at l;generalize ze (ct v)=B at *;generalize sk s n=m at *;clear f u d hv C E hb ht k y z A H;go_in;go_wp2_with fail;refine (uh g).mono ?_;rintro e p ⟨rfl,rfl⟩;go_wp2_with fail;refine (uh a).mono ?_;rintro e p ⟨rfl,o⟩;have r:=zb (o.alloc o.size (.cells #[.string B,.int .i64 (n:Int),.bool true,.bool false,.bool false] 135));clear g a;simp only[Qe];go_wp2_with fail;refine (uh j _).mono ?_;rintro e I ⟨rfl,rfl⟩;clear j;have L:Za p.heap.size B n true false false (p.alloc (.cells #[.string B,.int .i64 (n:Int),.bool true,.bool false,.bool false] 135)):=yG p _;have F:=zb L;clear L;go_wp2_with fail;refine (uh l _).mono ?_;rintro e Q ⟨rfl,D⟩;have c3:=((uh F).below D).c0;have J:=zh (uh r) D;clear l F D r;go_wp2;go_ret2;exact⟨by rw[uh x];rfl,J⟩
      ·have x:Hid (Qy s= .tuple #[.string ⟨#[]⟩,.int .i64 5]):=by show _=_;unfold Qy;rw[uh u,UK,hb,ht,yf (by decide),yf (by decide),yg (by omega)];rfl
       rw[yk H]at l;generalize ze (ct v)=B at *;generalize sk s n=m at *;clear f u d hv C E hb ht k y z A H;go_in;go_wp2_with fail;refine (uh g).mono ?_;rintro e p ⟨rfl,rfl⟩;go_wp2_with fail;refine (uh a).mono ?_;rintro e p ⟨rfl,o⟩;have r:=zb (o.alloc o.size (.cells #[.string B,.int .i64 (n:Int),.bool true,.bool false,.bool false] 135));clear g a;simp only[Qe];go_wp2_with fail;refine (uh j _).mono ?_;rintro e I ⟨rfl,rfl⟩;clear j;go_wp2_with fail;refine (uh l _).mono ?_;rintro e Q ⟨rfl,D⟩;have J:=zh (uh r) D;clear l D r;go_wp2;go_ret2;exact⟨by rw[uh x];rfl,J⟩
   ·rw[yf E]at d;have P:((sk s n:Int) !=(s.size:Int))=true:=by rw[bne_iff_ne];omega
    have x:Hid (Qy s= .tuple #[.string ⟨#[]⟩,.int .i64 2]):=by show _=_;unfold Qy;rw[uh u,d];rfl
    have j:=zb (fun w=>uh k n w);have a:Hid (Calls prog 82 #[.string s,.int .i64 ((sk s 0:Nat):Int)] w (Rb (Qe (ze (ct v)) n true (zY v) (zy v)) w)):=(uh f).mono fun e w' h=>⟨h.2,h.1⟩;generalize ze (ct v)=B at *;generalize zy v=G at *;generalize zY v=M at *;generalize sk s n=m at *;clear f u d hv C k y z A;go_in;go_wp2_with fail;refine (uh g).mono ?_;rintro e p ⟨rfl,rfl⟩;go_wp2_with fail;refine (uh a).mono ?_;rintro e p ⟨rfl,o⟩;have r:=o.alloc o.size (.cells #[.string B,.int .i64 (n:Int),.bool true,.bool M,.bool G] 135);clear g a;simp only[Qe];go_wp2_with fail;refine (uh j _).mono ?_;rintro e I ⟨rfl,rfl⟩;clear j;go_wp2;go_ret2;exact⟨by rw[uh x];rfl,r⟩
def QA(ps:List zK):Nat:=(ps.map (fun p=>p.2.length+1)).sum
theorem zgx(ps:List zK)(j:Nat)(h:j<ps.length):joinC ((ps.take (j+1)).map (·.2))=joinC ((ps.take j).map (·.2))++(if j=0 then ps[j].2 else 44 :: ps[j].2):=by
 rw[yy h,yw,List.map_singleton,X0];by_cases a:j=0
 ·subst a;simp
 ·rw[yf (by simp;exact⟨a,by intro e;subst e;simp at h⟩),yf a]
theorem CH(a b:List zK):QA (a++b)=QA a+QA b:=by
 unfold QA;rw[yw,List.sum_append]
theorem CI(ps:List zK)(j:Nat):QA (ps.take j)<=QA ps:=by
 have h:=congrArg QA (List.take_append_drop j ps);have e:=CH (ps.take j) (ps.drop j);omega
theorem zgy(ps:List zK)(j:Nat):(joinC ((ps.take j).map (·.2))).length<=QA ps:=by
 have h:=Fx ((ps.take j).map (·.2));have a:=CI ps j;rw[List.map_map]at h;exact yP h a
theorem zgz(ps:List zK)(j:Nat)(h:j<ps.length):ps[j].2.length+1<=QA ps:=by
 have a:=CI ps (j+1);rw[yy h]at a;have e:QA (ps.take j++[ps[j]])=QA (ps.take j)+(ps[j].2.length+1):=by rw[CH];simp[QA]
 omega
theorem zgA(B:Nat)(v:Value)(ps:List zK)(w:Wo)(h:PR w B v ps)(hn:QA ps<=40000000)(hl:ps.length<=40000000):
  Calls prog 152 #[v] w fun e w'=>e= .returned (.string (ze (qg (ps.map (·.2)))))/\Bw w w':=by
 obtain⟨V,G,J,K,L⟩:=info_parts WV;obtain⟨x,len,O,rfl,T⟩:∃ x len O,v= .slice x len O/\len=ps.length:=by
  rcases h.2 with ⟨hv,h0⟩ |⟨g,O,cur,hv,_⟩
  ·exact⟨_,_,_,hv,h0.symm⟩
  ·exact⟨_,_,_,hv,rfl⟩
 subst T;have HP:=zb h;clear h;go_in;go_wp2_with fail;go_loopw [3,4] (fun r k wr=>∃ (j:Nat) (l:List UInt8),k= .int .i64 (j:Int)/\j<=ps.length/\l=91 :: joinC ((ps.take j).map (·.2))/\wr.ownsRow w.heap.size 5 1 r (Lib.byteCells l).length (Lib.byteCells l)/\Bw w wr) (fun _ k _=>ps.length - (intOf k).toNat)
 case atStart=>
  exact⟨0,[91],rfl,yt _,rfl,World.ownsRow_lit w #[.int .u8 91] 1 (ye _) (by unfold maxLen;omega) rfl,(yH _ _).alloc (ye _) _⟩
 case round=>
  obtain⟨j,l,rfl,hj,y,a,hb⟩:=hrel;have Y:=zb y;have M:=zb hb;have D:=hb.size;have hal:l.length<=40000001:=by
   have:=zgy ps j;rw[y];simp only[yn];omega
  clear y hb;by_cases H:j<ps.length
  ·have t1:((j:Int)<(ps.length:Int))=True:=eq_true (by omega);have i1:(0:Int)<=(j:Int):=by omega
   have i2:(j:Int)<(ps.length:Int):=by omega
   have hm:=zgz ps j H;have U:=zb (zgx ps j H);by_cases I:j=0
   ·have t2:(0<j)=False:=yQ (by omega);rw[yg I]at U;obtain⟨g,S,he,hgB,P,c0,c1⟩:=(uh HP).cells j H;injection he with he1 he2 he3;subst he1;subst he3;generalize ps[j]=p at *;clear I;have N:wr.cell? ⟨g,j*2+1,none⟩=some (.string (ze p.2)):=((uh M).cell P).trans c1;have Z:=c1;clear c0 c1;obtain⟨u,W3,F,d,R,C,hs3⟩:=UR wr p.2;have i:=C _ _ _ _ _ a;have Q:=(uh M).trans (R.mono D);have b:=zb d;clear d C a;go_wp2_with (at_builtin;refine wpList_append_own _ rfl (.tmp 17) (.tmp 23) 160 rfl w.heap.size 5 V (.int .u8 0) 1 1 underlying160 G J K L rfl (by decide) _ _ _ rfl i ⟨wr.heap.size,0,none⟩ p.2.length u (Lib.byteCells p.2) rfl (by rw[yK];omega) (by exact uh b) (UQ _) (by rw[yK];unfold maxLen;omega) (by rw[yK];omega) (by omega) ?_;intro v4 w4 o A _;have W:Bw w w4:=Q.grown A (by omega) (fun k hk=>(i.lt k hk).1));have q:=qU (m:=p.2) o rfl rfl;clear o A i b Q F R N Z M;go_wp2;go_roundw
    all_goals first
     | exact⟨j+1,l++p.2,by go_num,by omega,by rw[uh Y,uh U];simp,q,W⟩
     |(simp[intOf];omega)
   ·have t2:(0<j)=True:=eq_true (by omega);rw[yf I]at U;obtain⟨g,S,he,hgB,P,c0,c1⟩:=(uh HP).cells j H;injection he with he1 he2 he3;subst he1;subst he3;generalize ps[j]=p at *;clear I;have E:Hid (∀ X:Wo,Bw w X->X.cell? ⟨g,j*2+1,none⟩=some (.string (ze p.2))):=fun X hX=>(hX.cell P).trans c1;clear c0 c1;go_wp2_with (at_builtin;refine wpList_append_own _ rfl (.tmp 14) (.tmp 15) 160 rfl w.heap.size 5 V (.int .u8 0) 1 1 underlying160 G J K L rfl (by decide) _ _ _ rfl (a.alloc _) ⟨wr.heap.size,0,none⟩ 1 1 [.int .u8 44] rfl rfl (QD _ _ _) (YG _ _) (by rw[yK];unfold maxLen;omega) (by rw[yK];omega) (by simp;omega) ?_);intro v1 w1 n z _;have f:=qU (m:=[44]) n rfl rfl;have s:=zb (((uh M).alloc D _).grown z (by simp;omega) (fun k hk=>(a.lt k hk).1));have hw1:=(uh s).size;have hal1:(l++[44]).length<=40000002:=by simp;omega
    obtain⟨u,W3,F,d,R,C,hs3⟩:=UR w1 p.2;have i:=C _ _ _ _ _ f;have Q:=(uh s).trans (R.mono hw1);have b:=zb d;have N:=uh E _ (uh s);clear n z a M f d C;go_wp2_with (at_builtin;refine wpList_append_own _ rfl (.tmp 17) (.tmp 23) 160 rfl w.heap.size 5 V (.int .u8 0) 1 1 underlying160 G J K L rfl (by decide) _ _ _ rfl i ⟨w1.heap.size,0,none⟩ p.2.length u (Lib.byteCells p.2) rfl (by rw[yK];omega) (by exact uh b) (UQ _) (by rw[yK];unfold maxLen;omega) (by rw[yK];omega) (by omega) ?_;intro v4 w4 o A _;have W:Bw w w4:=Q.grown A (by omega) (fun k hk=>(i.lt k hk).1));have q:=qU (m:=p.2) o rfl rfl;clear o A i b Q F R N s E;go_wp2;go_roundw
    all_goals first
     | exact⟨j+1,(l++[44])++p.2,by go_num,by omega,by rw[uh Y,uh U];simp,q,W⟩
     |(simp[intOf];omega)
  ·have t1:((j:Int)<(ps.length:Int))=False:=yQ (by omega);have HE:Hid (l++[93]=qg (ps.map (·.2))):=by
    show _=_
    rw[uh Y,yq (by omega)];simp[qg]
   go_wp2_with (at_builtin;refine wpList_append_own _ rfl (.tmp 25) (.tmp 26) 160 rfl w.heap.size 5 V (.int .u8 0) 1 1 underlying160 G J K L rfl (by decide) _ _ _ rfl (a.alloc _) ⟨wr.heap.size,0,none⟩ 1 1 [.int .u8 93] rfl rfl (QD _ _ _) (YG _ _) (by rw[yK];unfold maxLen;omega) (by rw[yK];omega) (by simp;omega) ?_;intro v1 w1 n z _;have f:=qU (m:=[93]) n rfl rfl;have s:=zb (((uh M).alloc D _).grown z (by simp;omega) (fun k hk=>(a.lt k hk).1));have F:=WW f;clear n z f a M);go_ret;exact⟨by rw[← uh HE];rfl,uh s⟩
end Go.Proofs.YtekpghcckdjnhaaGreatDoor
