import Derived.Test.YtekpghcckdjnhaaGreatDoorBz3
import Derived.Sort.Walk0
import Derived.Deep.RegionHeld3
set_option maxRecDepth 100000
set_option maxHeartbeats 8000000
namespace Go.Proofs.YtekpghcckdjnhaaGreatDoor
open Go.RowKit Go.Proofs.Tryz
abbrev zK:=List UInt8×List UInt8
def ZQ(p:zK):List Value:=[.string (ze p.1),.string (ze p.2)]
def PR(w:Wo)(B:Nat)(v:Value)(ps:List zK):Prop:=w.ownsRow B 99 2 v ps.length (ps.flatMap ZQ)
theorem zdu(ps:List zK)(j:Nat)(h:j<ps.length):(ps.flatMap ZQ)[j*2]?=some (.string (ze ps[j].1))/\(ps.flatMap ZQ)[j*2+1]?=some (.string (ze ps[j].2)):=by
 induction ps generalizing j with
 | nil=>simp at h
 | cons p r ih=>
  cases j with
  | zero=>exact⟨rfl,rfl⟩
  | succ j=>
   have:=ih j (by simpa using h);rw[List.flatMap_cons,show (j+1)*2=j*2+2 from by omega];exact this
theorem PR.cells{w:Wo}{B:Nat}{v:Value}{ps:List zK}(h:PR w B v ps)(j:Nat)(hj:j<ps.length):
  ∃ g cap,v= .slice (some ⟨g,0,none⟩) ps.length cap/\B<=g/\g<w.heap.size/\w.cell? ⟨g,j*2,none⟩=some (.string (ze ps[j].1))/\w.cell? ⟨g,j*2+1,none⟩=some (.string (ze ps[j].2)):=by
 obtain⟨o,m |⟨g,cap,f,l,i,b,p,n,k,d⟩⟩:=h
 ·omega
 ·have a:=zdu ps j hj;refine⟨g,cap,l,i,(yB.1 b).1,?_,?_⟩
  ·rw[yF b,← Array.getElem?_toList,← a.1,← d,List.getElem?_take_of_lt (by omega)]
  ·rw[yF b,← Array.getElem?_toList,← a.2,← d,List.getElem?_take_of_lt (by omega)]
theorem PR.below{w w':Wo}{B:Nat}{v:Value}{ps:List zK}(h:PR w B v ps)(hb:Bw w w'):PR w' B v ps:=ZB h hb
def VU(ps:List zK)(key:List UInt8):Bool:=(ps.map (·.1)).contains key
theorem Fw(a b:List UInt8):((ze a).toList ==(ze b).toList)=(a ==b):=by
 rw[ByteArray.toList_eq,ByteArray.toList_eq,Zf,Zf]
theorem zdv(B:Nat)(v:Value)(ps:List zK)(key:List UInt8)(w:Wo)(h:PR w B v ps)(hn:ps.length<=40000000):
  Calls prog 91 #[v,.string (ze key)] w fun e w'=>∃ z:Int,e= .returned (.int .i64 z)/\decide ((0:Int)<=z)=VU ps key/\w=w':=by
 obtain⟨x,len,a,rfl,l⟩:∃ x len a,v= .slice x len a/\len=ps.length:=by
  rcases h.2 with ⟨p,y⟩ |⟨g,a,u,p,_⟩
  ·exact⟨_,_,_,p,y.symm⟩
  ·exact⟨_,_,_,p,rfl⟩
 subst l;have r:=zb h;clear h;go_in;go_wp2_with fail;go_loopw [5] (fun k wr=>w=wr/\∃ j:Nat,k= .int .i64 (j:Int)/\j<=ps.length/\((ps.take j).map (·.1)).contains key=false) (fun k _=>ps.length - (intOf k).toNat)
 case atStart=>exact⟨rfl,0,rfl,yt _,by simp⟩
 case round=>
  obtain⟨rfl,j,rfl,F,m⟩:=hrel;have d:=zb m;clear m;by_cases i:j<ps.length
  ·have D:((j:Int)<(ps.length:Int))=True:=eq_true (by omega);obtain⟨g,q,A,E,C,c0,c1⟩:=(uh r).cells j i;injection A with he1 he2 he3;subst he1;subst he3;have f:=Fw ps[j].1 key;by_cases b:ps[j].1=key
   ·have n:(ps[j].1 ==key)=true:=by rw[yC];exact b
    have o:Hid (VU ps key=true):=by
     show _=_
     unfold VU;rw[List.contains_iff_mem];exact yO.2 ⟨ps[j],yr _,b⟩
    rw[n]at f;clear b n;go_wp2;go_ret;exact⟨_,rfl,by rw[uh o];exact yj (by omega),rfl⟩
   ·have n:(ps[j].1 ==key)=false:=by rw[yd];exact b
    have s:Hid (((ps.take (j+1)).map (·.1)).contains key=false):=by
     show _=_
     have:=uh d;rw[yy i,yw,List.contains_append,this];simp;exact fun e=>b e.symm
    rw[n]at f;clear b n;go_wp2;go_roundw
    case rel=>exact⟨trivial,j+1,by go_num,by omega,uh s⟩
    case measure=>simp[intOf];omega
  ·have D:((j:Int)<(ps.length:Int))=False:=yQ (by omega);have o:Hid (VU ps key=false):=by
    show _=_
    unfold VU;have:=uh d
    rwa [yq (by omega)]at this
   go_wp2;go_ret;exact⟨_,rfl,by rw[uh o];rfl,rfl⟩
theorem Tm:∀ L:List zK,(L.flatMap ZQ).length=L.length*2
 | []=>rfl
 | p :: r=>by rw[List.flatMap_cons,yh,Tm r];simp[ZQ];omega
theorem zdw(L:List zK)(j:Nat)(p:zK)(h:j<L.length):((L.flatMap ZQ).set (j*2) (.string (ze p.1))).set (j*2+1) (.string (ze p.2))=(L.set j p).flatMap ZQ:=by
 induction L generalizing j with
 | nil=>simp at h
 | cons q r ih=>
  cases j with
  | zero=>rfl
  | succ j=>
   have:=ih j (by simpa using h);rw[List.set_cons_succ,List.flatMap_cons,List.flatMap_cons,← this,show (j+1)*2=j*2+2 from by omega];rfl
theorem PR.set{w:Wo}{B g n cap:Nat}{L:List zK}(h:PR w B (.slice (some ⟨g,0,none⟩) n cap) L)(hn':n=L.length)(j:Nat)(hj:j<L.length)(p:zK):
  PR ((w.setCell ⟨g,j*2,none⟩ (.string (ze p.1))).setCell ⟨g,j*2+1,none⟩ (.string (ze p.2))) B (.slice (some ⟨g,0,none⟩) n cap) (L.set j p):=by
 subst hn';obtain⟨v,⟨f,u⟩ |⟨s,d,a,f,l,o,q,m,b,r⟩⟩:=h
 ·omega
 ·injection f with hv1 hv2 hv3;injection hv1 with hv1;injection hv1 with hv1;subst hv1;subst hv3;have i:=heap_setCell_same w g (j*2) a 99 (.string (ze p.1)) o;have k:=heap_setCell_same _ g (j*2+1) _ 99 (.string (ze p.2)) i;unfold PR;refine⟨Tm _,.inr ⟨g,cap,_,by simp,l,k,by simpa using q,m,by simp[b],?_⟩⟩;rw[← zdw L j p hj,← r,List.length_set,Array.toList_setIfInBounds,Array.toList_setIfInBounds,List.take_set,List.take_set]
theorem zdx(A:List zK):A=[]∨∃ A' q,A=A'++[q]:=by
 rcases List.eq_nil_or_concat A with h |⟨A',q,h⟩
 ·exact .inl h
 ·exact .inr ⟨A',q,by rw[h];simp⟩
theorem GG{B:Nat}{w w':Wo}(h:Below B w w')(n:Nat):Below B w (w'.drewN n):=⟨h.os,h.tape,h.output,h.size,h.block⟩
theorem PR.fz{w:Wo}{B g n cap:Nat}{L:List zK}(h:PR w B (.slice (some ⟨g,0,none⟩) n cap) L)(o:Nat):w.frozen? ⟨g,o,none⟩=false:=by
 obtain⟨l,⟨a,j⟩ |⟨i,b,d,a,k,f,_⟩⟩:=h
 ·cases a
 ·injection a with hv1 hv2 hv3;injection hv1 with hv1;injection hv1 with hv1;subst hv1;exact yI f o
theorem PR.fz1{w:Wo}{B g n cap:Nat}{L:List zK}(h:PR w B (.slice (some ⟨g,0,none⟩) n cap) L)(o o':Nat)(v:Value):(w.setCell ⟨g,o,none⟩ v).frozen? ⟨g,o',none⟩=false:=by
 obtain⟨l,⟨b,j⟩ |⟨i,d,a,b,k,f,_⟩⟩:=h
 ·cases b
 ·injection b with hv1 hv2 hv3;injection hv1 with hv1;injection hv1 with hv1;subst hv1;exact yI (heap_setCell_same w g o a 99 v f) o'
theorem PR.cell1{w:Wo}{B g n cap:Nat}{L:List zK}(h:PR w B (.slice (some ⟨g,0,none⟩) n cap) L)(o o':Nat)(v u:Value)(ho:o≠o')(hc:w.cell? ⟨g,o',none⟩=some u):(w.setCell ⟨g,o,none⟩ v).cell? ⟨g,o',none⟩=some u:=by
 obtain⟨l,⟨b,j⟩ |⟨i,d,a,b,k,f,_⟩⟩:=h
 ·cases b
 ·injection b with hv1 hv2 hv3;injection hv1 with hv1;injection hv1 with hv1;subst hv1;rw[yF f]at hc;rw[yF (heap_setCell_same w g o a 99 v f),Array.getElem?_setIfInBounds_ne ho,hc]
theorem PR.cellsAt{w:Wo}{B g n cap:Nat}{L:List zK}(h:PR w B (.slice (some ⟨g,0,none⟩) n cap) L)(j:Nat)(hj:j<L.length)(p:zK)(hp:L[j]=p):
  w.cell? ⟨g,j*2,none⟩=some (.string (ze p.1))/\w.cell? ⟨g,j*2+1,none⟩=some (.string (ze p.2))/\g<w.heap.size:=by
 obtain⟨k,f,i,_,d,a,b⟩:=h.cells j hj;injection i with he1 he2 he3;injection he1 with he1;injection he1 with he1;subst he1;subst hp;exact⟨a,b,d⟩
theorem KG:(prog.info? 99).map (fun i=>(i.zero,i.size,i.bytes))=some (some (.agg #[.string ByteArray.empty,.string ByteArray.empty]),2,32):=by kernel_rfl
def RR(ps:List zK)(j:Nat):List zK:=(ps.take j).foldl (fun acc p=>qn p acc) []
theorem Tn(ps:List zK)(j:Nat)(h:j<ps.length):RR ps (j+1)=qn ps[j] (RR ps j):=by
 unfold RR;rw[yy h,List.foldl_append];rfl
theorem zdy(ps:List zK)(j:Nat)(h:ps.length<=j):(RR ps j).reverse=zH ps:=by
 unfold RR zH;rw[yq h]
theorem To(p:zK):∀ l,(qn p l).length=l.length+1
 | []=>rfl
 | q :: r=>by unfold qn;split<;>simp[To p r]
theorem Tp(ps:List zK):∀ j,j<=ps.length->(RR ps j).length=j
 | 0,_=>by simp[RR]
 | j+1,h=>by rw[Tn ps j (by omega),To,Tp ps j (by omega)]
theorem Vm(w:Wo)(t:TypeId)(x y:Value):∀ j u,[x,y][j]?=some u->(w.alloc (.cells #[x,y] t)).cell? ((⟨w.heap.size,0,none⟩:Addr).add j)=some u:=Y2 w t x y
theorem Tq(B:Nat)(v:Value)(ps:List zK)(w:Wo)(h:PR w B v ps)(hl:ps.length<=40000000):
  Calls prog 146 #[v] w fun e w'=>∃ v',e= .returned v'/\PR w' w.heap.size v' (zH ps)/\Bw w w':=by
 obtain⟨i0,hi0,hz0,hz1,hz2⟩:=info_parts KG;obtain⟨x,len,H,rfl,d⟩:∃ x len H,v= .slice x len H/\len=ps.length:=by
  rcases h.2 with ⟨hv,h0⟩ |⟨g,H,cur,hv,_⟩
  ·exact⟨_,_,_,hv,h0.symm⟩
  ·exact⟨_,_,_,hv,rfl⟩
 subst d;have HP:=zb h;clear h;go_in;go_wp2_with fail;go_loopw [3,4] (fun r k wr=>∃ j:Nat,k= .int .i64 (j:Int)/\j<=ps.length/\PR wr w.heap.size r (RR ps j).reverse/\Bw w wr) (fun _ k _=>ps.length - (intOf k).toNat)
 case atStart=>
  exact⟨0,rfl,yt _,⟨rfl,.inr ⟨w.heap.size,0,#[],rfl,ye _,yG w _,ye _,by unfold maxLen;omega,rfl,rfl⟩⟩,(yH _ _).alloc (ye _) _⟩
 case round=>
  obtain⟨j,rfl,hj,s,hb⟩:=hrel;have M:=zb hb;have aa:=hb.size;clear hb;by_cases Y:j<ps.length
  ·have t1:((j:Int)<(ps.length:Int))=True:=eq_true (by omega);obtain⟨g,cap',he,hgB,W,P,Q⟩:=(uh HP).cells j Y;injection he with he1 he2 he3;subst he1;subst he3;have c0:=((uh M).cell (p:=⟨g,j*2,none⟩) W).trans P;have c1:=((uh M).cell (p:=⟨g,j*2+1,none⟩) W).trans Q;have HS:=zb (Tn ps j Y);have d:=Tp ps j hj;have HLEN:=zb d;generalize ps[j]=p at *;generalize hR:RR ps j=R at *;have J:R.reverse.length=j:=by rw[List.length_reverse];exact d
   clear P Q d hR;have f:wr.ownsRow w.heap.size 99 2 u3 R.reverse.length (R.reverse.flatMap ZQ):=s;go_wp2_with (at_builtin;refine wpList_append_own _ rfl (.tmp 14) (.tmp 19) 92 rfl w.heap.size 99 i0 (.agg #[.string ByteArray.empty,.string ByteArray.empty]) 2 32 underlying92 hi0 hz0 hz1 hz2 rfl (by decide) _ _ _ rfl (f.alloc _) ⟨wr.heap.size,0,none⟩ 1 1 (ZQ p) rfl rfl (Vm _ _ _ _) (fun u hu=>by {simp[ZQ]at hu;rcases hu with rfl | rfl<;>rfl}) (by unfold maxLen;omega) (by omega) (by simp;omega) ?_;intro v1 w1 E V _;have N:=zb (((uh M).alloc aa _).grown V (by simp;omega) (fun k hk=>(f.lt k hk).1));have P1:PR w1 w.heap.size v1 (R.reverse++[p]):=(by unfold PR;rw[yh,List.flatMap_append];simpa using E);have hL1:(R.reverse++[p]).length=j+1:=(by rw[yh,J];rfl);obtain⟨b,n,Z,i,_,_,_⟩:=P1.cells j (by omega);rw[hL1]at Z;subst Z;have O:=zb P1;clear E V P1);clear s f M c0 c1;go_loopw [5] (fun k K=>∃ (A C:List zK),k= .int .i64 (A.length:Int)/\A.length+C.length=j/\PR K w.heap.size (.slice (some ⟨b,0,none⟩) (j+1) n) (A++p :: C)/\Bw w K/\qn p R=C.reverse++qn p A.reverse) (fun k _=>(intOf k).toNat)
   case atStart=>
    exact⟨R.reverse,[],by rw[J],by simpa using J,uh O,uh N,by simp⟩
   case round=>
    obtain⟨A,C,rfl,S,hP,I,D⟩:=hrel;have HI:=zb D;have l:=zb hP;have z:=zb I;have hxs:=I.size;clear D hP I O N;rcases zdx A with rfl |⟨a,q,rfl⟩
    ·have HF:Hid (([]++p :: C)=(RR ps (j+1)).reverse):=by
      show _=_
      rw[uh HS,uh HI];simp[qn]
     have t2:(0<(0:Int))=False:=by simp
     simp only[yD,Int.natCast_zero];go_wp2_with fail;go_quiet (fail);go_wp2;exact⟨⟨j+1,by go_num,by omega,by rw[← uh HF];exact uh l,GG (uh z) _⟩,by simp[intOf];omega⟩
    ·have hm:(a++[q]).length=a.length+1:=by simp
     rw[hm];rw[hm]at S;have T:((a++[q])++p :: C).length=j+1:=by simp at S ⊢;omega
     have ep:((a++[q])++p :: C)[a.length+1]'(by omega)=p:=by simp
     have eq:((a++[q])++p :: C)[a.length]'(by omega)=q:=by simp
     obtain⟨p0,p1,X⟩:=(uh l).cellsAt (a.length+1) (by omega) p ep;obtain⟨q0,q1,_⟩:=(uh l).cellsAt a.length (by omega) q eq;have HSW:Hid (((((a++[q])++p :: C).set (a.length+1) q).set a.length p)=a++p ::(q :: C)):=by
      show _=_
      simp
     have hmj:a.length+1<=j:=by omega
     have F:Hid (qn p R=C.reverse++qn p (q :: a.reverse)):=by
      show _=_
      rw[uh HI];simp
     clear ep eq HI;generalize hmm:a.length=m at *;have t2:((0:Int)<(m:Int)+1)=True:=eq_true (by omega);have t3:(0:Int)<=(m:Int):=by omega
     have t4:(m:Int)+1<=(j:Int):=by omega
     by_cases y:p.1<q.1
     ·have hlt:Op.bytesLess (ze p.1).toList (ze q.1).toList=true:=by
       rw[bytesLess_eq,ByteArray.toList_eq,ByteArray.toList_eq,Zf,Zf];exact yj y
      have HI3:Hid (qn p R=(q :: C).reverse++qn p a.reverse):=by
       show _=_
       rw[uh F,qn,yg y];simp
      go_wp2_with fail;go_quiet (fail);have P0:(wr.drewN nq).cell? ⟨b,(m+1)*2,none⟩=some (.string (ze p.1)):=p0;have P1:(wr.drewN nq).cell? ⟨b,(m+1)*2+1,none⟩=some (.string (ze p.2)):=p1;have PX:Hid (PR (wr.drewN nq) w.heap.size (.slice (some ⟨b,0,none⟩) (j+1) n) (a++[q]++p :: C)):=uh l;have BX:Hid (Bw w (wr.drewN nq)):=GG (uh z) _;have hgx:b<(wr.drewN nq).heap.size:=X;have hxs':w.heap.size<=(wr.drewN nq).heap.size:=hxs;clear p0 p1 q0 q1 l z y F;generalize wr.drewN nq=K at *;have G:=uh PX;obtain⟨q0,q1,_⟩:=G.cellsAt m (by omega) q (by subst hmm;simp);obtain⟨pp0,pp1,_⟩:=G.cellsAt (m+1) (by omega) p (by subst hmm;simp);have f0:=G.fz ((m+1)*2);have f1:=G.fz1 ((m+1)*2) ((m+1)*2+1) (.string (ze q.1));have d1:=G.cell1 ((m+1)*2) ((m+1)*2+1) (.string (ze q.1)) _ (by omega) pp1;have L:=G.set T.symm (m+1) (by omega) q;have U:((a++[q]++p :: C).set (m+1) q).length=j+1:=by rw[List.length_set];exact T
      obtain⟨r0,r1,_⟩:=L.cellsAt m (by omega) q (by subst hmm;simp);have f2:=L.fz (m*2);have f3:=L.fz1 (m*2) (m*2+1) (.string (ze p.1));have d3:=L.cell1 (m*2) (m*2+1) (.string (ze p.1)) _ (by omega) r1;have PC:=L.set U.symm m (by omega) p;rw[uh HSW]at PC;have BA:=((((uh BX).setCell (p:=⟨b,(m+1)*2,none⟩) i (.string (ze q.1))).setCell (p:=⟨b,(m+1)*2+1,none⟩) i (.string (ze q.2))).setCell (p:=⟨b,m*2,none⟩) i (.string (ze p.1))).setCell (p:=⟨b,m*2+1,none⟩) i (.string (ze p.2));have HPC:Hid (∀ o,PR (World.alloc ((((K.setCell ⟨b,(m+1)*2,none⟩ (.string (ze q.1))).setCell ⟨b,(m+1)*2+1,none⟩ (.string (ze q.2))).setCell ⟨b,m*2,none⟩ (.string (ze p.1))).setCell ⟨b,m*2+1,none⟩ (.string (ze p.2))) o) w.heap.size (.slice (some ⟨b,0,none⟩) (j+1) n) (a++p :: q :: C)):=fun o=>PC.below (QF _ o);have HBC:Hid (∀ o,Bw w (World.alloc ((((K.setCell ⟨b,(m+1)*2,none⟩ (.string (ze q.1))).setCell ⟨b,(m+1)*2+1,none⟩ (.string (ze q.2))).setCell ⟨b,m*2,none⟩ (.string (ze p.1))).setCell ⟨b,m*2+1,none⟩ (.string (ze p.2))) o)):=fun o=>BA.alloc BA.size o;have hne:¬ K.heap.size=b:=by omega
      have hne':¬ b=K.heap.size:=by omega
      clear G L PC BA PX BX;go_wp2;go_roundw
      case rel=>exact⟨a,q :: C,by rw[hmm],by simp;omega,uh HPC _,uh HBC _,uh HI3⟩
      case measure=>simp[intOf]
     ·have hlt:Op.bytesLess (ze p.1).toList (ze q.1).toList=false:=by
       rw[bytesLess_eq,ByteArray.toList_eq,ByteArray.toList_eq,Zf,Zf];exact yk y
      have HF:Hid ((a++[q]++p :: C)=(RR ps (j+1)).reverse):=by
       show _=_
       rw[uh HS,uh F,qn,yf y];simp
      go_wp2_with fail;go_quiet (fail);go_wp2;exact⟨⟨j+1,by go_num,by omega,by rw[← uh HF];exact uh l,GG (uh z) _⟩,by simp[intOf];omega⟩
  ·have t1:((j:Int)<(ps.length:Int))=False:=yQ (by omega);have HE:=zb (zdy ps j (by omega));go_wp2;go_ret;exact⟨_,rfl,by rw[← uh HE];exact s,uh M⟩
theorem Tr(T:Bs)(w:Wo)(h0:0<T.size)(h1:bt T 0≠91)(h2:bt T 0≠123):
  Calls prog 47 #[.string T] w fun e w'=>∃ v,e= .returned v/\PR w' w.heap.size v []/\Bw w w':=by
 rw[Zr T 0 h0]at h1 h2;have a:((T[0].toNat:Int) !=91)=true:=by rw[bne_iff_ne];omega
 have b:((T[0].toNat:Int) !=123)=true:=by rw[bne_iff_ne];omega
 have d:(0:Int)<(T.size:Int):=by omega
 clear h1 h2;go_in;go_wp2;go_ret;exact⟨_,rfl,World.ownsRow_lit (base:=w.heap.size) (e:=99) (size:=2) w #[] 0 (ye _) (by unfold maxLen;omega) rfl,(yH _ _).alloc (ye _) _⟩
theorem Ts(l:JL)(hok:qw l)(w:Wo)(hT:(ze (ct (.arr l))).size<=1000000):
  Calls prog 47 #[.string (ze (ct (.arr l)))] w fun e w'=>∃ v,e= .returned v/\PR w' w.heap.size v (qM 0 (zr l))/\Bw w w':=by
 obtain⟨i0,Q,V,W,X⟩:=info_parts KG;have a:(ze (ct (.arr l))).data.toList=91 ::(joinC (zr l)++[93]):=by rw[Zf];rfl
 have s:=X7 (ze (ct (.arr l))) l hok;generalize ze (ct (.arr l))=T at *;generalize zr l=cs at *;have h0:0<T.size:=by have:=congrArg List.length a;rw[Zn]at this;simp at this;omega
 have O:T[0].toNat=91:=by rw[← Zr T 0 h0];unfold bt;rw[a];rfl
 have f1:((T[0].toNat:Int) !=91)=false:=by rw[bne_eq_false_iff_eq];omega
 have f2:((T[0].toNat:Int) ==123)=false:=by rw[yd];omega
 have hI:(0:Int)<(T.size:Int):=by omega
 have hn:cs.length<=T.size:=by
  have h1:=Kq a;have:∀ k,k<=cs.length->k<=pk cs k:=by
   intro k;induction k with
   | zero=>intro _;omega
   | succ k ih=>intro b;rw[Fa cs k (by omega)];have:=ih (by omega);omega
  cases hl:cs.length with
  | zero=>omega
  | succ m=>
   have h2:=Ko a m (by omega);have h3:=this m (by omega);omega
 have H:Hid (∀ k (b:k<cs.length) (w:Wo),pk cs k+cs[k].length+1<=T.size/\1<=cs[k].length/\T.extract (pk cs k) (pk cs k+cs[k].length)=ze cs[k]/\pk cs (k+1)=pk cs k+cs[k].length+1/\qM 0 (cs.take (k+1))=qM 0 (cs.take k)++[(Zp k,cs[k])] /\
   Calls prog 86 #[.string T,.int .i64 ((pk cs k:Nat):Int)] w (Rb (.int .i64 ((pk cs k+cs[k].length:Nat):Int)) w)):=fun k b w=>by
  have hd:=Kn a k b;obtain⟨ht,S⟩:=s cs[k] (yr b);obtain⟨f,hf⟩:=ht _ _ hd (X9 _ 93 (.inl rfl));refine⟨Ko a k b,?_,Mm hd,Fa cs k b,?_,Ms T _ _ f w (by omega) hf⟩
  ·cases h:cs[k]with
   | nil=>exact absurd h S
   | cons _ _=>simp
  ·rw[yy b,Mk];simp[Nat.min_eq_left (Nat.le_of_lt b)]
 have o:=zb (Kq a);have D:∀ k,k<=cs.length->(qM 0 (cs.take k)).length=k:=fun k b=>by rw[GA,ym];omega
 have z:=zb D;have j:Hid (∀ (n:Nat) (w:Wo),n<=1000000->Calls prog 84 #[.int .i64 (n:Int)] w (Rb (.string (ze (Zp n))) w)):=fun n w hn=>Mj n n w (ye _) (by omega);clear a s O D hok;go_in;go_wp2;go_loopw [3,4] (fun v i wr=>∃ k:Nat,k<=cs.length/\i= .int .i64 ((pk cs k:Nat):Int)/\PR wr w.heap.size v (qM 0 (cs.take k))/\Bw w wr) (fun _ i _=>T.size+1 - (intOf i).toNat)
 case atStart=>exact⟨0,yt _,rfl,World.ownsRow_lit (base:=w.heap.size) (e:=99) (size:=2) w #[] 0 (ye _) (by unfold maxLen;omega) rfl,(yH _ _).alloc (ye _) _⟩
 case round=>
  obtain⟨k,b,rfl,d,N⟩:=hrel;have p:=uh z k b;have K:=zb N;have hwsz:=N.size;clear N;by_cases F:k<cs.length
  ·obtain⟨k1,k2,k3,k4,k5,_⟩:=uh H k F w;have L:Hid (∀ w,Calls prog 86 #[.string T,.int .i64 ((pk cs k:Nat):Int)] w (Rb (.int .i64 ((pk cs k+cs[k].length:Nat):Int)) w)):=fun w=>(uh H k F w).2.2.2.2.2;have A:=zb k4;have M:=zb k5;have tl:((pk cs k:Nat):Int)<(T.size:Int) - 1:=by omega
   obtain⟨x,len,r,rfl,R⟩:∃ x len r,u3= .slice x len r/\len=k:=by
    rcases d.2 with ⟨U,h0'⟩ |⟨g,r,cur,U,_⟩
    ·exact⟨_,_,_,U,by omega⟩
    ·exact⟨_,_,_,U,p⟩
   obtain rfl:=R;have HD:=zb (uh j len wr (by omega));generalize qM 0 (cs.take len)=G at *;generalize pk cs len=P at *;generalize cs[len]=t at *;obtain⟨E,hE⟩:∃ E,P+t.length=E:=⟨_,rfl⟩;rw[hE]at k3 k1 L A;have hPE:P<=E:=by omega
   clear hE k4 k5 H o j z;go_wp2_with fail;refine (uh HD).mono ?_;rintro e w1 ⟨rfl,I⟩;have p1:=d.below I;have Z:=zb (zh (uh K) I);have hw1:=I.size;clear HD I d K;go_wp2_with fail;refine (uh L _).mono ?_;rintro e w2 ⟨rfl,J⟩;have p2:=p1.below J;have B2:=zb (zh (uh Z) J);have hw2:=J.size;clear L J p1 Z;have q:w2.ownsRow w.heap.size 99 2 (.slice x len r) G.length (G.flatMap ZQ):=p2;have hal:G.length<=1000000:=by omega
   go_wp2_with (at_builtin;refine wpList_append_own _ rfl (.tmp 44) (.tmp 51) 92 rfl w.heap.size 99 i0 (.agg #[.string ByteArray.empty,.string ByteArray.empty]) 2 32 underlying92 Q V W X rfl (by decide) _ _ _ rfl (q.alloc _) ⟨w2.heap.size,0,none⟩ 1 1 (ZQ (Zp len,t)) rfl rfl (Vm _ _ _ _) (fun u hu=>by {simp[ZQ]at hu;rcases hu with rfl | rfl<;>rfl}) (by unfold maxLen;omega) (by omega) (by simp;omega) ?_);intro v3 Y y B _;have P3:Hid (PR Y w.heap.size v3 (G++[(Zp len,t)])):=by
    show PR Y w.heap.size v3 (G++[(Zp len,t)])
    unfold PR;rw[yh,List.flatMap_append,p];simpa using y
   have B3:Hid (Bw w Y):=((uh B2).alloc (by omega) _).grown B (by simp;omega) (fun k b=>(q.lt k b).1);clear y B q p2 B2;go_wp2;go_roundw
   case rel=>exact⟨len+1,by omega,by rw[uh A];go_num,by rw[uh M];exact uh P3,uh B3⟩
   case measure=>simp[intOf];omega
  ·have C:k=cs.length:=by omega
   have h2:=uh o;rw[← C]at h2;have tl:¬ ((pk cs k:Nat):Int)<(T.size:Int) - 1:=by omega
   have e:cs.take k=cs:=yq (by omega);rw[e]at d;have HP:=zb d;generalize pk cs k=P at *;clear H o j z d e C p;go_wp2;go_ret;exact⟨_,rfl,uh HP,uh K⟩
theorem PT{T:Bs}{cs:List (List UInt8)}{a c:UInt8}(hTL:T.data.toList=a ::(joinC cs++[c])):cs.length<=T.size:=by
 have b:=Kq hTL;have:∀ k,k<=cs.length->k<=pk cs k:=by
  intro k;induction k with
  | zero=>intro _;omega
  | succ k ih=>intro g;rw[Fa cs k (by omega)];have:=ih (by omega);omega
 cases hl:cs.length with
 | zero=>omega
 | succ m=>
  have d:=Ko hTL m (by omega);have f:=this m (by omega);omega
theorem Tt(m:JM)(hok:qq m)(w:Wo)(hT:(ze (ct (.obj m))).size<=1000000):
  Calls prog 47 #[.string (ze (ct (.obj m)))] w fun e w'=>∃ v,e= .returned v/\PR w' w.heap.size v (zH (zj m))/\Bw w w':=by
 obtain⟨i0,hi0,hz0,hz1,hz2⟩:=info_parts KG;have a:(ze (ct (.obj m))).data.toList=123 ::(joinC ((zH (zj m)).map zn)++[125]):=by rw[Zf];rfl
 have B:∀ p∈zH (zj m),Jj (ze (ct (.obj m))) p.2/\p.2≠[]/\Lib.validD p.1=true:=fun p hp=>X8 _ m hok p ((qL _).subset hp);generalize ze (ct (.obj m))=T at *;generalize zH (zj m)=qs at *;have hml:(qs.map zn).length=qs.length:=yl _;have h0:0<T.size:=by have:=congrArg List.length a;rw[Zn]at this;simp at this;omega
 have hb0:T[0].toNat=123:=by rw[← Zr T 0 h0];unfold bt;rw[a];rfl
 have f1:((T[0].toNat:Int) !=91)=true:=by rw[bne_iff_ne];omega
 have f1':((T[0].toNat:Int) !=123)=false:=by rw[bne_eq_false_iff_eq];omega
 have f2:((T[0].toNat:Int) ==123)=true:=by rw[yC];omega
 have hI:(0:Int)<(T.size:Int):=by omega
 have hn:qs.length<=T.size:=by have:=PT a;omega
 have I:Hid (∀ k (F:k<qs.length) (w:Wo),pk (qs.map zn) k+(quoted qs[k].1).length+1+qs[k].2.length+1<=T.size/\1<=qs[k].2.length/\T.extract (pk (qs.map zn) k+(quoted qs[k].1).length+1) (pk (qs.map zn) k+(quoted qs[k].1).length+1+qs[k].2.length)=ze qs[k].2/\pk (qs.map zn) (k+1)=pk (qs.map zn) k+(quoted qs[k].1).length+1+qs[k].2.length+1/\qs.take (k+1)=qs.take k++[(qs[k].1,qs[k].2)] /\
   Calls prog 86 #[.string T,.int .i64 ((pk (qs.map zn) k+(quoted qs[k].1).length+1:Nat):Int)] w ((Rb (.int .i64 ((pk (qs.map zn) k+(quoted qs[k].1).length+1+qs[k].2.length:Nat):Int)) w)) /\
   Calls prog 85 #[.string T,.int .i64 ((pk (qs.map zn) k:Nat):Int)] w (Rb (.tuple #[.string (ze qs[k].1),.int .i64 ((pk (qs.map zn) k+(quoted qs[k].1).length:Nat):Int),.bool true]) w)):=fun k F w=>by
  have d:k<(qs.map zn).length:=by omega
  have W:=Kn a k d;have N:=Ko a k d;have O:=Fa (qs.map zn) k d;have em:(qs.map zn)[k]=quoted qs[k].1++58 :: qs[k].2:=by simp[zn]
  rw[em]at W N O;rw[List.append_assoc]at W;simp only[yh,yn]at N O;obtain⟨ht,hne,Q⟩:=B qs[k] (yr F);have K:T.data.toList.drop (pk (qs.map zn) k+(quoted qs[k].1).length+1)=qs[k].2++(joinT ((qs.map zn).drop (k+1))++[125]):=by
   have h1:=QY W;have h2:=Zx (T:=T) (c:=58) (m:=qs[k].2++(joinT ((qs.map zn).drop (k+1))++[125])) (by rw[h1];rfl);exact h2.2.2
  obtain⟨f,hf⟩:=ht _ _ K (X9 _ 125 (.inr rfl));have hs:=VN qs[k].1 T _ Q (pk (qs.map zn) k) W;refine⟨by omega,?_,Mm K,by omega,yy F,Ms T _ _ f w (by omega) hf,?_⟩
  ·cases h:qs[k].2 with
   | nil=>exact absurd h hne
   | cons _ _=>simp
  ·have:=Ks T (pk (qs.map zn) k) w (by omega) (by omega);rw[hs]at this;exact this.mono fun e w' h=>⟨h.2,h.1⟩
 have b:=zb (Kq a);have l:Hid (∀ (n:Nat) (w:Wo),n<=1000000->Calls prog 84 #[.int .i64 (n:Int)] w (Rb (.string (ze (Zp n))) w)):=fun n w hn=>Mj n n w (ye _) (by omega);clear a B hb0 hok;rw[hml]at b;go_in;go_wp2;go_loopw [3,4] (fun v i wr=>∃ k:Nat,k<=qs.length/\i= .int .i64 ((pk (qs.map zn) k:Nat):Int)/\PR wr w.heap.size v (qs.take k)/\Bw w wr) (fun _ i _=>T.size+1 - (intOf i).toNat)
 case atStart=>exact⟨0,yt _,rfl,World.ownsRow_lit (base:=w.heap.size) (e:=99) (size:=2) w #[] 0 (ye _) (by unfold maxLen;omega) rfl,(yH _ _).alloc (ye _) _⟩
 case round=>
  obtain⟨k,F,rfl,j,hb⟩:=hrel;have o:(qs.take k).length=k:=by rw[ym];omega
  have X:=zb hb;have hwsz:=hb.size;clear hb;by_cases D:k<qs.length
  ·obtain⟨k1,k2,k3,k4,k5,_,_⟩:=uh I k D w;have H:Hid (∀ w,Calls prog 86 #[.string T,.int .i64 ((pk (qs.map zn) k+(quoted qs[k].1).length+1:Nat):Int)] w ((Rb (.int .i64 ((pk (qs.map zn) k+(quoted qs[k].1).length+1+qs[k].2.length:Nat):Int)) w))):=fun w=>(uh I k D w).2.2.2.2.2.1;have Z:Hid (∀ w,Calls prog 85 #[.string T,.int .i64 ((pk (qs.map zn) k:Nat):Int)] w (Rb (.tuple #[.string (ze qs[k].1),.int .i64 ((pk (qs.map zn) k+(quoted qs[k].1).length:Nat):Int),.bool true]) w)):=fun w=>(uh I k D w).2.2.2.2.2.2;have r:=zb k4;have Y:=zb k5;have tl:((pk (qs.map zn) k:Nat):Int)<(T.size:Int) - 1:=by omega
   obtain⟨x,len,y,rfl,hlv⟩:∃ x len y,u3= .slice x len y/\len=k:=by
    rcases j.2 with ⟨Q,h0'⟩ |⟨g,y,cur,Q,_⟩
    ·exact⟨_,_,_,Q,by omega⟩
    ·exact⟨_,_,_,Q,o⟩
   obtain rfl:=hlv;have HD:=zb (uh l len wr (by omega));generalize qs.take len=S at *;generalize pk (qs.map zn) len=P at *;generalize qs[len].2=t at *;generalize qs[len].1=z at *;obtain⟨M,hM⟩:∃ M,P+(quoted z).length=M:=⟨_,rfl⟩;rw[hM]at k3 k1 H r Z;have hPM:P<=M:=by omega
   have hM1:((M:Nat):Int)+1=((M+1:Nat):Int):=by omega
   obtain⟨J,A⟩:∃ J,M+1=J:=⟨_,rfl⟩;rw[A]at k3 k1 H r hM1;obtain⟨E,hE⟩:∃ E,J+t.length=E:=⟨_,rfl⟩;rw[hE]at k3 k1 H r;have hPE:J<=E:=by omega
   have hPM1:P<J:=by omega
   clear hE hM A k4 k5 I b l;go_wp2_with fail;refine (uh HD).mono ?_;rintro e w1 ⟨rfl,U⟩;have p1:=j.below U;have B1:=zb (zh (uh X) U);have hw1:=U.size;clear HD U j X;go_wp2_with fail;refine (uh Z _).mono ?_;rintro e w1' ⟨rfl,s⟩;have R:=p1.below s;have G:=zb (zh (uh B1) s);have hw1':=s.size;clear Z s p1 B1;go_wp2_with fail;refine (uh H _).mono ?_;rintro e w2 ⟨rfl,V⟩;have p2:=R.below V;have B2:=zb (zh (uh G) V);have hw2:=V.size;clear H V R G;have q:w2.ownsRow w.heap.size 99 2 (.slice x len y) S.length (S.flatMap ZQ):=p2;have hal:S.length<=1000000:=by omega
   go_wp2_with (at_builtin;refine wpList_append_own _ rfl (.tmp 44) (.tmp 51) 92 rfl w.heap.size 99 i0 (.agg #[.string ByteArray.empty,.string ByteArray.empty]) 2 32 underlying92 hi0 hz0 hz1 hz2 rfl (by decide) _ _ _ rfl (q.alloc _) ⟨w2.heap.size,0,none⟩ 1 1 (ZQ (z,t)) rfl rfl (Vm _ _ _ _) (fun u hu=>by {simp[ZQ]at hu;rcases hu with rfl | rfl<;>rfl}) (by unfold maxLen;omega) (by omega) (by simp;omega) ?_);intro v3 w3 C L _;have P3:Hid (PR w3 w.heap.size v3 (S++[(z,t)])):=by
    show PR w3 w.heap.size v3 (S++[(z,t)])
    unfold PR;rw[yh,List.flatMap_append,o];simpa using C
   have B3:Hid (Bw w w3):=((uh B2).alloc (by omega) _).grown L (by simp;omega) (fun k F=>(q.lt k F).1);clear C L q p2 B2;go_wp2;go_roundw
   case rel=>exact⟨len+1,by omega,by rw[uh r];go_num,by rw[uh Y];exact uh P3,uh B3⟩
   case measure=>simp[intOf];omega
  ·have d:k=qs.length:=by omega
   have h2:=uh b;rw[← d]at h2;have tl:¬ ((pk (qs.map zn) k:Nat):Int)<(T.size:Int) - 1:=by omega
   have e:qs.take k=qs:=yq (by omega);rw[e]at j;have HP:=zb j;generalize pk (qs.map zn) k=P at *;clear I b l j e d o;go_wp2;go_ret;exact⟨_,rfl,uh HP,uh X⟩
theorem zdz{s:Bs}:∀ {i j:Nat} {l:List UInt8},qK s i=some (l,j)->l.length+4*(i+1)<=4*j:=by
 intro i;generalize hn:s.size - i=n;induction n using Nat.strongRecOn generalizing i with
 | _ n ih=>
  intro j l h;by_cases a:bt s i=34
  ·rw[Wn a]at h;injection h with h;injection h with h1 h2;subst h1;simp;omega
  ·cases hp:piece s i with
   | none=>rw[Wp a hp]at h;cases h
   | some p=>
    obtain⟨r,b⟩:=p;have f:=Gw hp;have d:=XW r;rw[Gx a hp]at h;rcases hq:qK s (i+b)with _ |⟨k,g⟩
    ·rw[hq]at h;cases h
    ·rw[hq]at h;injection h with h;injection h with h1 h2;have:=ih (s.size - (i+b)) (by omega) rfl hq;subst h1;simp only[yh];simp only at h2;omega
theorem KH{s:Bs}{i j:Nat}{l:List UInt8}(h:ZD s i=some (l,j)):l.length+4*(i+2)<=4*j:=by
 unfold ZD at h;split at h
 ·have:=zdz h;omega
 ·cases h
theorem UB(l:List UInt8):(quoted l).length<=6*l.length+2:=by
 have:=Sa l;unfold quoted;simp only[yn,yh,yD];omega
theorem Tu{s:Bs}{i j:Nat}{l:List UInt8}(h:nm s i=some (l,j)):l.length+i<=j:=by
 have a:=Ki h;unfold nm at h;split at h
 ·injection h with h;injection h with h1 h2;subst h1;subst h2;unfold Qc Zc;split
  ·simp;omega
  ·rw[ym,yu,Zn];omega
 ·cases h
def Zd(l:List (List UInt8×List UInt8)):Nat:=(l.map fun p=>(zn p).length+1).sum
theorem Tv(p:List UInt8×List UInt8):∀ l,Zd (qn p l)=(zn p).length+1+Zd l
 | []=>by simp[qn,Zd]
 | q :: r=>by
  have:=Tv p r;unfold qn;split
  ·simp[Zd]at *;omega
  ·simp[Zd]
theorem Tw:∀ (l acc:List (List UInt8×List UInt8)),Zd (l.foldl (fun acc p=>qn p acc) acc)=Zd l+Zd acc
 | [],acc=>by simp[Zd]
 | p :: l,acc=>by
  rw[List.foldl_cons,Tw l,Tv];simp[Zd];omega
theorem zdA(l:List (List UInt8×List UInt8)):Zd l.reverse=Zd l:=by
 unfold Zd;rw[List.map_reverse,List.sum_reverse]
theorem KI(l:List (List UInt8×List UInt8)):Zd (zH l)=Zd l:=by
 unfold zH;rw[zdA,Tw];simp[Zd]
theorem PU:∀ l:List (List UInt8),(joinT l).length=(l.map fun t=>t.length+1).sum
 | []=>rfl
 | t :: r=>by simp[joinT,PU r];omega
theorem Fx(l:List (List UInt8)):(joinC l).length<=(l.map fun t=>t.length+1).sum:=by
 cases l with
 | nil=>simp[joinC]
 | cons t r=>simp[joinC,PU]
theorem zdB(l:List (List UInt8×List UInt8)):(qX (zH l)).length<=Zd l+2:=by
 have h:=Fx ((zH l).map zn);rw[List.map_map]at h;have e:((zH l).map ((fun t=>t.length+1)∘zn)).sum=Zd l:=by rw[← KI l];rfl
 rw[e]at h;unfold qX;simp only[yn,yh,yD];omega
theorem WB(s:Bs):∀ f i,(∀ v j,pv s f i=some (v,j)->(ct v).length<=30*(j - i))/\(∀ l j,pa s f i=some (l,j)->((zr l).map fun t=>t.length+1).sum+2<=30*(j - i))/\(∀ m j,po s f i=some (m,j)->Zd (zj m)+2<=30*(j - i))
 | 0,i=>⟨fun v j h=>by simp[pv]at h,fun v j h=>by simp[pa]at h,fun v j h=>by simp[po]at h⟩
 | f+1,i=>by
  refine⟨fun v j h=>?_,fun l j h=>?_,fun m j h=>?_⟩
  ·have hok:=(Qs s (f+1) i).1 v j h;rw[pv]at h;have g:=Ze s (i+1);split at h
   ·split at h
    ·injection h with h;injection h with b h;subst b;simp[ct,zr,qg,joinC];omega
    ·simp only[yz]at h;obtain⟨⟨l,k⟩,d,h⟩:=h;injection h with b h;have p:=(WB s f (sk s (i+1))).2.1 l k d;have r:=(Qs s f (sk s (i+1))).2.1 l k d;have B:=Fx (zr l);subst b;simp only[ct,qg,yn,yh,yD];simp only at h;omega
   ·split at h
    ·split at h
     ·injection h with h;injection h with b h;subst b;simp[ct,zj,qX,zH,joinC];omega
     ·simp only[yz]at h;obtain⟨⟨l,k⟩,d,h⟩:=h;injection h with b h;have p:=(WB s f (sk s (i+1))).2.2 l k d;have r:=(Qs s f (sk s (i+1))).2.2 l k d;have B:=zdB (zj l);subst b;simp only[ct];simp only at h;omega
    ·split at h
     ·simp only[yz]at h;obtain⟨⟨l,k⟩,d,h⟩:=h;injection h with b h;have p:=KH d;have r:=UB l;subst b;simp only[ct];simp only at h;omega
     ·split at h
      ·injection h with h;injection h with b h;subst b;simp[ct];omega
      ·split at h
       ·injection h with h;injection h with b h;subst b;simp[ct];omega
       ·split at h
        ·injection h with h;injection h with b h;subst b;simp[ct];omega
        ·simp only[yz]at h;obtain⟨⟨l,k⟩,d,h⟩:=h;injection h with b h;have p:=Tu d;subst b;simp only[ct];simp only at h;omega
  ·rw[pa]at h;simp only[Option.bind_eq_some_iff]at h;obtain⟨⟨v,k⟩,d,h⟩:=h;have p:=(Qs s f i).1 v k d;have u:=(WB s f i).1 v k d;have y:=Ze s k;simp only at h;split at h
   ·injection h with h;injection h with b h;subst b;simp[zr];omega
   ·split at h
    ·simp only[yz]at h;obtain⟨⟨l,n⟩,q,h⟩:=h;injection h with b h;have r:=(Qs s f _).2.1 l n q;have w:=(WB s f _).2.1 l n q;have z:=Ze s (sk s k+1);subst b;simp only[zr,yi,yL];simp only at h;omega
    ·cases h
  ·rw[po]at h;simp only[Option.bind_eq_some_iff]at h;obtain⟨⟨o,a⟩,x,h⟩:=h;have b:=Ye x;have A:=KH x;have F:=UB o;simp only at h;split at h
   ·simp only[Option.bind_eq_some_iff]at h;obtain⟨⟨v,k⟩,d,h⟩:=h;have p:=(Qs s f _).1 v k d;have u:=(WB s f _).1 v k d;have D:=Ze s a;have E:=Ze s (sk s a+1);have y:=Ze s k;simp only at h;split at h
    ·injection h with h;injection h with b h;subst b;simp[zj,Zd,zn];omega
    ·split at h
     ·simp only[yz]at h;obtain⟨⟨l,n⟩,q,h⟩:=h;injection h with b h;have r:=(Qs s f _).2.2 l n q;have w:=(WB s f _).2.2 l n q;have z:=Ze s (sk s k+1);subst b;have e:Zd (zj (.cons o v l))=(zn (o,ct v)).length+1+Zd (zj l):=by simp[zj,Zd]
      have C:(zn (o,ct v)).length=(quoted o).length+1+(ct v).length:=by simp[zn];omega
      simp only at h ⊢;omega
     ·cases h
   ·cases h
theorem Fy{s:Bs}{i j:Nat}{v:JV}(h:val s i=some (v,j)):(ct v).length<=30*(j - i):=(WB s _ i).1 v j h
theorem zdC(c:UInt8):1<=(qB c).length:=by
 unfold qB
 repeat' split
 all_goals simp
theorem Tx(l:List UInt8):l.length<=(qs l).length:=by
 induction l with
 | nil=>simp
 | cons c l ih=>
  have:=zdC c;simp only[qs,List.flatMap_cons,yh,yn]at *;omega
def JL.toL:JL->List JV
 | .nil=>[]
 | .cons v r=>v :: r.toL
theorem qR:∀ l:JL,zr l=l.toL.map ct
 | .nil=>rfl
 | .cons v r=>by rw[zr,JL.toL,yi,qR r]
theorem KJ(l:List UInt8):l.length+2<=(quoted l).length:=by
 have:=Tx l;simp[quoted];omega
theorem Ty(p:List UInt8×List UInt8):(zn p).length=(quoted p.1).length+1+p.2.length:=by simp[zn];omega
def hold(n:Nat):Nat:=2+(n - 1)
def dl:List JV->Nat
 | []=>0
 | v :: r=>max (zL v) (dl r)
def cl(vs:List JV):Nat:=(vs.map zt).sum
def nl(ts:List (List UInt8)):Nat:=(ts.map List.length).sum
theorem Tz(a:List JV)(v:JV):dl (a++[v])=max (dl a) (zL v):=by
 induction a with
 | nil=>simp[dl]
 | cons x r ih=>simp only[List.cons_append,dl,ih];omega
theorem TA(a:List JV)(v:JV):cl (a++[v])=cl a+zt v:=by simp[cl]
theorem WC:∀ l:JL,Yv l=dl l.toL
 | .nil=>rfl
 | .cons v r=>by rw[Yv,JL.toL,dl,WC r]
theorem KK:∀ l:JL,Qv l=cl l.toL
 | .nil=>rfl
 | .cons v r=>by rw[Qv,JL.toL,KK r];simp[cl]
theorem TB(a:List JV)(k:Nat):dl (a.take k)<=dl a:=by
 induction a generalizing k with
 | nil=>simp
 | cons x r ih=>
  cases k with
  | zero=>simp[dl]
  | succ k=>simp only[List.take_succ_cons,dl];have:=ih k;omega
theorem PV(a:List JV)(k:Nat)(h:k<a.length):zL a[k]<=dl a:=by
 induction a generalizing k with
 | nil=>simp at h
 | cons x r ih=>
  cases k with
  | zero=>simp only[List.getElem_cons_zero,dl];omega
  | succ k=>simp only[List.getElem_cons_succ,dl];have:=ih k (by simpa using h);omega
theorem Fz(a:List Nat)(k:Nat):(a.take k).sum<=a.sum:=by
 have:a.sum=(a.take k).sum+(a.drop k).sum:=by rw[← List.sum_append,List.take_append_drop]
 omega
theorem VV(a:List Nat)(k:Nat)(h:k<a.length):a[k]<=a.sum:=by
 have b:=Fz a (k+1);rw[yy h,List.sum_append]at b;simp at b;omega
theorem TC:∀ ts:List (List UInt8),(joinT ts).length=ts.length+nl ts
 | []=>rfl
 | t :: r=>by
  have:=TC r;simp[joinT,nl]at this ⊢;omega
theorem UC(ts:List (List UInt8)):(joinC ts).length+2=hold ts.length+nl ts:=by
 cases ts with
 | nil=>simp[joinC,hold,nl]
 | cons t r=>
  have:=TC r;simp[joinC,hold,nl]at this ⊢;omega
theorem VW:∀ m:JM,JZ m=dl (m.toL.map (·.2))
 | .nil=>rfl
 | .cons k v r=>by rw[JZ,JM.toL,yi,dl,VW r]
theorem WD:∀ m:JM,qY m=(m.toL.map fun q=>zt q.2).sum
 | .nil=>rfl
 | .cons k v r=>by rw[qY,JM.toL,yi,yL,WD r]
def Z0(q:List UInt8×JV):Nat:=(quoted q.1).length+1+(ct q.2).length
theorem Yh(m:JM):(ct (.obj m)).length=hold m.toL.length+(m.toL.map Z0).sum:=by
 show (qX (zH (zj m))).length=_
 have h:=UC ((zH (zj m)).map zn);have a:((zH (zj m)).map zn).length=m.toL.length:=by rw[yl,(qL _).length_eq,qQ,yl]
 have b:nl ((zH (zj m)).map zn)=(m.toL.map Z0).sum:=by
  unfold nl;have p:=(((qL (zj m)).map zn).map List.length).sum_nat;rw[p,qQ];simp only[List.map_map];congr 1;apply List.map_congr_left;intro q _;simp only[Function.comp_apply,Z0];exact Ty _
 rw[a,b]at h;simp[qX];omega
theorem GH(f:List UInt8×JV->Nat){qs:List (List UInt8×JV)}{q:List UInt8×JV}(h:q∈qs):f q<=(qs.map f).sum:=by
 obtain⟨j,a,rfl⟩:=List.getElem_of_mem h;have:=VV (qs.map f) j (by simpa using a);simpa using this
theorem PW{α β:Type}(f:α->β):∀ (l1:List β) (l2:List α),l1.Perm (l2.map f)->∃ l3:List α,l3.Perm l2/\l3.map f=l1
 | [],l2,h=>by
  have:=h.length_eq;simp at this;obtain rfl:=yN this.symm;exact⟨[],List.Perm.refl _,rfl⟩
 | a :: r,l2,h=>by
  have g:a∈l2.map f:=h.subset yp;obtain⟨b,i,rfl⟩:=yO.1 g;obtain⟨s,t,rfl⟩:=List.append_of_mem i;have j:r.Perm ((s++t).map f):=by
   rw[yw,yi]at h;rw[yw];exact (h.trans List.perm_middle).cons_inv
  obtain⟨l3,d,rfl⟩:=PW f r (s++t) j;exact⟨b :: l3,(d.cons b).trans List.perm_middle.symm,rfl⟩
theorem TD{a b:List JV}(h:a.Perm b):dl a=dl b:=by
 induction h with
 | nil=>rfl
 | cons x _ ih=>simp[dl,ih]
 | swap x y l=>simp only[dl];omega
 | trans _ _ h1 h2=>exact h1.trans h2
theorem TE{a b:List JV}(h:a.Perm b):cl a=cl b:=by unfold cl;exact (h.map zt).sum_nat
def FA(v:JV):Prop:=(ct v).length<=1000000->zt v<=1000000->∀ w:Wo,Calls prog 97 #[.string (ze (ct v))] w fun e w'=>e= .returned (.tuple #[.int .i64 (zL v:Int),.int .i64 (zt v:Int)])/\Bw w w'
theorem PY (T:Bs) (ps:List (List UInt8×List UInt8)) (vs:List JV) (w:Wo) (hpv:ps.map (·.2)=vs.map ct) (hc:cl vs<=1000000) (hd:dl vs<=1000000) (hn:ps.length<=1000000)
  (hp:Calls prog 47 #[.string T] w fun e w'=>∃ v,e= .returned v/\PR w' w.heap.size v ps/\Bw w w')
  (hs:∀ v∈vs,∀ w:Wo,Calls prog 97 #[.string (ze (ct v))] w fun e w'=>e= .returned (.tuple #[.int .i64 (zL v:Int),.int .i64 (zt v:Int)])/\Bw w w'):
  Calls prog 97 #[.string T] w fun e w'=>e= .returned (.tuple #[.int .i64 ((dl vs+1:Nat):Int),.int .i64 ((cl vs+1:Nat):Int)])/\Bw w w':=by
 have H:=zb hp;have Y:ps.length=vs.length:=by have:=congrArg List.length hpv;simpa using this
 have d:Hid (∀ k (B:k<ps.length),∃ i z:Nat,dl (vs.take (k+1))=max (dl (vs.take k)) i/\cl (vs.take (k+1))=cl (vs.take k)+z/\i<=dl vs/\z<=cl vs/\∀ w:Wo,Calls prog 97 #[.string (ze ps[k].2)] w (Rb (.tuple #[.int .i64 (i:Int),.int .i64 (z:Int)]) w)):=fun k B=>by
  have b:k<vs.length:=by omega
  have e:ps[k].2=ct vs[k]:=by
   have:=congrArg (fun l=>l[k]?) hpv;simpa [B,b]using this
  refine⟨zL vs[k],zt vs[k],?_,?_,PV vs k b,?_,?_⟩
  ·rw[yy b];exact Tz _ _
  ·rw[yy b];exact TA _ _
  ·have:=VV (vs.map zt) k (by simpa using b);simpa [cl]using this
  ·rw[e];exact hs _ (yr b)
 have n:Hid (∀ k,dl (vs.take k)<=dl vs/\cl (vs.take k)<=cl vs):=fun k=>by
  refine⟨TB _ _,?_⟩;unfold cl;rw[List.map_take];exact Fz _ _
 have P:Hid (vs.take ps.length=vs):=yq (by omega);clear hp hs hpv Y;go_in;go_wp2_with fail;refine (uh H).mono ?_;rintro e O ⟨v1,rfl,F,I⟩;have A:=zb F;have G:=zb I;obtain⟨x,len,o,rfl,u⟩:∃ x len o,v1= .slice x len o/\len=ps.length:=by
  rcases F.2 with ⟨E,R⟩ |⟨g,o,Q,E,_⟩
  ·exact⟨_,_,_,E,R.symm⟩
  ·exact⟨_,_,_,E,rfl⟩
 subst u;clear H F I;go_wp2_with fail;go_loopw [5,6,7] (fun dv cv iv wr=>∃ k:Nat,k<=ps.length/\iv= .int .i64 (k:Int)/\dv= .int .i64 ((dl (vs.take k):Nat):Int)/\cv= .int .i64 ((cl (vs.take k):Nat):Int)/\Bw O wr) (fun _ _ iv _=>ps.length - (intOf iv).toNat)
 case atStart=>exact⟨0,yt _,rfl,rfl,rfl,yH _ _⟩
 case round=>
  obtain⟨k,B,rfl,rfl,rfl,s⟩:=hrel;by_cases y:k<ps.length
  ·have M:(k:Int)<(ps.length:Int):=by omega
   obtain⟨g,J,V,W,X,c0,c1⟩:=((uh A).below s).cells k y;injection V with he1 he2 he3;subst he1;subst he3;obtain⟨i,z,K,L,U,S,f⟩:=uh d k y;obtain⟨x1,x2⟩:=uh n k;have a:=zb (f wr);have m:=zb K;have q:=zb L;have j:=zb s;generalize dl (vs.take k)=D at *;generalize cl (vs.take k)=C at *;generalize ze ps[k].2=tx at *;clear s f K L c0 d n A;by_cases N:D<i
   ·have Z:((D:Int)<(i:Int))=True:=eq_true (by omega);have h:max D i=i:=by omega
    rw[h]at m;clear N h;go_wp2_with fail;refine (uh a).mono ?_;rintro e w2 ⟨rfl,r⟩;have p:=zb ((uh j).trans (r.mono (uh j).size));clear a r c1;go_wp2;go_roundw
    case rel=>exact⟨k+1,by omega,by go_num,by rw[uh m],by rw[uh q];go_num,uh p⟩
    case measure=>simp[intOf];omega
   ·have Z:((D:Int)<(i:Int))=False:=yQ (by omega);have h:max D i=D:=by omega
    rw[h]at m;clear N h;go_wp2_with fail;refine (uh a).mono ?_;rintro e w2 ⟨rfl,r⟩;have p:=zb ((uh j).trans (r.mono (uh j).size));clear a r c1;go_wp2;go_roundw
    case rel=>exact⟨k+1,by omega,by go_num,by rw[uh m],by rw[uh q];go_num,uh p⟩
    case measure=>simp[intOf];omega
  ·have b:k=ps.length:=by omega
   subst b;rw[uh P];have p:=zh (uh G) s;clear d n A G s;go_wp2;go_ret2;exact⟨by first | rfl | go_num,p⟩
mutual
def QH:JV->Nat
 | .arr l=>WE l+1
 | .obj m=>UD m+1
 | .nul=>0
 | .tt=>0
 | .ff=>0
 | .num _=>0
 | .str _=>0
def WE:JL->Nat
 | .nil=>0
 | .cons v r=>max (QH v) (WE r)
def UD:JM->Nat
 | .nil=>0
 | .cons _ v r=>max (QH v) (UD r)
end
mutual
theorem PZ:∀ v:JV,QH v<=zL v
 | .nul=>yt _
 | .tt=>yt _
 | .ff=>yt _
 | .num _=>yt _
 | .str _=>yt _
 | .arr l=>by rw[QH,zL];have:=TF l;omega
 | .obj m=>by rw[QH,zL];have:=TG m;omega
theorem TF:∀ l:JL,WE l<=Yv l
 | .nil=>ye _
 | .cons v r=>by rw[WE,Yv];have:=TF r;have:=PZ v;omega
theorem TG:∀ m:JM,UD m<=JZ m
 | .nil=>ye _
 | .cons k v r=>by rw[UD,JZ];have:=TG r;have:=PZ v;omega
end
def Vn:List JV->Nat
 | []=>0
 | v :: r=>max (QH v) (Vn r)
theorem zdD{a b:List JV}(h:a.Perm b):Vn a=Vn b:=by
 induction h with
 | nil=>rfl
 | cons x _ ih=>simp[Vn,ih]
 | swap x y l=>simp only[Vn];omega
 | trans _ _ h1 h2=>exact h1.trans h2
theorem TH:∀ m:JM,UD m=Vn (m.toL.map (·.2))
 | .nil=>rfl
 | .cons k v r=>by rw[UD,JM.toL,yi,Vn,TH r]
section
variable {T:Bs}
def ZA(T:Bs)(t:List UInt8)(d:Nat):Prop:=∀ op mo i m f r,op<=mo->T.data.toList.drop i=t++m->JJ T f op (max mo (op+d)) (i+t.length)=some r->∃ f',JJ T f' op mo i=some r
theorem ZA.nil:ZA T [] 0:=fun op mo _ _ f _ ho _ h=>⟨f,by rwa [show max mo (op+0)=mo by omega]at h⟩
theorem ZA.app{a b:List UInt8}{d e:Nat}(ha:ZA T a d)(hb:ZA T b e):ZA T (a++b) (max d e):=fun op mo i m f r ho h he=>by
 rw[List.append_assoc]at h;rw[yh,← Nat.add_assoc,show max mo (op+max d e)=max (max mo (op+d)) (op+e) by omega]at he;obtain⟨g,j⟩:=hb op _ (i+a.length) m f r (by omega) (QY h) he;exact ha op mo i (b++m) g r ho h j
theorem ZA.one{c:UInt8}(hc:YQ c):ZA T [c] 0:=fun op mo i m f r ho h he=>by
 obtain⟨b,a,_⟩:=Zx h;refine⟨f+1,?_⟩;rw[JJ,yg b,Vh a hc.1,a,X5 hc];exact he
theorem ZA.plain:∀ {t:List UInt8},(∀ c∈t,YQ c)->ZA T t 0
 | [],_=>ZA.nil
 | c :: _,h=>ZA.app (a:=[c]) (d:=0) (e:=0) (ZA.one (h c yp)) (ZA.plain fun d hd=>h d (yv _ hd))
theorem ZA.quoted{l:List UInt8}(hv:Lib.validD l=true):ZA T (Go.Proofs.YtekpghcckdjnhaaGreatDoor.quoted l) 0:=fun op mo i m f r ho h he=>by
 obtain⟨b,a,d⟩:=Pa hv h;refine⟨f+1,?_⟩;rw[JJ,yg b,d,a,Pb];exact he
theorem ZA.wrap{t:List UInt8}{a b:UInt8}{d:Nat}(ha:VO a.toNat=true)(hb:Wt b.toNat=true)(ht:ZA T t d):ZA T (a ::(t++[b])) (d+1):=by
 have j:a.toNat≠34:=by intro e;rw[e]at ha;cases ha
 have k:b.toNat≠34:=by intro e;rw[e]at hb;cases hb
 have o:VO b.toNat=false:=by
  simp only[Wt,Bool.or_eq_true,yC]at hb;rcases hb with h | h<;>simp[VO,h]
 intro g s i m f r B h z;have x:T.data.toList.drop i=a ::(t++(b :: m)):=by rw[h];simp
 obtain⟨A,l,u⟩:=Zx x;obtain⟨q,n,y⟩:=Zx (QY u);have v:JJ T (f+1) (g+1) (max (max s (g+1)) (g+1+d)) (i+1+t.length)=some r:=by
  rw[JJ,yg q,Vh n k,n];simp only[yA,QZ,o,hb,if_true,Bool.false_eq_true,if_false];rw[yf (by omega)];simp only[yA,Nat.add_sub_cancel];rw[show i+1+t.length+1=i+(a ::(t++[b])).length by simp;omega,show max (max (max s (g+1)) (g+1+d)) g=max s (g+(d+1)) by omega];exact z
 obtain⟨w,p⟩:=ht (g+1) _ (i+1) (b :: m) _ r (by omega) u v;refine⟨w+1,?_⟩;rw[JJ,yg A,Vh l j,l];simp only[yA,QZ,ha,if_true];exact p
theorem TI:YQ 44:=⟨by decide,by decide,by decide,by decide,by decide⟩
theorem zdE:YQ 58:=⟨by decide,by decide,by decide,by decide,by decide⟩
mutual
theorem FB:∀ v:JV,zF v->ZA T (ct v) (QH v)
 | .nul,_=>ZA.plain fun c hc=>((Uq (l:=[110,117,108,108]) (by simp)).2 c hc).1
 | .tt,_=>ZA.plain fun c hc=>((Uq (l:=[116,114,117,101]) (by simp)).2 c hc).1
 | .ff,_=>ZA.plain fun c hc=>((Uq (l:=[102,97,108,115,101]) (by simp)).2 c hc).1
 | .num l,h=>ZA.plain fun c hc=>((Up h).2 c hc).1
 | .str l,h=>by rw[zF]at h;exact ZA.quoted h
 | .arr l,h=>by
  rw[zF]at h;rw[QH];refine ZA.wrap rfl rfl ?_
  cases l with
  | nil=>exact ZA.nil
  | cons v r=>
   rw[qw]at h;exact ZA.app (FB v h.1) (TJ r h.2)
 | .obj m,h=>by
  rw[zF]at h;rw[QH];refine ZA.wrap rfl rfl ?_;have hm:=TK m h;obtain⟨qs,hq,he⟩:=PW (fun q:List UInt8×JV=>(q.1,ct q.2)) (zH (zj m)) m.toL (by rw[← qQ];exact qL _);rw[← he,TH,← zdD (hq.map (·.2))];have hall:∀ q∈qs,ZA T (zn (q.1,ct q.2)) (QH q.2):=fun q hqm=>hm q (hq.subset hqm);clear hm he hq;have hj:∀ qs:List (List UInt8×JV),(∀ q∈qs,ZA T (zn (q.1,ct q.2)) (QH q.2))->ZA T (joinT ((qs.map fun q=>(q.1,ct q.2)).map zn)) (Vn (qs.map (·.2))):=by
   intro qs;induction qs with
   | nil=>intro _;exact ZA.nil
   | cons q r ih=>
    intro hh;have:=ZA.app (a:=[44]) (d:=0) (ZA.one TI) (ZA.app (hh q yp) (ih fun x hx=>hh x (yv _ hx)));rw[show max 0 (max (QH q.2) (Vn (r.map (·.2))))=max (QH q.2) (Vn (r.map (·.2))) by omega]at this;exact this
  cases qs with
  | nil=>exact ZA.nil
  | cons q r=>exact ZA.app (hall q yp) (hj r fun x hx=>hall x (yv _ hx))
theorem TJ:∀ l:JL,qw l->ZA T (joinT (zr l)) (WE l)
 | .nil,_=>ZA.nil
 | .cons v r,h=>by
  rw[qw]at h;have:=ZA.app (a:=[44]) (d:=0) (ZA.one (T:=T) TI) (ZA.app (FB v h.1) (TJ r h.2));rw[show max 0 (max (QH v) (WE r))=max (QH v) (WE r) by omega]at this;exact this
theorem TK:∀ m:JM,qq m->∀ q∈m.toL,ZA T (zn (q.1,ct q.2)) (QH q.2)
 | .nil,_,q,hq=>by simp[JM.toL]at hq
 | .cons k v r,h,q,hq=>by
  rw[qq]at h;rw[JM.toL]at hq;rcases List.mem_cons.1 hq with e | hq
  ·rw[e];have:=ZA.app (ZA.quoted (T:=T) h.1) (ZA.app (a:=[58]) (d:=0) (ZA.one zdE) (FB v h.2.1));rw[show max 0 (max 0 (QH v))=QH v by omega]at this;exact this
  ·exact TK r h.2.2 q hq
end
end
theorem zdF(v:JV)(h:zF v):∃ f,JJ (ze (ct v)) f 0 0 0=some (QH v):=by
 refine FB (T:=ze (ct v)) v h 0 0 0 [] 1 (QH v) (ye _) (by rw[Zf];simp) ?_;rw[JJ,yf (by rw[Zw];omega)];simp
theorem TL:∀ (b:Nat) (cs:List (List UInt8)),(qM b cs).map (·.2)=cs
 | _,[]=>rfl
 | b,t :: r=>by simp[qM,TL (b+1) r]
theorem GI{c:UInt8}{r:List UInt8}:0<(ze (c :: r)).size/\bt (ze (c :: r)) 0=c.toNat:=by
 refine⟨by rw[Zw];simp,?_⟩;unfold bt;rw[Zf];rfl
theorem KL(v:JV)(c:UInt8)(r:List UInt8)(hc:ct v=c :: r)(h1:c.toNat≠91)(h2:c.toNat≠123)(hd:zL v=1)(hn:zt v=1):FA v:=by
 intro _ _ w;rw[hd,hn];obtain⟨a,b⟩:=GI (c:=c) (r:=r);refine PY (ze (ct v)) [] [] w rfl (by simp[cl]) (by simp[dl]) (by simp) ?_ (fun v hv=>by simp at hv);rw[hc];exact Tr _ w a (by rw[b];exact h1) (by rw[b];exact h2)
mutual
theorem P8:∀ v:JV,zF v->FA v
 | .nul,_=>KL .nul 110 _ rfl (by decide) (by decide) rfl rfl
 | .tt,_=>KL .tt 116 _ rfl (by decide) (by decide) rfl rfl
 | .ff,_=>KL .ff 102 _ rfl (by decide) (by decide) rfl rfl
 | .num l,h=>by
  have hp:=Up h
  cases l with
  | nil=>exact absurd rfl hp.1
  | cons c r=>
   have:=(hp.2 c yp).1;exact KL (.num (c :: r)) c r rfl this.2.1 this.2.2.1 rfl rfl
 | .str l,_=>KL (.str l) 34 (qs l++[34]) rfl (by decide) (by decide) rfl rfl
 | .arr l,h=>by
  rw[zF]at h;intro hlen hcn w;have hs:=TM l h;have hd:=(Gy (.arr l)).1;have hct:(ct (.arr l)).length=hold (zr l).length+nl (zr l):=by
   show (qg (zr l)).length=_
   have:=UC (zr l);simp[qg];omega
  have e1:zL (.arr l)=dl l.toL+1:=by rw[zL,WC]
  have e2:zt (.arr l)=cl l.toL+1:=by rw[zt,KK]
  rw[e1]at hd;rw[e2]at hd hcn;rw[e1,e2];refine PY _ (qM 0 (zr l)) l.toL w (by rw[TL,qR]) (by omega) (by omega) (by rw[GA];unfold hold at hct;omega) (Ts l h w (by rw[Zw];exact hlen)) (fun v hv=>?_);obtain⟨k,hk,rfl⟩:=List.getElem_of_mem hv;have c1:zt l.toL[k]<=cl l.toL:=by have:=VV (l.toL.map zt) k (by simpa using hk);simpa [cl]using this
  have n1:(ct l.toL[k]).length<=nl (zr l):=by have:=VV ((zr l).map List.length) k (by rw[qR];simpa using hk);simpa [nl,qR]using this
  exact hs _ hv (by omega) (by omega)
 | .obj m,h=>by
  rw[zF]at h;intro hlen hcn w;have hs:=TN m h;have hd:=(Gy (.obj m)).1;have hct:=Yh m;have e1:zL (.obj m)=dl (m.toL.map (·.2))+1:=by rw[zL,VW]
  have e2:zt (.obj m)=cl (m.toL.map (·.2))+1:=by rw[zt,WD];simp[cl,Function.comp_def]
  obtain⟨qs,hq,he⟩:=PW (fun q:List UInt8×JV=>(q.1,ct q.2)) (zH (zj m)) m.toL (by rw[← qQ];exact qL _);have hp2:=hq.map (·.2);rw[e1]at hd;rw[e2]at hd hcn;rw[e1,e2,← TD hp2,← TE hp2];have hml:(zH (zj m)).length=m.toL.length:=by rw[(qL _).length_eq,qQ,yl]
  refine PY _ (zH (zj m)) (qs.map (·.2)) w (by rw[← he];simp) (by rw[TE hp2];omega) (by rw[TD hp2];omega) (by unfold hold at hct;omega) (Tt m h w (by rw[Zw];exact hlen)) (fun v hv=>?_);obtain⟨q,hqm,rfl⟩:=yO.1 hv;have hqm':=hq.subset hqm;have c1:zt q.2<=cl (m.toL.map (·.2)):=by
   have:=GH (fun q=>zt q.2) hqm';simpa [cl,Function.comp_def]using this
  have n1:=GH Z0 hqm';simp only[Z0]at n1;exact hs q hqm' (by omega) (by omega)
theorem TM:∀ l:JL,qw l->∀ v∈l.toL,FA v
 | .nil,_,v,hv=>by simp[JL.toL]at hv
 | .cons x r,h,v,hv=>by
  rw[qw]at h;rw[JL.toL]at hv;rcases List.mem_cons.1 hv with e | hv
  ·rw[e];exact P8 x h.1
  ·exact TM r h.2 v hv
theorem TN:∀ m:JM,qq m->∀ q∈m.toL,FA q.2
 | .nil,_,q,hq=>by simp[JM.toL]at hq
 | .cons k x r,h,q,hq=>by
  rw[qq]at h;rw[JM.toL]at hq;rcases List.mem_cons.1 hq with e | hq
  ·rw[e];exact P8 x h.2.1
  ·exact TN r h.2.2 q hq
end
theorem zdG (T:Bs) (r f d c:Nat) (w:Wo) (hT:T.size<=1000000) (h:JJ T f 0 0 0=some r) (hrd:r<=d) (hd:d<=1000000) (hc:c<=1000000) (q:Bool) (hq0:q=decide (d<=100/\c<=3000))
  (hs:∀ w:Wo,Calls prog 97 #[.string T] w fun e w'=>e= .returned (.tuple #[.int .i64 (d:Int),.int .i64 (c:Int)])/\Bw w w'):
  Calls prog 51 #[.string T] w fun e w'=>e= .returned (.bool q)/\Bw w w':=by
 have i:=zb hq0;clear hq0;have k:Hid (∀ (j:Nat) (w:Wo),j<T.size->Calls prog 85 #[.string T,.int .i64 j] w (Kr T w (ZD T j))):=fun j w hj=>Ks T j w (by omega) (by omega);have p:=zb hs;have H0:=zb h;clear h hs;go_in;go_wp2;go_loopw [3,4,5] (fun ov mv iv wr=>∃ (z b j g:Nat),ov= .int .i64 (z:Int)/\mv= .int .i64 (b:Int)/\iv= .int .i64 (j:Int)/\j<=T.size/\z<=b/\b<=j/\JJ T g z b j=some r/\Bw w wr) (fun _ _ iv _=>T.size - (intOf iv).toNat)
 case atStart=>exact⟨0,0,0,f,rfl,rfl,rfl,yt _,ye _,ye _,uh H0,yH _ _⟩
 case round=>
  obtain⟨z,b,j,g,rfl,rfl,rfl,hj,hop,hmo,a,P⟩:=hrel;clear H0;obtain⟨g,rfl⟩:∃ g',g=g'+1:=by cases g with
   | zero=>simp[JJ]at a
   | succ g=>exact⟨g,rfl⟩
  rw[JJ]at a;by_cases M:j<T.size
  ·rw[yg M]at a;have hltI:(j:Int)<(T.size:Int):=by omega
   have E:=Zr T j M;obtain⟨n,J,o,v,Y⟩:∃ j2,JI T j=some j2/\∃ o,QZ (bt T j) z=some o/\JJ T g o (max b o) j2=some r:=by
    cases J:JI T j with
    | none=>rw[J]at a;simp at a
    | some j2=>
     rw[J]at a;simp only[yA]at a
     cases v:QZ (bt T j) z with
     | none=>rw[v]at a;simp at a
     | some o=>rw[v]at a;exact⟨j2,rfl,o,rfl,by simpa using a⟩
   clear a;have H:=Mp J M;have G:=H.2;have hjn:=H.1;obtain⟨u,s⟩:=Mq J;have A:=zb P;clear J H P p;obtain⟨x,hx⟩:∃ x,bt T j=x:=⟨_,rfl⟩;have f34:((T[j].toNat:Int) ==34)=decide (x=34):=bI (E ▸ hx) 34;have f91:((T[j].toNat:Int) ==91)=decide (x=91):=bI (E ▸ hx) 91;have f123:((T[j].toNat:Int) ==123)=decide (x=123):=bI (E ▸ hx) 123;have f93:((T[j].toNat:Int) ==93)=decide (x=93):=bI (E ▸ hx) 93;have f125:((T[j].toNat:Int) ==125)=decide (x=125):=bI (E ▸ hx) 125;have hoj:=Mr v;obtain⟨Z,O,N⟩:∃ m,max b o=m/\(b<o/\m=o∨¬ b<o/\m=b):=⟨_,rfl,by omega⟩;rw[O]at Y;have V:=zb Y;clear Y O;rw[hx]at u s v;by_cases L:x=34
   ·subst L;obtain⟨l,hq⟩:=s rfl;obtain rfl:z=o:=by injection v
    have D:=zb (uh k j wr M);rw[hq]at D;obtain rfl:Z=b:=by omega
    have S:¬ (Z:Int)<(z:Int):=by omega
    clear s u hq E hx k v N;go_wp2_with fail;refine (uh D).mono ?_;rintro e w2 ⟨B,rfl⟩;have U:=zb (zh (uh A) B);clear D B;go_wp2;go_roundw
    case rel=>exact⟨z,Z,n,g,by go_num,by go_num,by go_num,G,by omega,by omega,uh V,uh U⟩
    case measure=>simp[intOf];omega
   ·have hnI:(j:Int)+1=(n:Int):=by have:=u L;omega
    have X:=Pi v;clear s u E hx k v;rcases X with ⟨rfl,y⟩ |⟨rfl,y⟩ |⟨rfl,y⟩ |⟨rfl,y⟩ |⟨c1,c2,c3,c4,y⟩
    all_goals (
     rcases N with ⟨R,F⟩ |⟨R,F⟩
     ·have S:(b:Int)<(o:Int):=by omega
      subst F;go_wp2
      all_goals (
       go_roundw
       case rel=>exact⟨_,_,n,g,by go_num,by go_num,by go_num,G,by omega,by omega,uh V,uh A⟩
       case measure=>simp[intOf];omega)
     ·have S:¬ (b:Int)<(o:Int):=by omega
      subst F;go_wp2
      all_goals (
       go_roundw
       case rel=>exact⟨_,_,n,g,by go_num,by go_num,by go_num,G,by omega,by omega,uh V,uh A⟩
       case measure=>simp[intOf];omega))
  ·rw[yf M]at a;injection a with a;subst a;have A:=zb P;have tl:¬ (j:Int)<(T.size:Int):=by omega
   clear P k;by_cases R:100<b
   ·have S:(100:Int)<(b:Int):=by omega
    have C:Hid (q=false):=zb (by rw[uh i,decide_eq_false_iff_not];omega);clear R p;go_wp2;go_ret;exact⟨by rw[uh C];rfl,uh A⟩
   ·have S:¬ (100:Int)<(b:Int):=by omega
    have I:=zb (uh p wr);clear R p;by_cases Q:d<=100
    ·have t1:((d:Int)<=100)=True:=eq_true (by omega);have s1:decide ((d:Int)<=100)=true:=yj (by omega);by_cases W:c<=3000
     ·have t2:((c:Int)<=3000)=True:=eq_true (by omega);have s2:decide ((c:Int)<=3000)=true:=yj (by omega);have C:Hid (q=true):=zb (by rw[uh i,decide_eq_true_iff];exact⟨Q,W⟩);clear Q W;go_wp2_with fail;refine (uh I).mono ?_;rintro e w2 ⟨rfl,B⟩;have K:=zh (uh A) B;clear I;go_wp2;go_ret;exact⟨by rw[uh C];rfl,K⟩
     ·have t2:((c:Int)<=3000)=False:=yQ (by omega);have s2:decide ((c:Int)<=3000)=false:=yk (by omega);have C:Hid (q=false):=zb (by rw[uh i,decide_eq_false_iff_not];omega);clear Q W;go_wp2_with fail;refine (uh I).mono ?_;rintro e w2 ⟨rfl,B⟩;have K:=zh (uh A) B;clear I;go_wp2;go_ret;exact⟨by rw[uh C];rfl,K⟩
    ·have t1:((d:Int)<=100)=False:=yQ (by omega);have s1:decide ((d:Int)<=100)=false:=yk (by omega);have C:Hid (q=false):=zb (by rw[uh i,decide_eq_false_iff_not];omega);clear Q;go_wp2_with fail;refine (uh I).mono ?_;rintro e w2 ⟨rfl,B⟩;have K:=zh (uh A) B;clear I;go_wp2;go_ret;exact⟨by rw[uh C];rfl,K⟩
theorem TO(v:JV)(hok:zF v)(w:Wo)(hl:(ct v).length<=1000000)(hc:zt v<=1000000):
  Calls prog 51 #[.string (ze (ct v))] w fun e w'=>e= .returned (.bool (decide (zL v<=100/\zt v<=3000)))/\Bw w w':=by
 obtain⟨f,a⟩:=zdF v hok;have b:=(Gy v).1;exact zdG _ (QH v) f (zL v) (zt v) w (by rw[Zw];exact hl) a (PZ v) (by omega) hc _ rfl (fun w=>P8 v hok hl hc w)
theorem zdH (s:Bs) (i:Nat) (w:Wo) (hs:s.size<=1048576) (hi:i<s.size) (h91:bt s i=91)
  (IH:∀ (j:Nat) (w:Wo),i<j->j<=s.size->Calls prog 82 #[.string s,.int .i64 j] w (GP w (val s j))):
  Calls prog 115 #[.string s,.int .i64 i] w (GP w (val s i)):=by
 have z:=zb (Pf s hs);have g0:=Ze s (i+1);have g1:=(QV (s:=s) (i:=i+1) (by omega)).2;have HV:=zb (XY h91);have HIH:=zb IH;clear IH;generalize hk0:sk s (i+1)=D at *;go_in;go_wp2_with fail;refine ((uh z).1 _ (i+1) _ (by omega)).mono ?_;rintro e w1 ⟨rfl,rfl⟩;rw[hk0];go_wp2_with fail;refine ((uh z).2 93 D _ (by decide)).mono ?_;rintro e w1 ⟨rfl,rfl⟩;clear hk0;by_cases h:bt s D=93
 ·rw[yj h];have U:Hid (val s i=some (.arr .nil,D+1)):=by show _=_;rw[uh HV,yg h]
  clear h HV;go_wp2;go_returns;rw[uh U];exact⟨(QF w _).trans ((yH _ _).alloc (by simp) _),rfl⟩
 ·rw[yk h];have U:Hid (val s i=(elems s D).map fun q=>(.arr q.1,q.2)):=by show _=_;rw[uh HV,yf h]
  clear h HV h91;go_wp2_with fail;go_loopg [1] (s.size+1 - D) (fun g k wr=>∃ (j:Nat) (f:JL),g=s.size+1 - j/\k= .int .i64 (j:Int)/\D<=j/\j<=s.size/\Za w.heap.size ⟨#[]⟩ 0 false false false wr/\Za (w.heap.size+1) (ze (91 :: Qf f)) 0 true (qo f) (ZX f) wr/\Bw w wr/\(Qf f).length<=31*j/\elems s D=(elems s j).map fun q=>(f.app q.1,q.2))
  case atStart=>
   refine⟨D,.nil,rfl,rfl,ye _,g1,?_,?_,(QF w _).trans ((yH _ _).alloc (by simp) _),by simp[Qf],by simp[JL.app]⟩
   ·show (World.alloc _ _).heap[_]?=_
    rw[Lib.alloc_old _ _ _ (by simp)];exact yG w _
   ·have:=yG (w.alloc (qH ⟨#[]⟩ 0 false false false)) (qH (ze [91]) 0 true false false);rw[show (w.alloc (qH ⟨#[]⟩ 0 false false false)).heap.size=w.heap.size+1 from by simp]at this;exact this
  case round=>
   obtain⟨j,f,hg,rfl,hj1,hj2,hr,B,hb,hpl,hst⟩:=hrel;have N:=zb hst;have HG:=zb B;have G:=zb hr;have HB:=zb hb;have hwsz:=hb.size;have hgl:=B.lt;clear hst B hr hb;have T:=zb (uh HIH j wr (by omega) (by omega))
   cases hv:val s j with
   | none=>
    have HN:Hid (val s i=none):=by
     show _=_
     rw[uh U,uh N,Wq,hv];rfl
    rw[hv]at T;clear hv;go_wp2_with fail;refine (uh T).mono ?_;rintro e J ⟨C,t,n,bb,tw,rfl⟩;have R2:=(uh G).below C;have B2:=zh (uh HB) C;have m:=R2.alloc (qH t n false bb tw);have S:Bw w (J.alloc (qH t n false bb tw)):=B2.alloc (by have:=C.size;omega) _;have c0:=m.c0;have c1:=m.c1;have c2:=m.c2;have c3:=m.c3;have c4:=m.c4;have f0:=m.fz 0;have f1:=m.fz 1;have f2:=m.fz 2;have f3:=m.fz 3;have f4:=m.fz 4;have RX:=zb (m.put ⟨#[]⟩ 0 0 rfl false false false);have V:=zb (Yw S (ye _) (.string ⟨#[]⟩) (.int .i64 0) (.bool false) (.bool false) (.bool false));clear T G R2 m B2 S;simp only[Qe];go_wp2;try simp only[Exit.inBlock,Exit.then]
    refine bodyPost_ret (Yx rfl rfl (uh RX)) rfl ?_;exact GP.bad (uh HN) (uh V)
   | some q=>
    obtain⟨v,n⟩:=q;have hvo:=Vf hv;have hvl:=Fy hv;have HPL:Hid ((Qf (f.app (.cons v .nil))).length<=31*n):=by
     show _<=_
     rw[Pe];simp only[yh,yn,yD];omega
    have z1:(ze (91 :: Qf f)).size<=40000000:=by rw[Zw];simp only[yn];omega
    have z2:(ze (ct v)).size<=40000000:=by rw[Zw];omega
    have z3:(ze (91 ::(Qf f++ct v))).size<=80000000:=by rw[Zw];simp only[yn,yh];omega
    have hn1:=Ze s n;have hn2:=(QV hvo.2).2;have x:Hid (elems s D=(if bt s (sk s n)=93 then some (JL.cons v .nil,sk s n+1)else if bt s (sk s n)=44 then (elems s (sk s (sk s n+1))).map fun r=>(JL.cons v r.1,r.2)else none).map fun q=>(f.app q.1,q.2)):=by
     show _=_
     rw[uh N,Wq,hv];rfl
    rw[hv]at T;clear hv N;have P:ze (91 :: Qf f)++ze (ct v)=ze (91 ::(Qf f++ct v)):=Us _ _;have F:Hid (ze (91 ::(Qf f++ct v))++⟨#[93]⟩=ze (ct (.arr (f.app (.cons v .nil))))):=by
     show _=_
     rw[show (⟨#[93]⟩:Bs)=ze [93]from rfl,Us,ct,qg,← zbF];simp
    have E:Hid (ze (91 ::(Qf f++ct v))++⟨#[44]⟩=ze (91 :: Qf (f.app (.cons v .nil)))):=by
     show _=_
     rw[show (⟨#[44]⟩:Bs)=ze [44]from rfl,Us,Pe];simp
    have W:Hid (qo (f.app (.cons v .nil))=(qo f || zY v)):=by show _=_;rw[NT];simp[qo]
    have Z:Hid (ZX (f.app (.cons v .nil))=(ZX f || zy v)):=by show _=_;rw[NW];simp[ZX]
    go_wp2_with fail;refine (uh T).mono ?_;rintro e J ⟨C,rfl⟩;simp only[Qe];have m:=zb (((uh G).below C).alloc (qH (ze (ct v)) n true (zY v) (zy v)));have K:=((uh HG).below C).alloc (qH (ze (ct v)) n true (zY v) (zy v));have V3:Za J.heap.size (ze (ct v)) n true (zY v) (zy v) (J.alloc (qH (ze (ct v)) n true (zY v) (zy v))):=yG J _;have S:Hid (Bw w (J.alloc (qH (ze (ct v)) n true (zY v) (zy v)))):=(zh (uh HB) C).alloc (by have:=C.size;omega) _;have hw2:=C.size;clear T G HG HB C;simp only[qH]at K V3 m S;generalize qo f=ba at *;generalize ZX f=ta at *;generalize zY v=bv at *;generalize zy v=tv at *;generalize ze (91 :: Qf f)=sa at *;generalize ze (91 ::(Qf f++ct v))=sb at *;generalize ze (ct v)=sc at *;generalize hw3:J.alloc (.cells #[.string sc,.int .i64 (n:Int),.bool true,.bool bv,.bool tv] 135 (0,0))=w3 at *;have H:J.heap.size≠w.heap.size+1:=by omega
    have ok3:=V3.c2;have go0:=K.c0;have gf0:=K.fz 0;have gf3:=K.fz 3;have gf4:=K.fz 4;have v0:=V3.c0;have G4:=K.set0 sb;have V4:=V3.other (p:=⟨w.heap.size+1,0,none⟩) H (.string sb);have G5:=G4.set3 (ba || bv);have V5:=V4.other (p:=⟨w.heap.size+1,3,none⟩) H (.bool (ba || bv));have o:=G5.set4 (ta || tv);have V6:=V5.other (p:=⟨w.heap.size+1,4,none⟩) H (.bool (ta || tv));have g43:=G4.c3;have v43:=V4.c3;have f43:=G4.fz 3;have g54:=G5.c4;have v54:=V5.c4;have f54:=G5.fz 4;have v61:=V6.c1;have X:=zb o;clear K V3 G4 V4 G5 V5 o V6;generalize hbb:(ba || bv)=bb at *;generalize htt:(ta || tv)=tt at *;have hb':ba=true/\bb=true∨ba=false/\bv=bb:=Mh _ _ _ hbb;have ht':ta=true/\tt=true∨ta=false/\tv=tt:=Mh _ _ _ htt;clear hbb htt hpl hvl;rcases hb' with ⟨rfl,rfl⟩ |⟨rfl,rfl⟩<;>rcases ht' with ⟨rfl,rfl⟩ |⟨rfl,rfl⟩
    all_goals
     go_wp2_with fail;refine ((uh z).1 _ n _ rfl).mono ?_;rintro e w6 ⟨rfl,I⟩;have o:=I ▸ uh X;have O:Za w.heap.size ⟨#[]⟩ 0 false false false w6:=I ▸ (((uh m).other (p:=⟨w.heap.size+1,0,none⟩) (by show _≠w.heap.size+1;omega) _).other (p:=⟨w.heap.size+1,3,none⟩) (by show _≠w.heap.size+1;omega) _).other (p:=⟨w.heap.size+1,4,none⟩) (by show _≠w.heap.size+1;omega) _;have B6:Bw w w6:=I ▸ (((uh S).setCell (p:=⟨w.heap.size+1,0,none⟩) (by show _<=w.heap.size+1;omega) _).setCell (p:=⟨w.heap.size+1,3,none⟩) (by show _<=w.heap.size+1;omega) _).setCell (p:=⟨w.heap.size+1,4,none⟩) (by show _<=w.heap.size+1;omega) _;have u:=zb B6;have y:=zb O;have l:=zb o;clear ok3 go0 gf0 gf3 gf4 v0 g43 v43 f43 g54 v54 f54 v61 X m S I hw3 P o O B6 H hw2 w3;generalize sk s n=k at *;go_wp2_with fail;refine ((uh z).2 93 k _ (by decide)).mono ?_;rintro e w7 ⟨rfl,rfl⟩;by_cases h:bt s k=93
     ·rw[yj h];have HVV:Hid (val s i=some (.arr (f.app (.cons v .nil)),k+1)):=by
       show _=_
       rw[uh U,uh x,yg h];rfl
      have hfi:=uh F;generalize hsf:ze (ct (.arr (f.app (.cons v .nil))))=R at *;have M:=zb hsf;have o:=uh l;have c0:=o.c0;have f0:=o.fz 0;have L:=o.set0 R;have c71:=L.c1;have f71:=L.fz 1;have G8:=L.set1 ((k:Int)+1) (k+1) (by omega);have R8:=((uh y).other (p:=⟨w.heap.size+1,0,none⟩) (by show _≠w.heap.size+1;omega) (.string R)).other (p:=⟨w.heap.size+1,1,none⟩) (by show _≠w.heap.size+1;omega) (.int .i64 ((k:Int)+1));have B8:=((uh u).setCell (p:=⟨w.heap.size+1,0,none⟩) (by show _<=w.heap.size+1;omega) (.string R)).setCell (p:=⟨w.heap.size+1,1,none⟩) (by show _<=w.heap.size+1;omega) (.int .i64 ((k:Int)+1));obtain⟨a0,a1',a2,a3,a4⟩:=G8.cells;have a1:=a1'.trans (show _=some (Value.int .i64 ((k:Int)+1)) by rw[show ((k+1:Nat):Int)=(k:Int)+1 from by omega]);obtain⟨r0,r1,r2,r3,r4⟩:=R8.cells;obtain⟨q0,q1,q2,q3,q4⟩:=R8.fzs;have RX:=zb (R8.copyTo G8 ((k:Int)+1) (by omega));have V:=zb (fun a b c d e=>Yw B8 (ye _) a b c d e);clear a1' o L G8 R8 B8 l y u F hsf E x U h;go_wp2;try simp only[Exit.inBlock,Exit.then]
      refine bodyPost_ret (Yx rfl rfl (uh RX)) rfl ?_;rw[uh HVV];refine⟨uh V _ _ _ _ _,?_⟩;show _=Ending.returned (Qe (ze (ct (.arr (f.app (.cons v .nil))))) (k+1) true (qo (f.app (.cons v .nil))) (ZX (f.app (.cons v .nil))))
      rw[uh M,uh W,uh Z]
     ·rw[yk h];go_wp2_with fail;refine ((uh z).2 44 k _ (by decide)).mono ?_;rintro e w8 ⟨rfl,rfl⟩;by_cases A:bt s k=44
      ·rw[yj A];have hkl:k<s.size:=zZ (by omega);have Y:Hid (elems s D=(elems s (sk s (k+1))).map fun q=>((f.app (.cons v .nil)).app q.1,q.2)):=by
        show _=_
        rw[uh x,yf h,yg A,Option.map_map];congr 1;funext q;simp[JL.app_assoc,JL.app]
       have hco:=uh E;generalize hsf:ze (91 :: Qf (f.app (.cons v .nil)))=R at *;have M:=zb hsf;have o:=uh l;have c0:=o.c0;have f0:=o.fz 0;have L:=zb (o.set0 R);have R7:=zb ((uh y).other (p:=⟨w.heap.size+1,0,none⟩) (by show _≠w.heap.size+1;omega) (.string R));have B7:=zb ((uh u).setCell (p:=⟨w.heap.size+1,0,none⟩) (by show _<=w.heap.size+1;omega) (.string R));clear o l y u F hsf E x h A;go_wp2_with fail;refine ((uh z).1 _ (k+1) _ (by omega)).mono ?_;rintro e w9 ⟨rfl,Q⟩;have G9:=Q ▸ uh L;have R9:=Q ▸ uh R7;have B9:=Q ▸ uh B7;have hs1:=Ze s (k+1);have hs2:=(QV (s:=s) (i:=k+1) (by omega)).2;clear L R7 B7 c0 f0;go_wp2;go_roundg (s.size+1 - sk s (k+1))
       case rel=>exact⟨sk s (k+1),f.app (.cons v .nil),rfl,rfl,by omega,hs2,R9,by rw[uh M,uh W,uh Z];exact G9,B9,by have:=uh HPL;omega,uh Y⟩
       case measure=>omega
      ·rw[yk A];have HN:Hid (val s i=none):=by
        show _=_
        rw[uh U,uh x,yf h,yf A];rfl
       have O:=uh y;obtain⟨r0,r1,r2,r3,r4⟩:=O.cells;obtain⟨q0,q1,q2,q3,q4⟩:=O.fzs;have RX:=zb (O.put ⟨#[]⟩ 0 0 rfl false false false);have V:=zb (Yw (uh u) (ye _) (.string ⟨#[]⟩) (.int .i64 0) (.bool false) (.bool false) (.bool false));clear O l y u F E x h A;go_wp2;try simp only[Exit.inBlock,Exit.then]
       refine bodyPost_ret (Yx rfl rfl (uh RX)) rfl ?_;exact GP.bad (uh HN) (uh V)
theorem WF(s:Bs):∀ f i,(∀ v j,pv s f i=some (v,j)->zt v+i<=j)/\(∀ l j,pa s f i=some (l,j)->Qv l+i<=j)/\(∀ m j,po s f i=some (m,j)->qY m+i<=j)
 | 0,i=>⟨fun v j h=>by simp[pv]at h,fun v j h=>by simp[pa]at h,fun v j h=>by simp[po]at h⟩
 | f+1,i=>by
  refine⟨fun v j h=>?_,fun l j h=>?_,fun m j h=>?_⟩
  ·rw[pv]at h;have g:=Ze s (i+1);split at h
   ·split at h
    ·have:=zZ (s:=s) (i:=sk s (i+1)) (by omega);injection h with h;injection h with hv h;subst hv;(try simp only[zt]);(try simp only[Qv]);(try simp only[qY]);omega
    ·simp only[yz]at h;obtain⟨⟨l,k⟩,b,h⟩:=h;injection h with hv h;have:=(WF s f (sk s (i+1))).2.1 l k b;subst hv;simp only at h;(try simp only[zt]);(try simp only[Qv]);(try simp only[qY]);omega
   ·split at h
    ·split at h
     ·have:=zZ (s:=s) (i:=sk s (i+1)) (by omega);injection h with h;injection h with hv h;subst hv;(try simp only[zt]);(try simp only[Qv]);(try simp only[qY]);omega
     ·simp only[yz]at h;obtain⟨⟨l,k⟩,b,h⟩:=h;injection h with hv h;have:=(WF s f (sk s (i+1))).2.2 l k b;subst hv;simp only at h;(try simp only[zt]);(try simp only[Qv]);(try simp only[qY]);omega
    ·split at h
     ·simp only[yz]at h;obtain⟨⟨l,k⟩,b,h⟩:=h;injection h with hv h;have:=Ye b;subst hv;simp only at h;(try simp only[zt]);(try simp only[Qv]);(try simp only[qY]);omega
     ·split at h
      ·rename_i hw;have:=Ul hw;injection h with h;injection h with hv h;subst hv;(try simp only[zt]);(try simp only[Qv]);(try simp only[qY]);omega
      ·split at h
       ·rename_i hw;have:=Um hw;injection h with h;injection h with hv h;subst hv;(try simp only[zt]);(try simp only[Qv]);(try simp only[qY]);omega
       ·split at h
        ·rename_i hw;have:=Kj hw;injection h with h;injection h with hv h;subst hv;(try simp only[zt]);(try simp only[Qv]);(try simp only[qY]);omega
        ·simp only[yz]at h;obtain⟨⟨l,k⟩,b,h⟩:=h;injection h with hv h;have:=Ki b;subst hv;simp only at h;(try simp only[zt]);(try simp only[Qv]);(try simp only[qY]);omega
  ·rw[pa]at h;simp only[Option.bind_eq_some_iff]at h;obtain⟨⟨v,k⟩,b,h⟩:=h;have q:=(WF s f i).1 v k b;have o:=Ze s k;simp only at h;split at h
   ·have:=zZ (s:=s) (i:=sk s k) (by omega);injection h with h;injection h with hv h;subst hv;(try simp only[zt]);(try simp only[Qv]);(try simp only[qY]);omega
   ·split at h
    ·simp only[yz]at h;obtain⟨⟨l,n⟩,d,h⟩:=h;injection h with hv h;have:=(WF s f _).2.1 l n d;have p:=Ze s (sk s k+1);subst hv;simp only at h;(try simp only[Qv]);(try simp only[qY]);omega
    ·cases h
  ·rw[po]at h;simp only[Option.bind_eq_some_iff]at h;obtain⟨⟨u,a⟩,r,h⟩:=h;have y:=Ye r;simp only at h;split at h
   ·simp only[Option.bind_eq_some_iff]at h;obtain⟨⟨v,k⟩,b,h⟩:=h;have q:=(WF s f _).1 v k b;have w:=Ze s a;have x:=Ze s (sk s a+1);have o:=Ze s k;simp only at h;split at h
    ·have:=zZ (s:=s) (i:=sk s k) (by omega);injection h with h;injection h with hv h;subst hv;(try simp only[zt]);(try simp only[Qv]);(try simp only[qY]);omega
    ·split at h
     ·simp only[yz]at h;obtain⟨⟨l,n⟩,d,h⟩:=h;injection h with hv h;have:=(WF s f _).2.2 l n d;have p:=Ze s (sk s k+1);subst hv;simp only at h;(try simp only[qY]);omega
     ·cases h
   ·cases h
theorem TP{s:Bs}{i j:Nat}{v:JV}(h:val s i=some (v,j)):zt v+i<=j:=(WF s _ i).1 v j h
def Qj(s:Bs):Option JV:=(val s (sk s 0)).bind fun q=>if sk s q.2=s.size then some q.1 else none
def ZI(s:Bs):Sum Nat JV:=
 if 20000<s.size then .inl 1 else
 match Qj s with
 | none=>.inl 2
 | some v=>if zY v then .inl 3 else if zy v then .inl 4 else if 100<zL v∨3000<zt v then .inl 5 else .inr v
theorem FC{s:Bs}{v:JV}(h:Qj s=some v):zF v/\zt v<=s.size/\(ct v).length<=30*s.size:=by
 unfold Qj at h
 cases hv:val s (sk s 0)with
 | none=>rw[hv]at h;simp at h
 | some q=>
  obtain⟨u,j⟩:=q;have e:u=v:=by
   rw[hv]at h;simp only[yA]at h;split at h
   ·injection h
   ·cases h
  subst e;have a:=TP hv;have b:=Fy hv;have d:=Vf hv;exact⟨L5 hv,by omega,by omega⟩
def Qy(s:Bs):Value:=match ZI s with
 | .inl c=>.tuple #[.string ⟨#[]⟩,.int .i64 (c:Int)]
 | .inr v=>.tuple #[.string (ze (ct v)),.int .i64 0]
theorem TQ{s:Bs}{v:JV}(h:ZI s= .inr v):s.size<=20000/\Qj s=some v/\zy v=false/\zY v=false/\zL v<=100/\zt v<=3000:=by
 unfold ZI at h;split at h
 ·cases h
 ·rename_i hs
  cases hd:Qj s with
  | none=>rw[hd]at h;simp at h
  | some u=>
   rw[hd]at h;simp only at h;split at h
   ·cases h
   ·rename_i hb;split at h
    ·cases h
    ·rename_i ht;split at h
     ·cases h
     ·rename_i hg;injection h with h;subst h;exact⟨by omega,rfl,by simpa using ht,by simpa using hb,by omega,by omega⟩
theorem TR{s:Bs}{c:Nat}(h:ZI s= .inl c):1<=c/\c<=5:=by
 unfold ZI at h;split at h
 ·injection h with h;omega
 ·split at h
  ·injection h with h;omega
  ·split at h
   ·injection h with h;omega
   ·split at h
    ·injection h with h;omega
    ·split at h
     ·injection h with h;omega
     ·cases h
def WG(t:List UInt8):Bool:=decide (1<=t.length) && decide (t.length<=6) && !(decide ((t.getD 0 0).toNat=48) && decide (1<t.length)) && t.all fun c=>zI c.toNat
def qZ(t:List UInt8):Option Nat:=if WG t=true then some (qm t)else none
theorem YV{t:List UInt8}:WG t=true↔1<=t.length/\t.length<=6/\¬ ((t.getD 0 0).toNat=48/\1<t.length)/\∀ c∈t,zI c.toNat=true:=by
 unfold WG;simp only[Bool.and_eq_true,decide_eq_true_eq,Bool.not_eq_true',Bool.and_eq_false_iff,decide_eq_false_iff_not,List.all_eq_true];constructor
 ·rintro⟨⟨⟨a,b⟩,c⟩,d⟩;exact⟨a,b,fun ⟨x,y⟩=>c.elim (fun h=>h x) (fun h=>h y),d⟩
 ·rintro⟨a,b,c,d⟩;refine⟨⟨⟨a,b⟩,?_⟩,d⟩;by_cases h:(t.getD 0 0).toNat=48
  ·exact .inr fun y=>c ⟨h,y⟩
  ·exact .inl h
theorem zdI:∀ (n:Nat) (t:List UInt8),t.length=n->t≠[]->(t.getD 0 0).toNat≠48->(∀ c∈t,zI c.toNat=true)->1<=qm t:=by
 intro n;induction n with
 | zero=>intro t h j;exact absurd (yN h) j
 | succ n ih=>
  intro t h _ d f;rcases List.eq_nil_or_concat t with e |⟨a,c,e⟩
  ·subst e;simp at h
  ·rw[List.concat_eq_append]at e;subst e;rw[WU];have k:=Qo.1 (f c (by simp));by_cases b:a=[]
   ·subst b;have g:c.toNat≠48:=d;simp[qm];omega
   ·have i:(a.getD 0 0).toNat≠48:=by
     cases a with
     | nil=>exact absurd rfl b
     | cons x r=>exact d
    have:=ih a (by simpa using h) b i (fun x hx=>f x (by simp[hx]));omega
theorem zdJ:∀ (n:Nat) (t:List UInt8),t.length=n->t≠[]->¬ ((t.getD 0 0).toNat=48/\1<t.length)->(∀ c∈t,zI c.toNat=true)->Zp (qm t)=t:=by
 intro n;induction n with
 | zero=>intro t h l;exact absurd (yN h) l
 | succ n ih=>
  intro t h _ j i;rcases List.eq_nil_or_concat t with e |⟨a,c,e⟩
  ·subst e;simp at h
  ·rw[List.concat_eq_append]at e;subst e;have m:=Qo.1 (i c (by simp));have f:UInt8.ofNat (48+(c.toNat - 48))=c:=by rw[show 48+(c.toNat - 48)=c.toNat by omega];exact UInt8.ofNat_toNat
   rw[WU];by_cases b:a=[]
   ·subst b;simp only[qm,List.foldl_nil,Nat.zero_mul,Nat.zero_add,List.nil_append];rw[J0 (by omega),f]
   ·have k:1<=a.length:=by cases a with
     | nil=>exact absurd rfl b
     | cons _ _=>simp
    have g:(a.getD 0 0).toNat≠48:=by
     intro e;refine j ⟨?_,by simp;omega⟩
     cases a with
     | nil=>exact absurd rfl b
     | cons x r=>exact e
    have d:∀ x∈a,zI x.toNat=true:=fun x hx=>i x (by simp[hx]);have o:=zdI _ a rfl b g d;rw[Ut (by omega),show (qm a*10+(c.toNat - 48)) / 10=qm a by omega,show (qm a*10+(c.toNat - 48)) % 10=c.toNat - 48 by omega,J0 (n:=c.toNat - 48) (by omega),f];rw[ih a (by simpa using h) b (fun e=>g e.1) d]
theorem FD{t:List UInt8}{i:Nat}(h:qZ t=some i):Zp i=t:=by
 unfold qZ at h;split at h
 ·rename_i hk;injection h with h;subst h;obtain⟨a,b,c,d⟩:=YV.1 hk;exact zdJ _ t rfl (by intro e;subst e;simp at a) c d
 ·cases h
theorem FE:∀ (n:Nat),Zp n≠[]/\(∀ c∈Zp n,zI c.toNat=true)/\qm (Zp n)=n/\¬ (((Zp n).getD 0 0).toNat=48/\1<(Zp n).length):=by
 intro n;induction n using Nat.strongRecOn with
 | _ n ih=>
  by_cases h:n<10
  ·rw[J0 h];have e:(UInt8.ofNat (48+n)).toNat=48+n:=Yf (by omega);refine⟨by simp,fun c a=>?_,?_,by simp⟩
   ·rw[List.mem_singleton]at a;subst a;rw[e];exact Qo.2 ⟨by omega,by omega⟩
   ·simp only[qm,List.foldl_cons,List.foldl_nil,Nat.zero_mul,Nat.zero_add];rw[e];omega
  ·obtain⟨f,g,i,j⟩:=ih (n / 10) (by omega);rw[Ut h,J0 (n:=n % 10) (by omega)];have e:(UInt8.ofNat (48+n % 10)).toNat=48+n % 10:=Yf (by omega);refine⟨by simp,fun c a=>?_,?_,?_⟩
   ·rcases List.mem_append.1 a with a | a
    ·exact g c a
    ·rw[List.mem_singleton]at a;subst a;rw[e];exact Qo.2 ⟨by omega,by omega⟩
   ·rw[WU,i,e];omega
   ·rintro⟨d,_⟩;have l:((Zp (n / 10)++[UInt8.ofNat (48+n % 10)]).getD 0 0)=(Zp (n / 10)).getD 0 0:=by
     cases hd:Zp (n / 10)with
     | nil=>exact absurd hd f
     | cons x r=>rfl
    rw[l]at d;by_cases b:n / 10<10
    ·rw[J0 b]at d;have k:(UInt8.ofNat (48+n / 10)).toNat=48+n / 10:=Yf (by omega);have:([UInt8.ofNat (48+n / 10)].getD 0 0).toNat=48+n / 10:=k;rw[this]at d;omega
    ·refine j ⟨d,?_⟩;rw[Ut b,yh];have m:=(ih (n / 10 / 10) (by omega)).1;have o:1<=(Zp (n / 10 / 10)).length:=by cases hq:Zp (n / 10 / 10)with
      | nil=>exact absurd hq m
      | cons _ _=>simp
     rw[J0 (n:=n / 10 % 10) (by omega)];simp;omega
theorem KM{a b:Nat}(h:Zp a=Zp b):a=b:=by
 have d:=(FE a).2.2.1;have f:=(FE b).2.2.1;rw[h,f]at d;exact d.symm
def zQ:JV->List UInt8->Option JV
 | .arr l,t=>(qZ t).bind fun i=>l.toL[i]?
 | .obj m,t=>(m.toL.find? fun q=>q.1 ==t).map (·.2)
 | _,_=>none
def zM:JV->List (List UInt8)->Option JV
 | v,[]=>some v
 | v,t :: ts=>(zQ v t).bind fun u=>zM u ts
theorem Jv(l:JL)(t:List UInt8):zQ (.arr l) t=(qZ t).bind fun i=>l.toL[i]?:=rfl
theorem Vo(m:JM)(t:List UInt8):zQ (.obj m) t=(m.toL.find? fun q=>q.1 ==t).map (·.2):=rfl
theorem UE:∀ (a b:List (List UInt8)) (v:JV),zM v (a++b)=(zM v a).bind fun u=>zM u b
 | [],b,v=>rfl
 | t :: r,b,v=>by
  rw[List.cons_append,zM,zM]
  cases zQ v t with
  | none=>rfl
  | some u=>simp only[yA];exact UE r b u
theorem P9{v u:JV}{ts:List (List UInt8)}{k:Nat}(h:k<ts.length)(hu:zM v (ts.take k)=some u):zM v (ts.take (k+1))=zQ u ts[k]:=by
 rw[yy h,UE,hu];simp only[yA,zM]
 cases zQ u ts[k]<;>rfl
theorem TS{v u:JV}{ts:List (List UInt8)}{k:Nat}(h:k<ts.length)(hu:zM v (ts.take k)=some u)(hc:zQ u ts[k]=none):zM v ts=none:=by
 have e:ts=ts.take (k+1)++ts.drop (k+1):=(List.take_append_drop _ _).symm;rw[e,UE,P9 h hu,hc];rfl
theorem Ra:∀ (l:JL),qw l->ZX l=false->∀ v∈l.toL,zF v/\zy v=false
 | .nil,_,_,v,hv=>by simp[JL.toL]at hv
 | .cons x r,h,t,v,hv=>by
  rw[qw]at h;rw[ZX,Bool.or_eq_false_iff]at t;rw[JL.toL]at hv;rcases List.mem_cons.1 hv with e | hv
  ·rw[e];exact⟨h.1,t.1⟩
  ·exact Ra r h.2 t.2 v hv
theorem Rc:∀ (m:JM) (ks:List (List UInt8)),qq m->ZN ks m=false->∀ q∈m.toL,zF q.2/\zy q.2=false
 | .nil,_,_,_,q,hq=>by simp[JM.toL]at hq
 | .cons k x r,ks,h,t,q,hq=>by
  rw[qq]at h;rw[ZN]at t;simp only[Bool.or_eq_false_iff]at t;rw[JM.toL]at hq;rcases List.mem_cons.1 hq with e | hq
  ·rw[e];exact⟨h.2.1,t.1.1⟩
  ·exact Rc r (ks++[k]) h.2.2 t.2 q hq
theorem FF{v u:JV}{t:List UInt8}(h:zQ v t=some u)(hok:zF v)(htw:zy v=false):zF u/\zy u=false/\(ct u).length<=(ct v).length/\zt u<=zt v:=by
 cases v with
 | arr l=>
  rw[zF]at hok;rw[zy]at htw;rw[Jv]at h
  cases hi:qZ t with
  | none=>rw[hi]at h;simp at h
  | some i=>
   rw[hi]at h;simp only[yA]at h;obtain⟨g,rfl⟩:=List.getElem?_eq_some_iff.1 h;have d:=yr g;obtain⟨a,b⟩:=Ra l hok htw _ d;refine⟨a,b,?_,?_⟩
   ·have f:(ct (.arr l)).length=hold (zr l).length+nl (zr l):=by
     show (qg (zr l)).length=_
     have:=UC (zr l);simp[qg];omega
    have j:(ct l.toL[i]).length<=nl (zr l):=by have:=VV ((zr l).map List.length) i (by rw[qR];simpa using g);simpa [nl,qR]using this
    omega
   ·rw[zt,KK];have:=VV (l.toL.map zt) i (by simpa using g);have c1:zt l.toL[i]<=cl l.toL:=by simpa [cl]using this
    omega
 | obj m=>
  rw[zF]at hok;rw[zy]at htw;rw[Vo]at h
  cases hf:m.toL.find? fun q=>q.1 ==t with
  | none=>rw[hf]at h;simp at h
  | some q=>
   rw[hf]at h;simp at h;subst h;have d:=List.mem_of_find?_eq_some hf;obtain⟨a,b⟩:=Rc m [] hok htw _ d;refine⟨a,b,?_,?_⟩
   ·have f:=Yh m;have j:=GH Z0 d;simp only[Z0]at j;omega
   ·rw[zt,WD];have:zt q.2<=_:=GH (fun q=>zt q.2) d;omega
 | nul=>simp[zQ]at h
 | tt=>simp[zQ]at h
 | ff=>simp[zQ]at h
 | num l=>simp[zQ]at h
 | str l=>simp[zQ]at h
theorem FG:∀ (cs:List (List UInt8)) (b j:Nat) (h:j<(qM b cs).length),(qM b cs)[j]=(Zp (b+j),cs[j]'(by rw[GA]at h;exact h))
 | [],b,j,h=>by simp[qM]at h
 | t :: r,b,0,h=>rfl
 | t :: r,b,j+1,h=>by
  simp only[qM,List.getElem_cons_succ];rw[FG r (b+1) j];rw[show b+1+j=b+(j+1) by omega]
theorem TT{v:JV}{t:List UInt8}(hok:zF v)(htw:zy v=false)(hi:(∃ l,v= .arr l)->(qZ t).isSome=true){j:Nat}(hj:j<(zm v).length)(hk:(zm v)[j].1=t):∃ u,zQ v t=some u/\(zm v)[j].2=ct u:=by
 cases v with
 | arr l=>
  have k:zm (.arr l)=qM 0 (zr l):=rfl;have n:=hi ⟨l,rfl⟩
  cases hx:qZ t with
  | none=>rw[hx]at n;simp at n
  | some i=>
   have o:=FG (zr l) 0 j hj;have s:(zm (.arr l))[j]=(Zp (0+j),(zr l)[j]'(by rw[k,GA]at hj;exact hj)):=o;rw[s]at hk ⊢;simp only[Nat.zero_add]at hk ⊢;have:j=i:=KM (hk.trans (FD hx).symm);subst this;have y:j<l.toL.length:=by rw[k,GA,qR,yl]at hj;exact hj
   refine⟨l.toL[j],?_,?_⟩
   ·rw[Jv,hx];simp[y]
   ·simp[qR]
 | obj m=>
  have g:(zm (.obj m))[j]∈zj m:=(qL _).subset (yr hj);generalize (zm (.obj m))[j]=p at *;rw[qQ]at g;obtain⟨q,z,rfl⟩:=yO.1 g;simp only at hk;rw[zy]at htw;have d:(m.toL.map (·.1)).Nodup:=by rw[← QE];exact (Km m [] htw).1
  refine⟨q.2,?_,rfl⟩;rw[Vo];have w:m.toL.find? (fun q=>q.1 ==t)=some q:=by
   have:∀ l:List (List UInt8×JV),(l.map (·.1)).Nodup->q∈l->l.find? (fun q=>q.1 ==t)=some q:=by
    intro l;induction l with
    | nil=>intro _ h;simp at h
    | cons x r ih=>
     intro b a;rw[yi,List.nodup_cons]at b;rw[List.find?_cons];rcases List.mem_cons.1 a with e | a
     ·subst e;simp[hk]
     ·have f:(x.1 ==t)=false:=by
       rw[yd];intro e;exact b.1 (by rw[e,← hk];exact yO.2 ⟨q,a,rfl⟩)
      rw[f];exact ih b.2 a
   exact this m.toL d z
  rw[w];rfl
 | nul=>simp[zm]at hj
 | tt=>simp[zm]at hj
 | ff=>simp[zm]at hj
 | num l=>simp[zm]at hj
 | str l=>simp[zm]at hj
theorem TU{v:JV}{t:List UInt8}(h:∀ j (hj:j<(zm v).length),(zm v)[j].1≠t):zQ v t=none:=by
 cases v with
 | arr l=>
  rw[Jv]
  cases hx:qZ t with
  | none=>rfl
  | some i=>
   simp only[yA];by_cases f:i<l.toL.length
   ·exfalso;have hj:i<(zm (.arr l)).length:=by show i<(qM 0 (zr l)).length;rw[GA,qR,yl];exact f
    refine h i hj ?_;have a:(zm (.arr l))[i]=_:=FG (zr l) 0 i hj;rw[a];simp only[Nat.zero_add];exact FD hx
   ·rw[List.getElem?_eq_none (by omega)]
 | obj m=>
  rw[Vo];have d:m.toL.find? (fun q=>q.1 ==t)=none:=by
   rw[List.find?_eq_none];intro q n e;have g:(q.1,ct q.2)∈zj m:=by rw[qQ];exact yO.2 ⟨q,n,rfl⟩
   have k:(q.1,ct q.2)∈zm (.obj m):=(qL _).mem_iff.2 g;obtain⟨j,hj,b⟩:=List.getElem_of_mem k;refine h j hj ?_;rw[b];simpa using e
  rw[d];rfl
 | nul=>rfl
 | tt=>rfl
 | ff=>rfl
 | num l=>rfl
 | str l=>rfl
def GJ(p:List UInt8×JV):List (List UInt8×JV)->List (List UInt8×JV)
 | []=>[p]
 | q :: r=>if p.1<q.1 then q :: GJ p r else p :: q :: r
def GK(l:List (List UInt8×JV)):List (List UInt8×JV):=(l.foldl (fun acc p=>GJ p acc) []).reverse
def Q4:Nat->List JV->List (List UInt8×JV)
 | _,[]=>[]
 | b,v :: r=>(Zp b,v) :: Q4 (b+1) r
def Vp:JV->List (List UInt8×JV)
 | .arr l=>Q4 0 l.toL
 | .obj m=>GK m.toL
 | _=>[]
def kt(q:List UInt8×JV):List UInt8×List UInt8:=(q.1,ct q.2)
theorem TW(p:List UInt8×JV):∀ l:List (List UInt8×JV),(GJ p l).map kt=qn (kt p) (l.map kt)
 | []=>rfl
 | q :: r=>by
  rw[GJ,yi,qn];by_cases h:p.1<q.1
  ·have h':(kt p).1<(kt q).1:=h;rw[yg h,yg h',yi,TW p r]
  ·have h':¬ (kt p).1<(kt q).1:=h;rw[yf h,yf h',yi,yi]
theorem TX:∀ (l acc:List (List UInt8×JV)),(l.foldl (fun acc p=>GJ p acc) acc).map kt=(l.map kt).foldl (fun acc p=>qn p acc) (acc.map kt)
 | [],acc=>rfl
 | p :: l,acc=>by rw[List.foldl_cons,yi,List.foldl_cons,TX l,TW]
theorem TY(l:List (List UInt8×JV)):(GK l).map kt=zH (l.map kt):=by
 unfold GK zH;rw[List.map_reverse,TX];rfl
theorem TZ(p:List UInt8×JV):∀ l,(GJ p l).Perm (p :: l)
 | []=>List.Perm.refl _
 | q :: r=>by
  unfold GJ;split
  ·exact ((TZ p r).cons q).trans (List.Perm.swap p q r)
  ·exact List.Perm.refl _
theorem T0:∀ (l acc:List (List UInt8×JV)),(l.foldl (fun acc p=>GJ p acc) acc).Perm (l++acc)
 | [],acc=>List.Perm.refl _
 | p :: l,acc=>by
  rw[List.foldl_cons];exact (T0 l _).trans (((TZ p acc).append_left l).trans (List.perm_middle))
theorem FH(l:List (List UInt8×JV)):(GK l).Perm l:=by
 unfold GK;have:=T0 l [];rw[yS]at this;exact (List.reverse_perm _).trans this
theorem T5:∀ (vs:List JV) (b:Nat),(Q4 b vs).map kt=qM b (vs.map ct)
 | [],_=>rfl
 | v :: r,b=>by rw[Q4,yi,yi,qM,T5 r];rfl
theorem Rd:∀ (vs:List JV) (b:Nat),(Q4 b vs).length=vs.length
 | [],_=>rfl
 | v :: r,b=>by rw[Q4,yn,yn,Rd r]
theorem T6:∀ (vs:List JV) (b j:Nat) (h:j<(Q4 b vs).length),(Q4 b vs)[j]=(Zp (b+j),vs[j]'(by rw[Rd]at h;exact h))
 | [],b,j,h=>by simp[Q4]at h
 | t :: r,b,0,h=>rfl
 | t :: r,b,j+1,h=>by
  simp only[Q4,List.getElem_cons_succ];rw[T6 r (b+1) j];rw[show b+1+j=b+(j+1) by omega]
theorem FI:∀ (vs:List JV) (b:Nat),(Q4 b vs).map (·.2)=vs
 | [],_=>rfl
 | v :: r,b=>by rw[Q4,yi,FI r]
theorem T7(v:JV):zm v=(Vp v).map kt:=by
 cases v with
 | arr l=>show qM 0 (zr l)=(Q4 0 l.toL).map kt;rw[T5,qR]
 | obj m=>show zH (zj m)=(GK m.toL).map kt;rw[TY,qQ];rfl
 | nul=>rfl
 | tt=>rfl
 | ff=>rfl
 | num l=>rfl
 | str l=>rfl
theorem KN:∀ (vs:List JV) (v:JV),v∈vs->zL v<=dl vs
 | [],v,h=>by simp at h
 | x :: r,v,h=>by
  rw[dl];rcases List.mem_cons.1 h with rfl | h
  ·omega
  ·have:=KN r v h;omega
theorem zdK{v:JV}(hok:zF v)(htw:zy v=false){q:List UInt8×JV}(hq:q∈Vp v):zF q.2/\zy q.2=false/\zL q.2+1<=zL v/\q.1.length+(ct q.2).length+1<=(ct v).length:=by
 cases v with
 | arr l=>
  rw[zF]at hok;rw[zy]at htw;have g:q∈Q4 0 l.toL:=hq;obtain⟨j,h,rfl⟩:=List.getElem_of_mem g;have i:j<l.toL.length:=by rw[Rd]at h;exact h
  rw[T6];simp only[Nat.zero_add];have d:=yr i;obtain⟨a,b⟩:=Ra l hok htw _ d;have n:=KN _ _ d;have e:=WC l;have f:(ct (.arr l)).length=hold (zr l).length+nl (zr l):=by
   show (qg (zr l)).length=_
   have:=UC (zr l);simp[qg];omega
  have k:(ct l.toL[j]).length<=nl (zr l):=by have:=VV ((zr l).map List.length) j (by rw[qR];simpa using i);simpa [nl,qR]using this
  have o:=Pg j;have p:(zr l).length=l.toL.length:=by rw[qR,yl]
  refine⟨a,b,?_,?_⟩
  ·rw[zL];omega
  ·rw[f];unfold hold;omega
 | obj m=>
  rw[zF]at hok;rw[zy]at htw;have d:q∈m.toL:=(FH _).subset hq;obtain⟨a,b⟩:=Rc m [] hok htw _ d;have n:=KN (m.toL.map (·.2)) q.2 (yO.2 ⟨q,d,rfl⟩);have e:=VW m;have f:=Yh m;have k:=GH Z0 d;simp only[Z0]at k;have o:=KJ q.1;refine⟨a,b,?_,?_⟩
  ·rw[zL];omega
  ·omega
 | nul=>simp[Vp]at hq
 | tt=>simp[Vp]at hq
 | ff=>simp[Vp]at hq
 | num l=>simp[Vp]at hq
 | str l=>simp[Vp]at hq
theorem T8(v:JV):zt v=((Vp v).map fun q=>zt q.2).sum+1:=by
 cases v with
 | arr l=>
  rw[zt,KK];show cl l.toL+1=((Q4 0 l.toL).map fun q=>zt q.2).sum+1
  have e:((Q4 0 l.toL).map fun q=>zt q.2)=((Q4 0 l.toL).map (·.2)).map zt:=by rw[List.map_map];rfl
  rw[e,FI];rfl
 | obj m=>
  rw[zt,WD];show _=((GK m.toL).map fun q=>zt q.2).sum+1
  rw[((FH m.toL).map fun q=>zt q.2).sum_nat]
 | nul=>rfl
 | tt=>rfl
 | ff=>rfl
 | num l=>rfl
 | str l=>rfl
theorem Ba{T:Bs}:∀ (f f' op i k k':Nat),qG T f op i=some k->qG T f' op i=some k'->k=k'
 | 0,_,_,_,_,_,h,_=>by simp[qG]at h
 | _+1,0,_,_,_,_,_,h=>by simp[qG]at h
 | f+1,f'+1,op,i,k,k',h,h'=>by
  rw[qG]at h h';by_cases hi:i<T.size
  ·rw[yg hi]at h h'
   cases hn:JI T i with
   | none=>rw[hn]at h;simp at h
   | some j=>
    rw[hn]at h h';simp only[yA]at h h'
    cases ho:QZ (bt T i) op with
    | none=>rw[ho]at h;simp at h
    | some o=>
     rw[ho]at h h';simp only[yA]at h h';by_cases hs:o=0/\YP T j=true
     ·rw[yg hs]at h h';injection h with h;injection h' with h';omega
     ·rw[yf hs]at h h';exact Ba f f' o j k k' h h'
  ·rw[yf hi]at h;cases h
def Re(T:Bs)(P:List UInt8->Prop):Prop:=∀ t t',P t->P t'->∀ i m m',T.data.toList.drop i=t++m->Gz m->T.data.toList.drop i=t'++m'->Gz m'->t=t'
theorem Bb(T:Bs):Re T fun t=>Jj T t/\t≠[]:=fun t t' h h' i m m' d s d' s'=>by
 obtain⟨f,g⟩:=h.1 i m d s;obtain⟨b,a⟩:=h'.1 i m' d' s';have:=Ba f b 0 i _ _ g a;rw[d]at d';exact (List.append_inj d' (by omega)).1
theorem zdL(T:Bs):Re T fun t=>∃ p:List UInt8×List UInt8,t=zn p/\Jj T p.2/\p.2≠[]/\Lib.validD p.1=true:=by
 rintro t y ⟨p,rfl,n,o,r⟩ ⟨q,rfl,u,v,w⟩ i m f d s h x;have g:T.data.toList.drop i=quoted p.1++(58 ::(p.2++m)):=by rw[d];simp[zn]
 have b:T.data.toList.drop i=quoted q.1++(58 ::(q.2++f)):=by rw[h];simp[zn]
 have l:=VN p.1 T _ r i g;have a:=VN q.1 T _ w i b;rw[l]at a;injection a with a;injection a with a _;rw[← a]at b;have j:T.data.toList.drop (i+(quoted p.1).length+1)=p.2++m:=(Zx (T:=T) (c:=58) (QY g)).2.2;have k:T.data.toList.drop (i+(quoted p.1).length+1)=q.2++f:=(Zx (T:=T) (c:=58) (QY b)).2.2;have:=Bb T p.2 q.2 ⟨n,o⟩ ⟨u,v⟩ _ m f j s k x;unfold zn;rw[a,this]
theorem Bc{T:Bs}{P:List UInt8->Prop}(hP:Re T P)(hne:∀ t,P t->t≠[]){cs ds:List (List UInt8)}{a a' c c':UInt8}(h:T.data.toList=a ::(joinC cs++[c]))(h':T.data.toList=a' ::(joinC ds++[c']))(hc:c.toNat=93∨c.toNat=125)(hc':c'.toNat=93∨c'.toNat=125)(t1:∀ t∈cs,P t)(t2:∀ t∈ds,P t):cs=ds:=by
 have i:∀ k,k<=cs.length->k<=ds.length->cs.take k=ds.take k:=by
  intro k;induction k with
  | zero=>intro _ _;simp
  | succ k ih=>
   intro w x;have e:=ih (by omega) (by omega);have p:=Kn h k (by omega);have m:=Kn h' k (by omega);have o:pk cs k=pk ds k:=by unfold pk;rw[e]
   rw[← o]at m;have:=hP _ _ (t1 _ (yr (by omega:k<cs.length))) (t2 _ (yr (by omega:k<ds.length))) _ _ _ p (X9 _ c hc) m (X9 _ c' hc');rw[yy (by omega),yy (by omega),e,this]
 have f:∀ {d g:List (List UInt8)} {b l e n:UInt8},T.data.toList=b ::(joinC d++[e])->T.data.toList=l ::(joinC g++[n])->(∀ t∈g,P t)->d.take d.length=g.take d.length->¬ d.length<g.length:=by
  intro d g b l e n hx s u q j;have A:=Kq hx;have B:=Ko s d.length j;have o:pk d d.length=pk g d.length:=by unfold pk;rw[q]
  have r:=hne _ (u _ (yr j));have:1<=(g[d.length]).length:=by
   cases hq:g[d.length]with
   | nil=>exact absurd hq r
   | cons _ _=>simp
  omega
 have y:¬ cs.length<ds.length:=fun hl=>f h h' t2 (i _ (ye _) (by omega)) hl;have z:¬ ds.length<cs.length:=fun hl=>f h' h t1 (i _ (by omega) (ye _)).symm hl;have v:cs.length=ds.length:=by omega
 have:=i cs.length (ye _) (by omega)
 rwa [yq (ye _),yq (by omega)]at this
theorem zdM{l m:JL}(hl:qw l)(hm:qw m)(h:ct (.arr l)=ct (.arr m)):zr l=zr m:=by
 have a:(ze (ct (.arr l))).data.toList=91 ::(joinC (zr l)++[93]):=by rw[Zf];rfl
 have b:(ze (ct (.arr l))).data.toList=91 ::(joinC (zr m)++[93]):=by rw[Zf,h];rfl
 exact Bc (Bb _) (fun t ht=>ht.2) a b (.inl rfl) (.inl rfl) (X7 _ l hl) (X7 _ m hm)
theorem Bd{p q:List UInt8×List UInt8}(hp:Lib.validD p.1=true)(hq:Lib.validD q.1=true)(h:zn p=zn q):p=q:=by
 have d:(ze (zn p)).data.toList.drop 0=quoted p.1++(58 :: p.2):=by rw[Zf];rfl
 have b:(ze (zn p)).data.toList.drop 0=quoted q.1++(58 :: q.2):=by rw[Zf,h];rfl
 have f:=VN p.1 _ _ hp 0 d;have a:=VN q.1 _ _ hq 0 b;rw[f]at a;injection a with a;injection a with a _;rw[d,a]at b;have:=List.append_cancel_left b;injection this with _ this;exact Prod.ext a this
theorem Be:∀ {ps qs:List (List UInt8×List UInt8)},(∀ p∈ps,Lib.validD p.1=true)->(∀ p∈qs,Lib.validD p.1=true)->ps.map zn=qs.map zn->ps=qs
 | [],[],_,_,_=>rfl
 | [],_ :: _,_,_,h=>by simp at h
 | _ :: _,[],_,_,h=>by simp at h
 | p :: ps,q :: qs,h1,h2,h=>by
  rw[yi,yi]at h;injection h with a b;rw[Bd (h1 p yp) (h2 q yp) a,Be (fun x hx=>h1 x (yv _ hx)) (fun x hx=>h2 x (yv _ hx)) b]
theorem zdN{k m:JM}(hk:qq k)(hm:qq m)(h:ct (.obj k)=ct (.obj m)):zH (zj k)=zH (zj m):=by
 have f:(ze (ct (.obj k))).data.toList=123 ::(joinC ((zH (zj k)).map zn)++[125]):=by rw[Zf];rfl
 have g:(ze (ct (.obj k))).data.toList=123 ::(joinC ((zH (zj m)).map zn)++[125]):=by rw[Zf,h];rfl
 have b:=fun p (a:p∈zH (zj k))=>X8 (ze (ct (.obj k))) k hk p ((qL _).subset a);have d:=fun p (a:p∈zH (zj m))=>X8 (ze (ct (.obj k))) m hm p ((qL _).subset a);have:=Bc (zdL _) (fun t ht=>by obtain⟨p,rfl,_⟩:=ht;simp[zn,quoted]) f g (.inr rfl) (.inr rfl)
  (fun t ht=>by obtain⟨p,a,rfl⟩:=yO.1 ht;exact⟨p,rfl,b p a⟩) (fun t ht=>by obtain⟨p,a,rfl⟩:=yO.1 ht;exact⟨p,rfl,d p a⟩)
 exact Be (fun p a=>(b p a).2.2) (fun p a=>(d p a).2.2) this
theorem zdO{a b:List UInt8}(ha:Lib.validD a=true)(hb:Lib.validD b=true)(h:quoted a=quoted b):a=b:=by
 have:=Bd (p:=(a,[])) (q:=(b,[])) ha hb (by unfold zn;simp only;rw[h]);injection this
def kd:JV->Nat
 | .nul=>0 | .tt=>1 | .ff=>2 | .num _=>3 | .str _=>4 | .arr _=>5 | .obj _=>6
def fb(c:Nat):Nat:=if c=110 then 0 else if c=116 then 1 else if c=102 then 2 else if c=34 then 4 else if c=91 then 5 else if c=123 then 6 else 3
theorem KO{v:JV}(h:zF v):∃ c r,ct v=c :: r/\fb c.toNat=kd v:=by
 cases v with
 | nul=>exact⟨_,_,rfl,rfl⟩
 | tt=>exact⟨_,_,rfl,rfl⟩
 | ff=>exact⟨_,_,rfl,rfl⟩
 | num l=>
  rw[zF]at h;obtain⟨c,r,rfl,a,_⟩:=h;refine⟨c,r,rfl,?_⟩;have:c.toNat=45∨(48<=c.toNat/\c.toNat<=57):=a.imp id Qo.1;unfold fb kd
  repeat (rw[yf (by omega)])
 | str l=>exact⟨_,_,rfl,rfl⟩
 | arr l=>exact⟨_,_,rfl,rfl⟩
 | obj m=>exact⟨_,_,rfl,rfl⟩
theorem zdP{a b:JV}(ha:zF a)(hb:zF b)(h:ct a=ct b):kd a=kd b:=by
 obtain⟨c,r,e,f⟩:=KO ha;obtain⟨i,j,d,g⟩:=KO hb;rw[e,d]at h;injection h with h _;rw[← f,← g,h]
def Vq:JV->JV->Bool
 | .nul,.nul=>true
 | .tt,.tt=>true
 | .ff,.ff=>true
 | .num a,.num b=>a ==b
 | .str a,.str b=>a ==b
 | _,_=>false
theorem zdQ{a b:JV}(h:Vq a b=true):ct a=ct b:=by
 unfold Vq at h;split at h<;>first | rfl |(rw[yC]at h;rw[h]) | cases h
theorem zdR{a b:JV}(ha:zF a)(hb:zF b)(h:ct a=ct b):Vq a b=true∨(∃ l m,a= .arr l/\b= .arr m)∨∃ k m,a= .obj k/\b= .obj m:=by
 have d:=zdP ha hb h
 cases a with
 | nul=>cases b<;>first | exact .inl rfl |(simp[kd]at d)
 | tt=>cases b<;>first | exact .inl rfl |(simp[kd]at d)
 | ff=>cases b<;>first | exact .inl rfl |(simp[kd]at d)
 | num l=>cases b with
  | num m=>left;have:l=m:=h;simp[Vq,this]
  | _=>simp[kd]at d
 | str l=>cases b with
  | str m=>left;rw[zF]at ha hb;have:l=m:=zdO ha hb h;simp[Vq,this]
  | _=>simp[kd]at d
 | arr l=>cases b with
  | arr m=>exact .inr (.inl ⟨l,m,rfl,rfl⟩)
  | _=>simp[kd]at d
 | obj l=>cases b with
  | obj m=>exact .inr (.inr ⟨l,m,rfl,rfl⟩)
  | _=>simp[kd]at d
def Qz(x:List UInt8):List (List UInt8)->List (List UInt8)
 | []=>[x]
 | y :: r=>if y<x then y :: Qz x r else if y=x then y :: r else x :: y :: r
def qC(l:List (List UInt8)):List (List UInt8):=l.foldl (fun acc x=>Qz x acc) []
theorem Rf{z x:List UInt8}:∀ {l:List (List UInt8)},z∈Qz x l↔z=x∨z∈l
 | []=>by simp[Qz]
 | y :: r=>by
  rw[Qz];split
  ·rw[List.mem_cons,Rf,List.mem_cons];constructor
   ·rintro (h | h | h)
    ·exact .inr (.inl h)
    ·exact .inl h
    ·exact .inr (.inr h)
   ·rintro (h | h | h)
    ·exact .inr (.inl h)
    ·exact .inl h
    ·exact .inr (.inr h)
  ·split
   ·rename_i h;subst h;constructor
    ·intro h;exact .inr h
    ·rintro (h | h)
     ·rw[h];exact yp
     ·exact h
   ·rw[List.mem_cons]
theorem Bf{z:List UInt8}:∀ (l acc:List (List UInt8)),z∈l.foldl (fun acc x=>Qz x acc) acc↔z∈acc∨z∈l
 | [],acc=>by simp
 | x :: l,acc=>by
  rw[List.foldl_cons,Bf l,Rf,List.mem_cons];constructor
  ·rintro ((h | h) | h)
   ·exact .inr (.inl h)
   ·exact .inl h
   ·exact .inr (.inr h)
  ·rintro (h | h | h)
   ·exact .inl (.inr h)
   ·exact .inl (.inl h)
   ·exact .inr h
theorem Rg{z:List UInt8}{l:List (List UInt8)}:z∈qC l↔z∈l:=by
 unfold qC;rw[Bf];simp
def Jw(l:List (List UInt8)):Prop:=l.Pairwise (fun a b=>a<b)
theorem Bh{x:List UInt8}:∀ {l:List (List UInt8)},Jw l->Jw (Qz x l)
 | [],_=>by simp[Qz,Jw]
 | y :: r,h=>by
  unfold Jw at *;rw[List.pairwise_cons]at h;rw[Qz];split
  ·rename_i hlt;rw[List.pairwise_cons];refine⟨fun a ha=>?_,Bh h.2⟩;rcases Rf.1 ha with rfl | ha
   ·exact hlt
   ·exact h.1 a ha
  ·split
   ·rw[List.pairwise_cons];exact h
   ·rename_i h1 h2;have hxy:x<y:=by
     rcases Classical.em (x<y)with g | g
     ·exact g
     ·exact absurd (List.le_antisymm (List.not_lt.1 g) (List.not_lt.1 h1)) h2
    rw[List.pairwise_cons,List.pairwise_cons];refine⟨fun a ha=>?_,h⟩;rcases List.mem_cons.1 ha with rfl | ha
    ·exact hxy
    ·exact List.lt_trans hxy (h.1 a ha)
theorem Bi:∀ (l acc:List (List UInt8)),Jw acc->Jw (l.foldl (fun acc x=>Qz x acc) acc)
 | [],_,h=>h
 | x :: l,acc,h=>by rw[List.foldl_cons];exact Bi l _ (Bh h)
theorem Rh(l:List (List UInt8)):Jw (qC l):=Bi l [] List.Pairwise.nil
theorem Ri:∀ {a b:List (List UInt8)},Jw a->Jw b->(∀ z,z∈a↔z∈b)->a=b
 | [],[],_,_,_=>rfl
 | [],y :: _,_,_,h=>by have:=(h y).2 yp;simp at this
 | x :: _,[],_,_,h=>by have:=(h x).1 yp;simp at this
 | x :: r,y :: s,ha,hb,h=>by
  unfold Jw at ha hb;rw[List.pairwise_cons]at ha hb;have e:x=y:=by
   rcases List.mem_cons.1 ((h x).1 yp)with e | d
   ·exact e
   ·rcases List.mem_cons.1 ((h y).2 yp)with e | g
    ·exact e.symm
    ·exact absurd (List.lt_trans (hb.1 x d) (ha.1 y g)) (List.lt_irrefl _)
  subst e;rw[Ri (a:=r) (b:=s) ha.2 hb.2 (fun z=>?_)];constructor
  ·intro f;rcases List.mem_cons.1 ((h z).1 (yv _ f))with e | d
   ·exact absurd (ha.1 z f) (by rw[e];exact List.lt_irrefl _)
   ·exact d
  ·intro f;rcases List.mem_cons.1 ((h z).2 (yv _ f))with e | d
   ·exact absurd (hb.1 z f) (by rw[e];exact List.lt_irrefl _)
   ·exact d
theorem Bj(x:List UInt8):∀ l:List (List UInt8),(Qz x l).length<=l.length+1
 | []=>by simp[Qz]
 | y :: r=>by
  rw[Qz];split
  ·have:=Bj x r;simp;omega
  ·split<;>simp
theorem Bk(l:List (List UInt8))(x:List UInt8):qC (l++[x])=Qz x (qC l):=by
 unfold qC;rw[List.foldl_append];rfl
theorem FJ:∀ (n:Nat) (l:List (List UInt8)),l.length=n->(qC l).length<=n:=by
 intro n;induction n with
 | zero=>intro l h;rw[yN h];simp[qC]
 | succ n ih=>
  intro l h;rcases List.eq_nil_or_concat l with rfl |⟨a,x,rfl⟩
  ·simp at h
  ·rw[List.concat_eq_append]at h ⊢;rw[Bk];have b:=Bj x (qC a);have d:=ih a (by simpa using h);omega
theorem Bl(x:List UInt8):∀ (A:List (List UInt8)) (j:Nat),(∀ i (h:i<A.length),i<j->A[i]<x)->(h:j<A.length)->¬ A[j]<x->Qz x A=if A[j]=x then A else A.take j++x :: A.drop j
 | y :: r,0,_,_,hn=>by
  have hn':¬ y<x:=hn;rw[Qz,yf hn'];show _=if y=x then _ else _
  split<;>rfl
 | y :: r,j+1,hA,h,hn=>by
  have a:y<x:=hA 0 (by simp) (by omega);have b:=Bl x r j (fun i hi hij=>hA (i+1) (by simpa using hi) (by omega)) (by simpa using h) hn;rw[Qz,yg a,b];show _=if r[j]'(by simpa using h)=x then _ else _
  split<;>rfl
theorem Bm(x:List UInt8):∀ (A:List (List UInt8)),(∀ i (h:i<A.length),A[i]<x)->Qz x A=A++[x]
 | [],_=>rfl
 | y :: r,h=>by
  have h0:y<x:=h 0 (by simp);rw[Qz,yg h0,Bm x r (fun i hi=>h (i+1) (by simpa using hi))];rfl
theorem zdS{a b:List UInt8}(h:a<b):Op.bytesLess (ze a).toList (ze b).toList=true:=by
 rw[bytesLess_eq,ByteArray.toList_eq,ByteArray.toList_eq,Zf,Zf];exact yj h
theorem zdT{a b:List UInt8}(h:¬ a<b):Op.bytesLess (ze a).toList (ze b).toList=false:=by
 rw[bytesLess_eq,ByteArray.toList_eq,ByteArray.toList_eq,Zf,Zf];exact yk h
def YW(w:Wo)(B:Nat)(v:Value)(ts:List (List UInt8)):Prop:=OT w B v ts/\∃ g cap,v= .slice (some ⟨g,0,none⟩) ts.length cap/\B<=g/\g<w.heap.size/\ts.length<=cap/\∀ j u,(ts.map Qp)[j]?=some u->w.cell? ⟨g,j,none⟩=some u
theorem YW.of{w:Wo}{B:Nat}{v:Value}{ts:List (List UInt8)}(h:OT w B v ts)(hn:v≠.slice none 0 0):YW w B v ts:=by
 refine⟨h,?_⟩;rcases h.2 with ⟨d,_⟩ |⟨g,a,f,d,i,k,b,_⟩
 ·exact absurd d hn
 ·subst d;refine⟨g,a,rfl,i,(yB.1 k).1,b,fun j u hj=>?_⟩;have:=World.ownsRow.cells h rfl j u hj
  rwa [show ((⟨g,0,none⟩:Addr).add j)=⟨g,j,none⟩from by simp[Addr.add];omega]at this
theorem Rj{ts:List (List UInt8)}{j:Nat}(h:j<ts.length):(ts.map Qp)[j]?=some (.string (ze ts[j])):=by
 rw[List.getElem?_map,yx h];rfl
theorem zdU{A:List (List UInt8)}{j i:Nat}{u:Value}(h:((A.take j).map Qp)[i]?=some u):(A.map Qp)[i]?=some u:=by
 rw[List.map_take]at h;rw[List.getElem?_take]at h;split at h
 ·exact h
 ·cases h
theorem zdV{A:List (List UInt8)}{j i:Nat}{u:Value}(h:((A.drop j).map Qp)[i]?=some u):(A.map Qp)[j+i]?=some u:=by
 rwa [List.map_drop,List.getElem?_drop]at h
theorem FK(ts:List (List UInt8)):∀ u∈ts.map Qp,u.oneCell'=true:=by
 intro u a;obtain⟨t,_,rfl⟩:=yO.1 a;rfl
theorem Bn{B:Nat}(v:Value)(ts:List (List UInt8))(w:Wo)(h:OT w B v ts)(hn:ts.length<=1000000):
  Calls prog 70 #[v] w fun e w'=>∃ r,e= .returned r/\OT w' w.heap.size r (qC ts)/\Bw w w':=by
 obtain⟨i0,O,J,K,L⟩:=info_parts G1;obtain⟨a,Z,cap0,rfl,hs,_⟩:=h.shape;have M:=hs.ad;have HC:=zb hs.cell;rw[yl]at M;simp only[yl]at HC;clear h hs;have aj:Hid (YW (w.alloc (.cells #[] 9)) w.heap.size (.slice (some ⟨w.heap.size,0,none⟩) 0 0) []):=YW.of (World.ownsRow_lit w #[] 0 (ye _) (by unfold maxLen;omega) rfl) (by intro e;cases e);have aa:Hid (Bw w (w.alloc (.cells #[] 9))):=(yH _ _).alloc (ye _) _;go_in;go_wp2_with fail;go_loopw [3,4] (fun u i wr=>∃ k:Nat,k<=ts.length/\i= .int .i64 (k:Int)/\YW wr w.heap.size u (qC (ts.take k))/\Bw w wr) (fun _ i _=>ts.length - (intOf i).toNat)
 case atStart=>exact⟨0,yt _,rfl,uh aj,uh aa⟩
 case round=>
  obtain⟨k,P,rfl,ho,hb⟩:=hrel;clear aj aa;have hAl:(qC (ts.take k)).length<=1000000:=by
   have:=FJ k (ts.take k) (by rw[ym];omega);omega
  by_cases V:k<ts.length
  ·have hltI:(k:Int)<(ts.length:Int):=by omega
   obtain rfl:=M (by omega);have n:=uh HC k V;have hg0:Z<w.heap.size:=yJ _ _ n;have ap:(ts.map zz).getD k ByteArray.empty=ze ts[k]:=by simp[List.getD,V,zz,ze]
   rw[ap,Nat.zero_add]at n;have af:Hid (∀ X:Wo,Bw w X->X.cell? ⟨Z,k,none⟩=some (.string (ze ts[k]))):=fun X hX=>(hX.cell (p:=⟨Z,k,none⟩) hg0).trans n;have HS:Hid (qC (ts.take (k+1))=Qz ts[k] (qC (ts.take k))):=by
    show _=_
    rw[yy V,Bk]
   obtain⟨hO,g,f,rfl,hgB,hgl,hcap,C⟩:=ho;have HO:=zb hO;have HCELL:=zb C;have HB:=zb hb;generalize ts[k]=x at *;generalize qC (ts.take k)=A at *;clear HC n ap hO C hb;go_wp2_with fail;go_loopw [5] (fun p wx=>∃ j:Nat,j<=A.length/\p= .int .i64 (j:Int)/\OT wx w.heap.size (.slice (some ⟨g,0,none⟩) A.length f) A/\Bw w wx/\∀ i (h:i<A.length),i<j->A[i]<x) (fun p _=>A.length - (intOf p).toNat)
   case atStart=>exact⟨0,yt _,rfl,uh HO,uh HB,fun i _ h=>by omega⟩
   case round=>
    obtain⟨j,hj,rfl,ar,T,N⟩:=hrel;have b:=zb N;have z:=zb ar;have H:=zb T;have R:Hid (∀ (X:Wo),OT X w.heap.size (.slice (some ⟨g,0,none⟩) A.length f) A->g<X.heap.size/\∀ i u,(A.map Qp)[i]?=some u->X.cell? ⟨g,i,none⟩=some u):=fun X hX=>by
     obtain⟨_,g',cap',he,_,h2,_,h3⟩:=YW.of hX (by intro e;cases e);injection he with he1 _ _;injection he1 with he1;injection he1 with he1;subst he1;exact⟨h2,h3⟩
    have ck:=uh af _ T;clear N ar T HO HB;by_cases aq:j<A.length
    case' pos=>
     have hjI:(j:Int)<(A.length:Int):=by omega
     have cj:=(uh R _ (uh z)).2 j _ (Rj aq);by_cases o:A[j]<x
     ·have U:=zdS o;have HA2:Hid (∀ i (h:i<A.length),i<j+1->A[i]<x):=fun i O hij=>by
       by_cases e:i=j
       ·subst e;exact o
       ·exact uh b i O (by omega)
      clear o b;generalize A[j]=y at *;go_wp2_with fail;go_quiet (fail);go_wp2;go_roundw
      case rel=>exact⟨j+1,by omega,by go_num,uh z,GG (uh H) _,uh HA2⟩
      case measure=>simp[intOf];omega
     have U:=zdT o;have m:=zb (Bl x A j (uh b) aq o);have am:=Fw A[j] x;clear o b;by_cases q:A[j]=x
     ·have t2:(A[j] ==x)=true:=by rw[yC];exact q
      rw[t2]at am;have s:Hid (Qz x A=A):=by show _=_;rw[uh m,yg q]
      clear q t2 m;generalize A[j]=y at *;go_wp2_with fail;go_quiet (fail);go_wp2_with fail;go_quiet (fail);go_wp2;exact⟨⟨k+1,by omega,by go_num,by rw[uh HS,uh s];exact YW.of (uh z) (by intro e;cases e),GG (uh H) _⟩,by simp[intOf];omega⟩
     have t2:(A[j] ==x)=false:=by rw[yd];exact q
     rw[t2]at am;have s:Hid (Qz x A=A.take j++x :: A.drop j):=by show _=_;rw[uh m,yf q]
     clear q t2 m;generalize A[j]=y at *
    case' neg=>
     have hjI:¬ (j:Int)<(A.length:Int):=by omega
     have s:Hid (Qz x A=A.take j++x :: A.drop j):=by
      show _=_
      rw[Bm x A (fun i O=>uh b i O (by omega)),yq (by omega),List.drop_of_length_le (by omega)]
     clear b
    all_goals
     go_wp2_with fail;go_quiet (fail);have ak:Hid (OT (wr.drewN nq) w.heap.size (.slice (some ⟨g,0,none⟩) A.length f) A):=uh z;have ab:Hid (Bw w (wr.drewN nq)):=GG (uh H) _;have ck1:(wr.drewN nq).cell? ⟨Z,k,none⟩=some (.string (ze x)):=ck;try have cj1:(wr.drewN nq).cell? ⟨g,j,none⟩=some (.string (ze y)):=cj
     try clear cj
     clear z H ck;generalize wr.drewN nq=W1 at *;go_wp2_with fail;go_quiet (fail);have al:Hid (OT (W1.drewN nq) w.heap.size (.slice (some ⟨g,0,none⟩) A.length f) A):=uh ak;have Q:Hid (Bw w (W1.drewN nq)):=GG (uh ab) _;try clear cj1
     clear ak ab ck1;generalize W1.drewN nq=W at *;have hgW:=(uh R W (uh al)).1;have ag:=zb (uh R W (uh al)).2;have bW:=(uh Q);have I:=bW.size;have cx:=uh af W bW;have F:(W.alloc (.cells #[] 9)).ownsRow W.heap.size 9 1 (.slice (some ⟨W.heap.size,0,none⟩) 0 0) 0 []:=World.ownsRow_lit W #[] 0 (ye _) (by unfold maxLen;omega) rfl;have S:Hid (Bw W (W.alloc (.cells #[] 9))):=(yH _ _).alloc (ye _) _;have ah:Hid (g<W.heap.size):=hgW;have HG0:Hid (Z<W.heap.size):=by show _<_;omega
     clear bW;go_wp2_with (at_builtin;refine wpList_append_own _ rfl (.tmp 47) (.tmp 50) 55 rfl W.heap.size 9 i0 (.string ByteArray.empty) 1 16 underlying55 O J K L rfl (by decide) _ _ _ rfl F ⟨g,0,none⟩ j f ((A.take j).map Qp) rfl (by rw[yl,ym];omega) (fun i u hu=>by {rw[show ((⟨g,0,none⟩:Addr).add i)=⟨g,i,none⟩from by simp[Addr.add];omega];exact ((uh S).cell (p:=⟨g,i,none⟩) (uh ah)).trans (uh ag i u (zdU hu))}) (FK _) (by unfold maxLen;omega) (by omega) (by simp) ?_);intro v1 w1 G an _;have B1:Hid (Bw W w1):=(uh S).grown an (by simp) (fun k P=>(F.lt k P).1);have c1:=((uh B1).cell (p:=⟨Z,k,none⟩) (uh HG0)).trans cx;have hw1:=(uh B1).size;clear F an S cx;go_wp2_with (at_builtin;refine wpList_append_own _ rfl (.tmp 52) (.tmp 57) 55 rfl W.heap.size 9 i0 (.string ByteArray.empty) 1 16 underlying55 O J K L rfl (by decide) _ _ _ rfl (G.alloc _) ⟨w1.heap.size,0,none⟩ 1 1 [.string (ze x)] rfl rfl (QD _ _ _) (Vv _) (by unfold maxLen;omega) (by omega) (by simp;omega) ?_);intro v2 w2 d ao av;have Y:Hid (Bw W w2):=((uh B1).alloc hw1 _).grown ao (by simp;omega) (fun k P=>(G.lt k P).1);have au:=(uh Y).size;have ai:Hid (v2≠.slice none 0 0):=av;clear G ao av B1 c1;rcases Nat.lt_or_ge j f with hjc | hjc
     ·have hjc1:¬ f<=j:=by omega
      go_wp2_with (at_builtin;refine wpList_append_own _ rfl (.tmp 59) (.tmp 62) 55 rfl W.heap.size 9 i0 (.string ByteArray.empty) 1 16 underlying55 O J K L rfl (by decide) _ _ _ rfl d ⟨g,j,none⟩ (A.length - j) (f - j) ((A.drop j).map Qp) (by first | rfl |(simp;omega)) (by rw[yl,yu];omega) (fun i u hu=>by {rw[show ((⟨g,j,none⟩:Addr).add i)=⟨g,j+i,none⟩from by simp[Addr.add]];exact ((uh Y).cell (p:=⟨g,j+i,none⟩) (uh ah)).trans (uh ag (j+i) u (zdV hu))}) (FK _) (by unfold maxLen;omega) (by omega) (by omega) ?_);intro v3 w3 l D E;have B3:Hid (Bw w w3):=(uh Q).trans (((uh Y).grown D au (fun k P=>(d.lt k P).1)).mono I);have O3:Hid (YW w3 w.heap.size v3 (qC (ts.take (k+1)))):=by
       refine YW.of (qT ?_ I) (fun e=>uh ai (E.1 e).1);rw[uh HS,uh s,yh,yw,yn,yi,ym,yu,show min j A.length+(A.length - j+1)=0+j+1+(A.length - j)from by omega];have et:Qp x= .string (ze x):=rfl;simpa [et]using l
      clear l D E d Y;go_wp2;exact⟨⟨k+1,by omega,by go_num,uh O3,uh B3⟩,by simp[intOf];omega⟩
     ·obtain rfl:j=f:=by omega
      go_wp2_with (at_builtin;refine wpList_append_own _ rfl (.tmp 59) (.tmp 62) 55 rfl W.heap.size 9 i0 (.string ByteArray.empty) 1 16 underlying55 O J K L rfl (by decide) _ _ _ rfl d _ _ _ ((A.drop j).map Qp) rfl (by rw[yl,yu];omega) (fun i u hu=>by {rw[List.drop_of_length_le (by omega)]at hu;simp at hu}) (FK _) (by unfold maxLen;omega) (by omega) (by omega) ?_);intro v3 w3 l D E;have B3:Hid (Bw w w3):=(uh Q).trans (((uh Y).grown D au (fun k P=>(d.lt k P).1)).mono I);have O3:Hid (YW w3 w.heap.size v3 (qC (ts.take (k+1)))):=by
       refine YW.of (qT ?_ I) (fun e=>uh ai (E.1 e));rw[uh HS,uh s,yh,yw,yn,yi,ym,yu,show min j A.length+(A.length - j+1)=j+1 from by omega];have et:Qp x= .string (ze x):=rfl;simpa [et]using l
      clear l D E d Y;go_wp2;exact⟨⟨k+1,by omega,by go_num,uh O3,uh B3⟩,by simp[intOf];omega⟩
  ·have e:ts.take k=ts:=yq (by omega);rw[e]at ho;have HO:=zb ho.1;have HB:=zb hb;clear ho hb e HC;go_wp2;go_ret;exact⟨_,rfl,uh HO,uh HB⟩
def JP(t:List UInt8):Int:=match qZ t with
 | some i=>(i:Int)
 | none=>-1
theorem Bo(s:Bs)(w:Wo)(hs:s.size<=1048576):
  Calls prog 124 #[.string s] w fun e w'=>e= .returned (.int .i64 (JP s.data.toList))/\w=w':=by
 have d:¬ WG s.data.toList=true->JP s.data.toList= -1:=fun h=>by unfold JP qZ;rw[yf h]
 have N:=Zn s;by_cases A:s.size<1
 ·have v:=zb (d (fun h=>by have:=(YV.1 h).1;omega));have O:(s.size:Int)<1:=by omega
  clear d A;go_in;go_wp2;go_ret;exact⟨by rw[uh v];rfl,rfl⟩
 ·have O:¬ (s.size:Int)<1:=by omega
  by_cases F:6<s.size
  ·have v:=zb (d (fun h=>by have:=(YV.1 h).2.1;omega));have P:(6:Int)<(s.size:Int):=by omega
   clear d A F;go_in;go_wp2;go_ret;exact⟨by rw[uh v];rfl,rfl⟩
  ·have P:¬ (6:Int)<(s.size:Int):=by omega
   have S:0<s.size:=by omega
   have n:(s.data.toList.getD 0 0)=s[0]:=by rw[List.getD,yx (by omega)];rfl
   have T:(0:Int)<(s.size:Int):=by omega
   by_cases B:s[0].toNat=48/\1<s.size
   ·have v:=zb (d (fun h=>(YV.1 h).2.2.1 ⟨by rw[n];exact B.1,by omega⟩));have J:((s[0].toNat:Int) ==48)=true:=by rw[yC];omega
    have Q:(1:Int)<(s.size:Int):=by omega
    clear d A F B n;go_in;go_wp2;go_ret;exact⟨by rw[uh v];rfl,rfl⟩
   ·have z:Hid (∀ (k:Nat) (u:k<s.size) (w:Wo),Calls prog 108 #[.int .u8 (s[k].toNat:Int)] w (Rk (.bool (zI s[k].toNat)) w)):=fun k u w=>Pd s[k].toNat w;have i:Hid (∀ k (u:k<s.size),zI s[k].toNat=false->JP s.data.toList= -1):=fun k u hd=>d (fun h=>by
     have:=(YV.1 h).2.2.2 s[k] (by rw[← RW s k u];exact yr _);rw[hd]at this;cases this)
    have g:Hid ((∀ k (u:k<s.size),zI s[k].toNat=true)->JP s.data.toList=(qm s.data.toList:Int)):=fun l=>by
     have G:WG s.data.toList=true:=YV.2 ⟨by omega,by omega,fun ⟨a,b⟩=>B ⟨by rw[← n];exact a,by omega⟩,fun c hc=>by
      obtain⟨j,o,rfl⟩:=List.getElem_of_mem hc;exact l j (by omega)⟩
     unfold JP qZ;rw[yg G]
    have H:((s[0].toNat:Int) ==48)=false∨((s[0].toNat:Int) ==48)=true/\¬ (1:Int)<(s.size:Int):=by
     by_cases e:s[0].toNat=48
     ·right;exact⟨by rw[yC];omega,by omega⟩
     ·left;rw[yd];omega
    have K:s.size<=6:=by omega
    clear d B n A F;rcases H with J |⟨J,Q⟩
    all_goals
     go_in;go_wp2;go_loopw [3,4] (fun vv iv wr=>∃ k:Nat,k<=s.size/\iv= .int .i64 (k:Int)/\vv= .int .i64 ((qm (s.data.toList.take k):Nat):Int)/\(∀ j (o:j<s.size),j<k->zI s[j].toNat=true)/\w=wr) (fun _ iv _=>s.size - (intOf iv).toNat)
     case atStart=>exact⟨0,yt _,rfl,rfl,fun j _ o=>by omega,rfl⟩
     case round=>
      obtain⟨k,u,rfl,rfl,l,rfl⟩:=hrel;have f:=zb l;clear l;by_cases q:k<s.size
      ·have I:(k:Int)<(s.size:Int):=by omega
       have m:=zb (uh z k q w);have r:s.data.toList.take (k+1)=s.data.toList.take k++[s[k]]:=WM s k q;have x:Hid (qm (s.data.toList.take (k+1))=qm (s.data.toList.take k)*10+(s[k].toNat - 48)):=by show _=_;rw[r,WU]
       have p:qm (s.data.toList.take k)<1000000∨¬ ∀ c∈s.data.toList.take k,zI c.toNat=true:=by
        rcases RY k (s.data.toList.take k) (by rw[ym];omega)with h | h
        ·left;have:10 ^ k<=10 ^ 6:=Nat.pow_le_pow_right (by omega) (by omega);omega
        ·exact .inr h
       have y:qm (s.data.toList.take k)<1000000:=p.elim id fun h=>absurd (fun c hc=>by
        obtain⟨j,o,rfl⟩:=List.getElem_of_mem hc;rw[ym]at o;rw[List.getElem_take];exact uh f j (by omega) (by omega)) h
       cases hd:zI s[k].toNat with
       | false=>
        have E:=zb (uh i k q hd);rw[hd]at m;clear hd x r p y f i g z;go_wp2_with fail;refine (uh m).mono ?_;rintro e R ⟨rfl,rfl⟩;clear m;go_wp2;go_ret;exact⟨by rw[uh E];rfl,rfl⟩
       | true=>
        have U:=Qo.1 hd;have C:Hid (∀ j (o:j<s.size),j<k+1->zI s[j].toNat=true):=fun j o hjk=>by
         by_cases e:j=k
         ·subst e;exact hd
         ·exact uh f j o (by omega)
        rw[hd]at m;have L:(48:Int)<=(s[k].toNat:Int):=by omega
        have M:(s[k].toNat:Int)<=57:=by omega
        generalize qm (s.data.toList.take k)=D at *;clear hd r p f i g z;go_wp2_with fail;refine (uh m).mono ?_;rintro e R ⟨rfl,rfl⟩;clear m;go_wp2;go_roundw
        case rel=>exact⟨k+1,by omega,by go_num,by rw[uh x];go_num,uh C,trivial⟩
        case measure=>simp[intOf];omega
      ·have e:s.data.toList.take k=s.data.toList:=yq (by omega);rw[e];have E:=zb (uh g (fun j o=>uh f j o (by omega)));generalize qm s.data.toList=D at *;clear f i g z e;go_wp2;go_ret;exact⟨by rw[uh E];rfl,rfl⟩
def FL(l:List UInt8):Prop:=∃ (sg ds:List UInt8) (d:UInt8),l=sg++d :: ds/\(sg=[]∨sg=[45])/\zI d.toNat=true/\(∀ b∈ds,zI b.toNat=true)/\(d.toNat=48->ds=[]/\sg=[])
mutual
def ZR:JV->Prop
 | .nul=>True
 | .tt=>True
 | .ff=>True
 | .num l=>FL l
 | .str l=>Lib.validD l=true
 | .arr l=>QO l
 | .obj m=>QQ m
def QO:JL->Prop
 | .nil=>True
 | .cons v r=>ZR v/\QO r
def QQ:JM->Prop
 | .nil=>True
 | .cons k v r=>Lib.validD k=true/\ZR v/\QQ r
end
mutual
def Jx:JV->Prop
 | .arr l=>GL l
 | .obj m=>Yi m/\zH (zj m)=zj m
 | _=>True
def GL:JL->Prop
 | .nil=>True
 | .cons v r=>Jx v/\GL r
def Yi:JM->Prop
 | .nil=>True
 | .cons _ v r=>Jx v/\Yi r
end
theorem Bp{l:List UInt8}(h:FL l):∃ (c:UInt8) (r:List UInt8),l=c :: r/\(c.toNat=45∨zI c.toNat=true)/\∀ b∈r,zI b.toNat=true:=by
 obtain⟨k,g,d,rfl,j,i,a,_⟩:=h;rcases j with rfl | rfl
 ·exact⟨d,g,rfl,.inr i,a⟩
 ·refine⟨45,d :: g,rfl,.inl rfl,fun b f=>?_⟩;rcases List.mem_cons.1 f with rfl | f
  ·exact i
  ·exact a b f
mutual
theorem GM:∀ v:JV,ZR v->zF v
 | .nul,_=>by rw[zF];trivial
 | .tt,_=>by rw[zF];trivial
 | .ff,_=>by rw[zF];trivial
 | .num l,h=>by rw[ZR]at h;rw[zF];exact Bp h
 | .str l,h=>by rw[ZR]at h;rw[zF];exact h
 | .arr l,h=>by rw[ZR]at h;rw[zF];exact Bq l h
 | .obj m,h=>by rw[ZR]at h;rw[zF];exact Br m h
theorem Bq:∀ l:JL,QO l->qw l
 | .nil,_=>by rw[qw];trivial
 | .cons v r,h=>by rw[QO]at h;rw[qw];exact⟨GM v h.1,Bq r h.2⟩
theorem Br:∀ m:JM,QQ m->qq m
 | .nil,_=>by rw[qq];trivial
 | .cons k v r,h=>by rw[QQ]at h;rw[qq];exact⟨h.1,GM v h.2.1,Br r h.2.2⟩
end
theorem Bt{T:Bs}:∀ (ds m:List UInt8) (i:Nat),T.data.toList.drop i=ds++m->(∀ b∈ds,zI b.toNat=true)->Gz m->dg T i=i+ds.length
 | [],m,i,h,_,hm=>by
  rcases hm with rfl |⟨c,r,rfl,hc⟩
  ·rw[List.nil_append]at h;have:T.size<=i:=by
    have:=List.drop_eq_nil_iff.1 h;rw[Zn]at this;exact this
   rw[Uk (by rw[JY T i this];decide)];rfl
  ·obtain⟨_,a,_⟩:=Zx (T:=T) h;rw[Uk (by rw[a,Qo];omega)];rfl
 | d :: ds,m,i,h,hd,hm=>by
  obtain⟨_,a,f⟩:=Zx (T:=T) h;rw[VL (by rw[a];exact hd d yp),Bt ds m (i+1) f (fun b a=>hd b (yv _ a)) hm,yn];omega
theorem zdW{T:Bs}{i:Nat}{l m:List UInt8}(h:T.data.toList.drop i=l++m):Zc T i (i+l.length)=l:=by
 unfold Zc;rw[h,show i+l.length - i=l.length by omega,List.take_left]
theorem zdX{T:Bs}{i:Nat}{l m:List UInt8}(hn:FL l)(h:T.data.toList.drop i=l++m)(hm:Gz m):nm T i=some (l,i+l.length):=by
 have w:=zdW h;obtain⟨n,a,d,rfl,r,j,o,q⟩:=hn;have x:=Qo.1 j;have f:∀ k,zX T i=k->T.data.toList.drop k=d ::(a++m)->k+1+a.length=i+(n++d :: a).length->nm T i=some (n++d :: a,i+(n++d :: a).length):=by
  intro k p s u;obtain⟨_,b,g⟩:=Zx (T:=T) s;have v:qf T i=i+(n++d :: a).length:=by
   unfold qf;rw[p,b];split
   ·rename_i hz;obtain⟨y,z⟩:=q hz;subst y;simp only[yD]at u;omega
   ·rw[VL (by rw[b];exact j),Bt a m (k+1) g o hm];omega
  unfold nm;rw[p,b,yg j,v,w];unfold Qc;rw[yf];intro e;rcases r with rfl | rfl
  ·rw[List.nil_append]at e;injection e with e _;subst e;simp[zI]at j
  ·simp only[List.cons_append,List.nil_append,List.cons.injEq,true_and]at e;have:d.toNat=48:=by rw[e.1];rfl
   have:=(q this).2
   cases this
 rcases r with rfl | rfl
 ·rw[List.nil_append]at h;rw[List.cons_append]at h;obtain⟨_,b,g⟩:=Zx (T:=T) h;refine f i ?_ h (by simp;omega);unfold zX;rw[yf (by omega)]
 ·rw[List.cons_append,List.nil_append,List.cons_append]at h;obtain⟨_,b,g⟩:=Zx (T:=T) h;refine f (i+1) ?_ g (by simp;omega);unfold zX;rw[yg (by rw[b];rfl)]
theorem KP{v:JV}(h:zF v):∃ (c:UInt8) (r:List UInt8),ct v=c :: r/\c.toNat≠32/\c.toNat≠9/\c.toNat≠10/\c.toNat≠13/\c.toNat≠93/\c.toNat≠125:=by
 cases v with
 | nul=>exact⟨_,_,rfl,by decide,by decide,by decide,by decide,by decide,by decide⟩
 | tt=>exact⟨_,_,rfl,by decide,by decide,by decide,by decide,by decide,by decide⟩
 | ff=>exact⟨_,_,rfl,by decide,by decide,by decide,by decide,by decide,by decide⟩
 | num l=>
  rw[zF]at h;obtain⟨c,r,rfl,a,_⟩:=h;have:c.toNat=45∨(48<=c.toNat/\c.toNat<=57):=a.imp id Qo.1;exact⟨c,r,rfl,by omega,by omega,by omega,by omega,by omega,by omega⟩
 | str l=>exact⟨34,_,rfl,by decide,by decide,by decide,by decide,by decide,by decide⟩
 | arr l=>exact⟨91,_,rfl,by decide,by decide,by decide,by decide,by decide,by decide⟩
 | obj m=>exact⟨123,_,rfl,by decide,by decide,by decide,by decide,by decide,by decide⟩
theorem JQ{T:Bs}{i:Nat}{c:UInt8}{r:List UInt8}(h:T.data.toList.drop i=c :: r)(h1:c.toNat≠32)(h2:c.toNat≠9)(h3:c.toNat≠10)(h4:c.toNat≠13):sk T i=i:=by
 obtain⟨_,a,_⟩:=Zx (T:=T) h;exact Kh (by omega)
mutual
theorem KQ{T:Bs}:∀ v:JV,ZR v->Jx v->∀ i m,T.data.toList.drop i=ct v++m->Gz m->val T i=some (v,i+(ct v).length)
 | .nul,_,_,i,m,h,_=>by
  have h0:T.data.toList.drop i=110 :: 117 :: 108 :: 108 :: m:=h;obtain⟨_,b0,h1⟩:=Zx (T:=T) h0;obtain⟨_,b1,h2⟩:=Zx (T:=T) h1;obtain⟨_,b2,h3⟩:=Zx (T:=T) h2;obtain⟨_,b3,_⟩:=Zx (T:=T) h3;rw[VM (by rw[b0];decide) (by rw[b0];decide) (by rw[b0];decide),yg (by unfold QK;rw[b0,b1,b2,b3];rfl)];rfl
 | .tt,_,_,i,m,h,_=>by
  have h0:T.data.toList.drop i=116 :: 114 :: 117 :: 101 :: m:=h;obtain⟨_,b0,h1⟩:=Zx (T:=T) h0;obtain⟨_,b1,h2⟩:=Zx (T:=T) h1;obtain⟨_,b2,h3⟩:=Zx (T:=T) h2;obtain⟨_,b3,_⟩:=Zx (T:=T) h3;rw[VM (by rw[b0];decide) (by rw[b0];decide) (by rw[b0];decide),yf (by unfold QK;rw[b0];simp),yg (by unfold QX;rw[b0,b1,b2,b3];rfl)];rfl
 | .ff,_,_,i,m,h,_=>by
  have h0:T.data.toList.drop i=102 :: 97 :: 108 :: 115 :: 101 :: m:=h;obtain⟨_,b0,h1⟩:=Zx (T:=T) h0;obtain⟨_,b1,h2⟩:=Zx (T:=T) h1;obtain⟨_,b2,h3⟩:=Zx (T:=T) h2;obtain⟨_,b3,h4⟩:=Zx (T:=T) h3;obtain⟨_,b4,_⟩:=Zx (T:=T) h4;rw[VM (by rw[b0];decide) (by rw[b0];decide) (by rw[b0];decide),yf (by unfold QK;rw[b0];simp),yf (by unfold QX;rw[b0];simp),yg (by unfold Ji;rw[b0,b1,b2,b3,b4];rfl)];rfl
 | .num l,hr,_,i,m,h,hm=>by
  rw[ZR]at hr;have hn:=zdX hr h hm;obtain⟨c,r,rfl,hc,_⟩:=Bp hr;obtain⟨_,b0,_⟩:=Zx (T:=T) (c:=c) (m:=r++m) h;have:c.toNat=45∨(48<=c.toNat/\c.toNat<=57):=hc.imp id Qo.1;rw[VM (by omega) (by omega) (by omega),yf (by unfold QK;simp;omega),yf (by unfold QX;simp;omega),yf (by unfold Ji;simp;omega),hn];rfl
 | .str l,hr,_,i,m,h,_=>by
  rw[ZR]at hr;obtain⟨_,b0,_⟩:=Zx (T:=T) (c:=34) (m:=qs l++[34]++m) (by rw[h];simp[ct,quoted]);rw[NS (by rw[b0];rfl),VN l T m hr i h];rfl
 | .arr .nil,_,_,i,m,h,_=>by
  have h0:T.data.toList.drop i=91 :: 93 :: m:=h;obtain⟨_,b0,h1⟩:=Zx (T:=T) h0;obtain⟨_,b1,_⟩:=Zx (T:=T) h1;rw[XY (by rw[b0];rfl),JQ h1 (by decide) (by decide) (by decide) (by decide),yg (by rw[b1];rfl)];rfl
 | .arr (.cons v r),hr,hs,i,m,h,hm=>by
  rw[ZR]at hr;rw[Jx]at hs;have h0:T.data.toList.drop i=91 ::(joinC (zr (.cons v r))++93 :: m):=by rw[h];simp[ct,qg]
  obtain⟨_,b0,h1⟩:=Zx (T:=T) h0;have hrv:=hr;rw[QO]at hrv;obtain⟨c,q,e,c1,c2,c3,c4,c5,_⟩:=KP (GM v hrv.1);have h1':T.data.toList.drop (i+1)=c ::(q++(joinT (zr r)++93 :: m)):=by rw[h1,zr,joinC,e];simp
  obtain⟨_,b1,_⟩:=Zx (T:=T) h1';rw[XY (by rw[b0];rfl),JQ h1' c1 c2 c3 c4,yf (by rw[b1];exact c5),Bu v r hr hs (i+1) m h1];have e2:(ct (.arr (.cons v r))).length=(joinC (zr (.cons v r))).length+2:=by simp[ct,qg]
  rw[e2];simp only[Option.map_some,Option.some.injEq,Prod.mk.injEq,true_and];omega
 | .obj .nil,_,_,i,m,h,_=>by
  have h0:T.data.toList.drop i=123 :: 125 :: m:=h;obtain⟨_,b0,h1⟩:=Zx (T:=T) h0;obtain⟨_,b1,_⟩:=Zx (T:=T) h1;rw[XZ (by rw[b0];rfl),JQ h1 (by decide) (by decide) (by decide) (by decide),yg (by rw[b1];rfl)];rfl
 | .obj (.cons k v r),hr,hs,i,m,h,hm=>by
  rw[ZR]at hr;rw[Jx]at hs;have hc:ct (.obj (.cons k v r))=123 ::(joinC ((zj (.cons k v r)).map zn)++[125]):=by rw[ct,hs.2];rfl
  have h0:T.data.toList.drop i=123 ::(joinC ((zj (.cons k v r)).map zn)++125 :: m):=by rw[h,hc];simp
  obtain⟨_,b0,h1⟩:=Zx (T:=T) h0;have h1':T.data.toList.drop (i+1)=34 ::(qs k++[34]++58 :: ct v++(joinT ((zj r).map zn)++125 :: m)):=by rw[h1,zj,yi,joinC];simp[zn,quoted]
  obtain⟨_,b1,_⟩:=Zx (T:=T) h1';rw[XZ (by rw[b0];rfl),JQ h1' (by decide) (by decide) (by decide) (by decide),yf (by rw[b1];decide),Bv k v r hr hs.1 (i+1) m h1];rw[hc];simp only[Option.map_some,Option.some.injEq,Prod.mk.injEq,true_and,yn,yh,yD];omega
termination_by v=>SizeOf.sizeOf v
decreasing_by all_goals simp_wf;all_goals omega
theorem Bu{T:Bs}:∀ (v:JV) (r:JL),QO (.cons v r)->GL (.cons v r)->∀ i m,T.data.toList.drop i=joinC (zr (.cons v r))++93 :: m->elems T i=some (.cons v r,i+(joinC (zr (.cons v r))).length+1)
 | v,.nil,hr,hs,i,m,h=>by
  rw[QO]at hr;rw[GL]at hs;have h':T.data.toList.drop i=ct v++93 :: m:=by rw[h];simp[zr,joinC,joinT]
  have hv:=KQ v hr.1 hs.1 i (93 :: m) h' (.inr ⟨93,m,rfl,.inr (.inl rfl)⟩);have h2:T.data.toList.drop (i+(ct v).length)=93 :: m:=QY h';obtain⟨_,b2,_⟩:=Zx (T:=T) h2;rw[Wq,hv];simp only[yA];rw[JQ h2 (by decide) (by decide) (by decide) (by decide),yg (by rw[b2];rfl)];simp[zr,joinC,joinT]
 | v,.cons u r,hr,hs,i,m,h=>by
  rw[QO]at hr;rw[GL]at hs;have h':T.data.toList.drop i=ct v++44 ::(joinC (zr (.cons u r))++93 :: m):=by rw[h];simp[zr,joinC,joinT]
  have hv:=KQ v hr.1 hs.1 i _ h' (.inr ⟨44,_,rfl,.inl rfl⟩);have h2:T.data.toList.drop (i+(ct v).length)=44 ::(joinC (zr (.cons u r))++93 :: m):=QY h';obtain⟨_,b2,h3⟩:=Zx (T:=T) h2;have hru:=hr.2;rw[QO]at hru;obtain⟨c,q,e,c1,c2,c3,c4,_,_⟩:=KP (GM u hru.1);have h3':T.data.toList.drop (i+(ct v).length+1)=c ::(q++(joinT (zr r)++93 :: m)):=by rw[h3,zr,joinC,e];simp
  rw[Wq,hv];simp only[yA];rw[JQ h2 (by decide) (by decide) (by decide) (by decide),yf (by rw[b2];decide),yg (by rw[b2];rfl),JQ h3' c1 c2 c3 c4,Bu u r hr.2 hs.2 _ m h3];have e2:(joinC (zr (.cons v (.cons u r)))).length=(ct v).length+1+(joinC (zr (.cons u r))).length:=by simp[zr,joinC,joinT];omega
  rw[e2];simp only[Option.map_some,Option.some.injEq,Prod.mk.injEq,true_and];omega
termination_by v r=>SizeOf.sizeOf v+SizeOf.sizeOf r
decreasing_by all_goals simp_wf;all_goals omega
theorem Bv{T:Bs}:∀ (k:List UInt8) (v:JV) (r:JM),QQ (.cons k v r)->Yi (.cons k v r)->∀ i m,T.data.toList.drop i=joinC ((zj (.cons k v r)).map zn)++125 :: m->Qt T i=some (.cons k v r,i+(joinC ((zj (.cons k v r)).map zn)).length+1)
 | k,v,.nil,hr,hs,i,m,h=>by
  rw[QQ]at hr;rw[Yi]at hs;have h':T.data.toList.drop i=quoted k++(58 ::(ct v++125 :: m)):=by rw[h];simp[zj,joinC,joinT,zn]
  have hk:=VN k T _ hr.1 i h';have h2:T.data.toList.drop (i+(quoted k).length)=58 ::(ct v++125 :: m):=QY h';obtain⟨_,b2,h3⟩:=Zx (T:=T) h2;obtain⟨c,q,e,c1,c2,c3,c4,_,_⟩:=KP (GM v hr.2.1);have h3':T.data.toList.drop (i+(quoted k).length+1)=c ::(q++125 :: m):=by rw[h3,e];simp
  have hv:=KQ v hr.2.1 hs.1 (i+(quoted k).length+1) (125 :: m) h3 (.inr ⟨125,m,rfl,.inr (.inr rfl)⟩);have h4:T.data.toList.drop (i+(quoted k).length+1+(ct v).length)=125 :: m:=QY h3;obtain⟨_,b4,_⟩:=Zx (T:=T) h4;rw[Kk,hk];simp only[yA];rw[JQ h2 (by decide) (by decide) (by decide) (by decide),yg (by rw[b2];rfl),JQ h3' c1 c2 c3 c4,hv];simp only[yA];rw[JQ h4 (by decide) (by decide) (by decide) (by decide),yg (by rw[b4];rfl)];have e2:(joinC ((zj (.cons k v .nil)).map zn)).length=(quoted k).length+1+(ct v).length:=by simp[zj,joinC,joinT,zn];omega
  rw[e2];simp only[Option.some.injEq,Prod.mk.injEq,true_and];omega
 | k,v,.cons k' u r,hr,hs,i,m,h=>by
  rw[QQ]at hr;rw[Yi]at hs;have h':T.data.toList.drop i=quoted k++(58 ::(ct v++44 ::(joinC ((zj (.cons k' u r)).map zn)++125 :: m))):=by rw[h];simp[zj,joinC,joinT,zn]
  have hk:=VN k T _ hr.1 i h';have h2:=QY h';obtain⟨_,b2,h3⟩:=Zx (T:=T) h2;obtain⟨c,q,e,c1,c2,c3,c4,_,_⟩:=KP (GM v hr.2.1);have h3':T.data.toList.drop (i+(quoted k).length+1)=c ::(q++44 ::(joinC ((zj (.cons k' u r)).map zn)++125 :: m)):=by rw[h3,e];simp
  have hv:=KQ v hr.2.1 hs.1 (i+(quoted k).length+1) _ h3 (.inr ⟨44,_,rfl,.inl rfl⟩);have h4:=QY h3;obtain⟨_,b4,h5⟩:=Zx (T:=T) h4;have h5':T.data.toList.drop (i+(quoted k).length+1+(ct v).length+1)=34 ::(qs k'++[34]++58 :: ct u++(joinT ((zj r).map zn)++125 :: m)):=by rw[h5,zj,yi,joinC];simp[zn,quoted]
  rw[Kk,hk];simp only[yA];rw[JQ h2 (by decide) (by decide) (by decide) (by decide),yg (by rw[b2];rfl),JQ h3' c1 c2 c3 c4,hv];simp only[yA];rw[JQ h4 (by decide) (by decide) (by decide) (by decide),yf (by rw[b4];decide),yg (by rw[b4];rfl),JQ h5' (by decide) (by decide) (by decide) (by decide),Bv k' u r hr.2.2 hs.2 _ m h5];have e2:(joinC ((zj (.cons k v (.cons k' u r))).map zn)).length=(quoted k).length+1+(ct v).length+1+(joinC ((zj (.cons k' u r)).map zn)).length:=by simp[zj,joinC,joinT,zn];omega
  rw[e2];simp only[Option.map_some,Option.some.injEq,Prod.mk.injEq,true_and];omega
termination_by _ v r=>SizeOf.sizeOf v+SizeOf.sizeOf r
decreasing_by all_goals simp_wf;all_goals omega
end
theorem zdY{v:JV}(h:ZR v)(hs:Jx v):Qj (ze (ct v))=some v:=by
 obtain⟨c,r,e,c1,c2,c3,c4,_,_⟩:=KP (GM v h);have a:(ze (ct v)).data.toList.drop 0=ct v++[]:=by rw[Zf];simp
 have b:(ze (ct v)).data.toList.drop 0=c :: r:=by rw[Zf];simpa using e
 unfold Qj;rw[JQ b c1 c2 c3 c4,KQ v h hs 0 [] a (.inl rfl)];simp only[yA,Nat.zero_add];rw[XR (by rw[Zw];exact ye _),yg (Zw _).symm]
theorem Bx:∀ (l acc:List (List UInt8×List UInt8)),l.Pairwise (fun a b=>a.1<=b.1)->(∀ a∈acc,∀ b∈l,a.1<=b.1)->l.foldl (fun acc p=>qn p acc) acc=l.reverse++acc
 | [],acc,_,_=>rfl
 | p :: l,acc,h,ha=>by
  rw[List.pairwise_cons]at h;have e:qn p acc=p :: acc:=by
   cases acc with
   | nil=>rfl
   | cons q r=>rw[qn,yf (List.not_lt.2 (ha q yp p yp))]
  rw[List.foldl_cons,e,Bx l (p :: acc) h.2 (fun a d b hb=>by
   rcases List.mem_cons.1 d with rfl | d
   ·exact h.1 b hb
   ·exact ha a d b (yv _ hb))]
  simp
theorem zdZ{l:List (List UInt8×List UInt8)}(h:l.Pairwise (fun a b=>a.1<=b.1)):zH l=l:=by
 unfold zH;rw[Bx l [] h (fun a ha=>by simp at ha)];simp
theorem Bz(l:List (List UInt8×List UInt8)):zH (zH l)=zH l:=zdZ (X4 l)
def JM.ofL:List (List UInt8×JV)->JM
 | []=>.nil
 |(k,v) :: r=>.cons k v (JM.ofL r)
theorem JM.toL_ofL:∀ l:List (List UInt8×JV),(JM.ofL l).toL=l
 | []=>rfl
 |(k,v) :: r=>by rw[JM.ofL,JM.toL,JM.toL_ofL r]
theorem FM:∀ m:JM,QQ m↔∀ q∈m.toL,Lib.validD q.1=true/\ZR q.2
 | .nil=>by rw[QQ];simp[JM.toL]
 | .cons k v r=>by rw[QQ,FM r,JM.toL];simp[and_assoc]
theorem BD:∀ m:JM,Yi m↔∀ q∈m.toL,Jx q.2
 | .nil=>by rw[Yi];simp[JM.toL]
 | .cons k v r=>by rw[Yi,BD r,JM.toL];simp
theorem KR:∀ m:JM,ZW m=true↔∃ q∈m.toL,zY q.2=true
 | .nil=>by rw[ZW];simp[JM.toL]
 | .cons k v r=>by rw[ZW,Bool.or_eq_true,KR r,JM.toL];simp
theorem KS:∀ (m:JM) (ks:List (List UInt8)),ZN ks m=false↔(∀ q∈m.toL,zy q.2=false)/\(m.toL.map (·.1)).Nodup/\∀ q∈m.toL,q.1 ∉ ks
 | .nil,ks=>by rw[ZN];simp[JM.toL]
 | .cons k v r,ks=>by
  rw[ZN,JM.toL];simp only[Bool.or_eq_false_iff,KS r,yi,List.nodup_cons,List.mem_cons,List.contains_eq_mem,decide_eq_false_iff_not,List.mem_append,yO];constructor
  ·rintro⟨⟨h1,h2⟩,h3,h4,h5⟩;refine⟨?_,⟨?_,h4⟩,?_⟩
   ·rintro q (rfl | hq)
    ·exact h1
    ·exact h3 q hq
   ·rintro⟨q,hq,e⟩;exact h5 q hq (.inr (by simp[e]))
   ·rintro q (rfl | hq)
    ·exact h2
    ·exact fun hk=>h5 q hq (.inl hk)
  ·rintro⟨h1,⟨h2,h3⟩,h4⟩;refine⟨⟨h1 _ (.inl rfl),h4 _ (.inl rfl)⟩,fun q hq=>h1 q (.inr hq),h3,fun q hq hk=>?_⟩;rcases hk with hk | hk
   ·exact h4 q (.inr hq) hk
   ·simp only[List.not_mem_nil,or_false]at hk;exact h2 ⟨q,hq,hk⟩
theorem KT:∀ (l:List JV) (n:Nat),dl l<=n↔∀ v∈l,zL v<=n
 | [],n=>by simp[dl]
 | v :: r,n=>by rw[dl,Nat.max_le,KT r];simp
theorem zd0{a b:List JV}(h:a.Perm b):dl a=dl b:=by
 have d:=(KT b (dl b)).1 (ye _);have f:=(KT a (dl a)).1 (ye _);exact Nat.le_antisymm ((KT _ _).2 fun v hv=>d v (h.subset hv)) ((KT _ _).2 fun v hv=>f v (h.symm.subset hv))
def J3(m:JM):JM:=JM.ofL (GK m.toL)
theorem zd1(m:JM):(J3 m).toL.Perm m.toL:=by unfold J3;rw[JM.toL_ofL];exact FH _
theorem BE(m:JM):zj (J3 m)=zH (zj m):=by
 have a:zj m=m.toL.map kt:=qQ m;have b:zj (J3 m)=(J3 m).toL.map kt:=qQ _;rw[a,b];unfold J3;rw[JM.toL_ofL,TY]
theorem zd2{a b:Bool}(h:a=false↔b=false):a=b:=by
 cases a<;>cases b<;>simp at h<;>rfl
theorem zd3(m:JM):(QQ m->QQ (J3 m))/\(Yi m->Yi (J3 m))/\JZ (J3 m)=JZ m/\qY (J3 m)=qY m/\ZW (J3 m)=ZW m/\ZN [] (J3 m)=ZN [] m:=by
 have p:=zd1 m;refine⟨fun h=>?_,fun h=>?_,?_,?_,?_,?_⟩
 ·rw[FM]at *;exact fun q hq=>h q (p.subset hq)
 ·rw[BD]at *;exact fun q hq=>h q (p.subset hq)
 ·rw[VW,VW];exact zd0 (p.map _)
 ·rw[WD,WD];exact (p.map _).sum_nat
 ·have:ZW (J3 m)=true↔ZW m=true:=by
   rw[KR,KR];exact⟨fun ⟨q,h1,h2⟩=>⟨q,p.subset h1,h2⟩,fun ⟨q,h1,h2⟩=>⟨q,p.symm.subset h1,h2⟩⟩
  exact Bool.eq_iff_iff.2 this
 ·refine zd2 ?_;rw[KS,KS];exact⟨fun ⟨h1,h2,h3⟩=>⟨fun q hq=>h1 q (p.symm.subset hq),((p.map _).nodup_iff).1 h2,fun q hq=>h3 q (p.symm.subset hq)⟩,fun ⟨h1,h2,h3⟩=>⟨fun q hq=>h1 q (p.subset hq),((p.map _).nodup_iff).2 h2,fun q hq=>h3 q (p.subset hq)⟩⟩
mutual
def nv:JV->JV
 | .arr l=>.arr (YX l)
 | .obj m=>.obj (J3 (YB m))
 | .nul=>.nul
 | .tt=>.tt
 | .ff=>.ff
 | .num l=>.num l
 | .str l=>.str l
def YX:JL->JL
 | .nil=>.nil
 | .cons v r=>.cons (nv v) (YX r)
def YB:JM->JM
 | .nil=>.nil
 | .cons k v r=>.cons k (nv v) (YB r)
end
structure NF(a b:JV):Prop where
 ct:ct a=ct b
 rd:ZR b->ZR a
 sr:Jx a
 dep:zL a=zL b
 cnt:zt a=zt b
 big:zY a=zY b
 tw:zy a=zy b
theorem NF.leaf{v:JV}(h:Jx v):NF v v:=⟨rfl,id,h,rfl,rfl,rfl,rfl⟩
mutual
theorem FN:∀ v:JV,NF (nv v) v
 | .nul=>by rw[nv];exact NF.leaf (by rw[Jx];trivial;all_goals simp)
 | .tt=>by rw[nv];exact NF.leaf (by rw[Jx];trivial;all_goals simp)
 | .ff=>by rw[nv];exact NF.leaf (by rw[Jx];trivial;all_goals simp)
 | .num l=>by rw[nv];exact NF.leaf (by rw[Jx];trivial;all_goals simp)
 | .str l=>by rw[nv];exact NF.leaf (by rw[Jx];trivial;all_goals simp)
 | .arr l=>by
  obtain⟨h1,h2,h3,h4,h5,h6,h7⟩:=BF l;rw[nv];exact⟨by rw[Go.Proofs.YtekpghcckdjnhaaGreatDoor.ct,Go.Proofs.YtekpghcckdjnhaaGreatDoor.ct,h1],fun h=>by rw[ZR]at *;exact h2 h,by rw[Jx];exact h3,by rw[zL,zL,h4],by rw[zt,zt,h5],by rw[zY,zY,h6],by rw[zy,zy,h7]⟩
 | .obj m=>by
  obtain⟨h1,h2,h3,h4,h5,h6,h7⟩:=BG m;obtain⟨g1,g2,g3,g4,g5,g6⟩:=zd3 (YB m);rw[nv];exact⟨by rw[Go.Proofs.YtekpghcckdjnhaaGreatDoor.ct,Go.Proofs.YtekpghcckdjnhaaGreatDoor.ct,BE,Bz,h1],fun h=>by rw[ZR]at *;exact g1 (h2 h),by rw[Jx,BE,Bz];exact⟨g2 h3,rfl⟩,by rw[zL,zL,g3,h4],by rw[zt,zt,g4,h5],by rw[zY,zY,g5,h6],by rw[zy,zy,g6,h7]⟩
theorem BF:∀ l:JL,zr (YX l)=zr l/\(QO l->QO (YX l))/\GL (YX l)/\Yv (YX l)=Yv l/\Qv (YX l)=Qv l/\qo (YX l)=qo l/\ZX (YX l)=ZX l
 | .nil=>by rw[YX,GL];exact⟨rfl,id,trivial,rfl,rfl,rfl,rfl⟩
 | .cons v r=>by
  have h:=FN v;obtain⟨h1,h2,h3,h4,h5,h6,h7⟩:=BF r;rw[YX];exact⟨by rw[zr,zr,h.ct,h1],fun q=>by rw[QO]at *;exact⟨h.rd q.1,h2 q.2⟩,by rw[GL];exact⟨h.sr,h3⟩,by rw[Yv,Yv,h.dep,h4],by rw[Qv,Qv,h.cnt,h5],by rw[qo,qo,h.big,h6],by rw[ZX,ZX,h.tw,h7]⟩
theorem BG:∀ m:JM,zj (YB m)=zj m/\(QQ m->QQ (YB m))/\Yi (YB m)/\JZ (YB m)=JZ m/\qY (YB m)=qY m/\ZW (YB m)=ZW m/\∀ ks,ZN ks (YB m)=ZN ks m
 | .nil=>by rw[YB,Yi];exact⟨rfl,id,trivial,rfl,rfl,rfl,fun _=>rfl⟩
 | .cons k v r=>by
  have h:=FN v;obtain⟨h1,h2,h3,h4,h5,h6,h7⟩:=BG r;rw[YB];exact⟨by rw[zj,zj,h.ct,h1],fun q=>by rw[QQ]at *;exact⟨q.1,h.rd q.2.1,h2 q.2.2⟩,by rw[Yi];exact⟨h.sr,h3⟩,by rw[JZ,JZ,h.dep,h4],by rw[qY,qY,h.cnt,h5],by rw[ZW,ZW,h.big,h6],fun ks=>by rw[ZN,ZN,h.tw,h7]⟩
end
theorem zd4{v:JV}(h:ZR v):Qj (ze (ct v))=some (nv v):=by
 have f:=FN v;have:=zdY (f.rd h) f.sr
 rwa [f.ct]at this
theorem zd5{s:Bs}{i j:Nat}{l:List UInt8}(h:nm s i=some (l,j)):FL l:=by
 unfold nm at h;split at h
 ·rename_i hd;injection h with h;injection h with h1 h2;have q:zX s i<s.size:=zZ (by have:=Qo.1 hd;omega);have u:zX s i<qf s i:=by
   unfold qf;split
   ·omega
   ·rw[VL hd];have:=(XX (s:=s) (i:=zX s i+1) (by omega)).1;omega
  have m:∀ k,zX s i<=k->k<qf s i->zI (bt s k)=true:=fun k h1 h2=>by
   unfold qf at h2;split at h2
   ·have:k=zX s i:=by omega
    rw[this];exact hd
   ·exact L3 h1 h2
  have r:bt s (zX s i)=48->Zc s (zX s i+1) (qf s i)=[]:=fun e=>by
   unfold qf;rw[yg e];unfold Zc;simp
  have n:(s.data.toList.getD (zX s i) 0).toNat=bt s (zX s i):=rfl;have o:∀ b∈Zc s (zX s i+1) (qf s i),zI b.toNat=true:=fun b n=>by
   obtain⟨k,y,w,x⟩:=L4 n;rw[x];exact m k (by omega) w
  have hcut:Zc s (zX s i) (qf s i)=s.data.toList.getD (zX s i) 0 :: Zc s (zX s i+1) (qf s i):=N6 u q;by_cases d:bt s i=45
  ·have e:zX s i=i+1:=by unfold zX;rw[yg d]
   have g:Zc s i (qf s i)=[45]++s.data.toList.getD (zX s i) 0 :: Zc s (zX s i+1) (qf s i):=by
    rw[N6 (by omega) (by omega),← e,hcut];have:s.data.toList.getD i 0=45:=UInt8.toNat_inj.1 d;rw[this];rfl
   by_cases f:bt s (zX s i)=48
   ·have v:l=[48]:=by
     rw[← h1,g,r f];have:s.data.toList.getD (zX s i) 0=48:=UInt8.toNat_inj.1 f;rw[this];rfl
    subst v;exact⟨[],[],48,rfl,.inl rfl,rfl,fun b n=>by simp at n,fun _=>⟨rfl,rfl⟩⟩
   ·refine⟨[45],_,_,?_,.inr rfl,hd,o,fun h=>absurd h f⟩;rw[← h1,g];unfold Qc;rw[yf];intro e;simp only[List.cons_append,List.nil_append,List.cons.injEq,true_and]at e;exact f (by rw[← n,e.1];rfl)
  ·have e:zX s i=i:=by unfold zX;rw[yf d]
   refine⟨[],Zc s (zX s i+1) (qf s i),s.data.toList.getD (zX s i) 0,?_,.inl rfl,hd,o,fun h=>⟨r h,rfl⟩⟩;rw[← h1,List.nil_append,← hcut];unfold Qc;rw[yf,e];intro p;have a:=hcut;rw[e]at a;rw[a]at p;injection p with p _;exact d (by show (s.data.toList.getD i 0).toNat=45;rw[p];rfl)
 ·cases h
theorem WH(s:Bs):∀ f i,(∀ v j,pv s f i=some (v,j)->ZR v)/\(∀ l j,pa s f i=some (l,j)->QO l)/\(∀ m j,po s f i=some (m,j)->QQ m)
 | 0,i=>⟨fun v j h=>by simp[pv]at h,fun v j h=>by simp[pa]at h,fun v j h=>by simp[po]at h⟩
 | f+1,i=>by
  refine⟨fun v j h=>?_,fun l j h=>?_,fun m j h=>?_⟩
  ·rw[pv]at h;split at h
   ·split at h
    ·injection h with h;injection h with hv h;subst hv;rw[ZR,QO];trivial
    ·simp only[yz]at h;obtain⟨⟨l,k⟩,hk,h⟩:=h;injection h with hv h;subst hv;rw[ZR];exact (WH s f (sk s (i+1))).2.1 l k hk
   ·split at h
    ·split at h
     ·injection h with h;injection h with hv h;subst hv;rw[ZR,QQ];trivial
     ·simp only[yz]at h;obtain⟨⟨l,k⟩,hk,h⟩:=h;injection h with hv h;subst hv;rw[ZR];exact (WH s f (sk s (i+1))).2.2 l k hk
    ·split at h
     ·simp only[yz]at h;obtain⟨⟨l,k⟩,hk,h⟩:=h;injection h with hv h;subst hv;rw[ZR];exact X1 hk
     ·split at h
      ·injection h with h;injection h with hv h;subst hv;rw[ZR];trivial
      ·split at h
       ·injection h with h;injection h with hv h;subst hv;rw[ZR];trivial
       ·split at h
        ·injection h with h;injection h with hv h;subst hv;rw[ZR];trivial
        ·simp only[yz]at h;obtain⟨⟨l,k⟩,hk,h⟩:=h;injection h with hv h;subst hv;rw[ZR];exact zd5 hk
  ·rw[pa]at h;simp only[Option.bind_eq_some_iff]at h;obtain⟨⟨v,k⟩,hk,h⟩:=h;have b:=(WH s f i).1 v k hk;simp only at h;split at h
   ·injection h with h;injection h with hv h;subst hv;rw[QO,QO];exact⟨b,trivial⟩
   ·split at h
    ·simp only[yz]at h;obtain⟨⟨l,n⟩,d,h⟩:=h;injection h with hv h;subst hv;rw[QO];exact⟨b,(WH s f _).2.1 l n d⟩
    ·cases h
  ·rw[po]at h;simp only[Option.bind_eq_some_iff]at h;obtain⟨⟨p,a⟩,o,h⟩:=h;have g:=X1 o;simp only at h;split at h
   ·simp only[Option.bind_eq_some_iff]at h;obtain⟨⟨v,k⟩,hk,h⟩:=h;have b:=(WH s f _).1 v k hk;simp only at h;split at h
    ·injection h with h;injection h with hv h;subst hv;rw[QQ,QQ];exact⟨g,b,trivial⟩
    ·split at h
     ·simp only[yz]at h;obtain⟨⟨l,n⟩,d,h⟩:=h;injection h with hv h;subst hv;rw[QQ];exact⟨g,b,(WH s f _).2.2 l n d⟩
     ·cases h
   ·cases h
theorem zd6{s:Bs}{i j:Nat}{v:JV}(h:val s i=some (v,j)):ZR v:=(WH s _ i).1 v j h
theorem zd7{s:Bs}{v:JV}(h:Qj s=some v):ZR v:=by
 unfold Qj at h
 cases hv:val s (sk s 0)with
 | none=>rw[hv]at h;simp at h
 | some q=>
  obtain⟨u,j⟩:=q;rw[hv]at h;simp only[yA]at h;split at h
  ·injection h with h;subst h;exact zd6 hv
  ·cases h
end Go.Proofs.YtekpghcckdjnhaaGreatDoor
