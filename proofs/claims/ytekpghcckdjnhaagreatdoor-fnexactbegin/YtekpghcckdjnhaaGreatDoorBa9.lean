import Derived.Sort.Walk0
import Derived.Deep.RegionHeld3
import Derived.Test.YtekpghcckdjnhaaGreatDoorBa7
set_option maxRecDepth 100000
set_option maxHeartbeats 8000000
namespace Go.Proofs.YtekpghcckdjnhaaGreatDoor
open Go.RowKit Go.Proofs.Tryz
theorem zlH:∀ L:List za3,(L.flatMap zbc).length=L.length*2
 | []=>rfl
 | p :: r=>by rw[List.flatMap_cons,yh,zlH r]; simp[zbc]; omega
theorem zrZ (L:List za3) (j:Nat) (p:za3) (h:j < L.length) : ((L.flatMap zbc).set (j*2) (.string (zac p.1))).set (j*2+1) (.string (zac p.2))=(L.set j p).flatMap zbc:=by
 induction L generalizing j with
 | nil=>simp at h
 | cons q r ih=>
  cases j with
  | zero=>rfl
  | succ j=>
   have:=ih j (by simpa using h)
   rw[List.set_cons_succ,List.flatMap_cons,List.flatMap_cons,← this,show (j+1)*2=j*2+2 from by omega]
   rfl
theorem PR.set {w:World} {B g n cap:Nat} {L:List za3} (h:PR w B (.slice (some ⟨g,0,none⟩) n cap) L) (hn':n=L.length) (j:Nat) (hj:j < L.length) (p:za3) :
  PR ((w.setCell ⟨g,j*2,none⟩ (.string (zac p.1))).setCell ⟨g,j*2+1,none⟩ (.string (zac p.2))) B (.slice (some ⟨g,0,none⟩) n cap) (L.set j p):=by
 subst hn'
 obtain⟨hl,⟨hv,h0⟩ | ⟨g',cap',cur,hv,hB,hg,hn,hc,hsz,ht⟩⟩:=h
 ·omega
 ·injection hv with hv1 hv2 hv3
  injection hv1 with hv1
  injection hv1 with hv1
  subst hv1; subst hv3
  have h1:=heap_setCell_same w g (j*2) cur 99 (.string (zac p.1)) hg
  have h2:=heap_setCell_same _ g (j*2+1) _ 99 (.string (zac p.2)) h1
  unfold PR
  refine⟨zlH _,.inr ⟨g,cap,_,by simp,hB,h2,by simpa using hn,hc,by simp[hsz],?_⟩⟩
  rw[← zrZ L j p hj,← ht,List.length_set,Array.toList_setIfInBounds,Array.toList_setIfInBounds,List.take_set,List.take_set]
theorem zr0 (A:List za3) : A=[]∨∃ A' q,A=A'++[q]:=by
 rcases List.eq_nil_or_concat A with h | ⟨A',q,h⟩
 ·exact .inl h
 ·exact .inr ⟨A',q,by rw[h]; simp⟩
theorem za4 {B:Nat} {w w':World} (h:Below B w w') (n:Nat) : Below B w (w'.drewN n):=⟨h.os,h.tape,h.output,h.size,h.block⟩
theorem PR.fz {w:World} {B g n cap:Nat} {L:List za3} (h:PR w B (.slice (some ⟨g,0,none⟩) n cap) L) (o:Nat) : w.frozen? ⟨g,o,none⟩=false:=by
 obtain⟨hl,⟨hv,h0⟩ | ⟨g',cap',cur,hv,hB,hg,_⟩⟩:=h
 ·cases hv
 ·injection hv with hv1 hv2 hv3
  injection hv1 with hv1
  injection hv1 with hv1
  subst hv1
  exact yI hg o
theorem PR.fz1 {w:World} {B g n cap:Nat} {L:List za3} (h:PR w B (.slice (some ⟨g,0,none⟩) n cap) L) (o o':Nat) (v:Value) : (w.setCell ⟨g,o,none⟩ v).frozen? ⟨g,o',none⟩=false:=by
 obtain⟨hl,⟨hv,h0⟩ | ⟨g',cap',cur,hv,hB,hg,_⟩⟩:=h
 ·cases hv
 ·injection hv with hv1 hv2 hv3
  injection hv1 with hv1
  injection hv1 with hv1
  subst hv1
  exact yI (heap_setCell_same w g o cur 99 v hg) o'
theorem PR.cell1 {w:World} {B g n cap:Nat} {L:List za3} (h:PR w B (.slice (some ⟨g,0,none⟩) n cap) L) (o o':Nat) (v u:Value) (ho:o≠o') (hc:w.cell? ⟨g,o',none⟩=some u) : (w.setCell ⟨g,o,none⟩ v).cell? ⟨g,o',none⟩=some u:=by
 obtain⟨hl,⟨hv,h0⟩ | ⟨g',cap',cur,hv,hB,hg,_⟩⟩:=h
 ·cases hv
 ·injection hv with hv1 hv2 hv3
  injection hv1 with hv1
  injection hv1 with hv1
  subst hv1
  rw[yF hg] at hc
  rw[yF (heap_setCell_same w g o cur 99 v hg),Array.getElem?_setIfInBounds_ne ho,hc]
theorem PR.cellsAt {w:World} {B g n cap:Nat} {L:List za3} (h:PR w B (.slice (some ⟨g,0,none⟩) n cap) L) (j:Nat) (hj:j < L.length) (p:za3) (hp:L[j]=p) :
  w.cell? ⟨g,j*2,none⟩=some (.string (zac p.1))/\w.cell? ⟨g,j*2+1,none⟩=some (.string (zac p.2))/\g < w.heap.size:=by
 obtain⟨g2,cap2,he,_,hlt,a,b⟩:=h.cells j hj
 injection he with he1 he2 he3
 injection he1 with he1
 injection he1 with he1
 subst he1; subst hp
 exact⟨a,b,hlt⟩
theorem zfL:(prog.info? 99).map (fun i=>(i.zero,i.size,i.bytes))=some (some (.agg #[.string ByteArray.empty,.string ByteArray.empty]),2,32):=by kernel_rfl
def RR (ps:List za3) (j:Nat) : List za3:=(ps.take j).foldl (fun acc p=>zeW p acc) []
theorem zr1 (ps:List za3) (j:Nat) (h:j < ps.length) : RR ps (j+1)=zeW ps[j] (RR ps j):=by
 unfold RR
 rw[yy h,List.foldl_append]; rfl
theorem zxL (ps:List za3) (j:Nat) (h:ps.length<=j) : (RR ps j).reverse=zaq ps:=by
 unfold RR zaq; rw[yq h]
theorem zol (p:za3) : ∀ l,(zeW p l).length=l.length+1
 | []=>rfl
 | q :: r=>by unfold zeW; split <;> simp[zol p r]
theorem zuI (ps:List za3) : ∀ j,j<=ps.length->(RR ps j).length=j
 | 0,_=>by simp[RR]
 | j+1,h=>by rw[zr1 ps j (by omega),zol,zuI ps j (by omega)]
theorem zix (w:World) (t:TypeId) (x y:Value) : ∀ j u,[x,y][j]?=some u->(w.alloc (.cells #[x,y] t)).cell? ((⟨w.heap.size,0,none⟩ : Addr).add j)=some u:=ztZ w t x y
theorem zia (B:Nat) (v:Value) (ps:List za3) (w:World) (h:PR w B v ps) (hl:ps.length<=40000000) :
  Calls prog 146 #[v] w fun e w'=>∃ v',e = .returned v'/\PR w' w.heap.size v' (zaq ps)/\Below w.heap.size w w':=by
 obtain⟨i0,hi0,hz0,hz1,hz2⟩:=info_parts zfL
 obtain⟨x,len,cap,rfl,hlen⟩ : ∃ x len cap,v = .slice x len cap/\len=ps.length:=by
  rcases h.2 with ⟨hv,h0⟩ | ⟨g,cap,cur,hv,_⟩
  ·exact⟨_,_,_,hv,h0.symm⟩
  ·exact⟨_,_,_,hv,rfl⟩
 subst hlen
 have HP:=zab h
 clear h
 go_enter func146,ntmps146
 go_wp2_with fail
 go_loopw [3,4] (fun r k wr=>∃ j:Nat,k = .int .i64 (j:Int)/\j<=ps.length/\PR wr w.heap.size r (RR ps j).reverse/\Below w.heap.size w wr) (fun _ k _=>ps.length - (intOf k).toNat)
 case atStart=>
  exact⟨0,rfl,yt _,⟨rfl,.inr ⟨w.heap.size,0,#[],rfl,ye _,yG w _,ye _,by unfold maxLen; omega,rfl,rfl⟩⟩,(yH _ _).alloc (ye _) _⟩
 case round=>
  obtain⟨j,rfl,hj,hown,hb⟩:=hrel
  have HB:=zab hb
  have hwsz:=hb.size
  clear hb
  by_cases hin:j < ps.length
  ·have t1:((j:Int) < (ps.length:Int))=True:=eq_true (by omega)
   obtain⟨g,cap',he,hgB,hgl,c0',c1'⟩:=(uh HP).cells j hin
   injection he with he1 he2 he3
   subst he1; subst he3
   have c0:=((uh HB).cell (p:=⟨g,j*2,none⟩) hgl).trans c0'
   have c1:=((uh HB).cell (p:=⟨g,j*2+1,none⟩) hgl).trans c1'
   have HS:=zab (zr1 ps j hin)
   have hlen:=zuI ps j hj
   have HLEN:=zab hlen
   generalize ps[j]=p at *
   generalize hR:RR ps j=R at *
   have hRl:R.reverse.length=j:=by rw[List.length_reverse]; exact hlen
   clear c0' c1' hlen hR
   have hown0:wr.ownsRow w.heap.size 99 2 u3 R.reverse.length (R.reverse.flatMap zbc):=hown
   go_wp2_with (at_builtin; refine wpList_append_own _ rfl (.tmp 14) (.tmp 19) 92 rfl w.heap.size 99 i0 (.agg #[.string ByteArray.empty,.string ByteArray.empty]) 2 32 underlying92 hi0 hz0 hz1 hz2 rfl (by decide) _ _ _ rfl (hown0.alloc _) ⟨wr.heap.size,0,none⟩ 1 1 (zbc p) rfl rfl (zix _ _ _ _) (fun u hu=>by { simp[zbc] at hu; rcases hu with rfl | rfl <;> rfl }) (by unfold maxLen; omega) (by omega) (by simp; omega) ?_; intro v1 w1 own1 hg1 _; have HB1:=zab (((uh HB).alloc hwsz _).grown hg1 (by simp; omega) (fun k hk=>(hown0.lt k hk).1)); have P1:PR w1 w.heap.size v1 (R.reverse++[p]):=(by unfold PR; rw[yh,List.flatMap_append]; simpa using own1); have hL1:(R.reverse++[p]).length=j+1:=(by rw[yh,hRl]; rfl); obtain⟨g1,cap1,hv1,hg1B,_,_,_⟩:=P1.cells j (by omega); rw[hL1] at hv1; subst hv1; have HP1:=zab P1; clear own1 hg1 P1)
   clear hown hown0 HB c0 c1
   go_loopw [5] (fun k wx=>∃ (A C:List za3),k = .int .i64 (A.length:Int)/\A.length+C.length=j/\PR wx w.heap.size (.slice (some ⟨g1,0,none⟩) (j+1) cap1) (A++p :: C)/\Below w.heap.size w wx/\zeW p R=C.reverse++zeW p A.reverse) (fun k _=>(intOf k).toNat)
   case atStart=>
    exact⟨R.reverse,[],by rw[hRl],by simpa using hRl,uh HP1,uh HB1,by simp⟩
   case round=>
    obtain⟨A,C,rfl,hAC,hP,hBx,hins⟩:=hrel
    have HI:=zab hins
    have HPx:=zab hP
    have HBx:=zab hBx
    have hxs:=hBx.size
    clear hins hP hBx HP1 HB1
    rcases zr0 A with rfl | ⟨A',q,rfl⟩
    ·have HF:Hid (([]++p :: C)=(RR ps (j+1)).reverse):=by
      show _=_
      rw[uh HS,uh HI]; simp[zeW]
     have t2:(0 < (0:Int))=False:=by simp
     simp only[yD,Int.natCast_zero]
     go_wp2_with fail
     go_quiet (fail)
     go_wp2
     exact⟨⟨j+1,by go_num,by omega,by rw[← uh HF]; exact uh HPx,za4 (uh HBx) _⟩,by simp[intOf]; omega⟩
    ·have hm:(A'++[q]).length=A'.length+1:=by simp
     rw[hm]
     rw[hm] at hAC
     have hPl:((A'++[q])++p :: C).length=j+1:=by simp at hAC ⊢; omega
     have ep:((A'++[q])++p :: C)[A'.length+1]'(by omega)=p:=by simp
     have eq:((A'++[q])++p :: C)[A'.length]'(by omega)=q:=by simp
     obtain⟨p0,p1,hgl2⟩:=(uh HPx).cellsAt (A'.length+1) (by omega) p ep
     obtain⟨q0,q1,_⟩:=(uh HPx).cellsAt A'.length (by omega) q eq
     have HSW:Hid (((((A'++[q])++p :: C).set (A'.length+1) q).set A'.length p)=A'++p :: (q :: C)):=by
      show _=_
      simp
     have hmj:A'.length+1<=j:=by omega
     have HI2:Hid (zeW p R=C.reverse++zeW p (q :: A'.reverse)):=by
      show _=_
      rw[uh HI]; simp
     clear ep eq HI
     generalize hmm:A'.length=m at *
     have t2:((0:Int) < (m:Int)+1)=True:=eq_true (by omega)
     have t3:(0:Int)<=(m:Int):=by omega
     have t4:(m:Int)+1<=(j:Int):=by omega
     by_cases hpq:p.1 < q.1
     ·have hlt:Op.bytesLess (zac p.1).toList (zac q.1).toList=true:=by
       rw[bytesLess_eq,ByteArray.toList_eq,ByteArray.toList_eq,zad,zad]; exact yj hpq
      have HI3:Hid (zeW p R=(q :: C).reverse++zeW p A'.reverse):=by
       show _=_
       rw[uh HI2,zeW,yg hpq]; simp
      go_wp2_with fail
      go_quiet (fail)
      have P0:(wr.drewN nq).cell? ⟨g1,(m+1)*2,none⟩=some (.string (zac p.1)):=p0
      have P1:(wr.drewN nq).cell? ⟨g1,(m+1)*2+1,none⟩=some (.string (zac p.2)):=p1
      have PX:Hid (PR (wr.drewN nq) w.heap.size (.slice (some ⟨g1,0,none⟩) (j+1) cap1) (A'++[q]++p :: C)):=uh HPx
      have BX:Hid (Below w.heap.size w (wr.drewN nq)):=za4 (uh HBx) _
      have hgx:g1 < (wr.drewN nq).heap.size:=hgl2
      have hxs':w.heap.size<=(wr.drewN nq).heap.size:=hxs
      clear p0 p1 q0 q1 HPx HBx hpq HI2
      generalize wr.drewN nq=wx at *
      have PA:=uh PX
      obtain⟨q0,q1,_⟩:=PA.cellsAt m (by omega) q (by subst hmm; simp)
      obtain⟨pp0,pp1,_⟩:=PA.cellsAt (m+1) (by omega) p (by subst hmm; simp)
      have f0:=PA.fz ((m+1)*2)
      have f1:=PA.fz1 ((m+1)*2) ((m+1)*2+1) (.string (zac q.1))
      have d1:=PA.cell1 ((m+1)*2) ((m+1)*2+1) (.string (zac q.1)) _ (by omega) pp1
      have PB:=PA.set hPl.symm (m+1) (by omega) q
      have hPl2:((A'++[q]++p :: C).set (m+1) q).length=j+1:=by rw[List.length_set]; exact hPl
      obtain⟨r0,r1,_⟩:=PB.cellsAt m (by omega) q (by subst hmm; simp)
      have f2:=PB.fz (m*2)
      have f3:=PB.fz1 (m*2) (m*2+1) (.string (zac p.1))
      have d3:=PB.cell1 (m*2) (m*2+1) (.string (zac p.1)) _ (by omega) r1
      have PC:=PB.set hPl2.symm m (by omega) p
      rw[uh HSW] at PC
      have BA:=((((uh BX).setCell (p:=⟨g1,(m+1)*2,none⟩) hg1B (.string (zac q.1))).setCell (p:=⟨g1,(m+1)*2+1,none⟩) hg1B (.string (zac q.2))).setCell (p:=⟨g1,m*2,none⟩) hg1B (.string (zac p.1))).setCell (p:=⟨g1,m*2+1,none⟩) hg1B (.string (zac p.2))
      have HPC:Hid (∀ o,PR (World.alloc ((((wx.setCell ⟨g1,(m+1)*2,none⟩ (.string (zac q.1))).setCell ⟨g1,(m+1)*2+1,none⟩ (.string (zac q.2))).setCell ⟨g1,m*2,none⟩ (.string (zac p.1))).setCell ⟨g1,m*2+1,none⟩ (.string (zac p.2))) o) w.heap.size (.slice (some ⟨g1,0,none⟩) (j+1) cap1) (A'++p :: q :: C)):=fun o=>PC.below (zai _ o)
      have HBC:Hid (∀ o,Below w.heap.size w (World.alloc ((((wx.setCell ⟨g1,(m+1)*2,none⟩ (.string (zac q.1))).setCell ⟨g1,(m+1)*2+1,none⟩ (.string (zac q.2))).setCell ⟨g1,m*2,none⟩ (.string (zac p.1))).setCell ⟨g1,m*2+1,none⟩ (.string (zac p.2))) o)):=fun o=>BA.alloc BA.size o
      have hne:¬ wx.heap.size=g1:=by omega
      have hne':¬ g1=wx.heap.size:=by omega
      clear PA PB PC BA PX BX
      go_wp2
      go_roundw
      case rel=>exact⟨A',q :: C,by rw[hmm],by simp; omega,uh HPC _,uh HBC _,uh HI3⟩
      case measure=>simp[intOf]
     ·have hlt:Op.bytesLess (zac p.1).toList (zac q.1).toList=false:=by
       rw[bytesLess_eq,ByteArray.toList_eq,ByteArray.toList_eq,zad,zad]; exact yk hpq
      have HF:Hid ((A'++[q]++p :: C)=(RR ps (j+1)).reverse):=by
       show _=_
       rw[uh HS,uh HI2,zeW,yf hpq]; simp
      go_wp2_with fail
      go_quiet (fail)
      go_wp2
      exact⟨⟨j+1,by go_num,by omega,by rw[← uh HF]; exact uh HPx,za4 (uh HBx) _⟩,by simp[intOf]; omega⟩
  ·have t1:((j:Int) < (ps.length:Int))=False:=yQ (by omega)
   have HE:=zab (zxL ps j (by omega))
   go_wp2
   go_ret
   exact⟨_,rfl,by rw[← uh HE]; exact hown,uh HB⟩
theorem zi7 (T:ByteArray) (w:World) (h0:0 < T.size) (h1:bt T 0≠91) (h2:bt T 0≠123) :
  Calls prog 47 #[.string T] w fun e w'=>∃ v,e = .returned v/\PR w' w.heap.size v []/\Below w.heap.size w w':=by
 rw[zas T 0 h0] at h1 h2
 have f1:((T[0].toNat:Int) != 91)=true:=by rw[bne_iff_ne]; omega
 have f2:((T[0].toNat:Int) != 123)=true:=by rw[bne_iff_ne]; omega
 have hI:(0:Int) < (T.size:Int):=by omega
 clear h1 h2
 go_enter func47,ntmps47
 go_wp2
 go_ret
 exact⟨_,rfl,World.ownsRow_lit (base:=w.heap.size) (e:=99) (size:=2) w #[] 0 (ye _) (by unfold maxLen; omega) rfl,(yH _ _).alloc (ye _) _⟩
theorem zlI (l:JL) (hok:okL l) (w:World) (hT:(zac (ct (.arr l))).size<=1000000) :
  Calls prog 47 #[.string (zac (ct (.arr l)))] w fun e w'=>∃ v,e = .returned v/\PR w' w.heap.size v (ze7 0 (ctL l))/\Below w.heap.size w w':=by
 obtain⟨i0,hi0,hz0,hz1,hz2⟩:=info_parts zfL
 have hTL:(zac (ct (.arr l))).data.toList=91 :: (joinC (ctL l)++[93]):=by rw[zad]; rfl
 have htop:=zj1 (zac (ct (.arr l))) l hok
 generalize zac (ct (.arr l))=T at *
 generalize ctL l=cs at *
 have h0:0 < T.size:=by have:=congrArg List.length hTL; rw[zak] at this; simp at this; omega
 have hb0:T[0].toNat=91:=by rw[← zas T 0 h0]; unfold bt; rw[hTL]; rfl
 have f1:((T[0].toNat:Int) != 91)=false:=by rw[yM]; omega
 have f2:((T[0].toNat:Int) == 123)=false:=by rw[yd]; omega
 have hI:(0:Int) < (T.size:Int):=by omega
 have hn:cs.length<=T.size:=by
  have h1:=zlr hTL
  have:∀ k,k<=cs.length->k<=pk cs k:=by
   intro k
   induction k with
   | zero=>intro _; omega
   | succ k ih=>intro hk; rw[zj3 cs k (by omega)]; have:=ih (by omega); omega
  cases hl:cs.length with
  | zero=>omega
  | succ m=>
   have h2:=zrw hTL m (by omega)
   have h3:=this m (by omega)
   omega
 have HK:Hid (∀ k (hk:k < cs.length) (w:World),pk cs k+cs[k].length+1<=T.size/\1<=cs[k].length/\T.extract (pk cs k) (pk cs k+cs[k].length)=zac cs[k]/\pk cs (k+1)=pk cs k+cs[k].length+1/\ze7 0 (cs.take (k+1))=ze7 0 (cs.take k)++[(zb5 k,cs[k])] /\
   Calls prog 86 #[.string T,.int .i64 ((pk cs k:Nat) : Int)] w fun e w'=>e = .returned (.int .i64 ((pk cs k+cs[k].length:Nat) : Int))/\Below w.heap.size w w'):=fun k hk w=>by
  have hd:=zhZ hTL k hk
  obtain⟨ht,hne⟩:=htop cs[k] (yr hk)
  obtain⟨f,hf⟩:=ht _ _ hd (zeI _ 93 (.inl rfl))
  refine⟨zrw hTL k hk,?_,zut hd,zj3 cs k hk,?_,zn9 T _ _ f w (by omega) hf⟩
  ·cases h:cs[k] with
   | nil=>exact absurd h hne
   | cons _ _=>simp
  ·rw[yy hk,zlq]
   simp[Nat.min_eq_left (Nat.le_of_lt hk)]
 have HEND:=zab (zlr hTL)
 have hl0:∀ k,k<=cs.length->(ze7 0 (cs.take k)).length=k:=fun k hk=>by rw[zcA,ym]; omega
 have HL0:=zab hl0
 have HDEC:Hid (∀ (n:Nat) (w:World),n<=1000000->Calls prog 84 #[.int .i64 (n:Int)] w fun e w'=>e = .returned (.string (zac (zb5 n)))/\Below w.heap.size w w'):=fun n w hn=>zn8 n n w (ye _) (by omega)
 clear hTL htop hb0 hl0 hok
 go_enter func47,ntmps47
 go_wp2
 go_loopw [3,4] (fun v i wr=>∃ k:Nat,k<=cs.length/\i = .int .i64 ((pk cs k:Nat) : Int)/\PR wr w.heap.size v (ze7 0 (cs.take k))/\Below w.heap.size w wr) (fun _ i _=>T.size+1 - (intOf i).toNat)
 case atStart=>exact⟨0,yt _,rfl,World.ownsRow_lit (base:=w.heap.size) (e:=99) (size:=2) w #[] 0 (ye _) (by unfold maxLen; omega) rfl,(yH _ _).alloc (ye _) _⟩
 case round=>
  obtain⟨k,hk,rfl,hpr,hb⟩:=hrel
  have hlen:=uh HL0 k hk
  have HB:=zab hb
  have hwsz:=hb.size
  clear hb
  by_cases hlt:k < cs.length
  ·obtain⟨k1,k2,k3,k4,k5,_⟩:=uh HK k hlt w
   have HE:Hid (∀ w,Calls prog 86 #[.string T,.int .i64 ((pk cs k:Nat) : Int)] w fun e w'=>e = .returned (.int .i64 ((pk cs k+cs[k].length:Nat) : Int))/\Below w.heap.size w w'):=fun w=>(uh HK k hlt w).2.2.2.2.2
   have HK4:=zab k4
   have HK5:=zab k5
   have tl:((pk cs k:Nat) : Int) < (T.size:Int) - 1:=by omega
   obtain⟨x,len,cap,rfl,hlv⟩ : ∃ x len cap,u3 = .slice x len cap/\len=k:=by
    rcases hpr.2 with ⟨hv,h0'⟩ | ⟨g,cap,cur,hv,_⟩
    ·exact⟨_,_,_,hv,by omega⟩
    ·exact⟨_,_,_,hv,hlen⟩
   obtain rfl:=hlv
   have HD:=zab (uh HDEC len wr (by omega))
   generalize ze7 0 (cs.take len)=ps at *
   generalize pk cs len=P at *
   generalize cs[len]=t at *
   obtain⟨E,hE⟩ : ∃ E,P+t.length=E:=⟨_,rfl⟩
   rw[hE] at k3 k1 HE HK4
   have hPE:P<=E:=by omega
   clear hE k4 k5 HK HEND HDEC HL0
   go_wp2_with fail
   refine (uh HD).mono ?_
   rintro e w1 ⟨rfl,b1⟩
   have p1:=hpr.below b1
   have B1:=zab (zaa (uh HB) b1)
   have hw1:=b1.size
   clear HD b1 hpr HB
   go_wp2_with fail
   refine (uh HE _).mono ?_
   rintro e w2 ⟨rfl,b2⟩
   have p2:=p1.below b2
   have B2:=zab (zaa (uh B1) b2)
   have hw2:=b2.size
   clear HE b2 p1 B1
   have own2:w2.ownsRow w.heap.size 99 2 (.slice x len cap) ps.length (ps.flatMap zbc):=p2
   have hal:ps.length<=1000000:=by omega
   go_wp2_with (at_builtin; refine wpList_append_own _ rfl (.tmp 44) (.tmp 51) 92 rfl w.heap.size 99 i0 (.agg #[.string ByteArray.empty,.string ByteArray.empty]) 2 32 underlying92 hi0 hz0 hz1 hz2 rfl (by decide) _ _ _ rfl (own2.alloc _) ⟨w2.heap.size,0,none⟩ 1 1 (zbc (zb5 len,t)) rfl rfl (zix _ _ _ _) (fun u hu=>by { simp[zbc] at hu; rcases hu with rfl | rfl <;> rfl }) (by unfold maxLen; omega) (by omega) (by simp; omega) ?_)
   intro v3 w3 own3 hg3 _
   have P3:Hid (PR w3 w.heap.size v3 (ps++[(zb5 len,t)])):=by
    show PR w3 w.heap.size v3 (ps++[(zb5 len,t)])
    unfold PR
    rw[yh,List.flatMap_append,hlen]
    simpa using own3
   have B3:Hid (Below w.heap.size w w3):=((uh B2).alloc (by omega) _).grown hg3 (by simp; omega) (fun k hk=>(own2.lt k hk).1)
   clear own3 hg3 own2 p2 B2
   go_wp2
   go_roundw
   case rel=>exact⟨len+1,by omega,by rw[uh HK4]; go_num,by rw[uh HK5]; exact uh P3,uh B3⟩
   case measure=>simp[intOf]; omega
  ·have hk':k=cs.length:=by omega
   have h2:=uh HEND
   rw[← hk'] at h2
   have tl:¬ ((pk cs k:Nat) : Int) < (T.size:Int) - 1:=by omega
   have e:cs.take k=cs:=yq (by omega)
   rw[e] at hpr
   have HP:=zab hpr
   generalize pk cs k=P at *
   clear HK HEND HDEC HL0 hpr e hk' hlen
   go_wp2
   go_ret
   exact⟨_,rfl,uh HP,uh HB⟩
theorem zr2 {T:ByteArray} {cs:List (List UInt8)} {a c:UInt8} (hTL:T.data.toList=a :: (joinC cs++[c])) : cs.length<=T.size:=by
 have h1:=zlr hTL
 have:∀ k,k<=cs.length->k<=pk cs k:=by
  intro k
  induction k with
  | zero=>intro _; omega
  | succ k ih=>intro hk; rw[zj3 cs k (by omega)]; have:=ih (by omega); omega
 cases hl:cs.length with
 | zero=>omega
 | succ m=>
  have h2:=zrw hTL m (by omega)
  have h3:=this m (by omega)
  omega
theorem zlJ (m:JM) (hok:okM m) (w:World) (hT:(zac (ct (.obj m))).size<=1000000) :
  Calls prog 47 #[.string (zac (ct (.obj m)))] w fun e w'=>∃ v,e = .returned v/\PR w' w.heap.size v (zaq (ctM m))/\Below w.heap.size w w':=by
 obtain⟨i0,hi0,hz0,hz1,hz2⟩:=info_parts zfL
 have hTL:(zac (ct (.obj m))).data.toList=123 :: (joinC ((zaq (ctM m)).map zav)++[125]):=by rw[zad]; rfl
 have htop:∀ p∈zaq (ctM m),zln (zac (ct (.obj m))) p.2/\p.2≠[]/\Lib.validD p.1=true:=fun p hp=>zj2 _ m hok p ((zap _).subset hp)
 generalize zac (ct (.obj m))=T at *
 generalize zaq (ctM m)=qs at *
 have hml:(qs.map zav).length=qs.length:=yl _
 have h0:0 < T.size:=by have:=congrArg List.length hTL; rw[zak] at this; simp at this; omega
 have hb0:T[0].toNat=123:=by rw[← zas T 0 h0]; unfold bt; rw[hTL]; rfl
 have f1:((T[0].toNat:Int) != 91)=true:=by rw[bne_iff_ne]; omega
 have f1':((T[0].toNat:Int) != 123)=false:=by rw[yM]; omega
 have f2:((T[0].toNat:Int) == 123)=true:=by rw[yC]; omega
 have hI:(0:Int) < (T.size:Int):=by omega
 have hn:qs.length<=T.size:=by have:=zr2 hTL; omega
 have HK:Hid (∀ k (hk:k < qs.length) (w:World),pk (qs.map zav) k+(quoted qs[k].1).length+1+qs[k].2.length+1<=T.size/\1<=qs[k].2.length/\T.extract (pk (qs.map zav) k+(quoted qs[k].1).length+1) (pk (qs.map zav) k+(quoted qs[k].1).length+1+qs[k].2.length)=zac qs[k].2/\pk (qs.map zav) (k+1)=pk (qs.map zav) k+(quoted qs[k].1).length+1+qs[k].2.length+1/\qs.take (k+1)=qs.take k++[(qs[k].1,qs[k].2)] /\
   Calls prog 86 #[.string T,.int .i64 ((pk (qs.map zav) k+(quoted qs[k].1).length+1:Nat) : Int)] w (fun e w'=>e = .returned (.int .i64 ((pk (qs.map zav) k+(quoted qs[k].1).length+1+qs[k].2.length:Nat) : Int))/\Below w.heap.size w w') /\
   Calls prog 85 #[.string T,.int .i64 ((pk (qs.map zav) k:Nat) : Int)] w fun e w'=>e = .returned (.tuple #[.string (zac qs[k].1),.int .i64 ((pk (qs.map zav) k+(quoted qs[k].1).length:Nat) : Int),.bool true])/\Below w.heap.size w w'):=fun k hk w=>by
  have hk':k < (qs.map zav).length:=by omega
  have hd:=zhZ hTL k hk'
  have hin:=zrw hTL k hk'
  have hnx:=zj3 (qs.map zav) k hk'
  have em:(qs.map zav)[k]=quoted qs[k].1++58 :: qs[k].2:=by simp[zav]
  rw[em] at hd hin hnx
  rw[List.append_assoc] at hd
  simp only[yh,yn] at hin hnx
  obtain⟨ht,hne,hv⟩:=htop qs[k] (yr hk)
  have hd2:T.data.toList.drop (pk (qs.map zav) k+(quoted qs[k].1).length+1)=qs[k].2++(joinT ((qs.map zav).drop (k+1))++[125]):=by
   have h1:=zaF hd
   have h2:=zan (T:=T) (c:=58) (m:=qs[k].2++(joinT ((qs.map zav).drop (k+1))++[125])) (by rw[h1]; rfl)
   exact h2.2.2
  obtain⟨f,hf⟩:=ht _ _ hd2 (zeI _ 125 (.inr rfl))
  have hs:=zc2 qs[k].1 T _ hv (pk (qs.map zav) k) hd
  refine⟨by omega,?_,zut hd2,by omega,yy hk,zn9 T _ _ f w (by omega) hf,?_⟩
  ·cases h:qs[k].2 with
   | nil=>exact absurd h hne
   | cons _ _=>simp
  ·have:=zbv T (pk (qs.map zav) k) w (by omega) (by omega)
   rw[hs] at this
   exact this.mono fun e w' h=>⟨h.2,h.1⟩
 have HEND:=zab (zlr hTL)
 have HDEC:Hid (∀ (n:Nat) (w:World),n<=1000000->Calls prog 84 #[.int .i64 (n:Int)] w fun e w'=>e = .returned (.string (zac (zb5 n)))/\Below w.heap.size w w'):=fun n w hn=>zn8 n n w (ye _) (by omega)
 clear hTL htop hb0 hok
 rw[hml] at HEND
 go_enter func47,ntmps47
 go_wp2
 go_loopw [3,4] (fun v i wr=>∃ k:Nat,k<=qs.length/\i = .int .i64 ((pk (qs.map zav) k:Nat) : Int)/\PR wr w.heap.size v (qs.take k)/\Below w.heap.size w wr) (fun _ i _=>T.size+1 - (intOf i).toNat)
 case atStart=>exact⟨0,yt _,rfl,World.ownsRow_lit (base:=w.heap.size) (e:=99) (size:=2) w #[] 0 (ye _) (by unfold maxLen; omega) rfl,(yH _ _).alloc (ye _) _⟩
 case round=>
  obtain⟨k,hk,rfl,hpr,hb⟩:=hrel
  have hlen:(qs.take k).length=k:=by rw[ym]; omega
  have HB:=zab hb
  have hwsz:=hb.size
  clear hb
  by_cases hlt:k < qs.length
  ·obtain⟨k1,k2,k3,k4,k5,_,_⟩:=uh HK k hlt w
   have HE:Hid (∀ w,Calls prog 86 #[.string T,.int .i64 ((pk (qs.map zav) k+(quoted qs[k].1).length+1:Nat) : Int)] w (fun e w'=>e = .returned (.int .i64 ((pk (qs.map zav) k+(quoted qs[k].1).length+1+qs[k].2.length:Nat) : Int))/\Below w.heap.size w w')):=fun w=>(uh HK k hlt w).2.2.2.2.2.1
   have HS:Hid (∀ w,Calls prog 85 #[.string T,.int .i64 ((pk (qs.map zav) k:Nat) : Int)] w fun e w'=>e = .returned (.tuple #[.string (zac qs[k].1),.int .i64 ((pk (qs.map zav) k+(quoted qs[k].1).length:Nat) : Int),.bool true])/\Below w.heap.size w w'):=fun w=>(uh HK k hlt w).2.2.2.2.2.2
   have HK4:=zab k4
   have HK5:=zab k5
   have tl:((pk (qs.map zav) k:Nat) : Int) < (T.size:Int) - 1:=by omega
   obtain⟨x,len,cap,rfl,hlv⟩ : ∃ x len cap,u3 = .slice x len cap/\len=k:=by
    rcases hpr.2 with ⟨hv,h0'⟩ | ⟨g,cap,cur,hv,_⟩
    ·exact⟨_,_,_,hv,by omega⟩
    ·exact⟨_,_,_,hv,hlen⟩
   obtain rfl:=hlv
   have HD:=zab (uh HDEC len wr (by omega))
   generalize qs.take len=ps at *
   generalize pk (qs.map zav) len=P at *
   generalize qs[len].2=t at *
   generalize qs[len].1=key at *
   obtain⟨M,hM⟩ : ∃ M,P+(quoted key).length=M:=⟨_,rfl⟩
   rw[hM] at k3 k1 HE HK4 HS
   have hPM:P<=M:=by omega
   have hM1:((M:Nat) : Int)+1=((M+1:Nat) : Int):=by omega
   obtain⟨M1,hM1'⟩ : ∃ M1,M+1=M1:=⟨_,rfl⟩
   rw[hM1'] at k3 k1 HE HK4 hM1
   obtain⟨E,hE⟩ : ∃ E,M1+t.length=E:=⟨_,rfl⟩
   rw[hE] at k3 k1 HE HK4
   have hPE:M1<=E:=by omega
   have hPM1:P < M1:=by omega
   clear hE hM hM1' k4 k5 HK HEND HDEC
   go_wp2_with fail
   refine (uh HD).mono ?_
   rintro e w1 ⟨rfl,b1⟩
   have p1:=hpr.below b1
   have B1:=zab (zaa (uh HB) b1)
   have hw1:=b1.size
   clear HD b1 hpr HB
   go_wp2_with fail
   refine (uh HS _).mono ?_
   rintro e w1' ⟨rfl,b1'⟩
   have p1':=p1.below b1'
   have B1':=zab (zaa (uh B1) b1')
   have hw1':=b1'.size
   clear HS b1' p1 B1
   go_wp2_with fail
   refine (uh HE _).mono ?_
   rintro e w2 ⟨rfl,b2⟩
   have p2:=p1'.below b2
   have B2:=zab (zaa (uh B1') b2)
   have hw2:=b2.size
   clear HE b2 p1' B1'
   have own2:w2.ownsRow w.heap.size 99 2 (.slice x len cap) ps.length (ps.flatMap zbc):=p2
   have hal:ps.length<=1000000:=by omega
   go_wp2_with (at_builtin; refine wpList_append_own _ rfl (.tmp 44) (.tmp 51) 92 rfl w.heap.size 99 i0 (.agg #[.string ByteArray.empty,.string ByteArray.empty]) 2 32 underlying92 hi0 hz0 hz1 hz2 rfl (by decide) _ _ _ rfl (own2.alloc _) ⟨w2.heap.size,0,none⟩ 1 1 (zbc (key,t)) rfl rfl (zix _ _ _ _) (fun u hu=>by { simp[zbc] at hu; rcases hu with rfl | rfl <;> rfl }) (by unfold maxLen; omega) (by omega) (by simp; omega) ?_)
   intro v3 w3 own3 hg3 _
   have P3:Hid (PR w3 w.heap.size v3 (ps++[(key,t)])):=by
    show PR w3 w.heap.size v3 (ps++[(key,t)])
    unfold PR
    rw[yh,List.flatMap_append,hlen]
    simpa using own3
   have B3:Hid (Below w.heap.size w w3):=((uh B2).alloc (by omega) _).grown hg3 (by simp; omega) (fun k hk=>(own2.lt k hk).1)
   clear own3 hg3 own2 p2 B2
   go_wp2
   go_roundw
   case rel=>exact⟨len+1,by omega,by rw[uh HK4]; go_num,by rw[uh HK5]; exact uh P3,uh B3⟩
   case measure=>simp[intOf]; omega
  ·have hk':k=qs.length:=by omega
   have h2:=uh HEND
   rw[← hk'] at h2
   have tl:¬ ((pk (qs.map zav) k:Nat) : Int) < (T.size:Int) - 1:=by omega
   have e:qs.take k=qs:=yq (by omega)
   rw[e] at hpr
   have HP:=zab hpr
   generalize pk (qs.map zav) k=P at *
   clear HK HEND HDEC hpr e hk' hlen
   go_wp2
   go_ret
   exact⟨_,rfl,uh HP,uh HB⟩
theorem zdQ {α β:Type} (f:α->β) : ∀ (l1:List β) (l2:List α),l1.Perm (l2.map f)->∃ l3:List α,l3.Perm l2/\l3.map f=l1
 | [],l2,h=>by
  have:=h.length_eq
  simp at this
  obtain rfl:=yN this.symm
  exact⟨[],List.Perm.refl _,rfl⟩
 | a :: r,l2,h=>by
  have ha:a∈l2.map f:=h.subset yp
  obtain⟨b,hb,rfl⟩:=yO.1 ha
  obtain⟨s,t,rfl⟩:=List.append_of_mem hb
  have hp:r.Perm ((s++t).map f):=by
   rw[yw,yi] at h
   rw[yw]
   exact (h.trans List.perm_middle).cons_inv
  obtain⟨l3,h3,rfl⟩:=zdQ f r (s++t) hp
  exact⟨b :: l3,(h3.cons b).trans List.perm_middle.symm,rfl⟩
theorem zr3 {a b:List JV} (h:a.Perm b) : dl a=dl b:=by
 induction h with
 | nil=>rfl
 | cons x _ ih=>simp[dl,ih]
 | swap x y l=>simp only[dl]; omega
 | trans _ _ h1 h2=>exact h1.trans h2
theorem zr4 {a b:List JV} (h:a.Perm b) : cl a=cl b:=by unfold cl; exact (h.map zaA).sum_nat
def zom (v:JV) : Prop:=(ct v).length<=1000000->zaA v<=1000000->∀ w:World,Calls prog 97 #[.string (zac (ct v))] w fun e w'=>e = .returned (.tuple #[.int .i64 (zaY v:Int),.int .i64 (zaA v:Int)])/\Below w.heap.size w w'
theorem zgi (T:ByteArray) (ps:List (List UInt8×List UInt8)) (vs:List JV) (w:World) (hpv:ps.map (·.2)=vs.map ct) (hc:cl vs<=1000000) (hd:dl vs<=1000000) (hn:ps.length<=1000000)
  (hp:Calls prog 47 #[.string T] w fun e w'=>∃ v,e = .returned v/\PR w' w.heap.size v ps/\Below w.heap.size w w')
  (hs:∀ v∈vs,∀ w:World,Calls prog 97 #[.string (zac (ct v))] w fun e w'=>e = .returned (.tuple #[.int .i64 (zaY v:Int),.int .i64 (zaA v:Int)])/\Below w.heap.size w w') :
  Calls prog 97 #[.string T] w fun e w'=>e = .returned (.tuple #[.int .i64 ((dl vs+1:Nat) : Int),.int .i64 ((cl vs+1:Nat) : Int)])/\Below w.heap.size w w':=by
 have HP:=zab hp
 have hl:ps.length=vs.length:=by have:=congrArg List.length hpv; simpa using this
 have HALL:Hid (∀ k (hk:k < ps.length),∃ dk ck:Nat,dl (vs.take (k+1))=max (dl (vs.take k)) dk/\cl (vs.take (k+1))=cl (vs.take k)+ck/\dk<=dl vs/\ck<=cl vs/\∀ w:World,Calls prog 97 #[.string (zac ps[k].2)] w fun e w'=>e = .returned (.tuple #[.int .i64 (dk:Int),.int .i64 (ck:Int)])/\Below w.heap.size w w'):=fun k hk=>by
  have hk':k < vs.length:=by omega
  have e:ps[k].2=ct vs[k]:=by
   have:=congrArg (fun l=>l[k]?) hpv
   simpa [hk,hk'] using this
  refine⟨zaY vs[k],zaA vs[k],?_,?_,zvP vs k hk',?_,?_⟩
  ·rw[yy hk']; exact zrD _ _
  ·rw[yy hk']; exact zrE _ _
  ·have:=zfE (vs.map zaA) k (by simpa using hk'); simpa [cl] using this
  ·rw[e]; exact hs _ (yr hk')
 have HB1:Hid (∀ k,dl (vs.take k)<=dl vs/\cl (vs.take k)<=cl vs):=fun k=>by
  refine⟨zrF _ _,?_⟩
  unfold cl; rw[List.map_take]; exact zgK _ _
 have HE:Hid (vs.take ps.length=vs):=yq (by omega)
 clear hp hs hpv hl
 go_enter func97,ntmps97
 go_wp2_with fail
 refine (uh HP).mono ?_
 rintro e w1 ⟨v1,rfl,p1,b1⟩
 have P1:=zab p1
 have B1:=zab b1
 obtain⟨x,len,cap,rfl,hlen⟩ : ∃ x len cap,v1 = .slice x len cap/\len=ps.length:=by
  rcases p1.2 with ⟨hv,h0⟩ | ⟨g,cap,cur,hv,_⟩
  ·exact⟨_,_,_,hv,h0.symm⟩
  ·exact⟨_,_,_,hv,rfl⟩
 subst hlen
 clear HP p1 b1
 go_wp2_with fail
 go_loopw [5,6,7] (fun dv cv iv wr=>∃ k:Nat,k<=ps.length/\iv = .int .i64 (k:Int)/\dv = .int .i64 ((dl (vs.take k) : Nat) : Int)/\cv = .int .i64 ((cl (vs.take k) : Nat) : Int)/\Below w1.heap.size w1 wr) (fun _ _ iv _=>ps.length - (intOf iv).toNat)
 case atStart=>exact⟨0,yt _,rfl,rfl,rfl,yH _ _⟩
 case round=>
  obtain⟨k,hk,rfl,rfl,rfl,hb⟩:=hrel
  by_cases hlt:k < ps.length
  ·have hltI:(k:Int) < (ps.length:Int):=by omega
   obtain⟨g,cap',he,hgB,hgl,c0,c1⟩:=((uh P1).below hb).cells k hlt
   injection he with he1 he2 he3
   subst he1; subst he3
   obtain⟨dk,ck,e1,e2,hdk,hck,hcall⟩:=uh HALL k hlt
   obtain⟨x1,x2⟩:=uh HB1 k
   have HCALL:=zab (hcall wr)
   have HE1:=zab e1
   have HE2:=zab e2
   have HBW:=zab hb
   generalize dl (vs.take k)=D at *
   generalize cl (vs.take k)=C at *
   generalize zac ps[k].2=tx at *
   clear hb hcall e1 e2 c0 HALL HB1 P1
   by_cases hm:D < dk
   ·have tm:((D:Int) < (dk:Int))=True:=eq_true (by omega)
    have hmx:max D dk=dk:=by omega
    rw[hmx] at HE1
    clear hm hmx
    go_wp2_with fail
    refine (uh HCALL).mono ?_
    rintro e w2 ⟨rfl,b2⟩
    have B2:=zab ((uh HBW).trans (b2.mono (uh HBW).size))
    clear HCALL b2 c1
    go_wp2
    go_roundw
    case rel=>exact⟨k+1,by omega,by go_num,by rw[uh HE1],by rw[uh HE2]; go_num,uh B2⟩
    case measure=>simp[intOf]; omega
   ·have tm:((D:Int) < (dk:Int))=False:=yQ (by omega)
    have hmx:max D dk=D:=by omega
    rw[hmx] at HE1
    clear hm hmx
    go_wp2_with fail
    refine (uh HCALL).mono ?_
    rintro e w2 ⟨rfl,b2⟩
    have B2:=zab ((uh HBW).trans (b2.mono (uh HBW).size))
    clear HCALL b2 c1
    go_wp2
    go_roundw
    case rel=>exact⟨k+1,by omega,by go_num,by rw[uh HE1],by rw[uh HE2]; go_num,uh B2⟩
    case measure=>simp[intOf]; omega
  ·have hk':k=ps.length:=by omega
   subst hk'
   rw[uh HE]
   have B2:=zaa (uh B1) hb
   clear HALL HB1 P1 B1 hb
   go_wp2
   go_ret2
   exact⟨by first | rfl | go_num,B2⟩
mutual
def zc3:JV->Nat
 | .arr l=>zne l+1
 | .obj m=>zpB m+1
 | .nul=>0
 | .tt=>0
 | .ff=>0
 | .num _=>0
 | .str _=>0
def zne:JL->Nat
 | .nil=>0
 | .cons v r=>max (zc3 v) (zne r)
def zpB:JM->Nat
 | .nil=>0
 | .cons _ v r=>max (zc3 v) (zpB r)
end
mutual
theorem zkf:∀ v:JV,zc3 v<=zaY v
 | .nul=>yt _
 | .tt=>yt _
 | .ff=>yt _
 | .num _=>yt _
 | .str _=>yt _
 | .arr l=>by rw[zc3,zaY]; have:=zlK l; omega
 | .obj m=>by rw[zc3,zaY]; have:=zlL m; omega
theorem zlK:∀ l:JL,zne l<=zn4 l
 | .nil=>ye _
 | .cons v r=>by rw[zne,zn4]; have:=zlK r; have:=zkf v; omega
theorem zlL:∀ m:JM,zpB m<=zlV m
 | .nil=>ye _
 | .cons k v r=>by rw[zpB,zlV]; have:=zlL r; have:=zkf v; omega
end
def nst:List JV->Nat
 | []=>0
 | v :: r=>max (zc3 v) (nst r)
theorem ztV {a b:List JV} (h:a.Perm b) : nst a=nst b:=by
 induction h with
 | nil=>rfl
 | cons x _ ih=>simp[nst,ih]
 | swap x y l=>simp only[nst]; omega
 | trans _ _ h1 h2=>exact h1.trans h2
theorem zlM:∀ m:JM,zpB m=nst (m.toL.map (·.2))
 | .nil=>rfl
 | .cons k v r=>by rw[zpB,JM.toL,yi,nst,zlM r]
section
variable {T:ByteArray}
def InW (T:ByteArray) (t:List UInt8) (d:Nat) : Prop:=∀ op mo i m f r,op<=mo->T.data.toList.drop i=t++m->wiF T f op (max mo (op+d)) (i+t.length)=some r->∃ f',wiF T f' op mo i=some r
theorem InW.nil:InW T [] 0:=fun op mo _ _ f _ ho _ h=>⟨f,by rwa [show max mo (op+0)=mo by omega] at h⟩
theorem InW.app {a b:List UInt8} {d e:Nat} (ha:InW T a d) (hb:InW T b e) : InW T (a++b) (max d e):=fun op mo i m f r ho h he=>by
 rw[List.append_assoc] at h
 rw[yh,← Nat.add_assoc,show max mo (op+max d e)=max (max mo (op+d)) (op+e) by omega] at he
 obtain⟨f1,h1⟩:=hb op _ (i+a.length) m f r (by omega) (zaF h) he
 exact ha op mo i (b++m) f1 r ho h h1
theorem InW.one {c:UInt8} (hc:zek c) : InW T [c] 0:=fun op mo i m f r ho h he=>by
 obtain⟨hl,hb,_⟩:=zan h
 refine⟨f+1,?_⟩
 rw[wiF,yg hl,zbF hb hc.1,hb,zfA hc]
 exact he
theorem InW.plain:∀ {t:List UInt8},(∀ c∈t,zek c)->InW T t 0
 | [],_=>InW.nil
 | c :: _,h=>InW.app (a:=[c]) (d:=0) (e:=0) (InW.one (h c yp)) (InW.plain fun d hd=>h d (yv _ hd))
theorem InW.quoted {l:List UInt8} (hv:Lib.validD l=true) : InW T (Go.Proofs.YtekpghcckdjnhaaGreatDoor.quoted l) 0:=fun op mo i m f r ho h he=>by
 obtain⟨hl,hb,hn⟩:=zgf hv h
 refine⟨f+1,?_⟩
 rw[wiF,yg hl,hn,hb,zrs]
 exact he
theorem InW.wrap {t:List UInt8} {a b:UInt8} {d:Nat} (ha:ztA a.toNat=true) (hb:zvG b.toNat=true) (ht:InW T t d) : InW T (a :: (t++[b])) (d+1):=by
 have ha34:a.toNat≠34:=by intro e; rw[e] at ha; cases ha
 have hb34:b.toNat≠34:=by intro e; rw[e] at hb; cases hb
 have hbo:ztA b.toNat=false:=by
  simp only[zvG,Bool.or_eq_true,yC] at hb
  rcases hb with h | h <;> simp[ztA,h]
 intro op mo i m f r ho h he
 have h0:T.data.toList.drop i=a :: (t++(b :: m)):=by rw[h]; simp
 obtain⟨hl,hba,hd⟩:=zan h0
 obtain⟨hl2,hbb,hd2⟩:=zan (zaF hd)
 have e2:wiF T (f+1) (op+1) (max (max mo (op+1)) (op+1+d)) (i+1+t.length)=some r:=by
  rw[wiF,yg hl2,zbF hbb hb34,hbb]
  simp only[yA,op1,hbo,hb,if_true,Bool.false_eq_true,if_false]
  rw[yf (by omega)]
  simp only[yA,Nat.add_sub_cancel]
  rw[show i+1+t.length+1=i+(a :: (t++[b])).length by simp; omega,show max (max (max mo (op+1)) (op+1+d)) op=max mo (op+(d+1)) by omega]
  exact he
 obtain⟨f3,hf3⟩:=ht (op+1) _ (i+1) (b :: m) _ r (by omega) hd e2
 refine⟨f3+1,?_⟩
 rw[wiF,yg hl,zbF hba ha34,hba]
 simp only[yA,op1,ha,if_true]
 exact hf3
theorem zon:zek 44:=⟨by decide,by decide,by decide,by decide,by decide⟩
theorem ztW:zek 58:=⟨by decide,by decide,by decide,by decide,by decide⟩
mutual
theorem ctW:∀ v:JV,okV v->InW T (ct v) (zc3 v)
 | .nul,_=>InW.plain fun c hc=>((zcC (l:=[110,117,108,108]) (by simp)).2 c hc).1
 | .tt,_=>InW.plain fun c hc=>((zcC (l:=[116,114,117,101]) (by simp)).2 c hc).1
 | .ff,_=>InW.plain fun c hc=>((zcC (l:=[102,97,108,115,101]) (by simp)).2 c hc).1
 | .num l,h=>InW.plain fun c hc=>((zdn h).2 c hc).1
 | .str l,h=>by rw[okV] at h; exact InW.quoted h
 | .arr l,h=>by
  rw[okV] at h
  rw[zc3]
  refine InW.wrap rfl rfl ?_
  cases l with
  | nil=>exact InW.nil
  | cons v r=>
   rw[okL] at h
   exact InW.app (ctW v h.1) (zyF r h.2)
 | .obj m,h=>by
  rw[okV] at h
  rw[zc3]
  refine InW.wrap rfl rfl ?_
  have hm:=zyG m h
  obtain⟨qs,hq,he⟩:=zdQ (fun q:List UInt8×JV=>(q.1,ct q.2)) (zaq (ctM m)) m.toL (by rw[← zaK]; exact zap _)
  rw[← he,zlM,← ztV (hq.map (·.2))]
  have hall:∀ q∈qs,InW T (zav (q.1,ct q.2)) (zc3 q.2):=fun q hqm=>hm q (hq.subset hqm)
  clear hm he hq
  have hj:∀ qs:List (List UInt8×JV),(∀ q∈qs,InW T (zav (q.1,ct q.2)) (zc3 q.2))->InW T (joinT ((qs.map fun q=>(q.1,ct q.2)).map zav)) (nst (qs.map (·.2))):=by
   intro qs
   induction qs with
   | nil=>intro _; exact InW.nil
   | cons q r ih=>
    intro hh
    have:=InW.app (a:=[44]) (d:=0) (InW.one zon) (InW.app (hh q yp) (ih fun x hx=>hh x (yv _ hx)))
    rw[show max 0 (max (zc3 q.2) (nst (r.map (·.2))))=max (zc3 q.2) (nst (r.map (·.2))) by omega] at this
    exact this
  cases qs with
  | nil=>exact InW.nil
  | cons q r=>exact InW.app (hall q yp) (hj r fun x hx=>hall x (yv _ hx))
theorem zyF:∀ l:JL,okL l->InW T (joinT (ctL l)) (zne l)
 | .nil,_=>InW.nil
 | .cons v r,h=>by
  rw[okL] at h
  have:=InW.app (a:=[44]) (d:=0) (InW.one (T:=T) zon) (InW.app (ctW v h.1) (zyF r h.2))
  rw[show max 0 (max (zc3 v) (zne r))=max (zc3 v) (zne r) by omega] at this
  exact this
theorem zyG:∀ m:JM,okM m->∀ q∈m.toL,InW T (zav (q.1,ct q.2)) (zc3 q.2)
 | .nil,_,q,hq=>by simp[JM.toL] at hq
 | .cons k v r,h,q,hq=>by
  rw[okM] at h
  rw[JM.toL] at hq
  rcases List.mem_cons.1 hq with e | hq
  ·rw[e]
   have:=InW.app (InW.quoted (T:=T) h.1) (InW.app (a:=[58]) (d:=0) (InW.one ztW) (ctW v h.2.1))
   rw[show max 0 (max 0 (zc3 v))=zc3 v by omega] at this
   exact this
  ·exact zyG r h.2.2 q hq
end
end
theorem zyu (v:JV) (h:okV v) : ∃ f,wiF (zac (ct v)) f 0 0 0=some (zc3 v):=by
 refine ctW (T:=zac (ct v)) v h 0 0 0 [] 1 (zc3 v) (ye _) (by rw[zad]; simp) ?_
 rw[wiF,yf (by rw[zaf]; omega)]
 simp
theorem zoo:∀ (b:Nat) (cs:List (List UInt8)),(ze7 b cs).map (·.2)=cs
 | _,[]=>rfl
 | b,t :: r=>by simp[ze7,zoo (b+1) r]
theorem zb0 {c:UInt8} {r:List UInt8} : 0 < (zac (c :: r)).size/\bt (zac (c :: r)) 0=c.toNat:=by
 refine⟨by rw[zaf]; simp,?_⟩
 unfold bt; rw[zad]; rfl
theorem zdr (v:JV) (c:UInt8) (r:List UInt8) (hc:ct v=c :: r) (h1:c.toNat≠91) (h2:c.toNat≠123) (hd:zaY v=1) (hn:zaA v=1) : zom v:=by
 intro _ _ w
 rw[hd,hn]
 obtain⟨a,b⟩:=zb0 (c:=c) (r:=r)
 refine zgi (zac (ct v)) [] [] w rfl (by simp[cl]) (by simp[dl]) (by simp) ?_ (fun v hv=>by simp at hv)
 rw[hc]
 exact zi7 _ w a (by rw[b]; exact h1) (by rw[b]; exact h2)
mutual
theorem zr5:∀ v:JV,okV v->zom v
 | .nul,_=>zdr .nul 110 _ rfl (by decide) (by decide) rfl rfl
 | .tt,_=>zdr .tt 116 _ rfl (by decide) (by decide) rfl rfl
 | .ff,_=>zdr .ff 102 _ rfl (by decide) (by decide) rfl rfl
 | .num l,h=>by
  have hp:=zdn h
  cases l with
  | nil=>exact absurd rfl hp.1
  | cons c r=>
   have:=(hp.2 c yp).1
   exact zdr (.num (c :: r)) c r rfl this.2.1 this.2.2.1 rfl rfl
 | .str l,_=>zdr (.str l) 34 (qs l++[34]) rfl (by decide) (by decide) rfl rfl
 | .arr l,h=>by
  rw[okV] at h
  intro hlen hcn w
  have hs:=zuJ l h
  have hd:=(zeh (.arr l)).1
  have hct:(ct (.arr l)).length=hold (ctL l).length+nl (ctL l):=by
   show (mkA (ctL l)).length=_
   have:=zeJ (ctL l)
   simp[mkA]; omega
  have e1:zaY (.arr l)=dl l.toL+1:=by rw[zaY,ze5]
  have e2:zaA (.arr l)=cl l.toL+1:=by rw[zaA,zh1]
  rw[e1] at hd
  rw[e2] at hd hcn
  rw[e1,e2]
  refine zgi _ (ze7 0 (ctL l)) l.toL w (by rw[zoo,zaG]) (by omega) (by omega) (by rw[zcA]; unfold hold at hct; omega) (zlI l h w (by rw[zaf]; exact hlen)) (fun v hv=>?_)
  obtain⟨k,hk,rfl⟩:=List.getElem_of_mem hv
  have c1:zaA l.toL[k]<=cl l.toL:=by have:=zfE (l.toL.map zaA) k (by simpa using hk); simpa [cl] using this
  have n1:(ct l.toL[k]).length<=nl (ctL l):=by have:=zfE ((ctL l).map List.length) k (by rw[zaG]; simpa using hk); simpa [nl,zaG] using this
  exact hs _ hv (by omega) (by omega)
 | .obj m,h=>by
  rw[okV] at h
  intro hlen hcn w
  have hs:=zuK m h
  have hd:=(zeh (.obj m)).1
  have hct:=zbd m
  have e1:zaY (.obj m)=dl (m.toL.map (·.2))+1:=by rw[zaY,zdL]
  have e2:zaA (.obj m)=cl (m.toL.map (·.2))+1:=by rw[zaA,zdM]; simp[cl,Function.comp_def]
  obtain⟨qs,hq,he⟩:=zdQ (fun q:List UInt8×JV=>(q.1,ct q.2)) (zaq (ctM m)) m.toL (by rw[← zaK]; exact zap _)
  have hp2:=hq.map (·.2)
  rw[e1] at hd
  rw[e2] at hd hcn
  rw[e1,e2,← zr3 hp2,← zr4 hp2]
  have hml:(zaq (ctM m)).length=m.toL.length:=by rw[(zap _).length_eq,zaK,yl]
  refine zgi _ (zaq (ctM m)) (qs.map (·.2)) w (by rw[← he]; simp) (by rw[zr4 hp2]; omega) (by rw[zr3 hp2]; omega) (by unfold hold at hct; omega) (zlJ m h w (by rw[zaf]; exact hlen)) (fun v hv=>?_)
  obtain⟨q,hqm,rfl⟩:=yO.1 hv
  have hqm':=hq.subset hqm
  have c1:zaA q.2<=cl (m.toL.map (·.2)):=by
   have:=zdN (fun q=>zaA q.2) hqm'
   simpa [cl,Function.comp_def] using this
  have n1:=zdN zdT hqm'
  simp only[zdT] at n1
  exact hs q hqm' (by omega) (by omega)
theorem zuJ:∀ l:JL,okL l->∀ v∈l.toL,zom v
 | .nil,_,v,hv=>by simp[JL.toL] at hv
 | .cons x r,h,v,hv=>by
  rw[okL] at h
  rw[JL.toL] at hv
  rcases List.mem_cons.1 hv with e | hv
  ·rw[e]; exact zr5 x h.1
  ·exact zuJ r h.2 v hv
theorem zuK:∀ m:JM,okM m->∀ q∈m.toL,zom q.2
 | .nil,_,q,hq=>by simp[JM.toL] at hq
 | .cons k x r,h,q,hq=>by
  rw[okM] at h
  rw[JM.toL] at hq
  rcases List.mem_cons.1 hq with e | hq
  ·rw[e]; exact zr5 x h.2.1
  ·exact zuK r h.2.2 q hq
end
theorem znf (T:ByteArray) (r f d c:Nat) (w:World) (hT:T.size<=1000000) (h:wiF T f 0 0 0=some r) (hrd:r<=d) (hd:d<=1000000) (hc:c<=1000000) (q:Bool) (hq0:q=decide (d<=100/\c<=3000))
  (hs:∀ w:World,Calls prog 97 #[.string T] w fun e w'=>e = .returned (.tuple #[.int .i64 (d:Int),.int .i64 (c:Int)])/\Below w.heap.size w w') :
  Calls prog 51 #[.string T] w fun e w'=>e = .returned (.bool q)/\Below w.heap.size w w':=by
 have HQ0:=zab hq0
 clear hq0
 have HST:Hid (∀ (j:Nat) (w:World),j < T.size->Calls prog 85 #[.string T,.int .i64 j] w (zrB T w (zcM T j))):=fun j w hj=>zbv T j w (by omega) (by omega)
 have HSZ:=zab hs
 have H0:=zab h
 clear h hs
 go_enter func51,ntmps51
 go_wp2
 go_loopw [3,4,5] (fun ov mv iv wr=>∃ (op mo j g:Nat),ov = .int .i64 (op:Int)/\mv = .int .i64 (mo:Int)/\iv = .int .i64 (j:Int)/\j<=T.size/\op<=mo/\mo<=j/\wiF T g op mo j=some r/\Below w.heap.size w wr) (fun _ _ iv _=>T.size - (intOf iv).toNat)
 case atStart=>exact⟨0,0,0,f,rfl,rfl,rfl,yt _,ye _,ye _,uh H0,yH _ _⟩
 case round=>
  obtain⟨op,mo,j,g,rfl,rfl,rfl,hj,hop,hmo,hg,bw⟩:=hrel
  clear H0
  obtain⟨g,rfl⟩ : ∃ g',g=g'+1:=by cases g with
   | zero=>simp[wiF] at hg
   | succ g=>exact⟨g,rfl⟩
  rw[wiF] at hg
  by_cases hl:j < T.size
  ·rw[yg hl] at hg
   have hltI:(j:Int) < (T.size:Int):=by omega
   have hb:=zas T j hl
   obtain⟨n,hn,o,ho,hz⟩ : ∃ j2,nxt T j=some j2/\∃ o,op1 (bt T j) op=some o/\wiF T g o (max mo o) j2=some r:=by
    cases hn:nxt T j with
    | none=>rw[hn] at hg; simp at hg
    | some j2=>
     rw[hn] at hg
     simp only[yA] at hg
     cases ho:op1 (bt T j) op with
     | none=>rw[ho] at hg; simp at hg
     | some o=>rw[ho] at hg; exact⟨j2,rfl,o,rfl,by simpa using hg⟩
   clear hg
   have hnj:=zuu hn hl
   have hnT:=hnj.2
   have hjn:=hnj.1
   obtain⟨hns,hnq⟩:=zlt hn
   have HB:=zab bw
   clear hn hnj bw HSZ
   obtain⟨x,hx⟩ : ∃ x,bt T j=x:=⟨_,rfl⟩
   have f34:((T[j].toNat:Int) == 34)=decide (x=34):=bI (hb ▸ hx) 34
   have f91:((T[j].toNat:Int) == 91)=decide (x=91):=bI (hb ▸ hx) 91
   have f123:((T[j].toNat:Int) == 123)=decide (x=123):=bI (hb ▸ hx) 123
   have f93:((T[j].toNat:Int) == 93)=decide (x=93):=bI (hb ▸ hx) 93
   have f125:((T[j].toNat:Int) == 125)=decide (x=125):=bI (hb ▸ hx) 125
   have hoj:=zxx ho
   obtain⟨mx,hmx,hm1⟩ : ∃ m,max mo o=m/\(mo < o/\m=o∨¬ mo < o/\m=mo):=⟨_,rfl,by omega⟩
   rw[hmx] at hz
   have HZ:=zab hz
   clear hz hmx
   rw[hx] at hns hnq ho
   by_cases c34:x=34
   ·subst c34
    obtain⟨l,hq⟩:=hnq rfl
    obtain rfl:op=o:=by injection ho
    have HSJ:=zab (uh HST j wr hl)
    rw[hq] at HSJ
    obtain rfl:mx=mo:=by omega
    have tm:¬ (mx:Int) < (op:Int):=by omega
    clear hnq hns hq hb hx HST ho hm1
    go_wp2_with fail
    refine (uh HSJ).mono ?_
    rintro e w2 ⟨b2,rfl⟩
    have HB2:=zab (zaa (uh HB) b2)
    clear HSJ b2
    go_wp2
    go_roundw
    case rel=>exact⟨op,mx,n,g,by go_num,by go_num,by go_num,hnT,by omega,by omega,uh HZ,uh HB2⟩
    case measure=>simp[intOf]; omega
   ·have hnI:(j:Int)+1=(n:Int):=by have:=hns c34; omega
    have hcs:=zj6 ho
    clear hnq hns hb hx HST ho
    rcases hcs with ⟨rfl,hoI⟩ | ⟨rfl,hoI⟩ | ⟨rfl,hoI⟩ | ⟨rfl,hoI⟩ | ⟨c1,c2,c3,c4,hoI⟩
    all_goals (
     rcases hm1 with ⟨hm,hme⟩ | ⟨hm,hme⟩
     ·have tm:(mo:Int) < (o:Int):=by omega
      subst hme
      go_wp2
      all_goals (
       go_roundw
       case rel=>exact⟨_,_,n,g,by go_num,by go_num,by go_num,hnT,by omega,by omega,uh HZ,uh HB⟩
       case measure=>simp[intOf]; omega)
     ·have tm:¬ (mo:Int) < (o:Int):=by omega
      subst hme
      go_wp2
      all_goals (
       go_roundw
       case rel=>exact⟨_,_,n,g,by go_num,by go_num,by go_num,hnT,by omega,by omega,uh HZ,uh HB⟩
       case measure=>simp[intOf]; omega))
  ·rw[yf hl] at hg
   injection hg with hg
   subst hg
   have HB:=zab bw
   have tl:¬ (j:Int) < (T.size:Int):=by omega
   clear bw HST
   by_cases hm:100 < mo
   ·have tm:(100:Int) < (mo:Int):=by omega
    have HF:Hid (q=false):=zab (by rw[uh HQ0,decide_eq_false_iff_not]; omega)
    clear hm HSZ
    go_wp2
    go_ret
    exact⟨by rw[uh HF]; rfl,uh HB⟩
   ·have tm:¬ (100:Int) < (mo:Int):=by omega
    have HC:=zab (uh HSZ wr)
    clear hm HSZ
    by_cases h1:d<=100
    ·have t1:((d:Int)<=100)=True:=eq_true (by omega)
     have s1:decide ((d:Int)<=100)=true:=yj (by omega)
     by_cases h2:c<=3000
     ·have t2:((c:Int)<=3000)=True:=eq_true (by omega)
      have s2:decide ((c:Int)<=3000)=true:=yj (by omega)
      have HF:Hid (q=true):=zab (by rw[uh HQ0,decide_eq_true_iff]; exact⟨h1,h2⟩)
      clear h1 h2
      go_wp2_with fail
      refine (uh HC).mono ?_
      rintro e w2 ⟨rfl,b2⟩
      have B2:=zaa (uh HB) b2
      clear HC
      go_wp2
      go_ret
      exact⟨by rw[uh HF]; rfl,B2⟩
     ·have t2:((c:Int)<=3000)=False:=yQ (by omega)
      have s2:decide ((c:Int)<=3000)=false:=yk (by omega)
      have HF:Hid (q=false):=zab (by rw[uh HQ0,decide_eq_false_iff_not]; omega)
      clear h1 h2
      go_wp2_with fail
      refine (uh HC).mono ?_
      rintro e w2 ⟨rfl,b2⟩
      have B2:=zaa (uh HB) b2
      clear HC
      go_wp2
      go_ret
      exact⟨by rw[uh HF]; rfl,B2⟩
    ·have t1:((d:Int)<=100)=False:=yQ (by omega)
     have s1:decide ((d:Int)<=100)=false:=yk (by omega)
     have HF:Hid (q=false):=zab (by rw[uh HQ0,decide_eq_false_iff_not]; omega)
     clear h1
     go_wp2_with fail
     refine (uh HC).mono ?_
     rintro e w2 ⟨rfl,b2⟩
     have B2:=zaa (uh HB) b2
     clear HC
     go_wp2
     go_ret
     exact⟨by rw[uh HF]; rfl,B2⟩
theorem zlN (v:JV) (hok:okV v) (w:World) (hl:(ct v).length<=1000000) (hc:zaA v<=1000000) :
  Calls prog 51 #[.string (zac (ct v))] w fun e w'=>e = .returned (.bool (decide (zaY v<=100/\zaA v<=3000)))/\Below w.heap.size w w':=by
 obtain⟨f,hf⟩:=zyu v hok
 have hd:=(zeh v).1
 exact znf _ (zc3 v) f (zaY v) (zaA v) w (by rw[zaf]; exact hl) hf (zkf v) (by omega) hc _ rfl (fun w=>zr5 v hok hl hc w)
theorem zop (x:List UInt8) : ∀ l:List (List UInt8),(zh5 x l).length<=l.length+1
 | []=>by simp[zh5]
 | y :: r=>by
  rw[zh5]
  split
  ·have:=zop x r; simp; omega
  ·split <;> simp
theorem zi8 (l:List (List UInt8)) (x:List UInt8) : zcf (l++[x])=zh5 x (zcf l):=by
 unfold zcf; rw[List.foldl_append]; rfl
theorem zlO:∀ (n:Nat) (l:List (List UInt8)),l.length=n->(zcf l).length<=n:=by
 intro n
 induction n with
 | zero=>intro l h; rw[yN h]; simp[zcf]
 | succ n ih=>
  intro l h
  rcases List.eq_nil_or_concat l with rfl | ⟨a,x,rfl⟩
  ·simp at h
  ·rw[List.concat_eq_append] at h ⊢
   rw[zi8]
   have h1:=zop x (zcf a)
   have h2:=ih a (by simpa using h)
   omega
theorem zr6 (x:List UInt8) : ∀ (A:List (List UInt8)) (j:Nat),(∀ i (h:i < A.length),i < j->A[i] < x)->(h:j < A.length)->¬ A[j] < x->zh5 x A=if A[j]=x then A else A.take j++x :: A.drop j
 | y :: r,0,_,_,hn=>by
  have hn':¬ y < x:=hn
  rw[zh5,yf hn']
  show _=if y=x then _ else _
  split <;> rfl
 | y :: r,j+1,hA,h,hn=>by
  have h0:y < x:=hA 0 (by simp) (by omega)
  have ih:=zr6 x r j (fun i hi hij=>hA (i+1) (by simpa using hi) (by omega)) (by simpa using h) hn
  rw[zh5,yg h0,ih]
  show _=if r[j]'(by simpa using h)=x then _ else _
  split <;> rfl
theorem zoq (x:List UInt8) : ∀ (A:List (List UInt8)),(∀ i (h:i < A.length),A[i] < x)->zh5 x A=A++[x]
 | [],_=>rfl
 | y :: r,h=>by
  have h0:y < x:=h 0 (by simp)
  rw[zh5,yg h0,zoq x r (fun i hi=>h (i+1) (by simpa using hi))]
  rfl
theorem zv5 {a b:List UInt8} (h:a < b) : Op.bytesLess (zac a).toList (zac b).toList=true:=by
 rw[bytesLess_eq,ByteArray.toList_eq,ByteArray.toList_eq,zad,zad]; exact yj h
theorem ztX {a b:List UInt8} (h:¬ a < b) : Op.bytesLess (zac a).toList (zac b).toList=false:=by
 rw[bytesLess_eq,ByteArray.toList_eq,ByteArray.toList_eq,zad,zad]; exact yk h
def OTs (w:World) (B:Nat) (v:Value) (ts:List (List UInt8)) : Prop:=OT w B v ts/\∃ g cap,v = .slice (some ⟨g,0,none⟩) ts.length cap/\B<=g/\g < w.heap.size/\ts.length<=cap/\∀ j u,(ts.map zaW)[j]?=some u->w.cell? ⟨g,j,none⟩=some u
theorem OTs.of {w:World} {B:Nat} {v:Value} {ts:List (List UInt8)} (h:OT w B v ts) (hn:v≠.slice none 0 0) : OTs w B v ts:=by
 refine⟨h,?_⟩
 rcases h.2 with ⟨hv,_⟩ | ⟨g,cap,cur,hv,hB,hg,hle,_⟩
 ·exact absurd hv hn
 ·subst hv
  refine⟨g,cap,rfl,hB,(yB.1 hg).1,hle,fun j u hj=>?_⟩
  have:=World.ownsRow.cells h rfl j u hj
  rwa [show ((⟨g,0,none⟩ : Addr).add j)=⟨g,j,none⟩ from by simp[Addr.add]; omega] at this
theorem zr7 {ts:List (List UInt8)} {j:Nat} (h:j < ts.length) : (ts.map zaW)[j]?=some (.string (zac ts[j])):=by
 rw[List.getElem?_map,yx h]; rfl
theorem zlP {A:List (List UInt8)} {j i:Nat} {u:Value} (h:((A.take j).map zaW)[i]?=some u) : (A.map zaW)[i]?=some u:=by
 rw[List.map_take] at h
 rw[List.getElem?_take] at h
 split at h
 ·exact h
 ·cases h
theorem zlQ {A:List (List UInt8)} {j i:Nat} {u:Value} (h:((A.drop j).map zaW)[i]?=some u) : (A.map zaW)[j+i]?=some u:=by
 rwa [List.map_drop,List.getElem?_drop] at h
theorem zfM (ts:List (List UInt8)) : ∀ u∈ts.map zaW,u.oneCell'=true:=by
 intro u hu; obtain⟨t,_,rfl⟩:=yO.1 hu; rfl
theorem zr8 {B:Nat} (v:Value) (ts:List (List UInt8)) (w:World) (h:OT w B v ts) (hn:ts.length<=1000000) :
  Calls prog 70 #[v] w fun e w'=>∃ r,e = .returned r/\OT w' w.heap.size r (zcf ts)/\Below w.heap.size w w':=by
 obtain⟨i0,hi,hz0,hz1,hz2⟩:=info_parts zfR
 obtain⟨a,g0,cap0,rfl,hs,_⟩:=h.shape
 have hadr:=hs.ad
 have HC:=zab hs.cell
 rw[yl] at hadr
 simp only[yl] at HC
 clear h hs
 have HO0:Hid (OTs (w.alloc (.cells #[] 9)) w.heap.size (.slice (some ⟨w.heap.size,0,none⟩) 0 0) []):=OTs.of (World.ownsRow_lit w #[] 0 (ye _) (by unfold maxLen; omega) rfl) (by intro e; cases e)
 have HB0:Hid (Below w.heap.size w (w.alloc (.cells #[] 9))):=(yH _ _).alloc (ye _) _
 go_enter func70,ntmps70
 go_wp2_with fail
 go_loopw [3,4] (fun u i wr=>∃ k:Nat,k<=ts.length/\i = .int .i64 (k:Int)/\OTs wr w.heap.size u (zcf (ts.take k))/\Below w.heap.size w wr) (fun _ i _=>ts.length - (intOf i).toNat)
 case atStart=>exact⟨0,yt _,rfl,uh HO0,uh HB0⟩
 case round=>
  obtain⟨k,hk,rfl,ho,hb⟩:=hrel
  clear HO0 HB0
  have hAl:(zcf (ts.take k)).length<=1000000:=by
   have:=zlO k (ts.take k) (by rw[ym]; omega)
   omega
  by_cases hlt:k < ts.length
  ·have hltI:(k:Int) < (ts.length:Int):=by omega
   obtain rfl:=hadr (by omega)
   have hck0:=uh HC k hlt
   have hg0:g0 < w.heap.size:=yJ _ _ hck0
   have hgd:(ts.map baT).getD k ByteArray.empty=zac ts[k]:=by simp[List.getD,hlt,baT,zac]
   rw[hgd,Nat.zero_add] at hck0
   have HCK:Hid (∀ X:World,Below w.heap.size w X->X.cell? ⟨g0,k,none⟩=some (.string (zac ts[k]))):=fun X hX=>(hX.cell (p:=⟨g0,k,none⟩) hg0).trans hck0
   have HS:Hid (zcf (ts.take (k+1))=zh5 ts[k] (zcf (ts.take k))):=by
    show _=_
    rw[yy hlt,zi8]
   obtain⟨hO,g,cap,rfl,hgB,hgl,hcap,hcell⟩:=ho
   have HO:=zab hO
   have HCELL:=zab hcell
   have HB:=zab hb
   generalize ts[k]=x at *
   generalize zcf (ts.take k)=A at *
   clear HC hck0 hgd hO hcell hb
   go_wp2_with fail
   go_loopw [5] (fun p wx=>∃ j:Nat,j<=A.length/\p = .int .i64 (j:Int)/\OT wx w.heap.size (.slice (some ⟨g,0,none⟩) A.length cap) A/\Below w.heap.size w wx/\∀ i (h:i < A.length),i < j->A[i] < x) (fun p _=>A.length - (intOf p).toNat)
   case atStart=>exact⟨0,yt _,rfl,uh HO,uh HB,fun i _ h=>by omega⟩
   case round=>
    obtain⟨j,hj,rfl,hox,hbx,hall⟩:=hrel
    have HALL:=zab hall
    have HOX:=zab hox
    have HBX:=zab hbx
    have HCX:Hid (∀ (X:World),OT X w.heap.size (.slice (some ⟨g,0,none⟩) A.length cap) A->g < X.heap.size/\∀ i u,(A.map zaW)[i]?=some u->X.cell? ⟨g,i,none⟩=some u):=fun X hX=>by
     obtain⟨_,g',cap',he,_,h2,_,h3⟩:=OTs.of hX (by intro e; cases e)
     injection he with he1 _ _
     injection he1 with he1
     injection he1 with he1
     subst he1
     exact⟨h2,h3⟩
    have ck:=uh HCK _ hbx
    clear hall hox hbx HO HB
    by_cases hjl:j < A.length
    ·have hjI:(j:Int) < (A.length:Int):=by omega
     have cj:=(uh HCX _ (uh HOX)).2 j _ (zr7 hjl)
     by_cases hax:A[j] < x
     ·have hless:=zv5 hax
      have HA2:Hid (∀ i (h:i < A.length),i < j+1->A[i] < x):=fun i hi hij=>by
       by_cases e:i=j
       ·subst e; exact hax
       ·exact uh HALL i hi (by omega)
      clear hax HALL
      generalize A[j]=y at *
      go_wp2_with fail
      go_quiet (fail)
      go_wp2
      go_roundw
      case rel=>exact⟨j+1,by omega,by go_num,uh HOX,za4 (uh HBX) _,uh HA2⟩
      case measure=>simp[intOf]; omega
     ·have hless:=ztX hax
      have HIN0:=zab (zr6 x A j (uh HALL) hjl hax)
      have heq:=zi0 A[j] x
      clear hax HALL
      by_cases hex:A[j]=x
      ·have t2:(A[j] == x)=true:=by rw[yC]; exact hex
       rw[t2] at heq
       have HIN:Hid (zh5 x A=A):=by show _=_; rw[uh HIN0,yg hex]
       clear hex t2 HIN0
       generalize A[j]=y at *
       go_wp2_with fail
       go_quiet (fail)
       go_wp2_with fail
       go_quiet (fail)
       go_wp2
       exact⟨⟨k+1,by omega,by go_num,by rw[uh HS,uh HIN]; exact OTs.of (uh HOX) (by intro e; cases e),za4 (uh HBX) _⟩,by simp[intOf]; omega⟩
      ·have t2:(A[j] == x)=false:=by rw[yd]; exact hex
       rw[t2] at heq
       have HIN:Hid (zh5 x A=A.take j++x :: A.drop j):=by show _=_; rw[uh HIN0,yf hex]
       clear hex t2 HIN0
       generalize A[j]=y at *
       go_wp2_with fail
       go_quiet (fail)
       have HO1:Hid (OT (wr.drewN nq) w.heap.size (.slice (some ⟨g,0,none⟩) A.length cap) A):=uh HOX
       have HB1:Hid (Below w.heap.size w (wr.drewN nq)):=za4 (uh HBX) _
       have ck1:(wr.drewN nq).cell? ⟨g0,k,none⟩=some (.string (zac x)):=ck
       have cj1:(wr.drewN nq).cell? ⟨g,j,none⟩=some (.string (zac y)):=cj
       clear cj
       clear HOX HBX ck
       generalize wr.drewN nq=W1 at *
       go_wp2_with fail
       go_quiet (fail)
       have HOW:Hid (OT (W1.drewN nq) w.heap.size (.slice (some ⟨g,0,none⟩) A.length cap) A):=uh HO1
       have HBW:Hid (Below w.heap.size w (W1.drewN nq)):=za4 (uh HB1) _
       clear HO1 HB1 ck1 cj1
       generalize W1.drewN nq=W at *
       have hgW:=(uh HCX W (uh HOW)).1
       have HCW:=zab (uh HCX W (uh HOW)).2
       -- the insertion
       have bW:=(uh HBW)
       have hWs:=bW.size
       have cx:=uh HCK W bW
       have own0:(W.alloc (.cells #[] 9)).ownsRow W.heap.size 9 1 (.slice (some ⟨W.heap.size,0,none⟩) 0 0) 0 []:=World.ownsRow_lit W #[] 0 (ye _) (by unfold maxLen; omega) rfl
       have HW0:Hid (Below W.heap.size W (W.alloc (.cells #[] 9))):=(yH _ _).alloc (ye _) _
       have HGL:Hid (g < W.heap.size):=hgW
       have HG0:Hid (g0 < W.heap.size):=by show _ < _; omega
       clear bW
       go_wp2_with (at_builtin; refine wpList_append_own _ rfl (.tmp 47) (.tmp 50) 55 rfl W.heap.size 9 i0 (.string ByteArray.empty) 1 16 underlying55 hi hz0 hz1 hz2 rfl (by decide) _ _ _ rfl own0 ⟨g,0,none⟩ j cap ((A.take j).map zaW) rfl (by rw[yl,ym]; omega) (fun i u hu=>by { rw[show ((⟨g,0,none⟩ : Addr).add i)=⟨g,i,none⟩ from by simp[Addr.add]; omega]; exact ((uh HW0).cell (p:=⟨g,i,none⟩) (uh HGL)).trans (uh HCW i u (zlP hu)) }) (zfM _) (by unfold maxLen; omega) (by omega) (by simp) ?_)
       intro v1 w1 own1 hg1 _
       have B1:Hid (Below W.heap.size W w1):=(uh HW0).grown hg1 (by simp) (fun k hk=>(own0.lt k hk).1)
       have c1:=((uh B1).cell (p:=⟨g0,k,none⟩) (uh HG0)).trans cx
       have hw1:=(uh B1).size
       clear own0 hg1 HW0 cx
       go_wp2_with (at_builtin; refine wpList_append_own _ rfl (.tmp 52) (.tmp 57) 55 rfl W.heap.size 9 i0 (.string ByteArray.empty) 1 16 underlying55 hi hz0 hz1 hz2 rfl (by decide) _ _ _ rfl (own1.alloc _) ⟨w1.heap.size,0,none⟩ 1 1 [.string (zac x)] rfl rfl (zlZ _ _ _) (zgU _) (by unfold maxLen; omega) (by omega) (by simp; omega) ?_)
       intro v2 w2 own2 hg2 nn2
       have B2:Hid (Below W.heap.size W w2):=((uh B1).alloc hw1 _).grown hg2 (by simp; omega) (fun k hk=>(own1.lt k hk).1)
       have hw2:=(uh B2).size
       have HN2:Hid (v2≠.slice none 0 0):=nn2
       clear own1 hg2 nn2 B1 c1
       go_wp2_with (at_builtin; refine wpList_append_own _ rfl (.tmp 59) (.tmp 62) 55 rfl W.heap.size 9 i0 (.string ByteArray.empty) 1 16 underlying55 hi hz0 hz1 hz2 rfl (by decide) _ _ _ rfl own2 ⟨g,j,none⟩ (A.length - j) (cap - j) ((A.drop j).map zaW) (by first | rfl | (simp; omega)) (by rw[yl,yu]; omega) (fun i u hu=>by { rw[show ((⟨g,j,none⟩ : Addr).add i)=⟨g,j+i,none⟩ from by simp[Addr.add]]; exact ((uh B2).cell (p:=⟨g,j+i,none⟩) (uh HGL)).trans (uh HCW (j+i) u (zlQ hu)) }) (zfM _) (by unfold maxLen; omega) (by omega) (by omega) ?_)
       intro v3 w3 own3 hg3 nn3
       have B3:Hid (Below w.heap.size w w3):=(uh HBW).trans (((uh B2).grown hg3 hw2 (fun k hk=>(own2.lt k hk).1)).mono hWs)
       have O3:Hid (OTs w3 w.heap.size v3 (zcf (ts.take (k+1)))):=by
        refine OTs.of (zaC ?_ hWs) (fun e=>uh HN2 (nn3.1 e).1)
        rw[uh HS,uh HIN,yh,yw,yn,yi,ym,yu,show min j A.length+(A.length - j+1)=0+j+1+(A.length - j) from by omega]
        have et:zaW x = .string (zac x):=rfl
        simpa [et] using own3
       clear own3 hg3 nn3 own2 B2
       go_wp2
       exact⟨⟨k+1,by omega,by go_num,uh O3,uh B3⟩,by simp[intOf]; omega⟩
    ·have hjI:¬ (j:Int) < (A.length:Int):=by omega
     have hjE:j=A.length:=by omega
     have HIN:Hid (zh5 x A=A.take j++x :: A.drop j):=by
      show _=_
      rw[zoq x A (fun i hi=>uh HALL i hi (by omega)),yq (by omega),List.drop_of_length_le (by omega)]
     clear HALL hjE
     go_wp2_with fail
     go_quiet (fail)
     have HO1:Hid (OT (wr.drewN nq) w.heap.size (.slice (some ⟨g,0,none⟩) A.length cap) A):=uh HOX
     have HB1:Hid (Below w.heap.size w (wr.drewN nq)):=za4 (uh HBX) _
     have ck1:(wr.drewN nq).cell? ⟨g0,k,none⟩=some (.string (zac x)):=ck
     clear HOX HBX ck
     generalize wr.drewN nq=W1 at *
     go_wp2_with fail
     go_quiet (fail)
     have HOW:Hid (OT (W1.drewN nq) w.heap.size (.slice (some ⟨g,0,none⟩) A.length cap) A):=uh HO1
     have HBW:Hid (Below w.heap.size w (W1.drewN nq)):=za4 (uh HB1) _
     clear HO1 HB1 ck1
     generalize W1.drewN nq=W at *
     have hgW:=(uh HCX W (uh HOW)).1
     have HCW:=zab (uh HCX W (uh HOW)).2
     -- the insertion
     have bW:=(uh HBW)
     have hWs:=bW.size
     have cx:=uh HCK W bW
     have own0:(W.alloc (.cells #[] 9)).ownsRow W.heap.size 9 1 (.slice (some ⟨W.heap.size,0,none⟩) 0 0) 0 []:=World.ownsRow_lit W #[] 0 (ye _) (by unfold maxLen; omega) rfl
     have HW0:Hid (Below W.heap.size W (W.alloc (.cells #[] 9))):=(yH _ _).alloc (ye _) _
     have HGL:Hid (g < W.heap.size):=hgW
     have HG0:Hid (g0 < W.heap.size):=by show _ < _; omega
     clear bW
     go_wp2_with (at_builtin; refine wpList_append_own _ rfl (.tmp 47) (.tmp 50) 55 rfl W.heap.size 9 i0 (.string ByteArray.empty) 1 16 underlying55 hi hz0 hz1 hz2 rfl (by decide) _ _ _ rfl own0 ⟨g,0,none⟩ j cap ((A.take j).map zaW) rfl (by rw[yl,ym]; omega) (fun i u hu=>by { rw[show ((⟨g,0,none⟩ : Addr).add i)=⟨g,i,none⟩ from by simp[Addr.add]; omega]; exact ((uh HW0).cell (p:=⟨g,i,none⟩) (uh HGL)).trans (uh HCW i u (zlP hu)) }) (zfM _) (by unfold maxLen; omega) (by omega) (by simp) ?_)
     intro v1 w1 own1 hg1 _
     have B1:Hid (Below W.heap.size W w1):=(uh HW0).grown hg1 (by simp) (fun k hk=>(own0.lt k hk).1)
     have c1:=((uh B1).cell (p:=⟨g0,k,none⟩) (uh HG0)).trans cx
     have hw1:=(uh B1).size
     clear own0 hg1 HW0 cx
     go_wp2_with (at_builtin; refine wpList_append_own _ rfl (.tmp 52) (.tmp 57) 55 rfl W.heap.size 9 i0 (.string ByteArray.empty) 1 16 underlying55 hi hz0 hz1 hz2 rfl (by decide) _ _ _ rfl (own1.alloc _) ⟨w1.heap.size,0,none⟩ 1 1 [.string (zac x)] rfl rfl (zlZ _ _ _) (zgU _) (by unfold maxLen; omega) (by omega) (by simp; omega) ?_)
     intro v2 w2 own2 hg2 nn2
     have B2:Hid (Below W.heap.size W w2):=((uh B1).alloc hw1 _).grown hg2 (by simp; omega) (fun k hk=>(own1.lt k hk).1)
     have hw2:=(uh B2).size
     have HN2:Hid (v2≠.slice none 0 0):=nn2
     clear own1 hg2 nn2 B1 c1
     rcases Nat.lt_or_ge j cap with hjc | hjc
     ·have hjc1:¬ cap<=j:=by omega
      go_wp2_with (at_builtin; refine wpList_append_own _ rfl (.tmp 59) (.tmp 62) 55 rfl W.heap.size 9 i0 (.string ByteArray.empty) 1 16 underlying55 hi hz0 hz1 hz2 rfl (by decide) _ _ _ rfl own2 ⟨g,j,none⟩ (A.length - j) (cap - j) ((A.drop j).map zaW) (by first | rfl | (simp; omega)) (by rw[yl,yu]; omega) (fun i u hu=>by { rw[show ((⟨g,j,none⟩ : Addr).add i)=⟨g,j+i,none⟩ from by simp[Addr.add]]; exact ((uh B2).cell (p:=⟨g,j+i,none⟩) (uh HGL)).trans (uh HCW (j+i) u (zlQ hu)) }) (zfM _) (by unfold maxLen; omega) (by omega) (by omega) ?_)
      intro v3 w3 own3 hg3 nn3
      have B3:Hid (Below w.heap.size w w3):=(uh HBW).trans (((uh B2).grown hg3 hw2 (fun k hk=>(own2.lt k hk).1)).mono hWs)
      have O3:Hid (OTs w3 w.heap.size v3 (zcf (ts.take (k+1)))):=by
       refine OTs.of (zaC ?_ hWs) (fun e=>uh HN2 (nn3.1 e).1)
       rw[uh HS,uh HIN,yh,yw,yn,yi,ym,yu,show min j A.length+(A.length - j+1)=0+j+1+(A.length - j) from by omega]
       have et:zaW x = .string (zac x):=rfl
       simpa [et] using own3
      clear own3 hg3 nn3 own2 B2
      go_wp2
      exact⟨⟨k+1,by omega,by go_num,uh O3,uh B3⟩,by simp[intOf]; omega⟩
     ·obtain rfl:j=cap:=by omega
      go_wp2_with (at_builtin; refine wpList_append_own _ rfl (.tmp 59) (.tmp 62) 55 rfl W.heap.size 9 i0 (.string ByteArray.empty) 1 16 underlying55 hi hz0 hz1 hz2 rfl (by decide) _ _ _ rfl own2 _ _ _ ((A.drop j).map zaW) rfl (by rw[yl,yu]; omega) (fun i u hu=>by { rw[List.drop_of_length_le (by omega)] at hu; simp at hu }) (zfM _) (by unfold maxLen; omega) (by omega) (by omega) ?_)
      intro v3 w3 own3 hg3 nn3
      have B3:Hid (Below w.heap.size w w3):=(uh HBW).trans (((uh B2).grown hg3 hw2 (fun k hk=>(own2.lt k hk).1)).mono hWs)
      have O3:Hid (OTs w3 w.heap.size v3 (zcf (ts.take (k+1)))):=by
       refine OTs.of (zaC ?_ hWs) (fun e=>uh HN2 (nn3.1 e))
       rw[uh HS,uh HIN,yh,yw,yn,yi,ym,yu,show min j A.length+(A.length - j+1)=j+1 from by omega]
       have et:zaW x = .string (zac x):=rfl
       simpa [et] using own3
      clear own3 hg3 nn3 own2 B2
      go_wp2
      exact⟨⟨k+1,by omega,by go_num,uh O3,uh B3⟩,by simp[intOf]; omega⟩
  ·have e:ts.take k=ts:=yq (by omega)
   rw[e] at ho
   have HO:=zab ho.1
   have HB:=zab hb
   clear ho hb e HC
   go_wp2
   go_ret
   exact⟨_,rfl,uh HO,uh HB⟩
theorem PR.shape {w:World} {B:Nat} {v:Value} {ps:List za3} (h:PR w B v ps) : ∃ x cap,v = .slice x ps.length cap:=by
 rcases h.2 with ⟨hv,h0⟩ | ⟨g,cap,cur,hv,_⟩
 ·exact⟨none,0,by rw[hv,h0]⟩
 ·exact⟨_,_,hv⟩
end Go.Proofs.YtekpghcckdjnhaaGreatDoor
