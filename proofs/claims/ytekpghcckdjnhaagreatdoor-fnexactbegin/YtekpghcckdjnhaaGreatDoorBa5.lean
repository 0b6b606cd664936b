import Derived.Test.YtekpghcckdjnhaaGreatDoorBa3
import Derived.Test.YtekpghcckdjnhaaGreatDoorBa4
import Derived.Deep.RegionHeld3
set_option maxRecDepth 100000
set_option maxHeartbeats 8000000
namespace Go.Proofs.YtekpghcckdjnhaaGreatDoor
open Go.RowKit Go.Proofs.Tryz
theorem zeb (w:World) (n:Nat) : Below w.heap.size w (w.drewN n):=⟨rfl,rfl,rfl,ye _,fun _ _=>rfl⟩
theorem zbt.len {α:Type} {e:zsb α} {w:World} {v:Value} {xs:List α} {bl:List Nat} (h:zbt e w v xs bl) : xs.length<=maxLen:=by
 obtain⟨ps,hl,hE,ho,_⟩:=h
 rcases ho.2 with ⟨hv,h0⟩ | ⟨g,cap,cur,hv,_,_,h1,h2,_⟩
 ·omega
 ·omega
theorem zpe (v v':Value) (ss:List ByteArray) (bl bl':List Nat) (w:World) (h:zmc w v ss bl) (k:zmc w v' ss bl') :
  Calls prog 106 #[v,v'] w fun e w'=>e = .returned (.bool true)/\Below w.heap.size w w':=by
 obtain⟨a,g,cap,rfl,hs⟩:=h.ss
 obtain⟨a',g',cap',rfl,ks⟩:=k.ss
 refine (zvk a a' g 0 cap g' 0 cap' ss w hs ks (by have:=h.len; unfold maxLen at this; omega)).mono ?_
 rintro e w' ⟨rfl,n,rfl⟩
 exact⟨rfl,zeb w n⟩
structure zyS (w:World) (a b:Obj) (w':World) : Prop where
 bel:Below w.heap.size w w'
 size:w'.heap.size=w.heap.size+1+1
 k0:w'.heap[w.heap.size]?=some a
 k1:w'.heap[w.heap.size+1]?=some b
theorem zsd (w:World) (a b:Obj) : zyS w a b ((w.alloc a).alloc b):=by
 refine⟨zaa (zag w _) (zag _ _),by simp,?_,?_⟩
 ·exact ((zag _ b).block _ (by simp)).trans (yG w a)
 ·have:=yG (w.alloc a) b
  rw[show (w.alloc a).heap.size=w.heap.size+1 from by simp] at this
  exact this
structure Ver where
 no:Int
 doc:ByteArray
 touched:List ByteArray
def zse:zp0 Ver where
 wd:=3
 R:=fun w vs m=>∃ q,vs=[.int .i64 m.no,.string m.doc,q]/\m.doc.size<=maxLen/\zoF sRE w q m.touched
 len:=fun h=>by obtain⟨q,h,_⟩:=h; rw[h]; rfl
 keep:=fun h hb=>by obtain⟨q,h1,h0,h2⟩:=h; exact⟨q,h1,h0,h2.below hb⟩
def zeS:zsb Ver where
 T:=57
 wd:=3
 E:=fun w vs m bl=>∃ q,vs=[.int .i64 m.no,.string m.doc,q]/\zmc w q m.touched bl
 len:=fun h=>by obtain⟨q,h,_⟩:=h; rw[h]; rfl
 lt:=fun h=>by obtain⟨q,_,h⟩:=h; exact h.lt
 keep:=fun h hk=>by obtain⟨q,h1,h2⟩:=h; exact⟨q,h1,h2.keep hk⟩
def zbY (m:Ver) : Nat:=m.doc.size+zih m.touched
def za2 (ms:List Ver) : Nat:=ms.length+(ms.map zbY).sum
theorem zpf (a0 a1 a2 b0 b1 b2:Value) (m:Ver) (ib jb:List Nat) (w:World) (h:zeS.E w [a0,a1,a2] m ib) (k:zeS.E w [b0,b1,b2] m jb) :
  Calls prog 60 #[.agg #[a0,a1,a2],.agg #[b0,b1,b2]] w fun e w'=>e = .returned (.bool true)/\Below w.heap.size w w':=by
 obtain⟨q,hq,h1⟩:=h
 injection hq with e0 hq
 subst e0
 injection hq with e1 hq
 subst e1
 injection hq with e2 hq
 subst e2
 clear hq
 obtain⟨q,hq,k1⟩:=k
 injection hq with e0 hq
 subst e0
 injection hq with e1 hq
 subst e1
 injection hq with e2 hq
 subst e2
 clear hq
 have H1:=zab h1
 have K1:=zab k1
 clear h1 k1
 go_enter func60,ntmps60
 go_wp2_with fail
 have hA:=zsd w (Obj.cells #[Value.int IntKind.i64 m.no,Value.string m.doc,a2] 57) (Obj.cells #[Value.int IntKind.i64 m.no,Value.string m.doc,b2] 57)
 generalize ((w.alloc (Obj.cells #[Value.int IntKind.i64 m.no,Value.string m.doc,a2] 57)).alloc (Obj.cells #[Value.int IntKind.i64 m.no,Value.string m.doc,b2] 57))=wA at *
 refine (zpe a2 b2 m.touched ib jb wA ((uh H1).below hA.bel) ((uh K1).below hA.bel)).mono ?_
 rintro e w1 ⟨rfl,bb1⟩
 have hsz:=hA.size
 have k0:=(bb1.block w.heap.size (by omega)).trans hA.k0
 have k1:=(bb1.block (w.heap.size+1) (by omega)).trans hA.k1
 have HB:=zab (zaa hA.bel bb1)
 clear hA bb1 k0 k1 H1 K1
 go_wp2
 go_ret
 exact⟨rfl,uh HB⟩
theorem zmQ (v v':Value) (ms:List Ver) (bl bl':List Nat) (w:World) (h:zbt zeS w v ms bl) (k:zbt zeS w v' ms bl') :
  Calls prog 30 #[v,v'] w fun e w'=>e = .returned (.bool true)/\Below w.heap.size w w':=by
 have hm:=h.len
 unfold maxLen at hm
 obtain⟨xa,xc,rfl,_,hxa⟩:=h.form
 obtain⟨ya,yc,rfl,_,hya⟩:=k.form
 have H:=zab h
 have K:=zab k
 clear h k
 go_enter func30,ntmps30
 go_wp2
 go_loopw [5] (fun i wr=>∃ k:Nat,k<=ms.length/\i = .int .i64 k/\Below w.heap.size w wr) (fun i _=>ms.length - (intOf i).toNat)
 case atStart=>exact⟨0,yt _,rfl,yH _ _⟩
 case round=>
  obtain⟨k,hk,rfl,hb⟩:=hrel
  by_cases hlt:k < ms.length
  ·obtain⟨g,rfl⟩:=hxa (by omega)
   obtain⟨g',rfl⟩:=hya (by omega)
   obtain⟨vs,ib,hE,hc,_⟩:=((uh H).below hb).at (yx hlt)
   obtain⟨a0,a1,a2,rfl⟩:=zsx (zeS.len hE)
   have c0:wr.cell? ⟨g,k*3,none⟩=_:=(hc 0 _ rfl).1
   have c1:wr.cell? ⟨g,k*3+1,none⟩=_:=(hc 1 _ rfl).1
   have c2:wr.cell? ⟨g,k*3+2,none⟩=_:=(hc 2 _ rfl).1
   obtain⟨vs,jb,hE',hc',_⟩:=((uh K).below hb).at (yx hlt)
   obtain⟨b0,b1,b2,rfl⟩:=zsx (zeS.len hE')
   have d0:wr.cell? ⟨g',k*3,none⟩=_:=(hc' 0 _ rfl).1
   have d1:wr.cell? ⟨g',k*3+1,none⟩=_:=(hc' 1 _ rfl).1
   have d2:wr.cell? ⟨g',k*3+2,none⟩=_:=(hc' 2 _ rfl).1
   have hx:Below wr.heap.size wr wr.drew:=(yH _ _).drew
   have HM:=zab (zpf a0 a1 a2 b0 b1 b2 ms[k] ib jb wr.drew (zeS.keep hE (.of_below hx (zeS.lt hE))) (zeS.keep hE' (.of_below hx (zeS.lt hE'))))
   have HB:=zab hb
   have hlt':(k:Int) < (ms.length:Int):=by omega
   clear hxa hya hc hc' hE hE' hb hx
   go_wp2
   go_region_law (go_simp; refine (uh HM).mono ?_; rintro e w1 ⟨rfl,b1⟩)
   all_goals go_wp2
   all_goals go_roundw
   all_goals first
    | exact⟨k+1,by omega,by go_num,(uh HB).drew.trans (b1.mono (by have:=(uh HB).size; simp; omega))⟩
    | (simp[intOf]; omega)
  ·clear hxa hya
   go_wp2
   go_ret
   exact⟨rfl,hb⟩
structure POp where
 kind:Int
 path:ByteArray
 src:ByteArray
 val:ByteArray
def opV (m:POp) : List Value:=[.int .i64 m.kind,.string m.path,.string m.src,.string m.val]
def opE:zsb POp where
 T:=95
 wd:=4
 E:=fun _ vs m bl=>vs=[.int .i64 m.kind,.string m.path,.string m.src,.string m.val]/\bl=[]
 len:=fun h=>by rw[h.1]; rfl
 lt:=fun h b hb=>by rw[h.2] at hb; cases hb
 keep:=fun h _=>h
theorem zxf:(prog.info? 95).map (fun i=>(i.zero,i.size,i.bytes))=some (some (.agg #[.int .i64 0,.string ByteArray.empty,.string ByteArray.empty,.string ByteArray.empty]),4,56):=by kernel_rfl
theorem zq9 (a0 a1 a2 a3 b0 b1 b2 b3:Value) (m:POp) (ib jb:List Nat) (w:World) (h:opE.E w [a0,a1,a2,a3] m ib) (k:opE.E w [b0,b1,b2,b3] m jb) :
  Calls prog 59 #[.agg #[a0,a1,a2,a3],.agg #[b0,b1,b2,b3]] w fun e w'=>e = .returned (.bool true)/\Below w.heap.size w w':=by
 have hq:=h.1
 injection hq with e0 hq
 subst e0
 injection hq with e1 hq
 subst e1
 injection hq with e2 hq
 subst e2
 injection hq with e3 hq
 subst e3
 clear hq
 have hq:=k.1
 injection hq with e0 hq
 subst e0
 injection hq with e1 hq
 subst e1
 injection hq with e2 hq
 subst e2
 injection hq with e3 hq
 subst e3
 clear hq
 go_enter func59,ntmps59
 go_wp2
 go_ret
 exact⟨rfl,zaa (zag w _) (zag _ _)⟩
theorem zpg (v v':Value) (ms:List POp) (bl bl':List Nat) (w:World) (h:zbt opE w v ms bl) (k:zbt opE w v' ms bl') :
  Calls prog 29 #[v,v'] w fun e w'=>e = .returned (.bool true)/\Below w.heap.size w w':=by
 have hm:=h.len
 unfold maxLen at hm
 obtain⟨xa,xc,rfl,_,hxa⟩:=h.form
 obtain⟨ya,yc,rfl,_,hya⟩:=k.form
 have H:=zab h
 have K:=zab k
 clear h k
 go_enter func29,ntmps29
 go_wp2
 go_loopw [5] (fun i wr=>∃ k:Nat,k<=ms.length/\i = .int .i64 k/\Below w.heap.size w wr) (fun i _=>ms.length - (intOf i).toNat)
 case atStart=>exact⟨0,yt _,rfl,yH _ _⟩
 case round=>
  obtain⟨k,hk,rfl,hb⟩:=hrel
  by_cases hlt:k < ms.length
  ·obtain⟨g,rfl⟩:=hxa (by omega)
   obtain⟨g',rfl⟩:=hya (by omega)
   obtain⟨vs,ib,hE,hc,_⟩:=((uh H).below hb).at (yx hlt)
   obtain⟨a0,a1,a2,a3,rfl⟩:=zwf (opE.len hE)
   have c0:wr.cell? ⟨g,k*4,none⟩=_:=(hc 0 _ rfl).1
   have c1:wr.cell? ⟨g,k*4+1,none⟩=_:=(hc 1 _ rfl).1
   have c2:wr.cell? ⟨g,k*4+2,none⟩=_:=(hc 2 _ rfl).1
   have c3:wr.cell? ⟨g,k*4+3,none⟩=_:=(hc 3 _ rfl).1
   obtain⟨vs,jb,hE',hc',_⟩:=((uh K).below hb).at (yx hlt)
   obtain⟨b0,b1,b2,b3,rfl⟩:=zwf (opE.len hE')
   have d0:wr.cell? ⟨g',k*4,none⟩=_:=(hc' 0 _ rfl).1
   have d1:wr.cell? ⟨g',k*4+1,none⟩=_:=(hc' 1 _ rfl).1
   have d2:wr.cell? ⟨g',k*4+2,none⟩=_:=(hc' 2 _ rfl).1
   have d3:wr.cell? ⟨g',k*4+3,none⟩=_:=(hc' 3 _ rfl).1
   have hx:Below wr.heap.size wr wr.drew:=(yH _ _).drew
   have HM:=zab (zq9 a0 a1 a2 a3 b0 b1 b2 b3 ms[k] ib jb wr.drew (opE.keep hE (.of_below hx (opE.lt hE))) (opE.keep hE' (.of_below hx (opE.lt hE'))))
   have HB:=zab hb
   have hlt':(k:Int) < (ms.length:Int):=by omega
   clear hxa hya hc hc' hE hE' hb hx
   go_wp2
   go_region_law (go_simp; refine (uh HM).mono ?_; rintro e w1 ⟨rfl,b1⟩)
   all_goals go_wp2
   all_goals go_roundw
   all_goals first
    | exact⟨k+1,by omega,by go_num,(uh HB).drew.trans (b1.mono (by have:=(uh HB).size; simp; omega))⟩
    | (simp[intOf]; omega)
  ·clear hxa hya
   go_wp2
   go_ret
   exact⟨rfl,hb⟩
def mkS (k n:Nat) : List ByteArray:=(List.range n).map fun j=>zaD (k+j)
theorem zmR (k n:Nat) : (mkS k n).length=n:=by simp[mkS]
def zph (k:Nat) (ss:List ByteArray) (j:Nat) : List ByteArray:=mkS k j++ss.drop j
theorem ztq (k:Nat) (ss:List ByteArray) {j:Nat} (h:j<=ss.length) : (zph k ss j).length=ss.length:=by unfold zph; rw[yh,zmR,yu]; omega
theorem ztr (k:Nat) (ss:List ByteArray) {j:Nat} (h:j < ss.length) : (zph k ss j).set j (zaD (k+j))=zph k ss (j+1):=by
 unfold zph
 rw[List.set_append_right _ _ (by rw[zmR]; omega),zmR,Nat.sub_self,List.drop_eq_getElem_cons h,List.set_cons_zero]
 unfold mkS
 rw[List.range_succ,yw,List.append_assoc]; rfl
theorem zxg (k:Nat) (ss:List ByteArray) : zph k ss 0=ss:=by simp[zph,mkS]
theorem zts (k:Nat) (ss:List ByteArray) : zph k ss ss.length=mkS k ss.length:=by simp[zph]
theorem zk8 (v:Value) (ss:List ByteArray) (bl:List Nat) (k0:Nat) (w:World) (hv:zmc w v ss bl) (hd:bl.Nodup) (hn:ss.length<=268435456) (h1:1<=k0) (h2:k0<=1099200000000) :
  Calls prog 62 #[v,.int .i64 k0] w fun e w'=>e = .returned (.int .i64 (k0+ss.length:Nat))/\zmc w' v (mkS k0 ss.length) bl/\Fr bl w w':=by
 obtain⟨a,cap,rfl,_,hsh⟩:=hv.form
 have HV:=zab hv
 have HD:=zab hd
 clear hv hd
 go_enter func62,ntmps62
 go_wp2
 go_loopw [1,5] (fun q i wr=>∃ (j:Nat),j<=ss.length/\i = .int .i64 j/\q = .int .i64 (k0+j:Nat)/\Fr bl w wr/\zmc wr (.slice a ss.length cap) (zph k0 ss j) bl) (fun _ i _=>ss.length - (intOf i).toNat)
 case atStart=>exact⟨0,yt _,rfl,rfl,Fr.refl _ _,by rw[zxg]; exact uh HV⟩
 case round=>
  obtain⟨j,hj,rfl,rfl,hb,ho⟩:=hrel
  by_cases hlt:j < ss.length
  ·obtain⟨g,rfl⟩:=hsh (by omega)
   have HC:=zab (zc8 (k0+j) wr (by omega) (by omega))
   have hl:=ztq k0 ss (Nat.le_of_lt hlt)
   have HS:=zab (ztr k0 ss hlt)
   have HO:=zab ho
   have HF:=zab hb
   have HL:=zab hl
   clear ho hb hl
   go_wp2_with fail
   refine (uh HC).mono ?_
   rintro e w1 ⟨rfl,b1⟩
   have ho:=(uh HO).below b1
   obtain⟨vs,ib,hE,hc,_,hg,_⟩:=ho.at (yx (show j < (zph k0 ss j).length by rw[uh HL]; exact hlt))
   obtain⟨rfl,rfl⟩:=hE
   have c0:=(hc 0 _ rfl).1
   have f0:=(hc 0 _ rfl).2
   rw[show j*zwe.wd+0=j from by simp[zwe]] at c0 f0
   have hp:=ho.put (uh HD) (yx (show j < (zph k0 ss j).length by rw[uh HL]; exact hlt)) 0 (by decide) (.string (zaD (k0+j))) (zaD (k0+j)) (fun w' vs ib h=>⟨by rw[h.1]; rfl,h.2⟩)
   rw[uh HS] at hp
   have hp':zmc (w1.setCell ⟨g,j,none⟩ (.string (zaD (k0+j)))) (.slice (some ⟨g,0,none⟩) ss.length cap) (zph k0 ss (j+1)) bl:=by
    rw[show j*zwe.wd+0=j from by simp[zwe]] at hp; exact hp
   have HP:=zab hp'
   have HF1:=zab (((uh HF).next b1).set hg j (.string (zaD (k0+j))))
   clear hp hp' ho hc b1 HC HO HF hg
   go_wp2
   go_roundw
   case rel=>exact⟨j+1,by omega,by go_num,by go_num,uh HF1,uh HP⟩
   case measure=>simp[intOf]; omega
  ·have hjn:j=ss.length:=by omega
   subst hjn
   rw[zts] at ho
   go_wp2
   go_ret
   exact⟨rfl,ho,hb⟩
def zbR {α:Type} (f:Nat->α->α) (c:α->Nat) : Nat->List α->List α
 | _,[]=>[]
 | k,x :: r=>f k x :: zbR f c (k+c x) r
def zdj {α:Type} (c:α->Nat) (l:List α) : Nat:=(l.map c).sum
theorem zdk {α:Type} (f:Nat->α->α) (c:α->Nat) : ∀ (l:List α) (k:Nat),(zbR f c k l).length=l.length
 | [],_=>rfl
 | x :: r,k=>by rw[zbR,yn,zdk f c r,yn]
theorem ziV {α:Type} (f:Nat->α->α) (c:α->Nat) (x:α) : ∀ (l:List α) (k:Nat),zbR f c k (l++[x])=zbR f c k l++[f (k+zdj c l) x]
 | [],k=>by simp[zbR,zdj]
 | y :: r,k=>by
  rw[List.cons_append,zbR,zbR,ziV f c x r,List.cons_append]
  unfold zdj
  rw[yi,yL,Nat.add_assoc]
def zct {α:Type} (f:Nat->α->α) (c:α->Nat) (k:Nat) (l:List α) (j:Nat) : List α:=zbR f c k (l.take j)++l.drop j
section
variable {α:Type} {f:Nat->α->α} {c:α->Nat} {k:Nat} {l:List α} {j:Nat}
theorem zk9:zct f c k l 0=l:=by simp[zct,zbR]
theorem zhH:zct f c k l l.length=zbR f c k l:=by simp[zct]
theorem ziW (h:j < l.length) : (zct f c k l j)[j]?=some l[j]:=by
 have hl:(zbR f c k (l.take j)).length=j:=by rw[zdk,ym]; omega
 unfold zct
 rw[List.getElem?_append_right (by omega),hl,Nat.sub_self,List.getElem?_drop]
 simp[h]
theorem zhI (h:j < l.length) (x:α) : (zct f c k l j).set j x=zbR f c k (l.take j)++x :: l.drop (j+1):=by
 have hl:(zbR f c k (l.take j)).length=j:=by rw[zdk,ym]; omega
 unfold zct
 rw[List.set_append_right _ _ (by omega),hl,Nat.sub_self,List.drop_eq_getElem_cons h,List.set_cons_zero]
theorem zgq (h:j < l.length) : zbR f c k (l.take j)++f (k+zdj c (l.take j)) l[j] :: l.drop (j+1)=zct f c k l (j+1):=by
 unfold zct
 rw[yy h,ziV,List.append_assoc]; rfl
theorem zeB (h:j < l.length) : zdj c (l.take (j+1))=zdj c (l.take j)+c l[j]:=by
 exact zbU c l j l[j] (yx h)
theorem zn1:zdj c (l.take j)<=zdj c l:=by
 unfold zdj
 rw[List.map_take]; exact zcH _ _
theorem ztt (h:j < l.length) : (zbR f c k l)[j]?=some (f (k+zdj c (l.take j)) l[j]):=by
 induction l generalizing j k with
 | nil=>simp at h
 | cons x r ih=>
  cases j with
  | zero=>simp[zbR,zdj]
  | succ j=>
   rw[zbR,List.getElem?_cons_succ,ih (by simpa using h),List.take_succ_cons,List.getElem_cons_succ]
   unfold zdj
   rw[yi,yL,Nat.add_assoc]
theorem zfw {A B:List α} {x:α} (h:A.length=j) : (A++x :: B)[j]?=some x:=by
 rw[List.getElem?_append_right (by omega),h,Nat.sub_self]; rfl
theorem zhJ {A B:List α} {x:α} (h:A.length=j) (y:α) : (A++x :: B).set j y=A++y :: B:=by
 rw[List.set_append_right _ _ (by omega),h,Nat.sub_self,List.set_cons_zero]
theorem zla (w:World) (g i j:Nat) (v:Value) (h:i≠j) : (w.setCell ⟨g,i,none⟩ v).cell? ⟨g,j,none⟩=w.cell? ⟨g,j,none⟩:=World.cell?_setCell_other _ _ _ _ (by intro e; injection e with _ e; exact h e)
theorem zeT (h:j < l.length) : (zbR f c k (l.take j)).length=j:=by rw[zdk,ym]; omega
end
def zbj (m:Ver) : Nat:=m.touched.length+2
def zit (k:Nat) (m:Ver) : Ver:=⟨(k:Int),zaD (k+1),mkS (k+1+1) m.touched.length⟩
theorem ztu {ms:List Ver} (hn:za2 ms<=268435456) (k:Nat) (hk:k < ms.length) : ms[k].touched.length<=268435456:=by
 have h1:=zbU zbY ms k ms[k] (yx hk)
 have h2:=zcH (ms.map zbY) (k+1)
 rw[← List.map_take] at h2
 unfold za2 at hn
 have h3:ms[k].touched.length<=zbY ms[k]:=by unfold zbY zih; omega
 omega
theorem zjR (v:Value) (ms:List Ver) (bl:List Nat) (k0:Nat) (w:World) (hv:zbt zeS w v ms bl) (hd:bl.Nodup) (hn:za2 ms<=268435456) (h2:k0+zdj zbj ms<=1099200000000) :
  Calls prog 31 #[v,.int .i64 k0] w fun e w'=>e = .returned (.int .i64 (k0+zdj zbj ms:Nat))/\zbt zeS w' v (zbR zit zbj k0 ms) bl/\Fr bl w w':=by
 have hln:ms.length<=268435456:=by unfold za2 at hn; omega
 have HSZ:=zab (ztu hn)
 obtain⟨a,cap,rfl,hform,hsh⟩:=hv.form
 clear hform
 have HV:=zab hv
 have HD:=zab hd
 clear hv hd hn
 go_enter func31,ntmps31
 go_wp2
 go_loopw [1,5] (fun q i wr=>∃ (j:Nat),j<=ms.length/\i = .int .i64 j/\q = .int .i64 (k0+zdj zbj (ms.take j) : Nat)/\Fr bl w wr/\zbt zeS wr (.slice a ms.length cap) (zct zit zbj k0 ms j) bl) (fun _ i _=>ms.length - (intOf i).toNat)
 case atStart=>exact⟨0,yt _,rfl,by simp[zdj],Fr.refl _ _,by rw[zk9]; exact uh HV⟩
 case round=>
  obtain⟨j,hj,rfl,rfl,hb,ho⟩:=hrel
  by_cases hlt:j < ms.length
  ·obtain⟨g,rfl⟩:=hsh (by omega)
   have hle:=zn1 (c:=zbj) (l:=ms) (j:=j)
   have hle2:=zn1 (c:=zbj) (l:=ms) (j:=j+1)
   rw[zeB hlt] at hle2
   have hcm:zbj ms[j]=ms[j].touched.length+2:=rfl
   have hpl:=uh HSZ j hlt
   have hs:=zeB (c:=zbj) hlt
   have hnx:=zgq (f:=zit) (c:=zbj) (k:=k0) hlt
   have hset:=fun x=>zhI (f:=zit) (c:=zbj) (k:=k0) hlt x
   have hat:=ziW (f:=zit) (c:=zbj) (k:=k0) hlt
   generalize hK:k0+zdj zbj (ms.take j)=K at *
   generalize ms[j]=m at *
   -- the number is marked
   obtain⟨vs,ib,hE,hc,hx1,hg,hx2⟩:=ho.at hat
   obtain⟨q,rfl,hq⟩:=hE
   have c0:wr.cell? ⟨g,j*3,none⟩=_:=(hc 0 _ rfl).1
   have f0:wr.frozen? ⟨g,j*3,none⟩=_:=(hc 0 _ rfl).2
   have p1:zbt zeS (wr.setCell ⟨g,j*3,none⟩ (.int .i64 (K:Int))) _ _ bl:=ho.put (uh HD) hat 0 (by decide) (.int .i64 (K:Int)) ⟨(K:Int),m.doc,m.touched⟩ (fun w' vs ib h=>by obtain⟨q,rfl,h⟩:=h; exact⟨q,rfl,h⟩)
   rw[hset] at p1
   have fr1:=hb.set hg (j*3) (.int .i64 (K:Int))
   have hA:=zeT (f:=zit) (c:=zbj) (k:=k0) hlt
   generalize zbR zit zbj k0 (ms.take j)=A at *
   generalize ms.drop (j+1)=B at *
   have HM:=zab (zc8 (K+1) (wr.setCell ⟨g,j*3,none⟩ (.int .i64 (K:Int))) (by omega) (by omega))
   have HFR:=zab fr1
   have HP1:=zab p1
   have HHG:=zab hg
   have HNX:=zab hnx
   have HS:=zab hs
   have HA:=zab hA
   have HK:=zab hK
   have HLE:=zab hle2
   have hKb:K+2+m.touched.length<=1099200000000:=by omega
   have HKB:=zab hKb
   have hKc:K<=1099200000000:=by omega
   have HQL:=zab hpl
   clear ho hb hc p1 fr1 hq hset hat hg hnx hs hA hK hle hle2 hcm h2 hx1 hx2 hsh hKb hpl
   go_wp2_with fail
   refine (uh HM).mono ?_
   rintro e w2 ⟨rfl,b2⟩
   have o2:=(uh HP1).below b2
   obtain⟨vs2,kb,hE2,hc2,hy1,hg,hy2⟩:=o2.at (zfw (uh HA))
   obtain⟨q2,rfl,hq2⟩:=hE2
   have d1:w2.cell? ⟨g,j*3+1,none⟩=_:=(hc2 1 _ rfl).1
   have d2:w2.cell? ⟨g,j*3+2,none⟩=some q2:=(hc2 2 _ rfl).1
   have e1:w2.frozen? ⟨g,j*3+1,none⟩=_:=(hc2 1 _ rfl).2
   have p2:zbt zeS (w2.setCell ⟨g,j*3+1,none⟩ (.string (zaD (K+1)))) _ _ bl:=o2.put (uh HD) (zfw (uh HA)) 1 (by decide) (.string (zaD (K+1))) ⟨(K:Int),zaD (K+1),m.touched⟩ (fun w' vs ib h=>by obtain⟨q,rfl,h⟩:=h; exact⟨q,rfl,h⟩)
   rw[zhJ (uh HA)] at p2
   have fr5:=((uh HFR).next b2).set hg (j*3+1) (.string (zaD (K+1)))
   obtain⟨vs5,jb,hE5,hc5,hjs,hz1,hjd,hclose⟩:=p2.inner (uh HD) (zfw (uh HA))
   obtain⟨q5,rfl,hq5⟩:=hE5
   have hqq:q5=q2:=by
    have c5:(w2.setCell ⟨g,j*3+1,none⟩ (.string (zaD (K+1)))).cell? ⟨g,j*3+2,none⟩=some q5:=(hc5 2 _ rfl).1
    rw[zla _ _ _ _ _ (by omega),d2] at c5
    exact (Option.some.inj c5).symm
   subst hqq
   have HM2:=zab (zk8 q5 m.touched jb (K+1+1) _ hq5 hjd (uh HQL) (by omega) (by have:=uh HKB; omega))
   have HFR5:=zab fr5
   have HCL:=zab hclose
   have HJS:=zab hjs
   clear HM HFR HP1 b2 o2 hc2 hy1 hg hy2 hq2 p2 fr5 hc5 hjs hz1 hjd hclose hq5 c0 f0
   go_wp2_with fail
   refine (uh HM2).mono ?_
   rintro e w3 ⟨rfl,ho3,fr3⟩
   have o3:=uh HCL w3 (zit K m) fr3 ⟨q5,rfl,ho3⟩
   rw[zhJ (uh HA),uh HNX] at o3
   have HP2:=zab o3
   have HFR2:=zab ((uh HFR5).trans (fr3.mono (uh HJS)))
   have hKB:=uh HKB
   clear HM2 HCL HFR5 HJS ho3 fr3 o3 d1 d2 e1
   go_wp2
   go_roundw
   case rel=>
    have hk1:=uh HK
    have hk2:=uh HS
    have hk3:zbj m=m.touched.length+2:=rfl
    exact⟨j+1,by omega,by go_num,by rw[hk2,hk3,← hk1]; go_num,uh HFR2,uh HP2⟩
   case measure=>simp[intOf]; omega
  ·have hjn:j=ms.length:=by omega
   subst hjn
   rw[zhH] at ho
   rw[List.take_length]
   go_wp2
   go_ret
   exact⟨rfl,ho,hb⟩
def zxh (w:World) (v:Value) (h:List Ver) (bl:List Nat) : Prop:=∃ p,v = .agg #[p]/\zbt zeS w p h bl
theorem zlb (v:Value) (h:List Ver) (bl:List Nat) (w:World) (hv:zxh w v h bl) (hd:bl.Nodup) (hn:za2 h<=268435456) (k0:Nat) (h2:k0+zdj zbj h<=1099200000000) :
  Calls prog 12 #[v,.int .i64 k0] w fun e w'=>e = .returned (.int .i64 (k0+zdj zbj h:Nat))/\zxh w' v (zbR zit zbj k0 h) bl/\Fr bl w w':=by
 obtain⟨p,rfl,o1⟩:=hv
 have O1:=zab o1
 have D1:=zab hd
 clear o1 hd
 go_enter func12,ntmps12
 go_wp2_with fail
 refine (zjR p h bl k0 _ ((uh O1).below (zag w _)) (uh D1) hn h2).mono ?_
 rintro e w1 ⟨rfl,p1,f1⟩
 have HP:Hid (zxh w1 (.agg #[p]) (zbR zit zbj k0 h) bl):=⟨p,rfl,p1⟩
 have HF:=zab ((Fr.of_below (bl:=bl) (zag w _)).trans f1)
 clear p1 f1 O1 D1
 go_wp2
 go_ret
 exact⟨rfl,uh HP,uh HF⟩
theorem zpi (v v':Value) (h:List Ver) (bl bl':List Nat) (w:World) (hv:zxh w v h bl) (hv':zxh w v' h bl') :
  Calls prog 11 #[v,v'] w fun e w'=>e = .returned (.bool true)/\Below w.heap.size w w':=by
 obtain⟨p,rfl,o1⟩:=hv
 obtain⟨q,rfl,o2⟩:=hv'
 have O1:=zab o1
 have O2:=zab o2
 clear o1 o2
 go_enter func11,ntmps11
 go_wp2_with fail
 have hB:Below w.heap.size w ((w.alloc (.cells #[p] 35)).alloc (.cells #[q] 35)):=zaa (zag w _) (zag _ _)
 refine (zmQ p q h bl bl' _ ((uh O1).below hB) ((uh O2).below hB)).mono ?_
 rintro e w1 ⟨rfl,b1⟩
 have HB:=zab (zaa hB b1)
 clear b1 O1 O2 hB
 go_wp2
 go_ret
 exact⟨rfl,uh HB⟩
def zba:Array Value:=#[.string ⟨#[97,100,100]⟩,.int .i64 1,.bool false,.bool true,.bool false,.bool true,.func (Fn.func 181) #[] #[],.string ⟨#[114,101,109,111,118,101]⟩,.int .i64 2,.bool false,.bool false,.bool false,.bool true,.func (Fn.func 182) #[] #[],.string ⟨#[114,101,112,108,97,99,101]⟩,.int .i64 3,.bool false,.bool true,.bool false,.bool false,.func (Fn.func 183) #[] #[],.string ⟨#[109,111,118,101]⟩,.int .i64 4,.bool true,.bool false,.bool true,.bool true,.func (Fn.func 184) #[] #[],.string ⟨#[99,111,112,121]⟩,.int .i64 5,.bool true,.bool false,.bool false,.bool true,.func (Fn.func 185) #[] #[],.string ⟨#[116,101,115,116]⟩,.int .i64 6,.bool false,.bool true,.bool false,.bool false,.func (Fn.func 186) #[] #[]]
theorem zeC (w:World) : Calls prog 160 #[] w fun e w'=>e = .returned (.slice (some ⟨w.heap.size,0,none⟩) 6 6)/\w'=w.alloc (.cells zba 202):=by
 go_enter func160,ntmps160
 go_wp2
 go_ret
 exact⟨rfl,rfl⟩
theorem zvx {w:World} {g:Nat} (hg:w.heap[g]?=some (.cells zba 202 (0,0))) {j:Nat} (hj:j < 6) :
  ∃ c0 c2 c3 c4 c5 c6,w.cell? ⟨g,j*7,none⟩=some c0/\w.cell? ⟨g,j*7+1,none⟩=some (.int .i64 ((j:Int)+1))/\w.cell? ⟨g,j*7+2,none⟩=some c2/\w.cell? ⟨g,j*7+3,none⟩=some c3/\w.cell? ⟨g,j*7+4,none⟩=some c4/\w.cell? ⟨g,j*7+5,none⟩=some c5/\w.cell? ⟨g,j*7+6,none⟩=some c6:=by
 rcases (show j=0∨j=1∨j=2∨j=3∨j=4∨j=5 from by omega) with rfl | rfl | rfl | rfl | rfl | rfl
 all_goals exact⟨_,_,_,_,_,_,yF hg _,yF hg _,yF hg _,yF hg _,yF hg _,yF hg _,yF hg _⟩
def zbn (_:POp) : Nat:=4
def zn2 (k:Nat) (_:POp) : POp:=⟨(k:Int),zaD (k+1),zaD (k+1+1),zaD (k+1+1+1)⟩
theorem ziX (ms:List POp) : zdj zbn ms=4*ms.length:=by
 unfold zdj
 induction ms with
 | nil=>rfl
 | cons m r ih=>rw[yi,yL,ih,yn]; unfold zbn; omega
theorem zlc (v:Value) (ms:List POp) (bl:List Nat) (k0:Nat) (w:World) (hv:zbt opE w v ms bl) (hd:bl.Nodup) (hn:ms.length<=268435456) (h2:k0+zdj zbn ms<=1099200000000) :
  Calls prog 32 #[v,.int .i64 k0] w fun e w'=>e = .returned (.int .i64 (k0+zdj zbn ms:Nat))/\zbt opE w' v (zbR zn2 zbn k0 ms) bl/\Fr bl w w':=by
 obtain⟨a,cap,rfl,hform,hsh⟩:=hv.form
 clear hform
 have HV:=zab hv
 have HD:=zab hd
 clear hv hd
 go_enter func32,ntmps32
 go_wp2
 go_loopw [1,5] (fun q i wr=>∃ (j:Nat),j<=ms.length/\i = .int .i64 j/\q = .int .i64 (k0+zdj zbn (ms.take j) : Nat)/\Fr bl w wr/\zbt opE wr (.slice a ms.length cap) (zct zn2 zbn k0 ms j) bl) (fun _ i _=>ms.length - (intOf i).toNat)
 case atStart=>exact⟨0,yt _,rfl,by simp[zdj],Fr.refl _ _,by rw[zk9]; exact uh HV⟩
 case round=>
  obtain⟨j,hj,rfl,rfl,hb,ho⟩:=hrel
  by_cases hlt:j < ms.length
  ·obtain⟨g,rfl⟩:=hsh (by omega)
   have hle2:=zn1 (c:=zbn) (l:=ms) (j:=j+1)
   rw[zeB hlt] at hle2
   have hcm:zbn ms[j]=4:=rfl
   have hs:=zeB (c:=zbn) hlt
   have hnx:=zgq (f:=zn2) (c:=zbn) (k:=k0) hlt
   have hset:=fun x=>zhI (f:=zn2) (c:=zbn) (k:=k0) hlt x
   have hat:=ziW (f:=zn2) (c:=zbn) (k:=k0) hlt
   generalize hK:k0+zdj zbn (ms.take j)=K at *
   generalize ms[j]=m at *
   -- the kind is marked
   obtain⟨vs,ib,hE,hc,hx1,hg,hx2⟩:=ho.at hat
   obtain⟨rfl,_⟩:=hE
   have c0:wr.cell? ⟨g,j*4,none⟩=_:=(hc 0 _ rfl).1
   have f0:wr.frozen? ⟨g,j*4,none⟩=_:=(hc 0 _ rfl).2
   have p1:zbt opE (wr.setCell ⟨g,j*4,none⟩ (.int .i64 (K:Int))) _ _ bl:=ho.put (uh HD) hat 0 (by decide) (.int .i64 (K:Int)) ⟨(K:Int),m.path,m.src,m.val⟩ (fun w' vs ib h=>by obtain⟨rfl,h⟩:=h; exact⟨rfl,h⟩)
   rw[hset] at p1
   have fr1:=hb.set hg (j*4) (.int .i64 (K:Int))
   have hA:=zeT (f:=zn2) (c:=zbn) (k:=k0) hlt
   generalize zbR zn2 zbn k0 (ms.take j)=A at *
   generalize ms.drop (j+1)=B at *
   have hKb:K+4<=1099200000000:=by omega
   have hKc:K<=1099200000000:=by omega
   have HM:=zab (zc8 (K+1) (wr.setCell ⟨g,j*4,none⟩ (.int .i64 (K:Int))) (by omega) (by omega))
   have HFR:=zab fr1
   have HP1:=zab p1
   have HNX:=zab hnx
   have HS:=zab hs
   have HA:=zab hA
   have HK:=zab hK
   have HKB:=zab hKb
   clear ho hb hc p1 fr1 hset hat hg hnx hs hA hK hle2 hcm h2 hx1 hx2 hsh hKb
   go_wp2_with fail
   refine (uh HM).mono ?_
   rintro e w2 ⟨rfl,b2⟩
   have o2:=(uh HP1).below b2
   obtain⟨vs2,kb,hE2,hc2,_,hg,_⟩:=o2.at (zfw (uh HA))
   obtain⟨rfl,_⟩:=hE2
   have d1:w2.cell? ⟨g,j*4+1,none⟩=_:=(hc2 1 _ rfl).1
   have e1:w2.frozen? ⟨g,j*4+1,none⟩=_:=(hc2 1 _ rfl).2
   have p2:zbt opE (w2.setCell ⟨g,j*4+1,none⟩ (.string (zaD (K+1)))) _ _ bl:=o2.put (uh HD) (zfw (uh HA)) 1 (by decide) (.string (zaD (K+1))) ⟨(K:Int),zaD (K+1),m.src,m.val⟩ (fun w' vs ib h=>by obtain⟨rfl,h⟩:=h; exact⟨rfl,h⟩)
   rw[zhJ (uh HA)] at p2
   have HF2:=zab (((uh HFR).next b2).set hg (j*4+1) (.string (zaD (K+1))))
   have HP2:=zab p2
   have HM2:=zab (zc8 (K+1+1) (w2.setCell ⟨g,j*4+1,none⟩ (.string (zaD (K+1)))) (by omega) (by have:=uh HKB; omega))
   clear HM HFR HP1 b2 o2 hc2 hg p2 c0 f0
   go_wp2_with fail
   refine (uh HM2).mono ?_
   rintro e w3 ⟨rfl,b3⟩
   have o3:=(uh HP2).below b3
   obtain⟨vs3,kb3,hE3,hc3,_,hg,_⟩:=o3.at (zfw (uh HA))
   obtain⟨rfl,_⟩:=hE3
   have d2:w3.cell? ⟨g,j*4+2,none⟩=_:=(hc3 2 _ rfl).1
   have e2:w3.frozen? ⟨g,j*4+2,none⟩=_:=(hc3 2 _ rfl).2
   have p3:zbt opE (w3.setCell ⟨g,j*4+2,none⟩ (.string (zaD (K+1+1)))) _ _ bl:=o3.put (uh HD) (zfw (uh HA)) 2 (by decide) (.string (zaD (K+1+1))) ⟨(K:Int),zaD (K+1),zaD (K+1+1),m.val⟩ (fun w' vs ib h=>by obtain⟨rfl,h⟩:=h; exact⟨rfl,h⟩)
   rw[zhJ (uh HA)] at p3
   have HF3:=zab (((uh HF2).next b3).set hg (j*4+2) (.string (zaD (K+1+1))))
   have HP3:=zab p3
   have HM3:=zab (zc8 (K+1+1+1) (w3.setCell ⟨g,j*4+2,none⟩ (.string (zaD (K+1+1)))) (by omega) (by have:=uh HKB; omega))
   clear HM2 HF2 HP2 b3 o3 hc3 hg p3 d1 e1
   go_wp2_with fail
   refine (uh HM3).mono ?_
   rintro e w4 ⟨rfl,b4⟩
   have o4:=(uh HP3).below b4
   obtain⟨vs4,kb4,hE4,hc4,_,hg,_⟩:=o4.at (zfw (uh HA))
   obtain⟨rfl,_⟩:=hE4
   have d3:w4.cell? ⟨g,j*4+3,none⟩=_:=(hc4 3 _ rfl).1
   have e3:w4.frozen? ⟨g,j*4+3,none⟩=_:=(hc4 3 _ rfl).2
   have p4:zbt opE (w4.setCell ⟨g,j*4+3,none⟩ (.string (zaD (K+1+1+1)))) _ _ bl:=o4.put (uh HD) (zfw (uh HA)) 3 (by decide) (.string (zaD (K+1+1+1))) (zn2 K m) (fun w' vs ib h=>by obtain⟨rfl,h⟩:=h; exact⟨rfl,h⟩)
   rw[zhJ (uh HA),uh HNX] at p4
   have HF4:=zab (((uh HF3).next b4).set hg (j*4+3) (.string (zaD (K+1+1+1))))
   have HP4:=zab p4
   have hKB:=uh HKB
   clear HM3 HF3 HP3 b4 o4 hc4 hg p4 d2 e2
   go_wp2
   go_roundw
   case rel=>
    have hk1:=uh HK
    have hk2:=uh HS
    have hk3:zbn m=4:=rfl
    exact⟨j+1,by omega,by go_num,by rw[hk2,hk3,← hk1]; go_num,uh HF4,uh HP4⟩
   case measure=>simp[intOf]; omega
  ·have hjn:j=ms.length:=by omega
   subst hjn
   rw[zhH] at ho
   rw[List.take_length]
   go_wp2
   go_ret
   exact⟨rfl,ho,hb⟩
theorem zld (v:Value) (ms:List POp) (bl:List Nat) (k0:Nat) (w:World) (hv:zbt opE w v (zbR zn2 zbn k0 ms) bl) (hn:ms.length<=268435456) (h2:k0+zdj zbn ms<=1099200000000) :
  Calls prog 33 #[v,.int .i64 k0] w fun e w'=>e = .returned (.int .i64 (k0+zdj zbn ms:Nat))/\Below w.heap.size w w':=by
 obtain⟨a,cap,rfl,hform,hsh⟩:=hv.form
 rw[zdk] at hsh
 have HV:=zab hv
 have HSH:=zab hsh
 rw[zdk] at HV ⊢
 clear hv hform hsh
 go_enter func33,ntmps33
 go_wp2
 go_loopw [1,5] (fun q i wr=>∃ (j:Nat),j<=ms.length/\i = .int .i64 j/\q = .int .i64 (k0+zdj zbn (ms.take j) : Nat)/\Below w.heap.size w wr) (fun _ i _=>ms.length - (intOf i).toNat)
 case atStart=>exact⟨0,yt _,rfl,by simp[zdj],yH _ _⟩
 case round=>
  obtain⟨j,hj,rfl,rfl,hb⟩:=hrel
  by_cases hlt:j < ms.length
  ·obtain⟨g,rfl⟩:=uh HSH (by omega)
   have hle2:=zn1 (c:=zbn) (l:=ms) (j:=j+1)
   rw[zeB hlt] at hle2
   have hcm:zbn ms[j]=4:=rfl
   have hs:=zeB (c:=zbn) hlt
   have hat:=ztt (f:=zn2) (c:=zbn) (k:=k0) hlt
   generalize hK:k0+zdj zbn (ms.take j)=K at *
   generalize ms[j]=m at *
   obtain⟨vs,ib,hE,hc,hx1,hg,hx2⟩:=((uh HV).below hb).at hat
   obtain⟨rfl,-⟩:=hE
   have c0:wr.cell? ⟨g,j*4,none⟩=some (.int .i64 (K:Int)):=(hc 0 _ rfl).1
   have hgr:g < wr.heap.size:=yJ _ _ c0
   have HC1:Hid (∀ X:World,Below wr.heap.size wr X->X.cell? ⟨g,j*4+1,none⟩=some (.string (zaD (K+1)))):=fun X hX=>(hX.cell (p:=⟨g,j*4+1,none⟩) hgr).trans (hc 1 _ rfl).1
   have HC2:Hid (∀ X:World,Below wr.heap.size wr X->X.cell? ⟨g,j*4+2,none⟩=some (.string (zaD (K+1+1)))):=fun X hX=>(hX.cell (p:=⟨g,j*4+2,none⟩) hgr).trans (hc 2 _ rfl).1
   have HC3:Hid (∀ X:World,Below wr.heap.size wr X->X.cell? ⟨g,j*4+3,none⟩=some (.string (zaD (K+1+1+1)))):=fun X hX=>(hX.cell (p:=⟨g,j*4+3,none⟩) hgr).trans (hc 3 _ rfl).1
   have hKb:K+4<=1099200000000:=by omega
   have HMK:Hid (∀ n,1<=n->n<=K+4->∀ X:World,Calls prog 61 #[.int .i64 (n:Nat)] X fun e w'=>e = .returned (.string (zaD n))/\Below X.heap.size X w'):=fun n h1 h2 X=>zc8 n X h1 (by omega)
   have HB:=zab hb
   have HS:=zab hs
   have HK:=zab hK
   have hKc:K<=1099200000000:=by omega
   have HKB:=zab hKb
   have bD:Below wr.heap.size wr wr.drew:=(yH _ _).drew
   have S0:=zab (uh HC1 _ bD)
   have HM:=zab (uh HMK (K+1) (by omega) (by omega) wr.drew)
   clear hx1 hx2 hc hb hat hle2 hcm hs hK hg h2 hKb
   go_wp2_with fail
   go_region_held3 (fun w'=>w'.cell? ⟨g,j*4+1,none⟩=some (.string (zaD (K+1))))
    (first | exact uh S1 | exact uh S0)
    (first
     | (go_simp; refine (uh HM).mono ?_; rintro e w1 ⟨rfl, b1⟩
        have b01:Below wr.heap.size wr w1:=zaa bD b1
        have S1:=zab (uh HC1 _ b01)))
   have bD1:Below wr.heap.size wr w1.drew:=b01.drew
   have S2:=zab (uh HC2 _ bD1)
   have HM1:=zab (uh HMK (K+1+1) (by omega) (by omega) w1.drew)
   clear S0 S1 HM b1 b01 bD c0
   go_wp2_with fail
   go_region_held3 (fun w'=>w'.cell? ⟨g,j*4+2,none⟩=some (.string (zaD (K+1+1))))
    (first | exact uh S3 | exact uh S2)
    (first
     | (go_simp; refine (uh HM1).mono ?_; rintro e w2 ⟨rfl, b2⟩
        have b02:Below wr.heap.size wr w2:=zaa bD1 b2
        have S3:=zab (uh HC2 _ b02)))
   have bD2:Below wr.heap.size wr w2.drew:=b02.drew
   have S4:=zab (uh HC3 _ bD2)
   have HM2:=zab (uh HMK (K+1+1+1) (by omega) (by omega) w2.drew)
   clear S2 S3 HM1 b2 b02 bD1
   go_wp2_with fail
   go_region_held3 (fun w'=>w'.cell? ⟨g,j*4+3,none⟩=some (.string (zaD (K+1+1+1))))
    (first | exact uh S5 | exact uh S4)
    (first
     | (go_simp; refine (uh HM2).mono ?_; rintro e w3 ⟨rfl, b3⟩
        have b03:Below wr.heap.size wr w3:=zaa bD2 b3
        have S5:=zab (uh HC3 _ b03)))
   have HB3:=zab (zaa (uh HB) b03)
   have hKB:=uh HKB
   clear S4 S5 HM2 b3 b03 bD2
   go_wp2
   go_roundw
   case rel=>
    have hk1:=uh HK
    have hk2:=uh HS
    have hk3:zbn m=4:=rfl
    exact⟨j+1,by omega,by go_num,by rw[hk2,hk3,← hk1]; go_num,uh HB3⟩
   case measure=>simp[intOf]; omega
  ·have hjn:j=ms.length:=by omega
   subst hjn
   rw[List.take_length]
   go_wp2
   go_ret
   exact⟨rfl,hb⟩
theorem zpj (a0 a1 a2:Value) (m:Ver) (L:Nat) (w:World) (h:zse.R w [a0,a1,a2] m) (hL:L<=1048576) :
  Calls prog 44 #[.agg #[a0,a1,a2],.int .i64 L] w fun e w'=>e = .returned (.int .i64 (szI L (zbY m)))/\Below w.heap.size w w':=by
 obtain⟨q,hq,h0,h1⟩:=h
 injection hq with e0 hq; injection hq with e1 hq; injection hq with e2 hq
 subst e0; subst e1; subst e2
 clear hq
 unfold maxLen at h0
 by_cases n1:m.doc.size<=L
 ·have H1:Hid (∀ o,Calls _ _ _ (w.alloc o) _):=fun o=>zoG a2 m.touched (L - m.doc.size) _ (h1.below (zag w o)) (by omega)
  have hZ:szI L (zbY m)=szI (L - m.doc.size) (zih m.touched):=by
   unfold zbY szI
   by_cases hz:zih m.touched<=L - m.doc.size
   ·rw[yg hz,yg (by omega)]; omega
   ·rw[yf hz,yf (by omega)]
  rw[hZ]
  have hge:=zt2 (L - m.doc.size) (zih m.touched)
  have hle:=zt3 (L - m.doc.size) (zih m.touched)
  have hLI:((L - m.doc.size:Nat) : Int)=(L:Int) - (m.doc.size:Int):=by omega
  rw[hLI] at H1 hle
  generalize szI (L - m.doc.size) (zih m.touched)=z at *
  clear h1 hZ hLI
  go_enter func44,ntmps44
  go_wp2_with fail
  refine (uh H1 _).mono ?_
  rintro e w1 ⟨rfl,b1⟩
  have B1:=zab (zaa (zag w _) b1)
  clear b1 H1
  by_cases hz:z < 0
  ·have:z = -1:=by omega
   subst this
   clear hz hge hle
   go_wp2
   go_ret
   exact⟨rfl,uh B1⟩
  ·go_wp2
   go_ret
   exact⟨rfl,uh B1⟩
 ·rw[zkx (by unfold zbY; omega)]
  go_enter func44,ntmps44
  go_wp2
  go_ret
  exact⟨rfl,zag w _⟩
theorem zmS (v:Value) (ms:List Ver) (L:Nat) (w:World) (h:zoF zse w v ms) (hL:L<=1048576) :
  Calls prog 20 #[v,.int .i64 L] w fun e w'=>e = .returned (.int .i64 (szI L (za2 ms)))/\Below w.heap.size w w':=by
 have H:=zab h
 obtain⟨hm,a,cap,rfl,hrow⟩:=h
 unfold maxLen at hm
 clear hrow
 by_cases h0:L < ms.length
 ·go_enter func20,ntmps20
  go_wp2
  go_ret
  exact⟨zb6 (zkx (by unfold za2; omega)).symm,yH _ _⟩
 ·go_enter func20,ntmps20
  go_wp2
  go_loopw [1,5] (fun l i wr=>∃ k:Nat,k<=ms.length/\i = .int .i64 k/\ms.length+((ms.take k).map zbY).sum<=L/\l = .int .i64 ((L - (ms.length+((ms.take k).map zbY).sum) : Nat) : Int)/\Below w.heap.size w wr) (fun _ i _=>ms.length - (intOf i).toNat)
  case atStart=>exact⟨0,yt _,rfl,by simp; omega,by simp; omega,yH _ _⟩
  case round=>
   obtain⟨k,hk,rfl,hle,rfl,hb⟩:=hrel
   by_cases hlt:k < ms.length
   ·have ht:=zbU zbY ms k ms[k] (yx hlt)
    have hts:=zcH (ms.map zbY) (k+1)
    rw[← List.map_take] at hts
    obtain⟨_,a',cap',he,hrow⟩:=(uh H).below hb
    injection he with he1 he2 he3; subst he1; subst he3; clear he2
    obtain⟨b,o,rfl,vs,hR,hc⟩:=hrow k ms[k] (yx hlt)
    obtain⟨a0,a1,a2,rfl⟩:=zsx (zse.len hR)
    have c0:wr.cell? ⟨b,o+k*3,none⟩=_:=hc 0 _ rfl
    have c1:wr.cell? ⟨b,o+k*3+1,none⟩=_:=hc 1 _ rfl
    have c2:wr.cell? ⟨b,o+k*3+2,none⟩=_:=hc 2 _ rfl
    have HM:=zab (zpj a0 a1 a2 ms[k] (L - (ms.length+((ms.take k).map zbY).sum)) wr hR (by omega))
    clear hrow hc hR
    have HS:Hid (za2 ms=ms.length+(ms.map zbY).sum):=rfl
    generalize (ms.map zbY).sum=T9 at *
    generalize ((ms.take k).map zbY).sum=T at *
    have hT2:∃ T2,((ms.take (k+1)).map zbY).sum=T2:=⟨_,rfl⟩
    obtain⟨T2,hT2⟩:=hT2
    rw[hT2] at ht hts
    have HT:=zab hT2
    clear hT2
    generalize zbY ms[k]=z at *
    by_cases hn:ms.length+T+z<=L
    ·rw[zp1 (by omega)] at HM
     go_wp2_with fail
     refine (uh HM).mono ?_
     rintro e w1 ⟨rfl,b1⟩
     have B1:=zab (zaa hb b1)
     clear HM b1 hb c0 c1 c2
     go_wp2
     go_roundw
     case rel=>exact⟨k+1,by omega,by go_num,by rw[uh HT]; omega,by rw[uh HT]; go_num,uh B1⟩
     case measure=>simp[intOf]; omega
    ·rw[zkx (by omega)] at HM
     go_wp2_with fail
     refine (uh HM).mono ?_
     rintro e w1 ⟨rfl,b1⟩
     have B1:=zab (zaa hb b1)
     clear HM b1 hb c0 c1 c2
     go_wp2
     go_ret
     exact⟨zb6 (zkx (by rw[uh HS]; omega)).symm,uh B1⟩
   ·have hk':k=ms.length:=by omega
    subst hk'
    rw[List.take_length] at hle ⊢
    go_wp2
    go_ret
    exact⟨zb6 (zp1 (n:=za2 ms) hle).symm,hb⟩
theorem zpk (a0 a1 a2:Value) (m:Ver) (w:World) (h:zse.R w [a0,a1,a2] m) (hs:zbY m<=1048576) :
  Calls prog 52 #[.agg #[a0,a1,a2]] w fun e w'=>∃ b0 b1 b2 ib,e = .returned (.agg #[b0,b1,b2])/\zeS.E w' [b0,b1,b2] m ib/\Fsh (w.heap.size+1) ib/\Below w.heap.size w w':=by
 obtain⟨q,hq,_,h1⟩:=h
 injection hq with e0 hq
 subst e0
 injection hq with e1 hq
 subst e1
 injection hq with e2 hq
 subst e2
 have hl:m.touched.length<=1048576:=by unfold zbY zih at hs; omega
 clear hs hq
 have H1:=zab h1
 clear h1
 go_enter func52,ntmps52
 go_wp2_with fail
 have hA:=zwj w (Obj.cells #[Value.int IntKind.i64 m.no,Value.string m.doc,a2] 88) (Obj.cells #[Value.int IntKind.i64 0,Value.string ⟨#[]⟩,Value.slice none 0 0] 57) (Obj.cells #[Value.int IntKind.i64 m.no,Value.string m.doc,Value.slice none 0 0] 57)
 generalize (((w.alloc (Obj.cells #[Value.int IntKind.i64 m.no,Value.string m.doc,a2] 88)).alloc (Obj.cells #[Value.int IntKind.i64 0,Value.string ⟨#[]⟩,Value.slice none 0 0] 57)).alloc (Obj.cells #[Value.int IntKind.i64 m.no,Value.string m.doc,Value.slice none 0 0] 57))=wA at *
 refine (zoQ a2 m.touched wA ((uh H1).below hA.bel) hl).mono ?_
 rintro e w1 ⟨v',bl,rfl,ho,hf,b1⟩
 obtain⟨xa,xc,rfl,_,_⟩:=ho.form
 have hsz:=hA.size
 have k0:=(b1.block w.heap.size (by omega)).trans hA.k0
 have k1:=(b1.block (w.heap.size+1) (by omega)).trans hA.k1
 have k2:=(b1.block (w.heap.size+1+1) (by omega)).trans hA.k2
 have c20:w1.cell? ⟨w.heap.size+1+1,0,none⟩=some (.int .i64 m.no):=yF k2 0
 have c21:w1.cell? ⟨w.heap.size+1+1,1,none⟩=some (.string m.doc):=yF k2 1
 have c22:w1.cell? ⟨w.heap.size+1+1,2,none⟩=some (.slice none 0 0):=yF k2 2
 have c10:w1.cell? ⟨w.heap.size+1,0,none⟩=some (.int .i64 0):=yF k1 0
 have c11:w1.cell? ⟨w.heap.size+1,1,none⟩=some (.string ⟨#[]⟩):=yF k1 1
 have c12:w1.cell? ⟨w.heap.size+1,2,none⟩=some (.slice none 0 0):=yF k1 2
 have f2:=yI k2
 have f1:=yI k1
 have HB:=zab (zaa hA.bel b1)
 have HO:=zab ho
 have HF:=zab hf
 have HK:=zab k1
 clear b1 ho hf hA H1 k0 k1 k2
 go_wp2
 refine bodyPost_ret (results_cell_row rfl _ _ (w.heap.size+1) 57 #[_,_,_] (0,0) _ rfl (zat (w:=putN w1 (w.heap.size+1+1) 2 [_]) ((za9 (by omega) _ _).trans (uh HK)) [_,_,_] rfl) underlying57 rfl (by kernel_rfl)) rfl ?_
 have n1:=(uh HF).not (g:=w.heap.size+1) (by omega)
 have n2:=(uh HF).not (g:=w.heap.size+1+1) (by omega)
 refine⟨_,_,_,bl,rfl,⟨_,rfl,((uh HO).putN n2 [_] 2).putN n1 [_,_,_] 0⟩,(uh HF).mono (by omega),?_⟩
 exact zah (g:=w.heap.size+1) (zah (g:=w.heap.size+1+1) (uh HB) (by omega) [_] 2) (by omega) [_,_,_] 0
theorem zvy:(prog.info? 57).map (fun i=>(i.zero,i.size,i.bytes))=some (some (.agg #[.int .i64 0,.string ByteArray.empty,.slice none 0 0]),3,48):=by kernel_rfl
theorem zmT (v:Value) (ms:List Ver) (w:World) (h:zoF zse w v ms) (hs:za2 ms<=1048576) :
  Calls prog 25 #[v] w fun e w'=>∃ v' bl,e = .returned v'/\zbt zeS w' v' ms bl/\Fsh w.heap.size bl/\Below w.heap.size w w':=by
 have hl:ms.length<=1048576:=by unfold za2 at hs; omega
 have hsz:∀ k (hk:k < ms.length),zbY ms[k]<=1048576:=fun k hk=>by
  have h1:=zbU zbY ms k ms[k] (yx hk)
  have h2:=zcH (ms.map zbY) (k+1)
  rw[← List.map_take] at h2
  unfold za2 at hs; omega
 have HZ:=zab hsz
 clear hs hsz
 have H:=zab h
 obtain⟨hm,a,cap,rfl,hrow⟩:=h
 clear hrow hm
 obtain⟨i0,hi,hz0,hz1,hz2⟩:=info_parts zvy
 go_enter func25,ntmps25
 go_wp2_with (at_make; refine wpList_make_full _ rfl _ _ 33 rfl 0 57 i0 (.agg #[.int .i64 0,.string ByteArray.empty,.slice none 0 0]) 3 underlying33 hi hz0 hz1 .i64 .i64 _ _ ms.length rfl rfl rfl rfl (by rw[hz2]; omega) (by unfold maxLen; omega) (yt _) ?_)
 intro w1 hown hgrow
 have hbel:Below w.heap.size w w1:=(yH _ _).grown hgrow (ye _) (by intro k hk; cases hk)
 have hP:zic zeS w1 w.heap.size ms.length ms.length [] []:=zic.start hown
 have hg1:=hP.lt.1
 have HP:=zab hP
 have HB:=zab hbel
 clear hgrow hi hz0 hz1 hz2 hown hP hbel
 go_wp2
 go_loopw [4] (fun i wr=>∃ k:Nat,k<=ms.length/\i = .int .i64 k/\Below w.heap.size w wr/\∃ bl,zic zeS wr w.heap.size ms.length ms.length (ms.take k) bl/\Fsh (w.heap.size+1) bl) (fun i _=>ms.length - (intOf i).toNat)
 case atStart=>exact⟨0,yt _,rfl,uh HB,[],uh HP,Fsh.nil _⟩
 case round=>
  obtain⟨k,hk,rfl,hb,bl,hP,hF⟩:=hrel
  by_cases hlt:k < ms.length
  ·have hgr:=hP.lt.1
   obtain⟨_,a',cap',he,hrow⟩:=(uh H).below hb
   injection he with he1 he2 he3; subst he1; subst he3; clear he2
   obtain⟨b,o,rfl,vs,hR,hc⟩:=hrow k ms[k] (yx hlt)
   obtain⟨a0,a1,a2,rfl⟩:=zsx (zse.len hR)
   have c0:wr.cell? ⟨b,o+k*3,none⟩=_:=hc 0 _ rfl
   have c1:wr.cell? ⟨b,o+k*3+1,none⟩=_:=hc 1 _ rfl
   have c2:wr.cell? ⟨b,o+k*3+2,none⟩=_:=hc 2 _ rfl
   have HM:=zab (zpk a0 a1 a2 ms[k] wr hR (uh HZ k hlt))
   have hkl:(ms.take k).length=k:=by rw[ym]; omega
   have HPR:=zab hP
   have HFB:=zab hF
   have HBR:=zab hb
   have HKL:=zab hkl
   clear hrow hc hR hP hF hb hkl
   go_wp2_with fail
   refine (uh HM).mono ?_
   rintro e w2 ⟨b0,b1,y2,ib,rfl,hE,hFi,b2⟩
   have P2:=(uh HPR).below b2
   have hkl:=uh HKL
   have hlt':(ms.take k).length < ms.length:=by rw[hkl]; exact hlt
   obtain⟨u0,d0⟩:=P2.cell hlt' 0 (by decide)
   rw[hkl] at d0
   have d0:w2.cell? ⟨w.heap.size,k*3,none⟩=some u0:=d0
   obtain⟨u1,d1⟩:=P2.cell hlt' 1 (by decide)
   rw[hkl] at d1
   have d1:w2.cell? ⟨w.heap.size,k*3+1,none⟩=some u1:=d1
   obtain⟨u2,d2⟩:=P2.cell hlt' 2 (by decide)
   rw[hkl] at d2
   have d2:w2.cell? ⟨w.heap.size,k*3+2,none⟩=some u2:=d2
   have fz:=P2.frozen
   have hng:w.heap.size ∉ bl:=(uh HFB).not (by omega)
   have hngi:w.heap.size ∉ ib:=hFi.not (by omega)
   have HPN:=zab (P2.put hlt' hng hE hngi)
   have HFN:=zab ((uh HFB).app (C:=wr.heap.size+1) (fun b hb=>by have:=(uh HPR).lt.2 b hb; omega) hFi (by omega))
   have HBN:=zab (zaa (uh HBR) b2)
   have hE0:=hE
   obtain⟨q0,hbs,hE2⟩:=hE0
   injection hbs with e0 hbs
   subst e0
   injection hbs with e1 hbs
   subst e1
   injection hbs with e2 hbs
   subst e2
   clear hbs
   obtain⟨xa0,xc0,rfl,_,_⟩:=hE2.form
   clear hE2
   rw[hkl] at HPN
   clear P2 hE hFi b2 HM hng hngi HPR HFB HBR hkl hlt' HKL
   go_wp2
   go_roundw
   case rel=>exact⟨k+1,by omega,by go_num,zah (uh HBN) (ye _) [_,_,_] (k*3),_,by rw[List.take_add_one,yx hlt]; exact uh HPN,uh HFN⟩
   case measure=>simp[intOf]; omega
  ·have hk':k=ms.length:=by omega
   subst hk'
   rw[List.take_length] at hP
   go_wp2
   go_ret
   exact⟨_,_,rfl,hP.full rfl,hF.cons (ye _) (by omega),hb⟩
def zra (w:World) (v:Value) (h:List Ver) : Prop:=∃ p,v = .agg #[p]/\zoF zse w p h
theorem zra.below {w w':World} {v:Value} {h:List Ver} (ho:zra w v h) (hb:Below w.heap.size w w') : zra w' v h:=by
 obtain⟨p,hv,h1⟩:=ho
 exact⟨p,hv,h1.below hb⟩
theorem zpl (v:Value) (h:List Ver) (w:World) (hr:zra w v h) :
  Calls prog 5 #[v,.int .i64 1048576] w fun e w'=>e = .returned (.int .i64 (szI 1048576 (za2 h)))/\Below w.heap.size w w':=by
 obtain⟨p,rfl,h1⟩:=hr
 have H1:Hid (∀ o,Calls _ _ _ (w.alloc o) _):=fun o=>zmS p h 1048576 _ (h1.below (zag w o)) (by omega)
 have hge:=zt2 1048576 (za2 h)
 have hle:=zt3 1048576 (za2 h)
 generalize szI 1048576 (za2 h)=z at *
 clear h1
 go_enter func5,ntmps5
 go_wp2_with fail
 refine (uh H1 _).mono ?_
 rintro e w1 ⟨rfl,b1⟩
 have B1:=zab (zaa (zag w _) b1)
 clear b1 H1
 by_cases hz:z < 0
 ·have:z = -1:=by omega
  subst this
  clear hz hge hle
  go_wp2
  go_ret
  exact⟨rfl,uh B1⟩
 ·go_wp2
  go_ret
  exact⟨rfl,uh B1⟩
theorem zpm (v:Value) (h:List Ver) (w:World) (hr:zra w v h) (hs:za2 h<=1048576) :
  Calls prog 7 #[v] w fun e w'=>∃ p bl,e = .returned (.agg #[p])/\zbt zeS w' p h bl/\Fsh w.heap.size bl/\Below w.heap.size w w':=by
 obtain⟨p,rfl,h1⟩:=hr
 have H1:=zab h1
 clear h1
 go_enter func7,ntmps7
 go_wp2_with fail
 have hA:=zwj w (Obj.cells #[p] 24) (Obj.cells #[Value.slice none 0 0] 35) (Obj.cells #[Value.slice none 0 0] 35)
 generalize (((w.alloc (Obj.cells #[p] 24)).alloc (Obj.cells #[Value.slice none 0 0] 35)).alloc (Obj.cells #[Value.slice none 0 0] 35))=wA at *
 refine (zmT p h wA ((uh H1).below hA.bel) hs).mono ?_
 rintro e w1 ⟨v',bl,rfl,ho,hf,b1⟩
 obtain⟨xa,xc,rfl,_,_⟩:=ho.form
 have hsz:=hA.size
 have k0:=(b1.block w.heap.size (by omega)).trans hA.k0
 have k1:=(b1.block (w.heap.size+1) (by omega)).trans hA.k1
 have k2:=(b1.block (w.heap.size+1+1) (by omega)).trans hA.k2
 have c20:w1.cell? ⟨w.heap.size+1+1,0,none⟩=some (.slice none 0 0):=yF k2 0
 have c10:w1.cell? ⟨w.heap.size+1,0,none⟩=some (.slice none 0 0):=yF k1 0
 have f2:=yI k2
 have f1:=yI k1
 have HB:=zab (zaa hA.bel b1)
 have HO:=zab ho
 have HF:=zab hf
 have HK:=zab k1
 clear b1 ho hf hA H1 k0 k1 k2
 go_wp2
 refine bodyPost_ret (results_cell_row rfl _ _ (w.heap.size+1) 35 #[_] (0,0) _ rfl (zat (w:=putN w1 (w.heap.size+1+1) 0 [_]) ((za9 (by omega) _ _).trans (uh HK)) [_] rfl) underlying35 rfl (by kernel_rfl)) rfl ?_
 have n1:=(uh HF).not (g:=w.heap.size+1) (by omega)
 have n2:=(uh HF).not (g:=w.heap.size+1+1) (by omega)
 refine⟨_,bl,rfl,((uh HO).putN n2 [_] 0).putN n1 [_] 0,(uh HF).mono (by omega),?_⟩
 exact zah (g:=w.heap.size+1) (zah (g:=w.heap.size+1+1) (uh HB) (by omega) [_] 0) (by omega) [_] 0
end Go.Proofs.YtekpghcckdjnhaaGreatDoor
namespace Go.Proofs.YtekpghcckdjnhaaGreatDoor
open Go.ChangeShapes Go.WideShapes Go.ChangeAt Go.RowKit Go.Deep Go.Proofs.Tryz
section
variable {H:Type} {enc:TypeId×Value->H} {w:World} {sp:Nat->Bool} {held:Bool}
instance : Inhabited Ver := ⟨⟨0, ByteArray.empty, []⟩⟩
theorem zyC {α:Type} {l:List α} (h:l.length=1) : ∃ a,l=[a]:=by
 match l,h with
 | [a],_=>exact⟨a,rfl⟩
theorem ztv {n:Nat} {cs:List Value} {y:DataW H×List MemPlace} (h:DataW.trod enc prog w 0 sp held n 88 cs=some y) : ∃ m,zse.R w cs m:=by
 obtain⟨xs,k,_,_,hl,hxl,hf⟩:=DataW.trod_struct underlying88 h
 have hl3:cs.length=3:=hl.trans (by kernel_rfl)
 obtain⟨a0,a1,a2,rfl⟩:=zyx hl3
 obtain⟨y0,y1,y2,rfl⟩:=zyx hxl
 have h0:DataW.trod enc prog w 0 sp held k 3 (List.take (prog.cellsOf 3) [a0,a1,a2])=some y0:=hf 0 _ rfl
 have h1:DataW.trod enc prog w 0 sp held k 9 (List.take (prog.cellsOf 9) [a1,a2])=some y1:=hf 1 _ rfl
 have h2:DataW.trod enc prog w 0 sp held k 55 (List.take (prog.cellsOf 55) [a2])=some y2:=hf 2 _ rfl
 rw[show prog.cellsOf 3=1 from by kernel_rfl] at h0
 rw[show prog.cellsOf 9=1 from by kernel_rfl] at h1
 rw[show prog.cellsOf 55=1 from by kernel_rfl] at h2
 obtain⟨z0,e0⟩:=zsy underlying3 (h0:DataW.trod enc prog w 0 sp held k 3 [a0]=some y0)
 obtain⟨s1,e1,z1⟩:=znt underlying9 (h1:DataW.trod enc prog w 0 sp held k 9 [a1]=some y1)
 obtain⟨q,ss,hq,hr⟩:=zp2 (h2:DataW.trod enc prog w 0 sp held k 55 [a2]=some y2)
 cases e0; cases e1; cases hq
 exact⟨⟨z0,s1,ss⟩,_,rfl,z1,hr⟩
theorem zrb {fuel:Nat} {cs:List Value} {x:DataW H×List MemPlace} (h:DataW.trod enc prog w 0 sp held fuel 22 cs=some x) : ∃ v xs,cs=[v]/\zoF zse w v xs:=
 zky zse underlying22 (by kernel_rfl) (by decide) (fun _ _ _ h=>ztv h) h
theorem ztw {n:Nat} {cs:List Value} {y:DataW H×List MemPlace} (h:DataW.trod enc prog w 0 sp held n 24 cs=some y) : ∃ a hb,cs=[a]/\zra w (.agg #[a]) hb:=by
 obtain⟨xs,k,_,_,hl,hxl,hf⟩:=DataW.trod_struct underlying24 h
 have hl3:cs.length=1:=hl.trans (by kernel_rfl)
 obtain⟨a0,rfl⟩:=zyC hl3
 obtain⟨y0,rfl⟩:=zyC hxl
 have h0:DataW.trod enc prog w 0 sp held k 22 (List.take (prog.cellsOf 22) [a0])=some y0:=hf 0 _ rfl
 rw[show prog.cellsOf 22=1 from by kernel_rfl] at h0
 obtain⟨p,ws,e0,r0⟩:=zrb (h0:DataW.trod enc prog w 0 sp held k 22 [a0]=some y0)
 cases e0
 exact⟨_,ws,rfl,_,rfl,r0⟩
end
end Go.Proofs.YtekpghcckdjnhaaGreatDoor
