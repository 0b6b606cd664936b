import Derived.Test.YtkjcgkfejdogbaaGreatDoorBz21
import Derived.Test.YtkjcgkfejdogbaaGreatDoorBz19
namespace Go.Proofs.YtkjcgkfejdogbaaGreatDoor
open Go.RowKit
theorem opd_no61 (r:Bs) : pOpd (61 :: r)=none:=by
 rw[pOpd_con,if_neg (by decide),if_neg (by decide),if_neg (by decide),if_neg (by decide),if_neg (by decide),if_neg (by decide)]
 rw[show pInt (61 :: r)=none from rfl]; rfl
theorem sign_cmp {n:Int} (h:1≤n∧n≤6) {u:Bs} (hu:∃ o t,pOpd u=some (o,t)) : pCmp (signT n++u)=some (n,u):=by
 obtain⟨c,r,rfl,hc⟩ : ∃ c r,u=c :: r∧c≠61:=by
  obtain⟨o,t,ho⟩:=hu
  cases u with
  | nil=>cases ho
  | cons c r=>exact⟨c,r,rfl,fun e=>by rw[e,opd_no61] at ho; cases ho⟩
 have hn:n=1∨n=2∨n=3∨n=4∨n=5∨n=6:=by omega
 rcases hn with rfl | rfl | rfl | rfl | rfl | rfl
 ·rfl
 ·rfl
 ·show (if c=61 then some ((4:Int),r) else some (3,c :: r))=_
  rw[if_neg hc]
 ·rfl
 ·show (if c=61 then some ((6:Int),r) else some (5,c :: r))=_
  rw[if_neg hc]
 ·rfl
theorem sign_end {n:Int} (h:1≤n∧n≤6) (u:Bs) : RefEnd (signT n++u):=fun c r e=>by
 have hn:n=1∨n=2∨n=3∨n=4∨n=5∨n=6:=by omega
 rcases hn with rfl | rfl | rfl | rfl | rfl | rfl <;> (injection e with e _; rw[← e]; decide)
theorem pPr_test {n:Nat} {l t:Bs} {ops:List PFOp} (h:pTest l=some (ops,t)) : pPr (n+1) l=some ((ops,0),t):=by
 cases l with
 | nil=>cases h
 | cons c r=>
  have hc:¬ (c=33∨c=40):=fun e=>by rw[pTest_no r e] at h; cases h
  rw[pPr_con,if_neg (fun e=>hc (.inl e)),if_neg (fun e=>hc (.inr e)),h]; rfl
theorem tail_end (f:Bs→Option (XC×Bs)) (c:UInt8) (k:Int) (m:Nat) (x:XC) {t:Bs} (ht:∀ a r,t=a :: r→a≠c) : pTail f c k (m+1) x t=some (x,t):=by
 cases t with
 | nil=>exact pTail_nil ..
 | cons a r=>rw[pTail_con,if_neg (ht a r rfl)]
theorem many_one {f:Bs→Option (XC×Bs)} (c:UInt8) (k:Int) {l t:Bs} {x:XC} (h:f l=some (x,t)) (ht:∀ a r,t=a :: r→a≠c) : pMany f c k l=some (x,t):=by
 unfold pMany
 rw[h]
 exact tail_end f c k _ x ht
theorem many_two {f:Bs→Option (XC×Bs)} (c:UInt8) (k:Int) {l q t:Bs} {x y:XC} (h:f l=some (x,c :: c :: q)) (h2:f q=some (y,t)) (ht:∀ a r,t=a :: r→a≠c) : pMany f c k l=some (joinX k x y,t):=by
 unfold pMany
 rw[h]
 show pTail f c k ((c :: c :: q).length+1) x (c :: c :: q)=_
 rw[pTail_con,if_pos rfl]
 simp only[if_true]
 rw[h2]
 exact tail_end f c k _ _ ht
theorem leaf_tru {o:PFOp} (h:fopOk o=true) (hp:parts o.k=0) (ht:(CT.mk o []).tru=true) : o.k=8:=by
 have h1:=parts_zero (fop_k h) hp
 have h2:isTru o.k=true:=ht
 unfold isTru at h2
 simp at h2
 omega
theorem leaf_val {o:PFOp} (h:fopOk o=true) (hp:parts o.k=0) (ht:(CT.mk o []).tru=false) : o.k≤7:=by
 have h1:=parts_zero (fop_k h) hp
 have h2:isTru o.k=false:=ht
 unfold isTru at h2
 simp at h2
 omega
theorem val_leaf {c:CT} (h:GC c) (ht:c.tru=false) : ∃ o,c = .mk o []∧fopOk o=true∧o.k≤7:=by
 cases h with
 | leaf h1 h2=>exact⟨_,rfl,h1,leaf_val h1 h2 ht⟩
 | @not o a h1 h2=>
  have h3:isTru o.k=false:=ht
  rw[h2] at h3; exact absurd h3 (by decide)
 | @cmp o a b h1 h2=>
  have h3:isTru o.k=false:=ht
  rw[h2] at h3; exact absurd h3 (by decide)
 | @two o a b h1 h2=>
  have h3:isTru o.k=false:=ht
  rcases h2 with h2 | h2 <;> (rw[h2] at h3; exact absurd h3 (by decide))
theorem opK_of {o:PFOp} (h:fopOk o=true) {k:Int} (hk:o.k=k) (h10:10≤k) : o=opK k:=by
 obtain⟨-,h2,h3,h4,h5,h6⟩:=fop_of h
 obtain⟨k',n,s,root,steps⟩:=o
 simp only at *
 subst hk
 have hr:isRefK k'=false:=by unfold isRefK; simp; omega
 obtain⟨rfl,rfl⟩:=h2 hr
 rw[h4 (by omega),num_of h5 (by omega) (by omega)]
 rfl
theorem cmO_of {o:PFOp} (h:fopOk o=true) (hk:o.k=9) : o=cmO o.n∧1≤o.n∧o.n≤6:=by
 obtain⟨-,h2,h3,h4,h5,h6⟩:=fop_of h
 obtain⟨k',n,s,root,steps⟩:=o
 simp only at *
 subst hk
 obtain⟨rfl,rfl⟩:=h2 rfl
 rw[h4 (by decide)]
 unfold numOk at h5
 rw[if_neg (by decide),if_pos rfl] at h5
 simp at h5
 exact⟨rfl,h5⟩
theorem pPr_txt {c:CT} (h:GC c) : c.tru=true→∀ t,EndT t→∀ n,c.txt.length < n→∃ d,pPr n (c.txt++t)=some ((c.fl,d),t):=by
 induction h with
 | @leaf o h1 h2=>
  intro ht t hE n hn
  obtain⟨m,rfl⟩ : ∃ m,n=m+1:=⟨n - 1,by omega⟩
  have hk:=leaf_tru h1 h2 ht
  obtain⟨-,-,h3,h4,h5,-⟩:=fop_of h1
  have hr:=pRef_ref h3 hE.ref
  have e:(CT.mk o []).txt=refT o:=by
   show leafT o=_
   unfold leafT
   rw[if_neg (by omega),if_neg (by omega),if_neg (by omega),if_neg (by omega),if_neg (by omega),if_neg (by omega)]
  rw[e]
  have ho:pOpd (refT o++t)=some (opR' 6 (o.root,o.steps),t):=by
   unfold refT at hr ⊢
   cases hb:o.root with
   | true=>
    rw[hb] at hr
    rw[if_pos rfl] at hr ⊢
    have hp':pRef (36 :: (o.steps.flatMap stTx++t))=_:=hr
    show pOpd (36 :: (o.steps.flatMap stTx++t))=_
    rw[pOpd_con,if_neg (by decide),if_neg (by decide),if_neg (by decide),if_neg (by decide),if_neg (by decide),if_pos (.inr rfl),hp']; rfl
   | false=>
    rw[hb] at hr
    rw[if_neg (by decide)] at hr ⊢
    have hp':pRef (64 :: (o.steps.flatMap stTx++t))=_:=hr
    show pOpd (64 :: (o.steps.flatMap stTx++t))=_
    rw[pOpd_con,if_neg (by decide),if_neg (by decide),if_neg (by decide),if_neg (by decide),if_neg (by decide),if_pos (.inl rfl),hp']; rfl
  have hT:pTest (refT o++t)=some ([o],t):=by
   unfold pTest
   rw[ho]
   simp only
   rw[hE.cmp]
   simp only
   rw[if_pos (show (opR' 6 (o.root,o.steps)).k=6 from rfl)]
   have hn0:=num_of h5 (by omega) (by omega)
   have hs0:=h4 (by omega)
   obtain⟨k,n,s,root,steps⟩:=o
   simp only at hk hn0 hs0
   subst hk hn0 hs0
   rfl
  exact⟨0,pPr_test hT⟩
 | @not o a h1 h2 h3 h4 ih=>
  intro ht t hE n hn
  obtain⟨m,rfl⟩ : ∃ m,n=m+1:=⟨n - 1,by omega⟩
  have e:(CT.mk o [a]).txt=33 :: a.txt:=by rw[CT.txt]
  have e2:(CT.mk o [a]).fl=a.fl++[o]:=by rw[CT.fl]
  rw[e] at hn ⊢
  rw[e2]
  obtain⟨d,hd⟩:=ih h4 t hE m (by simp at hn; omega)
  refine⟨d+1,?_⟩
  show pPr (m+1) (33 :: (a.txt++t))=_
  rw[pPr_con,if_pos rfl,hd,opK_of h1 h2 (by decide)]; rfl
 | @cmp o a b h1 h2 h3 h4 h5 h6 _ _=>
  intro ht t hE n hn
  obtain⟨m,rfl⟩ : ∃ m,n=m+1:=⟨n - 1,by omega⟩
  obtain⟨x,rfl,hx1,hx2⟩:=val_leaf h3 h5
  obtain⟨y,rfl,hy1,hy2⟩:=val_leaf h4 h6
  obtain⟨ho,hn1⟩:=cmO_of h1 h2
  have e:(CT.mk o [.mk x [],.mk y []]).txt=leafT x++(signT o.n++leafT y):=by
   rw[CT.txt,if_pos h2]
   rfl
  have e2:(CT.mk o [.mk x [],.mk y []]).fl=[x]++([y]++[o]):=by rw[CT.fl]; rfl
  rw[e,e2]
  have hb:=opd_leaf hy1 hy2 hE.ref
  have ha:=opd_leaf hx1 hx2 (sign_end hn1 (leafT y++t))
  have hT:pTest ((leafT x++(signT o.n++leafT y))++t)=some ([x,y,o],t):=by
   rw[List.append_assoc,List.append_assoc]
   unfold pTest
   rw[ha]
   simp only
   rw[sign_cmp hn1 ⟨_,_,hb⟩]
   simp only
   rw[hb]
   simp only
   rw[← ho]
  exact⟨0,pPr_test hT⟩
 | @two o a b h1 h2 h3 h4 h5 h6 iha ihb=>
  intro ht t hE n hn
  obtain⟨m,rfl⟩ : ∃ m,n=m+1:=⟨n - 1,by omega⟩
  have e2:(CT.mk o [a,b]).fl=a.fl++(b.fl++[o]):=by rw[CT.fl]
  have e:(CT.mk o [a,b]).txt=40 :: (a.txt++(jointT o.k++(b.txt++[41]))):=by
   rw[CT.txt,if_neg (by rcases h2 with h2 | h2 <;> rw[h2] <;> decide)]
  rw[e] at hn ⊢
  rw[e2]
  have hla:a.txt.length < m:=by simp at hn; omega
  have hlb:b.txt.length < m:=by simp at hn; omega
  have e41:EndT (41 :: t):=fun c r e=>by injection e with e _; rw[← e]; decide
  have n38:∀ x r,(41 :: t:Bs)=x :: r→x≠38:=fun x r e=>by injection e with e _; rw[← e]; decide
  have n124:∀ x r,(41 :: t:Bs)=x :: r→x≠124:=fun x r e=>by injection e with e _; rw[← e]; decide
  obtain⟨db,hb⟩:=ihb h6 (41 :: t) e41 m hlb
  have fin:∀ (j:Bs) (k:Int) (d:Nat),jointT o.k=j→o=opK k→pMany (pMany (pPr m) 38 10) 124 11 (a.txt++(j++(b.txt++41 :: t)))=some ((a.fl++b.fl++[opK k],d),41 :: t)→pPr (m+1) (40 :: (a.txt++(jointT o.k++(b.txt++[41])))++t)=some ((a.fl++(b.fl++[o]),d+1),t):=fun j k d hj ho hm=>by
   have e3:40 :: (a.txt++(jointT o.k++(b.txt++[41])))++t=40 :: (a.txt++(j++(b.txt++41 :: t))):=by rw[hj]; simp
   rw[e3,pPr_con,if_neg (by decide),if_pos rfl,hm]
   simp only[if_true]
   rw[List.append_assoc,← ho]
  rcases h2 with h2 | h2
  ·have e38:EndT (38 :: 38 :: (b.txt++41 :: t)):=fun c r e=>by injection e with e _; rw[← e]; decide
   obtain⟨da,ha⟩:=iha h5 _ e38 m hla
   have hm:=many_one 124 11 (many_two 38 10 ha hb n38) n124
   exact⟨_,fin [38,38] 10 _ (by rw[h2]; rfl) (opK_of h1 h2 (by decide)) hm⟩
  ·have e124:EndT (124 :: 124 :: (b.txt++41 :: t)):=fun c r e=>by injection e with e _; rw[← e]; decide
   obtain⟨da,ha⟩:=iha h5 _ e124 m hla
   have n124':∀ x r,(124 :: 124 :: (b.txt++41 :: t) : Bs)=x :: r→x≠38:=fun x r e=>by injection e with e _; rw[← e]; decide
   have hm:=many_two 124 11 (many_one 38 10 ha n124') (many_one 38 10 hb n38) n124
   exact⟨_,fin [124,124] 11 _ (by rw[h2]; rfl) (opK_of h1 h2 (by decide)) hm⟩
theorem pCd_txt {c:CT} (h:GC c) (ht:c.tru=true) {t:Bs} (hE:EndS t) {n:Nat} (hn:c.txt.length < n) : ∃ d,pCd n (c.txt++t)=some ((c.fl,d),t):=by
 have hE2:EndT t:=fun x r e=>by
  have:=hE x r e
  unfold E3 at this
  unfold isEnd
  revert this
  simp
  rintro (h | h) <;> simp[h]
 have n38:∀ x r,t=x :: r→x≠38:=fun x r e e2=>by have:=hE x r e; rw[e2] at this; exact absurd this (by decide)
 have n124:∀ x r,t=x :: r→x≠124:=fun x r e e2=>by have:=hE x r e; rw[e2] at this; exact absurd this (by decide)
 obtain⟨d,hd⟩:=pPr_txt h ht t hE2 n hn
 exact⟨d,many_one 124 11 (many_one 38 10 hd n38) n124⟩
theorem mi_back {h:Bool} {a:Int} (hr:rangeI a=true) (h0:h=false→a=0) : sMI (if h=true then sdec a else [])=some (h,a):=by
 cases h with
 | false=>rw[h0 rfl]; rfl
 | true=>
  rw[if_pos rfl]
  have hs:=sInt_sdec hr
  cases hq:sdec a with
  | nil=>rw[hq] at hs; cases hs
  | cons c r=>
   rw[hq] at hs
   show (sInt (c :: r)).map (fun n=>(true,n))=_
   rw[hs]; rfl
theorem sel_of {o:PSel} (h:selOk o=true) : (1≤o.k∧o.k≤5)∧plainT o.name=true∧rangeI o.a=true∧rangeI o.b=true∧rangeI o.c=true∧(o.k≠1→o.name=⟨#[]⟩)∧(o.k≠4→o.hasA=false∧o.hasB=false∧o.hasC=false)∧(o.hasA=false→o.k≠3→o.a=0)∧(o.hasB=false→o.b=0)∧(o.hasC=false→o.c=0)∧(o.k≠5→o.cond=[])∧(o.k=5→condOk o.cond=true):=by
 unfold selOk selB at h
 simp only[Bool.and_eq_true,decide_eq_true_eq] at h
 obtain⟨⟨⟨⟨⟨⟨⟨h1,h2⟩,h3⟩,h4⟩,h5⟩,h6⟩,⟨⟨⟨⟨⟨g1,g2⟩,g3⟩,g4⟩,g5⟩,g6⟩⟩,h7⟩:=h
 refine⟨⟨h1,h2⟩,h3,h4,h5,h6,fun e=>?_,fun e=>?_,fun e1 e2=>?_,fun e=>?_,fun e=>?_,fun e=>?_,fun e=>?_⟩
 ·rw[beq_eq_false_iff_ne.2 e,Bool.false_or] at g1; exact emp_of g1
 ·rw[beq_eq_false_iff_ne.2 e,Bool.false_or] at g2
  simp at g2
  exact⟨g2.1.1,g2.1.2,g2.2⟩
 ·rw[e1,Bool.false_or,beq_eq_false_iff_ne.2 e2,Bool.false_or] at g3; simpa using g3
 ·rw[e,Bool.false_or] at g4; simpa using g4
 ·rw[e,Bool.false_or] at g5; simpa using g5
 ·rw[beq_eq_false_iff_ne.2 e,Bool.false_or] at g6
  have:o.cond.length=0:=by have:=of_decide_eq_true g6; omega
  exact List.eq_nil_of_length_eq_zero this
 ·rw[e] at h7
  exact h7
theorem pSel_back {o:PSel} (h:selOk o=true) {t:Bs} (hE:EndS t) (hl:(selT o).length≤1000) : ∃ d,pSel 1001 (selT o++t)=some ((o,d),t):=by
 obtain⟨⟨h1,h2⟩,h3,h4,h5,h6,g1,g2,g3,g4,g5,g6,g7⟩:=sel_of h
 clear h
 obtain⟨k,name,hA,hB,hC,a,b,c,cond⟩:=o
 unfold selT sliceT at hl ⊢
 simp only at *
 have hc:k=1∨k=2∨k=3∨k=4∨k=5:=by omega
 rcases hc with rfl | rfl | rfl | rfl | rfl
 ·obtain⟨rfl,rfl,rfl⟩:=g2 (by decide)
  rw[g3 rfl (by decide),g4 rfl,g5 rfl,g6 (by decide),if_pos rfl]
  have hp:pStr (39 :: ((name.data.toList.flatMap quoB++[39])++t))=_:=pStr_quo h3 t
  refine⟨0,?_⟩
  show pSel 1001 (39 :: ((name.data.toList.flatMap quoB++[39])++t))=_
  rw[pSel_con,if_pos rfl,hp]
  show some ((nameS name.data.toList,0),t)=_
  unfold nameS
  rw[bsT_back]
 ·obtain⟨rfl,rfl,rfl⟩:=g2 (by decide)
  rw[g3 rfl (by decide),g4 rfl,g5 rfl,g6 (by decide),g1 (by decide),if_neg (by decide),if_pos rfl]
  exact⟨0,rfl⟩
 ·obtain⟨rfl,rfl,rfl⟩:=g2 (by decide)
  rw[g4 rfl,g5 rfl,g6 (by decide),g1 (by decide),if_neg (by decide),if_neg (by decide),if_pos rfl]
  have hs:=sInt_sdec h4
  have hp:=pIS_idx hs hE.noI hE.no58
  have hall:=sInt_all hs
  refine⟨0,?_⟩
  cases hq:sdec a with
  | nil=>exact absurd hq hall.1
  | cons x r=>
   rw[hq] at hp hall
   have hx:isI x=true:=List.all_eq_true.1 hall.2 x (List.mem_cons_self ..)
   rw[List.cons_append] at hp ⊢
   rw[pSel_is _ _ (.inl hx),hp]; rfl
 ·rw[g6 (by decide),g1 (by decide),if_neg (by decide),if_neg (by decide),if_neg (by decide),if_neg (by decide)]
  have ha:=mi_back h4 (fun e=>g3 e (by decide))
  have hb:=mi_back h5 g4
  refine⟨0,?_⟩
  generalize (if hA=true then sdec a else [])=p at *
  generalize (if hB=true then sdec b else [])=q at *
  have key:∀ u x,pIS (p++58 :: u)=some (x,t)→pSel 1001 (p++58 :: u)=some ((x,0),t):=fun u x hp=>by
   obtain⟨y,r,e,hy⟩:=sMI_hd ha u
   rw[e] at hp ⊢
   rw[pSel_is _ _ hy,hp]; rfl
  cases hC with
  | false=>
   rw[g5 rfl,if_neg (by decide),List.append_nil]
   rw[List.append_assoc,List.cons_append]
   exact key _ _ (pIS_two ha hb hE)
  | true=>
   have hcc:=mi_back (h:=true) h6 (fun e=>by cases e)
   rw[if_pos rfl] at hcc ⊢
   have e:(p++(58 :: (q++(58 :: sdec c))))++t=p++58 :: (q++58 :: (sdec c++t)):=by simp
   rw[e]
   exact key _ _ (pIS_three ha hb hcc hE)
 ·obtain⟨rfl,rfl,rfl⟩:=g2 (by decide)
  rw[g3 rfl (by decide),g4 rfl,g5 rfl,g1 (by decide)]
  rw[if_neg (by decide),if_neg (by decide),if_neg (by decide),if_pos rfl] at hl ⊢
  have hok:=condR_some cond
  rw[g7 rfl] at hok
  obtain⟨ct,hct⟩:=Option.isSome_iff_exists.1 hok
  obtain⟨c1,c2,c3⟩:=condR_good hct
  have e:cdT cond=ct.txt:=by unfold cdT; rw[hct]
  rw[e] at hl ⊢
  obtain⟨d,hd⟩:=pCd_txt c1 c3 hE (n:=1001) (by simp at hl; omega)
  refine⟨d,?_⟩
  show pSel 1001 (63 :: (ct.txt++t))=_
  rw[pSel_con,if_neg (by decide),if_neg (by decide),if_pos rfl,hd,c2]; rfl
def fsel (r:List PSel) : Bs:=r.flatMap fun x=>44 :: selT x
theorem selsU_list (s:PSel) (r:List PSel) : ∀ k,k≤r.length→selsU (s :: r) (k+1)=91 :: (selT s++fsel (r.take k))
 | 0,_=>by
  rw[selsU_next (by simp)]
  show []++(91 :: selT s)=91 :: (selT s++[])
  simp
 | k+1,hk=>by
  have hlt:k < r.length:=hk
  rw[selsU_next (by simp; omega),selsU_list s r k (by omega),if_neg (by omega),List.take_succ_eq_append_getElem hlt]
  unfold fsel
  rw[List.flatMap_append,List.flatMap_singleton]
  simp
theorem fsel_end (r:List PSel) (t:Bs) : EndS (fsel r++93 :: t):=by
 intro c q e
 cases r with
 | nil=>injection e with e _; rw[← e]; decide
 | cons x y=>injection e with e _; rw[← e]; decide
theorem fsel_len:∀ r:List PSel,r.length≤(fsel r).length
 | []=>Nat.zero_le _
 | x :: r=>by
  have:=fsel_len r
  show _≤((44 :: selT x)++fsel r).length
  rw[List.length_append,List.length_cons,List.length_cons]
  omega
def OkS (x:PSel) : Prop:=selOk x=true∧(selT x).length≤1000
theorem pSMore_back:∀ (r:List PSel),(∀ x∈r,OkS x)→∀ (x:XL) (t:Bs) (m:Nat),r.length < m→∃ d,pSMore 1001 m x (fsel r++93 :: t)=some ((x.1++r,d),93 :: t)
 | [],_,x,t,m,hm=>by
  obtain⟨k,rfl⟩ : ∃ k,m=k+1:=⟨m - 1,by simp at hm; omega⟩
  refine⟨x.2,?_⟩
  show pSMore 1001 (k+1) x (93 :: t)=_
  rw[pSMore_con,if_neg (by decide),List.append_nil]
 | s :: r,h,x,t,m,hm=>by
  obtain⟨k,rfl⟩ : ∃ k,m=k+1:=⟨m - 1,by simp at hm; omega⟩
  obtain⟨hs,hsl⟩:=h s (List.mem_cons_self ..)
  obtain⟨d,hd⟩:=pSel_back hs (fsel_end r t) hsl
  obtain⟨d2,hd2⟩:=pSMore_back r (fun y hy=>h y (List.mem_cons_of_mem _ hy)) (joinS x (s,d)) t k (by simp at hm; omega)
  refine⟨d2,?_⟩
  have e:fsel (s :: r)++93 :: t=44 :: (selT s++(fsel r++93 :: t)):=by
   show ((44 :: selT s)++fsel r)++93 :: t=_
   simp
  rw[e,pSMore_con,if_pos rfl,hd]
  simp only
  rw[hd2]
  show some ((x.1++[s]++r,d2),_)=_
  rw[List.append_assoc]; rfl
theorem pBr_back {s:PSel} {r:List PSel} (hs:OkS s) (hr:∀ x∈r,OkS x) (t:Bs) : ∃ d,pBr 1001 (selT s++(fsel r++93 :: t))=some ((s :: r,d),t):=by
 obtain⟨d,hd⟩:=pSel_back hs.1 (fsel_end r t) hs.2
 obtain⟨d2,hd2⟩:=pSMore_back r hr ([s],d) t ((fsel r++93 :: t).length+1) (by have:=fsel_len r; rw[List.length_append]; omega)
 refine⟨d2,?_⟩
 unfold pBr pSels
 rw[hd]
 simp only
 rw[hd2]
 simp only[if_true]
 rfl
def OkG (g:PSeg) : Prop:=1≤g.sels.length∧∀ x∈g.sels,OkS x
theorem segP_back {g:PSeg} (h:OkG g) (t:Bs) : ∃ d,segP (pBr 1001) (segX g++t)=some ((g,d),t):=by
 obtain⟨deep,sels⟩:=g
 obtain⟨h1,h2⟩:=h
 simp only at h1 h2
 cases sels with
 | nil=>simp at h1
 | cons s r=>
  obtain⟨d,hd⟩:=pBr_back (h2 s (List.mem_cons_self ..)) (fun x hx=>h2 x (List.mem_cons_of_mem _ hx)) t
  refine⟨d,?_⟩
  have e:segX ⟨deep,s :: r⟩++t=deepT ⟨deep,s :: r⟩++91 :: (selT s++(fsel r++93 :: t)):=by
   unfold segX
   rw[show (s :: r).length=r.length+1 from rfl,selsU_list s r r.length (Nat.le_refl _),List.take_length]
   simp
  rw[e]
  generalize selT s++(fsel r++93 :: t)=u at hd
  have hb:∀ dp,brP (pBr 1001) dp u=some ((⟨dp,s :: r⟩,d),t):=fun dp=>by unfold brP; rw[hd]; rfl
  cases deep with
  | false=>
   show (if (91:UInt8)=91 then brP (pBr 1001) false u else if (91:UInt8)=46 then dotP (pBr 1001) u else none)=_
   rw[if_pos rfl,hb]
  | true=>
   show (if (46:UInt8)=91 then brP (pBr 1001) false (46 :: 91 :: u) else if (46:UInt8)=46 then dotP (pBr 1001) (46 :: 91 :: u) else none)=_
   rw[if_neg (by decide),if_pos rfl,dotP_con,if_pos rfl]
   simp only[if_true]
   exact hb true
theorem segX_one (g:PSeg) : 1≤(segX g).length:=by unfold segX; simp; omega
theorem segs_back:∀ (ms:List PSeg),(∀ g∈ms,OkG g)→∀ (x:XP) (m:Nat),ms.length < m→∃ d,segsP (pBr 1001) m x (ms.flatMap segX)=some (x.1++ms,d)
 | [],_,x,m,hm=>by
  obtain⟨k,rfl⟩ : ∃ k,m=k+1:=⟨m - 1,by simp at hm; omega⟩
  refine⟨x.2,?_⟩
  show segsP (pBr 1001) (k+1) x []=_
  rw[segsP,List.append_nil]
 | g :: r,h,x,m,hm=>by
  obtain⟨k,rfl⟩ : ∃ k,m=k+1:=⟨m - 1,by simp at hm; omega⟩
  obtain⟨d,hd⟩:=segP_back (h g (List.mem_cons_self ..)) (r.flatMap segX)
  obtain⟨d2,hd2⟩:=segs_back r (fun y hy=>h y (List.mem_cons_of_mem _ hy)) (joinG x (g,d)) k (by simp at hm; omega)
  refine⟨d2,?_⟩
  rw[List.flatMap_cons]
  have h1:=segX_one g
  cases hq:segX g++r.flatMap segX with
  | nil=>
   have hz:=congrArg List.length hq
   rw[List.length_append,List.length_nil] at hz
   omega
  | cons c q=>
   rw[hq] at hd
   rw[segsP,hd]
   simp only
   rw[hd2]
   show some (x.1++[g]++r,d2)=_
   rw[List.append_assoc]; rfl
theorem flat_mem_len {α:Type} (f:α→Bs) : ∀ (l:List α) (x:α),x∈l→(f x).length≤(l.flatMap f).length
 | y :: r,x,h=>by
  rw[List.flatMap_cons,List.length_append]
  rcases List.mem_cons.1 h with rfl | h
  ·omega
  ·have:=flat_mem_len f r x h; omega
theorem flat_all_len {α:Type} (f:α→Bs) (hf:∀ x,1≤(f x).length) : ∀ (l:List α),l.length≤(l.flatMap f).length
 | []=>Nat.zero_le _
 | y :: r=>by
  rw[List.flatMap_cons,List.length_append,List.length_cons]
  have h1:=flat_all_len f hf r
  have h2:=hf y
  omega
theorem segX_sel {g:PSeg} {x:PSel} (hx:x∈g.sels) : (selT x).length≤(segX g).length:=by
 obtain⟨deep,sels⟩:=g
 simp only at hx
 cases sels with
 | nil=>cases hx
 | cons s r=>
  have e:segX ⟨deep,s :: r⟩=deepT ⟨deep,s :: r⟩++91 :: (selT s++(fsel r++[93])):=by
   unfold segX
   rw[show (s :: r).length=r.length+1 from rfl,selsU_list s r r.length (Nat.le_refl _),List.take_length]
   simp
  rw[e,List.length_append,List.length_cons,List.length_append,List.length_append]
  rcases List.mem_cons.1 hx with rfl | hx
  ·omega
  ·have:=flat_mem_len (fun x=>44 :: selT x) r x hx
   simp only[List.length_cons] at this
   have e2:(fsel r).length=(r.flatMap fun x=>44 :: selT x).length:=rfl
   omega
theorem path_back {ms:List PSeg} (h:∀ g∈ms,1≤g.sels.length∧g.sels.all selOk=true) : pathR (sBr 1001) (pathU ms ms.length)=(ms,0)∨(pathR (sBr 1001) (pathU ms ms.length)).2≠0:=by
 rw[← path_same]
 unfold pathU
 rw[List.take_length]
 unfold pathR
 split
 ·right; decide
 ·rename_i hl
  simp only[List.length_cons] at hl
  have hok:∀ g∈ms,OkG g:=fun g hg=>⟨(h g hg).1,fun x hx=>⟨List.all_eq_true.1 (h g hg).2 x hx,by
   have h1:=segX_sel hx
   have h2:=flat_mem_len segX ms g hg
   omega⟩⟩
  obtain⟨d,hd⟩:=segs_back ms hok ([],0) ((ms.flatMap segX).length+1) (by have:=flat_all_len segX segX_one ms; omega)
  simp only[if_true]
  rw[hd]
  simp only
  split
  ·right; decide
  ·left; rfl
end Go.Proofs.YtkjcgkfejdogbaaGreatDoor
