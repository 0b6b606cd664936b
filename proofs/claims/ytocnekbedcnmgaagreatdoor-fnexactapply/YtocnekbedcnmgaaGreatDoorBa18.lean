import Derived.Test.YtocnekbedcnmgaaGreatDoorBa13
import Derived.Test.YtocnekbedcnmgaaGreatDoorBa17
import Derived.Test.YtocnekbedcnmgaaGreatDoorBa5
import Derived.Test.YtocnekbedcnmgaaGreatDoorBa2
import Derived.Test.YtocnekbedcnmgaaGreatDoorBa4
import Derived.Test.YtocnekbedcnmgaaGreatDoorBa16
set_option maxRecDepth 100000
set_option maxHeartbeats 8000000
namespace Go.Proofs.YtocnekbedcnmgaaGreatDoor
open Go.RowKit
structure GdV (v:JV) : Prop where
 rd:rdV v
 big:bigV v=false
 dep:depV v≤100
 cnt:cntV v≤3000
 tw:twV v=false
 ok:okV v
 len:(ct v).length≤20000
theorem GdV.of {s:ByteArray} {v:JV} (h:readR s = .inr v) : GdV v:=by
 obtain⟨h1,h2,h3,h4,h5,h6⟩:=read_facts h
 exact⟨doc_rdV h2,h4,h5,h6,h3,(doc_facts h2).1,by have:=doc_sharp h2; omega⟩
structure GdT (v:JV) : Prop where
 rd:rdV v
 big:bigV v=false
 tw:twV v=false
 ok:okV v
theorem GdV.t {v:JV} (h:GdV v) : GdT v:=⟨h.rd,h.big,h.tw,h.ok⟩
theorem okL_iff:∀ l:JL,okL l↔∀ v∈l.toL,okV v
 | .nil=>by rw[okL]; simp[JL.toL]
 | .cons v r=>by rw[okL,okL_iff r,JL.toL]; simp
theorem okM_iff:∀ m:JM,okM m↔∀ q∈m.toL,Lib.validD q.1=true∧okV q.2
 | .nil=>by rw[okM]; simp[JM.toL]
 | .cons k v r=>by rw[okM,okM_iff r,JM.toL]; simp[and_assoc]
theorem bigM_no (m:JM) : bigM m=false↔∀ q∈m.toL,bigV q.2=false:=by
 constructor
 ·intro h q hq
  cases hb:bigV q.2 with
  | false=>rfl
  | true=>rw[(bigM_iff m).2 ⟨q,hq,hb⟩] at h; cases h
 ·intro h
  cases hb:bigM m with
  | false=>rfl
  | true=>obtain⟨q,hq,e⟩:=(bigM_iff m).1 hb; rw[h q hq] at e; cases e
theorem gdT_arr (l:JL) : GdT (.arr l)↔∀ u∈l.toL,GdT u:=by
 constructor
 ·rintro⟨h1,h2,h3,h4⟩ u hu
  rw[rdV,rdL_iff] at h1
  rw[bigV,bigL_iff] at h2
  rw[twV,twL_iff] at h3
  rw[okV,okL_iff] at h4
  exact⟨h1 u hu,h2 u hu,h3 u hu,h4 u hu⟩
 ·intro h
  refine⟨?_,?_,?_,?_⟩
  ·rw[rdV,rdL_iff]; exact fun u hu=>(h u hu).rd
  ·rw[bigV,bigL_iff]; exact fun u hu=>(h u hu).big
  ·rw[twV,twL_iff]; exact fun u hu=>(h u hu).tw
  ·rw[okV,okL_iff]; exact fun u hu=>(h u hu).ok
theorem gdT_obj (m:JM) : GdT (.obj m)↔(m.toL.map (·.1)).Nodup∧∀ q∈m.toL,Lib.validD q.1=true∧GdT q.2:=by
 constructor
 ·rintro⟨h1,h2,h3,h4⟩
  rw[rdV,rdM_iff] at h1
  rw[bigV,bigM_no] at h2
  rw[twV,twM_iff] at h3
  rw[okV,okM_iff] at h4
  exact⟨h3.2.1,fun q hq=>⟨(h1 q hq).1,(h1 q hq).2,h2 q hq,h3.1 q hq,(h4 q hq).2⟩⟩
 ·rintro⟨h0,h⟩
  refine⟨?_,?_,?_,?_⟩
  ·rw[rdV,rdM_iff]; exact fun q hq=>⟨(h q hq).1,(h q hq).2.rd⟩
  ·rw[bigV,bigM_no]; exact fun q hq=>(h q hq).2.big
  ·rw[twV,twM_iff]; exact⟨fun q hq=>(h q hq).2.tw,h0,fun q _=>by simp⟩
  ·rw[okV,okM_iff]; exact fun q hq=>⟨(h q hq).1,(h q hq).2.ok⟩
theorem GdT.child {v u:JV} {t:List UInt8} (h:GdT v) (hc:childV v t=some u) : GdT u:=by
 cases v with
 | arr l=>
  rw[childV_arr] at hc
  obtain⟨i,_,hi⟩:=Option.bind_eq_some_iff.1 hc
  exact (gdT_arr l).1 h u (List.mem_of_getElem? hi)
 | obj m=>
  rw[childV_obj] at hc
  obtain⟨q,hq,e⟩:=Option.map_eq_some_iff.1 hc
  rw[← e]
  exact (((gdT_obj m).1 h).2 q (List.mem_of_find?_eq_some hq)).2
 | _=>cases hc
theorem getV_nil (v:JV) : getV v []=some v:=by simp[getV]
theorem getV_con (v:JV) (t:List UInt8) (ts:List (List UInt8)) : getV v (t :: ts)=(childV v t).bind fun u=>getV u ts:=by rw[getV]
theorem GdT.get:∀ {ts:List (List UInt8)} {v u:JV},GdT v→getV v ts=some u→GdT u
 | [],v,u,h,e=>by
  rw[getV_nil] at e
  injection e with e
  subst e
  exact h
 | t :: ts,v,u,h,e=>by
  rw[getV_con] at e
  cases hc:childV v t with
  | none=>rw[hc] at e; cases e
  | some x=>rw[hc] at e; exact GdT.get (h.child hc) e
def setAt (v:JV) (t:List UInt8) (u:JV) : JV:=match v with
 | .arr l=>match idxT t with
  | some i=>.arr (JL.ofL (l.toL.set i u))
  | none=>.arr l
 | .obj m=>.obj (JM.ofL (m.toL.map fun q=>if q.1=t then (q.1,u) else q))
 | v=>v
def dropAt (v:JV) (t:List UInt8) : JV:=match v with
 | .arr l=>match idxT t with
  | some i=>.arr (JL.ofL (l.toL.eraseIdx i))
  | none=>.arr l
 | .obj m=>.obj (JM.ofL (m.toL.filter fun q=>!(q.1 == t)))
 | v=>v
def putAt (v:JV) (t:List UInt8) (u:JV) : Option JV:=match v with
 | .arr l=>match (if t=[45] then some l.toL.length else idxT t) with
  | some i=>if i≤l.toL.length then some (.arr (JL.ofL (l.toL.take i++u :: l.toL.drop i))) else none
  | none=>none
 | .obj m=>if Lib.validD t=true then some (if (childV (.obj m) t).isSome then setAt (.obj m) t u else .obj (JM.ofL (m.toL++[(t,u)]))) else none
 | _=>none
def setV:JV→List (List UInt8)→JV→JV
 | _,[],u=>u
 | v,t :: ts,u=>match childV v t with
  | some c=>setAt v t (setV c ts u)
  | none=>v
theorem setV_nil (v u:JV) : setV v [] u=u:=by rw[setV]
theorem setV_con {v c:JV} {t:List UInt8} {ts:List (List UInt8)} {u:JV} (h:childV v t=some c) : setV v (t :: ts) u=setAt v t (setV c ts u):=by rw[setV,h]
theorem setV_snoc:∀ (ts:List (List UInt8)) (v h c:JV) (t:List UInt8) (u:JV),getV v ts=some h→childV h t=some c→setV v (ts++[t]) u=setV v ts (setAt h t u)
 | [],v,h,c,t,u,e,hc=>by
  rw[getV_nil] at e
  injection e with e
  subst e
  rw[List.nil_append,setV_nil,setV_con hc,setV_nil]
 | x :: ts,v,h,c,t,u,e,hc=>by
  rw[getV_con] at e
  cases hx:childV v x with
  | none=>rw[hx] at e; cases e
  | some y=>
   rw[hx] at e
   rw[List.cons_append,setV_con hx,setV_con hx,setV_snoc ts y h c t u e hc]
def chgV (f:JV→Option JV) (v:JV) (ts:List (List UInt8)) : Option JV:=((getV v ts).bind f).map (setV v ts)
theorem chgV_nil (f:JV→Option JV) (v:JV) : chgV f v []=f v:=by
 unfold chgV
 rw[getV_nil]
 show (f v).map (setV v [])=f v
 cases f v with
 | none=>rfl
 | some u=>show some (setV v [] u)=_; rw[setV_nil]
theorem chgV_no {f:JV→Option JV} {v:JV} {t:List UInt8} {ts:List (List UInt8)} (h:childV v t=none) : chgV f v (t :: ts)=none:=by
 unfold chgV; rw[getV_con,h]; rfl
theorem chgV_con {f:JV→Option JV} {v c:JV} {t:List UInt8} {ts:List (List UInt8)} (h:childV v t=some c) : chgV f v (t :: ts)=(chgV f c ts).map (setAt v t):=by
 unfold chgV
 rw[getV_con,h]
 show ((getV c ts).bind f).map (setV v (t :: ts))=_
 cases (getV c ts).bind f with
 | none=>rfl
 | some u=>show some (setV v (t :: ts) u)=some (setAt v t (setV c ts u)); rw[setV_con h]
def lastT (ts:List (List UInt8)) : List UInt8:=ts.getLast?.getD []
def putV (v:JV) (ts:List (List UInt8)) (u:JV) : Option JV:=if ts=[] then some u else chgV (fun h=>putAt h (lastT ts) u) v ts.dropLast
def takeAt (h:JV) (t:List UInt8) : Option JV:=(childV h t).map fun _=>dropAt h t
def dropV (v:JV) (ts:List (List UInt8)) : Option JV:=if ts=[] then none else chgV (fun h=>takeAt h (lastT ts)) v ts.dropLast
structure XOp where
 kind:Int
 path:List (List UInt8)
 src:List (List UInt8)
 val:JV
def optC (c:Nat) : Option JV→Nat⊕JV
 | none=>.inl c
 | some v=>.inr v
def doV (v:JV) (o:XOp) : Nat⊕JV:=
 if o.kind=1 then optC 3 (putV v o.path o.val)
 else if o.kind=2 then optC 3 (dropV v o.path)
 else if o.kind=3 then optC 3 (chgV (fun _=>some o.val) v o.path)
 else if o.kind=4 then match getV v o.src with
  | none=>.inl 3
  | some m=>if o.src=o.path then .inr v else if o.src.isPrefixOf o.path then .inl 6 else match dropV v o.src with
   | none=>.inl 3
   | some r=>optC 3 (putV r o.path m)
 else if o.kind=5 then match getV v o.src with
  | none=>.inl 3
  | some m=>optC 3 (putV v o.path m)
 else match getV v o.path with
  | none=>.inl 3
  | some h=>if ct h=ct o.val then .inr v else .inl 5
def limV (v:JV) : Bool:=decide (depV v≤100) && decide (cntV v≤3000) && decide ((ct v).length≤20000)
def runV:JV→List XOp→Nat→(Nat×Nat)⊕JV
 | v,[],_=>.inr v
 | v,o :: r,i=>match doV v o with
  | .inl c=>.inl (c,i)
  | .inr u=>if limV u=true then runV u r (i+1) else .inl (7,i)
theorem setAt_good {v u c:JV} {t:List UInt8} (h:GdT v) (hu:GdT u) (hc:childV v t=some c) : GdT (setAt v t u):=by
 cases v with
 | arr l=>
  rw[childV_arr] at hc
  obtain⟨i,hi,_⟩:=Option.bind_eq_some_iff.1 hc
  have e:setAt (.arr l) t u = .arr (JL.ofL (l.toL.set i u)):=by simp only[setAt,hi]
  rw[e,gdT_arr,JL.toL_ofL]
  intro x hx
  rcases List.mem_or_eq_of_mem_set hx with hx | rfl
  ·exact (gdT_arr l).1 h x hx
  ·exact hu
 | obj m=>
  have hm:=(gdT_obj m).1 h
  show GdT (.obj (JM.ofL (m.toL.map fun q=>if q.1=t then (q.1,u) else q)))
  rw[gdT_obj,JM.toL_ofL]
  have ek:((m.toL.map fun q=>if q.1=t then (q.1,u) else q).map (·.1))=m.toL.map (·.1):=by
   rw[List.map_map]
   refine List.map_congr_left fun q _=>?_
   show (if q.1=t then (q.1,u) else q).1=q.1
   split <;> rfl
  rw[ek]
  refine⟨hm.1,fun q hq=>?_⟩
  obtain⟨x,hx,rfl⟩:=List.mem_map.1 hq
  split
  ·exact⟨(hm.2 x hx).1,hu⟩
  ·exact hm.2 x hx
 | _=>cases hc
theorem dropAt_good {v c:JV} {t:List UInt8} (h:GdT v) (hc:childV v t=some c) : GdT (dropAt v t):=by
 cases v with
 | arr l=>
  rw[childV_arr] at hc
  obtain⟨i,hi,_⟩:=Option.bind_eq_some_iff.1 hc
  have e:dropAt (.arr l) t = .arr (JL.ofL (l.toL.eraseIdx i)):=by simp only[dropAt,hi]
  rw[e,gdT_arr,JL.toL_ofL]
  exact fun x hx=>(gdT_arr l).1 h x (List.mem_of_mem_eraseIdx hx)
 | obj m=>
  have hm:=(gdT_obj m).1 h
  show GdT (.obj (JM.ofL (m.toL.filter fun q=>!(q.1 == t))))
  rw[gdT_obj,JM.toL_ofL]
  refine⟨(List.filter_sublist.map _).nodup hm.1,fun q hq=>hm.2 q ((List.mem_filter.1 hq).1)⟩
 | _=>cases hc
theorem putAt_good {v u r:JV} {t:List UInt8} (h:GdT v) (hu:GdT u) (hp:putAt v t u=some r) : GdT r:=by
 cases v with
 | arr l=>
  simp only[putAt] at hp
  split at hp
  ·split at hp
   ·injection hp with hp
    subst hp
    rw[gdT_arr,JL.toL_ofL]
    intro x hx
    rw[List.mem_append,List.mem_cons] at hx
    rcases hx with hx | rfl | hx
    ·exact (gdT_arr l).1 h x (List.mem_of_mem_take hx)
    ·exact hu
    ·exact (gdT_arr l).1 h x (List.mem_of_mem_drop hx)
   ·cases hp
  ·cases hp
 | obj m=>
  simp only[putAt] at hp
  split at hp
  ·rename_i hv
   injection hp with hp
   subst hp
   cases hc:childV (.obj m) t with
   | some c=>exact setAt_good h hu hc
   | none=>
    have hm:=(gdT_obj m).1 h
    show GdT (.obj (JM.ofL (m.toL++[(t,u)])))
    rw[gdT_obj,JM.toL_ofL]
    have hno:t ∉ m.toL.map (·.1):=by
     intro hin
     obtain⟨q,hq,e⟩:=List.mem_map.1 hin
     rw[childV_obj,Option.map_eq_none_iff,List.find?_eq_none] at hc
     exact hc q hq (by simp[e])
    constructor
    ·rw[List.map_append,List.nodup_append]
     refine⟨hm.1,by simp,fun a ha b hb e=>?_⟩
     simp at hb
     subst hb; subst e
     exact hno ha
    ·intro q hq
     rw[List.mem_append,List.mem_singleton] at hq
     rcases hq with hq | rfl
     ·exact hm.2 q hq
     ·exact⟨hv,hu⟩
  ·cases hp
 | _=>cases hp
theorem setV_good:∀ {ts:List (List UInt8)} {v u h:JV},GdT v→GdT u→getV v ts=some h→GdT (setV v ts u)
 | [],v,u,h,_,hu,_=>by rw[setV_nil]; exact hu
 | t :: ts,v,u,h,hv,hu,e=>by
  rw[getV_con] at e
  cases hc:childV v t with
  | none=>rw[hc] at e; cases e
  | some c=>
   rw[hc] at e
   rw[setV_con hc]
   exact setAt_good hv (setV_good (hv.child hc) hu e) hc
theorem chgV_good {f:JV→Option JV} {v r:JV} {ts:List (List UInt8)} (hv:GdT v) (hf:∀ h u,GdT h→f h=some u→GdT u) (h:chgV f v ts=some r) : GdT r:=by
 unfold chgV at h
 obtain⟨u,hu,rfl⟩:=Option.map_eq_some_iff.1 h
 obtain⟨x,hx,hfx⟩:=Option.bind_eq_some_iff.1 hu
 exact setV_good hv (hf x u (hv.get hx) hfx) hx
theorem putV_good {v u r:JV} {ts:List (List UInt8)} (hv:GdT v) (hu:GdT u) (h:putV v ts u=some r) : GdT r:=by
 unfold putV at h
 split at h
 ·injection h with h; subst h; exact hu
 ·exact chgV_good hv (fun x y hx e=>putAt_good hx hu e) h
theorem dropV_good {v r:JV} {ts:List (List UInt8)} (hv:GdT v) (h:dropV v ts=some r) : GdT r:=by
 unfold dropV at h
 split at h
 ·cases h
 ·refine chgV_good hv (fun x y hx e=>?_) h
  unfold takeAt at e
  obtain⟨c,hc,rfl⟩:=Option.map_eq_some_iff.1 e
  exact dropAt_good hx hc
theorem optC_in {c:Nat} {o:Option JV} {r:JV} (h:optC c o = .inr r) : o=some r:=by
 cases o with
 | none=>cases h
 | some x=>injection h with h; rw[h]
theorem doV_good {v r:JV} {o:XOp} (hv:GdT v) (hu:GdT o.val) (h:doV v o = .inr r) : GdT r:=by
 unfold doV at h
 split at h
 ·exact putV_good hv hu (optC_in h)
 ·split at h
  ·exact dropV_good hv (optC_in h)
  ·split at h
   ·exact chgV_good hv (fun x y _ e=>by injection e with e; subst e; exact hu) (optC_in h)
   ·split at h
    ·split at h
     ·cases h
     ·rename_i m hm
      split at h
      ·injection h with h; subst h; exact hv
      ·split at h
       ·cases h
       ·split at h
        ·cases h
        ·rename_i x hx
         exact putV_good (dropV_good hv hx) (hv.get hm) (optC_in h)
    ·split at h
     ·split at h
      ·cases h
      ·rename_i m hm
       exact putV_good hv (hv.get hm) (optC_in h)
     ·split at h
      ·cases h
      ·split at h
       ·injection h with h; subst h; exact hv
       ·cases h
theorem ctArr_lenL (l:List JV) : (ct (.arr (JL.ofL l))).length=hold l.length+(l.map fun v=>(ct v).length).sum:=by
 show (mkA (ctL (JL.ofL l))).length=_
 rw[ctL_map,JL.toL_ofL]
 have h:=joinC_nl (l.map ct)
 have e2:nl (l.map ct)=(l.map fun v=>(ct v).length).sum:=by
  unfold nl
  rw[List.map_map]; rfl
 rw[List.length_map,e2] at h
 simp[mkA]; omega
theorem JL.ofL_toL:∀ l:JL,JL.ofL l.toL=l
 | .nil=>rfl
 | .cons v r=>by rw[JL.toL,JL.ofL,JL.ofL_toL r]
theorem ctArr_lenW (l:JL) : (ct (.arr l)).length=hold l.toL.length+(l.toL.map fun v=>(ct v).length).sum:=by
 have:=ctArr_lenL l.toL
 rwa [JL.ofL_toL] at this
theorem sum_set {α:Type} (f:α→Nat) : ∀ (l:List α) (i:Nat) (x y:α),l[i]?=some y→((l.set i x).map f).sum+f y=(l.map f).sum+f x
 | [],i,x,y,h=>by simp at h
 | a :: l,0,x,y,h=>by
  have e:a=y:=by simpa using h
  subst e
  rw[List.set_cons_zero,List.map_cons,List.map_cons,List.sum_cons,List.sum_cons]
  omega
 | a :: l,i+1,x,y,h=>by
  have ih:=sum_set f l i x y (by simpa using h)
  rw[List.set_cons_succ,List.map_cons,List.map_cons,List.sum_cons,List.sum_cons]
  omega
theorem sum_rep (t:List UInt8) (u:JV) : ∀ (l:List (List UInt8×JV)) (c:JV),(l.map (·.1)).Nodup→(l.find? fun q=>q.1 == t).map (·.2)=some c→((l.map fun q=>if q.1=t then (q.1,u) else q).map memN).sum+(ct c).length=(l.map memN).sum+(ct u).length
 | [],c,_,h=>by simp at h
 | a :: l,c,hn,h=>by
  rw[List.map_cons,List.nodup_cons] at hn
  by_cases e:a.1=t
  ·rw[List.find?_cons,show (a.1 == t)=true by simp[e]] at h
   have e2:a.2=c:=by simpa using h
   have e3:(l.map fun q=>if q.1=t then (q.1,u) else q)=l:=by
    conv=>rhs; rw[← List.map_id l]
    refine List.map_congr_left fun q hq=>?_
    have:q.1≠t:=fun h=>hn.1 (by rw[e,← h]; exact List.mem_map.2 ⟨q,hq,rfl⟩)
    simp[this]
   rw[List.map_cons,if_pos e,e3,List.map_cons,List.map_cons,List.sum_cons,List.sum_cons,← e2]
   unfold memN
   simp only
   omega
  ·rw[List.find?_cons,show (a.1 == t)=false by simp[e]] at h
   have ih:=sum_rep t u l c hn.2 h
   rw[List.map_cons,if_neg e,List.map_cons,List.map_cons,List.sum_cons,List.sum_cons]
   omega
theorem setAt_len {v u c:JV} {t:List UInt8} (hg:GdT v) (hc:childV v t=some c) : (ct (setAt v t u)).length+(ct c).length=(ct v).length+(ct u).length:=by
 cases v with
 | arr l=>
  rw[childV_arr] at hc
  obtain⟨i,hi,hli⟩:=Option.bind_eq_some_iff.1 hc
  have e:setAt (.arr l) t u = .arr (JL.ofL (l.toL.set i u)):=by simp only[setAt,hi]
  rw[e,ctArr_lenL,ctArr_lenW,List.length_set]
  have:=sum_set (fun v=>(ct v).length) l.toL i u c hli
  omega
 | obj m=>
  rw[childV_obj] at hc
  have e:setAt (.obj m) t u = .obj (JM.ofL (m.toL.map fun q=>if q.1=t then (q.1,u) else q)):=rfl
  rw[e,ctObj_len,ctObj_len,JM.toL_ofL,List.length_map]
  have:=sum_rep t u m.toL c ((gdT_obj m).1 hg).1 hc
  omega
 | _=>cases hc
theorem setV_len:∀ {ts:List (List UInt8)} {v u h:JV},GdT v→getV v ts=some h→(ct (setV v ts u)).length+(ct h).length=(ct v).length+(ct u).length
 | [],v,u,h,_,e=>by
  rw[getV_nil] at e
  injection e with e
  subst e
  rw[setV_nil]
  omega
 | t :: ts,v,u,h,hv,e=>by
  rw[getV_con] at e
  cases hc:childV v t with
  | none=>rw[hc] at e; cases e
  | some c=>
   rw[hc] at e
   rw[setV_con hc]
   have h1:=setAt_len (u:=setV c ts u) hv hc
   have h2:=setV_len (u:=u) (hv.child hc) e
   omega
theorem sum_filt {α:Type} (f:α→Nat) (p:α→Bool) : ∀ l:List α,((l.filter p).map f).sum≤(l.map f).sum
 | []=>by simp
 | a :: l=>by
  have ih:=sum_filt f p l
  rw[List.map_cons,List.sum_cons]
  by_cases h:p a=true
  ·rw[List.filter_cons_of_pos h,List.map_cons,List.sum_cons]; omega
  ·rw[List.filter_cons_of_neg h]; omega
theorem sum_erase {α:Type} (f:α→Nat) : ∀ (l:List α) (i:Nat),((l.eraseIdx i).map f).sum≤(l.map f).sum
 | [],i=>by simp
 | a :: l,0=>by simp
 | a :: l,i+1=>by
  have ih:=sum_erase f l i
  rw[List.eraseIdx_cons_succ,List.map_cons,List.map_cons,List.sum_cons,List.sum_cons]
  omega
theorem dropAt_len {v c:JV} {t:List UInt8} (hc:childV v t=some c) : (ct (dropAt v t)).length≤(ct v).length:=by
 cases v with
 | arr l=>
  rw[childV_arr] at hc
  obtain⟨i,hi,hli⟩:=Option.bind_eq_some_iff.1 hc
  have e:dropAt (.arr l) t = .arr (JL.ofL (l.toL.eraseIdx i)):=by simp only[dropAt,hi]
  rw[e,ctArr_lenL,ctArr_lenW]
  have h1:=sum_erase (fun v=>(ct v).length) l.toL i
  have h2:(l.toL.eraseIdx i).length≤l.toL.length:=List.length_eraseIdx_le ..
  unfold hold
  omega
 | obj m=>
  have e:dropAt (.obj m) t = .obj (JM.ofL (m.toL.filter fun q=>!(q.1 == t))):=rfl
  rw[e,ctObj_len,ctObj_len,JM.toL_ofL]
  have h1:=sum_filt memN (fun q=>!(q.1 == t)) m.toL
  have h2:=List.length_filter_le (fun q:List UInt8×JV=>!(q.1 == t)) m.toL
  unfold hold
  omega
 | _=>cases hc
theorem putAt_len {v u r:JV} {t:List UInt8} (hg:GdT v) (h:putAt v t u=some r) : (ct r).length≤(ct v).length+(ct u).length+6*t.length+4:=by
 cases v with
 | arr l=>
  simp only[putAt] at h
  split at h
  ·rename_i i hi
   split at h
   ·injection h with h
    subst h
    rw[ctArr_lenL,ctArr_lenW]
    have h3:((l.toL.take i++u :: l.toL.drop i).map fun v=>(ct v).length).sum=(l.toL.map fun v=>(ct v).length).sum+(ct u).length:=by
     conv=>rhs; rw[← List.take_append_drop i l.toL]
     rw[List.map_append,List.sum_append,List.map_cons,List.sum_cons,List.map_append,List.sum_append]
     omega
    have h4:(l.toL.take i++u :: l.toL.drop i).length=l.toL.length+1:=by
     rw[List.length_append,List.length_cons,List.length_take,List.length_drop]; omega
    rw[h3,h4]
    unfold hold
    omega
   ·cases h
  ·cases h
 | obj m=>
  simp only[putAt] at h
  split at h
  ·injection h with h
   subst h
   cases hc:childV (.obj m) t with
   | some c=>
    have:=setAt_len (u:=u) hg hc
    rw[Option.isSome_some,if_pos rfl]
    omega
   | none=>
    rw[Option.isSome_none,if_neg (by simp)]
    rw[ctObj_len,ctObj_len,JM.toL_ofL,List.map_append,List.sum_append,List.length_append]
    have:=quoted_len t
    simp only[List.map_cons,List.map_nil,List.sum_cons,List.sum_nil,List.length_cons,List.length_nil,memN]
    unfold hold
    omega
  ·cases h
 | _=>cases h
section
variable (ps:List Part) (p:Nat) (dr pu:Bool) (q:Part)
theorem wstep_ne {i:Nat} (h:i≠p) (hi:i < ps.length) : wstep ps p dr pu q i=[ps[i]]:=by unfold wstep; simp[h,hi]
theorem wstep_out {i:Nat} (h:i≠p) (hi:¬ i < ps.length) : wstep ps p dr pu q i=[]:=by unfold wstep; simp[h,hi]
theorem wacc_lo:∀ k,k≤p→k≤ps.length→wacc ps p dr pu q k=ps.take k
 | 0,_,_=>by simp[wacc]
 | k+1,h1,h2=>by
  rw[wacc_succ,wacc_lo k (by omega) (by omega),wstep_ne ps p dr pu q (by omega) (by omega),List.take_succ_eq_append_getElem (by omega)]
theorem wacc_hi:∀ k,p < k→k≤ps.length→wacc ps p dr pu q k=wacc ps p dr pu q (p+1)++(ps.take k).drop (p+1)
 | 0,h,_=>by omega
 | k+1,h1,h2=>by
  by_cases e:k=p
  ·subst e
   rw[List.drop_of_length_le (by rw[List.length_take]; omega),List.append_nil]
  ·rw[wacc_succ,wacc_hi k (by omega) (by omega),wstep_ne ps p dr pu q e (by omega),List.append_assoc,List.take_succ_eq_append_getElem (by omega),List.drop_append_of_le_length (by rw[List.length_take]; omega)]
theorem wacc_in (h:p < ps.length) : wacc ps p dr pu q (ps.length+1)=ps.take p++wstep ps p dr pu q p++ps.drop (p+1):=by
 rw[wacc_succ,wstep_out ps p dr pu q (by omega) (by omega),List.append_nil,wacc_hi ps p dr pu q _ h (Nat.le_refl _),List.take_length,wacc_succ,wacc_lo ps p dr pu q p (Nat.le_refl _) (by omega)]
theorem wacc_end (h:p=ps.length) : wacc ps p dr pu q (ps.length+1)=ps++wstep ps p dr pu q p:=by
 subst h
 rw[wacc_succ,wacc_lo ps _ dr pu q _ (Nat.le_refl _) (Nat.le_refl _),List.take_length]
theorem wacc_sum (f:Part→Nat) : ∀ k,((wacc ps p dr pu q k).map f).sum≤((ps.take k).map f).sum+(if p < k then f q else 0)
 | 0=>by simp[wacc]
 | k+1=>by
  rw[wacc_succ,List.map_append,List.sum_append]
  have ih:=wacc_sum f k
  have h1:((ps.take (k+1)).map f).sum=((ps.take k).map f).sum+(if h:k < ps.length then f ps[k] else 0):=by
   by_cases hk:k < ps.length
   ·rw[List.take_succ_eq_append_getElem hk,List.map_append,List.sum_append,dif_pos hk]; simp
   ·rw[List.take_of_length_le (by omega),List.take_of_length_le (by omega),dif_neg hk]; simp
  have h2:((wstep ps p dr pu q k).map f).sum≤(if k=p then f q else 0)+(if h:k < ps.length then f ps[k] else 0):=by
   unfold wstep
   rw[List.map_append,List.sum_append]
   by_cases e:k=p
   ·by_cases hk:k < ps.length
    ·rw[if_pos e,dif_pos hk,dif_pos hk]
     refine Nat.add_le_add ?_ ?_
     ·split <;> simp
     ·split <;> simp
    ·rw[if_pos e,dif_neg hk,dif_neg hk]
     refine Nat.add_le_add ?_ ?_
     ·split <;> simp
     ·simp
   ·by_cases hk:k < ps.length
    ·rw[if_neg e,dif_pos hk,dif_pos hk,if_neg (by simp[e])]
     refine Nat.add_le_add ?_ ?_
     ·simp
     ·split <;> simp
    ·rw[if_neg e,dif_neg hk,dif_neg hk,if_neg (by simp[e])]
     simp
  rw[h1]
  split at ih
  ·rename_i hp
   rw[if_pos (by omega)]
   rw[if_neg (by omega)] at h2
   omega
  ·rename_i hp
   by_cases e:k=p
   ·rw[if_pos (by omega)]
    rw[if_pos e] at h2
    omega
   ·rw[if_neg e] at h2
    omega
end
theorem wacc_set (ps:List Part) (p:Nat) (q:Part) (h:p < ps.length) : wacc ps p true true q (ps.length+1)=ps.take p++q :: ps.drop (p+1):=by
 rw[wacc_in ps p true true q h]
 unfold wstep
 simp[h]
theorem wacc_drop (ps:List Part) (p:Nat) (q:Part) (h:p < ps.length) : wacc ps p true false q (ps.length+1)=ps.take p++ps.drop (p+1):=by
 rw[wacc_in ps p true false q h]
 unfold wstep
 simp[h]
theorem wacc_put (ps:List Part) (p:Nat) (q:Part) (h:p≤ps.length) : wacc ps p false true q (ps.length+1)=ps.take p++q :: ps.drop p:=by
 by_cases hp:p < ps.length
 ·rw[wacc_in ps p false true q hp]
  unfold wstep
  rw[List.drop_eq_getElem_cons hp]
  simp[hp]
 ·have e:p=ps.length:=by omega
  rw[wacc_end ps p false true q e]
  subst e
  unfold wstep
  simp
theorem ctL_ofL (l:List JV) : ctL (JL.ofL l)=l.map ct:=by rw[ctL_map,JL.toL_ofL]
theorem up_eq:∀ {a b:List Part},a.Perm b→(a.map (·.1)).Nodup→a.Pairwise (fun x y=>x.1≤y.1)→b.Pairwise (fun x y=>x.1≤y.1)→a=b
 | [],b,h,_,_,_=>by rw[List.nil_perm.1 h]
 | x :: a,[],h,_,_,_=>by have:=h.length_eq; simp at this
 | x :: a,y :: b,h,hn,ha,hb=>by
  rw[List.pairwise_cons] at ha hb
  rw[List.map_cons,List.nodup_cons] at hn
  have e:x=y:=by
   have hy:y∈x :: a:=h.symm.subset List.mem_cons_self
   have hx:x∈y :: b:=h.subset List.mem_cons_self
   rcases List.mem_cons.1 hy with e | hy
   ·exact e.symm
   ·rcases List.mem_cons.1 hx with e | hx
    ·exact e
    ·have h1:=ha.1 y hy
     have h2:=hb.1 x hx
     have e1:x.1=y.1:=List.le_antisymm h1 h2
     exact absurd (List.mem_map.2 ⟨y,hy,e1.symm⟩) hn.1
  subst e
  rw[up_eq (a:=a) (b:=b) ((List.perm_cons x).1 h) hn.2 ha.2 hb.2]
theorem isort_same {a b:List Part} (h:a.Perm b) (hn:(a.map (·.1)).Nodup) : isort a=isort b:=
 up_eq ((isort_perm a).trans (h.trans (isort_perm b).symm)) ((((isort_perm a).map _).nodup_iff).2 hn) (isort_up a) (isort_up b)
theorem map_at:∀ (ps:List Part) (p:Nat) (t x:List UInt8) (hp:p < ps.length),(ps.map (·.1)).Nodup→ps[p].1=t→ps.take p++(t,x) :: ps.drop (p+1)=ps.map fun q=>if q.1=t then (q.1,x) else q
 | [],p,t,x,hp,_,_=>by simp at hp
 | a :: ps,0,t,x,hp,hn,e=>by
  have e':a.1=t:=e
  rw[List.map_cons,List.nodup_cons] at hn
  rw[List.map_cons,if_pos e',e']
  show (t,x) :: ps=_
  congr 1
  rw[show ps=ps.map id from (List.map_id _).symm,List.map_map]
  refine List.map_congr_left fun q hq=>?_
  have:q.1≠t:=fun h=>hn.1 (by rw[e',← h]; exact List.mem_map.2 ⟨q,hq,rfl⟩)
  simp[this]
 | a :: ps,p+1,t,x,hp,hn,e=>by
  have hp':p < ps.length:=by simpa using hp
  have e':ps[p].1=t:=e
  rw[List.map_cons,List.nodup_cons] at hn
  have ne:a.1≠t:=fun h=>hn.1 (by rw[h,← e']; exact List.mem_map.2 ⟨_,List.getElem_mem hp',rfl⟩)
  rw[List.map_cons,if_neg ne,← map_at ps p t x hp' hn.2 e']
  rfl
theorem filt_at:∀ (ps:List Part) (p:Nat) (t:List UInt8) (hp:p < ps.length),(ps.map (·.1)).Nodup→ps[p].1=t→ps.take p++ps.drop (p+1)=ps.filter fun q=>!(q.1 == t)
 | [],p,t,hp,_,_=>by simp at hp
 | a :: ps,0,t,hp,hn,e=>by
  have e':a.1=t:=e
  rw[List.map_cons,List.nodup_cons] at hn
  rw[List.filter_cons_of_neg (by simp[e'])]
  show ps=_
  symm
  rw[List.filter_eq_self]
  intro q hq
  have:q.1≠t:=fun h=>hn.1 (by rw[e',← h]; exact List.mem_map.2 ⟨q,hq,rfl⟩)
  simp[this]
 | a :: ps,p+1,t,hp,hn,e=>by
  have hp':p < ps.length:=by simpa using hp
  have e':ps[p].1=t:=e
  rw[List.map_cons,List.nodup_cons] at hn
  have ne:a.1≠t:=fun h=>hn.1 (by rw[h,← e']; exact List.mem_map.2 ⟨_,List.getElem_mem hp',rfl⟩)
  rw[List.filter_cons_of_pos (by simp[ne]),← filt_at ps p t hp' hn.2 e']
  rfl
theorem keys_parts {m:JM} (h:GdT (.obj m)) : ((partsV (.obj m)).map (·.1)).Nodup:=by
 show ((isort (ctM m)).map (·.1)).Nodup
 rw[((isort_perm _).map _).nodup_iff,ctM_map,List.map_map]
 exact ((gdT_obj m).1 h).1
theorem partsA_snd (l:JL) : (partsV (.arr l)).map (·.2)=l.toL.map ct:=by
 rw[parts_kids,List.map_map]
 show (idxJ 0 l.toL).map (fun q=>ct q.2)=_
 rw[show (fun q:List UInt8×JV=>ct q.2)=ct∘(·.2) from rfl,← List.map_map,idxJ_snd]
theorem partsA_key (l:JL) {j:Nat} (hj:j < (partsV (.arr l)).length) : (partsV (.arr l))[j].1=decT j:=by
 have e:partsV (.arr l)=idxF 0 (ctL l):=rfl
 have hj':j < (idxF 0 (ctL l)).length:=by rw[← e]; exact hj
 have:=idxF_at (ctL l) 0 j hj'
 simp only[e]
 rw[this]
 simp
theorem set_map {α β:Type} (f:α→β) : ∀ (l:List α) (i:Nat) (x:α),i < l.length→(l.set i x).map f=(l.map f).take i++f x :: (l.map f).drop (i+1)
 | [],i,x,h=>by simp at h
 | a :: l,0,x,_=>by simp
 | a :: l,i+1,x,h=>by
  rw[List.set_cons_succ,List.map_cons,set_map f l i x (by simpa using h)]
  simp
theorem mkV_set {v u:JV} {t:List UInt8} {j:Nat} {c:JV} (hg:GdT v) (hc:childV v t=some c) (hj:j < (partsV v).length) (hk:(partsV v)[j].1=t) : mkV v (wacc (partsV v) j true true (t,ct u) ((partsV v).length+1))=ct (setAt v t u):=by
 rw[wacc_set _ _ _ hj]
 cases v with
 | arr l=>
  rw[childV_arr] at hc
  obtain⟨i,hi,hli⟩:=Option.bind_eq_some_iff.1 hc
  have e:j=i:=by
   rw[partsA_key] at hk
   exact decT_inj (hk.trans (idxT_dec hi).symm)
  subst e
  have e2:setAt (.arr l) t u = .arr (JL.ofL (l.toL.set j u)):=by simp only[setAt,hi]
  have hjl:j < l.toL.length:=(List.getElem?_eq_some_iff.1 hli).1
  rw[e2]
  show mkA _=mkA (ctL (JL.ofL (l.toL.set j u)))
  congr 1
  rw[ctL_ofL,set_map ct l.toL j u hjl,← partsA_snd,List.map_append,List.map_cons,List.map_take,List.map_drop]
 | obj m=>
  rw[map_at _ j t (ct u) hj (keys_parts hg) hk]
  show mkO (isort ((isort (ctM m)).map _))=mkO (isort (ctM (JM.ofL _)))
  congr 1
  have e3:ctM (JM.ofL (m.toL.map fun q=>if q.1=t then (q.1,u) else q))=(ctM m).map fun q=>if q.1=t then (q.1,ct u) else q:=by
   rw[ctM_map,JM.toL_ofL,ctM_map,List.map_map,List.map_map]
   refine List.map_congr_left fun q _=>?_
   show ((if q.1=t then (q.1,u) else q).1,ct (if q.1=t then (q.1,u) else q).2)=if (q.1,ct q.2).1=t then ((q.1,ct q.2).1,ct u) else (q.1,ct q.2)
   by_cases e:q.1=t <;> simp[e]
  rw[e3]
  refine isort_same ((isort_perm _).map _) ?_
  rw[List.map_map]
  have:((fun x:Part=>x.1)∘fun q:Part=>if q.1=t then (q.1,ct u) else q)=fun x:Part=>x.1:=by
   funext q
   show (if q.1=t then (q.1,ct u) else q).1=q.1
   split <;> rfl
  rw[this]
  exact keys_parts hg
 | _=>cases hc
theorem mkV_drop {v:JV} {t:List UInt8} {j:Nat} {c:JV} {q:Part} (hg:GdT v) (hc:childV v t=some c) (hj:j < (partsV v).length) (hk:(partsV v)[j].1=t) : mkV v (wacc (partsV v) j true false q ((partsV v).length+1))=ct (dropAt v t):=by
 rw[wacc_drop _ _ _ hj]
 cases v with
 | arr l=>
  rw[childV_arr] at hc
  obtain⟨i,hi,hli⟩:=Option.bind_eq_some_iff.1 hc
  have e:j=i:=by
   rw[partsA_key] at hk
   exact decT_inj (hk.trans (idxT_dec hi).symm)
  subst e
  have e2:dropAt (.arr l) t = .arr (JL.ofL (l.toL.eraseIdx j)):=by simp only[dropAt,hi]
  rw[e2]
  show mkA _=mkA (ctL (JL.ofL (l.toL.eraseIdx j)))
  congr 1
  rw[ctL_ofL,List.eraseIdx_eq_take_drop_succ,List.map_append,List.map_append,List.map_take,List.map_drop,List.map_take,List.map_drop,partsA_snd]
 | obj m=>
  rw[filt_at _ j t hj (keys_parts hg) hk]
  show mkO (isort ((isort (ctM m)).filter _))=mkO (isort (ctM (JM.ofL _)))
  congr 1
  have e3:ctM (JM.ofL (m.toL.filter fun q=>!(q.1 == t)))=(ctM m).filter fun q=>!(q.1 == t):=by
   rw[ctM_map,JM.toL_ofL,ctM_map,List.filter_map]
   rfl
  rw[e3]
  refine isort_same ((isort_perm _).filter _) ?_
  exact (List.filter_sublist.map _).nodup (keys_parts hg)
 | _=>cases hc
theorem take_map2 {α β:Type} (f:α→β) (l:List α) (i:Nat) (x:α) : (l.take i++x :: l.drop i).map f=(l.map f).take i++f x :: (l.map f).drop i:=by
 rw[List.map_append,List.map_cons,List.map_take,List.map_drop]
theorem mkV_putA {l:JL} {u:JV} {i:Nat} {t:List UInt8} (hi:i≤l.toL.length) : mkV (.arr l) (wacc (partsV (.arr l)) i false true (t,ct u) ((partsV (.arr l)).length+1))=ct (.arr (JL.ofL (l.toL.take i++u :: l.toL.drop i))):=by
 have hl:(partsV (.arr l)).length=l.toL.length:=by
  have:=congrArg List.length (partsA_snd l)
  simpa using this
 rw[wacc_put _ _ _ (by omega)]
 show mkA _=mkA (ctL (JL.ofL _))
 congr 1
 rw[ctL_ofL,take_map2 ct,← partsA_snd,take_map2]
theorem mkV_putO {m:JM} {u:JV} {t:List UInt8} (hg:GdT (.obj m)) (hn:childV (.obj m) t=none) : mkV (.obj m) (wacc (partsV (.obj m)) 0 false true (t,ct u) ((partsV (.obj m)).length+1))=ct (.obj (JM.ofL (m.toL++[(t,u)]))):=by
 rw[wacc_put _ _ _ (Nat.zero_le _)]
 show mkO (isort ((t,ct u) :: isort (ctM m)))=mkO (isort (ctM (JM.ofL _)))
 congr 1
 have e3:ctM (JM.ofL (m.toL++[(t,u)]))=ctM m++[(t,ct u)]:=by
  rw[ctM_map,JM.toL_ofL,ctM_map,List.map_append]; rfl
 rw[e3]
 refine isort_same ?_ ?_
 ·refine (List.Perm.cons _ (isort_perm _)).trans ?_
  exact (List.perm_append_comm (l₁:=[(t,ct u)]) (l₂:=ctM m))
 ·rw[List.map_cons,List.nodup_cons]
  refine⟨fun h=>?_,keys_parts hg⟩
  obtain⟨x,hx,e⟩:=List.mem_map.1 h
  have hx':=(isort_perm _).subset hx
  rw[ctM_map] at hx'
  obtain⟨y,hy,rfl⟩:=List.mem_map.1 hx'
  rw[childV_obj,Option.map_eq_none_iff,List.find?_eq_none] at hn
  exact hn y hy (by simpa using e)
theorem sumT_parts (m:JM) : sumT (partsV (.obj m))≤(ct (.obj m)).length:=by
 show sumT (isort (ctM m))≤(mkO (isort (ctM m))).length
 unfold mkO
 rw[List.length_cons,List.length_append]
 have:∀ l:List Part,sumT l≤(joinC (l.map memT)).length+1:=fun l=>by
  cases l with
  | nil=>simp[sumT]
  | cons x r=>
   have h2:∀ r:List Part,sumT r=(joinT (r.map memT)).length:=fun r=>by
    induction r with
    | nil=>rfl
    | cons y r ih=>unfold sumT at *; rw[List.map_cons,List.map_cons,List.sum_cons,ih,joinT]; simp; omega
   have h3:=h2 r
   show sumT (x :: r)≤(memT x++joinT (r.map memT)).length+1
   unfold sumT at *
   rw[List.map_cons,List.sum_cons,h3,List.length_append]
   omega
 have:=this (isort (ctM m))
 simp
 omega
theorem sumA_parts (l:JL) : sumA (partsV (.arr l))≤(ct (.arr l)).length:=by
 have e:sumA (partsV (.arr l))=((ctL l).map fun t=>t.length+1).sum:=by
  unfold sumA
  rw[show (fun p:Part=>p.2.length+1)=(fun t:List UInt8=>t.length+1)∘(·.2) from rfl,← List.map_map,partsA_snd,ctL_map]
 rw[e]
 show _≤(mkA (ctL l)).length
 unfold mkA
 rw[List.length_cons,List.length_append]
 have:∀ l:List (List UInt8),(l.map fun t=>t.length+1).sum≤(joinC l).length+1:=fun l=>by
  cases l with
  | nil=>simp
  | cons x r=>
   have h2:∀ r:List (List UInt8),(r.map fun t=>t.length+1).sum=(joinT r).length:=fun r=>by
    induction r with
    | nil=>rfl
    | cons y r ih=>rw[List.map_cons,List.sum_cons,ih,joinT]; simp; omega
   rw[List.map_cons,List.sum_cons,h2 r]
   show _≤(x++joinT r).length+1
   rw[List.length_append]
   omega
 have:=this (ctL l)
 simp
 omega
theorem key_le {v:JV} (hok:okV v) (htw:twV v=false) {x:Part} (h:x∈partsV v) : x.1.length+x.2.length+1≤(ct v).length:=by
 rw[parts_kids] at h
 obtain⟨y,hy,rfl⟩:=List.mem_map.1 h
 exact (kids_ok hok htw hy).2.2.2
theorem mem_wacc {ps:List Part} {p:Nat} {dr pu:Bool} {q:Part} : ∀ {k:Nat} {x:Part},x∈wacc ps p dr pu q k→x=q∨x∈ps
 | 0,x,h=>by simp[wacc] at h
 | k+1,x,h=>by
  rw[wacc_succ,List.mem_append] at h
  rcases h with h | h
  ·exact mem_wacc h
  ·unfold wstep at h
   rw[List.mem_append] at h
   rcases h with h | h
   ·split at h
    ·exact .inl (by simpa using h)
    ·simp at h
   ·split at h
    ·split at h
     ·rename_i hk _
      rw[List.mem_singleton] at h
      exact .inr (by rw[h]; exact List.getElem_mem hk)
     ·simp at h
    ·simp at h
theorem sum_leW {α:Type} (f g:α→Nat) : ∀ (l:List α),(∀ x∈l,f x≤g x)→(l.map f).sum≤(l.map g).sum
 | [],_=>by simp
 | x :: r,h=>by
  rw[List.map_cons,List.map_cons,List.sum_cons,List.sum_cons]
  have h1:=h x List.mem_cons_self
  have h2:=sum_leW f g r fun y hy=>h y (List.mem_cons_of_mem _ hy)
  omega
theorem sum_mulW {α:Type} (f:α→Nat) (c:Nat) : ∀ l:List α,(l.map fun x=>c*f x).sum=c*(l.map f).sum
 | []=>by simp
 | x :: r=>by rw[List.map_cons,List.map_cons,List.sum_cons,List.sum_cons,sum_mulW f c r,Nat.mul_add]
theorem with_sizes {v:JV} (hok:okV v) (htw:twV v=false) (hkd:kd v=5∨kd v=6) (hl:(ct v).length≤100000) (p:Nat) (dr pu:Bool) (q:Part) (h1:q.1.length≤1048576) (h2:q.2.length≤20000000) :
  sumA (wacc (partsV v) p dr pu q ((partsV v).length+1))≤40000000∧sumT (isort (wacc (partsV v) p dr pu q ((partsV v).length+1)))≤40000000∧∀ x∈isort (wacc (partsV v) p dr pu q ((partsV v).length+1)),x.1.length≤1048576:=by
 have hpl:=parts_len hok (by omega)
 have hsum:∀ f:Part→Nat,((wacc (partsV v) p dr pu q ((partsV v).length+1)).map f).sum≤((partsV v).map f).sum+f q:=fun f=>by
  have:=wacc_sum (partsV v) p dr pu q f ((partsV v).length+1)
  rw[List.take_of_length_le (by omega)] at this
  refine Nat.le_trans this ?_
  split <;> omega
 have hA:sumA (partsV v)≤100000∧sumT (partsV v)≤6000000:=by
  rcases hkd with hk | hk
  ·obtain⟨l,rfl⟩ : ∃ l,v = .arr l:=by cases v <;> first | exact⟨_,rfl⟩ | (simp[kd] at hk)
   have h3:=sumA_parts l
   refine⟨by omega,?_⟩
   have h4:sumT (partsV (.arr l))≤((partsV (.arr l)).map fun x=>46*(x.2.length+1)).sum:=by
    unfold sumT
    refine sum_leW _ _ _ fun x hx=>?_
    obtain⟨j,hj,rfl⟩:=List.mem_iff_getElem.1 hx
    have e:=partsA_key l hj
    have e2:=decT_le 6 j (by omega)
    have e3:=quoted_len (partsV (.arr l))[j].1
    rw[e] at e3
    unfold memT
    rw[List.length_append,List.length_cons,e]
    omega
   rw[sum_mulW] at h4
   have h5:((partsV (.arr l)).map fun x=>x.2.length+1).sum=sumA (partsV (.arr l)):=rfl
   omega
  ·obtain⟨m,rfl⟩ : ∃ m,v = .obj m:=by cases v <;> first | exact⟨_,rfl⟩ | (simp[kd] at hk)
   have h3:=sumT_parts m
   refine⟨?_,by omega⟩
   have h4:sumA (partsV (.obj m))≤sumT (partsV (.obj m)):=by
    unfold sumA sumT
    refine sum_leW _ _ _ fun x _=>?_
    unfold memT
    rw[List.length_append,List.length_cons]
    omega
   omega
 have g1:=hsum fun x=>x.2.length+1
 have g2:=hsum fun x=>(memT x).length+1
 have g3:=quoted_len q.1
 have g4:(memT q).length+1≤6*1048576+4+20000000:=by
  unfold memT
  rw[List.length_append,List.length_cons]
  omega
 refine⟨?_,?_,fun x hx=>?_⟩
 ·refine Nat.le_trans g1 ?_
  show sumA (partsV v)+(q.2.length+1)≤_
  omega
 ·rw[sumT_isort]
  refine Nat.le_trans g2 ?_
  show sumT (partsV v)+((memT q).length+1)≤_
  omega
 ·rcases mem_wacc ((isort_perm _).subset hx) with rfl | h
  ·exact h1
  ·have:=key_le hok htw h
   omega
theorem set_walk:∀ (ts:List (List UInt8)) (v u h:JV) (a:Option Addr) (g off cap:Nat) (w:World),GdT v→GdT u→getV v ts=some h→(ct v).length≤100000→(ct (setV v ts u)).length≤20000000→(∀ t∈ts,t.length≤1048576)→ts.length≤1048577→ts.length≤cap→SS w a g off (ts.map baT) →
  Calls Tryz.prog 99 #[.string (strOf (ct v)),.slice a ts.length cap,.string (strOf (ct u))] w fun e w'=>e = .returned (.string (strOf (ct (setV v ts u))))∧Below w.heap.size w w'
 | [],v,u,h,a,g,off,cap,w,_,_,_,_,_,_,_,_,_=>by
  rw[setV_nil]
  generalize strOf (ct u)=U at *
  go_enter Tryz.func99,Tryz.ntmps99
  go_wp2
  go_ret
  exact⟨rfl,Below.refl _ _⟩
 | t :: ts,v,u,h,a,g,off,cap,w,hv,hu,hg,hl,hs,ht,hn,hcap,hss=>by
  rw[getV_con] at hg
  cases hc:childV v t with
  | none=>rw[hc] at hg; cases hg
  | some c=>
   rw[hc] at hg
   have hgc:=hv.child hc
   obtain⟨_,_,hcl,_⟩:=childV_ok hc hv.ok hv.tw
   rw[setV_con hc] at hs ⊢
   have hsl:(ct (setV c ts u)).length≤20000000:=by
    have h1:=setAt_len (u:=setV c ts u) hv hc
    omega
   have IH:Hid (∀ (a':Option Addr) (g' off' cap':Nat) (wx:World),ts.length≤cap'→SS wx a' g' off' (ts.map baT)→Calls Tryz.prog 99 #[.string (strOf (ct c)),.slice a' ts.length cap',.string (strOf (ct u))] wx fun e w'=>e = .returned (.string (strOf (ct (setV c ts u))))∧Below wx.heap.size wx w'):=fun a' g' off' cap' wx h1 h2=>set_walk ts c u h a' g' off' cap' wx hgc hu hg (by omega) hsl (fun x hx=>ht x (List.mem_cons_of_mem _ hx)) (by simp at hn; omega) h1 h2
   have HCH:=hide (child_walk v hv.ok hv.tw t (ht t List.mem_cons_self) w (by omega))
   have HPA:Hid (∀ wx,Calls Tryz.prog 35 #[.string (strOf (ct v))] wx fun e w'=>∃ r,e = .returned r∧PR w' wx.heap.size r (partsV v)∧Below wx.heap.size wx w'):=fun wx=>parts_ct v hv.ok wx (by omega)
   have hkd:kd v=5∨kd v=6:=by
    cases v with
    | arr l=>exact .inl rfl
    | obj m=>exact .inr rfl
    | _=>cases hc
   have HWI:Hid (∀ (j:Nat) (hj:j < (partsV v).length) (wx:World),(partsV v)[j].1=t→Calls Tryz.prog 140 #[.string (strOf (ct v)),.int .i64 (j:Int),.bool true,.bool true,.agg #[.string (strOf t),.string (strOf (ct (setV c ts u)))]] wx fun e w'=>e = .returned (.string (strOf (ct (setAt v t (setV c ts u)))))∧Below wx.heap.size wx w'):=fun j hj wx hk=>by
    obtain⟨s1,s2,s3⟩:=with_sizes hv.ok hv.tw hkd hl j true true (t,ct (setV c ts u)) (ht t List.mem_cons_self) hsl
    have hpl:=parts_len hv.ok (show (ct v).length≤1000000 by omega)
    have:=with_walk v hv.ok (by omega) j true true (t,ct (setV c ts u)) wx (by omega) s1 s2 s3
    rw[mkV_set hv hc hj hk] at this
    exact this
   have hadr:=hss.ad (by simp)
   have hc0:=hss.cell 0 (by simp)
   have hc0':w.cell? ⟨g,off,none⟩=some (.string (strOf t)):=by simpa [baT,strOf] using hc0
   have HTL:Hid (∀ wx,Below w.heap.size w wx→SS wx (some ⟨g,off+1,none⟩) g (off+1) (ts.map baT)):=fun wx hx=>⟨fun _=>rfl,fun j hj=>by
    have h1:=(hss.below hx).cell (j+1) (by simpa using hj)
    rw[show off+(j+1)=off+1+j by omega] at h1
    simpa using h1⟩
   subst hadr
   clear hss hc0 hg hgc hcl hs hsl hv hu hkd hl
   generalize ct (setAt v t (setV c ts u))=R at *
   generalize ct (setV c ts u)=Z at *
   generalize strOf (ct u)=U at *
   generalize strOf R=sR at *
   go_enter Tryz.func99,Tryz.ntmps99
   go_wp2_with fail
   refine (uh HCH).mono ?_
   rintro e w1 ⟨b1,⟨rfl,hcn⟩ | ⟨j,hj,u',rfl,hcs,hpt,hpk⟩⟩
   ·rw[hc] at hcn; cases hcn
   ·obtain rfl:u'=c:=by rw[hc] at hcs; injection hcs with hcs; exact hcs.symm
    have HP1:=hide (uh HPA w1)
    have HWI2:=hide (fun wx=>uh HWI j hj wx hpk)
    have HB1:=hide b1
    have hz1:=b1.size
    clear HCH HPA HWI hcs hc b1 ht
    go_wp2_with fail
    refine (uh HP1).mono ?_
    rintro e w2 ⟨r2,rfl,p2,b2⟩
    obtain⟨g2,cap2,rfl,hB2,hgl,c0,c1⟩:=p2.cells j hj
    rw[hpk] at c0
    rw[hpt] at c1
    have hjI:(j:Int) < ((partsV v).length:Int):=by omega
    have HB2:=hide (below_next (uh HB1) b2)
    have HZ2:=hide (uh HB2).size
    clear HP1 p2 hpk hpt b2 HB1
    generalize strOf (ct u')=sc at *
    generalize strOf t=st at *
    generalize strOf Z=sz at *
    generalize strOf (ct v)=sv at *
    have kA:=heap_alloc_new w2 (.cells #[.string st,.string sc] 63)
    have bA:=alloc_below w2 (.cells #[.string st,.string sc] 63)
    have y0:(w2.alloc (.cells #[.string st,.string sc] 63)).cell? ⟨w2.heap.size,0,none⟩=some (.string st):=Lib.cell_of_heap kA 0
    have y1:(w2.alloc (.cells #[.string st,.string sc] 63)).cell? ⟨w2.heap.size,1,none⟩=some (.string sc):=Lib.cell_of_heap kA 1
    have hltA:=(Array.getElem?_eq_some_iff.1 kA).1
    have HOP:Hid (∀ X,Below (w2.alloc (.cells #[.string st,.string sc] 63)).drew.heap.size (w2.alloc (.cells #[.string st,.string sc] 63)).drew X→X.heap[w2.heap.size]?=some (.cells #[.string st,.string sc] 63 (0,0))):=fun X hX=>(hX.block w2.heap.size hltA).trans kA
    have HOLD:Hid (∀ X,Below (w2.alloc (.cells #[.string st,.string sc] 63)).drew.heap.size (w2.alloc (.cells #[.string st,.string sc] 63)).drew X→X.cell? ⟨w2.heap.size,0,none⟩=some (.string st)∧X.cell? ⟨w2.heap.size,1,none⟩=some (.string sc)∧X.frozen? ⟨w2.heap.size,1,none⟩=false):=fun X hX=>⟨Lib.cell_of_heap (uh HOP X hX) 0,Lib.cell_of_heap (uh HOP X hX) 1,Lib.frozen_of_heap (uh HOP X hX) 1⟩
    have hbA:=(below_next (uh HB2) bA)
    have HBL:Hid (∀ X,Below (w2.alloc (.cells #[.string st,.string sc] 63)).drew.heap.size (w2.alloc (.cells #[.string st,.string sc] 63)).drew X→Below w.heap.size w X):=fun X hX=>below_next hbA.drew hX
    have hSS:=uh HTL _ hbA.drew
    have hcap1:ts.length+1≤cap:=by simpa using hcap
    have hz0:¬ ((ts.length:Int)+1=0):=by omega
    have hle1:(1:Int)≤(ts.length:Int)+1:=by omega
    clear kA bA hltA hbA hcap hn
    have hSA:SS (w2.alloc (.cells #[.string st,.string sc] 63)).drew (if cap=1 then some ⟨g,off,none⟩ else some ⟨g,off+1,none⟩) g (off+1) (ts.map baT):=by
     by_cases h1:cap=1
     ·have ht0:ts=[]:=List.eq_nil_of_length_eq_zero (by omega)
      subst ht0
      exact⟨fun h=>by simp at h,fun j hj=>by simp at hj⟩
     ·rw[if_neg h1]; exact hSS
    clear hSS
    have HIH:=hide (uh IH (if cap=1 then some ⟨g,off,none⟩ else some ⟨g,off+1,none⟩) g (off+1) (cap - 1) (w2.alloc (.cells #[.string st,.string sc] 63)).drew (by omega) hSA)
    clear IH HTL hSA
    go_wp2_with fail
    go_region_law (go_simp; refine (uh HIH).mono ?_; rintro e w4 ⟨rfl,b4⟩; have hd4:=uh HOLD w4 b4; have d0:=hd4.1; have d1:=hd4.2.1; have f4:=hd4.2.2)
    all_goals
     have HK4:Hid (w4.heap[w2.heap.size]?=some (.cells #[.string st,.string sc] 63 (0,0))):=uh HOP w4 b4
     have HB4:=hide (uh HBL w4 b4)
     clear b4 hd4 HIH HOLD HOP HBL
     have HK5:Hid ((w4.setCell ⟨w2.heap.size,1,none⟩ (.string sz)).heap[w2.heap.size]?=some (.cells #[.string st,.string sz] 63 (0,0))):=heap_setCell_same w4 w2.heap.size 1 _ _ _ (uh HK4)
     have HB5:=hide ((uh HB4).setCell (p:=⟨w2.heap.size,1,none⟩) (by have:=uh HZ2; exact this) (.string sz))
     have e0:(w4.setCell ⟨w2.heap.size,1,none⟩ (.string sz)).cell? ⟨w2.heap.size,0,none⟩=some (.string st):=Lib.cell_of_heap (uh HK5) 0
     have e1:(w4.setCell ⟨w2.heap.size,1,none⟩ (.string sz)).cell? ⟨w2.heap.size,1,none⟩=some (.string sz):=Lib.cell_of_heap (uh HK5) 1
     have HW6:=hide (uh HWI2 (w4.setCell ⟨w2.heap.size,1,none⟩ (.string sz)))
     clear HK4 HK5 HB4 HWI2 d0 d1 f4
     generalize (if cap=1 then some (⟨g,off,none⟩ : Addr) else some ⟨g,off+1,none⟩)=ad at *
     go_wp2_with fail
     generalize (w4.setCell ⟨w2.heap.size,1,none⟩ (.string sz))=w5 at *
     refine (uh HW6).mono ?_
     rintro e w6 ⟨rfl,b6⟩
     have HB6:=hide (below_next (uh HB5) b6)
     clear HW6 b6 e0 e1
     go_wp2
     go_ret
     exact⟨rfl,uh HB6⟩
theorem getR_some {v h:JV} {ts:List (List UInt8)} (e:getV v ts=some h) : getR v ts = .tuple #[.string (strOf (ct h)),.bool true]:=by unfold getR; rw[e]
theorem getR_none {v:JV} {ts:List (List UInt8)} (e:getV v ts=none) : getR v ts = .tuple #[.string ⟨#[]⟩,.bool false]:=by unfold getR; rw[e]
theorem SS.init {w:World} {a:Option Addr} {g off:Nat} {xs:List (List UInt8)} {t:List UInt8} (h:SS w a g off ((xs++[t]).map baT)) : SS w a g off (xs.map baT)∧a=some ⟨g,off,none⟩∧w.cell? ⟨g,off+xs.length,none⟩=some (.string (strOf t)):=by
 have hlen:((xs++[t]).map baT).length=xs.length+1:=by simp
 refine⟨⟨fun h0=>h.ad (by rw[hlen]; omega),fun j hj=>?_⟩,h.ad (by rw[hlen]; omega),?_⟩
 ·rw[List.length_map] at hj
  have:=h.cell j (by rw[hlen]; omega)
  rw[this,List.map_append]
  simp[List.getElem?_append_left,hj]
 ·have:=h.cell xs.length (by rw[hlen]; omega)
  rw[this]
  simp[baT,strOf]
theorem getV_le:∀ {ts:List (List UInt8)} {v u:JV},GdT v→getV v ts=some u→(ct u).length≤(ct v).length
 | [],v,u,_,e=>by
  rw[getV_nil] at e
  injection e with e
  subst e
  exact Nat.le_refl _
 | t :: ts,v,u,h,e=>by
  rw[getV_con] at e
  cases hc:childV v t with
  | none=>rw[hc] at e; cases e
  | some x=>
   rw[hc] at e
   have h1:=getV_le (h.child hc) e
   have h2:=(childV_ok hc h.ok h.tw).2.2.1
   omega
theorem child_yes {v c:JV} {t:List UInt8} (hv:GdT v) (hc:childV v t=some c) (ht:t.length≤1048576) (hl:(ct v).length≤100000) (w:World) :
  Calls Tryz.prog 137 #[.string (strOf (ct v)),.string (strOf t)] w fun e w'=>∃ (j:Nat) (hj:j < (partsV v).length),e = .returned (.int .i64 (j:Int))∧(partsV v)[j].1=t∧Below w.heap.size w w':=by
 refine (child_walk v hv.ok hv.tw t ht w (by omega)).mono ?_
 rintro e w1 ⟨b1,⟨rfl,hcn⟩ | ⟨j,hj,u',rfl,_,_,hpk⟩⟩
 ·rw[hc] at hcn; cases hcn
 ·exact⟨j,hj,rfl,hpk,b1⟩
theorem kd_of_child {v c:JV} {t:List UInt8} (hc:childV v t=some c) : kd v=5∨kd v=6:=by
 cases v with
 | arr l=>exact .inl rfl
 | obj m=>exact .inr rfl
 | _=>cases hc
theorem drop_walk (v h c:JV) (xs:List (List UInt8)) (t:List UInt8) (a:Option Addr) (g off cap:Nat) (w:World) (hv:GdT v) (hg:getV v xs=some h) (hc:childV h t=some c) (hl:(ct v).length≤100000) (hts:∀ x∈xs++[t],x.length≤1048576) (hn:xs.length≤1048576) (hcap:xs.length+1≤cap) (hss:SS w a g off ((xs++[t]).map baT)) :
  Calls Tryz.prog 98 #[.string (strOf (ct v)),.slice a (xs.length+1) cap] w fun e w'=>e = .returned (.string (strOf (ct (setV v xs (dropAt h t)))))∧Below w.heap.size w w':=by
 obtain⟨hs1,rfl,hct⟩:=SS.init hss
 have hgh:=hv.get hg
 have hlh:=getV_le hv hg
 have hdg:=dropAt_good hgh hc
 have hdl:=dropAt_len hc
 have hsl:=setV_len (u:=dropAt h t) hv hg
 have htt:t.length≤1048576:=hts t (by simp)
 have HGET:=hide (get_walkS v hv.ok hv.tw (by omega) (some ⟨g,off,none⟩) g off cap xs w hs1 (by omega) (fun x hx=>hts x (List.mem_append_left _ hx)))
 rw[getR_some hg] at HGET
 have HCH:Hid (∀ wx,Calls Tryz.prog 137 #[.string (strOf (ct h)),.string (strOf t)] wx fun e w'=>∃ (j:Nat) (hj:j < (partsV h).length),e = .returned (.int .i64 (j:Int))∧(partsV h)[j].1=t∧Below wx.heap.size wx w'):=fun wx=>child_yes hgh hc htt (by omega) wx
 have HWI:Hid (∀ (j:Nat) (hj:j < (partsV h).length) (wx:World),(partsV h)[j].1=t→Calls Tryz.prog 140 #[.string (strOf (ct h)),.int .i64 (j:Int),.bool true,.bool false,.agg #[.string ⟨#[]⟩,.string ⟨#[]⟩]] wx fun e w'=>e = .returned (.string (strOf (ct (dropAt h t))))∧Below wx.heap.size wx w'):=fun j hj wx hk=>by
  obtain⟨s1,s2,s3⟩:=with_sizes hgh.ok hgh.tw (kd_of_child hc) (by omega) j true false ([],[]) (by simp) (by simp)
  have hpl:=parts_len hgh.ok (show (ct h).length≤1000000 by omega)
  have:=with_walk h hgh.ok (by omega) j true false ([],[]) wx (by omega) s1 s2 s3
  rw[mkV_drop hgh hc hj hk] at this
  exact this
 have HSET:Hid (∀ wx,Below w.heap.size w wx→Calls Tryz.prog 99 #[.string (strOf (ct v)),.slice (some ⟨g,off,none⟩) xs.length cap,.string (strOf (ct (dropAt h t)))] wx fun e w'=>e = .returned (.string (strOf (ct (setV v xs (dropAt h t)))))∧Below wx.heap.size wx w'):=fun wx hx=>set_walk xs v (dropAt h t) h (some ⟨g,off,none⟩) g off cap wx hv hdg hg hl (by omega) (fun x hx=>hts x (List.mem_append_left _ hx)) (by omega) (by omega) (hs1.below hx)
 have HCT:Hid (∀ wx,Below w.heap.size w wx→wx.cell? ⟨g,off+xs.length,none⟩=some (.string (strOf t))):=fun wx hx=>(hx.cell (p:=⟨g,off+xs.length,none⟩) (World.block_lt_of_cell? _ _ hct)).trans hct
 have hsub:(xs.length:Int)+1 - 1=(xs.length:Int):=by omega
 have hlec:xs.length≤cap:=by omega
 have hltI:(xs.length:Int) < (xs.length:Int)+1:=by omega
 have hltN:xs.length < xs.length+1:=by omega
 clear hss hs1 hct hgh hlh hdg hdl hsl hv hg hc hl hts htt
 generalize strOf (ct (setV v xs (dropAt h t)))=R at *
 generalize strOf (ct (dropAt h t))=D at *
 generalize strOf (ct v)=sv at *
 generalize strOf (ct h)=sh at *
 generalize strOf t=st at *
 go_enter Tryz.func98,Tryz.ntmps98
 go_wp2_with fail
 refine (uh HGET).mono ?_
 rintro e w1 ⟨rfl,b1⟩
 have bD:Below w.heap.size w w1.drew:=b1.drew
 have cD:=uh HCT w1.drew bD
 have HB1:=hide b1
 clear HGET b1
 go_wp2_with fail
 go_region_law (first
  | (have hq:=b5'; go_simp; refine (uh HSET _ b5').mono ?_; rintro e w6 ⟨rfl,b6⟩)
  | (have hq:=b4'; go_simp; refine (uh HWI j hj w4 hpk).mono ?_; rintro e w5 ⟨rfl,b5⟩; have b5':=below_next b4' b5)
  | (go_simp; refine (uh HCH _).mono ?_; rintro e w4 ⟨j,hj,rfl,hpk,b4⟩; have b4':=below_next bD b4; have c4:=uh HCT w4 b4'))
 all_goals
  have HBF:=hide (below_next b5' b6)
  clear b4 b5 b6 b4' b5' HSET HWI HCH HCT bD cD
  go_wp2
  go_ret
  exact⟨rfl,uh HBF⟩
theorem first_is {v:JV} (h:okV v) (h0:0 < (strOf (ct v)).size) : ∃ c:Nat,(strOf (ct v))[0].toNat=c∧(c=91↔kd v=5)∧(c=123↔kd v=6):=by
 obtain⟨c,r,e,f⟩:=ct_fb h
 refine⟨c.toNat,?_,?_,?_⟩
 ·rw[← bt_at _ 0 h0,e]
  exact (bt_first (c:=c) (r:=r)).2
 ·rw[← f]
  unfold fb
  by_cases h1:c.toNat=91
  ·rw[h1]; simp
  ·constructor
   ·intro e; exact absurd e h1
   ·intro e
    exfalso
    revert e
    repeat (first | (split; omega) | split)
    all_goals omega
 ·rw[← f]
  unfold fb
  by_cases h1:c.toNat=123
  ·rw[h1]; simp
  ·constructor
   ·intro e; exact absurd e h1
   ·intro e
    exfalso
    revert e
    repeat (first | (split; omega) | split)
    all_goals omega
def putR:Option JV→Value
 | none=>.tuple #[.string ⟨#[]⟩,.bool false]
 | some r=>.tuple #[.string (strOf (ct r)),.bool true]
theorem put_none (v u:JV) (xs:List (List UInt8)) (t:List UInt8) (a:Option Addr) (g off cap:Nat) (w:World) (hv:GdT v) (hl:(ct v).length≤100000) (hts:∀ x∈xs++[t],x.length≤1048576) (hn:xs.length≤1048576) (hcap:xs.length+1≤cap) (hss:SS w a g off ((xs++[t]).map baT)) (hg:getV v xs=none) :
  Calls Tryz.prog 96 #[.string (strOf (ct v)),.slice a (xs.length+1) cap,.string (strOf (ct u))] w fun e w'=>e = .returned (.tuple #[.string ⟨#[]⟩,.bool false])∧Below w.heap.size w w':=by
 obtain⟨hs1,rfl,hct⟩:=SS.init hss
 have htt:t.length≤1048576:=hts t (by simp)
 have HGET:=hide (get_walkS v hv.ok hv.tw (by omega) (some ⟨g,off,none⟩) g off cap xs w hs1 (by omega) (fun x hx=>hts x (List.mem_append_left _ hx)))
 have HCT:Hid (∀ wx,Below w.heap.size w wx→wx.cell? ⟨g,off+xs.length,none⟩=some (.string (strOf t))):=fun wx hx=>(hx.cell (p:=⟨g,off+xs.length,none⟩) (World.block_lt_of_cell? _ _ hct)).trans hct
 have hsub:(xs.length:Int)+1 - 1=(xs.length:Int):=by omega
 have hlec:xs.length≤cap:=by omega
 have hltI:(xs.length:Int) < (xs.length:Int)+1:=by omega
 rw[getR_none hg] at HGET
 clear hg HCT
 clear hss hs1 hct hv hl hts htt hcap
 generalize strOf (ct v)=sv at *
 generalize strOf (ct u)=su at *
 go_enter Tryz.func96,Tryz.ntmps96
 go_wp2_with fail
 refine (uh HGET).mono ?_
 rintro e w1 ⟨rfl,b1⟩
 have HB1:=hide b1
 clear HGET b1
 go_wp2
 go_ret2
 exact⟨rfl,uh HB1⟩
theorem put_leaf (v u:JV) (xs:List (List UInt8)) (t:List UInt8) (a:Option Addr) (g off cap:Nat) (w:World) (hv:GdT v) (hl:(ct v).length≤100000) (hts:∀ x∈xs++[t],x.length≤1048576) (hn:xs.length≤1048576) (hcap:xs.length+1≤cap) (hss:SS w a g off ((xs++[t]).map baT)) (h:JV) (hg:getV v xs=some h) (k5:kd h≠5) (k6:kd h≠6) :
  Calls Tryz.prog 96 #[.string (strOf (ct v)),.slice a (xs.length+1) cap,.string (strOf (ct u))] w fun e w'=>e = .returned (.tuple #[.string ⟨#[]⟩,.bool false])∧Below w.heap.size w w':=by
 obtain⟨hs1,rfl,hct⟩:=SS.init hss
 have htt:t.length≤1048576:=hts t (by simp)
 have HGET:=hide (get_walkS v hv.ok hv.tw (by omega) (some ⟨g,off,none⟩) g off cap xs w hs1 (by omega) (fun x hx=>hts x (List.mem_append_left _ hx)))
 have HCT:Hid (∀ wx,Below w.heap.size w wx→wx.cell? ⟨g,off+xs.length,none⟩=some (.string (strOf t))):=fun wx hx=>(hx.cell (p:=⟨g,off+xs.length,none⟩) (World.block_lt_of_cell? _ _ hct)).trans hct
 have hsub:(xs.length:Int)+1 - 1=(xs.length:Int):=by omega
 have hlec:xs.length≤cap:=by omega
 have hltI:(xs.length:Int) < (xs.length:Int)+1:=by omega
 have hgh:=hv.get hg
 have hlh:=getV_le hv hg
 have h0:=ct_posW hgh.ok
 have h0I:(0:Int) < ((strOf (ct h)).size:Int):=by omega
 rw[getR_some hg] at HGET
 obtain⟨c,hc,c5,c6⟩:=first_is hgh.ok h0
 have f1:(((strOf (ct h))[0].toNat:Int) != 91)=true:=by
  rw[hc]; simp; intro e; exact k5 (c5.1 (by omega))
 have f2:(((strOf (ct h))[0].toNat:Int) != 123)=true:=by
  rw[hc]; simp; intro e; exact k6 (c6.1 (by omega))
 clear hc c5 c6 k5 k6 hg hgh hlh HCT
 clear hss hs1 hct hv hl hts htt hcap
 generalize strOf (ct v)=sv at *
 generalize strOf (ct u)=su at *
 generalize strOf (ct h)=sh at *
 go_enter Tryz.func96,Tryz.ntmps96
 go_wp2_with fail
 refine (uh HGET).mono ?_
 rintro e w1 ⟨rfl,b1⟩
 have HB1:=hide b1
 clear HGET b1
 go_wp2
 go_ret2
 exact⟨rfl,uh HB1⟩
theorem put_bad (v u:JV) (xs:List (List UInt8)) (t:List UInt8) (a:Option Addr) (g off cap:Nat) (w:World) (hv:GdT v) (hl:(ct v).length≤100000) (hts:∀ x∈xs++[t],x.length≤1048576) (hn:xs.length≤1048576) (hcap:xs.length+1≤cap) (hss:SS w a g off ((xs++[t]).map baT)) (m:JM) (hg:getV v xs=some (.obj m)) (hbad:Lib.validD t=false) :
  Calls Tryz.prog 96 #[.string (strOf (ct v)),.slice a (xs.length+1) cap,.string (strOf (ct u))] w fun e w'=>e = .returned (.tuple #[.string ⟨#[]⟩,.bool false])∧Below w.heap.size w w':=by
 obtain⟨hs1,rfl,hct⟩:=SS.init hss
 have htt:t.length≤1048576:=hts t (by simp)
 have HGET:=hide (get_walkS v hv.ok hv.tw (by omega) (some ⟨g,off,none⟩) g off cap xs w hs1 (by omega) (fun x hx=>hts x (List.mem_append_left _ hx)))
 have HCT:Hid (∀ wx,Below w.heap.size w wx→wx.cell? ⟨g,off+xs.length,none⟩=some (.string (strOf t))):=fun wx hx=>(hx.cell (p:=⟨g,off+xs.length,none⟩) (World.block_lt_of_cell? _ _ hct)).trans hct
 have hsub:(xs.length:Int)+1 - 1=(xs.length:Int):=by omega
 have hlec:xs.length≤cap:=by omega
 have hltI:(xs.length:Int) < (xs.length:Int)+1:=by omega
 have hgh:=hv.get hg
 have hlh:=getV_le hv hg
 have h0:=ct_posW hgh.ok
 have h0I:(0:Int) < ((strOf (ct (.obj m))).size:Int):=by omega
 rw[getR_some hg] at HGET
 obtain⟨c,hc,c5,c6⟩:=first_is hgh.ok h0
 have hc123:c=123:=c6.2 rfl
 have f1:(((strOf (ct (.obj m)))[0].toNat:Int) != 91)=true:=by rw[hc,hc123]; rfl
 have f2:(((strOf (ct (.obj m)))[0].toNat:Int) != 123)=false:=by rw[hc,hc123]; rfl
 have f3:(((strOf (ct (.obj m)))[0].toNat:Int) == 123)=true:=by rw[hc,hc123]; rfl
 clear hc c5 c6 hc123
 have HV:Hid (∀ wx,Calls Tryz.prog 139 #[.string (strOf t)] wx fun e w'=>e = .returned (.bool (Lib.validD t))∧Below wx.heap.size wx w'):=fun wx=>by
  have:=valid_walk (strOf t) wx (by rw[strOf_size]; exact htt)
  rwa [strOf_toList] at this
 rw[hbad] at HV
 clear hbad hg hgh hlh
 clear hss hs1 hct hv hl hts htt hcap
 generalize strOf (ct v)=sv at *
 generalize strOf (ct u)=su at *
 generalize strOf (ct (.obj m))=sh at *
 generalize strOf t=st at *
 go_enter Tryz.func96,Tryz.ntmps96
 go_wp2_with fail
 refine (uh HGET).mono ?_
 rintro e w1 ⟨rfl,b1⟩
 have c1:=uh HCT w1 b1
 have HB1:=hide b1
 have kA:=heap_alloc_new w1 (.cells #[.string st,.string su] 63)
 have bA:=below_next b1 (alloc_below w1 (.cells #[.string st,.string su] 63))
 have HKP:Hid (∀ wx,Below (w1.alloc (.cells #[.string st,.string su] 63)).heap.size (w1.alloc (.cells #[.string st,.string su] 63)) wx→wx.cell? ⟨w1.heap.size,0,none⟩=some (.string st)∧wx.cell? ⟨w1.heap.size,1,none⟩=some (.string su)):=fun wx hx=>by
  have k:=(hx.block w1.heap.size (Array.getElem?_eq_some_iff.1 kA).1).trans kA
  exact⟨Lib.cell_of_heap k 0,Lib.cell_of_heap k 1⟩
 have cA:=uh HCT _ bA
 have HBA:=hide bA
 clear HGET b1 kA bA
 have HV1:=hide (uh HV (w1.alloc (.cells #[.string st,.string su] 63)))
 clear HV HKP HCT
 go_wp2_with fail
 generalize (w1.alloc (.cells #[.string st,.string su] 63))=wA at *
 refine (uh HV1).mono ?_
 rintro e w2 ⟨rfl,b2⟩
 have HB2:=hide (below_next (uh HBA) b2)
 clear HV1 b2 c1 cA
 go_wp2
 go_ret2
 exact⟨rfl,uh HB2⟩
theorem put_old (v u:JV) (xs:List (List UInt8)) (t:List UInt8) (a:Option Addr) (g off cap:Nat) (w:World) (hv:GdT v) (hu:GdT u) (hl:(ct v).length≤100000) (hul:(ct u).length≤100000) (hts:∀ x∈xs++[t],x.length≤1048576) (hn:xs.length≤1048576) (hcap:xs.length+1≤cap) (hss:SS w a g off ((xs++[t]).map baT)) (m:JM) (c:JV) (hg:getV v xs=some (.obj m)) (hgood:Lib.validD t=true) (hch:childV (.obj m) t=some c) :
  Calls Tryz.prog 96 #[.string (strOf (ct v)),.slice a (xs.length+1) cap,.string (strOf (ct u))] w fun e w'=>e = .returned (.tuple #[.string (strOf (ct (setV v xs (setAt (.obj m) t u)))),.bool true])∧Below w.heap.size w w':=by
 obtain⟨hs1,rfl,hct⟩:=SS.init hss
 have htt:t.length≤1048576:=hts t (by simp)
 have HGET:=hide (get_walkS v hv.ok hv.tw (by omega) (some ⟨g,off,none⟩) g off cap xs w hs1 (by omega) (fun x hx=>hts x (List.mem_append_left _ hx)))
 have HCT:Hid (∀ wx,Below w.heap.size w wx→wx.cell? ⟨g,off+xs.length,none⟩=some (.string (strOf t))):=fun wx hx=>(hx.cell (p:=⟨g,off+xs.length,none⟩) (World.block_lt_of_cell? _ _ hct)).trans hct
 have hsub:(xs.length:Int)+1 - 1=(xs.length:Int):=by omega
 have hlec:xs.length≤cap:=by omega
 have hltI:(xs.length:Int) < (xs.length:Int)+1:=by omega
 have hgh:=hv.get hg
 have hlh:=getV_le hv hg
 have h0:=ct_posW hgh.ok
 have h0I:(0:Int) < ((strOf (ct (.obj m))).size:Int):=by omega
 rw[getR_some hg] at HGET
 obtain⟨cb,hc,c5,c6⟩:=first_is hgh.ok h0
 have hc123:cb=123:=c6.2 rfl
 have f1:(((strOf (ct (.obj m)))[0].toNat:Int) != 91)=true:=by rw[hc,hc123]; rfl
 have f2:(((strOf (ct (.obj m)))[0].toNat:Int) != 123)=false:=by rw[hc,hc123]; rfl
 have f3:(((strOf (ct (.obj m)))[0].toNat:Int) == 123)=true:=by rw[hc,hc123]; rfl
 clear hc c5 c6 hc123
 have HV:Hid (∀ wx,Calls Tryz.prog 139 #[.string (strOf t)] wx fun e w'=>e = .returned (.bool (Lib.validD t))∧Below wx.heap.size wx w'):=fun wx=>by
  have:=valid_walk (strOf t) wx (by rw[strOf_size]; exact htt)
  rwa [strOf_toList] at this
 have hpl:=parts_len hgh.ok (show (ct (.obj m)).length≤1000000 by omega)
 have HPA:Hid (∀ wx,Calls Tryz.prog 35 #[.string (strOf (ct (.obj m)))] wx fun e w'=>∃ r,e = .returned r∧PR w' wx.heap.size r (partsV (.obj m))∧Below wx.heap.size wx w'):=fun wx=>parts_ct (.obj m) hgh.ok wx (by omega)
 have HFI:Hid (∀ (wx:World) (B:Nat) (r:Value),PR wx B r (partsV (.obj m))→Calls Tryz.prog 81 #[r,.string (strOf t)] wx fun e w'=>wx=w'∧∃ j:Nat,e = .returned (.int .i64 (j:Int))∧j≤1000000):=fun wx B r hr=>by
  refine (find_at B r (partsV (.obj m)) t wx hr (by omega)).mono ?_
  rintro e w' ⟨rfl,⟨rfl,hno⟩ | ⟨j,hj,rfl,hk⟩⟩
  ·rw[child_missed hno] at hch; cases hch
  ·exact⟨rfl,j,rfl,by omega⟩
 have HSET:Hid (∀ wx,Below w.heap.size w wx→Calls Tryz.prog 99 #[.string (strOf (ct v)),.slice (some ⟨g,off,none⟩) (xs.length+1) cap,.string (strOf (ct u))] wx fun e w'=>e = .returned (.string (strOf (ct (setV v xs (setAt (.obj m) t u)))))∧Below wx.heap.size wx w'):=fun wx hx=>by
  have e1:getV v (xs++[t])=some c:=by rw[getV_app,hg]; show getV (.obj m) [t]=_; rw[getV_con,hch]; exact getV_nil c
  have e2:=setV_snoc xs v (.obj m) c t u hg hch
  have e3:=setV_len (u:=u) hv e1
  have:=set_walk (xs++[t]) v u c (some ⟨g,off,none⟩) g off cap wx hv hu e1 hl (by omega) hts (by simp; omega) (by simp; omega) (hss.below hx)
  rw[e2,List.length_append] at this
  exact this
 rw[hgood] at HV
 clear hgood hg hgh hlh hch hpl
 clear hss hs1 hct hv hu hl hul hts htt hcap
 generalize strOf (ct (setV v xs (setAt (.obj m) t u)))=R at *
 generalize strOf (ct v)=sv at *
 generalize strOf (ct u)=su at *
 generalize strOf (ct (.obj m))=sh at *
 generalize strOf t=st at *
 generalize partsV (.obj m)=ps at *
 go_enter Tryz.func96,Tryz.ntmps96
 go_wp2_with fail
 refine (uh HGET).mono ?_
 rintro e w1 ⟨rfl,b1⟩
 have c1:=uh HCT w1 b1
 have HB1:=hide b1
 have kA:=heap_alloc_new w1 (.cells #[.string st,.string su] 63)
 have bA:=below_next b1 (alloc_below w1 (.cells #[.string st,.string su] 63))
 have HKP:Hid (∀ wx,Below (w1.alloc (.cells #[.string st,.string su] 63)).heap.size (w1.alloc (.cells #[.string st,.string su] 63)) wx→wx.cell? ⟨w1.heap.size,0,none⟩=some (.string st)∧wx.cell? ⟨w1.heap.size,1,none⟩=some (.string su)):=fun wx hx=>by
  have k:=(hx.block w1.heap.size (Array.getElem?_eq_some_iff.1 kA).1).trans kA
  exact⟨Lib.cell_of_heap k 0,Lib.cell_of_heap k 1⟩
 have cA:=uh HCT _ bA
 have HBA:=hide bA
 clear HGET b1 kA bA
 have HV1:=hide (uh HV (w1.alloc (.cells #[.string st,.string su] 63)))
 clear HV
 go_wp2_with fail
 generalize (w1.alloc (.cells #[.string st,.string su] 63))=wA at *
 refine (uh HV1).mono ?_
 rintro e w2 ⟨rfl,b2⟩
 have HB2:=hide (below_next (uh HBA) b2)
 have bD:Below w.heap.size w w2.drew:=(uh HB2).drew
 have cD:=uh HCT w2.drew bD
 have HQ2:=hide b2
 clear HV1 b2 c1 cA
 go_wp2_with fail
 go_region_law (first
  | (have hq:=b4'; go_simp; refine (uh HFI _ _ _ p4).mono ?_; rintro e w5 ⟨rfl,j,rfl,hj⟩)
  | (go_simp; refine (uh HPA _).mono ?_; rintro e w4 ⟨r4,rfl,p4,b4⟩; have b4':=below_next bD b4; have c4:=uh HCT w4 b4'))
 all_goals
  have hj0:(0:Int)≤(j:Int):=by omega
  have HS:=hide (uh HSET w4 b4')
  have HB4:=hide b4'
  clear b4 b4' p4 c4 HSET HPA HFI HCT HKP cD bD
  go_wp2_with fail
  refine (uh HS).mono ?_
  rintro e w6 ⟨rfl,b6⟩
  have HB6:=hide (below_next (uh HB4) b6)
  clear HS b6
  go_wp2
  go_ret2
  exact⟨rfl,uh HB6⟩
theorem put_new (v u:JV) (xs:List (List UInt8)) (t:List UInt8) (a:Option Addr) (g off cap:Nat) (w:World) (hv:GdT v) (hu:GdT u) (hl:(ct v).length≤100000) (hul:(ct u).length≤100000) (hts:∀ x∈xs++[t],x.length≤1048576) (hn:xs.length≤1048576) (hcap:xs.length+1≤cap) (hss:SS w a g off ((xs++[t]).map baT)) (m:JM) (hg:getV v xs=some (.obj m)) (hgood:Lib.validD t=true) (hch:childV (.obj m) t=none) :
  Calls Tryz.prog 96 #[.string (strOf (ct v)),.slice a (xs.length+1) cap,.string (strOf (ct u))] w fun e w'=>e = .returned (.tuple #[.string (strOf (ct (setV v xs (.obj (JM.ofL (m.toL++[(t,u)])))))),.bool true])∧Below w.heap.size w w':=by
 obtain⟨hs1,rfl,hct⟩:=SS.init hss
 have htt:t.length≤1048576:=hts t (by simp)
 have HGET:=hide (get_walkS v hv.ok hv.tw (by omega) (some ⟨g,off,none⟩) g off cap xs w hs1 (by omega) (fun x hx=>hts x (List.mem_append_left _ hx)))
 have HCT:Hid (∀ wx,Below w.heap.size w wx→wx.cell? ⟨g,off+xs.length,none⟩=some (.string (strOf t))):=fun wx hx=>(hx.cell (p:=⟨g,off+xs.length,none⟩) (World.block_lt_of_cell? _ _ hct)).trans hct
 have hsub:(xs.length:Int)+1 - 1=(xs.length:Int):=by omega
 have hlec:xs.length≤cap:=by omega
 have hltI:(xs.length:Int) < (xs.length:Int)+1:=by omega
 have hgh:=hv.get hg
 have hlh:=getV_le hv hg
 have h0:=ct_posW hgh.ok
 have h0I:(0:Int) < ((strOf (ct (.obj m))).size:Int):=by omega
 rw[getR_some hg] at HGET
 have hput:putAt (.obj m) t u=some (.obj (JM.ofL (m.toL++[(t,u)]))):=by simp only[putAt]; rw[if_pos hgood,hch]; rfl
 obtain⟨cb,hc,c5,c6⟩:=first_is hgh.ok h0
 have hc123:cb=123:=c6.2 rfl
 have f1:(((strOf (ct (.obj m)))[0].toNat:Int) != 91)=true:=by rw[hc,hc123]; rfl
 have f2:(((strOf (ct (.obj m)))[0].toNat:Int) != 123)=false:=by rw[hc,hc123]; rfl
 have f3:(((strOf (ct (.obj m)))[0].toNat:Int) == 123)=true:=by rw[hc,hc123]; rfl
 clear hc c5 c6 hc123
 have HV:Hid (∀ wx,Calls Tryz.prog 139 #[.string (strOf t)] wx fun e w'=>e = .returned (.bool (Lib.validD t))∧Below wx.heap.size wx w'):=fun wx=>by
  have:=valid_walk (strOf t) wx (by rw[strOf_size]; exact htt)
  rwa [strOf_toList] at this
 have hpl:=parts_len hgh.ok (show (ct (.obj m)).length≤1000000 by omega)
 have HPA:Hid (∀ wx,Calls Tryz.prog 35 #[.string (strOf (ct (.obj m)))] wx fun e w'=>∃ r,e = .returned r∧PR w' wx.heap.size r (partsV (.obj m))∧Below wx.heap.size wx w'):=fun wx=>parts_ct (.obj m) hgh.ok wx (by omega)
 have HFI:Hid (∀ (wx:World) (B:Nat) (r:Value),PR wx B r (partsV (.obj m))→Calls Tryz.prog 81 #[r,.string (strOf t)] wx fun e w'=>wx=w'∧e = .returned (.int .i64 (-1))):=fun wx B r hr=>by
  refine (find_at B r (partsV (.obj m)) t wx hr (by omega)).mono ?_
  rintro e w' ⟨rfl,⟨rfl,_⟩ | ⟨j,hj,rfl,hk⟩⟩
  ·exact⟨rfl,rfl⟩
  ·obtain⟨c,h1,_⟩:=child_found hgh.ok hgh.tw (fun ⟨l,e⟩=>by cases e) hj hk
   rw[h1] at hch; cases hch
 have hrg:=putAt_good hgh hu hput
 have hrl:=putAt_len hgh hput
 have hsl:=setV_len (u:=(.obj (JM.ofL (m.toL++[(t,u)])))) hv hg
 have HWI:Hid (∀ (wx:World),Calls Tryz.prog 140 #[.string (strOf (ct (.obj m))),.int .i64 0,.bool false,.bool true,.agg #[.string (strOf t),.string (strOf (ct u))]] wx fun e w'=>e = .returned (.string (strOf (ct (.obj (JM.ofL (m.toL++[(t,u)]))))))∧Below wx.heap.size wx w'):=fun wx=>by
  obtain⟨s1,s2,s3⟩:=with_sizes hgh.ok hgh.tw (.inr rfl) (by omega) 0 false true (t,ct u) htt (by show (ct u).length≤_; omega)
  have:=with_walk (.obj m) hgh.ok (by omega) 0 false true (t,ct u) wx (by omega) s1 s2 s3
  rw[mkV_putO hgh hch] at this
  exact this
 have HSET:Hid (∀ wx,Below w.heap.size w wx→Calls Tryz.prog 99 #[.string (strOf (ct v)),.slice (some ⟨g,off,none⟩) xs.length cap,.string (strOf (ct (.obj (JM.ofL (m.toL++[(t,u)])))))] wx fun e w'=>e = .returned (.string (strOf (ct (setV v xs (.obj (JM.ofL (m.toL++[(t,u)])))))))∧Below wx.heap.size wx w'):=fun wx hx=>set_walk xs v (.obj (JM.ofL (m.toL++[(t,u)]))) (.obj m) (some ⟨g,off,none⟩) g off cap wx hv hrg hg hl (by omega) (fun x hx=>hts x (List.mem_append_left _ hx)) (by omega) (by omega) (hs1.below hx)
 rw[hgood] at HV
 clear hgood hg hgh hlh hch hpl hput hrg hrl hsl
 clear hss hs1 hct hv hu hl hul hts htt hcap
 generalize strOf (ct (setV v xs (.obj (JM.ofL (m.toL++[(t,u)])))))=R at *
 generalize strOf (ct (.obj (JM.ofL (m.toL++[(t,u)]))))=D at *
 generalize strOf (ct v)=sv at *
 generalize strOf (ct u)=su at *
 generalize strOf (ct (.obj m))=sh at *
 generalize strOf t=st at *
 generalize partsV (.obj m)=ps at *
 go_enter Tryz.func96,Tryz.ntmps96
 go_wp2_with fail
 refine (uh HGET).mono ?_
 rintro e w1 ⟨rfl,b1⟩
 have c1:=uh HCT w1 b1
 have HB1:=hide b1
 have kA:=heap_alloc_new w1 (.cells #[.string st,.string su] 63)
 have bA:=below_next b1 (alloc_below w1 (.cells #[.string st,.string su] 63))
 have HKP:Hid (∀ wx,Below (w1.alloc (.cells #[.string st,.string su] 63)).heap.size (w1.alloc (.cells #[.string st,.string su] 63)) wx→wx.cell? ⟨w1.heap.size,0,none⟩=some (.string st)∧wx.cell? ⟨w1.heap.size,1,none⟩=some (.string su)):=fun wx hx=>by
  have k:=(hx.block w1.heap.size (Array.getElem?_eq_some_iff.1 kA).1).trans kA
  exact⟨Lib.cell_of_heap k 0,Lib.cell_of_heap k 1⟩
 have cA:=uh HCT _ bA
 have HBA:=hide bA
 clear HGET b1 kA bA
 have HV1:=hide (uh HV (w1.alloc (.cells #[.string st,.string su] 63)))
 clear HV
 go_wp2_with fail
 generalize (w1.alloc (.cells #[.string st,.string su] 63))=wA at *
 refine (uh HV1).mono ?_
 rintro e w2 ⟨rfl,b2⟩
 have HB2:=hide (below_next (uh HBA) b2)
 have bD:Below w.heap.size w w2.drew:=(uh HB2).drew
 have cD:=uh HCT w2.drew bD
 have HQ2:=hide b2
 clear HV1 b2 c1 cA
 go_wp2_with fail
 go_region_law (first
  | (have hq:=b4'; go_simp; refine (uh HFI _ _ _ p4).mono ?_; rintro e w5 ⟨rfl,rfl⟩)
  | (go_simp; refine (uh HPA _).mono ?_; rintro e w4 ⟨r4,rfl,p4,b4⟩; have b4':=below_next bD b4; have c4:=uh HCT w4 b4'))
 all_goals
  have bP:=below_next (uh HQ2).drew b4
  have bD5:Below w.heap.size w w4.drew:=b4'.drew
  have bP5:=bP.drew
  obtain⟨y0,y1⟩:=uh HKP w4.drew bP5
  have HB4:=hide b4'
  clear b4 p4 c4 HPA HFI cD bD b4' bP
  go_wp2_with fail
  go_region_law (first
   | (have hq:=b6'; go_simp; refine (uh HSET _ b6').mono ?_; rintro e w7 ⟨rfl,b7⟩)
   | (go_simp; refine (uh HWI _).mono ?_; rintro e w6 ⟨rfl,b6⟩; have b6':=below_next bD5 b6; have z6:=uh HKP w6 (below_next bP5 b6); have z0:=z6.1; have z1:=z6.2))
  all_goals
   have HBF:=hide (below_next b6' b7)
   clear b6 b6' b7 bD5 bP5 z6 z0 z1 y0 y1 HSET HWI HKP HCT
   go_wp2
   go_ret2
   exact⟨rfl,uh HBF⟩
def atA (l:JL) (t:List UInt8) : Option Nat:=if t=[45] then some l.toL.length else idxT t
theorem put_out (v u:JV) (xs:List (List UInt8)) (t:List UInt8) (a:Option Addr) (g off cap:Nat) (w:World) (hv:GdT v) (hl:(ct v).length≤100000) (hts:∀ x∈xs++[t],x.length≤1048576) (hn:xs.length≤1048576) (hcap:xs.length+1≤cap) (hss:SS w a g off ((xs++[t]).map baT)) (l:JL) (hg:getV v xs=some (.arr l)) (hat:∀ i,atA l t=some i→l.toL.length < i) :
  Calls Tryz.prog 96 #[.string (strOf (ct v)),.slice a (xs.length+1) cap,.string (strOf (ct u))] w fun e w'=>e = .returned (.tuple #[.string ⟨#[]⟩,.bool false])∧Below w.heap.size w w':=by
 obtain⟨hs1,rfl,hct⟩:=SS.init hss
 have htt:t.length≤1048576:=hts t (by simp)
 have HGET:=hide (get_walkS v hv.ok hv.tw (by omega) (some ⟨g,off,none⟩) g off cap xs w hs1 (by omega) (fun x hx=>hts x (List.mem_append_left _ hx)))
 have HCT:Hid (∀ wx,Below w.heap.size w wx→wx.cell? ⟨g,off+xs.length,none⟩=some (.string (strOf t))):=fun wx hx=>(hx.cell (p:=⟨g,off+xs.length,none⟩) (World.block_lt_of_cell? _ _ hct)).trans hct
 have hsub:(xs.length:Int)+1 - 1=(xs.length:Int):=by omega
 have hlec:xs.length≤cap:=by omega
 have hltI:(xs.length:Int) < (xs.length:Int)+1:=by omega
 have hgh:=hv.get hg
 have hlh:=getV_le hv hg
 have h0:=ct_posW hgh.ok
 have h0I:(0:Int) < ((strOf (ct (.arr l))).size:Int):=by omega
 rw[getR_some hg] at HGET
 obtain⟨cb,hcb,c5,c6⟩:=first_is hgh.ok h0
 have hc91:cb=91:=c5.2 rfl
 have f1:(((strOf (ct (.arr l)))[0].toNat:Int) != 91)=false:=by rw[hcb,hc91]; rfl
 have f3:(((strOf (ct (.arr l)))[0].toNat:Int) == 123)=false:=by rw[hcb,hc91]; rfl
 clear hcb c5 c6 hc91
 have hpe:(partsV (.arr l)).length=l.toL.length:=by
  have:=congrArg List.length (partsA_snd l)
  simpa using this
 have hpl:=parts_len hgh.ok (show (ct (.arr l)).length≤1000000 by omega)
 rw[hpe] at hpl
 have HPA:Hid (∀ wx,Calls Tryz.prog 35 #[.string (strOf (ct (.arr l)))] wx fun e w'=>∃ xa xc,e = .returned (.slice xa l.toL.length xc)∧Below wx.heap.size wx w'):=fun wx=>by
  refine (parts_ct (.arr l) hgh.ok wx (by omega)).mono ?_
  rintro e w' ⟨r,rfl,p,b⟩
  obtain⟨xa,xc,rfl⟩:=PR.shape p
  rw[hpe]
  exact⟨xa,xc,rfl,b⟩
 have HIX:Hid (∀ wx,Calls Tryz.prog 141 #[.string (strOf t)] wx fun e w'=>e = .returned (.int .i64 (idxZ t))∧wx=w'):=fun wx=>by
  have:=l1Index_walk (strOf t) wx (by rw[strOf_size]; exact htt)
  rwa [strOf_toList] at this
 by_cases hd:t=[45]
 ·have:=hat l.toL.length (by unfold atA; rw[if_pos hd])
  omega
 ·have hz:idxZ t < 0∨¬ idxZ t < 0∧(l.toL.length:Int) < idxZ t:=by
   unfold idxZ
   cases hi:idxT t with
   | none=>left; simp
   | some i=>right; simp only; have:=hat i (by unfold atA; rw[if_neg hd]; exact hi); omega
  have hne:((strOf t).toList == [45])=false:=by
   rw[ByteArray.toList_eq,strOf_toList,beq_eq_false_iff_ne]; exact hd
  generalize idxZ t=z at *
  clear hat hg hgh hlh hd hpe
  clear hss hs1 hct hv hl hts htt hcap
  generalize strOf (ct v)=sv at *
  generalize strOf (ct u)=su at *
  generalize strOf (ct (.arr l))=sh at *
  generalize strOf t=st at *
  rcases hz with hz | ⟨hz,hz2⟩
  ·go_enter Tryz.func96,Tryz.ntmps96
   go_wp2_with fail
   refine (uh HGET).mono ?_
   rintro e w1 ⟨rfl,b1⟩
   have c1:=uh HCT w1 b1
   have HB1:=hide b1
   have kA:=heap_alloc_new w1 (.cells #[.string st,.string su] 63)
   have bA:=below_next b1 (alloc_below w1 (.cells #[.string st,.string su] 63))
   have HKP:Hid (∀ wx,Below (w1.alloc (.cells #[.string st,.string su] 63)).heap.size (w1.alloc (.cells #[.string st,.string su] 63)) wx→wx.cell? ⟨w1.heap.size,0,none⟩=some (.string st)∧wx.cell? ⟨w1.heap.size,1,none⟩=some (.string su)):=fun wx hx=>by
    have k:=(hx.block w1.heap.size (Array.getElem?_eq_some_iff.1 kA).1).trans kA
    exact⟨Lib.cell_of_heap k 0,Lib.cell_of_heap k 1⟩
   have HBA:=hide bA
   have HP1:=hide (uh HPA (w1.alloc (.cells #[.string st,.string su] 63)))
   clear HGET b1 kA bA HPA
   go_wp2_with fail
   generalize (w1.alloc (.cells #[.string st,.string su] 63))=wA at *
   refine (uh HP1).mono ?_
   rintro e w2 ⟨xa,xc,rfl,b2⟩
   have hB2:=below_next (uh HBA) b2
   have c2:=uh HCT w2 hB2
   have HB2:=hide hB2
   have HQ2:=hide b2
   have HI2:=hide (uh HIX w2)
   clear HP1 hB2 b2 HIX
   go_wp2_with fail
   refine (uh HI2).mono ?_
   rintro e w2' ⟨rfl,rfl⟩
   clear HI2
   clear HKP HQ2
   go_wp2
   go_ret2
   exact⟨rfl,uh HB2⟩
  ·go_enter Tryz.func96,Tryz.ntmps96
   go_wp2_with fail
   refine (uh HGET).mono ?_
   rintro e w1 ⟨rfl,b1⟩
   have c1:=uh HCT w1 b1
   have HB1:=hide b1
   have kA:=heap_alloc_new w1 (.cells #[.string st,.string su] 63)
   have bA:=below_next b1 (alloc_below w1 (.cells #[.string st,.string su] 63))
   have HKP:Hid (∀ wx,Below (w1.alloc (.cells #[.string st,.string su] 63)).heap.size (w1.alloc (.cells #[.string st,.string su] 63)) wx→wx.cell? ⟨w1.heap.size,0,none⟩=some (.string st)∧wx.cell? ⟨w1.heap.size,1,none⟩=some (.string su)):=fun wx hx=>by
    have k:=(hx.block w1.heap.size (Array.getElem?_eq_some_iff.1 kA).1).trans kA
    exact⟨Lib.cell_of_heap k 0,Lib.cell_of_heap k 1⟩
   have HBA:=hide bA
   have HP1:=hide (uh HPA (w1.alloc (.cells #[.string st,.string su] 63)))
   clear HGET b1 kA bA HPA
   go_wp2_with fail
   generalize (w1.alloc (.cells #[.string st,.string su] 63))=wA at *
   refine (uh HP1).mono ?_
   rintro e w2 ⟨xa,xc,rfl,b2⟩
   have hB2:=below_next (uh HBA) b2
   have c2:=uh HCT w2 hB2
   have HB2:=hide hB2
   have HQ2:=hide b2
   have HI2:=hide (uh HIX w2)
   clear HP1 hB2 b2 HIX
   go_wp2_with fail
   refine (uh HI2).mono ?_
   rintro e w2' ⟨rfl,rfl⟩
   clear HI2
   clear HKP HQ2
   go_wp2
   go_ret2
   exact⟨rfl,uh HB2⟩
theorem put_in (v u:JV) (xs:List (List UInt8)) (t:List UInt8) (a:Option Addr) (g off cap:Nat) (w:World) (hv:GdT v) (hu:GdT u) (hl:(ct v).length≤100000) (hul:(ct u).length≤100000) (hts:∀ x∈xs++[t],x.length≤1048576) (hn:xs.length≤1048576) (hcap:xs.length+1≤cap) (hss:SS w a g off ((xs++[t]).map baT)) (l:JL) (i:Nat) (hg:getV v xs=some (.arr l)) (hat:atA l t=some i) (hi:i≤l.toL.length) :
  Calls Tryz.prog 96 #[.string (strOf (ct v)),.slice a (xs.length+1) cap,.string (strOf (ct u))] w fun e w'=>e = .returned (.tuple #[.string (strOf (ct (setV v xs (.arr (JL.ofL (l.toL.take i++u :: l.toL.drop i)))))),.bool true])∧Below w.heap.size w w':=by
 obtain⟨hs1,rfl,hct⟩:=SS.init hss
 have htt:t.length≤1048576:=hts t (by simp)
 have HGET:=hide (get_walkS v hv.ok hv.tw (by omega) (some ⟨g,off,none⟩) g off cap xs w hs1 (by omega) (fun x hx=>hts x (List.mem_append_left _ hx)))
 have HCT:Hid (∀ wx,Below w.heap.size w wx→wx.cell? ⟨g,off+xs.length,none⟩=some (.string (strOf t))):=fun wx hx=>(hx.cell (p:=⟨g,off+xs.length,none⟩) (World.block_lt_of_cell? _ _ hct)).trans hct
 have hsub:(xs.length:Int)+1 - 1=(xs.length:Int):=by omega
 have hlec:xs.length≤cap:=by omega
 have hltI:(xs.length:Int) < (xs.length:Int)+1:=by omega
 have hgh:=hv.get hg
 have hlh:=getV_le hv hg
 have h0:=ct_posW hgh.ok
 have h0I:(0:Int) < ((strOf (ct (.arr l))).size:Int):=by omega
 rw[getR_some hg] at HGET
 obtain⟨cb,hcb,c5,c6⟩:=first_is hgh.ok h0
 have hc91:cb=91:=c5.2 rfl
 have f1:(((strOf (ct (.arr l)))[0].toNat:Int) != 91)=false:=by rw[hcb,hc91]; rfl
 have f3:(((strOf (ct (.arr l)))[0].toNat:Int) == 123)=false:=by rw[hcb,hc91]; rfl
 clear hcb c5 c6 hc91
 have hpe:(partsV (.arr l)).length=l.toL.length:=by
  have:=congrArg List.length (partsA_snd l)
  simpa using this
 have hpl:=parts_len hgh.ok (show (ct (.arr l)).length≤1000000 by omega)
 rw[hpe] at hpl
 have HPA:Hid (∀ wx,Calls Tryz.prog 35 #[.string (strOf (ct (.arr l)))] wx fun e w'=>∃ xa xc,e = .returned (.slice xa l.toL.length xc)∧Below wx.heap.size wx w'):=fun wx=>by
  refine (parts_ct (.arr l) hgh.ok wx (by omega)).mono ?_
  rintro e w' ⟨r,rfl,p,b⟩
  obtain⟨xa,xc,rfl⟩:=PR.shape p
  rw[hpe]
  exact⟨xa,xc,rfl,b⟩
 have HIX:Hid (∀ wx,Calls Tryz.prog 141 #[.string (strOf t)] wx fun e w'=>e = .returned (.int .i64 (idxZ t))∧wx=w'):=fun wx=>by
  have:=l1Index_walk (strOf t) wx (by rw[strOf_size]; exact htt)
  rwa [strOf_toList] at this
 have hput:putAt (.arr l) t u=some (.arr (JL.ofL (l.toL.take i++u :: l.toL.drop i))):=by
  simp only[putAt]
  unfold atA at hat
  rw[hat]
  simp only
  rw[if_pos hi]
 have hrg:=putAt_good hgh hu hput
 have hrl:=putAt_len hgh hput
 have hsl:=setV_len (u:=(.arr (JL.ofL (l.toL.take i++u :: l.toL.drop i)))) hv hg
 have HWI:Hid (∀ (wx:World),Calls Tryz.prog 140 #[.string (strOf (ct (.arr l))),.int .i64 (i:Int),.bool false,.bool true,.agg #[.string (strOf t),.string (strOf (ct u))]] wx fun e w'=>e = .returned (.string (strOf (ct (.arr (JL.ofL (l.toL.take i++u :: l.toL.drop i))))))∧Below wx.heap.size wx w'):=fun wx=>by
  obtain⟨s1,s2,s3⟩:=with_sizes hgh.ok hgh.tw (.inl rfl) (by omega) i false true (t,ct u) htt (by show (ct u).length≤_; omega)
  have:=with_walk (.arr l) hgh.ok (by omega) i false true (t,ct u) wx (by omega) s1 s2 s3
  rw[mkV_putA hi] at this
  exact this
 have HSET:Hid (∀ wx,Below w.heap.size w wx→Calls Tryz.prog 99 #[.string (strOf (ct v)),.slice (some ⟨g,off,none⟩) xs.length cap,.string (strOf (ct (.arr (JL.ofL (l.toL.take i++u :: l.toL.drop i)))))] wx fun e w'=>e = .returned (.string (strOf (ct (setV v xs (.arr (JL.ofL (l.toL.take i++u :: l.toL.drop i)))))))∧Below wx.heap.size wx w'):=fun wx hx=>set_walk xs v (.arr (JL.ofL (l.toL.take i++u :: l.toL.drop i))) (.arr l) (some ⟨g,off,none⟩) g off cap wx hv hrg hg hl (by omega) (fun x hx=>hts x (List.mem_append_left _ hx)) (by omega) (by omega) (hs1.below hx)
 by_cases hd:t=[45]
 ·have hin:i=l.toL.length:=by unfold atA at hat; rw[if_pos hd] at hat; injection hat with hat; exact hat.symm
  have hyes:((strOf t).toList == [45])=true:=by rw[ByteArray.toList_eq,strOf_toList,hd]; rfl
  have hzl:¬ (l.toL.length:Int) < 0:=by omega
  generalize strOf (ct (setV v xs (.arr (JL.ofL (l.toL.take i++u :: l.toL.drop i)))))=RR at *
  generalize strOf (ct (.arr (JL.ofL (l.toL.take i++u :: l.toL.drop i))))=DD at *
  subst hin
  generalize idxZ t=z at *
  clear hat hg hgh hlh hd hpe hput hrg hrl hsl hi
  clear hss hs1 hct hv hu hl hul hts htt hcap
  generalize strOf (ct v)=sv at *
  generalize strOf (ct u)=su at *
  generalize strOf (ct (.arr l))=sh at *
  generalize strOf t=st at *
  go_enter Tryz.func96,Tryz.ntmps96
  go_wp2_with fail
  refine (uh HGET).mono ?_
  rintro e w1 ⟨rfl,b1⟩
  have c1:=uh HCT w1 b1
  have HB1:=hide b1
  have kA:=heap_alloc_new w1 (.cells #[.string st,.string su] 63)
  have bA:=below_next b1 (alloc_below w1 (.cells #[.string st,.string su] 63))
  have HKP:Hid (∀ wx,Below (w1.alloc (.cells #[.string st,.string su] 63)).heap.size (w1.alloc (.cells #[.string st,.string su] 63)) wx→wx.cell? ⟨w1.heap.size,0,none⟩=some (.string st)∧wx.cell? ⟨w1.heap.size,1,none⟩=some (.string su)):=fun wx hx=>by
   have k:=(hx.block w1.heap.size (Array.getElem?_eq_some_iff.1 kA).1).trans kA
   exact⟨Lib.cell_of_heap k 0,Lib.cell_of_heap k 1⟩
  have HBA:=hide bA
  have HP1:=hide (uh HPA (w1.alloc (.cells #[.string st,.string su] 63)))
  clear HGET b1 kA bA HPA
  go_wp2_with fail
  generalize (w1.alloc (.cells #[.string st,.string su] 63))=wA at *
  refine (uh HP1).mono ?_
  rintro e w2 ⟨xa,xc,rfl,b2⟩
  have hB2:=below_next (uh HBA) b2
  have c2:=uh HCT w2 hB2
  have HB2:=hide hB2
  have HQ2:=hide b2
  have HI2:=hide (uh HIX w2)
  clear HP1 hB2 b2 HIX
  go_wp2_with fail
  refine (uh HI2).mono ?_
  rintro e w2' ⟨rfl,rfl⟩
  clear HI2
  have bD5:Below w.heap.size w w2.drew:=(uh HB2).drew
  have bP5:=(uh HQ2).drew
  obtain⟨y0,y1⟩:=uh HKP w2.drew bP5
  go_wp2_with fail
  go_region_law (first
   | (have hq:=b6'; go_simp; refine (uh HSET _ b6').mono ?_; rintro e w7 ⟨rfl,b7⟩)
   | (go_simp; refine (uh HWI _).mono ?_; rintro e w6 ⟨rfl,b6⟩; have b6':=below_next bD5 b6; have z6:=uh HKP w6 (below_next bP5 b6); have z0:=z6.1; have z1:=z6.2))
  all_goals
   have HBF:=hide (below_next b6' b7)
   clear b6 b6' b7 bD5 bP5 z6 z0 z1 y0 y1 HSET HWI HKP HCT
   go_wp2
   go_ret2
   exact⟨rfl,uh HBF⟩
 ·have hix:idxZ t=(i:Int):=by unfold atA at hat; rw[if_neg hd] at hat; unfold idxZ; rw[hat]
  have hne:((strOf t).toList == [45])=false:=by
   rw[ByteArray.toList_eq,strOf_toList,beq_eq_false_iff_ne]; exact hd
  have hzl:¬ (i:Int) < 0:=by omega
  have hzl2:¬ (l.toL.length:Int) < (i:Int):=by omega
  have hib:i≤1000000:=by omega
  rw[hix] at HIX
  generalize strOf (ct (setV v xs (.arr (JL.ofL (l.toL.take i++u :: l.toL.drop i)))))=RR at *
  generalize strOf (ct (.arr (JL.ofL (l.toL.take i++u :: l.toL.drop i))))=DD at *
  clear hat hg hgh hlh hd hpe hput hrg hrl hsl hix
  clear hss hs1 hct hv hu hl hul hts htt hcap
  generalize strOf (ct v)=sv at *
  generalize strOf (ct u)=su at *
  generalize strOf (ct (.arr l))=sh at *
  generalize strOf t=st at *
  go_enter Tryz.func96,Tryz.ntmps96
  go_wp2_with fail
  refine (uh HGET).mono ?_
  rintro e w1 ⟨rfl,b1⟩
  have c1:=uh HCT w1 b1
  have HB1:=hide b1
  have kA:=heap_alloc_new w1 (.cells #[.string st,.string su] 63)
  have bA:=below_next b1 (alloc_below w1 (.cells #[.string st,.string su] 63))
  have HKP:Hid (∀ wx,Below (w1.alloc (.cells #[.string st,.string su] 63)).heap.size (w1.alloc (.cells #[.string st,.string su] 63)) wx→wx.cell? ⟨w1.heap.size,0,none⟩=some (.string st)∧wx.cell? ⟨w1.heap.size,1,none⟩=some (.string su)):=fun wx hx=>by
   have k:=(hx.block w1.heap.size (Array.getElem?_eq_some_iff.1 kA).1).trans kA
   exact⟨Lib.cell_of_heap k 0,Lib.cell_of_heap k 1⟩
  have HBA:=hide bA
  have HP1:=hide (uh HPA (w1.alloc (.cells #[.string st,.string su] 63)))
  clear HGET b1 kA bA HPA
  go_wp2_with fail
  generalize (w1.alloc (.cells #[.string st,.string su] 63))=wA at *
  refine (uh HP1).mono ?_
  rintro e w2 ⟨xa,xc,rfl,b2⟩
  have hB2:=below_next (uh HBA) b2
  have c2:=uh HCT w2 hB2
  have HB2:=hide hB2
  have HQ2:=hide b2
  have HI2:=hide (uh HIX w2)
  clear HP1 hB2 b2 HIX
  go_wp2_with fail
  refine (uh HI2).mono ?_
  rintro e w2' ⟨rfl,rfl⟩
  clear HI2
  have bD5:Below w.heap.size w w2.drew:=(uh HB2).drew
  have bP5:=(uh HQ2).drew
  obtain⟨y0,y1⟩:=uh HKP w2.drew bP5
  go_wp2_with fail
  go_region_law (first
   | (have hq:=b6'; go_simp; refine (uh HSET _ b6').mono ?_; rintro e w7 ⟨rfl,b7⟩)
   | (go_simp; refine (uh HWI _).mono ?_; rintro e w6 ⟨rfl,b6⟩; have b6':=below_next bD5 b6; have z6:=uh HKP w6 (below_next bP5 b6); have z0:=z6.1; have z1:=z6.2))
  all_goals
   have HBF:=hide (below_next b6' b7)
   clear b6 b6' b7 bD5 bP5 z6 z0 z1 y0 y1 HSET HWI HKP HCT
   go_wp2
   go_ret2
   exact⟨rfl,uh HBF⟩
theorem put_walk (v u:JV) (xs:List (List UInt8)) (t:List UInt8) (a:Option Addr) (g off cap:Nat) (w:World) (hv:GdT v) (hu:GdT u) (hl:(ct v).length≤100000) (hul:(ct u).length≤100000) (hts:∀ x∈xs++[t],x.length≤1048576) (hn:xs.length≤1048576) (hcap:xs.length+1≤cap) (hss:SS w a g off ((xs++[t]).map baT)) :
  Calls Tryz.prog 96 #[.string (strOf (ct v)),.slice a (xs.length+1) cap,.string (strOf (ct u))] w fun e w'=>e = .returned (putR (putV v (xs++[t]) u))∧Below w.heap.size w w':=by
 have hpv:putV v (xs++[t]) u=chgV (fun h=>putAt h t u) v xs:=by
  unfold putV
  rw[if_neg (by simp),List.dropLast_concat]
  congr 1
  funext h
  unfold lastT
  simp
 rw[hpv]
 unfold chgV
 cases hg:getV v xs with
 | none=>exact put_none v u xs t a g off cap w hv hl hts hn hcap hss hg
 | some h=>
  show Calls _ _ _ _ fun e w'=>e = .returned (putR ((putAt h t u).map (setV v xs)))∧_
  cases h with
  | arr l=>
   cases hat:atA l t with
   | none=>
    have e:putAt (.arr l) t u=none:=by
     simp only[putAt]
     unfold atA at hat
     rw[hat]
    rw[e]
    exact put_out v u xs t a g off cap w hv hl hts hn hcap hss l hg (fun i hi=>by rw[hat] at hi; cases hi)
   | some i=>
    by_cases hi:i≤l.toL.length
    ·have e:putAt (.arr l) t u=some (.arr (JL.ofL (l.toL.take i++u :: l.toL.drop i))):=by
      simp only[putAt]
      unfold atA at hat
      rw[hat]
      simp only
      rw[if_pos hi]
     rw[e]
     exact put_in v u xs t a g off cap w hv hu hl hul hts hn hcap hss l i hg hat hi
    ·have e:putAt (.arr l) t u=none:=by
      simp only[putAt]
      unfold atA at hat
      rw[hat]
      simp only
      rw[if_neg hi]
     rw[e]
     exact put_out v u xs t a g off cap w hv hl hts hn hcap hss l hg (fun j hj=>by rw[hat] at hj; injection hj with hj; omega)
  | obj m=>
   cases hval:Lib.validD t with
   | false=>
    have e:putAt (.obj m) t u=none:=by simp only[putAt]; rw[if_neg (by rw[hval]; simp)]
    rw[e]
    exact put_bad v u xs t a g off cap w hv hl hts hn hcap hss m hg hval
   | true=>
    cases hch:childV (.obj m) t with
    | some c=>
     have e:putAt (.obj m) t u=some (setAt (.obj m) t u):=by simp only[putAt]; rw[if_pos hval,hch]; rfl
     rw[e]
     exact put_old v u xs t a g off cap w hv hu hl hul hts hn hcap hss m c hg hval hch
    | none=>
     have e:putAt (.obj m) t u=some (.obj (JM.ofL (m.toL++[(t,u)]))):=by simp only[putAt]; rw[if_pos hval,hch]; rfl
     rw[e]
     exact put_new v u xs t a g off cap w hv hu hl hul hts hn hcap hss m hg hval hch
  | nul=>exact put_leaf v u xs t a g off cap w hv hl hts hn hcap hss _ hg (by decide) (by decide)
  | tt=>exact put_leaf v u xs t a g off cap w hv hl hts hn hcap hss _ hg (by decide) (by decide)
  | ff=>exact put_leaf v u xs t a g off cap w hv hl hts hn hcap hss _ hg (by decide) (by decide)
  | num x=>exact put_leaf v u xs t a g off cap w hv hl hts hn hcap hss _ hg (by simp[kd]) (by simp[kd])
  | str x=>exact put_leaf v u xs t a g off cap w hv hl hts hn hcap hss _ hg (by simp[kd]) (by simp[kd])
abbrev opCs (m:POp) : Array Value:=#[.int .i64 m.kind,.string m.path,.string m.src,.string m.val]
def OpIn (w:World) (g:Nat) (m:POp) : Prop:=w.heap[g]?=some (.cells (opCs m) 59 (0,0))
theorem OpIn.lt {w:World} {g:Nat} {m:POp} (h:OpIn w g m) : g < w.heap.size:=(Array.getElem?_eq_some_iff.1 h).1
theorem OpIn.below {w w':World} {g:Nat} {m:POp} (h:OpIn w g m) (hb:Below w.heap.size w w') : OpIn w' g m:=(hb.block g h.lt).trans h
theorem OpIn.c {w:World} {g:Nat} {m:POp} (h:OpIn w g m) : w.cell? ⟨g,0,none⟩=some (.int .i64 m.kind)∧w.cell? ⟨g,1,none⟩=some (.string m.path)∧w.cell? ⟨g,2,none⟩=some (.string m.src)∧w.cell? ⟨g,3,none⟩=some (.string m.val):=⟨Lib.cell_of_heap h 0,Lib.cell_of_heap h 1,Lib.cell_of_heap h 2,Lib.cell_of_heap h 3⟩
theorem pre_is (a b:List (List UInt8)) : pre a b=a.isPrefixOf b:=by
 rw[Bool.eq_iff_iff,List.isPrefixOf_iff_prefix]
 unfold pre
 rw[decide_eq_true_iff]
 constructor
 ·rintro⟨h1,h2⟩
  refine⟨b.drop a.length,?_⟩
  refine List.ext_getElem? fun j=>?_
  by_cases hj:j < a.length
  ·rw[List.getElem?_append_left hj]
   have:=h2 j hj
   rw[List.getElem?_eq_getElem hj,List.getElem?_eq_getElem (by omega)]
   simpa [List.getD,hj,show j < b.length by omega] using this
  ·rw[List.getElem?_append_right (by omega),List.getElem?_drop]
   congr 1
   omega
 ·rintro⟨r,rfl⟩
  refine⟨by simp,fun j hj=>?_⟩
  simp[List.getD,List.getElem?_append_left hj]
theorem pre_both {a b:List (List UInt8)} (h1:pre a b=true) (h2:pre b a=true) : a=b:=by
 rw[pre_is,List.isPrefixOf_iff_prefix] at h1 h2
 exact h1.eq_of_length (Nat.le_antisymm h1.length_le h2.length_le)
theorem pre_refl (a:List (List UInt8)) : pre a a=true:=by
 rw[pre_is,List.isPrefixOf_iff_prefix]; exact List.prefix_refl a
theorem put_empty (sv su:ByteArray) (a:Option Addr) (cap:Nat) (w:World) :
  Calls Tryz.prog 96 #[.string sv,.slice a 0 cap,.string su] w fun e w'=>e = .returned (.tuple #[.string su,.bool true])∧Below w.heap.size w w':=by
 go_enter Tryz.func96,Tryz.ntmps96
 go_wp2
 go_ret2
 exact⟨rfl,Below.refl _ _⟩
theorem put_any (v u:JV) (ts:List (List UInt8)) (a:Option Addr) (g off cap:Nat) (w:World) (hv:GdT v) (hu:GdT u) (hl:(ct v).length≤100000) (hul:(ct u).length≤100000) (hts:∀ x∈ts,x.length≤1048576) (hn:ts.length≤1048577) (hcap:ts.length≤cap) (hss:SS w a g off (ts.map baT)) :
  Calls Tryz.prog 96 #[.string (strOf (ct v)),.slice a ts.length cap,.string (strOf (ct u))] w fun e w'=>e = .returned (putR (putV v ts u))∧Below w.heap.size w w':=by
 rcases List.eq_nil_or_concat ts with rfl | ⟨xs,t,rfl⟩
 ·exact put_empty _ _ a cap w
 ·rw[List.concat_eq_append] at *
  have hlen:(xs++[t]).length=xs.length+1:=by simp
  rw[hlen] at hn hcap ⊢
  exact put_walk v u xs t a g off cap w hv hu hl hul hts (by omega) hcap hss
theorem dropV_some {v c:JV} {xs:List (List UInt8)} {t:List UInt8} (h:getV v (xs++[t])=some c) : ∃ hm,getV v xs=some hm∧childV hm t=some c∧dropV v (xs++[t])=some (setV v xs (dropAt hm t)):=by
 rw[getV_app] at h
 cases hg:getV v xs with
 | none=>rw[hg] at h; cases h
 | some hm=>
  rw[hg] at h
  have h':getV hm [t]=some c:=h
  rw[getV_con] at h'
  cases hc:childV hm t with
  | none=>rw[hc] at h'; cases h'
  | some x=>
   rw[hc] at h'
   have:x=c:=by have h2:getV x []=some c:=h'; rw[getV_nil] at h2; injection h2
   subst this
   refine⟨hm,rfl,hc,?_⟩
   unfold dropV chgV takeAt lastT
   rw[if_neg (by simp),List.dropLast_concat,hg]
   simp[hc]
theorem drop_any (v c:JV) (ts:List (List UInt8)) (a:Option Addr) (g off cap:Nat) (w:World) (hne:ts≠[]) (hv:GdT v) (hg:getV v ts=some c) (hl:(ct v).length≤100000) (hts:∀ x∈ts,x.length≤1048576) (hn:ts.length≤1048577) (hcap:ts.length≤cap) (hss:SS w a g off (ts.map baT)) :
  ∃ r,dropV v ts=some r∧GdT r∧(ct r).length≤(ct v).length∧Calls Tryz.prog 98 #[.string (strOf (ct v)),.slice a ts.length cap] w fun e w'=>e = .returned (.string (strOf (ct r)))∧Below w.heap.size w w':=by
 rcases List.eq_nil_or_concat ts with rfl | ⟨xs,t,rfl⟩
 ·exact absurd rfl hne
 ·rw[List.concat_eq_append] at *
  have hlen:(xs++[t]).length=xs.length+1:=by simp
  obtain⟨hm,h1,h2,h3⟩:=dropV_some hg
  have h4:=setV_len (u:=dropAt hm t) hv h1
  have h5:=dropAt_len h2
  refine⟨_,h3,dropV_good hv h3,by omega,?_⟩
  rw[hlen] at hn hcap ⊢
  exact drop_walk v hm c xs t a g off cap w hv h1 h2 hl hts (by omega) hcap hss
def xOf (o:POp) (u:JV) : XOp:=⟨o.kind,(ptoks o.path.data.toList).getD [],(ptoks o.src.data.toList).getD [],u⟩
def doR:Nat⊕JV→Value
 | .inl c=>.tuple #[.string ⟨#[]⟩,.int .i64 (c:Int)]
 | .inr r=>.tuple #[.string (strOf (ct r)),.int .i64 0]
theorem toks_bnd (s:ByteArray) (hs:s.size≤1048576) : ((ptoks s.data.toList).getD []).length≤1048577∧∀ x∈(ptoks s.data.toList).getD [],x.length≤1048576:=by
 have hd:=data_len s
 have h1:=toks_len_le s.data.toList
 cases hp:ptoks s.data.toList with
 | none=>simp
 | some ts=>
  rw[hp] at h1
  simp only[Option.getD_some] at h1 ⊢
  have h2:=ptoks_small hp
  exact⟨by omega,fun x hx=>by have:=h2 x hx; omega⟩
theorem OT.all {w:World} {B:Nat} {v:Value} {ts:List (List UInt8)} (h:OT w B v ts) : ∃ a g cap,v = .slice a ts.length cap∧SS w a g 0 (ts.map baT)∧ts.length≤cap:=by
 obtain⟨a,g,cap,rfl,hs,_⟩:=h.shape
 refine⟨a,g,cap,rfl,hs,?_⟩
 rcases h.2 with ⟨hv,h0⟩ | ⟨g',cap',cur,hv,_,_,hc,_⟩
 ·omega
 ·injection hv with _ _ e
  omega
theorem do_add (v u:JV) (o:POp) (w:World) (hv:GdT v) (hl:(ct v).length≤100000) (hp:o.path.size≤1048576) (hs:o.src.size≤1048576) (hk:o.kind=1) (hval:o.val=strOf (ct u)) (hu:GdT u) (hul:(ct u).length≤100000) :
  Calls Tryz.prog 48 #[.string (strOf (ct v)),.agg (opCs o)] w fun e w'=>e = .returned (doR (doV v (xOf o u)))∧Below w.heap.size w w':=by
 obtain⟨hpn,hpt⟩:=toks_bnd o.path hp
 obtain⟨hsn,hst⟩:=toks_bnd o.src hs
 have hX:xOf o u=⟨o.kind,(ptoks o.path.data.toList).getD [],(ptoks o.src.data.toList).getD [],u⟩:=rfl
 have kA:=heap_alloc_new w (.cells (opCs o) 59)
 have bA:=alloc_below w (.cells (opCs o) 59)
 have hOA:OpIn (w.alloc (.cells (opCs o) 59)) w.heap.size o:=kA
 have HT1:=hide (specToks_walk o.path (w.alloc (.cells (opCs o) 59)) hp)
 have HT2:Hid (∀ wx,Calls Tryz.prog 93 #[.string o.src] wx fun e w'=>∃ v,e = .returned (.tuple #[v,.bool (ptoks o.src.data.toList).isSome])∧OT w' wx.heap.size v ((ptoks o.src.data.toList).getD [])∧Below wx.heap.size wx w'):=fun wx=>specToks_walk o.src wx hs
 have HOA:=hide hOA
 have HBA:=hide bA
 have hc:=hOA.c
 generalize (ptoks o.path.data.toList).isSome=ok1 at *
 generalize (ptoks o.src.data.toList).isSome=ok2 at *
 generalize (ptoks o.path.data.toList).getD []=ps at *
 generalize (ptoks o.src.data.toList).getD []=fs at *
 have HGP:Hid (∀ (a:Option Addr) (g cap:Nat) (wx:World),SS wx a g 0 (ps.map baT)→Calls Tryz.prog 94 #[.string (strOf (ct v)),.slice a ps.length cap] wx fun e w'=>e = .returned (getR v ps)∧Below wx.heap.size wx w'):=fun a g cap wx h=>get_walkS v hv.ok hv.tw (by omega) a g 0 cap ps wx h hpn hpt
 obtain⟨gx,gb,hgr⟩ : ∃ (gx:ByteArray) (gb:Bool),getR v ps = .tuple #[.string gx,.bool gb]:=by
  unfold getR; cases getV v ps with
  | none=>exact⟨_,_,rfl⟩
  | some x=>exact⟨_,_,rfl⟩
 have HPU:Hid (∀ (a:Option Addr) (g cap:Nat) (wx:World),ps.length≤cap→SS wx a g 0 (ps.map baT)→Calls Tryz.prog 96 #[.string (strOf (ct v)),.slice a ps.length cap,.string o.val] wx fun e w'=>e = .returned (putR (putV v ps u))∧Below wx.heap.size wx w'):=fun a g cap wx hc h=>by rw[hval]; exact put_any v u ps a g 0 cap wx hv hu hl hul hpt hpn hc h
 have HDO:Hid (doV v (xOf o u)=optC 3 (putV v ps u)):=by show _=_; rw[hX]; unfold doV; simp only; rw[if_pos hk]
 rw[hgr] at HGP
 clear kA bA hOA
 clear hX hv hl hp hs hu hul hval hsn hst hpt hgr
 generalize doV v (xOf o u)=DO at *
 generalize strOf (ct v)=sv at *
 go_enter Tryz.func48,Tryz.ntmps48
 go_wp2_with fail
 generalize (w.alloc (.cells (opCs o) 59))=wA at *
 refine (uh HT1).mono ?_
 rintro e w1 ⟨v1,rfl,o1,b1⟩
 have hO1:=(uh HOA).below b1
 obtain⟨p10,p11,p12,p13⟩:=hO1.c
 obtain⟨a1,g1,cap1,rfl,ss1,hcap1⟩:=OT.all o1
 have HOT1:=hide o1
 have HSS1:=hide ss1
 have HO1:=hide hO1
 have HB1:=hide (below_next (uh HBA) b1)
 have HT2':=hide (uh HT2 w1)
 clear HT1 HT2 o1 ss1 b1 hO1 HOA HBA hc
 go_wp2_with fail
 refine (uh HT2').mono ?_
 rintro e w2 ⟨v2,rfl,o2,b2⟩
 have hO2:=(uh HO1).below b2
 obtain⟨q10,q11,q12,q13⟩:=hO2.c
 obtain⟨a2,g2,cap2,rfl,ss2,hcap2⟩:=OT.all o2
 have HOT2:=hide o2
 have HOT12:=hide (own_below (uh HOT1) b2)
 have HSS2:=hide ss2
 have HSS12:=hide ((uh HSS1).below b2)
 have HO2:=hide hO2
 have HB2:=hide (below_next (uh HB1) b2)
 have HG2:=hide (uh HGP a1 g1 cap1 w2 (uh HSS12))
 clear HT2' o2 ss2 b2 hO2 HO1 HB1 HGP HSS1 HOT1 p10 p11 p12 p13
 go_wp2_with fail
 refine (uh HG2).mono ?_
 rintro e w3 ⟨rfl,b3⟩
 have hO3:=(uh HO2).below b3
 obtain⟨r10,r11,r12,r13⟩:=hO3.c
 have HO3:=hide hO3
 have HSS1:=hide ((uh HSS12).below b3)
 have HSS2':=hide ((uh HSS2).below b3)
 have HOT1:=hide (own_below (uh HOT12) b3)
 have HOT2':=hide (own_below (uh HOT2) b3)
 have HB3:=hide (below_next (uh HB2) b3)
 clear HG2 b3 hO3 HO2 HSS12 HSS2 HOT12 HOT2 HB2 q10 q11 q12 q13
 have HP3:=hide (uh HPU a1 g1 cap1 w3 hcap1 (uh HSS1))
 clear HPU
 cases hpv:putV v ps u with
 | none=>
  rw[hpv] at HP3 HDO
  rw[show putR none = .tuple #[.string ⟨#[]⟩,.bool false] from rfl] at HP3
  clear hpv
  go_wp2_with fail
  refine (uh HP3).mono ?_
  rintro e w4 ⟨rfl,b4⟩
  have HB4:=hide (below_next (uh HB3) b4)
  clear HP3 b4
  go_wp2
  go_ret2
  exact⟨by rw[uh HDO]; rfl,uh HB4⟩
 | some r=>
  rw[hpv] at HP3 HDO
  rw[show putR (some r) = .tuple #[.string (strOf (ct r)),.bool true] from rfl] at HP3
  clear hpv
  go_wp2_with fail
  refine (uh HP3).mono ?_
  rintro e w4 ⟨rfl,b4⟩
  have HB4:=hide (below_next (uh HB3) b4)
  clear HP3 b4
  go_wp2
  go_ret2
  exact⟨by rw[uh HDO]; rfl,uh HB4⟩
end Go.Proofs.YtocnekbedcnmgaaGreatDoor
