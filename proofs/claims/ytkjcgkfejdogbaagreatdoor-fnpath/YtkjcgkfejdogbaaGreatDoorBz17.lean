import Derived.Test.YtkjcgkfejdogbaaGreatDoorBz11
import Derived.Test.YtkjcgkfejdogbaaGreatDoorBz1
import Derived.Test.YtkjcgkfejdogbaaGreatDoorBz16
import Derived.Test.YtkjcgkfejdogbaaGreatDoorBz5
namespace Go.Proofs.YtkjcgkfejdogbaaGreatDoor
open Go.RowKit
structure EK {α:Type} (e:Elem α) (t:TypeId) : Prop where
 ty:∃ ts,(∀ {w vs x bl},e.E w vs x bl→Tys ts w bl)∧e.T ∉ ts
 und:Tryz.prog.underlying t=some (.slice e.T)
 info:∃ z bytes,(Tryz.prog.info? e.T).map (fun i=>(i.zero,i.size,i.bytes))=some (some z,e.wd,bytes)∧z.cells.size=e.wd∧bytes≤100
 pos:0 < e.wd
theorem step_ty {w:World} {vs:List Value} {m:PStep} {bl:List Nat} (h:stepE.E w vs m bl) : Tys [] w bl:=by
 obtain⟨_,rfl⟩:=h; intro b hb; simp at hb
theorem fop_ty {w:World} {vs:List Value} {m:PFOp} {bl:List Nat} (h:fopE.E w vs m bl) : Tys [107] w bl:=by obtain⟨q,_,h⟩:=h; exact orow_ty (e:=stepE) step_ty h
theorem sel_ty {w:World} {vs:List Value} {m:PSel} {bl:List Nat} (h:selE.E w vs m bl) : Tys [37,107] w bl:=by obtain⟨q,_,h⟩:=h; exact orow_ty (e:=fopE) fop_ty h
theorem seg_ty {w:World} {vs:List Value} {m:PSeg} {bl:List Nat} (h:segE.E w vs m bl) : Tys [40,37,107] w bl:=by obtain⟨q,_,h⟩:=h; exact orow_ty (e:=selE) sel_ty h
theorem ekStep:EK stepE 35:=⟨⟨[],step_ty,by simp⟩,Tryz.underlying35,⟨.agg #[.bool false,.string ByteArray.empty,.int .i64 0],32,by kernel_rfl,rfl,by decide⟩,by decide⟩
theorem ekFOp:EK fopE 38:=⟨⟨_,fop_ty,by decide⟩,Tryz.underlying38,⟨.agg #[.int .i64 0,.int .i64 0,.string ByteArray.empty,.bool false,.slice none 0 0],64,by kernel_rfl,rfl,by decide⟩,by decide⟩
theorem ekSel:EK selE 41:=⟨⟨_,sel_ty,by decide⟩,Tryz.underlying41,⟨.agg #[.int .i64 0,.string ByteArray.empty,.bool false,.bool false,.bool false,.int .i64 0,.int .i64 0,.int .i64 0,.slice none 0 0],80,by kernel_rfl,rfl,by decide⟩,by decide⟩
theorem ekSeg:EK segE 23:=⟨⟨_,seg_ty,by decide⟩,Tryz.underlying23,⟨.agg #[.bool false,.slice none 0 0],32,by kernel_rfl,rfl,by decide⟩,by decide⟩
section
variable {α:Type} {e:Elem α} {t:TypeId}
theorem run_app (K:EK e t) (w:World) (ty:TypeId) {B:Nat} {v:Value} {xs:List α} {bl:List Nat} (h:ORow e w v xs bl) (hF:Fsh B bl)
  {qs:List (List Value×List Nat)} {ys:List α} (hql:qs.length=ys.length) (h0:0 < ys.length) (hE:∀ (j:Nat) (p:List Value×List Nat) (y:α),qs[j]?=some p→ys[j]?=some y→e.E w p.1 y p.2) (hFi:Fsh B (qs.flatMap (·.2))) (hap:∀ b∈qs.flatMap (·.2),b ∉ bl)
  {g c:Nat} (hcell:∀ (j:Nat) (u:Value),(qs.flatMap (·.1))[j]?=some u→w.cell? ((⟨g,0,none⟩ : Addr).add j)=some u) (h1:∀ u∈qs.flatMap (·.1),u.oneCell'=true) (hB:B≤w.heap.size) (hl:xs.length+ys.length≤40000000) :
  ∃ v' w' bl',(Builtin.append_ #[t,t] ty #[v,.slice (some ⟨g,0,none⟩) ys.length c]).run Tryz.prog w = .ok v' w'∧Appd e B w w' v v' bl (qs.flatMap (·.2)) bl' (xs++ys):=by
 obtain⟨ts,he,hts⟩:=K.ty
 obtain⟨z,by0,hi,hz,hb⟩:=K.info
 exact run_append_elems he hts K.und hi hz K.pos hb w ty h hF hql h0 hE hFi hap hcell h1 hB hl
theorem run_app1 (K:EK e t) (w:World) (ty:TypeId) {B:Nat} {v:Value} {xs:List α} {bl:List Nat} (h:ORow e w v xs bl) (hF:Fsh B bl)
  {vs:List Value} {ib:List Nat} {y:α} (hE:e.E w vs y ib) (hFi:Fsh B ib) (hap:∀ b∈ib,b ∉ bl)
  {g c:Nat} (hcell:∀ (j:Nat) (u:Value),vs[j]?=some u→w.cell? ((⟨g,0,none⟩ : Addr).add j)=some u) (h1:∀ u∈vs,u.oneCell'=true) (hB:B≤w.heap.size) (hl:xs.length+1≤40000000) :
  ∃ v' w' bl',(Builtin.append_ #[t,t] ty #[v,.slice (some ⟨g,0,none⟩) 1 c]).run Tryz.prog w = .ok v' w'∧Appd e B w w' v v' bl ib bl' (xs++[y]):=by
 have e1:([(vs,ib)] : List (List Value×List Nat)).flatMap (·.1)=vs:=by simp
 have e2:([(vs,ib)] : List (List Value×List Nat)).flatMap (·.2)=ib:=by simp
 have:=run_app K w ty h hF (qs:=[(vs,ib)]) (ys:=[y]) rfl (by simp) (fun j p z h1 h2=>by
  match j,h1,h2 with
  | 0,h1,h2=>simp at h1 h2; subst h1; subst h2; exact hE) (by rw[e2]; exact hFi) (by rw[e2]; exact hap) (g:=g) (c:=c) (by rw[e1]; exact hcell) (by rw[e1]; exact h1) hB hl
 rw[e2] at this
 exact this
theorem wpl_app1 (K:EK e t) {w:World} {ops:Array Oper} {rest:List Oper} {o:Oper} {a:Act} {Q:Exit→Act→World→Prop} (hg:o.guard=none) (s x:Operand)
  (ho:o.op = .call { callee:=.builtin .append,args:=#[s,x],argTypes:=#[t,t] }) {B:Nat} {v:Value} {xs:List α} {bl:List Nat} (hs:a.eval s=v) (h:ORow e w v xs bl) (hF:Fsh B bl)
  {vs:List Value} {ib:List Nat} {y:α} (hE:e.E w vs y ib) (hFi:Fsh B ib) (hap:∀ b∈ib,b ∉ bl) {g c:Nat} (hx:a.eval x = .slice (some ⟨g,0,none⟩) 1 c)
  (hcell:∀ (j:Nat) (u:Value),vs[j]?=some u→w.cell? ((⟨g,0,none⟩ : Addr).add j)=some u) (h1:∀ u∈vs,u.oneCell'=true) (hB:B≤w.heap.size) (hl:xs.length+1≤40000000)
  (hK:∀ v' w' bl',Appd e B w w' v v' bl ib bl' (xs++[y])→wpList Tryz.prog ops Q rest (a.put o.dst v') w') : wpList Tryz.prog ops Q (o :: rest) a w:=by
 obtain⟨v',w',bl',hr,hA⟩:=run_app1 K w o.type h hF hE hFi hap (g:=g) (c:=c) hcell h1 hB hl
 exact wpList_plain hg fun _ hk=>wp_append_run s x t ho hs hx hr (hk _ _ (hK v' w' bl' hA))
theorem stp_app1 (K:EK e t) {w:World} {ops:Array Oper} {o:Oper} {a:Act} {Kt:Act→World→Prop} {Q:Exit→Act→World→Prop} {F:Prop} (hg:o.guard=none) (s x:Operand)
  (ho:o.op = .call { callee:=.builtin .append,args:=#[s,x],argTypes:=#[t,t] }) {B:Nat} {v:Value} {xs:List α} {bl:List Nat} (hs:a.eval s=v) (h:ORow e w v xs bl) (hF:Fsh B bl)
  {vs:List Value} {ib:List Nat} {y:α} (hE:e.E w vs y ib) (hFi:Fsh B ib) (hap:∀ b∈ib,b ∉ bl) {g c:Nat} (hx:a.eval x = .slice (some ⟨g,0,none⟩) 1 c)
  (hcell:∀ (j:Nat) (u:Value),vs[j]?=some u→w.cell? ((⟨g,0,none⟩ : Addr).add j)=some u) (h1:∀ u∈vs,u.oneCell'=true) (hB:B≤w.heap.size) (hl:xs.length+1≤40000000)
  (hK:∀ v' w' bl',Appd e B w w' v v' bl ib bl' (xs++[y])→Kt (a.put o.dst v') w') :
  if Region.wanted o (yielded ops a.tmps)=true then Oper.wp Tryz.prog o a w Kt Q else F:=by
 have hw:Region.wanted o (yielded ops a.tmps)=true:=by simp[Region.wanted,hg]
 rw[if_pos hw]
 obtain⟨v',w',bl',hr,hA⟩:=run_app1 K w o.type h hF hE hFi hap (g:=g) (c:=c) hcell h1 hB hl
 exact wp_append_run s x t ho hs hx hr (hK v' w' bl' hA)
theorem wpl_apps (K:EK e t) {w:World} {ops:Array Oper} {rest:List Oper} {o:Oper} {a:Act} {Q:Exit→Act→World→Prop} (hg:o.guard=none) (s x:Operand)
  (ho:o.op = .call { callee:=.builtin .append,args:=#[s,x],argTypes:=#[t,t] }) {B:Nat} {v:Value} {xs:List α} {bl:List Nat} (hs:a.eval s=v) (h:ORow e w v xs bl) (hF:Fsh B bl)
  {qs:List (List Value×List Nat)} {ys:List α} (hql:qs.length=ys.length) (h0:0 < ys.length) (hE:∀ (j:Nat) (p:List Value×List Nat) (y:α),qs[j]?=some p→ys[j]?=some y→e.E w p.1 y p.2) (hFi:Fsh B (qs.flatMap (·.2))) (hap:∀ b∈qs.flatMap (·.2),b ∉ bl)
  {g c:Nat} (hx:a.eval x = .slice (some ⟨g,0,none⟩) ys.length c) (hcell:∀ (j:Nat) (u:Value),(qs.flatMap (·.1))[j]?=some u→w.cell? ((⟨g,0,none⟩ : Addr).add j)=some u) (h1:∀ u∈qs.flatMap (·.1),u.oneCell'=true) (hB:B≤w.heap.size) (hl:xs.length+ys.length≤40000000)
  (hK:∀ v' w' bl',Appd e B w w' v v' bl (qs.flatMap (·.2)) bl' (xs++ys)→wpList Tryz.prog ops Q rest (a.put o.dst v') w') : wpList Tryz.prog ops Q (o :: rest) a w:=by
 obtain⟨v',w',bl',hr,hA⟩:=run_app K w o.type h hF hql h0 hE hFi hap (g:=g) (c:=c) hcell h1 hB hl
 exact wpList_plain hg fun _ hk=>wp_append_run s x t ho hs hx hr (hk _ _ (hK v' w' bl' hA))
theorem wpl_any (K:EK e t) {w:World} {ops:Array Oper} {rest:List Oper} {o:Oper} {a:Act} {Q:Exit→Act→World→Prop} (hg:o.guard=none) (s x:Operand)
  (ho:o.op = .call { callee:=.builtin .append,args:=#[s,x],argTypes:=#[t,t] }) {B N:Nat} {v:Value} (hs:a.eval s=v) (h:AnyR w B e.T e.wd v N)
  {vs:List Value} (hlen:vs.length=e.wd) {g c:Nat} (hx:a.eval x = .slice (some ⟨g,0,none⟩) 1 c)
  (hcell:∀ (j:Nat) (u:Value),vs[j]?=some u→w.cell? ((⟨g,0,none⟩ : Addr).add j)=some u) (h1:∀ u∈vs,u.oneCell'=true) (hB:B≤w.heap.size) (hl:N+1≤40000000)
  (hK:∀ v' w',AnyR w' B e.T e.wd v' (N+1)→w.grownBy w' v.ownBlock→Shp w w'→wpList Tryz.prog ops Q rest (a.put o.dst v') w') : wpList Tryz.prog ops Q (o :: rest) a w:=by
 obtain⟨z,by0,hi,hz,hb⟩:=K.info
 obtain⟨v',w',hr,h2,h3,h4⟩:=run_append_any K.und hi hz K.pos hb w o.type h hlen (g:=g) (c:=c) hcell h1 hB hl
 exact wpList_plain hg fun _ hk=>wp_append_run s x t ho hs hx hr (hk _ _ (hK v' w' h2 h3 h4))
end
theorem Appd.below {α:Type} {e:Elem α} {B B':Nat} {w0 w w':World} {v v':Value} {xs zs:List α} {bl ib bl':List Nat} (h:Appd e B w w' v v' bl ib bl' zs) (h0:ORow e w v xs bl) (hF:Fsh B' bl) (hb:Below B' w0 w) (hs:B'≤w.heap.size) : Below B' w0 w':=
 hb.grown h.grown hs fun k hk=>hF.2 k (h0.head hk)
theorem Appd.block {α:Type} {e:Elem α} {B:Nat} {w w':World} {v v':Value} {xs zs:List α} {bl ib bl':List Nat} (h:Appd e B w w' v v' bl ib bl' zs) (h0:ORow e w v xs bl) {k:Nat} (hk:k < w.heap.size) (hn:k ∉ bl) : w'.heap[k]?=w.heap[k]?:=
 h.grown.block k hk fun e1=>hn (h0.head e1.symm)
def FB (w:World) (g:Nat) (k n:Int) (t:ByteArray) (r:Bool) (q:Value) : Prop:=w.heap[g]?=some (.cells #[.int .i64 k,.int .i64 n,.string t,.bool r,q] 37 (0,0))
theorem FB.c {w:World} {g:Nat} {k n:Int} {t:ByteArray} {r:Bool} {q:Value} (h:FB w g k n t r q) : w.cell? ⟨g,0,none⟩=some (.int .i64 k)∧w.cell? ⟨g,1,none⟩=some (.int .i64 n)∧w.cell? ⟨g,2,none⟩=some (.string t)∧w.cell? ⟨g,3,none⟩=some (.bool r)∧w.cell? ⟨g,4,none⟩=some q:=
 ⟨Lib.cell_of_heap h 0,Lib.cell_of_heap h 1,Lib.cell_of_heap h 2,Lib.cell_of_heap h 3,Lib.cell_of_heap h 4⟩
theorem FB.fz {w:World} {g:Nat} {k n:Int} {t:ByteArray} {r:Bool} {q:Value} (h:FB w g k n t r q) : w.frozen? ⟨g,0,none⟩=false∧w.frozen? ⟨g,1,none⟩=false∧w.frozen? ⟨g,2,none⟩=false∧w.frozen? ⟨g,3,none⟩=false∧w.frozen? ⟨g,4,none⟩=false:=
 ⟨Lib.frozen_of_heap h 0,Lib.frozen_of_heap h 1,Lib.frozen_of_heap h 2,Lib.frozen_of_heap h 3,Lib.frozen_of_heap h 4⟩
theorem FB.lt {w:World} {g:Nat} {k n:Int} {t:ByteArray} {r:Bool} {q:Value} (h:FB w g k n t r q) : g < w.heap.size:=(Array.getElem?_eq_some_iff.1 h).1
theorem FB.below {w w':World} {g:Nat} {k n:Int} {t:ByteArray} {r:Bool} {q:Value} (h:FB w g k n t r q) (hb:Below w.heap.size w w') : FB w' g k n t r q:=(hb.block g h.lt).trans h
theorem FB.appd {α:Type} {e:Elem α} {B:Nat} {w w':World} {v v':Value} {xs zs:List α} {bl ib bl':List Nat} {g:Nat} {k n:Int} {t:ByteArray} {r:Bool} {q:Value} (h:FB w g k n t r q) (hA:Appd e B w w' v v' bl ib bl' zs) (h0:ORow e w v xs bl) (hn:g ∉ bl) : FB w' g k n t r q:=(hA.block h0 h.lt hn).trans h
theorem FB.set0 {w:World} {g:Nat} {k n:Int} {t:ByteArray} {r:Bool} {q:Value} (h:FB w g k n t r q) (k':Int) : FB (w.setCell ⟨g,0,none⟩ (.int .i64 k')) g k' n t r q:=Go.heap_setCell_same w g 0 _ 37 _ h
theorem FB.set4 {w:World} {g:Nat} {k n:Int} {t:ByteArray} {r:Bool} {q:Value} (h:FB w g k n t r q) (q':Value) : FB (w.setCell ⟨g,4,none⟩ q') g k n t r q':=Go.heap_setCell_same w g 4 _ 37 _ h
theorem FB.other {w:World} {g:Nat} {k n:Int} {t:ByteArray} {r:Bool} {q:Value} (h:FB w g k n t r q) {p:Addr} (hp:g≠p.block) (v:Value) : FB (w.setCell p v) g k n t r q:=(Below.heap_setCell w p v g hp).trans h
theorem ORow.set {α:Type} {e:Elem α} {w:World} {v:Value} {xs:List α} {bl:List Nat} (h:ORow e w v xs bl) {p:Addr} (hp:p.block ∉ bl) (u:Value) : ORow e (w.setCell p u) v xs bl:=h.keep fun b hb=>Below.heap_setCell w p u b fun e=>hp (e ▸ hb)
theorem ORow.drew {α:Type} {e:Elem α} {w:World} {v:Value} {xs:List α} {bl:List Nat} (h:ORow e w v xs bl) (n:Nat) : ORow e (w.drewN n) v xs bl:=h.keep fun _ _=>rfl
theorem setN_rt:∀ (vs A R:List Value) (o:Nat),setN (A++R) (A.length+o) vs=A++setN R o vs
 | [],A,R,o=>rfl
 | a :: r,A,R,o=>by
  rw[setN,setN,List.set_append_right _ _ (by omega),Nat.add_sub_cancel_left,Nat.add_assoc,setN_rt r A]
theorem flat_stN {ps:List (List Value×List Nat)} {wd:Nat} (h:∀ p∈ps,p.1.length=wd) {j:Nat} (hj:j < ps.length) (vs:List Value) (hv:vs.length=wd) (ib:List Nat) :
  (ps.set j (vs,ib)).flatMap (·.1)=setN (ps.flatMap (·.1)) (j*wd) vs:=by
 induction ps generalizing j with
 | nil=>simp at hj
 | cons q r ih=>
  have hq:=h q List.mem_cons_self
  cases j with
  | zero=>
   have:=setN_app vs [] (q.1++r.flatMap (·.1)) (by rw[List.length_append]; omega)
   rw[List.nil_append,List.length_nil,List.nil_append] at this
   rw[List.set_cons_zero,List.flatMap_cons,List.flatMap_cons,Nat.zero_mul,this,hv,← hq,List.drop_left]
  | succ j=>
   have:=ih (fun p hp=>h p (List.mem_cons_of_mem _ hp)) (by simpa using hj)
   rw[List.set_cons_succ,List.flatMap_cons,List.flatMap_cons,this,Nat.add_mul,Nat.one_mul,Nat.add_comm,← hq,setN_rt]
theorem orow_hole {α:Type} {e:Elem α} {w:World} {g cap n:Nat} {xs:List α} {bl:List Nat} (h:ORow e w (.slice (some ⟨g,0,none⟩) n cap) xs bl) (hd:bl.Nodup) {j:Nat} {x:α} (hx:xs[j]?=some x) :
  ∃ vs ib,e.E w vs x ib∧(∀ m u,vs[m]?=some u→w.cell? ⟨g,j*e.wd+m,none⟩=some u∧w.frozen? ⟨g,j*e.wd+m,none⟩=false)∧(∀ b∈ib,b∈bl)∧g∈bl∧g ∉ ib∧ib.Nodup ∧
   ∀ e':Elem α,e.T=e'.T→e.wd=e'.wd→(∀ {w vs x bl},e.E w vs x bl→e'.E w vs x bl) →
    (∀ w' x' ib',(∀ b∈bl,b ∉ ib→w'.heap[b]?=w.heap[b]?)→e'.E w' vs x' ib'→∃ bl',ORow e' w' (.slice (some ⟨g,0,none⟩) n cap) (xs.set j x') bl') ∧
    ∀ w' vs' x' ib',(∀ b∈bl,b≠g→b ∉ ib→w'.heap[b]?=w.heap[b]?)→w'.heap[g]?=(putN w g (j*e.wd) vs').heap[g]?→e'.E w' vs' x' ib'→∃ bl',ORow e' w' (.slice (some ⟨g,0,none⟩) n cap) (xs.set j x') bl':=by
 obtain⟨ps,hl,hE,ho,rfl⟩:=h
 have hj:j < xs.length:=(List.getElem?_eq_some_iff.1 hx).1
 have hp:ps[j]?=some ps[j]:=List.getElem?_eq_getElem (by omega)
 have hwd:=orow_wd hl hE
 have hn:n=xs.length:=by
  rcases ho.2 with ⟨hv,h0⟩ | ⟨g',cap',cur,hv,_⟩
  ·cases hv
  ·injection hv
 subst hn
 have hd':=hd
 rw[List.nodup_append] at hd'
 have hsub:∀ p∈ps,∀ b∈p.2,b∈(Value.slice (some ⟨g,0,none⟩) xs.length cap).ownBlock.toList++ps.flatMap (·.2):=fun p hp b hb=>by
  rw[List.mem_append]; exact .inr (List.mem_flatMap.2 ⟨p,hp,hb⟩)
 have hgb:g∈(Value.slice (some ⟨g,0,none⟩) xs.length cap).ownBlock.toList++ps.flatMap (·.2):=by simp[Value.ownBlock]
 have hng:∀ p∈ps,g ∉ p.2:=fun p hp hgp=>hd'.2.2 g (by simp[Value.ownBlock]) g (List.mem_flatMap.2 ⟨p,hp,hgp⟩) rfl
 refine⟨ps[j].1,ps[j].2,hE j _ x hp hx,?_,hsub _ (List.getElem_mem _),hgb,hng _ (List.getElem_mem _),nodup_at hd'.2.1 hp,fun e' hT hw hi=>⟨?_,?_⟩⟩
 ·intro m u hm
  have hm':m < e.wd:=by
   have:=(List.getElem?_eq_some_iff.1 hm).1
   rwa [hwd _ (List.getElem_mem (by omega))] at this
  have hlt:j*e.wd+m < xs.length*e.wd:=by
   have:(j+1)*e.wd≤xs.length*e.wd:=Nat.mul_le_mul_right _ hj
   rw[Nat.add_mul] at this; omega
  refine⟨?_,ho.frozenAt _⟩
  rw[ho.cellAt _ hlt,flat_at hwd hp m hm']; exact hm
 ·intro w' x' ib' hk hE'
  refine⟨_,ps.set j (ps[j].1,ib'),by simp[hl],?_,?_,rfl⟩
  ·intro i p y hpi hy
   by_cases hij:i=j
   ·subst hij
    rw[List.getElem?_set_self (by omega)] at hpi hy
    cases hpi; cases hy
    exact hE'
   ·rw[List.getElem?_set_ne (by omega)] at hpi hy
    exact hi (e.keep (hE i p y hpi hy) fun b hb=>hk b (hsub p (List.mem_of_getElem? hpi) b hb) (nodup_apart hd'.2.1 hpi hp hij b hb))
  ·rw[List.length_set,flat_set1 hp,← hT,← hw]
   exact own_keep ho fun b hb=>by
    simp[Value.ownBlock] at hb
    rw[hb]
    exact hk g hgb (hng _ (List.getElem_mem _))
 ·intro w' vs' x' ib' hk hg hE'
  refine⟨_,ps.set j (vs',ib'),by simp[hl],?_,?_,rfl⟩
  ·intro i p y hpi hy
   by_cases hij:i=j
   ·subst hij
    rw[List.getElem?_set_self (by omega)] at hpi hy
    cases hpi; cases hy
    exact hE'
   ·rw[List.getElem?_set_ne (by omega)] at hpi hy
    have hpm:=List.mem_of_getElem? hpi
    exact hi (e.keep (hE i p y hpi hy) fun b hb=>hk b (hsub p hpm b hb) (fun e=>hng p hpm (e ▸ hb)) (nodup_apart hd'.2.1 hpi hp hij b hb))
  ·rw[List.length_set,flat_stN hwd (by omega) vs' (by rw[hw]; exact e'.len hE') ib',← hT,← hw]
   exact own_keep (putN_own ho vs' (j*e.wd)) fun b hb=>by
    simp[Value.ownBlock] at hb
    rw[hb]
    exact hg
def selV (o:PSel) (u:Value) : List Value:=[.int .i64 o.k,.string o.name,.bool o.hasA,.bool o.hasB,.bool o.hasC,.int .i64 o.a,.int .i64 o.b,.int .i64 o.c,u]
theorem row_blk {α:Type} {e:Elem α} {w:World} {g n cap:Nat} {xs:List α} {bl:List Nat} (h:ORow e w (.slice (some ⟨g,0,none⟩) n cap) xs bl) : ∃ cs,w.heap[g]?=some (.cells cs e.T (0,0)):=by
 obtain⟨cs,ho⟩:=h.own
 rcases ho.2 with ⟨hv,h0⟩ | ⟨g',cap',cur,hv,_,hg,_⟩
 ·cases hv
 ·injection hv with hv1 _ _
  injection hv1 with hv1
  injection hv1 with hv1 _ _
  subst hv1
  exact⟨cur,hg⟩
structure SH (w:World) (v:Value) (segs:List PSeg) (bl:List Nat) (i:Nat) (d:Bool) (o:PSel) (r:List PSel) (g cap g2 c2:Nat) (u:Value) (ib:List Nat) : Prop where
 hv:v = .slice (some ⟨g,0,none⟩) segs.length cap
 c1:w.cell? ⟨g,i*2+1,none⟩=some (.slice (some ⟨g2,0,none⟩) (r.length+1) c2)
 f1:w.frozen? ⟨g,i*2+1,none⟩=false
 cs:∀ m x,(selV o u)[m]?=some x→w.cell? ⟨g2,m,none⟩=some x∧w.frozen? ⟨g2,m,none⟩=false
 row:ORow fopE w u o.cond ib
 sub:∀ b∈ib,b∈bl
 nd:ib.Nodup
 gb:g∈bl
 g2b:g2∈bl
 gg:g≠g2
 gi:g ∉ ib
 gi2:g2 ∉ ib
 b2:∃ cs,w.heap[g2]?=some (.cells cs 40 (0,0))
 no:∀ w' u' ib',(∀ b∈bl,b≠g→w'.heap[b]?=w.heap[b]?)→w'.heap[g]?=(w.setCell ⟨g,i*2+1,none⟩ u').heap[g]?→ORow selE w' u' [] ib'→∃ bl',ORow segE w' v (segs.set i ⟨d,[]⟩) bl'
 put:∀ w' o' u' ib',(∀ b∈bl,b≠g2→b ∉ ib→w'.heap[b]?=w.heap[b]?)→w'.heap[g2]?=(putN w g2 0 (selV o' u')).heap[g2]?→ORow fopE w' u' o'.cond ib'→∃ bl',ORow segE w' v (segs.set i ⟨d,o' :: r⟩) bl'
 putT:∀ w' o' u' ib',(∀ b∈bl,b≠g2→b ∉ ib→w'.heap[b]?=w.heap[b]?)→w'.heap[g2]?=(putN w g2 0 (selV o' u')).heap[g2]?→TRow w' u' o'.cond ib'→∃ bl',ORow segTl w' v (segs.set i ⟨d,o' :: r⟩) bl'
theorem SH.make {w:World} {v:Value} {segs:List PSeg} {bl:List Nat} (h:ORow segE w v segs bl) (hd:bl.Nodup) {i:Nat} {d:Bool} {o:PSel} {r:List PSel} (hx:segs[i]?=some ⟨d,o :: r⟩) : ∃ g cap g2 c2 u ib,SH w v segs bl i d o r g cap g2 c2 u ib:=by
 obtain⟨a,cap,rfl,hg,h0⟩:=h.form
 obtain⟨g,rfl⟩:=h0 (Nat.lt_of_le_of_lt (Nat.zero_le _) (List.getElem?_eq_some_iff.1 hx).1)
 obtain⟨vs,ib1,hE,hc,hs1,hgb,hg1,hn1,hcl⟩:=orow_hole h hd hx
 obtain⟨q,rfl,hr⟩:=hE
 obtain⟨a2,c2,rfl,hg2,h02⟩:=hr.form
 obtain⟨g2,rfl⟩:=h02 (by simp)
 obtain⟨vs2,ib,hE2,hc2,hs2,hgb2,hgi2,hn2,hcl2⟩:=orow_hole hr hn1 (j:=0) (x:=o) rfl
 obtain⟨u,rfl,hr2⟩:=hE2
 have hc0:=(hc 0 _ rfl).1
 refine⟨g,cap,g2,c2,u,ib,rfl,(hc 1 _ rfl).1,(hc 1 _ rfl).2,fun m x hm=>?_,hr2,fun b hb=>hs1 b (hs2 b hb),hn2,hgb,hs1 _ hgb2,fun e=>hg1 (e ▸ hgb2),fun h=>hg1 (hs2 _ h),hgi2,row_blk hr,?_,?_,?_⟩
 ·have:=hc2 m x hm
  rw[Nat.zero_mul,Nat.zero_add] at this
  exact this
 ·intro w' u' ib' hk hgg hro
  obtain⟨cs,hcs⟩:=row_blk h
  have h1:w.cell? ⟨g,i*2+0,none⟩=some (.bool d):=hc0
  have h2:cs[i*2]?=some (.bool d):=by simpa [World.cell?,hcs] using h1
  have h3:(w.setCell ⟨g,i*2,none⟩ (.bool d)).heap[g]?=w.heap[g]?:=by
   rw[heap_setCell_same w g (i*2) cs _ _ hcs,hcs]
   congr 2
   apply Array.ext_getElem?
   intro k
   rw[Array.getElem?_setIfInBounds]
   by_cases hk:i*2=k
   ·subst hk
    rw[if_pos rfl,h2]
    simp[(Array.getElem?_eq_some_iff.1 h2).1]
   ·rw[if_neg hk]
  refine (hcl segE rfl rfl fun h=>h).2 w' [.bool d,u'] ⟨d,[]⟩ ib' (fun b hb hne _=>hk b hb hne) ?_ ⟨u',rfl,hro⟩
  rw[hgg]
  show _=(putN w g (i*2) [.bool d,u']).heap[g]?
  rw[putN,putN,putN,heap_setCell_same w g (i*2+1) cs _ _ hcs,heap_setCell_same _ g (i*2+1) cs _ _ (h3.trans hcs)]
 ·intro w' o' u' ib' hk hgg hro
  obtain⟨bl2,h2⟩:=(hcl2 selE rfl rfl fun h=>h).2 w' (selV o' u') o' ib' (fun b hb hne hni=>hk b (hs1 b hb) hne hni) (by rw[Nat.zero_mul]; exact hgg) ⟨u',rfl,hro⟩
  exact (hcl segE rfl rfl fun h=>h).1 w' ⟨d,o' :: r⟩ bl2 (fun b hb hni=>hk b hb (fun e=>hni (e ▸ hgb2)) fun h=>hni (hs2 b h)) ⟨_,rfl,h2⟩
 ·intro w' o' u' ib' hk hgg hro
  obtain⟨bl2,h2⟩:=(hcl2 selTl rfl rfl selT_of).2 w' (selV o' u') o' ib' (fun b hb hne hni=>hk b (hs1 b hb) hne hni) (by rw[Nat.zero_mul]; exact hgg) ⟨u',rfl,hro⟩
  exact (hcl segTl rfl rfl segT_of).1 w' ⟨d,o' :: r⟩ bl2 (fun b hb hni=>hk b hb (fun e=>hni (e ▸ hgb2)) fun h=>hni (hs2 b h)) ⟨_,rfl,h2⟩
end Go.Proofs.YtkjcgkfejdogbaaGreatDoor
