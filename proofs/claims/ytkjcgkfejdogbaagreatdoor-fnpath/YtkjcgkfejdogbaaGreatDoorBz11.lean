import Derived.OwnWalk
import Derived.Test.YtkjcgkfejdogbaaGreatDoorBz3
import Derived.Laws.AppendOwn
import Derived.Room.AppendZeros
import Derived.Lib.Builder
import Derived.Handy
import Derived.Test.YtkjcgkfejdogbaaGreatDoorBz5
import Derived.Deep.RegionWith
import Derived.Deep.RegionLaw
set_option maxRecDepth 100000
set_option maxHeartbeats 8000000
namespace Go.Proofs.YtkjcgkfejdogbaaGreatDoor
open Go.RowKit
def putN (w:World) (g:Nat) : Nat→List Value→World
 | _,[]=>w
 | o,a :: r=>putN (w.setCell ⟨g,o,none⟩ a) g (o+1) r
def setN (xs:List Value) : Nat→List Value→List Value
 | _,[]=>xs
 | o,a :: r=>setN (xs.set o a) (o+1) r
theorem setN_app:∀ (vs A rest:List Value),vs.length≤rest.length→setN (A++rest) A.length vs=A++vs++rest.drop vs.length
 | [],A,rest,_=>by simp[setN]
 | a :: r,A,[],h=>by simp at h
 | a :: r,A,b :: rest,h=>by
  have:=setN_app r (A++[a]) rest (by simpa using h)
  rw[setN,List.set_append_right _ _ (Nat.le_refl _),Nat.sub_self,List.set_cons_zero]
  rw[List.length_append] at this
  simpa using this
theorem putN_own {w:World} {g cap n e size:Nat} {xs:List Value} (h:w.ownsRow 0 e size (.slice (some ⟨g,0,none⟩) n cap) n xs) : ∀ (vs:List Value) (o:Nat),(putN w g o vs).ownsRow 0 e size (.slice (some ⟨g,0,none⟩) n cap) n (setN xs o vs):=by
 intro vs
 induction vs generalizing w xs with
 | nil=>intro o; exact h
 | cons a r ih=>intro o; exact ih (h.stored o a).1 (o+1)
theorem putN_other {w:World} {g k:Nat} (hk:k≠g) : ∀ (vs:List Value) (o:Nat),(putN w g o vs).heap[k]?=w.heap[k]?:=by
 intro vs
 induction vs generalizing w with
 | nil=>intro o; rfl
 | cons a r ih=>intro o; exact (ih (o+1)).trans (Below.heap_setCell _ _ _ _ hk)
theorem putN_below {B g:Nat} {a w:World} (h:Below B a w) (hg:B≤g) : ∀ (vs:List Value) (o:Nat),Below B a (putN w g o vs):=by
 intro vs
 induction vs generalizing w with
 | nil=>intro o; exact h
 | cons c r ih=>intro o; exact ih (h.setCell (p:=⟨g,o,none⟩) hg c) (o+1)
theorem putN_heap {w:World} {g:Nat} {cs:Array Value} {T:TypeId} (h:w.heap[g]?=some (.cells cs T (0,0))) : ∀ (vs:List Value) (o:Nat),(putN w g o vs).heap[g]?=some (.cells (setN cs.toList o vs).toArray T (0,0)):=by
 intro vs
 induction vs generalizing w cs with
 | nil=>intro o; simpa [putN,setN] using h
 | cons a r ih=>
  intro o
  have:=ih (heap_setCell_same w g o cs T a h) (o+1)
  rw[putN,this,setN]
  simp
theorem putN_full {w:World} {g:Nat} {cs:Array Value} {T:TypeId} (h:w.heap[g]?=some (.cells cs T (0,0))) (vs:List Value) (hl:vs.length=cs.size) : (putN w g 0 vs).heap[g]?=some (.cells vs.toArray T (0,0)):=by
 rw[putN_heap h]
 have:=setN_app vs [] cs.toList (by simp[hl])
 simp only[List.nil_append,List.length_nil] at this
 rw[this,List.drop_of_length_le (by simp[hl]),List.append_nil]
def PRow {α:Type} (e:Elem α) (w:World) (g n cap:Nat) (xs:List α) (bl:List Nat) : Prop:=
 ∃ (ps:List (List Value×List Nat)) (rest:List Value),ps.length=xs.length∧(∀ (j:Nat) (p:List Value×List Nat) (x:α),ps[j]?=some p→xs[j]?=some x→e.E w p.1 x p.2) ∧
  w.ownsRow 0 e.T e.wd (.slice (some ⟨g,0,none⟩) n cap) n (ps.flatMap (·.1)++rest)∧bl=ps.flatMap (·.2)
section
variable {α:Type} {e:Elem α} {w w':World} {g n cap:Nat} {xs:List α} {bl:List Nat}
theorem PRow.start {cs:List Value} (h:w.ownsRow 0 e.T e.wd (.slice (some ⟨g,0,none⟩) n cap) n cs) : PRow e w g n cap [] []:=⟨[],cs,rfl,fun _ _ _ h=>by simp at h,h,rfl⟩
theorem PRow.keep (h:PRow e w g n cap xs bl) (hg:w'.heap[g]?=w.heap[g]?) (hk:Kp bl w w') : PRow e w' g n cap xs bl:=by
 obtain⟨ps,rest,hl,hE,ho,rfl⟩:=h
 refine⟨ps,rest,hl,fun j p x hp hx=>e.keep (hE j p x hp hx) fun b hb=>hk b (List.mem_flatMap.2 ⟨p,List.mem_of_getElem? hp,hb⟩),own_keep ho fun b hb=>?_,rfl⟩
 simp[Value.ownBlock] at hb
 rw[hb]; exact hg
theorem PRow.lt (h:PRow e w g n cap xs bl) : g < w.heap.size∧∀ b∈bl,b < w.heap.size:=by
 obtain⟨ps,rest,hl,hE,ho,rfl⟩:=h
 refine⟨(ho.lt g rfl).2,fun b hb=>?_⟩
 obtain⟨p,hp,hb⟩:=List.mem_flatMap.1 hb
 obtain⟨j,hj,rfl⟩:=List.mem_iff_getElem.1 hp
 exact e.lt (hE j ps[j] (xs[j]'(by omega)) (List.getElem?_eq_getElem hj) (List.getElem?_eq_getElem (by omega))) b hb
theorem PRow.below (h:PRow e w g n cap xs bl) (hb:Below w.heap.size w w') : PRow e w' g n cap xs bl:=h.keep (hb.block g h.lt.1) (.of_below hb h.lt.2)
theorem PRow.cell (h:PRow e w g n cap xs bl) (hlt:xs.length < n) (m:Nat) (hm:m < e.wd) : ∃ u,w.cell? ⟨g,xs.length*e.wd+m,none⟩=some u:=by
 obtain⟨ps,rest,hl,hE,ho,rfl⟩:=h
 have:(xs.length+1)*e.wd≤n*e.wd:=Nat.mul_le_mul_right _ hlt
 rw[Nat.add_mul] at this
 have h1:=ho.1
 have hj:xs.length*e.wd+m < n*e.wd:=by omega
 rw[ho.cellAt _ hj]
 exact⟨_,List.getElem?_eq_getElem (by rw[h1]; exact hj)⟩
theorem PRow.frozen (h:PRow e w g n cap xs bl) (j:Nat) : w.frozen? ⟨g,j,none⟩=false:=by
 obtain⟨ps,rest,hl,hE,ho,rfl⟩:=h
 exact ho.frozenAt _
theorem PRow.put (h:PRow e w g n cap xs bl) (hlt:xs.length < n) (hg:g ∉ bl) {vs:List Value} {x:α} {ib:List Nat} (hE:e.E w vs x ib) (hgi:g ∉ ib) :
  PRow e (putN w g (xs.length*e.wd) vs) g n cap (xs++[x]) (bl++ib):=by
 obtain⟨ps,rest,hl,hE0,ho,rfl⟩:=h
 have hwd:=orow_wd hl hE0
 have hfl:(ps.flatMap (·.1)).length=xs.length*e.wd:=by rw[flat_len hwd,hl]
 have hv:=e.len hE
 have hrl:vs.length≤rest.length:=by
  have h1:=ho.1
  rw[List.length_append,hfl] at h1
  have:(xs.length+1)*e.wd≤n*e.wd:=Nat.mul_le_mul_right _ hlt
  rw[Nat.add_mul] at this
  omega
 have hkp:∀ b':List Nat,g ∉ b'→Kp b' w (putN w g (xs.length*e.wd) vs):=fun b' hb b hbb=>putN_other (k:=b) (g:=g) (fun h=>hb (by rw[← h]; exact hbb)) _ _
 refine⟨ps++[(vs,ib)],rest.drop vs.length,by simp[hl],?_,?_,by simp⟩
 ·intro j p y hp hy
  by_cases hj:j < xs.length
  ·rw[List.getElem?_append_left (by omega)] at hp hy
   exact e.keep (hE0 j p y hp hy) (hkp _ fun hb=>hg (List.mem_flatMap.2 ⟨p,List.mem_of_getElem? hp,hb⟩))
  ·have hy':=(List.getElem?_eq_some_iff.1 hy).1
   rw[List.length_append,List.length_singleton] at hy'
   have:j=xs.length:=by omega
   subst this
   rw[← hl] at hp
   simp at hp hy
   subst hp; subst hy; exact e.keep hE (hkp _ hgi)
 ·have:=putN_own ho vs (xs.length*e.wd)
  rw[← hfl,setN_app _ _ _ hrl,hfl] at this
  simpa using this
end
def Fsh (B:Nat) (bl:List Nat) : Prop:=bl.Nodup∧∀ b∈bl,B≤b
theorem Fsh.nil (B:Nat) : Fsh B []:=⟨List.nodup_nil,fun _ h=>by simp at h⟩
theorem Fsh.mono {B B':Nat} {bl:List Nat} (h:Fsh B bl) (hB:B'≤B) : Fsh B' bl:=⟨h.1,fun b hb=>Nat.le_trans hB (h.2 b hb)⟩
theorem Fsh.app {B C:Nat} {bl cl:List Nat} (h:Fsh B bl) (hlt:∀ b∈bl,b < C) (k:Fsh C cl) (hBC:B≤C) : Fsh B (bl++cl):=by
 refine⟨List.nodup_append.2 ⟨h.1,k.1,fun a ha b hb e=>?_⟩,fun b hb=>?_⟩
 ·subst e; have:=hlt a ha; have:=k.2 a hb; omega
 ·rcases List.mem_append.1 hb with hb | hb
  ·exact h.2 b hb
  ·exact Nat.le_trans hBC (k.2 b hb)
theorem Fsh.cons {B B' g:Nat} {bl:List Nat} (h:Fsh B bl) (hg:B'≤g) (hgB:g < B) : Fsh B' (g :: bl):=
 ⟨List.nodup_cons.2 ⟨fun hm=>by have:=h.2 g hm; omega,h.1⟩,fun b hb=>by
  rcases List.mem_cons.1 hb with rfl | hb
  ·exact hg
  ·have:=h.2 b hb; omega⟩
def Tys (ts:List TypeId) (w:World) (bl:List Nat) : Prop:=∀ b∈bl,∃ cur t,w.heap[b]?=some (.cells cur t (0,0))∧t∈ts
theorem own_ty {w:World} {B e size n:Nat} {v:Value} {xs:List Value} (h:w.ownsRow B e size v n xs) : Tys [e] w v.ownBlock.toList:=by
 intro b hb
 rcases h.2 with ⟨hv,_⟩ | ⟨g,cap,cur,hv,_,hg,_⟩
 ·rw[hv] at hb; simp[Value.ownBlock] at hb
 ·rw[hv] at hb; simp[Value.ownBlock] at hb
  subst hb; exact⟨cur,e,hg,by simp⟩
theorem Tys.mono {ts ts':List TypeId} {w:World} {bl:List Nat} (h:Tys ts w bl) (hs:∀ t∈ts,t∈ts') : Tys ts' w bl:=fun b hb=>by
 obtain⟨cur,t,h1,h2⟩:=h b hb; exact⟨cur,t,h1,hs t h2⟩
theorem Tys.app {ts:List TypeId} {w:World} {bl cl:List Nat} (h:Tys ts w bl) (k:Tys ts w cl) : Tys ts w (bl++cl):=fun b hb=>by
 rcases List.mem_append.1 hb with hb | hb
 ·exact h b hb
 ·exact k b hb
theorem Tys.keep {ts:List TypeId} {w w':World} {bl:List Nat} (h:Tys ts w bl) (hk:Kp bl w w') : Tys ts w' bl:=fun b hb=>by
 obtain⟨cur,t,h1,h2⟩:=h b hb; exact⟨cur,t,(hk b hb).trans h1,h2⟩
theorem orow_ty {α:Type} {e:Elem α} {ts:List TypeId} (he:∀ {w vs x bl},e.E w vs x bl→Tys ts w bl) {w:World} {v:Value} {xs:List α} {bl:List Nat} (h:ORow e w v xs bl) : Tys (e.T :: ts) w bl:=by
 obtain⟨ps,hl,hE,ho,rfl⟩:=h
 refine ((own_ty ho).mono (by simp)).app fun b hb=>?_
 obtain⟨p,hp,hb⟩:=List.mem_flatMap.1 hb
 obtain⟨j,hj,rfl⟩:=List.mem_iff_getElem.1 hp
 obtain⟨cur,t,h1,h2⟩:=he (hE j ps[j] (xs[j]'(by omega)) (List.getElem?_eq_getElem hj) (List.getElem?_eq_getElem (by omega))) b hb
 exact⟨cur,t,h1,List.mem_cons_of_mem _ h2⟩
theorem own_base {w:World} {B e size n:Nat} {v:Value} {xs:List Value} (h:w.ownsRow 0 e size v n xs) (hB:∀ g,v.ownBlock=some g→B≤g) : w.ownsRow B e size v n xs:=by
 refine⟨h.1,?_⟩
 rcases h.2 with h0 | ⟨g,cap,cur,hv,_,r⟩
 ·exact .inl h0
 ·exact .inr ⟨g,cap,cur,hv,hB g (by rw[hv]; rfl),r⟩
theorem ORow.head {α:Type} {e:Elem α} {w:World} {v:Value} {xs:List α} {bl:List Nat} (h:ORow e w v xs bl) {g:Nat} (hg:v.ownBlock=some g) : g∈bl:=by
 obtain⟨cb,h⟩:=h.split
 rw[h,hg]; simp
theorem lit_cells (w:World) (vs:List Value) (T:TypeId) : ∀ (j:Nat) (u:Value),vs[j]?=some u→(w.alloc (.cells vs.toArray T)).cell? ((⟨w.heap.size,0,none⟩ : Addr).add j)=some u:=by
 intro j u hu
 have h:=Lib.cell_of_heap (heap_alloc_new w (.cells vs.toArray T)) j
 rw[Go.WideShapes.add_plain,Nat.zero_add,h]
 simpa using hu
theorem empty_row (w:World) (e size:Nat) : (w.alloc (.cells #[] e)).ownsRow w.heap.size e size (.slice (some ⟨w.heap.size,0,none⟩) 0 0) 0 []:=by
 exact w.ownsRow_made #[] 0 (Nat.le_refl _) (Nat.zero_le _) (by simp)
def Shp (w w':World) : Prop:=∀ (b:Nat) (cur:Array Value) (t:TypeId) (f:Nat×Nat),w.heap[b]?=some (.cells cur t f)→∃ cur',w'.heap[b]?=some (.cells cur' t f)∧cur'.size=cur.size
theorem Shp.refl (w:World) : Shp w w:=fun _ cur _ _ h=>⟨cur,h,rfl⟩
theorem Shp.trans {a b c:World} (h:Shp a b) (k:Shp b c) : Shp a c:=fun i cur t f hi=>by
 obtain⟨cur',h1,h2⟩:=h i cur t f hi
 obtain⟨cur'',h3,h4⟩:=k i cur' t f h1
 exact⟨cur'',h3,h4.trans h2⟩
theorem Shp.of_below {w w':World} (h:Below w.heap.size w w') : Shp w w':=fun b cur _ _ hb=>⟨cur,(h.block b (Array.getElem?_eq_some_iff.1 hb).1).trans hb,rfl⟩
def AnyR (w:World) (B:Nat) (T:TypeId) (wd:Nat) (v:Value) (N:Nat) : Prop:=∃ n cs,n≤N∧w.ownsRow B T wd v n cs
theorem AnyR.shp {w w':World} {B:Nat} {T:TypeId} {wd:Nat} {v:Value} {N:Nat} (h:AnyR w B T wd v N) (hs:Shp w w') : AnyR w' B T wd v N:=by
 obtain⟨n,cs,hn,h1,h2⟩:=h
 rcases h2 with ⟨hv,h0⟩ | ⟨g,cap,cur,hv,hB,hg,hc,hm,hcs,_⟩
 ·exact⟨n,cs,hn,h1,.inl ⟨hv,h0⟩⟩
 ·obtain⟨cur',hg',hs'⟩:=hs g cur T _ hg
  have hle:n*wd≤cap*wd:=Nat.mul_le_mul_right _ hc
  exact⟨n,cur'.toList.take (n*wd),hn,by rw[List.length_take,Array.length_toList,hs',hcs]; omega,.inr ⟨g,cap,cur',hv,hB,hg',hc,hm,by omega,rfl⟩⟩
theorem AnyR.mono {w:World} {B:Nat} {T:TypeId} {wd:Nat} {v:Value} {N N':Nat} (h:AnyR w B T wd v N) (hN:N≤N') : AnyR w B T wd v N':=by
 obtain⟨n,cs,hn,h⟩:=h; exact⟨n,cs,by omega,h⟩
theorem ORow.any {α:Type} {e:Elem α} {w:World} {v:Value} {xs:List α} {bl:List Nat} {B:Nat} (h:ORow e w v xs bl) (hF:Fsh B bl) : AnyR w B e.T e.wd v xs.length:=by
 obtain⟨cs,ho⟩:=h.own
 exact⟨_,cs,Nat.le_refl _,own_base ho fun g hg=>hF.2 g (h.head hg)⟩
theorem append_form {P:Program} (w:World) {base:Nat} {t ty e:TypeId} {i:TypeInfo} {z:Value} (ht:P.underlying t=some (.slice e)) (hi:P.info? e=some i) (hz:i.zero=some z)
  {v:Value} {n:Nat} {xs:List Value} (hown:w.ownsRow base e i.size v n xs) {a:Addr} {m c:Nat} {news:List Value} (hl:news.length=m*i.size) (hnews:∀ j u,news[j]?=some u→w.cell? (a.add j)=some u) (h1:∀ u∈news,u.oneCell'=true)
  (h0:0 < m) (h63:n+m≤maxLen) (hbytes:(n+m)*i.bytes≤140737488355328) {v':Value} {w':World} (hr:(Builtin.append_ #[t,t] ty #[v,.slice (some a) m c]).run P w = .ok v' w') :
  (v'.ownBlock=v.ownBlock∨v'.ownBlock=some w.heap.size)∧Shp w w':=by
 unfold maxLen at h63
 have hal:∀ o:Obj,Shp w (w.drew.alloc o):=fun o b cur _ _ hb=>⟨cur,(Lib.alloc_old w.drew o b (Array.getElem?_eq_some_iff.1 hb).1).trans hb,rfl⟩
 rcases hown.2 with ⟨hv,hn⟩ | ⟨g,cap,cur,hv,_,hg,_,_,hcs,_⟩
 ·subst hv; subst hn
  have hx:=run_append_nil (P:=P) w t ty e i z ht hi hz a m c news hl hnews h0 (by omega) (by simp only[Nat.zero_add] at hbytes; omega)
  rw[hx] at hr
  injection hr with hr1 hr2
  subst hr1; subst hr2
  exact⟨.inr rfl,hal _⟩
 ·subst hv
  by_cases hroom:n+m≤cap
  ·have hfit:n*i.size+news.length≤cur.size:=by rw[hl,hcs,← Nat.add_mul]; exact Nat.mul_le_mul_right _ hroom
   have hx:=run_append_room (P:=P) w t ty e i ht hi g n cap cur hg a m c news hl hnews h1 hroom hfit
   rw[hx] at hr
   injection hr with hr1 hr2
   subst hr1; subst hr2
   refine⟨.inl rfl,fun b cur' t' f hb=>?_⟩
   by_cases hbg:b=g
   ·subst hbg
    rw[hg] at hb
    injection hb with hb
    injection hb with hb1 hb2 hb3
    subst hb1; subst hb2; subst hb3
    refine⟨_,setRow_heap w b cur _ _ _ hg,?_⟩
    simp only[List.size_toArray,List.length_append,List.length_take,List.length_drop,Array.length_toList]
    omega
   ·exact⟨cur',(setRow_other w g b _ hbg).trans hb,rfl⟩
  ·have hx:=run_append_grow (P:=P) w t ty e i z ht hi hz ⟨g,0,none⟩ n cap xs hown.1 (hown.cells (g:=g) rfl) a m c news hl hnews (by omega) (by omega) (growslice_fits (by omega) hbytes)
   rw[hx] at hr
   injection hr with hr1 hr2
   subst hr1; subst hr2
   exact⟨.inr rfl,hal _⟩
theorem ORow.apps {α:Type} {e:Elem α} {ts:List TypeId} (he:∀ {w vs x bl},e.E w vs x bl→Tys ts w bl) (hts:e.T ∉ ts) {B:Nat} {w:World} {v:Value} {xs:List α} {bl:List Nat} (h:ORow e w v xs bl) (hF:Fsh B bl)
  {qs:List (List Value×List Nat)} {ys:List α} (hql:qs.length=ys.length) (hE:∀ (j:Nat) (p:List Value×List Nat) (y:α),qs[j]?=some p→ys[j]?=some y→e.E w p.1 y p.2) (hFi:Fsh B (qs.flatMap (·.2))) (hap:∀ b∈qs.flatMap (·.2),b ∉ bl) :
  ∃ cs,w.ownsRow B e.T e.wd v xs.length cs∧∀ v' w',w'.ownsRow B e.T e.wd v' (xs.length+ys.length) (cs++qs.flatMap (·.1))→w.grownBy w' v.ownBlock→∃ bl',ORow e w' v' (xs++ys) bl'∧Fsh B bl'∧∀ b∈bl',b∈bl∨b∈qs.flatMap (·.2)∨v'.ownBlock=some b:=by
 have hlt:=h.lt
 obtain⟨ps,hl,hE0,ho,rfl⟩:=h
 refine⟨ps.flatMap (·.1),own_base ho fun g hg=>hF.2 g (by simp[hg]),fun v' w' ho' hg=>?_⟩
 have hd:=hF.1
 rw[List.nodup_append] at hd
 have hqE:∀ p∈qs,∃ y,e.E w p.1 y p.2:=fun p hp=>by
  obtain⟨j,hj,rfl⟩:=List.mem_iff_getElem.1 hp
  exact⟨_,hE j qs[j] (ys[j]'(by omega)) (List.getElem?_eq_getElem hj) (List.getElem?_eq_getElem (by omega))⟩
 have hk:Kp (ps.flatMap (·.2)) w w':=fun b hb=>hg.block b (hlt b (List.mem_append.2 (.inr hb))) fun e1=>hd.2.2 b (by simp[← e1]) b hb rfl
 have hki:Kp (qs.flatMap (·.2)) w w':=fun b hb=>by
  obtain⟨p,hp,hpb⟩:=List.mem_flatMap.1 hb
  obtain⟨y,hy⟩:=hqE p hp
  exact hg.block b (e.lt hy b hpb) fun e1=>hap b hb (List.mem_append.2 (.inl (by simp[← e1])))
 have hE':∀ (j:Nat) (p:List Value×List Nat) (y:α),qs[j]?=some p→ys[j]?=some y→e.E w' p.1 y p.2:=fun j p y h1 h2=>e.keep (hE j p y h1 h2) fun b hb=>hki b (List.mem_flatMap.2 ⟨p,List.mem_of_getElem? h1,hb⟩)
 have hT:Tys ts w' (ps.flatMap (·.2)++qs.flatMap (·.2)):=by
  refine Tys.app (Tys.keep (fun b hb=>?_) hk) (Tys.keep (fun b hb=>?_) hki)
  ·obtain⟨p,hp,hb⟩:=List.mem_flatMap.1 hb
   obtain⟨j,hj,rfl⟩:=List.mem_iff_getElem.1 hp
   exact he (hE0 j ps[j] (xs[j]'(by omega)) (List.getElem?_eq_getElem hj) (List.getElem?_eq_getElem (by omega))) b hb
  ·obtain⟨p,hp,hb⟩:=List.mem_flatMap.1 hb
   obtain⟨y,hy⟩:=hqE p hp
   exact he hy b hb
 refine⟨v'.ownBlock.toList++(ps.flatMap (·.2)++qs.flatMap (·.2)),⟨ps++qs,by simp[hl,hql],?_,?_,by simp⟩,⟨?_,?_⟩,?_⟩
 ·intro j p y hp hy
  by_cases hj:j < xs.length
  ·rw[List.getElem?_append_left (by omega)] at hp hy
   exact e.keep (hE0 j p y hp hy) fun b hb=>hk b (List.mem_flatMap.2 ⟨p,List.mem_of_getElem? hp,hb⟩)
  ·rw[List.getElem?_append_right (by omega)] at hp hy
   rw[hl] at hp
   exact hE' _ p y hp hy
 ·rw[List.flatMap_append,List.length_append]
  exact own_mono ho' (Nat.zero_le B)
 ·rw[List.nodup_append]
  refine⟨by cases v'.ownBlock <;> simp,?_,?_⟩
  ·rw[List.nodup_append]
   exact⟨hd.2.1,hFi.1,fun a ha b hb e1=>hap b hb (List.mem_append.2 (.inr (e1 ▸ ha)))⟩
  ·intro a ha b hb e1
   subst e1
   obtain⟨cur,t,h1,h2⟩:=own_ty ho' a ha
   obtain⟨cur',t',h1',h2'⟩:=hT a hb
   rw[h1] at h1'
   simp at h1' h2
   exact hts (h2 ▸ h1'.2 ▸ h2')
 ·intro b hb
  rcases List.mem_append.1 hb with hb | hb
  ·exact (ho'.lt b (by simpa using hb)).1
  ·rcases List.mem_append.1 hb with hb | hb
   ·exact hF.2 b (List.mem_append.2 (.inr hb))
   ·exact hFi.2 b hb
 ·intro b hb
  rcases List.mem_append.1 hb with hb | hb
  ·exact .inr (.inr (by simpa using hb))
  ·rcases List.mem_append.1 hb with hb | hb
   ·exact .inl (List.mem_append.2 (.inr hb))
   ·exact .inr (.inl hb)
structure Appd {α:Type} (e:Elem α) (B:Nat) (w w':World) (v v':Value) (bl ib bl':List Nat) (zs:List α) : Prop where
 row:ORow e w' v' zs bl'
 fsh:Fsh B bl'
 sub:∀ b∈bl',b∈bl∨b∈ib∨b=w.heap.size
 grown:w.grownBy w' v.ownBlock
 shp:Shp w w'
theorem run_append_elems {α:Type} {e:Elem α} {ts:List TypeId} (he:∀ {w vs x bl},e.E w vs x bl→Tys ts w bl) (hts:e.T ∉ ts) {t:TypeId} (ht:Tryz.prog.underlying t=some (.slice e.T)) {z:Value} {bytes:Nat}
  (hinfo:(Tryz.prog.info? e.T).map (fun i=>(i.zero,i.size,i.bytes))=some (some z,e.wd,bytes)) (hzs:z.cells.size=e.wd) (hsz:0 < e.wd) (hby:bytes≤100)
  (w:World) (ty:TypeId) {B:Nat} {v:Value} {xs:List α} {bl:List Nat} (h:ORow e w v xs bl) (hF:Fsh B bl)
  {qs:List (List Value×List Nat)} {ys:List α} (hql:qs.length=ys.length) (h0:0 < ys.length) (hE:∀ (j:Nat) (p:List Value×List Nat) (y:α),qs[j]?=some p→ys[j]?=some y→e.E w p.1 y p.2) (hFi:Fsh B (qs.flatMap (·.2))) (hap:∀ b∈qs.flatMap (·.2),b ∉ bl)
  {g c:Nat} (hcell:∀ (j:Nat) (u:Value),(qs.flatMap (·.1))[j]?=some u→w.cell? ((⟨g,0,none⟩ : Addr).add j)=some u) (h1:∀ u∈qs.flatMap (·.1),u.oneCell'=true) (hB:B≤w.heap.size) (hl:xs.length+ys.length≤40000000) :
  ∃ v' w' bl',(Builtin.append_ #[t,t] ty #[v,.slice (some ⟨g,0,none⟩) ys.length c]).run Tryz.prog w = .ok v' w'∧Appd e B w w' v v' bl (qs.flatMap (·.2)) bl' (xs++ys):=by
 obtain⟨i0,hi,hz0,hz1,hz2⟩:=info_parts hinfo
 obtain⟨cs,hown,hfin⟩:=h.apps he hts hF hql hE hFi hap
 have hwd:∀ p∈qs,p.1.length=e.wd:=orow_wd hql hE
 have hlen:(qs.flatMap (·.1)).length=ys.length*e.wd:=by rw[flat_len hwd,hql]
 have hby2:(xs.length+ys.length)*bytes≤(xs.length+ys.length)*100:=Nat.mul_le_mul_left _ hby
 obtain⟨v',w',hr,h2,h3,_⟩:=run_append_own (P:=Tryz.prog) w B t ty e.T i0 z e.wd bytes ht hi hz0 hz1 hz2 hzs hsz v _ cs hown ⟨g,0,none⟩ ys.length c (qs.flatMap (·.1)) hlen hcell h1 (by unfold maxLen; omega) (by omega) hB
 have h4:=append_form (P:=Tryz.prog) w (z:=z) ht hi hz0 (by rw[hz1]; exact hown) (by rw[hz1]; exact hlen) hcell h1 h0 (by unfold maxLen; omega) (by rw[hz2]; omega) hr
 obtain⟨bl',h5,h6,h7⟩:=hfin v' w' h2 h3
 refine⟨v',w',bl',hr,h5,h6,fun b hb=>?_,h3,h4.2⟩
 rcases h7 b hb with h8 | h8 | h8
 ·exact .inl h8
 ·exact .inr (.inl h8)
 ·rcases h4.1 with h9 | h9
  ·exact .inl (h.head (h9 ▸ h8))
  ·rw[h8] at h9; injection h9 with h9; exact .inr (.inr h9)
theorem wp_append_run {P:Program} {o:Oper} {a:Act} {K:Act→World→Prop} {Q:Exit→Act→World→Prop} {w:World} (s x:Operand) (t:TypeId)
  (ho:o.op = .call { callee:=.builtin .append,args:=#[s,x],argTypes:=#[t,t] }) {v u v':Value} {w':World} (hs:a.eval s=v) (hx:a.eval x=u) (hr:(Builtin.append_ #[t,t] o.type #[v,u]).run P w = .ok v' w')
  (h:K (a.put o.dst v') w') : o.wp P a w K Q:=by
 unfold Oper.wp execOp
 simp only[ho,resolve,invoke,builtin,Sem.run_bind,Sem.run_pure,Result.andThen_ok,List.map_toArray,List.map_cons,List.map_nil,hs,hx,hr]
 exact h
theorem run_append_any {T:TypeId} {wd:Nat} {t:TypeId} (ht:Tryz.prog.underlying t=some (.slice T)) {z:Value} {bytes:Nat}
  (hinfo:(Tryz.prog.info? T).map (fun i=>(i.zero,i.size,i.bytes))=some (some z,wd,bytes)) (hzs:z.cells.size=wd) (hsz:0 < wd) (hby:bytes≤100)
  (w:World) (ty:TypeId) {B:Nat} {v:Value} {N:Nat} (h:AnyR w B T wd v N) {vs:List Value} (hlen:vs.length=wd)
  {g c:Nat} (hcell:∀ (j:Nat) (u:Value),vs[j]?=some u→w.cell? ((⟨g,0,none⟩ : Addr).add j)=some u) (h1:∀ u∈vs,u.oneCell'=true) (hB:B≤w.heap.size) (hl:N+1≤40000000) :
  ∃ v' w',(Builtin.append_ #[t,t] ty #[v,.slice (some ⟨g,0,none⟩) 1 c]).run Tryz.prog w = .ok v' w'∧AnyR w' B T wd v' (N+1)∧w.grownBy w' v.ownBlock∧Shp w w':=by
 obtain⟨i0,hi,hz0,hz1,hz2⟩:=info_parts hinfo
 obtain⟨n,cs,hn,hown⟩:=h
 have hby2:(n+1)*bytes≤(n+1)*100:=Nat.mul_le_mul_left _ hby
 obtain⟨v',w',hr,h2,h3,_⟩:=run_append_own (P:=Tryz.prog) w B t ty T i0 z wd bytes ht hi hz0 hz1 hz2 hzs hsz v _ cs hown ⟨g,0,none⟩ 1 c vs (by omega) hcell h1 (by unfold maxLen; omega) (by omega) hB
 have h4:=append_form (P:=Tryz.prog) w (z:=z) ht hi hz0 (by rw[hz1]; exact hown) (by rw[hz1]; omega) hcell h1 (by omega) (by unfold maxLen; omega) (by rw[hz2]; omega) hr
 exact⟨v',w',hr,⟨n+1,_,by omega,h2⟩,h3,h4.2⟩
theorem ORow.other {α:Type} {e:Elem α} {w:World} {v:Value} {xs:List α} {bl:List Nat} (h:ORow e w v xs bl) {g:Nat} (hg:g ∉ bl) (o:Nat) (u:Value) : ORow e (w.setCell ⟨g,o,none⟩ u) v xs bl:=
 h.keep fun b hb=>Below.heap_setCell _ _ _ _ fun he=>hg (by subst he; exact hb)
theorem Fsh.not {B g:Nat} {bl:List Nat} (h:Fsh B bl) (hg:g < B) : g ∉ bl:=fun hm=>by have:=h.2 g hm; omega
structure New3 (w:World) (a b c:Obj) (w':World) : Prop where
 bel:Below w.heap.size w w'
 size:w'.heap.size=w.heap.size+1+1+1
 k0:w'.heap[w.heap.size]?=some a
 k1:w'.heap[w.heap.size+1]?=some b
 k2:w'.heap[w.heap.size+1+1]?=some c
theorem new3 (w:World) (a b c:Obj) : New3 w a b c (((w.alloc a).alloc b).alloc c):=by
 refine⟨below_next (below_next (alloc_b w _) (alloc_b _ _)) (alloc_b _ _),by simp,?_,?_,?_⟩
 ·exact ((alloc_b _ c).block _ (by simp; omega)).trans (((alloc_b _ b).block _ (by simp)).trans (heap_alloc_new w a))
 ·have:=heap_alloc_new (w.alloc a) b
  rw[show (w.alloc a).heap.size=w.heap.size+1 from by simp] at this
  exact ((alloc_b _ c).block _ (by simp)).trans this
 ·have:=heap_alloc_new ((w.alloc a).alloc b) c
  simpa using this
theorem ORow.putN {α:Type} {e:Elem α} {w:World} {v:Value} {xs:List α} {bl:List Nat} (h:ORow e w v xs bl) {g:Nat} (hg:g ∉ bl) (vs:List Value) (o:Nat) : ORow e (putN w g o vs) v xs bl:=
 h.keep fun b hb=>putN_other (fun he=>hg (by subst he; exact hb)) _ _
theorem ORow.len {α:Type} {e:Elem α} {w:World} {v:Value} {xs:List α} {bl:List Nat} (h:ORow e w v xs bl) : xs.length≤maxLen:=by
 obtain⟨ps,hl,hE,ho,_⟩:=h
 rcases ho.2 with ⟨hv,h0⟩ | ⟨g,cap,cur,hv,_,_,h1,h2,_⟩
 ·omega
 ·omega
structure New2 (w:World) (a b:Obj) (w':World) : Prop where
 bel:Below w.heap.size w w'
 size:w'.heap.size=w.heap.size+1+1
 k0:w'.heap[w.heap.size]?=some a
 k1:w'.heap[w.heap.size+1]?=some b
theorem new2 (w:World) (a b:Obj) : New2 w a b ((w.alloc a).alloc b):=by
 refine⟨below_next (alloc_b w _) (alloc_b _ _),by simp,?_,?_⟩
 ·exact ((alloc_b _ b).block _ (by simp)).trans (heap_alloc_new w a)
 ·have:=heap_alloc_new (w.alloc a) b
  rw[show (w.alloc a).heap.size=w.heap.size+1 from by simp] at this
  exact this
def rangeI (n:Int) : Bool:=decide (-1000000000 < n) && decide (n < 1000000000)
def noLow (s:ByteArray) : Bool:=s.data.toList.all fun c=>decide (32≤c.toNat)
def plainT (s:ByteArray) : Bool:=noLow s && decide (s.size≤1000)
def empT (s:ByteArray) : Bool:=s.toList.isEmpty
def stepOk (p:PStep) : Bool:=if p.byI=true then empT p.name && rangeI p.idx else (p.idx == 0) && plainT p.name
theorem range_walk (n:Int) (w:World) : Calls Tryz.prog 30 #[.int .i64 n] w fun e w'=>e = .returned (.bool (rangeI n))∧w=w':=by
 unfold rangeI
 by_cases h1 : -1000000000 < n
 ·by_cases h2:n < 1000000000
  ·have t1:decide (-1000000000 < n)=true:=decide_eq_true h1
   have t2:decide (n < 1000000000)=true:=decide_eq_true h2
   rw[t1,t2]
   go_enter Tryz.func30,Tryz.ntmps30
   go_wp2
   go_ret
   exact⟨rfl,rfl⟩
  ·have t1:decide (-1000000000 < n)=true:=decide_eq_true h1
   have t2:decide (n < 1000000000)=false:=decide_eq_false h2
   rw[t1,t2]
   go_enter Tryz.func30,Tryz.ntmps30
   go_wp2
   go_ret
   exact⟨rfl,rfl⟩
 ·have t1:decide (-1000000000 < n)=false:=decide_eq_false h1
  rw[t1]
  go_enter Tryz.func30,Tryz.ntmps30
  go_wp2
  go_ret
  exact⟨rfl,rfl⟩
theorem noLow_no {s:ByteArray} {j:Nat} (hj:j < s.size) (h:s[j].toNat < 32) : noLow s=false:=by
 unfold noLow
 rw[List.all_eq_false]
 refine⟨s[j],?_,by simp; omega⟩
 rw[show s[j]=s.data[j] from rfl,Array.mem_toList_iff]
 exact Array.getElem_mem _
theorem noLow_yes {s:ByteArray} (h:∀ j (hj:j < s.size),32≤s[j].toNat) : noLow s=true:=by
 unfold noLow
 rw[List.all_eq_true]
 intro c hc
 obtain⟨j,hj,rfl⟩:=List.mem_iff_getElem.1 hc
 have:=h j (by simpa using hj)
 exact decide_eq_true this
theorem plain_walk (s:ByteArray) (w:World) (hs:s.size≤1048576) : Calls Tryz.prog 29 #[.string s] w fun e w'=>e = .returned (.bool (plainT s))∧w=w':=by
 go_enter Tryz.func29,Tryz.ntmps29
 go_wp2
 go_loopw [3] (fun iv wr=>∃ k:Nat,k≤s.size∧iv = .int .i64 (k:Int)∧w=wr∧Hid (∀ j (hj:j < s.size),j < k→32≤s[j].toNat)) (fun iv _=>s.size - (intOf iv).toNat)
 case atStart=>exact⟨0,Nat.zero_le _,rfl,rfl,fun j _ hj=>by omega⟩
 case round=>
  obtain⟨k,hk,rfl,rfl,hd⟩:=hrel
  by_cases hlt:k < s.size
  ·have hltI:(k:Int) < (s.size:Int):=by omega
   by_cases hc:s[k].toNat < 32
   ·have hcI:((s[k].toNat:Nat) : Int) < 32:=by omega
    have HQ:Hid (plainT s=false):=by show plainT s=false; unfold plainT; rw[noLow_no hlt hc]; rfl
    clear hd
    go_wp2
    go_ret
    exact⟨by rw[uh HQ]; rfl,rfl⟩
   ·have hcI:¬ ((s[k].toNat:Nat) : Int) < 32:=by omega
    have HD:Hid (∀ j (hj:j < s.size),j < k+1→32≤s[j].toNat):=fun j hj h=>by
     by_cases e:j=k
     ·subst e; omega
     ·exact uh hd j hj (by omega)
    clear hd
    go_wp2
    go_roundw
    case rel=>exact⟨k+1,by omega,by go_num,trivial,HD⟩
    case measure=>simp[intOf]; omega
  ·have HQ:Hid (plainT s=decide ((s.size:Int)≤1000)):=by
    show plainT s=_
    unfold plainT
    rw[noLow_yes fun j hj=>uh hd j hj (by omega),Bool.true_and]
    congr 1
    simp only[eq_iff_iff]
    omega
   clear hd
   go_wp2
   go_ret
   exact⟨by rw[uh HQ]; rfl,rfl⟩
theorem emp_iff (s:ByteArray) : empT s=true↔s.size=0:=by
 unfold empT
 rw[ByteArray.toList_eq,List.isEmpty_iff,List.eq_nil_iff_length_eq_zero]
 simp
theorem stepOk_walk (m:PStep) (w:World) (hs:m.name.size≤1048576) : Calls Tryz.prog 52 #[.agg #[.bool m.byI,.string m.name,.int .i64 m.idx]] w fun e w'=>e = .returned (.bool (stepOk m))∧Below w.heap.size w w':=by
 have HR:Hid (∀ w,Calls Tryz.prog 30 #[.int .i64 m.idx] w fun e w'=>e = .returned (.bool (rangeI m.idx))∧w=w'):=fun w=>range_walk _ w
 have HP:Hid (∀ w,Calls Tryz.prog 29 #[.string m.name] w fun e w'=>e = .returned (.bool (plainT m.name))∧w=w'):=fun w=>plain_walk _ w hs
 have HE:Hid (stepOk m=if m.byI=true then empT m.name && rangeI m.idx else (m.idx == 0) && plainT m.name):=rfl
 have HB:Hid (∀ o,Below w.heap.size w (w.alloc o)):=fun o=>alloc_b w o
 generalize rangeI m.idx=R at *
 generalize plainT m.name=Q at *
 obtain⟨b,s,n⟩:=m
 simp only at *
 cases b with
 | true=>
  cases he:s.toList.isEmpty with
  | true=>
   have HX:Hid (stepOk ⟨true,s,n⟩=R):=by show _=_; rw[uh HE]; unfold empT; rw[he]; simp
   clear HE HP
   go_enter Tryz.func52,Tryz.ntmps52
   go_wp2_with fail
   refine (uh HR _).mono ?_
   rintro e w1 ⟨rfl,rfl⟩
   go_wp2
   go_ret
   exact⟨by rw[uh HX]; rfl,uh HB _⟩
  | false=>
   have HX:Hid (stepOk ⟨true,s,n⟩=false):=by show _=_; rw[uh HE]; unfold empT; rw[he]; simp
   clear HE HP HR
   go_enter Tryz.func52,Tryz.ntmps52
   go_wp2
   go_ret
   exact⟨by rw[uh HX]; rfl,uh HB _⟩
 | false=>
  by_cases hn:n=0
  ·subst hn
   have HX:Hid (stepOk ⟨false,s,0⟩=Q):=by show _=_; rw[uh HE]; simp
   clear HE HR
   go_enter Tryz.func52,Tryz.ntmps52
   go_wp2_with fail
   refine (uh HP _).mono ?_
   rintro e w1 ⟨rfl,rfl⟩
   go_wp2
   go_ret
   exact⟨by rw[uh HX]; rfl,uh HB _⟩
  ·have HX:Hid (stepOk ⟨false,s,n⟩=false):=by show _=_; rw[uh HE]; simp[hn]
   clear HE HR HP
   go_enter Tryz.func52,Tryz.ntmps52
   go_wp2
   go_ret
   exact⟨by rw[uh HX]; rfl,uh HB _⟩
def isRefK (k:Int) : Bool:=k == 6 || k == 7 || k == 8
def numOk (k n:Int) : Bool:=if k=1 then rangeI n else if k=9 then decide (1≤n) && decide (n≤6) else n == 0
def fopOk (o:PFOp) : Bool:=decide (1≤o.k) && decide (o.k≤12) && decide (o.steps.length≤1000) && (isRefK o.k || (!o.root && decide (o.steps.length=0))) && o.steps.all stepOk && (o.k == 2 || empT o.s) && numOk o.k o.n && plainT o.s
theorem plain_emp {s:ByteArray} (h:empT s=true) : plainT s=true:=by
 have:=(emp_iff s).1 h
 unfold plainT
 rw[noLow_yes fun j hj=>by omega,Bool.true_and,decide_eq_true_eq]
 omega
theorem all_no {α:Type} {f:α→Bool} {l:List α} {j:Nat} (hj:j < l.length) (h:f l[j]=false) : l.all f=false:=by
 rw[List.all_eq_false]
 exact⟨l[j],List.getElem_mem _,by rw[h]; simp⟩
theorem all_yes {α:Type} {f:α→Bool} {l:List α} (h:∀ j (hj:j < l.length),f l[j]=true) : l.all f=true:=by
 rw[List.all_eq_true]
 intro x hx
 obtain⟨j,hj,rfl⟩:=List.mem_iff_getElem.1 hx
 exact h j hj
theorem fopOk_out (m:PFOp) (v:Value) (w:World) (h:¬ (1≤m.k∧m.k≤12)) :
  Calls Tryz.prog 31 #[.agg #[.int .i64 m.k,.int .i64 m.n,.string m.s,.bool m.root,v]] w fun e w'=>e = .returned (.bool (fopOk m))∧Below w.heap.size w w':=by
 have HX:Hid (fopOk m=false):=by
  show _=_
  unfold fopOk
  by_cases h1:1≤m.k
  ·have:¬ m.k≤12:=fun h2=>h ⟨h1,h2⟩
   simp[this]
  ·simp[h1]
 have HB:Hid (∀ o,Below w.heap.size w (w.alloc o)):=fun o=>alloc_b w o
 obtain⟨k,n,s,r,st⟩:=m
 simp only at *
 have h6:¬ k=6:=by omega
 have h7:¬ k=7:=by omega
 have h8:¬ k=8:=by omega
 by_cases h1:k < 1
 ·clear h
  go_enter Tryz.func31,Tryz.ntmps31
  go_wp2
  go_ret
  exact⟨by rw[uh HX]; rfl,uh HB _⟩
 ·have h2:12 < k:=by omega
  clear h
  go_enter Tryz.func31,Tryz.ntmps31
  go_wp2
  go_ret
  exact⟨by rw[uh HX]; rfl,uh HB _⟩
theorem fopOk_long (m:PFOp) (v:Value) (bl:List Nat) (w:World) (h:ORow stepE w v m.steps bl) (hk:1≤m.k∧m.k≤12) (hn:1000 < m.steps.length) :
  Calls Tryz.prog 31 #[.agg #[.int .i64 m.k,.int .i64 m.n,.string m.s,.bool m.root,v]] w fun e w'=>e = .returned (.bool (fopOk m))∧Below w.heap.size w w':=by
 have HX:Hid (fopOk m=false):=by
  show _=_
  unfold fopOk
  have:¬ m.steps.length≤1000:=by omega
  simp[this]
 have HB:Hid (∀ o,Below w.heap.size w (w.alloc o)):=fun o=>alloc_b w o
 obtain⟨a,c,rfl,-,-⟩:=h.form
 obtain⟨k,n,s,r,st⟩:=m
 simp only at *
 have hnI:(1000:Int) < (st.length:Int):=by omega
 clear h
 generalize st.length=L at *
 rcases (show k=1∨k=2∨k=3∨k=4∨k=5∨k=6∨k=7∨k=8∨k=9∨k=10∨k=11∨k=12 by omega) with rfl | rfl | rfl | rfl | rfl | rfl | rfl | rfl | rfl | rfl | rfl | rfl
 all_goals
  clear hk
  go_enter Tryz.func31,Tryz.ntmps31
  go_wp2
  go_ret
  exact⟨by rw[uh HX]; rfl,uh HB _⟩
theorem fopOk_ref (m:PFOp) (v:Value) (bl:List Nat) (w:World) (h:ORow stepE w v m.steps bl) (hk:1≤m.k∧m.k≤12) (hn:¬ 1000 < m.steps.length) (hr:isRefK m.k=false) (hs:m.root=true∨0 < m.steps.length) :
  Calls Tryz.prog 31 #[.agg #[.int .i64 m.k,.int .i64 m.n,.string m.s,.bool m.root,v]] w fun e w'=>e = .returned (.bool (fopOk m))∧Below w.heap.size w w':=by
 have HX:Hid (fopOk m=false):=by
  show _=_
  unfold fopOk
  rw[hr]
  rcases hs with h | h
  ·simp[h]
  ·have:¬ m.steps.length=0:=by omega
   simp[this]
 have HB:Hid (∀ o,Below w.heap.size w (w.alloc o)):=fun o=>alloc_b w o
 obtain⟨a,c,rfl,-,-⟩:=h.form
 obtain⟨k,n,s,r,st⟩:=m
 simp only at *
 have hnI:¬ (1000:Int) < (st.length:Int):=by omega
 clear h
 generalize st.length=L at *
 rcases (show k=1∨k=2∨k=3∨k=4∨k=5∨k=6∨k=7∨k=8∨k=9∨k=10∨k=11∨k=12 by omega) with rfl | rfl | rfl | rfl | rfl | rfl | rfl | rfl | rfl | rfl | rfl | rfl
 all_goals first | exact absurd hr (by decide) | skip
 all_goals
  clear hk hr
  cases r with
  | true=>
   go_enter Tryz.func31,Tryz.ntmps31
   go_wp2
   go_ret
   exact⟨by rw[uh HX]; rfl,uh HB _⟩
  | false=>
   have hL:(0:Int) < (L:Int):=by
    rcases hs with h | h
    ·cases h
    ·omega
   clear hs
   go_enter Tryz.func31,Tryz.ntmps31
   go_wp2
   go_ret
   exact⟨by rw[uh HX]; rfl,uh HB _⟩
inductive CT where
 | mk (op:PFOp) (ps:List CT)
def CT.op:CT→PFOp
 | .mk op _=>op
def CT.ps:CT→List CT
 | .mk _ ps=>ps
def CT.tru (c:CT) : Bool:=isTru c.op.k
def stepT (st:List CT) (op:PFOp) : Option (List CT):=
 if st.length < parts op.k then none
 else if fopOk op=false then none
 else if (st.drop (st.length - parts op.k)).all (fun c=>c.tru != (op.k == 9))=true then some (st.take (st.length - parts op.k)++[.mk op (st.drop (st.length - parts op.k))]) else none
def runT:List PFOp→List CT→Option (List CT)
 | [],st=>some st
 | o :: r,st=>(stepT st o).bind fun st'=>runT r st'
theorem runT_app (a b:List PFOp) (st:List CT) : runT (a++b) st=(runT a st).bind fun st'=>runT b st':=by
 induction a generalizing st with
 | nil=>rfl
 | cons k r ih=>
  rw[List.cons_append,runT,runT]
  cases stepT st k with
  | none=>rfl
  | some S'=>exact ih S'
theorem runT_snoc {a:List PFOp} {st st':List CT} (h:runT a st=some st') (o:PFOp) : runT (a++[o]) st=stepT st' o:=by
 rw[runT_app,h,Option.bind_some,runT]
 cases stepT st' o <;> rfl
def condR (ops:List PFOp) : Option CT:=
 if 1000 < ops.length then none else
 match runT ops [] with
 | some [c]=>if c.tru=true then some c else none
 | _=>none
theorem stepT_S {st:List CT} {op:PFOp} (hf:fopOk op=true) : (stepT st op).map (fun s=>(s.map CT.tru).reverse)=stepS (st.map CT.tru).reverse op.k:=by
 unfold stepT stepS
 rw[List.length_reverse,List.length_map]
 by_cases hl:st.length < parts op.k
 ·rw[if_pos hl,if_pos hl]; rfl
 ·rw[if_neg hl,if_neg hl,if_neg (by rw[hf]; simp)]
  have e1:((st.map CT.tru).reverse).take (parts op.k)=((st.drop (st.length - parts op.k)).map CT.tru).reverse:=by
   rw[List.take_reverse,List.length_map,List.map_drop]
  have e2:((st.map CT.tru).reverse).drop (parts op.k)=((st.take (st.length - parts op.k)).map CT.tru).reverse:=by
   rw[List.drop_reverse,List.length_map,List.map_take]
  rw[e1,e2,List.all_reverse,List.all_map]
  by_cases ha:(st.drop (st.length - parts op.k)).all (fun c=>c.tru != (op.k == 9))=true
  ·rw[if_pos ha,if_pos (by rw[← ha]; rfl)]
   simp[CT.tru,CT.op]
  ·rw[if_neg ha,if_neg (by intro h; apply ha; rw[← h]; rfl)]
   rfl
theorem runT_S:∀ (ops:List PFOp) (st:List CT),ops.all fopOk=true→(runT ops st).map (fun s=>(s.map CT.tru).reverse)=runS (ops.map (·.k)) (st.map CT.tru).reverse
 | [],st,_=>rfl
 | o :: r,st,h=>by
  rw[List.all_cons,Bool.and_eq_true] at h
  rw[runT,List.map_cons,runS,← stepT_S h.1]
  cases stepT st o with
  | none=>rfl
  | some st'=>exact runT_S r st' h.2
theorem runT_bad:∀ (ops:List PFOp) (st:List CT),ops.all fopOk=false→runT ops st=none
 | [],st,h=>by simp at h
 | o :: r,st,h=>by
  rw[List.all_cons,Bool.and_eq_false_iff] at h
  rw[runT]
  by_cases ho:fopOk o=true
  ·cases stepT st o with
   | none=>rfl
   | some st'=>exact runT_bad r st' (by rcases h with h | h; rw[ho] at h; cases h; exact h)
  ·have:stepT st o=none:=by
    unfold stepT
    split
    ·rfl
    ·rw[if_pos (by cases hq:fopOk o with | false=>rfl | true=>exact absurd hq ho)]
   rw[this]; rfl
theorem fop_k {o:PFOp} (h:fopOk o=true) : 1≤o.k∧o.k≤12:=by
 unfold fopOk at h
 simp only[Bool.and_eq_true,decide_eq_true_eq] at h
 exact⟨h.1.1.1.1.1.1.1,h.1.1.1.1.1.1.2⟩
def condOk (ops:List PFOp) : Bool:=decide (ops.length≤1000) && ops.all fopOk && (runS (ops.map (·.k)) [] == some [true])
theorem condR_some (ops:List PFOp) : (condR ops).isSome=condOk ops:=by
 unfold condR condOk
 by_cases hl:1000 < ops.length
 ·rw[if_pos hl,decide_eq_false (by omega)]; rfl
 ·rw[if_neg hl,decide_eq_true (by omega),Bool.true_and]
  cases ha:ops.all fopOk with
  | false=>rw[runT_bad _ _ ha]; rfl
  | true=>
   have h:=runT_S ops [] ha
   simp only[List.map_nil,List.reverse_nil] at h
   rw[← h,Bool.true_and]
   cases hr:runT ops [] with
   | none=>rfl
   | some st=>
    simp only[Option.map_some]
    match st with
    | []=>rfl
    | [c]=>
     simp only[List.map_cons,List.map_nil,List.reverse_singleton]
     cases c.tru <;> rfl
    | c :: d :: r=>
     symm
     rw[Option.isSome_none,beq_eq_false_iff_ne]
     intro e
     injection e with e
     have:=congrArg List.length e
     simp at this
def startI (n:Nat) (l:List Int) (t:Bool) : Int:=match backF n l t with
 | some r=>(r.length:Int)
 | none=>-1
theorem back_len {n:Nat} {l:List Int} {t:Bool} {r:List Int} (h:backF n l t=some r) : r.length < l.length∧∃ p,l=p++r:=by
 obtain⟨m,e,hw⟩:=back_sound n l t r h
 refine⟨?_,_,e⟩
 have:m≠[]:=by
  intro hm
  rw[hm] at hw
  have:=hw.run []
  simp[runS] at this
 have:0 < m.length:=List.length_pos_iff.2 this
 rw[e]; simp; omega
theorem back_take {n i:Nat} {ks:List Int} {t:Bool} {r:List Int} (h:backF n (ks.take i).reverse t=some r) : r=(ks.take r.length).reverse∧r.length < i∧r.length < ks.length:=by
 obtain⟨h1,p,e⟩:=back_len h
 rw[List.length_reverse,List.length_take] at h1
 refine⟨?_,by omega,by omega⟩
 have e2:ks.take i=r.reverse++p.reverse:=by rw[← List.reverse_append,← e,List.reverse_reverse]
 have e3:(ks.take i).take r.length=r.reverse:=by rw[e2]; simp
 rw[List.take_take,Nat.min_eq_left (by omega)] at e3
 rw[e3,List.reverse_reverse]
theorem condOk_start (ops:List PFOp) : (decide (1≤ops.length) && decide (ops.length≤1000) && ops.all fopOk && (startI ops.length (ops.map (·.k)).reverse true == 0))=condOk ops:=by
 unfold condOk
 rw[Bool.eq_iff_iff]
 simp only[Bool.and_eq_true,decide_eq_true_eq,beq_iff_eq]
 constructor
 ·rintro⟨⟨⟨h1,h2⟩,h3⟩,h4⟩
  refine⟨⟨h2,h3⟩,?_⟩
  rw[cond_agree _ _ ops.length (by simp)]
  ·unfold startI at h4
   split at h4
   ·rename_i r hr
    rw[hr]
    congr 1
    exact List.eq_nil_of_length_eq_zero (by omega)
   ·omega
  ·intro k hk
   obtain⟨o,ho,rfl⟩:=List.mem_map.1 hk
   exact fop_k (List.all_eq_true.1 h3 o ho)
 ·rintro⟨⟨h2,h3⟩,h4⟩
  have h5:=(cond_agree _ (fun k hk=>by obtain⟨o,ho,rfl⟩:=List.mem_map.1 hk; exact fop_k (List.all_eq_true.1 h3 o ho)) ops.length (by simp)).1 h4
  refine⟨⟨⟨?_,h2⟩,h3⟩,?_⟩
  ·cases ops with
   | nil=>simp[runS] at h4
   | cons a r=>simp
  ·unfold startI; rw[h5]; rfl
def selB (o:PSel) : Bool:=(o.k == 1 || empT o.name) && (o.k == 4 || (!o.hasA && !o.hasB && !o.hasC)) && (o.hasA || o.k == 3 || o.a == 0) && (o.hasB || o.b == 0) && (o.hasC || o.c == 0) && (o.k == 5 || decide ((o.cond.length:Int)=0))
def goodS (o:PSel) : Bool:=decide (1≤o.k) && decide (o.k≤5) && plainT o.name && rangeI o.a && rangeI o.b && rangeI o.c && selB o
def selOk (o:PSel) : Bool:=decide (1≤o.k) && decide (o.k≤5) && plainT o.name && rangeI o.a && rangeI o.b && rangeI o.c && selB o && (o.k != 5 || condOk o.cond)
theorem selOk_good (o:PSel) : selOk o=(goodS o && (o.k != 5 || condOk o.cond)):=rfl
theorem sum_mem {α:Type} (f:α→Nat) {l:List α} {x:α} (h:x∈l) : f x≤(l.map f).sum:=by
 induction l with
 | nil=>cases h
 | cons y r ih=>
  rw[List.map_cons,List.sum_cons]
  rcases List.mem_cons.1 h with rfl | h
  ·omega
  ·have:=ih h; omega
theorem sz_fop {l:List PFOp} (h:szFops l≤1048576) {o:PFOp} (ho:o∈l) : o.s.size≤1048576∧∀ p∈o.steps,p.name.size≤1048576:=by
 have h1:=sum_mem szFop ho
 have e1:szFop o=o.s.size+szSteps o.steps:=rfl
 have e2:szSteps o.steps=o.steps.length+(o.steps.map szStep).sum:=rfl
 have e3:szFops l=l.length+(l.map szFop).sum:=rfl
 refine⟨by omega,fun p hp=>?_⟩
 have h2:=sum_mem szStep hp
 have e4:szStep p=p.name.size:=rfl
 omega
end Go.Proofs.YtkjcgkfejdogbaaGreatDoor
