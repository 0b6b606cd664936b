import Derived.WalkKit
import Derived.Test.YtkjcgkfejdogbaaGreatDoorRows
import Derived.Laws.AppendOwn
import Derived.Laws.OwnMore
import Derived.Below
import Derived.Deep.QuietTactic
import Derived.Lib.UnsafeStr
namespace Go.Proofs.YtkjcgkfejdogbaaGreatDoor
open Go.RowKit
structure SS (w:World) (xa:Option Addr) (xb xo:Nat) (ss:List ByteArray) : Prop where
 ad:0 < ss.length→xa=some ⟨xb,xo,none⟩
 cell:∀ j,j < ss.length→w.cell? ⟨xb,xo+j,none⟩=some (.string (ss.getD j ByteArray.empty))
theorem SS.below {w w':World} {xa:Option Addr} {xb xo:Nat} {ss:List ByteArray} (h:SS w xa xb xo ss) (hb:Below w.heap.size w w') : SS w' xa xb xo ss:=
 ⟨h.ad,fun j hj=>(hb.cell (p:=⟨xb,xo+j,none⟩) (World.block_lt_of_cell? _ _ (h.cell j hj))).trans (h.cell j hj)⟩
theorem below_next {w w1 w2:World} (h:Below w.heap.size w w1) (k:Below w1.heap.size w1 w2) : Below w.heap.size w w2:=h.trans (k.mono h.size)
theorem hide {p:Prop} (h:p) : Hid p:=h
theorem uh {p:Prop} (h:Hid p) : p:=h
theorem own_below {w w1:World} {B e size n:Nat} {v:Value} {xs:List Value} (h:w.ownsRow B e size v n xs) (hb:Below w.heap.size w w1) : w1.ownsRow B e size v n xs:=by
 refine⟨h.1,?_⟩
 rcases h.2 with h0 | ⟨g,cap,cur,hv,hB,hg,r⟩
 ·exact .inl h0
 ·exact .inr ⟨g,cap,cur,hv,hB,(hb.block g (Array.getElem?_eq_some_iff.1 hg).1).trans hg,r⟩
theorem own_mono {w:World} {B B' e size n:Nat} {v:Value} {xs:List Value} (h:w.ownsRow B e size v n xs) (hB:B'≤B) : w.ownsRow B' e size v n xs:=by
 refine⟨h.1,?_⟩
 rcases h.2 with h0 | ⟨g,cap,cur,hv,hb,r⟩
 ·exact .inl h0
 ·exact .inr ⟨g,cap,cur,hv,Nat.le_trans hB hb,r⟩
structure Fr (bl:List Nat) (w w':World) : Prop where
 os:w'.os=w.os
 tape:w'.tape=w.tape
 output:w'.output=w.output
 size:w.heap.size≤w'.heap.size
 block:∀ k,k < w.heap.size→k ∉ bl→w'.heap[k]?=w.heap[k]?
theorem Fr.refl (bl:List Nat) (w:World) : Fr bl w w:=⟨rfl,rfl,rfl,Nat.le_refl _,fun _ _ _=>rfl⟩
theorem Fr.trans' {bl bl':List Nat} {a b c:World} (h:Fr bl a b) (k:Fr bl' b c) (hs:∀ i∈bl',i∈bl∨a.heap.size≤i) : Fr bl a c:=
 ⟨k.os.trans h.os,k.tape.trans h.tape,k.output.trans h.output,Nat.le_trans h.size k.size,fun i hi hn=>
  (k.block i (Nat.lt_of_lt_of_le hi h.size) (fun e=>by rcases hs i e with h1 | h1; exact hn h1; omega)).trans (h.block i hi hn)⟩
theorem Fr.trans {bl:List Nat} {a b c:World} (h:Fr bl a b) (k:Fr bl b c) : Fr bl a c:=h.trans' k fun _=>.inl
theorem Fr.mono {bl bl':List Nat} {a b:World} (h:Fr bl a b) (hs:∀ i∈bl,i∈bl') : Fr bl' a b:=
 ⟨h.os,h.tape,h.output,h.size,fun i hi hn=>h.block i hi fun e=>hn (hs i e)⟩
theorem Fr.of_below {bl:List Nat} {w w':World} (h:Below w.heap.size w w') : Fr bl w w':=⟨h.os,h.tape,h.output,h.size,fun k hk _=>h.block k hk⟩
theorem Fr.below {bl:List Nat} {B:Nat} {w w':World} (h:Fr bl w w') (hB:∀ b∈bl,B≤b) (hs:B≤w.heap.size) : Below B w w':=
 ⟨h.os,h.tape,h.output,h.size,fun k hk=>h.block k (by omega) fun e=>by have:=hB k e; omega⟩
theorem Fr.set {bl:List Nat} {a w:World} (h:Fr bl a w) {g:Nat} (hg:g∈bl) (j:Nat) (u:Value) : Fr bl a (w.setCell ⟨g,j,none⟩ u):=
 h.trans ⟨rfl,rfl,rfl,by simp[World.setCell],fun k _ hn=>Below.heap_setCell _ _ _ _ fun e=>hn (e ▸ hg)⟩
theorem Fr.next {bl:List Nat} {a w w':World} (h:Fr bl a w) (hb:Below w.heap.size w w') : Fr bl a w':=h.trans (.of_below hb)
theorem Fr.drewN {bl:List Nat} {a w:World} (h:Fr bl a w) (n:Nat) : Fr bl a (w.drewN n):=⟨h.os,h.tape,h.output,h.size,h.block⟩
theorem Fr.drew {bl:List Nat} {a w:World} (h:Fr bl a w) : Fr bl a w.drew:=⟨h.os,h.tape,h.output,h.size,h.block⟩
def Kp (bl:List Nat) (w w':World) : Prop:=∀ b∈bl,w'.heap[b]?=w.heap[b]?
theorem Kp.of_below {bl:List Nat} {w w':World} (h:Below w.heap.size w w') (hl:∀ b∈bl,b < w.heap.size) : Kp bl w w':=fun b hb=>h.block b (hl b hb)
theorem Fr.kp {bl bl':List Nat} {w w':World} (h:Fr bl w w') (hl:∀ b∈bl',b < w.heap.size) (hd:∀ b∈bl',b ∉ bl) : Kp bl' w w':=fun b hb=>h.block b (hl b hb) (hd b hb)
theorem own_keep {w w':World} {B e size n:Nat} {v:Value} {xs:List Value} (h:w.ownsRow B e size v n xs) (hb:Kp v.ownBlock.toList w w') : w'.ownsRow B e size v n xs:=by
 refine⟨h.1,?_⟩
 rcases h.2 with h0 | ⟨g,cap,cur,hv,hB,hg,r⟩
 ·exact .inl h0
 ·refine .inr ⟨g,cap,cur,hv,hB,(hb g ?_).trans hg,r⟩
  rw[hv]; simp[Value.ownBlock]
structure Elem (α:Type) where
 T:TypeId
 wd:Nat
 E:World→List Value→α→List Nat→Prop
 len:∀ {w vs x bl},E w vs x bl→vs.length=wd
 lt:∀ {w vs x bl},E w vs x bl→∀ b∈bl,b < w.heap.size
 keep:∀ {w w' vs x bl},E w vs x bl→Kp bl w w'→E w' vs x bl
def ORow {α:Type} (e:Elem α) (w:World) (v:Value) (xs:List α) (bl:List Nat) : Prop:=
 ∃ ps:List (List Value×List Nat),ps.length=xs.length∧(∀ (j:Nat) (p:List Value×List Nat) (x:α),ps[j]?=some p→xs[j]?=some x→e.E w p.1 x p.2) ∧
  w.ownsRow 0 e.T e.wd v xs.length (ps.flatMap (·.1))∧bl=v.ownBlock.toList++ps.flatMap (·.2)
theorem flat_at {ps:List (List Value×List Nat)} {wd:Nat} (h:∀ p∈ps,p.1.length=wd) {j:Nat} {p:List Value×List Nat} (hj:ps[j]?=some p) (m:Nat) (hm:m < wd) : (ps.flatMap (·.1))[j*wd+m]?=p.1[m]?:=by
 induction ps generalizing j with
 | nil=>simp at hj
 | cons q r ih=>
  have hq:=h q List.mem_cons_self
  rw[List.flatMap_cons]
  cases j with
  | zero=>
   simp at hj; subst hj
   rw[Nat.zero_mul,Nat.zero_add,List.getElem?_append_left (by omega)]
  | succ j=>
   have:=ih (fun p hp=>h p (List.mem_cons_of_mem _ hp)) (by simpa using hj)
   rw[List.getElem?_append_right (by rw[hq,Nat.add_mul]; omega),hq,← this]
   congr 1
   rw[Nat.add_mul]; omega
theorem flat_len {ps:List (List Value×List Nat)} {wd:Nat} (h:∀ p∈ps,p.1.length=wd) : (ps.flatMap (·.1)).length=ps.length*wd:=by
 induction ps with
 | nil=>simp
 | cons q r ih=>
  rw[List.flatMap_cons,List.length_append,ih (fun p hp=>h p (List.mem_cons_of_mem _ hp)),h q List.mem_cons_self,List.length_cons,Nat.add_mul]; omega
theorem flat_set {ps:List (List Value×List Nat)} {wd:Nat} (h:∀ p∈ps,p.1.length=wd) {j:Nat} {p:List Value×List Nat} (hj:ps[j]?=some p) (m:Nat) (hm:m < wd) (u:Value) (bl:List Nat) :
  (ps.set j (p.1.set m u,bl)).flatMap (·.1)=(ps.flatMap (·.1)).set (j*wd+m) u:=by
 induction ps generalizing j with
 | nil=>simp at hj
 | cons q r ih=>
  have hq:=h q List.mem_cons_self
  cases j with
  | zero=>
   simp at hj; subst hj
   rw[List.set_cons_zero,List.flatMap_cons,List.flatMap_cons,Nat.zero_mul,Nat.zero_add,List.set_append_left _ _ (by omega)]
  | succ j=>
   have:=ih (fun p hp=>h p (List.mem_cons_of_mem _ hp)) (by simpa using hj)
   rw[List.set_cons_succ,List.flatMap_cons,List.flatMap_cons,this,List.set_append_right _ _ (by rw[hq,Nat.add_mul]; omega),hq]
   congr 2
   rw[Nat.add_mul]; omega
theorem flat_set2 {ps:List (List Value×List Nat)} {j:Nat} {p:List Value×List Nat} (hj:ps[j]?=some p) (vs:List Value) :
  (ps.set j (vs,p.2)).flatMap (·.2)=ps.flatMap (·.2):=by
 induction ps generalizing j with
 | nil=>simp at hj
 | cons q r ih=>
  cases j with
  | zero=>simp at hj; subst hj; rw[List.set_cons_zero,List.flatMap_cons,List.flatMap_cons]
  | succ j=>rw[List.set_cons_succ,List.flatMap_cons,List.flatMap_cons,ih (by simpa using hj)]
theorem flat_set1 {ps:List (List Value×List Nat)} {j:Nat} {p:List Value×List Nat} (hj:ps[j]?=some p) (bl:List Nat) :
  (ps.set j (p.1,bl)).flatMap (·.1)=ps.flatMap (·.1):=by
 induction ps generalizing j with
 | nil=>simp at hj
 | cons q r ih=>
  cases j with
  | zero=>simp at hj; subst hj; rw[List.set_cons_zero,List.flatMap_cons,List.flatMap_cons]
  | succ j=>rw[List.set_cons_succ,List.flatMap_cons,List.flatMap_cons,ih (by simpa using hj)]
theorem nodup_at {ps:List (List Value×List Nat)} (h:(ps.flatMap (·.2)).Nodup) {j:Nat} {p:List Value×List Nat} (hj:ps[j]?=some p) : p.2.Nodup:=by
 induction ps generalizing j with
 | nil=>simp at hj
 | cons q r ih=>
  rw[List.flatMap_cons,List.nodup_append] at h
  cases j with
  | zero=>simp at hj; subst hj; exact h.1
  | succ j=>exact ih h.2.1 (by simpa using hj)
theorem nodup_apart {ps:List (List Value×List Nat)} (h:(ps.flatMap (·.2)).Nodup) {i j:Nat} {p q:List Value×List Nat} (hi:ps[i]?=some p) (hj:ps[j]?=some q) (hij:i≠j) : ∀ b∈p.2,b ∉ q.2:=by
 induction ps generalizing i j with
 | nil=>simp at hj
 | cons a r ih=>
  rw[List.flatMap_cons,List.nodup_append] at h
  cases i with
  | zero=>
   cases j with
   | zero=>omega
   | succ j=>
    simp at hi; subst hi
    intro b hb hq
    exact h.2.2 b hb b (List.mem_flatMap.2 ⟨q,List.mem_of_getElem? (by simpa using hj),hq⟩) rfl
  | succ i=>
   cases j with
   | zero=>
    simp at hj; subst hj
    intro b hb hq
    exact h.2.2 b hq b (List.mem_flatMap.2 ⟨p,List.mem_of_getElem? (by simpa using hi),hb⟩) rfl
   | succ j=>exact ih h.2.1 (by simpa using hi) (by simpa using hj) (by omega)
section
variable {α:Type} {e:Elem α} {w w':World} {v:Value} {xs:List α} {bl:List Nat}
theorem orow_wd {ps:List (List Value×List Nat)} (hl:ps.length=xs.length) (h:∀ (j:Nat) (p:List Value×List Nat) (x:α),ps[j]?=some p→xs[j]?=some x→e.E w p.1 x p.2) : ∀ p∈ps,p.1.length=e.wd:=by
 intro p hp
 obtain⟨j,hj,rfl⟩:=List.mem_iff_getElem.1 hp
 exact e.len (h j ps[j] (xs[j]'(by omega)) (List.getElem?_eq_getElem hj) (List.getElem?_eq_getElem (by omega)))
theorem ORow.nil (e:Elem α) (w:World) : ORow e w (.slice none 0 0) [] []:=⟨[],rfl,fun _ _ _ h=>by simp at h,w.ownsRow_nil _ _ _,rfl⟩
theorem ORow.lt (h:ORow e w v xs bl) : ∀ b∈bl,b < w.heap.size:=by
 obtain⟨ps,hl,hE,ho,rfl⟩:=h
 intro b hb
 rw[List.mem_append] at hb
 rcases hb with hb | hb
 ·exact (ho.lt b (by simpa using hb)).2
 ·obtain⟨p,hp,hb⟩:=List.mem_flatMap.1 hb
  obtain⟨j,hj,rfl⟩:=List.mem_iff_getElem.1 hp
  exact e.lt (hE j ps[j] (xs[j]'(by omega)) (List.getElem?_eq_getElem hj) (List.getElem?_eq_getElem (by omega))) b hb
theorem ORow.keep (h:ORow e w v xs bl) (hk:Kp bl w w') : ORow e w' v xs bl:=by
 obtain⟨ps,hl,hE,ho,rfl⟩:=h
 refine⟨ps,hl,fun j p x hp hx=>e.keep (hE j p x hp hx) fun b hb=>hk b ?_,own_keep ho fun b hb=>hk b ?_,rfl⟩
 ·rw[List.mem_append]; exact .inr (List.mem_flatMap.2 ⟨p,List.mem_of_getElem? hp,hb⟩)
 ·rw[List.mem_append]; exact .inl hb
theorem ORow.below (h:ORow e w v xs bl) (hb:Below w.heap.size w w') : ORow e w' v xs bl:=h.keep (.of_below hb h.lt)
theorem ORow.form (h:ORow e w v xs bl) : ∃ a cap,v = .slice a xs.length cap∧(∀ g,a=some g→g=⟨g.block,0,none⟩∧g.block∈bl)∧(0 < xs.length→∃ g,a=some ⟨g,0,none⟩):=by
 obtain⟨ps,hl,hE,ho,rfl⟩:=h
 rcases ho.2 with ⟨hv,h0⟩ | ⟨g,cap,cur,hv,_⟩
 ·exact⟨none,0,by rw[hv,h0],fun g h=>(by cases h),fun h=>by omega⟩
 ·refine⟨some ⟨g,0,none⟩,cap,hv,fun g h=>?_,fun _=>⟨g,rfl⟩⟩
  cases h
  exact⟨rfl,by rw[hv]; simp[Value.ownBlock]⟩
theorem ORow.at {g cap n:Nat} (h:ORow e w (.slice (some ⟨g,0,none⟩) n cap) xs bl) {j:Nat} {x:α} (hx:xs[j]?=some x) :
  ∃ vs ib,e.E w vs x ib∧(∀ m u,vs[m]?=some u→w.cell? ⟨g,j*e.wd+m,none⟩=some u∧w.frozen? ⟨g,j*e.wd+m,none⟩=false)∧(∀ b∈ib,b∈bl)∧g∈bl∧(bl.Nodup→g ∉ ib∧ib.Nodup):=by
 obtain⟨ps,hl,hE,ho,rfl⟩:=h
 have hj:j < xs.length:=(List.getElem?_eq_some_iff.1 hx).1
 have hp:ps[j]?=some ps[j]:=List.getElem?_eq_getElem (by omega)
 have hwd:=orow_wd hl hE
 have hn:n=xs.length:=by
  rcases ho.2 with ⟨hv,h0⟩ | ⟨g',cap',cur,hv,_⟩
  ·cases hv
  ·injection hv
 subst hn
 refine⟨ps[j].1,ps[j].2,hE j _ x hp hx,?_,?_,?_,?_⟩
 ·intro m u hm
  have hm':m < e.wd:=by
   have:=(List.getElem?_eq_some_iff.1 hm).1
   rwa [hwd _ (List.getElem_mem (by omega))] at this
  have hlt:j*e.wd+m < xs.length*e.wd:=by
   have:(j+1)*e.wd≤xs.length*e.wd:=Nat.mul_le_mul_right _ hj
   rw[Nat.add_mul] at this; omega
  refine⟨?_,ho.frozenAt _⟩
  rw[ho.cellAt _ hlt,flat_at hwd hp m hm']; exact hm
 ·intro b hb
  rw[List.mem_append]; exact .inr (List.mem_flatMap.2 ⟨_,List.getElem_mem (by omega),hb⟩)
 ·simp[Value.ownBlock]
 ·intro hd
  rw[List.nodup_append] at hd
  refine⟨fun hg=>hd.2.2 g (by simp[Value.ownBlock]) g (List.mem_flatMap.2 ⟨_,List.getElem_mem (by omega),hg⟩) rfl,?_⟩
  exact nodup_at hd.2.1 hp
theorem ORow.put {g cap n:Nat} (h:ORow e w (.slice (some ⟨g,0,none⟩) n cap) xs bl) (hd:bl.Nodup) {j:Nat} {x:α} (hx:xs[j]?=some x) (m:Nat) (hm:m < e.wd) (u:Value) (x':α)
  (hE:∀ w' vs ib,e.E w' vs x ib→e.E w' (vs.set m u) x' ib) : ORow e (w.setCell ⟨g,j*e.wd+m,none⟩ u) (.slice (some ⟨g,0,none⟩) n cap) (xs.set j x') bl:=by
 obtain⟨ps,hl,hE0,ho,rfl⟩:=h
 have hj:j < xs.length:=(List.getElem?_eq_some_iff.1 hx).1
 have hp:ps[j]?=some ps[j]:=List.getElem?_eq_getElem (by omega)
 have hwd:=orow_wd hl hE0
 have hn:n=xs.length:=by
  rcases ho.2 with ⟨hv,h0⟩ | ⟨g',cap',cur,hv,_⟩
  ·cases hv
  ·injection hv
 subst hn
 rw[List.nodup_append] at hd
 have hg:∀ p∈ps,g ∉ p.2:=fun p hp hgp=>hd.2.2 g (by simp[Value.ownBlock]) g (List.mem_flatMap.2 ⟨p,hp,hgp⟩) rfl
 have hk:∀ p∈ps,Kp p.2 w (w.setCell ⟨g,j*e.wd+m,none⟩ u):=fun p hp b hb=>Below.heap_setCell _ _ _ _ fun he=>hg p hp (by subst he; exact hb)
 refine⟨ps.set j (ps[j].1.set m u,ps[j].2),by simp[hl],?_,?_,?_⟩
 ·intro i p y hpi hy
  by_cases hij:i=j
  ·subst hij
   rw[List.getElem?_set_self (by omega)] at hpi hy
   cases hpi; cases hy
   exact hE _ _ _ (e.keep (hE0 i _ x hp hx) (hk ps[i] (List.getElem_mem _)))
  ·rw[List.getElem?_set_ne (by omega)] at hpi hy
   exact e.keep (hE0 i p y hpi hy) (hk _ (List.mem_of_getElem? hpi))
 ·rw[List.length_set,flat_set hwd hp m hm u]
  exact (ho.stored (j*e.wd+m) u).1
 ·rw[flat_set2 hp]
theorem ORow.snoc (h:ORow e w v xs bl) {v':Value} {x:α} {vs:List Value} {ib cb:List Nat} (hc:bl=v.ownBlock.toList++cb) (hk:Kp cb w w')
  (ho:∀ cs,w.ownsRow 0 e.T e.wd v xs.length cs→w'.ownsRow 0 e.T e.wd v' (xs.length+1) (cs++vs)) (hE:e.E w' vs x ib) :
  ORow e w' v' (xs++[x]) (v'.ownBlock.toList++(cb++ib)):=by
 obtain⟨ps,hl,hE0,ho0,hb⟩:=h
 rw[hb] at hc
 have hcb:ps.flatMap (·.2)=cb:=List.append_cancel_left hc
 refine⟨ps++[(vs,ib)],by simp[hl],?_,?_,?_⟩
 ·intro j p y hp hy
  by_cases hj:j < xs.length
  ·rw[List.getElem?_append_left (by omega)] at hp hy
   exact e.keep (hE0 j p y hp hy) fun b hb=>hk b (by rw[← hcb]; exact List.mem_flatMap.2 ⟨p,List.mem_of_getElem? hp,hb⟩)
  ·have hy':=(List.getElem?_eq_some_iff.1 hy).1
   rw[List.length_append,List.length_singleton] at hy'
   have:j=xs.length:=by omega
   subst this
   rw[← hl] at hp
   simp at hp hy
   subst hp; subst hy; exact hE
 ·have:=ho _ ho0
  rw[List.flatMap_append,List.length_append]
  simpa using this
 ·rw[List.flatMap_append,hcb]; simp
theorem ORow.split (h:ORow e w v xs bl) : ∃ cb,bl=v.ownBlock.toList++cb:=by
 obtain⟨ps,_,_,_,rfl⟩:=h
 exact⟨_,rfl⟩
theorem ORow.own (h:ORow e w v xs bl) : ∃ cs,w.ownsRow 0 e.T e.wd v xs.length cs:=by
 obtain⟨ps,_,_,ho,_⟩:=h
 exact⟨_,ho⟩
end
structure RElem (α:Type) where
 wd:Nat
 R:World→List Value→α→Prop
 len:∀ {w vs x},R w vs x→vs.length=wd
 keep:∀ {w w' vs x},R w vs x→Below w.heap.size w w'→R w' vs x
def RRow {α:Type} (e:RElem α) (w:World) (v:Value) (xs:List α) : Prop:=
 xs.length≤maxLen∧∃ a cap,v = .slice a xs.length cap∧∀ (j:Nat) (x:α),xs[j]?=some x→∃ b o,a=some ⟨b,o,none⟩∧∃ vs,e.R w vs x∧∀ (m:Nat) (u:Value),vs[m]?=some u→w.cell? ⟨b,o+(j*e.wd+m),none⟩=some u
theorem RRow.below {α:Type} {e:RElem α} {w w':World} {v:Value} {xs:List α} (h:RRow e w v xs) (hb:Below w.heap.size w w') : RRow e w' v xs:=by
 obtain⟨hl,a,cap,hv,h⟩:=h
 refine⟨hl,a,cap,hv,fun j x hx=>?_⟩
 obtain⟨b,o,ha,vs,hR,hc⟩:=h j x hx
 exact⟨b,o,ha,vs,e.keep hR hb,fun m u hu=>(hb.cell (p:=⟨b,o+(j*e.wd+m),none⟩) (World.block_lt_of_cell? _ _ (hc m u hu))).trans (hc m u hu)⟩
def sRE:RElem ByteArray:={ wd:=1,R:=fun _ vs s=>vs=[.string s]∧s.size≤maxLen,len:=fun h=>by rw[h.1]; rfl,keep:=fun h _=>h }
def strE:Elem ByteArray:={ T:=9,wd:=1,E:=fun _ vs s bl=>vs=[.string s]∧bl=[],len:=fun h=>by rw[h.1]; rfl,lt:=fun h b hb=>by rw[h.2] at hb; simp at hb,keep:=fun h _=>h }
abbrev OStr (w:World) (v:Value) (ss:List ByteArray) (bl:List Nat) : Prop:=ORow strE w v ss bl
theorem ostr_iff {w:World} {v:Value} {ss:List ByteArray} {bl:List Nat} : OStr w v ss bl↔w.ownsRow 0 9 1 v ss.length (ss.map .string)∧bl=v.ownBlock.toList:=by
 constructor
 ·rintro⟨ps,hl,hE,ho,rfl⟩
  have h1:ps=ss.map fun s=>([.string s],[]):=by
   apply List.ext_getElem?
   intro j
   by_cases hj:j < ss.length
   ·obtain⟨h1,h2⟩:=hE j ps[j] ss[j] (List.getElem?_eq_getElem (by omega)) (List.getElem?_eq_getElem hj)
    rw[List.getElem?_eq_getElem (by omega),List.getElem?_map,List.getElem?_eq_getElem hj]
    exact congrArg some (Prod.ext h1 h2)
   ·rw[List.getElem?_eq_none (by omega),List.getElem?_eq_none (by rw[List.length_map]; omega)]
  subst h1
  have e1:((ss.map fun s=>(([.string s],[]) : List Value×List Nat)).flatMap (·.1))=ss.map .string:=by
   clear hl hE ho; induction ss with
   | nil=>rfl
   | cons a r ih=>rw[List.map_cons,List.flatMap_cons,ih]; rfl
  have e2:((ss.map fun s=>(([.string s],[]) : List Value×List Nat)).flatMap (·.2))=[]:=by
   clear hl hE ho e1; induction ss with
   | nil=>rfl
   | cons a r ih=>rw[List.map_cons,List.flatMap_cons,ih]; rfl
  rw[e1] at ho; rw[e2]
  exact⟨ho,by simp⟩
 ·rintro⟨ho,rfl⟩
  refine⟨ss.map fun s=>([.string s],[]),by simp,?_,?_,?_⟩
  ·intro j p x hp hx
   rw[List.getElem?_map,hx] at hp
   cases hp; exact⟨rfl,rfl⟩
  ·have e1:((ss.map fun s=>(([.string s],[]) : List Value×List Nat)).flatMap (·.1))=ss.map .string:=by
    clear ho; induction ss with
    | nil=>rfl
    | cons a r ih=>rw[List.map_cons,List.flatMap_cons,ih]; rfl
   rw[e1]; exact ho
  ·have e2:((ss.map fun s=>(([.string s],[]) : List Value×List Nat)).flatMap (·.2))=[]:=by
    clear ho; induction ss with
    | nil=>rfl
    | cons a r ih=>rw[List.map_cons,List.flatMap_cons,ih]; rfl
   rw[e2]; simp
theorem OStr.ss {w:World} {v:Value} {ss:List ByteArray} {bl:List Nat} (h:OStr w v ss bl) : ∃ a g cap,v = .slice a ss.length cap∧SS w a g 0 ss:=by
 obtain⟨ho,_⟩:=ostr_iff.1 h
 rcases ho.2 with ⟨hv,h0⟩ | ⟨g,cap,cur,hv,hb,hg,_⟩
 ·exact⟨none,0,0,by rw[hv,h0],⟨fun h=>by omega,fun j hj=>by omega⟩⟩
 ·refine⟨some ⟨g,0,none⟩,g,cap,hv,⟨fun _=>rfl,fun j hj=>?_⟩⟩
  subst hv
  rw[Nat.zero_add,ho.cellAt j (by omega)]
  simp[hj]
theorem RStr.ss {w:World} {v:Value} {ss:List ByteArray} (h:RRow sRE w v ss) : ∃ a b o cap,v = .slice a ss.length cap∧SS w a b o ss∧ss.length≤maxLen∧∀ j,(ss.getD j ByteArray.empty).size≤maxLen:=by
 obtain⟨hl,a,cap,hv,h⟩:=h
 have hsz:∀ j,(ss.getD j ByteArray.empty).size≤maxLen:=by
  intro j
  by_cases hj:j < ss.length
  ·obtain⟨_,_,_,_,⟨_,hR⟩,_⟩:=h j ss[j] (List.getElem?_eq_getElem hj)
   simpa [List.getD,hj] using hR
  ·simp[List.getD,hj]
 by_cases h0:0 < ss.length
 ·obtain⟨b,o,ha,_⟩:=h 0 ss[0] (List.getElem?_eq_getElem h0)
  refine⟨a,b,o,cap,hv,⟨fun _=>ha,fun j hj=>?_⟩,hl,hsz⟩
  obtain⟨b',o',ha',vs,⟨hR,_⟩,hc⟩:=h j ss[j] (List.getElem?_eq_getElem hj)
  rw[ha] at ha'; cases ha'
  have:=hc 0 (.string ss[j]) (by rw[hR]; rfl)
  simp[sRE] at this
  simpa [List.getD,hj] using this
 ·exact⟨a,0,0,cap,hv,⟨fun h=>absurd h h0,fun j hj=>by omega⟩,hl,hsz⟩
structure PStep where
 byI:Bool
 name:ByteArray
 idx:Int
structure PFOp where
 k:Int
 n:Int
 s:ByteArray
 root:Bool
 steps:List PStep
structure PSel where
 k:Int
 name:ByteArray
 hasA:Bool
 hasB:Bool
 hasC:Bool
 a:Int
 b:Int
 c:Int
 cond:List PFOp
structure PSeg where
 deep:Bool
 sels:List PSel
def stepE:Elem PStep where
 T:=107
 wd:=3
 E:=fun _ vs m bl=>vs=[.bool m.byI,.string m.name,.int .i64 m.idx]∧bl=[]
 len:=fun h=>by rw[h.1]; rfl
 lt:=fun h b hb=>by rw[h.2] at hb; cases hb
 keep:=fun h _=>h
def fopE:Elem PFOp where
 T:=37
 wd:=5
 E:=fun w vs m bl=>∃ q,vs=[.int .i64 m.k,.int .i64 m.n,.string m.s,.bool m.root,q]∧ORow stepE w q m.steps bl
 len:=fun h=>by obtain⟨q,h,_⟩:=h; rw[h]; rfl
 lt:=fun h=>by obtain⟨q,_,h⟩:=h; exact h.lt
 keep:=fun h hk=>by obtain⟨q,h1,h2⟩:=h; exact⟨q,h1,h2.keep hk⟩
def selE:Elem PSel where
 T:=40
 wd:=9
 E:=fun w vs m bl=>∃ q,vs=[.int .i64 m.k,.string m.name,.bool m.hasA,.bool m.hasB,.bool m.hasC,.int .i64 m.a,.int .i64 m.b,.int .i64 m.c,q]∧ORow fopE w q m.cond bl
 len:=fun h=>by obtain⟨q,h,_⟩:=h; rw[h]; rfl
 lt:=fun h=>by obtain⟨q,_,h⟩:=h; exact h.lt
 keep:=fun h hk=>by obtain⟨q,h1,h2⟩:=h; exact⟨q,h1,h2.keep hk⟩
def segE:Elem PSeg where
 T:=43
 wd:=2
 E:=fun w vs m bl=>∃ q,vs=[.bool m.deep,q]∧ORow selE w q m.sels bl
 len:=fun h=>by obtain⟨q,h,_⟩:=h; rw[h]; rfl
 lt:=fun h=>by obtain⟨q,_,h⟩:=h; exact h.lt
 keep:=fun h hk=>by obtain⟨q,h1,h2⟩:=h; exact⟨q,h1,h2.keep hk⟩
def escB (c:UInt8) : List UInt8:=if c.toNat=126 then [126,48] else if c.toNat=47 then [126,49] else [c]
def esc (l:List UInt8) : List UInt8:=l.flatMap escB
theorem data_len (s:ByteArray) : s.data.toList.length=s.size:=Array.length_toList
theorem bytes_snoc (s:ByteArray) (k:Nat) (h:k < s.size) : s.data.toList.take (k+1)=s.data.toList.take k++[s[k]]:=by
 rw[List.take_succ_eq_append_getElem (by simpa using h)]; rfl
theorem bytes_all (s:ByteArray) : s.data.toList.take s.size=s.data.toList:=List.take_of_length_le (Nat.le_of_eq (data_len s))
def isDg (b:Nat) : Bool:=decide (48≤b) && decide (b≤57)
theorem isDg_iff {b:Nat} : isDg b=true↔48≤b∧b≤57:=by simp[isDg]
def digV (l:List UInt8) : Nat:=l.foldl (fun v c=>v*10+(c.toNat - 48)) 0
theorem digV_snoc (l:List UInt8) (c:UInt8) : digV (l++[c])=digV l*10+(c.toNat - 48):=by unfold digV; rw[List.foldl_append]; rfl
theorem tokD (s:ByteArray) (k:Nat) (h:k < s.size) : s.data.toList[k]'(by rw[data_len]; exact h)=s[k]:=rfl
theorem dig_lt:∀ (n:Nat) (t:List UInt8),t.length=n→digV t < 10 ^ n∨¬ (∀ c∈t,isDg c.toNat=true):=by
 intro n
 induction n with
 | zero=>intro t h; rw[List.eq_nil_of_length_eq_zero h]; exact .inl (by simp[digV])
 | succ n ih=>
  intro t h
  rcases List.eq_nil_or_concat t with e | ⟨a,c,e⟩
  ·subst e; simp at h
  ·rw[List.concat_eq_append] at e
   subst e
   by_cases hd:∀ x∈a++[c],isDg x.toNat=true
   ·left
    have hc:=isDg_iff.1 (hd c (by simp))
    rcases ih a (by simpa using h) with h1 | h1
    ·rw[digV_snoc,Nat.pow_succ]; omega
    ·exact absurd (fun x hx=>hd x (by simp[hx])) h1
   ·exact .inr hd
abbrev Bs:=List UInt8
def bsT (l:Bs) : ByteArray:=⟨l.toArray⟩
def isLet (c:UInt8) : Bool:=(decide (97≤c.toNat) && decide (c.toNat≤122)) || (decide (65≤c.toNat) && decide (c.toNat≤90)) || decide (c.toNat=95)
def isNm (c:UInt8) : Bool:=isLet c || isDg c.toNat
def pName (l:Bs) : Option (Bs×Bs):=match l with
 | []=>none
 | c :: r=>if isLet c=true then some (c :: r.takeWhile isNm,r.drop (r.takeWhile isNm).length) else none
def sName (l:Bs) : Bool:=match l with
 | []=>false
 | c :: r=>isLet c && r.all isNm
theorem tw_app {p:UInt8→Bool} {q:Bs} (h:q.all p=true) (r:Bs) : (q++r).takeWhile p=q++r.takeWhile p:=by
 induction q with
 | nil=>rfl
 | cons c q ih=>
  rw[List.all_cons,Bool.and_eq_true] at h
  rw[List.cons_append,List.takeWhile_cons,if_pos h.1,ih h.2]; rfl
theorem tw_stop {p:UInt8→Bool} {t:Bs} (h:∀ c r,t=c :: r→p c=false) : t.takeWhile p=[]:=by
 cases t with
 | nil=>rfl
 | cons c r=>rw[List.takeWhile_cons,if_neg (by rw[h c r rfl]; simp)]
theorem tw_all' (p:UInt8→Bool) (l:Bs) : (l.takeWhile p).all p=true:=by
 induction l with
 | nil=>rfl
 | cons c r ih=>
  rw[List.takeWhile_cons]
  split
  ·rename_i h; rw[List.all_cons,h,ih]; rfl
  ·rfl
theorem tw_split (p:UInt8→Bool) (l:Bs) : l=l.takeWhile p++l.drop (l.takeWhile p).length:=by
 induction l with
 | nil=>rfl
 | cons d r ih=>
  rw[List.takeWhile_cons]
  split
  ·rw[List.length_cons,List.drop_succ_cons,List.cons_append,← ih]
  ·rfl
theorem tw_next (p:UInt8→Bool) (l:Bs) : ∀ c r,l.drop (l.takeWhile p).length=c :: r→p c=false:=by
 induction l with
 | nil=>intro c r h; simp at h
 | cons d q ih=>
  intro c r h
  rw[List.takeWhile_cons] at h
  split at h
  ·rw[List.length_cons,List.drop_succ_cons] at h
   exact ih c r h
  ·rename_i hd
   simp at h
   rw[← h.1]
   simpa using hd
def NoNm (t:Bs) : Prop:=∀ c r,t=c :: r→isNm c=false
theorem pName_ext {s:Bs} (h:sName s=true) {t:Bs} (ht:NoNm t) : pName (s++t)=some (s,t):=by
 cases s with
 | nil=>cases h
 | cons c r=>
  unfold sName at h
  rw[Bool.and_eq_true] at h
  show (if isLet c=true then some (c :: (r++t).takeWhile isNm,(r++t).drop ((r++t).takeWhile isNm).length) else none)=_
  rw[if_pos h.1,tw_app h.2,tw_stop ht,List.append_nil]
  simp
theorem pName_some {l s t:Bs} (h:pName l=some (s,t)) : l=s++t∧sName s=true∧NoNm t:=by
 cases l with
 | nil=>cases h
 | cons c r=>
  have h1:(if isLet c=true then some (c :: r.takeWhile isNm,r.drop (r.takeWhile isNm).length) else none)=some (s,t):=h
  split at h1
  ·rename_i hc
   injection h1 with h1
   injection h1 with h2 h3
   subst h2; subst h3
   refine⟨?_,?_,tw_next isNm r⟩
   ·rw[List.cons_append,← tw_split]
   ·show (isLet c && (r.takeWhile isNm).all isNm)=true
    rw[hc,tw_all']; rfl
  ·cases h1
def pNat (l:Bs) : Option (Int×Bs):=match l with
 | []=>none
 | c :: _=>if isDg c.toNat=true∧c≠48 then some ((digV ((l.take 9).takeWhile fun c=>isDg c.toNat) : Int),l.drop ((l.take 9).takeWhile fun c=>isDg c.toNat).length) else none
def pInt (l:Bs) : Option (Int×Bs):=match l with
 | []=>none
 | c :: r=>if c=48 then some (0,r) else if c=45 then (pNat r).map fun p=>(-p.1,p.2) else pNat l
def sNat (d:Bs) : Bool:=decide (1≤d.length) && decide (d.length≤9) && d.all (fun c=>isDg c.toNat) && decide (d.head?≠some 48)
def sInt (l:Bs) : Option Int:=match l with
 | []=>none
 | c :: r=>if l=[48] then some 0 else if c=45 then (if sNat r=true then some (-(digV r:Int)) else none) else (if sNat l=true then some (digV l:Int) else none)
def NoDg (t:Bs) : Prop:=∀ c r,t=c :: r→isDg c.toNat=false
theorem pNat_ext {d:Bs} (h:sNat d=true) {t:Bs} (ht:NoDg t) : pNat (d++t)=some ((digV d:Int),t):=by
 unfold sNat at h
 simp only[Bool.and_eq_true,decide_eq_true_eq] at h
 obtain⟨⟨⟨h1,h2⟩,h3⟩,h4⟩:=h
 cases d with
 | nil=>simp at h1
 | cons c r=>
  have e:(((c :: r)++t).take 9).takeWhile (fun c=>isDg c.toNat)=c :: r:=by
   have e1:((c :: r)++t).take 9=(c :: r)++t.take (9 - (c :: r).length):=by rw[List.take_append,List.take_of_length_le h2]
   rw[e1,tw_app h3,tw_stop,List.append_nil]
   intro x y hxy
   cases t with
   | nil=>simp at hxy
   | cons a b=>
    cases hk:9 - (c :: r).length with
    | zero=>rw[hk] at hxy; simp at hxy
    | succ k=>
     rw[hk,List.take_succ_cons] at hxy
     injection hxy with hx _
     rw[← hx]; exact ht a b rfl
  show (if isDg c.toNat=true∧c≠48 then _ else none)=_
  rw[if_pos ⟨by rw[List.all_cons,Bool.and_eq_true] at h3; exact h3.1,fun e=>h4 (by rw[e]; rfl)⟩]
  rw[e]
  simp
theorem pNat_some {l t:Bs} {n:Int} (h:pNat l=some (n,t)) : ∃ d,l=d++t∧sNat d=true∧n=(digV d:Int):=by
 cases l with
 | nil=>cases h
 | cons c r=>
  have h1:(if isDg c.toNat=true∧c≠48 then some ((digV (((c :: r).take 9).takeWhile fun c=>isDg c.toNat) : Int),(c :: r).drop (((c :: r).take 9).takeWhile fun c=>isDg c.toNat).length) else none)=some (n,t):=h
  split at h1
  ·rename_i hc
   injection h1 with h1
   injection h1 with h2 h3
   have hd:∃ q,((c :: r).take 9).takeWhile (fun c=>isDg c.toNat)=c :: q:=by
    rw[List.take_succ_cons,List.takeWhile_cons,if_pos hc.1]; exact⟨_,rfl⟩
   obtain⟨q,hq⟩:=hd
   have hl:(((c :: r).take 9).takeWhile (fun c=>isDg c.toNat)).length≤9:=by
    have h5:(((c :: r).take 9).takeWhile (fun c=>isDg c.toNat)).length≤((c :: r).take 9).length:=(List.takeWhile_sublist _).length_le
    rw[List.length_take] at h5; omega
   have hp:((c :: r).take 9).takeWhile (fun c=>isDg c.toNat)=(c :: r).take (((c :: r).take 9).takeWhile (fun c=>isDg c.toNat)).length:=by
    have h6:=tw_split (fun c=>isDg c.toNat) ((c :: r).take 9)
    have h7:=congrArg (List.take (((c :: r).take 9).takeWhile (fun c=>isDg c.toNat)).length) h6
    rw[List.take_left,List.take_take,Nat.min_eq_left hl] at h7
    exact h7.symm
   refine⟨_,?_,?_,h2.symm⟩
   ·rw[← h3,hp]
    have h8:((c :: r).take (((c :: r).take 9).takeWhile (fun c=>isDg c.toNat)).length).length=(((c :: r).take 9).takeWhile (fun c=>isDg c.toNat)).length:=by rw[← hp]
    rw[h8,List.take_append_drop]
   ·unfold sNat
    rw[tw_all',decide_eq_true hl,decide_eq_true (by rw[hq]; simp),hq]
    simp[hc.2]
  ·cases h1
theorem pInt_ext {s:Bs} {n:Int} (h:sInt s=some n) {t:Bs} (ht:NoDg t) : pInt (s++t)=some (n,t):=by
 cases s with
 | nil=>cases h
 | cons c r=>
  have h1:(if (c :: r)=[48] then some 0 else if c=45 then (if sNat r=true then some (-(digV r:Int)) else none) else (if sNat (c :: r)=true then some (digV (c :: r) : Int) else none))=some n:=h
  show (if c=48 then some (0,r++t) else if c=45 then (pNat (r++t)).map (fun p=>(-p.1,p.2)) else pNat (c :: (r++t)))=some (n,t)
  split at h1
  ·rename_i e
   injection e with e1 e2
   subst e1; subst e2
   injection h1 with h1
   subst h1
   rfl
  ·rename_i e
   split at h1
   ·rename_i hc
    subst hc
    split at h1
    ·rename_i hs
     injection h1 with h1
     subst h1
     rw[if_neg (by decide),if_pos rfl,pNat_ext hs ht]; rfl
    ·cases h1
   ·rename_i hc
    split at h1
    ·rename_i hs
     injection h1 with h1
     subst h1
     have h48:c≠48:=by
      intro e8
      unfold sNat at hs
      simp only[Bool.and_eq_true,decide_eq_true_eq] at hs
      exact hs.2 (by rw[e8]; rfl)
     rw[if_neg h48,if_neg hc]
     exact pNat_ext hs ht
    ·cases h1
theorem pInt_some {l t:Bs} {n:Int} (h:pInt l=some (n,t)) : ∃ s,l=s++t∧sInt s=some n:=by
 cases l with
 | nil=>cases h
 | cons c r=>
  have h1:(if c=48 then some (0,r) else if c=45 then (pNat r).map (fun p=>(-p.1,p.2)) else pNat (c :: r))=some (n,t):=h
  split at h1
  ·rename_i hc
   injection h1 with h1
   injection h1 with h2 h3
   subst h2; subst h3; subst hc
   exact⟨[48],rfl,rfl⟩
  ·rename_i h48
   split at h1
   ·rename_i hc
    subst hc
    cases hp:pNat r with
    | none=>rw[hp] at h1; cases h1
    | some p=>
     obtain⟨m,u⟩:=p
     rw[hp] at h1
     injection h1 with h1
     injection h1 with h2 h3
     simp only at h2 h3
     subst h3
     obtain⟨d,rfl,hd,rfl⟩:=pNat_some hp
     refine⟨45 :: d,rfl,?_⟩
     show (if (45 :: d)=[48] then some 0 else if (45:UInt8)=45 then (if sNat d=true then some (-(digV d:Int)) else none) else (if sNat (45 :: d)=true then some (digV (45 :: d) : Int) else none))=_
     rw[if_neg (by intro e; injection e with e _; cases e),if_pos rfl,if_pos hd,h2]
   ·rename_i h45
    obtain⟨d,hl,hd,rfl⟩:=pNat_some h1
    refine⟨d,hl,?_⟩
    cases d with
    | nil=>cases hd
    | cons x y=>
     rw[List.cons_append] at hl
     injection hl with hl _
     subst hl
     show (if (c :: y)=[48] then some 0 else if c=45 then (if sNat y=true then some (-(digV y:Int)) else none) else (if sNat (c :: y)=true then some (digV (c :: y) : Int) else none))=_
     rw[if_neg (by intro e; injection e with e _; exact h48 e),if_neg h45,if_pos hd]
def pQ:Bs→Option (Bs×Bs)
 | []=>none
 | c :: r=>if c=39 then some ([],r) else if c=92 then (match r with
   | []=>none
   | d :: q=>if d=39∨d=92 then (pQ q).map fun p=>(d :: p.1,p.2) else none)
  else if c.toNat < 32 then none else (pQ r).map fun p=>(c :: p.1,p.2)
def sE:Bs→Option Bs
 | []=>none
 | c :: r=>if c=92 then (match r with
   | []=>none
   | _ :: q=>sE q)
  else if c=39 then some r else sE r
def sD:Bs→Option Bs
 | []=>some []
 | c :: r=>if c.toNat < 32 then none else if c=92 then (match r with
   | []=>none
   | d :: q=>if d=39∨d=92 then (sD q).map (d :: ·) else none)
  else (sD r).map (c :: ·)
def sStr (l:Bs) : Option Bs:=match l with
 | []=>none
 | c :: r=>if c=39∧sE r=some [] then sD r.dropLast else none
theorem pQ_con (c:UInt8) (r:Bs) : pQ (c :: r)=(if c=39 then some ([],r) else if c=92 then (match r with
   | []=>none
   | d :: q=>if d=39∨d=92 then (pQ q).map fun p=>(d :: p.1,p.2) else none)
  else if c.toNat < 32 then none else (pQ r).map fun p=>(c :: p.1,p.2)):=by rw[pQ.eq_def] <;> rfl
theorem sE_con (c:UInt8) (r:Bs) : sE (c :: r)=(if c=92 then (match r with
   | []=>none
   | _ :: q=>sE q)
  else if c=39 then some r else sE r):=by rw[sE.eq_def] <;> rfl
theorem sD_con (c:UInt8) (r:Bs) : sD (c :: r)=(if c.toNat < 32 then none else if c=92 then (match r with
   | []=>none
   | d :: q=>if d=39∨d=92 then (sD q).map (d :: ·) else none)
  else (sD r).map (c :: ·)):=by rw[sD.eq_def] <;> rfl
theorem sE_nil:sE []=none:=by rw[sE.eq_def]
theorem pQ_nil:pQ []=none:=by rw[pQ.eq_def]
theorem sD_nil:sD []=some []:=by rw[sD.eq_def]
theorem sE_ext {t:Bs} : ∀ {q u:Bs},sE q=some u→sE (q++t)=some (u++t)
 | [],u,h=>by rw[sE_nil] at h; cases h
 | [c],u,h=>by
  rw[sE_con] at h
  rw[List.singleton_append,sE_con]
  split at h
  ·cases h
  ·rename_i h1
   rw[if_neg h1]
   split at h
   ·rename_i h2; rw[if_pos h2]; injection h with h; subst h; rfl
   ·rw[sE_nil] at h; cases h
 | c :: d :: q,u,h=>by
  rw[sE_con] at h
  rw[List.cons_append,List.cons_append,sE_con]
  split at h
  ·rename_i h1
   rw[if_pos h1]
   exact sE_ext h
  ·rename_i h1
   rw[if_neg h1]
   split at h
   ·rename_i h2
    rw[if_pos h2]
    injection h with h; subst h; rfl
   ·rename_i h2
    rw[if_neg h2]
    exact sE_ext (q:=d :: q) h
theorem pQ_some:∀ {l v t:Bs},pQ l=some (v,t)→∃ q,l=q++39 :: t∧sE (q++[39])=some []∧sD q=some v
 | [],v,t,h=>by rw[pQ_nil] at h; cases h
 | c :: r,v,t,h=>by
  rw[pQ_con] at h
  split at h
  ·rename_i hc
   injection h with h
   injection h with h1 h2
   subst h1; subst h2; subst hc
   exact⟨[],rfl,rfl,rfl⟩
  ·rename_i h39
   split at h
   ·rename_i hc
    subst hc
    match r,h with
    | [],h=>cases h
    | d :: q,h=>
     simp only at h
     split at h
     ·rename_i hd
      cases hp:pQ q with
      | none=>rw[hp] at h; cases h
      | some p=>
       obtain⟨v',t'⟩:=p
       rw[hp] at h
       injection h with h
       injection h with h1 h2
       simp only at h1 h2
       subst h1; subst h2
       obtain⟨q',e1,e2,e3⟩:=pQ_some hp
       refine⟨92 :: d :: q',by rw[e1]; rfl,?_,?_⟩
       ·rw[List.cons_append,List.cons_append,sE_con,if_pos rfl]; exact e2
       ·rw[sD_con,if_neg (by decide),if_pos rfl]
        simp only
        rw[if_pos hd,e3]; rfl
     ·cases h
   ·rename_i h92
    split at h
    ·cases h
    ·rename_i hlo
     cases hp:pQ r with
     | none=>rw[hp] at h; cases h
     | some p=>
      obtain⟨v',t'⟩:=p
      rw[hp] at h
      injection h with h
      injection h with h1 h2
      simp only at h1 h2
      subst h1; subst h2
      obtain⟨q',e1,e2,e3⟩:=pQ_some hp
      refine⟨c :: q',by rw[e1]; rfl,?_,?_⟩
      ·rw[List.cons_append,sE_con,if_neg h92,if_neg h39]; exact e2
      ·rw[sD_con,if_neg hlo,if_neg h92,e3]; rfl
theorem pQ_ext:∀ {q v:Bs},sE (q++[39])=some []→sD q=some v→∀ t,pQ (q++39 :: t)=some (v,t)
 | [],v,_,h,t=>by
  rw[sD_nil] at h
  injection h with h
  subst h
  rw[List.nil_append,pQ_con,if_pos rfl]
 | c :: r,v,hE,h,t=>by
  rw[sD_con] at h
  rw[List.cons_append,sE_con] at hE
  rw[List.cons_append,pQ_con]
  split at h
  ·cases h
  ·rename_i hlo
   split at h
   ·rename_i hc
    subst hc
    rw[if_pos rfl] at hE
    rw[if_neg (by decide),if_pos rfl]
    match r,h,hE with
    | [],h,_=>cases h
    | d :: q,h,hE=>
     simp only at h
     rw[List.cons_append]
     simp only
     split at h
     ·rename_i hd
      rw[if_pos hd]
      cases hs:sD q with
      | none=>rw[hs] at h; cases h
      | some v'=>
       rw[hs] at h
       injection h with h
       subst h
       rw[pQ_ext hE hs t]; rfl
     ·cases h
   ·rename_i h92
    rw[if_neg h92] at hE
    split at hE
    ·rename_i h39
     injection hE with hE
     simp at hE
    ·rename_i h39
     rw[if_neg h39,if_neg h92,if_neg hlo]
     cases hs:sD r with
     | none=>rw[hs] at h; cases h
     | some v'=>
      rw[hs] at h
      injection h with h
      subst h
      rw[pQ_ext hE hs t]; rfl
theorem sE_last {q:Bs} : ∀ {r:Bs},sE r=some q→∃ p,r=p++39 :: q
 | [],h=>by rw[sE_nil] at h; cases h
 | [c],h=>by
  rw[sE_con] at h
  split at h
  ·cases h
  ·split at h
   ·rename_i h2; injection h with h; subst h; exact⟨[],by rw[h2]; rfl⟩
   ·rw[sE_nil] at h; cases h
 | c :: d :: r,h=>by
  rw[sE_con] at h
  split at h
  ·obtain⟨p,e⟩:=sE_last h
   exact⟨c :: d :: p,by rw[e]; rfl⟩
  ·split at h
   ·rename_i h2; injection h with h; exact⟨[],by rw[h2,← h]; rfl⟩
   ·obtain⟨p,e⟩:=sE_last (r:=d :: r) h
    exact⟨c :: p,by rw[e]; rfl⟩
def pStr (l:Bs) : Option (Bs×Bs):=match l with
 | []=>none
 | c :: r=>if c=39 then pQ r else none
theorem pStr_ext {s v:Bs} (h:sStr s=some v) (t:Bs) : pStr (s++t)=some (v,t):=by
 cases s with
 | nil=>cases h
 | cons c r=>
  have h1:(if c=39∧sE r=some [] then sD r.dropLast else none)=some v:=h
  split at h1
  ·rename_i hc
   obtain⟨p,hp⟩:=sE_last hc.2
   subst hp
   rw[List.dropLast_append_of_ne_nil (by simp)] at h1
   simp only[List.dropLast_singleton,List.append_nil] at h1
   show (if c=39 then pQ ((p++[39])++t) else none)=_
   rw[if_pos hc.1,List.append_assoc]
   exact pQ_ext hc.2 h1 t
  ·cases h1
theorem pStr_some {l v t:Bs} (h:pStr l=some (v,t)) : ∃ s,l=s++t∧sStr s=some v∧∃ q,s=39 :: q∧sE q=some []:=by
 cases l with
 | nil=>cases h
 | cons c r=>
  have h1:(if c=39 then pQ r else none)=some (v,t):=h
  split at h1
  ·rename_i hc
   subst hc
   obtain⟨q,rfl,e2,e3⟩:=pQ_some h1
   refine⟨39 :: (q++[39]),by simp,?_,_,rfl,e2⟩
   show (if (39:UInt8)=39∧sE (q++[39])=some [] then sD (q++[39]).dropLast else none)=_
   rw[if_pos ⟨rfl,e2⟩,List.dropLast_append_of_ne_nil (by simp)]
   simp only[List.dropLast_singleton,List.append_nil]
   exact e3
  ·cases h1
def isBr (c:UInt8) : Bool:=c == 39 || c == 40 || c == 41 || c == 91 || c == 93
inductive Cl:(UInt8→Bool)→Bs→Prop
 | nil {P:UInt8→Bool} : Cl P []
 | chr {P:UInt8→Bool} {c:UInt8} {r:Bs} : isBr c=false→P c=true→Cl P r→Cl P (c :: r)
 | quo {P:UInt8→Bool} {q r:Bs} : sE q=some []→Cl P r→Cl P (39 :: (q++r))
 | par {P Q:UInt8→Bool} {x r:Bs} : Cl Q x→Cl P r→Cl P (40 :: (x++41 :: r))
 | brk {P Q:UInt8→Bool} {x r:Bs} : Cl Q x→Cl P r→Cl P (91 :: (x++93 :: r))
theorem Cl.app {P:UInt8→Bool} {a b:Bs} (h:Cl P a) (k:Cl P b) : Cl P (a++b):=by
 induction h with
 | nil=>exact k
 | chr h1 h2 _ ih=>exact .chr h1 h2 (ih k)
 | @quo _ q r h1 _ ih=>rw[List.cons_append,List.append_assoc]; exact .quo h1 (ih k)
 | @par _ _ x r h1 _ _ ih=>rw[List.cons_append,List.append_assoc]; exact .par h1 (ih k)
 | @brk _ _ x r h1 _ _ ih=>rw[List.cons_append,List.append_assoc]; exact .brk h1 (ih k)
theorem Cl.mono {P P':UInt8→Bool} (hp:∀ c,P c=true→P' c=true) {a:Bs} (h:Cl P a) : Cl P' a:=by
 induction h with
 | nil=>exact .nil
 | chr h1 h2 _ ih=>exact .chr h1 (hp _ h2) (ih hp)
 | quo h1 _ ih=>exact .quo h1 (ih hp)
 | par h1 _ _ ih=>exact .par h1 (ih hp)
 | brk h1 _ _ ih=>exact .brk h1 (ih hp)
theorem Cl.all {P:UInt8→Bool} {a:Bs} (h:a.all (fun c=>P c && !isBr c)=true) : Cl P a:=by
 induction a with
 | nil=>exact .nil
 | cons c r ih=>
  rw[List.all_cons,Bool.and_eq_true] at h
  simp only[Bool.and_eq_true,Bool.not_eq_true'] at h
  exact .chr h.1.2 h.1.1 (ih h.2)
end Go.Proofs.YtkjcgkfejdogbaaGreatDoor
