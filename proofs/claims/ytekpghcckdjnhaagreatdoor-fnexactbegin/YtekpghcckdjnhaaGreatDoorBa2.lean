import Derived.Test.YtekpghcckdjnhaaGreatDoorBa1
import Derived.Laws.AppendOwnNone
import Derived.Deep.SlicePairs
import Derived.ProofKit
namespace Go.Proofs.YtekpghcckdjnhaaGreatDoor
open Go.RowKit Go.Proofs.Tryz
structure Fr (bl:List Nat) (w w':World) : Prop where
 os:w'.os=w.os
 tape:w'.tape=w.tape
 output:w'.output=w.output
 size:w.heap.size<=w'.heap.size
 block:∀ k,k < w.heap.size->k ∉ bl->w'.heap[k]?=w.heap[k]?
theorem Fr.refl (bl:List Nat) (w:World) : Fr bl w w:=⟨rfl,rfl,rfl,ye _,fun _ _ _=>rfl⟩
theorem Fr.trans' {bl bl':List Nat} {a b c:World} (h:Fr bl a b) (k:Fr bl' b c) (hs:∀ i∈bl',i∈bl∨a.heap.size<=i) : Fr bl a c:=
 ⟨k.os.trans h.os,k.tape.trans h.tape,k.output.trans h.output,yP h.size k.size,fun i hi hn=>
  (k.block i (yE hi h.size) (fun e=>by rcases hs i e with h1 | h1; exact hn h1; omega)).trans (h.block i hi hn)⟩
theorem Fr.trans {bl:List Nat} {a b c:World} (h:Fr bl a b) (k:Fr bl b c) : Fr bl a c:=h.trans' k fun _=>.inl
theorem Fr.mono {bl bl':List Nat} {a b:World} (h:Fr bl a b) (hs:∀ i∈bl,i∈bl') : Fr bl' a b:=
 ⟨h.os,h.tape,h.output,h.size,fun i hi hn=>h.block i hi fun e=>hn (hs i e)⟩
theorem Fr.of_below {bl:List Nat} {w w':World} (h:Below w.heap.size w w') : Fr bl w w':=⟨h.os,h.tape,h.output,h.size,fun k hk _=>h.block k hk⟩
theorem Fr.below {bl:List Nat} {B:Nat} {w w':World} (h:Fr bl w w') (hB:∀ b∈bl,B<=b) (hs:B<=w.heap.size) : Below B w w':=
 ⟨h.os,h.tape,h.output,h.size,fun k hk=>h.block k (by omega) fun e=>by have:=hB k e; omega⟩
theorem Fr.set {bl:List Nat} {a w:World} (h:Fr bl a w) {g:Nat} (hg:g∈bl) (j:Nat) (u:Value) : Fr bl a (w.setCell ⟨g,j,none⟩ u):=
 h.trans ⟨rfl,rfl,rfl,by simp[World.setCell],fun k _ hn=>Below.heap_setCell _ _ _ _ fun e=>hn (e ▸ hg)⟩
theorem Fr.next {bl:List Nat} {a w w':World} (h:Fr bl a w) (hb:Below w.heap.size w w') : Fr bl a w':=h.trans (.of_below hb)
def Kp (bl:List Nat) (w w':World) : Prop:=∀ b∈bl,w'.heap[b]?=w.heap[b]?
theorem Kp.of_below {bl:List Nat} {w w':World} (h:Below w.heap.size w w') (hl:∀ b∈bl,b < w.heap.size) : Kp bl w w':=fun b hb=>h.block b (hl b hb)
theorem Fr.kp {bl bl':List Nat} {w w':World} (h:Fr bl w w') (hl:∀ b∈bl',b < w.heap.size) (hd:∀ b∈bl',b ∉ bl) : Kp bl' w w':=fun b hb=>h.block b (hl b hb) (hd b hb)
theorem zcR {w w':World} {B e size n:Nat} {v:Value} {xs:List Value} (h:w.ownsRow B e size v n xs) (hb:Kp v.ownBlock.toList w w') : w'.ownsRow B e size v n xs:=by
 refine⟨h.1,?_⟩
 rcases h.2 with h0 | ⟨g,cap,cur,hv,hB,hg,r⟩
 ·exact .inl h0
 ·refine .inr ⟨g,cap,cur,hv,hB,(hb g ?_).trans hg,r⟩
  rw[hv]; simp[Value.ownBlock]
structure zsb (α:Type) where
 T:TypeId
 wd:Nat
 E:World->List Value->α->List Nat->Prop
 len:∀ {w vs x bl},E w vs x bl->vs.length=wd
 lt:∀ {w vs x bl},E w vs x bl->∀ b∈bl,b < w.heap.size
 keep:∀ {w w' vs x bl},E w vs x bl->Kp bl w w'->E w' vs x bl
def zbt {α:Type} (e:zsb α) (w:World) (v:Value) (xs:List α) (bl:List Nat) : Prop:=
 ∃ ps:List (List Value×List Nat),ps.length=xs.length/\(∀ (j:Nat) (p:List Value×List Nat) (x:α),ps[j]?=some p->xs[j]?=some x->e.E w p.1 x p.2) /\
  w.ownsRow 0 e.T e.wd v xs.length (ps.flatMap (·.1))/\bl=v.ownBlock.toList++ps.flatMap (·.2)
theorem zpY {ps:List (List Value×List Nat)} {wd:Nat} (h:∀ p∈ps,p.1.length=wd) {j:Nat} {p:List Value×List Nat} (hj:ps[j]?=some p) (m:Nat) (hm:m < wd) : (ps.flatMap (·.1))[j*wd+m]?=p.1[m]?:=by
 induction ps generalizing j with
 | nil=>simp at hj
 | cons q r ih=>
  have hq:=h q yp
  rw[List.flatMap_cons]
  cases j with
  | zero=>
   simp at hj; subst hj
   rw[Nat.zero_mul,Nat.zero_add,List.getElem?_append_left (by omega)]
  | succ j=>
   have:=ih (fun p hp=>h p (yv _ hp)) (by simpa using hj)
   rw[List.getElem?_append_right (by rw[hq,Nat.add_mul]; omega),hq,← this]
   congr 1
   rw[Nat.add_mul]; omega
theorem znr {ps:List (List Value×List Nat)} {wd:Nat} (h:∀ p∈ps,p.1.length=wd) : (ps.flatMap (·.1)).length=ps.length*wd:=by
 induction ps with
 | nil=>simp
 | cons q r ih=>
  rw[List.flatMap_cons,yh,ih (fun p hp=>h p (yv _ hp)),h q yp,yn,Nat.add_mul]; omega
theorem zsw {ps:List (List Value×List Nat)} {wd:Nat} (h:∀ p∈ps,p.1.length=wd) {j:Nat} {p:List Value×List Nat} (hj:ps[j]?=some p) (m:Nat) (hm:m < wd) (u:Value) (bl:List Nat) :
  (ps.set j (p.1.set m u,bl)).flatMap (·.1)=(ps.flatMap (·.1)).set (j*wd+m) u:=by
 induction ps generalizing j with
 | nil=>simp at hj
 | cons q r ih=>
  have hq:=h q yp
  cases j with
  | zero=>
   simp at hj; subst hj
   rw[List.set_cons_zero,List.flatMap_cons,List.flatMap_cons,Nat.zero_mul,Nat.zero_add,List.set_append_left _ _ (by omega)]
  | succ j=>
   have:=ih (fun p hp=>h p (yv _ hp)) (by simpa using hj)
   rw[List.set_cons_succ,List.flatMap_cons,List.flatMap_cons,this,List.set_append_right _ _ (by rw[hq,Nat.add_mul]; omega),hq]
   congr 2
   rw[Nat.add_mul]; omega
theorem zpZ {ps:List (List Value×List Nat)} {j:Nat} {p:List Value×List Nat} (hj:ps[j]?=some p) (vs:List Value) :
  (ps.set j (vs,p.2)).flatMap (·.2)=ps.flatMap (·.2):=by
 induction ps generalizing j with
 | nil=>simp at hj
 | cons q r ih=>
  cases j with
  | zero=>simp at hj; subst hj; rw[List.set_cons_zero,List.flatMap_cons,List.flatMap_cons]
  | succ j=>rw[List.set_cons_succ,List.flatMap_cons,List.flatMap_cons,ih (by simpa using hj)]
theorem zns {ps:List (List Value×List Nat)} (h:(ps.flatMap (·.2)).Nodup) {j:Nat} {p:List Value×List Nat} (hj:ps[j]?=some p) : p.2.Nodup:=by
 induction ps generalizing j with
 | nil=>simp at hj
 | cons q r ih=>
  rw[List.flatMap_cons,List.nodup_append] at h
  cases j with
  | zero=>simp at hj; subst hj; exact h.1
  | succ j=>exact ih h.2.1 (by simpa using hj)
theorem zmb {ps:List (List Value×List Nat)} (h:(ps.flatMap (·.2)).Nodup) {i j:Nat} {p q:List Value×List Nat} (hi:ps[i]?=some p) (hj:ps[j]?=some q) (hij:i≠j) : ∀ b∈p.2,b ∉ q.2:=by
 induction ps generalizing i j with
 | nil=>simp at hj
 | cons a r ih=>
  rw[List.flatMap_cons,List.nodup_append] at h
  cases i with
  | zero=>
   cases j with
   | zero=>omega
   | succ j=>
    simp at hi; subst hi
    intro b hb hq
    exact h.2.2 b hb b (List.mem_flatMap.2 ⟨q,List.mem_of_getElem? (by simpa using hj),hq⟩) rfl
  | succ i=>
   cases j with
   | zero=>
    simp at hj; subst hj
    intro b hb hq
    exact h.2.2 b hq b (List.mem_flatMap.2 ⟨p,List.mem_of_getElem? (by simpa using hi),hb⟩) rfl
   | succ j=>exact ih h.2.1 (by simpa using hi) (by simpa using hj) (by omega)
section
variable {α:Type} {e:zsb α} {w w':World} {v:Value} {xs:List α} {bl:List Nat}
theorem zfY {ps:List (List Value×List Nat)} (hl:ps.length=xs.length) (h:∀ (j:Nat) (p:List Value×List Nat) (x:α),ps[j]?=some p->xs[j]?=some x->e.E w p.1 x p.2) : ∀ p∈ps,p.1.length=e.wd:=by
 intro p hp
 obtain⟨j,hj,rfl⟩:=List.mem_iff_getElem.1 hp
 exact e.len (h j ps[j] (xs[j]'(by omega)) (yx hj) (yx (by omega)))
theorem zbt.lt (h:zbt e w v xs bl) : ∀ b∈bl,b < w.heap.size:=by
 obtain⟨ps,hl,hE,ho,rfl⟩:=h
 intro b hb
 rw[List.mem_append] at hb
 rcases hb with hb | hb
 ·exact (ho.lt b (by simpa using hb)).2
 ·obtain⟨p,hp,hb⟩:=List.mem_flatMap.1 hb
  obtain⟨j,hj,rfl⟩:=List.mem_iff_getElem.1 hp
  exact e.lt (hE j ps[j] (xs[j]'(by omega)) (yx hj) (yx (by omega))) b hb
theorem zbt.keep (h:zbt e w v xs bl) (hk:Kp bl w w') : zbt e w' v xs bl:=by
 obtain⟨ps,hl,hE,ho,rfl⟩:=h
 refine⟨ps,hl,fun j p x hp hx=>e.keep (hE j p x hp hx) fun b hb=>hk b ?_,zcR ho fun b hb=>hk b ?_,rfl⟩
 ·rw[List.mem_append]; exact .inr (List.mem_flatMap.2 ⟨p,List.mem_of_getElem? hp,hb⟩)
 ·rw[List.mem_append]; exact .inl hb
theorem zbt.below (h:zbt e w v xs bl) (hb:Below w.heap.size w w') : zbt e w' v xs bl:=h.keep (.of_below hb h.lt)
theorem zbt.form (h:zbt e w v xs bl) : ∃ a cap,v = .slice a xs.length cap/\(∀ g,a=some g->g=⟨g.block,0,none⟩/\g.block∈bl)/\(0 < xs.length->∃ g,a=some ⟨g,0,none⟩):=by
 obtain⟨ps,hl,hE,ho,rfl⟩:=h
 rcases ho.2 with ⟨hv,h0⟩ | ⟨g,cap,cur,hv,_⟩
 ·exact⟨none,0,by rw[hv,h0],fun g h=>(by cases h),fun h=>by omega⟩
 ·refine⟨some ⟨g,0,none⟩,cap,hv,fun g h=>?_,fun _=>⟨g,rfl⟩⟩
  cases h
  exact⟨rfl,by rw[hv]; simp[Value.ownBlock]⟩
theorem zbt.at {g cap n:Nat} (h:zbt e w (.slice (some ⟨g,0,none⟩) n cap) xs bl) {j:Nat} {x:α} (hx:xs[j]?=some x) :
  ∃ vs ib,e.E w vs x ib/\(∀ m u,vs[m]?=some u->w.cell? ⟨g,j*e.wd+m,none⟩=some u/\w.frozen? ⟨g,j*e.wd+m,none⟩=false)/\(∀ b∈ib,b∈bl)/\g∈bl/\(bl.Nodup->g ∉ ib/\ib.Nodup):=by
 obtain⟨ps,hl,hE,ho,rfl⟩:=h
 have hj:j < xs.length:=(List.getElem?_eq_some_iff.1 hx).1
 have hp:ps[j]?=some ps[j]:=yx (by omega)
 have hwd:=zfY hl hE
 have hn:n=xs.length:=by
  rcases ho.2 with ⟨hv,h0⟩ | ⟨g',cap',cur,hv,_⟩
  ·cases hv
  ·injection hv
 subst hn
 refine⟨ps[j].1,ps[j].2,hE j _ x hp hx,?_,?_,?_,?_⟩
 ·intro m u hm
  have hm':m < e.wd:=by
   have:=(List.getElem?_eq_some_iff.1 hm).1
   rwa [hwd _ (yr (by omega))] at this
  have hlt:j*e.wd+m < xs.length*e.wd:=by
   have:(j+1)*e.wd<=xs.length*e.wd:=Nat.mul_le_mul_right _ hj
   rw[Nat.add_mul] at this; omega
  refine⟨?_,ho.frozenAt _⟩
  rw[ho.cellAt _ hlt,zpY hwd hp m hm']; exact hm
 ·intro b hb
  rw[List.mem_append]; exact .inr (List.mem_flatMap.2 ⟨_,yr (by omega),hb⟩)
 ·simp[Value.ownBlock]
 ·intro hd
  rw[List.nodup_append] at hd
  refine⟨fun hg=>hd.2.2 g (by simp[Value.ownBlock]) g (List.mem_flatMap.2 ⟨_,yr (by omega),hg⟩) rfl,?_⟩
  exact zns hd.2.1 hp
theorem zbt.put {g cap n:Nat} (h:zbt e w (.slice (some ⟨g,0,none⟩) n cap) xs bl) (hd:bl.Nodup) {j:Nat} {x:α} (hx:xs[j]?=some x) (m:Nat) (hm:m < e.wd) (u:Value) (x':α)
  (hE:∀ w' vs ib,e.E w' vs x ib->e.E w' (vs.set m u) x' ib) : zbt e (w.setCell ⟨g,j*e.wd+m,none⟩ u) (.slice (some ⟨g,0,none⟩) n cap) (xs.set j x') bl:=by
 obtain⟨ps,hl,hE0,ho,rfl⟩:=h
 have hj:j < xs.length:=(List.getElem?_eq_some_iff.1 hx).1
 have hp:ps[j]?=some ps[j]:=yx (by omega)
 have hwd:=zfY hl hE0
 have hn:n=xs.length:=by
  rcases ho.2 with ⟨hv,h0⟩ | ⟨g',cap',cur,hv,_⟩
  ·cases hv
  ·injection hv
 subst hn
 rw[List.nodup_append] at hd
 have hg:∀ p∈ps,g ∉ p.2:=fun p hp hgp=>hd.2.2 g (by simp[Value.ownBlock]) g (List.mem_flatMap.2 ⟨p,hp,hgp⟩) rfl
 have hk:∀ p∈ps,Kp p.2 w (w.setCell ⟨g,j*e.wd+m,none⟩ u):=fun p hp b hb=>Below.heap_setCell _ _ _ _ fun he=>hg p hp (by subst he; exact hb)
 refine⟨ps.set j (ps[j].1.set m u,ps[j].2),by simp[hl],?_,?_,?_⟩
 ·intro i p y hpi hy
  by_cases hij:i=j
  ·subst hij
   rw[List.getElem?_set_self (by omega)] at hpi hy
   cases hpi; cases hy
   exact hE _ _ _ (e.keep (hE0 i _ x hp hx) (hk ps[i] (yr _)))
  ·rw[List.getElem?_set_ne (by omega)] at hpi hy
   exact e.keep (hE0 i p y hpi hy) (hk _ (List.mem_of_getElem? hpi))
 ·rw[List.length_set,zsw hwd hp m hm u]
  exact (ho.stored (j*e.wd+m) u).1
 ·rw[zpZ hp]
theorem zbt.inner {g cap n:Nat} (h:zbt e w (.slice (some ⟨g,0,none⟩) n cap) xs bl) (hd:bl.Nodup) {j:Nat} {x:α} (hx:xs[j]?=some x) :
  ∃ vs ib,e.E w vs x ib/\(∀ m u,vs[m]?=some u->w.cell? ⟨g,j*e.wd+m,none⟩=some u/\w.frozen? ⟨g,j*e.wd+m,none⟩=false)/\(∀ b∈ib,b∈bl)/\g∈bl/\ib.Nodup /\
   ∀ w' x',Fr ib w w'->e.E w' vs x' ib->zbt e w' (.slice (some ⟨g,0,none⟩) n cap) (xs.set j x') bl:=by
 have hlt:=h.lt
 obtain⟨ps,hl,hE,ho,rfl⟩:=h
 have hj:j < xs.length:=(List.getElem?_eq_some_iff.1 hx).1
 have hp:ps[j]?=some ps[j]:=yx (by omega)
 have hwd:=zfY hl hE
 have hn:n=xs.length:=by
  rcases ho.2 with ⟨hv,h0⟩ | ⟨g',cap',cur,hv,_⟩
  ·cases hv
  ·injection hv
 subst hn
 have hd':=hd
 rw[List.nodup_append] at hd'
 have hsub:∀ p∈ps,∀ b∈p.2,b∈(Value.slice (some ⟨g,0,none⟩) xs.length cap).ownBlock.toList++ps.flatMap (·.2):=fun p hp b hb=>by
  rw[List.mem_append]; exact .inr (List.mem_flatMap.2 ⟨p,hp,hb⟩)
 refine⟨ps[j].1,ps[j].2,hE j _ x hp hx,?_,hsub _ (yr _),?_,zns hd'.2.1 hp,?_⟩
 ·intro m u hm
  have hm':m < e.wd:=by
   have:=(List.getElem?_eq_some_iff.1 hm).1
   rwa [hwd _ (yr (by omega))] at this
  have hlt:j*e.wd+m < xs.length*e.wd:=by
   have:(j+1)*e.wd<=xs.length*e.wd:=Nat.mul_le_mul_right _ hj
   rw[Nat.add_mul] at this; omega
  refine⟨?_,ho.frozenAt _⟩
  rw[ho.cellAt _ hlt,zpY hwd hp m hm']; exact hm
 ·simp[Value.ownBlock]
 ·intro w' x' hfr hE'
  have hg:g ∉ ps[j].2:=fun hgp=>hd'.2.2 g (by simp[Value.ownBlock]) g (List.mem_flatMap.2 ⟨_,yr (by omega),hgp⟩) rfl
  refine⟨ps,by simp[hl],?_,?_,rfl⟩
  ·intro i p y hpi hy
   by_cases hij:i=j
   ·subst hij
    rw[List.getElem?_set_self (by omega)] at hy
    rw[hp] at hpi
    cases hpi; cases hy
    exact hE'
   ·rw[List.getElem?_set_ne (by omega)] at hy
    exact e.keep (hE i p y hpi hy) (hfr.kp (fun b hb=>hlt b (hsub p (List.mem_of_getElem? hpi) b hb)) (zmb hd'.2.1 hpi hp hij))
  ·rw[List.length_set]
   exact zcR ho (hfr.kp (fun b hb=>hlt b (by rw[List.mem_append]; exact .inl hb)) (fun b hb=>by simp[Value.ownBlock] at hb; rw[hb]; exact hg))
end
structure zp0 (α:Type) where
 wd:Nat
 R:World->List Value->α->Prop
 len:∀ {w vs x},R w vs x->vs.length=wd
 keep:∀ {w w' vs x},R w vs x->Below w.heap.size w w'->R w' vs x
def zoF {α:Type} (e:zp0 α) (w:World) (v:Value) (xs:List α) : Prop:=
 xs.length<=maxLen/\∃ a cap,v = .slice a xs.length cap/\∀ (j:Nat) (x:α),xs[j]?=some x->∃ b o,a=some ⟨b,o,none⟩/\∃ vs,e.R w vs x/\∀ (m:Nat) (u:Value),vs[m]?=some u->w.cell? ⟨b,o+(j*e.wd+m),none⟩=some u
theorem zoF.below {α:Type} {e:zp0 α} {w w':World} {v:Value} {xs:List α} (h:zoF e w v xs) (hb:Below w.heap.size w w') : zoF e w' v xs:=by
 obtain⟨hl,a,cap,hv,h⟩:=h
 refine⟨hl,a,cap,hv,fun j x hx=>?_⟩
 obtain⟨b,o,ha,vs,hR,hc⟩:=h j x hx
 exact⟨b,o,ha,vs,e.keep hR hb,fun m u hu=>(hb.cell (p:=⟨b,o+(j*e.wd+m),none⟩) (yJ _ _ (hc m u hu))).trans (hc m u hu)⟩
def sRE:zp0 ByteArray:={ wd:=1,R:=fun _ vs s=>vs=[.string s]/\s.size<=maxLen,len:=fun h=>by rw[h.1]; rfl,keep:=fun h _=>h }
def zwe:zsb ByteArray:={ T:=9,wd:=1,E:=fun _ vs s bl=>vs=[.string s]/\bl=[],len:=fun h=>by rw[h.1]; rfl,lt:=fun h b hb=>by rw[h.2] at hb; simp at hb,keep:=fun h _=>h }
abbrev zmc (w:World) (v:Value) (ss:List ByteArray) (bl:List Nat) : Prop:=zbt zwe w v ss bl
theorem zfe {w:World} {v:Value} {ss:List ByteArray} {bl:List Nat} : zmc w v ss bl↔w.ownsRow 0 9 1 v ss.length (ss.map .string)/\bl=v.ownBlock.toList:=by
 constructor
 ·rintro⟨ps,hl,hE,ho,rfl⟩
  have h1:ps=ss.map fun s=>([.string s],[]):=by
   apply List.ext_getElem?
   intro j
   by_cases hj:j < ss.length
   ·obtain⟨h1,h2⟩:=hE j ps[j] ss[j] (yx (by omega)) (yx hj)
    rw[yx (by omega),List.getElem?_map,yx hj]
    exact congrArg some (Prod.ext h1 h2)
   ·rw[List.getElem?_eq_none (by omega),List.getElem?_eq_none (by rw[yl]; omega)]
  subst h1
  have e1:((ss.map fun s=>(([.string s],[]) : List Value×List Nat)).flatMap (·.1))=ss.map .string:=by
   clear hl hE ho; induction ss with
   | nil=>rfl
   | cons a r ih=>rw[yi,List.flatMap_cons,ih]; rfl
  have e2:((ss.map fun s=>(([.string s],[]) : List Value×List Nat)).flatMap (·.2))=[]:=by
   clear hl hE ho e1; induction ss with
   | nil=>rfl
   | cons a r ih=>rw[yi,List.flatMap_cons,ih]; rfl
  rw[e1] at ho; rw[e2]
  exact⟨ho,by simp⟩
 ·rintro⟨ho,rfl⟩
  refine⟨ss.map fun s=>([.string s],[]),by simp,?_,?_,?_⟩
  ·intro j p x hp hx
   rw[List.getElem?_map,hx] at hp
   cases hp; exact⟨rfl,rfl⟩
  ·have e1:((ss.map fun s=>(([.string s],[]) : List Value×List Nat)).flatMap (·.1))=ss.map .string:=by
    clear ho; induction ss with
    | nil=>rfl
    | cons a r ih=>rw[yi,List.flatMap_cons,ih]; rfl
   rw[e1]; exact ho
  ·have e2:((ss.map fun s=>(([.string s],[]) : List Value×List Nat)).flatMap (·.2))=[]:=by
    clear ho; induction ss with
    | nil=>rfl
    | cons a r ih=>rw[yi,List.flatMap_cons,ih]; rfl
   rw[e2]; simp
theorem zmc.ss {w:World} {v:Value} {ss:List ByteArray} {bl:List Nat} (h:zmc w v ss bl) : ∃ a g cap,v = .slice a ss.length cap/\SS w a g 0 ss:=by
 obtain⟨ho,_⟩:=zfe.1 h
 rcases ho.2 with ⟨hv,h0⟩ | ⟨g,cap,cur,hv,hb,hg,_⟩
 ·exact⟨none,0,0,by rw[hv,h0],⟨fun h=>by omega,fun j hj=>by omega⟩⟩
 ·refine⟨some ⟨g,0,none⟩,g,cap,hv,⟨fun _=>rfl,fun j hj=>?_⟩⟩
  subst hv
  rw[Nat.zero_add,ho.cellAt j (by omega)]
  simp[hj]
theorem RStr.ss {w:World} {v:Value} {ss:List ByteArray} (h:zoF sRE w v ss) : ∃ a b o cap,v = .slice a ss.length cap/\SS w a b o ss/\ss.length<=maxLen/\∀ j,(ss.getD j ByteArray.empty).size<=maxLen:=by
 obtain⟨hl,a,cap,hv,h⟩:=h
 have hsz:∀ j,(ss.getD j ByteArray.empty).size<=maxLen:=by
  intro j
  by_cases hj:j < ss.length
  ·obtain⟨_,_,_,_,⟨_,hR⟩,_⟩:=h j ss[j] (yx hj)
   simpa [List.getD,hj] using hR
  ·simp[List.getD,hj]
 by_cases h0:0 < ss.length
 ·obtain⟨b,o,ha,_⟩:=h 0 ss[0] (yx h0)
  refine⟨a,b,o,cap,hv,⟨fun _=>ha,fun j hj=>?_⟩,hl,hsz⟩
  obtain⟨b',o',ha',vs,⟨hR,_⟩,hc⟩:=h j ss[j] (yx hj)
  rw[ha] at ha'; cases ha'
  have:=hc 0 (.string ss[j]) (by rw[hR]; rfl)
  simp[sRE] at this
  simpa [List.getD,hj] using this
 ·exact⟨a,0,0,cap,hv,⟨fun h=>absurd h h0,fun j hj=>by omega⟩,hl,hsz⟩
def szI (L n:Nat) : Int:=if n<=L then (L:Int) - n else -1
theorem zp1 {L n:Nat} (h:n<=L) : szI L n=((L - n:Nat) : Int):=by unfold szI; rw[yg h]; omega
theorem zkx {L n:Nat} (h:¬ n<=L) : szI L n = -1:=by unfold szI; rw[yf h]
theorem zt2 (L n:Nat) : -1<=szI L n:=by unfold szI; split <;> omega
theorem zt3 (L n:Nat) : szI L n<=L:=by unfold szI; split <;> omega
def zih (ss:List ByteArray) : Nat:=ss.length+tot ss
theorem zoG (v:Value) (ss:List ByteArray) (L:Nat) (w:World) (h:zoF sRE w v ss) (hL:L<=1048576) :
  Calls prog 79 #[v,.int .i64 L] w fun e w'=>e = .returned (.int .i64 (szI L (zih ss)))/\Below w.heap.size w w':=by
 obtain⟨a,b,o,cap,rfl,hs,hm,hw⟩:=RStr.ss h
 refine (zuL a b o cap ss L w hs hL hm hw).mono ?_
 rintro e w' ⟨rfl,rfl⟩
 exact⟨rfl,yH _ _⟩
theorem zag (w:World) (o:Obj) : Below w.heap.size w (w.alloc o):=(yH _ _).alloc (ye _) o
theorem zsx {α:Type} {l:List α} (h:l.length=3) : ∃ a b c,l=[a,b,c]:=by
 match l,h with
 | [a,b,c],_=>exact⟨a,b,c,rfl⟩
theorem zwf {α:Type} {l:List α} (h:l.length=4) : ∃ a b c d,l=[a,b,c,d]:=by
 match l,h with
 | [a,b,c,d],_=>exact⟨a,b,c,d,rfl⟩
theorem zcH (l:List Nat) (k:Nat) : (l.take k).sum<=l.sum:=by
 have h:=List.take_append_drop k l
 have:(l.take k++l.drop k).sum=l.sum:=by rw[h]
 rw[List.sum_append] at this; omega
theorem zbU {α:Type} (f:α->Nat) (l:List α) (k:Nat) (x:α) (h:l[k]?=some x) : ((l.take (k+1)).map f).sum=((l.take k).map f).sum+f x:=by
 rw[List.take_add_one,h]; simp
theorem zfZ {α:Type} {e:zsb α} (hone:∀ {w vs x bl},e.E w vs x bl->∀ u∈vs,u.oneCell'=true) {t:TypeId} (ht:prog.underlying t=some (.slice e.T)) {z:Value} {bytes:Nat}
  (hinfo:(prog.info? e.T).map (fun i=>(i.zero,i.size,i.bytes))=some (some z,e.wd,bytes)) (hzs:z.cells.size=e.wd) (hsz:0 < e.wd) (hby:bytes<=100)
  {w:World} {ops:Array Oper} {rest:List Oper} {o:Oper} {a:Act} {Q:Exit->Act->World->Prop} (hg:o.guard=none) (s x:Operand)
  (ho:o.op = .call { callee:=.builtin .append,args:=#[s,x],argTypes:=#[t,t] }) {v:Value} {xs:List α} {cb:List Nat} (hs:a.eval s = .slice none 0 0) (hx:a.eval x=v)
  (h:zbt e w v xs (v.ownBlock.toList++cb)) (hl:xs.length<=40000000)
  (hK:∀ v' w',zbt e w' v' xs (v'.ownBlock.toList++cb)->(∀ g,v'.ownBlock=some g->w.heap.size<=g)->Below w.heap.size w w'->wpList prog ops Q rest (a.put o.dst v') w') : wpList prog ops Q (o :: rest) a w:=by
 obtain⟨i0,hi,hz0,hz1,hz2⟩:=info_parts hinfo
 have hlt:=h.lt
 obtain⟨ps,hl0,hE,ho0,hb⟩:=h
 have hcb:=List.append_cancel_left hb
 have hnil:=w.ownsRow_nil w.heap.size e.T e.wd
 rcases ho0.2 with ⟨hv,h0⟩ | ⟨g,cap,cur,hv,_⟩
 ·subst hv
  refine wpList_append_own_none hg s x t ho w.heap.size e.T i0 e.wd ht hi _ _ _ hs hnil hx ?_
  exact hK _ w ⟨ps,hl0,hE,ho0,hb⟩ (fun g hg=>by simp[Value.ownBlock] at hg) (yH _ _)
 ·have hwd:=zfY hl0 hE
  have hones:∀ u∈ps.flatMap (·.1),u.oneCell'=true:=by
   intro u hu
   obtain⟨p,hp,hu⟩:=List.mem_flatMap.1 hu
   obtain⟨j,hj,rfl⟩:=List.mem_iff_getElem.1 hp
   exact hone (hE j ps[j] (xs[j]'(by omega)) (yx hj) (yx (by omega))) u hu
  have hob:v.ownBlock=some g:=by rw[hv]; rfl
  refine wpList_append_own _ hg s x t ho w.heap.size e.T i0 z e.wd bytes ht hi hz0 hz1 hz2 hzs hsz _ 0 [] hs hnil ⟨g,0,none⟩ xs.length cap (ps.flatMap (·.1)) (hx.trans hv) ho0.1 (fun j u hu=>ho0.cells hob j u hu) hones (by unfold maxLen; omega) ?_ (ye _) ?_
  ·have:(0+xs.length)*bytes<=(0+xs.length)*100:=Nat.mul_le_mul_left _ hby
   omega
  ·intro v' w' h1 h2 _
   have hbel:Below w.heap.size w w':=(yH _ _).grown h2 (ye _) (fun k hk=>by simp[Value.ownBlock] at hk)
   refine hK v' w' ⟨ps,hl0,fun j p y hp hy=>e.keep (hE j p y hp hy) fun b hb1=>hbel.block b (hlt b (by rw[hb]; exact List.mem_append.2 (.inr (List.mem_flatMap.2 ⟨p,List.mem_of_getElem? hp,hb1⟩)))),?_,by rw[hcb]⟩ (fun g hg=>(h1.lt g hg).1) hbel
   have:=zaC h1 (yt _)
   simpa using this
end Go.Proofs.YtekpghcckdjnhaaGreatDoor
namespace Go.Proofs.YtekpghcckdjnhaaGreatDoor
open Go.ChangeShapes Go.WideShapes Go.ChangeAt Go.RowKit Go.Deep Go.Proofs.Tryz
section
variable {H:Type} {enc:TypeId×Value->H} {P:Program} {w:World} {sp:Nat->Bool} {held:Bool}
theorem zsy {t:TypeId} (ht:P.underlying t=some (.int .i64)) {n:Nat} {cs:List Value} {y:DataW H×List MemPlace} (h:DataW.trod enc P w 0 sp held n t cs=some y) : ∃ z,cs=[.int .i64 z]:=by
 cases n with
 | zero=>simp[DataW.trod] at h
 | succ n=>
  unfold DataW.trod at h
  rw[ht] at h
  split at h <;> simp_all
theorem znt {t:TypeId} (ht:P.underlying t=some .string) {n:Nat} {cs:List Value} {y:DataW H×List MemPlace} (h:DataW.trod enc P w 0 sp held n t cs=some y) : ∃ s,cs=[.string s]/\s.size<=maxLen:=by
 cases n with
 | zero=>simp[DataW.trod] at h
 | succ n=>
  unfold DataW.trod at h
  rw[ht] at h
  split at h <;> simp_all
theorem zyx {α:Type} {l:List α} (h:l.length=3) : ∃ a b c,l=[a,b,c]:=by
 match l,h with
 | [a,b,c],_=>exact⟨a,b,c,rfl⟩
theorem zky {α:Type} [Inhabited α] (e:zp0 α) {t et:TypeId} (ht:prog.underlying t=some (.slice et)) (hwd:prog.cellsOf et=e.wd) (hpos:0 < e.wd)
  (hopen:∀ (n:Nat) (cs:List Value) (y:DataW H×List MemPlace),DataW.trod enc prog w 0 sp held n et cs=some y->∃ x,e.R w cs x)
  {fuel:Nat} {cs:List Value} {x:DataW H×List MemPlace} (h:DataW.trod enc prog w 0 sp held fuel t cs=some x) : ∃ v xs,cs=[v]/\zoF e w v xs:=by
 rcases open_slice ht h with ⟨h0,_⟩ | ⟨a,len,cap,m,n,D,Pl,rfl,_,hl,hm,hmm,_,hx⟩
 ·exact⟨_,[],h0,by simp,none,0,rfl,fun j y hy=>by simp at hy⟩
 ·have hlm:len<=m:=by rw[hmm]; split <;> omega
  obtain⟨X,hX⟩:=choose_lt (n:=len) (p:=fun i y=>∃ cs',w.cells? 0 (a.add (i*e.wd)) e.wd=some cs'/\e.R w cs' y) fun i hi=>by
   obtain⟨cs',h1,h2⟩:=hx i (by omega)
   obtain⟨y,hy⟩:=hopen _ _ _ h2
   rw[hwd] at h1
   exact⟨y,cs',h1,hy⟩
  refine⟨_,(List.range len).map X,rfl,by simp; omega,some a,cap,by simp,fun j y hy=>?_⟩
  have hj:j < len:=by have:=(List.getElem?_eq_some_iff.1 hy).1; simpa using this
  rw[List.getElem?_map,List.getElem?_range hj] at hy
  cases hy
  obtain⟨cs',h1,h2⟩:=hX j hj
  obtain⟨_,hlen,hcell⟩:=World.cells?_some h1
  obtain⟨b,o,spot⟩:=a
  have hsp:spot=none:=by
   obtain⟨cs0,g1,_⟩:=hX 0 (by omega)
   obtain⟨_,hlen0,hcell0⟩:=World.cells?_some g1
   have hc0:=hcell0 0 hpos
   rw[yx (by omega)] at hc0
   simpa [Addr.add] using World.cell?_spot hc0
  subst hsp
  refine⟨b,o,rfl,cs',h2,fun k u hu=>?_⟩
  have hk:k < e.wd:=by have:=(List.getElem?_eq_some_iff.1 hu).1; omega
  have:=hcell k hk
  rw[hu] at this
  rw[← this]
  rw[Go.WideShapes.add_plain,Go.WideShapes.add_plain,Nat.add_assoc]
instance : Inhabited ByteArray := ⟨ByteArray.empty⟩
theorem zp2 {fuel:Nat} {cs:List Value} {x:DataW H×List MemPlace} (h:DataW.trod enc prog w 0 sp held fuel 55 cs=some x) : ∃ v xs,cs=[v]/\zoF sRE w v xs:=
 zky sRE underlying55 (by kernel_rfl) (by decide) (fun n cs y h=>by
  obtain⟨s,hs,hz⟩:=znt underlying9 h
  exact⟨s,hs,hz⟩) h
end
end Go.Proofs.YtekpghcckdjnhaaGreatDoor
