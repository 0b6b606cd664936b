import Derived.Laws.OwnMore
import Derived.Below
import Derived.Deep.QuietTactic
import Derived.Test.YtocnekbedcnmgaaGreatDoorBa1
import Derived.Deep.SlicePairs
import Derived.ProofKit
namespace Go.Proofs.YtocnekbedcnmgaaGreatDoor
open Go.RowKit
def Kp (bl:List Nat) (w w':World) : Prop:=∀ b∈bl,w'.heap[b]?=w.heap[b]?
theorem Kp.of_below {bl:List Nat} {w w':World} (h:Below w.heap.size w w') (hl:∀ b∈bl,b < w.heap.size) : Kp bl w w':=fun b hb=>h.block b (hl b hb)
theorem own_keep {w w':World} {B e size n:Nat} {v:Value} {xs:List Value} (h:w.ownsRow B e size v n xs) (hb:Kp v.ownBlock.toList w w') : w'.ownsRow B e size v n xs:=by
 refine⟨h.1,?_⟩
 rcases h.2 with h0 | ⟨g,cap,cur,hv,hB,hg,r⟩
 ·exact .inl h0
 ·refine .inr ⟨g,cap,cur,hv,hB,(hb g ?_).trans hg,r⟩
  rw[hv]; simp[Value.ownBlock]
structure Elem (α:Type) where
 T:TypeId
 wd:Nat
 E:World→List Value→α→List Nat→Prop
 len:∀ {w vs x bl},E w vs x bl→vs.length=wd
 lt:∀ {w vs x bl},E w vs x bl→∀ b∈bl,b < w.heap.size
 keep:∀ {w w' vs x bl},E w vs x bl→Kp bl w w'→E w' vs x bl
def ORow {α:Type} (e:Elem α) (w:World) (v:Value) (xs:List α) (bl:List Nat) : Prop:=
 ∃ ps:List (List Value×List Nat),ps.length=xs.length∧(∀ (j:Nat) (p:List Value×List Nat) (x:α),ps[j]?=some p→xs[j]?=some x→e.E w p.1 x p.2) ∧
  w.ownsRow 0 e.T e.wd v xs.length (ps.flatMap (·.1))∧bl=v.ownBlock.toList++ps.flatMap (·.2)
theorem flat_at {ps:List (List Value×List Nat)} {wd:Nat} (h:∀ p∈ps,p.1.length=wd) {j:Nat} {p:List Value×List Nat} (hj:ps[j]?=some p) (m:Nat) (hm:m < wd) : (ps.flatMap (·.1))[j*wd+m]?=p.1[m]?:=by
 induction ps generalizing j with
 | nil=>simp at hj
 | cons q r ih=>
  have hq:=h q List.mem_cons_self
  rw[List.flatMap_cons]
  cases j with
  | zero=>
   simp at hj; subst hj
   rw[Nat.zero_mul,Nat.zero_add,List.getElem?_append_left (by omega)]
  | succ j=>
   have:=ih (fun p hp=>h p (List.mem_cons_of_mem _ hp)) (by simpa using hj)
   rw[List.getElem?_append_right (by rw[hq,Nat.add_mul]; omega),hq,← this]
   congr 1
   rw[Nat.add_mul]; omega
theorem flat_len {ps:List (List Value×List Nat)} {wd:Nat} (h:∀ p∈ps,p.1.length=wd) : (ps.flatMap (·.1)).length=ps.length*wd:=by
 induction ps with
 | nil=>simp
 | cons q r ih=>
  rw[List.flatMap_cons,List.length_append,ih (fun p hp=>h p (List.mem_cons_of_mem _ hp)),h q List.mem_cons_self,List.length_cons,Nat.add_mul]; omega
theorem nodup_at {ps:List (List Value×List Nat)} (h:(ps.flatMap (·.2)).Nodup) {j:Nat} {p:List Value×List Nat} (hj:ps[j]?=some p) : p.2.Nodup:=by
 induction ps generalizing j with
 | nil=>simp at hj
 | cons q r ih=>
  rw[List.flatMap_cons,List.nodup_append] at h
  cases j with
  | zero=>simp at hj; subst hj; exact h.1
  | succ j=>exact ih h.2.1 (by simpa using hj)
section
variable {α:Type} {e:Elem α} {w w':World} {v:Value} {xs:List α} {bl:List Nat}
theorem orow_wd {ps:List (List Value×List Nat)} (hl:ps.length=xs.length) (h:∀ (j:Nat) (p:List Value×List Nat) (x:α),ps[j]?=some p→xs[j]?=some x→e.E w p.1 x p.2) : ∀ p∈ps,p.1.length=e.wd:=by
 intro p hp
 obtain⟨j,hj,rfl⟩:=List.mem_iff_getElem.1 hp
 exact e.len (h j ps[j] (xs[j]'(by omega)) (List.getElem?_eq_getElem hj) (List.getElem?_eq_getElem (by omega)))
theorem ORow.lt (h:ORow e w v xs bl) : ∀ b∈bl,b < w.heap.size:=by
 obtain⟨ps,hl,hE,ho,rfl⟩:=h
 intro b hb
 rw[List.mem_append] at hb
 rcases hb with hb | hb
 ·exact (ho.lt b (by simpa using hb)).2
 ·obtain⟨p,hp,hb⟩:=List.mem_flatMap.1 hb
  obtain⟨j,hj,rfl⟩:=List.mem_iff_getElem.1 hp
  exact e.lt (hE j ps[j] (xs[j]'(by omega)) (List.getElem?_eq_getElem hj) (List.getElem?_eq_getElem (by omega))) b hb
theorem ORow.keep (h:ORow e w v xs bl) (hk:Kp bl w w') : ORow e w' v xs bl:=by
 obtain⟨ps,hl,hE,ho,rfl⟩:=h
 refine⟨ps,hl,fun j p x hp hx=>e.keep (hE j p x hp hx) fun b hb=>hk b ?_,own_keep ho fun b hb=>hk b ?_,rfl⟩
 ·rw[List.mem_append]; exact .inr (List.mem_flatMap.2 ⟨p,List.mem_of_getElem? hp,hb⟩)
 ·rw[List.mem_append]; exact .inl hb
theorem ORow.below (h:ORow e w v xs bl) (hb:Below w.heap.size w w') : ORow e w' v xs bl:=h.keep (.of_below hb h.lt)
theorem ORow.form (h:ORow e w v xs bl) : ∃ a cap,v = .slice a xs.length cap∧(∀ g,a=some g→g=⟨g.block,0,none⟩∧g.block∈bl)∧(0 < xs.length→∃ g,a=some ⟨g,0,none⟩):=by
 obtain⟨ps,hl,hE,ho,rfl⟩:=h
 rcases ho.2 with ⟨hv,h0⟩ | ⟨g,cap,cur,hv,_⟩
 ·exact⟨none,0,by rw[hv,h0],fun g h=>(by cases h),fun h=>by omega⟩
 ·refine⟨some ⟨g,0,none⟩,cap,hv,fun g h=>?_,fun _=>⟨g,rfl⟩⟩
  cases h
  exact⟨rfl,by rw[hv]; simp[Value.ownBlock]⟩
theorem ORow.at {g cap n:Nat} (h:ORow e w (.slice (some ⟨g,0,none⟩) n cap) xs bl) {j:Nat} {x:α} (hx:xs[j]?=some x) :
  ∃ vs ib,e.E w vs x ib∧(∀ m u,vs[m]?=some u→w.cell? ⟨g,j*e.wd+m,none⟩=some u∧w.frozen? ⟨g,j*e.wd+m,none⟩=false)∧(∀ b∈ib,b∈bl)∧g∈bl∧(bl.Nodup→g ∉ ib∧ib.Nodup):=by
 obtain⟨ps,hl,hE,ho,rfl⟩:=h
 have hj:j < xs.length:=(List.getElem?_eq_some_iff.1 hx).1
 have hp:ps[j]?=some ps[j]:=List.getElem?_eq_getElem (by omega)
 have hwd:=orow_wd hl hE
 have hn:n=xs.length:=by
  rcases ho.2 with ⟨hv,h0⟩ | ⟨g',cap',cur,hv,_⟩
  ·cases hv
  ·injection hv
 subst hn
 refine⟨ps[j].1,ps[j].2,hE j _ x hp hx,?_,?_,?_,?_⟩
 ·intro m u hm
  have hm':m < e.wd:=by
   have:=(List.getElem?_eq_some_iff.1 hm).1
   rwa [hwd _ (List.getElem_mem (by omega))] at this
  have hlt:j*e.wd+m < xs.length*e.wd:=by
   have:(j+1)*e.wd≤xs.length*e.wd:=Nat.mul_le_mul_right _ hj
   rw[Nat.add_mul] at this; omega
  refine⟨?_,ho.frozenAt _⟩
  rw[ho.cellAt _ hlt,flat_at hwd hp m hm']; exact hm
 ·intro b hb
  rw[List.mem_append]; exact .inr (List.mem_flatMap.2 ⟨_,List.getElem_mem (by omega),hb⟩)
 ·simp[Value.ownBlock]
 ·intro hd
  rw[List.nodup_append] at hd
  refine⟨fun hg=>hd.2.2 g (by simp[Value.ownBlock]) g (List.mem_flatMap.2 ⟨_,List.getElem_mem (by omega),hg⟩) rfl,?_⟩
  exact nodup_at hd.2.1 hp
end
structure RElem (α:Type) where
 wd:Nat
 R:World→List Value→α→Prop
 len:∀ {w vs x},R w vs x→vs.length=wd
 keep:∀ {w w' vs x},R w vs x→Below w.heap.size w w'→R w' vs x
def RRow {α:Type} (e:RElem α) (w:World) (v:Value) (xs:List α) : Prop:=
 xs.length≤maxLen∧∃ a cap,v = .slice a xs.length cap∧∀ (j:Nat) (x:α),xs[j]?=some x→∃ b o,a=some ⟨b,o,none⟩∧∃ vs,e.R w vs x∧∀ (m:Nat) (u:Value),vs[m]?=some u→w.cell? ⟨b,o+(j*e.wd+m),none⟩=some u
theorem RRow.below {α:Type} {e:RElem α} {w w':World} {v:Value} {xs:List α} (h:RRow e w v xs) (hb:Below w.heap.size w w') : RRow e w' v xs:=by
 obtain⟨hl,a,cap,hv,h⟩:=h
 refine⟨hl,a,cap,hv,fun j x hx=>?_⟩
 obtain⟨b,o,ha,vs,hR,hc⟩:=h j x hx
 exact⟨b,o,ha,vs,e.keep hR hb,fun m u hu=>(hb.cell (p:=⟨b,o+(j*e.wd+m),none⟩) (World.block_lt_of_cell? _ _ (hc m u hu))).trans (hc m u hu)⟩
def szI (L n:Nat) : Int:=if n≤L then (L:Int) - n else -1
theorem szI_ok {L n:Nat} (h:n≤L) : szI L n=((L - n:Nat) : Int):=by unfold szI; rw[if_pos h]; omega
theorem szI_no {L n:Nat} (h:¬ n≤L) : szI L n = -1:=by unfold szI; rw[if_neg h]
theorem alloc_b (w:World) (o:Obj) : Below w.heap.size w (w.alloc o):=(Below.refl _ _).alloc (Nat.le_refl _) o
theorem list4 {α:Type} {l:List α} (h:l.length=4) : ∃ a b c d,l=[a,b,c,d]:=by
 match l,h with
 | [a,b,c,d],_=>exact⟨a,b,c,d,rfl⟩
theorem sum_take_le (l:List Nat) (k:Nat) : (l.take k).sum≤l.sum:=by
 have h:=List.take_append_drop k l
 have:(l.take k++l.drop k).sum=l.sum:=by rw[h]
 rw[List.sum_append] at this; omega
theorem sum_take_snoc {α:Type} (f:α→Nat) (l:List α) (k:Nat) (x:α) (h:l[k]?=some x) : ((l.take (k+1)).map f).sum=((l.take k).map f).sum+f x:=by
 rw[List.take_add_one,h]; simp
end Go.Proofs.YtocnekbedcnmgaaGreatDoor
namespace Go.Proofs.YtocnekbedcnmgaaGreatDoor
open Go.ChangeShapes Go.WideShapes Go.ChangeAt Go.RowKit Go.Deep
section
variable {H:Type} {enc:TypeId×Value→H} {P:Program} {w:World} {sp:Nat→Bool} {held:Bool}
theorem leaf_int {t:TypeId} (ht:P.underlying t=some (.int .i64)) {n:Nat} {cs:List Value} {y:DataW H×List MemPlace} (h:DataW.trod enc P w 0 sp held n t cs=some y) : ∃ z,cs=[.int .i64 z]:=by
 cases n with
 | zero=>simp[DataW.trod] at h
 | succ n=>
  unfold DataW.trod at h
  rw[ht] at h
  split at h <;> simp_all
theorem leaf_str {t:TypeId} (ht:P.underlying t=some .string) {n:Nat} {cs:List Value} {y:DataW H×List MemPlace} (h:DataW.trod enc P w 0 sp held n t cs=some y) : ∃ s,cs=[.string s]∧s.size≤maxLen:=by
 cases n with
 | zero=>simp[DataW.trod] at h
 | succ n=>
  unfold DataW.trod at h
  rw[ht] at h
  split at h <;> simp_all
theorem open_rrow {α:Type} [Inhabited α] (e:RElem α) {t et:TypeId} (ht:Tryz.prog.underlying t=some (.slice et)) (hwd:Tryz.prog.cellsOf et=e.wd) (hpos:0 < e.wd)
  (hopen:∀ (n:Nat) (cs:List Value) (y:DataW H×List MemPlace),DataW.trod enc Tryz.prog w 0 sp held n et cs=some y→∃ x,e.R w cs x)
  {fuel:Nat} {cs:List Value} {x:DataW H×List MemPlace} (h:DataW.trod enc Tryz.prog w 0 sp held fuel t cs=some x) : ∃ v xs,cs=[v]∧RRow e w v xs:=by
 rcases open_slice ht h with ⟨h0,_⟩ | ⟨a,len,cap,m,n,D,Pl,rfl,_,hl,hm,hmm,_,hx⟩
 ·exact⟨_,[],h0,by simp,none,0,rfl,fun j y hy=>by simp at hy⟩
 ·have hlm:len≤m:=by rw[hmm]; split <;> omega
  obtain⟨X,hX⟩:=choose_lt (n:=len) (p:=fun i y=>∃ cs',w.cells? 0 (a.add (i*e.wd)) e.wd=some cs'∧e.R w cs' y) fun i hi=>by
   obtain⟨cs',h1,h2⟩:=hx i (by omega)
   obtain⟨y,hy⟩:=hopen _ _ _ h2
   rw[hwd] at h1
   exact⟨y,cs',h1,hy⟩
  refine⟨_,(List.range len).map X,rfl,by simp; omega,some a,cap,by simp,fun j y hy=>?_⟩
  have hj:j < len:=by have:=(List.getElem?_eq_some_iff.1 hy).1; simpa using this
  rw[List.getElem?_map,List.getElem?_range hj] at hy
  cases hy
  obtain⟨cs',h1,h2⟩:=hX j hj
  obtain⟨_,hlen,hcell⟩:=World.cells?_some h1
  obtain⟨b,o,spot⟩:=a
  have hsp:spot=none:=by
   obtain⟨cs0,g1,_⟩:=hX 0 (by omega)
   obtain⟨_,hlen0,hcell0⟩:=World.cells?_some g1
   have hc0:=hcell0 0 hpos
   rw[List.getElem?_eq_getElem (by omega)] at hc0
   simpa [Addr.add] using World.cell?_spot hc0
  subst hsp
  refine⟨b,o,rfl,cs',h2,fun k u hu=>?_⟩
  have hk:k < e.wd:=by have:=(List.getElem?_eq_some_iff.1 hu).1; omega
  have:=hcell k hk
  rw[hu] at this
  rw[← this]
  rw[Go.WideShapes.add_plain,Go.WideShapes.add_plain,Nat.add_assoc]
instance : Inhabited ByteArray := ⟨ByteArray.empty⟩
end
end Go.Proofs.YtocnekbedcnmgaaGreatDoor
