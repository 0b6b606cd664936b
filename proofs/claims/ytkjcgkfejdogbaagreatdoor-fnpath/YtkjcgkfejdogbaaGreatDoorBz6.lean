import Derived.Laws.AppendOwn
import Derived.Room.AppendZeros
import Derived.Test.YtkjcgkfejdogbaaGreatDoorBz1
import Derived.WalkKit
import Derived.ProofKit
import Derived.OpenShut
import Derived.Test.YtkjcgkfejdogbaaGreatDoorBz4
namespace Go.Proofs.YtkjcgkfejdogbaaGreatDoor
open Go.RowKit
def Mv (S S':Nat→Prop) (w w':World) : Prop:=∀ b,S b→b < w.heap.size→S' b∧w'.heap[b]?=w.heap[b]?
theorem Mv.below {S:Nat→Prop} {w w':World} (h:Below w.heap.size w w') : Mv S S w w':=fun b hb hl=>⟨hb,h.block b hl⟩
theorem Mv.sub {S S':Nat→Prop} {w:World} (h:∀ b,S b→b < w.heap.size→S' b) : Mv S S' w w:=fun b hb hl=>⟨h b hb hl,rfl⟩
structure KE (α:Type) where
 T:TypeId
 wd:Nat
 pos:0 < wd
 R:World→(Nat→Prop)→List Value→α→Prop
 len:∀ {w S vs x},R w S vs x→vs.length=wd
 move:∀ {w w' S S' vs x},R w S vs x→Mv S S' w w'→R w' S' vs x
theorem fl_len {vss:List (List Value)} {wd:Nat} (h:∀ p∈vss,p.length=wd) : vss.flatten.length=vss.length*wd:=by
 induction vss with
 | nil=>simp
 | cons q r ih=>rw[List.flatten_cons,List.length_append,ih (fun p hp=>h p (List.mem_cons_of_mem _ hp)),h q List.mem_cons_self,List.length_cons,Nat.add_mul]; omega
theorem fl_at {vss:List (List Value)} {wd:Nat} (h:∀ p∈vss,p.length=wd) {j:Nat} {p:List Value} (hj:vss[j]?=some p) (m:Nat) (hm:m < wd) : vss.flatten[j*wd+m]?=p[m]?:=by
 induction vss generalizing j with
 | nil=>simp at hj
 | cons q r ih=>
  have hq:=h q List.mem_cons_self
  rw[List.flatten_cons]
  cases j with
  | zero=>
   simp at hj; subst hj
   rw[Nat.zero_mul,Nat.zero_add,List.getElem?_append_left (by omega)]
  | succ j=>
   have:=ih (fun p hp=>h p (List.mem_cons_of_mem _ hp)) (by simpa using hj)
   rw[List.getElem?_append_right (by rw[hq,Nat.add_mul]; omega),hq,← this]
   congr 1
   rw[Nat.add_mul]; omega
theorem fl_take {vss:List (List Value)} {wd:Nat} (h:∀ p∈vss,p.length=wd) (r:Nat) : (vss.take r).flatten=vss.flatten.take (r*wd):=by
 induction vss generalizing r with
 | nil=>simp
 | cons q l ih=>
  have hq:=h q List.mem_cons_self
  cases r with
  | zero=>simp
  | succ r=>
   have e1:(r+1)*wd - q.length=r*wd:=by rw[hq,Nat.add_mul]; omega
   have e2:List.take ((r+1)*wd) q=q:=List.take_of_length_le (by rw[hq,Nat.add_mul]; omega)
   rw[List.take_succ_cons,List.flatten_cons,List.flatten_cons,ih (fun p hp=>h p (List.mem_cons_of_mem _ hp)),List.take_append,e1,e2]
def Els {α:Type} (e:KE α) (w:World) (S:Nat→Prop) (vss:List (List Value)) (xs:List α) : Prop:=
 vss.length=xs.length∧∀ (j:Nat) (vs:List Value) (x:α),vss[j]?=some vs→xs[j]?=some x→e.R w S vs x
theorem Els.move {α:Type} {e:KE α} {w w':World} {S S':Nat→Prop} {vss:List (List Value)} {xs:List α} (h:Els e w S vss xs) (hm:Mv S S' w w') : Els e w' S' vss xs:=
 ⟨h.1,fun j vs x h1 h2=>e.move (h.2 j vs x h1 h2) hm⟩
theorem Els.wd {α:Type} {e:KE α} {w:World} {S:Nat→Prop} {vss:List (List Value)} {xs:List α} (h:Els e w S vss xs) : ∀ p∈vss,p.length=e.wd:=by
 intro p hp
 obtain⟨j,hj,rfl⟩:=List.mem_iff_getElem.1 hp
 exact e.len (h.2 j vss[j] (xs[j]'(by have:=h.1; omega)) (List.getElem?_eq_getElem hj) (List.getElem?_eq_getElem _))
theorem Els.snoc {α:Type} {e:KE α} {w:World} {S:Nat→Prop} {vss:List (List Value)} {xs:List α} (h:Els e w S vss xs) {vs:List Value} {x:α} (hx:e.R w S vs x) : Els e w S (vss++[vs]) (xs++[x]):=by
 refine⟨by simp[h.1],fun j us y h1 h2=>?_⟩
 by_cases hj:j < xs.length
 ·rw[List.getElem?_append_left (by have:=h.1; omega)] at h1
  rw[List.getElem?_append_left hj] at h2
  exact h.2 j us y h1 h2
 ·have h3:=(List.getElem?_eq_some_iff.1 h2).1
  rw[List.length_append,List.length_singleton] at h3
  have:j=xs.length:=by omega
  subst this
  rw[← h.1] at h1
  simp at h1 h2
  subst h1; subst h2; exact hx
theorem Els.take {α:Type} {e:KE α} {w:World} {S:Nat→Prop} {vss:List (List Value)} {xs:List α} (h:Els e w S vss xs) (r:Nat) : Els e w S (vss.take r) (xs.take r):=by
 refine⟨by simp[h.1],fun j vs x h1 h2=>?_⟩
 rw[List.getElem?_take] at h1 h2
 split at h1
 ·rename_i hj
  rw[if_pos hj] at h2
  exact h.2 j vs x h1 h2
 ·cases h1
theorem Els.drop {α:Type} {e:KE α} {w:World} {S:Nat→Prop} {vss:List (List Value)} {xs:List α} (h:Els e w S vss xs) (r:Nat) : Els e w S (vss.drop r) (xs.drop r):=by
 refine⟨by simp[h.1],fun j vs x h1 h2=>?_⟩
 rw[List.getElem?_drop] at h1 h2
 exact h.2 _ vs x h1 h2
theorem Els.imp {α:Type} {e e':KE α} {w:World} {S:Nat→Prop} {vss:List (List Value)} {xs:List α} (h:Els e w S vss xs) (hi:∀ {vs x},e.R w S vs x→e'.R w S vs x) : Els e' w S vss xs:=⟨h.1,fun j vs x h1 h2=>hi (h.2 j vs x h1 h2)⟩
def LRow {α:Type} (e:KE α) (w:World) (S:Nat→Prop) (v:Value) (xs:List α) : Prop:=
 ∃ (a:Option Addr) (cap g:Nat) (vss:List (List Value)),v = .slice a xs.length cap∧(0 < xs.length→a=some ⟨g,0,none⟩∧S g)∧Els e w S vss xs ∧
  (∀ (j:Nat) (vs:List Value),vss[j]?=some vs→∀ (m:Nat) (u:Value),vs[m]?=some u→w.cell? ⟨g,j*e.wd+m,none⟩=some u)
theorem LRow.move {α:Type} {e:KE α} {w w':World} {S S':Nat→Prop} {v:Value} {xs:List α} (h:LRow e w S v xs) (hm:Mv S S' w w') : LRow e w' S' v xs:=by
 obtain⟨a,cap,g,vss,hv,ha,hE,hc⟩:=h
 by_cases h0:0 < xs.length
 ·obtain⟨ha1,hg⟩:=ha h0
  have hgl:g < w.heap.size:=by
   have hl:=hE.1
   have h1:vss[0]?=some (vss[0]'(by omega)):=List.getElem?_eq_getElem _
   have h2:=e.len (hE.2 0 _ (xs[0]'h0) h1 (List.getElem?_eq_getElem _))
   have:=e.pos
   exact World.block_lt_of_cell? w ⟨g,0*e.wd+0,none⟩ (hc 0 _ h1 0 _ (List.getElem?_eq_getElem (by omega)))
  obtain⟨hg',hb⟩:=hm g hg hgl
  exact⟨a,cap,g,vss,hv,fun _=>⟨ha1,hg'⟩,hE.move hm,fun j vs h1 m u hu=>(World.cell?_of_block (a:=⟨g,j*e.wd+m,none⟩) hb).trans (hc j vs h1 m u hu)⟩
 ·exact⟨a,cap,g,vss,hv,fun h=>absurd h h0,hE.move hm,fun j vs h1=>by
   have hl:=hE.1
   have:=(List.getElem?_eq_some_iff.1 h1).1
   omega⟩
theorem LRow.imp {α:Type} {e e':KE α} {w:World} {S:Nat→Prop} {v:Value} {xs:List α} (h:LRow e w S v xs) (hw:e.wd=e'.wd) (hi:∀ {vs x},e.R w S vs x→e'.R w S vs x) : LRow e' w S v xs:=by
 obtain⟨a,cap,g,vss,hv,ha,hE,hc⟩:=h
 exact⟨a,cap,g,vss,hv,ha,hE.imp hi,by rw[← hw]; exact hc⟩
theorem LRow.form {α:Type} {e:KE α} {w:World} {S:Nat→Prop} {v:Value} {xs:List α} (h:LRow e w S v xs) : ∃ a cap,v = .slice a xs.length cap∧(0 < xs.length→∃ g,a=some ⟨g,0,none⟩):=by
 obtain⟨a,cap,g,vss,hv,ha,-,-⟩:=h
 exact⟨a,cap,hv,fun h=>⟨g,(ha h).1⟩⟩
theorem LRow.at {α:Type} {e:KE α} {w:World} {S:Nat→Prop} {g n cap:Nat} {xs:List α} (h:LRow e w S (.slice (some ⟨g,0,none⟩) n cap) xs) {j:Nat} {x:α} (hx:xs[j]?=some x) :
  ∃ vs,e.R w S vs x∧∀ (m:Nat) (u:Value),vs[m]?=some u→w.cell? ⟨g,j*e.wd+m,none⟩=some u:=by
 obtain⟨a,cap',g',vss,hv,ha,hE,hc⟩:=h
 have hj:=(List.getElem?_eq_some_iff.1 hx).1
 have hl:=hE.1
 have h1:vss[j]?=some (vss[j]'(by omega)):=List.getElem?_eq_getElem _
 refine⟨_,hE.2 j _ x h1 hx,?_⟩
 obtain⟨ha1,-⟩:=ha (by omega)
 injection hv with hv1 _ _
 rw[ha1] at hv1
 injection hv1 with hv1
 injection hv1 with hv1 _ _
 subst hv1
 exact hc j _ h1
def Hd (S0:Nat→Prop) (B:Nat) (o:Option Nat) : Nat→Prop:=fun b=>S0 b∨(B≤b∧o≠some b)
def WRow {α:Type} (e:KE α) (w:World) (S0:Nat→Prop) (B:Nat) (v:Value) (xs:List α) : Prop:=
 ∃ vss:List (List Value),Els e w (Hd S0 B v.ownBlock) vss xs∧w.ownsRow B e.T e.wd v xs.length vss.flatten
theorem WRow.nil {α:Type} (e:KE α) (w:World) (S0:Nat→Prop) (B:Nat) : WRow e w S0 B (.slice none 0 0) []:=⟨[],⟨rfl,fun j vs x h=>by simp at h⟩,w.ownsRow_nil _ _ _⟩
theorem WRow.start {α:Type} {e:KE α} {w:World} {S0:Nat→Prop} {B:Nat} {v:Value} (h:w.ownsRow B e.T e.wd v 0 []) : WRow e w S0 B v []:=⟨[],⟨rfl,fun j vs x h=>by simp at h⟩,h⟩
theorem WRow.imp {α:Type} {e e':KE α} {w:World} {S0:Nat→Prop} {B:Nat} {v:Value} {xs:List α} (h:WRow e w S0 B v xs) (hT:e.T=e'.T) (hw:e.wd=e'.wd) (hi:∀ {S vs x},e.R w S vs x→e'.R w S vs x) : WRow e' w S0 B v xs:=by
 obtain⟨vss,h1,h2⟩:=h
 exact⟨vss,h1.imp hi,by rw[← hT,← hw]; exact h2⟩
theorem WRow.keep {α:Type} {e:KE α} {w w':World} {S0:Nat→Prop} {B:Nat} {v:Value} {xs:List α} (h:WRow e w S0 B v xs) (hb:Below w.heap.size w w') : WRow e w' S0 B v xs:=by
 obtain⟨vss,h1,h2⟩:=h
 exact⟨vss,h1.move (.below hb),own_below h2 hb⟩
theorem WRow.form {α:Type} {e:KE α} {w:World} {S0:Nat→Prop} {B:Nat} {v:Value} {xs:List α} (h:WRow e w S0 B v xs) : (v = .slice none 0 0∧xs=[])∨∃ g cap,v = .slice (some ⟨g,0,none⟩) xs.length cap∧xs.length≤cap∧cap≤maxLen∧B≤g∧g < w.heap.size:=by
 obtain⟨vss,h1,h2⟩:=h
 rcases h2.2 with ⟨hv,h0⟩ | ⟨g,cap,cur,hv,hB,hg,hc,hm,-⟩
 ·exact .inl ⟨hv,List.eq_nil_of_length_eq_zero h0⟩
 ·exact .inr ⟨g,cap,hv,hc,hm,hB,(Array.getElem?_eq_some_iff.1 hg).1⟩
theorem WRow.at {α:Type} {e:KE α} {w:World} {S0:Nat→Prop} {B g n cap:Nat} {xs:List α} (h:WRow e w S0 B (.slice (some ⟨g,0,none⟩) n cap) xs) {j:Nat} {x:α} (hx:xs[j]?=some x) :
  ∃ vs,e.R w (Hd S0 B (some g)) vs x∧∀ (m:Nat) (u:Value),vs[m]?=some u→w.cell? ⟨g,j*e.wd+m,none⟩=some u:=by
 obtain⟨vss,hE,ho⟩:=h
 have hj:=(List.getElem?_eq_some_iff.1 hx).1
 have hl:=hE.1
 have h1:vss[j]?=some (vss[j]'(by omega)):=List.getElem?_eq_getElem _
 refine⟨_,hE.2 j _ x h1 hx,fun m u hu=>?_⟩
 have hwd:=hE.wd
 have hm:m < e.wd:=by
  have:=(List.getElem?_eq_some_iff.1 hu).1
  rwa [hwd _ (List.getElem_mem _)] at this
 have hn:n=xs.length:=by
  rcases ho.2 with ⟨hv,h0⟩ | ⟨g',cap',cur,hv,_⟩
  ·cases hv
  ·injection hv
 subst hn
 have hlt:j*e.wd+m < xs.length*e.wd:=by
  have:(j+1)*e.wd≤xs.length*e.wd:=Nat.mul_le_mul_right _ hj
  rw[Nat.add_mul] at this; omega
 rw[ho.cellAt _ hlt,fl_at hwd h1 m hm]; exact hu
theorem own_take {w:World} {B e size g n cap r:Nat} {xs:List Value} (h:w.ownsRow B e size (.slice (some ⟨g,0,none⟩) n cap) n xs) (hr:r≤n) : w.ownsRow B e size (.slice (some ⟨g,0,none⟩) r cap) r (xs.take (r*size)):=by
 have hle:r*size≤n*size:=Nat.mul_le_mul_right _ hr
 refine⟨by rw[List.length_take,h.1]; omega,?_⟩
 rcases h.2 with ⟨hv,_⟩ | ⟨g',cap',cur,hv,hB,hg,hc,hm,hs,ht⟩
 ·cases hv
 ·injection hv with hv1 _ hv3
  injection hv1 with hv1
  injection hv1 with hv1 _ _
  subst hv1; subst hv3
  refine .inr ⟨_,_,cur,rfl,hB,hg,by omega,hm,hs,?_⟩
  rw[← ht,List.take_take,Nat.min_eq_left hle]
theorem WRow.take {α:Type} {e:KE α} {w:World} {S0:Nat→Prop} {B g n cap:Nat} {xs:List α} (h:WRow e w S0 B (.slice (some ⟨g,0,none⟩) n cap) xs) (hn:n=xs.length) {r:Nat} (hr:r≤n) : WRow e w S0 B (.slice (some ⟨g,0,none⟩) r cap) (xs.take r):=by
 obtain⟨vss,hE,ho⟩:=h
 subst hn
 refine⟨vss.take r,hE.take r,?_⟩
 rw[List.length_take,Nat.min_eq_left hr,fl_take hE.wd]
 exact own_take ho hr
theorem WRow.done {α:Type} {e:KE α} {w:World} {S0:Nat→Prop} {B:Nat} {v:Value} {xs:List α} (h:WRow e w S0 B v xs) : LRow e w (fun b=>S0 b∨B≤b) v xs:=by
 have hat:=@WRow.at α e w S0 B
 obtain⟨vss,hE,ho⟩:=h
 have hS:Mv (Hd S0 B v.ownBlock) (fun b=>S0 b∨B≤b) w w:=.sub fun b hb _=>by
  rcases hb with hb | hb
  ·exact .inl hb
  ·exact .inr hb.1
 have hwd:=hE.wd
 have hl:=hE.1
 rcases ho.2 with ⟨hv,h0⟩ | ⟨g,cap,cur,hv,hB,hr⟩
 ·have hx:xs=[]:=List.eq_nil_of_length_eq_zero h0
  subst hx
  exact⟨none,0,0,vss,by rw[hv]; rfl,fun h=>by simp at h,hE.move hS,fun j vs h1=>by
   have:=(List.getElem?_eq_some_iff.1 h1).1
   simp at hl
   rw[hl] at this
   simp at this⟩
 ·refine⟨_,_,g,vss,hv,fun _=>⟨rfl,.inr hB⟩,hE.move hS,fun j vs h1 m u hu=>?_⟩
  rw[hv] at ho
  have hj:=(List.getElem?_eq_some_iff.1 h1).1
  have hm:m < e.wd:=by
   have:=(List.getElem?_eq_some_iff.1 hu).1
   rwa [hwd _ (List.mem_of_getElem? h1)] at this
  have hlt:j*e.wd+m < xs.length*e.wd:=by
   have:(j+1)*e.wd≤xs.length*e.wd:=Nat.mul_le_mul_right _ (by omega)
   rw[Nat.add_mul] at this; omega
  rw[ho.cellAt _ hlt,fl_at hwd h1 m hm]; exact hu
theorem WRow.app {α:Type} {e:KE α} {w w':World} {S0:Nat→Prop} {B:Nat} {v v':Value} {xs:List α} (h:WRow e w S0 B v xs) {vss:List (List Value)} (hE:Els e w (Hd S0 B v.ownBlock) vss xs) {vs:List Value} {x:α} (hx:e.R w (Hd S0 B v.ownBlock) vs x)
  (ho':w'.ownsRow B e.T e.wd v' (xs.length+1) (vss.flatten++vs)) (hg:w.grownBy w' v.ownBlock) (hw:v'.ownBlock=v.ownBlock∨v'.ownBlock=some w.heap.size) (h0:∀ b,S0 b→b < B) : WRow e w' S0 B v' (xs++[x]):=by
 have hm:Mv (Hd S0 B v.ownBlock) (Hd S0 B v'.ownBlock) w w':=fun b hb hl=>by
  have hlt:∀ k,v.ownBlock=some k→B≤k:=fun k hk=>by
   obtain⟨vss',-,h2⟩:=h
   exact (h2.lt k hk).1
  refine⟨?_,hg.block b hl ?_⟩
  ·rcases hb with hb | ⟨hb,hn⟩
   ·exact .inl hb
   ·refine .inr ⟨hb,?_⟩
    rcases hw with hw | hw
    ·rw[hw]; exact hn
    ·rw[hw]; intro e1; injection e1 with e1; omega
  ·intro e1
   rcases hb with hb | ⟨hb,hn⟩
   ·have:=h0 b hb
    have:=hlt b e1.symm
    omega
   ·exact hn e1.symm
 refine⟨vss++[vs],(hE.snoc hx).move hm,?_⟩
 rw[List.flatten_append,List.length_append]
 simpa using ho'
theorem append_whereK {P:Program} (w:World) {base:Nat} {t ty e:TypeId} {i:TypeInfo} {z:Value} (ht:P.underlying t=some (.slice e)) (hi:P.info? e=some i) (hz:i.zero=some z)
  {v:Value} {n:Nat} {xs:List Value} (hown:w.ownsRow base e i.size v n xs) {a:Addr} {m c:Nat} {news:List Value} (hl:news.length=m*i.size) (hnews:∀ j u,news[j]?=some u→w.cell? (a.add j)=some u) (h1:∀ u∈news,u.oneCell'=true)
  (h0:0 < m) (h63:n+m≤maxLen) (hbytes:(n+m)*i.bytes≤140737488355328) {v':Value} {w':World} (hr:(Builtin.append_ #[t,t] ty #[v,.slice (some a) m c]).run P w = .ok v' w') :
  v'.ownBlock=v.ownBlock∨v'.ownBlock=some w.heap.size:=by
 unfold maxLen at h63
 rcases hown.2 with ⟨hv,hn⟩ | ⟨g,cap,cur,hv,_,hg,_,_,hcs,_⟩
 ·subst hv; subst hn
  have hx:=run_append_nil (P:=P) w t ty e i z ht hi hz a m c news hl hnews h0 (by omega) (by simp only[Nat.zero_add] at hbytes; omega)
  rw[hx] at hr
  injection hr with hr1 _
  subst hr1
  exact .inr rfl
 ·subst hv
  by_cases hroom:n+m≤cap
  ·have hx:=run_append_room (P:=P) w t ty e i ht hi g n cap cur hg a m c news hl hnews h1 hroom (by rw[hl,hcs,← Nat.add_mul]; exact Nat.mul_le_mul_right _ hroom)
   rw[hx] at hr
   injection hr with hr1 _
   subst hr1
   exact .inl rfl
  ·have hx:=run_append_grow (P:=P) w t ty e i z ht hi hz ⟨g,0,none⟩ n cap xs hown.1 (hown.cells (g:=g) rfl) a m c news hl hnews (by omega) (by omega) (growslice_fits (by omega) hbytes)
   rw[hx] at hr
   injection hr with hr1 _
   subst hr1
   exact .inr rfl
theorem wpList_append_K {α:Type} (e:KE α) {t:TypeId} (ht:Tryz.prog.underlying t=some (.slice e.T)) {z:Value} {bytes:Nat}
  (hinfo:(Tryz.prog.info? e.T).map (fun i=>(i.zero,i.size,i.bytes))=some (some z,e.wd,bytes)) (hzs:z.cells.size=e.wd) (hby:bytes≤200)
  {w:World} {ops:Array Oper} {rest:List Oper} {o:Oper} {a:Act} {Q:Exit→Act→World→Prop} (hg:o.guard=none) (s x:Operand)
  (ho:o.op = .call { callee:=.builtin .append,args:=#[s,x],argTypes:=#[t,t] }) {S0:Nat→Prop} {B:Nat} {v:Value} {xs:List α} (hs:a.eval s=v)
  (h:WRow e w S0 B v xs) (hS0:∀ b,S0 b→b < B) {vs:List Value} {y:α} (hE:e.R w (Hd S0 B v.ownBlock) vs y) {g:Nat} (hx:a.eval x = .slice (some ⟨g,0,none⟩) 1 1)
  (hcell:∀ (j:Nat) (u:Value),vs[j]?=some u→w.cell? ((⟨g,0,none⟩ : Addr).add j)=some u) (h1:∀ u∈vs,u.oneCell'=true) (hB:B≤w.heap.size) (hl:xs.length≤40000000)
  (hK:∀ v' w',WRow e w' S0 B v' (xs++[y])→w.grownBy w' v.ownBlock→(∀ k,v.ownBlock=some k→B≤k)→wpList Tryz.prog ops Q rest (a.put o.dst v') w') : wpList Tryz.prog ops Q (o :: rest) a w:=by
 obtain⟨i0,hi,hz0,hz1,hz2⟩:=info_parts hinfo
 obtain⟨vss,hEl,hown⟩:=id h
 have hby2:(xs.length+1)*bytes≤(xs.length+1)*200:=Nat.mul_le_mul_left _ hby
 have hle:=e.len hE
 obtain⟨v',w',hr,h2,h3,_⟩:=run_append_own (P:=Tryz.prog) w B t o.type e.T i0 z e.wd bytes ht hi hz0 hz1 hz2 hzs e.pos v _ _ hown ⟨g,0,none⟩ 1 1 vs (by rw[hle]; omega) hcell h1 (by unfold maxLen; omega) (by omega) hB
 have h4:=append_whereK (P:=Tryz.prog) w (z:=z) ht hi hz0 (by rw[hz1]; exact hown) (by rw[hz1,hle]; omega) hcell h1 (by omega) (by unfold maxLen; omega) (by rw[hz2]; omega) hr
 exact Lib.wpList_append_run w hg s x t t ho v _ hs hx v' w' hr (hK v' w' (h.app hEl hE h2 h3 h4 hS0) h3 fun k hk=>(hown.lt k hk).1)
end Go.Proofs.YtkjcgkfejdogbaaGreatDoor
namespace Go.Proofs.YtkjcgkfejdogbaaGreatDoor
open Go.ChangeShapes Go.WideShapes Go.ChangeAt Go.RowKit
theorem byte_of {n:Int} (h:(Lit.int .u8 n).wf=true) : ((UInt8.ofNat n.toNat).toNat:Int)=n:=by
 have hb:=bounds_u8 h
 rw[UInt8.toNat_ofNat']; omega
theorem bytes_of {W:World} {x:Addr} {len cap:Nat} {zs:List Int} (hl:len≤cap) (hz:zs.length=cap) (hcell:∀ i,i < zs.length→W.cell? (x.add i)=some (.int .u8 (zs.getD i 0))) (hwz:∀ n∈zs,(Lit.int .u8 n).wf=true) :
  ∃ bb bo l,len=List.length l∧BS W (some x) bb bo l∧l.length≤cap:=by
 obtain⟨b,off,spot⟩:=x
 by_cases h0:len=0
 ·exact⟨0,0,[],h0,⟨fun h=>absurd h (by simp),fun j hj=>absurd hj (by simp)⟩,Nat.zero_le _⟩
 ·have hc:=hcell 0 (by omega)
  have hspot:spot=none:=by simpa [Addr.add] using World.cell?_spot hc
  subst hspot
  have hlt:((zs.take len).map (fun n=>UInt8.ofNat n.toNat)).length=len:=by simp; omega
  refine⟨b,off,(zs.take len).map (fun n=>UInt8.ofNat n.toNat),hlt.symm,⟨fun _=>rfl,fun j hj=>?_⟩,by omega⟩
  have hj':j < zs.length:=by omega
  have hcj:=hcell j hj'
  rw[Go.WideShapes.add_plain] at hcj
  rw[hcj]
  have e:zs.getD j 0=zs[j]:=by simp[hj']
  have hb:=byte_of (hwz zs[j] (List.getElem_mem hj'))
  have e2:((zs.take len).map (fun n=>UInt8.ofNat n.toNat)).getD j 0=UInt8.ofNat zs[j].toNat:=by
   have:j < len:=by omega
   simp[List.getD,this,hj']
  rw[e,e2,hb]
end Go.Proofs.YtkjcgkfejdogbaaGreatDoor
