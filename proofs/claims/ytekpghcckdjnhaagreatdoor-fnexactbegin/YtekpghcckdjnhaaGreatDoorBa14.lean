import Derived.Lib.ItoaNum
import Derived.Test.YtekpghcckdjnhaaGreatDoorBa6
namespace Go.Proofs.YtekpghcckdjnhaaGreatDoor
open Go.RowKit Go.Proofs.Tryz
def RH (v:Value) : Option (DataW Value×List MemPlace):=some (.held v,[])
def zao (xs:List (List UInt8×Value)) : DataW Value:=xs.foldl (fun D p=>D.put (.string p.1) (.held p.2)) (.map [])
def zkw (w:World) (S:Nat->Prop) (sv:Value) (xs:List Value) : Prop:=w.ownsRow 0 66 1 sv xs.length xs/\∀ g,sv.ownBlock=some g->S g
mutual
def Rep (w:World) (S:Nat->Prop) : JV->Value->Prop
 | .nul,v=>v = .iface 257 (.agg #[])
 | .tt,v=>v = .iface 258 (.bool true)
 | .ff,v=>v = .iface 258 (.bool false)
 | .num l,v=>∃ z:Int,v = .iface 296 (.int .i64 z)/\Lib.itoa z=l/\-9223372036854775808<=z/\z<=9223372036854775807
 | .str l,v=>v = .iface 229 (.string (zac l))
 | .arr l,v=>∃ ab sv xs,v = .iface 195 (.pointer (some ⟨ab,0,none⟩))/\S ab/\w.heap[ab]?=some (.cells #[sv] 198 (0,0))/\zkw w S sv xs/\zbS w S l xs
 | .obj m,v=>∃ ob b nn xs,v = .iface 225 (.pointer (some ⟨ob,0,none⟩))/\S ob/\S b/\w.heap[ob]?=some (.cells #[.map (some b)] 228 (0,0))/\w.ownsMap prog 9 RH b nn (zao xs)/\nn<=xs.length/\zcm w S m xs
def zbS (w:World) (S:Nat->Prop) : JL->List Value->Prop
 | .nil,xs=>xs=[]
 | .cons v r,xs=>∃ x xs',xs=x :: xs'/\Rep w S v x/\zbS w S r xs'
def zcm (w:World) (S:Nat->Prop) : JM->List (List UInt8×Value)->Prop
 | .nil,xs=>xs=[]
 | .cons k v r,xs=>∃ x xs',xs=(k,x) :: xs'/\Rep w S v x/\zcm w S r xs'
end
theorem za1 {w w':World} {k:TypeId} {b n:Nat} {D:DataW Value} (h:w.ownsMap prog k RH b n D) (hb:w'.heap[b]?=w.heap[b]?) : w'.ownsMap prog k RH b n D:=by
 obtain⟨es,clock,h1,r⟩:=h
 exact⟨es,clock,hb.trans h1,r⟩
theorem zkw.keep {w w':World} {S S':Nat->Prop} {sv:Value} {xs:List Value} (hk:∀ k,S k->w'.heap[k]?=w.heap[k]?) (hS:∀ k,S k->S' k) (h:zkw w S sv xs) : zkw w' S' sv xs:=by
 obtain⟨⟨h0,h1⟩,h2⟩:=h
 refine⟨⟨h0,?_⟩,fun g hg=>hS g (h2 g hg)⟩
 rcases h1 with h1 | ⟨g,cap,cur,hv,hB,hg,r⟩
 ·exact .inl h1
 ·exact .inr ⟨g,cap,cur,hv,hB,(hk g (h2 g (by rw[hv]; rfl))).trans hg,r⟩
mutual
theorem Rep.keep {w w':World} {S S':Nat->Prop} (hk:∀ k,S k->w'.heap[k]?=w.heap[k]?) (hS:∀ k,S k->S' k) : ∀ (t:JV) (v:Value),Rep w S t v->Rep w' S' t v
 | .nul,v,h=>by rw[Rep] at h ⊢; exact h
 | .tt,v,h=>by rw[Rep] at h ⊢; exact h
 | .ff,v,h=>by rw[Rep] at h ⊢; exact h
 | .num l,v,h=>by rw[Rep] at h ⊢; exact h
 | .str l,v,h=>by rw[Rep] at h ⊢; exact h
 | .arr l,v,h=>by
  rw[Rep] at h ⊢
  obtain⟨ab,sv,xs,h1,h2,h3,h4,h5⟩:=h
  exact⟨ab,sv,xs,h1,hS _ h2,(hk _ h2).trans h3,h4.keep hk hS,zbS.keep hk hS l xs h5⟩
 | .obj m,v,h=>by
  rw[Rep] at h ⊢
  obtain⟨ob,b,nn,xs,h1,h2,h3,h4,h5,h6,h7⟩:=h
  exact⟨ob,b,nn,xs,h1,hS _ h2,hS _ h3,(hk _ h2).trans h4,za1 h5 (hk _ h3),h6,zcm.keep hk hS m xs h7⟩
theorem zbS.keep {w w':World} {S S':Nat->Prop} (hk:∀ k,S k->w'.heap[k]?=w.heap[k]?) (hS:∀ k,S k->S' k) : ∀ (l:JL) (xs:List Value),zbS w S l xs->zbS w' S' l xs
 | .nil,xs,h=>by rw[zbS] at h ⊢; exact h
 | .cons v r,xs,h=>by
  rw[zbS] at h ⊢
  obtain⟨x,xs',h1,h2,h3⟩:=h
  exact⟨x,xs',h1,Rep.keep hk hS v x h2,zbS.keep hk hS r xs' h3⟩
theorem zcm.keep {w w':World} {S S':Nat->Prop} (hk:∀ k,S k->w'.heap[k]?=w.heap[k]?) (hS:∀ k,S k->S' k) : ∀ (m:JM) (xs:List (List UInt8×Value)),zcm w S m xs->zcm w' S' m xs
 | .nil,xs,h=>by rw[zcm] at h ⊢; exact h
 | .cons k v r,xs,h=>by
  rw[zcm] at h ⊢
  obtain⟨x,xs',h1,h2,h3⟩:=h
  exact⟨x,xs',h1,Rep.keep hk hS v x h2,zcm.keep hk hS r xs' h3⟩
end
theorem zbS.app {w:World} {S:Nat->Prop} : ∀ (a b:JL) (xs ys:List Value),zbS w S a xs->zbS w S b ys->zbS w S (a.app b) (xs++ys)
 | .nil,b,xs,ys,h,h'=>by rw[zbS] at h; subst h; exact h'
 | .cons v r,b,xs,ys,h,h'=>by
  rw[zbS] at h
  obtain⟨x,xs',rfl,h2,h3⟩:=h
  show zbS w S (.cons v (r.app b)) _
  rw[zbS]
  exact⟨x,xs'++ys,rfl,h2,zbS.app r b xs' ys h3 h'⟩
theorem zcm.app {w:World} {S:Nat->Prop} : ∀ (a b:JM) (xs ys:List (List UInt8×Value)),zcm w S a xs->zcm w S b ys->zcm w S (a.app b) (xs++ys)
 | .nil,b,xs,ys,h,h'=>by rw[zcm] at h; subst h; exact h'
 | .cons k v r,b,xs,ys,h,h'=>by
  rw[zcm] at h
  obtain⟨x,xs',rfl,h2,h3⟩:=h
  show zcm w S (.cons k v (r.app b)) _
  rw[zcm]
  exact⟨x,xs'++ys,rfl,h2,zcm.app r b xs' ys h3 h'⟩
def ze0 (rb:Nat) (s:ByteArray) (tb kt:Bool) (w:World) (o:Option (JV×Nat)) (e:Ending) (w':World) : Prop:=
 KB rb w w'/\o.elim (e=mis) fun q=>∃ (t:TypeId) (p:Value),e = .returned (.iface t p)/\Rdr rb s q.2 (tb || zbf q.1) (kt || twV q.1) w' /\
  (zbf q.1=false->twV q.1=false->Rep w' (fun k=>w.heap.size<=k/\k < w'.heap.size) q.1 (.iface t p))
def zeL (xs:List (List UInt8×Value)) (key:List UInt8) : Option Value:=xs.foldl (fun o p=>if p.1=key then some p.2 else o) none
theorem zfU (xs:List (List UInt8×Value)) (k:List UInt8) (v:Value) (key:List UInt8) : zeL (xs++[(k,v)]) key=if k=key then some v else zeL xs key:=by
 unfold zeL; rw[List.foldl_append]; rfl
theorem zbh (xs:List (List UInt8×Value)) (k:List UInt8) (v:Value) : zao (xs++[(k,v)])=(zao xs).put (.string k) (.held v):=by
 unfold zao; rw[List.foldl_append]; rfl
theorem zdw {α:Type} {P:List α->Prop} (h0:P []) (hs:∀ l x,P l->P (l++[x])) : ∀ l,P l:=fun l=>by
 have:∀ n (l:List α),l.length=n->P l:=fun n=>by
  induction n with
  | zero=>intro l h; rw[yN h]; exact h0
  | succ n ih=>
   intro l h
   rcases List.eq_nil_or_concat l with e | ⟨l',x,e⟩
   ·subst e; simp at h
   ·rw[List.concat_eq_append] at e
    subst e
    exact hs l' x (ih l' (by simpa using h))
 exact this l.length l rfl
theorem zfV:∀ xs,Maps.IsMap (zao xs):=by
 refine zdw ⟨[],rfl⟩ ?_
 rintro l ⟨k,v⟩ ⟨es,he⟩
 rw[zbh,he]
 exact⟨_,rfl⟩
theorem zda (key:List UInt8) (z:DataW Value) : ∀ xs,(zao xs).atKey (.string key) z=(zeL xs key).elim z .held:=by
 refine zdw rfl ?_
 rintro l ⟨k,v⟩ ih
 rw[zbh,zfU]
 by_cases h:k=key
 ·subst h
  rw[yg rfl,Maps.atKey_put_same (zfV l) (show WideAt.IsKeyLit (.string k) from trivial)]; rfl
 ·rw[yf h,Maps.atKey_put_other (by intro e; injection e with e; exact h e.symm),ih]
theorem zg0 (key:List UInt8) : ∀ xs:List (List UInt8×Value),(zeL xs key).isSome=(xs.map (·.1)).contains key:=by
 refine zdw rfl ?_
 rintro l ⟨k,v⟩ ih
 rw[zfU]
 by_cases h:k=key
 ·subst h; rw[yg rfl]; simp
 ·rw[yf h,ih]
  simp only[yw,yi,List.map_nil]
  rw[Bool.eq_iff_iff]
  simp
  intro e; exact absurd e.symm h
theorem zjj {w:World} {b n:Nat} {xs:List (List UInt8×Value)} (h:w.ownsMap prog 9 RH b n (zao xs)) (key:List UInt8) (hk:key.length<=10000000) :
  ∃ v,(Instr.lookup 226 (.map (some b)) (.string (zac key)) true).run prog w = .ok (.tuple #[v,.bool (zeL xs key).isSome]) w/\((zeL xs key).isSome=true->zeL xs key=some v):=by
 obtain⟨es,clock,hb,F,_,hD⟩:=h
 have hkey:keyOf prog 9 (.string (zac key))=some (.string key):=by
  have:=WideMaps.keyOf_string_mk underlying9 (s:=zac key) (by rw[zaf]; unfold maxLen; omega)
  rwa [zad] at this
 have hz:(zeroValue 66).run prog w = .ok .nilIface w:=by kernel_rfl
 have hat:=fun z=>zda key z xs
 rw[hD] at hat
 rcases Maps.fit_look true (Maps.string_keyed underlying9) underlying226 hz hb F hkey with ⟨hrun,_,h2⟩ | ⟨e0,y,_,_,hrun,hR,h2,_⟩
 ·have e1:=(h2 (.held .nilIface)).symm.trans (hat (.held .nilIface))
  have e2:=(h2 (.held (.bool true))).symm.trans (hat (.held (.bool true)))
  cases hl:zeL xs key with
  | none=>exact⟨.nilIface,hrun,fun h=>by simp at h⟩
  | some v=>
   rw[hl] at e1 e2
   exact absurd (e1.trans e2.symm) (by intro e; injection e with e; cases e)
 ·injection hR with hR
  subst hR
  have e1:=(h2 (.held .nilIface)).symm.trans (hat (.held .nilIface))
  have e2:=(h2 (.held (.bool true))).symm.trans (hat (.held (.bool true)))
  cases hl:zeL xs key with
  | none=>
   rw[hl] at e1 e2
   exact absurd (e1.symm.trans e2) (by intro e; injection e with e; cases e)
  | some v=>
   rw[hl] at e1
   injection e1 with e1
   exact⟨e0.val,hrun,fun _=>by rw[← e1]⟩
end Go.Proofs.YtekpghcckdjnhaaGreatDoor
