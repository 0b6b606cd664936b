import Derived.Lib.ItoaNum
import Derived.Test.YtpaecnbdoljafaaGreatDoorBp2
namespace Go.Proofs.YtpaecnbdoljafaaGreatDoor
open Go.RowKit Go.Proofs.Tryz
def RH(v:Value):Option (DataW Value×List MemPlace):=some (.held v,[])
def ZE(xs:List (List UInt8×Value)):DataW Value:=xs.foldl (fun D p=>D.put (.string p.1) (.held p.2)) (.map [])
def Uh(w:Wo)(S:Nat->Prop)(sv:Value)(xs:List Value):Prop:=w.ownsRow 0 61 1 sv xs.length xs/\∀ g,sv.ownBlock=some g->S g
mutual
def zl(w:Wo)(S:Nat->Prop):JV->Value->Prop
 | .nul,v=>v= .iface 237 (.agg #[])
 | .tt,v=>v= .iface 238 (.bool true)
 | .ff,v=>v= .iface 238 (.bool false)
 | .num l,v=>∃ z:Int,v= .iface 277 (.int .i64 z)/\Lib.itoa z=l/\-9223372036854775808<=z/\z<=9223372036854775807
 | .str l,v=>v= .iface 171 (.string (zi l))
 | .arr l,v=>∃ ab sv xs,v= .iface 102 (.pointer (some ⟨ab,0,none⟩))/\S ab/\w.heap[ab]?=some (.cells #[sv] 105 (0,0))/\Uh w S sv xs/\ZB w S l xs
 | .obj m,v=>∃ ob b nn xs,v= .iface 173 (.pointer (some ⟨ob,0,none⟩))/\S ob/\S b/\w.heap[ob]?=some (.cells #[.map (some b)] 175 (0,0))/\w.ownsMap prog 9 RH b nn (ZE xs)/\nn<=xs.length/\Zm w S m xs
def ZB(w:Wo)(S:Nat->Prop):JL->List Value->Prop
 | .nil,xs=>xs=[]
 | .cons v r,xs=>∃ x xs',xs=x :: xs'/\zl w S v x/\ZB w S r xs'
def Zm(w:Wo)(S:Nat->Prop):JM->List (List UInt8×Value)->Prop
 | .nil,xs=>xs=[]
 | .cons k v r,xs=>∃ x xs',xs=(k,x) :: xs'/\zl w S v x/\Zm w S r xs'
end
theorem Vr{w w':Wo}{k:TypeId}{b n:Nat}{D:DataW Value}(h:w.ownsMap prog k RH b n D)(hb:w'.heap[b]?=w.heap[b]?):w'.ownsMap prog k RH b n D:=by
 obtain⟨d,a,f,r⟩:=h;exact⟨d,a,hb.trans f,r⟩
theorem Uh.keep{w w':Wo}{S S':Nat->Prop}{sv:Value}{xs:List Value}(hk:∀ k,S k->w'.heap[k]?=w.heap[k]?)(hS:∀ k,S k->S' k)(h:Uh w S sv xs):Uh w' S' sv xs:=by
 obtain⟨⟨l,d⟩,i⟩:=h;refine⟨⟨l,?_⟩,fun g f=>hS g (i g f)⟩;rcases d with d |⟨g,a,b,j,m,f,r⟩
 ·exact .inl d
 ·exact .inr ⟨g,a,b,j,m,(hk g (i g (by rw[j];rfl))).trans f,r⟩
mutual
theorem zl.keep{w w':Wo}{S S':Nat->Prop}(hk:∀ k,S k->w'.heap[k]?=w.heap[k]?)(hS:∀ k,S k->S' k):∀ (t:JV) (v:Value),zl w S t v->zl w' S' t v
 | .nul,v,h=>by rw[zl]at h ⊢;exact h
 | .tt,v,h=>by rw[zl]at h ⊢;exact h
 | .ff,v,h=>by rw[zl]at h ⊢;exact h
 | .num l,v,h=>by rw[zl]at h ⊢;exact h
 | .str l,v,h=>by rw[zl]at h ⊢;exact h
 | .arr l,v,h=>by
  rw[zl]at h ⊢;obtain⟨ab,sv,xs,h1,h2,h3,h4,h5⟩:=h;exact⟨ab,sv,xs,h1,hS _ h2,(hk _ h2).trans h3,h4.keep hk hS,ZB.keep hk hS l xs h5⟩
 | .obj m,v,h=>by
  rw[zl]at h ⊢;obtain⟨ob,b,nn,xs,h1,h2,h3,h4,h5,h6,h7⟩:=h;exact⟨ob,b,nn,xs,h1,hS _ h2,hS _ h3,(hk _ h2).trans h4,Vr h5 (hk _ h3),h6,Zm.keep hk hS m xs h7⟩
theorem ZB.keep{w w':Wo}{S S':Nat->Prop}(hk:∀ k,S k->w'.heap[k]?=w.heap[k]?)(hS:∀ k,S k->S' k):∀ (l:JL) (xs:List Value),ZB w S l xs->ZB w' S' l xs
 | .nil,xs,h=>by rw[ZB]at h ⊢;exact h
 | .cons v r,xs,h=>by
  rw[ZB]at h ⊢;obtain⟨x,xs',h1,h2,h3⟩:=h;exact⟨x,xs',h1,zl.keep hk hS v x h2,ZB.keep hk hS r xs' h3⟩
theorem Zm.keep{w w':Wo}{S S':Nat->Prop}(hk:∀ k,S k->w'.heap[k]?=w.heap[k]?)(hS:∀ k,S k->S' k):∀ (m:JM) (xs:List (List UInt8×Value)),Zm w S m xs->Zm w' S' m xs
 | .nil,xs,h=>by rw[Zm]at h ⊢;exact h
 | .cons k v r,xs,h=>by
  rw[Zm]at h ⊢;obtain⟨x,xs',h1,h2,h3⟩:=h;exact⟨x,xs',h1,zl.keep hk hS v x h2,Zm.keep hk hS r xs' h3⟩
end
theorem ZB.app{w:Wo}{S:Nat->Prop}:∀ (a b:JL) (xs ys:List Value),ZB w S a xs->ZB w S b ys->ZB w S (a.app b) (xs++ys)
 | .nil,b,xs,ys,h,h'=>by rw[ZB]at h;subst h;exact h'
 | .cons v r,b,xs,ys,h,h'=>by
  rw[ZB]at h;obtain⟨x,xs',rfl,h2,h3⟩:=h;show ZB w S (.cons v (r.app b)) _
  rw[ZB];exact⟨x,xs'++ys,rfl,h2,ZB.app r b xs' ys h3 h'⟩
theorem Zm.app{w:Wo}{S:Nat->Prop}:∀ (a b:JM) (xs ys:List (List UInt8×Value)),Zm w S a xs->Zm w S b ys->Zm w S (a.app b) (xs++ys)
 | .nil,b,xs,ys,h,h'=>by rw[Zm]at h;subst h;exact h'
 | .cons k v r,b,xs,ys,h,h'=>by
  rw[Zm]at h;obtain⟨x,xs',rfl,h2,h3⟩:=h;show Zm w S (.cons k v (r.app b)) _
  rw[Zm];exact⟨x,xs'++ys,rfl,h2,Zm.app r b xs' ys h3 h'⟩
def Q1(rb:Nat)(s:Bs)(tb kt:Bool)(w:Wo)(o:Option (JV×Nat))(e:Ending)(w':Wo):Prop:=
 KB rb w w'/\o.elim (e=QN) fun q=>∃ (t:TypeId) (p:Value),e= .returned (.iface t p)/\zr rb s q.2 (tb || zD q.1) (kt || zw q.1) w' /\
  (zD q.1=false->zw q.1=false->zl w' (fun k=>w.heap.size<=k/\k<w'.heap.size) q.1 (.iface t p))
def Q4(xs:List (List UInt8×Value))(key:List UInt8):Option Value:=xs.foldl (fun o p=>if p.1=key then some p.2 else o) none
theorem FC(xs:List (List UInt8×Value))(k:List UInt8)(v:Value)(key:List UInt8):Q4 (xs++[(k,v)]) key=if k=key then some v else Q4 xs key:=by
 unfold Q4;rw[List.foldl_append];rfl
theorem Wp(xs:List (List UInt8×Value))(k:List UInt8)(v:Value):ZE (xs++[(k,v)])=(ZE xs).put (.string k) (.held v):=by
 unfold ZE;rw[List.foldl_append];rfl
theorem Ui{α:Type}{P:List α->Prop}(h0:P [])(hs:∀ l x,P l->P (l++[x])):∀ l,P l:=fun l=>by
 have:∀ n (l:List α),l.length=n->P l:=fun n=>by
  induction n with
  | zero=>intro l h;rw[yM h];exact h0
  | succ n ih=>
   intro l h;rcases List.eq_nil_or_concat l with e |⟨a,x,e⟩
   ·subst e;simp at h
   ·rw[List.concat_eq_append]at e;subst e;exact hs a x (ih a (by simpa using h))
 exact this l.length l rfl
theorem FD:∀ xs,Maps.IsMap (ZE xs):=by
 refine Ui ⟨[],rfl⟩ ?_;rintro l ⟨k,v⟩ ⟨b,a⟩;rw[Wp,a];exact⟨_,rfl⟩
theorem FE(key:List UInt8)(z:DataW Value):∀ xs,(ZE xs).atKey (.string key) z=(Q4 xs key).elim z .held:=by
 refine Ui rfl ?_;rintro l ⟨k,v⟩ a;rw[Wp,FC];by_cases h:k=key
 ·subst h;rw[yf rfl,Maps.atKey_put_same (FD l) (show WideAt.IsKeyLit (.string k)from trivial)];rfl
 ·rw[ye h,Maps.atKey_put_other (by intro e;injection e with e;exact h e.symm),a]
theorem Rq(key:List UInt8):∀ xs:List (List UInt8×Value),(Q4 xs key).isSome=(xs.map (·.1)).contains key:=by
 refine Ui rfl ?_;rintro l ⟨k,v⟩ a;rw[FC];by_cases h:k=key
 ·subst h;rw[yf rfl];simp
 ·rw[ye h,a];simp only[yv,yh,List.map_nil];rw[Bool.eq_iff_iff];simp;intro e;exact absurd e.symm h
theorem Rr{w:Wo}{b n:Nat}{xs:List (List UInt8×Value)}(h:w.ownsMap prog 9 RH b n (ZE xs))(key:List UInt8)(hk:key.length<=10000000):
  ∃ v,(Instr.lookup 172 (.map (some b)) (.string (zi key)) true).run prog w= .ok (.tuple #[v,.bool (Q4 xs key).isSome]) w/\((Q4 xs key).isSome=true->Q4 xs key=some v):=by
 obtain⟨r,k,p,F,_,o⟩:=h;have j:keyOf prog 9 (.string (zi key))=some (.string key):=by
  have:=WideMaps.keyOf_string_mk underlying9 (s:=zi key) (by rw[zS];unfold maxLen;omega)
  rwa [Zd]at this
 have q:(zeroValue 61).run prog w= .ok .nilIface w:=by kernel_rfl
 have a:=fun z=>FE key z xs;rw[o]at a;rcases Maps.fit_look true (Maps.string_keyed underlying9) underlying172 q p F j with ⟨d,_,i⟩ |⟨m,y,_,_,d,l,i,_⟩
 ·have f:=(i (.held .nilIface)).symm.trans (a (.held .nilIface));have g:=(i (.held (.bool true))).symm.trans (a (.held (.bool true)))
  cases hl:Q4 xs key with
  | none=>exact⟨.nilIface,d,fun h=>by simp at h⟩
  | some v=>
   rw[hl]at f g;exact absurd (f.trans g.symm) (by intro e;injection e with e;cases e)
 ·injection l with l;subst l;have f:=(i (.held .nilIface)).symm.trans (a (.held .nilIface));have g:=(i (.held (.bool true))).symm.trans (a (.held (.bool true)))
  cases hl:Q4 xs key with
  | none=>
   rw[hl]at f g;exact absurd (f.symm.trans g) (by intro e;injection e with e;cases e)
  | some v=>
   rw[hl]at f;injection f with f;exact⟨m.val,d,fun _=>by rw[← f]⟩
end Go.Proofs.YtpaecnbdoljafaaGreatDoor
