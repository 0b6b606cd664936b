import Derived.Lib.ItoaNum
import Derived.Test.YtekpghcckdjnhaaGreatDoorBz3
namespace Go.Proofs.YtekpghcckdjnhaaGreatDoor
open Go.RowKit Go.Proofs.Tryz
def RH(v:Value):Option (DataW Value×List MemPlace):=some (.held v,[])
def Zb(xs:List (List UInt8×Value)):DataW Value:=xs.foldl (fun D p=>D.put (.string p.1) (.held p.2)) (.map [])
def GV(w:Wo)(S:Nat->Prop)(sv:Value)(xs:List Value):Prop:=w.ownsRow 0 66 1 sv xs.length xs/\∀ g,sv.ownBlock=some g->S g
mutual
def zi(w:Wo)(S:Nat->Prop):JV->Value->Prop
 | .nul,v=>v= .iface 257 (.agg #[])
 | .tt,v=>v= .iface 258 (.bool true)
 | .ff,v=>v= .iface 258 (.bool false)
 | .num l,v=>∃ z:Int,v= .iface 296 (.int .i64 z)/\Lib.itoa z=l/\-9223372036854775808<=z/\z<=9223372036854775807
 | .str l,v=>v= .iface 229 (.string (ze l))
 | .arr l,v=>∃ ab sv xs,v= .iface 195 (.pointer (some ⟨ab,0,none⟩))/\S ab/\w.heap[ab]?=some (.cells #[sv] 198 (0,0))/\GV w S sv xs/\Zl w S l xs
 | .obj m,v=>∃ ob b nn xs,v= .iface 225 (.pointer (some ⟨ob,0,none⟩))/\S ob/\S b/\w.heap[ob]?=some (.cells #[.map (some b)] 228 (0,0))/\w.ownsMap prog 9 RH b nn (Zb xs)/\nn<=xs.length/\Zu w S m xs
def Zl(w:Wo)(S:Nat->Prop):JL->List Value->Prop
 | .nil,xs=>xs=[]
 | .cons v r,xs=>∃ x xs',xs=x :: xs'/\zi w S v x/\Zl w S r xs'
def Zu(w:Wo)(S:Nat->Prop):JM->List (List UInt8×Value)->Prop
 | .nil,xs=>xs=[]
 | .cons k v r,xs=>∃ x xs',xs=(k,x) :: xs'/\zi w S v x/\Zu w S r xs'
end
theorem VZ{w w':Wo}{k:TypeId}{b n:Nat}{D:DataW Value}(h:w.ownsMap prog k RH b n D)(hb:w'.heap[b]?=w.heap[b]?):w'.ownsMap prog k RH b n D:=by
 obtain⟨d,a,f,r⟩:=h;exact⟨d,a,hb.trans f,r⟩
theorem GV.keep{w w':Wo}{S S':Nat->Prop}{sv:Value}{xs:List Value}(hk:∀ k,S k->w'.heap[k]?=w.heap[k]?)(hS:∀ k,S k->S' k)(h:GV w S sv xs):GV w' S' sv xs:=by
 obtain⟨⟨l,d⟩,i⟩:=h;refine⟨⟨l,?_⟩,fun g f=>hS g (i g f)⟩;rcases d with d |⟨g,a,b,j,m,f,r⟩
 ·exact .inl d
 ·exact .inr ⟨g,a,b,j,m,(hk g (i g (by rw[j];rfl))).trans f,r⟩
mutual
theorem zi.keep{w w':Wo}{S S':Nat->Prop}(hk:∀ k,S k->w'.heap[k]?=w.heap[k]?)(hS:∀ k,S k->S' k):∀ (t:JV) (v:Value),zi w S t v->zi w' S' t v
 | .nul,v,h=>by rw[zi]at h ⊢;exact h
 | .tt,v,h=>by rw[zi]at h ⊢;exact h
 | .ff,v,h=>by rw[zi]at h ⊢;exact h
 | .num l,v,h=>by rw[zi]at h ⊢;exact h
 | .str l,v,h=>by rw[zi]at h ⊢;exact h
 | .arr l,v,h=>by
  rw[zi]at h ⊢;obtain⟨ab,sv,xs,h1,h2,h3,h4,h5⟩:=h;exact⟨ab,sv,xs,h1,hS _ h2,(hk _ h2).trans h3,h4.keep hk hS,Zl.keep hk hS l xs h5⟩
 | .obj m,v,h=>by
  rw[zi]at h ⊢;obtain⟨ob,b,nn,xs,h1,h2,h3,h4,h5,h6,h7⟩:=h;exact⟨ob,b,nn,xs,h1,hS _ h2,hS _ h3,(hk _ h2).trans h4,VZ h5 (hk _ h3),h6,Zu.keep hk hS m xs h7⟩
theorem Zl.keep{w w':Wo}{S S':Nat->Prop}(hk:∀ k,S k->w'.heap[k]?=w.heap[k]?)(hS:∀ k,S k->S' k):∀ (l:JL) (xs:List Value),Zl w S l xs->Zl w' S' l xs
 | .nil,xs,h=>by rw[Zl]at h ⊢;exact h
 | .cons v r,xs,h=>by
  rw[Zl]at h ⊢;obtain⟨x,xs',h1,h2,h3⟩:=h;exact⟨x,xs',h1,zi.keep hk hS v x h2,Zl.keep hk hS r xs' h3⟩
theorem Zu.keep{w w':Wo}{S S':Nat->Prop}(hk:∀ k,S k->w'.heap[k]?=w.heap[k]?)(hS:∀ k,S k->S' k):∀ (m:JM) (xs:List (List UInt8×Value)),Zu w S m xs->Zu w' S' m xs
 | .nil,xs,h=>by rw[Zu]at h ⊢;exact h
 | .cons k v r,xs,h=>by
  rw[Zu]at h ⊢;obtain⟨x,xs',h1,h2,h3⟩:=h;exact⟨x,xs',h1,zi.keep hk hS v x h2,Zu.keep hk hS r xs' h3⟩
end
theorem Zl.app{w:Wo}{S:Nat->Prop}:∀ (a b:JL) (xs ys:List Value),Zl w S a xs->Zl w S b ys->Zl w S (a.app b) (xs++ys)
 | .nil,b,xs,ys,h,h'=>by rw[Zl]at h;subst h;exact h'
 | .cons v r,b,xs,ys,h,h'=>by
  rw[Zl]at h;obtain⟨x,xs',rfl,h2,h3⟩:=h;show Zl w S (.cons v (r.app b)) _
  rw[Zl];exact⟨x,xs'++ys,rfl,h2,Zl.app r b xs' ys h3 h'⟩
theorem Zu.app{w:Wo}{S:Nat->Prop}:∀ (a b:JM) (xs ys:List (List UInt8×Value)),Zu w S a xs->Zu w S b ys->Zu w S (a.app b) (xs++ys)
 | .nil,b,xs,ys,h,h'=>by rw[Zu]at h;subst h;exact h'
 | .cons k v r,b,xs,ys,h,h'=>by
  rw[Zu]at h;obtain⟨x,xs',rfl,h2,h3⟩:=h;show Zu w S (.cons k v (r.app b)) _
  rw[Zu];exact⟨x,xs'++ys,rfl,h2,Zu.app r b xs' ys h3 h'⟩
def JR(rb:Nat)(s:Bs)(tb kt:Bool)(w:Wo)(o:Option (JV×Nat))(e:Ending)(w':Wo):Prop:=
 KB rb w w'/\o.elim (e=Jg) fun q=>∃ (t:TypeId) (p:Value),e= .returned (.iface t p)/\zo rb s q.2 (tb || zY q.1) (kt || zy q.1) w' /\
  (zY q.1=false->zy q.1=false->zi w' (fun k=>w.heap.size<=k/\k<w'.heap.size) q.1 (.iface t p))
def JB(xs:List (List UInt8×Value))(key:List UInt8):Option Value:=xs.foldl (fun o p=>if p.1=key then some p.2 else o) none
theorem RG(xs:List (List UInt8×Value))(k:List UInt8)(v:Value)(key:List UInt8):JB (xs++[(k,v)]) key=if k=key then some v else JB xs key:=by
 unfold JB;rw[List.foldl_append];rfl
theorem V2(xs:List (List UInt8×Value))(k:List UInt8)(v:Value):Zb (xs++[(k,v)])=(Zb xs).put (.string k) (.held v):=by
 unfold Zb;rw[List.foldl_append];rfl
theorem WK{α:Type}{P:List α->Prop}(h0:P [])(hs:∀ l x,P l->P (l++[x])):∀ l,P l:=fun l=>by
 have:∀ n (l:List α),l.length=n->P l:=fun n=>by
  induction n with
  | zero=>intro l h;rw[yN h];exact h0
  | succ n ih=>
   intro l h;rcases List.eq_nil_or_concat l with e |⟨a,x,e⟩
   ·subst e;simp at h
   ·rw[List.concat_eq_append]at e;subst e;exact hs a x (ih a (by simpa using h))
 exact this l.length l rfl
theorem RI:∀ xs,Maps.IsMap (Zb xs):=by
 refine WK ⟨[],rfl⟩ ?_;rintro l ⟨k,v⟩ ⟨b,a⟩;rw[V2,a];exact⟨_,rfl⟩
theorem UL(key:List UInt8)(z:DataW Value):∀ xs,(Zb xs).atKey (.string key) z=(JB xs key).elim z .held:=by
 refine WK rfl ?_;rintro l ⟨k,v⟩ a;rw[V2,RG];by_cases h:k=key
 ·subst h;rw[yg rfl,Maps.atKey_put_same (RI l) (show WideAt.IsKeyLit (.string k)from trivial)];rfl
 ·rw[yf h,Maps.atKey_put_other (by intro e;injection e with e;exact h e.symm),a]
theorem RJ(key:List UInt8):∀ xs:List (List UInt8×Value),(JB xs key).isSome=(xs.map (·.1)).contains key:=by
 refine WK rfl ?_;rintro l ⟨k,v⟩ a;rw[RG];by_cases h:k=key
 ·subst h;rw[yg rfl];simp
 ·rw[yf h,a];simp only[yw,yi,List.map_nil];rw[Bool.eq_iff_iff];simp;intro e;exact absurd e.symm h
theorem RK{w:Wo}{b n:Nat}{xs:List (List UInt8×Value)}(h:w.ownsMap prog 9 RH b n (Zb xs))(key:List UInt8)(hk:key.length<=10000000):
  ∃ v,(Instr.lookup 226 (.map (some b)) (.string (ze key)) true).run prog w= .ok (.tuple #[v,.bool (JB xs key).isSome]) w/\((JB xs key).isSome=true->JB xs key=some v):=by
 obtain⟨r,k,p,F,_,o⟩:=h;have j:keyOf prog 9 (.string (ze key))=some (.string key):=by
  have:=WideMaps.keyOf_string_mk underlying9 (s:=ze key) (by rw[Zw];unfold maxLen;omega)
  rwa [Zf]at this
 have q:(zeroValue 66).run prog w= .ok .nilIface w:=by kernel_rfl
 have a:=fun z=>UL key z xs;rw[o]at a;rcases Maps.fit_look true (Maps.string_keyed underlying9) underlying226 q p F j with ⟨d,_,i⟩ |⟨m,y,_,_,d,l,i,_⟩
 ·have f:=(i (.held .nilIface)).symm.trans (a (.held .nilIface));have g:=(i (.held (.bool true))).symm.trans (a (.held (.bool true)))
  cases hl:JB xs key with
  | none=>exact⟨.nilIface,d,fun h=>by simp at h⟩
  | some v=>
   rw[hl]at f g;exact absurd (f.trans g.symm) (by intro e;injection e with e;cases e)
 ·injection l with l;subst l;have f:=(i (.held .nilIface)).symm.trans (a (.held .nilIface));have g:=(i (.held (.bool true))).symm.trans (a (.held (.bool true)))
  cases hl:JB xs key with
  | none=>
   rw[hl]at f g;exact absurd (f.symm.trans g) (by intro e;injection e with e;cases e)
  | some v=>
   rw[hl]at f;injection f with f;exact⟨m.val,d,fun _=>by rw[← f]⟩
end Go.Proofs.YtekpghcckdjnhaaGreatDoor
