import Derived.Lib.ItoaNum
import Derived.Test.YtgoafoojaceadaaGreatDoorBc2
namespace Go.Proofs.YtgoafoojaceadaaGreatDoor
open Go.RowKit Go.Proofs.Tryz
variable{w w':Wo}{S S':Nat->Prop}{b n:Nat}
def RH(v:Value):Option (DataW Value×List MemPlace):=some (.held v,[])
def Zh(xs:List (List UInt8×Value)):DataW Value:=xs.foldl (fun D p=>D.put (.string p.1) (.held p.2)) (.map [])
def WQ(w:Wo)(S:Nat->Prop)(sv:Value)(xs:List Value):Prop:=w.ownsRow 0 65 1 sv xs.length xs/\∀ g,sv.ownBlock=some g->S g
mutual
def zj(w:Wo)(S:Nat->Prop):JV->Value->Prop
 | .nul,v=>v= .iface 262 (.agg #[])
 | .tt,v=>v= .iface 263 (.bool true)
 | .ff,v=>v= .iface 263 (.bool false)
 | .num l,v=>∃ z:Int,v= .iface 299 (.int .i64 z)/\Lib.itoa z=l/\-9223372036854775808<=z/\z<=9223372036854775807
 | .str l,v=>v= .iface 213 (.string (ze l))
 | .arr l,v=>∃ ab sv xs,v= .iface 146 (.pointer (some ⟨ab,0,none⟩))/\S ab/\w.heap[ab]?=some (.cells #[sv] 149 (0,0))/\WQ w S sv xs/\Zv w S l xs
 | .obj m,v=>∃ ob b nn xs,v= .iface 209 (.pointer (some ⟨ob,0,none⟩))/\S ob/\S b/\w.heap[ob]?=some (.cells #[.map (some b)] 212 (0,0))/\w.ownsMap prog 9 RH b nn (Zh xs)/\nn<=xs.length/\ZE w S m xs
def Zv(w:Wo)(S:Nat->Prop):JL->List Value->Prop
 | .nil,xs=>xs=[]
 | .cons v r,xs=>∃ x xs',xs=x :: xs'/\zj w S v x/\Zv w S r xs'
def ZE(w:Wo)(S:Nat->Prop):JM->List (List UInt8×Value)->Prop
 | .nil,xs=>xs=[]
 | .cons k v r,xs=>∃ x xs',xs=(k,x) :: xs'/\zj w S v x/\ZE w S r xs'
end
theorem Wh{k:TypeId}{D:DataW Value}(h:w.ownsMap prog k RH b n D)(hb:w'.heap[b]?=w.heap[b]?):w'.ownsMap prog k RH b n D:=by
 obtain⟨d,a,f,r⟩:=h;exact⟨d,a,hb.trans f,r⟩
theorem WQ.keep{sv:Value}{xs:List Value}(hk:∀ k,S k->w'.heap[k]?=w.heap[k]?)(hS:∀ k,S k->S' k)(h:WQ w S sv xs):WQ w' S' sv xs:=by
 obtain⟨⟨l,d⟩,i⟩:=h;refine⟨⟨l,?_⟩,fun g f=>hS g (i g f)⟩;rcases d with d |⟨g,a,b,j,m,f,r⟩
 .exact .inl d
 .exact .inr ⟨g,a,b,j,m,(hk g (i g (by rw[j];rfl))).trans f,r⟩
mutual
theorem zj.keep(hk:∀ k,S k->w'.heap[k]?=w.heap[k]?)(hS:∀ k,S k->S' k):∀ (t:JV) (v:Value),zj w S t v->zj w' S' t v
 | .nul,v,h=>by rw[zj]at h ⊢;exact h
 | .tt,v,h=>by rw[zj]at h ⊢;exact h
 | .ff,v,h=>by rw[zj]at h ⊢;exact h
 | .num l,v,h=>by rw[zj]at h ⊢;exact h
 | .str l,v,h=>by rw[zj]at h ⊢;exact h
 | .arr l,v,h=>by
  rw[zj]at h ⊢;obtain⟨ab,sv,xs,h1,h2,h3,h4,h5⟩:=h;exact⟨ab,sv,xs,h1,hS _ h2,(hk _ h2).trans h3,h4.keep hk hS,Zv.keep hk hS l xs h5⟩
 | .obj m,v,h=>by
  rw[zj]at h ⊢;obtain⟨ob,b,nn,xs,h1,h2,h3,h4,h5,h6,h7⟩:=h;exact⟨ob,b,nn,xs,h1,hS _ h2,hS _ h3,(hk _ h2).trans h4,Wh h5 (hk _ h3),h6,ZE.keep hk hS m xs h7⟩
theorem Zv.keep(hk:∀ k,S k->w'.heap[k]?=w.heap[k]?)(hS:∀ k,S k->S' k):∀ (l:JL) (xs:List Value),Zv w S l xs->Zv w' S' l xs
 | .nil,xs,h=>by rw[Zv]at h ⊢;exact h
 | .cons v r,xs,h=>by
  rw[Zv]at h ⊢;obtain⟨x,xs',h1,h2,h3⟩:=h;exact⟨x,xs',h1,zj.keep hk hS v x h2,Zv.keep hk hS r xs' h3⟩
theorem ZE.keep(hk:∀ k,S k->w'.heap[k]?=w.heap[k]?)(hS:∀ k,S k->S' k):∀ (m:JM) (xs:List (List UInt8×Value)),ZE w S m xs->ZE w' S' m xs
 | .nil,xs,h=>by rw[ZE]at h ⊢;exact h
 | .cons k v r,xs,h=>by
  rw[ZE]at h ⊢;obtain⟨x,xs',h1,h2,h3⟩:=h;exact⟨x,xs',h1,zj.keep hk hS v x h2,ZE.keep hk hS r xs' h3⟩
end
theorem Zv.app:∀ (a b:JL) (xs ys:List Value),Zv w S a xs->Zv w S b ys->Zv w S (a.app b) (xs++ys)
 | .nil,b,xs,ys,h,h'=>by rw[Zv]at h;subst h;exact h'
 | .cons v r,b,xs,ys,h,h'=>by
  rw[Zv]at h;obtain⟨x,xs',rfl,h2,h3⟩:=h;show Zv w S (.cons v (r.app b)) _
  rw[Zv];exact⟨x,xs'++ys,rfl,h2,Zv.app r b xs' ys h3 h'⟩
theorem ZE.app:∀ (a b:JM) (xs ys:List (List UInt8×Value)),ZE w S a xs->ZE w S b ys->ZE w S (a.app b) (xs++ys)
 | .nil,b,xs,ys,h,h'=>by rw[ZE]at h;subst h;exact h'
 | .cons k v r,b,xs,ys,h,h'=>by
  rw[ZE]at h;obtain⟨x,xs',rfl,h2,h3⟩:=h;show ZE w S (.cons k v (r.app b)) _
  rw[ZE];exact⟨x,xs'++ys,rfl,h2,ZE.app r b xs' ys h3 h'⟩
def Yq(rb:Nat)(s:Bs)(tb kt:Bool)(w:Wo)(o:Option (JV×Nat))(e:Ending)(w':Wo):Prop:=
 KB rb w w'/\o.elim (e=JW) fun q=>∃ (t:TypeId) (p:Value),e= .returned (.iface t p)/\zr rb s q.2 (tb || zY q.1) (kt || zF q.1) w' /\
  (zY q.1=false->zF q.1=false->zj w' (fun k=>w.heap.size<=k/\k<w'.heap.size) q.1 (.iface t p))
def J7(xs:List (List UInt8×Value))(key:List UInt8):Option Value:=xs.foldl (fun o p=>if p.1=key then some p.2 else o) none
theorem SA(xs:List (List UInt8×Value))(k:List UInt8)(v:Value)(key:List UInt8):J7 (xs++[(k,v)]) key=if k=key then some v else J7 xs key:=by
 unfold J7;rw[List.foldl_append];rfl
theorem Wi(xs:List (List UInt8×Value))(k:List UInt8)(v:Value):Zh (xs++[(k,v)])=(Zh xs).put (.string k) (.held v):=by
 unfold Zh;rw[List.foldl_append];rfl
theorem UM{α:Type}{P:List α->Prop}(h0:P [])(hs:∀ l x,P l->P (l++[x])):∀ l,P l:=fun l=>by
 have:∀ n (l:List α),l.length=n->P l:=fun n=>by
  induction n with
  | zero=>intro l h;rw[yO h];exact h0
  | succ n ih=>
   intro l h;rcases List.eq_nil_or_concat l with e |⟨a,x,e⟩
   .subst e;simp at h
   .rw[List.concat_eq_append]at e;subst e;exact hs a x (ih a (by simpa using h))
 exact this l.length l rfl
theorem SB:∀ xs,Maps.IsMap (Zh xs):=by
 refine UM ⟨[],rfl⟩ ?_;rintro l ⟨k,v⟩ ⟨b,a⟩;rw[Wi,a];exact⟨_,rfl⟩
theorem Xf(key:List UInt8)(z:DataW Value):∀ xs,(Zh xs).atKey (.string key) z=(J7 xs key).elim z .held:=by
 refine UM rfl ?_;rintro l ⟨k,v⟩ a;rw[Wi,SA];by_cases h:k=key
 .subst h;rw[yg rfl,Maps.atKey_put_same (SB l) (show WideAt.IsKeyLit (.string k)from trivial)];rfl
 .rw[yf h,Maps.atKey_put_other (by intro e;injection e with e;exact h e.symm),a]
theorem SC(key:List UInt8):∀ xs:List (List UInt8×Value),(J7 xs key).isSome=(xs.map (·.1)).contains key:=by
 refine UM rfl ?_;rintro l ⟨k,v⟩ a;rw[SA];by_cases h:k=key
 .subst h;rw[yg rfl];simp
 .rw[yf h,a];simp only[yx,yi,List.map_nil];rw[Bool.eq_iff_iff];simp;intro e;exact absurd e.symm h
theorem SE{xs:List (List UInt8×Value)}(h:w.ownsMap prog 9 RH b n (Zh xs))(key:List UInt8)(hk:key.length<=10000000):
  ∃ v,(Instr.lookup 210 (.map (some b)) (.string (ze key)) true).run prog w= .ok (.tuple #[v,.bool (J7 xs key).isSome]) w/\((J7 xs key).isSome=true->J7 xs key=some v):=by
 obtain⟨r,k,p,F,_,o⟩:=h;have j:keyOf prog 9 (.string (ze key))=some (.string key):=by
  have:=WideMaps.keyOf_string_mk underlying9 (s:=ze key) (by rw[zK];unfold maxLen;omega)
  rwa [Zb]at this
 have q:(zeroValue 65).run prog w= .ok .nilIface w:=kr;have a:=fun z=>Xf key z xs;rw[o]at a;rcases Maps.fit_look true (Maps.string_keyed underlying9) underlying210 q p F j with ⟨d,_,i⟩ |⟨m,y,_,_,d,l,i,_⟩
 .have f:=(i (.held .nilIface)).symm.trans (a (.held .nilIface));have g:=(i (.held (.bool true))).symm.trans (a (.held (.bool true)))
  cases hl:J7 xs key with
  | none=>exact⟨.nilIface,d,fun h=>by simp at h⟩
  | some v=>
   rw[hl]at f g;exact absurd (f.trans g.symm) (by intro e;injection e with e;cases e)
 .injection l with l;subst l;have f:=(i (.held .nilIface)).symm.trans (a (.held .nilIface));have g:=(i (.held (.bool true))).symm.trans (a (.held (.bool true)))
  cases hl:J7 xs key with
  | none=>
   rw[hl]at f g;exact absurd (f.symm.trans g) (by intro e;injection e with e;cases e)
  | some v=>
   rw[hl]at f;injection f with f;exact⟨m.val,d,fun _=>by rw[← f]⟩
