import Derived.Stop.Asserts
import Derived.Test.YtpaecnbdoljafaaGreatDoorBz1
set_option maxRecDepth 100000
set_option maxHeartbeats 8000000
namespace Go.Proofs.YtpaecnbdoljafaaGreatDoor
open Go.RowKit Go.Extern.Stop Go.Stop Go.Extern Go.Proofs.Tryz
theorem zfq(t:Value)(w:Wo):Calls prog 80 #[.nilIface,t] w fun e w'=>e= .returned (.bool false)/\w=w':=by
 go_in;go_wp2;go_ret;exact⟨rfl,rfl⟩
theorem Ei(z:Sem Value)(f:TypeId->Addr->Nat->Nat->Sem Value)(v:Value):
  ReflectliteValue.method z f #[v]=(do match ← ReflectliteValue.parts v with | none=>z | some (t,a,fl)=>f t a fl (fl % 32)):=rfl
theorem zfr(v x:Value):ReflectliteValue.set #[v,x]=(do
  let (some (dst,a,fl),some (src,b,_)):=(← ReflectliteValue.parts v,← ReflectliteValue.parts x)
   | unsupported (.noEntry "extern/(internal/reflectlite.Value).Set.zeroValue")
  if fl / ReflectliteValue.flagAddr % 2 == 0 then unsupported (.noEntry "extern/(internal/reflectlite.Value).Set.unaddressable")
  let val ← loadVar src b
  if ← Rtype.directlyAssignable dst src then storeVar dst a val
  else if ← Rtype.implements dst src then
   if (← Rtype.kind src) ==20 then
    match val with
    | .nilIface => unsupported (.noEntry "extern/reflectlite: a nil value of one interface type handed on as a value of another")
    | _=>storeVar dst a val
   else storeVar dst a (.iface src val)
  else panicString ("reflectlite.Set: value of type " ++ (← Rtype.spelt src) ++ " is not assignable to type " ++ (← Rtype.spelt dst))
  pure (.tuple #[])):=rfl
theorem zfs (h : Value) (w : World) : (Go.method 477 241 (.agg #[h]) "Kind").run Tryz.prog w = .ok (305, h) w := by kernel_rfl
theorem zft (h : Value) (w : World) : (Go.method 477 241 (.agg #[h]) "Elem").run Tryz.prog w = .ok (326, .agg #[h]) w := by kernel_rfl
theorem zfu (h : Value) (w : World) : (Go.method 477 241 (.agg #[h]) "Implements").run Tryz.prog w = .ok (327, .agg #[h]) w := by kernel_rfl
theorem zfv (h : Value) (w : World) : (Go.method 477 241 (.agg #[h]) "AssignableTo").run Tryz.prog w = .ok (324, .agg #[h]) w := by kernel_rfl
def QP(q p:Nat):Prop:=q=145/\p=138∨q=146/\p=141
structure AsF(q p:Nat):Prop where
 fTy : ∀ (a : Addr) (w : World), (ReflectliteValue.methodAny (ReflectliteValue.valueError "reflectlite.Value.Type" 0) (fun t _ _ _ => ReflectliteType.toType t) #[.agg #[.pointer (some ⟨9, q, none⟩), .pointer (some a), .int .u64 150]]).run Tryz.prog w = .ok (.iface 241 (.agg #[.pointer (some ⟨9, q, none⟩)])) w
 fKq:∀ w:Wo,((ReflectliteType.abiMethod fun t=>(fun a:Nat=>Value.int IntKind.u8 (a:Int)) <$> Rtype.kind t) #[.pointer (some ⟨9,q,none⟩)]).run prog w= .ok (.int .u8 22) w
 fKp:∀ w:Wo,((ReflectliteType.abiMethod fun t=>(fun a:Nat=>Value.int IntKind.u8 (a:Int)) <$> Rtype.kind t) #[.pointer (some ⟨9,p,none⟩)]).run prog w= .ok (.int .u8 22) w
 fEl:∀ w:Wo,(ReflectliteType.method ReflectliteType.elem #[.agg #[.pointer (some ⟨9,q,none⟩)]]).run prog w= .ok (.iface 241 (.agg #[.pointer (some ⟨9,p,none⟩)])) w
 fIm : ∀ w : World, (ReflectliteType.relation "Implements" ReflectliteType.implements_ #[.agg #[.pointer (some ⟨9, p, none⟩)], .iface 241 (.agg #[.pointer (some ⟨9, 71, none⟩)])]).run Tryz.prog w = .ok (.bool true) w
 fAs : ∀ w : World, (ReflectliteType.relation "AssignableTo" ReflectliteType.assignableTo #[.agg #[.pointer (some ⟨9, p, none⟩)], .iface 241 (.agg #[.pointer (some ⟨9, p, none⟩)])]).run Tryz.prog w = .ok (.bool true) w
 fEo:∀ w:Wo,(Rtype.elem? q).run prog w= .ok (some p) w
 fMk:∀ (a:Addr) (w:Wo),(ReflectliteValue.mk p a ReflectliteValue.flagAddr).run prog w= .ok (.agg #[.pointer (some ⟨9,p,none⟩),.pointer (some a),.int .u64 406]) w
 fPa:∀ (a:Addr) (w:Wo),(ReflectliteValue.parts (.agg #[.pointer (some ⟨9,p,none⟩),.pointer (some a),.int .u64 406])).run prog w= .ok (some (p,a,406)) w
 fDi:∀ w:Wo,(Rtype.directlyAssignable p p).run prog w= .ok true w
 fVo:∀ (a:Addr) (w:Wo) (t:Nat),t=q∨t=p->(ReflectliteValue.unpack (.iface t (.pointer (some a)))).run prog w= .ok (.agg #[.pointer (some ⟨9,t,none⟩),.pointer (some ⟨w.heap.size,0,none⟩),.int .u64 150]) (w.alloc (.cells #[.pointer (some a)] t))
 fPt:∀ (a:Addr) (w:Wo) (t:Nat),t=q∨t=p->(ReflectliteValue.parts (.agg #[.pointer (some ⟨9,t,none⟩),.pointer (some a),.int .u64 150])).run prog w= .ok (some (t,a,150)) w
theorem Vf{q p:Nat}(h:QP q p):AsF q p:=by
 rcases h with ⟨rfl,rfl⟩ |⟨rfl,rfl⟩<;>exact⟨by intros;kernel_rfl,by intros;kernel_rfl,by intros;kernel_rfl,by intros;kernel_rfl,by intros;kernel_rfl,by intros;kernel_rfl,by intros;kernel_rfl,by intros;kernel_rfl,by intros;kernel_rfl,by intros;kernel_rfl,by rintro a w t (rfl | rfl)<;>kernel_rfl,by rintro a w t (rfl | rfl)<;>kernel_rfl⟩
theorem nlQ{q p:Nat}(h:QP q p)(a t:Addr)(W:Wo)(ha:W.cell? a=some (.pointer (some t))):
  (ReflectliteValue.method (ReflectliteValue.valueError "reflectlite.Value.IsNil" 0) ReflectliteValue.isNil #[.agg #[.pointer (some ⟨9, q, none⟩), .pointer (some a), .int .u64 150]]).run Tryz.prog W = .ok (.bool false) W := by
 rw[Ei];simp only[Sem.run_bind,(Vf h).fPt _ _ q (.inl rfl),Result.andThen];rcases h with ⟨rfl,rfl⟩ |⟨rfl,rfl⟩<;>simp[ReflectliteValue.isNil,loadVar,isAgg,underlying,underlying145,underlying146,ha,Result.andThen]
theorem evQ{q p:Nat}(h:QP q p)(a t:Addr)(W:Wo)(ha:W.cell? a=some (.pointer (some t))):
  (ReflectliteValue.method (ReflectliteValue.valueError "reflectlite.Value.Elem" 0) ReflectliteValue.elem #[.agg #[.pointer (some ⟨9, q, none⟩), .pointer (some a), .int .u64 150]]).run Tryz.prog W = .ok (.agg #[.pointer (some ⟨9, p, none⟩), .pointer (some t), .int .u64 406]) W := by
 have F:=Vf h;rw[Ei];simp only[Sem.run_bind,F.fPt _ _ q (.inl rfl),Result.andThen];rcases h with ⟨rfl,rfl⟩ |⟨rfl,rfl⟩<;>simp[ReflectliteValue.elem,loadVar,isAgg,underlying,underlying145,underlying146,ha,Result.andThen,F.fEo,F.fMk]
theorem seP{q p:Nat}(h:QP q p)(ta b e:Addr)(old:Value)(W:Wo)(hb:W.cell? b=some (.pointer (some e)))(ht:W.cell? ta=some old)(hf:W.frozen? ta=false):
  (ReflectliteValue.set #[.agg #[.pointer (some ⟨9,p,none⟩),.pointer (some ta),.int .u64 406],.agg #[.pointer (some ⟨9,p,none⟩),.pointer (some b),.int .u64 150]]).run prog W= .ok (.tuple #[]) (W.setCell ta (.pointer (some e))):=by
 have F:=Vf h;rw[zfr];simp only[Sem.run_bind,F.fPa,F.fPt _ _ p (.inr rfl),Result.andThen];rcases h with ⟨rfl,rfl⟩ |⟨rfl,rfl⟩<;>(simp[ReflectliteValue.flagAddr,loadVar,isAgg,underlying,underlying138,underlying141,hb,Result.andThen,F.fDi,storeVar,Value.cells,storeCells,Addr.add];rw[run_store prog W ta _ _ (by rfl)];simp[ht,hf])
theorem Ej{q p:Nat}(h:QP q p)(v:Value)(w:Wo):(ReflectliteType.typeOf #[.iface p v]).run prog w= .ok (.iface 241 (.agg #[.pointer (some ⟨9,p,none⟩)])) w:=by rcases h with ⟨rfl,rfl⟩ |⟨rfl,rfl⟩<;>kernel_rfl
theorem zfA (w : World) : (ReflectliteType.relation "AssignableTo" ReflectliteType.assignableTo #[.agg #[.pointer (some ⟨9, 141, none⟩)], .iface 241 (.agg #[.pointer (some ⟨9, 138, none⟩)])]).run Tryz.prog w = .ok (.bool false) w := by kernel_rfl
theorem zfB(a:Addr)(w:Wo):(Instr.typeAssert (.iface 141 (.pointer (some a))) 71 246 true).run prog w= .ok (.tuple #[.nilIface,.bool false]) w:=run_typeAssert_lacksB underlying246 (by kernel_rfl) (by kernel_rfl) _ _ w
theorem zfC(a:Addr)(w:Wo):(Instr.typeAssert (.iface 141 (.pointer (some a))) 71 249 true).run prog w= .ok (.tuple #[.iface 141 (.pointer (some a)),.bool true]) w:=run_typeAssert_hasB underlying249 (by kernel_rfl) _ _ w
theorem zfD (v : Value) (w : World) : (Go.method 477 141 v "Unwrap").run Tryz.prog w = .ok (311, v) w := by kernel_rfl
def W6(q p:Nat)(e t:Addr)(w:Wo):Wo:=(((w.alloc (.cells #[.pointer (some t)] q)).alloc (.cells #[.pointer (some ⟨9,q,none⟩),.pointer (some ⟨w.heap.size,0,none⟩),.int .u64 150] 191)).alloc (.cells #[.pointer (some ⟨9,q,none⟩),.pointer (some ⟨w.heap.size,0,none⟩),.int .u64 150] 191)).alloc (.cells #[.pointer (some e)] p)
theorem SF{w:Wo}{a:Addr}{v:Value}(h:w.cell? a=some v):a.block<w.heap.size:=by
 rcases Nat.lt_or_ge a.block w.heap.size with g | g
 ·exact g
 ·simp[World.cell?,Array.getElem?_eq_none g]at h
theorem zfE{q p:Nat}(h:QP q p)(e t:Addr)(x old:Value)(w:Wo)(hx:p=141/\x= .iface 141 (.pointer (some e))∨p=138/\∃ o,x= .iface 141 (.pointer (some ⟨o,0,none⟩))/\w.cell? ⟨o,1,none⟩=some (.iface 138 (.pointer (some e))))(hg:w.cell? ⟨0,0,none⟩=some (.iface 241 (.agg #[.pointer (some ⟨9,71,none⟩)])))(ht0:w.cell? t=some old)(hf0:w.frozen? t=false):
  Calls prog 80 #[x,.iface q (.pointer (some t))] w fun ev w'=>ev= .returned (.bool true)/\w'=(W6 q p e t w).setCell t (.pointer (some e)):=by
 have h6:=@run_callFunc_extern prog 126 _ (fun args=>ReflectliteValue.unpack (args.getD 0 (.tuple #[]))) func126 (by kernel_rfl) (by kernel_rfl) (by kernel_rfl) (by kernel_rfl)
 have h7 := @run_callFunc_extern Tryz.prog 127 _ (ReflectliteValue.methodAny (ReflectliteValue.valueError "reflectlite.Value.Type" 0) (fun t _ _ _ => ReflectliteType.toType t)) Tryz.func127 (by kernel_rfl) (by kernel_rfl) (by kernel_rfl) (by kernel_rfl)
 have h8 := @run_callFunc_extern Tryz.prog 128 _ (ReflectliteValue.method (ReflectliteValue.valueError "reflectlite.Value.IsNil" 0) ReflectliteValue.isNil) Tryz.func128 (by kernel_rfl) (by kernel_rfl) (by kernel_rfl) (by kernel_rfl)
 have h27:=@run_callFunc_extern prog 305 _ (ReflectliteType.abiMethod fun t=>do pure (.int .u8 (← Rtype.kind t))) func305 (by kernel_rfl) (by kernel_rfl) (by kernel_rfl) (by kernel_rfl);have h37:=@run_callFunc_extern prog 326 _ (ReflectliteType.method ReflectliteType.elem) func326 (by kernel_rfl) (by kernel_rfl) (by kernel_rfl) (by kernel_rfl)
 have h38 := @run_callFunc_extern Tryz.prog 327 _ (ReflectliteType.relation "Implements" ReflectliteType.implements_) Tryz.func327 (by kernel_rfl) (by kernel_rfl) (by kernel_rfl) (by kernel_rfl)
 have h10:=@run_callFunc_extern prog 171 _ ReflectliteType.typeOf func171 (by kernel_rfl) (by kernel_rfl) (by kernel_rfl) (by kernel_rfl)
 have h35 := @run_callFunc_extern Tryz.prog 324 _ (ReflectliteType.relation "AssignableTo" ReflectliteType.assignableTo) Tryz.func324 (by kernel_rfl) (by kernel_rfl) (by kernel_rfl) (by kernel_rfl)
 have h11 := @run_callFunc_extern Tryz.prog 172 _ (ReflectliteValue.method (ReflectliteValue.valueError "reflectlite.Value.Elem" 0) ReflectliteValue.elem) Tryz.func172 (by kernel_rfl) (by kernel_rfl) (by kernel_rfl) (by kernel_rfl)
 have h12:=@run_callFunc_extern prog 173 _ ReflectliteValue.set func173 (by kernel_rfl) (by kernel_rfl) (by kernel_rfl) (by kernel_rfl);have tO:=Ej h;have mA:=zfv;have a25:=(Vf h).fAs;have v25:=fun a w=>(Vf h).fVo a w p (.inr rfl);have f6:=fun a w=>(Vf h).fVo a w q (.inl rfl);have f7:=(Vf h).fTy;have mK:=zfs;have mE:=zft;have mI:=zfu;have k27:=(Vf h).fKq;have k25:=(Vf h).fKp;have e27:=(Vf h).fEl;have i25:=(Vf h).fIm;have n8:=nlQ h ⟨w.heap.size,0,none⟩ t ((w.alloc (.cells #[.pointer (some t)] q)).alloc (.cells #[.pointer (some ⟨9,q,none⟩),.pointer (some ⟨w.heap.size,0,none⟩),.int .u64 150] 191)) (by simp);have hlt:=SF hg;have hg2:((w.alloc (.cells #[.pointer (some t)] q)).alloc (.cells #[.pointer (some ⟨9,q,none⟩),.pointer (some ⟨w.heap.size,0,none⟩),.int .u64 150] 191)).cell? ⟨0,0,none⟩=some (.iface 241 (.agg #[.pointer (some ⟨9,71,none⟩)])):=by
  rw[World.cell?_alloc_lt _ _ ⟨0,0,none⟩ (by first |(simp;done) |(simp;omega)),World.cell?_alloc_lt _ _ ⟨0,0,none⟩ hlt];exact hg
 have htl:=SF ht0;have el:=evQ h ⟨w.heap.size,0,none⟩ t (((w.alloc (.cells #[.pointer (some t)] q)).alloc (.cells #[.pointer (some ⟨9,q,none⟩),.pointer (some ⟨w.heap.size,0,none⟩),.int .u64 150] 191)).alloc (.cells #[.pointer (some ⟨9,q,none⟩),.pointer (some ⟨w.heap.size,0,none⟩),.int .u64 150] 191)) (by rw[World.cell?_alloc_lt _ _ ⟨w.heap.size,0,none⟩ (by simp;omega)];simp);have st:=seP h t ⟨w.heap.size+1+1+1,0,none⟩ e old (W6 q p e t w)
  (by unfold W6;rw[World.cell?_alloc_at _ _ _ _ (by simp)];rfl)
  (by unfold W6;rw[World.cell?_alloc_lt _ _ t (by simp;omega),World.cell?_alloc_lt _ _ t (by simp;omega),World.cell?_alloc_lt _ _ t (by simp;omega),World.cell?_alloc_lt _ _ t htl];exact ht0)
  (by unfold W6;rw[World.frozen?_alloc_old _ _ t (by simp;omega),World.frozen?_alloc_old _ _ t (by simp;omega),World.frozen?_alloc_old _ _ t (by simp;omega),World.frozen?_alloc_old _ _ t (Nat.ne_of_lt htl)];exact hf0)
 unfold W6 at st ⊢;rcases h with ⟨rfl,rfl⟩ |⟨rfl,rfl⟩<;>rcases hx with ⟨hp,rfl⟩ |⟨hp,o,rfl,ho⟩<;>first | cases hp | clear hp
 ·have hol:o<w.heap.size:=SF ho;have ho3:(((w.alloc (.cells #[.pointer (some t)] 145)).alloc (.cells #[.pointer (some ⟨9,145,none⟩),.pointer (some ⟨w.heap.size,0,none⟩),.int .u64 150] 191)).alloc (.cells #[.pointer (some ⟨9,145,none⟩),.pointer (some ⟨w.heap.size,0,none⟩),.int .u64 150] 191)).cell? ⟨o,1,none⟩=some (.iface 138 (.pointer (some e))):=by
   rw[World.cell?_alloc_lt _ _ ⟨o,1,none⟩ (by simp;omega),World.cell?_alloc_lt _ _ ⟨o,1,none⟩ (by simp;omega),World.cell?_alloc_lt _ _ ⟨o,1,none⟩ hol];exact ho
  have tO2:=Ej (.inr ⟨rfl,rfl⟩);have aNo:=zfA;have tA:=zfB ⟨o,0,none⟩;have tU:=zfC ⟨o,0,none⟩;have mU:=zfD;go_in;go_wp2;refine wp_loop_rounds 2 ?_;rw[rounds_succ];go_wp2;rw[rounds_succ];go_wp2;go_ret;exact⟨rfl,rfl⟩
 ·go_in;go_wp2;refine wp_loop_rounds 1 ?_;rw[rounds_succ];go_wp2;go_ret;exact⟨rfl,rfl⟩
end Go.Proofs.YtpaecnbdoljafaaGreatDoor
