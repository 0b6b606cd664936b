import Derived.Stop.Asserts
import Derived.RowKitTokens
import Derived.Test.YtekpghcckdjnhaaGreatDoorBa1
set_option maxRecDepth 100000
set_option maxHeartbeats 8000000
namespace Go.Proofs.YtekpghcckdjnhaaGreatDoor
open Go.RowKit Go.Extern.Stop Go.Stop Go.Extern Go.Proofs.Tryz
theorem zwB (t:Value) (w:World) : Calls prog 138 #[.nilIface,t] w fun e w'=>e = .returned (.bool false)/\w=w':=by
 go_enter func138,ntmps138
 go_wp2
 go_ret
 exact⟨rfl,rfl⟩
theorem zxQ (z:Sem Value) (f:TypeId->Addr->Nat->Nat->Sem Value) (v:Value) :
  ReflectliteValue.method z f #[v]=(do match ← ReflectliteValue.parts v with | none=>z | some (t,a,fl)=>f t a fl (fl % 32)):=rfl
theorem zyB (v x:Value) : ReflectliteValue.set #[v,x]=(do
  let (some (dst,a,fl),some (src,b,_)):=(← ReflectliteValue.parts v,← ReflectliteValue.parts x)
   | unsupported (.noEntry "extern/(internal/reflectlite.Value).Set.zeroValue")
  if fl / ReflectliteValue.flagAddr % 2 == 0 then unsupported (.noEntry "extern/(internal/reflectlite.Value).Set.unaddressable")
  let val ← loadVar src b
  if ← Rtype.directlyAssignable dst src then storeVar dst a val
  else if ← Rtype.implements dst src then
   if (← Rtype.kind src) == 20 then
    match val with
    | .nilIface => unsupported (.noEntry "extern/reflectlite: a nil value of one interface type handed on as a value of another")
    | _=>storeVar dst a val
   else storeVar dst a (.iface src val)
  else panicString ("reflectlite.Set: value of type " ++ (← Rtype.spelt src) ++ " is not assignable to type " ++ (← Rtype.spelt dst))
  pure (.tuple #[])):=rfl
theorem zuh (h : Value) (w : World) : (Go.method 509 264 (.agg #[h]) "Kind").run Tryz.prog w = .ok (315, h) w := by kernel_rfl
theorem zui (h : Value) (w : World) : (Go.method 509 264 (.agg #[h]) "Elem").run Tryz.prog w = .ok (342, .agg #[h]) w := by kernel_rfl
theorem zgp (h : Value) (w : World) : (Go.method 509 264 (.agg #[h]) "Implements").run Tryz.prog w = .ok (343, .agg #[h]) w := by kernel_rfl
theorem zeR (h : Value) (w : World) : (Go.method 509 264 (.agg #[h]) "AssignableTo").run Tryz.prog w = .ok (340, .agg #[h]) w := by kernel_rfl
theorem zwC (t:Addr) (w:World) : (ReflectliteValue.unpack (.iface 211 (.pointer (some t)))).run prog w = .ok (.agg #[.pointer (some ⟨9,211,none⟩),.pointer (some ⟨w.heap.size,0,none⟩),.int .u64 150]) (w.alloc (.cells #[.pointer (some t)] 211)):=by kernel_rfl
theorem zwD (a : Addr) (w : World) : (ReflectliteValue.methodAny (ReflectliteValue.valueError "reflectlite.Value.Type" 0) (fun t _ _ _ => ReflectliteType.toType t) #[.agg #[.pointer (some ⟨9, 211, none⟩), .pointer (some a), .int .u64 150]]).run Tryz.prog w = .ok (.iface 264 (.agg #[.pointer (some ⟨9, 211, none⟩)])) w := by kernel_rfl
theorem zwE (w:World) : ((ReflectliteType.abiMethod fun t=>(fun a:Nat=>Value.int IntKind.u8 (a:Int)) <$> Rtype.kind t) #[.pointer (some ⟨9,211,none⟩)]).run prog w = .ok (.int .u8 22) w:=by kernel_rfl
theorem zwF (w:World) : ((ReflectliteType.abiMethod fun t=>(fun a:Nat=>Value.int IntKind.u8 (a:Int)) <$> Rtype.kind t) #[.pointer (some ⟨9,165,none⟩)]).run prog w = .ok (.int .u8 22) w:=by kernel_rfl
theorem zuj (a:Addr) (w:World) : (ReflectliteValue.parts (.agg #[.pointer (some ⟨9,211,none⟩),.pointer (some a),.int .u64 150])).run prog w = .ok (some (211,a,150)) w:=by kernel_rfl
theorem zwG (a p:Addr) (W:World) (ha:W.cell? a=some (.pointer (some p))) :
  (ReflectliteValue.method (ReflectliteValue.valueError "reflectlite.Value.IsNil" 0) ReflectliteValue.isNil #[.agg #[.pointer (some ⟨9, 211, none⟩), .pointer (some a), .int .u64 150]]).run Tryz.prog W = .ok (.bool false) W := by
 rw[zxQ]
 simp only[Sem.run_bind,zuj,Result.andThen]
 simp[ReflectliteValue.isNil,loadVar,isAgg,underlying,underlying211,ha,Result.andThen]
theorem zwH (w:World) : (ReflectliteType.method ReflectliteType.elem #[.agg #[.pointer (some ⟨9,211,none⟩)]]).run prog w = .ok (.iface 264 (.agg #[.pointer (some ⟨9,165,none⟩)])) w:=by kernel_rfl
theorem zwI (w : World) : (ReflectliteType.relation "Implements" ReflectliteType.implements_ #[.agg #[.pointer (some ⟨9, 165, none⟩)], .iface 264 (.agg #[.pointer (some ⟨9, 128, none⟩)])]).run Tryz.prog w = .ok (.bool true) w := by kernel_rfl
theorem zwJ (v:Value) (w:World) : (ReflectliteType.typeOf #[.iface 165 v]).run prog w = .ok (.iface 264 (.agg #[.pointer (some ⟨9,165,none⟩)])) w:=by kernel_rfl
theorem zwK (w : World) : (ReflectliteType.relation "AssignableTo" ReflectliteType.assignableTo #[.agg #[.pointer (some ⟨9, 165, none⟩)], .iface 264 (.agg #[.pointer (some ⟨9, 165, none⟩)])]).run Tryz.prog w = .ok (.bool true) w := by kernel_rfl
theorem zwL (e:Addr) (w:World) : (ReflectliteValue.unpack (.iface 165 (.pointer (some e)))).run prog w = .ok (.agg #[.pointer (some ⟨9,165,none⟩),.pointer (some ⟨w.heap.size,0,none⟩),.int .u64 150]) (w.alloc (.cells #[.pointer (some e)] 165)):=by kernel_rfl
theorem zwM (w:World) : (Rtype.elem? 211).run prog w = .ok (some 165) w:=by kernel_rfl
theorem zwN (p:Addr) (w:World) : (ReflectliteValue.mk 165 p ReflectliteValue.flagAddr).run prog w = .ok (.agg #[.pointer (some ⟨9,165,none⟩),.pointer (some p),.int .u64 406]) w:=by kernel_rfl
theorem zwO (a p:Addr) (W:World) (ha:W.cell? a=some (.pointer (some p))) :
  (ReflectliteValue.method (ReflectliteValue.valueError "reflectlite.Value.Elem" 0) ReflectliteValue.elem #[.agg #[.pointer (some ⟨9, 211, none⟩), .pointer (some a), .int .u64 150]]).run Tryz.prog W = .ok (.agg #[.pointer (some ⟨9, 165, none⟩), .pointer (some p), .int .u64 406]) W := by
 rw[zxQ]
 simp only[Sem.run_bind,zuj,Result.andThen]
 simp[ReflectliteValue.elem,loadVar,isAgg,underlying,underlying211,ha,Result.andThen,zwM,zwN]
theorem zwP (a:Addr) (w:World) : (ReflectliteValue.parts (.agg #[.pointer (some ⟨9,165,none⟩),.pointer (some a),.int .u64 406])).run prog w = .ok (some (165,a,406)) w:=by kernel_rfl
theorem zwQ (a:Addr) (w:World) : (ReflectliteValue.parts (.agg #[.pointer (some ⟨9,165,none⟩),.pointer (some a),.int .u64 150])).run prog w = .ok (some (165,a,150)) w:=by kernel_rfl
theorem zwR (w:World) : (Rtype.directlyAssignable 165 165).run prog w = .ok true w:=by kernel_rfl
theorem zwS (ta b e:Addr) (old:Value) (W:World) (hb:W.cell? b=some (.pointer (some e))) (ht:W.cell? ta=some old) (hf:W.frozen? ta=false) :
  (ReflectliteValue.set #[.agg #[.pointer (some ⟨9,165,none⟩),.pointer (some ta),.int .u64 406],.agg #[.pointer (some ⟨9,165,none⟩),.pointer (some b),.int .u64 150]]).run prog W = .ok (.tuple #[]) (W.setCell ta (.pointer (some e))):=by
 rw[zyB]
 simp only[Sem.run_bind,zwP,zwQ,Result.andThen]
 simp[ReflectliteValue.flagAddr,loadVar,isAgg,underlying,underlying165,hb,Result.andThen,zwR,storeVar,Value.cells,storeCells,Addr.add]
 rw[run_store prog W ta _ _ (by rfl)]
 simp[ht,hf]
theorem zwT (t:Addr) (w:World) : (ReflectliteValue.unpack (.iface 212 (.pointer (some t)))).run prog w = .ok (.agg #[.pointer (some ⟨9,212,none⟩),.pointer (some ⟨w.heap.size,0,none⟩),.int .u64 150]) (w.alloc (.cells #[.pointer (some t)] 212)):=by kernel_rfl
theorem zwU (a : Addr) (w : World) : (ReflectliteValue.methodAny (ReflectliteValue.valueError "reflectlite.Value.Type" 0) (fun t _ _ _ => ReflectliteType.toType t) #[.agg #[.pointer (some ⟨9, 212, none⟩), .pointer (some a), .int .u64 150]]).run Tryz.prog w = .ok (.iface 264 (.agg #[.pointer (some ⟨9, 212, none⟩)])) w := by kernel_rfl
theorem zwV (w:World) : ((ReflectliteType.abiMethod fun t=>(fun a:Nat=>Value.int IntKind.u8 (a:Int)) <$> Rtype.kind t) #[.pointer (some ⟨9,212,none⟩)]).run prog w = .ok (.int .u8 22) w:=by kernel_rfl
theorem zwW (w:World) : ((ReflectliteType.abiMethod fun t=>(fun a:Nat=>Value.int IntKind.u8 (a:Int)) <$> Rtype.kind t) #[.pointer (some ⟨9,164,none⟩)]).run prog w = .ok (.int .u8 22) w:=by kernel_rfl
theorem zuk (a:Addr) (w:World) : (ReflectliteValue.parts (.agg #[.pointer (some ⟨9,212,none⟩),.pointer (some a),.int .u64 150])).run prog w = .ok (some (212,a,150)) w:=by kernel_rfl
theorem zwX (a p:Addr) (W:World) (ha:W.cell? a=some (.pointer (some p))) :
  (ReflectliteValue.method (ReflectliteValue.valueError "reflectlite.Value.IsNil" 0) ReflectliteValue.isNil #[.agg #[.pointer (some ⟨9, 212, none⟩), .pointer (some a), .int .u64 150]]).run Tryz.prog W = .ok (.bool false) W := by
 rw[zxQ]
 simp only[Sem.run_bind,zuk,Result.andThen]
 simp[ReflectliteValue.isNil,loadVar,isAgg,underlying,underlying212,ha,Result.andThen]
theorem zwY (w:World) : (ReflectliteType.method ReflectliteType.elem #[.agg #[.pointer (some ⟨9,212,none⟩)]]).run prog w = .ok (.iface 264 (.agg #[.pointer (some ⟨9,164,none⟩)])) w:=by kernel_rfl
theorem zwZ (w : World) : (ReflectliteType.relation "Implements" ReflectliteType.implements_ #[.agg #[.pointer (some ⟨9, 164, none⟩)], .iface 264 (.agg #[.pointer (some ⟨9, 128, none⟩)])]).run Tryz.prog w = .ok (.bool true) w := by kernel_rfl
theorem zul (v:Value) (w:World) : (ReflectliteType.typeOf #[.iface 164 v]).run prog w = .ok (.iface 264 (.agg #[.pointer (some ⟨9,164,none⟩)])) w:=by kernel_rfl
theorem zw1 (w : World) : (ReflectliteType.relation "AssignableTo" ReflectliteType.assignableTo #[.agg #[.pointer (some ⟨9, 164, none⟩)], .iface 264 (.agg #[.pointer (some ⟨9, 164, none⟩)])]).run Tryz.prog w = .ok (.bool true) w := by kernel_rfl
theorem zw2 (e:Addr) (w:World) : (ReflectliteValue.unpack (.iface 164 (.pointer (some e)))).run prog w = .ok (.agg #[.pointer (some ⟨9,164,none⟩),.pointer (some ⟨w.heap.size,0,none⟩),.int .u64 150]) (w.alloc (.cells #[.pointer (some e)] 164)):=by kernel_rfl
theorem zw3 (w:World) : (Rtype.elem? 212).run prog w = .ok (some 164) w:=by kernel_rfl
theorem zw4 (p:Addr) (w:World) : (ReflectliteValue.mk 164 p ReflectliteValue.flagAddr).run prog w = .ok (.agg #[.pointer (some ⟨9,164,none⟩),.pointer (some p),.int .u64 406]) w:=by kernel_rfl
theorem zw5 (a p:Addr) (W:World) (ha:W.cell? a=some (.pointer (some p))) :
  (ReflectliteValue.method (ReflectliteValue.valueError "reflectlite.Value.Elem" 0) ReflectliteValue.elem #[.agg #[.pointer (some ⟨9, 212, none⟩), .pointer (some a), .int .u64 150]]).run Tryz.prog W = .ok (.agg #[.pointer (some ⟨9, 164, none⟩), .pointer (some p), .int .u64 406]) W := by
 rw[zxQ]
 simp only[Sem.run_bind,zuk,Result.andThen]
 simp[ReflectliteValue.elem,loadVar,isAgg,underlying,underlying212,ha,Result.andThen,zw3,zw4]
theorem zw6 (a:Addr) (w:World) : (ReflectliteValue.parts (.agg #[.pointer (some ⟨9,164,none⟩),.pointer (some a),.int .u64 406])).run prog w = .ok (some (164,a,406)) w:=by kernel_rfl
theorem zw7 (a:Addr) (w:World) : (ReflectliteValue.parts (.agg #[.pointer (some ⟨9,164,none⟩),.pointer (some a),.int .u64 150])).run prog w = .ok (some (164,a,150)) w:=by kernel_rfl
theorem zw8 (w:World) : (Rtype.directlyAssignable 164 164).run prog w = .ok true w:=by kernel_rfl
theorem zw9 (ta b e:Addr) (old:Value) (W:World) (hb:W.cell? b=some (.pointer (some e))) (ht:W.cell? ta=some old) (hf:W.frozen? ta=false) :
  (ReflectliteValue.set #[.agg #[.pointer (some ⟨9,164,none⟩),.pointer (some ta),.int .u64 406],.agg #[.pointer (some ⟨9,164,none⟩),.pointer (some b),.int .u64 150]]).run prog W = .ok (.tuple #[]) (W.setCell ta (.pointer (some e))):=by
 rw[zyB]
 simp only[Sem.run_bind,zw6,zw7,Result.andThen]
 simp[ReflectliteValue.flagAddr,loadVar,isAgg,underlying,underlying164,hb,Result.andThen,zw8,storeVar,Value.cells,storeCells,Addr.add]
 rw[run_store prog W ta _ _ (by rfl)]
 simp[ht,hf]
theorem zyi (w : World) : (ReflectliteType.relation "AssignableTo" ReflectliteType.assignableTo #[.agg #[.pointer (some ⟨9, 164, none⟩)], .iface 264 (.agg #[.pointer (some ⟨9, 165, none⟩)])]).run Tryz.prog w = .ok (.bool false) w := by kernel_rfl
theorem zyj (a:Addr) (w:World) : (Instr.typeAssert (.iface 164 (.pointer (some a))) 128 269 true).run prog w = .ok (.tuple #[.nilIface,.bool false]) w:=run_typeAssert_lacksB underlying269 (by kernel_rfl) (by kernel_rfl) _ _ w
theorem zyk (a:Addr) (w:World) : (Instr.typeAssert (.iface 164 (.pointer (some a))) 128 272 true).run prog w = .ok (.tuple #[.iface 164 (.pointer (some a)),.bool true]) w:=run_typeAssert_hasB underlying272 (by kernel_rfl) _ _ w
theorem ztg (v : Value) (w : World) : (Go.method 509 164 v "Unwrap").run Tryz.prog w = .ok (319, v) w := by kernel_rfl
theorem zyl (e t:Addr) (old:Value) (w:World) (hg:w.cell? ⟨0,0,none⟩=some (.iface 264 (.agg #[.pointer (some ⟨9,128,none⟩)]))) (ht0:w.cell? t=some old) (hf0:w.frozen? t=false) :
  Calls prog 138 #[.iface 164 (.pointer (some e)),.iface 212 (.pointer (some t))] w fun ev w'=>ev = .returned (.bool true)/\w'=((((w.alloc (.cells #[.pointer (some t)] 212)).alloc (.cells #[.pointer (some ⟨9,212,none⟩),.pointer (some ⟨w.heap.size,0,none⟩),.int .u64 150] 241)).alloc (.cells #[.pointer (some ⟨9,212,none⟩),.pointer (some ⟨w.heap.size,0,none⟩),.int .u64 150] 241)).alloc (.cells #[.pointer (some e)] 164)).setCell t (.pointer (some e)):=by
 have h6:=@run_callFunc_extern prog 163 _ (fun args=>ReflectliteValue.unpack (args.getD 0 (.tuple #[]))) func163 (by kernel_rfl) (by kernel_rfl) (by kernel_rfl) (by kernel_rfl)
 have h7 := @run_callFunc_extern Tryz.prog 164 _ (ReflectliteValue.methodAny (ReflectliteValue.valueError "reflectlite.Value.Type" 0) (fun t _ _ _ => ReflectliteType.toType t)) Tryz.func164 (by kernel_rfl) (by kernel_rfl) (by kernel_rfl) (by kernel_rfl)
 have h8 := @run_callFunc_extern Tryz.prog 165 _ (ReflectliteValue.method (ReflectliteValue.valueError "reflectlite.Value.IsNil" 0) ReflectliteValue.isNil) Tryz.func165 (by kernel_rfl) (by kernel_rfl) (by kernel_rfl) (by kernel_rfl)
 have h27:=@run_callFunc_extern prog 315 _ (ReflectliteType.abiMethod fun t=>do pure (.int .u8 (← Rtype.kind t))) func315 (by kernel_rfl) (by kernel_rfl) (by kernel_rfl) (by kernel_rfl)
 have h37:=@run_callFunc_extern prog 342 _ (ReflectliteType.method ReflectliteType.elem) func342 (by kernel_rfl) (by kernel_rfl) (by kernel_rfl) (by kernel_rfl)
 have h38 := @run_callFunc_extern Tryz.prog 343 _ (ReflectliteType.relation "Implements" ReflectliteType.implements_) Tryz.func343 (by kernel_rfl) (by kernel_rfl) (by kernel_rfl) (by kernel_rfl)
 have h10:=@run_callFunc_extern prog 188 _ ReflectliteType.typeOf func188 (by kernel_rfl) (by kernel_rfl) (by kernel_rfl) (by kernel_rfl)
 have h35 := @run_callFunc_extern Tryz.prog 340 _ (ReflectliteType.relation "AssignableTo" ReflectliteType.assignableTo) Tryz.func340 (by kernel_rfl) (by kernel_rfl) (by kernel_rfl) (by kernel_rfl)
 have h11 := @run_callFunc_extern Tryz.prog 189 _ (ReflectliteValue.method (ReflectliteValue.valueError "reflectlite.Value.Elem" 0) ReflectliteValue.elem) Tryz.func189 (by kernel_rfl) (by kernel_rfl) (by kernel_rfl) (by kernel_rfl)
 have h12:=@run_callFunc_extern prog 190 _ ReflectliteValue.set func190 (by kernel_rfl) (by kernel_rfl) (by kernel_rfl) (by kernel_rfl)
 have tO:=zul
 have mA:=zeR
 have a25:=zw1
 have v25:=zw2
 have f6:=zwT
 have f7:=zwU
 have mK:=zuh
 have mE:=zui
 have mI:=zgp
 have k27:=zwV
 have k25:=zwW
 have e27:=zwY
 have i25:=zwZ
 have n8:=zwX ⟨w.heap.size,0,none⟩ t ((w.alloc (.cells #[.pointer (some t)] 212)).alloc (.cells #[.pointer (some ⟨9,212,none⟩),.pointer (some ⟨w.heap.size,0,none⟩),.int .u64 150] 241)) (by simp)
 have hlt:0 < w.heap.size:=by
  rcases Nat.lt_or_ge 0 w.heap.size with h | h
  ·exact h
  ·simp[World.cell?,Array.getElem?_eq_none h] at hg
 have hg2:((w.alloc (.cells #[.pointer (some t)] 212)).alloc (.cells #[.pointer (some ⟨9,212,none⟩),.pointer (some ⟨w.heap.size,0,none⟩),.int .u64 150] 241)).cell? ⟨0,0,none⟩=some (.iface 264 (.agg #[.pointer (some ⟨9,128,none⟩)])):=by
  rw[World.cell?_alloc_lt _ _ ⟨0,0,none⟩ (by first | (simp; done) | (simp; omega)),World.cell?_alloc_lt _ _ ⟨0,0,none⟩ hlt]; exact hg
 have htl:t.block < w.heap.size:=by
  rcases Nat.lt_or_ge t.block w.heap.size with h | h
  ·exact h
  ·simp[World.cell?,Array.getElem?_eq_none h] at ht0
 have el:=zw5 ⟨w.heap.size,0,none⟩ t (((w.alloc (.cells #[.pointer (some t)] 212)).alloc (.cells #[.pointer (some ⟨9,212,none⟩),.pointer (some ⟨w.heap.size,0,none⟩),.int .u64 150] 241)).alloc (.cells #[.pointer (some ⟨9,212,none⟩),.pointer (some ⟨w.heap.size,0,none⟩),.int .u64 150] 241)) (by rw[World.cell?_alloc_lt _ _ ⟨w.heap.size,0,none⟩ (by simp; omega)]; simp)
 have st:=zw9 t ⟨w.heap.size+1+1+1,0,none⟩ e old ((((w.alloc (.cells #[.pointer (some t)] 212)).alloc (.cells #[.pointer (some ⟨9,212,none⟩),.pointer (some ⟨w.heap.size,0,none⟩),.int .u64 150] 241)).alloc (.cells #[.pointer (some ⟨9,212,none⟩),.pointer (some ⟨w.heap.size,0,none⟩),.int .u64 150] 241)).alloc (.cells #[.pointer (some e)] 164))
  (by rw[World.cell?_alloc_at _ _ _ _ (by simp)]; rfl)
  (by rw[World.cell?_alloc_lt _ _ t (by simp; omega),World.cell?_alloc_lt _ _ t (by simp; omega),World.cell?_alloc_lt _ _ t (by simp; omega),World.cell?_alloc_lt _ _ t htl]; exact ht0)
  (by rw[World.frozen?_alloc_old _ _ t (by simp; omega),World.frozen?_alloc_old _ _ t (by simp; omega),World.frozen?_alloc_old _ _ t (by simp; omega),World.frozen?_alloc_old _ _ t (Nat.ne_of_lt htl)]; exact hf0)
 go_enter func138,ntmps138
 go_wp2
 refine wp_loop_rounds 1 ?_
 rw[rounds_succ]
 go_wp2
 go_ret
 exact⟨rfl,rfl⟩
theorem zym (e t:Addr) (old:Value) (w:World) (o:Nat) (ho:w.cell? ⟨o,1,none⟩=some (.iface 165 (.pointer (some e)))) (hg:w.cell? ⟨0,0,none⟩=some (.iface 264 (.agg #[.pointer (some ⟨9,128,none⟩)]))) (ht0:w.cell? t=some old) (hf0:w.frozen? t=false) :
  Calls prog 138 #[.iface 164 (.pointer (some ⟨o,0,none⟩)),.iface 211 (.pointer (some t))] w fun ev w'=>ev = .returned (.bool true)/\w'=((((w.alloc (.cells #[.pointer (some t)] 211)).alloc (.cells #[.pointer (some ⟨9,211,none⟩),.pointer (some ⟨w.heap.size,0,none⟩),.int .u64 150] 241)).alloc (.cells #[.pointer (some ⟨9,211,none⟩),.pointer (some ⟨w.heap.size,0,none⟩),.int .u64 150] 241)).alloc (.cells #[.pointer (some e)] 165)).setCell t (.pointer (some e)):=by
 have h6:=@run_callFunc_extern prog 163 _ (fun args=>ReflectliteValue.unpack (args.getD 0 (.tuple #[]))) func163 (by kernel_rfl) (by kernel_rfl) (by kernel_rfl) (by kernel_rfl)
 have h7 := @run_callFunc_extern Tryz.prog 164 _ (ReflectliteValue.methodAny (ReflectliteValue.valueError "reflectlite.Value.Type" 0) (fun t _ _ _ => ReflectliteType.toType t)) Tryz.func164 (by kernel_rfl) (by kernel_rfl) (by kernel_rfl) (by kernel_rfl)
 have h8 := @run_callFunc_extern Tryz.prog 165 _ (ReflectliteValue.method (ReflectliteValue.valueError "reflectlite.Value.IsNil" 0) ReflectliteValue.isNil) Tryz.func165 (by kernel_rfl) (by kernel_rfl) (by kernel_rfl) (by kernel_rfl)
 have h27:=@run_callFunc_extern prog 315 _ (ReflectliteType.abiMethod fun t=>do pure (.int .u8 (← Rtype.kind t))) func315 (by kernel_rfl) (by kernel_rfl) (by kernel_rfl) (by kernel_rfl)
 have h37:=@run_callFunc_extern prog 342 _ (ReflectliteType.method ReflectliteType.elem) func342 (by kernel_rfl) (by kernel_rfl) (by kernel_rfl) (by kernel_rfl)
 have h38 := @run_callFunc_extern Tryz.prog 343 _ (ReflectliteType.relation "Implements" ReflectliteType.implements_) Tryz.func343 (by kernel_rfl) (by kernel_rfl) (by kernel_rfl) (by kernel_rfl)
 have h10:=@run_callFunc_extern prog 188 _ ReflectliteType.typeOf func188 (by kernel_rfl) (by kernel_rfl) (by kernel_rfl) (by kernel_rfl)
 have h35 := @run_callFunc_extern Tryz.prog 340 _ (ReflectliteType.relation "AssignableTo" ReflectliteType.assignableTo) Tryz.func340 (by kernel_rfl) (by kernel_rfl) (by kernel_rfl) (by kernel_rfl)
 have h11 := @run_callFunc_extern Tryz.prog 189 _ (ReflectliteValue.method (ReflectliteValue.valueError "reflectlite.Value.Elem" 0) ReflectliteValue.elem) Tryz.func189 (by kernel_rfl) (by kernel_rfl) (by kernel_rfl) (by kernel_rfl)
 have h12:=@run_callFunc_extern prog 190 _ ReflectliteValue.set func190 (by kernel_rfl) (by kernel_rfl) (by kernel_rfl) (by kernel_rfl)
 have tO:=zwJ
 have mA:=zeR
 have a25:=zwK
 have v25:=zwL
 have f6:=zwC
 have f7:=zwD
 have mK:=zuh
 have mE:=zui
 have mI:=zgp
 have k27:=zwE
 have k25:=zwF
 have e27:=zwH
 have i25:=zwI
 have n8:=zwG ⟨w.heap.size,0,none⟩ t ((w.alloc (.cells #[.pointer (some t)] 211)).alloc (.cells #[.pointer (some ⟨9,211,none⟩),.pointer (some ⟨w.heap.size,0,none⟩),.int .u64 150] 241)) (by simp)
 have hlt:0 < w.heap.size:=by
  rcases Nat.lt_or_ge 0 w.heap.size with h | h
  ·exact h
  ·simp[World.cell?,Array.getElem?_eq_none h] at hg
 have hg2:((w.alloc (.cells #[.pointer (some t)] 211)).alloc (.cells #[.pointer (some ⟨9,211,none⟩),.pointer (some ⟨w.heap.size,0,none⟩),.int .u64 150] 241)).cell? ⟨0,0,none⟩=some (.iface 264 (.agg #[.pointer (some ⟨9,128,none⟩)])):=by
  rw[World.cell?_alloc_lt _ _ ⟨0,0,none⟩ (by first | (simp; done) | (simp; omega)),World.cell?_alloc_lt _ _ ⟨0,0,none⟩ hlt]; exact hg
 have htl:t.block < w.heap.size:=by
  rcases Nat.lt_or_ge t.block w.heap.size with h | h
  ·exact h
  ·simp[World.cell?,Array.getElem?_eq_none h] at ht0
 have hol:o < w.heap.size:=by
  rcases Nat.lt_or_ge o w.heap.size with h | h
  ·exact h
  ·simp[World.cell?,Array.getElem?_eq_none h] at ho
 have ho3:(((w.alloc (.cells #[.pointer (some t)] 211)).alloc (.cells #[.pointer (some ⟨9,211,none⟩),.pointer (some ⟨w.heap.size,0,none⟩),.int .u64 150] 241)).alloc (.cells #[.pointer (some ⟨9,211,none⟩),.pointer (some ⟨w.heap.size,0,none⟩),.int .u64 150] 241)).cell? ⟨o,1,none⟩=some (.iface 165 (.pointer (some e))):=by
  rw[World.cell?_alloc_lt _ _ ⟨o,1,none⟩ (by simp; omega),World.cell?_alloc_lt _ _ ⟨o,1,none⟩ (by simp; omega),World.cell?_alloc_lt _ _ ⟨o,1,none⟩ hol]; exact ho
 have tO2:=zul
 have aNo:=zyi
 have tA:=zyj ⟨o,0,none⟩
 have tU:=zyk ⟨o,0,none⟩
 have mU:=ztg
 have el:=zwO ⟨w.heap.size,0,none⟩ t (((w.alloc (.cells #[.pointer (some t)] 211)).alloc (.cells #[.pointer (some ⟨9,211,none⟩),.pointer (some ⟨w.heap.size,0,none⟩),.int .u64 150] 241)).alloc (.cells #[.pointer (some ⟨9,211,none⟩),.pointer (some ⟨w.heap.size,0,none⟩),.int .u64 150] 241)) (by rw[World.cell?_alloc_lt _ _ ⟨w.heap.size,0,none⟩ (by simp; omega)]; simp)
 have st:=zwS t ⟨w.heap.size+1+1+1,0,none⟩ e old ((((w.alloc (.cells #[.pointer (some t)] 211)).alloc (.cells #[.pointer (some ⟨9,211,none⟩),.pointer (some ⟨w.heap.size,0,none⟩),.int .u64 150] 241)).alloc (.cells #[.pointer (some ⟨9,211,none⟩),.pointer (some ⟨w.heap.size,0,none⟩),.int .u64 150] 241)).alloc (.cells #[.pointer (some e)] 165))
  (by rw[World.cell?_alloc_at _ _ _ _ (by simp)]; rfl)
  (by rw[World.cell?_alloc_lt _ _ t (by simp; omega),World.cell?_alloc_lt _ _ t (by simp; omega),World.cell?_alloc_lt _ _ t (by simp; omega),World.cell?_alloc_lt _ _ t htl]; exact ht0)
  (by rw[World.frozen?_alloc_old _ _ t (by simp; omega),World.frozen?_alloc_old _ _ t (by simp; omega),World.frozen?_alloc_old _ _ t (by simp; omega),World.frozen?_alloc_old _ _ t (Nat.ne_of_lt htl)]; exact hf0)
 go_enter func138,ntmps138
 go_wp2
 refine wp_loop_rounds 2 ?_
 rw[rounds_succ]
 go_wp2
 rw[rounds_succ]
 go_wp2
 go_ret
 exact⟨rfl,rfl⟩
end Go.Proofs.YtekpghcckdjnhaaGreatDoor
