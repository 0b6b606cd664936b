import Derived.WalkKit
import Derived.LaidEql
import Derived.Stop.Asserts
import Derived.RowKitTokens
import Derived.Test.YtocnekbedcnmgaaGreatDoorBa1
set_option maxRecDepth 100000
set_option maxHeartbeats 8000000
namespace Go.Proofs.YtocnekbedcnmgaaGreatDoor
open Go.RowKit Go.Extern.Stop Go.Stop Go.Extern
theorem as_nil (t:Value) (w:World) : Calls Tryz.prog 100 #[.nilIface,t] w fun e w'=>e = .returned (.bool false)∧w=w':=by
 go_enter Tryz.func100,Tryz.ntmps100
 go_wp2
 go_ret
 exact⟨rfl,rfl⟩
theorem rl_m (z:Sem Value) (f:TypeId→Addr→Nat→Nat→Sem Value) (v:Value) :
  ReflectliteValue.method z f #[v]=(do match ← ReflectliteValue.parts v with | none=>z | some (t,a,fl)=>f t a fl (fl % 32)):=rfl
theorem rl_s (v x:Value) : ReflectliteValue.set #[v,x]=(do
  let (some (dst,a,fl),some (src,b,_)):=(← ReflectliteValue.parts v,← ReflectliteValue.parts x)
   | unsupported (.noEntry "extern/(internal/reflectlite.Value).Set.zeroValue")
  if fl / ReflectliteValue.flagAddr % 2 == 0 then unsupported (.noEntry "extern/(internal/reflectlite.Value).Set.unaddressable")
  let val ← loadVar src b
  if ← Rtype.directlyAssignable dst src then storeVar dst a val
  else if ← Rtype.implements dst src then
   if (← Rtype.kind src) == 20 then
    match val with
    | .nilIface => unsupported (.noEntry "extern/reflectlite: a nil value of one interface type handed on as a value of another")
    | _=>storeVar dst a val
   else storeVar dst a (.iface src val)
  else panicString ("reflectlite.Set: value of type " ++ (← Rtype.spelt src) ++ " is not assignable to type " ++ (← Rtype.spelt dst))
  pure (.tuple #[])):=rfl
theorem mtKind (h : Value) (w : World) : (Go.method 488 249 (.agg #[h]) "Kind").run Tryz.prog w = .ok (310, h) w := by kernel_rfl
theorem mtElem (h : Value) (w : World) : (Go.method 488 249 (.agg #[h]) "Elem").run Tryz.prog w = .ok (332, .agg #[h]) w := by kernel_rfl
theorem mtImplements (h : Value) (w : World) : (Go.method 488 249 (.agg #[h]) "Implements").run Tryz.prog w = .ok (333, .agg #[h]) w := by kernel_rfl
theorem mtAssignableTo (h : Value) (w : World) : (Go.method 488 249 (.agg #[h]) "AssignableTo").run Tryz.prog w = .ok (330, .agg #[h]) w := by kernel_rfl
theorem voFltQ (t:Addr) (w:World) : (ReflectliteValue.unpack (.iface 163 (.pointer (some t)))).run Tryz.prog w = .ok (.agg #[.pointer (some ⟨9,163,none⟩),.pointer (some ⟨w.heap.size,0,none⟩),.int .u64 150]) (w.alloc (.cells #[.pointer (some t)] 163)):=by kernel_rfl
theorem tyFltQ (a : Addr) (w : World) : (ReflectliteValue.methodAny (ReflectliteValue.valueError "reflectlite.Value.Type" 0) (fun t _ _ _ => ReflectliteType.toType t) #[.agg #[.pointer (some ⟨9, 163, none⟩), .pointer (some a), .int .u64 150]]).run Tryz.prog w = .ok (.iface 249 (.agg #[.pointer (some ⟨9, 163, none⟩)])) w := by kernel_rfl
theorem kdFltQ (w:World) : ((ReflectliteType.abiMethod fun t=>(fun a:Nat=>Value.int IntKind.u8 (a:Int)) <$> Rtype.kind t) #[.pointer (some ⟨9,163,none⟩)]).run Tryz.prog w = .ok (.int .u8 22) w:=by kernel_rfl
theorem kdFltP (w:World) : ((ReflectliteType.abiMethod fun t=>(fun a:Nat=>Value.int IntKind.u8 (a:Int)) <$> Rtype.kind t) #[.pointer (some ⟨9,156,none⟩)]).run Tryz.prog w = .ok (.int .u8 22) w:=by kernel_rfl
theorem ptFltQ (a:Addr) (w:World) : (ReflectliteValue.parts (.agg #[.pointer (some ⟨9,163,none⟩),.pointer (some a),.int .u64 150])).run Tryz.prog w = .ok (some (163,a,150)) w:=by kernel_rfl
theorem nlFltQ (a p:Addr) (W:World) (ha:W.cell? a=some (.pointer (some p))) :
  (ReflectliteValue.method (ReflectliteValue.valueError "reflectlite.Value.IsNil" 0) ReflectliteValue.isNil #[.agg #[.pointer (some ⟨9, 163, none⟩), .pointer (some a), .int .u64 150]]).run Tryz.prog W = .ok (.bool false) W := by
 rw[rl_m]
 simp only[Sem.run_bind,ptFltQ,Result.andThen]
 simp[ReflectliteValue.isNil,loadVar,isAgg,underlying,Tryz.underlying163,ha,Result.andThen]
theorem elFltQ (w:World) : (ReflectliteType.method ReflectliteType.elem #[.agg #[.pointer (some ⟨9,163,none⟩)]]).run Tryz.prog w = .ok (.iface 249 (.agg #[.pointer (some ⟨9,156,none⟩)])) w:=by kernel_rfl
theorem imFltP (w : World) : (ReflectliteType.relation "Implements" ReflectliteType.implements_ #[.agg #[.pointer (some ⟨9, 156, none⟩)], .iface 249 (.agg #[.pointer (some ⟨9, 86, none⟩)])]).run Tryz.prog w = .ok (.bool true) w := by kernel_rfl
theorem toFltP (v:Value) (w:World) : (ReflectliteType.typeOf #[.iface 156 v]).run Tryz.prog w = .ok (.iface 249 (.agg #[.pointer (some ⟨9,156,none⟩)])) w:=by kernel_rfl
theorem asFltP (w : World) : (ReflectliteType.relation "AssignableTo" ReflectliteType.assignableTo #[.agg #[.pointer (some ⟨9, 156, none⟩)], .iface 249 (.agg #[.pointer (some ⟨9, 156, none⟩)])]).run Tryz.prog w = .ok (.bool true) w := by kernel_rfl
theorem voFltP (e:Addr) (w:World) : (ReflectliteValue.unpack (.iface 156 (.pointer (some e)))).run Tryz.prog w = .ok (.agg #[.pointer (some ⟨9,156,none⟩),.pointer (some ⟨w.heap.size,0,none⟩),.int .u64 150]) (w.alloc (.cells #[.pointer (some e)] 156)):=by kernel_rfl
theorem eoFltQ (w:World) : (Rtype.elem? 163).run Tryz.prog w = .ok (some 156) w:=by kernel_rfl
theorem mkFltP (p:Addr) (w:World) : (ReflectliteValue.mk 156 p ReflectliteValue.flagAddr).run Tryz.prog w = .ok (.agg #[.pointer (some ⟨9,156,none⟩),.pointer (some p),.int .u64 406]) w:=by kernel_rfl
theorem evFltQ (a p:Addr) (W:World) (ha:W.cell? a=some (.pointer (some p))) :
  (ReflectliteValue.method (ReflectliteValue.valueError "reflectlite.Value.Elem" 0) ReflectliteValue.elem #[.agg #[.pointer (some ⟨9, 163, none⟩), .pointer (some a), .int .u64 150]]).run Tryz.prog W = .ok (.agg #[.pointer (some ⟨9, 156, none⟩), .pointer (some p), .int .u64 406]) W := by
 rw[rl_m]
 simp only[Sem.run_bind,ptFltQ,Result.andThen]
 simp[ReflectliteValue.elem,loadVar,isAgg,underlying,Tryz.underlying163,ha,Result.andThen,eoFltQ,mkFltP]
theorem paFltA (a:Addr) (w:World) : (ReflectliteValue.parts (.agg #[.pointer (some ⟨9,156,none⟩),.pointer (some a),.int .u64 406])).run Tryz.prog w = .ok (some (156,a,406)) w:=by kernel_rfl
theorem paFltP (a:Addr) (w:World) : (ReflectliteValue.parts (.agg #[.pointer (some ⟨9,156,none⟩),.pointer (some a),.int .u64 150])).run Tryz.prog w = .ok (some (156,a,150)) w:=by kernel_rfl
theorem diFltP (w:World) : (Rtype.directlyAssignable 156 156).run Tryz.prog w = .ok true w:=by kernel_rfl
theorem seFltP (ta b e:Addr) (old:Value) (W:World) (hb:W.cell? b=some (.pointer (some e))) (ht:W.cell? ta=some old) (hf:W.frozen? ta=false) :
  (ReflectliteValue.set #[.agg #[.pointer (some ⟨9,156,none⟩),.pointer (some ta),.int .u64 406],.agg #[.pointer (some ⟨9,156,none⟩),.pointer (some b),.int .u64 150]]).run Tryz.prog W = .ok (.tuple #[]) (W.setCell ta (.pointer (some e))):=by
 rw[rl_s]
 simp only[Sem.run_bind,paFltA,paFltP,Result.andThen]
 simp[ReflectliteValue.flagAddr,loadVar,isAgg,underlying,Tryz.underlying156,hb,Result.andThen,diFltP,storeVar,Value.cells,storeCells,Addr.add]
 rw[run_store Tryz.prog W ta _ _ (by rfl)]
 simp[ht,hf]
theorem voOpEQ (t:Addr) (w:World) : (ReflectliteValue.unpack (.iface 164 (.pointer (some t)))).run Tryz.prog w = .ok (.agg #[.pointer (some ⟨9,164,none⟩),.pointer (some ⟨w.heap.size,0,none⟩),.int .u64 150]) (w.alloc (.cells #[.pointer (some t)] 164)):=by kernel_rfl
theorem tyOpEQ (a : Addr) (w : World) : (ReflectliteValue.methodAny (ReflectliteValue.valueError "reflectlite.Value.Type" 0) (fun t _ _ _ => ReflectliteType.toType t) #[.agg #[.pointer (some ⟨9, 164, none⟩), .pointer (some a), .int .u64 150]]).run Tryz.prog w = .ok (.iface 249 (.agg #[.pointer (some ⟨9, 164, none⟩)])) w := by kernel_rfl
theorem kdOpEQ (w:World) : ((ReflectliteType.abiMethod fun t=>(fun a:Nat=>Value.int IntKind.u8 (a:Int)) <$> Rtype.kind t) #[.pointer (some ⟨9,164,none⟩)]).run Tryz.prog w = .ok (.int .u8 22) w:=by kernel_rfl
theorem kdOpEP (w:World) : ((ReflectliteType.abiMethod fun t=>(fun a:Nat=>Value.int IntKind.u8 (a:Int)) <$> Rtype.kind t) #[.pointer (some ⟨9,159,none⟩)]).run Tryz.prog w = .ok (.int .u8 22) w:=by kernel_rfl
theorem ptOpEQ (a:Addr) (w:World) : (ReflectliteValue.parts (.agg #[.pointer (some ⟨9,164,none⟩),.pointer (some a),.int .u64 150])).run Tryz.prog w = .ok (some (164,a,150)) w:=by kernel_rfl
theorem nlOpEQ (a p:Addr) (W:World) (ha:W.cell? a=some (.pointer (some p))) :
  (ReflectliteValue.method (ReflectliteValue.valueError "reflectlite.Value.IsNil" 0) ReflectliteValue.isNil #[.agg #[.pointer (some ⟨9, 164, none⟩), .pointer (some a), .int .u64 150]]).run Tryz.prog W = .ok (.bool false) W := by
 rw[rl_m]
 simp only[Sem.run_bind,ptOpEQ,Result.andThen]
 simp[ReflectliteValue.isNil,loadVar,isAgg,underlying,Tryz.underlying164,ha,Result.andThen]
theorem elOpEQ (w:World) : (ReflectliteType.method ReflectliteType.elem #[.agg #[.pointer (some ⟨9,164,none⟩)]]).run Tryz.prog w = .ok (.iface 249 (.agg #[.pointer (some ⟨9,159,none⟩)])) w:=by kernel_rfl
theorem imOpEP (w : World) : (ReflectliteType.relation "Implements" ReflectliteType.implements_ #[.agg #[.pointer (some ⟨9, 159, none⟩)], .iface 249 (.agg #[.pointer (some ⟨9, 86, none⟩)])]).run Tryz.prog w = .ok (.bool true) w := by kernel_rfl
theorem toOpEP (v:Value) (w:World) : (ReflectliteType.typeOf #[.iface 159 v]).run Tryz.prog w = .ok (.iface 249 (.agg #[.pointer (some ⟨9,159,none⟩)])) w:=by kernel_rfl
theorem asOpEP (w : World) : (ReflectliteType.relation "AssignableTo" ReflectliteType.assignableTo #[.agg #[.pointer (some ⟨9, 159, none⟩)], .iface 249 (.agg #[.pointer (some ⟨9, 159, none⟩)])]).run Tryz.prog w = .ok (.bool true) w := by kernel_rfl
theorem voOpEP (e:Addr) (w:World) : (ReflectliteValue.unpack (.iface 159 (.pointer (some e)))).run Tryz.prog w = .ok (.agg #[.pointer (some ⟨9,159,none⟩),.pointer (some ⟨w.heap.size,0,none⟩),.int .u64 150]) (w.alloc (.cells #[.pointer (some e)] 159)):=by kernel_rfl
theorem eoOpEQ (w:World) : (Rtype.elem? 164).run Tryz.prog w = .ok (some 159) w:=by kernel_rfl
theorem mkOpEP (p:Addr) (w:World) : (ReflectliteValue.mk 159 p ReflectliteValue.flagAddr).run Tryz.prog w = .ok (.agg #[.pointer (some ⟨9,159,none⟩),.pointer (some p),.int .u64 406]) w:=by kernel_rfl
theorem evOpEQ (a p:Addr) (W:World) (ha:W.cell? a=some (.pointer (some p))) :
  (ReflectliteValue.method (ReflectliteValue.valueError "reflectlite.Value.Elem" 0) ReflectliteValue.elem #[.agg #[.pointer (some ⟨9, 164, none⟩), .pointer (some a), .int .u64 150]]).run Tryz.prog W = .ok (.agg #[.pointer (some ⟨9, 159, none⟩), .pointer (some p), .int .u64 406]) W := by
 rw[rl_m]
 simp only[Sem.run_bind,ptOpEQ,Result.andThen]
 simp[ReflectliteValue.elem,loadVar,isAgg,underlying,Tryz.underlying164,ha,Result.andThen,eoOpEQ,mkOpEP]
theorem paOpEA (a:Addr) (w:World) : (ReflectliteValue.parts (.agg #[.pointer (some ⟨9,159,none⟩),.pointer (some a),.int .u64 406])).run Tryz.prog w = .ok (some (159,a,406)) w:=by kernel_rfl
theorem paOpEP (a:Addr) (w:World) : (ReflectliteValue.parts (.agg #[.pointer (some ⟨9,159,none⟩),.pointer (some a),.int .u64 150])).run Tryz.prog w = .ok (some (159,a,150)) w:=by kernel_rfl
theorem diOpEP (w:World) : (Rtype.directlyAssignable 159 159).run Tryz.prog w = .ok true w:=by kernel_rfl
theorem seOpEP (ta b e:Addr) (old:Value) (W:World) (hb:W.cell? b=some (.pointer (some e))) (ht:W.cell? ta=some old) (hf:W.frozen? ta=false) :
  (ReflectliteValue.set #[.agg #[.pointer (some ⟨9,159,none⟩),.pointer (some ta),.int .u64 406],.agg #[.pointer (some ⟨9,159,none⟩),.pointer (some b),.int .u64 150]]).run Tryz.prog W = .ok (.tuple #[]) (W.setCell ta (.pointer (some e))):=by
 rw[rl_s]
 simp only[Sem.run_bind,paOpEA,paOpEP,Result.andThen]
 simp[ReflectliteValue.flagAddr,loadVar,isAgg,underlying,Tryz.underlying159,hb,Result.andThen,diOpEP,storeVar,Value.cells,storeCells,Addr.add]
 rw[run_store Tryz.prog W ta _ _ (by rfl)]
 simp[ht,hf]
theorem as_no (w : World) : (ReflectliteType.relation "AssignableTo" ReflectliteType.assignableTo #[.agg #[.pointer (some ⟨9, 159, none⟩)], .iface 249 (.agg #[.pointer (some ⟨9, 156, none⟩)])]).run Tryz.prog w = .ok (.bool false) w := by kernel_rfl
theorem ta_as (a:Addr) (w:World) : (Instr.typeAssert (.iface 159 (.pointer (some a))) 86 254 true).run Tryz.prog w = .ok (.tuple #[.nilIface,.bool false]) w:=run_typeAssert_lacksB Tryz.underlying254 (by kernel_rfl) (by kernel_rfl) _ _ w
theorem ta_un (a:Addr) (w:World) : (Instr.typeAssert (.iface 159 (.pointer (some a))) 86 257 true).run Tryz.prog w = .ok (.tuple #[.iface 159 (.pointer (some a)),.bool true]) w:=run_typeAssert_hasB Tryz.underlying257 (by kernel_rfl) _ _ w
theorem mtUnwrap (v : Value) (w : World) : (Go.method 488 159 v "Unwrap").run Tryz.prog w = .ok (317, v) w := by kernel_rfl
theorem asOpE (e t:Addr) (old:Value) (w:World) (hg:w.cell? ⟨0,0,none⟩=some (.iface 249 (.agg #[.pointer (some ⟨9,86,none⟩)]))) (ht0:w.cell? t=some old) (hf0:w.frozen? t=false) :
  Calls Tryz.prog 100 #[.iface 159 (.pointer (some e)),.iface 164 (.pointer (some t))] w fun ev w'=>ev = .returned (.bool true)∧w'=((((w.alloc (.cells #[.pointer (some t)] 164)).alloc (.cells #[.pointer (some ⟨9,164,none⟩),.pointer (some ⟨w.heap.size,0,none⟩),.int .u64 150] 214)).alloc (.cells #[.pointer (some ⟨9,164,none⟩),.pointer (some ⟨w.heap.size,0,none⟩),.int .u64 150] 214)).alloc (.cells #[.pointer (some e)] 159)).setCell t (.pointer (some e)):=by
 have h6:=@run_callFunc_extern Tryz.prog 142 _ (fun args=>ReflectliteValue.unpack (args.getD 0 (.tuple #[]))) Tryz.func142 (by kernel_rfl) (by kernel_rfl) (by kernel_rfl) (by kernel_rfl)
 have h7 := @run_callFunc_extern Tryz.prog 143 _ (ReflectliteValue.methodAny (ReflectliteValue.valueError "reflectlite.Value.Type" 0) (fun t _ _ _ => ReflectliteType.toType t)) Tryz.func143 (by kernel_rfl) (by kernel_rfl) (by kernel_rfl) (by kernel_rfl)
 have h8 := @run_callFunc_extern Tryz.prog 144 _ (ReflectliteValue.method (ReflectliteValue.valueError "reflectlite.Value.IsNil" 0) ReflectliteValue.isNil) Tryz.func144 (by kernel_rfl) (by kernel_rfl) (by kernel_rfl) (by kernel_rfl)
 have h27:=@run_callFunc_extern Tryz.prog 310 _ (ReflectliteType.abiMethod fun t=>do pure (.int .u8 (← Rtype.kind t))) Tryz.func310 (by kernel_rfl) (by kernel_rfl) (by kernel_rfl) (by kernel_rfl)
 have h37:=@run_callFunc_extern Tryz.prog 332 _ (ReflectliteType.method ReflectliteType.elem) Tryz.func332 (by kernel_rfl) (by kernel_rfl) (by kernel_rfl) (by kernel_rfl)
 have h38 := @run_callFunc_extern Tryz.prog 333 _ (ReflectliteType.relation "Implements" ReflectliteType.implements_) Tryz.func333 (by kernel_rfl) (by kernel_rfl) (by kernel_rfl) (by kernel_rfl)
 have h10:=@run_callFunc_extern Tryz.prog 180 _ ReflectliteType.typeOf Tryz.func180 (by kernel_rfl) (by kernel_rfl) (by kernel_rfl) (by kernel_rfl)
 have h35 := @run_callFunc_extern Tryz.prog 330 _ (ReflectliteType.relation "AssignableTo" ReflectliteType.assignableTo) Tryz.func330 (by kernel_rfl) (by kernel_rfl) (by kernel_rfl) (by kernel_rfl)
 have h11 := @run_callFunc_extern Tryz.prog 181 _ (ReflectliteValue.method (ReflectliteValue.valueError "reflectlite.Value.Elem" 0) ReflectliteValue.elem) Tryz.func181 (by kernel_rfl) (by kernel_rfl) (by kernel_rfl) (by kernel_rfl)
 have h12:=@run_callFunc_extern Tryz.prog 182 _ ReflectliteValue.set Tryz.func182 (by kernel_rfl) (by kernel_rfl) (by kernel_rfl) (by kernel_rfl)
 have tO:=toOpEP
 have mA:=mtAssignableTo
 have a25:=asOpEP
 have v25:=voOpEP
 have f6:=voOpEQ
 have f7:=tyOpEQ
 have mK:=mtKind
 have mE:=mtElem
 have mI:=mtImplements
 have k27:=kdOpEQ
 have k25:=kdOpEP
 have e27:=elOpEQ
 have i25:=imOpEP
 have n8:=nlOpEQ ⟨w.heap.size,0,none⟩ t ((w.alloc (.cells #[.pointer (some t)] 164)).alloc (.cells #[.pointer (some ⟨9,164,none⟩),.pointer (some ⟨w.heap.size,0,none⟩),.int .u64 150] 214)) (by simp)
 have hlt:0 < w.heap.size:=by
  rcases Nat.lt_or_ge 0 w.heap.size with h | h
  ·exact h
  ·simp[World.cell?,Array.getElem?_eq_none h] at hg
 have hg2:((w.alloc (.cells #[.pointer (some t)] 164)).alloc (.cells #[.pointer (some ⟨9,164,none⟩),.pointer (some ⟨w.heap.size,0,none⟩),.int .u64 150] 214)).cell? ⟨0,0,none⟩=some (.iface 249 (.agg #[.pointer (some ⟨9,86,none⟩)])):=by
  rw[World.cell?_alloc_lt _ _ ⟨0,0,none⟩ (by first | (simp; done) | (simp; omega)),World.cell?_alloc_lt _ _ ⟨0,0,none⟩ hlt]; exact hg
 have htl:t.block < w.heap.size:=by
  rcases Nat.lt_or_ge t.block w.heap.size with h | h
  ·exact h
  ·simp[World.cell?,Array.getElem?_eq_none h] at ht0
 have el:=evOpEQ ⟨w.heap.size,0,none⟩ t (((w.alloc (.cells #[.pointer (some t)] 164)).alloc (.cells #[.pointer (some ⟨9,164,none⟩),.pointer (some ⟨w.heap.size,0,none⟩),.int .u64 150] 214)).alloc (.cells #[.pointer (some ⟨9,164,none⟩),.pointer (some ⟨w.heap.size,0,none⟩),.int .u64 150] 214)) (by rw[World.cell?_alloc_lt _ _ ⟨w.heap.size,0,none⟩ (by simp; omega)]; simp)
 have st:=seOpEP t ⟨w.heap.size+1+1+1,0,none⟩ e old ((((w.alloc (.cells #[.pointer (some t)] 164)).alloc (.cells #[.pointer (some ⟨9,164,none⟩),.pointer (some ⟨w.heap.size,0,none⟩),.int .u64 150] 214)).alloc (.cells #[.pointer (some ⟨9,164,none⟩),.pointer (some ⟨w.heap.size,0,none⟩),.int .u64 150] 214)).alloc (.cells #[.pointer (some e)] 159))
  (by rw[World.cell?_alloc_at _ _ _ _ (by simp)]; rfl)
  (by rw[World.cell?_alloc_lt _ _ t (by simp; omega),World.cell?_alloc_lt _ _ t (by simp; omega),World.cell?_alloc_lt _ _ t (by simp; omega),World.cell?_alloc_lt _ _ t htl]; exact ht0)
  (by rw[World.frozen?_alloc_old _ _ t (by simp; omega),World.frozen?_alloc_old _ _ t (by simp; omega),World.frozen?_alloc_old _ _ t (by simp; omega),World.frozen?_alloc_old _ _ t (Nat.ne_of_lt htl)]; exact hf0)
 go_enter Tryz.func100,Tryz.ntmps100
 go_wp2
 refine wp_loop_rounds 1 ?_
 rw[rounds_succ]
 go_wp2
 go_ret
 exact⟨rfl,rfl⟩
theorem asFlt (e t:Addr) (old:Value) (w:World) (o:Nat) (ho:w.cell? ⟨o,1,none⟩=some (.iface 156 (.pointer (some e)))) (hg:w.cell? ⟨0,0,none⟩=some (.iface 249 (.agg #[.pointer (some ⟨9,86,none⟩)]))) (ht0:w.cell? t=some old) (hf0:w.frozen? t=false) :
  Calls Tryz.prog 100 #[.iface 159 (.pointer (some ⟨o,0,none⟩)),.iface 163 (.pointer (some t))] w fun ev w'=>ev = .returned (.bool true)∧w'=((((w.alloc (.cells #[.pointer (some t)] 163)).alloc (.cells #[.pointer (some ⟨9,163,none⟩),.pointer (some ⟨w.heap.size,0,none⟩),.int .u64 150] 214)).alloc (.cells #[.pointer (some ⟨9,163,none⟩),.pointer (some ⟨w.heap.size,0,none⟩),.int .u64 150] 214)).alloc (.cells #[.pointer (some e)] 156)).setCell t (.pointer (some e)):=by
 have h6:=@run_callFunc_extern Tryz.prog 142 _ (fun args=>ReflectliteValue.unpack (args.getD 0 (.tuple #[]))) Tryz.func142 (by kernel_rfl) (by kernel_rfl) (by kernel_rfl) (by kernel_rfl)
 have h7 := @run_callFunc_extern Tryz.prog 143 _ (ReflectliteValue.methodAny (ReflectliteValue.valueError "reflectlite.Value.Type" 0) (fun t _ _ _ => ReflectliteType.toType t)) Tryz.func143 (by kernel_rfl) (by kernel_rfl) (by kernel_rfl) (by kernel_rfl)
 have h8 := @run_callFunc_extern Tryz.prog 144 _ (ReflectliteValue.method (ReflectliteValue.valueError "reflectlite.Value.IsNil" 0) ReflectliteValue.isNil) Tryz.func144 (by kernel_rfl) (by kernel_rfl) (by kernel_rfl) (by kernel_rfl)
 have h27:=@run_callFunc_extern Tryz.prog 310 _ (ReflectliteType.abiMethod fun t=>do pure (.int .u8 (← Rtype.kind t))) Tryz.func310 (by kernel_rfl) (by kernel_rfl) (by kernel_rfl) (by kernel_rfl)
 have h37:=@run_callFunc_extern Tryz.prog 332 _ (ReflectliteType.method ReflectliteType.elem) Tryz.func332 (by kernel_rfl) (by kernel_rfl) (by kernel_rfl) (by kernel_rfl)
 have h38 := @run_callFunc_extern Tryz.prog 333 _ (ReflectliteType.relation "Implements" ReflectliteType.implements_) Tryz.func333 (by kernel_rfl) (by kernel_rfl) (by kernel_rfl) (by kernel_rfl)
 have h10:=@run_callFunc_extern Tryz.prog 180 _ ReflectliteType.typeOf Tryz.func180 (by kernel_rfl) (by kernel_rfl) (by kernel_rfl) (by kernel_rfl)
 have h35 := @run_callFunc_extern Tryz.prog 330 _ (ReflectliteType.relation "AssignableTo" ReflectliteType.assignableTo) Tryz.func330 (by kernel_rfl) (by kernel_rfl) (by kernel_rfl) (by kernel_rfl)
 have h11 := @run_callFunc_extern Tryz.prog 181 _ (ReflectliteValue.method (ReflectliteValue.valueError "reflectlite.Value.Elem" 0) ReflectliteValue.elem) Tryz.func181 (by kernel_rfl) (by kernel_rfl) (by kernel_rfl) (by kernel_rfl)
 have h12:=@run_callFunc_extern Tryz.prog 182 _ ReflectliteValue.set Tryz.func182 (by kernel_rfl) (by kernel_rfl) (by kernel_rfl) (by kernel_rfl)
 have tO:=toFltP
 have mA:=mtAssignableTo
 have a25:=asFltP
 have v25:=voFltP
 have f6:=voFltQ
 have f7:=tyFltQ
 have mK:=mtKind
 have mE:=mtElem
 have mI:=mtImplements
 have k27:=kdFltQ
 have k25:=kdFltP
 have e27:=elFltQ
 have i25:=imFltP
 have n8:=nlFltQ ⟨w.heap.size,0,none⟩ t ((w.alloc (.cells #[.pointer (some t)] 163)).alloc (.cells #[.pointer (some ⟨9,163,none⟩),.pointer (some ⟨w.heap.size,0,none⟩),.int .u64 150] 214)) (by simp)
 have hlt:0 < w.heap.size:=by
  rcases Nat.lt_or_ge 0 w.heap.size with h | h
  ·exact h
  ·simp[World.cell?,Array.getElem?_eq_none h] at hg
 have hg2:((w.alloc (.cells #[.pointer (some t)] 163)).alloc (.cells #[.pointer (some ⟨9,163,none⟩),.pointer (some ⟨w.heap.size,0,none⟩),.int .u64 150] 214)).cell? ⟨0,0,none⟩=some (.iface 249 (.agg #[.pointer (some ⟨9,86,none⟩)])):=by
  rw[World.cell?_alloc_lt _ _ ⟨0,0,none⟩ (by first | (simp; done) | (simp; omega)),World.cell?_alloc_lt _ _ ⟨0,0,none⟩ hlt]; exact hg
 have htl:t.block < w.heap.size:=by
  rcases Nat.lt_or_ge t.block w.heap.size with h | h
  ·exact h
  ·simp[World.cell?,Array.getElem?_eq_none h] at ht0
 have hol:o < w.heap.size:=by
  rcases Nat.lt_or_ge o w.heap.size with h | h
  ·exact h
  ·simp[World.cell?,Array.getElem?_eq_none h] at ho
 have ho3:(((w.alloc (.cells #[.pointer (some t)] 163)).alloc (.cells #[.pointer (some ⟨9,163,none⟩),.pointer (some ⟨w.heap.size,0,none⟩),.int .u64 150] 214)).alloc (.cells #[.pointer (some ⟨9,163,none⟩),.pointer (some ⟨w.heap.size,0,none⟩),.int .u64 150] 214)).cell? ⟨o,1,none⟩=some (.iface 156 (.pointer (some e))):=by
  rw[World.cell?_alloc_lt _ _ ⟨o,1,none⟩ (by simp; omega),World.cell?_alloc_lt _ _ ⟨o,1,none⟩ (by simp; omega),World.cell?_alloc_lt _ _ ⟨o,1,none⟩ hol]; exact ho
 have tO2:=toOpEP
 have aNo:=as_no
 have tA:=ta_as ⟨o,0,none⟩
 have tU:=ta_un ⟨o,0,none⟩
 have mU:=mtUnwrap
 have el:=evFltQ ⟨w.heap.size,0,none⟩ t (((w.alloc (.cells #[.pointer (some t)] 163)).alloc (.cells #[.pointer (some ⟨9,163,none⟩),.pointer (some ⟨w.heap.size,0,none⟩),.int .u64 150] 214)).alloc (.cells #[.pointer (some ⟨9,163,none⟩),.pointer (some ⟨w.heap.size,0,none⟩),.int .u64 150] 214)) (by rw[World.cell?_alloc_lt _ _ ⟨w.heap.size,0,none⟩ (by simp; omega)]; simp)
 have st:=seFltP t ⟨w.heap.size+1+1+1,0,none⟩ e old ((((w.alloc (.cells #[.pointer (some t)] 163)).alloc (.cells #[.pointer (some ⟨9,163,none⟩),.pointer (some ⟨w.heap.size,0,none⟩),.int .u64 150] 214)).alloc (.cells #[.pointer (some ⟨9,163,none⟩),.pointer (some ⟨w.heap.size,0,none⟩),.int .u64 150] 214)).alloc (.cells #[.pointer (some e)] 156))
  (by rw[World.cell?_alloc_at _ _ _ _ (by simp)]; rfl)
  (by rw[World.cell?_alloc_lt _ _ t (by simp; omega),World.cell?_alloc_lt _ _ t (by simp; omega),World.cell?_alloc_lt _ _ t (by simp; omega),World.cell?_alloc_lt _ _ t htl]; exact ht0)
  (by rw[World.frozen?_alloc_old _ _ t (by simp; omega),World.frozen?_alloc_old _ _ t (by simp; omega),World.frozen?_alloc_old _ _ t (by simp; omega),World.frozen?_alloc_old _ _ t (Nat.ne_of_lt htl)]; exact hf0)
 go_enter Tryz.func100,Tryz.ntmps100
 go_wp2
 refine wp_loop_rounds 2 ?_
 rw[rounds_succ]
 go_wp2
 rw[rounds_succ]
 go_wp2
 go_ret
 exact⟨rfl,rfl⟩
end Go.Proofs.YtocnekbedcnmgaaGreatDoor
