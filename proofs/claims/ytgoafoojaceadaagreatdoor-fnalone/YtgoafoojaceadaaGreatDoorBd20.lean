import Derived.Stop.LaidErr
import Derived.PinnedBridge
import Derived.Test.YtgoafoojaceadaaGreatDoorBd19
set_option maxRecDepth 100000
set_option maxHeartbeats 8000000
open Go renaming Calls->δ,Value->ω
open Go.Ending renaming returned->ε
open Go.IntKind renaming i64->κ,wrap_i64->Ζ
open Go.Obj renaming cells->χ
open Go.Value renaming agg->γ,bool->θ,iface->φ,int->ι,pointer->π,slice->Δ,slice->ς,string->σ,tuple->τ
open Go.World renaming cell?_alloc_lt->Α,frozen?_alloc_old->Γ
open _root_.Bool renaming and_eq_true->Ε,false->ζ,true->ξ
open _root_.List renaming length_reverse->Β
open _root_.Option renaming none->ν,some->η
namespace Go.Proofs.YtgoafoojaceadaaGreatDoor
open Go.RowKit Go.Extern.Stop Go.Stop Go.Extern Go.Proofs.Tryz
variable{t T:TypeId}{w w' W:Wo}{ms:List zk}{q p g B b h:Nat}{v o rp rt:ω}{s d:Bs}{S S' A:Nat->Prop}{c i k n:Int}{vs l:List zj}{bl:List Nat}{r:JV}
theorem zhk(t:ω)(w:Wo):δ prog 88 #[.nilIface,t] w fun e w'=>e=ε (θ ζ)/\w=w':=by
 go_in;go_wp2;go_ret;exact⟨rfl,rfl⟩
theorem Az(z:Sem ω)(f:TypeId->Addr->Nat->Nat->Sem ω)(v:ω):
  ReflectliteValue.method z f #[v]=(do match ← ReflectliteValue.parts v with | none=>z | some (t,a,fl)=>f t a fl (fl % 32)):=rfl
theorem zhl(v x:ω):ReflectliteValue.set #[v,x]=(do
  let (η (dst,a,fl),η (src,b,_)):=(← ReflectliteValue.parts v,← ReflectliteValue.parts x)
   | unsupported (.noEntry "extern/(internal/reflectlite.Value).Set.zeroValue")
  if fl / ReflectliteValue.flagAddr % 2 == 0 then unsupported (.noEntry "extern/(internal/reflectlite.Value).Set.unaddressable")
  let val ← loadVar src b
  if ← Rtype.directlyAssignable dst src then storeVar dst a val
  else if ← Rtype.implements dst src then
   if (← Rtype.kind src) ==20 then
    match val with
    | .nilIface => unsupported (.noEntry "extern/reflectlite: a nil value of one interface type handed on as a value of another")
    | _=>storeVar dst a val
   else storeVar dst a (φ src val)
  else panicString ("reflectlite.Set: value of type " ++ (← Rtype.spelt src) ++ " is not assignable to type " ++ (← Rtype.spelt dst))
  pure (.tuple #[])):=rfl
theorem zhm (h :ω) (w : World) : (Go.method 503 267 (γ #[h]) "Kind").run Tryz.prog w = .ok (313, h) w := by kernel_rfl
theorem zhn (h :ω) (w : World) : (Go.method 503 267 (γ #[h]) "Elem").run Tryz.prog w = .ok (340, γ #[h]) w := by kernel_rfl
theorem zho (h :ω) (w : World) : (Go.method 503 267 (γ #[h]) "Implements").run Tryz.prog w = .ok (341, γ #[h]) w := by kernel_rfl
theorem zhp (h :ω) (w : World) : (Go.method 503 267 (γ #[h]) "AssignableTo").run Tryz.prog w = .ok (338, γ #[h]) w := by kernel_rfl
def QP(q p:Nat):Prop:=q=169/\p=162∨q=170/\p=165
structure AsF(q p:Nat):Prop where
 fTy : ∀ (a : Addr) (w : World), (ReflectliteValue.methodAny (ReflectliteValue.valueError "reflectlite.Value.Type" 0) (fun t _ _ _ => ReflectliteType.toType t) #[γ #[π (η ⟨9, q, ν⟩), π (η a), .int .u64 150]]).run Tryz.prog w = .ok (φ 267 (γ #[π (η ⟨9, q, ν⟩)])) w
 fKq:∀ w:Wo,((ReflectliteType.abiMethod fun t=>(fun a:Nat=>Value.int IntKind.u8 (a:Int)) <$> Rtype.kind t) #[π (η ⟨9,q,ν⟩)]).run prog w= .ok (.int .u8 22) w
 fKp:∀ w:Wo,((ReflectliteType.abiMethod fun t=>(fun a:Nat=>Value.int IntKind.u8 (a:Int)) <$> Rtype.kind t) #[π (η ⟨9,p,ν⟩)]).run prog w= .ok (.int .u8 22) w
 fEl:∀ w:Wo,(ReflectliteType.method ReflectliteType.elem #[γ #[π (η ⟨9,q,ν⟩)]]).run prog w= .ok (φ 267 (γ #[π (η ⟨9,p,ν⟩)])) w
 fIm : ∀ w : World, (ReflectliteType.relation "Implements" ReflectliteType.implements_ #[γ #[π (η ⟨9, p, ν⟩)], φ 267 (γ #[π (η ⟨9, 86, ν⟩)])]).run Tryz.prog w = .ok (θ ξ) w
 fAs : ∀ w : World, (ReflectliteType.relation "AssignableTo" ReflectliteType.assignableTo #[γ #[π (η ⟨9, p, ν⟩)], φ 267 (γ #[π (η ⟨9, p, ν⟩)])]).run Tryz.prog w = .ok (θ ξ) w
 fEo:∀ w:Wo,(Rtype.elem? q).run prog w= .ok (η p) w
 fMk:∀ (a:Addr) (w:Wo),(ReflectliteValue.mk p a ReflectliteValue.flagAddr).run prog w= .ok (γ #[π (η ⟨9,p,ν⟩),π (η a),.int .u64 406]) w
 fPa:∀ (a:Addr) (w:Wo),(ReflectliteValue.parts (γ #[π (η ⟨9,p,ν⟩),π (η a),.int .u64 406])).run prog w= .ok (η (p,a,406)) w
 fDi:∀ w:Wo,(Rtype.directlyAssignable p p).run prog w= .ok ξ w
 fVo:∀ (a:Addr) (w:Wo) (t:Nat),t=q∨t=p->(ReflectliteValue.unpack (φ t (π (η a)))).run prog w= .ok (γ #[π (η ⟨9,t,ν⟩),π (η ⟨w.heap.size,0,ν⟩),.int .u64 150]) (w.alloc (χ #[π (η a)] t))
 fPt:∀ (a:Addr) (w:Wo) (t:Nat),t=q∨t=p->(ReflectliteValue.parts (γ #[π (η ⟨9,t,ν⟩),π (η a),.int .u64 150])).run prog w= .ok (η (t,a,150)) w
theorem VW(h:QP q p):AsF q p:=by
 rcases h with ⟨rfl,rfl⟩ |⟨rfl,rfl⟩<;>exact⟨by intros;kernel_rfl,by intros;kernel_rfl,by intros;kernel_rfl,by intros;kernel_rfl,by intros;kernel_rfl,by intros;kernel_rfl,by intros;kernel_rfl,by intros;kernel_rfl,by intros;kernel_rfl,by intros;kernel_rfl,by rintro a w t (rfl | rfl)<;>kernel_rfl,by rintro a w t (rfl | rfl)<;>kernel_rfl⟩
theorem nlQ(h:QP q p)(a t:Addr)(W:Wo)(ha:W.cell? a=η (π (η t))):
  (ReflectliteValue.method (ReflectliteValue.valueError "reflectlite.Value.IsNil" 0) ReflectliteValue.isNil #[γ #[π (η ⟨9, q, ν⟩), π (η a), .int .u64 150]]).run Tryz.prog W = .ok (θ ζ) W := by
 rw[Az];simp only[Sem.run_bind,(VW h).fPt _ _ q (.inl rfl),Result.andThen];rcases h with ⟨rfl,rfl⟩ |⟨rfl,rfl⟩<;>simp[ReflectliteValue.isNil,loadVar,isAgg,underlying,underlying169,underlying170,ha,Result.andThen]
theorem evQ(h:QP q p)(a t:Addr)(W:Wo)(ha:W.cell? a=η (π (η t))):
  (ReflectliteValue.method (ReflectliteValue.valueError "reflectlite.Value.Elem" 0) ReflectliteValue.elem #[γ #[π (η ⟨9, q, ν⟩), π (η a), .int .u64 150]]).run Tryz.prog W = .ok (γ #[π (η ⟨9, p, ν⟩), π (η t), .int .u64 406]) W := by
 have F:=VW h;rw[Az];simp only[Sem.run_bind,F.fPt _ _ q (.inl rfl),Result.andThen];rcases h with ⟨rfl,rfl⟩ |⟨rfl,rfl⟩<;>simp[ReflectliteValue.elem,loadVar,isAgg,underlying,underlying169,underlying170,ha,Result.andThen,F.fEo,F.fMk]
theorem seP(h:QP q p)(ta b e:Addr)(old:ω)(W:Wo)(hb:W.cell? b=η (π (η e)))(ht:W.cell? ta=η old)(hf:W.frozen? ta=ζ):
  (ReflectliteValue.set #[γ #[π (η ⟨9,p,ν⟩),π (η ta),.int .u64 406],γ #[π (η ⟨9,p,ν⟩),π (η b),.int .u64 150]]).run prog W= .ok (.tuple #[]) (W.setCell ta (π (η e))):=by
 have F:=VW h;rw[zhl];simp only[Sem.run_bind,F.fPa,F.fPt _ _ p (.inr rfl),Result.andThen];rcases h with ⟨rfl,rfl⟩ |⟨rfl,rfl⟩<;>(simp[ReflectliteValue.flagAddr,loadVar,isAgg,underlying,underlying162,underlying165,hb,Result.andThen,F.fDi,storeVar,Value.cells,storeCells,Addr.add];rw[run_store prog W ta _ _ (by rfl)];simp[ht,hf])
theorem AA(h:QP q p)(v:ω)(w:Wo):(ReflectliteType.typeOf #[φ p v]).run prog w= .ok (φ 267 (γ #[π (η ⟨9,p,ν⟩)])) w:=by rcases h with ⟨rfl,rfl⟩ |⟨rfl,rfl⟩<;>kernel_rfl
theorem zhu (w : World) : (ReflectliteType.relation "AssignableTo" ReflectliteType.assignableTo #[γ #[π (η ⟨9, 165, ν⟩)], φ 267 (γ #[π (η ⟨9, 162, ν⟩)])]).run Tryz.prog w = .ok (θ ζ) w := by kernel_rfl
theorem zhv(a:Addr)(w:Wo):(Instr.typeAssert (φ 165 (π (η a))) 86 272 ξ).run prog w= .ok (.tuple #[.nilIface,θ ζ]) w:=run_typeAssert_lacksB underlying272 kr kr _ _ w
theorem zhw(a:Addr)(w:Wo):(Instr.typeAssert (φ 165 (π (η a))) 86 275 ξ).run prog w= .ok (.tuple #[φ 165 (π (η a)),θ ξ]) w:=run_typeAssert_hasB underlying275 kr _ _ w
theorem zhx (v :ω) (w : World) : (Go.method 503 165 v "Unwrap").run Tryz.prog w = .ok (319, v) w := by kernel_rfl
def U1(q p:Nat)(e t:Addr)(w:Wo):Wo:=(((w.alloc (χ #[π (η t)] q)).alloc (χ #[π (η ⟨9,q,ν⟩),π (η ⟨w.heap.size,0,ν⟩),.int .u64 150] 223)).alloc (χ #[π (η ⟨9,q,ν⟩),π (η ⟨w.heap.size,0,ν⟩),.int .u64 150] 223)).alloc (χ #[π (η e)] p)
theorem Lj{a:Addr}(h:w.cell? a=η v):a.block<w.heap.size:=by
 rcases Nat.lt_or_ge a.block w with g | g
 .exact g
 .simp[World.cell?,Array.getElem?_eq_none g]at h
theorem zhy(h:QP q p)(e t:Addr)(x old:ω)(w:Wo)(hx:p=165/\x=φ 165 (π (η e))∨p=162/\∃ o,x=φ 165 (π (η ⟨o,0,ν⟩))/\w.cell? ⟨o,1,ν⟩=η (φ 162 (π (η e))))(hg:w.cell? ⟨0,0,ν⟩=η (φ 267 (γ #[π (η ⟨9,86,ν⟩)])))(ht0:w.cell? t=η old)(hf0:w.frozen? t=ζ):
  δ prog 88 #[x,φ q (π (η t))] w fun ev w'=>ev=ε (θ ξ)/\w'=(U1 q p e t w).setCell t (π (η e)):=by
 have h6:=@run_callFunc_extern prog 136 _ (fun args=>ReflectliteValue.unpack (args.getD 0 (.tuple #[]))) func136 kr kr kr kr
 have h7 := @run_callFunc_extern Tryz.prog 137 _ (ReflectliteValue.methodAny (ReflectliteValue.valueError "reflectlite.Value.Type" 0) (fun t _ _ _ => ReflectliteType.toType t)) Tryz.func137 kr kr kr kr
 have h8 := @run_callFunc_extern Tryz.prog 138 _ (ReflectliteValue.method (ReflectliteValue.valueError "reflectlite.Value.IsNil" 0) ReflectliteValue.isNil) Tryz.func138 kr kr kr kr
 have h27:=@run_callFunc_extern prog 313 _ (ReflectliteType.abiMethod fun t=>do pure (.int .u8 (← Rtype.kind t))) func313 kr kr kr kr;have h37:=@run_callFunc_extern prog 340 _ (ReflectliteType.method ReflectliteType.elem) func340 kr kr kr kr
 have h38 := @run_callFunc_extern Tryz.prog 341 _ (ReflectliteType.relation "Implements" ReflectliteType.implements_) Tryz.func341 kr kr kr kr
 have h10:=@run_callFunc_extern prog 187 _ ReflectliteType.typeOf func187 kr kr kr kr
 have h35 := @run_callFunc_extern Tryz.prog 338 _ (ReflectliteType.relation "AssignableTo" ReflectliteType.assignableTo) Tryz.func338 kr kr kr kr
 have h11 := @run_callFunc_extern Tryz.prog 188 _ (ReflectliteValue.method (ReflectliteValue.valueError "reflectlite.Value.Elem" 0) ReflectliteValue.elem) Tryz.func188 kr kr kr kr
 have h12:=@run_callFunc_extern prog 189 _ ReflectliteValue.set func189 kr kr kr kr;have tO:=AA h;have mA:=zhp;have a25:=(VW h).fAs;have v25:=fun a w=>(VW h).fVo a w p (.inr rfl);have f6:=fun a w=>(VW h).fVo a w q (.inl rfl);have f7:=(VW h).fTy;have mK:=zhm;have mE:=zhn;have mI:=zho;have k27:=(VW h).fKq;have k25:=(VW h).fKp;have e27:=(VW h).fEl;have i25:=(VW h).fIm;have n8:=nlQ h ⟨w,0,ν⟩ t ((w.alloc (χ #[π (η t)] q)).alloc (χ #[π (η ⟨9,q,ν⟩),π (η ⟨w,0,ν⟩),.int .u64 150] 223)) sm;have hlt:=Lj hg;have hg2:((w.alloc (χ #[π (η t)] q)).alloc (χ #[π (η ⟨9,q,ν⟩),π (η ⟨w,0,ν⟩),.int .u64 150] 223)).cell? ⟨0,0,ν⟩=η (φ 267 (γ #[π (η ⟨9,86,ν⟩)])):=by
  rw[Α _ _ ⟨0,0,ν⟩ (by first |(simp;done) |(simp;omega)),Α _ _ ⟨0,0,ν⟩ hlt];exact hg
 have htl:=Lj ht0;have el:=evQ h ⟨w,0,ν⟩ t (((w.alloc (χ #[π (η t)] q)).alloc (χ #[π (η ⟨9,q,ν⟩),π (η ⟨w,0,ν⟩),.int .u64 150] 223)).alloc (χ #[π (η ⟨9,q,ν⟩),π (η ⟨w,0,ν⟩),.int .u64 150] 223)) (by rw[Α _ _ ⟨w,0,ν⟩ so];simp);have st:=seP h t ⟨w.heap.size+1+1+1,0,ν⟩ e old (U1 q p e t w)
  (by unfold U1;rw[World.cell?_alloc_at _ _ _ _ sm];rfl)
  (by unfold U1;rw[Α _ _ t so,Α _ _ t so,Α _ _ t so,Α _ _ t htl];exact ht0)
  (by unfold U1;rw[Γ _ _ t so,Γ _ _ t so,Γ _ _ t so,Γ _ _ t (Nat.ne_of_lt htl)];exact hf0)
 unfold U1 at st ⊢;rcases h with ⟨rfl,rfl⟩ |⟨rfl,rfl⟩<;>rcases hx with ⟨hp,rfl⟩ |⟨hp,o,rfl,ho⟩<;>first | cases hp | clear hp
 .have hol:o<w.heap.size:=Lj ho;have ho3:(((w.alloc (χ #[π (η t)] 169)).alloc (χ #[π (η ⟨9,169,ν⟩),π (η ⟨w,0,ν⟩),.int .u64 150] 223)).alloc (χ #[π (η ⟨9,169,ν⟩),π (η ⟨w,0,ν⟩),.int .u64 150] 223)).cell? ⟨o,1,ν⟩=η (φ 162 (π (η e))):=by
   rw[Α _ _ ⟨o,1,ν⟩ so,Α _ _ ⟨o,1,ν⟩ so,Α _ _ ⟨o,1,ν⟩ hol];exact ho
  have tO2:=AA (.inr ⟨rfl,rfl⟩);have aNo:=zhu;have tA:=zhv ⟨o,0,ν⟩;have tU:=zhw ⟨o,0,ν⟩;have mU:=zhx;go_in;go_wp2;refine wp_loop_rounds 2 ?_;rw[rounds_succ];go_wp2;rw[rounds_succ];go_wp2;go_ret;exact⟨rfl,rfl⟩
 .go_in;go_wp2;refine wp_loop_rounds 1 ?_;rw[rounds_succ];go_wp2;go_ret;exact⟨rfl,rfl⟩
open Go.Lib hiding intOf
open Go.Shelf
abbrev Ph : List (String × DataW Unit) := [("math/bits.deBruijn32tab", Rows.laid_math_bits_deBruijn32tab), ("math/bits.deBruijn64tab", Rows.laid_math_bits_deBruijn64tab), ("internal/strconv.uint64pow10", Rows.laid_internal_strconv_uint64pow10), ("unicode/utf8.acceptRanges", Rows.laid_unicode_utf8_acceptRanges), ("strconv.ErrRange", Rows.laid_strconv_ErrRange), ("strconv.ErrSyntax", Rows.laid_strconv_ErrSyntax), ("unicode/utf8.first", Rows.laid_unicode_utf8_first)]
theorem zhz(h:laidMet prog Ph W):WF W:=by
 refine utf8Tabs_of_readsT ⟨Tryz.laysDecode.t5,Tryz.laysDecode.t119,Tryz.laysDecode.t138,Tryz.laysDecode.t139⟩ ⟨kr,kr,kr,kr,kr,kr,kr⟩ ?_ ?_
 .have a:=Lib.laidMet.reads h (d:=Rows.laid_unicode_utf8_first) (.tail _ (.tail _ (.tail _ (.tail _ (.tail _ (.tail _ (.head _)))))));rw[show Rows.laid_unicode_utf8_first=firstData from Pinned.utf8First_eq]at a;exact a
 .have a:=Lib.laidMet.reads h (d:=Rows.laid_unicode_utf8_acceptRanges) (.tail _ (.tail _ (.tail _ (.head _))));rw[show (Rows.laid_unicode_utf8_acceptRanges:DataW Unit)=acceptData from by kernel_rfl]at a;exact a
theorem AB{n:String}{cs:Array ω}(hg:prog.globalNamed n=η g)(h:W.var? prog n=η cs):g<W.heap.size:=by
 unfold World.var? at h;rw[hg]at h;simp only[yB]at h;rcases Nat.lt_or_ge g W with a | a
 .exact a
 .rw[Array.getElem?_eq_none a]at h;cases h
theorem zhA(h:laidMet prog Ph W):JJ W W:=by
 have h3 : laidMet Tryz.prog (("internal/strconv.uint64pow10", Lib.tabData .u64 Lib.pow10Tab) :: _) W := h.tail.tail
 have hg : Tryz.prog.globalNamed "internal/strconv.uint64pow10" =η 6 := kr
 have ht:=Lib.tabIs_of_head hg (t:=366) kr underlying366 underlying246 kr kr h3;exact⟨AB hg ht,ht⟩
theorem AC: "*" ++ "errors.errorString" = "*errors.errorString" := by decide
theorem zhB (u : TypeId) (h : Tryz.prog.typeName? 3 u =η "*errors.errorString") : u = 357 :=
 typeName_ptr_named (nm := "errors.errorString") (by rw [AC]; kernel_rfl) kr dc u (by rw [AC]; exact h)
theorem zhC(h:laidMet prog Ph W):Ji W W:=by
 have h4:=h.tail.tail.tail.tail
 have hg : Tryz.prog.globalNamed "strconv.ErrRange" =η 5 := kr
 obtain⟨a,s,hv,_,_,_⟩:=laid_sentinel h4 hg (ti:=86) kr underlying86 zhB underlying357 underlying359 rfl rfl underlying9 kr kr;refine⟨AB hg hv,_,_,World.var?_cell hg hv 0⟩
def JE(w:Wo):Prop:=w.cell? ⟨0,0,ν⟩=η (φ 267 (γ #[π (η ⟨9,86,ν⟩)]))
theorem JE.up(h:JE w)(hb:Below w w w'):JE w':=(hb.cell (p:=⟨0,0,ν⟩) (yK _ _ h)).trans h
theorem zhD(w:Wo)(o1 o2 o3 o4:Obj)(tb:Nat)(x:ω):w.grownBy ((((w.alloc o1).alloc o2).alloc o3).alloc o4 |>.setCell tb x) (η tb):=by
 have a:w.grownBy ((((w.alloc o1).alloc o2).alloc o3).alloc o4) (η tb):=
  YV (((((yI w w).alloc (ye _) o1).alloc sm o2).alloc so o3).alloc so o4)
 exact JF a ((Ri _ 0 tb 0 x))
theorem AD(h:QP q p)(eb tb:Nat)(x:ω)(t0:TypeId)(w:Wo)(hx:p=165/\x=φ 165 (π (η ⟨eb,0,ν⟩))∨p=162/\∃ o,x=φ 165 (π (η ⟨o,0,ν⟩))/\w.cell? ⟨o,1,ν⟩=η (φ 162 (π (η ⟨eb,0,ν⟩))))(hg:JE w)(ht:w.heap[tb]?=η (χ #[π ν] t0 (0,0))):
  δ prog 88 #[x,φ q tb] w fun e w'=>e=ε (θ ξ)/\w.grownBy w' (η tb)/\w'.cell? tb=η eb:=by
 have b:=Zw ht;have a:=(yC.1 ht).1;go_call zhy h eb tb x (π ν) w hx hg b (by simp[World.frozen?,ht]) as e w' ⟨rfl,rfl⟩;refine⟨rfl,zhD _ _ _ _ _ _ _,?_⟩;refine World.cell?_setCell_same' _ _ _ ?_;unfold U1;rw[Α _ _ tb so,Α _ _ tb so,Α _ _ tb so,Α _ _ tb a,b];rfl
theorem AE(w:Wo):δ prog 39 #[.nilIface] w fun e w'=>e=ε (τ #[ι κ 0,ι κ 0])/\Below w w w':=by
 have a:=zb zhk;go_in;go_wp2_with fail;go_call uh a _ _ as e w1 ⟨rfl,rfl⟩;go_wp2_with fail;go_call uh a _ _ as e w1 ⟨rfl,rfl⟩;go_wp2;go_ret2;exact⟨rfl,zh (zt _ _) (zt _ _)⟩
theorem AF(i c:Int)(t:TypeId)(p:ω)(w:Wo)(h:Fx w i c (φ t p))(hg:JE w):
  δ prog 39 #[φ t p] w fun e w'=>e=ε (τ #[ι κ c,ι κ i])/\Below w w w':=by
 obtain⟨d,D,m,n,fb,A,u⟩:=h;injection m with m e1';subst m;subst e1';subst A;have g:=zt w (χ #[π ν] 162);have f:=(yC.1 n).1;have o:=(yC.1 u).1;have v:=zb (AD (.inl ⟨rfl,rfl⟩) fb w _ 162 (w.alloc (χ #[π ν] 162)) (.inr ⟨rfl,d,rfl,yG ((g.block d f).trans n) 1⟩) (hg.up g) (yH w _));have x:=zb n;have y:=zb u;have z:=zb hg;have a:=zb g;go_in;go_wp2_with fail;go_call v as e w2 ⟨rfl,g2,c2⟩;have j:=a.trans (KY g2 (ye _) a.size);have C:w2.cell? ⟨fb,0,ν⟩=η (ι κ c):=(j.cell (p:=⟨fb,0,ν⟩) o).trans (yG y 0);have r:=zh j (zt w2 (χ #[π ν] 165));have k:=zb (AD (.inr ⟨rfl,rfl⟩) d w2 _ 165 (w2.alloc (χ #[π ν] 165)) (.inl ⟨rfl,rfl⟩) (z.up r) (yH w2 _));have b:=zb r;have q:=j.size;go_wp2_with fail;go_call k as e w4 ⟨rfl,g4,c4⟩;have s:=b.trans (KY g4 q b.size);have B:w4.cell? ⟨d,0,ν⟩=η (ι κ i):=(s.cell (p:=⟨d,0,ν⟩) f).trans (yG x 0);have l:=zb s;go_wp2;go_ret2;exact⟨rfl,l⟩
theorem zhE:((List.range prog.types.size).filter fun t=>prog.rowNamed t [101,114,114,111,114])=[86]:=by kernel_rfl
theorem zhF: (Tryz.prog.cutTypes.find? (·.1 == "internal/reflectlite.rtype")).map (·.2) =η 267 := by kernel_rfl
theorem zhG {W : World} (h : handlesMet Tryz.prog [("errors.errorType", Rows.laid_errors_errorType)] W) : JE W := by
 obtain⟨name,u,ty,e1,e2,e3,e4,e5⟩:=h _ (List.mem_singleton.2 rfl);have en:=(Option.some.inj e1).symm;subst en;obtain rfl:=Option.some.inj (zhF.symm.trans e2);have hm:ty∈(List.range prog.types.size).filter fun t=>prog.rowNamed t [101,114,114,111,114]:=List.mem_filter.2 ⟨List.mem_range.2 e3,e4⟩;rw[zhE]at hm;obtain rfl:=List.mem_singleton.1 hm;have hh:typeHandle prog 86=π (η ⟨9,86,ν⟩):=kr;rw[hh]at e5
 exact World.var?_cell (show Tryz.prog.globalNamed "errors.errorType" =η 0 by kernel_rfl) e5 0
def AG(w:Wo):Prop:=(WF w/\Ji w.heap.size w/\JJ w.heap.size w)/\JE w
def Yw(v:JV)(ms:List zk):(Int×Int)⊕JV:=if 0<=qn ms then .inl (2,qn ms)else match Qy v (ms.map qJ) 0 with
 | .inl ci=>.inl ((ci.1:Int),(ci.2:Int))
 | .inr r=>.inr r
theorem zhH{v:JV}(h:0<=qn ms):Yw v ms= .inl (2,qn ms):=by unfold Yw;rw[yg h]
theorem AH{v:JV}{c i:Nat}(h:¬ 0<=qn ms)(hr:Qy v (ms.map qJ) 0= .inl (c,i)):Yw v ms= .inl ((c:Int),(i:Int)):=by unfold Yw;rw[yf h,hr]
theorem zhI{v:JV}(h:¬ 0<=qn ms)(hr:Qy v (ms.map qJ) 0= .inr r):Yw v ms= .inr r:=by unfold Yw;rw[yf h,hr]
def Lk(w:Wo)(o:(Int×Int)⊕JV)(e:Ending)(w':Wo):Prop:=Bw w w' /\
 ((∃ c i t p,o= .inl (c,i)/\c≠0/\e=ε (τ #[.nilIface,φ t p])/\Fx w' i c (φ t p))∨∃ u t p,o= .inr u/\Z7 u/\e=ε (τ #[φ t p,.nilIface])/\zT w' u (φ t p))
theorem zhJ{p:ω}(h:Xi w c (φ t p)):Fx (w.alloc (χ #[ι κ i,φ t p] 167)) i c (φ 165 w):=
 ⟨w,_,rfl,yH w _,h.next (zt _ _)⟩
theorem zhK(hEq:Fz)(hMv:NJ){w1:Wo}{la:Option Addr}{lc:Nat}{qs:List Wi}(hL:UM w1 w (Xh w w1 (ς la qs.length lc)) (ς la qs.length lc) ms qs)(hin:XQ ms)(hok:∀ m∈ms,ZD m=ξ){k:Nat}(hk:k<ms.length){wr:Wo}(hb:Below w1 w1 wr)(hw:qC wr){u:JV}(hu:Z7 u){ty:TypeId}{p:ω}(hr:zT wr u (φ ty p)):
  ∃ lg g fid,la=η ⟨lg,0,ν⟩/\wr.cell? ⟨lg,k,ν⟩=η (π (η ⟨g,0,ν⟩))/\wr.cell? ⟨g,6,ν⟩=η (.func (Fn.func fid) #[] #[])/\(∀ (w:Wo),Sem.run prog (callFunc fid #[φ ty p,π (η ⟨g,0,ν⟩)]) w= .ok (.enter fid #[φ ty p,π (η ⟨g,0,ν⟩)]) w) /\
   δ prog fid #[φ ty p,π (η ⟨g,0,ν⟩)] wr (Zq wr (ZS u (qJ ms[k]))):=by
 have s:=hL.len;have o:=Zh hL.row hb;obtain⟨lg,rfl⟩:∃ g,la=η ⟨g,0,ν⟩:=by
  rcases o.2 with ⟨_,M⟩ |⟨g,y,z,f,_⟩
  .omega
  .injection f with f _ _;exact⟨g,f⟩
 have d:k<qs.length:=om;have cg:wr.cell? ⟨lg,k,ν⟩=η (Nv qs[k]):=by
  rw[o.cellAt k (by simpa using d),List.getElem?_map,yy d];rfl
 have l:=hL.ops k ms[k] qs[k] (yy hk) (yy d);have a:=l.keep (fun j hj=>hb.block j hj.2.1) (fun _ h=>h);obtain⟨v,x,N⟩:=hin ms[k] (yt hk);obtain⟨E,F,n⟩:=Si (hok ms[k] (yt hk));obtain⟨A,L⟩:=Sm ms[k];obtain⟨pa,I,O,pc,K,J,Q,P,B⟩:=a.toM (fun j hj=>yF hj.2.1 hb.size) v x (YG ms[k]) (fun f=>by
  have q:=(n f).1;rw[(a.val f).1]at q;injection q with q;exact q.symm)
 obtain⟨G,_⟩:=NI ms[k].path v;obtain⟨H,_⟩:=NI ms[k].src x;have D:=hu.len;obtain⟨fid,C,i,b⟩:=zgq hEq hMv u (qJ ms[k]) wr ty p E F hw hu.t om A (by show (ct (YG ms[k])).length<=_;omega) hr B H G (fun m hm=>by have:=VC hu.t hm;omega);refine⟨lg,qs[k].g,fid,rfl,cg,?_,fun w=>i _ w,b⟩;have r:=a.blk;rw[show wr.cell? ⟨qs[k].g,6,ν⟩=η (JU ms[k].kind)from yG r 6];exact congrArg η C
theorem AJ(hEq:Fz)(hMv:NJ)(v:JV)(hv:Z7 v)(x:ω)(ms:List zk)(bl:List Nat)(w:Wo)(ty:TypeId)(p:ω)(hrow:zw Qq w x ms bl)(hs:YT ms)(hw:qC w)(hr:zT w v (φ ty p)):
  δ prog 38 #[φ ty p,x] w (Lk w (Yw v ms)):=by
 have B:=zb (CO x ms bl w hrow hs hw);obtain⟨xa,xc,rfl,h1,hxa⟩:=hrow.form;by_cases b:0<=qn ms
 .have s:=zb (zhH (v:=v) b);have a:=zb b;go_in;go_wp2_with fail;go_call B as e w1 ⟨b1,n,-⟩;obtain⟨t,q,rfl,he⟩:=n a;have HE:Hid (Lk w (Yw v ms) (ε (τ #[.nilIface,φ t q])) w1):=⟨b1,.inl ⟨2,qn ms,t,q,s,dc,rfl,he⟩⟩;go_wp2;go_ret2;exact HE
 .obtain⟨Z,F⟩:=Sj b;have G:=hs.1;have a:=zb b;have U:=zb hr;have C:Hid (Wa v (ms.map qJ) 0 v):=⟨rfl,hv⟩;go_in;go_wp2_with fail;go_call B as e w1 ⟨b1,-,hg⟩;obtain⟨lv,qs,rfl,Y⟩:=hg (by have:=uh a;omega);obtain⟨la,lc,rfl⟩:∃ la lc,lv=ς la qs.length lc:=by
   rcases Y.row.2 with ⟨hv,hn⟩ |⟨g,V,cur,hv,_⟩
   .exact⟨ν,0,by rw[hv,hn]⟩
   .exact⟨η g,V,hv⟩
  have H:=Y.len;have Q:Hid (∀ (k:Nat) (A:k<ms.length) (wr:Wo),Below w1 w1 wr->∀ (u:JV),Z7 u->∀ ty p,zT wr u (φ ty p)->∃ lg g f,la=η ⟨lg,0,ν⟩/\wr.cell? ⟨lg,k,ν⟩=η (π (η ⟨g,0,ν⟩))/\wr.cell? ⟨g,6,ν⟩=η (.func (Fn.func f) #[] #[])/\(∀ (w:Wo),Sem.run prog (callFunc f #[φ ty p,π (η ⟨g,0,ν⟩)]) w= .ok (.enter f #[φ ty p,π (η ⟨g,0,ν⟩)]) w) /\
    δ prog f #[φ ty p,π (η ⟨g,0,ν⟩)] wr (Zq wr (ZS u (qJ ms[k])))):=fun k A wr n u hu ty p hr=>zhK hEq hMv Y G F A n (hw.up (zh b1 n)) hu hr
  have R:=zb fun wr (hx:Below w w wr)=>(hw.up hx).pow;have O:Hid (∀ (k:Nat) (A:k<ms.length) (u r:JV),Z7 u->ZS u (qJ ms[k])= .inr r->zx r/\(ct r).length<=10000000):=fun k A u r hu hd=>by
   obtain⟨g1,g2⟩:=Sm ms[k];obtain⟨i1,i2,i3⟩:=G ms[k] (yt A);have hdl:=TP hu.t hd (NI ms[k].path i1).2;have hul:=hu.len;refine⟨X0 hu.t g1 hd,?_⟩;have:(ct (qJ ms[k]).val).length<=20000:=g2;omega
  have D:=zb (U.next b1);have i:=zb b1;rw[H];go_wp2_with fail;go_loopw [0,7,20] (fun rv ev iv wr=>∃ (k:Nat) (u:JV) (ty:TypeId) (p:ω),k<=ms.length/\iv=ι κ (k:Int)/\ev= .nilIface/\rv=φ ty p/\Wa v (ms.map qJ) k u/\zT wr u (φ ty p)/\Below w1 w1 wr) (fun _ _ iv _=>ms.length - (intOf iv).toNat)
  case atStart=>exact⟨0,v,ty,p,yu _,rfl,rfl,rfl,C,D,yI _ _⟩
  case round=>
   obtain⟨k,u,ty,p,A,rfl,rfl,rfl,d,I,n⟩:=hrel;by_cases m:k<ms.length
   .obtain⟨lg,g,f,rfl,q1,q2,hent,y⟩:=uh Q k m wr n u d.2 ty p I;have HC:=zb y;have K:=zb n;have HR:=zb d;have hltI:(k:Int)<(ms.length:Int):=om;have z:k<(ms.map qJ).length:=by simpa using m
    have J:(ms.map qJ)[k]=qJ ms[k]:=sm;go_wp2_with fail;go_call HC as e w2 ⟨b2,⟨c,ev,hd,rfl,hf⟩ |⟨r,t',p',hd,rfl,hr2⟩⟩
    .have s:=zb (AH (by have:=uh a;omega) (TR HR z (by rw[J];exact hd)));have HF:=zb hf;have L:Hid ((c:Int)≠0):=by have:=OU hd;show (c:Int)≠0;omega
     obtain⟨fb,rfl,-⟩:=hf;have j:=zb (zh K b2);go_wp2;go_ret2;exact⟨zh (zh i j) (zt _ _),.inl ⟨_,_,_,_,s,L,rfl,zhJ HF⟩⟩
    .obtain⟨X,lr⟩:=uh O k m u r (uh HR).2 hd;have E:=zh K b2;have l:=zb (zfB r X.rd X.tw w2 _ t' p' hr2 (fun _ h=>h) (uh R w2 (zh i E)) lr);have HD:Hid (ZS u (ms.map qJ)[k]= .inr r):=by rw[J];exact hd
     have M:=zb X;have S:=zb hr2;have j:=zb E
     cases hlim:YE r with
     | true=>
      have W:=yj ((UB r).1 hlim);rw[W]at l;have P:=zb (TQ HR z HD M hlim);go_wp2_with fail;go_call l as e w3 ⟨rfl,b3⟩;have T:=zb (S.next b3);have o:=zb (zh j b3);go_wp2;go_roundw
      case rel=>exact⟨k+1,r,t',p',om,by go_num,rfl,rfl,P,T,o⟩
      case measure=>simp[intOf];omega
     | false=>
      have W:decide (zJ r<=100/\zn r<=3000/\(ct r).length<=20000)=ζ:=yk fun h=>by rw[(UB r).2 h]at hlim;cases hlim
      rw[W]at l;have s:=zb (AH (by have:=uh a;omega) (Sk HR z HD hlim));go_wp2_with fail;go_call l as e w3 ⟨rfl,b3⟩;have o:=zb (zh j b3);go_wp2;go_ret2;exact⟨zh (zh (zh i o) (zt _ _)) (zt _ _),.inl ⟨_,_,_,_,s,dc,rfl,Dj _ _ _⟩⟩
   .have s:=zb (zhI (by have:=uh a;omega) (TS d (by simpa using m)));have HT:=zb I;have N:=zb d.2;have K:=zb n;go_wp2;go_ret2;exact⟨zh i K,.inr ⟨u,ty,p,s,N,rfl,HT⟩⟩
theorem AK:Fz:=fun a b w ta tb pa pb ga gb la lb ha hb=>zgx a b ga gb la lb w ta tb pa pb ha hb
theorem zhL{c:Nat}(h:Zn s= .inl c):ZK s ms=(⟨#[]⟩,1,0):=by unfold ZK;rw[h]
theorem AL{v:JV}(h:Zn s= .inr v)(ho:Yw v ms= .inl (c,i)):ZK s ms=(⟨#[]⟩,c,i):=by
 unfold Yw at ho;unfold ZK;rw[h];simp only;by_cases a:0<=qn ms
 .rw[yg a]at ho ⊢;injection ho with ho;injection ho with h1 h2;rw[h2,← h1]
 .rw[yf a]at ho ⊢
  cases hr:Qy v (ms.map qJ) 0 with
  | inl ci=>
   rw[hr]at ho;injection ho with ho;injection ho with h1 h2;simp only;rw[← h1,← h2]
  | inr r=>rw[hr]at ho;cases ho
theorem AM{v:JV}(h:Zn s= .inr v)(ho:Yw v ms= .inr r):ZK s ms=(ze (ct r),0,0):=by
 unfold Yw at ho;unfold ZK;rw[h];simp only;by_cases a:0<=qn ms
 .rw[yg a]at ho;cases ho
 .rw[yf a]at ho ⊢
  cases hr:Qy v (ms.map qJ) 0 with
  | inl ci=>rw[hr]at ho;cases ho
  | inr r'=>
   rw[hr]at ho;injection ho with ho;simp only;rw[ho]
theorem zhM(s:Bs)(x:ω)(ms:List zk)(bl:List Nat)(w:Wo)(hrow:zw Qq w x ms bl)(hs:YT ms)(hsz:s.size<=1048576)(hw:qC w)(hg:JE w):
  δ prog 11 #[s,x] w fun e w'=>e=ε (τ #[σ (ZK s ms).1,ι κ (ZK s ms).2.1,ι κ (ZK s ms).2.2])/\Below w w w':=by
 have l:=zb (SO s w hw.tab hw.err hw.pow om);obtain⟨G,H,rfl,I,F⟩:=hrow.form
 cases hr:Zn s with
 | inl c=>
  have A:=XD hr;have HR:=zb (zhL (ms:=ms) hr);rw[hr]at l;have m:((c:Int) !=0)=ξ:=so;go_in;go_wp2_with fail;go_call l as e w1 ⟨b1,rfl⟩;have a:=zb b1;go_wp2;go_ret3;exact⟨by rw[uh HR];rfl,a⟩
 | inr v=>
  have z:=Z7.of hr;have HR:=zb hr;rw[hr]at l;have n:Hid (∀ (wx:Wo) (t:TypeId) (p:ω),Below w w wx->zT wx v (φ t p)->δ prog 38 #[φ t p,ς G ms.length H] wx (Lk wx (Yw v ms))):=fun wx t p hx htr=>
   AJ AK Er v z _ ms bl wx t p (hrow.below hx) hs (hw.up hx) htr
  have g:Hid (∀ wx,Below w w wx->qC wx/\JE wx):=fun wx hx=>⟨hw.up hx,hg.up hx⟩;go_in;go_wp2_with fail;go_call l as e w1 ⟨b1,t,p,rfl,rep⟩;have B:=zb (uh n w1 t p b1 (zi.keep (fun _ _=>rfl) (fun k hk=>hk.2) _ _ rep));have a:=zb b1;go_wp2_with fail;go_call B as e w2 ⟨b2,⟨c,i,m,p2,ho,A,rfl,he⟩ |⟨u,m,p2,ho,hu,rfl,htr⟩⟩
  .have b:=zh a b2;have q:=zb (AF i c m p2 w2 he (uh g w2 b).2);have y:=zb (AL HR ho);have d:=zb b;have J:(c !=0)=ξ:=by simpa using A
   go_wp2_with fail;go_call q as e w3 ⟨rfl,b3⟩;have f:=zb (zh d b3);go_wp2;go_ret3;exact⟨by rw[uh y];rfl,f⟩
  .have b:=zh a b2;have q:=zb (AE w2);have y:=zb (AM HR ho);have d:=zb b;have r:=zb hu;have D:=zb htr;go_wp2_with fail;go_call q as e w3 ⟨rfl,b3⟩;have j:=zh d b3;have E:=r.len;have C:=zb (Fg u r.ok r.tw m p2 w3 _ (D.next b3) (fun _ h=>h) (uh g w3 j).1.pow om);have f:=zb j;go_wp2_with fail;go_call C as e w4 ⟨rfl,b4⟩;have o:=zb (zh f b4);go_wp2;go_ret3;exact⟨by rw[uh y];rfl,o⟩
theorem zhN{vs:List ω}{x:zk}(h:Qq.E w vs x bl):∀ u∈vs,u.oneCell'=ξ:=by
 obtain⟨rfl,_⟩:=h;intro u a;simp at a;rcases a with rfl | rfl | rfl | rfl<;>rfl
theorem zhO:(prog.info? Qq.T).map (fun i=>(i.zero,i.size,i.bytes))=η (η (γ #[ι κ 0,ByteArray.empty,ByteArray.empty,ByteArray.empty]),Qq.wd,56):=zbg
theorem zhP{xs:List zk}(h:zw Qq w v xs v.ownBlock.toList)(hB:∀ g,v.ownBlock=η g->B<=g):zX w B v xs:=by
 obtain⟨d,m,l,f,n⟩:=h;have e:d.flatMap (·.1)=xs.flatMap Jn:=by
  have:d.map (·.1)=xs.map Jn:=List.ext_getElem (by simp[m]) fun j h1 h2=>by
   simp only[List.getElem_map];simp only[yl]at h1 h2;exact (l j d[j] xs[j] (yy h1) (yy h2)).1
  rw[List.flatMap_def,List.flatMap_def,this]
 unfold zX;rw[← e];refine⟨f.1,?_⟩;rcases f.2 with k |⟨g,a,b,i,_,r⟩
 .exact .inl k
 .exact .inr ⟨g,a,b,i,hB g (by rw[i];rfl),r⟩
theorem zhQ(v:ω)(xs:List zk)(B:Nat)(w:Wo)(h:zX w B v xs)(hm:xs.length<=1048577):
  δ prog 71 #[v] w fun e w'=>∃ v',e=ε v'/\zX w' w v' xs/\Below w w w':=by
 have H:Hid (zw Qq w v xs (v.ownBlock.toList++[])):=by show zw _ _ _ _ _;rw[yT];exact h.orow.1
 go_in;go_wp2_with (at_builtin;refine MT (e:=Qq) zhN underlying28 zhO rfl dc dc rfl (.const (ς ν 0 0)) (.tmp 3) rfl rfl rfl H om ?_);intro v' w' i f g;have d:=zb i;have a:=zb f;have b:=zb g;go_wp2;go_ret;exact⟨_,rfl,zhP d a,b⟩
def Pi(rt:ω):Prop:=rt= .nilIface∨∃ t p,rt=φ t p
theorem AN(v:ω)(xs:List zk)(B:Nat)(b t:Int)(d:Bs)(rt:ω)(w:Wo)(h:zX w B v xs)(hm:xs.length<=1048577)(hr:Pi rt):
  δ prog 31 #[γ #[v,ι κ b,d,ι κ t,rt]] w fun e w'=>∃ v',e=ε (γ #[v',ι κ b,d,ι κ t])/\zX w' w v' xs/\Below w w w':=by
 obtain⟨a,g,rfl⟩:=Jx h;have q:=zb h;have f:=Kf w (χ #[ς a xs.length g,ι κ b,d,ι κ t,rt] 67) (χ #[ς ν 0 0,ι κ 0,σ ⟨#[]⟩,ι κ 0] 30) (χ #[ς a xs.length g,ι κ b,d,ι κ t] 30);have o:=zb f;rcases hr with rfl |⟨F,p,rfl⟩
 all_goals (
  go_in;go_wp2_with fail;generalize ((w.alloc _).alloc _).alloc _=s at *;have f:=uh o;go_call zhQ _ xs B s (Zh q f.bel) hm as e w1 ⟨v',rfl,o1,b1⟩;obtain⟨u,m,rfl⟩:=Jx o1;have E:=f.size;have r:=b1.size;have l:=(b1.block (w.heap.size+1) om).trans f.k1;have n:=(b1.block (w.heap.size+1+1) om).trans f.k2;obtain⟨c0,c1,c2,c3⟩:=Z8.of l;obtain⟨x,y,z,A⟩:=Z8.of n;have C:=yJ l;have D:=yJ n;have j:=zb l;have k:=zb o1;have i:=zb (zh f.bel b1);go_wp2;refine bodyPost_ret (results_cell_row rfl _ _ (w.heap.size+1) 30 #[_,_,_,_] (0,0) _ rfl (Z3 (w:=putN w1 (w.heap.size+1+1) 0 [_]) ((qi om _ _).trans j) [_,_,_,_] rfl) underlying30 rfl kr) rfl ?_;exact⟨_,rfl,qH (VH (VH k om [_] 0) om [_,_,_,_] 0) om,Zd (Zd i om [_] 0) om [_,_,_,_] 0⟩)
def Ll(b:Bg)(tr:Int)(B:Nat)(w:Wo)(e:Ending)(w':Wo):Prop:=∃ v tr' rt,e=ε (τ #[γ #[v,ι κ b.base,σ b.doc,ι κ tr',rt],γ #[ι κ b.kind,ι κ b.code,ι κ b.pos,ι κ 0]])/\tr'=(if b.kind=1 then tr else 0)/\zX w' B v b.ops/\Pi rt/\Bw w w'
structure Wv(b:Nat)(w:Wo):Prop where
 k1:w.heap[b]?=η (χ #[ς ν 0 0,ι κ 0,σ ⟨#[]⟩,ι κ 0,.nilIface] 67 (0,0))
 k2:w.heap[b+1]?=η (χ #[ι κ 0,ι κ 0,ι κ 0,ι κ 0] 32 (0,0))
theorem Wv.next(h:Wv b w)(hb:Below w w w'):Wv b w':=
 ⟨(hb.block b (yC.1 h.k1).1).trans h.k1,(hb.block (b+1) (yC.1 h.k2).1).trans h.k2⟩
def QH(g:Nat)(a b c d e:ω)(w:Wo):Prop:=w.cell? ⟨g,0,ν⟩=η a/\w.cell? ⟨g,1,ν⟩=η b/\w.cell? ⟨g,2,ν⟩=η c/\w.cell? ⟨g,3,ν⟩=η d/\w.cell? ⟨g,4,ν⟩=η e
theorem QH.of{a b c d e:ω}(h:w.heap[g]?=η (χ #[a,b,c,d,e] t (0,0))):QH g a b c d e w:=⟨yG h 0,yG h 1,yG h 2,yG h 3,yG h 4⟩
theorem zhR{v:JV}(h:Zn s= .inr v):(∀ c i,Yw v ms= .inl (c,i)->ZK s ms=(⟨#[]⟩,c,i))/\(∀ r,Yw v ms= .inr r->ZK s ms=(ze (ct r),0,0)):=
 ⟨fun _ _=>AL h,fun _=>AM h⟩
theorem AO (hb:Nat) (no:Int) (doc:Bs) (q nx:ω) (t:TypeId) (p:ω) (jv:JV) (v:ω) (ms:List zk) (B:Nat) (tr:Int) (w:Wo) (hk:w.heap[hb]?=η (χ #[ι κ no,doc,q,φ t p,nx] 127 (0,0)))
  (hr:Zn doc= .inr jv) (hrep:zT w jv (φ t p)) (ho:zX w B v ms) (hin:YT ms) (hw:qC w) (hg:JE w):
  δ prog 70 #[hb,v,ι κ tr] w (Ll (qW no (ZK doc ms) ms) tr B w):=by
 obtain⟨a,k,rfl⟩:=Jx ho;have F:=(yC.1 hk).1;have y:=YB w (χ #[ς ν 0 0,ι κ 0,σ ⟨#[]⟩,ι κ 0,.nilIface] 67) (χ #[ι κ 0,ι κ 0,ι κ 0,ι κ 0] 32);have T:Wv w ((w.alloc (χ #[ς ν 0 0,ι κ 0,σ ⟨#[]⟩,ι κ 0,.nilIface] 67)).alloc (χ #[ι κ 0,ι κ 0,ι κ 0,ι κ 0] 32)):=⟨y.k0,y.k1⟩;have kA:=(y.bel.block hb F).trans hk;have c3:=(cl5 kA).2.2.2.1;have K:Hid (δ _ _ _ ((w.alloc (χ #[ς ν 0 0,ι κ 0,σ ⟨#[]⟩,ι κ 0,.nilIface] 67)).alloc (χ #[ι κ 0,ι κ 0,ι κ 0,ι κ 0] 32)) _):=AJ AK Er jv (Z7.of hr) _ ms _ _ t p (ho.orow.1.below y.bel) hin (hw.up y.bel) (hrep.next y.bel);have H:Hid (∀ wx,Below w w wx->qC wx/\JE wx/\zX wx B (ς a ms.length k) ms):=fun wx hx=>⟨hw.up hx,hg.up hx,Zh ho hx⟩;have HK:=zb fun wx (hx:Below w w wx)=>(hx.block hb F).trans hk;have J:=zb y;have D:=zb fun b (hb:(Δ a ms.length k).ownBlock=η b)=>(ho.lt b hb).2;have C:=zb T;have E:=zb (zhR (ms:=ms) hr);go_in;go_wp2_with fail;generalize (w.alloc _).alloc _=wA at *;have hsz:=J.size;go_call K as e w2 ⟨b2,⟨c,i,t2,p2,hap,hc,rfl,he⟩ |⟨u,t2,p2,hap,hu,rfl,htr⟩⟩
 .have n:=zh J.bel b2;have N:=zb (AF i c t2 p2 w2 he (uh H w2 n).2.1);have I:=zb ((uh E).1 c i hap);have s:=zb (C.next b2);have r:=zb n;have tc:(c !=0)=ξ:=by simpa using hc
  have G:=zb hc;go_wp2_with fail;go_call N as e w3 ⟨rfl,b3⟩;have d:=zb (s.next b3);have m:=zb (zh r b3);obtain⟨c0,c1,c2,c3,c4⟩:=QH.of d.k1;obtain⟨V,W,X,Y⟩:=Z8.of d.k2;have f1:=yJ d.k1;have f2:=yJ d.k2;go_wp2;refine bodyPost_ret (VG rfl _ [_,_,_,_,_] [_,_,_,_] rfl rfl d.k1 d.k2 om rfl rfl rfl underlying67 rfl kr underlying32 rfl kr) rfl ?_;rw[uh I];unfold qW;rw[yf (uh G)];exact⟨_,_,_,rfl,rfl,JY _ _,.inl rfl,Zd (Zd m om [_,_,_,_,_] 0) om [_,_,_,_] 0⟩
 .have n:=zh J.bel b2;have N:=zb (AE w2);have I:=zb ((uh E).2 u hap);have s:=zb (C.next b2);have r:=zb n;have R:=zb hu;have HT:=zb htr;go_wp2_with fail;go_call N as e w3 ⟨rfl,b3⟩;have x:=zh r b3;have hul:=R.len;have G:=zb fun wx (hx:Below w3 w3 wx)=>Fg u R.ok R.tw t2 p2 wx _ ((HT.next b3).next hx) (fun _ h=>h) (uh H wx (zh x hx)).1.pow om;have d:=zb (s.next b3);have m:=zb x;have c0:=(cl5 (uh HK w3 x)).1;have o:hb<w3.heap.size:=yK _ _ c0;have kP:=yH w3 (χ #[ς ν 0 0,ι κ 0,σ ⟨#[]⟩,ι κ 0] 30);have Q:Hid (Below w3 w3 (w3.alloc (χ #[ς ν 0 0,ι κ 0,σ ⟨#[]⟩,ι κ 0] 30)).drew):=zh (zt w3 _) (yI _ _).drew;have zP:(w3.alloc (χ #[ς ν 0 0,ι κ 0,σ ⟨#[]⟩,ι κ 0] 30)).drew.heap.size=w3.heap.size+1:=by show (w3.alloc _).heap.size=_;simp
  have O:Hid ((w3.alloc (χ #[ς ν 0 0,ι κ 0,σ ⟨#[]⟩,ι κ 0] 30)).drew.heap[w3.heap.size]?=η (χ #[ς ν 0 0,ι κ 0,σ ⟨#[]⟩,ι κ 0] 30 (0,0))):=kP;have S:=zb zP;have L:=zb (uh G _ Q);have bd:Below w3 w3 w3.drew:=(yI _ _).drew;have M:=zb (uh G w3.drew bd);have e0':=(Q.cell (p:=hb) o).trans c0;go_wp2_with fail;go_region_law (first
   |(
     go_simp;go_call L as e w4 ⟨rfl,b4⟩;have j:=zh Q b4;have Z:=(j.cell (p:=hb) o).trans c0;have kM:=(b4.block w3 (by have:=uh S;omega)).trans O;obtain⟨m0,m1,m2,m3⟩:=Z8.of kM;have fM:=yJ kM)
   |(
     go_simp;go_call M as e w4 ⟨rfl,b4⟩;have j:Below w3 w3 w4:=⟨b4.os,b4.tape,b4.output,b4.size,b4.block⟩;have Z:=(j.cell (p:=hb) o).trans c0;have e1:(w4.alloc (χ #[ς ν 0 0,ι κ 0,σ ⟨#[]⟩,ι κ 0] 30)).cell? hb=η (ι κ no):=((zt w4 _).cell (p:=hb) (yF o j.size)).trans Z;have kN:=trivial))
  all_goals first
  |(
    have HN:=zb kN;have U:=(yC.1 d.k2).1;have hN:=zt w4 (χ #[ς a ms.length k,ι κ no,σ (ze (ct u)),ι κ tr] 30);have f:=zb ((d.next j).next hN);have l:=zb (zh (zh m j) hN);obtain⟨c0,c1,c2,c3,c4⟩:=QH.of f.k1;obtain⟨V,W,X,Y⟩:=Z8.of f.k2;have f1:=yJ f.k1;have f2:=yJ f.k2;have P:=zb (uh H _ l).2.2;go_wp2;refine bodyPost_ret (VG rfl _ [_,_,_,_,_] [_,_,_,_] rfl rfl f.k1 f.k2 om rfl rfl rfl underlying67 rfl kr underlying32 rfl kr) rfl ?_;rw[uh I];unfold qW;rw[yg rfl];have A:∀ g,w.heap.size<=g->∀ b,(Δ a ms.length k).ownBlock=η b->b<g:=fun g hg b hb=>by have:=uh D b hb;omega
    exact⟨_,_,_,rfl,rfl,Fq (Fq P (A _ om) [_,_,_,_,_] 0) (A _ om) [_,_,_,_] 0,.inr ⟨_,_,rfl⟩,Zd (Zd l om [_,_,_,_,_] 0) om [_,_,_,_] 0⟩)
  |(
    have U:w.heap.size+1<w3.heap.size:=(yC.1 d.k2).1;have l:=zb (zh m j);have z:=d.next j;have f:Hid (Wv w (putN w4 w3 0 [ς a ms.length k,ι κ no,σ (ze (ct u)),ι κ tr])):=⟨(qi om _ _).trans z.k1,(qi om _ _).trans z.k2⟩;obtain⟨c0,c1,c2,c3,c4⟩:=QH.of z.k1;obtain⟨V,W,X,Y⟩:=Z8.of z.k2;have f1:=yJ z.k1;have f2:=yJ z.k2;have P:=zb (uh H _ l).2.2;go_wp2;refine bodyPost_ret (VG rfl _ [_,_,_,_,_] [_,_,_,_] rfl rfl f.k1 f.k2 om rfl rfl rfl underlying67 rfl kr underlying32 rfl kr) rfl ?_;rw[uh I];unfold qW;rw[yg rfl];have A:∀ g,w.heap.size<=g->∀ b,(Δ a ms.length k).ownBlock=η b->b<g:=fun g hg b hb=>by have:=uh D b hb;omega
    exact⟨_,_,_,rfl,rfl,Fq (Fq (Fq P (A _ om) [_,_,_,_] 0) (A _ om) [_,_,_,_,_] 0) (A _ om) [_,_,_,_] 0,.inr ⟨_,_,rfl⟩,Zd (Zd (Zd l om [_,_,_,_] 0) om [_,_,_,_,_] 0) om [_,_,_,_] 0⟩)
def Yg(tch:List Bs)(base:Int):Int->List zj->Bool
 | no,[]=>decide (base<no)
 | no,m :: r=>decide (base<no) && (Qf tch m.touched || Yg tch base (no - 1) r)
theorem zhS{tch:List Bs}{base no:Int}(h:¬ base<no):Yg tch base no l=ζ:=by
 cases l<;>simp[Yg,h]
theorem zhT (S:Nat->Prop) (l:List zj) (m0:zj) (l0:List zj) (hl0:l=m0 :: l0) (v:ω) (o:ω) (p:qa) (rt:ω) (bl:List Nat) (w:Wo) (h:Zy w (fun _=>True) S l v) (ho:zw Qq w o p.ops bl) (hrt:Pi rt) (hb0:0<=p.base) (hno:m0.no<=2000000)
  (hT:∀ wx,Below w w wx->δ prog 13 #[o] wx fun e w'=>∃ r,e=ε r/\OT w' wx r (ZN p.ops)/\Below wx wx w')
  (hC:∀ (wx:Wo) (xa ya:Option Addr) (xb xo xc yb yo yc:Nat) (b:List Bs),Below w w wx->SS wx xa xb xo (Zm p.ops)->SS wx ya yb yo b->(∃ m∈l,m.touched=b)->δ prog 17 #[ς xa (Zm p.ops).length xc,ς ya b.length yc] wx fun e w'=>e=ε (θ (Qf (Zm p.ops) b))/\Below wx wx w'):
  δ prog 74 #[v,γ #[o,ι κ p.base,p.doc,ι κ p.tries,rt]] w fun e w'=>e=ε (θ (Yg (Zm p.ops) p.base m0.no l))/\Below w w w':=by
 obtain⟨M,N,rfl,-,-⟩:=ho.form;have V:=h;rw[hl0]at V;obtain⟨R,q0,t0,p0,v0,bl0,jv0,rfl,-,L,-⟩:=V;have g:=(yC.1 L).1;have J:=zt w (χ #[ς M p.ops.length N,ι κ p.base,p.doc,ι κ p.tries,rt] 67);have W:=yH w (χ #[ς M p.ops.length N,ι κ p.base,p.doc,ι κ p.tries,rt] 67);have X:(w.alloc (χ #[ς M p.ops.length N,ι κ p.base,p.doc,ι κ p.tries,rt] 67)).heap.size=w.heap.size+1:=sm;have H:=zb (hT _ J);have HH:=zb h;have Z:=zb hC;have n:Hid (∀ wx,Below w w wx->wx.cell? R=η (ι κ m0.no)):=fun wx hx=>yG ((hx.block R g).trans L) 0;have E:=zb W;have I:=zb X;have Q:=zb J;clear h hT hC hl0 L g J W X ho;rcases hrt with rfl |⟨t9,p9,rfl⟩
 all_goals (
  go_in;go_wp2_with fail;generalize w.alloc _=wA at *;go_call H as e w1 ⟨r1,rfl,o1,b1⟩;obtain⟨ta,tg,tc,rfl,O,-⟩:=OT.all o1;have hz:=uh I;have P:=zh Q b1;have c0:=uh n w1 P;have D:Hid (∀ wx,Below w1 w1 wx->wx.cell? ⟨w,1,ν⟩=η (ι κ p.base)):=fun wx hx=>yG ((hx.block w (by have:=b1.size;omega)).trans ((b1.block w om).trans E)) 1;have A:=zb P;have G:=zb O;have K:(ZN p.ops).length=(Zm p.ops).length:=by unfold Zm;simp
  rw[K];go_wp2;go_loopw [6,7] (fun at' nv wr=>∃ (r:List zj) (no:Int),Zy w (fun _=>True) S r at'/\nv=ι κ no/\no<=2000000/\(∀ x∈r,x∈l)/\Yg (Zm p.ops) p.base m0.no l=Yg (Zm p.ops) p.base no r/\Below w1 w1 wr) (fun _ nv _=>(intOf nv+1).toNat)
  case atStart=>exact⟨l,m0.no,HH,rfl,hno,fun _ hx=>hx,rfl,yI _ _⟩
  case round=>
   obtain⟨r,no,y,rfl,hnu,z,u,d⟩:=hrel;have cB:=uh D wr d;have k:=zb z;have f:=zb u;have a:=zb (zh A d);have B:=zb d;have F:=zb (G.below d);clear z u d c0 Q n;by_cases i:p.base<no
   .cases r with
    | nil=>
     obtain rfl:_=Value.pointer ν:=y;go_wp2;go_ret;refine⟨?_,a⟩;rw[uh f];simp[Yg,i]
    | cons m r'=>
     obtain⟨b,q,t,p',v',bl,jv,rfl,-,T,h4,-,-,-,-,U⟩:=y;obtain⟨xa,xg,xc,rfl,sx⟩:=QK.ss (h4.below a);obtain⟨a',rfl⟩:=U.ptr;have hb:=(yC.1 T).1;have s:=zb fun wx (hx:Below w w wx)=>(hx.block b hb).trans T;have c2:=(cl5 (uh s wr a)).2.2.1;have C:=zb (uh Z wr ta xa tg 0 tc xg 0 xc m.touched a F sx ⟨m,uh k m yq,rfl⟩);have Y:=zb U;go_wp2_with fail;go_call C as e w2 ⟨rfl,b2⟩;have d4:=(cl5 (uh s w2 (zh a b2))).2.2.2.2;have j:=zb b2
     cases hc:Qf (Zm p.ops) m.touched with
     | true=>
      go_wp2;go_ret;refine⟨?_,zh a j⟩;rw[uh f];simp[Yg,i,hc]
     | false=>
      go_wp2;refine⟨⟨r',no - 1,Y,rfl,om,fun x hx=>uh k x (yw _ hx),?_,zh B j⟩,?_⟩
      .rw[uh f];simp[Yg,i,hc]
      .simp only[intOf];omega
   .go_wp2;go_ret;refine⟨?_,a⟩;rw[uh f,zhS (show ¬ p.base<no by omega)];rfl)
theorem AP(tch:List Bs)(base:Int):∀ (l:List zj) (no:Int),(∀ j (h:j<l.length),l[j].no=no - j)->Yg tch base no l=(decide (base+1<no+1 - l.length) || l.any fun m=>decide (base<m.no) && Qf tch m.touched)
 | [],no,_=>by
  simp only[Yg,List.any_nil,Bool.or_false,yE];exact decide_eq_decide.2 om
 | m :: r,no,h=>by
  have h0:m.no=no:=by have:=h 0 sm;simpa using this
  have d:∀ j (a:j<r.length),r[j].no=no - 1 - j:=fun j a=>by
   have f:=h (j+1) so;rw[List.getElem_cons_succ]at f;omega
  have i:=AP tch base r (no - 1) d;simp only[Yg,List.any_cons,yp,h0];rw[i];by_cases b:base<no
  .rw[yj b,show decide (base+1<no+1 - ((r.length+1:Nat):Int))=decide (base+1<no - 1+1 - (r.length:Int))from decide_eq_decide.2 om]
   cases Qf tch m.touched<;>cases decide (base+1<no - 1+1 - (r.length:Int))<;>simp
  .have g:(r.any fun m=>decide (base<m.no) && Qf tch m.touched)=ζ:=by
    rw[List.any_eq_false];intro x hx;obtain⟨j,a,rfl⟩:=List.getElem_of_mem hx;have:=d j a;rw[yk om];simp
   rw[yk b,g,yk (show ¬ base+1<no+1 - ((r.length+1:Nat):Int) by omega)];simp
theorem zhU{l0:List zj}{m0:zj}(hs:qM vs=ξ)(hl:vs.reverse=m0 :: l0)(tch:List Bs)(base:Int):Yg tch base m0.no vs.reverse=meets vs tch base:=by
 obtain⟨f,-,-,-,i⟩:=YJ.1 hs;have b:∀ j (hj:j<vs.length),vs[j].no=vs[0].no+j:=fun j hj=>by
  have:=i j hj;simp only[qc,Ε,yD]at this;exact this.1.1
 have k:m0.no=vs[0].no+((vs.length - 1:Nat):Int):=by
  have d:vs.reverse[0]'(by rw[Β];exact f)=m0:=by simp[hl]
  rw[List.getElem_reverse]at d;rw[← d];exact b _ _
 have g:=AP tch base vs.reverse m0.no (fun j hj=>by
  rw[Β]at hj;rw[List.getElem_reverse,b _ om];omega)
 rw[g,List.any_reverse,Β];unfold meets;congr 1;have h:(vs.head?.map (·.no)).getD 0=vs[0].no:=by
  cases vs with
  | nil=>exact absurd f sm
  | cons a r=>rfl
 rw[h];exact decide_eq_decide.2 om
theorem zhV(vs:List zj)(u:zj):∃ (k:Nat) (hk:k<(qF (vs++[u])).length),(qF (vs++[u])).length=k+1/\(qF (vs++[u])).length<=8/\(qF (vs++[u]))[k]=u:=by
 have a:(qF (vs++[u])).length=(vs.length+1) - (vs.length+1 - 8):=by unfold qF;simp
 refine⟨(qF (vs++[u])).length - 1,om,om,om,?_⟩;unfold qF;rw[List.getElem_drop];rw[List.getElem_append_right so];simp
def LwP(m:zj)(w:Wo)(e:Ending)(w':Wo):Prop:=∃ ta tc,e=ε (τ #[γ #[ι κ m.no,σ m.doc,ς ta m.touched.length tc],θ ξ])/\OT w' 0 (ς ta m.touched.length tc) (tl m.touched)/\Below w w w'
theorem AQ(p:ω)(vs:List zj)(bl:List Nat)(k:Nat)(w:Wo)(h:zw Zf w p vs bl)(hk:k<vs.length)(hl:vs.length=k+1)(h8:vs.length<=8):
  δ prog 8 #[γ #[p]] w (LwP vs[k] w):=by
 obtain⟨A,u,rfl,-,j⟩:=h.form;obtain⟨g,rfl⟩:=j om;obtain⟨z,y,n,b,-⟩:=h.at (yy hk);obtain⟨q,rfl,i⟩:=n;have a:g<w.heap.size:=yK _ _ (b 0 _ rfl).1;obtain⟨r,s,rfl,-,-⟩:=i.form;have l:=YB w (χ #[ς (η g) vs.length u] 25) (χ #[ι κ 0,σ ⟨#[]⟩,ς ν 0 0] 37);have f:=l.bel;have c0:=(f.cell (p:=⟨g,k*3,ν⟩) a).trans (b 0 _ rfl).1;have c1:=(f.cell (p:=⟨g,k*3+1,ν⟩) a).trans (b 1 _ rfl).1;have c2:=(f.cell (p:=⟨g,k*3+2,ν⟩) a).trans (b 2 _ rfl).1;have o:(k:Int)<8:=om;have d:=zb fun wx (hx:Below w w wx)=>Ma (i.below hx);clear i;generalize vs[k]=m at *;rw[hl]at *;have x:((k+1:Nat):Int) - 1=(k:Int):=om;have v:(((k+1:Nat):Int) ==0)=ζ:=by rw[yd];omega
 go_in;go_wp2;exact bodyPost_ret (Qh rfl _ _ (w.heap.size+1) 37 _ (0,0) _ _ rfl rfl (YB w _ _).k1 underlying37 rfl kr) rfl ⟨r,s,rfl,d _ (YB w _ _).bel,(YB w _ _).bel⟩
structure YQ(w0:Wo)(xa:Option Addr)(xb xo:Nat)(l:List UInt8)(g3 g4:Nat)(sv pv:ω)(vs:List zj)(p:qa)(bl cl:List Nat)(w:Wo):Prop where
 k3:w.heap[g3]?=η (χ #[sv] 25 (0,0))
 k4:w.heap[g4]?=η (χ #[pv,ι κ p.base,σ p.doc,ι κ p.tries] 30 (0,0))
 r3:zw Zf w sv vs bl
 r4:zw Qq w pv p.ops cl
 rd:qC w
 ty:JE w
 bs:BS w xa xb xo l
 bel:Bw w0 w
theorem YQ.next{w0:Wo}{xa:Option Addr}{xb xo:Nat}{l:List UInt8}{g3 g4:Nat}{sv pv:ω}{p:qa}{cl:List Nat}(h:YQ w0 xa xb xo l g3 g4 sv pv vs p bl cl w)(hb:Below w w w'):YQ w0 xa xb xo l g3 g4 sv pv vs p bl cl w':=
 ⟨(hb.block _ (yC.1 h.k3).1).trans h.k3,(hb.block _ (yC.1 h.k4).1).trans h.k4,h.r3.below hb,h.r4.below hb,h.rd.up hb,h.ty.up hb,h.bs.below hb,zh h.bel hb⟩
structure zhX(vs:List zj)(s:Bs)(k:Nat)(hk:k<vs.length)(d:Bs):Prop where
 l8:vs.length<=8
 len:vs.length=k+1
 no:0<=vs[k].no/\vs[k].no<=2000000
 dz:d.size<=20000
 ap:ZK vs[k].doc (ZL s).1=(d,0,0)
 dc:(ZL s).2.1=0
 sz:JN vs->JN (qF (vs++[⟨vs[k].no+1,d,Zm (ZL s).1⟩]))
 bg:Z4 vs s=⟨(ZL s).1,vs[k].no,d,1,0,0⟩
 at':Ya vs ⟨(ZL s).1,vs[k].no,d,0⟩=⟨qF (vs++[⟨vs[k].no+1,d,Zm (ZL s).1⟩]),Jc,2,0,0,vs[k].no+1⟩
 ok:vs[k].no<1000000->qM (qF (vs++[⟨vs[k].no+1,d,Zm (ZL s).1⟩]))=ξ
theorem zhY(h:(Z4 vs s).kind=1):∃ (k:Nat) (hk:k<vs.length) (d:Bs),zhX vs s k hk d:=by
 obtain⟨m,r,b,f,j,n,o⟩:=SZ h;obtain⟨k,hk,x,q,p,g⟩:=Gu b;obtain⟨rfl,rfl⟩:=List.cons.inj (g.symm.trans f);have a:=Np n;obtain⟨w,-,v,l,i⟩:=YJ.1 b;have u:=i k hk;simp only[qc,Ε,yD]at u;exact⟨k,hk,_,p,q,om,Fw a.2.1,a.2.2,j,fun i=>Cn i (Fw a.2.1) (Nn (Xb s).1),o,Cl b f a.2.2 (Int.le_refl _) dc,fun hm=>Ck b f hm rfl a.2.1 (Cj _)⟩
theorem zhZ(h:(Z4 vs s).kind≠1):(Z4 vs s).ops=[]:=by
 revert h;unfold Z4;split
 .split
  .exact fun _=>rfl
  .unfold Yp;split
   .unfold qW;split
    .exact fun h=>absurd rfl h
    .exact fun _=>rfl
   .exact fun _=>rfl
 .exact fun _=>rfl
theorem zh0 (hb:Nat) (m:zj) (q nx:ω) (t:TypeId) (p:ω) (jv:JV) (s:Bs) (w:Wo) (hk:w.heap[hb]?=η (χ #[ι κ m.no,m.doc,q,φ t p,nx] 127 (0,0)))
  (hr:Zn m.doc= .inr jv) (hrep:zT w jv (φ t p)) (hz:s.size<=34000000) (hw:qC w) (hg:JE w):
  δ prog 30 #[hb,s] w (Ll (Yp m (ZL s)) 0 w.heap.size w):=by
 have A:=(yC.1 hk).1;have o:=YB w (χ #[ς ν 0 0,ι κ 0,σ ⟨#[]⟩,ι κ 0,.nilIface] 67) (χ #[ι κ 0,ι κ 0,ι κ 0,ι κ 0] 32);have u:Hid (Wv w.heap.size ((w.alloc (χ #[ς ν 0 0,ι κ 0,σ ⟨#[]⟩,ι κ 0,.nilIface] 67)).alloc (χ #[ι κ 0,ι κ 0,ι κ 0,ι κ 0] 32))):=⟨o.k0,o.k1⟩;have E:Hid (δ _ _ _ ((w.alloc (χ #[ς ν 0 0,ι κ 0,σ ⟨#[]⟩,ι κ 0,.nilIface] 67)).alloc (χ #[ι κ 0,ι κ 0,ι κ 0,ι κ 0] 32)) _):=CQ s _ (hw.up o.bel) hz;have j:=zb fun (wx:Wo) (v:ω) (B:Nat) (hx:Bw w wx) (ho:zX wx B v (ZL s).1)=>AO hb m.no m.doc q nx t p jv v _ B 0 wx ((hx.block hb A).trans hk) hr (hrep.next hx) ho (Xb s) (hw.up hx) (hg.up hx);have C:=zb o;generalize g:ZL s=D at *;obtain⟨f,dc,z⟩:=D;simp only at E j;go_in;go_wp2_with fail;generalize (w.alloc _).alloc _=S at *;have M:=(uh C).size;go_call E as e w2 ⟨v2,rfl,o2,b2⟩;obtain⟨N,P,rfl⟩:=Jx o2;have l:=zh (uh C).bel b2;have a:=zb ((uh u).next b2);have h:=zb l;have i:=zb (uh j w2 _ _ l o2);by_cases g:dc=0
 .subst g;have y:Hid (Yp m (f,0,z)=qW m.no (ZK m.doc f) f):=by show _=_;unfold Yp;rw[yg rfl]
  generalize qW m.no (ZK m.doc f) f=b at *;go_wp2_with fail;go_call i as e w3 ⟨v3,tr',rt,rfl,htr,o3,hrt,b3⟩;have n:tr'=0:=by rw[htr];split<;>rfl
  subst n;obtain⟨O,n3,rfl⟩:=Jx o3;have d:=zb ((uh a).next b3);have r:=zb (zh h b3);obtain⟨c0,c1,c2,c3,c4⟩:=QH.of (uh d).k1;obtain⟨G,H,I,J⟩:=Z8.of (uh d).k2;have K:=yJ (uh d).k1;have L:=yJ (uh d).k2;have x:=zb o3;have k:=zb htr;clear i b3 o3 htr h a;rcases hrt with rfl |⟨R,Q,rfl⟩
  all_goals (
   go_wp2;refine bodyPost_ret (VG rfl _ [_,_,_,_,_] [_,_,_,_] rfl rfl (uh d).k1 (uh d).k2 om rfl rfl rfl underlying67 rfl kr underlying32 rfl kr) rfl ?_;rw[uh y];refine⟨_,_,_,rfl,k,qH (VH (VH x om [_,_,_,_,_] 0) om [_,_,_,_] 0) om,?_,Zd (Zd r om [_,_,_,_,_] 0) om [_,_,_,_] 0⟩
   first | exact .inl rfl | exact .inr ⟨_,_,rfl⟩)
 .have y:Hid (Yp m (f,dc,z)=⟨[],0,⟨#[]⟩,6,dc,z⟩):=by show _=_;unfold Yp;rw[yf g]
  have F:(dc !=0)=ξ:=by simpa using g
  obtain⟨c0,c1,c2,c3,c4⟩:=QH.of (uh a).k1;obtain⟨G,H,I,J⟩:=Z8.of (uh a).k2;have K:=yJ (uh a).k1;have L:=yJ (uh a).k2;go_wp2;refine bodyPost_ret (VG rfl _ [_,_,_,_,_] [_,_,_,_] rfl rfl (uh a).k1 (uh a).k2 om rfl rfl rfl underlying67 rfl kr underlying32 rfl kr) rfl ?_;rw[uh y];exact⟨_,_,_,rfl,rfl,JY _ _,.inl rfl,Zd (Zd h om [_,_,_,_,_] 0) om [_,_,_,_] 0⟩
theorem zh1(p:ω)(vs:List zj)(bl:List Nat)(s:Bs)(w:Wo)(h:zw Zf w p vs bl)(hs:JN vs)(hz:s.size<=34000000)(hw:qC w)(hg:JE w):
  δ prog 7 #[γ #[p],s] w (Ni (Z4 vs s) w):=by
 obtain⟨xa,xc,rfl,-,-⟩:=h.form;have T:=Kf w (χ #[ς xa vs.length xc] 25) (χ #[ς ν 0 0,ι κ 0,σ ⟨#[]⟩,ι κ 0] 30) (χ #[ι κ 0,ι κ 0,ι κ 0,ι κ 0] 32);have HS:Hid (δ _ _ _ (((w.alloc (χ #[ς xa vs.length xc] 25)).alloc (χ #[ς ν 0 0,ι κ 0,σ ⟨#[]⟩,ι κ 0] 30)).alloc (χ #[ι κ 0,ι κ 0,ι κ 0,ι κ 0] 32)) _):=Di _ vs bl _ (h.below T.bel) hs (hw.up T.bel);have I:=zb T;have Y:Hid (∀ wx,Bw w wx->qC wx/\JE wx):=fun wx hx=>⟨hw.up hx,hg.up hx⟩;have n:=zeD vs s;have HZ:=zb hz;go_in;go_wp2_with fail;generalize ((w.alloc _).alloc _).alloc _=wA at *;have hsz:=(uh I).size;have V:RB (w.heap.size+1) wA:=⟨(uh I).k1,(uh I).k2⟩;go_call HS as e w1 ⟨b1,hno,hyes⟩;have a:=zb (V.next b1);have u:=zh (uh I).bel b1;have o:=zb u;have hs1:=b1.size
 cases hok:qM vs with
 | false=>
  obtain rfl:=hno hok;have J:=zb (BN (s:=s) hok);obtain⟨c0,c1,c2,c3⟩:=Z8.of (uh a).k1;obtain⟨d0,d1,d2,d3⟩:=Z8.of (uh a).k2;have f1:=yJ (uh a).k1;have f2:=yJ (uh a).k2;go_wp2;refine bodyPost_ret (VG rfl _ [_,_,_,_] [_,_,_,_] rfl rfl (uh a).k1 (uh a).k2 om rfl rfl rfl underlying30 rfl kr underlying32 rfl kr) rfl ?_;rw[uh J];exact⟨_,rfl,JY _ _,Zd (Zd o om [_,_,_,_] 0) om [_,_,_,_] 0⟩
 | true=>
  obtain⟨hv,rfl,E⟩:=hyes hok;obtain⟨k,hk,r,-,-,G⟩:=Gu hok;rw[G,QO]at E;obtain⟨hb,q,t,p,nx,ib,jv,rfl,hbl,U,-,W,-,F,-⟩:=E;have J:=zb (BO (s:=s) hok G);have z:=zb (zh0 hb vs[k] q nx t p jv s w1 U W F HZ (uh Y w1 u).1 (uh Y w1 u).2);rw[uh J]at n;generalize Yp vs[k] (ZL s)=b at *;obtain⟨m,d,l,i,f,v⟩:=b;go_wp2_with fail;go_call z as e w2 ⟨v2,tr',rt,rfl,htr,o2,hrt,b2⟩;have H:tr'=0:=by rw[htr];split<;>rfl
  subst H;obtain⟨Q,X,rfl⟩:=Jx o2;simp only at o2 n;have B:=zb ((uh a).next b2);have y:=zb (zh o b2);have HRT:=zb hrt;have N:=zb o2;have x:=YB w2 (χ #[ς Q m.length X,ι κ d,l,ι κ 0,rt] 67) (χ #[ι κ i,ι κ f,ι κ v,ι κ 0] 32);have S:Below ((w2.alloc (χ #[ς Q m.length X,ι κ d,l,ι κ 0,rt] 67)).alloc (χ #[ι κ i,ι κ f,ι κ v,ι κ 0] 32)).heap.size _ ((w2.alloc (χ #[ς Q m.length X,ι κ d,l,ι κ 0,rt] 67)).alloc (χ #[ι κ i,ι κ f,ι κ v,ι κ 0] 32)).drew:=(yI _ _).drew;have j:=zh x.bel S;have P:=zb (AN _ m _ d 0 l rt _ (Zh o2 j) om hrt);have C:=zb ((uh B).next j);have K:=zb (zh y j);obtain⟨m0,m1,m2,m3⟩:=Z8.of x.k1;obtain⟨l0,l1,l2,l3,l4⟩:=QH.of x.k0;have A:=zb ((S.block _ (by rw[x.size];omega)).trans x.k1);have hMa:¬ w2.heap.size=w.heap.size:=by have:=b2.size;omega
  have hMb:¬ w.heap.size=w2.heap.size:=by have:=b2.size;omega
  have hMc:¬ w2.heap.size=w.heap.size+1:=by have:=b2.size;omega
  have hMd:¬ w.heap.size+1=w2.heap.size:=by have:=b2.size;omega
  clear z htr b2 o2 a o x S j N B y;rcases hrt with rfl |⟨t2,p2,rfl⟩
  all_goals (
   go_wp2_with fail;generalize (w2.alloc _).alloc _=wM at *;generalize w2.heap.size=M at *;go_region_law (first
    |(
      go_simp;refine (uh P).mono ?_;rintro e w3 ⟨v3,rfl,Z,R⟩;obtain⟨a3,n3,rfl⟩:=Jx Z;have g:=(uh C).next R;obtain⟨c0,c1,c2,c3⟩:=Z8.of g.k1;obtain⟨d0,d1,d2,d3⟩:=Z8.of g.k2;have f1:=yJ g.k1;have f2:=yJ g.k2;obtain⟨q0,q1,q2,q3⟩:=Z8.of ((R.block (M+1) (yC.1 A).1).trans A)))
   all_goals (
    have D:=zb g;have O:=zb Z;have L:=zb (zh K R);have hwM:=(yC.1 (uh C).k2).1;go_wp2;refine bodyPost_ret (VG rfl _ [_,_,_,_] [_,_,_,_] rfl rfl (uh D).k1 (uh D).k2 om rfl rfl rfl underlying30 rfl kr underlying32 rfl kr) rfl ?_;rw[uh J];exact⟨_,rfl,qH (VH (VH O om [_,_,_,_] 0) om [_,_,_,_] 0) om,Zd (Zd L om [_,_,_,_] 0) om [_,_,_,_] 0⟩))
theorem Zy.up(hb:Bw w w')(hS:∀ k,S k->k<w.heap.size)(hS':∀ k,S k->S' k):∀ {l:List zj} {v:ω},Zy w (fun _=>True) S l v->Zy w' (fun _=>True) S' l v
 | [],_,h=>h
 | m :: r,v,h=>by
  obtain⟨b,q,t,p,v',bl,jv,h1,h2,h3,h4,h4',h5,h6,h7,h8⟩:=h;exact⟨b,q,t,p,v',bl,jv,h1,trivial,(hb.block b (yC.1 h3).1).trans h3,h4.below hb,fun x hx=>hS' x (h4' x hx),h5,h6,zi.keep (fun k hk=>hb.block k (hS k hk)) hS' _ _ h7,Zy.up hb hS hS' h8⟩
theorem Zy.mono{A':Nat->Prop}(hA:∀ b,A b->A' b)(hS:∀ b,S b->S' b):∀ {l:List zj} {v:ω},Zy w A S l v->Zy w A' S' l v
 | [],_,h=>h
 | m :: r,v,h=>by
  obtain⟨b,q,t,p,v',bl,jv,h1,h2,h3,h4,h4',h5,h6,h7,h8⟩:=h;exact⟨b,q,t,p,v',bl,jv,h1,hA b h2,h3,h4,fun x hx=>hS x (h4' x hx),h5,h6,zi.keep (fun _ _=>rfl) hS _ _ h7,Zy.mono hA hS h8⟩
def SN(S:Nat->Prop)(a b:Nat)(k:Nat):Prop:=S k∨(a<=k/\k<b)
theorem Zy.link{wz:Wo}{q:ω}{m:zj}{jv:JV}(hS:∀ k,S k->k<w.heap.size)(h:Zy w (fun _=>True) S l v)(hb:Bw w wz)(ho:QK wz q m.touched bl)(hbl:∀ b∈bl,w.heap.size<=b)(hr:Zn m.doc= .inr jv)(hct:ze (ct jv)=m.doc)(hrep:zi w S jv (φ t rp)):
  Zy (wz.alloc (χ #[ι κ m.no,σ m.doc,q,φ t rp,v] 127)) (fun _=>True) (SN S w.heap.size wz.heap.size) (m :: l) (π (η ⟨wz.heap.size,0,ν⟩)):=by
 have a:=zt wz (χ #[ι κ m.no,σ m.doc,q,φ t rp,v] 127);have d:=zh hb a;refine⟨wz.heap.size,q,t,rp,v,bl,jv,rfl,trivial,yH _ _,ho.below a,fun b hb'=>.inr ⟨hbl b hb',ho.lt b hb'⟩,hr,hct,zi.keep (fun k hk=>d.block k (hS k hk)) (fun k hk=>.inl hk) _ _ hrep,?_⟩;exact Zy.up d hS (fun k hk=>.inl hk) h
theorem zh2 (S:Nat->Prop) (l:List zj) (m0:zj) (l0:List zj) (hl0:l=m0 :: l0) (v:ω) (o:ω) (p:qa) (t:TypeId) (rp:ω) (jv:JV) (bl:List Nat) (w:Wo) (hS:∀ k,S k->k<w.heap.size) (h:Zy w (fun _=>True) S l v) (ho:zw Qq w o p.ops bl) (hr:Zn p.doc= .inr jv) (hct:ze (ct jv)=p.doc) (hrep:zi w S jv (φ t rp)) (hn0:0<=m0.no) (hno:m0.no<=2000000)
  (hT:∀ wx,Bw w wx->δ prog 13 #[o] wx fun e w'=>∃ r,e=ε r/\OT w' wx.heap.size r (ZN p.ops)/\Bw wx w'):
  δ prog 73 #[v,γ #[o,ι κ p.base,σ p.doc,ι κ p.tries,φ t rp]] w fun e w'=>∃ v',e=ε v'/\Zy w' (fun b=>w.heap.size<=b/\b<w'.heap.size) (SN S w.heap.size w'.heap.size) ((⟨m0.no+1,p.doc,Zm p.ops⟩ :: l).take 8) v'/\Bw w w':=by
 obtain⟨oa,oc,rfl,-,-⟩:=ho.form;have hh:=h;rw[hl0]at hh;obtain⟨b0,q0,t0,p0,v0,bl0,jv0,rfl,-,k0,-⟩:=hh;have hlt0:=(yC.1 k0).1;have hA:=zt w (χ #[ς oa p.ops.length oc,ι κ p.base,σ p.doc,ι κ p.tries,φ t rp] 67);have kA:=yH w (χ #[ς oa p.ops.length oc,ι κ p.base,σ p.doc,ι κ p.tries,φ t rp] 67);have zA:(w.alloc (χ #[ς oa p.ops.length oc,ι κ p.base,σ p.doc,ι κ p.tries,φ t rp] 67)).heap.size=w.heap.size+1:=sm;have HF:Hid (∀ wx,Below (w.alloc (χ #[ς oa p.ops.length oc,ι κ p.base,σ p.doc,ι κ p.tries,φ t rp] 67)).heap.size (w.alloc (χ #[ς oa p.ops.length oc,ι κ p.base,σ p.doc,ι κ p.tries,φ t rp] 67)) wx->wx.cell? ⟨b0,0,ν⟩=η (ι κ m0.no)/\QH w.heap.size (ς oa p.ops.length oc) (ι κ p.base) (σ p.doc) (ι κ p.tries) (φ t rp) wx):=fun wx hx=>
  ⟨yG ((hx.block b0 om).trans ((hA.block b0 hlt0).trans k0)) 0,QH.of ((hx.block w.heap.size om).trans kA)⟩
 have HL:Hid (∀ (wz:Wo) (q:ω) (bl:List Nat),Bw w wz->QK wz q (Zm p.ops) bl->(∀ b∈bl,w.heap.size<=b)->Zy (wz.alloc (χ #[ι κ (m0.no+1),σ p.doc,q,φ t rp,π (η ⟨b0,0,ν⟩)] 127)) (fun _=>True) (SN S w.heap.size wz.heap.size) (⟨m0.no+1,p.doc,Zm p.ops⟩ :: l) (π (η ⟨wz.heap.size,0,ν⟩))):=fun wz q bl hb ho hbl=>Zy.link (m:=⟨m0.no+1,p.doc,Zm p.ops⟩) hS h hb ho hbl hr hct hrep;have HS:=zb hS;have HT:=zb hT;have HA:=zb hA;have HZA:=zb zA;clear h hS hT hl0 k0 hlt0 hA kA zA ho hr hct hrep;go_in;go_wp2_with fail;generalize w.alloc _=wA at *;have HP:Hid (Bw wA (wA.alloc (χ #[ι κ 0,σ ⟨#[]⟩,ς ν 0 0] 37)).drew):=zh (zt wA _) (yI _ _).drew;have HKP:Hid ((wA.alloc (χ #[ι κ 0,σ ⟨#[]⟩,ς ν 0 0] 37)).drew.heap[wA.heap.size]?=η (χ #[ι κ 0,σ ⟨#[]⟩,ς ν 0 0] 37 (0,0))):=yH wA _;have HZP:Hid ((wA.alloc (χ #[ι κ 0,σ ⟨#[]⟩,ς ν 0 0] 37)).drew.heap.size=wA.heap.size+1):=by show (wA.alloc _).heap.size=_;simp
 have HD:Hid (Bw wA wA.drew):=(yI _ _).drew;have HC1:=zb (uh HT _ (zh HA HP));have HC2:=zb (uh HT _ (zh HA HD));obtain⟨f0,f1,f2,f3,f4,f5⟩:=uh HF _ HP;obtain⟨g0,g1,g2,g3,g4,g5⟩:=uh HF _ HD;have hwr:IntKind.i64.wrap (m0.no+1)=m0.no+1:=by rw[Ζ];omega
 go_region_law (first
   |(
     go_simp;go_call HC1 as e w4 ⟨r4,rfl,o4,b4⟩;obtain⟨ta,tg,tc,rfl,-,-⟩:=OT.all o4;have b4':=zh HP b4;obtain⟨e0,e1,e2,e3,e4,e5⟩:=uh HF w4 b4';have kM:=(b4.block wA.heap.size (by have:=uh HZP;omega)).trans HKP;obtain⟨j0,j1,j2⟩:=JS kM;have fM:=yJ kM)
   |(
     go_simp;go_call HC2 as e w4 ⟨r4,rfl,o4,b4⟩;obtain⟨ta,tg,tc,rfl,-,-⟩:=OT.all o4;have b4':Bw wA w4:=⟨b4.os,b4.tape,b4.output,b4.size,b4.block⟩;obtain⟨e0,e1,e2,e3,e4,e5⟩:=uh HF w4 b4';have b5:=zh b4' (zt w4 (χ #[ι κ 0,σ ⟨#[]⟩,ς ν 0 0] 37));obtain⟨n0,n1,n2,n3,n4,n5⟩:=uh HF _ b5;have kN:=trivial))
 all_goals (
  first
  |(
    have HKN:=zb kN;have hN:=zt w4 (χ #[ι κ (m0.no+1),σ p.doc,ς ta (ZN p.ops).length tc] 37);have kZ:=yH w4 (χ #[ι κ (m0.no+1),σ p.doc,ς ta (ZN p.ops).length tc] 37);have HBZ:=zb (zh b4' hN);have HOZ:=zb ((WO o4).1.below hN);have HOB:Hid (∀ b∈(Δ ta (ZN p.ops).length tc).ownBlock.toList,w.heap.size<=b):=fun b hb=>by have h1:=(WO o4).2 b (by simpa using hb);have:=uh HZA;have:=(uh HD).size;omega
    generalize w4.alloc (χ #[ι κ (m0.no+1),σ p.doc,ς ta (ZN p.ops).length tc] 37)=wz at *;generalize w4.heap.size=zg at *)
  |(
    have kZ:(putN w4 wA.heap.size 0 [ι κ (m0.no+1),σ p.doc,ς ta (ZN p.ops).length tc]).heap[wA.heap.size]?=η (χ #[ι κ (m0.no+1),σ p.doc,ς ta (ZN p.ops).length tc] 37 (0,0)):=Z3 kM [_,_,_] rfl;have HBZ:Hid (Bw wA (putN w4 wA.heap.size 0 [ι κ (m0.no+1),σ p.doc,ς ta (ZN p.ops).length tc])):=Zd b4' (ye _) _ _;have HOZ:Hid (QK (putN w4 wA.heap.size 0 [ι κ (m0.no+1),σ p.doc,ς ta (ZN p.ops).length tc]) (ς ta (ZN p.ops).length tc) (Zm p.ops) _):=(WO o4).1.putN (g:=wA.heap.size) (fun hm=>by have:=(WO o4).2 wA.heap.size (by simpa using hm);have:=uh HZP;omega) _ 0;have HOB:Hid (∀ b∈(Δ ta (ZN p.ops).length tc).ownBlock.toList,w.heap.size<=b):=fun b hb=>by have h1:=(WO o4).2 b (by simpa using hb);have:=uh HZA;have:=uh HZP;omega
    clear kM j0 j1 j2 fM;change Exit.then _ _ _ _ (putN w4 wA.heap.size 0 [ι κ (m0.no+1),σ p.doc,ς ta (ZN p.ops).length tc]);generalize putN w4 wA.heap.size 0 [ι κ (m0.no+1),σ p.doc,ς ta (ZN p.ops).length tc]=wz at *;obtain⟨zg,hzg⟩:∃ z,wA.heap.size=z:=⟨_,rfl⟩;simp only[hzg]at kZ ⊢)
  obtain⟨z0,z1,z2⟩:=JS kZ;obtain⟨d0,d1,d2,d3,d4,d5⟩:=uh HF wz HBZ;have HBW:=zb (zh HA HBZ);have HNW:Hid (δ prog 127 #[π (η ⟨wz.heap.size,0,ν⟩),ι κ 8] (wz.alloc (χ #[ι κ (m0.no+1),σ p.doc,ς ta (ZN p.ops).length tc,φ t rp,π (η ⟨b0,0,ν⟩)] 127)) _):=CK (S:=SN S w.heap.size wz.heap.size) (N:=wz.heap.size) (fun k h=>h.elim (fun h=>yF (uh HS k h) (uh HBW).size) (fun h=>h.2)) _ 8 _ _ sm om (uh HL wz _ _ HBW HOZ HOB);have HAZ:=zb (zt wz (χ #[ι κ (m0.no+1),σ p.doc,ς ta (ZN p.ops).length tc,φ t rp,π (η ⟨b0,0,ν⟩)] 127));clear HF HL HA HZA HP HKP HZP HD HC1 HC2 f0 f1 f2 f3 f4 f5 g0 g1 g2 g3 g4 g5 e0 e1 e2 e3 e4 e5 o4 b4 b4' kZ HBZ HOZ HOB HS;go_wp2_with fail;generalize wz.alloc _=wy at *;go_call HNW as e w5 ⟨v5,rfl,c5,b5⟩;have HB5:=zb b5;have HC5:=zb c5;obtain⟨a5,rfl⟩:=c5.ptr;clear HNW b5 c5;go_wp2;go_ret;have s1:=(uh HAZ).size;have s2:=(uh HB5).size;exact⟨_,rfl,(uh HC5).mono (fun b hb=>⟨by have:=(uh HBW).size;omega,hb.2⟩) (fun k hk=>hk.imp (fun h=>h) (fun h=>⟨h.1,om⟩)),zh (zh HBW HAZ) HB5⟩)
theorem FM:∀ (vs:List ω) (o:Nat),(putN w g o vs).heap.size=w.heap.size:=by
 intro vs;induction vs generalizing w with
 | nil=>intro o;rfl
 | cons a r ih=>intro o;exact (ih (o+1)).trans (by simp[World.setCell])
def RPn(no:Int)(p:qa)(v:ω)(w:Wo)(e:Ending)(w':Wo):Prop:=Bw w w'/\(Jj no p=ζ->e=ε (τ #[γ #[ς ν 0 0,ι κ 0,σ ⟨#[]⟩,ι κ 0,.nilIface],θ ζ])) /\
 (Jj no p=ξ->∃ (jv:JV) (t:TypeId) (r:ω),Zn p.doc= .inr jv/\ze (ct jv)=p.doc/\e=ε (τ #[γ #[v,ι κ p.base,σ p.doc,ι κ p.tries,φ t r],θ ξ])/\zi w' (fun k=>k<w'.heap.size) jv (φ t r))
theorem zh4(no:Int)(p:qa):(p.base<0∨(0<=p.base/\no<p.base)∨(0<=p.base/\p.base<=no/\p.tries<0)∨(0<=p.base/\p.base<=no/\0<=p.tries/\4<p.tries))∨(0<=p.base/\p.base<=no/\0<=p.tries/\p.tries<=4):=by omega
theorem zh5 (hb:Nat) (no:Int) (doc:Bs) (q nx rt:ω) (v:ω) (p:qa) (bl:List Nat) (w:Wo) (hk:w.heap[hb]?=η (χ #[ι κ no,doc,q,rt,nx] 127 (0,0)))
  (ho:zw Qq w v p.ops bl) (hs:YT p.ops) (hd:p.doc.size<=1048576) (hw:qC w):
  δ prog 32 #[hb,γ #[v,ι κ p.base,p.doc,ι κ p.tries]] w (RPn no p v w):=by
 obtain⟨B,C,rfl,-,-⟩:=ho.form;have L:=(yC.1 hk).1;have y:=YB w (χ #[ς B p.ops.length C,ι κ p.base,p.doc,ι κ p.tries] 30) (χ #[ς ν 0 0,ι κ 0,σ ⟨#[]⟩,ι κ 0,.nilIface] 67);have m:Hid (∀ wx,Below ((w.alloc (χ #[ς B p.ops.length C,ι κ p.base,p.doc,ι κ p.tries] 30)).alloc (χ #[ς ν 0 0,ι κ 0,σ ⟨#[]⟩,ι κ 0,.nilIface] 67)).heap.size ((w.alloc (χ #[ς B p.ops.length C,ι κ p.base,p.doc,ι κ p.tries] 30)).alloc (χ #[ς ν 0 0,ι κ 0,σ ⟨#[]⟩,ι κ 0,.nilIface] 67)) wx->Z8 w (ς B p.ops.length C) (ι κ p.base) p.doc (ι κ p.tries) wx/\wx.cell? hb=η (ι κ no)/\wx.heap[w.heap.size+1]?=η (χ #[ς ν 0 0,ι κ 0,σ ⟨#[]⟩,ι κ 0,.nilIface] 67 (0,0))):=fun wx hx=>by
  have T:=y.size;exact⟨Z8.of ((hx.block w om).trans y.k0),yG ((hx.block hb om).trans ((y.bel.block hb L).trans hk)) 0,(hx.block (w.heap.size+1) om).trans y.k1⟩
 have H:=zb fun wx (hx:Below w w wx)=>CO _ p.ops bl wx (ho.below hx) hs (hw.up hx);have G:=zb fun wx (hx:Below w w wx)=>ST p.doc wx (hw.up hx).tab (hw.up hx).err (hw.up hx).pow om;have j:=zb y;rcases zh4 no p with S |⟨n1,n2,n3,n4⟩
 .have A:Hid (Jj no p=ζ):=by
   show _=_
   unfold Jj;rcases S with h |⟨x,h⟩ |⟨x,K,h⟩ |⟨x,K,h3,h⟩
   .rw[yk (show ¬ 0<=p.base by omega)];simp
   .rw[yk (show ¬ p.base<=no by omega)];simp
   .rw[yk (show ¬ 0<=p.tries by omega)];simp
   .rw[yk (show ¬ p.tries<=4 by omega)];simp
  rcases S with h |⟨x,h⟩ |⟨x,K,h⟩ |⟨x,K,h3,h⟩
  all_goals (
   have t1:decide (p.base<0)=decide (p.base<0):=rfl;obtain⟨q1,O⟩:∃ b,decide (p.base<0)=b:=⟨_,rfl⟩;obtain⟨q2,P⟩:∃ b,decide (no<p.base)=b:=⟨_,rfl⟩;obtain⟨q3,Q⟩:∃ b,decide (p.tries<0)=b:=⟨_,rfl⟩;obtain⟨q4,R⟩:∃ b,decide (4<p.tries)=b:=⟨_,rfl⟩
   cases q1<;>cases q2<;>cases q3<;>cases q4
   all_goals first
    |(exfalso;simp at O P Q R;omega)
    |(
      clear t1;go_in;go_wp2_with fail;generalize (w.alloc _).alloc _=d at *;obtain⟨⟨X,Y,Z,f3⟩,f4,U⟩:=uh m d (yI _ _);go_quiet (fail);have i:(d.drewN nq).heap[w.heap.size+1]?=_:=U;obtain⟨c0,c1,c2,c3,c4⟩:=QH.of i;have fz:=yJ i;have W:=zb i;have l:=zb (zh j.bel (GQ d nq));go_wp2;refine bodyPost_ret (Qh rfl _ _ (w.heap.size+1) 67 #[_,_,_,_,_] (0,0) _ _ rfl rfl (Z3 W [_,_,_,_,_] rfl) underlying67 rfl kr) rfl ?_;exact⟨Zd l om [_,_,_,_,_] 0,fun _=>rfl,fun h=>by rw[uh A]at h;cases h⟩))
 .have O:decide (p.base<0)=ζ:=yk om;have P:decide (no<p.base)=ζ:=yk om;have Q:decide (p.tries<0)=ζ:=yk om;have R:decide (4<p.tries)=ζ:=yk om;have A:Hid (Jj no p=(decide (qn p.ops<0) && ZR p.doc)):=by show _=_;unfold Jj;rw[yj n1,yj n2,yj n3,yj n4];simp
  go_in;go_wp2_with fail;generalize (w.alloc _).alloc _=d at *;obtain⟨⟨X,Y,Z,f3⟩,f4,U⟩:=uh m d (yI _ _);go_quiet (fail);have J:=GQ d nq;obtain⟨⟨g0,g1,g2,g3⟩,-,-⟩:=uh m (d.drewN nq) J;have HR:=zb (uh H (d.drewN nq) (zh j.bel J));have D:=zb J;go_wp2_with fail;generalize d.drewN nq=wB at *;go_call HR as e w2 ⟨b2,hbad,hgood⟩;have s:=zh D b2;obtain⟨⟨m0,m1,m2,m3⟩,-,k2⟩:=uh m w2 s;have a:=zb s;have f:=zb k2;by_cases T:0<=qn p.ops
  .obtain⟨t,r,rfl,-⟩:=hbad T;have z:Hid (Jj no p=ζ):=by show _=_;rw[uh A,yk om];rfl
   obtain⟨c0,c1,c2,c3,c4⟩:=QH.of f;have fz:=yJ f;have l:=zb (zh j.bel a);go_wp2;refine bodyPost_ret (Qh rfl _ _ (w.heap.size+1) 67 #[_,_,_,_,_] (0,0) _ _ rfl rfl (Z3 f [_,_,_,_,_] rfl) underlying67 rfl kr) rfl ?_;exact⟨Zd l om [_,_,_,_,_] 0,fun _=>rfl,fun h=>by rw[uh z]at h;cases h⟩
  .obtain⟨lv,qs,rfl,-⟩:=hgood om;have z:Hid (Jj no p=ZR p.doc):=by show _=_;rw[uh A,yj om];rfl
   have V:=zb (uh G w2 (zh j.bel a));go_wp2_with fail;go_call V as e w3 ⟨b3,hno,hyes⟩;have u:=zh a b3;obtain⟨⟨s0,s1,s2,s3⟩,-,M⟩:=uh m w3 u;obtain⟨c0,c1,c2,c3,c4⟩:=QH.of M;have fz:=yJ M;have l:=zb (zh j.bel u);have n:=zb M;have hz3:=b3.size
   cases hg:ZR p.doc with
   | false=>
    obtain rfl:=hno hg;have I:Hid (Jj no p=ζ):=zb (by rw[uh z,hg]);go_wp2;refine bodyPost_ret (Qh rfl _ _ (w.heap.size+1) 67 #[_,_,_,_,_] (0,0) _ _ rfl rfl (Z3 n [_,_,_,_,_] rfl) underlying67 rfl kr) rfl ?_;exact⟨Zd l om [_,_,_,_,_] 0,fun _=>rfl,fun h=>by rw[uh I]at h;cases h⟩
   | true=>
    obtain⟨jv,t,r,r1,r2,rfl,N⟩:=hyes hg;have I:Hid (Jj no p=ξ):=zb (by rw[uh z,hg]);have E:=zb r1;have F:=zb r2;have o:=zb N;have hwA:=j.size;have hs2:=a.size;go_wp2;refine bodyPost_ret (Qh rfl _ _ (w.heap.size+1) 67 #[_,_,_,_,_] (0,0) _ _ rfl rfl (Z3 n [_,_,_,_,_] rfl) underlying67 rfl kr) rfl ?_;refine⟨Zd l om [_,_,_,_,_] 0,fun h=>(by rw[uh I]at h;cases h),fun _=>⟨jv,t,r,E,F,rfl,?_⟩⟩;exact zi.keep (fun k hk=>qi (w:=w3) (g:=w.heap.size+1) om [_,_,_,_,_] 0) (fun k hk=>Nat.lt_of_lt_of_eq hk.2 (FM (w:=w3) (g:=w.heap.size+1) [_,_,_,_,_] 0).symm) _ _ o
theorem Pj {P:Program} {fn:Func} {o p q:Tmp} {t1 t2:TypeId} (h:fn.results=#[.tmp o,.cell p t1,.cell q t2]) {tmps:Array ω}  (w':Wo)  {g1 g2:Nat} {cs1 cs2:Array ω} (xs ys:List ω) {d1 d2:TypeDesc}
  (ho:tmps.getD o undef=v) (hp:tmps.getD p undef=π (η g1)) (hq:tmps.getD q undef=π (η g2)) (k1:w.heap[g1]?=η (χ cs1 t1 (0,0))) (k2:w.heap[g2]?=η (χ cs2 t2 (0,0))) (hne:g1≠g2) (hw:w'=putN (putN w g1 0 xs) g2 0 ys) (l1:xs.length=cs1.size) (l2:ys.length=cs2.size)
  (hu1:P.underlying t1=η d1) (hd1:(match d1 with | .struct _ | .array _ _=>ξ | _=>ζ)=ξ) (hi1:(P.info? t1).map (·.size)=η xs.toArray.size) (hu2:P.underlying t2=η d2) (hd2:(match d2 with | .struct _ | .array _ _=>ξ | _=>ζ)=ξ) (hi2:(P.info? t2).map (·.size)=η ys.toArray.size):
  (results fn tmps).run P w'= .ok (.tuple #[v,.agg xs.toArray,.agg ys.toArray]) w':=by
 have a:tmps[o]?.getD undef=v:=by simpa using ho
 have b:tmps[p]?.getD undef=π (η g1):=by simpa using hp
 have d:tmps[q]?.getD undef=π (η g2):=by simpa using hq
 have f:w'.heap[g1]?=η (χ xs.toArray t1 (0,0)):=by rw[hw,qi hne,Z3 k1 xs l1]
 have g:w'.heap[g2]?=η (χ ys.toArray t2 (0,0)):=by rw[hw];exact Z3 ((qi (Ne.symm hne) _ _).trans k2) ys l2
 simp[results,h,a,b,d,asAddr,run_loadVar_row w' g1 t1 t1 _ (0,0) d1 f hu1 hd1 hi1,run_loadVar_row w' g2 t2 t2 _ (0,0) d2 g hu2 hd2 hi2]
theorem XB{cs:Array ω}(h:zX w B v ms)(hk:w.heap[g]?=η (χ cs T (0,0)))(hT:T≠82)(xs:List ω)(o:Nat):zX (putN w g o xs) B v ms:=
 Gg h (fun b hb=>qi (fun e=>by
  subst e;have d:v.ownBlock=η b:=by simpa using hb
  rcases h with ⟨_,⟨rfl,_⟩ |⟨k,i,j,rfl,_,a,_⟩⟩
  .cases d
  .have f:k=b:=by injection d
   rw[f,hk]at a;injection a with a;injection a with _ h2 _;exact hT h2) xs o)
theorem zh6(vs:List zj)(no t:Int)(a:Bs×Int×Int)(ops:List zk):Xf vs no t a ops=⟨vs,⟨(qW no a ops).ops,(qW no a ops).base,(qW no a ops).doc,if (qW no a ops).kind=1 then t else 0⟩,(qW no a ops).kind,(qW no a ops).code,(qW no a ops).pos,0⟩:=by
 unfold Xf qW;split<;>rfl
theorem zh7(xs:List zj):(qF xs).reverse=xs.reverse.take 8:=by
 unfold qF;rw[List.reverse_drop];by_cases h:8<=xs.length
 .congr 1;omega
 .rw[yr (by rw[Β];omega),yr (by rw[Β];omega)]
def AtP(S:Nat->Prop)(a:Wg)(w:Wo)(e:Ending)(w':Wo):Prop:=∃ v' vo rt,e=ε (τ #[v',γ #[vo,ι κ a.pn.base,σ a.pn.doc,ι κ a.pn.tries,rt],γ #[ι κ a.kind,ι κ a.code,ι κ a.pos,ι κ a.no]])/\Zy w' (fun _=>True) (SN S w.heap.size w'.heap.size) a.vs.reverse v'/\zX w' 0 vo a.pn.ops/\Pi rt/\Bw w w'
theorem Zy.put2{w2:Wo}{n N:Nat}(hS:∀ k,S k->k<n)(hN:n+3<=N)(h:Zy w2 (fun b=>N<=b/\b<w2.heap.size) (SN S N w2) l v)(hk:∀ k,k≠n+1->k≠n+1+1->w'.heap[k]?=w2.heap[k]?)(hz:w'.heap.size=w2.heap.size):Zy w' (fun _=>True) (SN S n w') l v:=by
 have d:Zy w' (fun _=>True) (SN S N w2) l v:=h.keep (fun b a=>⟨hk b om om,trivial⟩) (fun b a=>by
  rcases a with a | a
  .have:=hS b a;exact hk b om om
  .exact hk b om om)
 exact d.mono (fun _ h=>h) (fun k hk=>hk.imp (fun h=>h) (fun h=>⟨om,om⟩))
structure DC(b:Nat)(o:ω)(p:qa)(t:TypeId)(rp:ω)(w:Wo):Prop where
 k0:w.heap[b]?=η (χ #[o,ι κ p.base,σ p.doc,ι κ p.tries,φ t rp] 67 (0,0))
 db:Wv (b+1) w
theorem DC.next{p:qa}(h:DC b o p t rp w)(hb:Below w w w'):DC b o p t rp w':=
 ⟨(hb.block b (yC.1 h.k0).1).trans h.k0,h.db.next hb⟩
theorem zh9 (S:Nat->Prop) (vs l:List zj) (m0:zj) (l0:List zj) (hl:l=m0 :: l0) (hvl:l=vs.reverse) (v:ω) (o:ω) (p:qa) (t:TypeId) (rp:ω) (bl:List Nat) (w:Wo) (hS:∀ k,S k->k<w.heap.size) (h:Zy w (fun _=>True) S l v) (ho:zw Qq w o p.ops bl) (ht0:0<=p.tries) (ht4:p.tries<=4)
  (hcm:Yg (Zm p.ops) p.base m0.no l=meets vs (Zm p.ops) p.base)
  (hP:∀ wx,Bw w wx->δ prog 73 #[v,γ #[o,ι κ p.base,p.doc,ι κ p.tries,φ t rp]] wx fun e w'=>∃ v',e=ε v'/\Zy w' (fun b=>wx.heap.size<=b/\b<w'.heap.size) (SN S wx.heap.size w'.heap.size) ((⟨m0.no+1,p.doc,Zm p.ops⟩ :: l).take 8) v'/\Bw wx w')
  (hC:∀ wx,Bw w wx->δ prog 74 #[v,γ #[o,ι κ p.base,p.doc,ι κ p.tries,φ t rp]] wx fun e w'=>e=ε (θ (Yg (Zm p.ops) p.base m0.no l))/\Bw wx w')
  (hY:∀ wx,Bw w wx->δ prog 70 #[v,o,ι κ (p.tries+1)] wx (Ll (qW m0.no (ZK m0.doc p.ops) p.ops) (p.tries+1) 0 wx)):
  δ prog 33 #[v,γ #[o,ι κ p.base,p.doc,ι κ p.tries,φ t rp]] w (AtP S (QN vs m0 p) w):=by
 obtain⟨oa,oc,rfl,-,-⟩:=ho.form;have hh:=h;rw[hl]at hh;obtain⟨b0,q0,t0,p0,v0,bl0,jv0,rfl,-,k0,-⟩:=hh;have P:=(yC.1 k0).1;have z:=YB w (χ #[ς oa p.ops.length oc,ι κ p.base,p.doc,ι κ p.tries,φ t rp] 67) (χ #[ς ν 0 0,ι κ 0,σ ⟨#[]⟩,ι κ 0,.nilIface] 67);obtain⟨W,hW⟩:∃ W,W=(w.alloc (χ #[ς oa p.ops.length oc,ι κ p.base,p.doc,ι κ p.tries,φ t rp] 67)).alloc (χ #[ς ν 0 0,ι κ 0,σ ⟨#[]⟩,ι κ 0,.nilIface] 67):=⟨_,rfl⟩;rw[← hW]at z;have J:=zt W (χ #[ι κ 0,ι κ 0,ι κ 0,ι κ 0] 32);have kA3:=yH W (χ #[ι κ 0,ι κ 0,ι κ 0,ι κ 0] 32);have zW:=z.size;have C:Hid (DC w.heap.size (ς oa p.ops.length oc) p t rp (W.alloc (χ #[ι κ 0,ι κ 0,ι κ 0,ι κ 0] 32))):=⟨(J.block w.heap.size om).trans z.k0,(J.block (w.heap.size+1) om).trans z.k1,by rw[show w.heap.size+1+1=W.heap.size by omega];exact kA3⟩;have Y:=zb (zh z.bel J);have c0:=(cl5 (((uh Y).block b0 P).trans k0)).1;have HH:=zb h;have HO:=zb ho;have HP:=zb hP;have HC:=zb hC;have HY:=zb hY;have HVL:=zb hvl;have HL:=zb hl;have x:=zb hcm;have HZ:Hid ((W.alloc (χ #[ι κ 0,ι κ 0,ι κ 0,ι κ 0] 32)).heap.size=w.heap.size+3):=by
  show _=_
  have:(W.alloc (χ #[ι κ 0,ι κ 0,ι κ 0,ι κ 0] 32)).heap.size=W.heap.size+1:=sm;omega
 have HS:=zb hS;subst hW;clear h hS ho hP hC hY hvl hl hcm k0 P z J kA3 zW;go_in;go_wp2_with fail;generalize ((w.alloc _).alloc _).alloc _=wA at *;obtain⟨L,M,N,O,d4⟩:=QH.of (uh C).k0;by_cases A:p.base=m0.no
 .have K:Hid (QN vs m0 p=⟨qF (vs++[⟨m0.no+1,p.doc,Zm p.ops⟩]),Jc,2,0,0,m0.no+1⟩):=by show _=_;unfold QN;rw[yg A]
  have tq:(p.base ==m0.no)=ξ:=by simp[A]
  clear A;go_quiet (fail);have I:=GQ wA nq;have HZB:Hid (w.heap.size+3<=(wA.drewN nq).heap.size):=by
   show _<=_
   have:=uh HZ;have:=I.size;omega
  have d:=zb ((uh C).next I);obtain⟨Z,g1,g2,g3,g4⟩:=QH.of (uh d).k0;have HPQ:=zb (uh HP _ (zh Y I));have j:=zb (zh Y I);clear L M N O d4 HC HY C x HP I c0 Y tq;go_wp2_with fail;generalize wA.drewN nq=wB at *;go_call HPQ as e w2 ⟨v2,rfl,c2,b2⟩;have HC2:Hid (Zy w2 (fun b=>wB.heap.size<=b/\b<w2.heap.size) (SN S wB.heap.size w2.heap.size) (qF (vs++[⟨m0.no+1,p.doc,Zm p.ops⟩])).reverse v2):=by
   show Zy _ _ _ _ _
   rw[zh7,List.reverse_append,← uh HVL];exact c2
  rw[List.take_succ_cons]at c2;obtain⟨V,q1,t1,p1,v1,bl1,jv1,rfl,-,B,-⟩:=c2;have n:Bw w2 w2.drew:=(yI _ _).drew;have a:=zb ((uh d).next b2);have u:=zb (zh j b2);have nb1:¬ V=w.heap.size+1:=fun e=>by
   rw[e,(uh a).db.k1]at B;injection B with B;injection B with _ h _;exact absurd h dc
  have nb2:¬ V=w.heap.size+1+1:=fun e=>by
   rw[e,(uh a).db.k2]at B;injection B with B;injection B with _ h _;exact absurd h dc
  have nb1':¬ w.heap.size+1=V:=fun e=>nb1 e.symm;have nb2':¬ w.heap.size+1+1=V:=fun e=>nb2 e.symm;have e1:w2.cell? V=η (ι κ (m0.no+1)):=yG B 0;have e0:w2.drew.cell? V=η (ι κ (m0.no+1)):=yG ((n.block V (yC.1 B).1).trans B) 0;obtain⟨c0,c1,c2,c3,c4⟩:=QH.of (uh a).db.k1;obtain⟨L,M,N,O⟩:=Z8.of (uh a).db.k2;have f1:=yJ (uh a).db.k1;have f2:=yJ (uh a).db.k2;have y:=zb n;clear HPQ b2 B n d j Z g1 g2 g3 g4;go_wp2_with fail;go_region_law (fail)
  all_goals (
   have f:=zb ((uh a).next y);have HQ1:Hid (∀ k,k≠w.heap.size+1->k≠w.heap.size+1+1->(putN (putN w2.drew (w.heap.size+1) 0 [ς ν 0 0,ι κ 0,σ ⟨#[]⟩,ι κ 0,.nilIface]) (w.heap.size+1+1) 0 [ι κ 2,ι κ 0,ι κ 0,ι κ (m0.no+1)]).heap[k]?=w2.heap[k]?):=fun k h1 h2=>(qi h2 _ _).trans (qi h1 _ _);have HQ2:Hid ((putN (putN w2.drew (w.heap.size+1) 0 [ς ν 0 0,ι κ 0,σ ⟨#[]⟩,ι κ 0,.nilIface]) (w.heap.size+1+1) 0 [ι κ 2,ι κ 0,ι κ 0,ι κ (m0.no+1)]).heap.size=w2.heap.size):=(FM _ _).trans (FM _ _);have HQ3:Hid (Bw w (putN (putN w2.drew (w.heap.size+1) 0 [ς ν 0 0,ι κ 0,σ ⟨#[]⟩,ι κ 0,.nilIface]) (w.heap.size+1+1) 0 [ι κ 2,ι κ 0,ι κ 0,ι κ (m0.no+1)])):=Zd (Zd (zh u y) om _ _) om _ _;have HQ:=zb (Zy.put2 HS HZB HC2 HQ1 HQ2);go_wp2;change bodyPost _ _ _ _ _ (putN (putN w2 (w.heap.size+1) 0 [ς ν 0 0,ι κ 0,σ ⟨#[]⟩,ι κ 0,.nilIface]) (w.heap.size+1+1) 0 [ι κ 2,ι κ 0,ι κ 0,ι κ (m0.no+1)]).drew;rw[← WP,← WP];refine bodyPost_ret (Pj (w:=w2.drew) rfl _ [ς ν 0 0,ι κ 0,σ ⟨#[]⟩,ι κ 0,.nilIface] [ι κ 2,ι κ 0,ι κ 0,ι κ (m0.no+1)] rfl rfl rfl (uh f).db.k1 (uh f).db.k2 om rfl rfl rfl underlying67 rfl kr underlying32 rfl kr) rfl ?_;rw[uh K];exact⟨_,_,_,rfl,HQ,JY _ _,.inl rfl,HQ3⟩)
 .have tq:(p.base ==m0.no)=ζ:=by simp[A]
  have R:=zb A;have hwr:IntKind.i64.wrap (p.tries+1)=p.tries+1:=by rw[Ζ];omega
  have T:Hid (∀ wx,Bw w wx->Zy wx (fun _=>True) (SN S w.heap.size wx.heap.size) vs.reverse b0):=fun wx hx=>by
   rw[← uh HVL];exact Zy.up hx HS (fun k hk=>.inl hk) HH
  clear A HP;go_quiet (fail);have I:=GQ wA nq;have d:=zb ((uh C).next I);have j:=zb (zh Y I);clear L M N O d4 C I c0 Y tq HZ;obtain⟨Z,g1,g2,g3,g4⟩:=QH.of (uh d).k0;obtain⟨c0,c1,c2,c3,c4⟩:=QH.of (uh d).db.k1;obtain⟨L,M,N,O⟩:=Z8.of (uh d).db.k2;have f1:=yJ (uh d).db.k1;have f2:=yJ (uh d).db.k2;generalize wA.drewN nq=wB at *;by_cases h4:4<p.tries+1
  .have K:Hid (QN vs m0 p=⟨vs,Jc,4,0,0,0⟩):=by show _=_;unfold QN;rw[yf (uh R),yg h4]
   clear HC HY x;go_wp2;refine bodyPost_ret (Pj rfl _ [_,_,_,_,_] [_,_,_,_] rfl rfl rfl (uh d).db.k1 (uh d).db.k2 om rfl rfl rfl underlying67 rfl kr underlying32 rfl kr) rfl ?_;rw[uh K];have hf:=Zd (g:=w.heap.size+1+1) (Zd (g:=w.heap.size+1) j om [ς ν 0 0,ι κ 0,σ ⟨#[]⟩,ι κ 0,.nilIface] 0) om [ι κ 4,ι κ 0,ι κ 0,ι κ 0] 0;exact⟨_,_,_,rfl,uh T _ hf,JY _ _,.inl rfl,hf⟩
  .have U:=zb (uh HC _ j);have HN4:=zb h4;have h4':=h4;clear HC c0 c1 c2 c3 c4 L M N O f1 f2;go_wp2_with fail;go_call U as e w2 ⟨rfl,b2⟩;have a:=zb ((uh d).next b2);have u:=zb (zh j b2);obtain⟨Z,g1,g2,g3,g4⟩:=QH.of (uh a).k0;obtain⟨c0,c1,c2,c3,c4⟩:=QH.of (uh a).db.k1;obtain⟨L,M,N,O⟩:=Z8.of (uh a).db.k2;have f0:=yJ (uh a).k0;have f1:=yJ (uh a).db.k1;have f2:=yJ (uh a).db.k2
   cases hcf:Yg (Zm p.ops) p.base m0.no l with
   | true=>
    have K:Hid (QN vs m0 p=⟨vs,Jc,3,0,0,0⟩):=by show _=_;unfold QN;rw[yf (uh R),yf (by have:=uh HN4;omega),yg (by rw[← uh x,hcf])]
    clear U x HY d j b2 hcf h4 h4';go_wp2;refine bodyPost_ret (Pj rfl _ [_,_,_,_,_] [_,_,_,_] rfl rfl rfl (uh a).db.k1 (uh a).db.k2 om rfl rfl rfl underlying67 rfl kr underlying32 rfl kr) rfl ?_;rw[uh K];have hf:=Zd (g:=w.heap.size+1+1) (Zd (g:=w.heap.size+1) u om [ς ν 0 0,ι κ 0,σ ⟨#[]⟩,ι κ 0,.nilIface] 0) om [ι κ 3,ι κ 0,ι κ 0,ι κ 0] 0;exact⟨_,_,_,rfl,uh T _ hf,JY _ _,.inl rfl,hf⟩
   | false=>
    have K:Hid (QN vs m0 p=Xf vs m0.no (p.tries+1) (ZK m0.doc p.ops) p.ops):=by show _=_;unfold QN;rw[yf (uh R),yf (by have:=uh HN4;omega),yf (by rw[← uh x,hcf];simp)]
    have HYQ:=zb (uh HY _ u);clear U x HY d j b2 hcf h4 h4' c0 c1 c2 c3 c4 L M N O f0 f1 f2;go_wp2_with fail;go_call HYQ as e w3 ⟨v3,tr',rt,rfl,htr,o3,hrt,b3⟩;obtain⟨a3,n3,rfl⟩:=Jx o3;have hN:=zt w3 (χ #[ι κ 0,ι κ 0,ι κ 0,ι κ 0] 32);have Q:=(yC.1 ((uh a).next b3).db.k2).1;have f:=zb (((uh a).next b3).next hN);have HB3:=zb (zh (zh u b3) hN);have HO3:=zb (Zh o3 hN);have HTR:=zb htr;have H:Hid ((w3.alloc (χ #[ι κ 0,ι κ 0,ι κ 0,ι κ 0] 32)).heap[w3.heap.size]?=η (χ #[ι κ 0,ι κ 0,ι κ 0,ι κ 0] 32 (0,0))):=yH _ _;have HX2:Hid (QN vs m0 p=⟨vs,⟨(qW m0.no (ZK m0.doc p.ops) p.ops).ops,(qW m0.no (ZK m0.doc p.ops) p.ops).base,(qW m0.no (ZK m0.doc p.ops) p.ops).doc,tr'⟩,(qW m0.no (ZK m0.doc p.ops) p.ops).kind,(qW m0.no (ZK m0.doc p.ops) p.ops).code,(qW m0.no (ZK m0.doc p.ops) p.ops).pos,0⟩):=by show _=_;rw[uh K,zh6,htr]
    obtain⟨Z,g1,g2,g3,g4⟩:=QH.of (uh f).k0;obtain⟨e0,e1,e2,e3⟩:=Z8.of H;have f0:=yJ (uh f).k0;have f3:=yJ H;have n0:¬ w3.heap.size=w.heap.size:=om;have n0':¬ w.heap.size=w3.heap.size:=om;clear K;generalize qW m0.no (ZK m0.doc p.ops) p.ops=i at *;obtain⟨wY,r⟩:∃ wY,wY=putN (w3.alloc (χ #[ι κ 0,ι κ 0,ι κ 0,ι κ 0] 32)) w.heap.size 0 [ς a3 i.ops.length n3,ι κ i.base,i.doc,ι κ tr',rt]:=⟨_,rfl⟩;obtain⟨s,q⟩:∃ s,s=putN wY w3.heap.size 0 [ι κ i.kind,ι κ i.code,ι κ i.pos,ι κ 0]:=⟨_,rfl⟩;have kY0:wY.heap[w.heap.size]?=η (χ #[ς a3 i.ops.length n3,ι κ i.base,i.doc,ι κ tr',rt] 67 (0,0)):=by rw[r];exact Z3 (uh f).k0 _ rfl
    have X:wY.heap[w3.heap.size]?=η (χ #[ι κ 0,ι κ 0,ι κ 0,ι κ 0] 32 (0,0)):=by rw[r];exact (qi n0 _ _).trans H
    have D:Hid (s.heap[w.heap.size]?=η (χ #[ς a3 i.ops.length n3,ι κ i.base,i.doc,ι κ tr',rt] 67 (0,0))):=by show _=_;rw[q];exact (qi n0' _ _).trans kY0
    have E:Hid (s.heap[w3.heap.size]?=η (χ #[ι κ i.kind,ι κ i.code,ι κ i.pos,ι κ 0] 32 (0,0))):=by show _=_;rw[q];exact Z3 X _ rfl
    have m:Hid (Wv (w.heap.size+1) s):=by
     show Wv _ _
     rw[q,r];exact⟨((qi om _ _).trans (qi om _ _)).trans (uh f).db.k1,((qi om _ _).trans (qi om _ _)).trans (uh f).db.k2⟩
    have HOZ:Hid (zX s 0 (ς a3 i.ops.length n3) i.ops):=by
     show zX _ _ _ _
     rw[q];refine XB ?_ X dc _ _;rw[r];exact XB HO3 (uh f).k0 dc _ _
    have HBZ:Hid (Bw w s):=by
     show Below _ _ _
     rw[q,r];exact Zd (Zd HB3 (ye _) _ _) om _ _
    rw[r]at q;have HWZ:=zb q;have G:=zb Q;clear HYQ b3 o3 htr HTR a u hN Q q r kY0 X f HB3 HO3 H;have hrt':=zb hrt;rcases hrt with rfl |⟨t3,p3,rfl⟩
    all_goals (
     go_wp2_with fail;change Code.wp _ _ _ _ (putN (putN (w3.alloc _) w.heap.size 0 [_,_,_,_,_]) w3.heap.size 0 [_,_,_,_]);rw[← uh HWZ];clear Z g1 g2 g3 g4 e0 e1 e2 e3 f0 f3;obtain⟨Z,g1,g2,g3,g4⟩:=QH.of D;obtain⟨e0,e1,e2,e3⟩:=Z8.of E;obtain⟨c0,c1,c2,c3,c4⟩:=QH.of (uh m).k1;obtain⟨L,M,N,O⟩:=Z8.of (uh m).k2;have f1:=yJ (uh m).k1;have f2:=yJ (uh m).k2;have n:Bw s s.drew:=(yI _ _).drew;have y:=zb n;have kd0:=(n.block _ (yC.1 D).1).trans D;have kdN:=(n.block _ (yC.1 E).1).trans E;obtain⟨g0',g1',g2',g3',g4'⟩:=QH.of kd0;obtain⟨e0',e1',e2',e3'⟩:=Z8.of kdN;have m1:¬ w3.heap.size=w.heap.size+1:=by have:=uh G;omega
     have m2:¬ w3.heap.size=w.heap.size+1+1:=by have:=uh G;omega
     have m1':¬ w.heap.size+1=w3.heap.size:=by have:=uh G;omega
     have m2':¬ w.heap.size+1+1=w3.heap.size:=by have:=uh G;omega
     clear HWZ n kd0 kdN;go_region_law (fail)
     all_goals (
      have F:=zb ((uh m).next y);have HF:Hid (∀ xs ys:List ω,Bw w (putN (putN s.drew (w.heap.size+1) 0 xs) (w.heap.size+1+1) 0 ys)):=fun xs ys=>Zd (Zd (zh HBZ y) om _ _) om _ _;have HG:Hid (∀ xs ys:List ω,zX (putN (putN s.drew (w.heap.size+1) 0 xs) (w.heap.size+1+1) 0 ys) 0 (ς a3 i.ops.length n3) i.ops):=fun xs ys=>XB (XB (Zh HOZ y) (uh F).k1 dc _ _) ((qi om _ _).trans (uh F).k2) dc _ _;go_wp2;change bodyPost _ _ _ _ _ (putN (putN s (w.heap.size+1) 0 [_,_,_,_,_]) (w.heap.size+1+1) 0 [_,_,_,_]).drew;rw[← WP,← WP];refine bodyPost_ret (Pj (w:=s.drew) rfl _ [_,_,_,_,_] [_,_,_,_] rfl rfl rfl (uh F).k1 (uh F).k2 om rfl rfl rfl underlying67 rfl kr underlying32 rfl kr) rfl ?_;rw[uh HX2];exact⟨_,_,_,rfl,uh T _ (uh HF _ _),uh HG _ _,hrt',uh HF _ _⟩))
structure DV(g h:Nat)(o:ω)(b t:Int)(d:Bs)(rt:ω)(k c q n:Int)(w:Wo):Prop where
 k0:w.heap[g]?=η (χ #[o,ι κ b,.string d,ι κ t,rt] 67 (0,0))
 k1:w.heap[h]?=η (χ #[ι κ k,ι κ c,ι κ q,ι κ n] 32 (0,0))
theorem DV.next{b t:Int}{q:Int}(H:DV g h o b t d rt k c q n w)(hb:Below w w w'):DV g h o b t d rt k c q n w':=
 ⟨(hb.block g (yC.1 H.k0).1).trans H.k0,(hb.block h (yC.1 H.k1).1).trans H.k1⟩
theorem DV.cs{b t:Int}{q:Int}(H:DV g h o b t d rt k c q n w):w.cell? g=η o/\w.cell? ⟨g,1,ν⟩=η (ι κ b)/\w.cell? ⟨g,2,ν⟩=η d/\w.cell? ⟨g,3,ν⟩=η (ι κ t)/\w.cell? ⟨g,4,ν⟩=η rt/\w.cell? h=η (ι κ k)/\w.cell? ⟨h,1,ν⟩=η (ι κ c)/\w.cell? ⟨h,2,ν⟩=η (ι κ q)/\w.cell? ⟨h,3,ν⟩=η (ι κ n):=
 ⟨yG H.k0 0,yG H.k0 1,yG H.k0 2,yG H.k0 3,yG H.k0 4,yG H.k1 0,yG H.k1 1,yG H.k1 2,yG H.k1 3⟩
theorem Zy.putT{cs:Array ω}(hk:w.heap[g]?=η (χ cs T (0,0)))(hT:T≠127)(hS:∀ b,S b->b≠g)(xs:List ω)(o:Nat):∀ {l:List zj} {v:ω},Zy w A S l v->Zy (putN w g o xs) A S l v
 | [],_,h=>h
 | m :: r,v,h=>by
  obtain⟨b,q,t,p,v',bl,jv,h1,h2,h3,h4,h4',h5,h6,h7,h8⟩:=h;have a:b≠g:=fun e=>by
   subst e;rw[hk]at h3;injection h3 with h3;injection h3 with _ h _;exact hT h
  exact⟨b,q,t,p,v',bl,jv,h1,h2,(qi a xs o).trans h3,h4.keep (fun x hx=>qi (hS x (h4' x hx)) xs o),h4',h5,h6,zi.keep (fun k hk=>qi (hS k hk) xs o) (fun _ hk=>hk) _ _ h7,Zy.putT hk hT hS xs o h8⟩
theorem atM_vs (vs : List zj) (m : zj) (p : qa) : ((QN vs m p).vs = vs ∨ (QN vs m p).vs = qF (vs ++ [⟨m.no + 1, p.doc, Zm p.ops⟩])) ∧ ((QN vs m p).pn.ops = p.ops ∨ (QN vs m p).pn.ops = []) := by
  unfold QN
  split
  · exact ⟨.inr rfl, .inr rfl⟩
  · split
    · exact ⟨.inl rfl, .inr rfl⟩
    · split
      · exact ⟨.inl rfl, .inr rfl⟩
      · unfold Xf
        split
        · exact ⟨.inl rfl, .inl rfl⟩
        · exact ⟨.inl rfl, .inr rfl⟩
structure AtC (a : Wg) : Prop where
  len : a.vs.length ≤ 9
  tch : ∀ m ∈ a.vs, m.touched.length ≤ 1048576
  ops : a.pn.ops.length ≤ 1048576
theorem atM_C {vs : List zj} {m : zj} {p : qa} (h8 : vs.length ≤ 8) (hs : JN vs) (hz : p.ops.length ≤ 1048576) : AtC (QN vs m p) := by
  obtain ⟨h1, h3⟩ := atM_vs vs m p
  refine ⟨?_, fun x hx => ?_, by rcases h3 with h | h <;> rw [h] <;> simp [hz]⟩
  · rcases h1 with h | h <;> rw [h]
    · omega
    · simp only [qF, List.length_drop, List.length_append, List.length_singleton]; omega
  · have ht := SX p.ops
    rcases h1 with h | h <;> rw [h] at hx
    · exact (Ns hs hx).1
    · rcases List.mem_append.1 (List.mem_of_mem_drop hx) with hx | hx
      · exact (Ns hs hx).1
      · rw [List.mem_singleton] at hx; subst hx; simp only; omega
theorem zia(s o:ω)(vs:List zj)(p:qa)(bl cl:List Nat)(w:Wo)(h:zw Zf w s vs bl)(ho:zw Qq w o p.ops cl)(hs:JN vs)(hz:YT p.ops)(hd:p.doc.size<=1048576)(hw:qC w)(hg:JE w):
  δ prog 9 #[γ #[s],γ #[o,ι κ p.base,p.doc,ι κ p.tries]] w (Da (Ya vs p) w):=by
 obtain⟨xa,xc,rfl,-,-⟩:=h.form;obtain⟨oa,oc,rfl,-,-⟩:=ho.form;have hA:=AW.new w (ς xa vs.length xc) (ς oa p.ops.length oc) p;have HS:=zb (Di _ vs bl _ (h.below hA.2) hs (hw.up hA.2));have HO:=zb ho;have HW:Hid (∀ wx,Below w w wx->qC wx/\JE wx):=fun wx hx=>⟨hw.up hx,hg.up hx⟩;have HI:Hid (JN vs/\YT p.ops/\p.doc.size<=1048576/\YT p.ops):=⟨hs,hz,hd,hz⟩;clear h ho hs hz hd hw hg;go_in;go_wp2_with fail;generalize ((((w.alloc _).alloc _).alloc _).alloc _).alloc _=wA at *;obtain⟨hA1,hA2⟩:=hA;go_call uh HS as e w1 ⟨b1,hno,hyes⟩;have A:=zb (hA1.next b1);have C:=zb (zh hA2 b1);clear HS b1 hA1 hA2
 cases hok:qM vs with
 | false=>
  obtain rfl:=hno hok;have HX:=zb (Cf (p:=p) hok);obtain⟨c2,⟨p0,p1,p2,p3⟩,⟨v0,v1,v2,v3⟩,f2,f3,f4⟩:=A.ac;clear hok hno hyes;go_wp2;refine bodyPost_ret (Gw rfl (uh A) rfl rfl rfl rfl) rfl ?_;rw[uh HX];exact Gx (a:=VJ) (uh C) (Nat.lt_succ_self _) (zw.nil _ _) (ZQ.nil _) (JY _ _)
 | true=>
  obtain⟨hv,rfl,hch⟩:=hyes hok;obtain⟨k,d,r,hl,h8,I⟩:=Gu hok;have hX:=SY (p:=p) hok I;obtain⟨z,hp,ah,hn0,hn1⟩:=Cq hok;have hnk:0<=vs[k].no/\vs[k].no<=2000000:=by have:=ah k d;exact⟨by omega,by omega⟩
  have hcm:=zhU hok I (Zm p.ops) p.base;obtain⟨F,Y,Z,v⟩:=uh HI;have hB:=atM_C (m:=vs[k]) h8 F v.2;generalize vs[k]=m at *;have ag:=hch;rw[I,QO]at ag;obtain⟨y,q,t,pp,nx,ib,jv,rfl,-,hkb,-,hrr,-,ai,-⟩:=ag;have HRP:=zb (zh5 y m.no m.doc q nx (φ t pp) _ p cl w1 hkb (HO.below (uh C)) v Z (uh HW w1 (uh C)).1);have HCH:=zb hch;have ar:=zb hkb;have HRR:=zb hrr;have HRE:=zb ai;have P:=zb I;have HCM:=zb hcm;have O:=zb hnk;have HBB:=zb hB;have HX:=zb hX;obtain⟨q0,q1,q2,q3⟩:=Z8.of A.k1;clear hno hyes hok hch hkb hrr ai I hcm hnk hB hX hl h8 d hp ah hn0 hn1 F Y Z v;go_wp2_with fail;go_call uh HRP as e w3 ⟨b3,hno,hyes⟩;have M:=zb (A.next b3);have am:=zb (zh (uh C) b3);have D:=zb b3;clear HRP b3 q0 q1 q2 q3 A
  cases hpk:Jj m.no p with
  | false=>
   obtain rfl:=hno hpk;have HY:Hid (Ya vs p=VJ):=by show _=_;rw[uh HX,hpk];rfl
   have U:=zt w3 (χ #[ς ν 0 0,ι κ 0,σ ⟨#[]⟩,ι κ 0,.nilIface] 67);have B:=zb (M.next U);have N:=zb (zh (uh am) U);obtain⟨c2,⟨p0,p1,p2,p3⟩,⟨v0,v1,v2,v3⟩,f2,f3,f4⟩:=B.ac;clear hpk hno hyes U;go_wp2;refine bodyPost_ret (Gw rfl (uh B) rfl rfl rfl rfl) rfl ?_;rw[uh HY];exact Gx (a:=VJ) (uh N) (Nat.lt_succ_self _) (zw.nil _ _) (ZQ.nil _) (JY _ _)
  | true=>
   obtain⟨jd,td,rd,hr1,hr2,rfl,hr3⟩:=hyes hpk;have HY:Hid (Ya vs p=QN vs m p):=by show _=_;rw[uh HX,hpk];rfl
   have V:0<=p.base/\p.base<=m.no/\0<=p.tries/\p.tries<=4:=by
    simp only[Jj,Ε,decide_eq_true_eq]at hpk;exact⟨hpk.1.1.1.1.2,hpk.1.1.1.2,hpk.1.2,hpk.2⟩
   have U:=zt w3 (χ #[ς oa p.ops.length oc,ι κ p.base,p.doc,ι κ p.tries,φ td rd] 67);have kD:=yH w3 (χ #[ς oa p.ops.length oc,ι κ p.base,p.doc,ι κ p.tries,φ td rd] 67);have zD:(w3.alloc (χ #[ς oa p.ops.length oc,ι κ p.base,p.doc,ι κ p.tries,φ td rd] 67)).heap.size=w3.heap.size+1:=by simp
   have R:=zh (uh D) U;have n:=zh (uh am) U;have hS:∀ k,k<w3.heap.size->k<(w3.alloc (χ #[ς oa p.ops.length oc,ι κ p.base,p.doc,ι κ p.tries,φ td rd] 67)).heap.size:=fun k d=>by omega
   have X:Zy (w3.alloc (χ #[ς oa p.ops.length oc,ι κ p.base,p.doc,ι κ p.tries,φ td rd] 67)) (fun _=>True) (fun k=>k<w3.heap.size) vs.reverse y:=
    Zy.up R (fun k d=>d) (fun k d=>yF d D.size) (QO.toG (ye _) (uh HCH))
   have H:=zi.keep (fun k d=>U.block k d) (fun _ d=>d) _ _ hr3;obtain⟨F,Y,Z,v⟩:=uh HI;have G:=HO.below n;have hT:=fun wx (hx:Below w w wx)=>CT _ p.ops cl wx (HO.below hx) Y (uh HW wx hx).1;have HAT:=zb (zh9 (fun k=>k<w3.heap.size) vs vs.reverse m r (uh P) rfl _ _ p td rd cl _ hS X G V.2.2.1 V.2.2.2 (uh HCM)
    (fun wx hx=>zh2 _ vs.reverse m r (uh P) _ _ p td rd jd cl wx (fun k d=>yF (hS k d) hx.size) (Zy.up hx hS (fun _ d=>d) X) (G.below hx) hr1 hr2 (zi.keep (fun k d=>hx.block k (hS k d)) (fun _ d=>d) _ _ H) (uh O).1 (uh O).2 (fun wy hy=>hT wy (zh (zh n hx) hy)))
    (fun wx hx=>zhT _ vs.reverse m r (uh P) _ _ p _ cl wx (Zy.up hx hS (fun _ d=>d) X) (G.below hx) (.inr ⟨_,_,rfl⟩) V.1 (uh O).2 (fun wy hy=>hT wy (zh (zh n hx) hy))
     (fun wy xa ya xb xo xc yb yo yc b hy h1 h2 hm=>zkq _ _ _ _ _ _ _ _ _ b wy (uh HW wy (zh (zh n hx) hy)).1.ml h1 h2 (Nn v.1) (by obtain⟨m,hm,rfl⟩:=hm;exact Ns F (List.mem_reverse.1 hm))))
    (fun wx hx=>AO y m.no m.doc q nx t pp jv _ p.ops 0 (p.tries+1) wx (((zh R hx).block y (yC.1 (uh ar)).1).trans (uh ar)) (uh HRR) ((show zT w1 jv (φ t pp)from uh HRE).next (zh R hx)) (Cg (G.below hx)) v (uh HW wx (zh n hx)).1 (uh HW wx (zh n hx)).2))
   have B:=zb (M.next U);have N:=zb n;have au:=zb kD;have Q:=zb zD;have HGD:=zb M.lt;have HBB2:=zb (uh HBB);clear hno hyes hpk hr1 hr2 hr3 U kD zD R n hS X H F Y Z v G hT V HX HCH ar HRR HRE P HCM O HBB HI HO M am D C HW;generalize QN vs m p=a at *;obtain⟨aw,⟨f,ab,ad,x⟩,ak,ac,aq,an⟩:=a;go_wp2_with fail;generalize w3.alloc _=w4 at *;generalize w3.heap.size=g at *;go_call uh HAT as e w5 ⟨v5,o5,rt,rfl,ch5,op5,hrt,b5⟩;simp only at ch5 op5;obtain⟨K,L,rfl⟩:=Jx op5;obtain⟨av5,rfl⟩:=ch5.ptr;have u:=zt w5 (χ #[ι κ 0,ι κ 0,ι κ 0,ι κ 0] 32);have aa:=yH w5 (χ #[ι κ 0,ι κ 0,ι κ 0,ι κ 0] 32);have h45:=b5.size;have hzD:=uh Q;have hgD:=uh HGD;have J:=(u.block g (by omega)).trans ((b5.block g (by omega)).trans (uh au));obtain⟨wY,i⟩:∃ wY,wY=putN (w5.alloc (χ #[ι κ 0,ι κ 0,ι κ 0,ι κ 0] 32)) g 0 [ς K f.length L,ι κ ab,ad,ι κ x,rt]:=⟨_,rfl⟩;obtain⟨l,j⟩:∃ l,l=putN wY w5 0 [ι κ ak,ι κ ac,ι κ aq,ι κ an]:=⟨_,rfl⟩;have kY0:wY.heap[g]?=η (χ #[ς K f.length L,ι κ ab,ad,ι κ x,rt] 67 (0,0)):=by rw[i];exact Z3 J _ rfl
   have af:wY.heap[w5.heap.size]?=η (χ #[ι κ 0,ι κ 0,ι κ 0,ι κ 0] 32 (0,0)):=by rw[i];exact (qi (by omega) _ _).trans aa
   have HDV:Hid (DV g w5 (ς K f.length L) ab x ad rt ak ac aq an l):=by
    show DV _ _ _ _ _ _ _ _ _ _ _ _
    rw[j];exact⟨(qi (by omega) _ _).trans kY0,Z3 af _ rfl⟩
   have al:Hid (AW w (ς xa vs.length xc) (ς oa p.ops.length oc) p l):=by
    show AW _ _ _ _ _
    rw[j,i];exact ((B.next b5).next u).kp fun k _ d=>(qi (by omega) _ _).trans (qi (by omega) _ _)
   have HOZ:Hid (zX l 0 (ς K f.length L) f):=by
    show zX _ _ _ _
    rw[j];refine XB ?_ af (by decide) _ _;rw[i];exact XB (Zh op5 u) J (by decide) _ _
   have HCZ:Hid (Zy l (fun _=>True) (SN (fun k=>k<g) w4 w5) aw.reverse (.pointer av5)):=by
    show Zy _ _ _ _ _
    rw[j];refine Zy.putT af (by decide) (fun b y=>?_) _ _ ?_
    .rcases y with y | y<;>omega
    .rw[i];refine Zy.putT J (by decide) (fun b y=>?_) _ _ ?_
     .rcases y with y | y<;>omega
     .exact Zy.up u (fun k d=>by rcases d with d | d<;>omega) (fun _ d=>d) ch5
   have HBZ:Hid (Below w w l):=by
    show Below _ _ _
    rw[j,i];exact Zd (Zd (zh (zh (uh N) b5) u) (by omega) _ _) (by omega) _ _
   have hzZ:l.heap.size=w5.heap.size+1:=by rw[j,i,FM,FM];simp
   have HZ5:Hid (w.heap.size+1+1+1+1<g/\g<w5.heap.size/\∀ k,SN (fun k=>k<g) w4 w5 k->k<l.heap.size):=⟨hgD,by omega,fun k d=>by rcases d with d | d<;>omega⟩;rw[i]at j;have HWZ:=zb j;obtain⟨g0,g1,g2,g3,g4⟩:=QH.of ((u.block g (by omega)).trans ((b5.block g (by omega)).trans (uh au)));have fD:=yJ J;obtain⟨e0,e1,e2,e3⟩:=Z8.of aa;have fN:=yJ aa;have nd:¬ g=w5.heap.size:=by omega
   have nd':¬ w5.heap.size=g:=by omega
   have aj:=hrt;have HRT:=zb aj;clear HAT ch5 op5 b5 u aa h45 hzD hgD J j i kY0 af hzZ aj B N au Q HGD;rcases hrt with rfl |⟨t3,p3,rfl⟩
   all_goals (
    go_wp2_with fail;change Code.wp _ _ _ _ (putN (putN (w5.alloc _) g 0 [_,_,_,_,_]) w5 0 [_,_,_,_]);rw[← uh HWZ]
    first | generalize Value.iface t3 p3=rt at * | generalize Value.nilIface=rt at *
    clear g0 g1 g2 g3 g4 e0 e1 e2 e3 fD fN nd nd' HWZ;generalize w5.heap.size=gN at *;have E:Below l l l.drew:=(yI _ _).drew;have hz5:=uh HZ5;have W:=uh HBB2;have av:=zb (zfP _ aw.reverse _ l.drew (Zy.up E hz5.2.2 (fun _ d=>d) (uh HCZ)) (by have:=W.len;simp only[Β]at *;omega) (fun m hm=>by have:=W.tch m (List.mem_reverse.1 hm);omega));rw[List.reverse_reverse]at av;have HT2:Hid (∀ wx,Below l l wx->δ prog 31 _ wx _):=fun wx hx=>AN _ f 0 ab x ad _ wx (Zh (uh HOZ) hx) (by have:=W.ops;simp only at this;omega) (uh HRT);have ao:=zb (fun wx (hx:Below l l wx)=>(HDV.next hx).cs);have S0:=zb (uh ao _ E);have d1':¬ w.heap.size+1+1=g:=by omega
    have d2':¬ w.heap.size+1+1+1=g:=by omega
    have d3':¬ w.heap.size+1+1+1+1=g:=by omega
    have Q:=zb ((al.next E).lt);have HDR:=zb E;have n1':¬ w.heap.size+1+1=gN:=by omega
    have n2':¬ w.heap.size+1+1+1=gN:=by omega
    have n3':¬ w.heap.size+1+1+1+1=gN:=by omega
    clear hz5 W E HCZ HOZ;go_region_held3 (fun w'=>w'.cell? g=η (ς K f.length L)/\w'.cell? ⟨g,1,ν⟩=η (ι κ ab)/\w'.cell? ⟨g,2,ν⟩=η ad/\w'.cell? ⟨g,3,ν⟩=η (ι κ x)/\w'.cell? ⟨g,4,ν⟩=η rt/\w'.cell? gN=η (ι κ ak)/\w'.cell? ⟨gN,1,ν⟩=η (ι κ ac)/\w'.cell? ⟨gN,2,ν⟩=η (ι κ aq)/\w'.cell? ⟨gN,3,ν⟩=η (ι κ an))
     (first | with_reducible exact uh S7 | with_reducible exact uh S6 | with_reducible exact uh S0 |(simp only[QY n1',QY n2',QY n3',QY d1',QY d2',QY d3'];with_reducible exact uh S7))
     (first
     |(
       go_simp;refine HT3.mono ?_;rintro e w7 ⟨v7,rfl,o7,b7⟩;obtain⟨a7,n7,rfl⟩:=Jx o7;have T:=zh S b7;have hA7:=al.next T;obtain⟨c2,⟨p0,p1,p2,p3⟩,⟨v0,v1,v2,v3⟩,f2,f3,f4⟩:=hA7.ac;have S7:=zb (uh ao w7 T))
     |(
       go_simp;refine av.mono ?_;rintro e w6 ⟨v6,bl6,rfl,o6,f6,b6⟩;obtain⟨a6,n6,rfl,-,-⟩:=o6.form;have S:Below l l w6:=⟨b6.os,b6.tape,b6.output,b6.size,b6.block⟩;have S6:=zb (uh ao w6 S);have HT3:=zb (uh HT2 w6 S)))
    all_goals (
     have HA7:=zb hA7;have HO7:=zb o7;have HB7:=zb (zh (uh HBZ) T);have HV7:=zb (o6.below b7);have HF7:=zb f6;have HS7:=zb b6.size;clear hA7 o7 T b7 o6 f6 b6 S av HT2 HT3 HDV al HBZ;go_wp2;refine bodyPost_ret (Gw rfl (uh HA7) rfl rfl rfl rfl) rfl ?_;rw[uh HY];exact Gx (a:=⟨aw,⟨f,ab,ad,x⟩,ak,ac,aq,an⟩) (uh HB7) (uh Q) (uh HV7) (uh HF7) (qH (uh HO7) (uh HS7))))
theorem zib(ms:List zk):tl (Zm ms)=ZN ms:=by unfold tl Zm;rw[List.map_map];exact List.map_id' _
theorem zic(va vb:ω)(xs:List (List UInt8))(B C:Nat)(w:Wo)(ha:OT w B va xs)(hb:OT w C vb xs)(hl:xs.length<=1000000):
  δ prog 12 #[va,vb] w fun e w'=>e=ε (θ ξ)/\Below w w w':=by
 have a:=zb (zbs va vb xs xs B C w ha hb hl hl);rw[yj rfl]at a;clear ha hb hl;go_in;go_wp2_with fail;go_call a as e w1 ⟨rfl,b1⟩;clear a;go_wp2;go_ret;exact⟨rfl,b1⟩
theorem zid(xa:Option Addr)(xb xo xc:Nat)(l:List UInt8)(w:Wo)(hw:qC w)(hg:JE w)(h:BS w xa xb xo l)(hc:l.length<=xc):
  δ prog 3 #[ς xa l.length xc] w fun e w'=>e=ε (θ ξ)/\Below w w w':=by
 by_cases hl:l.length<=1048576
 .have tl:((1048576:Int)<(l.length:Int))=False:=yR om;have L:=zb fun wx (hx:BS wx xa xb xo l)=>zfM xa xb xo xc l wx hx hl hc;have HD1:=zb (L w h);obtain⟨h1,h2⟩:=zfL (l.take 1200);have HW:=zb hw;have HG:=zb hg;have HH:=zb h;clear h hc hl hw hg;generalize UN (l.take 1200)=D at *;obtain⟨vs,s⟩:=D;simp only at h1 h2;have u:=zb (And.intro h1 h2);clear h1 h2;go_in;go_wp2_with fail;go_call HD1 as e w1 ⟨sv,bl,rfl,o1,b1⟩;obtain⟨sa,sc,rfl,-,-⟩:=o1.form;have a:=zt w1 (χ #[ς sa vs.length sc] 25);have hK:=yH w1 (χ #[ς sa vs.length sc] 25);have i:=zb (Ct _ vs bl s _ (o1.below a) u.1 u.2);have HR:=zb (And.intro hK (o1.below a));have o:=zb (And.intro ((qC.up HW b1).up a) (And.intro ((JE.up HG b1).up a) (And.intro ((BS.below HH b1).below a) (zh b1 a))));have x:=zb (zhY (vs:=vs) (s:=s));have y:=zb (zhZ (vs:=vs) (s:=s));obtain⟨P,hP⟩:∃ P,Z4 vs s=P:=⟨_,rfl⟩;rw[hP]at i x y;have HP:=zb hP;have c3:=Zw hK;clear HD1 o1 b1 a hK HW HG HH hP;go_wp2_with fail;generalize w1.alloc _=w2 at *;generalize w1.heap.size=g3 at *;go_call i as e w3 ⟨v3,rfl,q3,b3⟩;obtain⟨qa3,qn3,rfl⟩:=Jx q3;have a:=YB w3 (χ #[ς qa3 P.ops.length qn3,ι κ P.base,P.doc,ι κ 0] 30) (χ #[ι κ P.kind,ι κ P.code,ι κ P.pos,ι κ 0] 32);have b:=zh b3 a.bel;have Q:Hid (YQ w xa xb xo l g3 w3.heap.size (ς sa vs.length sc) (ς qa3 P.ops.length qn3) vs ⟨P.ops,P.base,P.doc,0⟩ bl _ _):=⟨(b.block _ (yC.1 HR.1).1).trans HR.1,a.k0,HR.2.below b,q3.orow.1.below a.bel,o.1.up b,o.2.1.up b,o.2.2.1.below b,zh o.2.2.2 b⟩;have K6:=zb a.k1;have HD2:=zb (L _ Q.bs);clear i HR o q3 b3 a b c3 L;go_wp2_with fail;generalize (w3.alloc _).alloc _=w4 at *;generalize w3.heap.size+1=g6 at *;generalize w3.heap.size=g5 at *;go_call HD2 as e w5 ⟨v5,bl5,rfl,o5,b5⟩;obtain⟨a5,n5,rfl,-,-⟩:=o5.form;have a:=zt w5 (χ #[ς a5 vs.length n5] 25);have hK:=yH w5 (χ #[ς a5 vs.length n5] 25);have b:=zh b5 a;have A:=zb (YQ.next Q b);have W:=zb ((b.block g6 (yC.1 K6).1).trans K6);have i:=zb (zh1 _ vs bl5 s _ (o5.below a) u.1 (yQ u.2 dc) A.rd A.ty);rw[uh HP]at i;have HR:=zb (And.intro hK (o5.below a));have c7:=Zw hK;clear HD2 Q K6 o5 b5 a b hK;go_wp2_with fail;generalize w5.alloc _=w6 at *;generalize w5.heap.size=g7 at *;go_call i as e w7 ⟨v7,rfl,q7,b7⟩;obtain⟨qa7,qn7,rfl⟩:=Jx q7;have a:=YB w7 (χ #[ς qa7 P.ops.length qn7,ι κ P.base,P.doc,ι κ 0] 30) (χ #[ι κ P.kind,ι κ P.code,ι κ P.pos,ι κ 0] 32);have b:=zh b7 a.bel;have f:=zb (YQ.next A b);have X:=zb ((b.block g6 (yC.1 W).1).trans W);have HN:Hid (YQ w xa xb xo l g7 w7.heap.size (ς a5 vs.length n5) (ς qa7 P.ops.length qn7) vs ⟨P.ops,P.base,P.doc,0⟩ bl5 _ _):=⟨(b.block _ (yC.1 HR.1).1).trans HR.1,a.k0,HR.2.below b,q7.orow.1.below a.bel,f.rd,f.ty,f.bs,f.bel⟩;obtain⟨d0,-,-,-⟩:=YD X;obtain⟨e0,-,-,-⟩:=YD a.k1;obtain⟨f0,-,-,-⟩:=YD a.k0;clear i HR A W q7 b7 a b c7;by_cases hk:P.kind=1
  .obtain⟨k,hkl,d,p⟩:=x hk;obtain rfl:=HP.symm.trans p.bg;have HAP:=zb p.ap;have HDC:=p.dc;have HAT:=zb p.at';have HOK:=zb p.ok;have HNO:=p.no;have HSZ:=zb (p.sz u.1);have hdk:=(u.1 k hkl).1;have hdz:=p.dz;have N:=zb (Xb s);have HDW:=zb fun wx hx=>CQ s wx hx (yQ u.2 dc);have HLW:=zb (AQ _ vs bl k _ f.r3 hkl p.len p.l8);have H1:=zb u.1;clear x y HP p u hk;generalize vs[k]=m at *;generalize ZL s=D at *;obtain⟨O,c,z⟩:=D;simp only at *;subst HDC;obtain⟨k2,hk2,l2,h82,r⟩:=zhV vs ⟨m.no+1,d,Zm O⟩;generalize qF (vs++[⟨m.no+1,d,Zm O⟩])=ws at *;have n:=zb fun wx v bl h=>AQ v ws bl k2 wx h hk2 l2 h82;rw[r]at n;clear r l2 h82;have hw1:IntKind.i64.wrap (m.no+1)=m.no+1:=by rw[Ζ];omega
   have c3:=Zw f.k3;go_wp2_with fail;generalize (w7.alloc _).alloc _=w8 at *;generalize w7.heap.size+1=g10 at *;generalize w7.heap.size=g9 at *;go_call HLW as e wa ⟨ta,tc,rfl,-,ba⟩;have hb:=ZO wa (χ #[ι κ m.no,m.doc,ς ta m.touched.length tc] 37);have HSa:=zb ((YQ.next f ba).next hb);have g:=zb ((YQ.next HN ba).next hb);have KV:=zb (yH wa (χ #[ι κ m.no,m.doc,ς ta m.touched.length tc] 37));have M:=zb (zia _ _ vs ⟨O,m.no,d,0⟩ bl5 _ _ g.r3 g.r4 H1 N (by simp only;omega) g.rd g.ty);rw[uh HAT]at M;have c0:=Zw g.k3;obtain⟨f0,f1,f2,f3⟩:=YD g.k4;clear HLW f HN ba hb HAT H1 d0 e0 X c3;go_wp2_with fail;generalize wa.alloc _=wb at *;generalize wa.heap.size=gv at *;go_call M as e wc ⟨v8,vo8,bl8,rfl,o8,-,q8,b8⟩;obtain⟨a8,n8,rfl,-,-⟩:=o8.form;obtain⟨qa8,qn8,rfl⟩:=Jx q8;have a:=Kf wc (χ #[ς a8 ws.length n8] 25) (χ #[ς qa8 Jc.ops.length qn8,ι κ Jc.base,Jc.doc,ι κ Jc.tries] 30) (χ #[ι κ 2,ι κ 0,ι κ 0,ι κ (m.no+1)] 32);have b:=zh b8 a.bel;have HSb:=zb (YQ.next HSa b);have aa:=zb ((b.block gv (yC.1 KV).1).trans KV);have HX:=zb (And.intro a.k0 (o8.below a.bel));have KW:=zb a.k2;have HL2:=zb (n _ _ _ (o8.below a.bel));have c8:=Zw a.k0;clear M HSa g KV o8 q8 b8 a b c0 f0 f1 f2 f3 n;go_wp2_with fail;generalize ((wc.alloc _).alloc _).alloc _=wd at *;generalize wc.heap.size+1+1=gw at *;generalize wc.heap.size=gx at *;go_call HL2 as e we ⟨ta2,tc2,rfl,t9,b9⟩;have hb:=ZO we (χ #[ι κ (m.no+1),d,ς ta2 (Zm O).length tc2] 37);have b:=zh b9 hb;have S:=zb (YQ.next HSb b);have H:=zb ((b.block gv (yC.1 aa).1).trans aa);have KWc:=(b.block gw (yC.1 KW).1).trans KW;have E:=zb (And.intro ((b.block gx (yC.1 HX.1).1).trans HX.1) (HX.2.below b));have KH:=zb (yH we (χ #[ι κ (m.no+1),d,ς ta2 (Zm O).length tc2] 37));have HT:=zb (Zh t9 hb);have HQ:=zb (HDW _ S.rd);obtain⟨x0,x1,-⟩:=JS H;obtain⟨y0,-,-,y3⟩:=YD KWc;obtain⟨z0,-,-⟩:=JS KH;clear HL2 HSb aa KW KWc b9 t9 hb b c8 HX HDW;go_wp2_with fail;generalize we.alloc _=wf at *;generalize we.heap.size=gh at *;go_call HQ as e wg ⟨v10,rfl,q10,b10⟩;obtain⟨qa10,qn10,rfl⟩:=Jx q10;have B:=zb (YQ.next S b10);have HR:=zb q10.orow.1;have J:=zb (zhM m.doc _ O _ wg q10.orow.1 N hdk B.rd B.ty);rw[uh HAP]at J;have I:=(b10.block gv (yC.1 H).1).trans H;have F:=zb (And.intro ((b10.block gx (yC.1 E.1).1).trans E.1) (E.2.below b10));have Z:=zb ((b10.block gh (yC.1 KH).1).trans KH);have HTd:=zb (Zh HT b10);obtain⟨x0,x1,-⟩:=JS I;clear HQ S H KH q10 b10 E HT HAP y0 y3 z0;go_wp2_with fail;go_call J as e wh ⟨rfl,b11⟩;have T:=zb (YQ.next B b11);have ab:=zb ((b11.block gv (yC.1 I).1).trans I);have G:=zb (And.intro ((b11.block gx (yC.1 F.1).1).trans F.1) (F.2.below b11));obtain⟨-,z1,z2⟩:=JS ((b11.block gh (yC.1 Z).1).trans Z);have q:Below wh wh wh.drew:=(yI _ _).drew;have HTC:=zb (CT _ O _ wh.drew ((HR.below b11).below q) N (T.rd.up q));have U:=zb (Zh (Zh HTd b11) q);rw[zib]at U;clear J B I F Z HTd b11 x0 x1 HR;have hlz:(ZN O).length<=1000000:=by have:=SX O;unfold Zm at this;rw[yl]at this;omega
   have Y:Hid (∀ w',Below wh wh w'->w'.cell? ⟨gh,1,ν⟩=η (.string d)/\w'.cell? ⟨gh,2,ν⟩=η (ς ta2 (Zm O).length tc2)):=fun w' hx=>⟨(hx.cell (yK _ _ z1)).trans z1,(hx.cell (yK _ _ z2)).trans z2⟩;go_upto_region 18 with fail;go_region_held3 (fun w'=>w'.cell? ⟨gh,1,ν⟩=η (.string d)/\w'.cell? ⟨gh,2,ν⟩=η (ς ta2 (Zm O).length tc2)) (first | exact⟨z1,z2⟩ | exact KA | exact KB) (first
    |(
      go_simp;go_call zic _ _ (ZN O) _ _ wi HTf HRf hlz as e wj ⟨rfl,bj⟩;have j:=zb (zh K bj);have KB:=zb (Y wj j);clear bj KA K)
    |(
      go_simp;go_call HTC as e wi ⟨ra,rfl,oa,bi⟩;have HTf:=zb (Zh U bi);have HRf:=zb oa;have K:=zb (zh q bi);have KA:=zb (Y wi K);clear bi oa HTC))
   have C:=zb (YQ.next T j);have V:=zb (And.intro ((j.block gx (yC.1 G.1).1).trans G.1) (G.2.below j));obtain⟨x0,-,-⟩:=JS ((j.block gv (yC.1 ab).1).trans ab);clear T G ab q z1 z2 Y KB j U HTf HRf;by_cases hm:(1000000:Int)<=m.no
   .have hmT:=eq_true hm;have i:=zb C.bel;go_wp2;go_ret;exact⟨rfl,i⟩
   .have hmF:=yR hm;have c3:=Zw V.1;have R:=zb (zfx _ ws bl8 _ V.2 HSZ C.rd);rw[uh HOK om]at R;have i:=zb C.bel;clear C V;go_wp2_with fail;go_call R as e wk ⟨rfl,bk⟩;have HC:=zb (zh i bk);clear R bk;go_wp2;go_ret;exact⟨rfl,HC⟩
  .have q1:(P.kind !=1)=ξ:=by rw[bne_iff_ne];exact hk
   have q2:((P.ops.length:Int) ==0)=ξ:=by rw[y hk];rfl
   have i:=zb f.bel;clear x y HN f X u HP hk;go_wp2;go_ret;exact⟨rfl,i⟩
 .have tl:((1048576:Int)<(l.length:Int))=True:=eq_true om;go_in;go_wp2;go_ret;exact⟨rfl,yI _ _⟩
theorem zie(hL:laidMetH prog Rows.fnAloneRow.laid W):AG W:=by
 have h : laidMet Tryz.prog Ph W ∧ handlesMet Tryz.prog [("errors.errorType", Rows.laid_errors_errorType)] W := hL
 exact⟨⟨zhz h.1,zhC h.1,zhA h.1⟩,zhG h.2⟩
theorem zif(xa:Option Addr)(xb xo xc:Nat)(l:List UInt8)(w:Wo)(h:BS w xa xb xo l)(hc:l.length<=xc)(hm:ML w)(hv:AG w):
  δ prog 3 #[ς xa l.length xc] w fun e w'=>e=ε (θ ξ)/\Below w w w':=zid xa xb xo xc l w ⟨Qg.of hv.1.1,hv.1.2.1,hv.1.2.2,hm⟩ hv.2 h hc
