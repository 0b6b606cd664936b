import Derived.Stop.LaidErr
import Derived.PinnedBridge
import Derived.Test.YtgoafoojaceadaaGreatDoorBc19
set_option maxRecDepth 100000
set_option maxHeartbeats 8000000
open Go renaming Calls->δ,Value->ω
open Go.Ending renaming returned->ε
open Go.IntKind renaming i64->κ,wrap_i64->Ε
open Go.Obj renaming cells->χ
open Go.Value renaming agg->γ,bool->θ,iface->φ,int->ι,pointer->π,slice->Η,slice->ς,string->σ,tuple->τ
open Go.World renaming cell?_alloc_lt->Α,frozen?_alloc_old->Γ
open _root_.Bool renaming and_eq_true->Δ,false->ζ,or_false->Ζ,true->ξ
open _root_.List renaming length_reverse->Β
open _root_.Option renaming none->ν,some->η
namespace Go.Proofs.YtgoafoojaceadaaGreatDoor
open Go.RowKit Go.Extern.Stop Go.Stop Go.Extern Go.Proofs.Tryz
variable{t T:TypeId}{w w' W:Wo}{ms:List zk}{q p g B b h:Nat}{v o rp rt:ω}{vs l:List zi}{S S' A:Nat->Prop}{c base i k n:Int}{s d:Bs}{bl:List Nat}{tch:List Bs}{r:JV}
theorem zg7(t:ω)(w:Wo):δ prog 88 #[.nilIface,t] w fun e w'=>e=ε (θ ζ)/\w=w':=by
 go_in;go_wp2;go_ret;exact⟨rfl,rfl⟩
theorem AB(z:Sem ω)(f:TypeId->Addr->Nat->Nat->Sem ω)(v:ω):
  ReflectliteValue.method z f #[v]=(do match ← ReflectliteValue.parts v with | none=>z | some (t,a,fl)=>f t a fl (fl % 32)):=rfl
theorem zg8(v x:ω):ReflectliteValue.set #[v,x]=(do
  let (η (dst,a,fl),η (src,b,_)):=(← ReflectliteValue.parts v,← ReflectliteValue.parts x)
   | unsupported (.noEntry "extern/(internal/reflectlite.Value).Set.zeroValue")
  if fl / ReflectliteValue.flagAddr % 2 == 0 then unsupported (.noEntry "extern/(internal/reflectlite.Value).Set.unaddressable")
  let val ← loadVar src b
  if ← Rtype.directlyAssignable dst src then storeVar dst a val
  else if ← Rtype.implements dst src then
   if (← Rtype.kind src) ==20 then
    match val with
    | .nilIface => unsupported (.noEntry "extern/reflectlite: a nil value of one interface type handed on as a value of another")
    | _=>storeVar dst a val
   else storeVar dst a (φ src val)
  else panicString ("reflectlite.Set: value of type " ++ (← Rtype.spelt src) ++ " is not assignable to type " ++ (← Rtype.spelt dst))
  pure (.tuple #[])):=rfl
theorem zg9 (h :ω) (w : World) : (Go.method 503 267 (γ #[h]) "Kind").run Tryz.prog w = .ok (313, h) w := by kernel_rfl
theorem zha (h :ω) (w : World) : (Go.method 503 267 (γ #[h]) "Elem").run Tryz.prog w = .ok (340, γ #[h]) w := by kernel_rfl
theorem zhb (h :ω) (w : World) : (Go.method 503 267 (γ #[h]) "Implements").run Tryz.prog w = .ok (341, γ #[h]) w := by kernel_rfl
theorem zhc (h :ω) (w : World) : (Go.method 503 267 (γ #[h]) "AssignableTo").run Tryz.prog w = .ok (338, γ #[h]) w := by kernel_rfl
def QP(q p:Nat):Prop:=q=169/\p=162∨q=170/\p=165
structure AsF(q p:Nat):Prop where
 fTy : ∀ (a : Addr) (w : World), (ReflectliteValue.methodAny (ReflectliteValue.valueError "reflectlite.Value.Type" 0) (fun t _ _ _ => ReflectliteType.toType t) #[γ #[π (η ⟨9, q, ν⟩), π (η a), .int .u64 150]]).run Tryz.prog w = .ok (φ 267 (γ #[π (η ⟨9, q, ν⟩)])) w
 fKq:∀ w:Wo,((ReflectliteType.abiMethod fun t=>(fun a:Nat=>Value.int IntKind.u8 (a:Int)) <$> Rtype.kind t) #[π (η ⟨9,q,ν⟩)]).run prog w= .ok (.int .u8 22) w
 fKp:∀ w:Wo,((ReflectliteType.abiMethod fun t=>(fun a:Nat=>Value.int IntKind.u8 (a:Int)) <$> Rtype.kind t) #[π (η ⟨9,p,ν⟩)]).run prog w= .ok (.int .u8 22) w
 fEl:∀ w:Wo,(ReflectliteType.method ReflectliteType.elem #[γ #[π (η ⟨9,q,ν⟩)]]).run prog w= .ok (φ 267 (γ #[π (η ⟨9,p,ν⟩)])) w
 fIm : ∀ w : World, (ReflectliteType.relation "Implements" ReflectliteType.implements_ #[γ #[π (η ⟨9, p, ν⟩)], φ 267 (γ #[π (η ⟨9, 86, ν⟩)])]).run Tryz.prog w = .ok (θ ξ) w
 fAs : ∀ w : World, (ReflectliteType.relation "AssignableTo" ReflectliteType.assignableTo #[γ #[π (η ⟨9, p, ν⟩)], φ 267 (γ #[π (η ⟨9, p, ν⟩)])]).run Tryz.prog w = .ok (θ ξ) w
 fEo:∀ w:Wo,(Rtype.elem? q).run prog w= .ok (η p) w
 fMk:∀ (a:Addr) (w:Wo),(ReflectliteValue.mk p a ReflectliteValue.flagAddr).run prog w= .ok (γ #[π (η ⟨9,p,ν⟩),π (η a),.int .u64 406]) w
 fPa:∀ (a:Addr) (w:Wo),(ReflectliteValue.parts (γ #[π (η ⟨9,p,ν⟩),π (η a),.int .u64 406])).run prog w= .ok (η (p,a,406)) w
 fDi:∀ w:Wo,(Rtype.directlyAssignable p p).run prog w= .ok ξ w
 fVo:∀ (a:Addr) (w:Wo) (t:Nat),t=q∨t=p->(ReflectliteValue.unpack (φ t (π (η a)))).run prog w= .ok (γ #[π (η ⟨9,t,ν⟩),π (η ⟨w.heap.size,0,ν⟩),.int .u64 150]) (w.alloc (χ #[π (η a)] t))
 fPt:∀ (a:Addr) (w:Wo) (t:Nat),t=q∨t=p->(ReflectliteValue.parts (γ #[π (η ⟨9,t,ν⟩),π (η a),.int .u64 150])).run prog w= .ok (η (t,a,150)) w
theorem VW(h:QP q p):AsF q p:=by
 rcases h with ⟨rfl,rfl⟩ |⟨rfl,rfl⟩<;>exact⟨by intros;kernel_rfl,by intros;kernel_rfl,by intros;kernel_rfl,by intros;kernel_rfl,by intros;kernel_rfl,by intros;kernel_rfl,by intros;kernel_rfl,by intros;kernel_rfl,by intros;kernel_rfl,by intros;kernel_rfl,by rintro a w t (rfl | rfl)<;>kernel_rfl,by rintro a w t (rfl | rfl)<;>kernel_rfl⟩
theorem nlQ(h:QP q p)(a t:Addr)(W:Wo)(ha:W.cell? a=η (π (η t))):
  (ReflectliteValue.method (ReflectliteValue.valueError "reflectlite.Value.IsNil" 0) ReflectliteValue.isNil #[γ #[π (η ⟨9, q, ν⟩), π (η a), .int .u64 150]]).run Tryz.prog W = .ok (θ ζ) W := by
 rw[AB];simp only[Sem.run_bind,(VW h).fPt _ _ q (.inl rfl),Result.andThen];rcases h with ⟨rfl,rfl⟩ |⟨rfl,rfl⟩<;>simp[ReflectliteValue.isNil,loadVar,isAgg,underlying,underlying169,underlying170,ha,Result.andThen]
theorem evQ(h:QP q p)(a t:Addr)(W:Wo)(ha:W.cell? a=η (π (η t))):
  (ReflectliteValue.method (ReflectliteValue.valueError "reflectlite.Value.Elem" 0) ReflectliteValue.elem #[γ #[π (η ⟨9, q, ν⟩), π (η a), .int .u64 150]]).run Tryz.prog W = .ok (γ #[π (η ⟨9, p, ν⟩), π (η t), .int .u64 406]) W := by
 have F:=VW h;rw[AB];simp only[Sem.run_bind,F.fPt _ _ q (.inl rfl),Result.andThen];rcases h with ⟨rfl,rfl⟩ |⟨rfl,rfl⟩<;>simp[ReflectliteValue.elem,loadVar,isAgg,underlying,underlying169,underlying170,ha,Result.andThen,F.fEo,F.fMk]
theorem seP(h:QP q p)(ta b e:Addr)(old:ω)(W:Wo)(hb:W.cell? b=η (π (η e)))(ht:W.cell? ta=η old)(hf:W.frozen? ta=ζ):
  (ReflectliteValue.set #[γ #[π (η ⟨9,p,ν⟩),π (η ta),.int .u64 406],γ #[π (η ⟨9,p,ν⟩),π (η b),.int .u64 150]]).run prog W= .ok (.tuple #[]) (W.setCell ta (π (η e))):=by
 have F:=VW h;rw[zg8];simp only[Sem.run_bind,F.fPa,F.fPt _ _ p (.inr rfl),Result.andThen];rcases h with ⟨rfl,rfl⟩ |⟨rfl,rfl⟩<;>(simp[ReflectliteValue.flagAddr,loadVar,isAgg,underlying,underlying162,underlying165,hb,Result.andThen,F.fDi,storeVar,Value.cells,storeCells,Addr.add];rw[run_store prog W ta _ _ (by rfl)];simp[ht,hf])
theorem AC(h:QP q p)(v:ω)(w:Wo):(ReflectliteType.typeOf #[φ p v]).run prog w= .ok (φ 267 (γ #[π (η ⟨9,p,ν⟩)])) w:=by rcases h with ⟨rfl,rfl⟩ |⟨rfl,rfl⟩<;>kernel_rfl
theorem zhh (w : World) : (ReflectliteType.relation "AssignableTo" ReflectliteType.assignableTo #[γ #[π (η ⟨9, 165, ν⟩)], φ 267 (γ #[π (η ⟨9, 162, ν⟩)])]).run Tryz.prog w = .ok (θ ζ) w := by kernel_rfl
theorem zhi(a:Addr)(w:Wo):(Instr.typeAssert (φ 165 (π (η a))) 86 272 ξ).run prog w= .ok (.tuple #[.nilIface,θ ζ]) w:=run_typeAssert_lacksB underlying272 kr kr _ _ w
theorem zhj(a:Addr)(w:Wo):(Instr.typeAssert (φ 165 (π (η a))) 86 275 ξ).run prog w= .ok (.tuple #[φ 165 (π (η a)),θ ξ]) w:=run_typeAssert_hasB underlying275 kr _ _ w
theorem zhk (v :ω) (w : World) : (Go.method 503 165 v "Unwrap").run Tryz.prog w = .ok (319, v) w := by kernel_rfl
def Kc(q p:Nat)(e t:Addr)(w:Wo):Wo:=(((w.alloc (χ #[π (η t)] q)).alloc (χ #[π (η ⟨9,q,ν⟩),π (η ⟨w.heap.size,0,ν⟩),.int .u64 150] 223)).alloc (χ #[π (η ⟨9,q,ν⟩),π (η ⟨w.heap.size,0,ν⟩),.int .u64 150] 223)).alloc (χ #[π (η e)] p)
theorem Lv{a:Addr}(h:w.cell? a=η v):a.block<w.heap.size:=by
 rcases Nat.lt_or_ge a.block w with g | g
 .exact g
 .simp[World.cell?,Array.getElem?_eq_none g]at h
theorem zhl(h:QP q p)(e t:Addr)(x old:ω)(w:Wo)(hx:p=165/\x=φ 165 (π (η e))∨p=162/\∃ o,x=φ 165 (π (η ⟨o,0,ν⟩))/\w.cell? ⟨o,1,ν⟩=η (φ 162 (π (η e))))(hg:w.cell? ⟨0,0,ν⟩=η (φ 267 (γ #[π (η ⟨9,86,ν⟩)])))(ht0:w.cell? t=η old)(hf0:w.frozen? t=ζ):
  δ prog 88 #[x,φ q (π (η t))] w fun ev w'=>ev=ε (θ ξ)/\w'=(Kc q p e t w).setCell t (π (η e)):=by
 have h6:=@run_callFunc_extern prog 136 _ (fun args=>ReflectliteValue.unpack (args.getD 0 (.tuple #[]))) func136 kr kr kr kr
 have h7 := @run_callFunc_extern Tryz.prog 137 _ (ReflectliteValue.methodAny (ReflectliteValue.valueError "reflectlite.Value.Type" 0) (fun t _ _ _ => ReflectliteType.toType t)) Tryz.func137 kr kr kr kr
 have h8 := @run_callFunc_extern Tryz.prog 138 _ (ReflectliteValue.method (ReflectliteValue.valueError "reflectlite.Value.IsNil" 0) ReflectliteValue.isNil) Tryz.func138 kr kr kr kr
 have h27:=@run_callFunc_extern prog 313 _ (ReflectliteType.abiMethod fun t=>do pure (.int .u8 (← Rtype.kind t))) func313 kr kr kr kr;have h37:=@run_callFunc_extern prog 340 _ (ReflectliteType.method ReflectliteType.elem) func340 kr kr kr kr
 have h38 := @run_callFunc_extern Tryz.prog 341 _ (ReflectliteType.relation "Implements" ReflectliteType.implements_) Tryz.func341 kr kr kr kr
 have h10:=@run_callFunc_extern prog 187 _ ReflectliteType.typeOf func187 kr kr kr kr
 have h35 := @run_callFunc_extern Tryz.prog 338 _ (ReflectliteType.relation "AssignableTo" ReflectliteType.assignableTo) Tryz.func338 kr kr kr kr
 have h11 := @run_callFunc_extern Tryz.prog 188 _ (ReflectliteValue.method (ReflectliteValue.valueError "reflectlite.Value.Elem" 0) ReflectliteValue.elem) Tryz.func188 kr kr kr kr
 have h12:=@run_callFunc_extern prog 189 _ ReflectliteValue.set func189 kr kr kr kr;have tO:=AC h;have mA:=zhc;have a25:=(VW h).fAs;have v25:=fun a w=>(VW h).fVo a w p (.inr rfl);have f6:=fun a w=>(VW h).fVo a w q (.inl rfl);have f7:=(VW h).fTy;have mK:=zg9;have mE:=zha;have mI:=zhb;have k27:=(VW h).fKq;have k25:=(VW h).fKp;have e27:=(VW h).fEl;have i25:=(VW h).fIm;have n8:=nlQ h ⟨w,0,ν⟩ t ((w.alloc (χ #[π (η t)] q)).alloc (χ #[π (η ⟨9,q,ν⟩),π (η ⟨w,0,ν⟩),.int .u64 150] 223)) sm;have hlt:=Lv hg;have hg2:((w.alloc (χ #[π (η t)] q)).alloc (χ #[π (η ⟨9,q,ν⟩),π (η ⟨w,0,ν⟩),.int .u64 150] 223)).cell? ⟨0,0,ν⟩=η (φ 267 (γ #[π (η ⟨9,86,ν⟩)])):=by
  rw[Α _ _ ⟨0,0,ν⟩ (by first |(simp;done) |(simp;omega)),Α _ _ ⟨0,0,ν⟩ hlt];exact hg
 have htl:=Lv ht0;have el:=evQ h ⟨w,0,ν⟩ t (((w.alloc (χ #[π (η t)] q)).alloc (χ #[π (η ⟨9,q,ν⟩),π (η ⟨w,0,ν⟩),.int .u64 150] 223)).alloc (χ #[π (η ⟨9,q,ν⟩),π (η ⟨w,0,ν⟩),.int .u64 150] 223)) (by rw[Α _ _ ⟨w,0,ν⟩ so];simp);have st:=seP h t ⟨w.heap.size+1+1+1,0,ν⟩ e old (Kc q p e t w)
  (by unfold Kc;rw[World.cell?_alloc_at _ _ _ _ sm];rfl)
  (by unfold Kc;rw[Α _ _ t so,Α _ _ t so,Α _ _ t so,Α _ _ t htl];exact ht0)
  (by unfold Kc;rw[Γ _ _ t so,Γ _ _ t so,Γ _ _ t so,Γ _ _ t (Nat.ne_of_lt htl)];exact hf0)
 unfold Kc at st ⊢;rcases h with ⟨rfl,rfl⟩ |⟨rfl,rfl⟩<;>rcases hx with ⟨hp,rfl⟩ |⟨hp,o,rfl,ho⟩<;>first | cases hp | clear hp
 .have hol:o<w.heap.size:=Lv ho;have ho3:(((w.alloc (χ #[π (η t)] 169)).alloc (χ #[π (η ⟨9,169,ν⟩),π (η ⟨w,0,ν⟩),.int .u64 150] 223)).alloc (χ #[π (η ⟨9,169,ν⟩),π (η ⟨w,0,ν⟩),.int .u64 150] 223)).cell? ⟨o,1,ν⟩=η (φ 162 (π (η e))):=by
   rw[Α _ _ ⟨o,1,ν⟩ so,Α _ _ ⟨o,1,ν⟩ so,Α _ _ ⟨o,1,ν⟩ hol];exact ho
  have tO2:=AC (.inr ⟨rfl,rfl⟩);have aNo:=zhh;have tA:=zhi ⟨o,0,ν⟩;have tU:=zhj ⟨o,0,ν⟩;have mU:=zhk;go_in;go_wp2;refine wp_loop_rounds 2 ?_;rw[rounds_succ];go_wp2;rw[rounds_succ];go_wp2;go_ret;exact⟨rfl,rfl⟩
 .go_in;go_wp2;refine wp_loop_rounds 1 ?_;rw[rounds_succ];go_wp2;go_ret;exact⟨rfl,rfl⟩
open Go.Lib hiding intOf
open Go.Shelf
abbrev Py : List (String × DataW Unit) := [("math/bits.deBruijn32tab", Rows.laid_math_bits_deBruijn32tab), ("math/bits.deBruijn64tab", Rows.laid_math_bits_deBruijn64tab), ("internal/strconv.uint64pow10", Rows.laid_internal_strconv_uint64pow10), ("unicode/utf8.acceptRanges", Rows.laid_unicode_utf8_acceptRanges), ("strconv.ErrRange", Rows.laid_strconv_ErrRange), ("strconv.ErrSyntax", Rows.laid_strconv_ErrSyntax), ("unicode/utf8.first", Rows.laid_unicode_utf8_first)]
theorem zhm(h:laidMet prog Py W):WK W:=by
 refine utf8Tabs_of_readsT ⟨Tryz.laysDecode.t5,Tryz.laysDecode.t119,Tryz.laysDecode.t138,Tryz.laysDecode.t139⟩ ⟨kr,kr,kr,kr,kr,kr,kr⟩ ?_ ?_
 .have a:=Lib.laidMet.reads h (d:=Rows.laid_unicode_utf8_first) (.tail _ (.tail _ (.tail _ (.tail _ (.tail _ (.tail _ (.head _)))))));rw[show Rows.laid_unicode_utf8_first=firstData from Pinned.utf8First_eq]at a;exact a
 .have a:=Lib.laidMet.reads h (d:=Rows.laid_unicode_utf8_acceptRanges) (.tail _ (.tail _ (.tail _ (.head _))));rw[show (Rows.laid_unicode_utf8_acceptRanges:DataW Unit)=acceptData from by kernel_rfl]at a;exact a
theorem AD{n:String}{cs:Array ω}(hg:prog.globalNamed n=η g)(h:W.var? prog n=η cs):g<W.heap.size:=by
 unfold World.var? at h;rw[hg]at h;simp only[yB]at h;rcases Nat.lt_or_ge g W with a | a
 .exact a
 .rw[Array.getElem?_eq_none a]at h;cases h
theorem zhn(h:laidMet prog Py W):JI W W:=by
 have h3 : laidMet Tryz.prog (("internal/strconv.uint64pow10", Lib.tabData .u64 Lib.pow10Tab) :: _) W := h.tail.tail
 have hg : Tryz.prog.globalNamed "internal/strconv.uint64pow10" =η 6 := kr
 have ht:=Lib.tabIs_of_head hg (t:=366) kr underlying366 underlying246 kr kr h3;exact⟨AD hg ht,ht⟩
theorem AE: "*" ++ "errors.errorString" = "*errors.errorString" := by decide
theorem zho (u : TypeId) (h : Tryz.prog.typeName? 3 u =η "*errors.errorString") : u = 357 :=
 typeName_ptr_named (nm := "errors.errorString") (by rw [AE]; kernel_rfl) kr dc u (by rw [AE]; exact h)
theorem zhp(h:laidMet prog Py W):Jj W W:=by
 have h4:=h.tail.tail.tail.tail
 have hg : Tryz.prog.globalNamed "strconv.ErrRange" =η 5 := kr
 obtain⟨a,s,hv,_,_,_⟩:=laid_sentinel h4 hg (ti:=86) kr underlying86 zho underlying357 underlying359 rfl rfl underlying9 kr kr;refine⟨AD hg hv,_,_,World.var?_cell hg hv 0⟩
def Ye(w:Wo):Prop:=w.cell? ⟨0,0,ν⟩=η (φ 267 (γ #[π (η ⟨9,86,ν⟩)]))
theorem Ye.up(h:Ye w)(hb:Below w w w'):Ye w':=(hb.cell (p:=⟨0,0,ν⟩) (yK _ _ h)).trans h
theorem zhq(w:Wo)(o1 o2 o3 o4:Obj)(tb:Nat)(x:ω):w.grownBy ((((w.alloc o1).alloc o2).alloc o3).alloc o4 |>.setCell tb x) (η tb):=by
 have a:w.grownBy ((((w.alloc o1).alloc o2).alloc o3).alloc o4) (η tb):=
  Yn (((((yI w w).alloc (ye _) o1).alloc sm o2).alloc so o3).alloc so o4)
 exact Jp a ((Rz _ 0 tb 0 x))
theorem AF(h:QP q p)(eb tb:Nat)(x:ω)(t0:TypeId)(w:Wo)(hx:p=165/\x=φ 165 (π (η ⟨eb,0,ν⟩))∨p=162/\∃ o,x=φ 165 (π (η ⟨o,0,ν⟩))/\w.cell? ⟨o,1,ν⟩=η (φ 162 (π (η ⟨eb,0,ν⟩))))(hg:Ye w)(ht:w.heap[tb]?=η (χ #[π ν] t0 (0,0))):
  δ prog 88 #[x,φ q tb] w fun e w'=>e=ε (θ ξ)/\w.grownBy w' (η tb)/\w'.cell? tb=η eb:=by
 have b:=Zj ht;have a:=(yC.1 ht).1;go_call zhl h eb tb x (π ν) w hx hg b (by simp[World.frozen?,ht]) as e w' ⟨rfl,rfl⟩;refine⟨rfl,zhq _ _ _ _ _ _ _,?_⟩;refine World.cell?_setCell_same' _ _ _ ?_;unfold Kc;rw[Α _ _ tb so,Α _ _ tb so,Α _ _ tb so,Α _ _ tb a,b];rfl
theorem AG(w:Wo):δ prog 39 #[.nilIface] w fun e w'=>e=ε (τ #[ι κ 0,ι κ 0])/\Below w w w':=by
 have a:=zb zg7;go_in;go_wp2_with fail;go_call uh a _ _ as e w1 ⟨rfl,rfl⟩;go_wp2_with fail;go_call uh a _ _ as e w1 ⟨rfl,rfl⟩;go_wp2;go_ret2;exact⟨rfl,zh (zG _ _) (zG _ _)⟩
theorem AH(i c:Int)(t:TypeId)(p:ω)(w:Wo)(h:FI w i c (φ t p))(hg:Ye w):
  δ prog 39 #[φ t p] w fun e w'=>e=ε (τ #[ι κ c,ι κ i])/\Below w w w':=by
 obtain⟨d,D,m,n,fb,A,u⟩:=h;injection m with m e1';subst m;subst e1';subst A;have g:=zG w (χ #[π ν] 162);have f:=(yC.1 n).1;have o:=(yC.1 u).1;have v:=zb (AF (.inl ⟨rfl,rfl⟩) fb w _ 162 (w.alloc (χ #[π ν] 162)) (.inr ⟨rfl,d,rfl,yG ((g.block d f).trans n) 1⟩) (hg.up g) (yH w _));have x:=zb n;have y:=zb u;have z:=zb hg;have a:=zb g;go_in;go_wp2_with fail;go_call v as e w2 ⟨rfl,g2,c2⟩;have j:=a.trans (Xk g2 (ye _) a.size);have C:w2.cell? ⟨fb,0,ν⟩=η (ι κ c):=(j.cell (p:=⟨fb,0,ν⟩) o).trans (yG y 0);have r:=zh j (zG w2 (χ #[π ν] 165));have k:=zb (AF (.inr ⟨rfl,rfl⟩) d w2 _ 165 (w2.alloc (χ #[π ν] 165)) (.inl ⟨rfl,rfl⟩) (z.up r) (yH w2 _));have b:=zb r;have q:=j.size;go_wp2_with fail;go_call k as e w4 ⟨rfl,g4,c4⟩;have s:=b.trans (Xk g4 q b.size);have B:w4.cell? ⟨d,0,ν⟩=η (ι κ i):=(s.cell (p:=⟨d,0,ν⟩) f).trans (yG x 0);have l:=zb s;go_wp2;go_ret2;exact⟨rfl,l⟩
theorem zhr:((List.range prog.types.size).filter fun t=>prog.rowNamed t [101,114,114,111,114])=[86]:=by kernel_rfl
theorem zhs: (Tryz.prog.cutTypes.find? (·.1 == "internal/reflectlite.rtype")).map (·.2) =η 267 := by kernel_rfl
theorem zht {W : World} (h : handlesMet Tryz.prog [("errors.errorType", Rows.laid_errors_errorType)] W) : Ye W := by
 obtain⟨name,u,ty,e1,e2,e3,e4,e5⟩:=h _ (List.mem_singleton.2 rfl);have en:=(Option.some.inj e1).symm;subst en;obtain rfl:=Option.some.inj (zhs.symm.trans e2);have hm:ty∈(List.range prog.types.size).filter fun t=>prog.rowNamed t [101,114,114,111,114]:=List.mem_filter.2 ⟨List.mem_range.2 e3,e4⟩;rw[zhr]at hm;obtain rfl:=List.mem_singleton.1 hm;have hh:typeHandle prog 86=π (η ⟨9,86,ν⟩):=kr;rw[hh]at e5
 exact World.var?_cell (show Tryz.prog.globalNamed "errors.errorType" =η 0 by kernel_rfl) e5 0
def AJ(w:Wo):Prop:=(WK w/\Jj w.heap.size w/\JI w.heap.size w)/\Ye w
def Yx(v:JV)(ms:List zk):(Int×Int)⊕JV:=if 0<=qk ms then .inl (2,qk ms)else match Qy v (ms.map qC) 0 with
 | .inl ci=>.inl ((ci.1:Int),(ci.2:Int))
 | .inr r=>.inr r
theorem zhu{v:JV}(h:0<=qk ms):Yx v ms= .inl (2,qk ms):=by unfold Yx;rw[yg h]
theorem AK{v:JV}{c i:Nat}(h:¬ 0<=qk ms)(hr:Qy v (ms.map qC) 0= .inl (c,i)):Yx v ms= .inl ((c:Int),(i:Int)):=by unfold Yx;rw[yf h,hr]
theorem zhv{v:JV}(h:¬ 0<=qk ms)(hr:Qy v (ms.map qC) 0= .inr r):Yx v ms= .inr r:=by unfold Yx;rw[yf h,hr]
def Lw(w:Wo)(o:(Int×Int)⊕JV)(e:Ending)(w':Wo):Prop:=Bw w w' /\
 ((∃ c i t p,o= .inl (c,i)/\c≠0/\e=ε (τ #[.nilIface,φ t p])/\FI w' i c (φ t p))∨∃ u t p,o= .inr u/\Z4 u/\e=ε (τ #[φ t p,.nilIface])/\zX w' u (φ t p))
theorem zhw{p:ω}(h:Xt w c (φ t p)):FI (w.alloc (χ #[ι κ i,φ t p] 167)) i c (φ 165 w):=
 ⟨w,_,rfl,yH w _,h.next (zG _ _)⟩
theorem zhx(hEq:FK)(hMv:N9){w1:Wo}{la:Option Addr}{lc:Nat}{qs:List Wp}(hL:UX w1 w (Xs w w1 (ς la qs.length lc)) (ς la qs.length lc) ms qs)(hin:XZ ms)(hok:∀ m∈ms,ZD m=ξ){k:Nat}(hk:k<ms.length){wr:Wo}(hb:Below w1 w1 wr)(hw:qS wr){u:JV}(hu:Z4 u){ty:TypeId}{p:ω}(hr:zX wr u (φ ty p)):
  ∃ lg g fid,la=η ⟨lg,0,ν⟩/\wr.cell? ⟨lg,k,ν⟩=η (π (η ⟨g,0,ν⟩))/\wr.cell? ⟨g,6,ν⟩=η (.func (Fn.func fid) #[] #[])/\(∀ (w:Wo),Sem.run prog (callFunc fid #[φ ty p,π (η ⟨g,0,ν⟩)]) w= .ok (.enter fid #[φ ty p,π (η ⟨g,0,ν⟩)]) w) /\
   δ prog fid #[φ ty p,π (η ⟨g,0,ν⟩)] wr (Zq wr (ZQ u (qC ms[k]))):=by
 have s:=hL.len;have o:=Zl hL.row hb;obtain⟨lg,rfl⟩:∃ g,la=η ⟨g,0,ν⟩:=by
  rcases o.2 with ⟨_,M⟩ |⟨g,y,z,f,_⟩
  .omega
  .injection f with f _ _;exact⟨g,f⟩
 have d:k<qs.length:=om;have cg:wr.cell? ⟨lg,k,ν⟩=η (NQ qs[k]):=by
  rw[o.cellAt k (by simpa using d),List.getElem?_map,yy d];rfl
 have l:=hL.ops k ms[k] qs[k] (yy hk) (yy d);have a:=l.keep (fun j hj=>hb.block j hj.2.1) (fun _ h=>h);obtain⟨v,x,N⟩:=hin ms[k] (yt hk);obtain⟨E,F,n⟩:=Sv (hok ms[k] (yt hk));obtain⟨A,L⟩:=Sy ms[k];obtain⟨pa,I,O,pc,K,J,Q,P,B⟩:=a.toM (fun j hj=>yF hj.2.1 hb.size) v x (YG ms[k]) (fun f=>by
  have q:=(n f).1;rw[(a.val f).1]at q;injection q with q;exact q.symm)
 obtain⟨G,_⟩:=N7 ms[k].path v;obtain⟨H,_⟩:=N7 ms[k].src x;have D:=hu.len;obtain⟨fid,C,i,b⟩:=zgd hEq hMv u (qC ms[k]) wr ty p E F hw hu.t om A (by show (ct (YG ms[k])).length<=_;omega) hr B H G (fun m hm=>by have:=VD hu.t hm;omega);refine⟨lg,qs[k].g,fid,rfl,cg,?_,fun w=>i _ w,b⟩;have r:=a.blk;rw[show wr.cell? ⟨qs[k].g,6,ν⟩=η (Gm ms[k].kind)from yG r 6];exact congrArg η C
theorem AL(hEq:FK)(hMv:N9)(v:JV)(hv:Z4 v)(x:ω)(ms:List zk)(bl:List Nat)(w:Wo)(ty:TypeId)(p:ω)(hrow:zu Qc w x ms bl)(hs:Yj ms)(hw:qS w)(hr:zX w v (φ ty p)):
  δ prog 38 #[φ ty p,x] w (Lw w (Yx v ms)):=by
 have B:=zb (CU x ms bl w hrow hs hw);obtain⟨xa,xc,rfl,h1,hxa⟩:=hrow.form;by_cases b:0<=qk ms
 .have s:=zb (zhu (v:=v) b);have a:=zb b;go_in;go_wp2_with fail;go_call B as e w1 ⟨b1,n,-⟩;obtain⟨t,q,rfl,he⟩:=n a;have HE:Hid (Lw w (Yx v ms) (ε (τ #[.nilIface,φ t q])) w1):=⟨b1,.inl ⟨2,qk ms,t,q,s,dc,rfl,he⟩⟩;go_wp2;go_ret2;exact HE
 .obtain⟨Z,F⟩:=Sw b;have G:=hs.1;have a:=zb b;have U:=zb hr;have C:Hid (Wf v (ms.map qC) 0 v):=⟨rfl,hv⟩;go_in;go_wp2_with fail;go_call B as e w1 ⟨b1,-,hg⟩;obtain⟨lv,qs,rfl,Y⟩:=hg (by have:=uh a;omega);obtain⟨la,lc,rfl⟩:∃ la lc,lv=ς la qs.length lc:=by
   rcases Y.row.2 with ⟨hv,hn⟩ |⟨g,V,cur,hv,_⟩
   .exact⟨ν,0,by rw[hv,hn]⟩
   .exact⟨η g,V,hv⟩
  have H:=Y.len;have Q:Hid (∀ (k:Nat) (A:k<ms.length) (wr:Wo),Below w1 w1 wr->∀ (u:JV),Z4 u->∀ ty p,zX wr u (φ ty p)->∃ lg g f,la=η ⟨lg,0,ν⟩/\wr.cell? ⟨lg,k,ν⟩=η (π (η ⟨g,0,ν⟩))/\wr.cell? ⟨g,6,ν⟩=η (.func (Fn.func f) #[] #[])/\(∀ (w:Wo),Sem.run prog (callFunc f #[φ ty p,π (η ⟨g,0,ν⟩)]) w= .ok (.enter f #[φ ty p,π (η ⟨g,0,ν⟩)]) w) /\
    δ prog f #[φ ty p,π (η ⟨g,0,ν⟩)] wr (Zq wr (ZQ u (qC ms[k])))):=fun k A wr n u hu ty p hr=>zhx hEq hMv Y G F A n (hw.up (zh b1 n)) hu hr
  have R:=zb fun wr (hx:Below w w wr)=>(hw.up hx).pow;have O:Hid (∀ (k:Nat) (A:k<ms.length) (u r:JV),Z4 u->ZQ u (qC ms[k])= .inr r->zw r/\(ct r).length<=10000000):=fun k A u r hu hd=>by
   obtain⟨g1,g2⟩:=Sy ms[k];obtain⟨i1,i2,i3⟩:=G ms[k] (yt A);have hdl:=T6 hu.t hd (N7 ms[k].path i1).2;have hul:=hu.len;refine⟨Fb hu.t g1 hd,?_⟩;have:(ct (qC ms[k]).val).length<=20000:=g2;omega
  have D:=zb (U.next b1);have i:=zb b1;rw[H];go_wp2_with fail;go_loopw [0,7,20] (fun rv ev iv wr=>∃ (k:Nat) (u:JV) (ty:TypeId) (p:ω),k<=ms.length/\iv=ι κ (k:Int)/\ev= .nilIface/\rv=φ ty p/\Wf v (ms.map qC) k u/\zX wr u (φ ty p)/\Below w1 w1 wr) (fun _ _ iv _=>ms.length - (intOf iv).toNat)
  case atStart=>exact⟨0,v,ty,p,yu _,rfl,rfl,rfl,C,D,yI _ _⟩
  case round=>
   obtain⟨k,u,ty,p,A,rfl,rfl,rfl,d,I,n⟩:=hrel;by_cases m:k<ms.length
   .obtain⟨lg,g,f,rfl,q1,q2,hent,y⟩:=uh Q k m wr n u d.2 ty p I;have HC:=zb y;have K:=zb n;have HR:=zb d;have hltI:(k:Int)<(ms.length:Int):=om;have z:k<(ms.map qC).length:=by simpa using m
    have J:(ms.map qC)[k]=qC ms[k]:=sm;go_wp2_with fail;go_call HC as e w2 ⟨b2,⟨c,ev,hd,rfl,hf⟩ |⟨r,t',p',hd,rfl,hr2⟩⟩
    .have s:=zb (AK (by have:=uh a;omega) (T8 HR z (by rw[J];exact hd)));have HF:=zb hf;have L:Hid ((c:Int)≠0):=by have:=Nj hd;show (c:Int)≠0;omega
     obtain⟨fb,rfl,-⟩:=hf;have j:=zb (zh K b2);go_wp2;go_ret2;exact⟨zh (zh i j) (zG _ _),.inl ⟨_,_,_,_,s,L,rfl,zhw HF⟩⟩
    .obtain⟨X,lr⟩:=uh O k m u r (uh HR).2 hd;have E:=zh K b2;have l:=zb (zfo r X.rd X.tw w2 _ t' p' hr2 (fun _ h=>h) (uh R w2 (zh i E)) lr);have HD:Hid (ZQ u (ms.map qC)[k]= .inr r):=by rw[J];exact hd
     have M:=zb X;have S:=zb hr2;have j:=zb E
     cases hlim:YF r with
     | true=>
      have W:=yj ((UK r).1 hlim);rw[W]at l;have P:=zb (T7 HR z HD M hlim);go_wp2_with fail;go_call l as e w3 ⟨rfl,b3⟩;have T:=zb (S.next b3);have o:=zb (zh j b3);go_wp2;go_roundw
      case rel=>exact⟨k+1,r,t',p',om,by go_num,rfl,rfl,P,T,o⟩
      case measure=>simp[intOf];omega
     | false=>
      have W:decide (zJ r<=100/\zn r<=3000/\(ct r).length<=20000)=ζ:=yk fun h=>by rw[(UK r).2 h]at hlim;cases hlim
      rw[W]at l;have s:=zb (AK (by have:=uh a;omega) (Sx HR z HD hlim));go_wp2_with fail;go_call l as e w3 ⟨rfl,b3⟩;have o:=zb (zh j b3);go_wp2;go_ret2;exact⟨zh (zh (zh i o) (zG _ _)) (zG _ _),.inl ⟨_,_,_,_,s,dc,rfl,Dw _ _ _⟩⟩
   .have s:=zb (zhv (by have:=uh a;omega) (T9 d (by simpa using m)));have HT:=zb I;have N:=zb d.2;have K:=zb n;go_wp2;go_ret2;exact⟨zh i K,.inr ⟨u,ty,p,s,N,rfl,HT⟩⟩
theorem AM:FK:=fun a b w ta tb pa pb ga gb la lb ha hb=>zgk a b ga gb la lb w ta tb pa pb ha hb
theorem zhy{c:Nat}(h:Zn s= .inl c):ZR s ms=(⟨#[]⟩,1,0):=by unfold ZR;rw[h]
theorem AN{v:JV}(h:Zn s= .inr v)(ho:Yx v ms= .inl (c,i)):ZR s ms=(⟨#[]⟩,c,i):=by
 unfold Yx at ho;unfold ZR;rw[h];simp only;by_cases a:0<=qk ms
 .rw[yg a]at ho ⊢;injection ho with ho;injection ho with h1 h2;rw[h2,← h1]
 .rw[yf a]at ho ⊢
  cases hr:Qy v (ms.map qC) 0 with
  | inl ci=>
   rw[hr]at ho;injection ho with ho;injection ho with h1 h2;simp only;rw[← h1,← h2]
  | inr r=>rw[hr]at ho;cases ho
theorem AO{v:JV}(h:Zn s= .inr v)(ho:Yx v ms= .inr r):ZR s ms=(ze (ct r),0,0):=by
 unfold Yx at ho;unfold ZR;rw[h];simp only;by_cases a:0<=qk ms
 .rw[yg a]at ho;cases ho
 .rw[yf a]at ho ⊢
  cases hr:Qy v (ms.map qC) 0 with
  | inl ci=>rw[hr]at ho;cases ho
  | inr r'=>
   rw[hr]at ho;injection ho with ho;simp only;rw[ho]
theorem zhz(s:Bs)(x:ω)(ms:List zk)(bl:List Nat)(w:Wo)(hrow:zu Qc w x ms bl)(hs:Yj ms)(hsz:s.size<=1048576)(hw:qS w)(hg:Ye w):
  δ prog 11 #[s,x] w fun e w'=>e=ε (τ #[σ (ZR s ms).1,ι κ (ZR s ms).2.1,ι κ (ZR s ms).2.2])/\Below w w w':=by
 have l:=zb (Cc s w hw.tab hw.err hw.pow om);obtain⟨G,H,rfl,I,F⟩:=hrow.form
 cases hr:Zn s with
 | inl c=>
  have A:=F2 hr;have HR:=zb (zhy (ms:=ms) hr);rw[hr]at l;have m:((c:Int) !=0)=ξ:=so;go_in;go_wp2_with fail;go_call l as e w1 ⟨b1,rfl⟩;have a:=zb b1;go_wp2;go_ret3;exact⟨by rw[uh HR];rfl,a⟩
 | inr v=>
  have z:=Z4.of hr;have HR:=zb hr;rw[hr]at l;have n:Hid (∀ (wx:Wo) (t:TypeId) (p:ω),Below w w wx->zX wx v (φ t p)->δ prog 38 #[φ t p,ς G ms.length H] wx (Lw wx (Yx v ms))):=fun wx t p hx htr=>
   AL AM Et v z _ ms bl wx t p (hrow.below hx) hs (hw.up hx) htr
  have g:Hid (∀ wx,Below w w wx->qS wx/\Ye wx):=fun wx hx=>⟨hw.up hx,hg.up hx⟩;go_in;go_wp2_with fail;go_call l as e w1 ⟨b1,t,p,rfl,rep⟩;have B:=zb (uh n w1 t p b1 (zj.keep (fun _ _=>rfl) (fun k hk=>hk.2) _ _ rep));have a:=zb b1;go_wp2_with fail;go_call B as e w2 ⟨b2,⟨c,i,m,p2,ho,A,rfl,he⟩ |⟨u,m,p2,ho,hu,rfl,htr⟩⟩
  .have b:=zh a b2;have q:=zb (AH i c m p2 w2 he (uh g w2 b).2);have y:=zb (AN HR ho);have d:=zb b;have J:(c !=0)=ξ:=by simpa using A
   go_wp2_with fail;go_call q as e w3 ⟨rfl,b3⟩;have f:=zb (zh d b3);go_wp2;go_ret3;exact⟨by rw[uh y];rfl,f⟩
  .have b:=zh a b2;have q:=zb (AG w2);have y:=zb (AO HR ho);have d:=zb b;have r:=zb hu;have D:=zb htr;go_wp2_with fail;go_call q as e w3 ⟨rfl,b3⟩;have j:=zh d b3;have E:=r.len;have C:=zb (Nm u r.ok r.tw m p2 w3 _ (D.next b3) (fun _ h=>h) (uh g w3 j).1.pow om);have f:=zb j;go_wp2_with fail;go_call C as e w4 ⟨rfl,b4⟩;have o:=zb (zh f b4);go_wp2;go_ret3;exact⟨by rw[uh y];rfl,o⟩
theorem zhA{vs:List ω}{x:zk}(h:Qc.E w vs x bl):∀ u∈vs,u.oneCell'=ξ:=by
 obtain⟨rfl,_⟩:=h;intro u a;simp at a;rcases a with rfl | rfl | rfl | rfl<;>rfl
theorem zhB:(prog.info? Qc.T).map (fun i=>(i.zero,i.size,i.bytes))=η (η (γ #[ι κ 0,ByteArray.empty,ByteArray.empty,ByteArray.empty]),Qc.wd,56):=zbk
theorem zhC{xs:List zk}(h:zu Qc w v xs v.ownBlock.toList)(hB:∀ g,v.ownBlock=η g->B<=g):zT w B v xs:=by
 obtain⟨d,m,l,f,n⟩:=h;have e:d.flatMap (·.1)=xs.flatMap Jv:=by
  have:d.map (·.1)=xs.map Jv:=List.ext_getElem (by simp[m]) fun j h1 h2=>by
   simp only[List.getElem_map];simp only[yl]at h1 h2;exact (l j d[j] xs[j] (yy h1) (yy h2)).1
  rw[List.flatMap_def,List.flatMap_def,this]
 unfold zT;rw[← e];refine⟨f.1,?_⟩;rcases f.2 with k |⟨g,a,b,i,_,r⟩
 .exact .inl k
 .exact .inr ⟨g,a,b,i,hB g (by rw[i];rfl),r⟩
theorem zhD(v:ω)(xs:List zk)(B:Nat)(w:Wo)(h:zT w B v xs)(hm:xs.length<=1048577):
  δ prog 71 #[v] w fun e w'=>∃ v',e=ε v'/\zT w' w v' xs/\Below w w w':=by
 have H:Hid (zu Qc w v xs (v.ownBlock.toList++[])):=by show zu _ _ _ _ _;rw[yT];exact h.orow.1
 go_in;go_wp2_with (at_builtin;refine M8 (e:=Qc) zhA underlying28 zhB rfl dc dc rfl (.const (ς ν 0 0)) (.tmp 3) rfl rfl rfl H om ?_);intro v' w' i f g;have d:=zb i;have a:=zb f;have b:=zb g;go_wp2;go_ret;exact⟨_,rfl,zhC d a,b⟩
def Pz(rt:ω):Prop:=rt= .nilIface∨∃ t p,rt=φ t p
theorem zhE(v:ω)(xs:List zk)(B:Nat)(b t:Int)(d:Bs)(rt:ω)(w:Wo)(h:zT w B v xs)(hm:xs.length<=1048577)(hr:Pz rt):
  δ prog 31 #[γ #[v,ι κ b,d,ι κ t,rt]] w fun e w'=>∃ v',e=ε (γ #[v',ι κ b,d,ι κ t])/\zT w' w v' xs/\Below w w w':=by
 obtain⟨a,g,rfl⟩:=JU h;have q:=zb h;have f:=Us w (χ #[ς a xs.length g,ι κ b,d,ι κ t,rt] 67) (χ #[ς ν 0 0,ι κ 0,σ ⟨#[]⟩,ι κ 0] 30) (χ #[ς a xs.length g,ι κ b,d,ι κ t] 30);have o:=zb f;rcases hr with rfl |⟨F,p,rfl⟩
 all_goals (
  go_in;go_wp2_with fail;generalize ((w.alloc _).alloc _).alloc _=s at *;have f:=uh o;go_call zhD _ xs B s (Zl q f.bel) hm as e w1 ⟨v',rfl,o1,b1⟩;obtain⟨u,m,rfl⟩:=JU o1;have E:=f.size;have r:=b1.size;have l:=(b1.block (w.heap.size+1) om).trans f.k1;have n:=(b1.block (w.heap.size+1+1) om).trans f.k2;obtain⟨c0,c1,c2,c3⟩:=qE.of l;obtain⟨x,y,z,A⟩:=qE.of n;have C:=yJ l;have D:=yJ n;have j:=zb l;have k:=zb o1;have i:=zb (zh f.bel b1);go_wp2;refine bodyPost_ret (results_cell_row rfl _ _ (w.heap.size+1) 30 #[_,_,_,_] (0,0) _ rfl (qG (w:=putN w1 (w.heap.size+1+1) 0 [_]) ((qg om _ _).trans j) [_,_,_,_] rfl) underlying30 rfl kr) rfl ?_;exact⟨_,rfl,qN (US (US k om [_] 0) om [_,_,_,_] 0) om,ZA (ZA i om [_] 0) om [_,_,_,_] 0⟩)
def AP(b:Bg)(tr:Int)(B:Nat)(w:Wo)(e:Ending)(w':Wo):Prop:=∃ v tr' rt,e=ε (τ #[γ #[v,ι κ b.base,σ b.doc,ι κ tr',rt],γ #[ι κ b.kind,ι κ b.code,ι κ b.pos,ι κ 0]])/\tr'=(if b.kind=1 then tr else 0)/\zT w' B v b.ops/\Pz rt/\Bw w w'
structure Uc(b:Nat)(w:Wo):Prop where
 k1:w.heap[b]?=η (χ #[ς ν 0 0,ι κ 0,σ ⟨#[]⟩,ι κ 0,.nilIface] 67 (0,0))
 k2:w.heap[b+1]?=η (χ #[ι κ 0,ι κ 0,ι κ 0,ι κ 0] 32 (0,0))
theorem Uc.next(h:Uc b w)(hb:Below w w w'):Uc b w':=
 ⟨(hb.block b (yC.1 h.k1).1).trans h.k1,(hb.block (b+1) (yC.1 h.k2).1).trans h.k2⟩
def Jd(g:Nat)(a b c d e:ω)(w:Wo):Prop:=w.cell? ⟨g,0,ν⟩=η a/\w.cell? ⟨g,1,ν⟩=η b/\w.cell? ⟨g,2,ν⟩=η c/\w.cell? ⟨g,3,ν⟩=η d/\w.cell? ⟨g,4,ν⟩=η e
theorem Jd.of{a b c d e:ω}(h:w.heap[g]?=η (χ #[a,b,c,d,e] t (0,0))):Jd g a b c d e w:=⟨yG h 0,yG h 1,yG h 2,yG h 3,yG h 4⟩
theorem zhF{v:JV}(h:Zn s= .inr v):(∀ c i,Yx v ms= .inl (c,i)->ZR s ms=(⟨#[]⟩,c,i))/\(∀ r,Yx v ms= .inr r->ZR s ms=(ze (ct r),0,0)):=
 ⟨fun _ _=>AN h,fun _=>AO h⟩
theorem zhG (hb:Nat) (no:Int) (doc:Bs) (q nx:ω) (t:TypeId) (p:ω) (jv:JV) (v:ω) (ms:List zk) (B:Nat) (tr:Int) (w:Wo) (hk:w.heap[hb]?=η (χ #[ι κ no,doc,q,φ t p,nx] 127 (0,0)))
  (hr:Zn doc= .inr jv) (hrep:zX w jv (φ t p)) (ho:zT w B v ms) (hin:Yj ms) (hw:qS w) (hg:Ye w):
  δ prog 70 #[hb,v,ι κ tr] w (AP (Qs no (ZR doc ms) ms) tr B w):=by
 obtain⟨a,k,rfl⟩:=JU ho;have F:=(yC.1 hk).1;have y:=YU w (χ #[ς ν 0 0,ι κ 0,σ ⟨#[]⟩,ι κ 0,.nilIface] 67) (χ #[ι κ 0,ι κ 0,ι κ 0,ι κ 0] 32);have T:Uc w ((w.alloc (χ #[ς ν 0 0,ι κ 0,σ ⟨#[]⟩,ι κ 0,.nilIface] 67)).alloc (χ #[ι κ 0,ι κ 0,ι κ 0,ι κ 0] 32)):=⟨y.k0,y.k1⟩;have kA:=(y.bel.block hb F).trans hk;have c3:=(Va kA).2.2.2.1;have K:Hid (δ _ _ _ ((w.alloc (χ #[ς ν 0 0,ι κ 0,σ ⟨#[]⟩,ι κ 0,.nilIface] 67)).alloc (χ #[ι κ 0,ι κ 0,ι κ 0,ι κ 0] 32)) _):=AL AM Et jv (Z4.of hr) _ ms _ _ t p (ho.orow.1.below y.bel) hin (hw.up y.bel) (hrep.next y.bel);have H:Hid (∀ wx,Below w w wx->qS wx/\Ye wx/\zT wx B (ς a ms.length k) ms):=fun wx hx=>⟨hw.up hx,hg.up hx,Zl ho hx⟩;have HK:=zb fun wx (hx:Below w w wx)=>(hx.block hb F).trans hk;have J:=zb y;have D:=zb fun b (hb:(Η a ms.length k).ownBlock=η b)=>(ho.lt b hb).2;have C:=zb T;have E:=zb (zhF (ms:=ms) hr);go_in;go_wp2_with fail;generalize (w.alloc _).alloc _=wA at *;have hsz:=J.size;go_call K as e w2 ⟨b2,⟨c,i,t2,p2,hap,hc,rfl,he⟩ |⟨u,t2,p2,hap,hu,rfl,htr⟩⟩
 .have n:=zh J.bel b2;have N:=zb (AH i c t2 p2 w2 he (uh H w2 n).2.1);have I:=zb ((uh E).1 c i hap);have s:=zb (C.next b2);have r:=zb n;have tc:(c !=0)=ξ:=by simpa using hc
  have G:=zb hc;go_wp2_with fail;go_call N as e w3 ⟨rfl,b3⟩;have d:=zb (s.next b3);have m:=zb (zh r b3);obtain⟨c0,c1,c2,c3,c4⟩:=Jd.of d.k1;obtain⟨V,W,X,Y⟩:=qE.of d.k2;have f1:=yJ d.k1;have f2:=yJ d.k2;go_wp2;refine bodyPost_ret (WT rfl _ [_,_,_,_,_] [_,_,_,_] rfl rfl d.k1 d.k2 om rfl rfl rfl underlying67 rfl kr underlying32 rfl kr) rfl ?_;rw[uh I];unfold Qs;rw[yf (uh G)];exact⟨_,_,_,rfl,rfl,Yr _ _,.inl rfl,ZA (ZA m om [_,_,_,_,_] 0) om [_,_,_,_] 0⟩
 .have n:=zh J.bel b2;have N:=zb (AG w2);have I:=zb ((uh E).2 u hap);have s:=zb (C.next b2);have r:=zb n;have R:=zb hu;have HT:=zb htr;go_wp2_with fail;go_call N as e w3 ⟨rfl,b3⟩;have x:=zh r b3;have hul:=R.len;have G:=zb fun wx (hx:Below w3 w3 wx)=>Nm u R.ok R.tw t2 p2 wx _ ((HT.next b3).next hx) (fun _ h=>h) (uh H wx (zh x hx)).1.pow om;have d:=zb (s.next b3);have m:=zb x;have c0:=(Va (uh HK w3 x)).1;have o:hb<w3.heap.size:=yK _ _ c0;have kP:=yH w3 (χ #[ς ν 0 0,ι κ 0,σ ⟨#[]⟩,ι κ 0] 30);have Q:Hid (Below w3 w3 (w3.alloc (χ #[ς ν 0 0,ι κ 0,σ ⟨#[]⟩,ι κ 0] 30)).drew):=zh (zG w3 _) (yI _ _).drew;have zP:(w3.alloc (χ #[ς ν 0 0,ι κ 0,σ ⟨#[]⟩,ι κ 0] 30)).drew.heap.size=w3.heap.size+1:=by show (w3.alloc _).heap.size=_;simp
  have O:Hid ((w3.alloc (χ #[ς ν 0 0,ι κ 0,σ ⟨#[]⟩,ι κ 0] 30)).drew.heap[w3.heap.size]?=η (χ #[ς ν 0 0,ι κ 0,σ ⟨#[]⟩,ι κ 0] 30 (0,0))):=kP;have S:=zb zP;have L:=zb (uh G _ Q);have bd:Below w3 w3 w3.drew:=(yI _ _).drew;have M:=zb (uh G w3.drew bd);have e0':=(Q.cell (p:=hb) o).trans c0;go_wp2_with fail;go_region_law (first
   |(
     go_simp;go_call L as e w4 ⟨rfl,b4⟩;have j:=zh Q b4;have Z:=(j.cell (p:=hb) o).trans c0;have kM:=(b4.block w3 (by have:=uh S;omega)).trans O;obtain⟨m0,m1,m2,m3⟩:=qE.of kM;have fM:=yJ kM)
   |(
     go_simp;go_call M as e w4 ⟨rfl,b4⟩;have j:Below w3 w3 w4:=⟨b4.os,b4.tape,b4.output,b4.size,b4.block⟩;have Z:=(j.cell (p:=hb) o).trans c0;have e1:(w4.alloc (χ #[ς ν 0 0,ι κ 0,σ ⟨#[]⟩,ι κ 0] 30)).cell? hb=η (ι κ no):=((zG w4 _).cell (p:=hb) (yF o j.size)).trans Z;have kN:=trivial))
  all_goals first
  |(
    have HN:=zb kN;have U:=(yC.1 d.k2).1;have hN:=zG w4 (χ #[ς a ms.length k,ι κ no,σ (ze (ct u)),ι κ tr] 30);have f:=zb ((d.next j).next hN);have l:=zb (zh (zh m j) hN);obtain⟨c0,c1,c2,c3,c4⟩:=Jd.of f.k1;obtain⟨V,W,X,Y⟩:=qE.of f.k2;have f1:=yJ f.k1;have f2:=yJ f.k2;have P:=zb (uh H _ l).2.2;go_wp2;refine bodyPost_ret (WT rfl _ [_,_,_,_,_] [_,_,_,_] rfl rfl f.k1 f.k2 om rfl rfl rfl underlying67 rfl kr underlying32 rfl kr) rfl ?_;rw[uh I];unfold Qs;rw[yg rfl];have A:∀ g,w.heap.size<=g->∀ b,(Η a ms.length k).ownBlock=η b->b<g:=fun g hg b hb=>by have:=uh D b hb;omega
    exact⟨_,_,_,rfl,rfl,FB (FB P (A _ om) [_,_,_,_,_] 0) (A _ om) [_,_,_,_] 0,.inr ⟨_,_,rfl⟩,ZA (ZA l om [_,_,_,_,_] 0) om [_,_,_,_] 0⟩)
  |(
    have U:w.heap.size+1<w3.heap.size:=(yC.1 d.k2).1;have l:=zb (zh m j);have z:=d.next j;have f:Hid (Uc w (putN w4 w3 0 [ς a ms.length k,ι κ no,σ (ze (ct u)),ι κ tr])):=⟨(qg om _ _).trans z.k1,(qg om _ _).trans z.k2⟩;obtain⟨c0,c1,c2,c3,c4⟩:=Jd.of z.k1;obtain⟨V,W,X,Y⟩:=qE.of z.k2;have f1:=yJ z.k1;have f2:=yJ z.k2;have P:=zb (uh H _ l).2.2;go_wp2;refine bodyPost_ret (WT rfl _ [_,_,_,_,_] [_,_,_,_] rfl rfl f.k1 f.k2 om rfl rfl rfl underlying67 rfl kr underlying32 rfl kr) rfl ?_;rw[uh I];unfold Qs;rw[yg rfl];have A:∀ g,w.heap.size<=g->∀ b,(Η a ms.length k).ownBlock=η b->b<g:=fun g hg b hb=>by have:=uh D b hb;omega
    exact⟨_,_,_,rfl,rfl,FB (FB (FB P (A _ om) [_,_,_,_] 0) (A _ om) [_,_,_,_,_] 0) (A _ om) [_,_,_,_] 0,.inr ⟨_,_,rfl⟩,ZA (ZA (ZA l om [_,_,_,_] 0) om [_,_,_,_,_] 0) om [_,_,_,_] 0⟩)
def Yf(tch:List Bs)(base:Int):Int->List zi->Bool
 | no,[]=>decide (base<no)
 | no,m :: r=>decide (base<no) && (qM tch m.touched || Yf tch base (no - 1) r)
theorem zhH{no:Int}(h:¬ base<no):Yf tch base no l=ζ:=by
 cases l<;>simp[Yf,h]
theorem zhI (S:Nat->Prop) (l:List zi) (m0:zi) (l0:List zi) (hl0:l=m0 :: l0) (v:ω) (o:ω) (p:ZJ) (rt:ω) (bl:List Nat) (w:Wo) (h:Zx w (fun _=>True) S l v) (ho:zu Qc w o p.ops bl) (hrt:Pz rt) (hb0:0<=p.base) (hno:m0.no<=2000000)
  (hT:∀ wx,Below w w wx->δ prog 13 #[o] wx fun e w'=>∃ r,e=ε r/\OT w' wx r (ZW p.ops)/\Below wx wx w')
  (hC:∀ (wx:Wo) (xa ya:Option Addr) (xb xo xc yb yo yc:Nat) (b:List Bs),Below w w wx->SS wx xa xb xo (Zp p.ops)->SS wx ya yb yo b->(∃ m∈l,m.touched=b)->δ prog 17 #[ς xa (Zp p.ops).length xc,ς ya b.length yc] wx fun e w'=>e=ε (θ (qM (Zp p.ops) b))/\Below wx wx w'):
  δ prog 74 #[v,γ #[o,ι κ p.base,p.doc,ι κ p.tries,rt]] w fun e w'=>e=ε (θ (Yf (Zp p.ops) p.base m0.no l))/\Below w w w':=by
 obtain⟨M,N,rfl,-,-⟩:=ho.form;have V:=h;rw[hl0]at V;obtain⟨R,q0,t0,p0,v0,bl0,jv0,rfl,-,L,-⟩:=V;have g:=(yC.1 L).1;have J:=zG w (χ #[ς M p.ops.length N,ι κ p.base,p.doc,ι κ p.tries,rt] 67);have W:=yH w (χ #[ς M p.ops.length N,ι κ p.base,p.doc,ι κ p.tries,rt] 67);have X:(w.alloc (χ #[ς M p.ops.length N,ι κ p.base,p.doc,ι κ p.tries,rt] 67)).heap.size=w.heap.size+1:=sm;have H:=zb (hT _ J);have HH:=zb h;have Z:=zb hC;have n:Hid (∀ wx,Below w w wx->wx.cell? R=η (ι κ m0.no)):=fun wx hx=>yG ((hx.block R g).trans L) 0;have E:=zb W;have I:=zb X;have Q:=zb J;clear h hT hC hl0 L g J W X ho;rcases hrt with rfl |⟨t9,p9,rfl⟩
 all_goals (
  go_in;go_wp2_with fail;generalize w.alloc _=wA at *;go_call H as e w1 ⟨r1,rfl,o1,b1⟩;obtain⟨ta,tg,tc,rfl,O,-⟩:=OT.all o1;have hz:=uh I;have P:=zh Q b1;have c0:=uh n w1 P;have D:Hid (∀ wx,Below w1 w1 wx->wx.cell? ⟨w,1,ν⟩=η (ι κ p.base)):=fun wx hx=>yG ((hx.block w (by have:=b1.size;omega)).trans ((b1.block w om).trans E)) 1;have A:=zb P;have G:=zb O;have K:(ZW p.ops).length=(Zp p.ops).length:=by unfold Zp;simp
  rw[K];go_wp2;go_loopw [6,7] (fun at' nv wr=>∃ (r:List zi) (no:Int),Zx w (fun _=>True) S r at'/\nv=ι κ no/\no<=2000000/\(∀ x∈r,x∈l)/\Yf (Zp p.ops) p.base m0.no l=Yf (Zp p.ops) p.base no r/\Below w1 w1 wr) (fun _ nv _=>(intOf nv+1).toNat)
  case atStart=>exact⟨l,m0.no,HH,rfl,hno,fun _ hx=>hx,rfl,yI _ _⟩
  case round=>
   obtain⟨r,no,y,rfl,hnu,z,u,d⟩:=hrel;have cB:=uh D wr d;have k:=zb z;have f:=zb u;have a:=zb (zh A d);have B:=zb d;have F:=zb (G.below d);clear z u d c0 Q n;by_cases i:p.base<no
   .cases r with
    | nil=>
     obtain rfl:_=Value.pointer ν:=y;go_wp2;go_ret;refine⟨?_,a⟩;rw[uh f];simp[Yf,i]
    | cons m r'=>
     obtain⟨b,q,t,p',v',bl,jv,rfl,-,T,h4,-,-,-,-,U⟩:=y;obtain⟨xa,xg,xc,rfl,sx⟩:=QK.ss (h4.below a);obtain⟨a',rfl⟩:=U.ptr;have hb:=(yC.1 T).1;have s:=zb fun wx (hx:Below w w wx)=>(hx.block b hb).trans T;have c2:=(Va (uh s wr a)).2.2.1;have C:=zb (uh Z wr ta xa tg 0 tc xg 0 xc m.touched a F sx ⟨m,uh k m yq,rfl⟩);have Y:=zb U;go_wp2_with fail;go_call C as e w2 ⟨rfl,b2⟩;have d4:=(Va (uh s w2 (zh a b2))).2.2.2.2;have j:=zb b2
     cases hc:qM (Zp p.ops) m.touched with
     | true=>
      go_wp2;go_ret;refine⟨?_,zh a j⟩;rw[uh f];simp[Yf,i,hc]
     | false=>
      go_wp2;refine⟨⟨r',no - 1,Y,rfl,om,fun x hx=>uh k x (yw _ hx),?_,zh B j⟩,?_⟩
      .rw[uh f];simp[Yf,i,hc]
      .simp only[intOf];omega
   .go_wp2;go_ret;refine⟨?_,a⟩;rw[uh f,zhH (show ¬ p.base<no by omega)];rfl)
theorem AQ(tch:List Bs)(base:Int):∀ (l:List zi) (no:Int),(∀ j (h:j<l.length),l[j].no=no - j)->Yf tch base no l=(decide (base+1<no+1 - l.length) || l.any fun m=>decide (base<m.no) && qM tch m.touched)
 | [],no,_=>by
  simp only[Yf,List.any_nil,Ζ,yE];exact decide_eq_decide.2 om
 | m :: r,no,h=>by
  have h0:m.no=no:=by have:=h 0 sm;simpa using this
  have d:∀ j (a:j<r.length),r[j].no=no - 1 - j:=fun j a=>by
   have f:=h (j+1) so;rw[List.getElem_cons_succ]at f;omega
  have i:=AQ tch base r (no - 1) d;simp only[Yf,List.any_cons,yp,h0];rw[i];by_cases b:base<no
  .rw[yj b,show decide (base+1<no+1 - ((r.length+1:Nat):Int))=decide (base+1<no - 1+1 - (r.length:Int))from decide_eq_decide.2 om]
   cases qM tch m.touched<;>cases decide (base+1<no - 1+1 - (r.length:Int))<;>simp
  .have g:(r.any fun m=>decide (base<m.no) && qM tch m.touched)=ζ:=by
    rw[List.any_eq_false];intro x hx;obtain⟨j,a,rfl⟩:=List.getElem_of_mem hx;have:=d j a;rw[yk om];simp
   rw[yk b,g,yk (show ¬ base+1<no+1 - ((r.length+1:Nat):Int) by omega)];simp
theorem zhJ{l0:List zi}{m0:zi}(hs:qV vs=ξ)(hl:vs.reverse=m0 :: l0)(tch:List Bs)(base:Int):Yf tch base m0.no vs.reverse=meets vs tch base:=by
 obtain⟨f,-,-,-,i⟩:=YK.1 hs;have b:∀ j (hj:j<vs.length),vs[j].no=vs[0].no+j:=fun j hj=>by
  have:=i j hj;simp only[Z8,Δ,yD]at this;exact this.1.1
 have k:m0.no=vs[0].no+((vs.length - 1:Nat):Int):=by
  have d:vs.reverse[0]'(by rw[Β];exact f)=m0:=by simp[hl]
  rw[List.getElem_reverse]at d;rw[← d];exact b _ _
 have g:=AQ tch base vs.reverse m0.no (fun j hj=>by
  rw[Β]at hj;rw[List.getElem_reverse,b _ om];omega)
 rw[g,List.any_reverse,Β];unfold meets;congr 1;have h:(vs.head?.map (·.no)).getD 0=vs[0].no:=by
  cases vs with
  | nil=>exact absurd f sm
  | cons a r=>rfl
 rw[h];exact decide_eq_decide.2 om
structure zhK(vs:List zi)(p:ZJ)(m:zi):Prop where
 ml:meets vs (Zp p.ops) p.base=ζ
 run:∃ d t,ZR m.doc p.ops=(d,0,0)/\d.size<=20000/\Qm vs p=⟨vs,⟨p.ops,m.no,d,t⟩,1,0,0,0⟩/\Qm vs ⟨p.ops,m.no,d,t⟩=⟨qI (vs++[⟨m.no+1,d,Zp p.ops⟩]),Jb,2,0,0,m.no+1⟩
structure zhL(vs:List zi)(p:ZJ)(k:Nat)(hk:k<vs.length):Prop where
 l8:vs.length<=8
 len:vs.length=k+1
 no:∀ m∈vs,0<=m.no/\m.no<=2000000
 b0:0<=p.base/\p.base<=2000000
 conf:(Qm vs p).kind=3->meets vs (Zp p.ops) p.base=ξ
 run:(Qm vs p).kind=1->zhK vs p vs[k]
theorem zhM{p:ZJ}(h:(Qm vs p).kind=1∨(Qm vs p).kind=3):∃ (k:Nat) (hk:k<vs.length),zhL vs p k hk:=by
 cases hs:qV vs with
 | false=>rw[Dk hs]at h;rcases h with h | h<;>cases h
 | true=>
  obtain⟨k,hk,r,s,o,l⟩:=Wl hs;have d:∀ m∈vs,0<=m.no/\m.no<=2000000:=fun m hm=>by
   obtain⟨n,-,w,a,v⟩:=YK.1 hs;obtain⟨j,q,rfl⟩:=List.getElem_of_mem hm;have:=v j q;simp only[Z8,Δ,yD]at this;omega
  have u:=d _ (yt hk);have b:QM vs[k].no p=ξ:=by
   cases n:QM vs[k].no p with
   | true=>rfl
   | false=>rw[FF hs l,n]at h;rcases h with h | h<;>cases h
  have i:=b;simp only[QM,Δ,decide_eq_true_eq]at i;have f:Qm vs p=Ql vs vs[k] p:=by rw[FF hs l,yg b]
  refine⟨k,hk,o,s,d,om,fun h3=>?_,fun a=>?_⟩
  .rw[f]at h3;unfold Ql at h3;split at h3
   .cases h3
   .split at h3
    .cases h3
    .split at h3
     .assumption
     .unfold WU at h3;split at h3<;>cases h3
  .rw[f]at a;have e:=f;unfold Ql at a e;split at a
   .cases a
   .rename_i c1;rw[yf c1]at e;split at a
    .cases a
    .rename_i c2;rw[yf c2]at e;split at a
     .cases a
     .rename_i c3;rw[yf c3]at e;unfold WU at a e;split at a
      .rename_i c4;rw[yg c4]at e;have g:=NC c4;exact⟨Bool.not_eq_true _ ▸ c3,_,_,g.2.2,NE g.2.1,e,Cx hs l g.2.2 om om⟩
      .cases a
theorem zhN(vs:List zi)(u:zi):∃ (k:Nat) (hk:k<(qI (vs++[u])).length),(qI (vs++[u])).length=k+1/\(qI (vs++[u])).length<=8/\(qI (vs++[u]))[k]=u:=by
 have a:(qI (vs++[u])).length=(vs.length+1) - (vs.length+1 - 8):=by unfold qI;simp
 refine⟨(qI (vs++[u])).length - 1,om,om,om,?_⟩;unfold qI;rw[List.getElem_drop];rw[List.getElem_append_right so];simp
def LwP(m:zi)(w:Wo)(e:Ending)(w':Wo):Prop:=∃ ta tc,e=ε (τ #[γ #[ι κ m.no,σ m.doc,ς ta m.touched.length tc],θ ξ])/\OT w' 0 (ς ta m.touched.length tc) (tl m.touched)/\Below w w w'
theorem AR(p:ω)(vs:List zi)(bl:List Nat)(k:Nat)(w:Wo)(h:zu Zi w p vs bl)(hk:k<vs.length)(hl:vs.length=k+1)(h8:vs.length<=8):
  δ prog 8 #[γ #[p]] w (LwP vs[k] w):=by
 obtain⟨A,u,rfl,-,j⟩:=h.form;obtain⟨g,rfl⟩:=j om;obtain⟨z,y,n,b,-⟩:=h.at (yy hk);obtain⟨q,rfl,i⟩:=n;have a:g<w.heap.size:=yK _ _ (b 0 _ rfl).1;obtain⟨r,s,rfl,-,-⟩:=i.form;have l:=YU w (χ #[ς (η g) vs.length u] 25) (χ #[ι κ 0,σ ⟨#[]⟩,ς ν 0 0] 37);have f:=l.bel;have c0:=(f.cell (p:=⟨g,k*3,ν⟩) a).trans (b 0 _ rfl).1;have c1:=(f.cell (p:=⟨g,k*3+1,ν⟩) a).trans (b 1 _ rfl).1;have c2:=(f.cell (p:=⟨g,k*3+2,ν⟩) a).trans (b 2 _ rfl).1;have o:(k:Int)<8:=om;have d:=zb fun wx (hx:Below w w wx)=>Mk (i.below hx);clear i;generalize vs[k]=m at *;rw[hl]at *;have x:((k+1:Nat):Int) - 1=(k:Int):=om;have v:(((k+1:Nat):Int) ==0)=ζ:=by rw[yd];omega
 go_in;go_wp2;exact bodyPost_ret (JR rfl _ _ (w.heap.size+1) 37 _ (0,0) _ _ rfl rfl (YU w _ _).k1 underlying37 rfl kr) rfl ⟨r,s,rfl,d _ (YU w _ _).bel,(YU w _ _).bel⟩
structure Q1(w0:Wo)(xa:Option Addr)(xb xo:Nat)(l:List UInt8)(g3 g4:Nat)(sv pv:ω)(vs:List zi)(p:ZJ)(bl cl:List Nat)(w:Wo):Prop where
 k3:w.heap[g3]?=η (χ #[sv] 25 (0,0))
 k4:w.heap[g4]?=η (χ #[pv,ι κ p.base,σ p.doc,ι κ p.tries] 30 (0,0))
 r3:zu Zi w sv vs bl
 r4:zu Qc w pv p.ops cl
 rd:qS w
 ty:Ye w
 bs:BS w xa xb xo l
 bel:Bw w0 w
theorem Q1.next{w0:Wo}{xa:Option Addr}{xb xo:Nat}{l:List UInt8}{g3 g4:Nat}{sv pv:ω}{p:ZJ}{cl:List Nat}(h:Q1 w0 xa xb xo l g3 g4 sv pv vs p bl cl w)(hb:Below w w w'):Q1 w0 xa xb xo l g3 g4 sv pv vs p bl cl w':=
 ⟨(hb.block _ (yC.1 h.k3).1).trans h.k3,(hb.block _ (yC.1 h.k4).1).trans h.k4,h.r3.below hb,h.r4.below hb,h.rd.up hb,h.ty.up hb,h.bs.below hb,zh h.bel hb⟩
theorem zhP(v:ω)(ms:List zk)(bl:List Nat)(w:Wo)(h:zu Qc w v ms bl)(hs:Yj ms)(hw:qS w):
  δ prog 13 #[v] w fun e w'=>∃ ra g rc,e=ε (ς ra (Zp ms).length rc)/\SS w' ra g 0 (Zp ms)/\Below w w w':=by
 go_call CZ v ms bl w h hs hw as e w' ⟨r,rfl,o,b⟩;obtain⟨a,g,c,rfl,hs⟩:=(Wn o).1.ss;exact⟨a,g,c,rfl,hs,b⟩
theorem Zx.up(hb:Bw w w')(hS:∀ k,S k->k<w.heap.size)(hS':∀ k,S k->S' k):∀ {l:List zi} {v:ω},Zx w (fun _=>True) S l v->Zx w' (fun _=>True) S' l v
 | [],_,h=>h
 | m :: r,v,h=>by
  obtain⟨b,q,t,p,v',bl,jv,h1,h2,h3,h4,h4',h5,h6,h7,h8⟩:=h;exact⟨b,q,t,p,v',bl,jv,h1,trivial,(hb.block b (yC.1 h3).1).trans h3,h4.below hb,fun x hx=>hS' x (h4' x hx),h5,h6,zj.keep (fun k hk=>hb.block k (hS k hk)) hS' _ _ h7,Zx.up hb hS hS' h8⟩
theorem Zx.mono{A':Nat->Prop}(hA:∀ b,A b->A' b)(hS:∀ b,S b->S' b):∀ {l:List zi} {v:ω},Zx w A S l v->Zx w A' S' l v
 | [],_,h=>h
 | m :: r,v,h=>by
  obtain⟨b,q,t,p,v',bl,jv,h1,h2,h3,h4,h4',h5,h6,h7,h8⟩:=h;exact⟨b,q,t,p,v',bl,jv,h1,hA b h2,h3,h4,fun x hx=>hS x (h4' x hx),h5,h6,zj.keep (fun _ _=>rfl) hS _ _ h7,Zx.mono hA hS h8⟩
def SN(S:Nat->Prop)(a b:Nat)(k:Nat):Prop:=S k∨(a<=k/\k<b)
theorem Zx.link{wz:Wo}{q:ω}{m:zi}{jv:JV}(hS:∀ k,S k->k<w.heap.size)(h:Zx w (fun _=>True) S l v)(hb:Bw w wz)(ho:QK wz q m.touched bl)(hbl:∀ b∈bl,w.heap.size<=b)(hr:Zn m.doc= .inr jv)(hct:ze (ct jv)=m.doc)(hrep:zj w S jv (φ t rp)):
  Zx (wz.alloc (χ #[ι κ m.no,σ m.doc,q,φ t rp,v] 127)) (fun _=>True) (SN S w.heap.size wz.heap.size) (m :: l) (π (η ⟨wz.heap.size,0,ν⟩)):=by
 have a:=zG wz (χ #[ι κ m.no,σ m.doc,q,φ t rp,v] 127);have d:=zh hb a;refine⟨wz.heap.size,q,t,rp,v,bl,jv,rfl,trivial,yH _ _,ho.below a,fun b hb'=>.inr ⟨hbl b hb',ho.lt b hb'⟩,hr,hct,zj.keep (fun k hk=>d.block k (hS k hk)) (fun k hk=>.inl hk) _ _ hrep,?_⟩;exact Zx.up d hS (fun k hk=>.inl hk) h
theorem zhQ (S:Nat->Prop) (l:List zi) (m0:zi) (l0:List zi) (hl0:l=m0 :: l0) (v:ω) (o:ω) (p:ZJ) (t:TypeId) (rp:ω) (jv:JV) (bl:List Nat) (w:Wo) (hS:∀ k,S k->k<w.heap.size) (h:Zx w (fun _=>True) S l v) (ho:zu Qc w o p.ops bl) (hr:Zn p.doc= .inr jv) (hct:ze (ct jv)=p.doc) (hrep:zj w S jv (φ t rp)) (hn0:0<=m0.no) (hno:m0.no<=2000000)
  (hT:∀ wx,Bw w wx->δ prog 13 #[o] wx fun e w'=>∃ r,e=ε r/\OT w' wx.heap.size r (ZW p.ops)/\Bw wx w'):
  δ prog 73 #[v,γ #[o,ι κ p.base,σ p.doc,ι κ p.tries,φ t rp]] w fun e w'=>∃ v',e=ε v'/\Zx w' (fun b=>w.heap.size<=b/\b<w'.heap.size) (SN S w.heap.size w'.heap.size) ((⟨m0.no+1,p.doc,Zp p.ops⟩ :: l).take 8) v'/\Bw w w':=by
 obtain⟨oa,oc,rfl,-,-⟩:=ho.form;have hh:=h;rw[hl0]at hh;obtain⟨b0,q0,t0,p0,v0,bl0,jv0,rfl,-,k0,-⟩:=hh;have hlt0:=(yC.1 k0).1;have hA:=zG w (χ #[ς oa p.ops.length oc,ι κ p.base,σ p.doc,ι κ p.tries,φ t rp] 67);have kA:=yH w (χ #[ς oa p.ops.length oc,ι κ p.base,σ p.doc,ι κ p.tries,φ t rp] 67);have zA:(w.alloc (χ #[ς oa p.ops.length oc,ι κ p.base,σ p.doc,ι κ p.tries,φ t rp] 67)).heap.size=w.heap.size+1:=sm;have HF:Hid (∀ wx,Below (w.alloc (χ #[ς oa p.ops.length oc,ι κ p.base,σ p.doc,ι κ p.tries,φ t rp] 67)).heap.size (w.alloc (χ #[ς oa p.ops.length oc,ι κ p.base,σ p.doc,ι κ p.tries,φ t rp] 67)) wx->wx.cell? ⟨b0,0,ν⟩=η (ι κ m0.no)/\Jd w.heap.size (ς oa p.ops.length oc) (ι κ p.base) (σ p.doc) (ι κ p.tries) (φ t rp) wx):=fun wx hx=>
  ⟨yG ((hx.block b0 om).trans ((hA.block b0 hlt0).trans k0)) 0,Jd.of ((hx.block w.heap.size om).trans kA)⟩
 have HL:Hid (∀ (wz:Wo) (q:ω) (bl:List Nat),Bw w wz->QK wz q (Zp p.ops) bl->(∀ b∈bl,w.heap.size<=b)->Zx (wz.alloc (χ #[ι κ (m0.no+1),σ p.doc,q,φ t rp,π (η ⟨b0,0,ν⟩)] 127)) (fun _=>True) (SN S w.heap.size wz.heap.size) (⟨m0.no+1,p.doc,Zp p.ops⟩ :: l) (π (η ⟨wz.heap.size,0,ν⟩))):=fun wz q bl hb ho hbl=>Zx.link (m:=⟨m0.no+1,p.doc,Zp p.ops⟩) hS h hb ho hbl hr hct hrep;have HS:=zb hS;have HT:=zb hT;have HA:=zb hA;have HZA:=zb zA;clear h hS hT hl0 k0 hlt0 hA kA zA ho hr hct hrep;go_in;go_wp2_with fail;generalize w.alloc _=wA at *;have HP:Hid (Bw wA (wA.alloc (χ #[ι κ 0,σ ⟨#[]⟩,ς ν 0 0] 37)).drew):=zh (zG wA _) (yI _ _).drew;have HKP:Hid ((wA.alloc (χ #[ι κ 0,σ ⟨#[]⟩,ς ν 0 0] 37)).drew.heap[wA.heap.size]?=η (χ #[ι κ 0,σ ⟨#[]⟩,ς ν 0 0] 37 (0,0))):=yH wA _;have HZP:Hid ((wA.alloc (χ #[ι κ 0,σ ⟨#[]⟩,ς ν 0 0] 37)).drew.heap.size=wA.heap.size+1):=by show (wA.alloc _).heap.size=_;simp
 have HD:Hid (Bw wA wA.drew):=(yI _ _).drew;have HC1:=zb (uh HT _ (zh HA HP));have HC2:=zb (uh HT _ (zh HA HD));obtain⟨f0,f1,f2,f3,f4,f5⟩:=uh HF _ HP;obtain⟨g0,g1,g2,g3,g4,g5⟩:=uh HF _ HD;have hwr:IntKind.i64.wrap (m0.no+1)=m0.no+1:=by rw[Ε];omega
 go_region_law (first
   |(
     go_simp;go_call HC1 as e w4 ⟨r4,rfl,o4,b4⟩;obtain⟨ta,tg,tc,rfl,-,-⟩:=OT.all o4;have b4':=zh HP b4;obtain⟨e0,e1,e2,e3,e4,e5⟩:=uh HF w4 b4';have kM:=(b4.block wA.heap.size (by have:=uh HZP;omega)).trans HKP;obtain⟨j0,j1,j2⟩:=Yl kM;have fM:=yJ kM)
   |(
     go_simp;go_call HC2 as e w4 ⟨r4,rfl,o4,b4⟩;obtain⟨ta,tg,tc,rfl,-,-⟩:=OT.all o4;have b4':Bw wA w4:=⟨b4.os,b4.tape,b4.output,b4.size,b4.block⟩;obtain⟨e0,e1,e2,e3,e4,e5⟩:=uh HF w4 b4';have b5:=zh b4' (zG w4 (χ #[ι κ 0,σ ⟨#[]⟩,ς ν 0 0] 37));obtain⟨n0,n1,n2,n3,n4,n5⟩:=uh HF _ b5;have kN:=trivial))
 all_goals (
  first
  |(
    have HKN:=zb kN;have hN:=zG w4 (χ #[ι κ (m0.no+1),σ p.doc,ς ta (ZW p.ops).length tc] 37);have kZ:=yH w4 (χ #[ι κ (m0.no+1),σ p.doc,ς ta (ZW p.ops).length tc] 37);have HBZ:=zb (zh b4' hN);have HOZ:=zb ((Wn o4).1.below hN);have HOB:Hid (∀ b∈(Η ta (ZW p.ops).length tc).ownBlock.toList,w.heap.size<=b):=fun b hb=>by have h1:=(Wn o4).2 b (by simpa using hb);have:=uh HZA;have:=(uh HD).size;omega
    generalize w4.alloc (χ #[ι κ (m0.no+1),σ p.doc,ς ta (ZW p.ops).length tc] 37)=wz at *;generalize w4.heap.size=zg at *)
  |(
    have kZ:(putN w4 wA.heap.size 0 [ι κ (m0.no+1),σ p.doc,ς ta (ZW p.ops).length tc]).heap[wA.heap.size]?=η (χ #[ι κ (m0.no+1),σ p.doc,ς ta (ZW p.ops).length tc] 37 (0,0)):=qG kM [_,_,_] rfl;have HBZ:Hid (Bw wA (putN w4 wA.heap.size 0 [ι κ (m0.no+1),σ p.doc,ς ta (ZW p.ops).length tc])):=ZA b4' (ye _) _ _;have HOZ:Hid (QK (putN w4 wA.heap.size 0 [ι κ (m0.no+1),σ p.doc,ς ta (ZW p.ops).length tc]) (ς ta (ZW p.ops).length tc) (Zp p.ops) _):=(Wn o4).1.putN (g:=wA.heap.size) (fun hm=>by have:=(Wn o4).2 wA.heap.size (by simpa using hm);have:=uh HZP;omega) _ 0;have HOB:Hid (∀ b∈(Η ta (ZW p.ops).length tc).ownBlock.toList,w.heap.size<=b):=fun b hb=>by have h1:=(Wn o4).2 b (by simpa using hb);have:=uh HZA;have:=uh HZP;omega
    clear kM j0 j1 j2 fM;change Exit.then _ _ _ _ (putN w4 wA.heap.size 0 [ι κ (m0.no+1),σ p.doc,ς ta (ZW p.ops).length tc]);generalize putN w4 wA.heap.size 0 [ι κ (m0.no+1),σ p.doc,ς ta (ZW p.ops).length tc]=wz at *;obtain⟨zg,hzg⟩:∃ z,wA.heap.size=z:=⟨_,rfl⟩;simp only[hzg]at kZ ⊢)
  obtain⟨z0,z1,z2⟩:=Yl kZ;obtain⟨d0,d1,d2,d3,d4,d5⟩:=uh HF wz HBZ;have HBW:=zb (zh HA HBZ);have HNW:Hid (δ prog 127 #[π (η ⟨wz.heap.size,0,ν⟩),ι κ 8] (wz.alloc (χ #[ι κ (m0.no+1),σ p.doc,ς ta (ZW p.ops).length tc,φ t rp,π (η ⟨b0,0,ν⟩)] 127)) _):=CR (S:=SN S w.heap.size wz.heap.size) (N:=wz.heap.size) (fun k h=>h.elim (fun h=>yF (uh HS k h) (uh HBW).size) (fun h=>h.2)) _ 8 _ _ sm om (uh HL wz _ _ HBW HOZ HOB);have HAZ:=zb (zG wz (χ #[ι κ (m0.no+1),σ p.doc,ς ta (ZW p.ops).length tc,φ t rp,π (η ⟨b0,0,ν⟩)] 127));clear HF HL HA HZA HP HKP HZP HD HC1 HC2 f0 f1 f2 f3 f4 f5 g0 g1 g2 g3 g4 g5 e0 e1 e2 e3 e4 e5 o4 b4 b4' kZ HBZ HOZ HOB HS;go_wp2_with fail;generalize wz.alloc _=wy at *;go_call HNW as e w5 ⟨v5,rfl,c5,b5⟩;have HB5:=zb b5;have HC5:=zb c5;obtain⟨a5,rfl⟩:=c5.ptr;clear HNW b5 c5;go_wp2;go_ret;have s1:=(uh HAZ).size;have s2:=(uh HB5).size;exact⟨_,rfl,(uh HC5).mono (fun b hb=>⟨by have:=(uh HBW).size;omega,hb.2⟩) (fun k hk=>hk.imp (fun h=>h) (fun h=>⟨h.1,om⟩)),zh (zh HBW HAZ) HB5⟩)
theorem FZ:∀ (vs:List ω) (o:Nat),(putN w g o vs).heap.size=w.heap.size:=by
 intro vs;induction vs generalizing w with
 | nil=>intro o;rfl
 | cons a r ih=>intro o;exact (ih (o+1)).trans (by simp[World.setCell])
def RPn(no:Int)(p:ZJ)(v:ω)(w:Wo)(e:Ending)(w':Wo):Prop:=Bw w w'/\(QM no p=ζ->e=ε (τ #[γ #[ς ν 0 0,ι κ 0,σ ⟨#[]⟩,ι κ 0,.nilIface],θ ζ])) /\
 (QM no p=ξ->∃ (jv:JV) (t:TypeId) (r:ω),Zn p.doc= .inr jv/\ze (ct jv)=p.doc/\e=ε (τ #[γ #[v,ι κ p.base,σ p.doc,ι κ p.tries,φ t r],θ ξ])/\zj w' (fun k=>k<w'.heap.size) jv (φ t r))
theorem zhS(no:Int)(p:ZJ):(p.base<0∨(0<=p.base/\no<p.base)∨(0<=p.base/\p.base<=no/\p.tries<0)∨(0<=p.base/\p.base<=no/\0<=p.tries/\4<p.tries))∨(0<=p.base/\p.base<=no/\0<=p.tries/\p.tries<=4):=by omega
theorem zhT (hb:Nat) (no:Int) (doc:Bs) (q nx rt:ω) (v:ω) (p:ZJ) (bl:List Nat) (w:Wo) (hk:w.heap[hb]?=η (χ #[ι κ no,doc,q,rt,nx] 127 (0,0)))
  (ho:zu Qc w v p.ops bl) (hs:Yj p.ops) (hd:p.doc.size<=1048576) (hw:qS w):
  δ prog 32 #[hb,γ #[v,ι κ p.base,p.doc,ι κ p.tries]] w (RPn no p v w):=by
 obtain⟨B,C,rfl,-,-⟩:=ho.form;have L:=(yC.1 hk).1;have y:=YU w (χ #[ς B p.ops.length C,ι κ p.base,p.doc,ι κ p.tries] 30) (χ #[ς ν 0 0,ι κ 0,σ ⟨#[]⟩,ι κ 0,.nilIface] 67);have m:Hid (∀ wx,Below ((w.alloc (χ #[ς B p.ops.length C,ι κ p.base,p.doc,ι κ p.tries] 30)).alloc (χ #[ς ν 0 0,ι κ 0,σ ⟨#[]⟩,ι κ 0,.nilIface] 67)).heap.size ((w.alloc (χ #[ς B p.ops.length C,ι κ p.base,p.doc,ι κ p.tries] 30)).alloc (χ #[ς ν 0 0,ι κ 0,σ ⟨#[]⟩,ι κ 0,.nilIface] 67)) wx->qE w (ς B p.ops.length C) (ι κ p.base) p.doc (ι κ p.tries) wx/\wx.cell? hb=η (ι κ no)/\wx.heap[w.heap.size+1]?=η (χ #[ς ν 0 0,ι κ 0,σ ⟨#[]⟩,ι κ 0,.nilIface] 67 (0,0))):=fun wx hx=>by
  have T:=y.size;exact⟨qE.of ((hx.block w om).trans y.k0),yG ((hx.block hb om).trans ((y.bel.block hb L).trans hk)) 0,(hx.block (w.heap.size+1) om).trans y.k1⟩
 have H:=zb fun wx (hx:Below w w wx)=>CU _ p.ops bl wx (ho.below hx) hs (hw.up hx);have G:=zb fun wx (hx:Below w w wx)=>De p.doc wx (hw.up hx).tab (hw.up hx).err (hw.up hx).pow om;have j:=zb y;rcases zhS no p with S |⟨n1,n2,n3,n4⟩
 .have A:Hid (QM no p=ζ):=by
   show _=_
   unfold QM;rcases S with h |⟨x,h⟩ |⟨x,K,h⟩ |⟨x,K,h3,h⟩
   .rw[yk (show ¬ 0<=p.base by omega)];simp
   .rw[yk (show ¬ p.base<=no by omega)];simp
   .rw[yk (show ¬ 0<=p.tries by omega)];simp
   .rw[yk (show ¬ p.tries<=4 by omega)];simp
  rcases S with h |⟨x,h⟩ |⟨x,K,h⟩ |⟨x,K,h3,h⟩
  all_goals (
   have t1:decide (p.base<0)=decide (p.base<0):=rfl;obtain⟨q1,O⟩:∃ b,decide (p.base<0)=b:=⟨_,rfl⟩;obtain⟨q2,P⟩:∃ b,decide (no<p.base)=b:=⟨_,rfl⟩;obtain⟨q3,Q⟩:∃ b,decide (p.tries<0)=b:=⟨_,rfl⟩;obtain⟨q4,R⟩:∃ b,decide (4<p.tries)=b:=⟨_,rfl⟩
   cases q1<;>cases q2<;>cases q3<;>cases q4
   all_goals first
    |(exfalso;simp at O P Q R;omega)
    |(
      clear t1;go_in;go_wp2_with fail;generalize (w.alloc _).alloc _=d at *;obtain⟨⟨X,Y,Z,f3⟩,f4,U⟩:=uh m d (yI _ _);go_quiet (fail);have i:(d.drewN nq).heap[w.heap.size+1]?=_:=U;obtain⟨c0,c1,c2,c3,c4⟩:=Jd.of i;have fz:=yJ i;have W:=zb i;have l:=zb (zh j.bel (GQ d nq));go_wp2;refine bodyPost_ret (JR rfl _ _ (w.heap.size+1) 67 #[_,_,_,_,_] (0,0) _ _ rfl rfl (qG W [_,_,_,_,_] rfl) underlying67 rfl kr) rfl ?_;exact⟨ZA l om [_,_,_,_,_] 0,fun _=>rfl,fun h=>by rw[uh A]at h;cases h⟩))
 .have O:decide (p.base<0)=ζ:=yk om;have P:decide (no<p.base)=ζ:=yk om;have Q:decide (p.tries<0)=ζ:=yk om;have R:decide (4<p.tries)=ζ:=yk om;have A:Hid (QM no p=(decide (qk p.ops<0) && ZP p.doc)):=by show _=_;unfold QM;rw[yj n1,yj n2,yj n3,yj n4];simp
  go_in;go_wp2_with fail;generalize (w.alloc _).alloc _=d at *;obtain⟨⟨X,Y,Z,f3⟩,f4,U⟩:=uh m d (yI _ _);go_quiet (fail);have J:=GQ d nq;obtain⟨⟨g0,g1,g2,g3⟩,-,-⟩:=uh m (d.drewN nq) J;have HR:=zb (uh H (d.drewN nq) (zh j.bel J));have D:=zb J;go_wp2_with fail;generalize d.drewN nq=wB at *;go_call HR as e w2 ⟨b2,hbad,hgood⟩;have s:=zh D b2;obtain⟨⟨m0,m1,m2,m3⟩,-,k2⟩:=uh m w2 s;have a:=zb s;have f:=zb k2;by_cases T:0<=qk p.ops
  .obtain⟨t,r,rfl,-⟩:=hbad T;have z:Hid (QM no p=ζ):=by show _=_;rw[uh A,yk om];rfl
   obtain⟨c0,c1,c2,c3,c4⟩:=Jd.of f;have fz:=yJ f;have l:=zb (zh j.bel a);go_wp2;refine bodyPost_ret (JR rfl _ _ (w.heap.size+1) 67 #[_,_,_,_,_] (0,0) _ _ rfl rfl (qG f [_,_,_,_,_] rfl) underlying67 rfl kr) rfl ?_;exact⟨ZA l om [_,_,_,_,_] 0,fun _=>rfl,fun h=>by rw[uh z]at h;cases h⟩
  .obtain⟨lv,qs,rfl,-⟩:=hgood om;have z:Hid (QM no p=ZP p.doc):=by show _=_;rw[uh A,yj om];rfl
   have V:=zb (uh G w2 (zh j.bel a));go_wp2_with fail;go_call V as e w3 ⟨b3,hno,hyes⟩;have u:=zh a b3;obtain⟨⟨s0,s1,s2,s3⟩,-,M⟩:=uh m w3 u;obtain⟨c0,c1,c2,c3,c4⟩:=Jd.of M;have fz:=yJ M;have l:=zb (zh j.bel u);have n:=zb M;have hz3:=b3.size
   cases hg:ZP p.doc with
   | false=>
    obtain rfl:=hno hg;have I:Hid (QM no p=ζ):=zb (by rw[uh z,hg]);go_wp2;refine bodyPost_ret (JR rfl _ _ (w.heap.size+1) 67 #[_,_,_,_,_] (0,0) _ _ rfl rfl (qG n [_,_,_,_,_] rfl) underlying67 rfl kr) rfl ?_;exact⟨ZA l om [_,_,_,_,_] 0,fun _=>rfl,fun h=>by rw[uh I]at h;cases h⟩
   | true=>
    obtain⟨jv,t,r,r1,r2,rfl,N⟩:=hyes hg;have I:Hid (QM no p=ξ):=zb (by rw[uh z,hg]);have E:=zb r1;have F:=zb r2;have o:=zb N;have hwA:=j.size;have hs2:=a.size;go_wp2;refine bodyPost_ret (JR rfl _ _ (w.heap.size+1) 67 #[_,_,_,_,_] (0,0) _ _ rfl rfl (qG n [_,_,_,_,_] rfl) underlying67 rfl kr) rfl ?_;refine⟨ZA l om [_,_,_,_,_] 0,fun h=>(by rw[uh I]at h;cases h),fun _=>⟨jv,t,r,E,F,rfl,?_⟩⟩;exact zj.keep (fun k hk=>qg (w:=w3) (g:=w.heap.size+1) om [_,_,_,_,_] 0) (fun k hk=>Nat.lt_of_lt_of_eq hk.2 (FZ (w:=w3) (g:=w.heap.size+1) [_,_,_,_,_] 0).symm) _ _ o
theorem PE {P:Program} {fn:Func} {o p q:Tmp} {t1 t2:TypeId} (h:fn.results=#[.tmp o,.cell p t1,.cell q t2]) {tmps:Array ω}  (w':Wo)  {g1 g2:Nat} {cs1 cs2:Array ω} (xs ys:List ω) {d1 d2:TypeDesc}
  (ho:tmps.getD o undef=v) (hp:tmps.getD p undef=π (η g1)) (hq:tmps.getD q undef=π (η g2)) (k1:w.heap[g1]?=η (χ cs1 t1 (0,0))) (k2:w.heap[g2]?=η (χ cs2 t2 (0,0))) (hne:g1≠g2) (hw:w'=putN (putN w g1 0 xs) g2 0 ys) (l1:xs.length=cs1.size) (l2:ys.length=cs2.size)
  (hu1:P.underlying t1=η d1) (hd1:(match d1 with | .struct _ | .array _ _=>ξ | _=>ζ)=ξ) (hi1:(P.info? t1).map (·.size)=η xs.toArray.size) (hu2:P.underlying t2=η d2) (hd2:(match d2 with | .struct _ | .array _ _=>ξ | _=>ζ)=ξ) (hi2:(P.info? t2).map (·.size)=η ys.toArray.size):
  (results fn tmps).run P w'= .ok (.tuple #[v,.agg xs.toArray,.agg ys.toArray]) w':=by
 have a:tmps[o]?.getD undef=v:=by simpa using ho
 have b:tmps[p]?.getD undef=π (η g1):=by simpa using hp
 have d:tmps[q]?.getD undef=π (η g2):=by simpa using hq
 have f:w'.heap[g1]?=η (χ xs.toArray t1 (0,0)):=by rw[hw,qg hne,qG k1 xs l1]
 have g:w'.heap[g2]?=η (χ ys.toArray t2 (0,0)):=by rw[hw];exact qG ((qg (Ne.symm hne) _ _).trans k2) ys l2
 simp[results,h,a,b,d,asAddr,run_loadVar_row w' g1 t1 t1 _ (0,0) d1 f hu1 hd1 hi1,run_loadVar_row w' g2 t2 t2 _ (0,0) d2 g hu2 hd2 hi2]
theorem XM{cs:Array ω}(h:zT w B v ms)(hk:w.heap[g]?=η (χ cs T (0,0)))(hT:T≠82)(xs:List ω)(o:Nat):zT (putN w g o xs) B v ms:=
 Vu h (fun b hb=>qg (fun e=>by
  subst e;have d:v.ownBlock=η b:=by simpa using hb
  rcases h with ⟨_,⟨rfl,_⟩ |⟨k,i,j,rfl,_,a,_⟩⟩
  .cases d
  .have f:k=b:=by injection d
   rw[f,hk]at a;injection a with a;injection a with _ h2 _;exact hT h2) xs o)
theorem zhU(vs:List zi)(no t:Int)(a:Bs×Int×Int)(ops:List zk):WU vs no t a ops=⟨vs,⟨(Qs no a ops).ops,(Qs no a ops).base,(Qs no a ops).doc,if (Qs no a ops).kind=1 then t else 0⟩,(Qs no a ops).kind,(Qs no a ops).code,(Qs no a ops).pos,0⟩:=by
 unfold WU Qs;split<;>rfl
theorem zhV(xs:List zi):(qI xs).reverse=xs.reverse.take 8:=by
 unfold qI;rw[List.reverse_drop];by_cases h:8<=xs.length
 .congr 1;omega
 .rw[yr (by rw[Β];omega),yr (by rw[Β];omega)]
def AtP(S:Nat->Prop)(a:Wm)(w:Wo)(e:Ending)(w':Wo):Prop:=∃ v' vo rt,e=ε (τ #[v',γ #[vo,ι κ a.pn.base,σ a.pn.doc,ι κ a.pn.tries,rt],γ #[ι κ a.kind,ι κ a.code,ι κ a.pos,ι κ a.no]])/\Zx w' (fun _=>True) (SN S w.heap.size w'.heap.size) a.vs.reverse v'/\zT w' 0 vo a.pn.ops/\Pz rt/\Bw w w'
theorem Zx.put2{w2:Wo}{n N:Nat}(hS:∀ k,S k->k<n)(hN:n+3<=N)(h:Zx w2 (fun b=>N<=b/\b<w2.heap.size) (SN S N w2) l v)(hk:∀ k,k≠n+1->k≠n+1+1->w'.heap[k]?=w2.heap[k]?)(hz:w'.heap.size=w2.heap.size):Zx w' (fun _=>True) (SN S n w') l v:=by
 have d:Zx w' (fun _=>True) (SN S N w2) l v:=h.keep (fun b a=>⟨hk b om om,trivial⟩) (fun b a=>by
  rcases a with a | a
  .have:=hS b a;exact hk b om om
  .exact hk b om om)
 exact d.mono (fun _ h=>h) (fun k hk=>hk.imp (fun h=>h) (fun h=>⟨om,om⟩))
structure DC(b:Nat)(o:ω)(p:ZJ)(t:TypeId)(rp:ω)(w:Wo):Prop where
 k0:w.heap[b]?=η (χ #[o,ι κ p.base,σ p.doc,ι κ p.tries,φ t rp] 67 (0,0))
 db:Uc (b+1) w
theorem DC.next{p:ZJ}(h:DC b o p t rp w)(hb:Below w w w'):DC b o p t rp w':=
 ⟨(hb.block b (yC.1 h.k0).1).trans h.k0,h.db.next hb⟩
theorem zhX (S:Nat->Prop) (vs l:List zi) (m0:zi) (l0:List zi) (hl:l=m0 :: l0) (hvl:l=vs.reverse) (v:ω) (o:ω) (p:ZJ) (t:TypeId) (rp:ω) (bl:List Nat) (w:Wo) (hS:∀ k,S k->k<w.heap.size) (h:Zx w (fun _=>True) S l v) (ho:zu Qc w o p.ops bl) (ht0:0<=p.tries) (ht4:p.tries<=4)
  (hcm:Yf (Zp p.ops) p.base m0.no l=meets vs (Zp p.ops) p.base)
  (hP:∀ wx,Bw w wx->δ prog 73 #[v,γ #[o,ι κ p.base,p.doc,ι κ p.tries,φ t rp]] wx fun e w'=>∃ v',e=ε v'/\Zx w' (fun b=>wx.heap.size<=b/\b<w'.heap.size) (SN S wx.heap.size w'.heap.size) ((⟨m0.no+1,p.doc,Zp p.ops⟩ :: l).take 8) v'/\Bw wx w')
  (hC:∀ wx,Bw w wx->δ prog 74 #[v,γ #[o,ι κ p.base,p.doc,ι κ p.tries,φ t rp]] wx fun e w'=>e=ε (θ (Yf (Zp p.ops) p.base m0.no l))/\Bw wx w')
  (hY:∀ wx,Bw w wx->δ prog 70 #[v,o,ι κ (p.tries+1)] wx (AP (Qs m0.no (ZR m0.doc p.ops) p.ops) (p.tries+1) 0 wx)):
  δ prog 33 #[v,γ #[o,ι κ p.base,p.doc,ι κ p.tries,φ t rp]] w (AtP S (Ql vs m0 p) w):=by
 obtain⟨oa,oc,rfl,-,-⟩:=ho.form;have hh:=h;rw[hl]at hh;obtain⟨b0,q0,t0,p0,v0,bl0,jv0,rfl,-,k0,-⟩:=hh;have P:=(yC.1 k0).1;have z:=YU w (χ #[ς oa p.ops.length oc,ι κ p.base,p.doc,ι κ p.tries,φ t rp] 67) (χ #[ς ν 0 0,ι κ 0,σ ⟨#[]⟩,ι κ 0,.nilIface] 67);obtain⟨W,hW⟩:∃ W,W=(w.alloc (χ #[ς oa p.ops.length oc,ι κ p.base,p.doc,ι κ p.tries,φ t rp] 67)).alloc (χ #[ς ν 0 0,ι κ 0,σ ⟨#[]⟩,ι κ 0,.nilIface] 67):=⟨_,rfl⟩;rw[← hW]at z;have J:=zG W (χ #[ι κ 0,ι κ 0,ι κ 0,ι κ 0] 32);have kA3:=yH W (χ #[ι κ 0,ι κ 0,ι κ 0,ι κ 0] 32);have zW:=z.size;have C:Hid (DC w.heap.size (ς oa p.ops.length oc) p t rp (W.alloc (χ #[ι κ 0,ι κ 0,ι κ 0,ι κ 0] 32))):=⟨(J.block w.heap.size om).trans z.k0,(J.block (w.heap.size+1) om).trans z.k1,by rw[show w.heap.size+1+1=W.heap.size by omega];exact kA3⟩;have Y:=zb (zh z.bel J);have c0:=(Va (((uh Y).block b0 P).trans k0)).1;have HH:=zb h;have HO:=zb ho;have HP:=zb hP;have HC:=zb hC;have HY:=zb hY;have HVL:=zb hvl;have HL:=zb hl;have x:=zb hcm;have HZ:Hid ((W.alloc (χ #[ι κ 0,ι κ 0,ι κ 0,ι κ 0] 32)).heap.size=w.heap.size+3):=by
  show _=_
  have:(W.alloc (χ #[ι κ 0,ι κ 0,ι κ 0,ι κ 0] 32)).heap.size=W.heap.size+1:=sm;omega
 have HS:=zb hS;subst hW;clear h hS ho hP hC hY hvl hl hcm k0 P z J kA3 zW;go_in;go_wp2_with fail;generalize ((w.alloc _).alloc _).alloc _=wA at *;obtain⟨L,M,N,O,d4⟩:=Jd.of (uh C).k0;by_cases A:p.base=m0.no
 .have K:Hid (Ql vs m0 p=⟨qI (vs++[⟨m0.no+1,p.doc,Zp p.ops⟩]),Jb,2,0,0,m0.no+1⟩):=by show _=_;unfold Ql;rw[yg A]
  have tq:(p.base ==m0.no)=ξ:=by simp[A]
  clear A;go_quiet (fail);have I:=GQ wA nq;have HZB:Hid (w.heap.size+3<=(wA.drewN nq).heap.size):=by
   show _<=_
   have:=uh HZ;have:=I.size;omega
  have d:=zb ((uh C).next I);obtain⟨Z,g1,g2,g3,g4⟩:=Jd.of (uh d).k0;have HPQ:=zb (uh HP _ (zh Y I));have j:=zb (zh Y I);clear L M N O d4 HC HY C x HP I c0 Y tq;go_wp2_with fail;generalize wA.drewN nq=wB at *;go_call HPQ as e w2 ⟨v2,rfl,c2,b2⟩;have HC2:Hid (Zx w2 (fun b=>wB.heap.size<=b/\b<w2.heap.size) (SN S wB.heap.size w2.heap.size) (qI (vs++[⟨m0.no+1,p.doc,Zp p.ops⟩])).reverse v2):=by
   show Zx _ _ _ _ _
   rw[zhV,List.reverse_append,← uh HVL];exact c2
  rw[List.take_succ_cons]at c2;obtain⟨V,q1,t1,p1,v1,bl1,jv1,rfl,-,B,-⟩:=c2;have n:Bw w2 w2.drew:=(yI _ _).drew;have a:=zb ((uh d).next b2);have u:=zb (zh j b2);have nb1:¬ V=w.heap.size+1:=fun e=>by
   rw[e,(uh a).db.k1]at B;injection B with B;injection B with _ h _;exact absurd h dc
  have nb2:¬ V=w.heap.size+1+1:=fun e=>by
   rw[e,(uh a).db.k2]at B;injection B with B;injection B with _ h _;exact absurd h dc
  have nb1':¬ w.heap.size+1=V:=fun e=>nb1 e.symm;have nb2':¬ w.heap.size+1+1=V:=fun e=>nb2 e.symm;have e1:w2.cell? V=η (ι κ (m0.no+1)):=yG B 0;have e0:w2.drew.cell? V=η (ι κ (m0.no+1)):=yG ((n.block V (yC.1 B).1).trans B) 0;obtain⟨c0,c1,c2,c3,c4⟩:=Jd.of (uh a).db.k1;obtain⟨L,M,N,O⟩:=qE.of (uh a).db.k2;have f1:=yJ (uh a).db.k1;have f2:=yJ (uh a).db.k2;have y:=zb n;clear HPQ b2 B n d j Z g1 g2 g3 g4;go_wp2_with fail;go_region_law (fail)
  all_goals (
   have f:=zb ((uh a).next y);have HQ1:Hid (∀ k,k≠w.heap.size+1->k≠w.heap.size+1+1->(putN (putN w2.drew (w.heap.size+1) 0 [ς ν 0 0,ι κ 0,σ ⟨#[]⟩,ι κ 0,.nilIface]) (w.heap.size+1+1) 0 [ι κ 2,ι κ 0,ι κ 0,ι κ (m0.no+1)]).heap[k]?=w2.heap[k]?):=fun k h1 h2=>(qg h2 _ _).trans (qg h1 _ _);have HQ2:Hid ((putN (putN w2.drew (w.heap.size+1) 0 [ς ν 0 0,ι κ 0,σ ⟨#[]⟩,ι κ 0,.nilIface]) (w.heap.size+1+1) 0 [ι κ 2,ι κ 0,ι κ 0,ι κ (m0.no+1)]).heap.size=w2.heap.size):=(FZ _ _).trans (FZ _ _);have HQ3:Hid (Bw w (putN (putN w2.drew (w.heap.size+1) 0 [ς ν 0 0,ι κ 0,σ ⟨#[]⟩,ι κ 0,.nilIface]) (w.heap.size+1+1) 0 [ι κ 2,ι κ 0,ι κ 0,ι κ (m0.no+1)])):=ZA (ZA (zh u y) om _ _) om _ _;have HQ:=zb (Zx.put2 HS HZB HC2 HQ1 HQ2);go_wp2;change bodyPost _ _ _ _ _ (putN (putN w2 (w.heap.size+1) 0 [ς ν 0 0,ι κ 0,σ ⟨#[]⟩,ι κ 0,.nilIface]) (w.heap.size+1+1) 0 [ι κ 2,ι κ 0,ι κ 0,ι κ (m0.no+1)]).drew;rw[← WV,← WV];refine bodyPost_ret (PE (w:=w2.drew) rfl _ [ς ν 0 0,ι κ 0,σ ⟨#[]⟩,ι κ 0,.nilIface] [ι κ 2,ι κ 0,ι κ 0,ι κ (m0.no+1)] rfl rfl rfl (uh f).db.k1 (uh f).db.k2 om rfl rfl rfl underlying67 rfl kr underlying32 rfl kr) rfl ?_;rw[uh K];exact⟨_,_,_,rfl,HQ,Yr _ _,.inl rfl,HQ3⟩)
 .have tq:(p.base ==m0.no)=ζ:=by simp[A]
  have R:=zb A;have hwr:IntKind.i64.wrap (p.tries+1)=p.tries+1:=by rw[Ε];omega
  have T:Hid (∀ wx,Bw w wx->Zx wx (fun _=>True) (SN S w.heap.size wx.heap.size) vs.reverse b0):=fun wx hx=>by
   rw[← uh HVL];exact Zx.up hx HS (fun k hk=>.inl hk) HH
  clear A HP;go_quiet (fail);have I:=GQ wA nq;have d:=zb ((uh C).next I);have j:=zb (zh Y I);clear L M N O d4 C I c0 Y tq HZ;obtain⟨Z,g1,g2,g3,g4⟩:=Jd.of (uh d).k0;obtain⟨c0,c1,c2,c3,c4⟩:=Jd.of (uh d).db.k1;obtain⟨L,M,N,O⟩:=qE.of (uh d).db.k2;have f1:=yJ (uh d).db.k1;have f2:=yJ (uh d).db.k2;generalize wA.drewN nq=wB at *;by_cases h4:4<p.tries+1
  .have K:Hid (Ql vs m0 p=⟨vs,Jb,4,0,0,0⟩):=by show _=_;unfold Ql;rw[yf (uh R),yg h4]
   clear HC HY x;go_wp2;refine bodyPost_ret (PE rfl _ [_,_,_,_,_] [_,_,_,_] rfl rfl rfl (uh d).db.k1 (uh d).db.k2 om rfl rfl rfl underlying67 rfl kr underlying32 rfl kr) rfl ?_;rw[uh K];have hf:=ZA (g:=w.heap.size+1+1) (ZA (g:=w.heap.size+1) j om [ς ν 0 0,ι κ 0,σ ⟨#[]⟩,ι κ 0,.nilIface] 0) om [ι κ 4,ι κ 0,ι κ 0,ι κ 0] 0;exact⟨_,_,_,rfl,uh T _ hf,Yr _ _,.inl rfl,hf⟩
  .have U:=zb (uh HC _ j);have HN4:=zb h4;have h4':=h4;clear HC c0 c1 c2 c3 c4 L M N O f1 f2;go_wp2_with fail;go_call U as e w2 ⟨rfl,b2⟩;have a:=zb ((uh d).next b2);have u:=zb (zh j b2);obtain⟨Z,g1,g2,g3,g4⟩:=Jd.of (uh a).k0;obtain⟨c0,c1,c2,c3,c4⟩:=Jd.of (uh a).db.k1;obtain⟨L,M,N,O⟩:=qE.of (uh a).db.k2;have f0:=yJ (uh a).k0;have f1:=yJ (uh a).db.k1;have f2:=yJ (uh a).db.k2
   cases hcf:Yf (Zp p.ops) p.base m0.no l with
   | true=>
    have K:Hid (Ql vs m0 p=⟨vs,Jb,3,0,0,0⟩):=by show _=_;unfold Ql;rw[yf (uh R),yf (by have:=uh HN4;omega),yg (by rw[← uh x,hcf])]
    clear U x HY d j b2 hcf h4 h4';go_wp2;refine bodyPost_ret (PE rfl _ [_,_,_,_,_] [_,_,_,_] rfl rfl rfl (uh a).db.k1 (uh a).db.k2 om rfl rfl rfl underlying67 rfl kr underlying32 rfl kr) rfl ?_;rw[uh K];have hf:=ZA (g:=w.heap.size+1+1) (ZA (g:=w.heap.size+1) u om [ς ν 0 0,ι κ 0,σ ⟨#[]⟩,ι κ 0,.nilIface] 0) om [ι κ 3,ι κ 0,ι κ 0,ι κ 0] 0;exact⟨_,_,_,rfl,uh T _ hf,Yr _ _,.inl rfl,hf⟩
   | false=>
    have K:Hid (Ql vs m0 p=WU vs m0.no (p.tries+1) (ZR m0.doc p.ops) p.ops):=by show _=_;unfold Ql;rw[yf (uh R),yf (by have:=uh HN4;omega),yf (by rw[← uh x,hcf];simp)]
    have HYQ:=zb (uh HY _ u);clear U x HY d j b2 hcf h4 h4' c0 c1 c2 c3 c4 L M N O f0 f1 f2;go_wp2_with fail;go_call HYQ as e w3 ⟨v3,tr',rt,rfl,htr,o3,hrt,b3⟩;obtain⟨a3,n3,rfl⟩:=JU o3;have hN:=zG w3 (χ #[ι κ 0,ι κ 0,ι κ 0,ι κ 0] 32);have Q:=(yC.1 ((uh a).next b3).db.k2).1;have f:=zb (((uh a).next b3).next hN);have HB3:=zb (zh (zh u b3) hN);have HO3:=zb (Zl o3 hN);have HTR:=zb htr;have H:Hid ((w3.alloc (χ #[ι κ 0,ι κ 0,ι κ 0,ι κ 0] 32)).heap[w3.heap.size]?=η (χ #[ι κ 0,ι κ 0,ι κ 0,ι κ 0] 32 (0,0))):=yH _ _;have HX2:Hid (Ql vs m0 p=⟨vs,⟨(Qs m0.no (ZR m0.doc p.ops) p.ops).ops,(Qs m0.no (ZR m0.doc p.ops) p.ops).base,(Qs m0.no (ZR m0.doc p.ops) p.ops).doc,tr'⟩,(Qs m0.no (ZR m0.doc p.ops) p.ops).kind,(Qs m0.no (ZR m0.doc p.ops) p.ops).code,(Qs m0.no (ZR m0.doc p.ops) p.ops).pos,0⟩):=by show _=_;rw[uh K,zhU,htr]
    obtain⟨Z,g1,g2,g3,g4⟩:=Jd.of (uh f).k0;obtain⟨e0,e1,e2,e3⟩:=qE.of H;have f0:=yJ (uh f).k0;have f3:=yJ H;have n0:¬ w3.heap.size=w.heap.size:=om;have n0':¬ w.heap.size=w3.heap.size:=om;clear K;generalize Qs m0.no (ZR m0.doc p.ops) p.ops=i at *;obtain⟨wY,r⟩:∃ wY,wY=putN (w3.alloc (χ #[ι κ 0,ι κ 0,ι κ 0,ι κ 0] 32)) w.heap.size 0 [ς a3 i.ops.length n3,ι κ i.base,i.doc,ι κ tr',rt]:=⟨_,rfl⟩;obtain⟨s,q⟩:∃ s,s=putN wY w3.heap.size 0 [ι κ i.kind,ι κ i.code,ι κ i.pos,ι κ 0]:=⟨_,rfl⟩;have kY0:wY.heap[w.heap.size]?=η (χ #[ς a3 i.ops.length n3,ι κ i.base,i.doc,ι κ tr',rt] 67 (0,0)):=by rw[r];exact qG (uh f).k0 _ rfl
    have X:wY.heap[w3.heap.size]?=η (χ #[ι κ 0,ι κ 0,ι κ 0,ι κ 0] 32 (0,0)):=by rw[r];exact (qg n0 _ _).trans H
    have D:Hid (s.heap[w.heap.size]?=η (χ #[ς a3 i.ops.length n3,ι κ i.base,i.doc,ι κ tr',rt] 67 (0,0))):=by show _=_;rw[q];exact (qg n0' _ _).trans kY0
    have E:Hid (s.heap[w3.heap.size]?=η (χ #[ι κ i.kind,ι κ i.code,ι κ i.pos,ι κ 0] 32 (0,0))):=by show _=_;rw[q];exact qG X _ rfl
    have m:Hid (Uc (w.heap.size+1) s):=by
     show Uc _ _
     rw[q,r];exact⟨((qg om _ _).trans (qg om _ _)).trans (uh f).db.k1,((qg om _ _).trans (qg om _ _)).trans (uh f).db.k2⟩
    have HOZ:Hid (zT s 0 (ς a3 i.ops.length n3) i.ops):=by
     show zT _ _ _ _
     rw[q];refine XM ?_ X dc _ _;rw[r];exact XM HO3 (uh f).k0 dc _ _
    have HBZ:Hid (Bw w s):=by
     show Below _ _ _
     rw[q,r];exact ZA (ZA HB3 (ye _) _ _) om _ _
    rw[r]at q;have HWZ:=zb q;have G:=zb Q;clear HYQ b3 o3 htr HTR a u hN Q q r kY0 X f HB3 HO3 H;have hrt':=zb hrt;rcases hrt with rfl |⟨t3,p3,rfl⟩
    all_goals (
     go_wp2_with fail;change Code.wp _ _ _ _ (putN (putN (w3.alloc _) w.heap.size 0 [_,_,_,_,_]) w3.heap.size 0 [_,_,_,_]);rw[← uh HWZ];clear Z g1 g2 g3 g4 e0 e1 e2 e3 f0 f3;obtain⟨Z,g1,g2,g3,g4⟩:=Jd.of D;obtain⟨e0,e1,e2,e3⟩:=qE.of E;obtain⟨c0,c1,c2,c3,c4⟩:=Jd.of (uh m).k1;obtain⟨L,M,N,O⟩:=qE.of (uh m).k2;have f1:=yJ (uh m).k1;have f2:=yJ (uh m).k2;have n:Bw s s.drew:=(yI _ _).drew;have y:=zb n;have kd0:=(n.block _ (yC.1 D).1).trans D;have kdN:=(n.block _ (yC.1 E).1).trans E;obtain⟨g0',g1',g2',g3',g4'⟩:=Jd.of kd0;obtain⟨e0',e1',e2',e3'⟩:=qE.of kdN;have m1:¬ w3.heap.size=w.heap.size+1:=by have:=uh G;omega
     have m2:¬ w3.heap.size=w.heap.size+1+1:=by have:=uh G;omega
     have m1':¬ w.heap.size+1=w3.heap.size:=by have:=uh G;omega
     have m2':¬ w.heap.size+1+1=w3.heap.size:=by have:=uh G;omega
     clear HWZ n kd0 kdN;go_region_law (fail)
     all_goals (
      have F:=zb ((uh m).next y);have HF:Hid (∀ xs ys:List ω,Bw w (putN (putN s.drew (w.heap.size+1) 0 xs) (w.heap.size+1+1) 0 ys)):=fun xs ys=>ZA (ZA (zh HBZ y) om _ _) om _ _;have HG:Hid (∀ xs ys:List ω,zT (putN (putN s.drew (w.heap.size+1) 0 xs) (w.heap.size+1+1) 0 ys) 0 (ς a3 i.ops.length n3) i.ops):=fun xs ys=>XM (XM (Zl HOZ y) (uh F).k1 dc _ _) ((qg om _ _).trans (uh F).k2) dc _ _;go_wp2;change bodyPost _ _ _ _ _ (putN (putN s (w.heap.size+1) 0 [_,_,_,_,_]) (w.heap.size+1+1) 0 [_,_,_,_]).drew;rw[← WV,← WV];refine bodyPost_ret (PE (w:=s.drew) rfl _ [_,_,_,_,_] [_,_,_,_] rfl rfl rfl (uh F).k1 (uh F).k2 om rfl rfl rfl underlying67 rfl kr underlying32 rfl kr) rfl ?_;rw[uh HX2];exact⟨_,_,_,rfl,uh T _ (uh HF _ _),uh HG _ _,hrt',uh HF _ _⟩))
structure DV(g h:Nat)(o:ω)(b t:Int)(d:Bs)(rt:ω)(k c q n:Int)(w:Wo):Prop where
 k0:w.heap[g]?=η (χ #[o,ι κ b,.string d,ι κ t,rt] 67 (0,0))
 k1:w.heap[h]?=η (χ #[ι κ k,ι κ c,ι κ q,ι κ n] 32 (0,0))
theorem DV.next{b t:Int}{q:Int}(H:DV g h o b t d rt k c q n w)(hb:Below w w w'):DV g h o b t d rt k c q n w':=
 ⟨(hb.block g (yC.1 H.k0).1).trans H.k0,(hb.block h (yC.1 H.k1).1).trans H.k1⟩
theorem DV.cs{b t:Int}{q:Int}(H:DV g h o b t d rt k c q n w):w.cell? g=η o/\w.cell? ⟨g,1,ν⟩=η (ι κ b)/\w.cell? ⟨g,2,ν⟩=η d/\w.cell? ⟨g,3,ν⟩=η (ι κ t)/\w.cell? ⟨g,4,ν⟩=η rt/\w.cell? h=η (ι κ k)/\w.cell? ⟨h,1,ν⟩=η (ι κ c)/\w.cell? ⟨h,2,ν⟩=η (ι κ q)/\w.cell? ⟨h,3,ν⟩=η (ι κ n):=
 ⟨yG H.k0 0,yG H.k0 1,yG H.k0 2,yG H.k0 3,yG H.k0 4,yG H.k1 0,yG H.k1 1,yG H.k1 2,yG H.k1 3⟩
theorem Zx.putT{cs:Array ω}(hk:w.heap[g]?=η (χ cs T (0,0)))(hT:T≠127)(hS:∀ b,S b->b≠g)(xs:List ω)(o:Nat):∀ {l:List zi} {v:ω},Zx w A S l v->Zx (putN w g o xs) A S l v
 | [],_,h=>h
 | m :: r,v,h=>by
  obtain⟨b,q,t,p,v',bl,jv,h1,h2,h3,h4,h4',h5,h6,h7,h8⟩:=h;have a:b≠g:=fun e=>by
   subst e;rw[hk]at h3;injection h3 with h3;injection h3 with _ h _;exact hT h
  exact⟨b,q,t,p,v',bl,jv,h1,h2,(qg a xs o).trans h3,h4.keep (fun x hx=>qg (hS x (h4' x hx)) xs o),h4',h5,h6,zj.keep (fun k hk=>qg (hS k hk) xs o) (fun _ hk=>hk) _ _ h7,Zx.putT hk hT hS xs o h8⟩
theorem atM_vs (vs : List zi) (m : zi) (p : ZJ) : ((Ql vs m p).vs = vs ∨ (Ql vs m p).vs = qI (vs ++ [⟨m.no + 1, p.doc, Zp p.ops⟩])) ∧ ((Ql vs m p).pn.ops = p.ops ∨ (Ql vs m p).pn.ops = []) := by
  unfold Ql
  split
  · exact ⟨.inr rfl, .inr rfl⟩
  · split
    · exact ⟨.inl rfl, .inr rfl⟩
    · split
      · exact ⟨.inl rfl, .inr rfl⟩
      · unfold WU
        split
        · exact ⟨.inl rfl, .inl rfl⟩
        · exact ⟨.inl rfl, .inr rfl⟩
structure AtC (a : Wm) : Prop where
  len : a.vs.length ≤ 9
  tch : ∀ m ∈ a.vs, m.touched.length ≤ 1048576
  ops : a.pn.ops.length ≤ 1048576
theorem atM_C {vs : List zi} {m : zi} {p : ZJ} (h8 : vs.length ≤ 8) (hs : YL vs) (hz : p.ops.length ≤ 1048576) : AtC (Ql vs m p) := by
  obtain ⟨h1, h3⟩ := atM_vs vs m p
  refine ⟨?_, fun x hx => ?_, by rcases h3 with h | h <;> rw [h] <;> simp [hz]⟩
  · rcases h1 with h | h <;> rw [h]
    · omega
    · simp only [qI, List.length_drop, List.length_append, List.length_singleton]; omega
  · have ht := Cs p.ops
    rcases h1 with h | h <;> rw [h] at hx
    · exact (FG hs hx).1
    · rcases List.mem_append.1 (List.mem_of_mem_drop hx) with hx | hx
      · exact (FG hs hx).1
      · rw [List.mem_singleton] at hx; subst hx; simp only; omega
theorem AU(s o:ω)(vs:List zi)(p:ZJ)(bl cl:List Nat)(w:Wo)(h:zu Zi w s vs bl)(ho:zu Qc w o p.ops cl)(hs:YL vs)(hz:Yj p.ops)(hd:p.doc.size<=1048576)(hw:qS w)(hg:Ye w):
  δ prog 9 #[γ #[s],γ #[o,ι κ p.base,p.doc,ι κ p.tries]] w (Dm (Qm vs p) w):=by
 obtain⟨xa,xc,rfl,-,-⟩:=h.form;obtain⟨oa,oc,rfl,-,-⟩:=ho.form;have hA:=AW.new w (ς xa vs.length xc) (ς oa p.ops.length oc) p;have HS:=zb (zfk _ vs bl _ (h.below hA.2) hs (hw.up hA.2));have HO:=zb ho;have HW:Hid (∀ wx,Below w w wx->qS wx/\Ye wx):=fun wx hx=>⟨hw.up hx,hg.up hx⟩;have HI:Hid (YL vs/\Yj p.ops/\p.doc.size<=1048576/\Yj p.ops):=⟨hs,hz,hd,hz⟩;clear h ho hs hz hd hw hg;go_in;go_wp2_with fail;generalize ((((w.alloc _).alloc _).alloc _).alloc _).alloc _=wA at *;obtain⟨hA1,hA2⟩:=hA;go_call uh HS as e w1 ⟨b1,hno,hyes⟩;have A:=zb (hA1.next b1);have C:=zb (zh hA2 b1);clear HS b1 hA1 hA2
 cases hok:qV vs with
 | false=>
  obtain rfl:=hno hok;have HX:=zb (Dk (p:=p) hok);obtain⟨c2,⟨p0,p1,p2,p3⟩,⟨v0,v1,v2,v3⟩,f2,f3,f4⟩:=A.ac;clear hok hno hyes;go_wp2;refine bodyPost_ret (Gu rfl (uh A) rfl rfl rfl rfl) rfl ?_;rw[uh HX];exact Gv (a:=VI) (uh C) (Nat.lt_succ_self _) (zu.nil _ _) (ZO.nil _) (Yr _ _)
 | true=>
  obtain⟨hv,rfl,hch⟩:=hyes hok;obtain⟨k,d,r,hl,h8,I⟩:=Wl hok;have hX:=FF (p:=p) hok I;obtain⟨z,hp,ah,hn0,hn1⟩:=CB hok;have hnk:0<=vs[k].no/\vs[k].no<=2000000:=by have:=ah k d;exact⟨by omega,by omega⟩
  have hcm:=zhJ hok I (Zp p.ops) p.base;obtain⟨F,Y,Z,v⟩:=uh HI;have hB:=atM_C (m:=vs[k]) h8 F v.2;generalize vs[k]=m at *;have ag:=hch;rw[I,QW]at ag;obtain⟨y,q,t,pp,nx,ib,jv,rfl,-,hkb,-,hrr,-,ai,-⟩:=ag;have HRP:=zb (zhT y m.no m.doc q nx (φ t pp) _ p cl w1 hkb (HO.below (uh C)) v Z (uh HW w1 (uh C)).1);have HCH:=zb hch;have ar:=zb hkb;have HRR:=zb hrr;have HRE:=zb ai;have P:=zb I;have HCM:=zb hcm;have O:=zb hnk;have HBB:=zb hB;have HX:=zb hX;obtain⟨q0,q1,q2,q3⟩:=qE.of A.k1;clear hno hyes hok hch hkb hrr ai I hcm hnk hB hX hl h8 d hp ah hn0 hn1 F Y Z v;go_wp2_with fail;go_call uh HRP as e w3 ⟨b3,hno,hyes⟩;have M:=zb (A.next b3);have am:=zb (zh (uh C) b3);have D:=zb b3;clear HRP b3 q0 q1 q2 q3 A
  cases hpk:QM m.no p with
  | false=>
   obtain rfl:=hno hpk;have HY:Hid (Qm vs p=VI):=by show _=_;rw[uh HX,hpk];rfl
   have U:=zG w3 (χ #[ς ν 0 0,ι κ 0,σ ⟨#[]⟩,ι κ 0,.nilIface] 67);have B:=zb (M.next U);have N:=zb (zh (uh am) U);obtain⟨c2,⟨p0,p1,p2,p3⟩,⟨v0,v1,v2,v3⟩,f2,f3,f4⟩:=B.ac;clear hpk hno hyes U;go_wp2;refine bodyPost_ret (Gu rfl (uh B) rfl rfl rfl rfl) rfl ?_;rw[uh HY];exact Gv (a:=VI) (uh N) (Nat.lt_succ_self _) (zu.nil _ _) (ZO.nil _) (Yr _ _)
  | true=>
   obtain⟨jd,td,rd,hr1,hr2,rfl,hr3⟩:=hyes hpk;have HY:Hid (Qm vs p=Ql vs m p):=by show _=_;rw[uh HX,hpk];rfl
   have V:0<=p.base/\p.base<=m.no/\0<=p.tries/\p.tries<=4:=by
    simp only[QM,Δ,decide_eq_true_eq]at hpk;exact⟨hpk.1.1.1.1.2,hpk.1.1.1.2,hpk.1.2,hpk.2⟩
   have U:=zG w3 (χ #[ς oa p.ops.length oc,ι κ p.base,p.doc,ι κ p.tries,φ td rd] 67);have kD:=yH w3 (χ #[ς oa p.ops.length oc,ι κ p.base,p.doc,ι κ p.tries,φ td rd] 67);have zD:(w3.alloc (χ #[ς oa p.ops.length oc,ι κ p.base,p.doc,ι κ p.tries,φ td rd] 67)).heap.size=w3.heap.size+1:=by simp
   have R:=zh (uh D) U;have n:=zh (uh am) U;have hS:∀ k,k<w3.heap.size->k<(w3.alloc (χ #[ς oa p.ops.length oc,ι κ p.base,p.doc,ι κ p.tries,φ td rd] 67)).heap.size:=fun k d=>by omega
   have X:Zx (w3.alloc (χ #[ς oa p.ops.length oc,ι κ p.base,p.doc,ι κ p.tries,φ td rd] 67)) (fun _=>True) (fun k=>k<w3.heap.size) vs.reverse y:=
    Zx.up R (fun k d=>d) (fun k d=>yF d D.size) (QW.toG (ye _) (uh HCH))
   have H:=zj.keep (fun k d=>U.block k d) (fun _ d=>d) _ _ hr3;obtain⟨F,Y,Z,v⟩:=uh HI;have G:=HO.below n;have hT:=fun wx (hx:Below w w wx)=>CZ _ p.ops cl wx (HO.below hx) Y (uh HW wx hx).1;have HAT:=zb (zhX (fun k=>k<w3.heap.size) vs vs.reverse m r (uh P) rfl _ _ p td rd cl _ hS X G V.2.2.1 V.2.2.2 (uh HCM)
    (fun wx hx=>zhQ _ vs.reverse m r (uh P) _ _ p td rd jd cl wx (fun k d=>yF (hS k d) hx.size) (Zx.up hx hS (fun _ d=>d) X) (G.below hx) hr1 hr2 (zj.keep (fun k d=>hx.block k (hS k d)) (fun _ d=>d) _ _ H) (uh O).1 (uh O).2 (fun wy hy=>hT wy (zh (zh n hx) hy)))
    (fun wx hx=>zhI _ vs.reverse m r (uh P) _ _ p _ cl wx (Zx.up hx hS (fun _ d=>d) X) (G.below hx) (.inr ⟨_,_,rfl⟩) V.1 (uh O).2 (fun wy hy=>hT wy (zh (zh n hx) hy))
     (fun wy xa ya xb xo xc yb yo yc b hy h1 h2 hm=>zbe _ _ _ _ _ _ _ _ _ b wy (uh HW wy (zh (zh n hx) hy)).1.ml h1 h2 (NB v.1) (by obtain⟨m,hm,rfl⟩:=hm;exact FG F (List.mem_reverse.1 hm))))
    (fun wx hx=>zhG y m.no m.doc q nx t pp jv _ p.ops 0 (p.tries+1) wx (((zh R hx).block y (yC.1 (uh ar)).1).trans (uh ar)) (uh HRR) ((show zX w1 jv (φ t pp)from uh HRE).next (zh R hx)) (Ct (G.below hx)) v (uh HW wx (zh n hx)).1 (uh HW wx (zh n hx)).2))
   have B:=zb (M.next U);have N:=zb n;have au:=zb kD;have Q:=zb zD;have HGD:=zb M.lt;have HBB2:=zb (uh HBB);clear hno hyes hpk hr1 hr2 hr3 U kD zD R n hS X H F Y Z v G hT V HX HCH ar HRR HRE P HCM O HBB HI HO M am D C HW;generalize Ql vs m p=a at *;obtain⟨aw,⟨f,ab,ad,x⟩,ak,ac,aq,an⟩:=a;go_wp2_with fail;generalize w3.alloc _=w4 at *;generalize w3.heap.size=g at *;go_call uh HAT as e w5 ⟨v5,o5,rt,rfl,ch5,op5,hrt,b5⟩;simp only at ch5 op5;obtain⟨K,L,rfl⟩:=JU op5;obtain⟨av5,rfl⟩:=ch5.ptr;have u:=zG w5 (χ #[ι κ 0,ι κ 0,ι κ 0,ι κ 0] 32);have aa:=yH w5 (χ #[ι κ 0,ι κ 0,ι κ 0,ι κ 0] 32);have h45:=b5.size;have hzD:=uh Q;have hgD:=uh HGD;have J:=(u.block g (by omega)).trans ((b5.block g (by omega)).trans (uh au));obtain⟨wY,i⟩:∃ wY,wY=putN (w5.alloc (χ #[ι κ 0,ι κ 0,ι κ 0,ι κ 0] 32)) g 0 [ς K f.length L,ι κ ab,ad,ι κ x,rt]:=⟨_,rfl⟩;obtain⟨l,j⟩:∃ l,l=putN wY w5 0 [ι κ ak,ι κ ac,ι κ aq,ι κ an]:=⟨_,rfl⟩;have kY0:wY.heap[g]?=η (χ #[ς K f.length L,ι κ ab,ad,ι κ x,rt] 67 (0,0)):=by rw[i];exact qG J _ rfl
   have af:wY.heap[w5.heap.size]?=η (χ #[ι κ 0,ι κ 0,ι κ 0,ι κ 0] 32 (0,0)):=by rw[i];exact (qg (by omega) _ _).trans aa
   have HDV:Hid (DV g w5 (ς K f.length L) ab x ad rt ak ac aq an l):=by
    show DV _ _ _ _ _ _ _ _ _ _ _ _
    rw[j];exact⟨(qg (by omega) _ _).trans kY0,qG af _ rfl⟩
   have al:Hid (AW w (ς xa vs.length xc) (ς oa p.ops.length oc) p l):=by
    show AW _ _ _ _ _
    rw[j,i];exact ((B.next b5).next u).kp fun k _ d=>(qg (by omega) _ _).trans (qg (by omega) _ _)
   have HOZ:Hid (zT l 0 (ς K f.length L) f):=by
    show zT _ _ _ _
    rw[j];refine XM ?_ af (by decide) _ _;rw[i];exact XM (Zl op5 u) J (by decide) _ _
   have HCZ:Hid (Zx l (fun _=>True) (SN (fun k=>k<g) w4 w5) aw.reverse (.pointer av5)):=by
    show Zx _ _ _ _ _
    rw[j];refine Zx.putT af (by decide) (fun b y=>?_) _ _ ?_
    .rcases y with y | y<;>omega
    .rw[i];refine Zx.putT J (by decide) (fun b y=>?_) _ _ ?_
     .rcases y with y | y<;>omega
     .exact Zx.up u (fun k d=>by rcases d with d | d<;>omega) (fun _ d=>d) ch5
   have HBZ:Hid (Below w w l):=by
    show Below _ _ _
    rw[j,i];exact ZA (ZA (zh (zh (uh N) b5) u) (by omega) _ _) (by omega) _ _
   have hzZ:l.heap.size=w5.heap.size+1:=by rw[j,i,FZ,FZ];simp
   have HZ5:Hid (w.heap.size+1+1+1+1<g/\g<w5.heap.size/\∀ k,SN (fun k=>k<g) w4 w5 k->k<l.heap.size):=⟨hgD,by omega,fun k d=>by rcases d with d | d<;>omega⟩;rw[i]at j;have HWZ:=zb j;obtain⟨g0,g1,g2,g3,g4⟩:=Jd.of ((u.block g (by omega)).trans ((b5.block g (by omega)).trans (uh au)));have fD:=yJ J;obtain⟨e0,e1,e2,e3⟩:=qE.of aa;have fN:=yJ aa;have nd:¬ g=w5.heap.size:=by omega
   have nd':¬ w5.heap.size=g:=by omega
   have aj:=hrt;have HRT:=zb aj;clear HAT ch5 op5 b5 u aa h45 hzD hgD J j i kY0 af hzZ aj B N au Q HGD;rcases hrt with rfl |⟨t3,p3,rfl⟩
   all_goals (
    go_wp2_with fail;change Code.wp _ _ _ _ (putN (putN (w5.alloc _) g 0 [_,_,_,_,_]) w5 0 [_,_,_,_]);rw[← uh HWZ]
    first | generalize Value.iface t3 p3=rt at * | generalize Value.nilIface=rt at *
    clear g0 g1 g2 g3 g4 e0 e1 e2 e3 fD fN nd nd' HWZ;generalize w5.heap.size=gN at *;have E:Below l l l.drew:=(yI _ _).drew;have hz5:=uh HZ5;have W:=uh HBB2;have av:=zb (zfC _ aw.reverse _ l.drew (Zx.up E hz5.2.2 (fun _ d=>d) (uh HCZ)) (by have:=W.len;simp only[Β]at *;omega) (fun m hm=>by have:=W.tch m (List.mem_reverse.1 hm);omega));rw[List.reverse_reverse]at av;have HT2:Hid (∀ wx,Below l l wx->δ prog 31 _ wx _):=fun wx hx=>zhE _ f 0 ab x ad _ wx (Zl (uh HOZ) hx) (by have:=W.ops;simp only at this;omega) (uh HRT);have ao:=zb (fun wx (hx:Below l l wx)=>(HDV.next hx).cs);have S0:=zb (uh ao _ E);have d1':¬ w.heap.size+1+1=g:=by omega
    have d2':¬ w.heap.size+1+1+1=g:=by omega
    have d3':¬ w.heap.size+1+1+1+1=g:=by omega
    have Q:=zb ((al.next E).lt);have HDR:=zb E;have n1':¬ w.heap.size+1+1=gN:=by omega
    have n2':¬ w.heap.size+1+1+1=gN:=by omega
    have n3':¬ w.heap.size+1+1+1+1=gN:=by omega
    clear hz5 W E HCZ HOZ;go_region_held3 (fun w'=>w'.cell? g=η (ς K f.length L)/\w'.cell? ⟨g,1,ν⟩=η (ι κ ab)/\w'.cell? ⟨g,2,ν⟩=η ad/\w'.cell? ⟨g,3,ν⟩=η (ι κ x)/\w'.cell? ⟨g,4,ν⟩=η rt/\w'.cell? gN=η (ι κ ak)/\w'.cell? ⟨gN,1,ν⟩=η (ι κ ac)/\w'.cell? ⟨gN,2,ν⟩=η (ι κ aq)/\w'.cell? ⟨gN,3,ν⟩=η (ι κ an))
     (first | with_reducible exact uh S7 | with_reducible exact uh S6 | with_reducible exact uh S0 |(simp only[QD n1',QD n2',QD n3',QD d1',QD d2',QD d3'];with_reducible exact uh S7))
     (first
     |(
       go_simp;refine HT3.mono ?_;rintro e w7 ⟨v7,rfl,o7,b7⟩;obtain⟨a7,n7,rfl⟩:=JU o7;have T:=zh S b7;have hA7:=al.next T;obtain⟨c2,⟨p0,p1,p2,p3⟩,⟨v0,v1,v2,v3⟩,f2,f3,f4⟩:=hA7.ac;have S7:=zb (uh ao w7 T))
     |(
       go_simp;refine av.mono ?_;rintro e w6 ⟨v6,bl6,rfl,o6,f6,b6⟩;obtain⟨a6,n6,rfl,-,-⟩:=o6.form;have S:Below l l w6:=⟨b6.os,b6.tape,b6.output,b6.size,b6.block⟩;have S6:=zb (uh ao w6 S);have HT3:=zb (uh HT2 w6 S)))
    all_goals (
     have HA7:=zb hA7;have HO7:=zb o7;have HB7:=zb (zh (uh HBZ) T);have HV7:=zb (o6.below b7);have HF7:=zb f6;have HS7:=zb b6.size;clear hA7 o7 T b7 o6 f6 b6 S av HT2 HT3 HDV al HBZ;go_wp2;refine bodyPost_ret (Gu rfl (uh HA7) rfl rfl rfl rfl) rfl ?_;rw[uh HY];exact Gv (a:=⟨aw,⟨f,ab,ad,x⟩,ak,ac,aq,an⟩) (uh HB7) (uh Q) (uh HV7) (uh HF7) (qN (uh HO7) (uh HS7))))
def Ud(vs:List zi)(tch:List Bs)(base:Int)(j:Nat):Bool:=decide (base+1<(vs.head?.map (·.no)).getD 0) ||(vs.take j).any fun m=>decide (base<m.no) && qM tch m.touched
theorem zhY{j:Nat}(hj:j<vs.length):Ud vs tch base (j+1)=(Ud vs tch base j ||(decide (base<vs[j].no) && qM tch vs[j].touched)):=by
 unfold Ud;rw[yz hj,List.any_append,List.any_cons,List.any_nil,Ζ,Bool.or_assoc]
theorem zhZ(vs:List zi)(tch:List Bs)(base:Int):Ud vs tch base vs.length=meets vs tch base:=by unfold Ud meets;rw[List.take_length]
theorem zh0(h:0<vs.length):Ud vs tch base 0=decide (base+(1:Int)<vs[0].no):=by
 cases vs with
 | nil=>cases h
 | cons a r=>unfold Ud;rw[List.take_zero,List.any_nil,Ζ];rfl
theorem zh1(xa:Option Addr)(xb xo xc:Nat)(l:List UInt8)(w:Wo)(hw:qS w)(hg:Ye w)(h:BS w xa xb xo l)(hc:l.length<=xc):
  δ prog 4 #[ς xa l.length xc] w fun e w'=>e=ε (θ ξ)/\Below w w w':=by
 by_cases hl:l.length<=1048576
 .have tl:((1048576:Int)<(l.length:Int))=False:=yR om;have HDA:=zb fun wx (hx:BS wx xa xb xo l)=>zfz xa xb xo xc l wx hx hl hc;have HD1:=zb (HDA w h);obtain⟨h1,h2,h3⟩:=zfg (l.take 1200);have HW:=zb hw;have HG:=zb hg;have HH:=zb h;clear h hc hl hw hg;generalize WW (l.take 1200)=D at *;obtain⟨vs,p⟩:=D;simp only at h1 h2 h3;have G:=zb (And.intro h1 (And.intro h2 h3));clear h1 h2 h3;go_in;go_wp2_with fail;go_call HD1 as e w1 ⟨sv,pv,bl,cl,rfl,o1,o2,b1⟩;obtain⟨sa,sc,rfl,-,hsa⟩:=o1.form;obtain⟨pa,pc,rfl,-,-⟩:=o2.form;have f:=YU w1 (χ #[ς sa vs.length sc] 25) (χ #[ς pa p.ops.length pc,ι κ p.base,p.doc,ι κ p.tries] 30);have o:Hid (Q1 w xa xb xo l w1 (w1.heap.size+1) (ς sa vs.length sc) (ς pa p.ops.length pc) vs p bl cl ((w1.alloc (χ #[ς sa vs.length sc] 25)).alloc (χ #[ς pa p.ops.length pc,ι κ p.base,p.doc,ι κ p.tries] 30))):=⟨f.k0,f.k1,o1.below f.bel,o2.below f.bel,(qS.up HW b1).up f.bel,(Ye.up HG b1).up f.bel,(BS.below HH b1).below f.bel,zh b1 f.bel⟩;have HSA:=zb hsa;clear HD1 o1 o2 b1 f HW HG HH hsa;have HAT:=zb (NI _ _ vs p bl cl _ o.r3 o.r4 G.1 G.2.1 G.2.2);have HCA:=zb (zhM (vs:=vs) (p:=p));obtain⟨A,f⟩:∃ A,Qm vs p=A:=⟨_,rfl⟩;rw[f]at HAT;have HA:=zb f;clear f;have c3:=Zj o.k3;obtain⟨I,s,c42,c43⟩:=Z3 o.k4;go_wp2_with fail;generalize (w1.alloc _).alloc _=w2 at *;generalize w1.heap.size+1=g4 at *;generalize w1.heap.size=g3 at *;go_call HAT as e w3 ⟨v3,vo3,bl3,rfl,o3,-,q3,b3⟩;obtain⟨a3,n3,rfl,-,-⟩:=o3.form;obtain⟨qa3,qn3,rfl⟩:=JU q3;have f:=Us w3 (χ #[ς a3 A.vs.length n3] 25) (χ #[ς qa3 A.pn.ops.length qn3,ι κ A.pn.base,A.pn.doc,ι κ A.pn.tries] 30) (χ #[ι κ A.kind,ι κ A.code,ι κ A.pos,ι κ A.no] 32);have HS4:=zb ((Q1.next o b3).next f.bel);have K:=zb f.k2;have HD2:=zb (HDA _ HS4.bs);clear HAT o o3 q3 b3 f c3 I s c42 c43 HDA;go_wp2_with fail;generalize ((w3.alloc _).alloc _).alloc _=w4 at *;generalize w3.heap.size+1+1=g7 at *;go_call HD2 as e w5 ⟨v5,vo5,bl5,Va,rfl,o5,q5,b5⟩;obtain⟨a5,n5,rfl,-,-⟩:=o5.form;obtain⟨qa5,qn5,rfl,-,-⟩:=q5.form;have f:=YU w5 (χ #[ς a5 vs.length n5] 25) (χ #[ς qa5 p.ops.length qn5,ι κ p.base,p.doc,ι κ p.tries] 30);have u:=zh b5 f.bel;have U:=zb (Q1.next HS4 u);have C:=zb ((u.block g7 (yC.1 K).1).trans K);have y:=zb (AU _ _ vs p bl5 Va _ (o5.below f.bel) (q5.below f.bel) G.1 G.2.1 G.2.2 U.rd U.ty);rw[uh HA]at y;have c8:=Zj f.k0;obtain⟨c90,c91,c92,c93⟩:=Z3 f.k1;clear HD2 HS4 K o5 q5 b5 f u;go_wp2_with fail;generalize (w5.alloc _).alloc _=w6 at *;go_call y as e w7 ⟨v7,vo7,bl7,rfl,o7,-,q7,b7⟩;obtain⟨a7,n7,rfl,-,-⟩:=o7.form;obtain⟨qa7,qn7,rfl⟩:=JU q7;have f:=Us w7 (χ #[ς a7 A.vs.length n7] 25) (χ #[ς qa7 A.pn.ops.length qn7,ι κ A.pn.base,A.pn.doc,ι κ A.pn.tries] 30) (χ #[ι κ A.kind,ι κ A.code,ι κ A.pos,ι κ A.no] 32);have u:=zh b7 f.bel;have n:=zb (Q1.next U u);have E:=zb ((u.block g7 (yC.1 C).1).trans C);have R:Hid (Q1 w xa xb xo l w7 (w7.heap.size+1) (ς a7 A.vs.length n7) (ς qa7 A.pn.ops.length qn7) A.vs A.pn bl7 _ _):=⟨f.k0,f.k1,o7.below f.bel,q7.orow.1.below f.bel,n.rd,n.ty,n.bs,n.bel⟩;obtain⟨d0,d1,d2,d3⟩:=Z3 E;obtain⟨e0,e1,e2,e3⟩:=Z3 f.k2;clear y U C o7 q7 b7 f u c8 c90 c91 c92 c93;go_upto_region 9 with fail;generalize ((w7.alloc _).alloc _).alloc _=w8 at *;generalize w7.heap.size+1+1=g12 at *;generalize w7.heap.size+1=g11 at *;generalize w7.heap.size=g10 at *;clear e0 e1 e2 e3 d1 d2 d3;by_cases x:A.kind=1∨A.kind=3
  .obtain⟨k,hkl,hM⟩:=HCA (by rw[uh HA];exact x);have HM:=zb hM;clear HCA hM;go_cut [62]from 55 to 62 (fun v wx=>v=θ ζ/\w8=wx)
   case first=>
    rcases x with x | x
    .have q1:(A.kind !=1)=ζ:=by rw[x];rfl
     go_wp2;go_meet
     case rel=>exact⟨rfl,rfl⟩
    .have q1:(A.kind !=1)=ξ:=by rw[x];rfl
     have q3:(A.kind !=3)=ζ:=by rw[x];rfl
     go_wp2;go_meet
     case rel=>exact⟨rfl,rfl⟩
   obtain⟨rfl,rfl⟩:=hcut;have HK:=zb x;clear x d0;obtain⟨N,rfl⟩:=HSA om;obtain⟨us,ib,hE,J,-⟩:=n.r3.at (yy (show 0<vs.length by omega));obtain⟨q,rfl,-⟩:=hE;have n0:w8.cell? N=η (ι κ vs[0].no):=(J 0 _ rfl).1;have c3:=Zj n.k3;obtain⟨-,s,-,-⟩:=Z3 n.k4;have HM0:=zb (zh0 (vs:=vs) (tch:=Zp p.ops) (base:=p.base) om);have hb1:IntKind.i64.wrap (p.base+1)=p.base+1:=by have:=HM.b0;rw[Ε];omega
   have hl8:=HM.l8;clear J;generalize vs[0].no=z at *;go_upto_region 11 with fail;go_quiet (fail);have r:Below w8 w8 (w8.drewN nq):=Up _ _ _;have V:=zb (Q1.next n r);have S:=zb (Q1.next R r);have X:=zb ((r.block g7 (yC.1 E).1).trans E);rw[← uh HM0];clear n R E r c3 s n0 HM0 hb1;generalize w8.drewN nq=w9 at *;generalize hT:Zp p.ops=T at *;have HT:=zb hT;clear hT;go_wp2_with fail;go_loopw [13,14] (fun b i wr=>∃ (j:Nat),i=ι κ (j:Int)/\j<=vs.length/\b=θ (Ud vs T p.base j)/\Hid (Q1 w xa xb xo l g3 g4 (ς (η N) vs.length sc) (ς pa p.ops.length pc) vs p bl cl wr)/\Hid (Q1 w xa xb xo l g10 g11 (ς a7 A.vs.length n7) (ς qa7 A.pn.ops.length qn7) A.vs A.pn bl7 _ wr)/\Hid (wr.heap[g7]?=η (χ #[ι κ A.kind,ι κ A.code,ι κ A.pos,ι κ A.no] 32 (0,0)))) (fun _ i _=>vs.length - (intOf i).toNat)
   case atStart=>exact⟨0,rfl,yu _,rfl,V,S,X⟩
   case round=>
    clear V S X;obtain⟨j,rfl,hj,rfl,o,R,K⟩:=hrel;have c3:=Zj o.k3;by_cases hlt:j<vs.length
    .have hltI:(j:Int)<(vs.length:Int):=om;obtain⟨us,ib,hE,J,-⟩:=o.r3.at (yy hlt);obtain⟨q,rfl,hq⟩:=hE;obtain⟨ta,gt,tc,rfl,hss⟩:=hq.ss;have n0:wr.cell? ⟨N,j*3,ν⟩=η (ι κ vs[j].no):=(J 0 _ rfl).1;have n2:wr.cell? ⟨N,j*3+2,ν⟩=η (ς ta vs[j].touched.length tc):=(J 2 _ rfl).1;have B:=zb (zhY (tch:=T) (base:=p.base) hlt);have HSS:=zb hss;have HSZ:=zb (FG G.1 (yt hlt));obtain⟨I,s,-,-⟩:=Z3 o.k4;have KAA:Hid (∀ w',Below wr wr w'->w'.cell? g3=η (ς (η N) vs.length sc)/\w'.cell? ⟨N,j*3,ν⟩=η (ι κ vs[j].no)/\w'.cell? ⟨N,j*3+2,ν⟩=η (ς ta vs[j].touched.length tc)/\w'.cell? g4=η (ς pa p.ops.length pc)/\w'.cell? ⟨g4,1,ν⟩=η (ι κ p.base)):=fun w' hx=>by
      have k:∀ {a:Addr} {v:ω},wr.cell? a=η v->w'.cell? a=η v:=fun e=>(hx.cell (yK _ _ e)).trans e;exact⟨k c3,k n0,k n2,k I,k s⟩
     clear J hq hss;generalize vs[j]=m at *;by_cases P:p.base<m.no
     .have hbT:(p.base<m.no)=True:=eq_true P;rw[yj P,Bool.true_and]at B;have Z:Below wr wr wr.drew:=(yI _ _).drew;have HTC:=zb (zhP _ p.ops cl wr.drew (o.r4.below Z) G.2.1 (o.rd.up Z));rw[uh HT]at HTC;have HTS:=zb (NB G.2.1.1);rw[uh HT]at HTS;go_upto_region 15 with fail;go_region_held3 (fun w'=>w'.cell? g3=η (ς (η N) vs.length sc)/\w'.cell? ⟨N,j*3,ν⟩=η (ι κ m.no)/\w'.cell? ⟨N,j*3+2,ν⟩=η (ς ta m.touched.length tc)/\w'.cell? g4=η (ς pa p.ops.length pc)/\w'.cell? ⟨g4,1,ν⟩=η (ι κ p.base)) (first | exact⟨c3,n0,n2,I,s⟩ | exact KA | exact KB) (first
       |(
         go_simp;go_call zbe ra ta gr 0 rc gt 0 tc T m.touched wa H.rd.ml HSr HSm HTS HSZ as e wb ⟨rfl,bb⟩;have M:=zb (Q1.next H bb);have HNb:=zb (Q1.next g bb);have E:=zb ((bb.block g7 (yC.1 C).1).trans C);have KB:=zb (KAA wb (zh HBA bb));clear H g C bb KA HSr HSm)
       |(
         go_simp;go_call HTC as e wa ⟨ra,gr,rc,rfl,hra,ba⟩;have F:=zh Z ba;have H:=zb (Q1.next o F);have g:=zb (Q1.next R F);have C:=zb ((F.block g7 (yC.1 K).1).trans K);have HSr:=zb hra;have HSm:=zb (SS.below HSS F);have KA:=zb (KAA wa F);have HBA:=zb F;clear F ba hra HTC))
      clear o R K Z c3 I s n0 n2 KAA KB hbT P HSS HTS HSZ HBA;generalize qM T m.touched=cb at *
      cases cb
      .rw[Ζ]at B;go_wp2;go_roundw
       all_goals first
        | exact⟨j+1,by go_num,om,by rw[uh B],M,HNb,E⟩
        |(simp[intOf];omega)
      .rw[Bool.or_true]at B;go_wp2;go_roundw
       all_goals first
        | exact⟨j+1,by go_num,om,by rw[uh B],M,HNb,E⟩
        |(simp[intOf];omega)
     .have hbF:(p.base<m.no)=False:=yR P;rw[yk P,Bool.false_and,Ζ]at B;go_upto_region 15 with fail;go_quiet (fail);have r:Below wr wr (wr.drewN nq):=Up _ _ _;have V:=zb (Q1.next o r);have S:=zb (Q1.next R r);have X:=zb ((r.block g7 (yC.1 K).1).trans K);clear o R K r c3 I s n0 n2;go_wp2;go_roundw
      all_goals first
       | exact⟨j+1,by go_num,om,by rw[uh B],V,S,X⟩
       |(simp[intOf];omega)
    .have hltI:¬ (j:Int)<(vs.length:Int):=om;obtain rfl:j=vs.length:=om;rw[zhZ];obtain⟨d0,-,-,-⟩:=Z3 K;rcases uh HK with x | x
     .have q3:(A.kind ==3)=ζ:=by rw[x];rfl
      obtain⟨hml,d,t,hap,hdz,hat,O⟩:=HM.run (by rw[uh HA];exact x);rw[uh HT]at hml O;rw[hml];obtain rfl:A=⟨vs,⟨p.ops,vs[k].no,d,t⟩,1,0,0,0⟩:=HA.symm.trans hat;obtain⟨k2,hk2,l2,h82,Q⟩:=zhN vs ⟨vs[k].no+1,d,T⟩;generalize qI (vs++[⟨vs[k].no+1,d,T⟩])=ws at *;have hno:=HM.no _ (yt hkl);have hdk:=(G.1 k hkl).1;have HLW:=zb (AR _ vs bl k wr o.r3 hkl HM.len HM.l8);generalize vs[k]=m at *;have L:=zb fun wx v bl h=>AR v ws bl k2 wx h hk2 l2 h82;rw[Q]at L;have aa:=zb O;have HAP:=zb fun wx (hx:Q1 w xa xb xo l g3 g4 (ς (η N) vs.length sc) (ς pa p.ops.length pc) vs p bl cl wx)=>zhz m.doc _ p.ops cl wx hx.r4 G.2.1 hdk hx.rd hx.ty;rw[hap]at HAP;have hw1:IntKind.i64.wrap (m.no+1)=m.no+1:=by rw[Ε];omega
      clear hat O hap hml Q l2 h82 hdk HA HM HK x K;go_wp2_with fail;go_call HLW as e wa ⟨ta,tc,rfl,-,ba⟩;have hb:=ZF wa (χ #[ι κ m.no,m.doc,ς ta m.touched.length tc] 37);have H:=zb ((Q1.next o ba).next hb);have g:=zb ((Q1.next R ba).next hb);have KV:=zb (yH wa (χ #[ι κ m.no,m.doc,ς ta m.touched.length tc] 37));have y:=zb (AU _ _ vs ⟨p.ops,m.no,d,t⟩ bl7 _ _ g.r3 g.r4 G.1 G.2.1 (by simp only;omega) g.rd g.ty);rw[uh aa]at y;have c0:=Zj g.k3;obtain⟨f0,f1,f2,f3⟩:=Z3 g.k4;clear HLW o R ba hb c3 d0 q3 aa;go_wp2_with fail;generalize wa.alloc _=wb at *;generalize wa.heap.size=gv at *;go_call y as e wc ⟨v8,vo8,bl8,rfl,o8,-,q8,b8⟩;obtain⟨a8,n8,rfl,-,-⟩:=o8.form;obtain⟨qa8,qn8,rfl⟩:=JU q8;have f:=Us wc (χ #[ς a8 ws.length n8] 25) (χ #[ς qa8 Jb.ops.length qn8,ι κ Jb.base,Jb.doc,ι κ Jb.tries] 30) (χ #[ι κ 2,ι κ 0,ι κ 0,ι κ (m.no+1)] 32);have u:=zh b8 f.bel;have M:=zb (Q1.next H u);have KVb:=zb ((u.block gv (yC.1 KV).1).trans KV);have KW:=zb f.k2;have HL2:=zb (L _ _ _ (o8.below f.bel));have c8:=Zj f.k0;clear y H g KV o8 q8 b8 f u c0 f0 f1 f2 f3 L;go_wp2_with fail;generalize ((wc.alloc _).alloc _).alloc _=wd at *;generalize wc.heap.size+1+1=gw at *;go_call HL2 as e we ⟨ta2,tc2,rfl,-,b9⟩;have hb:=ZF we (χ #[ι κ (m.no+1),d,ς ta2 T.length tc2] 37);have u:=zh b9 hb;have W:=zb (Q1.next M u);have Y:=zb ((u.block gv (yC.1 KVb).1).trans KVb);have KWc:=zb ((u.block gw (yC.1 KW).1).trans KW);have KH:=zb (yH we (χ #[ι κ (m.no+1),d,ς ta2 T.length tc2] 37));have HQ:=zb (HAP _ W);obtain⟨-,x1,-⟩:=Yl Y;obtain⟨x4,-,-,-⟩:=Z3 W.k4;clear HL2 M KVb KW b9 hb u c8 HAP;go_wp2_with fail;generalize we.alloc _=wf at *;generalize we.heap.size=gh at *;go_call HQ as e wg ⟨rfl,b10⟩;obtain⟨y0,-,-⟩:=Yl ((b10.block gv (yC.1 Y).1).trans Y);obtain⟨z0,-,-,-⟩:=Z3 ((b10.block gw (yC.1 KWc).1).trans KWc);obtain⟨u0,u1,-⟩:=Yl ((b10.block gh (yC.1 KH).1).trans KH);have HB:=zb (zh W.bel b10);clear HQ W Y KWc KH b10 x1 x4;go_wp2;go_ret;exact⟨rfl,HB⟩
     .have q3:(A.kind ==3)=ξ:=by rw[x];rfl
      have hmt:=HM.conf (by rw[uh HA];exact x);rw[uh HT]at hmt;rw[hmt];have HB:=zb o.bel;clear hmt;go_wp2;go_ret;exact⟨rfl,HB⟩
  .have q1:(A.kind !=1)=ξ:=by rw[bne_iff_ne];omega
   have q3:(A.kind !=3)=ξ:=by rw[bne_iff_ne];omega
   have HB:=zb n.bel;go_wp2;go_ret;exact⟨rfl,HB⟩
 .have tl:((1048576:Int)<(l.length:Int))=True:=eq_true om;go_in;go_wp2;go_ret;exact⟨rfl,yI _ _⟩
theorem zh2(hL:laidMetH prog Rows.fnCarriedRow.laid W):AJ W:=by
 have h : laidMet Tryz.prog Py W ∧ handlesMet Tryz.prog [("errors.errorType", Rows.laid_errors_errorType)] W := hL
 exact⟨⟨zhm h.1,zhp h.1,zhn h.1⟩,zht h.2⟩
theorem zh3(xa:Option Addr)(xb xo xc:Nat)(l:List UInt8)(w:Wo)(h:BS w xa xb xo l)(hc:l.length<=xc)(hm:ML w)(hv:AJ w):
  δ prog 4 #[ς xa l.length xc] w fun e w'=>e=ε (θ ξ)/\Below w w w':=zh1 xa xb xo xc l w ⟨Qd.of hv.1.1,hv.1.2.1,hv.1.2.2,hm⟩ hv.2 h hc
