import Derived.Test.YtekpghcckdjnhaaGreatDoorBz44
import Derived.Test.YtekpghcckdjnhaaGreatDoorBz46
namespace Go.Proofs.YtekpghcckdjnhaaGreatDoor
open Go.ChangeShapes Go.WideShapes Go.ChangeAt Go.RowKit
open Go.ChangeMaps (open_string shut_string)

set_option maxRecDepth 100000 in
theorem CR (H:Type) (enc:TypeId × Value -> H) (W:Wo) (base:Nat) (args:Array Value) (ds gs:List (DataW H)) (before:List MemPlace)
    (hval:∀ (j:Nat) t v,Tryz.f4.params[j]? =some t -> args[j]? =some v -> Value.okWide Tryz.prog W .any base t v)
    (hW:DataW.Whole enc Tryz.prog Tryz.f4.params.toList Rows.fnExactAttemptSpec.vars false W args.toList ds gs before) (hL:laidMetH Tryz.prog Rows.fnExactAttemptRow.laid W) (hsh:W.ShapedOpen Tryz.prog):
    Calls Tryz.prog 4 args W fun e W' => ∃ v,e= .returned v /\ Rows.fnExactAttemptSpec.post enc Tryz.prog Tryz.f4 false true false false W args v W':=by
  have hW':=hW;obtain ⟨p,q,hA0,hV,rfl,hfz,hnd⟩:=hW;have hA:DataW.TrodAll enc Tryz.prog W 0 (fun _ => true) true Tryz.f4.params.toList args.toList ds p:=hA0;rw [Tryz.params4]at hA hval;obtain ⟨v0,vs0,d0,ds0,p0,q0,hargs,rfl,rfl,h0,r0⟩:=trodAll_cons hA;obtain ⟨v1,vs1,d1,ds1,p1,q1,rfl,rfl,rfl,h1,r1⟩:=trodAll_cons r0;obtain ⟨rfl,rfl,rfl⟩:=trodAll_nil r1;obtain rfl:args=#[v0,v1]:=by cases args;simp_all
  obtain ⟨rfl,rfl⟩:=trodVars_none hV;obtain ⟨cs0,rfl,hcs0⟩:=okWide_struct Tryz.underlying24 (hval 0 24 v0 rfl rfl);have k0:=h0;have lt0:∀ x ∈ p0,x.block<W.heap.size:=by obtain ⟨m,hm⟩:=k0;exact DataW.trod_lt m _ _ _ hm
  obtain ⟨ms0,hR0⟩:∃ ms,YN W (.agg cs0) ms:=by
    obtain ⟨fuel,hf⟩:=h0;obtain ⟨x,xs,hc,hr⟩:=zar hf;have e:cs0=#[x]:=by
      have:cs0.toList=[x]:=hc
      cases cs0;simp_all
    subst e;exact ⟨xs,hr⟩
  obtain ⟨cs1,rfl,hcs1⟩:=okWide_struct Tryz.underlying45 (hval 1 45 v1 rfl rfl);have k1:=h1;have lt1:∀ x ∈ p1,x.block<W.heap.size:=by obtain ⟨m,hm⟩:=k1;exact DataW.trod_lt m _ _ _ hm
  obtain ⟨ms1,hR1⟩:∃ ms,YU W (.agg cs1) ms /\ ms.doc.size<=maxLen:=by
    obtain ⟨fuel,hf⟩:=h1;exact zdl hf
  clear hA0;refine (zfI _ ms0 _ ms1 W hR0 hR1 (ML.of hsh) (zfH hL)).mono fun e W' ⟨he,bel⟩ => ?_;subst he;exact ⟨_,rfl,_,_,_,[],_,[],hW',trodAll_mk1 (shut_bool Tryz.underlying4 _),trodAll_cons_mk (Below.trod Cm (by kernel_rfl) (of_decide_eq_true (by kernel_rfl)) k0 bel lt0) (trodAll_cons_mk (Below.trod Cm (by kernel_rfl) (of_decide_eq_true (by kernel_rfl)) k1 bel lt1) trodAll_mk0),rfl,bel.frame _,fun h => by cases h⟩

theorem CS(os:Os):laidMetH Tryz.prog Rows.fnExactAttemptRow.laid ((Rw os).forCall (fun _ _ => 0) ⟨#[],#[.agg #[.slice none 0 0],.agg #[.slice none 0 0,.int .i64 0,.string ⟨#[]⟩,.int .i64 0]],[]⟩).memory:=
  laidMetH_of_parts (laidMet_of_run' 8 (by kernel_rfl) (by kernel_rfl)) (by kernel_rfl)
theorem CT(os:Os){H:Type}(enc:TypeId × Value -> H):∃ places,DataW.whole enc Tryz.prog ((Rw os).forCall (fun _ _ => 0) ⟨#[],#[.agg #[.slice none 0 0],.agg #[.slice none 0 0,.int .i64 0,.string ⟨#[]⟩,.int .i64 0]],[]⟩).memory Tryz.f4.params.toList Rows.fnExactAttemptSpec.vars false (#[.agg #[.slice none 0 0],.agg #[.slice none 0 0,.int .i64 0,.string ⟨#[]⟩,.int .i64 0]]:Array Value).toList 8=some ([.agg [.nil],.agg [.nil,.lit (.int .i64 0),.lit (.string []),.lit (.int .i64 0)]],[],places):=
  ⟨[],by kernel_rfl⟩

set_option maxRecDepth 100000 in
theorem CU(os:Os)(started:os.Started)(H:Type)(enc:TypeId × Value -> H)(F:Stop.Interp):
    ReturnsInHanded {} Tryz.checked os 4 .any ((OpenSpec.ofChange Rows.fnExactAttemptSpec).preRow enc Tryz.prog Tryz.f4 Rows.fnExactAttemptRow.domain false Rows.fnExactAttemptRow.laid) (((OpenSpec.ofChange Rows.fnExactAttemptSpec).at F).post enc Tryz.prog Tryz.f4 false true false false):=by
  obtain ⟨places,hx⟩:=CT os enc
  refine returnsInHanded_of_row (C := Tryz.checked) (s := OpenSpec.ofChange Rows.fnExactAttemptSpec) own started (by kernel_rfl) Tryz.func4
    (witness_row_at (enc := enc) (C := Tryz.checked) false (Rw os) #[.agg #[.slice none 0 0], .agg #[.slice none 0 0, .int .i64 0, .string ⟨#[]⟩, .int .i64 0]] rfl (by kernel_rfl) (by kernel_rfl) (by kernel_rfl)
      (OpenSpec.preRow_of_cond 8 hx (by kernel_rfl) (fun k hk => by cases hk) (by kernel_rfl) (CS os))) ?_
  intro W base args ds gs before hval hW _ _ _ hL hsh _;exact CR H enc W base args ds gs before hval hW hL hsh
end Go.Proofs.YtekpghcckdjnhaaGreatDoor
