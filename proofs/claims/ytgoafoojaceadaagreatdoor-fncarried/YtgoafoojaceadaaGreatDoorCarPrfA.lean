import Derived.Test.YtgoafoojaceadaaGreatDoorBc20
import Derived.Test.YtgoafoojaceadaaGreatDoorBc21
namespace Go.Proofs.YtgoafoojaceadaaGreatDoor
open Go.ChangeShapes Go.WideShapes Go.ChangeAt Go.RowKit
open Go.ChangeMaps (open_string shut_string)

set_option maxRecDepth 100000 in
theorem zkA (H:Type) (enc:TypeId × Value -> H) (W:Wo) (base:Nat) (args:Array Value) (ds gs:List (DataW H)) (before:List MemPlace)
    (hval:∀ (j:Nat) t v,Tryz.f4.params[j]? =some t -> args[j]? =some v -> Value.okWide Tryz.prog W .any base t v)
    (hW:DataW.Whole enc Tryz.prog Tryz.f4.params.toList Rows.fnCarriedSpec.vars false W args.toList ds gs before) (hL:laidMetH Tryz.prog Rows.fnCarriedRow.laid W) (hsh:W.ShapedOpen Tryz.prog):
    Calls Tryz.prog 4 args W fun e W' => ∃ v,e= .returned v /\ Rows.fnCarriedSpec.post enc Tryz.prog Tryz.f4 false true false false W args v W':=by
  have hW':=hW;obtain ⟨p,q,hA0,hV,rfl,hfz,hnd⟩:=hW;have hA:DataW.TrodAll enc Tryz.prog W 0 (fun _ => true) true Tryz.f4.params.toList args.toList ds p:=hA0;rw [Tryz.params4]at hA hval;obtain ⟨v0,vs0,d0,ds0,p0,q0,hargs,rfl,rfl,h0,r0⟩:=trodAll_cons hA;obtain ⟨rfl,rfl,rfl⟩:=trodAll_nil r0;obtain rfl:args=#[v0]:=by cases args;simp_all
  obtain ⟨rfl,rfl⟩:=trodVars_none hV;obtain ⟨a0,len0,cap0,rfl⟩:=okWide_slice Tryz.underlying22 (hval 0 22 v0 rfl rfl);have k0:=h0;have lt0:∀ x ∈ p0,x.block<W.heap.size:=by obtain ⟨m,hm⟩:=k0;exact DataW.trod_lt m _ _ _ hm
  obtain ⟨bb0,bo0,l0,rfl,hB0,hm0⟩:∃ bb bo l,len0=List.length l /\ BS W a0 bb bo l /\ l.length<=cap0:=by
    obtain ⟨fuel,hf⟩:=h0;rcases open_ints Tryz.underlying22 Tryz.underlying5 (by kernel_rfl) hf with ⟨hcs,_⟩ |⟨x,l,c,zs,hcs,_,hl,hm,hz,_,hcell,hwz⟩
    · simp [Value.cells] at hcs
      obtain ⟨rfl,rfl,rfl⟩:=hcs;exact ⟨0,0,[],rfl,⟨fun h => absurd h (by simp),fun j hj => absurd hj (by simp)⟩,yu _⟩
    · simp [Value.cells] at hcs
      obtain ⟨rfl,rfl,rfl⟩:=hcs;exact zca hl (by simpa using hz) hcell hwz
  clear hA0;refine (zh3 a0 bb0 bo0 cap0 l0 W hB0 hm0 (ML.of hsh) (zh2 hL)).mono fun e W' ⟨he,bel⟩ => ?_;subst he;exact ⟨_,rfl,_,_,_,[],_,[],hW',trodAll_mk1 (shut_bool Tryz.underlying4 _),trodAll_cons_mk (Below.trod zh4 (by kernel_rfl) (of_decide_eq_true (by kernel_rfl)) k0 bel lt0) trodAll_mk0,rfl,bel.frame _,fun h => by cases h⟩

theorem zkB(os:Os):laidMetH Tryz.prog Rows.fnCarriedRow.laid ((Ly os).forCall (fun _ _ => 0) ⟨#[],#[.slice none 0 0],[]⟩).memory:=
  laidMetH_of_parts (laidMet_of_run' 8 (by kernel_rfl) (by kernel_rfl)) (by kernel_rfl)
theorem zkC(os:Os){H:Type}(enc:TypeId × Value -> H):∃ places,DataW.whole enc Tryz.prog ((Ly os).forCall (fun _ _ => 0) ⟨#[],#[.slice none 0 0],[]⟩).memory Tryz.f4.params.toList Rows.fnCarriedSpec.vars false (#[.slice none 0 0]:Array Value).toList 8=some ([.nil],[],places):=
  ⟨[],by kernel_rfl⟩

set_option maxRecDepth 100000 in
theorem zkD(os:Os)(started:os.Started)(H:Type)(enc:TypeId × Value -> H)(F:Stop.Interp):
    ReturnsInHanded {} Tryz.checked os 4 .any ((OpenSpec.ofChange Rows.fnCarriedSpec).preRow enc Tryz.prog Tryz.f4 Rows.fnCarriedRow.domain false Rows.fnCarriedRow.laid) (((OpenSpec.ofChange Rows.fnCarriedSpec).at F).post enc Tryz.prog Tryz.f4 false true false false):=by
  obtain ⟨places,hx⟩:=zkC os enc
  refine returnsInHanded_of_row (C := Tryz.checked) (s := OpenSpec.ofChange Rows.fnCarriedSpec) own started (by kernel_rfl) Tryz.func4
    (witness_row_at (enc := enc) (C := Tryz.checked) false (Ly os) #[.slice none 0 0] rfl (by kernel_rfl) (by kernel_rfl) (by kernel_rfl)
      (OpenSpec.preRow_of_cond 8 hx (by kernel_rfl) (fun k hk => by cases hk) (by kernel_rfl) (zkB os))) ?_
  intro W base args ds gs before hval hW _ _ _ hL hsh _;exact zkA H enc W base args ds gs before hval hW hL hsh
