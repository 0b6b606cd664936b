import Derived.Test.YtgoafoojaceadaaGreatDoorBd20
import Derived.Test.YtgoafoojaceadaaGreatDoorBd21
namespace Go.Proofs.YtgoafoojaceadaaGreatDoor
open Go.ChangeShapes Go.WideShapes Go.ChangeAt Go.RowKit
open Go.ChangeMaps (open_string shut_string)

set_option maxRecDepth 100000 in
theorem zbt (H:Type) (enc:TypeId × Value -> H) (W:Wo) (base:Nat) (args:Array Value) (ds gs:List (DataW H)) (before:List MemPlace)
    (hval:∀ (j:Nat) t v,Tryz.f3.params[j]? =some t -> args[j]? =some v -> Value.okWide Tryz.prog W .any base t v)
    (hW:DataW.Whole enc Tryz.prog Tryz.f3.params.toList Rows.fnAloneSpec.vars false W args.toList ds gs before) (hL:laidMetH Tryz.prog Rows.fnAloneRow.laid W) (hsh:W.ShapedOpen Tryz.prog):
    Calls Tryz.prog 3 args W fun e W' => ∃ v,e= .returned v /\ Rows.fnAloneSpec.post enc Tryz.prog Tryz.f3 false true false false W args v W':=by
  have hW':=hW;obtain ⟨p,q,hA0,hV,rfl,hfz,hnd⟩:=hW;have hA:DataW.TrodAll enc Tryz.prog W 0 (fun _ => true) true Tryz.f3.params.toList args.toList ds p:=hA0;rw [Tryz.params3]at hA hval;obtain ⟨v0,vs0,d0,ds0,p0,q0,hargs,rfl,rfl,h0,r0⟩:=trodAll_cons hA;obtain ⟨rfl,rfl,rfl⟩:=trodAll_nil r0;obtain rfl:args=#[v0]:=by cases args;simp_all
  obtain ⟨rfl,rfl⟩:=trodVars_none hV;obtain ⟨a0,len0,cap0,rfl⟩:=okWide_slice Tryz.underlying22 (hval 0 22 v0 rfl rfl);have k0:=h0;have lt0:∀ x ∈ p0,x.block<W.heap.size:=by obtain ⟨m,hm⟩:=k0;exact DataW.trod_lt m _ _ _ hm
  obtain ⟨bb0,bo0,l0,rfl,hB0,hm0⟩:∃ bb bo l,len0=List.length l /\ BS W a0 bb bo l /\ l.length<=cap0:=by
    obtain ⟨fuel,hf⟩:=h0;rcases open_ints Tryz.underlying22 Tryz.underlying5 (by kernel_rfl) hf with ⟨hcs,_⟩ |⟨x,l,c,zs,hcs,_,hl,hm,hz,_,hcell,hwz⟩
    · simp [Value.cells] at hcs
      obtain ⟨rfl,rfl,rfl⟩:=hcs;exact ⟨0,0,[],rfl,⟨fun h => absurd h (by simp),fun j hj => absurd hj (by simp)⟩,yu _⟩
    · simp [Value.cells] at hcs
      obtain ⟨rfl,rfl,rfl⟩:=hcs;exact zcj hl (by simpa using hz) hcell hwz
  clear hA0;refine (zif a0 bb0 bo0 cap0 l0 W hB0 hm0 (ML.of hsh) (zie hL)).mono fun e W' ⟨he,bel⟩ => ?_;subst he;exact ⟨_,rfl,_,_,_,[],_,[],hW',trodAll_mk1 (shut_bool Tryz.underlying4 _),trodAll_cons_mk (Below.trod zig (by kernel_rfl) (of_decide_eq_true (by kernel_rfl)) k0 bel lt0) trodAll_mk0,rfl,bel.frame _,fun h => by cases h⟩

theorem zbu(os:Os):laidMetH Tryz.prog Rows.fnAloneRow.laid ((Ln os).forCall (fun _ _ => 0) ⟨#[],#[.slice none 0 0],[]⟩).memory:=
  laidMetH_of_parts (laidMet_of_run' 8 (by kernel_rfl) (by kernel_rfl)) (by kernel_rfl)
theorem zbv(os:Os){H:Type}(enc:TypeId × Value -> H):∃ places,DataW.whole enc Tryz.prog ((Ln os).forCall (fun _ _ => 0) ⟨#[],#[.slice none 0 0],[]⟩).memory Tryz.f3.params.toList Rows.fnAloneSpec.vars false (#[.slice none 0 0]:Array Value).toList 8=some ([.nil],[],places):=
  ⟨[],by kernel_rfl⟩

set_option maxRecDepth 100000 in
theorem zbw(os:Os)(started:os.Started)(H:Type)(enc:TypeId × Value -> H)(F:Stop.Interp):
    ReturnsInHanded {} Tryz.checked os 3 .any ((OpenSpec.ofChange Rows.fnAloneSpec).preRow enc Tryz.prog Tryz.f3 Rows.fnAloneRow.domain false Rows.fnAloneRow.laid) (((OpenSpec.ofChange Rows.fnAloneSpec).at F).post enc Tryz.prog Tryz.f3 false true false false):=by
  obtain ⟨places,hx⟩:=zbv os enc
  refine returnsInHanded_of_row (C := Tryz.checked) (s := OpenSpec.ofChange Rows.fnAloneSpec) own started (by kernel_rfl) Tryz.func3
    (witness_row_at (enc := enc) (C := Tryz.checked) false (Ln os) #[.slice none 0 0] rfl (by kernel_rfl) (by kernel_rfl) (by kernel_rfl)
      (OpenSpec.preRow_of_cond 8 hx (by kernel_rfl) (fun k hk => by cases hk) (by kernel_rfl) (zbu os))) ?_
  intro W base args ds gs before hval hW _ _ _ hL hsh _;exact zbt H enc W base args ds gs before hval hW hL hsh
