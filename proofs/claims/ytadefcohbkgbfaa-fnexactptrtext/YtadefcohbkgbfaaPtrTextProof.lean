import Derived.Test.YtadefcohbkgbfaaPtrTextLaw
namespace Go.Proofs.Ytadefcohbkgbfaa
open Go.ChangeShapes Go.WideShapes Go.ChangeAt Go.RowKit
open Go.ChangeMaps (open_string shut_string)

theorem own : ownKnob Try.prog.godebug = none := by kernel_rfl
theorem laidOut : laidOutB Try.prog = true := by kernel_rfl

set_option maxRecDepth 100000 in
theorem ptrText_lifted (os : Os) (started : os.Started) (H : Type) (enc : TypeId × Value → H) :
    ReturnsInHanded {} Try.checked os 3 .any (Rows.fnExactPtrTextSpec.pre6 enc Try.prog Try.f3 Rows.fnExactPtrTextRow.domain false) (Rows.fnExactPtrTextSpec.post enc Try.prog Try.f3 false true false false) := by
  refine returnsInHanded_of_change (C := Try.checked) own started (by kernel_rfl) Try.func3
    (ChangeSpec.witness6 (enc := enc) (C := Try.checked) false ⟨#[], #[.slice none 0 0], []⟩ 8 (by kernel_rfl) (by kernel_rfl) (by kernel_rfl) (by kernel_rfl)) ?_
  intro W base args ds gs before hval0 hW hcnd _
  have hval : ∀ (j : Nat) t v, Try.f3.params[j]? = some t → args[j]? = some v → Value.okWide Try.prog W .any base t v := hval0
  have hW' := hW
  obtain ⟨p, q, hA0, hV, rfl, hfz, hnd⟩ := hW
  have hA : DataW.TrodAll enc Try.prog W 0 (fun _ => true) true Try.f3.params.toList args.toList ds p := hA0
  rw [Try.params3] at hA hval
  obtain ⟨v0, vs0, d0, ds0, p0, q0, hargs, rfl, rfl, h0, r0⟩ := trodAll_cons hA
  obtain ⟨rfl, rfl, rfl⟩ := trodAll_nil r0
  obtain rfl : args = #[v0] := by cases args; simp_all
  obtain ⟨rfl, rfl⟩ := trodVars_none hV
  obtain ⟨a0, len0, cap0, rfl⟩ := okWide_slice Try.underlying22 (hval 0 22 v0 rfl rfl)
  have k0 := h0
  have lt0 : ∀ x ∈ p0, x.block < W.heap.size := by obtain ⟨m, hm⟩ := k0; exact DataW.trod_lt m _ _ _ hm
  obtain ⟨xb, xo, ss, rfl, hSS, hm, hws⟩ : ∃ xb xo ss, len0 = List.length ss ∧ SS W a0 xb xo ss ∧ ss.length ≤ maxLen ∧ ∀ j, (ss.getD j ByteArray.empty).size ≤ maxLen := by
    obtain ⟨fuel, hf⟩ := h0
    rcases open_strings Try.underlying22 Try.underlying9 (by kernel_rfl) hf with ⟨hcs, _⟩ | ⟨x, l, c, zs, hcs, _, hl, hm, hz, _, hcell, hwz⟩
    · simp [Value.cells] at hcs
      obtain ⟨rfl, rfl, rfl⟩ := hcs
      exact ⟨0, 0, [], rfl, ⟨fun h => absurd h (by simp), fun j hj => absurd hj (by simp)⟩, by simp, fun j => by show ByteArray.empty.size ≤ maxLen; exact Nat.zero_le _⟩
    · simp [Value.cells] at hcs
      obtain ⟨rfl, rfl, rfl⟩ := hcs
      obtain ⟨b, off, spot⟩ := x
      have hz' : zs.length = cap0 := by simpa using hz
      have hlt : (zs.take len0).length = len0 := by rw [List.length_take]; omega
      have hg : ∀ j, j < len0 → (zs.take len0).getD j ByteArray.empty = zs.getD j ByteArray.empty := fun j hj => by simp [List.getD, hj]
      by_cases h0 : len0 = 0
      · subst h0
        exact ⟨0, 0, [], rfl, ⟨fun h => absurd h (by simp), fun j hj => absurd hj (by simp)⟩, by simp, fun j => by show ByteArray.empty.size ≤ maxLen; exact Nat.zero_le _⟩
      · have hc := hcell 0 (by omega)
        have hspot : spot = none := by simpa [Addr.add] using World.cell?_spot hc
        subst hspot
        refine ⟨b, off, zs.take len0, hlt.symm, ⟨fun _ => rfl, fun j hj => ?_⟩, by omega, fun j => ?_⟩
        · have hcj := hcell j (by omega)
          rw [Go.WideShapes.add_plain] at hcj
          rw [hg j (by omega)]; exact hcj
        · by_cases hj : j < len0
          · rw [hg j hj]
            have : zs.getD j ByteArray.empty ∈ zs := by
              have hj' : j < zs.length := by omega
              simp [List.getD, hj']
            exact hwz _ this
          · have : (zs.take len0).getD j ByteArray.empty = ByteArray.empty := by simp [List.getD, List.getElem?_take, hj]
            rw [this]; exact Nat.zero_le _
  clear hA0 hval0
  refine (ptrTextLaw_walk a0 xb xo cap0 ss W hSS hm hws).mono fun e W' ⟨he, bel⟩ => ?_
  subst he
  exact ⟨_, rfl, _, _, _, [], _, [], hW', trodAll_mk1 (shut_bool Try.underlying4 _), (trodAll_cons_mk (Below.trod laidOut (by kernel_rfl) (of_decide_eq_true (by kernel_rfl)) k0 bel lt0) trodAll_mk0), rfl, bel.frame _, fun h => by cases h⟩

theorem ptrText_holds : Rows.FnExactPtrTextSaid :=
  OpenClaim.holds_of_wide 3 Try.f3 rfl rfl rfl rfl rfl rfl rfl ⟨rfl, rfl, rfl, rfl, rfl⟩ rfl rfl rfl rfl rfl (by kernel_rfl) Try.func3 (by kernel_rfl)
    (of_decide_eq_true (by kernel_rfl)) (by unfold Func.isWrapper; first | (rw [if_pos (by decide +kernel)]; kernel_rfl) | (rw [if_neg (by decide +kernel)]; exact ⟨rfl, rfl⟩))
    (fun os started H enc _ => ptrText_lifted os started H enc)
#print axioms ptrText_holds
end Go.Proofs.Ytadefcohbkgbfaa
