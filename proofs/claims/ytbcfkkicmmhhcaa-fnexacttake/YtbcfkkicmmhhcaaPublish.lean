import Derived.Test.YtbcfkkicmmhhcaaPush
namespace Go.Proofs.Ytbcfkkicmmhhcaa
open Go.RowKit

set_option maxHeartbeats 800000 in
theorem implPublish_walk (v pv : Value) (h : Hb) (ver : Int) (ps : List ByteArray) (bl bp : List Nat) (w : World) (ho : OHub w v h bl) (hp : OStr w pv ps bp) (hs : szHb h + szStr ps ≤ 1048576) :
    Calls Try.prog 11 #[v, .int .i64 ver, pv] w fun e w' => ∃ v' bl', e = .returned v' ∧ OHub w' v' ⟨h.watches, h.waiting ++ [⟨ver, ps⟩]⟩ bl' ∧ Fsh w.heap.size bl' ∧ Below w.heap.size w w' := by
  have hz1 : szWats h.watches ≤ 1048577 := by unfold szHb at hs; omega
  have hz2 : szNwss h.waiting ≤ 1048577 := by unfold szHb at hs; omega
  have hl2 : h.waiting.length ≤ 1048577 := by unfold szNwss at hz2; omega
  have hpl : ps.length ≤ 1048577 := by unfold szStr at hs; omega
  have hs1 : ∀ x ∈ h.watches, szWat x ≤ 1048577 := fun x hx => by
    obtain ⟨k, hk, rfl⟩ := List.mem_iff_getElem.1 hx
    have h1 := sum_take_snoc szWat h.watches k h.watches[k] (List.getElem?_eq_getElem hk)
    have h2 := sum_take_le (h.watches.map szWat) (k + 1)
    rw [← List.map_take] at h2
    unfold szWats at hz1; omega
  have hs2 : ∀ x ∈ h.waiting ++ [⟨ver, ps⟩], x.ptrs.length ≤ 1048577 := fun x hx => by
    rcases List.mem_append.1 hx with hx | hx
    · obtain ⟨k, hk, rfl⟩ := List.mem_iff_getElem.1 hx
      have h1 := sum_take_snoc szNws h.waiting k h.waiting[k] (List.getElem?_eq_getElem hk)
      have h2 := sum_take_le (h.waiting.map szNws) (k + 1)
      rw [← List.map_take] at h2
      unfold szNwss at hz2
      have h3 : h.waiting[k].ptrs.length ≤ szNws h.waiting[k] := by unfold szNws szStr; omega
      omega
    · simp at hx; subst hx; exact hpl
  have hst : szHb ⟨h.watches, h.waiting ++ [⟨ver, ps⟩]⟩ ≤ 2097154 := by
    unfold szHb szNwss at *
    rw [List.length_append, List.map_append, List.sum_append]
    simp [szNws]
    omega
  obtain ⟨p, q, i1, i2, rfl, o1, o2, rfl⟩ := ho
  obtain ⟨sa, sc, rfl, hsa1, hsa2⟩ := hp.form
  have HO : Hid (OHub w (.agg #[p, q]) h (i1 ++ i2)) := ⟨p, q, i1, i2, rfl, o1, o2, rfl⟩
  have HP := hide hp
  have HS1 := hide hs1
  have HS2 := hide hs2
  have HST := hide hst
  have hsb : szHb h ≤ 1048577 := by omega
  clear o1 o2 hp hz1 hz2 hs1 hs2 hst hsa1 hsa2 hs
  go_enter Try.func11, Try.ntmps11
  go_wp2_with fail
  have hA := new2 w (Obj.cells #[p, q] 32) (Obj.cells #[Value.slice none 0 0, Value.slice none 0 0] 32)
  generalize ((w.alloc (Obj.cells #[p, q] 32)).alloc (Obj.cells #[Value.slice none 0 0, Value.slice none 0 0] 32)) = wA at *
  have hsz := hA.size
  refine (readHub_walk _ h (i1 ++ i2) wA ((unhide HO).below hA.bel) hsb).mono ?_
  rintro e w1 ⟨B, bv, cv, cb, bw, rfl, hB, hBn, _, _, _, b1⟩
  have hz1 := b1.size
  have B1 := below_next hA.bel b1
  have k1 := (b1.block (w.heap.size + 1) (by omega)).trans hA.k1
  have HM := hide (pushNws_walk B h bv cv cb bw ver _ ps bp w1 hB ((unhide HP).below B1) hl2)
  have HB1 := hide B1
  have HK1 := hide k1
  have hBs : B < w1.heap.size := (Array.getElem?_eq_some_iff.1 hB.ko).1
  clear hA b1 B1 k1 hB HO HP
  go_wp2_with fail
  refine (unhide HM).mono ?_
  rintro e w2 ⟨rfl, cv', ns, cb', hB2, f2⟩
  have hz2 := f2.size
  have B2 : Below w.heap.size w w2 := (unhide HB1).trans (f2.below (fun b hb => by simp at hb; omega) (by omega))
  have k2 := (f2.block (w.heap.size + 1) (by omega) (by simp; omega)).trans (unhide HK1)
  have HT := hide (tellHub_walk B _ bv cv' 0 (h.waiting.length + 1) ns cb' bw w2 hB2 (unhide HST) (unhide HS1) (unhide HS2))
  have HB2 := hide B2
  have HK2 := hide k2
  clear f2 hB2 B2 k2 HM HB1 HK1 HST HS1 HS2
  go_wp2_with fail
  refine (unhide HT).mono ?_
  rintro e w3 ⟨v3, bl3, rfl, o3, f3, b3⟩
  obtain ⟨p3, q3, j1, j2, rfl, po, qo, rfl⟩ := o3
  obtain ⟨pa, pc, rfl, hp1, hp2⟩ := po.form
  obtain ⟨qa, qc, rfl, hq1, hq2⟩ := qo.form
  rw [show (Hb.waiting ⟨h.watches, h.waiting ++ [⟨ver, ps⟩]⟩).length = h.waiting.length + 1 from by simp] at qo
  have k3 := (b3.block (w.heap.size + 1) (by omega)).trans (unhide HK2)
  have hz3 := b3.size
  have r0 : w3.cell? ⟨w.heap.size + 1, 0, none⟩ = some (.slice none 0 0) := Lib.cell_of_heap k3 0
  have r1 : w3.cell? ⟨w.heap.size + 1, 1, none⟩ = some (.slice none 0 0) := Lib.cell_of_heap k3 1
  have fr := Lib.frozen_of_heap k3
  have HB3 := hide (below_next (unhide HB2) b3)
  have HPO := hide po
  have HQO := hide qo
  have HF3 := hide f3
  have HK3 := hide k3
  clear b3 po qo f3 k3 hp1 hp2 hq1 hq2 HT HB2 HK2
  go_wp2
  refine bodyPost_ret (results_cell_row rfl _ _ (w.heap.size + 1) 32 #[_, _] (0, 0) _ rfl (putN_full (unhide HK3) [_, _] rfl) Try.underlying32 rfl (by kernel_rfl)) rfl ?_
  have hn : w.heap.size + 1 ∉ j1 ++ j2 := fun hm => by have := (unhide HF3).2 _ hm; omega
  have n1 : w.heap.size + 1 ∉ j1 := fun hm => hn (List.mem_append.2 (.inl hm))
  have n2 : w.heap.size + 1 ∉ j2 := fun hm => hn (List.mem_append.2 (.inr hm))
  refine ⟨_, j1 ++ j2, rfl, ⟨_, _, j1, j2, rfl, (unhide HPO).putN n1 [_, _] 0, ?_, rfl⟩, (unhide HF3).mono (by omega), putN_below (g := w.heap.size + 1) (unhide HB3) (by omega) [_, _] 0⟩
  exact (unhide HQO).putN n2 [_, _] 0
end Go.Proofs.Ytbcfkkicmmhhcaa
