import Derived.Test.YtlfonikfjibloaaGreatDoorBt42
namespace Go.Proofs.YtlfonikfjibloaaGreatDoor
open Go.RowKit

theorem subH_sz {h : Hb} {c : Int} {p : ByteArray} {r v : Int} (hs : szHb h ≤ 1048576) (hp : p.size ≤ 1048576) : szHb (subH h c p r v) ≤ 2097154 ∧ (∀ x ∈ (subH h c p r v).watches, szWat x ≤ 1048577) ∧ (∀ x ∈ (subH h c p r v).waiting, x.ptrs.length ≤ 1048577) := by
  have hz1 : szWats h.watches ≤ 1048577 := by unfold szHb at hs; omega
  have hz2 : szNwss h.waiting ≤ 1048577 := by unfold szHb at hs; omega
  have hs1 : ∀ x ∈ h.watches, szWat x ≤ 1048577 := fun x hx => by
    obtain ⟨k, hk, rfl⟩ := List.mem_iff_getElem.1 hx
    have h1 := sum_take_snoc szWat h.watches k h.watches[k] (List.getElem?_eq_getElem hk)
    have h2 := sum_take_le (h.watches.map szWat) (k + 1)
    rw [← List.map_take] at h2
    unfold szWats at hz1; omega
  have hs2 : ∀ x ∈ h.waiting, x.ptrs.length ≤ 1048577 := fun x hx => by
    obtain ⟨k, hk, rfl⟩ := List.mem_iff_getElem.1 hx
    have h1 := sum_take_snoc szNws h.waiting k h.waiting[k] (List.getElem?_eq_getElem hk)
    have h2 := sum_take_le (h.waiting.map szNws) (k + 1)
    rw [← List.map_take] at h2
    unfold szNwss at hz2
    have h3 : h.waiting[k].ptrs.length ≤ szNws h.waiting[k] := by unfold szNws szStr; omega
    omega
  unfold subH
  by_cases h0 : subC c p r = 0
  · rw [if_pos h0]
    have hw : szWat (subW c p r v) = p.size := by simp [subW, szWat, szMsgs]
    have hcz := canH_sz (c := c) hs
    have hcw : (canH h c).waiting = h.waiting := rfl
    refine ⟨?_, fun x hx => ?_, hs2⟩
    · show szWats ((canH h c).watches ++ [subW c p r v]) + szNwss h.waiting ≤ 2097154
      unfold szHb at hcz
      rw [hcw] at hcz
      unfold szWats at hcz ⊢
      simp [hw]
      omega
    · rcases List.mem_append.1 hx with hx | hx
      · rcases findI_cases h.watches c with h1 | ⟨j, _, h1, _⟩
        · rw [canH_none h1] at hx; exact hs1 x hx
        · rw [canH_some h1] at hx; exact hs1 x (List.mem_of_mem_eraseIdx hx)
      · simp at hx
        rw [hx, hw]; omega
  · rw [if_neg h0]
    exact ⟨by omega, hs1, hs2⟩

set_option maxHeartbeats 1600000 in
set_option maxRecDepth 100000 in
theorem implSubscribe_walk (v : Value) (h : Hb) (client : Int) (ptr : ByteArray) (room ver : Int) (bl : List Nat) (w : World) (ho : OHub w v h bl) (hML : ML w) (hp : ptr.size ≤ 1048576) (hs : szHb h ≤ 1048576) :
    Calls Tryz.prog 22 #[v, .int .i64 client, .string ptr, .int .i64 room, .int .i64 ver] w fun e w' => ∃ v' bl', e = .returned (.tuple #[v', .int .i64 (subC client ptr room)]) ∧ OHub w' v' (subH h client ptr room ver) bl' ∧ Fsh w.heap.size bl' ∧ Below w.heap.size w w' := by
  obtain ⟨p, q, i1, i2, rfl, o1, o2, rfl⟩ := ho
  have HO : Hid (OHub w (.agg #[p, q]) h (i1 ++ i2)) := ⟨p, q, i1, i2, rfl, o1, o2, rfl⟩
  have hsb : szHb h ≤ 1048577 := by omega
  have hz1 : szWats h.watches ≤ 1048577 := by unfold szHb at hs; omega
  have hz2 : szNwss h.waiting ≤ 1048577 := by unfold szHb at hs; omega
  have hl1 : h.watches.length ≤ 1048577 := by unfold szWats at hz1; omega
  obtain ⟨hse, hs1', hs2'⟩ := subH_sz (c := client) (p := ptr) (r := room) (v := ver) hs hp
  have HS1 := hide hs1'
  have HS2 := hide hs2'
  have HML := hide hML
  clear o1 o2 hz1 hz2 hs1' hs2' hML
  go_enter Tryz.func22, Tryz.ntmps22
  go_wp2_with fail
  have hA := new2 w (Obj.cells #[p, q] 47) (Obj.cells #[Value.slice none 0 0, Value.slice none 0 0] 47)
  generalize ((w.alloc (Obj.cells #[p, q] 47)).alloc (Obj.cells #[Value.slice none 0 0, Value.slice none 0 0] 47)) = wA at *
  have hsz := hA.size
  refine (readHub_walk _ h (i1 ++ i2) wA ((unhide HO).below hA.bel) hsb).mono ?_
  rintro e w1 ⟨B, bv, cv, cb, bw, rfl, hB, hBn, _, hpn, _, b1⟩
  have hz1 := b1.size
  have B1 := below_next hA.bel b1
  have k1 := (b1.block (w.heap.size + 1) (by omega)).trans hA.k1
  have HM := hide (subBrd_walk B h bv cv 0 h.waiting.length h.waiting cb bw client ptr room ver w1 hB ((unhide HML).below B1) hp wA.heap.size hBn hpn hz1 hl1)
  have HB1 := hide B1
  have HK1 := hide k1
  clear hA b1 B1 k1 hB HO hpn
  go_wp2_with fail
  refine (unhide HM).mono ?_
  rintro e w2 ⟨b2, pv', bw', rfl, hB2⟩
  have hs1' := unhide HS1
  have hs2' := unhide HS2
  have hse' := hse
  clear HS1 HS2 hse
  obtain ⟨h', hh'⟩ : ∃ h', subH h client ptr room ver = h' := ⟨_, rfl⟩
  obtain ⟨cd, hcd⟩ : ∃ cd, subC client ptr room = cd := ⟨_, rfl⟩
  rw [hh'] at hB2 hs1' hs2' hse'
  rw [hcd]
  have hz2 := b2.size
  have B2 : Below w.heap.size w w2 := (unhide HB1).trans (b2.mono (by omega))
  have k2 := (b2.block (w.heap.size + 1) (by omega)).trans (unhide HK1)
  have HTL := hide (tellHub_walk B _ pv' cv 0 h.waiting.length h.waiting cb bw' w2 hB2 hse' hs1' hs2')
  have HB2 := hide B2
  have HK2 := hide k2
  have HH := hide hh'
  have HCD := hide hcd
  clear b2 hB2 B2 k2 HM HB1 HK1 hse' hs1' hs2' hh' hcd
  go_wp2_with fail
  refine (unhide HTL).mono ?_
  rintro e w3 ⟨v3, bl3, rfl, o3, f3, b3⟩
  obtain ⟨p3, q3, j1, j2, rfl, po, qo, rfl⟩ := o3
  obtain ⟨pa, pc, rfl, hp1, hp2⟩ := po.form
  obtain ⟨qa, qc, rfl, hq1, hq2⟩ := qo.form
  have k3 := (b3.block (w.heap.size + 1) (by omega)).trans (unhide HK2)
  have hz3 := b3.size
  have r0 : w3.cell? ⟨w.heap.size + 1, 0, none⟩ = some (.slice none 0 0) := Lib.cell_of_heap k3 0
  have r1 : w3.cell? ⟨w.heap.size + 1, 1, none⟩ = some (.slice none 0 0) := Lib.cell_of_heap k3 1
  have fr := Lib.frozen_of_heap k3
  have HB3 := hide (below_next (unhide HB2) b3)
  have HPO := hide po
  have HQO := hide qo
  have HF3 := hide f3
  have HK3 := hide k3
  clear b3 po qo f3 k3 hp1 hp2 hq1 hq2 HTL HB2 HK2
  go_wp2
  refine bodyPost_ret (results_cell_tmp rfl _ _ (w.heap.size + 1) 47 #[_, _] (0, 0) _ _ rfl rfl (putN_full (unhide HK3) [_, _] rfl) Tryz.underlying47 rfl (by kernel_rfl)) rfl ?_
  have hn : w.heap.size + 1 ∉ j1 ++ j2 := fun hm => by have := (unhide HF3).2 _ hm; omega
  have n1 : w.heap.size + 1 ∉ j1 := fun hm => hn (List.mem_append.2 (.inl hm))
  have n2 : w.heap.size + 1 ∉ j2 := fun hm => hn (List.mem_append.2 (.inr hm))
  rw [unhide HH, unhide HCD]
  exact ⟨_, j1 ++ j2, rfl, ⟨_, _, j1, j2, rfl, (unhide HPO).putN n1 [_, _] 0, (unhide HQO).putN n2 [_, _] 0, rfl⟩, (unhide HF3).mono (by omega), putN_below (g := w.heap.size + 1) (unhide HB3) (by omega) [_, _] 0⟩
end Go.Proofs.YtlfonikfjibloaaGreatDoor
