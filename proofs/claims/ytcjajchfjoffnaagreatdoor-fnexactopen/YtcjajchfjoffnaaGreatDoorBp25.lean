import Derived.Deep.RegionWith
import Derived.Deep.RegionLaw
import Derived.Test.YtcjajchfjoffnaaGreatDoorBp23
import Derived.Test.YtcjajchfjoffnaaGreatDoorBp1
namespace Go.Proofs.YtcjajchfjoffnaaGreatDoor
open Go.RowKit

theorem sk_idem (s : ByteArray) (i : Nat) : sk s (sk s i) = sk s i := sk_off (sk_end s i)
theorem infoVal : (Tryz.prog.info? 92).map (fun i => (i.zero, i.size, i.bytes)) = some (some .nilIface, 1, 16) := by kernel_rfl
theorem al_below (w : World) (o : Obj) : Below w.heap.size w (w.alloc o) := (Below.refl _ _).alloc (Nat.le_refl _) _
abbrev arrB (sv : Value) : Obj := .cells #[sv] 89 (0, 0)

set_option maxRecDepth 100000 in
set_option maxHeartbeats 4000000 in
/-- The array's two ways that are walked: it is empty, or its first item does not fit. -/
theorem readArray_part (rb : Nat) (s : ByteArray) (i : Nat) (tb kt : Bool) (w : World) (h : Rdr rb s i tb kt w) (hs : s.size ≤ 100000) (h91 : bt s i = 91) (hpart : bt s (sk s (i + 1)) = 93 ∨ val s (sk s (i + 1)) = none)
    (HV : ∀ (j : Nat) (tb' kt' : Bool) (w1 : World), i < j → j ≤ s.size → Rdr rb s j tb' kt' w1 → KB rb w w1 → Calls Tryz.prog 113 #[.pointer (some ⟨rb, 0, none⟩)] w1 (VPost rb s tb' kt' w1 ((val s (sk s j)).map fun q => (q.1, sk s q.2)))) :
    Calls Tryz.prog 181 #[.pointer (some ⟨rb, 0, none⟩)] w (VPost rb s tb kt w (val s i)) := by
  obtain ⟨i0, hi0, hz0, hz1, hz2⟩ := info_parts infoVal
  have hlt := h.lt
  have hi : i < s.size := bt_in (by omega)
  have HVV := hide (val_arr h91)
  have HHV := hide HV
  have k00 := sk_ge s (i + 1)
  have k01 := (sk_le (s := s) (i := i + 1) (by omega)).2
  have k02 := sk_idem s (i + 1)
  have HEX := hide (expect_yes rb s i tb kt _ (h.below (al_below w (arrB (.slice none 0 0)))) (by omega) 91 h91 hi)
  clear h HV h91
  generalize hk0 : sk s (i + 1) = k0 at *
  go_enter Tryz.func181, Tryz.ntmps181
  go_wp2_with fail
  refine (unhide HEX).mono ?_
  rintro e w1 ⟨rfl, r1, k1⟩
  have HSK := hide (skipBlanks_walk rb s (i + 1) tb kt w1 r1 (by omega) (by omega))
  have A1 : Hid (w1.heap[w.heap.size]? = some (arrB (.slice none 0 0))) := (k1.block w.heap.size (by simp) (by omega)).trans (heap_alloc_new w _)
  have K1 := hide ((KB.of_below (rb := rb) (al_below w (arrB (.slice none 0 0)))).trans k1)
  have hs1 : w.heap.size + 1 ≤ w1.heap.size := by have := k1.size; simpa using this
  clear HEX r1 k1
  go_wp2_with fail
  refine (unhide HSK).mono ?_
  rintro e w2 ⟨rfl, r2, k2⟩
  rw [hk0] at r2
  have A2 : Hid (w2.heap[w.heap.size]? = some (arrB (.slice none 0 0))) := (k2.block w.heap.size (by omega) (by omega)).trans (unhide A1)
  have K2 := hide ((unhide K1).trans k2)
  have hs2 : w.heap.size + 1 ≤ w2.heap.size := by have := k2.size; omega
  have R2 := hide r2
  clear HSK r2 k2 A1 K1 hk0
  by_cases h93 : bt s k0 = 93
  · have HS := hide (skip_yes rb s k0 tb kt w2 (unhide R2) (by omega) 93 h93 (bt_in (by omega)))
    have HR : Hid (val s i = some (.arr .nil, k0 + 1)) := by show _ = _; rw [unhide HVV, if_pos h93]
    clear h93
    go_wp2_with fail
    refine (unhide HS).mono ?_
    rintro e w3 ⟨rfl, r3, k3⟩
    have R3 := hide r3
    have A3 : Hid (w3.heap[w.heap.size]? = some (arrB (.slice none 0 0))) := (k3.block w.heap.size (by omega) (by omega)).trans (unhide A2)
    have K3 := hide ((unhide K2).trans k3)
    have hs3 := k3.size
    clear HS r3 k3
    go_wp2
    go_ret
    refine ⟨unhide K3, ?_⟩
    rw [unhide HR]
    refine ⟨_, _, rfl, by simp only [bigV, twV, bigL, twL, Bool.or_false]; exact unhide R3, fun _ _ => ?_⟩
    rw [Rep]
    exact ⟨w.heap.size, .slice none 0 0, [], rfl, ⟨Nat.le_refl _, by omega⟩, unhide A3, ⟨⟨rfl, .inl ⟨rfl, rfl⟩⟩, fun g hg => by cases hg⟩, by rw [RepL]⟩
  · have HS := hide (skip_no rb s k0 tb kt w2 (unhide R2) k01 93 (.inl h93))
    have hn93 := h93
    have HR : Hid (val s i = (elems s k0).map fun q => (.arr q.1, q.2)) := by show _ = _; rw [unhide HVV, if_neg h93]
    clear h93
    go_wp2_with fail
    refine (unhide HS).mono ?_
    rintro e w3 ⟨rfl, r3, k3⟩
    have A3 : Hid (w3.heap[w.heap.size]? = some (arrB (.slice none 0 0))) := (k3.block w.heap.size (by omega) (by omega)).trans (unhide A2)
    have K3 := hide ((unhide K2).trans k3)
    have hs3 := k3.size
    have HC := hide (unhide HHV k0 tb kt w3.drew (by omega) k01 r3 ⟨(unhide K3).os, (unhide K3).tape, (unhide K3).output, (unhide K3).size, (unhide K3).block⟩)
    rw [k02] at HC
    clear HS k3 A2 K2 R2
    have ci : w3.drew.cell? ⟨w.heap.size, 0, none⟩ = some (.slice none 0 0) := Lib.cell_of_heap (unhide A3) 0
    cases hv : val s k0 with
    | none =>
      rw [hv] at HC
      have HN : Hid (val s i = none) := by show _ = _; rw [unhide HR, elems_eq, hv]; rfl
      clear hv
      go_wp2_with fail
      refine wp_region_any (by kernel_rfl) ?_
      try (change wpAny _ _ _ _ _ _ _ (World.drew _))
      refine wpAny_take (i := 0) (v := ?_) rfl (by kernel_rfl) (by kernel_rfl) (by kernel_rfl) (fun _ _ _ h => h) (Or.inl ⟨by rfl, ?_⟩) ?_
      rotate_left 1
      · intro w
        go_simp
        try with_reducible rfl
      refine wpAny_take (i := 1) (v := ?_) rfl (by kernel_rfl) (by kernel_rfl) (by kernel_rfl) (fun _ _ _ h => h) (Or.inl ⟨by rfl, ?_⟩) ?_
      rotate_left 1
      · intro w
        go_simp
        try with_reducible rfl
      refine wpAny_take (i := 2) (v := ?_) rfl (by kernel_rfl) (by kernel_rfl) (by kernel_rfl) (fun _ _ _ h => h) (Or.inl ⟨by rfl, ?_⟩) ?_
      rotate_left 1
      · intro w
        go_simp
        try with_reducible rfl
      refine wpAny_take (i := 3) (v := ?_) rfl (by kernel_rfl) (by kernel_rfl) (by kernel_rfl) (fun _ _ _ h => h) (Or.inl ⟨by rfl, ?_⟩) ?_
      rotate_left 1
      · intro w
        go_simp
        try with_reducible rfl
      refine wpAny_take (i := 5) (v := ?_) rfl (by kernel_rfl) (by kernel_rfl) (by kernel_rfl) (fun _ _ _ h => h) (Or.inl ⟨by rfl, ?_⟩) ?_
      rotate_left 1
      · intro w
        go_simp
        try with_reducible rfl
      refine wpAny_ready (rs := [4, 6]) (by kernel_rfl) (by simp) ?_
      refine AllReady.cons rfl (fun K hK => ?_) ?_
      · go_simp
        refine hK _ _ ?_
        clear hK K
        refine wpAny_ready (rs := [6]) (by kernel_rfl) (by simp) ?_
        refine AllReady.cons rfl (fun K hK => ?_) AllReady.nil
        go_simp
        refine (unhide HC).mono ?_
        rintro e w4 ⟨k4, rfl⟩
        exact ⟨rfl, (unhide K3).trans ⟨k4.os, k4.tape, k4.output, k4.size, k4.block⟩, by rw [unhide HN]; rfl⟩
      · refine AllReady.cons rfl (fun K hK => ?_) AllReady.nil
        go_simp
        refine (unhide HC).mono ?_
        rintro e w4 ⟨k4, rfl⟩
        exact ⟨rfl, (unhide K3).trans ⟨k4.os, k4.tape, k4.output, k4.size, k4.block⟩, by rw [unhide HN]; rfl⟩
    | some q => exact absurd (hpart.elim (fun g => absurd g hn93) (fun g => g.symm.trans hv)) (by simp)
end Go.Proofs.YtcjajchfjoffnaaGreatDoor
