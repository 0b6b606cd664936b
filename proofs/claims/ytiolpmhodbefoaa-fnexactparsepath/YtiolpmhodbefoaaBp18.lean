import Derived.Deep.RegionLaw
import Derived.Test.YtiolpmhodbefoaaBp16
namespace Go.Proofs.Ytiolpmhodbefoaa
open Go.RowKit

set_option maxRecDepth 100000 in
set_option maxHeartbeats 1600000 in
theorem heldSt_walk (v : Value) (ms : List PStep) (bl : List Nat) (k0 : Nat) (w : World) (hv : ORow stepE w v (mkRow mkSt cntSt k0 ms) bl) (h1 : 1 ≤ k0) (h2 : k0 + cntR cntSt ms ≤ 1099200000000) (hln : ms.length ≤ 1000000000) :
    Calls Try.prog 63 #[v, .int .i64 k0] w fun e w' => e = .returned (.int .i64 (k0 + cntR cntSt ms : Nat)) ∧ Below w.heap.size w w' := by
  obtain ⟨a, cap, rfl, hform, hsh⟩ := hv.form
  rw [mkRow_len] at hsh
  have HV := hide hv
  have HSH := hide hsh
  rw [mkRow_len] at HV ⊢
  clear hv hform hsh
  go_enter Try.func63, Try.ntmps63
  go_wp2
  go_loopw [1, 5] (fun q i wr => ∃ (j : Nat), j ≤ ms.length ∧ i = .int .i64 j ∧ q = .int .i64 (k0 + cntR cntSt (ms.take j) : Nat) ∧ Below w.heap.size w wr) (fun _ i _ => ms.length - (intOf i).toNat)
  case atStart => exact ⟨0, Nat.zero_le _, rfl, by simp [cntR], Below.refl _ _⟩
  case round =>
    obtain ⟨j, hj, rfl, rfl, hb⟩ := hrel
    by_cases hlt : j < ms.length
    · obtain ⟨g, rfl⟩ := unhide HSH (by omega)
      have hle2 := cnt_le (c := cntSt) (l := ms) (j := j + 1)
      rw [cnt_succ hlt] at hle2
      have hcm : cntSt ms[j] = 3 := rfl
      have hs := cnt_succ (c := cntSt) hlt
      have hat := mkRow_at (f := mkSt) (c := cntSt) (k := k0) hlt
      generalize hK : k0 + cntR cntSt (ms.take j) = K at *
      generalize ms[j] = m at *
      obtain ⟨vs, ib, hE, hc, hx1, hg, hx2⟩ := ((unhide HV).below hb).at hat
      obtain ⟨rfl, -⟩ := hE
      have c0 : wr.cell? ⟨g, j * 3, none⟩ = some (.bool (((K : Int)) % 3 == 0)) := (hc 0 _ rfl).1
      have c1 : wr.cell? ⟨g, j * 3 + 1, none⟩ = some (.string (mkText (K + 1))) := (hc 1 _ rfl).1
      have c2 : wr.cell? ⟨g, j * 3 + 2, none⟩ = some (.int .i64 ((K : Int) + 1 + 1)) := (hc 2 _ rfl).1
      have hKb : K + 3 ≤ 1099200000000 := by omega
      have hK1 : 1 ≤ K := by omega
      have HM := hide (mark_walk (K + 1) wr.drew (by omega) (by omega))
      have HB := hide hb
      have HS := hide hs
      have HK := hide hK
      have hgr : g < wr.heap.size := World.block_lt_of_cell? _ _ c0
      have hKc : K ≤ 1099200000000 := by omega
      have HKB := hide hKb
      clear hx1 hx2 hc hb hat hle2 hcm hs hK hg h2 hKb
      go_wp2
      go_region_law (go_simp; refine (unhide HM).mono ?_; rintro e w1 ⟨rfl, b1⟩; have bx : Below wr.heap.size wr w1 := ((Below.refl _ _).drew).trans (b1.mono (by simp)); have d1 := (bx.cell (p := ⟨g, j * 3 + 1, none⟩) hgr).trans c1)
      all_goals (
        have d2 := (bx.cell (p := ⟨g, j * 3 + 2, none⟩) hgr).trans c2
        have HB2 := hide (below_next (unhide HB) bx)
        have hKB := unhide HKB
        clear HM HB b1 bx c0 c1 c2 d1
        go_wp2)
      all_goals go_roundw
      all_goals first
        | (refine ⟨j + 1, by omega, by go_num, ?_, unhide HB2⟩
           have hk1 := unhide HK
           have hk2 := unhide HS
           have hk3 : cntSt m = 3 := rfl
           rw [hk2, hk3, ← hk1]; go_num)
        | (simp [intOf]; omega)
    · have hjn : j = ms.length := by omega
      subst hjn
      rw [List.take_length]
      go_wp2
      go_ret
      exact ⟨rfl, hb⟩
set_option maxRecDepth 100000 in
set_option maxHeartbeats 1600000 in
theorem heldFo_walk (v : Value) (ms : List PFOp) (bl : List Nat) (k0 : Nat) (w : World) (hv : ORow fopE w v (mkRow mkFo cntFo k0 ms) bl) (h1 : 1 ≤ k0) (h2 : k0 + cntR cntFo ms ≤ 1099200000000) (hln : ms.length ≤ 1000000000) (hil : ∀ j (hj : j < ms.length), ms[j].steps.length ≤ 1000000000) :
    Calls Try.prog 46 #[v, .int .i64 k0] w fun e w' => e = .returned (.int .i64 (k0 + cntR cntFo ms : Nat)) ∧ Below w.heap.size w w' := by
  obtain ⟨a, cap, rfl, hform, hsh⟩ := hv.form
  rw [mkRow_len] at hsh
  have HV := hide hv
  have HSH := hide hsh
  have HILX := hide hil
  rw [mkRow_len] at HV ⊢
  clear hv hform hsh hil
  go_enter Try.func46, Try.ntmps46
  go_wp2
  go_loopw [1, 5] (fun q i wr => ∃ (j : Nat), j ≤ ms.length ∧ i = .int .i64 j ∧ q = .int .i64 (k0 + cntR cntFo (ms.take j) : Nat) ∧ Below w.heap.size w wr) (fun _ i _ => ms.length - (intOf i).toNat)
  case atStart => exact ⟨0, Nat.zero_le _, rfl, by simp [cntR], Below.refl _ _⟩
  case round =>
    obtain ⟨j, hj, rfl, rfl, hb⟩ := hrel
    by_cases hlt : j < ms.length
    · obtain ⟨g, rfl⟩ := unhide HSH (by omega)
      have hle2 := cnt_le (c := cntFo) (l := ms) (j := j + 1)
      rw [cnt_succ hlt] at hle2
      have hcm : cntFo ms[j] = 4 + cntR cntSt ms[j].steps := rfl
      have hpl := unhide HILX j hlt
      have hs := cnt_succ (c := cntFo) hlt
      have hat := mkRow_at (f := mkFo) (c := cntFo) (k := k0) hlt
      generalize hK : k0 + cntR cntFo (ms.take j) = K at *
      generalize ms[j] = m at *
      obtain ⟨vs, ib, hE, hc, hx1, hg, hx2⟩ := ((unhide HV).below hb).at hat
      obtain ⟨q, rfl, hq⟩ := hE
      have c0 : wr.cell? ⟨g, j * 5, none⟩ = some (.int .i64 ((K : Int))) := (hc 0 _ rfl).1
      have c1 : wr.cell? ⟨g, j * 5 + 1, none⟩ = some (.int .i64 ((K : Int) + 1)) := (hc 1 _ rfl).1
      have c2 : wr.cell? ⟨g, j * 5 + 2, none⟩ = some (.string (mkText (K + 2))) := (hc 2 _ rfl).1
      have c3 : wr.cell? ⟨g, j * 5 + 3, none⟩ = some (.bool (((K : Int) + 1 + 1 + 1) % 3 == 0)) := (hc 3 _ rfl).1
      have c4 : wr.cell? ⟨g, j * 5 + 4, none⟩ = some q := (hc 4 _ rfl).1
      have hKb : K + 4 + cntR cntSt m.steps ≤ 1099200000000 := by omega
      have hK1 : 1 ≤ K := by omega
      have HM := hide (mark_walk (K + 2) wr.drew (by omega) (by omega))
      have HM2 : Hid (∀ wx, Below wr.heap.size wr wx → Calls _ _ _ wx _) := fun wx hx => heldSt_walk q m.steps ib (K + 1 + 1 + 1 + 1) wx (hq.below hx) (by omega) (by omega) hpl
      have HB := hide hb
      have HS := hide hs
      have HK := hide hK
      have hgr : g < wr.heap.size := World.block_lt_of_cell? _ _ c0
      have hKc : K ≤ 1099200000000 := by omega
      have HKB := hide hKb
      clear hx1 hx2 hc hq hb hat hle2 hcm hs hK hg h2 hKb hpl
      go_wp2
      go_region_law (go_simp; refine (unhide HM).mono ?_; rintro e w1 ⟨rfl, b1⟩; have bx : Below wr.heap.size wr w1 := ((Below.refl _ _).drew).trans (b1.mono (by simp)); have d2 := (bx.cell (p := ⟨g, j * 5 + 2, none⟩) hgr).trans c2)
      all_goals (
        have d3 := (bx.cell (p := ⟨g, j * 5 + 3, none⟩) hgr).trans c3
        have d4 := (bx.cell (p := ⟨g, j * 5 + 4, none⟩) hgr).trans c4
        have HM3 := hide (unhide HM2 w1 bx)
        have HB1 := hide (below_next (unhide HB) bx)
        clear HM HM2 HB b1 bx c0 c1 c2 c3 c4 d2
        go_wp2_with fail
        refine (unhide HM3).mono ?_
        rintro e w2 ⟨rfl, b2⟩
        have HB2 := hide (below_next (unhide HB1) b2)
        have hKB := unhide HKB
        clear HM3 HB1 b2 d3 d4
        go_wp2)
      all_goals go_roundw
      all_goals first
        | (refine ⟨j + 1, by omega, by go_num, ?_, unhide HB2⟩
           have hk1 := unhide HK
           have hk2 := unhide HS
           have hk3 : cntFo m = 4 + cntR cntSt m.steps := rfl
           rw [hk2, hk3, ← hk1]; go_num)
        | (simp [intOf]; omega)
    · have hjn : j = ms.length := by omega
      subst hjn
      rw [List.take_length]
      go_wp2
      go_ret
      exact ⟨rfl, hb⟩
set_option maxRecDepth 100000 in
set_option maxHeartbeats 1600000 in
theorem heldSe_walk (v : Value) (ms : List PSel) (bl : List Nat) (k0 : Nat) (w : World) (hv : ORow selE w v (mkRow mkSe cntSe k0 ms) bl) (h1 : 1 ≤ k0) (h2 : k0 + cntR cntSe ms ≤ 1099200000000) (hln : ms.length ≤ 1000000000) (hil : ∀ j (hj : j < ms.length), ms[j].cond.length ≤ 1000000000 ∧ ∀ k (hk : k < ms[j].cond.length), ms[j].cond[k].steps.length ≤ 1000000000) :
    Calls Try.prog 25 #[v, .int .i64 k0] w fun e w' => e = .returned (.int .i64 (k0 + cntR cntSe ms : Nat)) ∧ Below w.heap.size w w' := by
  obtain ⟨a, cap, rfl, hform, hsh⟩ := hv.form
  rw [mkRow_len] at hsh
  have HV := hide hv
  have HSH := hide hsh
  have HILX := hide hil
  rw [mkRow_len] at HV ⊢
  clear hv hform hsh hil
  go_enter Try.func25, Try.ntmps25
  go_wp2
  go_loopw [1, 5] (fun q i wr => ∃ (j : Nat), j ≤ ms.length ∧ i = .int .i64 j ∧ q = .int .i64 (k0 + cntR cntSe (ms.take j) : Nat) ∧ Below w.heap.size w wr) (fun _ i _ => ms.length - (intOf i).toNat)
  case atStart => exact ⟨0, Nat.zero_le _, rfl, by simp [cntR], Below.refl _ _⟩
  case round =>
    obtain ⟨j, hj, rfl, rfl, hb⟩ := hrel
    by_cases hlt : j < ms.length
    · obtain ⟨g, rfl⟩ := unhide HSH (by omega)
      have hle2 := cnt_le (c := cntSe) (l := ms) (j := j + 1)
      rw [cnt_succ hlt] at hle2
      have hcm : cntSe ms[j] = 8 + cntR cntFo ms[j].cond := rfl
      have hpl := unhide HILX j hlt
      have hs := cnt_succ (c := cntSe) hlt
      have hat := mkRow_at (f := mkSe) (c := cntSe) (k := k0) hlt
      generalize hK : k0 + cntR cntSe (ms.take j) = K at *
      generalize ms[j] = m at *
      obtain ⟨vs, ib, hE, hc, hx1, hg, hx2⟩ := ((unhide HV).below hb).at hat
      obtain ⟨q, rfl, hq⟩ := hE
      have c0 : wr.cell? ⟨g, j * 9, none⟩ = some (.int .i64 ((K : Int))) := (hc 0 _ rfl).1
      have c1 : wr.cell? ⟨g, j * 9 + 1, none⟩ = some (.string (mkText (K + 1))) := (hc 1 _ rfl).1
      have c2 : wr.cell? ⟨g, j * 9 + 2, none⟩ = some (.bool (((K : Int) + 1 + 1) % 3 == 0)) := (hc 2 _ rfl).1
      have c3 : wr.cell? ⟨g, j * 9 + 3, none⟩ = some (.bool (((K : Int) + 1 + 1 + 1) % 3 == 0)) := (hc 3 _ rfl).1
      have c4 : wr.cell? ⟨g, j * 9 + 4, none⟩ = some (.bool (((K : Int) + 1 + 1 + 1 + 1) % 3 == 0)) := (hc 4 _ rfl).1
      have c5 : wr.cell? ⟨g, j * 9 + 5, none⟩ = some (.int .i64 ((K : Int) + 1 + 1 + 1 + 1 + 1)) := (hc 5 _ rfl).1
      have c6 : wr.cell? ⟨g, j * 9 + 6, none⟩ = some (.int .i64 ((K : Int) + 1 + 1 + 1 + 1 + 1 + 1)) := (hc 6 _ rfl).1
      have c7 : wr.cell? ⟨g, j * 9 + 7, none⟩ = some (.int .i64 ((K : Int) + 1 + 1 + 1 + 1 + 1 + 1 + 1)) := (hc 7 _ rfl).1
      have c8 : wr.cell? ⟨g, j * 9 + 8, none⟩ = some q := (hc 8 _ rfl).1
      have hKb : K + 8 + cntR cntFo m.cond ≤ 1099200000000 := by omega
      have hK1 : 1 ≤ K := by omega
      have HM := hide (mark_walk (K + 1) wr.drew (by omega) (by omega))
      have HM2 : Hid (∀ wx, Below wr.heap.size wr wx → Calls _ _ _ wx _) := fun wx hx => heldFo_walk q m.cond ib (K + 1 + 1 + 1 + 1 + 1 + 1 + 1 + 1) wx (hq.below hx) (by omega) (by omega) hpl.1 hpl.2
      have HB := hide hb
      have HS := hide hs
      have HK := hide hK
      have hgr : g < wr.heap.size := World.block_lt_of_cell? _ _ c0
      have hKc : K ≤ 1099200000000 := by omega
      have HKB := hide hKb
      clear hx1 hx2 hc hq hb hat hle2 hcm hs hK hg h2 hKb hpl
      go_wp2
      go_region_law (go_simp; refine (unhide HM).mono ?_; rintro e w1 ⟨rfl, b1⟩; have bx : Below wr.heap.size wr w1 := ((Below.refl _ _).drew).trans (b1.mono (by simp)); have d1 := (bx.cell (p := ⟨g, j * 9 + 1, none⟩) hgr).trans c1)
      all_goals (
        have d2 := (bx.cell (p := ⟨g, j * 9 + 2, none⟩) hgr).trans c2
        have d3 := (bx.cell (p := ⟨g, j * 9 + 3, none⟩) hgr).trans c3
        have d4 := (bx.cell (p := ⟨g, j * 9 + 4, none⟩) hgr).trans c4
        have d5 := (bx.cell (p := ⟨g, j * 9 + 5, none⟩) hgr).trans c5
        have d6 := (bx.cell (p := ⟨g, j * 9 + 6, none⟩) hgr).trans c6
        have d7 := (bx.cell (p := ⟨g, j * 9 + 7, none⟩) hgr).trans c7
        have d8 := (bx.cell (p := ⟨g, j * 9 + 8, none⟩) hgr).trans c8
        have HM3 := hide (unhide HM2 w1 bx)
        have HB1 := hide (below_next (unhide HB) bx)
        clear HM HM2 HB b1 bx c0 c1 c2 c3 c4 c5 c6 c7 c8 d1
        go_wp2_with fail
        refine (unhide HM3).mono ?_
        rintro e w2 ⟨rfl, b2⟩
        have HB2 := hide (below_next (unhide HB1) b2)
        have hKB := unhide HKB
        clear HM3 HB1 b2 d2 d3 d4 d5 d6 d7 d8
        go_wp2)
      all_goals go_roundw
      all_goals first
        | (refine ⟨j + 1, by omega, by go_num, ?_, unhide HB2⟩
           have hk1 := unhide HK
           have hk2 := unhide HS
           have hk3 : cntSe m = 8 + cntR cntFo m.cond := rfl
           rw [hk2, hk3, ← hk1]; go_num)
        | (simp [intOf]; omega)
    · have hjn : j = ms.length := by omega
      subst hjn
      rw [List.take_length]
      go_wp2
      go_ret
      exact ⟨rfl, hb⟩
set_option maxRecDepth 100000 in
set_option maxHeartbeats 1600000 in
theorem heldSg_walk (v : Value) (ms : List PSeg) (bl : List Nat) (k0 : Nat) (w : World) (hv : ORow segE w v (mkRow mkSg cntSg k0 ms) bl) (h1 : 1 ≤ k0) (h2 : k0 + cntR cntSg ms ≤ 1099200000000) (hln : ms.length ≤ 1000000000) (hil : ∀ j (hj : j < ms.length), ms[j].sels.length ≤ 1000000000 ∧ ∀ k (hk : k < ms[j].sels.length), ms[j].sels[k].cond.length ≤ 1000000000 ∧ ∀ l (hl : l < ms[j].sels[k].cond.length), ms[j].sels[k].cond[l].steps.length ≤ 1000000000) :
    Calls Try.prog 13 #[v, .int .i64 k0] w fun e w' => e = .returned (.int .i64 (k0 + cntR cntSg ms : Nat)) ∧ Below w.heap.size w w' := by
  obtain ⟨a, cap, rfl, hform, hsh⟩ := hv.form
  rw [mkRow_len] at hsh
  have HV := hide hv
  have HSH := hide hsh
  have HILX := hide hil
  rw [mkRow_len] at HV ⊢
  clear hv hform hsh hil
  go_enter Try.func13, Try.ntmps13
  go_wp2
  go_loopw [1, 5] (fun q i wr => ∃ (j : Nat), j ≤ ms.length ∧ i = .int .i64 j ∧ q = .int .i64 (k0 + cntR cntSg (ms.take j) : Nat) ∧ Below w.heap.size w wr) (fun _ i _ => ms.length - (intOf i).toNat)
  case atStart => exact ⟨0, Nat.zero_le _, rfl, by simp [cntR], Below.refl _ _⟩
  case round =>
    obtain ⟨j, hj, rfl, rfl, hb⟩ := hrel
    by_cases hlt : j < ms.length
    · obtain ⟨g, rfl⟩ := unhide HSH (by omega)
      have hle2 := cnt_le (c := cntSg) (l := ms) (j := j + 1)
      rw [cnt_succ hlt] at hle2
      have hcm : cntSg ms[j] = 1 + cntR cntSe ms[j].sels := rfl
      have hpl := unhide HILX j hlt
      have hs := cnt_succ (c := cntSg) hlt
      have hat := mkRow_at (f := mkSg) (c := cntSg) (k := k0) hlt
      generalize hK : k0 + cntR cntSg (ms.take j) = K at *
      generalize ms[j] = m at *
      obtain ⟨vs, ib, hE, hc, hx1, hg, hx2⟩ := ((unhide HV).below hb).at hat
      obtain ⟨q, rfl, hq⟩ := hE
      have c0 : wr.cell? ⟨g, j * 2, none⟩ = some (.bool (((K : Int)) % 3 == 0)) := (hc 0 _ rfl).1
      have c1 : wr.cell? ⟨g, j * 2 + 1, none⟩ = some q := (hc 1 _ rfl).1
      have hKb : K + 1 + cntR cntSe m.sels ≤ 1099200000000 := by omega
      have hK1 : 1 ≤ K := by omega
      have HM2 : Hid (∀ wx, Below wr.heap.size wr wx → Calls _ _ _ wx _) := fun wx hx => heldSe_walk q m.sels ib (K + 1) wx (hq.below hx) (by omega) (by omega) hpl.1 hpl.2
      have HB := hide hb
      have HS := hide hs
      have HK := hide hK
      have hgr : g < wr.heap.size := World.block_lt_of_cell? _ _ c0
      have hKc : K ≤ 1099200000000 := by omega
      have HKB := hide hKb
      clear hx1 hx2 hc hq hb hat hle2 hcm hs hK hg h2 hKb hpl
      have HM3 := hide (unhide HM2 wr (Below.refl _ _))
      clear HM2
      go_wp2_with fail
      refine (unhide HM3).mono ?_
      rintro e w2 ⟨rfl, b2⟩
      have HB2 := hide (below_next (unhide HB) b2)
      have hKB := unhide HKB
      clear HM3 HB b2 c0 c1
      go_wp2
      all_goals go_roundw
      all_goals first
        | (refine ⟨j + 1, by omega, by go_num, ?_, unhide HB2⟩
           have hk1 := unhide HK
           have hk2 := unhide HS
           have hk3 : cntSg m = 1 + cntR cntSe m.sels := rfl
           rw [hk2, hk3, ← hk1]; go_num)
        | (simp [intOf]; omega)
    · have hjn : j = ms.length := by omega
      subst hjn
      rw [List.take_length]
      go_wp2
      go_ret
      exact ⟨rfl, hb⟩
end Go.Proofs.Ytiolpmhodbefoaa

