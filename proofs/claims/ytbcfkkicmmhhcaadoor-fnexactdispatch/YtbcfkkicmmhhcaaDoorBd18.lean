import Derived.Deep.RegionLaw
import Derived.Test.YtbcfkkicmmhhcaaDoorBd17
namespace Go.Proofs.YtbcfkkicmmhhcaaDoor
open Go.RowKit

set_option maxHeartbeats 800000 in
theorem heldWats_walk (v : Value) (ms : List Wat) (bl : List Nat) (k0 : Nat) (w : World) (hv : ORow watE w v (mkRow mkWat cntWat k0 ms) bl) (hn : szWats ms ≤ 268435456) (h2 : k0 + cntR cntWat ms ≤ 1099200000000) :
    Calls Tryd.prog 46 #[v, .int .i64 k0] w fun e w' => e = .returned (.int .i64 (k0 + cntR cntWat ms : Nat)) ∧ Below w.heap.size w w' := by
  have hln : ms.length ≤ 268435456 := by unfold szWats at hn; omega
  have hsz : ∀ k (hk : k < ms.length), szMsgs ms[k].queue ≤ 268435456 := fun k hk => by
    have h1 := sum_take_snoc szWat ms k ms[k] (List.getElem?_eq_getElem hk)
    have h2 := sum_take_le (ms.map szWat) (k + 1)
    rw [← List.map_take] at h2
    unfold szWats at hn
    have h3 : szMsgs ms[k].queue ≤ szWat ms[k] := by unfold szWat; omega
    omega
  have HSZ := hide hsz
  obtain ⟨a, cap, rfl, hform, hsh⟩ := hv.form
  rw [mkRow_len] at hsh
  have HV := hide hv
  have HSH := hide hsh
  rw [mkRow_len] at HV ⊢
  clear hv hn hsz hform hsh
  go_enter Tryd.func46, Tryd.ntmps46
  go_wp2
  go_loopw [1, 5] (fun q i wr => ∃ (j : Nat), j ≤ ms.length ∧ i = .int .i64 j ∧ q = .int .i64 (k0 + cntR cntWat (ms.take j) : Nat) ∧ Below w.heap.size w wr) (fun _ i _ => ms.length - (intOf i).toNat)
  case atStart => exact ⟨0, Nat.zero_le _, rfl, by simp [cntR], Below.refl _ _⟩
  case round =>
    obtain ⟨j, hj, rfl, rfl, hb⟩ := hrel
    by_cases hlt : j < ms.length
    · obtain ⟨g, rfl⟩ := unhide HSH (by omega)
      have hle2 := cnt_le (c := cntWat) (l := ms) (j := j + 1)
      rw [cnt_succ hlt] at hle2
      have hcm : cntWat ms[j] = 5 + cntR cntMsg ms[j].queue := rfl
      have hpl := unhide HSZ j hlt
      have hs := cnt_succ (c := cntWat) hlt
      have hat := mkRow_at (f := mkWat) (c := cntWat) (k := k0) hlt
      generalize hK : k0 + cntR cntWat (ms.take j) = K at *
      generalize ms[j] = m at *
      obtain ⟨vs, ib, hE, hc, hx1, hg, hx2⟩ := ((unhide HV).below hb).at hat
      obtain ⟨q, rfl, hq⟩ := hE
      have c0 : wr.cell? ⟨g, j * 6, none⟩ = some (.int .i64 (K : Int)) := (hc 0 _ rfl).1
      have c1 : wr.cell? ⟨g, j * 6 + 1, none⟩ = some (.string (mkText (K + 1))) := (hc 1 _ rfl).1
      have c2 : wr.cell? ⟨g, j * 6 + 2, none⟩ = some (.int .i64 ((K : Int) + 1 + 1)) := (hc 2 _ rfl).1
      have c3 : wr.cell? ⟨g, j * 6 + 3, none⟩ = some (.int .i64 ((K : Int) + 1 + 1 + 1)) := (hc 3 _ rfl).1
      have c4 : wr.cell? ⟨g, j * 6 + 4, none⟩ = some (.bool (((K : Int) + 1 + 1 + 1 + 1) % 3 == 0)) := (hc 4 _ rfl).1
      have c5 : wr.cell? ⟨g, j * 6 + 5, none⟩ = some q := (hc 5 _ rfl).1
      have HM := hide (mark_walk (K + 1) wr.drew (by omega) (by omega))
      have hKb : K + 5 + cntR cntMsg m.queue ≤ 1099200000000 := by omega
      have HM2 : Hid (∀ wx, Below wr.heap.size wr wx → Calls _ _ _ wx _) := fun wx hx => heldMsgs_walk q m.queue ib (K + 1 + 1 + 1 + 1 + 1) wx (hq.below hx) hpl (by omega)
      have HB := hide hb
      have HS := hide hs
      have HK := hide hK
      have hgr : g < wr.heap.size := World.block_lt_of_cell? _ _ c0
      have hKc : K ≤ 1099200000000 := by omega
      have HKB := hide hKb
      clear hx1 hx2 hc hq hb hat hle2 hcm hs hK hg h2 hKb hpl
      go_wp2
      go_region_law (go_simp; refine (unhide HM).mono ?_; rintro e w1 ⟨rfl, b1⟩; have bx : Below wr.heap.size wr w1 := ((Below.refl _ _).drew).trans (b1.mono (by simp)); have d1 := (bx.cell (p := ⟨g, j * 6 + 1, none⟩) hgr).trans c1)
      all_goals (
        have d2 := (bx.cell (p := ⟨g, j * 6 + 2, none⟩) hgr).trans c2
        have d3 := (bx.cell (p := ⟨g, j * 6 + 3, none⟩) hgr).trans c3
        have d4 := (bx.cell (p := ⟨g, j * 6 + 4, none⟩) hgr).trans c4
        have d5 := (bx.cell (p := ⟨g, j * 6 + 5, none⟩) hgr).trans c5
        have HM3 := hide (unhide HM2 w1 bx)
        have HB1 := hide (below_next (unhide HB) bx)
        clear HM HM2 HB b1 bx c0 c1 c2 c3 c4 c5 d1
        go_wp2_with fail
        refine (unhide HM3).mono ?_
        rintro e w2 ⟨rfl, b2⟩
        have HB2 := hide (below_next (unhide HB1) b2)
        have hKB := unhide HKB
        clear HM3 HB1 b2 d2 d3 d4 d5
        go_wp2)
      all_goals go_roundw
      all_goals first
        | (refine ⟨j + 1, by omega, by go_num, ?_, unhide HB2⟩
           have hk1 := unhide HK
           have hk2 := unhide HS
           have hk3 : cntWat m = 5 + cntR cntMsg m.queue := rfl
           rw [hk2, hk3, ← hk1]; go_num)
        | (simp [intOf]; omega)
    · have hjn : j = ms.length := by omega
      subst hjn
      rw [List.take_length]
      go_wp2
      go_ret
      exact ⟨rfl, hb⟩
set_option maxHeartbeats 800000 in
theorem markHub_walk (v : Value) (h : Hb) (bl : List Nat) (w : World) (hv : OHub w v h bl) (hd : bl.Nodup) (hn : szHb h ≤ 268435456) (k0 : Nat) (h2 : k0 + cntR cntWat h.watches + cntR cntNws h.waiting ≤ 1099200000000) :
    Calls Tryd.prog 16 #[v, .int .i64 k0] w fun e w' => e = .returned (.int .i64 (k0 + cntR cntWat h.watches + cntR cntNws h.waiting : Nat)) ∧ OHub w' v ⟨mkRow mkWat cntWat k0 h.watches, mkRow mkNws cntNws (k0 + cntR cntWat h.watches) h.waiting⟩ bl ∧ Fr bl w w' := by
  obtain ⟨p, q, b1, b2, rfl, o1, o2, rfl⟩ := hv
  rw [List.nodup_append] at hd
  obtain ⟨d1, d2, d3⟩ := hd
  have hn1 : szWats h.watches ≤ 268435456 := by unfold szHb at hn; omega
  have hn2 : szNwss h.waiting ≤ 268435456 := by unfold szHb at hn; omega
  have O1 := hide o1
  have O2 := hide o2
  have D1 := hide d1
  have D2 := hide d2
  have D3 := hide d3
  have L1 := hide o1.lt
  have L2 := hide o2.lt
  clear o1 o2 d1 d2 d3 hn
  go_enter Tryd.func16, Tryd.ntmps16
  go_wp2_with fail
  refine (markWats_walk p h.watches b1 k0 _ ((unhide O1).below (alloc_b w _)) (unhide D1) hn1 (by omega)).mono ?_
  rintro e w1 ⟨rfl, p1, f1⟩
  have hnw : w.heap.size ∉ b1 := fun hm => by have := unhide L1 _ hm; omega
  have c1 : w1.cell? ⟨w.heap.size, 1, none⟩ = some q := (World.cell?_of_block (f1.block w.heap.size (by simp) hnw)).trans (by simp)
  have fr1 : Fr b1 w w1 := (Fr.of_below (alloc_b w _)).trans f1
  have q1 : ORow nwsE w1 q h.waiting b2 := (unhide O2).keep (fr1.kp (unhide L2) fun b hb hb1 => unhide D3 b hb1 b hb rfl)
  have P1 := hide p1
  have F1 := hide fr1
  have Q1 := hide q1
  clear p1 f1 q1 fr1 hnw O1 O2
  go_wp2_with fail
  refine (markNwss_walk q h.waiting b2 (k0 + cntR cntWat h.watches) w1 (unhide Q1) (unhide D2) hn2 (by omega)).mono ?_
  rintro e w2 ⟨rfl, p2, f2⟩
  have p1' := (unhide P1).keep (f2.kp (unhide P1).lt fun b hb hb2 => unhide D3 b hb b hb2 rfl)
  have HR := hide (show OHub w2 (.agg #[p, q]) ⟨mkRow mkWat cntWat k0 h.watches, mkRow mkNws cntNws (k0 + cntR cntWat h.watches) h.waiting⟩ (b1 ++ b2) from ⟨p, q, b1, b2, rfl, p1', p2, rfl⟩)
  have HF := hide (((unhide F1).mono (bl' := b1 ++ b2) fun i hi => List.mem_append.2 (.inl hi)).trans (f2.mono fun i hi => List.mem_append.2 (.inr hi)))
  clear p2 f2 p1' P1 F1 Q1 c1
  go_wp2
  go_ret
  exact ⟨rfl, unhide HR, unhide HF⟩
set_option maxHeartbeats 800000 in
theorem heldHub_walk (v : Value) (h : Hb) (bl : List Nat) (w : World) (k0 : Nat) (hv : OHub w v ⟨mkRow mkWat cntWat k0 h.watches, mkRow mkNws cntNws (k0 + cntR cntWat h.watches) h.waiting⟩ bl) (hn : szHb h ≤ 268435456) (h2 : k0 + cntR cntWat h.watches + cntR cntNws h.waiting ≤ 1099200000000) :
    Calls Tryd.prog 17 #[v, .int .i64 k0] w fun e w' => e = .returned (.int .i64 (k0 + cntR cntWat h.watches + cntR cntNws h.waiting : Nat)) ∧ Below w.heap.size w w' := by
  obtain ⟨p, q, b1, b2, rfl, o1, o2, rfl⟩ := hv
  have hn1 : szWats h.watches ≤ 268435456 := by unfold szHb at hn; omega
  have hn2 : szNwss h.waiting ≤ 268435456 := by unfold szHb at hn; omega
  have O1 := hide o1
  have O2 := hide o2
  clear o1 o2 hn
  go_enter Tryd.func17, Tryd.ntmps17
  go_wp2_with fail
  refine (heldWats_walk p h.watches b1 k0 _ ((unhide O1).below (alloc_b w _)) hn1 (by omega)).mono ?_
  rintro e w1 ⟨rfl, bb1⟩
  have c1 : w1.cell? ⟨w.heap.size, 1, none⟩ = some q := (bb1.cell (p := ⟨w.heap.size, 1, none⟩) (by simp)).trans (by simp)
  have HB := hide (below_next (alloc_b w _) bb1)
  clear bb1 O1
  go_wp2_with fail
  refine (heldNwss_walk q h.waiting b2 (k0 + cntR cntWat h.watches) w1 ((unhide O2).below (unhide HB)) hn2 (by omega)).mono ?_
  rintro e w2 ⟨rfl, bb2⟩
  have HB2 := hide (below_next (unhide HB) bb2)
  clear bb2 HB O2 c1
  go_wp2
  go_ret
  exact ⟨rfl, unhide HB2⟩
end Go.Proofs.YtbcfkkicmmhhcaaDoor
