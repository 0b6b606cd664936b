import Derived.Test.YtbcfkkicmmhhcaaMkMsg
namespace Go.Proofs.Ytbcfkkicmmhhcaa
open Go.RowKit

def cntNws (m : Nws) : Nat := m.ptrs.length + 1
def mkNws (k : Nat) (m : Nws) : Nws := ⟨(k : Int), mkS (k + 1) m.ptrs.length⟩
set_option maxHeartbeats 800000 in
theorem markNwss_walk (v : Value) (ms : List Nws) (bl : List Nat) (k0 : Nat) (w : World) (hv : ORow nwsE w v ms bl) (hd : bl.Nodup) (hn : szNwss ms ≤ 1048577) (h2 : k0 + cntR cntNws ms ≤ 1099500000000) :
    Calls Try.prog 36 #[v, .int .i64 k0] w fun e w' => e = .returned (.int .i64 (k0 + cntR cntNws ms : Nat)) ∧ ORow nwsE w' v (mkRow mkNws cntNws k0 ms) bl ∧ Fr bl w w' := by
  have hln : ms.length ≤ 1048577 := by unfold szNwss at hn; omega
  have hsz : ∀ k (hk : k < ms.length), ms[k].ptrs.length ≤ 1048577 := fun k hk => by
    have h1 := sum_take_snoc szNws ms k ms[k] (List.getElem?_eq_getElem hk)
    have h2 := sum_take_le (ms.map szNws) (k + 1)
    rw [← List.map_take] at h2
    unfold szNwss at hn
    have h3 : ms[k].ptrs.length ≤ szNws ms[k] := by unfold szNws szStr; omega
    omega
  have HSZ := hide hsz
  obtain ⟨a, cap, rfl, hform, hsh⟩ := hv.form
  clear hform
  have HV := hide hv
  have HD := hide hd
  clear hv hd hn hsz
  go_enter Try.func36, Try.ntmps36
  go_wp2
  go_loopw [1, 5] (fun q i wr => ∃ (j : Nat), j ≤ ms.length ∧ i = .int .i64 j ∧ q = .int .i64 (k0 + cntR cntNws (ms.take j) : Nat) ∧ Fr bl w wr ∧ ORow nwsE wr (.slice a ms.length cap) (mkRowAt mkNws cntNws k0 ms j) bl) (fun _ i _ => ms.length - (intOf i).toNat)
  case atStart => exact ⟨0, Nat.zero_le _, rfl, by simp [cntR], Fr.refl _ _, by rw [mkRowAt_0]; exact unhide HV⟩
  case round =>
    obtain ⟨j, hj, rfl, rfl, hb, ho⟩ := hrel
    by_cases hlt : j < ms.length
    · obtain ⟨g, rfl⟩ := hsh (by omega)
      have hle := cnt_le (c := cntNws) (l := ms) (j := j)
      have hle2 := cnt_le (c := cntNws) (l := ms) (j := j + 1)
      rw [cnt_succ hlt] at hle2
      have hcm : cntNws ms[j] = ms[j].ptrs.length + 1 := rfl
      have hpl := unhide HSZ j hlt
      have hs := cnt_succ (c := cntNws) hlt
      have hnx := mkRowAt_succ (f := mkNws) (c := cntNws) (k := k0) hlt
      have hset := fun x => mkRowAt_set (f := mkNws) (c := cntNws) (k := k0) hlt x
      have hat := mkRowAt_at (f := mkNws) (c := cntNws) (k := k0) hlt
      generalize hK : k0 + cntR cntNws (ms.take j) = K at *
      generalize ms[j] = m at *
      -- the version is marked
      obtain ⟨vs, ib, hE, hc, hx1, hg, hx2⟩ := ho.at hat
      clear hx1 hx2
      obtain ⟨q, rfl, hq⟩ := hE
      have c0 : wr.cell? ⟨g, j * 2, none⟩ = _ := (hc 0 _ rfl).1
      have f0 : wr.frozen? ⟨g, j * 2, none⟩ = _ := (hc 0 _ rfl).2
      have c1 : wr.cell? ⟨g, j * 2 + 1, none⟩ = _ := (hc 1 _ rfl).1
      have p1 : ORow nwsE (wr.setCell ⟨g, j * 2, none⟩ (.int .i64 (K : Int))) _ _ bl := ho.put (unhide HD) hat 0 (by decide) (.int .i64 (K : Int)) ⟨(K : Int), m.ptrs⟩ (fun w' vs ib h => by obtain ⟨q, rfl, h⟩ := h; exact ⟨q, rfl, h⟩)
      rw [hset] at p1
      have fr1 := hb.set hg (j * 2) (.int .i64 (K : Int))
      have hA := mkRow_take_len (f := mkNws) (c := cntNws) (k := k0) hlt
      generalize mkRow mkNws cntNws k0 (ms.take j) = A at *
      generalize ms.drop (j + 1) = B at *
      -- the pointers
      obtain ⟨vs', jb, hE', hc', hjs, hx1, hjd, hclose⟩ := p1.inner (unhide HD) (mid_at hA)
      obtain ⟨q', rfl, hq'⟩ := hE'
      have c1' : (wr.setCell ⟨g, j * 2, none⟩ (.int .i64 (K : Int))).cell? ⟨g, j * 2 + 1, none⟩ = _ := (hc' 1 _ rfl).1
      have hqq : q' = q := by
        rw [cell_set_off _ _ _ _ _ (by omega)] at c1'
        rw [c1] at c1'; exact (Option.some.inj c1').symm
      subst hqq
      have HM := hide (markStr_walk q' m.ptrs jb (K + 1) (wr.setCell ⟨g, j * 2, none⟩ (.int .i64 (K : Int))) hq' hjd hpl (by omega) (by omega))
      have HFR := hide fr1
      have HCL := hide hclose
      have HJS := hide hjs
      have HHG := hide hg
      have HNX := hide hnx
      have HS := hide hs
      have HA := hide hA
      have HK := hide hK
      have HLE := hide hle2
      have hKb : K ≤ 1099500000000 := by omega
      clear ho hb hc hc' p1 fr1 hclose hq hq' hjs hjd c1' hset hat hg hnx hs hA hK hle hle2 hcm h2 hx1 hsh
      go_wp2_with fail
      refine (unhide HM).mono ?_
      rintro e w2 ⟨rfl, ho2, fr2⟩
      have o2 := unhide HCL w2 (mkNws K m) fr2 ⟨q', rfl, ho2⟩
      rw [mid_set (unhide HA), unhide HNX] at o2
      have HP2 := hide o2
      have HFR2 := hide ((unhide HFR).trans (fr2.mono (unhide HJS)))
      clear HM HCL HFR HJS ho2 fr2 o2 c0 c1 f0
      go_wp2
      go_roundw
      case rel =>
        have hk1 := unhide HK
        have hk2 := unhide HS
        have hk3 : cntNws m = m.ptrs.length + 1 := rfl
        exact ⟨j + 1, by omega, by go_num, by rw [hk2, hk3, ← hk1]; go_num, unhide HFR2, unhide HP2⟩
      case measure => simp [intOf]; omega
    · have hjn : j = ms.length := by omega
      subst hjn
      rw [mkRowAt_all] at ho
      rw [List.take_length]
      go_wp2
      go_ret
      exact ⟨rfl, ho, hb⟩
set_option maxHeartbeats 800000 in
theorem heldNwss_walk (v : Value) (ms : List Nws) (bl : List Nat) (k0 : Nat) (w : World) (hv : ORow nwsE w v (mkRow mkNws cntNws k0 ms) bl) (hn : szNwss ms ≤ 1048577) (h2 : k0 + cntR cntNws ms ≤ 1099500000000) :
    Calls Try.prog 39 #[v, .int .i64 k0] w fun e w' => e = .returned (.int .i64 (k0 + cntR cntNws ms : Nat)) ∧ Below w.heap.size w w' := by
  have hln : ms.length ≤ 1048577 := by unfold szNwss at hn; omega
  have hsz : ∀ k (hk : k < ms.length), ms[k].ptrs.length ≤ 1048577 := fun k hk => by
    have h1 := sum_take_snoc szNws ms k ms[k] (List.getElem?_eq_getElem hk)
    have h2 := sum_take_le (ms.map szNws) (k + 1)
    rw [← List.map_take] at h2
    unfold szNwss at hn
    have h3 : ms[k].ptrs.length ≤ szNws ms[k] := by unfold szNws szStr; omega
    omega
  have HSZ := hide hsz
  obtain ⟨a, cap, rfl, hform, hsh⟩ := hv.form
  rw [mkRow_len] at hsh
  have HV := hide hv
  have HSH := hide hsh
  rw [mkRow_len] at HV ⊢
  clear hv hn hsz hform hsh
  go_enter Try.func39, Try.ntmps39
  go_wp2
  go_loopw [1, 5] (fun q i wr => ∃ (j : Nat), j ≤ ms.length ∧ i = .int .i64 j ∧ q = .int .i64 (k0 + cntR cntNws (ms.take j) : Nat) ∧ Below w.heap.size w wr) (fun _ i _ => ms.length - (intOf i).toNat)
  case atStart => exact ⟨0, Nat.zero_le _, rfl, by simp [cntR], Below.refl _ _⟩
  case round =>
    obtain ⟨j, hj, rfl, rfl, hb⟩ := hrel
    by_cases hlt : j < ms.length
    · obtain ⟨g, rfl⟩ := unhide HSH (by omega)
      have hle2 := cnt_le (c := cntNws) (l := ms) (j := j + 1)
      rw [cnt_succ hlt] at hle2
      have hcm : cntNws ms[j] = ms[j].ptrs.length + 1 := rfl
      have hpl := unhide HSZ j hlt
      have hs := cnt_succ (c := cntNws) hlt
      have hat := mkRow_at (f := mkNws) (c := cntNws) (k := k0) hlt
      generalize hK : k0 + cntR cntNws (ms.take j) = K at *
      generalize ms[j] = m at *
      obtain ⟨vs, ib, hE, hc, hx1, hg, hx2⟩ := ((unhide HV).below hb).at hat
      obtain ⟨q, rfl, hq⟩ := hE
      have c0 : wr.cell? ⟨g, j * 2, none⟩ = some (.int .i64 (K : Int)) := (hc 0 _ rfl).1
      have c1 : wr.cell? ⟨g, j * 2 + 1, none⟩ = some q := (hc 1 _ rfl).1
      have HM : Hid (Calls _ _ _ _ _) := heldStr_walk q ib m.ptrs.length (K + 1) wr hq hpl (by omega) (by omega)
      have HB := hide hb
      have HS := hide hs
      have HK := hide hK
      have hKb : K ≤ 1099500000000 := by omega
      have hgr : g < wr.heap.size := World.block_lt_of_cell? _ _ c0
      clear hx1 hx2 hc hq hb hat hle2 hcm hs hK hg h2
      go_wp2_with fail
      refine (unhide HM).mono ?_
      rintro e w2 ⟨rfl, b2⟩
      have HB2 := hide (below_next (unhide HB) b2)
      clear HM HB b2 c0 c1
      go_wp2
      go_roundw
      case rel =>
        have hk1 := unhide HK
        have hk2 := unhide HS
        have hk3 : cntNws m = m.ptrs.length + 1 := rfl
        exact ⟨j + 1, by omega, by go_num, by rw [hk2, hk3, ← hk1]; go_num, unhide HB2⟩
      case measure => simp [intOf]; omega
    · have hjn : j = ms.length := by omega
      subst hjn
      rw [List.take_length]
      go_wp2
      go_ret
      exact ⟨rfl, hb⟩
end Go.Proofs.Ytbcfkkicmmhhcaa
