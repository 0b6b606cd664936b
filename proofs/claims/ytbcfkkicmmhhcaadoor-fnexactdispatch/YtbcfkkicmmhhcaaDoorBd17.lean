import Derived.Test.YtbcfkkicmmhhcaaDoorBd16
namespace Go.Proofs.YtbcfkkicmmhhcaaDoor
open Go.RowKit

def cntWat (m : Wat) : Nat := 5 + cntR cntMsg m.queue
def mkWat (k : Nat) (m : Wat) : Wat := ⟨(k : Int), mkText (k + 1), (k : Int) + 1 + 1, (k : Int) + 1 + 1 + 1, ((k : Int) + 1 + 1 + 1 + 1) % 3 == 0, mkRow mkMsg cntMsg (k + 1 + 1 + 1 + 1 + 1) m.queue⟩
set_option maxHeartbeats 800000 in
theorem markWats_walk (v : Value) (ms : List Wat) (bl : List Nat) (k0 : Nat) (w : World) (hv : ORow watE w v ms bl) (hd : bl.Nodup) (hn : szWats ms ≤ 268435456) (h2 : k0 + cntR cntWat ms ≤ 1099200000000) :
    Calls Tryd.prog 44 #[v, .int .i64 k0] w fun e w' => e = .returned (.int .i64 (k0 + cntR cntWat ms : Nat)) ∧ ORow watE w' v (mkRow mkWat cntWat k0 ms) bl ∧ Fr bl w w' := by
  have hln : ms.length ≤ 268435456 := by unfold szWats at hn; omega
  have hsz : ∀ k (hk : k < ms.length), szMsgs ms[k].queue ≤ 268435456 := fun k hk => by
    have h1 := sum_take_snoc szWat ms k ms[k] (List.getElem?_eq_getElem hk)
    have h2 := sum_take_le (ms.map szWat) (k + 1)
    rw [← List.map_take] at h2
    unfold szWats at hn
    have h3 : szMsgs ms[k].queue ≤ szWat ms[k] := by unfold szWat; omega
    omega
  have HSZ := hide hsz
  obtain ⟨a, cap, rfl, hform, hsh⟩ := hv.form
  clear hform
  have HV := hide hv
  have HD := hide hd
  clear hv hd hn hsz
  go_enter Tryd.func44, Tryd.ntmps44
  go_wp2
  go_loopw [1, 5] (fun q i wr => ∃ (j : Nat), j ≤ ms.length ∧ i = .int .i64 j ∧ q = .int .i64 (k0 + cntR cntWat (ms.take j) : Nat) ∧ Fr bl w wr ∧ ORow watE wr (.slice a ms.length cap) (mkRowAt mkWat cntWat k0 ms j) bl) (fun _ i _ => ms.length - (intOf i).toNat)
  case atStart => exact ⟨0, Nat.zero_le _, rfl, by simp [cntR], Fr.refl _ _, by rw [mkRowAt_0]; exact unhide HV⟩
  case round =>
    obtain ⟨j, hj, rfl, rfl, hb, ho⟩ := hrel
    by_cases hlt : j < ms.length
    · obtain ⟨g, rfl⟩ := hsh (by omega)
      have hle := cnt_le (c := cntWat) (l := ms) (j := j)
      have hle2 := cnt_le (c := cntWat) (l := ms) (j := j + 1)
      rw [cnt_succ hlt] at hle2
      have hcm : cntWat ms[j] = 5 + cntR cntMsg ms[j].queue := rfl
      have hpl := unhide HSZ j hlt
      have hs := cnt_succ (c := cntWat) hlt
      have hnx := mkRowAt_succ (f := mkWat) (c := cntWat) (k := k0) hlt
      have hset := fun x => mkRowAt_set (f := mkWat) (c := cntWat) (k := k0) hlt x
      have hat := mkRowAt_at (f := mkWat) (c := cntWat) (k := k0) hlt
      generalize hK : k0 + cntR cntWat (ms.take j) = K at *
      generalize ms[j] = m at *
      -- the client is marked
      obtain ⟨vs, ib, hE, hc, hx1, hg, hx2⟩ := ho.at hat
      obtain ⟨q, rfl, hq⟩ := hE
      have c0 : wr.cell? ⟨g, j * 6, none⟩ = _ := (hc 0 _ rfl).1
      have f0 : wr.frozen? ⟨g, j * 6, none⟩ = _ := (hc 0 _ rfl).2
      have p1 : ORow watE (wr.setCell ⟨g, j * 6, none⟩ (.int .i64 (K : Int))) _ _ bl := ho.put (unhide HD) hat 0 (by decide) (.int .i64 (K : Int)) ⟨(K : Int), m.ptr, m.cap, m.since, m.closed, m.queue⟩ (fun w' vs ib h => by obtain ⟨q, rfl, h⟩ := h; exact ⟨q, rfl, h⟩)
      rw [hset] at p1
      have fr1 := hb.set hg (j * 6) (.int .i64 (K : Int))
      have hA := mkRow_take_len (f := mkWat) (c := cntWat) (k := k0) hlt
      generalize mkRow mkWat cntWat k0 (ms.take j) = A at *
      generalize ms.drop (j + 1) = B at *
      have HM := hide (mark_walk (K + 1) (wr.setCell ⟨g, j * 6, none⟩ (.int .i64 (K : Int))) (by omega) (by omega))
      have HFR := hide fr1
      have HP1 := hide p1
      have HHG := hide hg
      have HNX := hide hnx
      have HS := hide hs
      have HA := hide hA
      have HK := hide hK
      have HLE := hide hle2
      have hKb : K + 5 + cntR cntMsg m.queue ≤ 1099200000000 := by omega
      have HKB := hide hKb
      have hKc : K ≤ 1099200000000 := by omega
      have HQL := hide hpl
      clear ho hb hc p1 fr1 hq hset hat hg hnx hs hA hK hle hle2 hcm h2 hx1 hx2 hsh hKb hpl
      go_wp2_with fail
      refine (unhide HM).mono ?_
      rintro e w2 ⟨rfl, b2⟩
      have o2 := (unhide HP1).below b2
      obtain ⟨vs2, kb, hE2, hc2, hy1, hg, hy2⟩ := o2.at (mid_at (unhide HA))
      obtain ⟨q2, rfl, hq2⟩ := hE2
      have d1 : w2.cell? ⟨g, j * 6 + 1, none⟩ = _ := (hc2 1 _ rfl).1
      have d2 : w2.cell? ⟨g, j * 6 + 2, none⟩ = _ := (hc2 2 _ rfl).1
      have d3 : w2.cell? ⟨g, j * 6 + 3, none⟩ = _ := (hc2 3 _ rfl).1
      have d4 : w2.cell? ⟨g, j * 6 + 4, none⟩ = _ := (hc2 4 _ rfl).1
      have d5 : w2.cell? ⟨g, j * 6 + 5, none⟩ = some q2 := (hc2 5 _ rfl).1
      have e1 : w2.frozen? ⟨g, j * 6 + 1, none⟩ = _ := (hc2 1 _ rfl).2
      have e2 : w2.frozen? ⟨g, j * 6 + 2, none⟩ = _ := (hc2 2 _ rfl).2
      have e3 : w2.frozen? ⟨g, j * 6 + 3, none⟩ = _ := (hc2 3 _ rfl).2
      have e4 : w2.frozen? ⟨g, j * 6 + 4, none⟩ = _ := (hc2 4 _ rfl).2
      have p2 : ORow watE (w2.setCell ⟨g, j * 6 + 1, none⟩ (.string (mkText (K + 1)))) _ _ bl := o2.put (unhide HD) (mid_at (unhide HA)) 1 (by decide) (.string (mkText (K + 1))) ⟨(K : Int), mkText (K + 1), m.cap, m.since, m.closed, m.queue⟩ (fun w' vs ib h => by obtain ⟨q, rfl, h⟩ := h; exact ⟨q, rfl, h⟩)
      rw [mid_set (unhide HA)] at p2
      have p3 : ORow watE ((w2.setCell ⟨g, j * 6 + 1, none⟩ (.string (mkText (K + 1)))).setCell ⟨g, j * 6 + 2, none⟩ (.int .i64 ((K : Int) + 1 + 1))) _ _ bl := p2.put (unhide HD) (mid_at (unhide HA)) 2 (by decide) (.int .i64 ((K : Int) + 1 + 1)) ⟨(K : Int), mkText (K + 1), (K : Int) + 1 + 1, m.since, m.closed, m.queue⟩ (fun w' vs ib h => by obtain ⟨q, rfl, h⟩ := h; exact ⟨q, rfl, h⟩)
      rw [mid_set (unhide HA)] at p3
      have p4 : ORow watE (((w2.setCell ⟨g, j * 6 + 1, none⟩ (.string (mkText (K + 1)))).setCell ⟨g, j * 6 + 2, none⟩ (.int .i64 ((K : Int) + 1 + 1))).setCell ⟨g, j * 6 + 3, none⟩ (.int .i64 ((K : Int) + 1 + 1 + 1))) _ _ bl := p3.put (unhide HD) (mid_at (unhide HA)) 3 (by decide) (.int .i64 ((K : Int) + 1 + 1 + 1)) ⟨(K : Int), mkText (K + 1), (K : Int) + 1 + 1, (K : Int) + 1 + 1 + 1, m.closed, m.queue⟩ (fun w' vs ib h => by obtain ⟨q, rfl, h⟩ := h; exact ⟨q, rfl, h⟩)
      rw [mid_set (unhide HA)] at p4
      have p5 : ORow watE ((((w2.setCell ⟨g, j * 6 + 1, none⟩ (.string (mkText (K + 1)))).setCell ⟨g, j * 6 + 2, none⟩ (.int .i64 ((K : Int) + 1 + 1))).setCell ⟨g, j * 6 + 3, none⟩ (.int .i64 ((K : Int) + 1 + 1 + 1))).setCell ⟨g, j * 6 + 4, none⟩ (.bool (((K : Int) + 1 + 1 + 1 + 1) % 3 == 0))) _ _ bl := p4.put (unhide HD) (mid_at (unhide HA)) 4 (by decide) (.bool (((K : Int) + 1 + 1 + 1 + 1) % 3 == 0)) ⟨(K : Int), mkText (K + 1), (K : Int) + 1 + 1, (K : Int) + 1 + 1 + 1, ((K : Int) + 1 + 1 + 1 + 1) % 3 == 0, m.queue⟩ (fun w' vs ib h => by obtain ⟨q, rfl, h⟩ := h; exact ⟨q, rfl, h⟩)
      rw [mid_set (unhide HA)] at p5
      have fr5 := (((((unhide HFR).next b2).set hg (j * 6 + 1) (.string (mkText (K + 1)))).set hg (j * 6 + 2) (.int .i64 ((K : Int) + 1 + 1))).set hg (j * 6 + 3) (.int .i64 ((K : Int) + 1 + 1 + 1))).set hg (j * 6 + 4) (.bool (((K : Int) + 1 + 1 + 1 + 1) % 3 == 0))
      obtain ⟨vs5, jb, hE5, hc5, hjs, hz1, hjd, hclose⟩ := p5.inner (unhide HD) (mid_at (unhide HA))
      obtain ⟨q5, rfl, hq5⟩ := hE5
      have hqq : q5 = q2 := by
        have c5 : ((((w2.setCell ⟨g, j * 6 + 1, none⟩ (.string (mkText (K + 1)))).setCell ⟨g, j * 6 + 2, none⟩ (.int .i64 ((K : Int) + 1 + 1))).setCell ⟨g, j * 6 + 3, none⟩ (.int .i64 ((K : Int) + 1 + 1 + 1))).setCell ⟨g, j * 6 + 4, none⟩ (.bool (((K : Int) + 1 + 1 + 1 + 1) % 3 == 0))).cell? ⟨g, j * 6 + 5, none⟩ = some q5 := (hc5 5 _ rfl).1
        rw [cell_set_off _ _ _ _ _ (by omega), cell_set_off _ _ _ _ _ (by omega), cell_set_off _ _ _ _ _ (by omega), cell_set_off _ _ _ _ _ (by omega), d5] at c5
        exact (Option.some.inj c5).symm
      subst hqq
      have HM2 := hide (markMsgs_walk q5 m.queue jb (K + 1 + 1 + 1 + 1 + 1) _ hq5 hjd (unhide HQL) (by have := unhide HKB; omega))
      have HFR5 := hide fr5
      have HCL := hide hclose
      have HJS := hide hjs
      clear HM HFR HP1 b2 o2 hc2 hy1 hg hy2 hq2 p2 p3 p4 p5 fr5 hc5 hjs hz1 hjd hclose hq5 c0 f0
      go_wp2_with fail
      refine (unhide HM2).mono ?_
      rintro e w3 ⟨rfl, ho3, fr3⟩
      have o3 := unhide HCL w3 (mkWat K m) fr3 ⟨q5, rfl, ho3⟩
      rw [mid_set (unhide HA), unhide HNX] at o3
      have HP2 := hide o3
      have HFR2 := hide ((unhide HFR5).trans (fr3.mono (unhide HJS)))
      have hKB := unhide HKB
      clear HM2 HFR5 HCL HJS ho3 fr3 o3 d1 d2 d3 d4 d5 e1 e2 e3 e4
      go_wp2
      go_roundw
      case rel =>
        have hk1 := unhide HK
        have hk2 := unhide HS
        have hk3 : cntWat m = 5 + cntR cntMsg m.queue := rfl
        exact ⟨j + 1, by omega, by go_num, by rw [hk2, hk3, ← hk1]; go_num, unhide HFR2, unhide HP2⟩
      case measure => simp [intOf]; omega
    · have hjn : j = ms.length := by omega
      subst hjn
      rw [mkRowAt_all] at ho
      rw [List.take_length]
      go_wp2
      go_ret
      exact ⟨rfl, ho, hb⟩
end Go.Proofs.YtbcfkkicmmhhcaaDoor

namespace Go.Proofs.YtbcfkkicmmhhcaaDoor
open Go.RowKit

def cntNws (m : Nws) : Nat := m.ptrs.length + 1
def mkNws (k : Nat) (m : Nws) : Nws := ⟨(k : Int), mkS (k + 1) m.ptrs.length⟩
set_option maxHeartbeats 800000 in
theorem markNwss_walk (v : Value) (ms : List Nws) (bl : List Nat) (k0 : Nat) (w : World) (hv : ORow nwsE w v ms bl) (hd : bl.Nodup) (hn : szNwss ms ≤ 268435456) (h2 : k0 + cntR cntNws ms ≤ 1099200000000) :
    Calls Tryd.prog 45 #[v, .int .i64 k0] w fun e w' => e = .returned (.int .i64 (k0 + cntR cntNws ms : Nat)) ∧ ORow nwsE w' v (mkRow mkNws cntNws k0 ms) bl ∧ Fr bl w w' := by
  have hln : ms.length ≤ 268435456 := by unfold szNwss at hn; omega
  have hsz : ∀ k (hk : k < ms.length), ms[k].ptrs.length ≤ 268435456 := fun k hk => by
    have h1 := sum_take_snoc szNws ms k ms[k] (List.getElem?_eq_getElem hk)
    have h2 := sum_take_le (ms.map szNws) (k + 1)
    rw [← List.map_take] at h2
    unfold szNwss at hn
    have h3 : ms[k].ptrs.length ≤ szNws ms[k] := by unfold szNws szStr; omega
    omega
  have HSZ := hide hsz
  obtain ⟨a, cap, rfl, hform, hsh⟩ := hv.form
  clear hform
  have HV := hide hv
  have HD := hide hd
  clear hv hd hn hsz
  go_enter Tryd.func45, Tryd.ntmps45
  go_wp2
  go_loopw [1, 5] (fun q i wr => ∃ (j : Nat), j ≤ ms.length ∧ i = .int .i64 j ∧ q = .int .i64 (k0 + cntR cntNws (ms.take j) : Nat) ∧ Fr bl w wr ∧ ORow nwsE wr (.slice a ms.length cap) (mkRowAt mkNws cntNws k0 ms j) bl) (fun _ i _ => ms.length - (intOf i).toNat)
  case atStart => exact ⟨0, Nat.zero_le _, rfl, by simp [cntR], Fr.refl _ _, by rw [mkRowAt_0]; exact unhide HV⟩
  case round =>
    obtain ⟨j, hj, rfl, rfl, hb, ho⟩ := hrel
    by_cases hlt : j < ms.length
    · obtain ⟨g, rfl⟩ := hsh (by omega)
      have hle := cnt_le (c := cntNws) (l := ms) (j := j)
      have hle2 := cnt_le (c := cntNws) (l := ms) (j := j + 1)
      rw [cnt_succ hlt] at hle2
      have hcm : cntNws ms[j] = ms[j].ptrs.length + 1 := rfl
      have hpl := unhide HSZ j hlt
      have hs := cnt_succ (c := cntNws) hlt
      have hnx := mkRowAt_succ (f := mkNws) (c := cntNws) (k := k0) hlt
      have hset := fun x => mkRowAt_set (f := mkNws) (c := cntNws) (k := k0) hlt x
      have hat := mkRowAt_at (f := mkNws) (c := cntNws) (k := k0) hlt
      generalize hK : k0 + cntR cntNws (ms.take j) = K at *
      generalize ms[j] = m at *
      -- the version is marked
      obtain ⟨vs, ib, hE, hc, hx1, hg, hx2⟩ := ho.at hat
      clear hx1 hx2
      obtain ⟨q, rfl, hq⟩ := hE
      have c0 : wr.cell? ⟨g, j * 2, none⟩ = _ := (hc 0 _ rfl).1
      have f0 : wr.frozen? ⟨g, j * 2, none⟩ = _ := (hc 0 _ rfl).2
      have c1 : wr.cell? ⟨g, j * 2 + 1, none⟩ = _ := (hc 1 _ rfl).1
      have p1 : ORow nwsE (wr.setCell ⟨g, j * 2, none⟩ (.int .i64 (K : Int))) _ _ bl := ho.put (unhide HD) hat 0 (by decide) (.int .i64 (K : Int)) ⟨(K : Int), m.ptrs⟩ (fun w' vs ib h => by obtain ⟨q, rfl, h⟩ := h; exact ⟨q, rfl, h⟩)
      rw [hset] at p1
      have fr1 := hb.set hg (j * 2) (.int .i64 (K : Int))
      have hA := mkRow_take_len (f := mkNws) (c := cntNws) (k := k0) hlt
      generalize mkRow mkNws cntNws k0 (ms.take j) = A at *
      generalize ms.drop (j + 1) = B at *
      -- the pointers
      obtain ⟨vs', jb, hE', hc', hjs, hx1, hjd, hclose⟩ := p1.inner (unhide HD) (mid_at hA)
      obtain ⟨q', rfl, hq'⟩ := hE'
      have c1' : (wr.setCell ⟨g, j * 2, none⟩ (.int .i64 (K : Int))).cell? ⟨g, j * 2 + 1, none⟩ = _ := (hc' 1 _ rfl).1
      have hqq : q' = q := by
        rw [cell_set_off _ _ _ _ _ (by omega)] at c1'
        rw [c1] at c1'; exact (Option.some.inj c1').symm
      subst hqq
      have HM := hide (markStr_walk q' m.ptrs jb (K + 1) (wr.setCell ⟨g, j * 2, none⟩ (.int .i64 (K : Int))) hq' hjd hpl (by omega) (by omega))
      have HFR := hide fr1
      have HCL := hide hclose
      have HJS := hide hjs
      have HHG := hide hg
      have HNX := hide hnx
      have HS := hide hs
      have HA := hide hA
      have HK := hide hK
      have HLE := hide hle2
      have hKb : K ≤ 1099200000000 := by omega
      clear ho hb hc hc' p1 fr1 hclose hq hq' hjs hjd c1' hset hat hg hnx hs hA hK hle hle2 hcm h2 hx1 hsh
      go_wp2_with fail
      refine (unhide HM).mono ?_
      rintro e w2 ⟨rfl, ho2, fr2⟩
      have o2 := unhide HCL w2 (mkNws K m) fr2 ⟨q', rfl, ho2⟩
      rw [mid_set (unhide HA), unhide HNX] at o2
      have HP2 := hide o2
      have HFR2 := hide ((unhide HFR).trans (fr2.mono (unhide HJS)))
      clear HM HCL HFR HJS ho2 fr2 o2 c0 c1 f0
      go_wp2
      go_roundw
      case rel =>
        have hk1 := unhide HK
        have hk2 := unhide HS
        have hk3 : cntNws m = m.ptrs.length + 1 := rfl
        exact ⟨j + 1, by omega, by go_num, by rw [hk2, hk3, ← hk1]; go_num, unhide HFR2, unhide HP2⟩
      case measure => simp [intOf]; omega
    · have hjn : j = ms.length := by omega
      subst hjn
      rw [mkRowAt_all] at ho
      rw [List.take_length]
      go_wp2
      go_ret
      exact ⟨rfl, ho, hb⟩
set_option maxHeartbeats 800000 in
theorem heldNwss_walk (v : Value) (ms : List Nws) (bl : List Nat) (k0 : Nat) (w : World) (hv : ORow nwsE w v (mkRow mkNws cntNws k0 ms) bl) (hn : szNwss ms ≤ 268435456) (h2 : k0 + cntR cntNws ms ≤ 1099200000000) :
    Calls Tryd.prog 47 #[v, .int .i64 k0] w fun e w' => e = .returned (.int .i64 (k0 + cntR cntNws ms : Nat)) ∧ Below w.heap.size w w' := by
  have hln : ms.length ≤ 268435456 := by unfold szNwss at hn; omega
  have hsz : ∀ k (hk : k < ms.length), ms[k].ptrs.length ≤ 268435456 := fun k hk => by
    have h1 := sum_take_snoc szNws ms k ms[k] (List.getElem?_eq_getElem hk)
    have h2 := sum_take_le (ms.map szNws) (k + 1)
    rw [← List.map_take] at h2
    unfold szNwss at hn
    have h3 : ms[k].ptrs.length ≤ szNws ms[k] := by unfold szNws szStr; omega
    omega
  have HSZ := hide hsz
  obtain ⟨a, cap, rfl, hform, hsh⟩ := hv.form
  rw [mkRow_len] at hsh
  have HV := hide hv
  have HSH := hide hsh
  rw [mkRow_len] at HV ⊢
  clear hv hn hsz hform hsh
  go_enter Tryd.func47, Tryd.ntmps47
  go_wp2
  go_loopw [1, 5] (fun q i wr => ∃ (j : Nat), j ≤ ms.length ∧ i = .int .i64 j ∧ q = .int .i64 (k0 + cntR cntNws (ms.take j) : Nat) ∧ Below w.heap.size w wr) (fun _ i _ => ms.length - (intOf i).toNat)
  case atStart => exact ⟨0, Nat.zero_le _, rfl, by simp [cntR], Below.refl _ _⟩
  case round =>
    obtain ⟨j, hj, rfl, rfl, hb⟩ := hrel
    by_cases hlt : j < ms.length
    · obtain ⟨g, rfl⟩ := unhide HSH (by omega)
      have hle2 := cnt_le (c := cntNws) (l := ms) (j := j + 1)
      rw [cnt_succ hlt] at hle2
      have hcm : cntNws ms[j] = ms[j].ptrs.length + 1 := rfl
      have hpl := unhide HSZ j hlt
      have hs := cnt_succ (c := cntNws) hlt
      have hat := mkRow_at (f := mkNws) (c := cntNws) (k := k0) hlt
      generalize hK : k0 + cntR cntNws (ms.take j) = K at *
      generalize ms[j] = m at *
      obtain ⟨vs, ib, hE, hc, hx1, hg, hx2⟩ := ((unhide HV).below hb).at hat
      obtain ⟨q, rfl, hq⟩ := hE
      have c0 : wr.cell? ⟨g, j * 2, none⟩ = some (.int .i64 (K : Int)) := (hc 0 _ rfl).1
      have c1 : wr.cell? ⟨g, j * 2 + 1, none⟩ = some q := (hc 1 _ rfl).1
      have HM : Hid (Calls _ _ _ _ _) := heldStr_walk q ib m.ptrs.length (K + 1) wr hq hpl (by omega) (by omega)
      have HB := hide hb
      have HS := hide hs
      have HK := hide hK
      have hKb : K ≤ 1099200000000 := by omega
      have hgr : g < wr.heap.size := World.block_lt_of_cell? _ _ c0
      clear hx1 hx2 hc hq hb hat hle2 hcm hs hK hg h2
      go_wp2_with fail
      refine (unhide HM).mono ?_
      rintro e w2 ⟨rfl, b2⟩
      have HB2 := hide (below_next (unhide HB) b2)
      clear HM HB b2 c0 c1
      go_wp2
      go_roundw
      case rel =>
        have hk1 := unhide HK
        have hk2 := unhide HS
        have hk3 : cntNws m = m.ptrs.length + 1 := rfl
        exact ⟨j + 1, by omega, by go_num, by rw [hk2, hk3, ← hk1]; go_num, unhide HB2⟩
      case measure => simp [intOf]; omega
    · have hjn : j = ms.length := by omega
      subst hjn
      rw [List.take_length]
      go_wp2
      go_ret
      exact ⟨rfl, hb⟩
end Go.Proofs.YtbcfkkicmmhhcaaDoor
