import Derived.Test.YtiolpmhodbefoaaBp15
namespace Go.Proofs.Ytiolpmhodbefoaa
open Go.RowKit

def cntSt (_ : PStep) : Nat := 3
def mkSt (k : Nat) (_ : PStep) : PStep := ⟨(((k : Int)) % 3 == 0), (mkText (k + 1)), (k : Int) + 1 + 1⟩
set_option maxRecDepth 100000 in
set_option maxHeartbeats 1600000 in
theorem markSt_walk (v : Value) (ms : List PStep) (bl : List Nat) (k0 : Nat) (w : World) (hv : ORow stepE w v ms bl) (hd : bl.Nodup) (h1 : 1 ≤ k0) (h2 : k0 + cntR cntSt ms ≤ 1099200000000) (hln : ms.length ≤ 1000000000) :
    Calls Try.prog 62 #[v, .int .i64 k0] w fun e w' => e = .returned (.int .i64 (k0 + cntR cntSt ms : Nat)) ∧ ORow stepE w' v (mkRow mkSt cntSt k0 ms) bl ∧ Fr bl w w' := by
  obtain ⟨a, cap, rfl, hform, hsh⟩ := hv.form
  clear hform
  have HV := hide hv
  have HD := hide hd
  clear hv hd
  go_enter Try.func62, Try.ntmps62
  go_wp2
  go_loopw [1, 5] (fun q i wr => ∃ (j : Nat), j ≤ ms.length ∧ i = .int .i64 j ∧ q = .int .i64 (k0 + cntR cntSt (ms.take j) : Nat) ∧ Fr bl w wr ∧ ORow stepE wr (.slice a ms.length cap) (mkRowAt mkSt cntSt k0 ms j) bl) (fun _ i _ => ms.length - (intOf i).toNat)
  case atStart => exact ⟨0, Nat.zero_le _, rfl, by simp [cntR], Fr.refl _ _, by rw [mkRowAt_0]; exact unhide HV⟩
  case round =>
    obtain ⟨j, hj, rfl, rfl, hb, ho⟩ := hrel
    by_cases hlt : j < ms.length
    · obtain ⟨g, rfl⟩ := hsh (by omega)
      have hle := cnt_le (c := cntSt) (l := ms) (j := j)
      have hle2 := cnt_le (c := cntSt) (l := ms) (j := j + 1)
      rw [cnt_succ hlt] at hle2
      have hcm : cntSt ms[j] = 3 := rfl
      have hs := cnt_succ (c := cntSt) hlt
      have hnx := mkRowAt_succ (f := mkSt) (c := cntSt) (k := k0) hlt
      have hset := fun x => mkRowAt_set (f := mkSt) (c := cntSt) (k := k0) hlt x
      have hat := mkRowAt_at (f := mkSt) (c := cntSt) (k := k0) hlt
      generalize hK : k0 + cntR cntSt (ms.take j) = K at *
      generalize ms[j] = m at *
      have hK1 : 1 ≤ K := by omega
      obtain ⟨vs, ib, hE, hc, hx1, hg, hx2⟩ := ho.at hat
      obtain ⟨rfl, -⟩ := hE
      have c0 : wr.cell? ⟨g, j * 3, none⟩ = _ := (hc 0 _ rfl).1
      have f0 : wr.frozen? ⟨g, j * 3, none⟩ = _ := (hc 0 _ rfl).2
      have c1 : wr.cell? ⟨g, j * 3 + 1, none⟩ = _ := (hc 1 _ rfl).1
      have f1 : wr.frozen? ⟨g, j * 3 + 1, none⟩ = _ := (hc 1 _ rfl).2
      have c2 : wr.cell? ⟨g, j * 3 + 2, none⟩ = _ := (hc 2 _ rfl).1
      have f2 : wr.frozen? ⟨g, j * 3 + 2, none⟩ = _ := (hc 2 _ rfl).2
      have p1 : ORow stepE (wr.setCell ⟨g, j * 3, none⟩ (.bool (((K : Int)) % 3 == 0))) _ _ bl := ho.put (unhide HD) hat 0 (by decide) (.bool (((K : Int)) % 3 == 0)) ⟨(((K : Int)) % 3 == 0), m.name, m.idx⟩ (fun w' vs ib h => by obtain ⟨rfl, h⟩ := h; exact ⟨rfl, h⟩)
      rw [hset] at p1
      have hA := mkRow_take_len (f := mkSt) (c := cntSt) (k := k0) hlt
      generalize mkRow mkSt cntSt k0 (ms.take j) = A at *
      generalize ms.drop (j + 1) = B at *
      have HA := hide hA
      have fr1 := (hb.set hg (j * 3) (.bool (((K : Int)) % 3 == 0)))
      have HFR := hide fr1
      have HNX := hide hnx
      have HS := hide hs
      have HK := hide hK
      have hKb : K + 3 ≤ 1099200000000 := by omega
      have HKB := hide hKb
      have hKc : K ≤ 1099200000000 := by omega
      have HM := hide (mark_walk (K + 1) (wr.setCell ⟨g, j * 3, none⟩ (.bool (((K : Int)) % 3 == 0))) (by omega) (by omega))
      have HP1 := hide p1
      clear ho hb hc p1 fr1 hset hat hg hnx hs hA hK hle hle2 hcm h2 hx1 hx2 hsh hKb
      go_wp2_with fail
      refine (unhide HM).mono ?_
      rintro e w2 ⟨rfl, b2⟩
      have o2 := (unhide HP1).below b2
      obtain ⟨vs2, kb, hE2, hc2, hy1, hg, hy2⟩ := o2.at (mid_at (unhide HA))
      obtain ⟨rfl, -⟩ := hE2
      have d1 : w2.cell? ⟨g, j * 3 + 1, none⟩ = _ := (hc2 1 _ rfl).1
      have e1 : w2.frozen? ⟨g, j * 3 + 1, none⟩ = _ := (hc2 1 _ rfl).2
      have d2 : w2.cell? ⟨g, j * 3 + 2, none⟩ = _ := (hc2 2 _ rfl).1
      have e2 : w2.frozen? ⟨g, j * 3 + 2, none⟩ = _ := (hc2 2 _ rfl).2
      have p2 : ORow stepE (w2.setCell ⟨g, j * 3 + 1, none⟩ (.string (mkText (K + 1)))) _ _ bl := o2.put (unhide HD) (mid_at (unhide HA)) 1 (by decide) (.string (mkText (K + 1))) ⟨(((K : Int)) % 3 == 0), (mkText (K + 1)), m.idx⟩ (fun w' vs ib h => by obtain ⟨rfl, h⟩ := h; exact ⟨rfl, h⟩)
      rw [mid_set (unhide HA)] at p2
      have p3 : ORow stepE ((w2.setCell ⟨g, j * 3 + 1, none⟩ (.string (mkText (K + 1)))).setCell ⟨g, j * 3 + 2, none⟩ (.int .i64 ((K : Int) + 1 + 1))) _ _ bl := p2.put (unhide HD) (mid_at (unhide HA)) 2 (by decide) (.int .i64 ((K : Int) + 1 + 1)) ⟨(((K : Int)) % 3 == 0), (mkText (K + 1)), (K : Int) + 1 + 1⟩ (fun w' vs ib h => by obtain ⟨rfl, h⟩ := h; exact ⟨rfl, h⟩)
      rw [mid_set (unhide HA)] at p3
      have fr5 := ((((unhide HFR).next b2).set hg (j * 3 + 1) (.string (mkText (K + 1)))).set hg (j * 3 + 2) (.int .i64 ((K : Int) + 1 + 1)))
      have o3 : ORow stepE ((w2.setCell ⟨g, j * 3 + 1, none⟩ (.string (mkText (K + 1)))).setCell ⟨g, j * 3 + 2, none⟩ (.int .i64 ((K : Int) + 1 + 1))) _ _ bl := p3
      rw [show ⟨(((K : Int)) % 3 == 0), (mkText (K + 1)), (K : Int) + 1 + 1⟩ = mkSt K m from rfl, unhide HNX] at o3
      have HP2 := hide o3
      have HFR2 := hide fr5
      have hKB := unhide HKB
      clear HM HFR HP1 b2 o2 hc2 hy1 hg hy2 p2 p3 fr5 o3 c0 f0 c1 f1 c2 f2
      go_wp2
      go_roundw
      case rel =>
        have hk1 := unhide HK
        have hk2 := unhide HS
        have hk3 : cntSt m = 3 := rfl
        exact ⟨j + 1, by omega, by go_num, by rw [hk2, hk3, ← hk1]; go_num, unhide HFR2, unhide HP2⟩
      case measure => simp [intOf]; omega
    · have hjn : j = ms.length := by omega
      subst hjn
      rw [mkRowAt_all] at ho
      rw [List.take_length]
      go_wp2
      go_ret
      exact ⟨rfl, ho, hb⟩
def cntFo (m : PFOp) : Nat := 4 + cntR cntSt m.steps
def mkFo (k : Nat) (m : PFOp) : PFOp := ⟨(k : Int), (k : Int) + 1, (mkText (k + 2)), (((k : Int) + 1 + 1 + 1) % 3 == 0), mkRow mkSt cntSt (k + 1 + 1 + 1 + 1) m.steps⟩
set_option maxRecDepth 100000 in
set_option maxHeartbeats 1600000 in
theorem markFo_walk (v : Value) (ms : List PFOp) (bl : List Nat) (k0 : Nat) (w : World) (hv : ORow fopE w v ms bl) (hd : bl.Nodup) (h1 : 1 ≤ k0) (h2 : k0 + cntR cntFo ms ≤ 1099200000000) (hln : ms.length ≤ 1000000000) (hil : ∀ j (hj : j < ms.length), ms[j].steps.length ≤ 1000000000) :
    Calls Try.prog 45 #[v, .int .i64 k0] w fun e w' => e = .returned (.int .i64 (k0 + cntR cntFo ms : Nat)) ∧ ORow fopE w' v (mkRow mkFo cntFo k0 ms) bl ∧ Fr bl w w' := by
  obtain ⟨a, cap, rfl, hform, hsh⟩ := hv.form
  clear hform
  have HV := hide hv
  have HD := hide hd
  have HILX := hide hil
  clear hv hd
  go_enter Try.func45, Try.ntmps45
  go_wp2
  go_loopw [1, 5] (fun q i wr => ∃ (j : Nat), j ≤ ms.length ∧ i = .int .i64 j ∧ q = .int .i64 (k0 + cntR cntFo (ms.take j) : Nat) ∧ Fr bl w wr ∧ ORow fopE wr (.slice a ms.length cap) (mkRowAt mkFo cntFo k0 ms j) bl) (fun _ i _ => ms.length - (intOf i).toNat)
  case atStart => exact ⟨0, Nat.zero_le _, rfl, by simp [cntR], Fr.refl _ _, by rw [mkRowAt_0]; exact unhide HV⟩
  case round =>
    obtain ⟨j, hj, rfl, rfl, hb, ho⟩ := hrel
    by_cases hlt : j < ms.length
    · obtain ⟨g, rfl⟩ := hsh (by omega)
      have hle := cnt_le (c := cntFo) (l := ms) (j := j)
      have hle2 := cnt_le (c := cntFo) (l := ms) (j := j + 1)
      rw [cnt_succ hlt] at hle2
      have hcm : cntFo ms[j] = 4 + cntR cntSt ms[j].steps := rfl
      have hpl := unhide HILX j hlt
      have hs := cnt_succ (c := cntFo) hlt
      have hnx := mkRowAt_succ (f := mkFo) (c := cntFo) (k := k0) hlt
      have hset := fun x => mkRowAt_set (f := mkFo) (c := cntFo) (k := k0) hlt x
      have hat := mkRowAt_at (f := mkFo) (c := cntFo) (k := k0) hlt
      generalize hK : k0 + cntR cntFo (ms.take j) = K at *
      generalize ms[j] = m at *
      have hK1 : 1 ≤ K := by omega
      obtain ⟨vs, ib, hE, hc, hx1, hg, hx2⟩ := ho.at hat
      obtain ⟨q, rfl, hq⟩ := hE
      have c0 : wr.cell? ⟨g, j * 5, none⟩ = _ := (hc 0 _ rfl).1
      have f0 : wr.frozen? ⟨g, j * 5, none⟩ = _ := (hc 0 _ rfl).2
      have c1 : wr.cell? ⟨g, j * 5 + 1, none⟩ = _ := (hc 1 _ rfl).1
      have f1 : wr.frozen? ⟨g, j * 5 + 1, none⟩ = _ := (hc 1 _ rfl).2
      have c2 : wr.cell? ⟨g, j * 5 + 2, none⟩ = _ := (hc 2 _ rfl).1
      have f2 : wr.frozen? ⟨g, j * 5 + 2, none⟩ = _ := (hc 2 _ rfl).2
      have c3 : wr.cell? ⟨g, j * 5 + 3, none⟩ = _ := (hc 3 _ rfl).1
      have f3 : wr.frozen? ⟨g, j * 5 + 3, none⟩ = _ := (hc 3 _ rfl).2
      have c4 : wr.cell? ⟨g, j * 5 + 4, none⟩ = _ := (hc 4 _ rfl).1
      have p1 : ORow fopE (wr.setCell ⟨g, j * 5, none⟩ (.int .i64 ((K : Int)))) _ _ bl := ho.put (unhide HD) hat 0 (by decide) (.int .i64 ((K : Int))) ⟨(K : Int), m.n, m.s, m.root, m.steps⟩ (fun w' vs ib h => by obtain ⟨q, rfl, h⟩ := h; exact ⟨q, rfl, h⟩)
      rw [hset] at p1
      have hA := mkRow_take_len (f := mkFo) (c := cntFo) (k := k0) hlt
      generalize mkRow mkFo cntFo k0 (ms.take j) = A at *
      generalize ms.drop (j + 1) = B at *
      have HA := hide hA
      have p2 : ORow fopE ((wr.setCell ⟨g, j * 5, none⟩ (.int .i64 ((K : Int)))).setCell ⟨g, j * 5 + 1, none⟩ (.int .i64 ((K : Int) + 1))) _ _ bl := p1.put (unhide HD) (mid_at (unhide HA)) 1 (by decide) (.int .i64 ((K : Int) + 1)) ⟨(K : Int), (K : Int) + 1, m.s, m.root, m.steps⟩ (fun w' vs ib h => by obtain ⟨q, rfl, h⟩ := h; exact ⟨q, rfl, h⟩)
      rw [mid_set (unhide HA)] at p2
      have fr1 := ((hb.set hg (j * 5) (.int .i64 ((K : Int)))).set hg (j * 5 + 1) (.int .i64 ((K : Int) + 1)))
      have HFR := hide fr1
      have HNX := hide hnx
      have HS := hide hs
      have HK := hide hK
      have hKb : K + 4 + cntR cntSt m.steps ≤ 1099200000000 := by omega
      have HKB := hide hKb
      have hKc : K ≤ 1099200000000 := by omega
      have HQL := hide hpl
      have HM := hide (mark_walk (K + 2) ((wr.setCell ⟨g, j * 5, none⟩ (.int .i64 ((K : Int)))).setCell ⟨g, j * 5 + 1, none⟩ (.int .i64 ((K : Int) + 1))) (by omega) (by omega))
      have HP1 := hide p2
      clear ho hb hc p1 p2 fr1 hq hset hat hg hnx hs hA hK hle hle2 hcm h2 hx1 hx2 hsh hKb hpl
      go_wp2_with fail
      refine (unhide HM).mono ?_
      rintro e w2 ⟨rfl, b2⟩
      have o2 := (unhide HP1).below b2
      obtain ⟨vs2, kb, hE2, hc2, hy1, hg, hy2⟩ := o2.at (mid_at (unhide HA))
      obtain ⟨q2, rfl, hq2⟩ := hE2
      have d2 : w2.cell? ⟨g, j * 5 + 2, none⟩ = _ := (hc2 2 _ rfl).1
      have e2 : w2.frozen? ⟨g, j * 5 + 2, none⟩ = _ := (hc2 2 _ rfl).2
      have d3 : w2.cell? ⟨g, j * 5 + 3, none⟩ = _ := (hc2 3 _ rfl).1
      have e3 : w2.frozen? ⟨g, j * 5 + 3, none⟩ = _ := (hc2 3 _ rfl).2
      have d4 : w2.cell? ⟨g, j * 5 + 4, none⟩ = some q2 := (hc2 4 _ rfl).1
      have p3 : ORow fopE (w2.setCell ⟨g, j * 5 + 2, none⟩ (.string (mkText (K + 2)))) _ _ bl := o2.put (unhide HD) (mid_at (unhide HA)) 2 (by decide) (.string (mkText (K + 2))) ⟨(K : Int), (K : Int) + 1, (mkText (K + 2)), m.root, m.steps⟩ (fun w' vs ib h => by obtain ⟨q, rfl, h⟩ := h; exact ⟨q, rfl, h⟩)
      rw [mid_set (unhide HA)] at p3
      have p4 : ORow fopE ((w2.setCell ⟨g, j * 5 + 2, none⟩ (.string (mkText (K + 2)))).setCell ⟨g, j * 5 + 3, none⟩ (.bool (((K : Int) + 1 + 1 + 1) % 3 == 0))) _ _ bl := p3.put (unhide HD) (mid_at (unhide HA)) 3 (by decide) (.bool (((K : Int) + 1 + 1 + 1) % 3 == 0)) ⟨(K : Int), (K : Int) + 1, (mkText (K + 2)), (((K : Int) + 1 + 1 + 1) % 3 == 0), m.steps⟩ (fun w' vs ib h => by obtain ⟨q, rfl, h⟩ := h; exact ⟨q, rfl, h⟩)
      rw [mid_set (unhide HA)] at p4
      have fr5 := ((((unhide HFR).next b2).set hg (j * 5 + 2) (.string (mkText (K + 2)))).set hg (j * 5 + 3) (.bool (((K : Int) + 1 + 1 + 1) % 3 == 0)))
      obtain ⟨vs5, jb, hE5, hc5, hjs, hz1, hjd, hclose⟩ := p4.inner (unhide HD) (mid_at (unhide HA))
      obtain ⟨q5, rfl, hq5⟩ := hE5
      have hqq : q5 = q2 := by
        have c5 : ((w2.setCell ⟨g, j * 5 + 2, none⟩ (.string (mkText (K + 2)))).setCell ⟨g, j * 5 + 3, none⟩ (.bool (((K : Int) + 1 + 1 + 1) % 3 == 0))).cell? ⟨g, j * 5 + 4, none⟩ = some q5 := (hc5 4 _ rfl).1
        rw [cell_set_off _ _ _ _ _ (by omega), cell_set_off _ _ _ _ _ (by omega), d4] at c5
        exact (Option.some.inj c5).symm
      subst hqq
      have HM2 := hide (markSt_walk q5 m.steps jb (K + 1 + 1 + 1 + 1) _ hq5 hjd (by omega) (by have := unhide HKB; omega) (unhide HQL))
      have HFR5 := hide fr5
      have HCL := hide hclose
      have HJS := hide hjs
      clear HM HFR HP1 b2 o2 hc2 hy1 hg hy2 hq2 p3 p4 fr5 hc5 hjs hz1 hjd hclose hq5 c0 f0 c1 f1 c2 f2 c3 f3 c4
      go_wp2_with fail
      refine (unhide HM2).mono ?_
      rintro e w3 ⟨rfl, ho3, fr3⟩
      have o3 := unhide HCL w3 (mkFo K m) fr3 ⟨q5, rfl, ho3⟩
      rw [mid_set (unhide HA), unhide HNX] at o3
      have HP2 := hide o3
      have HFR2 := hide ((unhide HFR5).trans (fr3.mono (unhide HJS)))
      have hKB := unhide HKB
      clear HM2 HFR5 HCL HJS ho3 fr3 o3
      go_wp2
      go_roundw
      case rel =>
        have hk1 := unhide HK
        have hk2 := unhide HS
        have hk3 : cntFo m = 4 + cntR cntSt m.steps := rfl
        exact ⟨j + 1, by omega, by go_num, by rw [hk2, hk3, ← hk1]; go_num, unhide HFR2, unhide HP2⟩
      case measure => simp [intOf]; omega
    · have hjn : j = ms.length := by omega
      subst hjn
      rw [mkRowAt_all] at ho
      rw [List.take_length]
      go_wp2
      go_ret
      exact ⟨rfl, ho, hb⟩
def cntSe (m : PSel) : Nat := 8 + cntR cntFo m.cond
def mkSe (k : Nat) (m : PSel) : PSel := ⟨(k : Int), (mkText (k + 1)), (((k : Int) + 1 + 1) % 3 == 0), (((k : Int) + 1 + 1 + 1) % 3 == 0), (((k : Int) + 1 + 1 + 1 + 1) % 3 == 0), (k : Int) + 1 + 1 + 1 + 1 + 1, (k : Int) + 1 + 1 + 1 + 1 + 1 + 1, (k : Int) + 1 + 1 + 1 + 1 + 1 + 1 + 1, mkRow mkFo cntFo (k + 1 + 1 + 1 + 1 + 1 + 1 + 1 + 1) m.cond⟩
set_option maxRecDepth 100000 in
set_option maxHeartbeats 1600000 in
theorem markSe_walk (v : Value) (ms : List PSel) (bl : List Nat) (k0 : Nat) (w : World) (hv : ORow selE w v ms bl) (hd : bl.Nodup) (h1 : 1 ≤ k0) (h2 : k0 + cntR cntSe ms ≤ 1099200000000) (hln : ms.length ≤ 1000000000) (hil : ∀ j (hj : j < ms.length), ms[j].cond.length ≤ 1000000000 ∧ ∀ k (hk : k < ms[j].cond.length), ms[j].cond[k].steps.length ≤ 1000000000) :
    Calls Try.prog 24 #[v, .int .i64 k0] w fun e w' => e = .returned (.int .i64 (k0 + cntR cntSe ms : Nat)) ∧ ORow selE w' v (mkRow mkSe cntSe k0 ms) bl ∧ Fr bl w w' := by
  obtain ⟨a, cap, rfl, hform, hsh⟩ := hv.form
  clear hform
  have HV := hide hv
  have HD := hide hd
  have HILX := hide hil
  clear hv hd
  go_enter Try.func24, Try.ntmps24
  go_wp2
  go_loopw [1, 5] (fun q i wr => ∃ (j : Nat), j ≤ ms.length ∧ i = .int .i64 j ∧ q = .int .i64 (k0 + cntR cntSe (ms.take j) : Nat) ∧ Fr bl w wr ∧ ORow selE wr (.slice a ms.length cap) (mkRowAt mkSe cntSe k0 ms j) bl) (fun _ i _ => ms.length - (intOf i).toNat)
  case atStart => exact ⟨0, Nat.zero_le _, rfl, by simp [cntR], Fr.refl _ _, by rw [mkRowAt_0]; exact unhide HV⟩
  case round =>
    obtain ⟨j, hj, rfl, rfl, hb, ho⟩ := hrel
    by_cases hlt : j < ms.length
    · obtain ⟨g, rfl⟩ := hsh (by omega)
      have hle := cnt_le (c := cntSe) (l := ms) (j := j)
      have hle2 := cnt_le (c := cntSe) (l := ms) (j := j + 1)
      rw [cnt_succ hlt] at hle2
      have hcm : cntSe ms[j] = 8 + cntR cntFo ms[j].cond := rfl
      have hpl := unhide HILX j hlt
      have hs := cnt_succ (c := cntSe) hlt
      have hnx := mkRowAt_succ (f := mkSe) (c := cntSe) (k := k0) hlt
      have hset := fun x => mkRowAt_set (f := mkSe) (c := cntSe) (k := k0) hlt x
      have hat := mkRowAt_at (f := mkSe) (c := cntSe) (k := k0) hlt
      generalize hK : k0 + cntR cntSe (ms.take j) = K at *
      generalize ms[j] = m at *
      have hK1 : 1 ≤ K := by omega
      obtain ⟨vs, ib, hE, hc, hx1, hg, hx2⟩ := ho.at hat
      obtain ⟨q, rfl, hq⟩ := hE
      have c0 : wr.cell? ⟨g, j * 9, none⟩ = _ := (hc 0 _ rfl).1
      have f0 : wr.frozen? ⟨g, j * 9, none⟩ = _ := (hc 0 _ rfl).2
      have c1 : wr.cell? ⟨g, j * 9 + 1, none⟩ = _ := (hc 1 _ rfl).1
      have f1 : wr.frozen? ⟨g, j * 9 + 1, none⟩ = _ := (hc 1 _ rfl).2
      have c2 : wr.cell? ⟨g, j * 9 + 2, none⟩ = _ := (hc 2 _ rfl).1
      have f2 : wr.frozen? ⟨g, j * 9 + 2, none⟩ = _ := (hc 2 _ rfl).2
      have c3 : wr.cell? ⟨g, j * 9 + 3, none⟩ = _ := (hc 3 _ rfl).1
      have f3 : wr.frozen? ⟨g, j * 9 + 3, none⟩ = _ := (hc 3 _ rfl).2
      have c4 : wr.cell? ⟨g, j * 9 + 4, none⟩ = _ := (hc 4 _ rfl).1
      have f4 : wr.frozen? ⟨g, j * 9 + 4, none⟩ = _ := (hc 4 _ rfl).2
      have c5 : wr.cell? ⟨g, j * 9 + 5, none⟩ = _ := (hc 5 _ rfl).1
      have f5 : wr.frozen? ⟨g, j * 9 + 5, none⟩ = _ := (hc 5 _ rfl).2
      have c6 : wr.cell? ⟨g, j * 9 + 6, none⟩ = _ := (hc 6 _ rfl).1
      have f6 : wr.frozen? ⟨g, j * 9 + 6, none⟩ = _ := (hc 6 _ rfl).2
      have c7 : wr.cell? ⟨g, j * 9 + 7, none⟩ = _ := (hc 7 _ rfl).1
      have f7 : wr.frozen? ⟨g, j * 9 + 7, none⟩ = _ := (hc 7 _ rfl).2
      have c8 : wr.cell? ⟨g, j * 9 + 8, none⟩ = _ := (hc 8 _ rfl).1
      have p1 : ORow selE (wr.setCell ⟨g, j * 9, none⟩ (.int .i64 ((K : Int)))) _ _ bl := ho.put (unhide HD) hat 0 (by decide) (.int .i64 ((K : Int))) ⟨(K : Int), m.name, m.hasA, m.hasB, m.hasC, m.a, m.b, m.c, m.cond⟩ (fun w' vs ib h => by obtain ⟨q, rfl, h⟩ := h; exact ⟨q, rfl, h⟩)
      rw [hset] at p1
      have hA := mkRow_take_len (f := mkSe) (c := cntSe) (k := k0) hlt
      generalize mkRow mkSe cntSe k0 (ms.take j) = A at *
      generalize ms.drop (j + 1) = B at *
      have HA := hide hA
      have fr1 := (hb.set hg (j * 9) (.int .i64 ((K : Int))))
      have HFR := hide fr1
      have HNX := hide hnx
      have HS := hide hs
      have HK := hide hK
      have hKb : K + 8 + cntR cntFo m.cond ≤ 1099200000000 := by omega
      have HKB := hide hKb
      have hKc : K ≤ 1099200000000 := by omega
      have HQL := hide hpl
      have HM := hide (mark_walk (K + 1) (wr.setCell ⟨g, j * 9, none⟩ (.int .i64 ((K : Int)))) (by omega) (by omega))
      have HP1 := hide p1
      clear ho hb hc p1 fr1 hq hset hat hg hnx hs hA hK hle hle2 hcm h2 hx1 hx2 hsh hKb hpl
      go_wp2_with fail
      refine (unhide HM).mono ?_
      rintro e w2 ⟨rfl, b2⟩
      have o2 := (unhide HP1).below b2
      obtain ⟨vs2, kb, hE2, hc2, hy1, hg, hy2⟩ := o2.at (mid_at (unhide HA))
      obtain ⟨q2, rfl, hq2⟩ := hE2
      have d1 : w2.cell? ⟨g, j * 9 + 1, none⟩ = _ := (hc2 1 _ rfl).1
      have e1 : w2.frozen? ⟨g, j * 9 + 1, none⟩ = _ := (hc2 1 _ rfl).2
      have d2 : w2.cell? ⟨g, j * 9 + 2, none⟩ = _ := (hc2 2 _ rfl).1
      have e2 : w2.frozen? ⟨g, j * 9 + 2, none⟩ = _ := (hc2 2 _ rfl).2
      have d3 : w2.cell? ⟨g, j * 9 + 3, none⟩ = _ := (hc2 3 _ rfl).1
      have e3 : w2.frozen? ⟨g, j * 9 + 3, none⟩ = _ := (hc2 3 _ rfl).2
      have d4 : w2.cell? ⟨g, j * 9 + 4, none⟩ = _ := (hc2 4 _ rfl).1
      have e4 : w2.frozen? ⟨g, j * 9 + 4, none⟩ = _ := (hc2 4 _ rfl).2
      have d5 : w2.cell? ⟨g, j * 9 + 5, none⟩ = _ := (hc2 5 _ rfl).1
      have e5 : w2.frozen? ⟨g, j * 9 + 5, none⟩ = _ := (hc2 5 _ rfl).2
      have d6 : w2.cell? ⟨g, j * 9 + 6, none⟩ = _ := (hc2 6 _ rfl).1
      have e6 : w2.frozen? ⟨g, j * 9 + 6, none⟩ = _ := (hc2 6 _ rfl).2
      have d7 : w2.cell? ⟨g, j * 9 + 7, none⟩ = _ := (hc2 7 _ rfl).1
      have e7 : w2.frozen? ⟨g, j * 9 + 7, none⟩ = _ := (hc2 7 _ rfl).2
      have d8 : w2.cell? ⟨g, j * 9 + 8, none⟩ = some q2 := (hc2 8 _ rfl).1
      have p2 : ORow selE (w2.setCell ⟨g, j * 9 + 1, none⟩ (.string (mkText (K + 1)))) _ _ bl := o2.put (unhide HD) (mid_at (unhide HA)) 1 (by decide) (.string (mkText (K + 1))) ⟨(K : Int), (mkText (K + 1)), m.hasA, m.hasB, m.hasC, m.a, m.b, m.c, m.cond⟩ (fun w' vs ib h => by obtain ⟨q, rfl, h⟩ := h; exact ⟨q, rfl, h⟩)
      rw [mid_set (unhide HA)] at p2
      have p3 : ORow selE ((w2.setCell ⟨g, j * 9 + 1, none⟩ (.string (mkText (K + 1)))).setCell ⟨g, j * 9 + 2, none⟩ (.bool (((K : Int) + 1 + 1) % 3 == 0))) _ _ bl := p2.put (unhide HD) (mid_at (unhide HA)) 2 (by decide) (.bool (((K : Int) + 1 + 1) % 3 == 0)) ⟨(K : Int), (mkText (K + 1)), (((K : Int) + 1 + 1) % 3 == 0), m.hasB, m.hasC, m.a, m.b, m.c, m.cond⟩ (fun w' vs ib h => by obtain ⟨q, rfl, h⟩ := h; exact ⟨q, rfl, h⟩)
      rw [mid_set (unhide HA)] at p3
      have p4 : ORow selE (((w2.setCell ⟨g, j * 9 + 1, none⟩ (.string (mkText (K + 1)))).setCell ⟨g, j * 9 + 2, none⟩ (.bool (((K : Int) + 1 + 1) % 3 == 0))).setCell ⟨g, j * 9 + 3, none⟩ (.bool (((K : Int) + 1 + 1 + 1) % 3 == 0))) _ _ bl := p3.put (unhide HD) (mid_at (unhide HA)) 3 (by decide) (.bool (((K : Int) + 1 + 1 + 1) % 3 == 0)) ⟨(K : Int), (mkText (K + 1)), (((K : Int) + 1 + 1) % 3 == 0), (((K : Int) + 1 + 1 + 1) % 3 == 0), m.hasC, m.a, m.b, m.c, m.cond⟩ (fun w' vs ib h => by obtain ⟨q, rfl, h⟩ := h; exact ⟨q, rfl, h⟩)
      rw [mid_set (unhide HA)] at p4
      have p5 : ORow selE ((((w2.setCell ⟨g, j * 9 + 1, none⟩ (.string (mkText (K + 1)))).setCell ⟨g, j * 9 + 2, none⟩ (.bool (((K : Int) + 1 + 1) % 3 == 0))).setCell ⟨g, j * 9 + 3, none⟩ (.bool (((K : Int) + 1 + 1 + 1) % 3 == 0))).setCell ⟨g, j * 9 + 4, none⟩ (.bool (((K : Int) + 1 + 1 + 1 + 1) % 3 == 0))) _ _ bl := p4.put (unhide HD) (mid_at (unhide HA)) 4 (by decide) (.bool (((K : Int) + 1 + 1 + 1 + 1) % 3 == 0)) ⟨(K : Int), (mkText (K + 1)), (((K : Int) + 1 + 1) % 3 == 0), (((K : Int) + 1 + 1 + 1) % 3 == 0), (((K : Int) + 1 + 1 + 1 + 1) % 3 == 0), m.a, m.b, m.c, m.cond⟩ (fun w' vs ib h => by obtain ⟨q, rfl, h⟩ := h; exact ⟨q, rfl, h⟩)
      rw [mid_set (unhide HA)] at p5
      have p6 : ORow selE (((((w2.setCell ⟨g, j * 9 + 1, none⟩ (.string (mkText (K + 1)))).setCell ⟨g, j * 9 + 2, none⟩ (.bool (((K : Int) + 1 + 1) % 3 == 0))).setCell ⟨g, j * 9 + 3, none⟩ (.bool (((K : Int) + 1 + 1 + 1) % 3 == 0))).setCell ⟨g, j * 9 + 4, none⟩ (.bool (((K : Int) + 1 + 1 + 1 + 1) % 3 == 0))).setCell ⟨g, j * 9 + 5, none⟩ (.int .i64 ((K : Int) + 1 + 1 + 1 + 1 + 1))) _ _ bl := p5.put (unhide HD) (mid_at (unhide HA)) 5 (by decide) (.int .i64 ((K : Int) + 1 + 1 + 1 + 1 + 1)) ⟨(K : Int), (mkText (K + 1)), (((K : Int) + 1 + 1) % 3 == 0), (((K : Int) + 1 + 1 + 1) % 3 == 0), (((K : Int) + 1 + 1 + 1 + 1) % 3 == 0), (K : Int) + 1 + 1 + 1 + 1 + 1, m.b, m.c, m.cond⟩ (fun w' vs ib h => by obtain ⟨q, rfl, h⟩ := h; exact ⟨q, rfl, h⟩)
      rw [mid_set (unhide HA)] at p6
      have p7 : ORow selE ((((((w2.setCell ⟨g, j * 9 + 1, none⟩ (.string (mkText (K + 1)))).setCell ⟨g, j * 9 + 2, none⟩ (.bool (((K : Int) + 1 + 1) % 3 == 0))).setCell ⟨g, j * 9 + 3, none⟩ (.bool (((K : Int) + 1 + 1 + 1) % 3 == 0))).setCell ⟨g, j * 9 + 4, none⟩ (.bool (((K : Int) + 1 + 1 + 1 + 1) % 3 == 0))).setCell ⟨g, j * 9 + 5, none⟩ (.int .i64 ((K : Int) + 1 + 1 + 1 + 1 + 1))).setCell ⟨g, j * 9 + 6, none⟩ (.int .i64 ((K : Int) + 1 + 1 + 1 + 1 + 1 + 1))) _ _ bl := p6.put (unhide HD) (mid_at (unhide HA)) 6 (by decide) (.int .i64 ((K : Int) + 1 + 1 + 1 + 1 + 1 + 1)) ⟨(K : Int), (mkText (K + 1)), (((K : Int) + 1 + 1) % 3 == 0), (((K : Int) + 1 + 1 + 1) % 3 == 0), (((K : Int) + 1 + 1 + 1 + 1) % 3 == 0), (K : Int) + 1 + 1 + 1 + 1 + 1, (K : Int) + 1 + 1 + 1 + 1 + 1 + 1, m.c, m.cond⟩ (fun w' vs ib h => by obtain ⟨q, rfl, h⟩ := h; exact ⟨q, rfl, h⟩)
      rw [mid_set (unhide HA)] at p7
      have p8 : ORow selE (((((((w2.setCell ⟨g, j * 9 + 1, none⟩ (.string (mkText (K + 1)))).setCell ⟨g, j * 9 + 2, none⟩ (.bool (((K : Int) + 1 + 1) % 3 == 0))).setCell ⟨g, j * 9 + 3, none⟩ (.bool (((K : Int) + 1 + 1 + 1) % 3 == 0))).setCell ⟨g, j * 9 + 4, none⟩ (.bool (((K : Int) + 1 + 1 + 1 + 1) % 3 == 0))).setCell ⟨g, j * 9 + 5, none⟩ (.int .i64 ((K : Int) + 1 + 1 + 1 + 1 + 1))).setCell ⟨g, j * 9 + 6, none⟩ (.int .i64 ((K : Int) + 1 + 1 + 1 + 1 + 1 + 1))).setCell ⟨g, j * 9 + 7, none⟩ (.int .i64 ((K : Int) + 1 + 1 + 1 + 1 + 1 + 1 + 1))) _ _ bl := p7.put (unhide HD) (mid_at (unhide HA)) 7 (by decide) (.int .i64 ((K : Int) + 1 + 1 + 1 + 1 + 1 + 1 + 1)) ⟨(K : Int), (mkText (K + 1)), (((K : Int) + 1 + 1) % 3 == 0), (((K : Int) + 1 + 1 + 1) % 3 == 0), (((K : Int) + 1 + 1 + 1 + 1) % 3 == 0), (K : Int) + 1 + 1 + 1 + 1 + 1, (K : Int) + 1 + 1 + 1 + 1 + 1 + 1, (K : Int) + 1 + 1 + 1 + 1 + 1 + 1 + 1, m.cond⟩ (fun w' vs ib h => by obtain ⟨q, rfl, h⟩ := h; exact ⟨q, rfl, h⟩)
      rw [mid_set (unhide HA)] at p8
      have fr5 := (((((((((unhide HFR).next b2).set hg (j * 9 + 1) (.string (mkText (K + 1)))).set hg (j * 9 + 2) (.bool (((K : Int) + 1 + 1) % 3 == 0))).set hg (j * 9 + 3) (.bool (((K : Int) + 1 + 1 + 1) % 3 == 0))).set hg (j * 9 + 4) (.bool (((K : Int) + 1 + 1 + 1 + 1) % 3 == 0))).set hg (j * 9 + 5) (.int .i64 ((K : Int) + 1 + 1 + 1 + 1 + 1))).set hg (j * 9 + 6) (.int .i64 ((K : Int) + 1 + 1 + 1 + 1 + 1 + 1))).set hg (j * 9 + 7) (.int .i64 ((K : Int) + 1 + 1 + 1 + 1 + 1 + 1 + 1)))
      obtain ⟨vs5, jb, hE5, hc5, hjs, hz1, hjd, hclose⟩ := p8.inner (unhide HD) (mid_at (unhide HA))
      obtain ⟨q5, rfl, hq5⟩ := hE5
      have hqq : q5 = q2 := by
        have c5 : (((((((w2.setCell ⟨g, j * 9 + 1, none⟩ (.string (mkText (K + 1)))).setCell ⟨g, j * 9 + 2, none⟩ (.bool (((K : Int) + 1 + 1) % 3 == 0))).setCell ⟨g, j * 9 + 3, none⟩ (.bool (((K : Int) + 1 + 1 + 1) % 3 == 0))).setCell ⟨g, j * 9 + 4, none⟩ (.bool (((K : Int) + 1 + 1 + 1 + 1) % 3 == 0))).setCell ⟨g, j * 9 + 5, none⟩ (.int .i64 ((K : Int) + 1 + 1 + 1 + 1 + 1))).setCell ⟨g, j * 9 + 6, none⟩ (.int .i64 ((K : Int) + 1 + 1 + 1 + 1 + 1 + 1))).setCell ⟨g, j * 9 + 7, none⟩ (.int .i64 ((K : Int) + 1 + 1 + 1 + 1 + 1 + 1 + 1))).cell? ⟨g, j * 9 + 8, none⟩ = some q5 := (hc5 8 _ rfl).1
        rw [cell_set_off _ _ _ _ _ (by omega), cell_set_off _ _ _ _ _ (by omega), cell_set_off _ _ _ _ _ (by omega), cell_set_off _ _ _ _ _ (by omega), cell_set_off _ _ _ _ _ (by omega), cell_set_off _ _ _ _ _ (by omega), cell_set_off _ _ _ _ _ (by omega), d8] at c5
        exact (Option.some.inj c5).symm
      subst hqq
      have HM2 := hide (markFo_walk q5 m.cond jb (K + 1 + 1 + 1 + 1 + 1 + 1 + 1 + 1) _ hq5 hjd (by omega) (by have := unhide HKB; omega) (unhide HQL).1 (unhide HQL).2)
      have HFR5 := hide fr5
      have HCL := hide hclose
      have HJS := hide hjs
      clear HM HFR HP1 b2 o2 hc2 hy1 hg hy2 hq2 p2 p3 p4 p5 p6 p7 p8 fr5 hc5 hjs hz1 hjd hclose hq5 c0 f0 c1 f1 c2 f2 c3 f3 c4 f4 c5 f5 c6 f6 c7 f7 c8
      go_wp2_with fail
      refine (unhide HM2).mono ?_
      rintro e w3 ⟨rfl, ho3, fr3⟩
      have o3 := unhide HCL w3 (mkSe K m) fr3 ⟨q5, rfl, ho3⟩
      rw [mid_set (unhide HA), unhide HNX] at o3
      have HP2 := hide o3
      have HFR2 := hide ((unhide HFR5).trans (fr3.mono (unhide HJS)))
      have hKB := unhide HKB
      clear HM2 HFR5 HCL HJS ho3 fr3 o3
      go_wp2
      go_roundw
      case rel =>
        have hk1 := unhide HK
        have hk2 := unhide HS
        have hk3 : cntSe m = 8 + cntR cntFo m.cond := rfl
        exact ⟨j + 1, by omega, by go_num, by rw [hk2, hk3, ← hk1]; go_num, unhide HFR2, unhide HP2⟩
      case measure => simp [intOf]; omega
    · have hjn : j = ms.length := by omega
      subst hjn
      rw [mkRowAt_all] at ho
      rw [List.take_length]
      go_wp2
      go_ret
      exact ⟨rfl, ho, hb⟩
def cntSg (m : PSeg) : Nat := 1 + cntR cntSe m.sels
def mkSg (k : Nat) (m : PSeg) : PSeg := ⟨(((k : Int)) % 3 == 0), mkRow mkSe cntSe (k + 1) m.sels⟩
set_option maxRecDepth 100000 in
set_option maxHeartbeats 1600000 in
theorem markSg_walk (v : Value) (ms : List PSeg) (bl : List Nat) (k0 : Nat) (w : World) (hv : ORow segE w v ms bl) (hd : bl.Nodup) (h1 : 1 ≤ k0) (h2 : k0 + cntR cntSg ms ≤ 1099200000000) (hln : ms.length ≤ 1000000000) (hil : ∀ j (hj : j < ms.length), ms[j].sels.length ≤ 1000000000 ∧ ∀ k (hk : k < ms[j].sels.length), ms[j].sels[k].cond.length ≤ 1000000000 ∧ ∀ l (hl : l < ms[j].sels[k].cond.length), ms[j].sels[k].cond[l].steps.length ≤ 1000000000) :
    Calls Try.prog 12 #[v, .int .i64 k0] w fun e w' => e = .returned (.int .i64 (k0 + cntR cntSg ms : Nat)) ∧ ORow segE w' v (mkRow mkSg cntSg k0 ms) bl ∧ Fr bl w w' := by
  obtain ⟨a, cap, rfl, hform, hsh⟩ := hv.form
  clear hform
  have HV := hide hv
  have HD := hide hd
  have HILX := hide hil
  clear hv hd
  go_enter Try.func12, Try.ntmps12
  go_wp2
  go_loopw [1, 5] (fun q i wr => ∃ (j : Nat), j ≤ ms.length ∧ i = .int .i64 j ∧ q = .int .i64 (k0 + cntR cntSg (ms.take j) : Nat) ∧ Fr bl w wr ∧ ORow segE wr (.slice a ms.length cap) (mkRowAt mkSg cntSg k0 ms j) bl) (fun _ i _ => ms.length - (intOf i).toNat)
  case atStart => exact ⟨0, Nat.zero_le _, rfl, by simp [cntR], Fr.refl _ _, by rw [mkRowAt_0]; exact unhide HV⟩
  case round =>
    obtain ⟨j, hj, rfl, rfl, hb, ho⟩ := hrel
    by_cases hlt : j < ms.length
    · obtain ⟨g, rfl⟩ := hsh (by omega)
      have hle := cnt_le (c := cntSg) (l := ms) (j := j)
      have hle2 := cnt_le (c := cntSg) (l := ms) (j := j + 1)
      rw [cnt_succ hlt] at hle2
      have hcm : cntSg ms[j] = 1 + cntR cntSe ms[j].sels := rfl
      have hpl := unhide HILX j hlt
      have hs := cnt_succ (c := cntSg) hlt
      have hnx := mkRowAt_succ (f := mkSg) (c := cntSg) (k := k0) hlt
      have hset := fun x => mkRowAt_set (f := mkSg) (c := cntSg) (k := k0) hlt x
      have hat := mkRowAt_at (f := mkSg) (c := cntSg) (k := k0) hlt
      generalize hK : k0 + cntR cntSg (ms.take j) = K at *
      generalize ms[j] = m at *
      have hK1 : 1 ≤ K := by omega
      obtain ⟨vs, ib, hE, hc, hx1, hg, hx2⟩ := ho.at hat
      obtain ⟨q, rfl, hq⟩ := hE
      have c0 : wr.cell? ⟨g, j * 2, none⟩ = _ := (hc 0 _ rfl).1
      have f0 : wr.frozen? ⟨g, j * 2, none⟩ = _ := (hc 0 _ rfl).2
      have c1 : wr.cell? ⟨g, j * 2 + 1, none⟩ = _ := (hc 1 _ rfl).1
      have p1 : ORow segE (wr.setCell ⟨g, j * 2, none⟩ (.bool (((K : Int)) % 3 == 0))) _ _ bl := ho.put (unhide HD) hat 0 (by decide) (.bool (((K : Int)) % 3 == 0)) ⟨(((K : Int)) % 3 == 0), m.sels⟩ (fun w' vs ib h => by obtain ⟨q, rfl, h⟩ := h; exact ⟨q, rfl, h⟩)
      rw [hset] at p1
      have hA := mkRow_take_len (f := mkSg) (c := cntSg) (k := k0) hlt
      generalize mkRow mkSg cntSg k0 (ms.take j) = A at *
      generalize ms.drop (j + 1) = B at *
      have HA := hide hA
      have fr1 := (hb.set hg (j * 2) (.bool (((K : Int)) % 3 == 0)))
      have HFR := hide fr1
      have HNX := hide hnx
      have HS := hide hs
      have HK := hide hK
      have hKb : K + 1 + cntR cntSe m.sels ≤ 1099200000000 := by omega
      have HKB := hide hKb
      have hKc : K ≤ 1099200000000 := by omega
      have HQL := hide hpl
      have fr5 := fr1
      obtain ⟨vs5, jb, hE5, hc5, hjs, hz1, hjd, hclose⟩ := p1.inner (unhide HD) (mid_at (unhide HA))
      obtain ⟨q5, rfl, hq5⟩ := hE5
      have hqq : q5 = q := by
        have c5 : (wr.setCell ⟨g, j * 2, none⟩ (.bool (((K : Int)) % 3 == 0))).cell? ⟨g, j * 2 + 1, none⟩ = some q5 := (hc5 1 _ rfl).1
        rw [cell_set_off _ _ _ _ _ (by omega), c1] at c5
        exact (Option.some.inj c5).symm
      subst hqq
      have HM2 := hide (markSe_walk q5 m.sels jb (K + 1) _ hq5 hjd (by omega) (by have := unhide HKB; omega) (unhide HQL).1 (unhide HQL).2)
      have HFR5 := hide fr5
      have HCL := hide hclose
      have HJS := hide hjs
      clear HFR ho hb hc p1 fr1 fr5 hq hset hat hg hnx hs hA hK hle hle2 hcm h2 hx1 hx2 hsh hKb hpl hc5 hjs hz1 hjd hclose hq5
      go_wp2_with fail
      refine (unhide HM2).mono ?_
      rintro e w3 ⟨rfl, ho3, fr3⟩
      have o3 := unhide HCL w3 (mkSg K m) fr3 ⟨q5, rfl, ho3⟩
      rw [mid_set (unhide HA), unhide HNX] at o3
      have HP2 := hide o3
      have HFR2 := hide ((unhide HFR5).trans (fr3.mono (unhide HJS)))
      have hKB := unhide HKB
      clear HM2 HFR5 HCL HJS ho3 fr3 o3
      go_wp2
      go_roundw
      case rel =>
        have hk1 := unhide HK
        have hk2 := unhide HS
        have hk3 : cntSg m = 1 + cntR cntSe m.sels := rfl
        exact ⟨j + 1, by omega, by go_num, by rw [hk2, hk3, ← hk1]; go_num, unhide HFR2, unhide HP2⟩
      case measure => simp [intOf]; omega
    · have hjn : j = ms.length := by omega
      subst hjn
      rw [mkRowAt_all] at ho
      rw [List.take_length]
      go_wp2
      go_ret
      exact ⟨rfl, ho, hb⟩
end Go.Proofs.Ytiolpmhodbefoaa

