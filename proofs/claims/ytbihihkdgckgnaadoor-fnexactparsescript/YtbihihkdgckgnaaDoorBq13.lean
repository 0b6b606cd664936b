import Derived.Deep.RegionHeld3
import Derived.Test.YtbihihkdgckgnaaDoorBq6
import Derived.Test.YtbihihkdgckgnaaDoorBq12
namespace Go.Proofs.YtbihihkdgckgnaaDoor
open Go.RowKit

def callE : Elem PCall where
  T := 36
  wd := 4
  E := fun _ vs c bl => vs = callC c ∧ bl = []
  len := fun h => by rw [h.1]; rfl
  lt := fun h b hb => by rw [h.2] at hb; simp at hb
  keep := fun h _ => h
def intE : Elem Int where
  T := 3
  wd := 1
  E := fun _ vs n bl => vs = [.int .i64 n] ∧ bl = []
  len := fun h => by rw [h.1]; rfl
  lt := fun h b hb => by rw [h.2] at hb; simp at hb
  keep := fun h _ => h
theorem OC.row {w : World} {B : Nat} {v : Value} {cs : List PCall} (h : OC w B v cs) : ORow callE w v cs v.ownBlock.toList ∧ Fsh B v.ownBlock.toList := by
  refine ⟨⟨cs.map fun c => (callC c, []), by simp, fun j p x h1 h2 => ?_, ?_, ?_⟩, by cases v.ownBlock <;> simp, fun b hb => (World.ownsRow.lt h b (by simpa using hb)).1⟩
  · rw [List.getElem?_map, h2] at h1
    injection h1 with h1
    subst h1
    exact ⟨rfl, rfl⟩
  · have : (cs.map fun c => (callC c, ([] : List Nat))).flatMap (·.1) = cs.flatMap callC := by rw [List.flatMap_map]
    rw [this]
    exact own_mono h (Nat.zero_le _)
  · have : (cs.map fun c => (callC c, ([] : List Nat))).flatMap (·.2) = [] := by rw [List.flatMap_map]; simp
    rw [this, List.append_nil]
theorem OI.row {w : World} {B : Nat} {v : Value} {ns : List Int} (h : OI w B v ns) : ORow intE w v ns v.ownBlock.toList ∧ Fsh B v.ownBlock.toList := by
  refine ⟨⟨ns.map fun n => ([.int .i64 n], []), by simp, fun j p x h1 h2 => ?_, ?_, ?_⟩, by cases v.ownBlock <;> simp, fun b hb => (World.ownsRow.lt h b (by simpa using hb)).1⟩
  · rw [List.getElem?_map, h2] at h1
    injection h1 with h1
    subst h1
    exact ⟨rfl, rfl⟩
  · have : (ns.map fun n => ([Value.int .i64 n], ([] : List Nat))).flatMap (·.1) = ns.map (Value.int .i64) := by rw [List.flatMap_map]; exact List.map_eq_flatMap.symm
    rw [this]
    exact own_mono h (Nat.zero_le _)
  · have : (ns.map fun n => ([Value.int .i64 n], ([] : List Nat))).flatMap (·.2) = [] := by rw [List.flatMap_map]; simp
    rw [this, List.append_nil]
set_option maxHeartbeats 1600000 in
theorem eqCall_walk (c k r : Int) (t : ByteArray) (w : World) : Calls Tryd.prog 28 #[.agg #[.int .i64 c, .int .i64 k, .string t, .int .i64 r], .agg #[.int .i64 c, .int .i64 k, .string t, .int .i64 r]] w fun e w' => e = .returned (.bool true) ∧ Below w.heap.size w w' := by
  have HB := hide (new2 w (Obj.cells #[.int .i64 c, .int .i64 k, .string t, .int .i64 r] 36) (Obj.cells #[.int .i64 c, .int .i64 k, .string t, .int .i64 r] 36)).bel
  go_enter Tryd.func28, Tryd.ntmps28
  go_wp2
  go_ret
  exact ⟨rfl, unhide HB⟩
set_option maxHeartbeats 1600000 in
theorem eqCalls_walk (v v' : Value) (ms : List PCall) (bl bl' : List Nat) (w : World) (h : ORow callE w v ms bl) (k : ORow callE w v' ms bl') :
    Calls Tryd.prog 15 #[v, v'] w fun e w' => e = .returned (.bool true) ∧ Below w.heap.size w w' := by
  have hm := h.len
  unfold maxLen at hm
  obtain ⟨xa, xc, rfl, -, hxa⟩ := h.form
  obtain ⟨ya, yc, rfl, -, hya⟩ := k.form
  have H := hide h
  have K := hide k
  clear h k
  go_enter Tryd.func15, Tryd.ntmps15
  go_wp2
  go_loopw [5] (fun i wr => ∃ k : Nat, k ≤ ms.length ∧ i = .int .i64 k ∧ Below w.heap.size w wr) (fun i _ => ms.length - (intOf i).toNat)
  case atStart => exact ⟨0, Nat.zero_le _, rfl, Below.refl _ _⟩
  case round =>
    obtain ⟨k, hk, rfl, hb⟩ := hrel
    by_cases hlt : k < ms.length
    · obtain ⟨g, rfl⟩ := hxa (by omega)
      obtain ⟨g', rfl⟩ := hya (by omega)
      obtain ⟨vs, ib, hE, hc, -⟩ := ((unhide H).below hb).at (List.getElem?_eq_getElem hlt)
      obtain ⟨rfl, -⟩ := hE
      have c0 : wr.cell? ⟨g, k * 4, none⟩ = some (.int .i64 ms[k].cl) := (hc 0 _ rfl).1
      have c1 : wr.cell? ⟨g, k * 4 + 1, none⟩ = some (.int .i64 ms[k].k) := (hc 1 _ rfl).1
      have c2 : wr.cell? ⟨g, k * 4 + 2, none⟩ = some (.string (baT ms[k].tx)) := (hc 2 _ rfl).1
      have c3 : wr.cell? ⟨g, k * 4 + 3, none⟩ = some (.int .i64 ms[k].rm) := (hc 3 _ rfl).1
      obtain ⟨vs, jb, hE', hc', -⟩ := ((unhide K).below hb).at (List.getElem?_eq_getElem hlt)
      obtain ⟨rfl, -⟩ := hE'
      have d0 : wr.cell? ⟨g', k * 4, none⟩ = some (.int .i64 ms[k].cl) := (hc' 0 _ rfl).1
      have d1 : wr.cell? ⟨g', k * 4 + 1, none⟩ = some (.int .i64 ms[k].k) := (hc' 1 _ rfl).1
      have d2 : wr.cell? ⟨g', k * 4 + 2, none⟩ = some (.string (baT ms[k].tx)) := (hc' 2 _ rfl).1
      have d3 : wr.cell? ⟨g', k * 4 + 3, none⟩ = some (.int .i64 ms[k].rm) := (hc' 3 _ rfl).1
      have HM := hide (eqCall_walk ms[k].cl ms[k].k ms[k].rm (baT ms[k].tx) wr.drew)
      have HB := hide hb
      have hlt' : (k : Int) < (ms.length : Int) := by omega
      clear hxa hya hc hc' hb
      generalize baT ms[k].tx = TX at *
      generalize ms[k].cl = CL at *
      generalize ms[k].k = KK at *
      generalize ms[k].rm = RM at *
      go_wp2
      go_region_law (go_simp; refine (unhide HM).mono ?_; rintro e w1 ⟨rfl, b1⟩)
      all_goals go_wp2
      all_goals go_roundw
      all_goals first
        | exact ⟨k + 1, by omega, by go_num, (unhide HB).drew.trans (b1.mono (by have := (unhide HB).size; simp; omega))⟩
        | (simp [intOf]; omega)
    · clear hxa hya
      go_wp2
      go_ret
      exact ⟨rfl, hb⟩
set_option maxHeartbeats 1600000 in
theorem eqInts_walk (v v' : Value) (ns : List Int) (bl bl' : List Nat) (w : World) (h : ORow intE w v ns bl) (k : ORow intE w v' ns bl') :
    Calls Tryd.prog 16 #[v, v'] w fun e w' => e = .returned (.bool true) ∧ Below w.heap.size w w' := by
  have hm := h.len
  unfold maxLen at hm
  obtain ⟨xa, xc, rfl, -, hxa⟩ := h.form
  obtain ⟨ya, yc, rfl, -, hya⟩ := k.form
  have H := hide h
  have K := hide k
  clear h k
  go_enter Tryd.func16, Tryd.ntmps16
  go_wp2
  go_loopw [5] (fun i wr => ∃ k : Nat, k ≤ ns.length ∧ i = .int .i64 k ∧ Below w.heap.size w wr) (fun i _ => ns.length - (intOf i).toNat)
  case atStart => exact ⟨0, Nat.zero_le _, rfl, Below.refl _ _⟩
  case round =>
    obtain ⟨k, hk, rfl, hb⟩ := hrel
    by_cases hlt : k < ns.length
    · obtain ⟨g, rfl⟩ := hxa (by omega)
      obtain ⟨g', rfl⟩ := hya (by omega)
      obtain ⟨vs, ib, hE, hc, -⟩ := ((unhide H).below hb).at (List.getElem?_eq_getElem hlt)
      obtain ⟨rfl, -⟩ := hE
      have c0 : wr.cell? ⟨g, k, none⟩ = some (.int .i64 ns[k]) := by have := (hc 0 _ rfl).1; rwa [show intE.wd = 1 from rfl, Nat.mul_one, Nat.add_zero] at this
      obtain ⟨vs, jb, hE', hc', -⟩ := ((unhide K).below hb).at (List.getElem?_eq_getElem hlt)
      obtain ⟨rfl, -⟩ := hE'
      have d0 : wr.cell? ⟨g', k, none⟩ = some (.int .i64 ns[k]) := by have := (hc' 0 _ rfl).1; rwa [show intE.wd = 1 from rfl, Nat.mul_one, Nat.add_zero] at this
      have HB := hide hb
      have hlt' : (k : Int) < (ns.length : Int) := by omega
      clear hxa hya hc hc' hb
      generalize ns[k] = NK at *
      go_wp2
      go_quiet (fail)
      go_wp2
      go_roundw
      case rel => exact ⟨k + 1, by omega, by go_num, (unhide HB).trans (by exact dn_b (Below.refl _ _) _)⟩
      case measure => simp [intOf]; omega
    · clear hxa hya
      go_wp2
      go_ret
      exact ⟨rfl, hb⟩
end Go.Proofs.YtbihihkdgckgnaaDoor


namespace Go.Proofs.YtbihihkdgckgnaaDoor
open Go.RowKit

def cntCall (_ : PCall) : Nat := 4
def mkCall (k : Nat) (_ : PCall) : PCall := ⟨(k : Int), (k : Int) + 1, (mkText (k + 1 + 1)).data.toList, (k : Int) + 1 + 1 + 1⟩
theorem cntCalls (ms : List PCall) : cntR cntCall ms = 4 * ms.length := by
  unfold cntR
  induction ms with
  | nil => rfl
  | cons m r ih => rw [List.map_cons, List.sum_cons, ih, List.length_cons]; unfold cntCall; omega
set_option maxRecDepth 100000 in
set_option maxHeartbeats 1600000 in
theorem markCalls_walk (v : Value) (ms : List PCall) (bl : List Nat) (k0 : Nat) (w : World) (hv : ORow callE w v ms bl) (hd : bl.Nodup) (hn : ms.length ≤ 268435456) (h2 : k0 + cntR cntCall ms ≤ 1099200000000) :
    Calls Tryd.prog 17 #[v, .int .i64 k0] w fun e w' => e = .returned (.int .i64 (k0 + cntR cntCall ms : Nat)) ∧ ORow callE w' v (mkRow mkCall cntCall k0 ms) bl ∧ Fr bl w w' := by
  obtain ⟨a, cap, rfl, hform, hsh⟩ := hv.form
  clear hform
  have HV := hide hv
  have HD := hide hd
  clear hv hd
  go_enter Tryd.func17, Tryd.ntmps17
  go_wp2
  go_loopw [1, 5] (fun q i wr => ∃ (j : Nat), j ≤ ms.length ∧ i = .int .i64 j ∧ q = .int .i64 (k0 + cntR cntCall (ms.take j) : Nat) ∧ Fr bl w wr ∧ ORow callE wr (.slice a ms.length cap) (mkRowAt mkCall cntCall k0 ms j) bl) (fun _ i _ => ms.length - (intOf i).toNat)
  case atStart => exact ⟨0, Nat.zero_le _, rfl, by simp [cntR], Fr.refl _ _, by rw [mkRowAt_0]; exact unhide HV⟩
  case round =>
    obtain ⟨j, hj, rfl, rfl, hb, ho⟩ := hrel
    by_cases hlt : j < ms.length
    · obtain ⟨g, rfl⟩ := hsh (by omega)
      have hle2 := cnt_le (c := cntCall) (l := ms) (j := j + 1)
      rw [cnt_succ hlt] at hle2
      have hcm : cntCall ms[j] = 4 := rfl
      have hs := cnt_succ (c := cntCall) hlt
      have hnx := mkRowAt_succ (f := mkCall) (c := cntCall) (k := k0) hlt
      have hset := fun x => mkRowAt_set (f := mkCall) (c := cntCall) (k := k0) hlt x
      have hat := mkRowAt_at (f := mkCall) (c := cntCall) (k := k0) hlt
      generalize hK : k0 + cntR cntCall (ms.take j) = K at *
      generalize ms[j] = m at *
      obtain ⟨vs, ib, hE, hc, -, hg, -⟩ := ho.at hat
      obtain ⟨rfl, -⟩ := hE
      have c0 : wr.cell? ⟨g, j * 4, none⟩ = _ := (hc 0 _ rfl).1
      have f0 : wr.frozen? ⟨g, j * 4, none⟩ = _ := (hc 0 _ rfl).2
      have p1 : ORow callE (wr.setCell ⟨g, j * 4, none⟩ (.int .i64 (K : Int))) _ _ bl := ho.put (unhide HD) hat 0 (by decide) (.int .i64 (K : Int)) ⟨(K : Int), m.k, m.tx, m.rm⟩ (fun w' vs ib h => by obtain ⟨rfl, h⟩ := h; exact ⟨rfl, h⟩)
      rw [hset] at p1
      have fr1 := hb.set hg (j * 4) (.int .i64 (K : Int))
      have hA := mkRow_take_len (f := mkCall) (c := cntCall) (k := k0) hlt
      generalize mkRow mkCall cntCall k0 (ms.take j) = A at *
      generalize ms.drop (j + 1) = B at *
      -- the kind
      obtain ⟨vs1, kb1, hE1, hc1, -, hg1, -⟩ := p1.at (mid_at hA)
      obtain ⟨rfl, -⟩ := hE1
      have c1 : (wr.setCell ⟨g, j * 4, none⟩ (.int .i64 (K : Int))).cell? ⟨g, j * 4 + 1, none⟩ = _ := (hc1 1 _ rfl).1
      have f1 : (wr.setCell ⟨g, j * 4, none⟩ (.int .i64 (K : Int))).frozen? ⟨g, j * 4 + 1, none⟩ = _ := (hc1 1 _ rfl).2
      have p2 : ORow callE ((wr.setCell ⟨g, j * 4, none⟩ (.int .i64 (K : Int))).setCell ⟨g, j * 4 + 1, none⟩ (.int .i64 ((K : Int) + 1))) _ _ bl := p1.put (unhide HD) (mid_at hA) 1 (by decide) (.int .i64 ((K : Int) + 1)) ⟨(K : Int), (K : Int) + 1, m.tx, m.rm⟩ (fun w' vs ib h => by obtain ⟨rfl, h⟩ := h; exact ⟨rfl, h⟩)
      rw [mid_set hA] at p2
      have fr2 := fr1.set hg1 (j * 4 + 1) (.int .i64 ((K : Int) + 1))
      have hKb : K + 4 ≤ 1099200000000 := by omega
      have hKc : K ≤ 1099200000000 := by omega
      have HM := hide (mark_walk (K + 1 + 1) ((wr.setCell ⟨g, j * 4, none⟩ (.int .i64 (K : Int))).setCell ⟨g, j * 4 + 1, none⟩ (.int .i64 ((K : Int) + 1))) (by omega) (by omega))
      have HFR := hide fr2
      have HP2 := hide p2
      have HNX := hide hnx
      have HS := hide hs
      have HA := hide hA
      have HK := hide hK
      have HKB := hide hKb
      clear ho hb hc p1 p2 fr1 fr2 hset hat hg hg1 hnx hs hA hK hle2 hcm h2 hsh hKb hc1
      go_wp2_with fail
      refine (unhide HM).mono ?_
      rintro e w2 ⟨rfl, b2⟩
      have o2 := (unhide HP2).below b2
      obtain ⟨vs2, kb, hE2, hc2, -, hg, -⟩ := o2.at (mid_at (unhide HA))
      obtain ⟨rfl, -⟩ := hE2
      have d1 : w2.cell? ⟨g, j * 4 + 2, none⟩ = _ := (hc2 2 _ rfl).1
      have e1 : w2.frozen? ⟨g, j * 4 + 2, none⟩ = _ := (hc2 2 _ rfl).2
      have p3 : ORow callE (w2.setCell ⟨g, j * 4 + 2, none⟩ (.string (mkText (K + 1 + 1)))) _ _ bl := o2.put (unhide HD) (mid_at (unhide HA)) 2 (by decide) (.string (mkText (K + 1 + 1))) ⟨(K : Int), (K : Int) + 1, (mkText (K + 1 + 1)).data.toList, m.rm⟩ (fun w' vs ib h => by obtain ⟨rfl, h⟩ := h; exact ⟨rfl, h⟩)
      rw [mid_set (unhide HA)] at p3
      have fr3 := ((unhide HFR).next b2).set hg (j * 4 + 2) (.string (mkText (K + 1 + 1)))
      obtain ⟨vs3, kb3, hE3, hc3, -, hg3, -⟩ := p3.at (mid_at (unhide HA))
      obtain ⟨rfl, -⟩ := hE3
      have d2 : (w2.setCell ⟨g, j * 4 + 2, none⟩ (.string (mkText (K + 1 + 1)))).cell? ⟨g, j * 4 + 3, none⟩ = _ := (hc3 3 _ rfl).1
      have e2 : (w2.setCell ⟨g, j * 4 + 2, none⟩ (.string (mkText (K + 1 + 1)))).frozen? ⟨g, j * 4 + 3, none⟩ = _ := (hc3 3 _ rfl).2
      have p4 : ORow callE ((w2.setCell ⟨g, j * 4 + 2, none⟩ (.string (mkText (K + 1 + 1)))).setCell ⟨g, j * 4 + 3, none⟩ (.int .i64 ((K : Int) + 1 + 1 + 1))) _ _ bl := p3.put (unhide HD) (mid_at (unhide HA)) 3 (by decide) (.int .i64 ((K : Int) + 1 + 1 + 1)) (mkCall K m) (fun w' vs ib h => by obtain ⟨rfl, h⟩ := h; exact ⟨rfl, h⟩)
      rw [mid_set (unhide HA), unhide HNX] at p4
      have HF4 := hide (fr3.set hg3 (j * 4 + 3) (.int .i64 ((K : Int) + 1 + 1 + 1)))
      have HP4 := hide p4
      have hKB := unhide HKB
      clear HM HFR HP2 b2 o2 hc2 hg hg3 p3 p4 fr3 hc3 c0 f0 c1 f1
      go_wp2
      go_roundw
      case rel =>
        have hk1 := unhide HK
        have hk2 := unhide HS
        have hk3 : cntCall m = 4 := rfl
        exact ⟨j + 1, by omega, by go_num, by rw [hk2, hk3, ← hk1]; go_num, unhide HF4, unhide HP4⟩
      case measure => simp [intOf]; omega
    · have hjn : j = ms.length := by omega
      subst hjn
      rw [mkRowAt_all] at ho
      rw [List.take_length]
      go_wp2
      go_ret
      exact ⟨rfl, ho, hb⟩
set_option maxRecDepth 100000 in
set_option maxHeartbeats 1600000 in
theorem heldCalls_walk (v : Value) (ms : List PCall) (bl : List Nat) (k0 : Nat) (w : World) (hv : ORow callE w v (mkRow mkCall cntCall k0 ms) bl) (hn : ms.length ≤ 268435456) (h2 : k0 + cntR cntCall ms ≤ 1099200000000) :
    Calls Tryd.prog 19 #[v, .int .i64 k0] w fun e w' => e = .returned (.int .i64 (k0 + cntR cntCall ms : Nat)) ∧ Below w.heap.size w w' := by
  obtain ⟨a, cap, rfl, hform, hsh⟩ := hv.form
  rw [mkRow_len] at hsh
  have HV := hide hv
  have HSH := hide hsh
  rw [mkRow_len] at HV ⊢
  clear hv hform hsh
  go_enter Tryd.func19, Tryd.ntmps19
  go_wp2
  go_loopw [1, 5] (fun q i wr => ∃ (j : Nat), j ≤ ms.length ∧ i = .int .i64 j ∧ q = .int .i64 (k0 + cntR cntCall (ms.take j) : Nat) ∧ Below w.heap.size w wr) (fun _ i _ => ms.length - (intOf i).toNat)
  case atStart => exact ⟨0, Nat.zero_le _, rfl, by simp [cntR], Below.refl _ _⟩
  case round =>
    obtain ⟨j, hj, rfl, rfl, hb⟩ := hrel
    by_cases hlt : j < ms.length
    · obtain ⟨g, rfl⟩ := unhide HSH (by omega)
      have hle2 := cnt_le (c := cntCall) (l := ms) (j := j + 1)
      rw [cnt_succ hlt] at hle2
      have hcm : cntCall ms[j] = 4 := rfl
      have hs := cnt_succ (c := cntCall) hlt
      have hat := mkRow_at (f := mkCall) (c := cntCall) (k := k0) hlt
      generalize hK : k0 + cntR cntCall (ms.take j) = K at *
      generalize ms[j] = m at *
      obtain ⟨vs, ib, hE, hc, -, hg, -⟩ := ((unhide HV).below hb).at hat
      obtain ⟨rfl, -⟩ := hE
      have c0 : wr.cell? ⟨g, j * 4, none⟩ = some (.int .i64 (K : Int)) := (hc 0 _ rfl).1
      have c1 : wr.cell? ⟨g, j * 4 + 1, none⟩ = some (.int .i64 ((K : Int) + 1)) := (hc 1 _ rfl).1
      have hgr : g < wr.heap.size := World.block_lt_of_cell? _ _ c0
      have HC2 : Hid (∀ X : World, Below wr.heap.size wr X → X.cell? ⟨g, j * 4 + 2, none⟩ = some (.string (mkText (K + 1 + 1)))) := fun X hX => (hX.cell (p := ⟨g, j * 4 + 2, none⟩) hgr).trans (hc 2 _ rfl).1
      have HC3 : Hid (∀ X : World, Below wr.heap.size wr X → X.cell? ⟨g, j * 4 + 3, none⟩ = some (.int .i64 ((K : Int) + 1 + 1 + 1))) := fun X hX => (hX.cell (p := ⟨g, j * 4 + 3, none⟩) hgr).trans (hc 3 _ rfl).1
      have hKb : K + 4 ≤ 1099200000000 := by omega
      have HB := hide hb
      have HS := hide hs
      have HK := hide hK
      have hKc : K ≤ 1099200000000 := by omega
      have HKB := hide hKb
      have bD : Below wr.heap.size wr wr.drew := (Below.refl _ _).drew
      have S0 := hide (unhide HC2 _ bD)
      have HM := hide (mark_walk (K + 1 + 1) wr.drew (by omega) (by omega))
      clear hc hb hat hle2 hcm hs hK hg h2 hKb
      go_wp2_with fail
      go_region_held3 (fun w' => w'.cell? ⟨g, j * 4 + 2, none⟩ = some (.string (mkText (K + 1 + 1))))
        (first | exact unhide S1 | exact unhide S0)
        (first
          | (go_simp; refine (unhide HM).mono ?_; rintro e w1 ⟨rfl, b1⟩
             have b01 : Below wr.heap.size wr w1 := below_next bD b1
             have S1 := hide (unhide HC2 _ b01)))
      have d3 := unhide HC3 _ b01
      have HB3 := hide (below_next (unhide HB) b01)
      have hKB := unhide HKB
      clear S0 S1 HM b1 b01 bD c0 c1
      go_wp2
      go_roundw
      case rel =>
        have hk1 := unhide HK
        have hk2 := unhide HS
        have hk3 : cntCall m = 4 := rfl
        exact ⟨j + 1, by omega, by go_num, by rw [hk2, hk3, ← hk1]; go_num, unhide HB3⟩
      case measure => simp [intOf]; omega
    · have hjn : j = ms.length := by omega
      subst hjn
      rw [List.take_length]
      go_wp2
      go_ret
      exact ⟨rfl, hb⟩
def mkInts (k n : Nat) : List Int := (List.range n).map fun (j : Nat) => ((k + j : Nat) : Int)
theorem mkInts_len (k n : Nat) : (mkInts k n).length = n := by simp [mkInts]
theorem mkInts_at {k n j : Nat} (h : j < n) : (mkInts k n)[j]? = some ((k + j : Nat) : Int) := by simp [mkInts, h]
def miAt (k : Nat) (ns : List Int) (j : Nat) : List Int := mkInts k j ++ ns.drop j
theorem miAt_at {k : Nat} {ns : List Int} {j : Nat} (h : j < ns.length) : (miAt k ns j)[j]? = some ns[j] := by
  unfold miAt
  rw [List.getElem?_append_right (by rw [mkInts_len]; exact Nat.le_refl _), mkInts_len, Nat.sub_self, List.getElem?_drop]
  exact List.getElem?_eq_getElem h
theorem miAt_set (k : Nat) (ns : List Int) {j : Nat} (h : j < ns.length) : (miAt k ns j).set j ((k + j : Nat) : Int) = miAt k ns (j + 1) := by
  unfold miAt
  rw [List.set_append_right _ _ (by rw [mkInts_len]; exact Nat.le_refl _), mkInts_len, Nat.sub_self, ← List.getElem_cons_drop (h := h), List.set_cons_zero]
  have : mkInts k (j + 1) = mkInts k j ++ [((k + j : Nat) : Int)] := by unfold mkInts; rw [List.range_succ, List.map_append]; rfl
  rw [this]; simp
theorem miAt_0 (k : Nat) (ns : List Int) : miAt k ns 0 = ns := by simp [miAt, mkInts]
theorem miAt_all (k : Nat) (ns : List Int) : miAt k ns ns.length = mkInts k ns.length := by simp [miAt]
set_option maxRecDepth 100000 in
set_option maxHeartbeats 1600000 in
theorem markInts_walk (v : Value) (ns : List Int) (bl : List Nat) (k0 : Nat) (w : World) (hv : ORow intE w v ns bl) (hd : bl.Nodup) (hn : ns.length ≤ 268435456) (h2 : k0 ≤ 1099200000000) :
    Calls Tryd.prog 18 #[v, .int .i64 k0] w fun e w' => e = .returned (.int .i64 (k0 + ns.length : Nat)) ∧ ORow intE w' v (mkInts k0 ns.length) bl ∧ Fr bl w w' := by
  obtain ⟨a, cap, rfl, hform, hsh⟩ := hv.form
  clear hform
  have HV := hide hv
  have HD := hide hd
  clear hv hd
  go_enter Tryd.func18, Tryd.ntmps18
  go_wp2
  go_loopw [1, 5] (fun q i wr => ∃ (j : Nat), j ≤ ns.length ∧ i = .int .i64 j ∧ q = .int .i64 (k0 + j : Nat) ∧ Fr bl w wr ∧ ORow intE wr (.slice a ns.length cap) (miAt k0 ns j) bl) (fun _ i _ => ns.length - (intOf i).toNat)
  case atStart => exact ⟨0, Nat.zero_le _, rfl, rfl, Fr.refl _ _, by rw [miAt_0]; exact unhide HV⟩
  case round =>
    obtain ⟨j, hj, rfl, rfl, hb, ho⟩ := hrel
    by_cases hlt : j < ns.length
    · obtain ⟨g, rfl⟩ := hsh (by omega)
      obtain ⟨vs, ib, hE, hc, -, hg, -⟩ := ho.at (miAt_at hlt)
      obtain ⟨rfl, -⟩ := hE
      have c0 : wr.cell? ⟨g, j, none⟩ = some (.int .i64 ns[j]) := by have := (hc 0 _ rfl).1; rwa [show intE.wd = 1 from rfl, Nat.mul_one, Nat.add_zero] at this
      have f0 : wr.frozen? ⟨g, j, none⟩ = false := by have := (hc 0 _ rfl).2; rwa [show intE.wd = 1 from rfl, Nat.mul_one, Nat.add_zero] at this
      have p1 : ORow intE (wr.setCell ⟨g, j * 1 + 0, none⟩ (.int .i64 ((k0 + j : Nat) : Int))) _ _ bl := ho.put (unhide HD) (miAt_at hlt) 0 (by decide) (.int .i64 ((k0 + j : Nat) : Int)) ((k0 + j : Nat) : Int) (fun w' vs ib h => by obtain ⟨rfl, h⟩ := h; exact ⟨rfl, h⟩)
      rw [miAt_set k0 ns hlt, Nat.mul_one, Nat.add_zero] at p1
      have HP := hide p1
      have HF := hide (hb.set hg j (.int .i64 ((k0 + j : Nat) : Int)))
      clear ho hb hc hg p1 hsh
      generalize hq : k0 + j = q at *
      have HQ := hide hq
      have hqb : q ≤ 1100000000000 := by omega
      clear hq
      go_wp2
      go_roundw
      case rel => exact ⟨j + 1, by omega, by go_num, by rw [← Nat.add_assoc, unhide HQ]; go_num, unhide HF, unhide HP⟩
      case measure => simp [intOf]; omega
    · have hjn : j = ns.length := by omega
      subst hjn
      rw [miAt_all] at ho
      go_wp2
      go_ret
      exact ⟨rfl, ho, hb⟩
set_option maxRecDepth 100000 in
set_option maxHeartbeats 1600000 in
theorem heldInts_walk (v : Value) (n : Nat) (bl : List Nat) (k0 : Nat) (w : World) (hv : ORow intE w v (mkInts k0 n) bl) (hn : n ≤ 268435456) (h2 : k0 ≤ 1099200000000) :
    Calls Tryd.prog 20 #[v, .int .i64 k0] w fun e w' => e = .returned (.int .i64 (k0 + n : Nat)) ∧ w = w' := by
  obtain ⟨a, cap, rfl, hform, hsh⟩ := hv.form
  rw [mkInts_len] at hsh
  have HV := hide hv
  have HSH := hide hsh
  rw [mkInts_len] at HV ⊢
  clear hv hform hsh
  go_enter Tryd.func20, Tryd.ntmps20
  go_wp2
  go_loopw [1, 5] (fun q i wr => ∃ (j : Nat), j ≤ n ∧ i = .int .i64 j ∧ q = .int .i64 (k0 + j : Nat) ∧ w = wr) (fun _ i _ => n - (intOf i).toNat)
  case atStart => exact ⟨0, Nat.zero_le _, rfl, rfl, rfl⟩
  case round =>
    obtain ⟨j, hj, rfl, rfl, rfl⟩ := hrel
    by_cases hlt : j < n
    · obtain ⟨g, rfl⟩ := unhide HSH (by omega)
      obtain ⟨vs, ib, hE, hc, -⟩ := (unhide HV).at (mkInts_at hlt)
      obtain ⟨rfl, -⟩ := hE
      have c0 : w.cell? ⟨g, j, none⟩ = some (.int .i64 ((k0 + j : Nat) : Int)) := by have := (hc 0 _ rfl).1; rwa [show intE.wd = 1 from rfl, Nat.mul_one, Nat.add_zero] at this
      clear hc
      generalize hq : k0 + j = q at *
      have HQ := hide hq
      have hqb : q ≤ 1100000000000 := by omega
      clear hq
      go_wp2
      go_roundw
      case rel => exact ⟨j + 1, by omega, by go_num, by rw [← Nat.add_assoc, unhide HQ]; go_num, trivial⟩
      case measure => simp [intOf]; omega
    · have hjn : j = n := by omega
      subst hjn
      go_wp2
      go_ret
      exact ⟨rfl, rfl⟩
end Go.Proofs.YtbihihkdgckgnaaDoor

