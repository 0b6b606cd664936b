import Derived.Test.YtbihihkdgckgnaaDoorBq13
import Derived.Test.YtbihihkdgckgnaaDoorBq14
namespace Go.Proofs.YtbihihkdgckgnaaDoor
open Go.RowKit Go.Shelf

theorem row_slice {α : Type} {e : Elem α} {w : World} {v : Value} {xs : List α} {bl : List Nat} (h : ORow e w v xs bl) : ∃ x y z, v = .slice x y z := by
  obtain ⟨a, cap, hv, -⟩ := h.form
  exact ⟨_, _, _, hv⟩
set_option maxHeartbeats 1600000 in
set_option maxRecDepth 100000 in
theorem eqScr_walk (D : ByteArray) (cv pv cv' pv' : Value) (cs : List PCall) (ps : List Int) (b1 b2 b3 b4 : List Nat) (w : World) (h1 : ORow callE w cv cs b1) (h2 : ORow intE w pv ps b2) (h3 : ORow callE w cv' cs b3) (h4 : ORow intE w pv' ps b4) :
    Calls Tryd.prog 6 #[.agg #[.string D, cv, pv], .agg #[.string D, cv', pv']] w fun e w' => e = .returned (.bool true) ∧ Below w.heap.size w w' := by
  obtain ⟨x1, y1, z1, rfl⟩ := row_slice h1
  obtain ⟨x2, y2, z2, rfl⟩ := row_slice h2
  obtain ⟨x3, y3, z3, rfl⟩ := row_slice h3
  obtain ⟨x4, y4, z4, rfl⟩ := row_slice h4
  have hA := new2 w (Obj.cells #[.string D, .slice x1 y1 z1, .slice x2 y2 z2] 25) (Obj.cells #[.string D, .slice x3 y3 z3, .slice x4 y4 z4] 25)
  have H1 := hide (eqCalls_walk _ _ cs b1 b3 _ (h1.below hA.bel) (h3.below hA.bel))
  have HP : Hid (∀ w', Below w.heap.size w w' → Calls Tryd.prog 16 #[.slice x2 y2 z2, .slice x4 y4 z4] w' fun e w'' => e = .returned (.bool true) ∧ Below w'.heap.size w' w'') := fun w' hb => eqInts_walk _ _ ps b2 b4 w' (h2.below hb) (h4.below hb)
  have HA := hide hA
  clear h1 h2 h3 h4 hA
  go_enter Tryd.func6, Tryd.ntmps6
  go_wp2_with fail
  refine (unhide H1).mono ?_
  rintro e w1 ⟨rfl, bb1⟩
  have hsz := (unhide HA).size
  have k0 := (bb1.block w.heap.size (by omega)).trans (unhide HA).k0
  have k1 := (bb1.block (w.heap.size + 1) (by omega)).trans (unhide HA).k1
  have HB := hide (below_next (unhide HA).bel bb1)
  have HP1 := hide (unhide HP w1 (unhide HB))
  have c0 : w1.cell? ⟨w.heap.size, 2, none⟩ = some (.slice x2 y2 z2) := Lib.cell_of_heap k0 2
  have c1 : w1.cell? ⟨w.heap.size + 1, 2, none⟩ = some (.slice x4 y4 z4) := Lib.cell_of_heap k1 2
  clear HA bb1 k0 k1 H1 HP hsz
  go_wp2_with fail
  refine (unhide HP1).mono ?_
  rintro e w2 ⟨rfl, bb2⟩
  have HB2 := hide (below_next (unhide HB) bb2)
  clear bb2 HP1 HB
  go_wp2
  go_ret
  exact ⟨rfl, unhide HB2⟩
set_option maxHeartbeats 1600000 in
set_option maxRecDepth 100000 in
theorem markScr_walk (D : ByteArray) (cv pv : Value) (cs : List PCall) (ps : List Int) (b1 b2 : List Nat) (w : World) (h1 : ORow callE w cv cs b1) (h2 : ORow intE w pv ps b2) (n1 : b1.Nodup) (n2 : b2.Nodup) (hap : ∀ b ∈ b2, b ∉ b1) (hc : cs.length ≤ 1048576) (hp : ps.length ≤ 1048576) :
    Calls Tryd.prog 7 #[.agg #[.string D, cv, pv], .int .i64 1] w fun e w' => e = .returned (.int .i64 (1 + cntR cntCall cs + ps.length : Nat)) ∧ ORow callE w' cv (mkRow mkCall cntCall 1 cs) b1 ∧ ORow intE w' pv (mkInts (1 + cntR cntCall cs) ps.length) b2 ∧ Fr (b1 ++ b2) w w' := by
  have hcn := cntCalls cs
  obtain ⟨x1, y1, z1, rfl⟩ := row_slice h1
  obtain ⟨x2, y2, z2, rfl⟩ := row_slice h2
  have hbA := alloc_b w (Obj.cells #[.string D, .slice x1 y1 z1, .slice x2 y2 z2] 25)
  have H1 := hide (markCalls_walk _ cs b1 1 _ (h1.below hbA) n1 (by omega) (by omega))
  have HK0 := hide (heap_alloc_new w (Obj.cells #[.string D, .slice x1 y1 z1, .slice x2 y2 z2] 25))
  have hl1 := h1.lt
  have hl2 := h2.lt
  have HN : Hid (w.heap.size ∉ b1) := fun h => by have := hl1 _ h; omega
  have HP : Hid (∀ w', Fr b1 (w.alloc (Obj.cells #[.string D, .slice x1 y1 z1, .slice x2 y2 z2] 25)) w' → Calls Tryd.prog 18 #[.slice x2 y2 z2, .int .i64 (1 + cntR cntCall cs : Nat)] w' fun e w'' => e = .returned (.int .i64 ((1 + cntR cntCall cs) + ps.length : Nat)) ∧ ORow intE w'' (.slice x2 y2 z2) (mkInts (1 + cntR cntCall cs) ps.length) b2 ∧ Fr b2 w' w'') := fun w' hf => markInts_walk _ ps b2 _ w' ((h2.below hbA).keep (hf.kp (fun b hb => by have := hl2 b hb; simp; omega) hap)) n2 (by omega) (by omega)
  have HFR : Hid (∀ w1 w2, Fr b1 (w.alloc (Obj.cells #[.string D, .slice x1 y1 z1, .slice x2 y2 z2] 25)) w1 → Fr b2 w1 w2 → Fr (b1 ++ b2) w w2) := fun w1 w2 f1 f2 =>
    ((Fr.of_below hbA : Fr (b1 ++ b2) w _).trans (f1.mono fun i hi => List.mem_append.2 (.inl hi))).trans (f2.mono fun i hi => List.mem_append.2 (.inr hi))
  have HKE : Hid (∀ w1 w2, ORow callE w1 (.slice x1 y1 z1) (mkRow mkCall cntCall 1 cs) b1 → Fr b2 w1 w2 → ORow callE w2 (.slice x1 y1 z1) (mkRow mkCall cntCall 1 cs) b1) := fun w1 w2 o f => o.keep (f.kp o.lt fun b hb hb2 => hap b hb2 hb)
  clear h1 h2 n1 n2 hap hbA hl1 hl2 hcn
  generalize hC : 1 + cntR cntCall cs = C at *
  have hCb : C ≤ 10000000 := by have := cntCalls cs; omega
  have HC := hide hC
  clear hC
  go_enter Tryd.func7, Tryd.ntmps7
  go_wp2_with fail
  refine (unhide H1).mono ?_
  rintro e w1 ⟨rfl, o1, f1⟩
  have k0 := (f1.block w.heap.size (by simp) (unhide HN)).trans (unhide HK0)
  have c0 : w1.cell? ⟨w.heap.size, 2, none⟩ = some (.slice x2 y2 z2) := Lib.cell_of_heap k0 2
  have HP1 := hide (unhide HP w1 f1)
  have HO1 := hide o1
  have HF1 := hide f1
  clear H1 HK0 o1 f1 k0 HP HN
  go_wp2_with fail
  refine (unhide HP1).mono ?_
  rintro e w2 ⟨rfl, o2, f2⟩
  have HO2 := hide o2
  have HF2 := hide f2
  clear HP1 o2 f2 c0
  go_wp2
  go_ret
  exact ⟨rfl, unhide HKE _ _ (unhide HO1) (unhide HF2), unhide HO2, unhide HFR _ _ (unhide HF1) (unhide HF2)⟩
set_option maxHeartbeats 1600000 in
set_option maxRecDepth 100000 in
theorem heldScr_walk (D : ByteArray) (cv pv : Value) (cs : List PCall) (n : Nat) (b1 b2 : List Nat) (w : World) (h1 : ORow callE w cv (mkRow mkCall cntCall 1 cs) b1) (h2 : ORow intE w pv (mkInts (1 + cntR cntCall cs) n) b2) (hc : cs.length ≤ 1048576) (hp : n ≤ 1048576) :
    Calls Tryd.prog 8 #[.agg #[.string D, cv, pv], .int .i64 1] w fun e w' => e = .returned (.int .i64 (1 + cntR cntCall cs + n : Nat)) ∧ Below w.heap.size w w' := by
  have hcn := cntCalls cs
  obtain ⟨x1, y1, z1, rfl⟩ := row_slice h1
  obtain ⟨x2, y2, z2, rfl⟩ := row_slice h2
  have hbA := alloc_b w (Obj.cells #[.string D, .slice x1 y1 z1, .slice x2 y2 z2] 25)
  have H1 := hide (heldCalls_walk _ cs b1 1 _ (h1.below hbA) (by omega) (by omega))
  have HK0 := hide (heap_alloc_new w (Obj.cells #[.string D, .slice x1 y1 z1, .slice x2 y2 z2] 25))
  have HP : Hid (∀ w', Below w.heap.size w w' → Calls Tryd.prog 20 #[.slice x2 y2 z2, .int .i64 (1 + cntR cntCall cs : Nat)] w' fun e w'' => e = .returned (.int .i64 ((1 + cntR cntCall cs) + n : Nat)) ∧ w' = w'') := fun w' hb => heldInts_walk _ n b2 _ w' (h2.below hb) (by omega) (by omega)
  have HBA := hide hbA
  clear h1 h2 hbA hcn
  generalize hC : 1 + cntR cntCall cs = C at *
  have hCb : C ≤ 10000000 := by have := cntCalls cs; omega
  have HC := hide hC
  clear hC
  go_enter Tryd.func8, Tryd.ntmps8
  go_wp2_with fail
  refine (unhide H1).mono ?_
  rintro e w1 ⟨rfl, bb1⟩
  have k0 := (bb1.block w.heap.size (by simp)).trans (unhide HK0)
  have c0 : w1.cell? ⟨w.heap.size, 2, none⟩ = some (.slice x2 y2 z2) := Lib.cell_of_heap k0 2
  have HB1 := hide (below_next (unhide HBA) bb1)
  have HP1 := hide (unhide HP w1 (unhide HB1))
  clear H1 HK0 bb1 k0 HP HBA
  go_wp2_with fail
  refine (unhide HP1).mono ?_
  rintro e w2 ⟨rfl, rfl⟩
  clear HP1 c0
  go_wp2
  go_ret
  exact ⟨rfl, unhide HB1⟩
end Go.Proofs.YtbihihkdgckgnaaDoor


namespace Go.Proofs.YtbihihkdgckgnaaDoor
open Go.RowKit Go.Shelf

theorem runS'_inr : ∀ (ls : List (List UInt8)) (i : Nat) (st s : St), runS' ls i st = .inr s → stL ls st = some s
  | [], i, st, s, h => by rw [runS'] at h; injection h with h; subst h; rfl
  | l :: r, i, st, s, h => by
    rw [runS'] at h
    rw [stL]
    cases hq : stepE st l with
    | none => rw [hq] at h; cases h
    | some q =>
      rw [hq] at h
      exact runS'_inr r (i + 1) q s h
theorem prR_sz (l : List UInt8) : szSt (prR l).2.2 ≤ 20001 := by
  unfold prR
  split
  · exact Nat.zero_le _
  · rename_i hl
    split
    · exact Nat.zero_le _
    · rename_i st h
      split
      · exact Nat.zero_le _
      · have h1 := runS'_inr _ _ _ _ h
        have h2 := st_sz (l := l) (j := (piecesB 10 l).length) (s := st) (by rw [List.take_length]; exact h1)
        show szSt st ≤ 20001
        omega
set_option maxHeartbeats 8000000 in
set_option maxRecDepth 100000 in
theorem parseScriptLaw_walk (s : ByteArray) (w : World) (hm : ML w) : Calls Tryd.prog 3 #[.string s] w fun e w' => e = .returned (.bool true) ∧ Below w.heap.size w w' := by
  by_cases hbig : (1048576 : Int) < (s.size : Int)
  · clear hm
    go_enter Tryd.func3, Tryd.ntmps3
    go_wp2
    go_ret
    exact ⟨rfl, Below.refl _ _⟩
  · have hs : s.size ≤ 1048576 := by omega
    have hbg : ((1048576 : Int) < (s.size : Int)) = False := eq_false hbig
    have hpz := prR_sz s.data.toList
    have HS := hide (specParse_walk s w hs)
    have HI : Hid (∀ w', Below w.heap.size w w' → Calls Tryd.prog 5 #[.string s] w' (ParsR (prR s.data.toList) w')) := fun w' hb => implParse_walk s w' (hm.below hb) hs
    generalize prR s.data.toList = PR at *
    obtain ⟨code, line, st⟩ := PR
    simp only at hpz
    have hc : st.cs.length ≤ 1048576 := by unfold szSt at hpz; omega
    have hp : st.ps.length ≤ 1048576 := by unfold szSt at hpz; omega
    unfold ParsR at HS HI
    simp only at HS HI
    generalize baT (st.doc.getD []) = D at *
    have hcn := cntCalls st.cs
    obtain ⟨M, hM⟩ : ∃ M, 1 + cntR cntCall st.cs + st.ps.length = M := ⟨_, rfl⟩
    have hMb : M ≤ 10000000 := by omega
    have HM := hide hM
    clear hm hbig hpz hcn hM hs
    go_enter Tryd.func3, Tryd.ntmps3
    go_wp2_with fail
    refine (unhide HS).mono ?_
    rintro e w1 ⟨cx, cy, cz, px, py, pz, rfl, oc1, oi1, b1⟩
    obtain ⟨O1, hO1⟩ : ∃ O : Obj, O = Obj.cells #[.string D, .slice cx cy cz, .slice px py pz] 25 (0, 0) := ⟨_, rfl⟩
    have HB1 := hide (below_next b1 (al_b w1 O1))
    have HI1 := hide (unhide HI _ (unhide HB1))
    have HR1 := hide oc1.row.1
    have HQ1 := hide oi1.row.1
    have HK1 := hide (heap_alloc_new w1 O1)
    clear HS oc1 oi1 b1
    subst hO1
    go_wp2_with fail
    refine (unhide HI1).mono ?_
    rintro e w2 ⟨cx', cy', cz', px', py', pz', rfl, oc2, oi2, b2⟩
    obtain ⟨O2, hO2⟩ : ∃ O : Obj, O = Obj.cells #[.string D, .slice cx' cy' cz', .slice px' py' pz'] 25 (0, 0) := ⟨_, rfl⟩
    obtain ⟨r2, fs2⟩ := oc2.row
    obtain ⟨q2, ft2⟩ := oi2.row
    have hap : ∀ b ∈ (Value.slice px' py' pz').ownBlock.toList, b ∉ (Value.slice cx' cy' cz').ownBlock.toList := by
      intro b hb hb2
      have h1 : (Value.slice px' py' pz').ownBlock = some b := by simpa using hb
      have h2 : (Value.slice cx' cy' cz').ownBlock = some b := by simpa using hb2
      rcases own_apart2 oi2 oc2 (by decide) with h | h
      · rw [h] at h1; cases h1
      · exact h (by rw [h1, h2])
    have hlc := r2.lt
    have hlp := q2.lt
    have hsz1 : (w1.alloc (Obj.cells #[.string D, .slice cx cy cz, .slice px py pz] 25 (0, 0))).heap.size = w1.heap.size + 1 := by simp
    have b2a := below_next b2 (al_b w2 O2)
    -- the two structs stay, whatever is marked
    generalize hbC : (Value.slice cx' cy' cz').ownBlock.toList = bC at *
    generalize hbP : (Value.slice px' py' pz').ownBlock.toList = bP at *
    have HJ0 : Hid ((w2.alloc O2).heap[w1.heap.size]? = some (Obj.cells #[.string D, .slice cx cy cz, .slice px py pz] 25 (0, 0)) ∧ (w2.alloc O2).heap[w2.heap.size]? = some O2) := ⟨(b2a.block _ (by omega)).trans (unhide HK1), heap_alloc_new w2 O2⟩
    have hle2 := b2.size
    have HNC : Hid (∀ b ∈ bC ++ bP, w1.heap.size + 1 ≤ b ∧ b < w2.heap.size) := fun b hb => by
      rcases List.mem_append.1 hb with hb | hb
      · have h1 := fs2.2 b hb; have h2 := hlc b hb; omega
      · have h1 := ft2.2 b hb; have h2 := hlp b hb; omega
    have HRS : Hid (ORow callE (w2.alloc O2) (.slice cx cy cz) st.cs (Value.slice cx cy cz).ownBlock.toList) := ((unhide HR1).below (al_b w1 _)).below b2a
    have HQS : Hid (ORow intE (w2.alloc O2) (.slice px py pz) st.ps (Value.slice px py pz).ownBlock.toList) := ((unhide HQ1).below (al_b w1 _)).below b2a
    have HRI : Hid (ORow callE (w2.alloc O2) (.slice cx' cy' cz') st.cs bC) := r2.below (al_b w2 O2)
    have HQI : Hid (ORow intE (w2.alloc O2) (.slice px' py' pz') st.ps bP) := q2.below (al_b w2 O2)
    have HSL : Hid ((∀ b ∈ (Value.slice cx cy cz).ownBlock.toList, b < w1.heap.size) ∧ ∀ b ∈ (Value.slice px py pz).ownBlock.toList, b < w1.heap.size) := ⟨(unhide HR1).lt, (unhide HQ1).lt⟩
    have HB2 := hide (below_next (unhide HB1) b2a)
    have HEQ := hide (eqScr_walk D _ _ _ _ st.cs st.ps _ _ _ _ _ (unhide HRI) (unhide HQI) (unhide HRS) (unhide HQS))
    have HMK : Hid (∀ w3, Below (w2.alloc O2).heap.size (w2.alloc O2) w3 → Calls Tryd.prog 7 #[.agg #[.string D, .slice cx' cy' cz', .slice px' py' pz'], .int .i64 1] w3 fun e w' => e = .returned (.int .i64 (M : Nat)) ∧ ORow callE w' (.slice cx' cy' cz') (mkRow mkCall cntCall 1 st.cs) bC ∧ ORow intE w' (.slice px' py' pz') (mkInts (1 + cntR cntCall st.cs) st.ps.length) bP ∧ Fr (bC ++ bP) w3 w') := fun w3 hb => by
      rw [← unhide HM]
      exact markScr_walk D _ _ st.cs st.ps bC bP w3 ((unhide HRI).below hb) ((unhide HQI).below hb) fs2.1 ft2.1 hap hc hp
    have HHD : Hid (∀ w4, ORow callE w4 (.slice cx' cy' cz') (mkRow mkCall cntCall 1 st.cs) bC → ORow intE w4 (.slice px' py' pz') (mkInts (1 + cntR cntCall st.cs) st.ps.length) bP → Calls Tryd.prog 8 #[.agg #[.string D, .slice cx' cy' cz', .slice px' py' pz'], .int .i64 1] w4 fun e w' => e = .returned (.int .i64 (M : Nat)) ∧ Below w4.heap.size w4 w') := fun w4 o1 o2 => by
      rw [← unhide HM]
      exact heldScr_walk D _ _ st.cs st.ps.length bC bP w4 o1 o2 hc hp
    clear HI1 oc2 oi2 b2 b2a r2 q2 fs2 ft2 hap hlc hlp HR1 HQ1 HK1 hsz1 HRI HQI hbC hbP
    have j10 := (unhide HJ0).1
    have p0 : (w2.alloc O2).cell? ⟨w1.heap.size, 0, none⟩ = some (.string D) := Lib.cell_of_heap j10 0
    have p1 : (w2.alloc O2).cell? ⟨w1.heap.size, 1, none⟩ = some (.slice cx cy cz) := Lib.cell_of_heap j10 1
    have p2 : (w2.alloc O2).cell? ⟨w1.heap.size, 2, none⟩ = some (.slice px py pz) := Lib.cell_of_heap j10 2
    clear j10
    subst hO2
    go_wp2_with fail
    refine (unhide HEQ).mono ?_
    rintro e w3 ⟨rfl, b3⟩
    have HMK3 := hide (unhide HMK w3 b3)
    have HJ3 : Hid (w3.heap[w1.heap.size]? = some (Obj.cells #[.string D, .slice cx cy cz, .slice px py pz] 25 (0, 0)) ∧ w3.heap[w2.heap.size]? = some (Obj.cells #[.string D, .slice cx' cy' cz', .slice px' py' pz'] 25 (0, 0))) := ⟨(b3.block _ (Array.getElem?_eq_some_iff.1 (unhide HJ0).1).1).trans (unhide HJ0).1, (b3.block _ (Array.getElem?_eq_some_iff.1 (unhide HJ0).2).1).trans (unhide HJ0).2⟩
    have HB3 := hide (below_next (unhide HB2) b3)
    have HRS3 := hide ((unhide HRS).below b3)
    have HQS3 := hide ((unhide HQS).below b3)
    have j23 := (unhide HJ3).2
    have r0 : w3.cell? ⟨w2.heap.size, 0, none⟩ = some (.string D) := Lib.cell_of_heap j23 0
    have r1 : w3.cell? ⟨w2.heap.size, 1, none⟩ = some (.slice cx' cy' cz') := Lib.cell_of_heap j23 1
    have r2 : w3.cell? ⟨w2.heap.size, 2, none⟩ = some (.slice px' py' pz') := Lib.cell_of_heap j23 2
    clear HEQ b3 HMK HJ0 HB2 HRS HQS j23 p0 p1 p2
    go_wp2_with fail
    refine (unhide HMK3).mono ?_
    rintro e w4 ⟨rfl, oC4, oP4, f4⟩
    have HHD4 := hide (unhide HHD w4 oC4 oP4)
    have HOC4 := hide oC4
    have HOP4 := hide oP4
    have HJ4 : Hid (w4.heap[w1.heap.size]? = some (Obj.cells #[.string D, .slice cx cy cz, .slice px py pz] 25 (0, 0)) ∧ w4.heap[w2.heap.size]? = some (Obj.cells #[.string D, .slice cx' cy' cz', .slice px' py' pz'] 25 (0, 0))) := ⟨(f4.block _ (Array.getElem?_eq_some_iff.1 (unhide HJ3).1).1 (fun h => by have := unhide HNC _ h; omega)).trans (unhide HJ3).1, (f4.block _ (Array.getElem?_eq_some_iff.1 (unhide HJ3).2).1 (fun h => by have := unhide HNC _ h; omega)).trans (unhide HJ3).2⟩
    have hw1 : w.heap.size ≤ w1.heap.size + 1 := by have := (unhide HB1).size; simp at this; omega
    have HB4 : Hid (Below w.heap.size w w4) := (unhide HB3).trans (f4.below (fun b hb => by have := unhide HNC b hb; omega) (unhide HB3).size)
    have HRS4 := hide ((unhide HRS3).keep (f4.kp (unhide HRS3).lt fun b hb h => by have h1 := unhide HNC b h; have h2 := (unhide HSL).1 b hb; omega))
    have HQS4 := hide ((unhide HQS3).keep (f4.kp (unhide HQS3).lt fun b hb h => by have h1 := unhide HNC b h; have h2 := (unhide HSL).2 b hb; omega))
    have j24 := (unhide HJ4).2
    have s0 : w4.cell? ⟨w2.heap.size, 0, none⟩ = some (.string D) := Lib.cell_of_heap j24 0
    have s1 : w4.cell? ⟨w2.heap.size, 1, none⟩ = some (.slice cx' cy' cz') := Lib.cell_of_heap j24 1
    have s2 : w4.cell? ⟨w2.heap.size, 2, none⟩ = some (.slice px' py' pz') := Lib.cell_of_heap j24 2
    clear HMK3 oC4 oP4 f4 HJ3 HB3 HRS3 HQS3 j24 r0 r1 r2 HNC HSL HB1
    go_wp2_with fail
    refine (unhide HHD4).mono ?_
    rintro e w5 ⟨rfl, b5⟩
    have HB5 := hide (below_next (unhide HB4) b5)
    have HI5 := hide (unhide HI w5 (unhide HB5))
    have HB45 := hide b5
    clear HHD4 b5 HI HB4 s0 s1 s2
    go_wp2_with fail
    refine (unhide HI5).mono ?_
    rintro e w6 ⟨cx6, cy6, cz6, px6, py6, pz6, rfl, oc6, oi6, b6⟩
    obtain ⟨O6, hO6⟩ : ∃ O : Obj, O = Obj.cells #[.string D, .slice cx6 cy6 cz6, .slice px6 py6 pz6] 25 (0, 0) := ⟨_, rfl⟩
    have HB46 := hide (below_next (unhide HB45) (below_next b6 (al_b w6 O6)))
    have HB6 := hide (below_next (unhide HB5) (below_next b6 (al_b w6 O6)))
    have HEQ6 := hide (eqScr_walk D _ _ _ _ st.cs st.ps _ _ _ _ (w6.alloc O6) (oc6.row.1.below (al_b w6 O6)) (oi6.row.1.below (al_b w6 O6)) ((unhide HRS4).below (unhide HB46)) ((unhide HQS4).below (unhide HB46)))
    have HJ6 : Hid ((w6.alloc O6).heap[w1.heap.size]? = some (Obj.cells #[.string D, .slice cx cy cz, .slice px py pz] 25 (0, 0)) ∧ (w6.alloc O6).heap[w2.heap.size]? = some (Obj.cells #[.string D, .slice cx' cy' cz', .slice px' py' pz'] 25 (0, 0))) := ⟨((unhide HB46).block _ (Array.getElem?_eq_some_iff.1 (unhide HJ4).1).1).trans (unhide HJ4).1, ((unhide HB46).block _ (Array.getElem?_eq_some_iff.1 (unhide HJ4).2).1).trans (unhide HJ4).2⟩
    have j16 := (unhide HJ6).1
    have u0 : (w6.alloc O6).cell? ⟨w1.heap.size, 0, none⟩ = some (.string D) := Lib.cell_of_heap j16 0
    have u1 : (w6.alloc O6).cell? ⟨w1.heap.size, 1, none⟩ = some (.slice cx cy cz) := Lib.cell_of_heap j16 1
    have u2 : (w6.alloc O6).cell? ⟨w1.heap.size, 2, none⟩ = some (.slice px py pz) := Lib.cell_of_heap j16 2
    clear HI5 oc6 oi6 b6 HB45 HB5 HJ4 HRS4 HQS4 j16
    subst hO6
    go_wp2_with fail
    refine (unhide HEQ6).mono ?_
    rintro e w7 ⟨rfl, b7⟩
    have HB47 := hide (below_next (unhide HB46) b7)
    have HB7 := hide (below_next (unhide HB6) b7)
    have HHD7 := hide (unhide HHD w7 ((unhide HOC4).below (unhide HB47)) ((unhide HOP4).below (unhide HB47)))
    have j27 := (b7.block _ (Array.getElem?_eq_some_iff.1 (unhide HJ6).2).1).trans (unhide HJ6).2
    have t0 : w7.cell? ⟨w2.heap.size, 0, none⟩ = some (.string D) := Lib.cell_of_heap j27 0
    have t1 : w7.cell? ⟨w2.heap.size, 1, none⟩ = some (.slice cx' cy' cz') := Lib.cell_of_heap j27 1
    have t2 : w7.cell? ⟨w2.heap.size, 2, none⟩ = some (.slice px' py' pz') := Lib.cell_of_heap j27 2
    clear HEQ6 b7 HB46 HB6 HJ6 HOC4 HOP4 HHD HB47 j27 u0 u1 u2
    go_wp2_with fail
    refine (unhide HHD7).mono ?_
    rintro e w8 ⟨rfl, b8⟩
    have HB8 := hide (below_next (unhide HB7) b8)
    clear HHD7 b8 HB7 t0 t1 t2
    go_wp2
    go_ret
    exact ⟨rfl, unhide HB8⟩
end Go.Proofs.YtbihihkdgckgnaaDoor

