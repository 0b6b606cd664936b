import Derived.Deep.RegionLaw
import Derived.Test.YtbihihkdgckgnaaDoorBq6
import Derived.Test.YtbihihkdgckgnaaDoorBq2
import Derived.Laws.DeepStrings4
namespace Go.Proofs.YtbihihkdgckgnaaDoor
open Go.RowKit Go.Shelf

/-- The reader of a script in memory. -/
def SR (B R : Nat) (st : St) (w : World) (D : ByteArray) (cv pv : Value) : Prop := w.heap[R]? = some (.cells #[.string D, cv, pv, .bool st.doc.isSome] 43 (0, 0)) ∧ (∀ d, st.doc = some d → D = baT d) ∧ OC w B cv st.cs ∧ OI w B pv st.ps
theorem SR.below {B R : Nat} {st : St} {w w' : World} {D : ByteArray} {cv pv : Value} (h : SR B R st w D cv pv) (hb : Below w.heap.size w w') : SR B R st w' D cv pv :=
  ⟨(hb.block R (Array.getElem?_eq_some_iff.1 h.1).1).trans h.1, h.2.1, own_below h.2.2.1 hb, own_below h.2.2.2 hb⟩
theorem own_ne {w : World} {B e size n g : Nat} {v : Value} {xs : List Value} {cs : Array Value} {T : TypeId} (h : w.ownsRow B e size v n xs) (hg : w.heap[g]? = some (.cells cs T (0, 0))) (hT : T ≠ e) : v.ownBlock ≠ some g := by
  intro e1
  rcases h.2 with ⟨hv, _⟩ | ⟨g', cap, cur, hv, _, hg', _⟩
  · rw [hv] at e1; cases e1
  · rw [hv] at e1
    injection e1 with e1
    subst e1
    rw [hg'] at hg
    injection hg with hg
    injection hg with _ hg _
    exact hT hg.symm
theorem own_set {w : World} {B e size n R : Nat} {v : Value} {xs : List Value} {cs : Array Value} {T : TypeId} (h : w.ownsRow B e size v n xs) (hg : w.heap[R]? = some (.cells cs T (0, 0))) (hT : T ≠ e) (i : Nat) (u : Value) : (w.setCell ⟨R, i, none⟩ u).ownsRow B e size v n xs := by
  refine ⟨h.1, ?_⟩
  rcases h.2 with h0 | ⟨g, cap, cur, hv, hB, hgg, r⟩
  · exact .inl h0
  · refine .inr ⟨g, cap, cur, hv, hB, ?_, r⟩
    rw [Below.heap_setCell _ _ _ _ (by
      intro e1
      have e2 : g = R := e1
      subst e2
      rw [hgg] at hg
      injection hg with hg
      injection hg with _ hg _
      exact hT hg.symm)]
    exact hgg
theorem own_grown {w w' : World} {B e size n : Nat} {v : Value} {xs : List Value} {row : Option Nat} (h : w.ownsRow B e size v n xs) (hg : w.grownBy w' row) (hne : v.ownBlock = none ∨ v.ownBlock ≠ row) : w'.ownsRow B e size v n xs := by
  refine ⟨h.1, ?_⟩
  rcases h.2 with h0 | ⟨g, cap, cur, hv, hB, hgg, r⟩
  · exact .inl h0
  · refine .inr ⟨g, cap, cur, hv, hB, (hg.block g (Array.getElem?_eq_some_iff.1 hgg).1 ?_).trans hgg, r⟩
    intro e1
    rcases hne with h1 | h1
    · rw [hv] at h1; cases h1
    · exact h1 (by rw [hv]; exact e1)
theorem own_apart2 {w : World} {B B' e e' size size' n n' : Nat} {v v' : Value} {xs xs' : List Value} (h : w.ownsRow B e size v n xs) (h' : w.ownsRow B' e' size' v' n' xs') (hne : e ≠ e') : v.ownBlock = none ∨ v.ownBlock ≠ v'.ownBlock := by
  rcases h'.2 with ⟨hv', _⟩ | ⟨g', cap', cur', hv', _, hg', _⟩
  · rcases h.2 with ⟨hv, _⟩ | ⟨g, cap, cur, hv, _⟩
    · left; rw [hv]; rfl
    · right; rw [hv, hv']; intro e; cases e
  · right
    have := own_ne h hg' (Ne.symm hne)
    rw [hv']
    exact this
theorem own_slice3 {w : World} {B e size n : Nat} {v : Value} {xs : List Value} (h : w.ownsRow B e size v n xs) : ∃ x y z, v = .slice x y z := by obtain ⟨x, z, e⟩ := own_slice h; exact ⟨_, _, _, e⟩
/-- All blocks below B but R are kept. -/
structure Fk (B R : Nat) (w w' : World) : Prop where
  os : w'.os = w.os
  tape : w'.tape = w.tape
  output : w'.output = w.output
  size : w.heap.size ≤ w'.heap.size
  block : ∀ k, k < B → k ≠ R → w'.heap[k]? = w.heap[k]?
theorem Fk.of {B R : Nat} {w w' : World} (h : Below B w w') : Fk B R w w' := ⟨h.os, h.tape, h.output, h.size, fun k hk _ => h.block k hk⟩
theorem Fk.trans {B R : Nat} {a b c : World} (h : Fk B R a b) (k : Fk B R b c) : Fk B R a c := ⟨k.os.trans h.os, k.tape.trans h.tape, k.output.trans h.output, Nat.le_trans h.size k.size, fun i hi hn => (k.block i hi hn).trans (h.block i hi hn)⟩
theorem Fk.setR {B R : Nat} {a w : World} (h : Fk B R a w) (i : Nat) (u : Value) : Fk B R a (w.setCell ⟨R, i, none⟩ u) := h.trans ⟨rfl, rfl, rfl, by simp [World.setCell], fun k _ hn => Below.heap_setCell _ _ _ _ hn⟩
theorem Fk.below {B R C : Nat} {w w' : World} (h : Fk B R w w') (hC : C ≤ B) (hR : C ≤ R) : Below C w w' := ⟨h.os, h.tape, h.output, h.size, fun k hk => h.block k (by omega) (by omega)⟩
/-- What a line comes to. -/
def LineR (B R : Nat) (o : Option St) (w : World) : Ending → World → Prop := fun e w' => e = .returned (.bool o.isSome) ∧ Fk B R w w' ∧ ∀ st, o = some st → ∃ D cx cy cz px py pz, SR B R st w' D (.slice cx cy cz) (.slice px py pz)
theorem step_append_call {w : World} {ops : Array Oper} {o : Oper} {a : Act} {K : Act → World → Prop} {Q : Exit → Act → World → Prop} {F : Prop} (hg : o.guard = none) (s x : Operand)
    (ho : o.op = .call { callee := .builtin .append, args := #[s, x], argTypes := #[22, 22] }) {B : Nat} {v : Value} {cs : List PCall} {c : PCall} (hs : a.eval s = v) (h : OC w B v cs) {g : Nat} (hx : a.eval x = .slice (some ⟨g, 0, none⟩) 1 1)
    (hcell : ∀ (j : Nat) (u : Value), (callC c)[j]? = some u → w.cell? ((⟨g, 0, none⟩ : Addr).add j) = some u) (hB : B ≤ w.heap.size) (hl : cs.length ≤ 4000000)
    (hK : ∀ v' w', OC w' B v' (cs ++ [c]) → w.grownBy w' v.ownBlock → K (a.put o.dst v') w') :
    if Region.wanted o (yielded ops a.tmps) = true then Oper.wp Tryd.prog o a w K Q else F := by
  have hw : Region.wanted o (yielded ops a.tmps) = true := by simp [Region.wanted, hg]
  rw [if_pos hw]
  obtain ⟨i0, hi, hz0, hz1, hz2⟩ := info_parts infoCall
  refine wp_append_own w s x 22 ho B 36 i0 _ 4 40 Tryd.underlying22 hi hz0 hz1 hz2 rfl (by decide) v _ _ hs h ⟨g, 0, none⟩ 1 1 (callC c) hx rfl hcell (callC_one c) (by unfold maxLen; omega) (by omega) hB ?_
  intro v' w' h1 h2 _
  exact hK v' w' (OC.snoc h1) h2
set_option maxHeartbeats 8000000 in
set_option maxRecDepth 100000 in
theorem readLine_walk (B R : Nat) (st : St) (D : ByteArray) (cx : Option Addr) (cy cz : Nat) (px : Option Addr) (py pz : Nat) (s : ByteArray) (w : World) (h : SR B R st w D (.slice cx cy cz) (.slice px py pz)) (hB : B ≤ w.heap.size) (hm : ML w) (hs : s.size ≤ 1048576) (hz : szSt st ≤ 1048576) :
    Calls Tryd.prog 14 #[.pointer (some ⟨R, 0, none⟩), .string s] w (LineR B R (stepL st s.data.toList) w) := by
  obtain ⟨hR, hD, hC, hI⟩ := h
  have c3 : w.cell? ⟨R, 3, none⟩ = some (.bool st.doc.isSome) := Lib.cell_of_heap hR 3
  have f0 : w.frozen? ⟨R, 0, none⟩ = false := Lib.frozen_of_heap hR 0
  have f3 : w.frozen? ⟨R, 3, none⟩ = false := Lib.frozen_of_heap hR 3
  have c0 : w.cell? ⟨R, 0, none⟩ = some (.string D) := Lib.cell_of_heap hR 0
  have hdl := data_len s
  cases hdoc : st.doc with
  | none =>
    rw [hdoc] at c3
    have HC := hide (Tryd.strings_CutPrefix s ⟨#[100, 111, 99, 32]⟩ w)
    have hsp := strip_pre [100, 111, 99, 32] s.data.toList
    have HV : Hid (stepL st s.data.toList = (strip [100, 111, 99, 32] s.data.toList).map fun d => ⟨some d, st.cs, st.ps⟩) := by show _ = _; unfold stepL; rw [hdoc]
    have hlit : (⟨#[100, 111, 99, 32]⟩ : ByteArray).data.toList = [100, 111, 99, 32] := rfl
    rw [hlit] at HC
    generalize stepL st s.data.toList = SL at *
    generalize Lib.trimPrefix s.data.toList [100, 111, 99, 32] = tp at *
    have HR1 : Hid (∀ u3 : Value, ((w.setCell ⟨R, 0, none⟩ (.string (baT tp))).setCell ⟨R, 3, none⟩ u3).heap[R]? = some (.cells #[.string (baT tp), .slice cx cy cz, .slice px py pz, u3] 43 (0, 0))) := fun u3 => Go.heap_setCell_same _ R 3 _ _ _ (Go.heap_setCell_same _ R 0 _ _ _ hR)
    have HC1 : Hid (∀ u3 : Value, OC ((w.setCell ⟨R, 0, none⟩ (.string (baT tp))).setCell ⟨R, 3, none⟩ u3) B (.slice cx cy cz) st.cs) := fun u3 => own_set (own_set hC hR (by decide) 0 _) (Go.heap_setCell_same _ R 0 _ _ _ hR) (by decide) 3 u3
    have HI1 : Hid (∀ u3 : Value, OI ((w.setCell ⟨R, 0, none⟩ (.string (baT tp))).setCell ⟨R, 3, none⟩ u3) B (.slice px py pz) st.ps) := fun u3 => own_set (own_set hI hR (by decide) 0 _) (Go.heap_setCell_same _ R 0 _ _ _ hR) (by decide) 3 u3
    have HB1 : Hid (∀ u3 : Value, Fk B R w ((w.setCell ⟨R, 0, none⟩ (.string (baT tp))).setCell ⟨R, 3, none⟩ u3)) := fun u3 => ((Fk.of (Below.refl _ _)).setR 0 _).setR 3 _
    have f3b : ∀ u, (w.setCell ⟨R, 0, none⟩ u).frozen? ⟨R, 3, none⟩ = false := fun u => Lib.frozen_of_heap (Go.heap_setCell_same _ R 0 _ _ _ hR) 3
    have c3b : ∀ u, (w.setCell ⟨R, 0, none⟩ u).cell? ⟨R, 3, none⟩ = some (.bool false) := fun u => by
      have := Lib.cell_of_heap (Go.heap_setCell_same _ R 0 _ _ u hR) 3
      rw [hdoc] at this
      exact this
    clear hR hC hI hD hdl hs hz hm
    cases hb : Lib.hasPrefix s.data.toList [100, 111, 99, 32] with
    | true =>
      rw [hb] at HC
      have HV2 : Hid (SL = some ⟨some tp, st.cs, st.ps⟩) := by show _ = _; rw [unhide HV, hsp.1 hb]; rfl
      clear hsp hb HV
      go_enter Tryd.func14, Tryd.ntmps14
      go_wp2_with fail
      refine (unhide HC).mono ?_
      rintro e w2 ⟨rfl, rfl⟩
      clear HC
      go_wp2
      go_ret
      refine ⟨by rw [unhide HV2]; rfl, unhide HB1 _, fun s1 h1 => ?_⟩
      rw [unhide HV2] at h1
      injection h1 with h1
      subst h1
      exact ⟨_, _, _, _, _, _, _, unhide HR1 _, fun d hd => by injection hd with hd; subst hd; rfl, unhide HC1 _, unhide HI1 _⟩
    | false =>
      rw [hb] at HC
      have HV2 : Hid (SL = none) := by show _ = _; rw [unhide HV, hsp.2 hb]; rfl
      clear hsp hb HV
      go_enter Tryd.func14, Tryd.ntmps14
      go_wp2_with fail
      refine (unhide HC).mono ?_
      rintro e w2 ⟨rfl, rfl⟩
      clear HC
      go_wp2
      go_ret
      exact ⟨by rw [unhide HV2]; rfl, unhide HB1 _, fun s1 h1 => by rw [unhide HV2] at h1; cases h1⟩
  | some doc =>
    rw [hdoc] at c3
    have HP := hide (readPicks_walk s w hm hs)
    have HBL : Hid (∀ w', Below w.heap.size w w' → Below B w w') := fun w' hb => hb.mono hB
    have HRB : Hid (∀ w', Below w.heap.size w w' → w'.heap[R]? = some (.cells #[.string D, .slice cx cy cz, .slice px py pz, .bool true] 43 (0, 0))) := fun w' hb => by
      have := (hb.block R (Array.getElem?_eq_some_iff.1 hR).1).trans hR
      rw [hdoc] at this
      exact this
    have HCB : Hid (∀ w', Below w.heap.size w w' → OC w' B (.slice cx cy cz) st.cs) := fun w' hb => own_below hC hb
    have HIB : Hid (∀ w', Below w.heap.size w w' → OI w' B (.slice px py pz) st.ps) := fun w' hb => own_below hI hb
    have HDD := hide hD
    have hzc : st.cs.length ≤ 1048576 := by unfold szSt at hz; omega
    have hzp : st.ps.length ≤ 1048576 := by unfold szSt at hz; omega
    have HML : Hid (∀ w', Below w.heap.size w w' → ML w') := fun w' hb => hm.below hb
    cases hlp : lineP s.data.toList with
    | some p =>
      have HV : Hid (stepL st s.data.toList = some ⟨st.doc, st.cs, st.ps ++ p⟩) := by show _ = _; unfold stepL; rw [hdoc]; simp only; rw [hlp]
      have hpl := lineP_len hlp
      rw [hlp] at HP
      generalize stepL st s.data.toList = SL at *
      clear hlp hR hC hI hD hm hz f0 f3 c0
      have HDOC := hide hdoc
      clear hdoc
      go_enter Tryd.func14, Tryd.ntmps14
      go_wp2_with fail
      refine (unhide HP).mono ?_
      rintro e w2 ⟨qx, qy, qz, rfl, b2, hO⟩
      have hR2 := unhide HRB w2 b2
      have d2 : w2.cell? ⟨R, 2, none⟩ = some (.slice px py pz) := Lib.cell_of_heap hR2 2
      have HO2 := hide (hO p rfl)
      have HI2 := hide (unhide HIB w2 b2)
      have HC2 := hide (unhide HCB w2 b2)
      have HB2 := hide (unhide HBL w2 b2)
      have HR2 := hide hR2
      have hbs : B ≤ w2.heap.size := Nat.le_trans hB b2.size
      clear HP hO b2 hR2 HRB HCB HIB HBL HML c3
      go_wp2_with (at_builtin; refine wpList_append_ints rfl (.tmp 41) (.tmp 42) rfl rfl rfl (unhide HI2) (unhide HO2) hbs (by omega) ?_)
      intro v' w3 hO3 hg3
      obtain ⟨vx, vy, vz, rfl⟩ := own_slice3 hO3
      have hR3 : w3.heap[R]? = some (.cells #[.string D, .slice cx cy cz, .slice px py pz, .bool true] 43 (0, 0)) := (hg3.block R (Array.getElem?_eq_some_iff.1 (unhide HR2)).1 (fun e => own_ne (unhide HI2) (unhide HR2) (by decide) e.symm)).trans (unhide HR2)
      have f2 : w3.frozen? ⟨R, 2, none⟩ = false := Lib.frozen_of_heap hR3 2
      have e2 : w3.cell? ⟨R, 2, none⟩ = some (.slice px py pz) := Lib.cell_of_heap hR3 2
      have HB3 := hide ((unhide HB2).grown hg3 hbs (fun k hk => ((unhide HI2).lt k hk).1))
      have HC3 : Hid (OC w3 B (.slice cx cy cz) st.cs) := own_grown (unhide HC2) hg3 (own_apart2 (unhide HC2) (unhide HI2) (by decide))
      have HO3 := hide hO3
      have HR3 := hide hR3
      clear hO3 hg3 hR3 HI2 HC2 HO2 HB2 HR2 d2
      go_wp2
      go_ret
      refine ⟨by rw [unhide HV]; rfl, (Fk.of (unhide HB3)).setR 2 _, fun s1 h1 => ?_⟩
      rw [unhide HV] at h1
      injection h1 with h1
      subst h1
      refine ⟨_, _, _, _, _, _, _, ?_, unhide HDD, own_set (unhide HC3) (unhide HR3) (by decide) 2 _, own_set (unhide HO3) (unhide HR3) (by decide) 2 _⟩
      have := Go.heap_setCell_same _ R 2 _ _ (.slice vx vy vz) (unhide HR3)
      rw [unhide HDOC]
      exact this
    | none =>
      have HV : Hid (stepL st s.data.toList = (callT s.data.toList).map fun c => ⟨st.doc, st.cs ++ [c], st.ps⟩) := by show _ = _; unfold stepL; rw [hdoc]; simp only; rw [hlp]
      rw [hlp] at HP
      have HCA : Hid (∀ w', Below w.heap.size w w' → Calls Tryd.prog 27 #[.string s] w' (CallR (callT s.data.toList) w')) := fun w' hb => readCall_walk s w' (unhide HML w' hb) hs
      generalize stepL st s.data.toList = SL at *
      generalize callT s.data.toList = CT at *
      clear hlp hR hC hI hD hm hz f0 f3 c0
      have HDOC := hide hdoc
      clear hdoc
      go_enter Tryd.func14, Tryd.ntmps14
      go_wp2_with fail
      refine (unhide HP).mono ?_
      rintro e w2 ⟨qx, qy, qz, rfl, b2, -⟩
      have HCA2 := hide (unhide HCA w2 b2)
      have HB2 := hide b2
      clear HP b2 HML HCA
      go_wp2_with fail
      refine (unhide HCA2).mono ?_
      rintro e w3 ⟨c, k, r, t, rfl, hp, b3⟩
      have HP3 := hide hp
      have HB3 := hide (below_next (unhide HB2) b3)
      obtain ⟨pc, hpc⟩ : ∃ pc : PCall, pc = ⟨c, k, t.data.toList, r⟩ := ⟨_, rfl⟩
      have HPC := hide hpc
      have htt : baT t.data.toList = t := rfl
      have HCC : Hid (callC pc = [.int .i64 c, .int .i64 k, .string t, .int .i64 r]) := by show _ = _; rw [hpc]; rfl
      obtain ⟨O, hO⟩ : ∃ O : Obj, O = Obj.cells #[.int .i64 c, .int .i64 k, .string t, .int .i64 r] 36 (0, 0) := ⟨_, rfl⟩
      have HBA : Hid (Below w.heap.size w (w3.alloc O).drew) := (below_next (unhide HB3) (al_b w3 O)).drew
      have g1 : (w3.alloc O).drew.cell? ⟨R, 1, none⟩ = some (.slice cx cy cz) := Lib.cell_of_heap (unhide HRB _ (unhide HBA)) 1
      have n0 : (w3.alloc O).drew.heap[w3.heap.size]? = some O := heap_alloc_new w3 O
      clear HCA2 hp b3 HB2 hpc
      subst hO
      have g2 : ∀ j, (w3.alloc (Obj.cells #[.int .i64 c, .int .i64 k, .string t, .int .i64 r] 36 (0, 0))).drew.cell? ⟨w3.heap.size, j, none⟩ = (#[Value.int .i64 c, .int .i64 k, .string t, .int .i64 r])[j]? := fun j => Lib.cell_of_heap n0 j
      have HBX : Hid (Below w.heap.size w ((w3.alloc (Obj.cells #[.int .i64 c, .int .i64 k, .string t, .int .i64 r] 36 (0, 0))).alloc (Obj.cells #[.int .i64 c, .int .i64 k, .string t, .int .i64 r] 36 (0, 0))).drew) := (below_next (below_next (unhide HB3) (al_b w3 _)) (al_b _ _)).drew
      have HC9 := hide (unhide HCB _ (unhide HBX))
      have HI9 := hide (unhide HIB _ (unhide HBX))
      have HR9 := hide (unhide HRB _ (unhide HBX))
      have HCL : Hid (∀ (j : Nat) (u : Value), (callC pc)[j]? = some u → ((w3.alloc (Obj.cells #[.int .i64 c, .int .i64 k, .string t, .int .i64 r] 36 (0, 0))).alloc (Obj.cells #[.int .i64 c, .int .i64 k, .string t, .int .i64 r] 36 (0, 0))).drew.cell? ((⟨w3.heap.size + 1, 0, none⟩ : Addr).add j) = some u) := fun j u hu => by
        rw [unhide HCC] at hu
        have hh : ((w3.alloc (Obj.cells #[.int .i64 c, .int .i64 k, .string t, .int .i64 r] 36 (0, 0))).alloc (Obj.cells #[.int .i64 c, .int .i64 k, .string t, .int .i64 r] 36 (0, 0))).drew.heap[w3.heap.size + 1]? = some (Obj.cells #[.int .i64 c, .int .i64 k, .string t, .int .i64 r] 36 (0, 0)) := by
          have := heap_alloc_new (w3.alloc (Obj.cells #[.int .i64 c, .int .i64 k, .string t, .int .i64 r] 36 (0, 0))) (Obj.cells #[.int .i64 c, .int .i64 k, .string t, .int .i64 r] 36 (0, 0))
          have e : (w3.alloc (Obj.cells #[.int .i64 c, .int .i64 k, .string t, .int .i64 r] 36 (0, 0))).heap.size = w3.heap.size + 1 := by simp
          rw [e] at this
          exact this
        rw [Go.WideShapes.add_plain, Nat.zero_add, Lib.cell_of_heap hh j]
        simpa using hu
      have g3 : ((w3.alloc (Obj.cells #[.int .i64 c, .int .i64 k, .string t, .int .i64 r] 36 (0, 0))).alloc (Obj.cells #[.int .i64 c, .int .i64 k, .string t, .int .i64 r] 36 (0, 0))).drew.cell? ⟨R, 1, none⟩ = some (.slice cx cy cz) := Lib.cell_of_heap (unhide HR9) 1
      have HSZ : Hid (B ≤ ((w3.alloc (Obj.cells #[.int .i64 c, .int .i64 k, .string t, .int .i64 r] 36 (0, 0))).alloc (Obj.cells #[.int .i64 c, .int .i64 k, .string t, .int .i64 r] 36 (0, 0))).drew.heap.size) := Nat.le_trans hB (unhide HBX).size
      clear HB3 HBA n0 HRB HCB HIB htt HCC c3
      go_wp2
      go_region_law (refine step_append_call rfl (.tmp 57) (.tmp 59) rfl (c := pc) rfl (unhide HC9) rfl (unhide HCL) (unhide HSZ) (by omega) ?_; intro v' w4 hO4 hg4; obtain ⟨vx, vy, vz, rfl⟩ := own_slice3 hO4; have HO4 := hide hO4; have HG4 := hide hg4; have hR4 : w4.heap[R]? = some (.cells #[.string D, .slice cx cy cz, .slice px py pz, .bool true] 43 (0, 0)) := (hg4.block R (Array.getElem?_eq_some_iff.1 (unhide HR9)).1 (fun e => own_ne (unhide HC9) (unhide HR9) (by decide) e.symm)).trans (unhide HR9); have f1 : w4.frozen? ⟨R, 1, none⟩ = false := Lib.frozen_of_heap hR4 1; have e1 : w4.cell? ⟨R, 1, none⟩ = some (.slice cx cy cz) := Lib.cell_of_heap hR4 1; have HR4 := hide hR4; clear hO4 hg4 hR4)
      all_goals
        have HB4 := hide (((unhide HBL _ (unhide HBX)).grown (unhide HG4) (unhide HSZ) (fun k hk => ((unhide HC9).lt k hk).1)))
        have HI4 : Hid (OI w4 B (.slice px py pz) st.ps) := own_grown (unhide HI9) (unhide HG4) (own_apart2 (unhide HI9) (unhide HC9) (by decide))
        clear HG4 HC9 HI9 HR9 HCL HSZ HBX f1 e1 g1 g2 g3 HBL
        go_wp2
        go_ret
        refine ⟨?_, (Fk.of (unhide HB4)).setR 1 _, fun s1 h1 => ?_⟩
        · rw [unhide HV]; cases CT <;> rfl
        · rw [unhide HV] at h1
          cases hct : CT with
          | none => rw [hct] at h1; cases h1
          | some pc2 =>
            rw [hct] at h1
            injection h1 with h1
            subst h1
            obtain ⟨h5, h6, h7, h8⟩ := unhide HP3 pc2 hct
            have h9 : pc = pc2 := by
              rw [unhide HPC]
              obtain ⟨a1, a2, a3, a4⟩ := pc2
              simp only at h5 h6 h7 h8
              subst h5; subst h6; subst h7; subst h8
              rfl
            subst h9
            refine ⟨_, _, _, _, _, _, _, ?_, unhide HDD, own_set (unhide HO4) (unhide HR4) (by decide) 1 _, own_set (unhide HI4) (unhide HR4) (by decide) 1 _⟩
            have := Go.heap_setCell_same _ R 1 _ _ (.slice vx vy vz) (unhide HR4)
            rw [unhide HDOC]
            exact this
end Go.Proofs.YtbihihkdgckgnaaDoor


namespace Go.Proofs.YtbihihkdgckgnaaDoor
open Go.RowKit Go.Shelf

/-- What ParseScript answers, of the program and of the model. -/
def ParsR (pr : Int × Int × St) (w : World) : Ending → World → Prop := fun e w' => ∃ cx cy cz px py pz, e = .returned (.tuple #[.agg #[.string (baT (pr.2.2.doc.getD [])), .slice cx cy cz, .slice px py pz], .int .i64 pr.1, .int .i64 pr.2.1]) ∧
  OC w' w.heap.size (.slice cx cy cz) pr.2.2.cs ∧ OI w' w.heap.size (.slice px py pz) pr.2.2.ps ∧ Below w.heap.size w w'
theorem prR_bad {l : List UInt8} {i : Nat} (hl : ¬ 20000 < l.length) (h : runS' (piecesB 10 l) 0 st0 = .inl i) : prR l = (2, (i : Int) + 1, st0) := by unfold prR; rw [if_neg hl, h]
theorem prR_none {l : List UInt8} {st : St} (hl : ¬ 20000 < l.length) (h : runS' (piecesB 10 l) 0 st0 = .inr st) (hd : st.doc = none) : prR l = (3, 0, st0) := by unfold prR; rw [if_neg hl, h]; simp only; rw [hd]
theorem prR_ok {l : List UInt8} {st : St} {d : List UInt8} (hl : ¬ 20000 < l.length) (h : runS' (piecesB 10 l) 0 st0 = .inr st) (hd : st.doc = some d) : prR l = (0, 0, st) := by unfold prR; rw [if_neg hl, h]; simp only; rw [hd]
theorem results_script {w : World} {g : Nat} {cs : Array Value} (hg : w.heap[g]? = some (.cells cs 25 (0, 0))) (hc : cs.size = 3) {fn : Func} {p r q : Tmp} (h : fn.results = #[.cell p 25, .tmp r, .tmp q]) (tmps : Array Value) (v u : Value)
    (hp : tmps.getD p undef = .pointer (some ⟨g, 0, none⟩)) (hr : tmps.getD r undef = v) (hq : tmps.getD q undef = u) : (results fn tmps).run Tryd.prog w = .ok (.tuple #[.agg cs, v, u]) w :=
  results_cell_two h tmps w g _ cs (0, 0) _ v u hp hr hq hg Tryd.underlying25 rfl (by rw [hc]; kernel_rfl)
/-- Three cells stored. -/
def put3 (w : World) (g : Nat) (a b c : Value) : World := ((w.setCell ⟨g, 0, none⟩ a).setCell ⟨g, 1, none⟩ b).setCell ⟨g, 2, none⟩ c
theorem put3_heap {w : World} {g : Nat} {T : TypeId} {x y z : Value} (h : w.heap[g]? = some (.cells #[x, y, z] T (0, 0))) (a b c : Value) : (put3 w g a b c).heap[g]? = some (.cells #[a, b, c] T (0, 0)) :=
  Go.heap_setCell_same _ g 2 _ _ _ (Go.heap_setCell_same _ g 1 _ _ _ (Go.heap_setCell_same _ g 0 _ _ _ h))
theorem put3_below {B : Nat} {v w : World} (h : Below B v w) {g : Nat} (hg : B ≤ g) (a b c : Value) : Below B v (put3 w g a b c) :=
  Below.setCell (Below.setCell (Below.setCell h (p := ⟨g, 0, none⟩) hg _) (p := ⟨g, 1, none⟩) hg _) (p := ⟨g, 2, none⟩) hg _
theorem put3_own {w : World} {B e size n R : Nat} {v : Value} {xs : List Value} {T : TypeId} {x y z : Value} (h : w.ownsRow B e size v n xs) (hg : w.heap[R]? = some (.cells #[x, y, z] T (0, 0))) (hT : T ≠ e) (a b c : Value) : (put3 w R a b c).ownsRow B e size v n xs :=
  own_set (own_set (own_set h hg hT 0 a) (Go.heap_setCell_same _ R 0 _ _ _ hg) hT 1 b) (Go.heap_setCell_same _ R 1 _ _ _ (Go.heap_setCell_same _ R 0 _ _ _ hg)) hT 2 c
set_option maxHeartbeats 8000000 in
set_option maxRecDepth 100000 in
theorem implParse_walk (s : ByteArray) (w : World) (hm : ML w) (hs : s.size ≤ 1048576) : Calls Tryd.prog 5 #[.string s] w (ParsR (prR s.data.toList) w) := by
  have hdl := data_len s
  by_cases hbig : (20000 : Int) < (s.size : Int)
  · have HV : Hid (prR s.data.toList = (1, 0, st0)) := by show _ = _; unfold prR; rw [if_pos (by omega)]
    have HZ := hide (heap_alloc_new w (Obj.cells #[.string ⟨#[]⟩, .slice none 0 0, .slice none 0 0] 25))
    have HB := hide (al_b w (Obj.cells #[.string ⟨#[]⟩, .slice none 0 0, .slice none 0 0] 25))
    clear hdl hm hs
    go_enter Tryd.func5, Tryd.ntmps5
    go_wp2
    refine bodyPost_ret (results_script (unhide HZ) rfl rfl _ _ _ rfl rfl rfl) rfl ?_
    exact ⟨_, _, _, _, _, _, by rw [unhide HV]; rfl, by rw [unhide HV]; exact OC.nil _ _, by rw [unhide HV]; exact OI.nil _ _, unhide HB⟩
  · have HBIG : Hid (¬ 20000 < s.data.toList.length) := fun e => hbig (by omega)
    have hsz : (s.size : Int) ≤ 20000 := by omega
    have HS := hide (split_walkB 10 s ((w.alloc (Obj.cells #[.string ⟨#[]⟩, .slice none 0 0, .slice none 0 0] 25)).alloc (Obj.cells #[.string ⟨#[]⟩, .slice none 0 0, .slice none 0 0, .bool false] 43)) ((hm.below (al_b w _)).below (al_b _ _)) hs)
    have hcl := cutsB_le 10 s
    have hcd := cutsB_data 10 s
    have HPI : Hid (∀ i, runS' (piecesB 10 s.data.toList) 0 st0 = .inl i → prR s.data.toList = (2, (i : Int) + 1, st0)) := fun i h => prR_bad (unhide HBIG) h
    have HPN : Hid (∀ st, runS' (piecesB 10 s.data.toList) 0 st0 = .inr st → st.doc = none → prR s.data.toList = (3, 0, st0)) := fun st h h2 => prR_none (unhide HBIG) h h2
    have HPO : Hid (∀ st d, runS' (piecesB 10 s.data.toList) 0 st0 = .inr st → st.doc = some d → prR s.data.toList = (0, 0, st)) := fun st d h h2 => prR_ok (unhide HBIG) h h2
    have HSZ : Hid (∀ j st, stL ((piecesB 10 s.data.toList).take j) st0 = some st → szSt st ≤ 1048576) := fun j st h => by have := st_sz h; omega
    have hszl : ∀ x ∈ cutsB 10 s, x.size ≤ 1048576 := by
      intro x hx
      have h1 : x.data.toList ∈ piecesB 10 s.data.toList := by rw [← hcd]; exact List.mem_map_of_mem hx
      have h2 := piecesB_le h1
      rw [data_len] at h2
      rw [data_len s] at h2
      omega
    rw [← hcd] at HPI HPN HPO HSZ
    generalize prR s.data.toList = PR at *
    generalize cutsB 10 s = ls at *
    have hll : ls.length ≤ 20001 := by omega
    have hlI : (ls.length : Int) ≤ 20001 := by omega
    have HSL := hide hszl
    have HML : Hid (∀ w', Below w.heap.size w w' → ML w') := fun w' hb => hm.below hb
    have HBA : Hid (Below w.heap.size w ((w.alloc (Obj.cells #[.string ⟨#[]⟩, .slice none 0 0, .slice none 0 0] 25)).alloc (Obj.cells #[.string ⟨#[]⟩, .slice none 0 0, .slice none 0 0, .bool false] 43))) := below_next (al_b w _) (al_b _ _)
    have HR0 : Hid (((w.alloc (Obj.cells #[.string ⟨#[]⟩, .slice none 0 0, .slice none 0 0] 25)).alloc (Obj.cells #[.string ⟨#[]⟩, .slice none 0 0, .slice none 0 0, .bool false] 43)).heap[w.heap.size]? = some (Obj.cells #[.string ⟨#[]⟩, .slice none 0 0, .slice none 0 0] 25)) := ((al_b _ _).block _ (by simp)).trans (heap_alloc_new w _)
    have HR1 : Hid (((w.alloc (Obj.cells #[.string ⟨#[]⟩, .slice none 0 0, .slice none 0 0] 25)).alloc (Obj.cells #[.string ⟨#[]⟩, .slice none 0 0, .slice none 0 0, .bool false] 43)).heap[w.heap.size + 1]? = some (Obj.cells #[.string ⟨#[]⟩, .slice none 0 0, .slice none 0 0, .bool false] 43)) := by
      show _ = _
      have := heap_alloc_new (w.alloc (Obj.cells #[.string ⟨#[]⟩, .slice none 0 0, .slice none 0 0] 25)) (Obj.cells #[.string ⟨#[]⟩, .slice none 0 0, .slice none 0 0, .bool false] 43)
      have e : (w.alloc (Obj.cells #[.string ⟨#[]⟩, .slice none 0 0, .slice none 0 0] 25)).heap.size = w.heap.size + 1 := by simp
      rw [e] at this
      exact this
    clear hcd hcl hszl hm hs hdl hbig HBIG
    go_enter Tryd.func5, Tryd.ntmps5
    go_wp2_with fail
    refine (unhide HS).mono ?_
    rintro e w2 ⟨rfl, ⟨-, hcell⟩, b2, hlt2⟩
    have hsz1 : ((w.alloc (Obj.cells #[.string ⟨#[]⟩, .slice none 0 0, .slice none 0 0] 25)).alloc (Obj.cells #[.string ⟨#[]⟩, .slice none 0 0, .slice none 0 0, .bool false] 43)).heap.size = w.heap.size + 2 := by simp
    rw [hsz1] at hcell b2 hlt2
    have HCE : Hid (∀ j (hj : j < ls.length), w2.cell? ⟨w.heap.size + 2, j, none⟩ = some (.string ls[j])) := fun j hj => by
      have := hcell j hj
      rw [List.getD_eq_getElem?_getD, List.getElem?_eq_getElem hj, Option.getD_some, Nat.zero_add] at this
      exact this
    have HB2 : Hid (Below w.heap.size w w2) := (unhide HBA).trans (b2.mono (by omega))
    have HR02 : Hid (w2.heap[w.heap.size]? = some (Obj.cells #[.string ⟨#[]⟩, .slice none 0 0, .slice none 0 0] 25)) := (b2.block _ (by omega)).trans (unhide HR0)
    have HSR0 : Hid (SR w2.heap.size (w.heap.size + 1) st0 w2 ⟨#[]⟩ (.slice none 0 0) (.slice none 0 0)) := ⟨(b2.block _ (by omega)).trans (unhide HR1), fun d hd => (by cases hd), OC.nil _ _, OI.nil _ _⟩
    have HLT2 := hide hlt2
    clear HS hcell b2 HR0 HR1 HBA hlt2
    rw [hsz1]
    have HSZ1 := hide hsz1
    clear hsz1
    go_wp2
    go_loopw [17] (fun iv wr => ∃ (j : Nat) (st : St) (D : ByteArray) (cx : Option Addr) (cy cz : Nat) (px : Option Addr) (py pz : Nat), j ≤ ls.length ∧ iv = .int .i64 (j : Int) ∧ Hid (stL ((ls.map (·.data.toList)).take j) st0 = some st) ∧ Hid (SR w2.heap.size (w.heap.size + 1) st wr D (.slice cx cy cz) (.slice px py pz)) ∧ Hid (Fk w2.heap.size (w.heap.size + 1) w2 wr)) (fun i _ => ls.length - (intOf i).toNat)
    case atStart => exact ⟨0, st0, _, _, _, _, _, _, _, Nat.zero_le _, rfl, rfl, unhide HSR0, Fk.of (Below.refl _ _)⟩
    case round =>
      obtain ⟨j, st, D, cx, cy, cz, px, py, pz, hj, rfl, hst, hSR, hfk⟩ := hrel
      clear HSR0
      by_cases hlt : j < ls.length
      · have hltI : (j : Int) < (ls.length : Int) := by omega
        have c1 : wr.cell? ⟨w.heap.size + 2, j, none⟩ = some (.string ls[j]) := (World.cell?_of_block (a := ⟨w.heap.size + 2, j, none⟩) ((unhide hfk).block (w.heap.size + 2) (unhide HLT2) (by omega))).trans (unhide HCE j hlt)
        have HTK : Hid ((ls.map (·.data.toList)).take (j + 1) = (ls.map (·.data.toList)).take j ++ [ls[j].data.toList]) := by
          show _ = _
          rw [List.take_succ_eq_append_getElem (by rw [List.length_map]; exact hlt), List.getElem_map]
        have HAT : Hid (∀ hx, (ls.map (·.data.toList))[j]'hx = ls[j].data.toList) := fun hx => by rw [List.getElem_map]
        have HBAD : Hid (stepE st ls[j].data.toList = none → PR = (2, (j : Int) + 1, st0)) := fun h => unhide HPI j (runS'_bad (by rw [List.length_map]; exact hlt) (unhide hst) (by rw [unhide HAT]; exact h))
        have HNX : Hid (∀ st', stepE st ls[j].data.toList = some st' → stL ((ls.map (·.data.toList)).take (j + 1)) st0 = some st') := fun st' h => by rw [unhide HTK, stL_snoc, unhide hst]; exact h
        have hzs := unhide HSL ls[j] (List.getElem_mem hlt)
        have hzst := unhide HSZ j st (unhide hst)
        have hws : w2.heap.size ≤ wr.heap.size := (unhide hfk).size
        have HMR := hide (unhide HML wr (Below.trans (unhide HB2) ((unhide hfk).below (by have := (unhide HB2).size; omega) (by omega))))
        clear HCE HTK HAT HPI HPN HPO HSZ hst HSL HML
        generalize ls[j] = L at *
        by_cases he : L.data.toList = []
        · have t0 : L.toList.isEmpty = true := by rw [ByteArray.toList_eq, he]; rfl
          have HST := hide (unhide HNX st (by unfold stepE; rw [if_pos he]))
          clear he HNX HBAD
          go_wp2
          go_roundw
          case rel => exact ⟨j + 1, st, D, cx, cy, cz, px, py, pz, by omega, by go_num, HST, hSR, hfk⟩
          case measure => simp [intOf]; omega
        · have t0 : L.toList.isEmpty = false := by rw [ByteArray.toList_eq, List.isEmpty_eq_false_iff]; exact he
          have HSE : Hid (stepE st L.data.toList = stepL st L.data.toList) := by show _ = _; unfold stepE; rw [if_neg he]
          have HRL := hide (readLine_walk w2.heap.size (w.heap.size + 1) st D cx cy cz px py pz L wr (unhide hSR) hws (unhide HMR) hzs hzst)
          clear he HMR hSR
          cases hsl : stepL st L.data.toList with
          | none =>
            have HV := hide (unhide HBAD (by rw [unhide HSE, hsl]))
            rw [hsl] at HRL
            clear hsl HNX HBAD HSE
            go_wp2_with fail
            refine (unhide HRL).mono ?_
            rintro e w3 ⟨rfl, fk3, -⟩
            have hfk3 := (unhide hfk).trans fk3
            have hR03 := (hfk3.block w.heap.size (by have := unhide HLT2; omega) (by omega)).trans (unhide HR02)
            have fz0 : w3.frozen? ⟨w.heap.size, 0, none⟩ = false := Lib.frozen_of_heap hR03 0
            have fz1 : w3.frozen? ⟨w.heap.size, 1, none⟩ = false := Lib.frozen_of_heap hR03 1
            have fz2 : w3.frozen? ⟨w.heap.size, 2, none⟩ = false := Lib.frozen_of_heap hR03 2
            have z0 : w3.cell? ⟨w.heap.size, 0, none⟩ = some (.string ⟨#[]⟩) := Lib.cell_of_heap hR03 0
            have z1 : w3.cell? ⟨w.heap.size, 1, none⟩ = some (.slice none 0 0) := Lib.cell_of_heap hR03 1
            have z2 : w3.cell? ⟨w.heap.size, 2, none⟩ = some (.slice none 0 0) := Lib.cell_of_heap hR03 2
            have HF3 := hide hfk3
            have HR03 := hide hR03
            clear HRL fk3 hfk hfk3 hR03 c1
            go_wp2
            refine bodyPost_ret (results_script (put3_heap (unhide HR03) (.string ⟨#[]⟩) (.slice none 0 0) (.slice none 0 0)) rfl rfl _ _ _ rfl rfl rfl) rfl ?_
            refine ⟨none, 0, 0, none, 0, 0, by rw [unhide HV]; rfl, by rw [unhide HV]; exact OC.nil _ _, by rw [unhide HV]; exact OI.nil _ _, ?_⟩
            exact put3_below (Below.trans (unhide HB2) ((unhide HF3).below (by have := (unhide HB2).size; omega) (by omega))) (Nat.le_refl _) _ _ _
          | some st' =>
            have HST := hide (unhide HNX st' (by rw [unhide HSE, hsl]))
            rw [hsl] at HRL
            clear hsl HNX HBAD HSE
            go_wp2_with fail
            refine (unhide HRL).mono ?_
            rintro e w3 ⟨rfl, fk3, hsr⟩
            obtain ⟨D', cx', cy', cz', px', py', pz', hsr⟩ := hsr st' rfl
            have HSR3 := hide hsr
            have HF3 := hide ((unhide hfk).trans fk3)
            clear HRL fk3 hfk hsr c1
            go_wp2
            go_roundw
            case rel => exact ⟨j + 1, st', D', cx', cy', cz', px', py', pz', by omega, by go_num, HST, HSR3, HF3⟩
            case measure => simp [intOf]; omega
      · have hje : (ls.map (·.data.toList)).take j = ls.map (·.data.toList) := List.take_of_length_le (by rw [List.length_map]; omega)
        rw [hje] at hst
        have HRE := hide (runS'_end (unhide hst))
        obtain ⟨hR, hD, hC, hI⟩ := unhide hSR
        have x0 : wr.cell? ⟨w.heap.size + 1, 0, none⟩ = some (.string D) := Lib.cell_of_heap hR 0
        have x1 : wr.cell? ⟨w.heap.size + 1, 1, none⟩ = some (.slice cx cy cz) := Lib.cell_of_heap hR 1
        have x2 : wr.cell? ⟨w.heap.size + 1, 2, none⟩ = some (.slice px py pz) := Lib.cell_of_heap hR 2
        have x3 : wr.cell? ⟨w.heap.size + 1, 3, none⟩ = some (.bool st.doc.isSome) := Lib.cell_of_heap hR 3
        have hR03 := ((unhide hfk).block w.heap.size (by have := unhide HLT2; omega) (by omega)).trans (unhide HR02)
        have fz0 : wr.frozen? ⟨w.heap.size, 0, none⟩ = false := Lib.frozen_of_heap hR03 0
        have fz1 : wr.frozen? ⟨w.heap.size, 1, none⟩ = false := Lib.frozen_of_heap hR03 1
        have fz2 : wr.frozen? ⟨w.heap.size, 2, none⟩ = false := Lib.frozen_of_heap hR03 2
        have z0 : wr.cell? ⟨w.heap.size, 0, none⟩ = some (.string ⟨#[]⟩) := Lib.cell_of_heap hR03 0
        have z1 : wr.cell? ⟨w.heap.size, 1, none⟩ = some (.slice none 0 0) := Lib.cell_of_heap hR03 1
        have z2 : wr.cell? ⟨w.heap.size, 2, none⟩ = some (.slice none 0 0) := Lib.cell_of_heap hR03 2
        have HR03 := hide hR03
        have HD := hide hD
        have HC := hide hC
        have HI := hide hI
        clear hR hD hC hI hR03 hSR hst hje HCE HSL HML HSZ HPI
        cases hdoc : st.doc with
        | none =>
          have HV := hide (unhide HPN st (unhide HRE) hdoc)
          rw [hdoc] at x3
          clear hdoc HPN HPO HRE
          go_wp2
          refine bodyPost_ret (results_script (put3_heap (unhide HR03) (.string ⟨#[]⟩) (.slice none 0 0) (.slice none 0 0)) rfl rfl _ _ _ rfl rfl rfl) rfl ?_
          refine ⟨none, 0, 0, none, 0, 0, by rw [unhide HV]; rfl, by rw [unhide HV]; exact OC.nil _ _, by rw [unhide HV]; exact OI.nil _ _, ?_⟩
          exact put3_below (Below.trans (unhide HB2) ((unhide hfk).below (by have := (unhide HB2).size; omega) (by omega))) (Nat.le_refl _) _ _ _
        | some d =>
          have HV := hide (unhide HPO st d (unhide HRE) hdoc)
          have HDD := hide (unhide HD d hdoc)
          have HDG : Hid (st.doc.getD [] = d) := by show _ = _; rw [hdoc]; rfl
          rw [hdoc] at x3
          clear hdoc HPN HPO HRE HD
          go_wp2
          refine bodyPost_ret (results_script (put3_heap (unhide HR03) (.string D) (.slice cx cy cz) (.slice px py pz)) rfl rfl _ _ _ rfl rfl rfl) rfl ?_
          have hwb := (unhide HB2).size
          refine ⟨cx, cy, cz, px, py, pz, ?_, ?_, ?_, ?_⟩
          · rw [unhide HV]; simp only; rw [unhide HDG, ← unhide HDD]; rfl
          · rw [unhide HV]; exact own_mono (put3_own (unhide HC) (unhide HR03) (by decide) _ _ _) hwb
          · rw [unhide HV]; exact own_mono (put3_own (unhide HI) (unhide HR03) (by decide) _ _ _) hwb
          · exact put3_below (Below.trans (unhide HB2) ((unhide hfk).below (by omega) (by omega))) (Nat.le_refl _) _ _ _
end Go.Proofs.YtbihihkdgckgnaaDoor


namespace Go.Proofs.YtbihihkdgckgnaaDoor
open Go.RowKit

set_option maxHeartbeats 800000 in
theorem word6_walk (s t : ByteArray) (w : World) (_hs : s.size ≤ 1048576) (_ht : t.size ≤ 10) :
    Calls Tryd.prog 21 #[.string s, .int .i64 0, .string t] w fun e w' => e = .returned (.bool (strip t.data.toList s.data.toList).isSome) ∧ w = w' := by
  have hds := data_len s
  have hdt := data_len t
  by_cases hin : t.size ≤ s.size
  · have h1 : (t.size : Int) ≤ (s.size : Int) := by omega
    have h2 : (0 : Int) ≤ (t.size : Int) := by omega
    have HV : Hid ((strip t.data.toList s.data.toList).isSome = ((s.extract 0 t.size).toList == t.toList)) := by
      show _ = _
      rw [ByteArray.toList_eq, ByteArray.toList_eq, extract_toList]
      unfold strip
      rw [hdt]
      simp only [List.drop_zero, Nat.sub_zero]
      by_cases e : s.data.toList.take t.size = t.data.toList
      · rw [if_pos e, e]; simp
      · rw [if_neg e]; simp [e]
    clear hds hdt
    go_enter Tryd.func21, Tryd.ntmps21
    go_wp2
    go_ret
    exact ⟨by rw [unhide HV]; rfl, rfl⟩
  · have h1 : ¬ (t.size : Int) ≤ (s.size : Int) := by omega
    have HV : Hid ((strip t.data.toList s.data.toList).isSome = false) := by
      show _ = _
      unfold strip
      rw [if_neg]
      · rfl
      · intro e
        have := congrArg List.length e
        rw [List.length_take] at this
        omega
    clear hds hdt
    go_enter Tryd.func21, Tryd.ntmps21
    go_wp2
    go_ret
    exact ⟨by rw [unhide HV]; rfl, rfl⟩
set_option maxHeartbeats 800000 in
theorem dig6_walk (b : Nat) (w : World) :
    Calls Tryd.prog 22 #[.int .u8 b] w fun e w' => e = .returned (.bool (isDg b)) ∧ w = w' := by
  by_cases h : 48 ≤ b
  · have HD : Hid (isDg b = decide ((b : Int) ≤ 57)) := by
      show _ = _
      unfold isDg
      rw [decide_eq_true h, Bool.true_and]
      apply decide_eq_decide.2; omega
    have h1 : (48 : Int) ≤ (b : Int) := by omega
    go_enter Tryd.func22, Tryd.ntmps22
    go_wp2
    go_ret
    exact ⟨by rw [unhide HD]; rfl, rfl⟩
  · have HD : Hid (isDg b = false) := by
      show _ = _
      unfold isDg
      rw [decide_eq_false h, Bool.false_and]
    have h1 : ¬ (48 : Int) ≤ (b : Int) := by omega
    go_enter Tryd.func22, Tryd.ntmps22
    go_wp2
    go_ret
    exact ⟨by rw [unhide HD]; rfl, rfl⟩
theorem ext_baT (s : ByteArray) (i j : Nat) : s.extract i j = baT ((s.data.toList.drop i).take (j - i)) := by
  rw [← extract_toList]; rfl
set_option maxHeartbeats 800000 in
theorem rest_walk (s t : ByteArray) (w : World) (hs : s.size ≤ 1048576) (ht : t.size ≤ 10) :
    Calls Tryd.prog 10 #[.string s, .string t] w fun e w' => e = .returned (.tuple #[.string (baT ((strip t.data.toList s.data.toList).getD [])), .bool (strip t.data.toList s.data.toList).isSome]) ∧ w = w' := by
  have HW := hide (word6_walk s t w hs ht)
  have hds := data_len s
  have hdt := data_len t
  cases hst : strip t.data.toList s.data.toList with
  | none =>
    rw [hst] at HW
    clear hst
    go_enter Tryd.func10, Tryd.ntmps10
    go_wp2_with fail
    refine (unhide HW).mono ?_
    rintro e w2 ⟨rfl, rfl⟩
    clear HW
    go_wp2
    go_ret2
    exact ⟨rfl, rfl⟩
  | some r =>
    rw [hst] at HW
    have he := strip_some hst
    have hlen := congrArg List.length he
    rw [List.length_append] at hlen
    have h1 : (t.size : Int) ≤ (s.size : Int) := by omega
    have h2 : (0 : Int) ≤ (t.size : Int) := by omega
    have HV : Hid (s.extract t.size s.size = baT r) := by
      show _ = _
      rw [ext_baT, he, ← hdt]
      congr 1
      rw [List.drop_left]
      exact List.take_of_length_le (by omega)
    clear hst he hlen hds hdt
    go_enter Tryd.func10, Tryd.ntmps10
    go_wp2_with fail
    refine (unhide HW).mono ?_
    rintro e w2 ⟨rfl, rfl⟩
    clear HW
    go_wp2
    go_ret2
    exact ⟨by rw [show baT ((some r).getD []) = baT r from rfl, ← unhide HV]; rfl, rfl⟩
/-- No byte b between two places. -/
def NoB (b : UInt8) (l : List UInt8) (f k : Nat) : Prop := ∀ m, f ≤ m → m < k → ∀ c, l[m]? = some c → ¬ c = b
theorem NoB.piece {b : UInt8} {l : List UInt8} {f k : Nat} (h : NoB b l f k) : ∀ c ∈ (l.drop f).take (k - f), ¬ c = b := by
  intro c hc
  obtain ⟨m, hm, rfl⟩ := List.mem_iff_getElem.1 hc
  rw [List.length_take, List.length_drop] at hm
  exact h (f + m) (by omega) (by omega) _ (by rw [List.getElem_take, List.getElem_drop]; exact List.getElem?_eq_getElem _)
theorem NoB.cut {b : UInt8} {l : List UInt8} {f k : Nat} (h : NoB b l f k) (hfk : f ≤ k) (hk : k < l.length) (hc : l[k] = b) : piecesB b (l.drop f) = (l.drop f).take (k - f) :: piecesB b (l.drop (k + 1)) := by
  have e : l.drop f = (l.drop f).take (k - f) ++ b :: l.drop (k + 1) := by
    have h1 : (l.drop f).drop (k - f) = b :: l.drop (k + 1) := by
      rw [List.drop_drop, show f + (k - f) = k by omega, ← List.getElem_cons_drop (h := hk), hc]
    rw [← h1, List.take_append_drop]
  have := piecesB_app h.piece (l.drop (k + 1))
  rw [← e] at this
  exact this
theorem NoB.last {b : UInt8} {l : List UInt8} {f : Nat} (h : NoB b l f l.length) : piecesB b (l.drop f) = [l.drop f] := by
  have h1 := h.piece
  rw [List.take_of_length_le (by rw [List.length_drop]; omega)] at h1
  exact piecesB_one h1
theorem NoB.snoc {b : UInt8} {l : List UInt8} {f k : Nat} (h : NoB b l f k) (hk : k < l.length) (hc : ¬ l[k] = b) : NoB b l f (k + 1) := by
  intro m h1 h2 c hm
  by_cases e : m = k
  · subst e
    rw [List.getElem?_eq_getElem hk] at hm
    injection hm with hm
    subst hm; exact hc
  · exact h m h1 (by omega) c hm
theorem NoB.none (b : UInt8) (l : List UInt8) (k : Nat) : NoB b l k k := fun m h1 h2 => by omega
end Go.Proofs.YtbihihkdgckgnaaDoor


namespace Go.Proofs.YtbihihkdgckgnaaDoor
open Go.RowKit

theorem tok_cell (w : World) (t : List UInt8) : ∀ (j : Nat) (u : Value), [tokCell t][j]? = some u → (w.alloc (Obj.cells #[.string (baT t)] 9)).cell? ((⟨w.heap.size, 0, none⟩ : Addr).add j) = some u := by
  intro j u hu
  rw [Go.WideShapes.add_plain, Nat.zero_add, Lib.cell_of_heap (heap_alloc_new w (Obj.cells #[.string (baT t)] 9)) j]
  have hu' : [Value.string (baT t)][j]? = some u := hu
  simpa using hu'
set_option maxHeartbeats 4000000 in
set_option maxRecDepth 100000 in
theorem lines_walk (s : ByteArray) (w : World) (hs : s.size ≤ 1048576) :
    Calls Tryd.prog 9 #[.string s] w fun e w' => ∃ v, e = .returned v ∧ OT w' w.heap.size v (piecesB 10 s.data.toList) ∧ Below w.heap.size w w' := by
  obtain ⟨i0, hi, hz0, hz1, hz2⟩ := info_parts infoString
  have HO : Hid (OT (w.alloc (.cells #[] 9)) w.heap.size (.slice (some ⟨w.heap.size, 0, none⟩) 0 0) []) := World.ownsRow_lit (base := w.heap.size) (e := 9) (size := 1) w #[] 0 (Nat.le_refl _) (by unfold maxLen; omega) rfl
  have HB0 : Hid (Below w.heap.size w (w.alloc (.cells #[] 9))) := al_b w _
  have hdl := data_len s
  have HAT : Hid (∀ k (hk : k < s.size), s.data.toList[k]? = some s[k]) := fun k hk => getElem_data s k hk
  have HEX : Hid (∀ f k, s.extract f k = baT ((s.data.toList.drop f).take (k - f))) := fun f k => ext_baT s f k
  generalize s.data.toList = l at *
  have HDL := hide hdl
  clear hdl
  go_enter Tryd.func9, Tryd.ntmps9
  go_wp2
  go_loopw [3, 4, 5] (fun v fr i wr => ∃ (k f : Nat) (done : List (List UInt8)), k ≤ s.size + 1 ∧ f ≤ k ∧ i = .int .i64 (k : Int) ∧ fr = .int .i64 (f : Int) ∧ done.length ≤ k ∧ Hid (OT wr w.heap.size v done) ∧ Hid (Below w.heap.size w wr) ∧ Hid (k ≤ s.size → NoB 10 l f k ∧ piecesB 10 l = done ++ piecesB 10 (l.drop f)) ∧ Hid (k = s.size + 1 → piecesB 10 l = done)) (fun _ _ i _ => s.size + 1 - (intOf i).toNat)
  case atStart => exact ⟨0, 0, [], by omega, Nat.le_refl _, rfl, rfl, Nat.le_refl _, unhide HO, unhide HB0, fun _ => ⟨NoB.none _ _ _, rfl⟩, fun h => by omega⟩
  case round =>
    obtain ⟨k, f, done, hk, hf, rfl, rfl, hdn, hO, hb, hA, hZ⟩ := hrel
    clear HO HB0
    obtain ⟨vx, vy, vz, rfl⟩ := own_slice3 (unhide hO)
    by_cases hks : k ≤ s.size
    · have hA' := unhide hA hks
      have hkI : (k : Int) ≤ (s.size : Int) := by omega
      have hws := (unhide hb).size
      have HOA : Hid (∀ o, OT (wr.alloc o) w.heap.size (.slice vx vy vz) done) := fun o => own_below (unhide hO) (al_b wr o)
      have hfI : (f : Int) ≤ (k : Int) := by omega
      have HLK := hide ((unhide hb).trans ((al_b wr (Obj.cells #[.string (baT ((l.drop f).take (k - f)))] 9)).mono hws))
      have HEF := hide (unhide HEX f k)
      by_cases hke : k = s.size
      · subst hke
        have HN : Hid (NoB 10 l f l.length) := by rw [unhide HDL]; exact hA'.1
        have HFIN : Hid (piecesB 10 l = done ++ [(l.drop f).take (s.size - f)]) := by
          show _ = _
          rw [hA'.2, (unhide HN).last, List.take_of_length_le]
          rw [List.length_drop, unhide HDL]; omega
        clear hA' hA hZ HN HAT HEX
        go_wp2_with (at_builtin; refine wpList_append_own _ rfl (.tmp 23) (.tmp 28) 31 rfl w.heap.size 9 i0 (.string ByteArray.empty) 1 16 Tryd.underlying31 hi hz0 hz1 hz2 rfl (by decide) _ _ _ rfl (unhide HOA _) ⟨wr.heap.size, 0, none⟩ 1 1 [tokCell ((l.drop f).take (s.size - f))] rfl rfl (by rw [unhide HEF]; exact tok_cell wr _) (one_tok _) (by unfold maxLen; omega) (by omega) (by simp; omega) ?_)
        intro v' w3 hO3 hg3 _
        have HO3 : Hid (OT w3 w.heap.size v' (done ++ [(l.drop f).take (s.size - f)])) := OT.step hO3
        have HB3 : Hid (Below w.heap.size w w3) := ((unhide hb).trans ((al_b wr _).mono hws)).grown hg3 (by simp; omega) (fun q hq => ((unhide HOA (Obj.cells #[.string (s.extract f s.size)] 9)).lt q hq).1)
        clear hO3 hg3 HOA HLK HEF hb hO
        go_wp2
        go_roundw
        case rel => exact ⟨s.size + 1, s.size + 1, done ++ [(l.drop f).take (s.size - f)], by omega, Nat.le_refl _, by go_num, by go_num, by rw [List.length_append]; simp; omega, HO3, HB3, fun h => by omega, fun _ => unhide HFIN⟩
        case measure => simp [intOf]
      · have hlt : k < s.size := by omega
        have hltI : (k : Int) < (s.size : Int) := by omega
        have t1 : ((k : Int) == (s.size : Int)) = false := by rw [beq_eq_false_iff_ne]; omega
        have HLT : Hid (k < l.length) := by rw [unhide HDL]; exact hlt
        have hat : l[k]'(unhide HLT) = s[k] := by
          have := unhide HAT k hlt
          rw [List.getElem?_eq_getElem (unhide HLT)] at this
          injection this
        by_cases hc : s[k] = 10
        · have t3 : ((s[k].toNat : Int) == 10) = true := by rw [hc]; rfl
          have HFIN : Hid (piecesB 10 l = (done ++ [(l.drop f).take (k - f)]) ++ piecesB 10 (l.drop (k + 1))) := by
            show _ = _
            rw [hA'.2, hA'.1.cut hf (unhide HLT) (by rw [hat]; exact hc)]; simp
          clear hA' hA hZ HAT HEX hat hke hc
          go_wp2_with (at_builtin; refine wpList_append_own _ rfl (.tmp 23) (.tmp 28) 31 rfl w.heap.size 9 i0 (.string ByteArray.empty) 1 16 Tryd.underlying31 hi hz0 hz1 hz2 rfl (by decide) _ _ _ rfl (unhide HOA _) ⟨wr.heap.size, 0, none⟩ 1 1 [tokCell ((l.drop f).take (k - f))] rfl rfl (by rw [unhide HEF]; exact tok_cell wr _) (one_tok _) (by unfold maxLen; omega) (by omega) (by simp; omega) ?_)
          intro v' w3 hO3 hg3 _
          have HO3 : Hid (OT w3 w.heap.size v' (done ++ [(l.drop f).take (k - f)])) := OT.step hO3
          have HB3 : Hid (Below w.heap.size w w3) := ((unhide hb).trans ((al_b wr _).mono hws)).grown hg3 (by simp; omega) (fun q hq => ((unhide HOA (Obj.cells #[.string (s.extract f k)] 9)).lt q hq).1)
          clear hO3 hg3 HOA HLK HEF hb hO
          go_wp2
          go_roundw
          case rel => exact ⟨k + 1, k + 1, done ++ [(l.drop f).take (k - f)], by omega, Nat.le_refl _, by go_num, by go_num, by rw [List.length_append]; simp; omega, HO3, HB3, fun _ => ⟨NoB.none _ _ _, unhide HFIN⟩, fun h => by omega⟩
          case measure => simp [intOf]; omega
        · have t3 : ((s[k].toNat : Int) == 10) = false := by
            rw [beq_eq_false_iff_ne]
            intro e
            apply hc
            exact UInt8.toNat_inj.1 (by have : (10 : UInt8).toNat = 10 := rfl; omega)
          have HN : Hid (NoB 10 l f (k + 1)) := hA'.1.snoc (unhide HLT) (by rw [hat]; exact hc)
          have HE := hide hA'.2
          clear hA' hA hZ HAT HEX hat hke hc HOA HLK HEF
          go_wp2
          go_roundw
          case rel => exact ⟨k + 1, f, done, by omega, by omega, by go_num, rfl, by omega, hO, hb, fun _ => ⟨unhide HN, unhide HE⟩, fun h => by omega⟩
          case measure => simp [intOf]; omega
    · have hke : k = s.size + 1 := by omega
      have HV := hide (unhide hZ hke)
      have hkI : ¬ (k : Int) ≤ (s.size : Int) := by omega
      clear hA hZ HAT HEX hke
      go_wp2
      go_ret
      exact ⟨_, rfl, by rw [unhide HV]; exact unhide hO, unhide hb⟩
end Go.Proofs.YtbihihkdgckgnaaDoor

