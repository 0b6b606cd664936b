import Derived.Test.YtcjajchfjoffnaaGreatDoorBch29
import Derived.Test.YtcjajchfjoffnaaGreatDoorBch24
import Derived.Test.YtcjajchfjoffnaaGreatDoorBch23
namespace Go.Proofs.YtcjajchfjoffnaaGreatDoor
open Go.RowKit

theorem sum_kidE {K : List (List UInt8 × JV)} {q : List UInt8 × JV} (h : q ∈ K) : cntV q.2 ≤ (K.map fun q => cntV q.2).sum := sumf_at (fun q => cntV q.2) h
theorem findK_idx (l : JL) (k : Nat) (h : k < l.toL.length) : findK (kidsV (.arr l)) (decT k) = some l.toL[k] := by
  have : ∀ (vs : List JV) (b j : Nat) (hj : j < vs.length), findK (idxJ b vs) (decT (b + j)) = some vs[j] := by
    intro vs
    induction vs with
    | nil => intro b j hj; simp at hj
    | cons v r ih =>
      intro b j hj
      unfold findK at *
      rw [idxJ, List.find?_cons]
      cases j with
      | zero => simp
      | succ j =>
        have hne : (decT b == decT (b + (j + 1))) = false := by
          rw [beq_eq_false_iff_ne]; intro e; have := decT_inj e; omega
        rw [show ((decT b, v).1 == decT (b + (j + 1))) = false from hne]
        have := ih (b + 1) j (by simpa using hj)
        rw [show b + 1 + j = b + (j + 1) by omega] at this
        simpa using this
  have := this l.toL 0 k h
  rwa [Nat.zero_add] at this
theorem chK_le {n : Nat} {p : List UInt8} {a b : JV} (ha : okV a) (hb : okV b) (ta : twV a = false) (tb : twV b = false) (hc : comp a b = true) {key : List UInt8} (hk : key ∈ keys2 a b) : (chK n p a b key).length ≤ cw a b key := by
  unfold chK cw
  cases hu : findK (kidsV a) key with
  | none =>
    cases hv : findK (kidsV b) key with
    | none =>
      rcases keys2_in hc hk with h | h
      · exact absurd h (findK_none.1 hu)
      · exact absurd h (findK_none.1 hv)
    | some v => have := dep_cnt v; simp [cntO]; omega
  | some u =>
    have hcu := dep_cnt u
    cases hv : findK (kidsV b) key with
    | none => simp [cntO]; omega
    | some v =>
      obtain ⟨o1, o2, _, _⟩ := kids_ok ha ta (findK_mem hu)
      obtain ⟨o3, o4, _, _⟩ := kids_ok hb tb (findK_mem hv)
      have := chF_len n (ptrN p key) u v o1 o3 o2 o4
      simp only [cntO]; omega
theorem chK_room {n : Nat} {p : List UInt8} {a b : JV} (ha : okV a) (hb : okV b) (ta : twV a = false) (tb : twV b = false) (hc : comp a b = true) (k : Nat) (hk : k < (keys2 a b).length) : (((keys2 a b).take k).flatMap (chK n p a b)).length + cw a b (keys2 a b)[k] ≤ cntV a + cntV b := by
  have h1 := flat_le (chK n p a b) (cw a b) ((keys2 a b).take k) (fun key h => chK_le ha hb ta tb hc (List.mem_of_mem_take h))
  have e : ((keys2 a b).map (cw a b)).sum = ((keys2 a b).map fun k => cntO (findK (kidsV a) k)).sum + ((keys2 a b).map fun k => cntO (findK (kidsV b) k)).sum := sum_two _ _ _
  have s1 := sum_find (kidsV a) _ (keys2_nodup (a := a) (b := b) ta)
  have s2 := sum_find (kidsV b) _ (keys2_nodup (a := a) (b := b) ta)
  have k1 := kids_cnt a
  have k2 := kids_cnt b
  have e2 : (((keys2 a b).take (k + 1)).map (cw a b)).sum ≤ ((keys2 a b).map (cw a b)).sum := by
    have e3 : keys2 a b = (keys2 a b).take (k + 1) ++ (keys2 a b).drop (k + 1) := (List.take_append_drop _ _).symm
    conv => rhs; rw [e3]
    rw [List.map_append, List.sum_append]; omega
  rw [List.take_succ_eq_append_getElem hk, List.map_append, List.sum_append] at e2
  simp only [List.map_cons, List.map_nil, List.sum_cons, List.sum_nil] at e2
  omega
/-- What a part asks of memory and size. -/
theorem part_good {n : Nat} {p : List UInt8} {a : JV} {key : List UInt8} {u : JV} (ha : okV a) (ta : twV a = false) (da : depV a ≤ n + 1) (la : (ct a).length ≤ 1000000) (lp : p.length + 2 * (ct a).length ≤ 4000000) (h : findK (kidsV a) key = some u) : GoodO n (ptrN p key) (some u) ∧ cntV u + 1 ≤ cntV a ∧ (ptrN p key).length ≤ 4000000 ∧ key.length ≤ 1000000 := by
  obtain ⟨o1, o2, o3, o4⟩ := kids_ok ha ta (findK_mem h)
  simp only at o1 o2 o3 o4
  have e1 := ptrN_len p key
  have e2 := kids_cnt a
  have e3 : cntV u ≤ _ := sum_kidE (findK_mem h)
  exact ⟨⟨o1, o2, by omega, by omega, by omega⟩, by omega, by omega, by omega⟩

set_option maxRecDepth 100000 in
set_option maxHeartbeats 8000000 in
theorem items_walk (n : Nat) (hA : AC n) (a b : JV) (k5 : kd a = 5) (hc : comp a b = true) (oka : okV a) (okb : okV b) (twa : twV a = false) (twb : twV b = false) (da : depV a ≤ n + 1) (db : depV b ≤ n + 1) (la : (ct a).length ≤ 1000000) (lb : (ct b).length ≤ 1000000) : HC 171 n a b := by
  intro p ys lv t1 t2 ad1 ad2 w B S1 S2 lpa lpb hcn hr h1 h2 htw
  obtain ⟨l, rfl⟩ : ∃ l, a = .arr l := by cases a <;> first | exact ⟨_, rfl⟩ | (simp [kd] at k5)
  obtain ⟨m, rfl⟩ : ∃ m, b = .arr m := by cases b <;> first | exact ⟨_, rfl⟩ | (simp [comp] at hc)
  have hlen : l.toL.length = m.toL.length := by simpa [comp] using hc
  have h1' := h1
  have h2' := h2
  rw [Rep] at h1' h2'
  obtain ⟨ab, sv, xs, e1, s1, g1, r1, rl1⟩ := h1'
  obtain ⟨ab2, sv2, xs2, e2, s2, g2, r2, rl2⟩ := h2'
  injection e1 with _ e1; injection e1 with e1; injection e1 with e1; subst e1
  injection e2 with _ e2; injection e2 with e2; injection e2 with e2; subst e2
  obtain ⟨x1, gr1, c1, rfl, hadr1, hcell1⟩ := row_shape r1
  obtain ⟨x2, gr2, c2, rfl, hadr2, hcell2⟩ := row_shape r2
  obtain ⟨n1, rep1⟩ := repL_at l xs rl1
  obtain ⟨n2, rep2⟩ := repL_at m xs2 rl2
  have hBs := htw.size
  have hxn : xs.length ≤ 1000000 := by
    have h3 := kids_cnt (.arr l)
    have h4 : (kidsV (.arr l)).length ≤ ((kidsV (.arr l)).map fun q => cntV q.2).sum := by
      have : ∀ l : List (List UInt8 × JV), l.length ≤ (l.map fun q => cntV q.2).sum := by
        intro l
        induction l with
        | nil => simp
        | cons q r ih => have h3 := (dep_cnt q.2); rw [List.map_cons, List.sum_cons, List.length_cons]; omega
      exact this _
    have h5 : (kidsV (.arr l)).length = l.toL.length := by show (idxJ 0 l.toL).length = _; rw [idxJ_len]
    omega
  have C1 : Hid (∀ X : World, Below B w X → X.cell? ⟨ab, 0, none⟩ = some (.slice x1 xs.length c1)) := fun X hX => by
    rw [hX.cell (p := ⟨ab, 0, none⟩) (htw.lt1 _ s1), Lib.cell_of_heap g1]; rfl
  have C2 : Hid (∀ X : World, Below B w X → X.cell? ⟨ab2, 0, none⟩ = some (.slice x2 xs2.length c2)) := fun X hX => by
    rw [hX.cell (p := ⟨ab2, 0, none⟩) (htw.lt2 _ s2), Lib.cell_of_heap g2]; rfl
  have HX : Hid (∀ k (hk : k < xs.length) (hk2 : k < xs2.length), ∃ t q t' q', (x1 = some ⟨gr1, 0, none⟩ ∧ x2 = some ⟨gr2, 0, none⟩) ∧ (∀ X : World, Below B w X → X.cell? ⟨gr1, k, none⟩ = some (.iface t q)) ∧ (∀ X : World, Below B w X → X.cell? ⟨gr2, k, none⟩ = some (.iface t' q')) ∧ (ptrN p (decT k)).length ≤ 4000000 ∧ (decT k).length ≤ 1000000 ∧
      ∀ (wr : World) (u : Value) (zs : List Chg), CF B w wr → CgR wr B u (ys ++ zs) → ZM zs (((keys2 (.arr l) (.arr m)).take k).flatMap (chK n p (.arr l) (.arr m))) → Calls Tryz.prog 148 #[u, .agg #[.string (strOf (ptrN p (decT k))), .iface t q, .iface t' q']] wr fun e w' => ∃ (r : Value) (zs' : List Chg), e = .returned r ∧ CgR w' B r (ys ++ zs') ∧ ZM zs' (((keys2 (.arr l) (.arr m)).take (k + 1)).flatMap (chK n p (.arr l) (.arr m))) ∧ CF B wr w') := fun k hk hk2 => by
    obtain ⟨t, q, he⟩ := rep_iface (rep1 k hk (by omega))
    obtain ⟨t', q', he'⟩ := rep_iface (rep2 k hk2 (by omega))
    have f1 := findK_idx l k (by omega)
    have f2 := findK_idx m k (by omega)
    obtain ⟨ga, ca, pa, ka⟩ := part_good oka twa da la lpa f1
    obtain ⟨gb, cb, pb, kb⟩ := part_good okb twb db lb lpb f2
    refine ⟨t, q, t', q', ⟨(hadr1 (by omega)).1, (hadr2 (by omega)).1⟩, fun X hX => ?_, fun X hX => ?_, pa, ka, fun wr u zs f hu hz => ?_⟩
    · rw [← he]; exact (hX.cell (p := ⟨gr1, k, none⟩) (htw.lt1 _ (hadr1 (by omega)).2)).trans (hcell1 k hk)
    · rw [← he']; exact (hX.cell (p := ⟨gr2, k, none⟩) (htw.lt2 _ (hadr2 (by omega)).2)).trans (hcell2 k hk2)
    · have hkl : k < (keys2 (.arr l) (.arr m)).length := by show k < ((idxJ 0 l.toL).map (·.1)).length; rw [List.length_map, idxJ_len]; omega
      have hke : (keys2 (.arr l) (.arr m))[k] = decT k := by
        have e : (keys2 (.arr l) (.arr m))[k]? = some (decT k) := by
          show ((idxJ 0 l.toL).map (·.1))[k]? = _
          rw [List.getElem?_map, List.getElem?_eq_getElem (by rw [idxJ_len]; omega), idxJ_at, Nat.zero_add]; rfl
        rw [List.getElem?_eq_getElem hkl] at e
        injection e
      have hroom := chK_room (n := n) (p := p) oka okb twa twb hc k hkl
      rw [hke] at hroom
      unfold cw at hroom
      rw [f1, f2] at hroom
      simp only [cntO] at hroom
      have hzl : zs.length = (((keys2 (.arr l) (.arr m)).take k).flatMap (chK n p (.arr l) (.arr m))).length := by
        have := congrArg List.length hz.1
        rwa [List.length_map] at this
      refine (hA (some l.toL[k]) (some m.toL[k]) (ptrN p (decT k)) (ys ++ zs) u _ _ wr B S1 S2 ga gb (.inl (by simp)) pa (by simp only [cntO, List.length_append]; omega) hu (by rw [← he]; exact Rep.keep (fun j hj => f.1.block j (htw.lt1 j hj)) (fun _ h => h) _ _ (rep1 k hk (by omega))) (by rw [← he']; exact Rep.keep (fun j hj => f.1.block j (htw.lt2 j hj)) (fun _ h => h) _ _ (rep2 k hk2 (by omega))) (htw.next f.1)).mono ?_
      rintro e w' ⟨r, zs', rfl, o, z, c⟩
      refine ⟨r, zs ++ zs', rfl, by rw [← List.append_assoc]; exact o, ?_, c⟩
      have h9 := zm_app hz z
      rwa [show chO n (ptrN p (decT k)) (some l.toL[k]) (some m.toL[k]) = chK n p (.arr l) (.arr m) (decT k) by rw [chK_O, f1, f2], ← hke, ← flat_take _ _ k hkl] at h9
  have HEND : Hid (∀ zs : List Chg, ZM zs (((keys2 (.arr l) (.arr m)).take xs.length).flatMap (chK n p (.arr l) (.arr m))) → ZM zs ((keys2 (.arr l) (.arr m)).flatMap (chK n p (.arr l) (.arr m)))) := fun zs h => by
    refine ⟨?_, h.2⟩
    rw [h.1, List.take_of_length_le]
    show ((idxJ 0 l.toL).map (·.1)).length ≤ _
    rw [List.length_map, idxJ_len]; omega
  have hxe : xs.length = xs2.length := by omega
  have HXE := hide hxe
  have HPW := hide htw.pow
  have hpl : p.length ≤ 4000000 := by omega
  clear rep1 rep2 hcell1 hcell2 hadr1 hadr2 rl1 rl2 r1 r2 g1 g2 h1 h2 htw s1 s2 hA hc k5 oka okb twa twb da db la lb lpa lpb hcn n1 n2 hlen hxe
  have O0 : Hid (CgR w B lv (ys ++ [])) := by rw [List.append_nil]; exact hr
  have y1 := unhide C1 w (Below.refl _ _)
  generalize keys2 (.arr l) (.arr m) = keys at *
  generalize chK n p (.arr l) (.arr m) = C at *
  go_enter Tryz.func171, Tryz.ntmps171
  go_wp2_with fail
  go_loopw [0, 16] (fun u i wr => ∃ (k : Nat) (zs : List Chg), k ≤ xs.length ∧ i = .int .i64 (k : Int) ∧ CgR wr B u (ys ++ zs) ∧ ZM zs ((keys.take k).flatMap C) ∧ CF B w wr) (fun _ i _ => xs.length - (intOf i).toNat)
  case atStart => exact ⟨0, [], Nat.zero_le _, rfl, unhide O0, zm0 (by simp), CF.refl _ _⟩
  case round =>
    obtain ⟨k, zs, hk, rfl, ho, hz, hf⟩ := hrel
    clear O0 y1
    by_cases hlt : k < xs.length
    · have hltI : (k : Int) < (xs.length : Int) := by omega
      have hlt2 : k < xs2.length := by have := unhide HXE; omega
      have hltI2 : (k : Int) < (xs2.length : Int) := by omega
      obtain ⟨t, q, t', q', ⟨rfl, rfl⟩, hc1, hc2, l1, l2, hcall⟩ := unhide HX k hlt hlt2
      have HC2X : Hid (∀ X : World, Below B w X → X.cell? ⟨gr2, k, none⟩ = some (.iface t' q')) := hc2
      have y1 := hc1 wr hf.1
      have d2 := unhide C2 wr hf.1
      have e2 := hc2 wr hf.1
      have HCALL := hide hcall
      have HO := hide ho
      have HZ := hide hz
      have HF := hide hf
      have hwB : B ≤ wr.heap.size := by have := hf.1.size; omega
      have HIT := hide (itoa_at k wr.drew (by omega) ((((unhide HPW).next hf.1 (Nat.le_refl _)).more hwB)))
      have hcat : strOf p ++ strOf (47 :: esc (decT k)) = strOf (ptrN p (decT k)) := strOf_app _ _
      have hzz : (9223372036854775807 < (strOf p).size + (strOf (47 :: esc (decT k))).size) = False := eq_false (by
        rw [strOf_size, strOf_size]
        have := esc_le (decT k)
        simp only [List.length_cons]; omega)
      have HT : Hid (∀ (w : World) (g : Nat), w.cell? ⟨g, 0, none⟩ = some (.string (strOf (decT k))) → Calls Tryz.prog 92 #[.slice (some ⟨g, 0, none⟩) 1 1] w fun e w' => e = .returned (.string (strOf (47 :: esc (decT k)))) ∧ Below w.heap.size w w') := fun w g c => one_textI (decT k) w l2 g c
      clear hcall ho hz hf hc1 hc2 HX HEND
      generalize strOf (ptrN p (decT k)) = np at *
      generalize strOf (47 :: esc (decT k)) = tk at *
      generalize strOf (decT k) = key at *
      go_wp2_with fail
      go_region_law (first
          | (have hb6 := b6'; go_simp; refine (unhide HCALL _ u0 zs F6 O6 (unhide HZ)).mono ?_; rintro e w7 ⟨r7, zs7, rfl, o7, z7, f7⟩)
          | (have hb4 := b4; go_simp; refine (unhide HTA).mono ?_; rintro e w6 ⟨rfl, b6⟩
             have b6' := below_next bA b6
             have F6 : CF B w w6 := (unhide HF).trans (CF.of_below b6' hwB)
             have O6 : CgR w6 B u0 (ys ++ zs) := own_below (unhide HO) b6'
             have m2 := unhide C2 w6 F6.1
             have n2 := unhide HC2X w6 F6.1)
          | (go_simp; refine (unhide HIT).mono ?_; rintro e w4 ⟨rfl, b4⟩
             have b4' : Below wr.heap.size wr w4 := below_next ((Below.refl _ _).drew) b4
             have bA : Below wr.heap.size wr (w4.alloc (.cells #[.string key] 9)) := b4'.alloc b4'.size _
             have F4 : CF B w w4 := (unhide HF).trans (CF.of_below b4' hwB)
             have FA : CF B w (w4.alloc (.cells #[.string key] 9)) := (unhide HF).trans (CF.of_below bA hwB)
             have p2 := unhide C2 w4 F4.1
             have r2 := unhide HC2X w4 F4.1
             have pA := unhide C2 _ FA.1
             have rA := unhide HC2X _ FA.1
             have aT : (w4.alloc (.cells #[.string key] 9)).cell? ⟨w4.heap.size, 0, none⟩ = some (.string key) := lit1 w4 9 (.string key) 0 _ rfl
             have HTA := hide (unhide HT _ _ aT)))
      all_goals
        have O7 := hide o7
        have Z7 := hide z7
        have F7 := hide (F6.trans f7)
        clear o7 z7 f7 O6 F6 m2 n2 p2 r2 pA rA F4 FA bA b4 b4' b6 b6' aT HTA HCALL HIT HT HO HZ HF HC2X y1 d2 e2
        go_wp2
        go_roundw
      all_goals first
        | exact ⟨k + 1, zs7, by omega, by go_num, unhide O7, unhide Z7, unhide F7⟩
        | (simp [intOf]; omega)
    · have hk' : k = xs.length := by omega
      subst hk'
      have HZ := hide (unhide HEND zs hz)
      have HO := hide ho
      have HF := hide hf
      clear ho hz hf HX HEND
      go_wp2
      go_ret
      exact ⟨_, zs, rfl, unhide HO, unhide HZ, unhide HF⟩
end Go.Proofs.YtcjajchfjoffnaaGreatDoor
