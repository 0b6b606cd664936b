import Derived.Deep.RegionHeld3
import Derived.Test.YtocnekbedcnmgaaGreatDoorBf23
import Derived.Test.YtocnekbedcnmgaaGreatDoorBf26
import Derived.Test.YtocnekbedcnmgaaGreatDoorBf27
import Derived.Test.YtocnekbedcnmgaaGreatDoorBf3
namespace Go.Proofs.YtocnekbedcnmgaaGreatDoor
open Go.RowKit

theorem CF.sorted {B : Nat} {w w' : World} {v : Value} {B' n : Nat} {xs : List Value} (h : w.ownsRow B' 9 1 v n xs) (hg : w.grownBy w' v.ownBlock) (hB : B ≤ B') (hz : B ≤ w.heap.size) : Below B w w' :=
  (Below.refl B w).grown hg hz (fun k hk => Nat.le_trans hB (h.lt k hk).1)
/-- The two lists of keys, sorted and each once, are those of both. -/
theorem keys_both (l m : JM) : Lib.compact (sortT ((kidsV (.obj l)).map (·.1) ++ (kidsV (.obj m)).map (·.1))) = keys2 (.obj l) (.obj m) := sort_once _
theorem repO_form {w : World} {S : Nat → Prop} {o : Option JV} {v : Value} (h : RepO w S o v) : v = .nilIface ∨ ∃ t q, v = .iface t q := by
  cases o with
  | none => exact .inl h
  | some a => obtain ⟨t, q, e⟩ := rep_iface (show Rep w S a v from h); exact .inr ⟨t, q, e⟩
set_option maxRecDepth 100000 in
set_option maxHeartbeats 8000000 in
theorem members_walk (n : Nat) (hA : AC n) (a b : JV) (k6 : kd a = 6) (hc : comp a b = true) (oka : okV a) (okb : okV b) (twa : twV a = false) (twb : twV b = false) (da : depV a ≤ n + 1) (db : depV b ≤ n + 1) (la : (ct a).length ≤ 1000000) (lb : (ct b).length ≤ 1000000) : HC 179 n a b := by
  intro P p ys lv t1 t2 ad1 ad2 w B S1 S2 lpa lpb hcn hr h1 h2 htw hpw
  obtain ⟨l, rfl⟩ : ∃ l, a = .obj l := by cases a <;> first | exact ⟨_, rfl⟩ | (simp [kd] at k6)
  obtain ⟨m, rfl⟩ : ∃ m, b = .obj m := by cases b <;> first | exact ⟨_, rfl⟩ | (simp [comp] at hc)
  obtain ⟨ob1, mb1, rfl, C1, K1, L1⟩ := obj_at h1 twa la htw.lt1
  obtain ⟨ob2, mb2, rfl, C2, K2, L2⟩ := obj_at h2 twb lb htw.lt2
  have hBs := htw.size
  have HKB := hide (keys_both l m)
  have hkn : ∀ (j : JM), (ct (.obj j)).length ≤ 1000000 → ((kidsV (.obj j)).map (·.1)).length ≤ 1000000 := fun j hj => by
    have h3 := ctObj_len j
    have h2 : j.toL.length ≤ (j.toL.map memN).sum := by
      have : ∀ l : List (List UInt8 × JV), l.length ≤ (l.map memN).sum := by
        intro l
        induction l with
        | nil => simp
        | cons q r ih => have h3 : 1 ≤ memN q := (by unfold memN; omega); rw [List.map_cons, List.sum_cons, List.length_cons]; omega
      exact this _
    show ((isortJ j.toL).map (·.1)).length ≤ _
    rw [List.length_map, (isortJ_perm _).length_eq]
    unfold hold at h3
    omega
  have n1 := hkn l la
  have n2 := hkn m lb
  have HX : Hid (∀ k (hk : k < (keys2 (.obj l) (.obj m)).length), ∃ x1 x2, (x1 = .nilIface ∨ ∃ t q, x1 = .iface t q) ∧ (x2 = .nilIface ∨ ∃ t q, x2 = .iface t q) ∧
      (∀ X : World, Below B w X → (Instr.lookup 180 (.map (some mb1)) (.string (strOf (keys2 (.obj l) (.obj m))[k])) false).run Tryz.prog X = .ok x1 X) ∧ (∀ X : World, Below B w X → (Instr.lookup 180 (.map (some mb2)) (.string (strOf (keys2 (.obj l) (.obj m))[k])) false).run Tryz.prog X = .ok x2 X) ∧
      (ptrN p (keys2 (.obj l) (.obj m))[k]).length ≤ 4000000 ∧ (keys2 (.obj l) (.obj m))[k].length ≤ 1000000 ∧
      ∀ (wr : World) (u : Value) (zs : List Chg), CF B w wr → CgR wr B u (ys ++ zs) → ZM P zs (((keys2 (.obj l) (.obj m)).take k).flatMap (chK n p (.obj l) (.obj m))) → Calls Tryz.prog 138 #[u, .agg #[.string (strOf (ptrN p (keys2 (.obj l) (.obj m))[k])), x1, x2]] wr fun e w' => ∃ (r : Value) (zs' : List Chg), e = .returned r ∧ CgR w' B r (ys ++ zs') ∧ ZM P zs' (((keys2 (.obj l) (.obj m)).take (k + 1)).flatMap (chK n p (.obj l) (.obj m))) ∧ CF B wr w') := fun k hk => by
    have hin := keys2_in hc (List.getElem_mem hk)
    have hroom := chK_room (n := n) (p := p) oka okb twa twb hc k hk
    have hflat := flat_take (chK n p (.obj l) (.obj m)) (keys2 (.obj l) (.obj m)) k hk
    generalize (keys2 (.obj l) (.obj m))[k] = key at *
    unfold cw at hroom
    have hnn : findK (kidsV (.obj l)) key ≠ none ∨ findK (kidsV (.obj m)) key ≠ none := by
      rcases hin with h | h
      · exact .inl fun e => findK_none.1 e h
      · exact .inr fun e => findK_none.1 e h
    have ga : GoodO n (ptrN p key) (findK (kidsV (.obj l)) key) := by
      cases hf : findK (kidsV (.obj l)) key with
      | none => exact trivial
      | some u => exact (part_good oka twa da la lpa hf).1
    have gb : GoodO n (ptrN p key) (findK (kidsV (.obj m)) key) := by
      cases hf : findK (kidsV (.obj m)) key with
      | none => exact trivial
      | some u => exact (part_good okb twb db lb lpb hf).1
    have hlen : (ptrN p key).length ≤ 4000000 ∧ key.length ≤ 1000000 := by
      rcases hnn with h | h
      · obtain ⟨u, hu⟩ := Option.ne_none_iff_exists'.1 h
        exact (part_good oka twa da la lpa hu).2.2
      · obtain ⟨u, hu⟩ := Option.ne_none_iff_exists'.1 h
        exact (part_good okb twb db lb lpb hu).2.2
    obtain ⟨x1, lk1, r1⟩ := L1 key hlen.2
    obtain ⟨x2, lk2, r2⟩ := L2 key hlen.2
    refine ⟨x1, x2, repO_form r1, repO_form r2, lk1, lk2, hlen.1, hlen.2, fun wr u zs f hu hz => ?_⟩
    have hzl : zs.length = (((keys2 (.obj l) (.obj m)).take k).flatMap (chK n p (.obj l) (.obj m))).length := by
      have := congrArg List.length hz.1
      rwa [List.length_map] at this
    refine (hA P _ _ (ptrN p key) (ys ++ zs) u x1 x2 wr B S1 S2 ga gb hnn hlen.1 (by rw [List.length_append]; omega) hu (r1.keep (fun j hj => f.1.block j (htw.lt1 j hj)) (fun _ h => h)) (r2.keep (fun j hj => f.1.block j (htw.lt2 j hj)) (fun _ h => h)) (htw.next f.1) ((hpw.kid twa twb (by omega) (by omega) key).back (fun j hj => f.1.block j (htw.lt1 j hj)) (fun j hj => f.1.block j (htw.lt2 j hj)))).mono ?_
    rintro e w' ⟨r, zs', rfl, o, z, c⟩
    refine ⟨r, zs ++ zs', rfl, by rw [← List.append_assoc]; exact o, ?_, c⟩
    have h9 := zm_app hz z
    rw [hflat, chK_O]
    exact h9
  have HEND : Hid (∀ zs : List Chg, ZM P zs (((keys2 (.obj l) (.obj m)).take (keys2 (.obj l) (.obj m)).length).flatMap (chK n p (.obj l) (.obj m))) → ZM P zs ((keys2 (.obj l) (.obj m)).flatMap (chK n p (.obj l) (.obj m)))) := fun zs h => by
    rw [List.take_length] at h
    exact h
  have HC1 := hide C1
  have HC2 := hide C2
  have HK1 := hide (K1 w (Below.refl _ _))
  have HK2 := hide K2
  have O0 : Hid (CgR w B lv (ys ++ [])) := by rw [List.append_nil]; exact hr
  have hpl : p.length ≤ 4000000 := by omega
  have hkl : (keys2 (.obj l) (.obj m)).length ≤ 2000000 := by
    have h3 := onceL_len _ ((kidsV (.obj l)).map (·.1) ++ (kidsV (.obj m)).map (·.1)) rfl
    rw [List.length_append] at h3
    show (onceL _).length ≤ _
    omega
  have hks : ((kidsV (.obj l)).map (·.1)).length + ((kidsV (.obj m)).map (·.1)).length ≤ 1000000 := by
    have s1 := kids_cnt (.obj l)
    have s2 := kids_cnt (.obj m)
    have s3 : ∀ l : List (List UInt8 × JV), l.length ≤ (l.map fun q => cntV q.2).sum := by
      intro l
      induction l with
      | nil => simp
      | cons q r ih => have h3 := (dep_cnt q.2); rw [List.map_cons, List.sum_cons, List.length_cons]; omega
    have s4 := s3 (kidsV (.obj l))
    have s5 := s3 (kidsV (.obj m))
    rw [List.length_map, List.length_map]
    omega
  clear C1 C2 K1 K2 L1 L2 h1 h2 htw hA hc k6 oka okb twa twb da db la lb lpa lpb hcn hr hkn n1 n2 hpw
  generalize chK n p (.obj l) (.obj m) = C at *
  generalize keys2 (.obj l) (.obj m) = keys at *
  generalize (kidsV (.obj l)).map (·.1) = ks1 at *
  generalize (kidsV (.obj m)).map (·.1) = ks2 at *
  go_enter Tryz.func179, Tryz.ntmps179
  go_wp2_with fail
  refine (unhide HK1).mono ?_
  rintro e w1 ⟨v1, rfl, o1, b1⟩
  have HK2' := hide (unhide HK2 w1 (b1.mono hBs))
  have HO1 := hide o1
  have HB1 := hide b1
  clear HK1 HK2 o1 b1
  go_wp2_with fail
  refine (unhide HK2').mono ?_
  rintro e w2 ⟨v2, rfl, o2, b2⟩
  have o12 := own_below (unhide HO1) b2
  obtain ⟨a1, -, c1, rfl, -, -⟩ := OT.shape o12
  obtain ⟨a2, -, c2, rfl, -, -⟩ := OT.shape o2
  have hA3 := alloc_below w2 (.cells #[.slice a1 ks1.length c1, .slice a2 ks2.length c2] 43)
  have k3 := heap_alloc_new w2 (.cells #[.slice a1 ks1.length c1, .slice a2 ks2.length c2] 43)
  have HCAT := hide (concat_walk w2.heap.size _ _ ks1 ks2 _ (Lib.cell_of_heap k3 0) (Lib.cell_of_heap k3 1) (own_below o12 hA3) (own_below o2 hA3) hks)
  have HB3 := hide (below_next (below_next (unhide HB1) b2) hA3)
  clear HK2' HO1 HB1 b2 o2 o12 hA3 k3
  go_wp2_with fail
  generalize (w2.alloc (.cells #[.slice a1 ks1.length c1, .slice a2 ks2.length c2] 43)) = w3 at *
  refine (unhide HCAT).mono ?_
  rintro e w4 ⟨r4, rfl, o4, b4⟩
  have HS := hide (sortT_walk r4 _ w4 o4 (by rw [List.length_append]; exact hks))
  have HO4 := hide o4
  have HB4 := hide (below_next (unhide HB3) b4)
  have hz3 := (unhide HB3).size
  have hz4 := b4.size
  clear HCAT o4 b4
  go_wp2_with fail
  refine (unhide HS).mono ?_
  rintro e w5 ⟨rfl, o5, g5⟩
  have HB5 := hide ((unhide HB4).grown g5 (by omega) (fun b hb => by have := ((unhide HO4).lt b hb).1; omega))
  have HCP := hide (compactT_walk r4 _ w5 o5 (by rw [sortT_len, List.length_append]; exact hks))
  rw [unhide HKB] at HCP
  have HO5 := hide o5
  have hz5 := g5.size
  clear HS o5 g5 HKB
  go_wp2_with fail
  refine (unhide HCP).mono ?_
  rintro e w6 ⟨r6, rfl, o6, g6⟩
  have HF6 := hide (CF.of_below ((unhide HB5).grown g6 (by omega) (fun b hb => by have := ((unhide HO5).lt b hb).1; omega)) hBs)
  have HO6 := hide o6
  have O6' : Hid (CgR w6 B lv (ys ++ [])) := own_below (unhide O0) ((unhide HB5).grown g6 (by omega) (fun b hb => by have := ((unhide HO5).lt b hb).1; omega))
  obtain ⟨a6, -, c6, rfl, -, -⟩ := OT.shape o6
  have HCELL : Hid (∀ (X : World), OT X w3.heap.size (.slice a6 keys.length c6) keys → ∀ j (hj : j < keys.length), ∃ g, a6 = some ⟨g, 0, none⟩ ∧ X.cell? ⟨g, j, none⟩ = some (.string (strOf keys[j]))) := fun X h j hj => by
    rcases h.2 with ⟨hv, h0⟩ | ⟨g, cap, cur, hv, _⟩
    · omega
    · injection hv with hv1 hv2 hv3
      subst hv1
      refine ⟨g, rfl, ?_⟩
      rw [h.cellAt j (by omega)]
      simp [hj]
      rfl
  clear HCP o6 g6 HO5 HO4 HB5 HB4 HB3 hz5 hz4 hks
  go_wp2
  go_loopw [0, 23] (fun u i wr => ∃ (k : Nat) (zs : List Chg), k ≤ keys.length ∧ i = .int .i64 (k : Int) ∧ CgR wr B u (ys ++ zs) ∧ ZM P zs ((keys.take k).flatMap C) ∧ CF B w wr ∧ OT wr w3.heap.size (.slice a6 keys.length c6) keys) (fun _ i _ => keys.length - (intOf i).toNat)
  case atStart => exact ⟨0, [], Nat.zero_le _, rfl, unhide O6', zm0 (by simp), unhide HF6, unhide HO6⟩
  case round =>
    obtain ⟨k, zs, hk, rfl, ho, hz, hf, hkr⟩ := hrel
    clear O0 O6' HF6 HO6
    by_cases hlt : k < keys.length
    · have hltI : (k : Int) < (keys.length : Int) := by omega
      obtain ⟨x1, x2, f1, f2, lk1, lk2, l1, l2, hcall⟩ := unhide HX k hlt
      obtain ⟨g, rfl, y1⟩ := unhide HCELL wr hkr k hlt
      have d1 := unhide HC1 wr hf.1
      have d2 := unhide HC2 wr hf.1
      have hwB : B ≤ wr.heap.size := by have := hf.1.size; omega
      have HLK1 := hide lk1
      have HLK2 := hide lk2
      have HCALL := hide hcall
      have HO := hide ho
      have HZ := hide hz
      have HF := hide hf
      have HKR := hide hkr
      have hcat : strOf p ++ strOf (47 :: esc keys[k]) = strOf (ptrN p keys[k]) := strOf_app _ _
      have hzz : (9223372036854775807 < (strOf p).size + (strOf (47 :: esc keys[k])).size) = False := eq_false (by
        rw [strOf_size, strOf_size]
        have := esc_le keys[k]
        simp only [List.length_cons]; omega)
      have HT : Hid (∀ (w : World) (g : Nat), w.cell? ⟨g, 0, none⟩ = some (.string (strOf keys[k])) → Calls Tryz.prog 116 #[.slice (some ⟨g, 0, none⟩) 1 1] w fun e w' => e = .returned (.string (strOf (47 :: esc keys[k]))) ∧ Below w.heap.size w w') := fun w g c => one_textI keys[k] w l2 g c
      clear hcall ho hz hf hkr lk1 lk2 HX HEND HCELL
      generalize strOf (ptrN p keys[k]) = np at *
      generalize strOf (47 :: esc keys[k]) = tk at *
      generalize strOf keys[k] = key at *
      have bD : Below wr.heap.size wr wr.drew := (Below.refl _ _).drew
      have bA : Below wr.heap.size wr ((wr.alloc (.cells #[.string key] 9)).drew) := ((Below.refl _ _).alloc (Nat.le_refl _) _).drew
      have FD : CF B w wr.drew := (unhide HF).trans (CF.of_below bD hwB)
      have FA : CF B w ((wr.alloc (.cells #[.string key] 9)).drew) := (unhide HF).trans (CF.of_below bA hwB)
      have aT : ((wr.alloc (.cells #[.string key] 9)).drew).cell? ⟨wr.heap.size, 0, none⟩ = some (.string key) := lit1 wr 9 (.string key) 0 _ rfl
      have HTA := hide (unhide HT _ _ aT)
      have hx1 : x1.cells = #[x1] := by rcases f1 with rfl | ⟨t, q, rfl⟩ <;> rfl
      have hx2 : x2.cells = #[x2] := by rcases f2 with rfl | ⟨t, q, rfl⟩ <;> rfl
      unfold Value.cells at hx1 hx2
      clear f1 f2
      have HSX : Hid (∀ X : World, Below B w X → X.cell? ⟨ob1, 0, none⟩ = some (.map (some mb1)) ∧ X.cell? ⟨ob2, 0, none⟩ = some (.map (some mb2)) ∧ (Instr.lookup 180 (.map (some mb1)) (.string key) false).run Tryz.prog X = .ok x1 X ∧ (Instr.lookup 180 (.map (some mb2)) (.string key) false).run Tryz.prog X = .ok x2 X) := fun X hX => ⟨unhide HC1 X hX, unhide HC2 X hX, unhide HLK1 X hX, unhide HLK2 X hX⟩
      have SD := hide (unhide HSX _ FD.1)
      have SA := hide (unhide HSX _ FA.1)
      clear FD FA aT d1 d2 bD
      go_wp2_with fail
      go_region_held3 (fun w' => w'.cell? ⟨ob1, 0, none⟩ = some (.map (some mb1)) ∧ w'.cell? ⟨ob2, 0, none⟩ = some (.map (some mb2)) ∧ (Instr.lookup 180 (.map (some mb1)) (.string key) false).run Tryz.prog w' = .ok x1 w' ∧ (Instr.lookup 180 (.map (some mb2)) (.string key) false).run Tryz.prog w' = .ok x2 w')
        (first | exact unhide S7 | exact unhide S6 | exact unhide SA | exact unhide SD)
        (first
          | (have hb6 := b6'; go_simp; refine (unhide HCALL _ u0 zs F6 O6 (unhide HZ)).mono ?_; rintro e w7 ⟨r7, zs7, rfl, o7, z7, f7⟩
             have S7 := hide (unhide HSX w7 (F6.trans f7).1))
          | (go_simp; refine (unhide HTA).mono ?_; rintro e w6 ⟨rfl, b6⟩
             have b6' : Below wr.heap.size wr w6 := below_next bA b6
             have F6 : CF B w w6 := (unhide HF).trans (CF.of_below b6' hwB)
             have O6 : CgR w6 B u0 (ys ++ zs) := own_below (unhide HO) b6'
             have S6 := hide (unhide HSX w6 F6.1)))
      all_goals
        have O7 := hide o7
        have Z7 := hide z7
        have F7 := hide (F6.trans f7)
        have R7 := hide (OT.cf (unhide HKR) ((CF.of_below b6' hwB).trans f7))
        clear hx1 hx2 o7 z7 f7 O6 F6 b6 b6' bA HTA HCALL HT HO HZ HF HLK1 HLK2 y1 HKR S6 S7 SA SD HSX
        go_wp2
        go_roundw
      all_goals first
        | exact ⟨k + 1, zs7, by omega, by go_num, unhide O7, unhide Z7, unhide F7, unhide R7⟩
        | (simp [intOf]; omega)
    · have hk' : k = keys.length := by omega
      subst hk'
      have HZ := hide (unhide HEND zs hz)
      have HO := hide ho
      have HF := hide hf
      clear ho hz hf hkr HX HEND HCELL
      go_wp2
      go_ret
      exact ⟨_, zs, rfl, unhide HO, unhide HZ, unhide HF⟩
end Go.Proofs.YtocnekbedcnmgaaGreatDoor

