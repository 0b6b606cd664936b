import Derived.Test.YtadefcohbkgbfabGreatDoorBn11
import Derived.Test.YtadefcohbkgbfabGreatDoorBn17
import Derived.Test.YtadefcohbkgbfabGreatDoorBn2
import Derived.Test.YtadefcohbkgbfabGreatDoorBn21
import Derived.Test.YtadefcohbkgbfabGreatDoorBn15
namespace Go.Proofs.YtadefcohbkgbfabGreatDoor
open Go.RowKit

/-- What the look for a key answers. -/
def FindP (ps : List Part) (key : List UInt8) (e : Ending) : Prop := (e = .returned (.int .i64 (-1)) ∧ ∀ j (hj : j < ps.length), ps[j].1 ≠ key) ∨ ∃ (j : Nat) (hj : j < ps.length), e = .returned (.int .i64 (j : Int)) ∧ ps[j].1 = key
theorem FindP.no {ps : List Part} {key : List UInt8} {e : Ending} (h : e = .returned (.int .i64 (-1))) (k : ∀ j (hj : j < ps.length), ps[j].1 ≠ key) : FindP ps key e := Or.inl ⟨h, k⟩
/-- What the look for a part answers. -/
def ChildP (v : JV) (t : List UInt8) (e : Ending) : Prop := (e = .returned (.int .i64 (-1)) ∧ childV v t = none) ∨ ∃ (j : Nat) (hj : j < (partsV v).length) (u : JV), e = .returned (.int .i64 (j : Int)) ∧ childV v t = some u ∧ (partsV v)[j].2 = ct u ∧ (partsV v)[j].1 = t
theorem ChildP.no {v : JV} {t : List UInt8} {e : Ending} (h : e = .returned (.int .i64 (-1))) (k : childV v t = none) : ChildP v t e := Or.inl ⟨h, k⟩
/-- The parts of a value. -/
theorem parts_ct (v : JV) (hok : okV v) (w : World) (hl : (ct v).length ≤ 1000000) :
    Calls Tryz.prog 61 #[.string (strOf (ct v))] w fun e w' => ∃ r, e = .returned r ∧ PR w' w.heap.size r (partsV v) ∧ Below w.heap.size w w' := by
  have leaf : ∀ (c : UInt8) (r : List UInt8), ct v = c :: r → c.toNat ≠ 91 → c.toNat ≠ 123 → partsV v = [] → Calls Tryz.prog 61 #[.string (strOf (ct v))] w fun e w' => ∃ r, e = .returned r ∧ PR w' w.heap.size r (partsV v) ∧ Below w.heap.size w w' := fun c r hc h1 h2 hp => by
    rw [hp, hc]
    obtain ⟨a, b⟩ := bt_first (c := c) (r := r)
    exact parts_leaf _ w a (by rw [b]; exact h1) (by rw [b]; exact h2)
  cases v with
  | arr l => rw [okV] at hok; exact parts_arr l hok w (by rw [strOf_size]; exact hl)
  | obj m => rw [okV] at hok; exact parts_obj m hok w (by rw [strOf_size]; exact hl)
  | nul => exact leaf 110 _ rfl (by decide) (by decide) rfl
  | tt => exact leaf 116 _ rfl (by decide) (by decide) rfl
  | ff => exact leaf 102 _ rfl (by decide) (by decide) rfl
  | num l =>
    have hp := num_plain hok
    cases l with
    | nil => exact absurd rfl hp.1
    | cons c r =>
      have := (hp.2 c List.mem_cons_self).1
      exact leaf c r rfl this.2.1 this.2.2.1 rfl
  | str l => exact leaf 34 (qs l ++ [34]) rfl (by decide) (by decide) rfl
end Go.Proofs.YtadefcohbkgbfabGreatDoor


namespace Go.Proofs.YtadefcohbkgbfabGreatDoor
open Go.RowKit

theorem infoHit : (Tryz.prog.info? 69).map (fun i => (i.zero, i.size, i.bytes)) = some (some (.agg #[.string ByteArray.empty, .string ByteArray.empty]), 2, 32) := by kernel_rfl
/-- A row of hits that the call owns. -/
def HR (w : World) (B : Nat) (v : Value) (hs : List Part) : Prop := w.ownsRow B 69 2 v hs.length (hs.flatMap partC)
theorem HR.below {w w' : World} {B : Nat} {v : Value} {hs : List Part} (h : HR w B v hs) (hb : Below w.heap.size w w') : HR w' B v hs := own_below h hb
theorem HR.cells {w : World} {B : Nat} {v : Value} {ps : List Part} (h : HR w B v ps) (j : Nat) (hj : j < ps.length) :
    ∃ g cap, v = .slice (some ⟨g, 0, none⟩) ps.length cap ∧ B ≤ g ∧ g < w.heap.size ∧ w.cell? ⟨g, j * 2, none⟩ = some (.string (strOf ps[j].1)) ∧ w.cell? ⟨g, j * 2 + 1, none⟩ = some (.string (strOf ps[j].2)) := by
  obtain ⟨hl, h0 | ⟨g, cap, cur, hv, hB, hg, hn, hc, hsz, ht⟩⟩ := h
  · omega
  · have hc0 := part_at ps j hj
    refine ⟨g, cap, hv, hB, (Array.getElem?_eq_some_iff.1 hg).1, ?_, ?_⟩
    · rw [Lib.cell_of_heap hg, ← Array.getElem?_toList, ← hc0.1, ← ht, List.getElem?_take_of_lt (by omega)]
    · rw [Lib.cell_of_heap hg, ← Array.getElem?_toList, ← hc0.2, ← ht, List.getElem?_take_of_lt (by omega)]
theorem partC_len (hs : List Part) : (hs.flatMap partC).length = hs.length * 2 := by
  induction hs with
  | nil => rfl
  | cons p r ih => rw [List.flatMap_cons, List.length_append, ih, List.length_cons]; simp [partC]; omega
theorem partC_one (hs : List Part) : ∀ u ∈ hs.flatMap partC, u.oneCell' = true := by
  intro u hu
  obtain ⟨p, _, hp⟩ := List.mem_flatMap.1 hu
  simp [partC] at hp
  rcases hp with rfl | rfl <;> rfl
theorem one_text (k : List UInt8) (w : World) (hk : k.length ≤ 1000000) (g : Nat) (c : w.cell? ⟨g, 0, none⟩ = some (.string (strOf k))) :
    Calls Tryz.prog 64 #[.slice (some ⟨g, 0, none⟩) 1 1] w fun e w' => e = .returned (.string (strOf (47 :: esc k))) ∧ Below w.heap.size w w' := by
  have h : SS w (some ⟨g, 0, none⟩) g 0 [strOf k] := ⟨fun _ => rfl, fun j hj => by
    have : j = 0 := by simp at hj; omega
    subst this; exact c⟩
  have ht : [strOf k].length + tot [strOf k] ≤ 1048576 := by simp [tot, strOf_size]; omega
  have e : ptrText [strOf k] = 47 :: esc k := by simp [ptrText, strOf_toList]
  have := specText_walk (some ⟨g, 0, none⟩) g 0 1 [strOf k] w h ht
  rw [e] at this
  exact this

set_option maxRecDepth 100000 in
set_option maxHeartbeats 8000000 in
/-- The model's places. -/
theorem hits_walk : ∀ (n : Nat) (v : JV) (p : List UInt8) (w : World), okV v → twV v = false → depV v ≤ n → (ct v).length ≤ 1000000 → p.length + 2 * (ct v).length ≤ 4000000 → cntV v ≤ 1000000 →
    Calls Tryz.prog 40 #[.string (strOf (ct v)), .string (strOf p)] w fun e w' => ∃ r, e = .returned r ∧ HR w' w.heap.size r (hitF n p v) ∧ Below w.heap.size w w' := by
  intro n
  induction n with
  | zero => intro v p w _ _ h; have := (dep_cnt v).2; omega
  | succ n ih =>
    intro v p w hok htw hd hl0 hl hc
    obtain ⟨i0, hi0, hz0, hz1, hz2⟩ := info_parts infoHit
    have HPA : Hid (∀ w, Calls Tryz.prog 61 #[.string (strOf (ct v))] w fun e w' => ∃ r, e = .returned r ∧ PR w' w.heap.size r (partsV v) ∧ Below w.heap.size w w') := fun w => parts_ct v hok w (by omega)
    rw [parts_kids] at HPA
    have HREC : Hid (∀ k (hk : k < (kidsV v).length) (w : World), (kidsV v)[k].1.length + (ct (kidsV v)[k].2).length ≤ 1000000 ∧ (ptrN p (kidsV v)[k].1).length ≤ 4000000 ∧ (hitF n (ptrN p (kidsV v)[k].1) (kidsV v)[k].2).length = cntV (kidsV v)[k].2 ∧ Calls Tryz.prog 40 #[.string (strOf (ct (kidsV v)[k].2)), .string (strOf (ptrN p (kidsV v)[k].1))] w fun e w' => ∃ r, e = .returned r ∧ HR w' w.heap.size r (hitF n (ptrN p (kidsV v)[k].1) (kidsV v)[k].2) ∧ Below w.heap.size w w') := fun k hk w => by
      obtain ⟨a, b, c, d⟩ := kids_ok hok htw (List.getElem_mem hk)
      have e1 := ptrN_len p (kidsV v)[k].1
      have e2 : cntV (kidsV v)[k].2 ≤ cntV v := by
        have := kids_take_cnt v (k + 1)
        rw [List.take_succ_eq_append_getElem hk, List.map_append, List.sum_append] at this
        simp at this; omega
      exact ⟨by omega, by omega, hitF_len n _ _ a b (by omega), ih _ _ w a b (by omega) (by omega) (by omega) (by omega)⟩
    have HT : Hid (∀ k, k ≤ (kidsV v).length → (((kidsV v).take k).flatMap fun q => hitF n (ptrN p q.1) q.2).length + 1 ≤ cntV v) := fun k hk => by
      rw [flatK_len _ (fun q => cntV q.2) _ (fun q hq => by
        obtain ⟨a, b, c, _⟩ := kids_ok hok htw (List.mem_of_mem_take hq)
        exact hitF_len n _ q.2 a b (by omega))]
      exact kids_take_cnt v k
    have HF : Hid (∀ k (hk : k < (kidsV v).length), (((kidsV v).take (k + 1)).flatMap fun q => hitF n (ptrN p q.1) q.2) = (((kidsV v).take k).flatMap fun q => hitF n (ptrN p q.1) q.2) ++ hitF n (ptrN p (kidsV v)[k].1) (kidsV v)[k].2) := fun k hk => flat_take (fun q : List UInt8 × JV => hitF n (ptrN p q.1) q.2) (kidsV v) k hk
    have HE : Hid (hitF (n + 1) p v = (p, ct v) :: (((kidsV v).take (kidsV v).length).flatMap fun q => hitF n (ptrN p q.1) q.2)) := by
      show _ = _
      rw [hitF, List.take_of_length_le (Nat.le_refl _)]
    generalize hitF (n + 1) p v = R at *
    have hkl : (kidsV v).length ≤ 1000000 := by
      have := unhide HT (kidsV v).length (Nat.le_refl _)
      have h2 : (kidsV v).length ≤ ((kidsV v).map fun q => cntV q.2).sum := by
        have : ∀ l : List (List UInt8 × JV), l.length ≤ (l.map fun q => cntV q.2).sum := by
          intro l
          induction l with
          | nil => simp
          | cons q r ih => have h3 := (dep_cnt q.2); rw [List.map_cons, List.sum_cons, List.length_cons]; omega
        exact this _
      have h4 := kids_cnt v
      omega
    have hml : ((kidsV v).map kt).length = (kidsV v).length := List.length_map _
    generalize kidsV v = K at *
    clear hok htw hd ih
    have hcv : (strOf (ct v)).size ≤ 1000000 := by rw [strOf_size]; omega
    have hpl : p.length ≤ 4000000 := by omega
    go_enter Tryz.func40, Tryz.ntmps40
    go_wp2_with fail
    refine (unhide HPA _).mono ?_
    rintro e w1 ⟨r1, rfl, p1, b1⟩
    have O0 : Hid (HR (w.alloc (.cells #[.string (strOf p), .string (strOf (ct v))] 69)) w.heap.size (.slice (some ⟨w.heap.size, 0, none⟩) 1 1) [(p, ct v)]) := World.ownsRow_lit w #[.string (strOf p), .string (strOf (ct v))] 1 (Nat.le_refl _) (by unfold maxLen; omega) rfl
    have B0 : Hid (Below w.heap.size w (w.alloc (.cells #[.string (strOf p), .string (strOf (ct v))] 69))) := (Below.refl _ _).alloc (Nat.le_refl _) _
    have O1 := hide ((unhide O0).below b1)
    have B1 := hide ((unhide B0).trans (b1.mono (unhide B0).size))
    have P1 : Hid (PR w1 w.heap.size r1 (K.map kt)) := p1.mono (unhide B0).size
    obtain ⟨x1, cap1, rfl⟩ : ∃ x cap, r1 = .slice x K.length cap := by
      rcases p1.2 with ⟨hv, h0⟩ | ⟨g, cap, cur, hv, _⟩
      · rw [hml] at h0; exact ⟨none, 0, by rw [hv, h0]⟩
      · rw [hml] at hv; exact ⟨_, _, hv⟩
    clear HPA p1 b1 O0 B0
    go_wp2_with fail
    go_loopw [5, 7] (fun u i wr => ∃ k : Nat, k ≤ K.length ∧ i = .int .i64 (k : Int) ∧ HR wr w.heap.size u ((p, ct v) :: ((K.take k).flatMap fun q => hitF n (ptrN p q.1) q.2)) ∧ PR wr w.heap.size (.slice x1 K.length cap1) (K.map kt) ∧ Below w.heap.size w wr) (fun _ i _ => K.length - (intOf i).toNat)
    case atStart => exact ⟨0, Nat.zero_le _, rfl, by simpa using unhide O1, unhide P1, unhide B1⟩
    case round =>
      obtain ⟨k, hk, rfl, ho, hpr, hb⟩ := hrel
      clear O1 P1 B1
      have hwsz := hb.size
      by_cases hlt : k < K.length
      · have hltI : (k : Int) < (K.length : Int) := by omega
        obtain ⟨g, cap', he, hgB, hgl, c0, c1⟩ := hpr.cells k (by rw [hml]; exact hlt)
        injection he with he1 he2 he3
        subst he1; subst he3
        have ek : (K.map kt)[k]'(by rw [hml]; exact hlt) = kt K[k] := List.getElem_map _
        rw [ek] at c0 c1
        obtain ⟨l1, l2, l3, _⟩ := unhide HREC k hlt w
        have HRC : Hid (∀ w, Calls Tryz.prog 40 #[.string (strOf (ct K[k].2)), .string (strOf (ptrN p K[k].1))] w fun e w' => ∃ r, e = .returned r ∧ HR w' w.heap.size r (hitF n (ptrN p K[k].1) K[k].2) ∧ Below w.heap.size w w') := fun w => (unhide HREC k hlt w).2.2.2
        have l4 := unhide HT (k + 1) hlt
        have l5 := unhide HT k hk
        rw [unhide HF k hlt, List.length_append] at l4
        have l6 := (dep_cnt K[k].2)
        have HEK : Hid ((p, ct v) :: ((K.take (k + 1)).flatMap fun q => hitF n (ptrN p q.1) q.2) = ((p, ct v) :: ((K.take k).flatMap fun q => hitF n (ptrN p q.1) q.2)) ++ hitF n (ptrN p K[k].1) K[k].2) := by
          show _ = _
          rw [unhide HF k hlt]; rfl
        have hcat : strOf p ++ strOf (47 :: esc K[k].1) = strOf (ptrN p K[k].1) := strOf_app _ _
        have hzz : (9223372036854775807 < (strOf p).size + (strOf (47 :: esc K[k].1)).size) = False := eq_false (by
          rw [strOf_size, strOf_size]
          have := esc_le K[k].1
          simp only [List.length_cons]; omega)
        have hAl : ((p, ct v) :: ((K.take k).flatMap fun q => hitF n (ptrN p q.1) q.2)).length + (hitF n (ptrN p K[k].1) K[k].2).length ≤ 1000000 := by
          simp only [List.length_cons]; omega
        have hZ0 : 1 ≤ (hitF n (ptrN p K[k].1) K[k].2).length := by omega
        have HT1 : Hid (∀ (w : World) (g : Nat), w.cell? ⟨g, 0, none⟩ = some (.string (strOf K[k].1)) → Calls Tryz.prog 64 #[.slice (some ⟨g, 0, none⟩) 1 1] w fun e w' => e = .returned (.string (strOf (47 :: esc K[k].1))) ∧ Below w.heap.size w w') := fun w g c => one_text K[k].1 w (by omega) g c
        have d0 : wr.cell? ⟨g, k * 2, none⟩ = some (.string (strOf K[k].1)) := c0
        have d1 : wr.cell? ⟨g, k * 2 + 1, none⟩ = some (.string (strOf (ct K[k].2))) := c1
        have HO := hide ho
        have HPR := hide hpr
        have HB := hide hb
        clear c0 c1 ek he2 hml HREC HT HF HE l1 l2 l3 l4 l5 l6 ho hpr hb
        generalize (p, ct v) :: ((K.take k).flatMap fun q => hitF n (ptrN p q.1) q.2) = A at *
        generalize hitF n (ptrN p K[k].1) K[k].2 = Z at *
        generalize strOf (ptrN p K[k].1) = np at *
        generalize strOf (47 :: esc K[k].1) = tk at *
        generalize strOf K[k].1 = key at *
        generalize strOf (ct K[k].2) = tx at *
        have bA0 : Below wr.heap.size wr (wr.alloc (.cells #[.string key] 9)) := (Below.refl _ _).alloc (Nat.le_refl _) _
        have bA : Below wr.heap.size wr ((wr.alloc (.cells #[.string key] 9)).drew) := bA0.drew
        have a0 : (wr.alloc (.cells #[.string key] 9)).cell? ⟨g, k * 2, none⟩ = some (.string key) := (bA0.cell (p := ⟨g, k * 2, none⟩) hgl).trans d0
        have a1 : (wr.alloc (.cells #[.string key] 9)).cell? ⟨g, k * 2 + 1, none⟩ = some (.string tx) := (bA0.cell (p := ⟨g, k * 2 + 1, none⟩) hgl).trans d1
        have aT : ((wr.alloc (.cells #[.string key] 9)).drew).cell? ⟨wr.heap.size, 0, none⟩ = some (.string key) := lit1 wr 9 (.string key) 0 _ rfl
        have HBA := hide bA
        have HTA := hide (unhide HT1 _ _ aT)
        clear bA HT1 bA0 aT
        go_wp2_with fail
        go_region_law (first
            | (refine step_append_own rfl (.tmp 20) (.tmp 35) 66 rfl w.heap.size 69 i0 (.agg #[.string ByteArray.empty, .string ByteArray.empty]) 2 32 Tryz.underlying66 hi0 hz0 hz1 hz2 rfl (by decide) _ _ _ rfl (by exact own5) ⟨g5, 0, none⟩ Z.length cap5 (Z.flatMap partC) rfl (partC_len Z) (by exact unhide HCELL) (partC_one Z) (by unfold maxLen; omega) (by omega) (by omega) ?_
               intro v6 w6 own6 hg6)
            | (have hb4 := b4; go_simp; refine (unhide HRC _).mono ?_; rintro e w5 ⟨r5, rfl, h5, b5⟩
               have b5' := below_next b4' b5
               have own5 := own_below (unhide HO) b5'
               have P5 := (unhide HPR).below b5'
               have B5 := (unhide HB).trans (b5'.mono hwsz)
               have hw5 := B5.size
               obtain ⟨g5, cap5, rfl⟩ : ∃ g5 cap5, r5 = .slice (some ⟨g5, 0, none⟩) Z.length cap5 := (by
                 rcases h5.2 with ⟨_, h0⟩ | ⟨g5, cap5, cur5, hv5, _⟩
                 · omega
                 · exact ⟨g5, cap5, hv5⟩)
               have HCELL : Hid (∀ j u, (Z.flatMap partC)[j]? = some u → w5.cell? ((⟨g5, 0, none⟩ : Addr).add j) = some u) := fun j u hj => World.ownsRow.cells h5 rfl j u hj)
            | (go_simp; refine (unhide HTA).mono ?_; rintro e w4 ⟨rfl, b4⟩
               have b4' := below_next (unhide HBA) b4
               have k0 : w4.cell? ⟨g, k * 2, none⟩ = some (.string key) := (b4'.cell (p := ⟨g, k * 2, none⟩) hgl).trans d0
               have k1 : w4.cell? ⟨g, k * 2 + 1, none⟩ = some (.string tx) := (b4'.cell (p := ⟨g, k * 2 + 1, none⟩) hgl).trans d1))
        all_goals
          have O6 : Hid (HR w6 w.heap.size v6 (A ++ Z)) := by
            show HR w6 w.heap.size v6 (A ++ Z)
            unfold HR
            rw [List.length_append, List.flatMap_append]
            exact own6
          have B6 : Hid (Below w.heap.size w w6) := B5.grown hg6 hw5 (fun k hk => (own5.lt k hk).1)
          have P6 : Hid (PR w6 w.heap.size (.slice (some ⟨g, 0, none⟩) K.length cap1) (K.map kt)) := World.ownsRow.kept P5 hg6 (own_apart P5 own5 (by decide))
          clear own6 hg6 B5 P5 own5 h5 b5 b5' HCELL b4 b4' k0 k1 a0 a1 d0 d1 HBA HTA HRC HO HPR HB
          go_wp2
          go_roundw
        all_goals first
          | exact ⟨k + 1, by omega, by go_num, by rw [unhide HEK]; exact unhide O6, unhide P6, unhide B6⟩
          | (simp [intOf]; omega)
      · have hk' : k = K.length := by omega
        subst hk'
        have e := unhide HE
        rw [← e] at ho
        have HO := hide ho
        have HB := hide hb
        clear ho hb e HREC HT HF HE hpr hml
        go_wp2
        go_ret
        exact ⟨_, rfl, unhide HO, unhide HB⟩
end Go.Proofs.YtadefcohbkgbfabGreatDoor

