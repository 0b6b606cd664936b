import Derived.Test.YtlfonikfjibloaaGreatDoorBt14
import Derived.Test.YtlfonikfjibloaaGreatDoorBt13
import Derived.Test.YtlfonikfjibloaaGreatDoorBt21
import Derived.Test.YtlfonikfjibloaaGreatDoorBt2
import Derived.Test.YtlfonikfjibloaaGreatDoorBt25
import Derived.Test.YtlfonikfjibloaaGreatDoorBt16
import Derived.Test.YtlfonikfjibloaaGreatDoorBt4
namespace Go.Proofs.YtlfonikfjibloaaGreatDoor
open Go.RowKit

theorem tok_getD {ts : List (List UInt8)} {j : Nat} (h : j < ts.length) : (ts.map baT).getD j ByteArray.empty = baT (ts.getD j []) := by simp [h]
/-- What the look for a key answers. -/
def FindP (ps : List Part) (key : List UInt8) (e : Ending) : Prop := (e = .returned (.int .i64 (-1)) ∧ ∀ j (hj : j < ps.length), ps[j].1 ≠ key) ∨ ∃ (j : Nat) (hj : j < ps.length), e = .returned (.int .i64 (j : Int)) ∧ ps[j].1 = key
theorem FindP.no {ps : List Part} {key : List UInt8} {e : Ending} (h : e = .returned (.int .i64 (-1))) (k : ∀ j (hj : j < ps.length), ps[j].1 ≠ key) : FindP ps key e := Or.inl ⟨h, k⟩
theorem FindP.yes {ps : List Part} {key : List UInt8} {e : Ending} {j : Nat} (hj : j < ps.length) (h : e = .returned (.int .i64 (j : Int))) (k : ps[j].1 = key) : FindP ps key e := Or.inr ⟨j, hj, h, k⟩
/-- What the look for a part answers. -/
def ChildP (v : JV) (t : List UInt8) (e : Ending) : Prop := (e = .returned (.int .i64 (-1)) ∧ childV v t = none) ∨ ∃ (j : Nat) (hj : j < (partsV v).length) (u : JV), e = .returned (.int .i64 (j : Int)) ∧ childV v t = some u ∧ (partsV v)[j].2 = ct u
theorem ChildP.no {v : JV} {t : List UInt8} {e : Ending} (h : e = .returned (.int .i64 (-1))) (k : childV v t = none) : ChildP v t e := Or.inl ⟨h, k⟩
theorem ChildP.yes {v u : JV} {t : List UInt8} {e : Ending} {j : Nat} (hj : j < (partsV v).length) (h : e = .returned (.int .i64 (j : Int))) (k : childV v t = some u ∧ (partsV v)[j].2 = ct u) : ChildP v t e := Or.inr ⟨j, hj, u, h, k.1, k.2⟩

set_option maxHeartbeats 800000 in
theorem find_at (B : Nat) (v : Value) (ps : List Part) (key : List UInt8) (w : World) (h : PR w B v ps) (hn : ps.length ≤ 40000000) :
    Calls Tryz.prog 90 #[v, .string (strOf key)] w fun e w' => w = w' ∧ FindP ps key e := by
  obtain ⟨x, len, cap, rfl, hlen⟩ : ∃ x len cap, v = .slice x len cap ∧ len = ps.length := by
    rcases h.2 with ⟨hv, h0⟩ | ⟨g, cap, cur, hv, _⟩
    · exact ⟨_, _, _, hv, h0.symm⟩
    · exact ⟨_, _, _, hv, rfl⟩
  subst hlen
  have HP := hide h
  clear h
  go_enter Tryz.func90, Tryz.ntmps90
  go_wp2_with fail
  go_loopw [5] (fun k wr => w = wr ∧ ∃ j : Nat, k = .int .i64 (j : Int) ∧ j ≤ ps.length ∧ ∀ i (hi : i < ps.length), i < j → ps[i].1 ≠ key) (fun k _ => ps.length - (intOf k).toNat)
  case atStart => exact ⟨rfl, 0, rfl, Nat.zero_le _, fun i _ hi => by omega⟩
  case round =>
    obtain ⟨rfl, j, rfl, hj, hno⟩ := hrel
    have HNO := hide hno
    clear hno
    by_cases hin : j < ps.length
    · have t1 : ((j : Int) < (ps.length : Int)) = True := eq_true (by omega)
      obtain ⟨g, cap', he, hB, hgl, c0, c1⟩ := (unhide HP).cells j hin
      injection he with he1 he2 he3
      subst he1; subst he3
      have heq := str_eq ps[j].1 key
      by_cases hk : ps[j].1 = key
      · have t2 : (ps[j].1 == key) = true := by rw [beq_iff_eq]; exact hk
        have HK := hide hk
        rw [t2] at heq
        clear hk t2
        go_wp2
        go_ret
        exact ⟨rfl, FindP.yes hin rfl (unhide HK)⟩
      · have t2 : (ps[j].1 == key) = false := by rw [beq_eq_false_iff_ne]; exact hk
        have HX : Hid (∀ i (hi : i < ps.length), i < j + 1 → ps[i].1 ≠ key) := fun i hi hij => by
          by_cases e : i = j
          · subst e; exact hk
          · exact unhide HNO i hi (by omega)
        rw [t2] at heq
        clear hk t2
        go_wp2
        go_roundw
        case rel => exact ⟨trivial, j + 1, by go_num, by omega, unhide HX⟩
        case measure => simp [intOf]; omega
    · have t1 : ((j : Int) < (ps.length : Int)) = False := eq_false (by omega)
      go_wp2
      go_ret
      exact ⟨rfl, FindP.no rfl (fun i hi => unhide HNO i hi (by omega))⟩

/-- The parts of a value. -/
theorem parts_ct (v : JV) (hok : okV v) (w : World) (hl : (ct v).length ≤ 1000000) :
    Calls Tryz.prog 38 #[.string (strOf (ct v))] w fun e w' => ∃ r, e = .returned r ∧ PR w' w.heap.size r (partsV v) ∧ Below w.heap.size w w' := by
  have leaf : ∀ (c : UInt8) (r : List UInt8), ct v = c :: r → c.toNat ≠ 91 → c.toNat ≠ 123 → partsV v = [] → Calls Tryz.prog 38 #[.string (strOf (ct v))] w fun e w' => ∃ r, e = .returned r ∧ PR w' w.heap.size r (partsV v) ∧ Below w.heap.size w w' := fun c r hc h1 h2 hp => by
    rw [hp, hc]
    obtain ⟨a, b⟩ := bt_first (c := c) (r := r)
    exact parts_leaf _ w a (by rw [b]; exact h1) (by rw [b]; exact h2)
  cases v with
  | arr l => rw [okV] at hok; exact parts_arr l hok w (by rw [strOf_size]; exact hl)
  | obj m => rw [okV] at hok; exact parts_obj m hok w (by rw [strOf_size]; exact hl)
  | nul => exact leaf 110 _ rfl (by decide) (by decide) rfl
  | tt => exact leaf 116 _ rfl (by decide) (by decide) rfl
  | ff => exact leaf 102 _ rfl (by decide) (by decide) rfl
  | num l =>
    have hp := num_plain hok
    cases l with
    | nil => exact absurd rfl hp.1
    | cons c r =>
      have := (hp.2 c List.mem_cons_self).1
      exact leaf c r rfl this.2.1 this.2.2.1 rfl
  | str l => exact leaf 34 (qs l ++ [34]) rfl (by decide) (by decide) rfl
theorem parts_len {v : JV} (hok : okV v) (hl : (ct v).length ≤ 1000000) : (partsV v).length ≤ 1000000 := by
  cases v with
  | arr l =>
    show (idxF 0 (ctL l)).length ≤ _
    rw [idxF_len]
    have : (strOf (ct (.arr l))).data.toList = 91 :: (joinC (ctL l) ++ [93]) := by rw [strOf_toList]; rfl
    have := keyLen this
    rw [strOf_size] at this
    omega
  | obj m =>
    show (isort (ctM m)).length ≤ _
    have : (strOf (ct (.obj m))).data.toList = 123 :: (joinC ((isort (ctM m)).map memT) ++ [125]) := by rw [strOf_toList]; rfl
    have := keyLen this
    rw [strOf_size, List.length_map] at this
    omega
  | nul => simp [partsV]
  | tt => simp [partsV]
  | ff => simp [partsV]
  | num l => simp [partsV]
  | str l => simp [partsV]

end Go.Proofs.YtlfonikfjibloaaGreatDoor

namespace Go.Proofs.YtlfonikfjibloaaGreatDoor
open Go.RowKit

theorem infoHit : (Tryz.prog.info? 213).map (fun i => (i.zero, i.size, i.bytes)) = some (some (.agg #[.string ByteArray.empty, .string ByteArray.empty]), 2, 32) := by kernel_rfl
/-- A row of hits that the call owns. -/
def HR (w : World) (B : Nat) (v : Value) (hs : List Part) : Prop := w.ownsRow B 213 2 v hs.length (hs.flatMap partC)
theorem HR.below {w w' : World} {B : Nat} {v : Value} {hs : List Part} (h : HR w B v hs) (hb : Below w.heap.size w w') : HR w' B v hs := own_below h hb
theorem HR.cells {w : World} {B : Nat} {v : Value} {ps : List Part} (h : HR w B v ps) (j : Nat) (hj : j < ps.length) :
    ∃ g cap, v = .slice (some ⟨g, 0, none⟩) ps.length cap ∧ B ≤ g ∧ g < w.heap.size ∧ w.cell? ⟨g, j * 2, none⟩ = some (.string (strOf ps[j].1)) ∧ w.cell? ⟨g, j * 2 + 1, none⟩ = some (.string (strOf ps[j].2)) := by
  obtain ⟨hl, h0 | ⟨g, cap, cur, hv, hB, hg, hn, hc, hsz, ht⟩⟩ := h
  · omega
  · have hc0 := part_at ps j hj
    refine ⟨g, cap, hv, hB, (Array.getElem?_eq_some_iff.1 hg).1, ?_, ?_⟩
    · rw [Lib.cell_of_heap hg, ← Array.getElem?_toList, ← hc0.1, ← ht, List.getElem?_take_of_lt (by omega)]
    · rw [Lib.cell_of_heap hg, ← Array.getElem?_toList, ← hc0.2, ← ht, List.getElem?_take_of_lt (by omega)]
theorem partC_len (hs : List Part) : (hs.flatMap partC).length = hs.length * 2 := by
  induction hs with
  | nil => rfl
  | cons p r ih => rw [List.flatMap_cons, List.length_append, ih, List.length_cons]; simp [partC]; omega
theorem partC_one (hs : List Part) : ∀ u ∈ hs.flatMap partC, u.oneCell' = true := by
  intro u hu
  obtain ⟨p, _, hp⟩ := List.mem_flatMap.1 hu
  simp [partC] at hp
  rcases hp with rfl | rfl <;> rfl
theorem one_text (k : List UInt8) (w : World) (hk : k.length ≤ 1000000) (g : Nat) (c : w.cell? ⟨g, 0, none⟩ = some (.string (strOf k))) :
    Calls Tryz.prog 109 #[.slice (some ⟨g, 0, none⟩) 1 1] w fun e w' => e = .returned (.string (strOf (47 :: esc k))) ∧ Below w.heap.size w w' := by
  have h : SS w (some ⟨g, 0, none⟩) g 0 [strOf k] := ⟨fun _ => rfl, fun j hj => by
    have : j = 0 := by simp at hj; omega
    subst this; exact c⟩
  have ht : [strOf k].length + tot [strOf k] ≤ 1048576 := by simp [tot, strOf_size]; omega
  have e : ptrText [strOf k] = 47 :: esc k := by simp [ptrText, strOf_toList]
  have := specText_walk (some ⟨g, 0, none⟩) g 0 1 [strOf k] w h ht
  rw [e] at this
  exact this

set_option maxRecDepth 100000 in
set_option maxHeartbeats 8000000 in
/-- The model's places. -/
theorem hits_walk : ∀ (n : Nat) (v : JV) (p : List UInt8) (w : World), okV v → twV v = false → depV v ≤ n → (ct v).length ≤ 1000000 → p.length + 2 * (ct v).length ≤ 4000000 → cntV v ≤ 1000000 →
    Calls Tryz.prog 111 #[.string (strOf (ct v)), .string (strOf p)] w fun e w' => ∃ r, e = .returned r ∧ HR w' w.heap.size r (hitF n p v) ∧ Below w.heap.size w w' := by
  intro n
  induction n with
  | zero => intro v p w _ _ h; have := (dep_cnt v).2; omega
  | succ n ih =>
    intro v p w hok htw hd hl0 hl hc
    obtain ⟨i0, hi0, hz0, hz1, hz2⟩ := info_parts infoHit
    have HPA : Hid (∀ w, Calls Tryz.prog 38 #[.string (strOf (ct v))] w fun e w' => ∃ r, e = .returned r ∧ PR w' w.heap.size r (partsV v) ∧ Below w.heap.size w w') := fun w => parts_ct v hok w (by omega)
    rw [parts_kids] at HPA
    have HREC : Hid (∀ k (hk : k < (kidsV v).length) (w : World), (kidsV v)[k].1.length + (ct (kidsV v)[k].2).length ≤ 1000000 ∧ (ptrN p (kidsV v)[k].1).length ≤ 4000000 ∧ (hitF n (ptrN p (kidsV v)[k].1) (kidsV v)[k].2).length = cntV (kidsV v)[k].2 ∧ Calls Tryz.prog 111 #[.string (strOf (ct (kidsV v)[k].2)), .string (strOf (ptrN p (kidsV v)[k].1))] w fun e w' => ∃ r, e = .returned r ∧ HR w' w.heap.size r (hitF n (ptrN p (kidsV v)[k].1) (kidsV v)[k].2) ∧ Below w.heap.size w w') := fun k hk w => by
      obtain ⟨a, b, c, d⟩ := kids_ok hok htw (List.getElem_mem hk)
      have e1 := ptrN_len p (kidsV v)[k].1
      have e2 : cntV (kidsV v)[k].2 ≤ cntV v := by
        have := kids_take_cnt v (k + 1)
        rw [List.take_succ_eq_append_getElem hk, List.map_append, List.sum_append] at this
        simp at this; omega
      exact ⟨by omega, by omega, hitF_len n _ _ a b (by omega), ih _ _ w a b (by omega) (by omega) (by omega) (by omega)⟩
    have HT : Hid (∀ k, k ≤ (kidsV v).length → (((kidsV v).take k).flatMap fun q => hitF n (ptrN p q.1) q.2).length + 1 ≤ cntV v) := fun k hk => by
      rw [flatK_len _ (fun q => cntV q.2) _ (fun q hq => by
        obtain ⟨a, b, c, _⟩ := kids_ok hok htw (List.mem_of_mem_take hq)
        exact hitF_len n _ q.2 a b (by omega))]
      exact kids_take_cnt v k
    have HF : Hid (∀ k (hk : k < (kidsV v).length), (((kidsV v).take (k + 1)).flatMap fun q => hitF n (ptrN p q.1) q.2) = (((kidsV v).take k).flatMap fun q => hitF n (ptrN p q.1) q.2) ++ hitF n (ptrN p (kidsV v)[k].1) (kidsV v)[k].2) := fun k hk => flat_take (fun q : List UInt8 × JV => hitF n (ptrN p q.1) q.2) (kidsV v) k hk
    have HE : Hid (hitF (n + 1) p v = (p, ct v) :: (((kidsV v).take (kidsV v).length).flatMap fun q => hitF n (ptrN p q.1) q.2)) := by
      show _ = _
      rw [hitF, List.take_of_length_le (Nat.le_refl _)]
    generalize hitF (n + 1) p v = R at *
    have hkl : (kidsV v).length ≤ 1000000 := by
      have := unhide HT (kidsV v).length (Nat.le_refl _)
      have h2 : (kidsV v).length ≤ ((kidsV v).map fun q => cntV q.2).sum := by
        have : ∀ l : List (List UInt8 × JV), l.length ≤ (l.map fun q => cntV q.2).sum := by
          intro l
          induction l with
          | nil => simp
          | cons q r ih => have h3 := (dep_cnt q.2); rw [List.map_cons, List.sum_cons, List.length_cons]; omega
        exact this _
      have h4 := kids_cnt v
      omega
    have hml : ((kidsV v).map kt).length = (kidsV v).length := List.length_map _
    generalize kidsV v = K at *
    clear hok htw hd ih
    have hcv : (strOf (ct v)).size ≤ 1000000 := by rw [strOf_size]; omega
    have hpl : p.length ≤ 4000000 := by omega
    go_enter Tryz.func111, Tryz.ntmps111
    go_wp2_with fail
    refine (unhide HPA _).mono ?_
    rintro e w1 ⟨r1, rfl, p1, b1⟩
    have O0 : Hid (HR (w.alloc (.cells #[.string (strOf p), .string (strOf (ct v))] 213)) w.heap.size (.slice (some ⟨w.heap.size, 0, none⟩) 1 1) [(p, ct v)]) := World.ownsRow_lit w #[.string (strOf p), .string (strOf (ct v))] 1 (Nat.le_refl _) (by unfold maxLen; omega) rfl
    have B0 : Hid (Below w.heap.size w (w.alloc (.cells #[.string (strOf p), .string (strOf (ct v))] 213))) := (Below.refl _ _).alloc (Nat.le_refl _) _
    have O1 := hide ((unhide O0).below b1)
    have B1 := hide ((unhide B0).trans (b1.mono (unhide B0).size))
    have P1 : Hid (PR w1 w.heap.size r1 (K.map kt)) := p1.mono (unhide B0).size
    obtain ⟨x1, cap1, rfl⟩ : ∃ x cap, r1 = .slice x K.length cap := by
      rcases p1.2 with ⟨hv, h0⟩ | ⟨g, cap, cur, hv, _⟩
      · rw [hml] at h0; exact ⟨none, 0, by rw [hv, h0]⟩
      · rw [hml] at hv; exact ⟨_, _, hv⟩
    clear HPA p1 b1 O0 B0
    go_wp2_with fail
    go_loopw [5, 7] (fun u i wr => ∃ k : Nat, k ≤ K.length ∧ i = .int .i64 (k : Int) ∧ HR wr w.heap.size u ((p, ct v) :: ((K.take k).flatMap fun q => hitF n (ptrN p q.1) q.2)) ∧ PR wr w.heap.size (.slice x1 K.length cap1) (K.map kt) ∧ Below w.heap.size w wr) (fun _ i _ => K.length - (intOf i).toNat)
    case atStart => exact ⟨0, Nat.zero_le _, rfl, by simpa using unhide O1, unhide P1, unhide B1⟩
    case round =>
      obtain ⟨k, hk, rfl, ho, hpr, hb⟩ := hrel
      clear O1 P1 B1
      have hwsz := hb.size
      by_cases hlt : k < K.length
      · have hltI : (k : Int) < (K.length : Int) := by omega
        obtain ⟨g, cap', he, hgB, hgl, c0, c1⟩ := hpr.cells k (by rw [hml]; exact hlt)
        injection he with he1 he2 he3
        subst he1; subst he3
        have ek : (K.map kt)[k]'(by rw [hml]; exact hlt) = kt K[k] := List.getElem_map _
        rw [ek] at c0 c1
        obtain ⟨l1, l2, l3, _⟩ := unhide HREC k hlt w
        have HRC : Hid (∀ w, Calls Tryz.prog 111 #[.string (strOf (ct K[k].2)), .string (strOf (ptrN p K[k].1))] w fun e w' => ∃ r, e = .returned r ∧ HR w' w.heap.size r (hitF n (ptrN p K[k].1) K[k].2) ∧ Below w.heap.size w w') := fun w => (unhide HREC k hlt w).2.2.2
        have l4 := unhide HT (k + 1) hlt
        have l5 := unhide HT k hk
        rw [unhide HF k hlt, List.length_append] at l4
        have l6 := (dep_cnt K[k].2)
        have HEK : Hid ((p, ct v) :: ((K.take (k + 1)).flatMap fun q => hitF n (ptrN p q.1) q.2) = ((p, ct v) :: ((K.take k).flatMap fun q => hitF n (ptrN p q.1) q.2)) ++ hitF n (ptrN p K[k].1) K[k].2) := by
          show _ = _
          rw [unhide HF k hlt]; rfl
        have hcat : strOf p ++ strOf (47 :: esc K[k].1) = strOf (ptrN p K[k].1) := strOf_app _ _
        have hzz : (9223372036854775807 < (strOf p).size + (strOf (47 :: esc K[k].1)).size) = False := eq_false (by
          rw [strOf_size, strOf_size]
          have := esc_le K[k].1
          simp only [List.length_cons]; omega)
        have hAl : ((p, ct v) :: ((K.take k).flatMap fun q => hitF n (ptrN p q.1) q.2)).length + (hitF n (ptrN p K[k].1) K[k].2).length ≤ 1000000 := by
          simp only [List.length_cons]; omega
        have hZ0 : 1 ≤ (hitF n (ptrN p K[k].1) K[k].2).length := by omega
        have HT1 : Hid (∀ (w : World) (g : Nat), w.cell? ⟨g, 0, none⟩ = some (.string (strOf K[k].1)) → Calls Tryz.prog 109 #[.slice (some ⟨g, 0, none⟩) 1 1] w fun e w' => e = .returned (.string (strOf (47 :: esc K[k].1))) ∧ Below w.heap.size w w') := fun w g c => one_text K[k].1 w (by omega) g c
        have d0 : wr.cell? ⟨g, k * 2, none⟩ = some (.string (strOf K[k].1)) := c0
        have d1 : wr.cell? ⟨g, k * 2 + 1, none⟩ = some (.string (strOf (ct K[k].2))) := c1
        have HO := hide ho
        have HPR := hide hpr
        have HB := hide hb
        clear c0 c1 ek he2 hml HREC HT HF HE l1 l2 l3 l4 l5 l6 ho hpr hb
        generalize (p, ct v) :: ((K.take k).flatMap fun q => hitF n (ptrN p q.1) q.2) = A at *
        generalize hitF n (ptrN p K[k].1) K[k].2 = Z at *
        generalize strOf (ptrN p K[k].1) = np at *
        generalize strOf (47 :: esc K[k].1) = tk at *
        generalize strOf K[k].1 = key at *
        generalize strOf (ct K[k].2) = tx at *
        have bA0 : Below wr.heap.size wr (wr.alloc (.cells #[.string key] 9)) := (Below.refl _ _).alloc (Nat.le_refl _) _
        have bA : Below wr.heap.size wr ((wr.alloc (.cells #[.string key] 9)).drew) := bA0.drew
        have a0 : (wr.alloc (.cells #[.string key] 9)).cell? ⟨g, k * 2, none⟩ = some (.string key) := (bA0.cell (p := ⟨g, k * 2, none⟩) hgl).trans d0
        have a1 : (wr.alloc (.cells #[.string key] 9)).cell? ⟨g, k * 2 + 1, none⟩ = some (.string tx) := (bA0.cell (p := ⟨g, k * 2 + 1, none⟩) hgl).trans d1
        have aT : ((wr.alloc (.cells #[.string key] 9)).drew).cell? ⟨wr.heap.size, 0, none⟩ = some (.string key) := lit1 wr 9 (.string key) 0 _ rfl
        have HBA := hide bA
        have HTA := hide (unhide HT1 _ _ aT)
        clear bA HT1 bA0 aT
        go_wp2_with fail
        go_region_law (first
            | (refine step_append_own rfl (.tmp 20) (.tmp 35) 210 rfl w.heap.size 213 i0 (.agg #[.string ByteArray.empty, .string ByteArray.empty]) 2 32 Tryz.underlying210 hi0 hz0 hz1 hz2 rfl (by decide) _ _ _ rfl (by exact own5) ⟨g5, 0, none⟩ Z.length cap5 (Z.flatMap partC) rfl (partC_len Z) (by exact unhide HCELL) (partC_one Z) (by unfold maxLen; omega) (by omega) (by omega) ?_
               intro v6 w6 own6 hg6)
            | (have hb4 := b4; go_simp; refine (unhide HRC _).mono ?_; rintro e w5 ⟨r5, rfl, h5, b5⟩
               have b5' := below_next b4' b5
               have own5 := own_below (unhide HO) b5'
               have P5 := (unhide HPR).below b5'
               have B5 := (unhide HB).trans (b5'.mono hwsz)
               have hw5 := B5.size
               obtain ⟨g5, cap5, rfl⟩ : ∃ g5 cap5, r5 = .slice (some ⟨g5, 0, none⟩) Z.length cap5 := (by
                 rcases h5.2 with ⟨_, h0⟩ | ⟨g5, cap5, cur5, hv5, _⟩
                 · omega
                 · exact ⟨g5, cap5, hv5⟩)
               have HCELL : Hid (∀ j u, (Z.flatMap partC)[j]? = some u → w5.cell? ((⟨g5, 0, none⟩ : Addr).add j) = some u) := fun j u hj => World.ownsRow.cells h5 rfl j u hj)
            | (go_simp; refine (unhide HTA).mono ?_; rintro e w4 ⟨rfl, b4⟩
               have b4' := below_next (unhide HBA) b4
               have k0 : w4.cell? ⟨g, k * 2, none⟩ = some (.string key) := (b4'.cell (p := ⟨g, k * 2, none⟩) hgl).trans d0
               have k1 : w4.cell? ⟨g, k * 2 + 1, none⟩ = some (.string tx) := (b4'.cell (p := ⟨g, k * 2 + 1, none⟩) hgl).trans d1))
        all_goals
          have O6 : Hid (HR w6 w.heap.size v6 (A ++ Z)) := by
            show HR w6 w.heap.size v6 (A ++ Z)
            unfold HR
            rw [List.length_append, List.flatMap_append]
            exact own6
          have B6 : Hid (Below w.heap.size w w6) := B5.grown hg6 hw5 (fun k hk => (own5.lt k hk).1)
          have P6 : Hid (PR w6 w.heap.size (.slice (some ⟨g, 0, none⟩) K.length cap1) (K.map kt)) := World.ownsRow.kept P5 hg6 (own_apart P5 own5 (by decide))
          clear own6 hg6 B5 P5 own5 h5 b5 b5' HCELL b4 b4' k0 k1 a0 a1 d0 d1 HBA HTA HRC HO HPR HB
          go_wp2
          go_roundw
        all_goals first
          | exact ⟨k + 1, by omega, by go_num, by rw [unhide HEK]; exact unhide O6, unhide P6, unhide B6⟩
          | (simp [intOf]; omega)
      · have hk' : k = K.length := by omega
        subst hk'
        have e := unhide HE
        rw [← e] at ho
        have HO := hide ho
        have HB := hide hb
        clear ho hb e HREC HT HF HE hpr hml
        go_wp2
        go_ret
        exact ⟨_, rfl, unhide HO, unhide HB⟩
end Go.Proofs.YtlfonikfjibloaaGreatDoor

namespace Go.Proofs.YtlfonikfjibloaaGreatDoor
open Go.RowKit

theorem odd_at : ∀ j : Nat, j < 20 → ∃ t : List UInt8, t.length ≤ 20 ∧ (#[Value.string ⟨#[34]⟩, Value.string ⟨#[92]⟩, Value.string ⟨#[48, 49]⟩, Value.string ⟨#[45]⟩, Value.string ⟨#[44]⟩, Value.string ⟨#[58]⟩, Value.string ⟨#[91]⟩, Value.string ⟨#[93]⟩, Value.string ⟨#[123]⟩, Value.string ⟨#[125]⟩, Value.string ⟨#[32]⟩, Value.string ⟨#[128]⟩, Value.string ⟨#[92, 117, 100, 56, 48, 48]⟩, Value.string ⟨#[49, 46, 53]⟩, Value.string ⟨#[101]⟩, Value.string ⟨#[31]⟩, Value.string ⟨#[110, 117, 108]⟩, Value.string ⟨#[57, 57, 57, 57, 57, 57, 57, 57, 57, 57, 57, 57, 57, 57, 57, 57, 57, 57, 57, 57]⟩, Value.string ⟨#[237, 160, 128]⟩, Value.string ⟨#[192, 128]⟩] : Array Value)[j]? = some (.string (strOf t))
  | 0, _ => ⟨[34], by decide, rfl⟩
  | 1, _ => ⟨[92], by decide, rfl⟩
  | 2, _ => ⟨[48, 49], by decide, rfl⟩
  | 3, _ => ⟨[45], by decide, rfl⟩
  | 4, _ => ⟨[44], by decide, rfl⟩
  | 5, _ => ⟨[58], by decide, rfl⟩
  | 6, _ => ⟨[91], by decide, rfl⟩
  | 7, _ => ⟨[93], by decide, rfl⟩
  | 8, _ => ⟨[123], by decide, rfl⟩
  | 9, _ => ⟨[125], by decide, rfl⟩
  | 10, _ => ⟨[32], by decide, rfl⟩
  | 11, _ => ⟨[128], by decide, rfl⟩
  | 12, _ => ⟨[92, 117, 100, 56, 48, 48], by decide, rfl⟩
  | 13, _ => ⟨[49, 46, 53], by decide, rfl⟩
  | 14, _ => ⟨[101], by decide, rfl⟩
  | 15, _ => ⟨[31], by decide, rfl⟩
  | 16, _ => ⟨[110, 117, 108], by decide, rfl⟩
  | 17, _ => ⟨[57, 57, 57, 57, 57, 57, 57, 57, 57, 57, 57, 57, 57, 57, 57, 57, 57, 57, 57, 57], by decide, rfl⟩
  | 18, _ => ⟨[237, 160, 128], by decide, rfl⟩
  | 19, _ => ⟨[192, 128], by decide, rfl⟩
  | j + 20, h => absurd h (by omega)
set_option maxRecDepth 100000 in
set_option maxHeartbeats 2000000 in
theorem odd_walk (k : Nat) (w : World) (hk : k ≤ 255) :
    Calls Tryz.prog 166 #[.int .i64 k] w fun e w' => ∃ t : List UInt8, t.length ≤ 20 ∧ e = .returned (.string (strOf t)) ∧ Below w.heap.size w w' := by
  obtain ⟨t, ht, hc⟩ := odd_at (k % 20) (by omega)
  have hcell : (w.alloc (.cells #[Value.string ⟨#[34]⟩, Value.string ⟨#[92]⟩, Value.string ⟨#[48, 49]⟩, Value.string ⟨#[45]⟩, Value.string ⟨#[44]⟩, Value.string ⟨#[58]⟩, Value.string ⟨#[91]⟩, Value.string ⟨#[93]⟩, Value.string ⟨#[123]⟩, Value.string ⟨#[125]⟩, Value.string ⟨#[32]⟩, Value.string ⟨#[128]⟩, Value.string ⟨#[92, 117, 100, 56, 48, 48]⟩, Value.string ⟨#[49, 46, 53]⟩, Value.string ⟨#[101]⟩, Value.string ⟨#[31]⟩, Value.string ⟨#[110, 117, 108]⟩, Value.string ⟨#[57, 57, 57, 57, 57, 57, 57, 57, 57, 57, 57, 57, 57, 57, 57, 57, 57, 57, 57, 57]⟩, Value.string ⟨#[237, 160, 128]⟩, Value.string ⟨#[192, 128]⟩] 9)).cell? ⟨w.heap.size, k % 20, none⟩ = some (.string (strOf t)) := (Lib.cell_of_heap (heap_alloc_new w (.cells #[Value.string ⟨#[34]⟩, Value.string ⟨#[92]⟩, Value.string ⟨#[48, 49]⟩, Value.string ⟨#[45]⟩, Value.string ⟨#[44]⟩, Value.string ⟨#[58]⟩, Value.string ⟨#[91]⟩, Value.string ⟨#[93]⟩, Value.string ⟨#[123]⟩, Value.string ⟨#[125]⟩, Value.string ⟨#[32]⟩, Value.string ⟨#[128]⟩, Value.string ⟨#[92, 117, 100, 56, 48, 48]⟩, Value.string ⟨#[49, 46, 53]⟩, Value.string ⟨#[101]⟩, Value.string ⟨#[31]⟩, Value.string ⟨#[110, 117, 108]⟩, Value.string ⟨#[57, 57, 57, 57, 57, 57, 57, 57, 57, 57, 57, 57, 57, 57, 57, 57, 57, 57, 57, 57]⟩, Value.string ⟨#[237, 160, 128]⟩, Value.string ⟨#[192, 128]⟩] 9)) (k % 20)).trans hc
  clear hc
  go_enter Tryz.func166, Tryz.ntmps166
  go_wp2
  go_ret
  exact ⟨t, ht, rfl, (Below.refl _ _).alloc (Nat.le_refl _) _⟩

theorem strOf_data (b : ByteArray) : strOf b.data.toList = b := by obtain ⟨⟨l⟩⟩ := b; rfl
theorem dp_str {B rb N : Nat} {w w1 : World} {b : ByteArray} (hb : b.size ≤ N) (hr : RdIs w1 B rb) (hg : w.grownBy w1 (some rb)) : DP B rb N w (.returned (.string b)) w1 :=
  ⟨b.data.toList, by rw [data_len]; exact hb, by rw [strOf_data], hr, hg⟩
set_option maxRecDepth 100000 in
set_option maxHeartbeats 2000000 in
theorem change_walk (B rb : Nat) (s : ByteArray) (w : World) (h : RdIs w B rb) (hs : s.size ≤ 45000) :
    Calls Tryz.prog 113 #[.pointer (some ⟨rb, 0, none⟩), .string s] w (DP B rb (s.size + 20) w) := by
  have HX := hide (next_walk B rb w h)
  clear h
  go_enter Tryz.func113, Tryz.ntmps113
  go_wp2_with fail
  refine (unhide HX).mono ?_
  rintro e w1 ⟨x, hx, rfl, r1, g1⟩
  have HX1 := hide (next_walk B rb w1 r1)
  have HG1 := hide g1
  clear HX r1 g1
  go_wp2_with fail
  refine (unhide HX1).mono ?_
  rintro e w2 ⟨y, hy, rfl, r2, g2⟩
  have HX2 := hide (next_walk B rb w2 r2)
  have HG2 := hide (grownBy_trans (unhide HG1) g2)
  clear HX1 r2 g2 HG1
  go_wp2_with fail
  refine (unhide HX2).mono ?_
  rintro e w3 ⟨z, hz, rfl, r3, g3⟩
  have HR := hide r3
  have HG := hide (grownBy_trans (unhide HG2) g3)
  clear HX2 r3 g3 HG2
  by_cases h0 : s.size = 0
  · have hz0 : ((s.size : Int) == 0) = true := by simp [h0]
    clear h0
    go_wp2
    go_ret
    exact dp_below (t := [45]) (unhide HR) (unhide HG) (by simp) (Below.refl _ _)
  · have hz0 : ((s.size : Int) == 0) = false := by
      simp only [beq_eq_false_iff_ne, ne_eq]; omega
    have hpn : (y : Int) * 256 + (z : Int) = ((y * 256 + z : Nat) : Int) := by omega
    have hpb : y * 256 + z ≤ 65535 := by omega
    generalize y * 256 + z = pn at *
    have hq : (pn : Int) % (s.size : Int) = ((pn % s.size : Nat) : Int) := by simp
    have hql : pn % s.size < s.size := Nat.mod_lt _ (by omega)
    generalize pn % s.size = q at *
    have hqI : (q : Int) < (s.size : Int) := by omega
    have hsn : (s.size : Int) ≠ 0 := by omega
    have hx4 : (x : Int) / 4 = ((x / 4 : Nat) : Int) := by omega
    have HOD : Hid (∀ w, Calls Tryz.prog 166 #[.int .i64 ((x / 4 : Nat) : Int)] w fun e w' => ∃ t : List UInt8, t.length ≤ 20 ∧ e = .returned (.string (strOf t)) ∧ Below w.heap.size w w') := fun w => odd_walk (x / 4) w (by omega)
    have hxb : x / 4 ≤ 255 := by omega
    by_cases h4 : x % 4 = 0
    · have e : (x : Int) % 4 = 0 := by omega
      clear h4 h0 HOD hx4 hxb
      go_wp2
      go_quiet (fail)
      go_wp2
      go_ret
      refine dp_str ?_ ((unhide HR).grown (grown_draws w3 _ none) (by simp) (fun _ e => by cases e)) (grownBy_trans (unhide HG) (grown_draws w3 _ _))
      simp; omega
    · by_cases h5 : x % 4 = 1
      · have e : (x : Int) % 4 = 1 := by omega
        clear h4 h0 h5 HOD hx4 hxb
        go_wp2
        go_quiet (fail)
        go_wp2
        go_ret
        refine dp_str ?_ ((unhide HR).grown (grown_draws w3 _ none) (by simp) (fun _ e => by cases e)) (grownBy_trans (unhide HG) (grown_draws w3 _ _))
        simp; omega
      · have e1 : ((x : Int) % 4 == 0) = false := by simp only [beq_eq_false_iff_ne, ne_eq]; omega
        have e2 : ((x : Int) % 4 == 1) = false := by simp only [beq_eq_false_iff_ne, ne_eq]; omega
        generalize x / 4 = xq at *
        have hq2 : q ≤ s.size := by omega
        have hwr : IntKind.i64.wrap (xq : Int) = (xq : Int) := by rw [IntKind.wrap_i64]; omega
        clear h4 h0 h5
        go_wp2_with fail
        go_region_law (go_simp; refine (unhide HOD _).mono ?_; rintro e w4 ⟨t, ht, rfl, b4⟩; have hts : (strOf t).size ≤ 20 := (by rw [strOf_size]; exact ht); have c1 : (9223372036854775807 < q + (strOf t).size) = False := eq_false (by omega); have c2 : (9223372036854775807 < q + (strOf t).size + (s.size - q)) = False := eq_false (by omega))
        all_goals (
          clear c1 c2
          generalize strOf t = o at *
          have HRF : Hid (RdIs w4 B rb) := (unhide HR).grown (grownBy_below (r := none) (w1 := w4) ⟨b4.os, b4.tape, b4.output, b4.size, b4.block⟩) (by simp) (fun _ e => by cases e)
          have HGF : Hid (w.grownBy w4 (some rb)) := grownBy_trans (unhide HG) ⟨b4.os, b4.tape, b4.output, b4.size, fun k hk _ => b4.block k hk⟩
          clear b4
          go_wp2
          go_ret
          refine dp_str ?_ (unhide HRF) (unhide HGF)
          simp; omega)

theorem toks_tot {ts : List (List UInt8)} (hs : Small ts) (hl : ts.length ≤ 4) : tot (ts.map baT) ≤ 12 := by
  have : ∀ ts : List (List UInt8), Small ts → tot (ts.map baT) ≤ 3 * ts.length := by
    intro ts
    induction ts with
    | nil => intro _; simp [tot]
    | cons t r ih =>
      intro h
      have h1 := ih (fun q hq => h q (List.mem_cons_of_mem _ hq))
      have h2 := h t List.mem_cons_self
      have h3 : (baT t).size = t.length := strOf_size t
      unfold tot at *
      simp only [List.map_cons, List.sum_cons, List.length_cons]
      omega
  have := this ts hs
  omega
theorem ptrT_len {ts : List (List UInt8)} (hs : Small ts) (hl : ts.length ≤ 4) : (ptrText (ts.map baT)).length ≤ 28 := by
  have : ∀ ts : List (List UInt8), Small ts → (ptrText (ts.map baT)).length ≤ 7 * ts.length := by
    intro ts
    induction ts with
    | nil => intro _; simp [ptrText]
    | cons t r ih =>
      intro h
      have h1 := ih (fun q hq => h q (List.mem_cons_of_mem _ hq))
      have h2 := h t List.mem_cons_self
      have h3 := esc_le t
      have h4 : (baT t).data.toList = t := strOf_toList t
      rw [List.map_cons, ptrText_cons, List.length_cons, List.length_append, h4, List.length_cons]
      omega
  have := this ts hs
  omega
set_option maxRecDepth 100000 in
set_option maxHeartbeats 4000000 in
theorem drawP_walk (B rb : Nat) (v : JV) (w : World) (h : RdIs w B rb) (hd : DocIs v) :
    Calls Tryz.prog 57 #[.pointer (some ⟨rb, 0, none⟩), .string (strOf (ct v))] w (DP B rb 40020 w) := by
  have HX := hide (next_walk B rb w h)
  have hrb := h.lt
  have hlen := hd.len
  have hcnt := hd.cnt
  have HH : Hid (∀ w, Calls Tryz.prog 111 #[.string (strOf (ct v)), .string (strOf [])] w fun e w' => ∃ r, e = .returned r ∧ HR w' w.heap.size r (hitF 100 [] v) ∧ Below w.heap.size w w') := fun w => hits_walk 100 v [] w hd.ok hd.tw hd.dep (by omega) (by simp; omega) (by omega)
  have HMX : Hid (∀ x ∈ hitF 100 [] v, x.1.length ≤ 40000) := fun x hx => by have := hitF_mx 100 [] v x hx; have := hd.mx; simp at *; omega
  have hn : (hitF 100 [] v).length = cntV v := hitF_len 100 [] v hd.ok hd.tw hd.dep
  have hn1 : 1 ≤ (hitF 100 [] v).length := by have := (dep_cnt v); omega
  have hn2 : (hitF 100 [] v).length ≤ 3000 := by omega
  generalize hitF 100 [] v = hs at *
  generalize hsv : strOf (ct v) = sv at *
  clear h hd hlen hcnt hn hsv
  go_enter Tryz.func57, Tryz.ntmps57
  go_wp2_with fail
  refine (unhide HX).mono ?_
  rintro e w1 ⟨x, hx, rfl, r1, g1⟩
  have HR1 := hide r1
  have HG1 := hide g1
  clear HX r1 g1
  by_cases h7 : x % 8 = 7
  · have e : (x : Int) % 8 = 7 := by omega
    have HT := hide (toks_walk B rb w1 (unhide HR1))
    clear h7 HH
    go_wp2_with fail
    refine (unhide HT).mono ?_
    rintro e w2 ⟨v2, ts, rfl, o2, l2, s2, r2, g2⟩
    obtain ⟨va, vg, vc, rfl, hS, _⟩ := o2.shape
    have htl := toks_tot s2 l2
    have HPT := hide (specText_walk va vg 0 vc (ts.map baT) w2 hS (by rw [List.length_map]; omega))
    rw [List.length_map] at HPT
    have hpl := ptrT_len s2 l2
    have HR2 := hide r2
    have HG2 := hide (grownBy_trans (unhide HG1) g2)
    generalize ptrText (ts.map baT) = tp at *
    clear HT o2 s2 r2 g2 hS htl
    go_wp2_with fail
    refine (unhide HPT).mono ?_
    rintro e w3 ⟨rfl, b3⟩
    clear HPT
    go_wp2
    go_ret
    exact dp_below (t := tp) (unhide HR2) (unhide HG2) (by omega) b3
  · have e : ((x : Int) % 8 == 7) = false := by simp only [beq_eq_false_iff_ne, ne_eq]; omega
    have HT := hide (unhide HH w1)
    clear h7 HH
    go_wp2_with fail
    refine (unhide HT).mono ?_
    rintro e w2 ⟨v2, rfl, o2, b2⟩
    obtain ⟨va, vc, rfl⟩ := row_form o2
    have r2 := (unhide HR1).grown (grownBy_below (r := none) b2) (by simp) (fun _ e => by cases e)
    have HX2 := hide (next_walk B rb w2 r2)
    clear HT
    go_wp2_with fail
    refine (unhide HX2).mono ?_
    rintro e w3 ⟨y, hy, rfl, r3, g3⟩
    have hid : (y : Int) * 3 + (x : Int) = ((y * 3 + x : Nat) : Int) := by omega
    have hib : y * 3 + x ≤ 1020 := by omega
    generalize y * 3 + x = yn at *
    have hq : (yn : Int) % (hs.length : Int) = ((yn % hs.length : Nat) : Int) := by simp
    have hql : yn % hs.length < hs.length := Nat.mod_lt _ (by omega)
    generalize yn % hs.length = q at *
    obtain ⟨g, cap, he, hg2, hgl, c0, c1⟩ := o2.cells q hql
    injection he with he1 he2 he3
    subst he1; subst he3
    have hqI : (q : Int) < (hs.length : Int) := by omega
    have hsn : (hs.length : Int) ≠ 0 := by omega
    have hz2 := b2.size
    have hgne : g ≠ rb := by have := (unhide HR1).lt; omega
    have c0' : w3.cell? ⟨g, q * 2, none⟩ = some (.string (strOf hs[q].1)) := g3.cell c0 (by simpa using hgne)
    have hml := unhide HMX hs[q] (List.getElem_mem _)
    have hzs : (strOf hs[q].1).size ≤ 40000 := by rw [strOf_size]; exact hml
    generalize strOf hs[q].1 = s at *
    have HR3 := hide r3
    have HG3 := hide (grownBy_trans (grownBy_trans (unhide HG1) (grownBy_below b2)) g3)
    clear HX2 r3 g3 r2 b2 o2 c0 c1 hml HMX he2
    by_cases h6 : x % 8 = 6
    · have e6 : (x : Int) % 8 = 6 := by omega
      have HX4 := hide (next_walk B rb w3 (unhide HR3))
      clear h6
      go_wp2_with fail
      refine (unhide HX4).mono ?_
      rintro e w4 ⟨k, hk, rfl, r4, g4⟩
      have HR4 := hide r4
      have HG4 := hide (grownBy_trans (unhide HG3) g4)
      clear HX4 r4 g4 HR3 HG3 c0'
      go_wp2_with fail
      refine (keyS_walk k w4 hk).mono ?_
      rintro e w5 ⟨t, ht, rfl, rfl⟩
      have hab : Below w4.heap.size w4 (w4.alloc (.cells #[.string (strOf t)] 9)) := (Below.refl _ _).alloc (Nat.le_refl _) _
      have hS : SS (w4.alloc (.cells #[.string (strOf t)] 9)) (some ⟨w4.heap.size, 0, none⟩) w4.heap.size 0 [strOf t] := ⟨fun _ => rfl, fun j hj => by
        have : j = 0 := by simpa using hj
        subst this
        exact Lib.cell_of_heap (heap_alloc_new w4 (.cells #[.string (strOf t)] 9)) 0⟩
      have htt : tot [strOf t] = t.length := by simp [tot, strOf_size]
      have HPT := hide (specText_walk _ _ _ 1 [strOf t] _ hS (by rw [htt]; simp; omega))
      have hpl : (ptrText [strOf t]).length ≤ 7 := by
        rw [ptrText_cons, List.length_cons, List.length_append, strOf_toList]
        have := esc_le t
        simp [ptrText]; omega
      have HAB := hide hab
      generalize ptrText [strOf t] = tp at *
      clear hS htt hab
      go_wp2_with fail
      refine (unhide HPT).mono ?_
      rintro e w6 ⟨rfl, b6⟩
      have B6 := below_next (unhide HAB) b6
      have HRF : Hid (RdIs w6 B rb) := (unhide HR4).grown (grownBy_below (r := none) B6) (by simp) (fun _ e => by cases e)
      have HGF := hide (grownBy_trans (unhide HG4) (grownBy_below (r := some rb) B6))
      have htz : (⟨tp.toArray⟩ : ByteArray).size ≤ 7 := by
        have : (strOf tp).size = tp.length := strOf_size tp
        unfold strOf at this; omega
      generalize (⟨tp.toArray⟩ : ByteArray) = tb at *
      clear HPT b6 B6 HAB HR4 HG4
      go_wp2
      go_ret
      refine dp_str ?_ (unhide HRF) (unhide HGF)
      rw [ByteArray.size_append]; omega
    · have e6 : ((x : Int) % 8 == 6) = false := by simp only [beq_eq_false_iff_ne, ne_eq]; omega
      by_cases h5 : x % 32 = 5
      · have e5 : (x : Int) % 32 = 5 := by omega
        have HC := hide (change_walk B rb s w3 (unhide HR3) (by omega))
        clear h6 h5
        go_wp2_with fail
        refine (unhide HC).mono ?_
        rintro e w4 ⟨t, ht, rfl, r4, g4⟩
        clear HC
        go_wp2
        go_ret
        exact ⟨t, by omega, rfl, r4, grownBy_trans (unhide HG3) g4⟩
      · have e5 : ((x : Int) % 32 == 5) = false := by simp only [beq_eq_false_iff_ne, ne_eq]; omega
        by_cases h13 : x % 32 = 13
        · have e13 : (x : Int) % 32 = 13 := by omega
          clear h6 h5 h13
          go_wp2
          go_ret
          refine dp_str ?_ (unhide HR3) (unhide HG3)
          have h3 : (⟨#[47, 126, 50]⟩ : ByteArray).size = 3 := rfl
          rw [ByteArray.size_append]; omega
        · have e13 : ((x : Int) % 32 == 13) = false := by simp only [beq_eq_false_iff_ne, ne_eq]; omega
          clear h6 h5 h13
          go_wp2
          go_ret
          exact dp_str (by omega) (unhide HR3) (unhide HG3)
end Go.Proofs.YtlfonikfjibloaaGreatDoor
