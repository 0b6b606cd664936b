import Derived.Test.YtdbppklmmdmgjacGreatDoorBq4
import Derived.Test.YtdbppklmmdmgjacGreatDoorBq1
import Derived.Test.YtdbppklmmdmgjacGreatDoorBn40
import Derived.Test.YtdbppklmmdmgjacGreatDoorBn1
import Derived.Test.YtdbppklmmdmgjacGreatDoorBn43
import Derived.Test.YtdbppklmmdmgjacGreatDoorBn27
import Derived.Test.YtdbppklmmdmgjacGreatDoorBn39
import Derived.Test.YtdbppklmmdmgjacGreatDoorBq3
import Derived.Test.YtdbppklmmdmgjacGreatDoorBq5
namespace Go.Proofs.YtdbppklmmdmgjacGreatDoor
open Go.RowKit

theorem tok_getD {ts : List (List UInt8)} {j : Nat} (h : j < ts.length) : (ts.map baT).getD j ByteArray.empty = baT (ts.getD j []) := by simp [h]
/-- What the look for a key answers. -/
def FindP (ps : List Part) (key : List UInt8) (e : Ending) : Prop := (e = .returned (.int .i64 (-1)) ∧ ∀ j (hj : j < ps.length), ps[j].1 ≠ key) ∨ ∃ (j : Nat) (hj : j < ps.length), e = .returned (.int .i64 (j : Int)) ∧ ps[j].1 = key
theorem FindP.no {ps : List Part} {key : List UInt8} {e : Ending} (h : e = .returned (.int .i64 (-1))) (k : ∀ j (hj : j < ps.length), ps[j].1 ≠ key) : FindP ps key e := Or.inl ⟨h, k⟩
theorem FindP.yes {ps : List Part} {key : List UInt8} {e : Ending} {j : Nat} (hj : j < ps.length) (h : e = .returned (.int .i64 (j : Int))) (k : ps[j].1 = key) : FindP ps key e := Or.inr ⟨j, hj, h, k⟩
/-- What the look for a part answers. -/
def ChildP (v : JV) (t : List UInt8) (e : Ending) : Prop := (e = .returned (.int .i64 (-1)) ∧ childV v t = none) ∨ ∃ (j : Nat) (hj : j < (partsV v).length) (u : JV), e = .returned (.int .i64 (j : Int)) ∧ childV v t = some u ∧ (partsV v)[j].2 = ct u
theorem ChildP.no {v : JV} {t : List UInt8} {e : Ending} (h : e = .returned (.int .i64 (-1))) (k : childV v t = none) : ChildP v t e := Or.inl ⟨h, k⟩
theorem ChildP.yes {v u : JV} {t : List UInt8} {e : Ending} {j : Nat} (hj : j < (partsV v).length) (h : e = .returned (.int .i64 (j : Int))) (k : childV v t = some u ∧ (partsV v)[j].2 = ct u) : ChildP v t e := Or.inr ⟨j, hj, u, h, k.1, k.2⟩

set_option maxHeartbeats 800000 in
theorem find_at (B : Nat) (v : Value) (ps : List Part) (key : List UInt8) (w : World) (h : PR w B v ps) (hn : ps.length ≤ 40000000) :
    Calls Tryz.prog 60 #[v, .string (strOf key)] w fun e w' => w = w' ∧ FindP ps key e := by
  obtain ⟨x, len, cap, rfl, hlen⟩ : ∃ x len cap, v = .slice x len cap ∧ len = ps.length := by
    rcases h.2 with ⟨hv, h0⟩ | ⟨g, cap, cur, hv, _⟩
    · exact ⟨_, _, _, hv, h0.symm⟩
    · exact ⟨_, _, _, hv, rfl⟩
  subst hlen
  have HP := hide h
  clear h
  go_enter Tryz.func60, Tryz.ntmps60
  go_wp2_with fail
  go_loopw [5] (fun k wr => w = wr ∧ ∃ j : Nat, k = .int .i64 (j : Int) ∧ j ≤ ps.length ∧ ∀ i (hi : i < ps.length), i < j → ps[i].1 ≠ key) (fun k _ => ps.length - (intOf k).toNat)
  case atStart => exact ⟨rfl, 0, rfl, Nat.zero_le _, fun i _ hi => by omega⟩
  case round =>
    obtain ⟨rfl, j, rfl, hj, hno⟩ := hrel
    have HNO := hide hno
    clear hno
    by_cases hin : j < ps.length
    · have t1 : ((j : Int) < (ps.length : Int)) = True := eq_true (by omega)
      obtain ⟨g, cap', he, hB, hgl, c0, c1⟩ := (unhide HP).cells j hin
      injection he with he1 he2 he3
      subst he1; subst he3
      have heq := str_eq ps[j].1 key
      by_cases hk : ps[j].1 = key
      · have t2 : (ps[j].1 == key) = true := by rw [beq_iff_eq]; exact hk
        have HK := hide hk
        rw [t2] at heq
        clear hk t2
        go_wp2
        go_ret
        exact ⟨rfl, FindP.yes hin rfl (unhide HK)⟩
      · have t2 : (ps[j].1 == key) = false := by rw [beq_eq_false_iff_ne]; exact hk
        have HX : Hid (∀ i (hi : i < ps.length), i < j + 1 → ps[i].1 ≠ key) := fun i hi hij => by
          by_cases e : i = j
          · subst e; exact hk
          · exact unhide HNO i hi (by omega)
        rw [t2] at heq
        clear hk t2
        go_wp2
        go_roundw
        case rel => exact ⟨trivial, j + 1, by go_num, by omega, unhide HX⟩
        case measure => simp [intOf]; omega
    · have t1 : ((j : Int) < (ps.length : Int)) = False := eq_false (by omega)
      go_wp2
      go_ret
      exact ⟨rfl, FindP.no rfl (fun i hi => unhide HNO i hi (by omega))⟩

/-- The parts of a value. -/
theorem parts_ct (v : JV) (hok : okV v) (w : World) (hl : (ct v).length ≤ 1000000) :
    Calls Tryz.prog 47 #[.string (strOf (ct v))] w fun e w' => ∃ r, e = .returned r ∧ PR w' w.heap.size r (partsV v) ∧ Below w.heap.size w w' := by
  have leaf : ∀ (c : UInt8) (r : List UInt8), ct v = c :: r → c.toNat ≠ 91 → c.toNat ≠ 123 → partsV v = [] → Calls Tryz.prog 47 #[.string (strOf (ct v))] w fun e w' => ∃ r, e = .returned r ∧ PR w' w.heap.size r (partsV v) ∧ Below w.heap.size w w' := fun c r hc h1 h2 hp => by
    rw [hp, hc]
    obtain ⟨a, b⟩ := bt_first (c := c) (r := r)
    exact parts_leaf _ w a (by rw [b]; exact h1) (by rw [b]; exact h2)
  cases v with
  | arr l => rw [okV] at hok; exact parts_arr l hok w (by rw [strOf_size]; exact hl)
  | obj m => rw [okV] at hok; exact parts_obj m hok w (by rw [strOf_size]; exact hl)
  | nul => exact leaf 110 _ rfl (by decide) (by decide) rfl
  | tt => exact leaf 116 _ rfl (by decide) (by decide) rfl
  | ff => exact leaf 102 _ rfl (by decide) (by decide) rfl
  | num l =>
    have hp := num_plain hok
    cases l with
    | nil => exact absurd rfl hp.1
    | cons c r =>
      have := (hp.2 c List.mem_cons_self).1
      exact leaf c r rfl this.2.1 this.2.2.1 rfl
  | str l => exact leaf 34 (qs l ++ [34]) rfl (by decide) (by decide) rfl
theorem parts_len {v : JV} (hok : okV v) (hl : (ct v).length ≤ 1000000) : (partsV v).length ≤ 1000000 := by
  cases v with
  | arr l =>
    show (idxF 0 (ctL l)).length ≤ _
    rw [idxF_len]
    have : (strOf (ct (.arr l))).data.toList = 91 :: (joinC (ctL l) ++ [93]) := by rw [strOf_toList]; rfl
    have := keyLen this
    rw [strOf_size] at this
    omega
  | obj m =>
    show (isort (ctM m)).length ≤ _
    have : (strOf (ct (.obj m))).data.toList = 123 :: (joinC ((isort (ctM m)).map memT) ++ [125]) := by rw [strOf_toList]; rfl
    have := keyLen this
    rw [strOf_size, List.length_map] at this
    omega
  | nul => simp [partsV]
  | tt => simp [partsV]
  | ff => simp [partsV]
  | num l => simp [partsV]
  | str l => simp [partsV]

set_option maxRecDepth 100000 in
set_option maxHeartbeats 2000000 in
theorem child_walk (v : JV) (hok : okV v) (htw : twV v = false) (t : List UInt8) (ht : t.length ≤ 1048576) (w : World) (hl : (ct v).length ≤ 1000000) :
    Calls Tryz.prog 46 #[.string (strOf (ct v)), .string (strOf t)] w fun e w' => Below w.heap.size w w' ∧ ChildP v t e := by
  have HP : Hid (∀ w, Calls Tryz.prog 47 #[.string (strOf (ct v))] w fun e w' => ∃ r, e = .returned r ∧ PR w' w.heap.size r (partsV v) ∧ Below w.heap.size w w') := fun w => parts_ct v hok w hl
  have HI : Hid (∀ w, Calls Tryz.prog 81 #[.string (strOf t)] w fun e w' => e = .returned (.int .i64 (idxZ t)) ∧ w = w') := fun w => by
    have := l1Index_walk (strOf t) w (by rw [strOf_size]; exact ht)
    rwa [strOf_toList] at this
  have hpl := parts_len hok hl
  have hne := ct_ne v hok
  have h0 : 0 < (strOf (ct v)).size := by rw [strOf_size]; cases h : ct v with
    | nil => exact absurd h hne
    | cons _ _ => simp
  have hI : (0 : Int) < ((strOf (ct v)).size : Int) := by omega
  have hfirst : (strOf (ct v))[0].toNat = 91 ↔ ∃ l, v = .arr l := by
    rw [← bt_at _ 0 h0]
    constructor
    · intro h
      cases v with
      | arr l => exact ⟨l, rfl⟩
      | obj m => exact absurd h (by rw [show ct (.obj m) = 123 :: (joinC ((isort (ctM m)).map memT) ++ [125]) from rfl, (bt_first (c := 123) (r := joinC ((isort (ctM m)).map memT) ++ [125])).2]; decide)
      | nul => exact absurd h (by decide)
      | tt => exact absurd h (by decide)
      | ff => exact absurd h (by decide)
      | num l =>
        have hp := num_plain hok
        cases l with
        | nil => exact absurd rfl hp.1
        | cons c r =>
          have h2 : bt (strOf (c :: r)) 0 = 91 := h
          rw [(bt_first (c := c) (r := r)).2] at h2
          exact absurd h2 (hp.2 c List.mem_cons_self).1.2.1
      | str l => exact absurd h (by rw [show ct (.str l) = 34 :: (qs l ++ [34]) from rfl, (bt_first (c := 34) (r := qs l ++ [34])).2]; decide)
    · rintro ⟨l, rfl⟩
      exact (bt_first (c := 91) (r := joinC (ctL l) ++ [93])).2
  have HFO : Hid (((∃ l, v = .arr l) → (idxT t).isSome = true) → ∀ {j : Nat} (hj : j < (partsV v).length), (partsV v)[j].1 = t → ∃ u, childV v t = some u ∧ (partsV v)[j].2 = ct u) := fun hi {j} hj hk => child_found hok htw hi hj hk
  have HMI : Hid ((∀ j (hj : j < (partsV v).length), (partsV v)[j].1 ≠ t) → childV v t = none) := fun h => child_missed h
  have HNO : Hid ((∃ l, v = .arr l) → idxT t = none → childV v t = none) := fun ⟨l, e⟩ h => by subst e; rw [childV_arr, h]; rfl
  have hrest : ((∃ l, v = .arr l) → (idxT t).isSome = true) → ∀ w1 (r : Value), PR w1 w.heap.size r (partsV v) → Calls Tryz.prog 60 #[r, .string (strOf t)] w1 fun e w' => w1 = w' ∧ ChildP v t e := fun hi w1 r hr => by
    refine (find_at _ r (partsV v) t w1 hr (by omega)).mono ?_
    rintro e w' ⟨rfl, ⟨rfl, h⟩ | ⟨j, hj, rfl, hk⟩⟩
    · exact ⟨rfl, ChildP.no rfl (unhide HMI h)⟩
    · obtain ⟨u, h1, h2⟩ := unhide HFO hi hj hk
      exact ⟨rfl, ChildP.yes hj rfl ⟨h1, h2⟩⟩
  have HREST := hide hrest
  clear hrest HFO HMI
  by_cases ha : ∃ l, v = .arr l
  · have f1 : (((strOf (ct v))[0].toNat : Int) == 91) = true := by rw [beq_iff_eq]; have := hfirst.2 ha; omega
    cases hx : idxT t with
    | none =>
      have HN := hide (unhide HNO ha hx)
      have ez : idxZ t = -1 := by unfold idxZ; rw [hx]
      rw [ez] at HI
      clear hfirst HNO HREST ha hx ez HP hne hok htw
      generalize strOf (ct v) = T at *
      go_enter Tryz.func46, Tryz.ntmps46
      go_wp2_with fail
      refine (unhide HI _).mono ?_
      rintro e w1 ⟨rfl, rfl⟩
      clear HI
      go_wp2
      go_ret
      exact ⟨Below.refl _ _, ChildP.no rfl (unhide HN)⟩
    | some i =>
      have HR := hide (unhide HREST (fun _ => by rw [hx]; rfl))
      have ez : idxZ t = (i : Int) := by unfold idxZ; rw [hx]
      rw [ez] at HI
      have ti : ¬ (i : Int) < 0 := by omega
      clear hfirst HNO HREST ha hx ez hne hok htw
      generalize strOf (ct v) = T at *
      go_enter Tryz.func46, Tryz.ntmps46
      go_wp2_with fail
      refine (unhide HI _).mono ?_
      rintro e w1 ⟨rfl, rfl⟩
      clear HI
      go_wp2_with fail
      refine (unhide HP _).mono ?_
      rintro e w1 ⟨r, rfl, p1, b1⟩
      have HR1 := hide (unhide HR w1 r p1)
      clear HP HR p1
      go_wp2_with fail
      refine (unhide HR1).mono ?_
      rintro e w2 ⟨rfl, ⟨rfl, h⟩ | ⟨j, hj, u, rfl, h1, h2⟩⟩
      · clear HR1
        have HH := hide h
        clear h
        go_wp2
        go_ret
        exact ⟨b1, ChildP.no rfl (unhide HH)⟩
      · clear HR1
        have HH := hide (⟨h1, h2⟩ : childV v t = some u ∧ (partsV v)[j].2 = ct u)
        clear h1 h2
        go_wp2
        go_ret
        exact ⟨b1, ChildP.yes hj rfl (unhide HH)⟩
  · have f1 : (((strOf (ct v))[0].toNat : Int) == 91) = false := by rw [beq_eq_false_iff_ne]; intro e; exact ha (hfirst.1 (by omega))
    have HR := hide (unhide HREST (fun h => absurd h ha))
    clear hfirst HNO HREST ha hne hok htw HI
    generalize strOf (ct v) = T at *
    go_enter Tryz.func46, Tryz.ntmps46
    go_wp2_with fail
    refine (unhide HP _).mono ?_
    rintro e w1 ⟨r, rfl, p1, b1⟩
    have HR1 := hide (unhide HR w1 r p1)
    clear HP HR p1
    go_wp2_with fail
    refine (unhide HR1).mono ?_
    rintro e w2 ⟨rfl, ⟨rfl, h⟩ | ⟨j, hj, u, rfl, h1, h2⟩⟩
    · clear HR1
      have HH := hide h
      clear h
      go_wp2
      go_ret
      exact ⟨b1, ChildP.no rfl (unhide HH)⟩
    · clear HR1
      have HH := hide (⟨h1, h2⟩ : childV v t = some u ∧ (partsV v)[j].2 = ct u)
      clear h1 h2
      go_wp2
      go_ret
      exact ⟨b1, ChildP.yes hj rfl (unhide HH)⟩
end Go.Proofs.YtdbppklmmdmgjacGreatDoor

namespace Go.Proofs.YtdbppklmmdmgjacGreatDoor
open Go.RowKit

theorem infoHit : (Tryz.prog.info? 54).map (fun i => (i.zero, i.size, i.bytes)) = some (some (.agg #[.string ByteArray.empty, .string ByteArray.empty]), 2, 32) := by kernel_rfl
/-- A row of hits that the call owns. -/
def HR (w : World) (B : Nat) (v : Value) (hs : List Part) : Prop := w.ownsRow B 54 2 v hs.length (hs.flatMap partC)
theorem HR.below {w w' : World} {B : Nat} {v : Value} {hs : List Part} (h : HR w B v hs) (hb : Below w.heap.size w w') : HR w' B v hs := own_below h hb
theorem HR.cells {w : World} {B : Nat} {v : Value} {ps : List Part} (h : HR w B v ps) (j : Nat) (hj : j < ps.length) :
    ∃ g cap, v = .slice (some ⟨g, 0, none⟩) ps.length cap ∧ B ≤ g ∧ g < w.heap.size ∧ w.cell? ⟨g, j * 2, none⟩ = some (.string (strOf ps[j].1)) ∧ w.cell? ⟨g, j * 2 + 1, none⟩ = some (.string (strOf ps[j].2)) := by
  obtain ⟨hl, h0 | ⟨g, cap, cur, hv, hB, hg, hn, hc, hsz, ht⟩⟩ := h
  · omega
  · have hc0 := part_at ps j hj
    refine ⟨g, cap, hv, hB, (Array.getElem?_eq_some_iff.1 hg).1, ?_, ?_⟩
    · rw [Lib.cell_of_heap hg, ← Array.getElem?_toList, ← hc0.1, ← ht, List.getElem?_take_of_lt (by omega)]
    · rw [Lib.cell_of_heap hg, ← Array.getElem?_toList, ← hc0.2, ← ht, List.getElem?_take_of_lt (by omega)]
theorem partC_len (hs : List Part) : (hs.flatMap partC).length = hs.length * 2 := by
  induction hs with
  | nil => rfl
  | cons p r ih => rw [List.flatMap_cons, List.length_append, ih, List.length_cons]; simp [partC]; omega
theorem partC_one (hs : List Part) : ∀ u ∈ hs.flatMap partC, u.oneCell' = true := by
  intro u hu
  obtain ⟨p, _, hp⟩ := List.mem_flatMap.1 hu
  simp [partC] at hp
  rcases hp with rfl | rfl <;> rfl
theorem one_text (k : List UInt8) (w : World) (hk : k.length ≤ 1000000) (g : Nat) (c : w.cell? ⟨g, 0, none⟩ = some (.string (strOf k))) :
    Calls Tryz.prog 56 #[.slice (some ⟨g, 0, none⟩) 1 1] w fun e w' => e = .returned (.string (strOf (47 :: esc k))) ∧ Below w.heap.size w w' := by
  have h : SS w (some ⟨g, 0, none⟩) g 0 [strOf k] := ⟨fun _ => rfl, fun j hj => by
    have : j = 0 := by simp at hj; omega
    subst this; exact c⟩
  have ht : [strOf k].length + tot [strOf k] ≤ 1048576 := by simp [tot, strOf_size]; omega
  have e : ptrText [strOf k] = 47 :: esc k := by simp [ptrText, strOf_toList]
  have := specText_walk (some ⟨g, 0, none⟩) g 0 1 [strOf k] w h ht
  rw [e] at this
  exact this

set_option maxRecDepth 100000 in
set_option maxHeartbeats 8000000 in
/-- The model's places. -/
theorem hits_walk : ∀ (n : Nat) (v : JV) (p : List UInt8) (w : World), okV v → twV v = false → depV v ≤ n → (ct v).length ≤ 1000000 → p.length + 2 * (ct v).length ≤ 4000000 → cntV v ≤ 1000000 →
    Calls Tryz.prog 28 #[.string (strOf (ct v)), .string (strOf p)] w fun e w' => ∃ r, e = .returned r ∧ HR w' w.heap.size r (hitF n p v) ∧ Below w.heap.size w w' := by
  intro n
  induction n with
  | zero => intro v p w _ _ h; have := (dep_cnt v).2; omega
  | succ n ih =>
    intro v p w hok htw hd hl0 hl hc
    obtain ⟨i0, hi0, hz0, hz1, hz2⟩ := info_parts infoHit
    have HPA : Hid (∀ w, Calls Tryz.prog 47 #[.string (strOf (ct v))] w fun e w' => ∃ r, e = .returned r ∧ PR w' w.heap.size r (partsV v) ∧ Below w.heap.size w w') := fun w => parts_ct v hok w (by omega)
    rw [parts_kids] at HPA
    have HREC : Hid (∀ k (hk : k < (kidsV v).length) (w : World), (kidsV v)[k].1.length + (ct (kidsV v)[k].2).length ≤ 1000000 ∧ (ptrN p (kidsV v)[k].1).length ≤ 4000000 ∧ (hitF n (ptrN p (kidsV v)[k].1) (kidsV v)[k].2).length = cntV (kidsV v)[k].2 ∧ Calls Tryz.prog 28 #[.string (strOf (ct (kidsV v)[k].2)), .string (strOf (ptrN p (kidsV v)[k].1))] w fun e w' => ∃ r, e = .returned r ∧ HR w' w.heap.size r (hitF n (ptrN p (kidsV v)[k].1) (kidsV v)[k].2) ∧ Below w.heap.size w w') := fun k hk w => by
      obtain ⟨a, b, c, d⟩ := kids_ok hok htw (List.getElem_mem hk)
      have e1 := ptrN_len p (kidsV v)[k].1
      have e2 : cntV (kidsV v)[k].2 ≤ cntV v := by
        have := kids_take_cnt v (k + 1)
        rw [List.take_succ_eq_append_getElem hk, List.map_append, List.sum_append] at this
        simp at this; omega
      exact ⟨by omega, by omega, hitF_len n _ _ a b (by omega), ih _ _ w a b (by omega) (by omega) (by omega) (by omega)⟩
    have HT : Hid (∀ k, k ≤ (kidsV v).length → (((kidsV v).take k).flatMap fun q => hitF n (ptrN p q.1) q.2).length + 1 ≤ cntV v) := fun k hk => by
      rw [flatK_len _ (fun q => cntV q.2) _ (fun q hq => by
        obtain ⟨a, b, c, _⟩ := kids_ok hok htw (List.mem_of_mem_take hq)
        exact hitF_len n _ q.2 a b (by omega))]
      exact kids_take_cnt v k
    have HF : Hid (∀ k (hk : k < (kidsV v).length), (((kidsV v).take (k + 1)).flatMap fun q => hitF n (ptrN p q.1) q.2) = (((kidsV v).take k).flatMap fun q => hitF n (ptrN p q.1) q.2) ++ hitF n (ptrN p (kidsV v)[k].1) (kidsV v)[k].2) := fun k hk => flat_take (fun q : List UInt8 × JV => hitF n (ptrN p q.1) q.2) (kidsV v) k hk
    have HE : Hid (hitF (n + 1) p v = (p, ct v) :: (((kidsV v).take (kidsV v).length).flatMap fun q => hitF n (ptrN p q.1) q.2)) := by
      show _ = _
      rw [hitF, List.take_of_length_le (Nat.le_refl _)]
    generalize hitF (n + 1) p v = R at *
    have hkl : (kidsV v).length ≤ 1000000 := by
      have := unhide HT (kidsV v).length (Nat.le_refl _)
      have h2 : (kidsV v).length ≤ ((kidsV v).map fun q => cntV q.2).sum := by
        have : ∀ l : List (List UInt8 × JV), l.length ≤ (l.map fun q => cntV q.2).sum := by
          intro l
          induction l with
          | nil => simp
          | cons q r ih => have h3 := (dep_cnt q.2); rw [List.map_cons, List.sum_cons, List.length_cons]; omega
        exact this _
      have h4 := kids_cnt v
      omega
    have hml : ((kidsV v).map kt).length = (kidsV v).length := List.length_map _
    generalize kidsV v = K at *
    clear hok htw hd ih
    have hcv : (strOf (ct v)).size ≤ 1000000 := by rw [strOf_size]; omega
    have hpl : p.length ≤ 4000000 := by omega
    go_enter Tryz.func28, Tryz.ntmps28
    go_wp2_with fail
    refine (unhide HPA _).mono ?_
    rintro e w1 ⟨r1, rfl, p1, b1⟩
    have O0 : Hid (HR (w.alloc (.cells #[.string (strOf p), .string (strOf (ct v))] 54)) w.heap.size (.slice (some ⟨w.heap.size, 0, none⟩) 1 1) [(p, ct v)]) := World.ownsRow_lit w #[.string (strOf p), .string (strOf (ct v))] 1 (Nat.le_refl _) (by unfold maxLen; omega) rfl
    have B0 : Hid (Below w.heap.size w (w.alloc (.cells #[.string (strOf p), .string (strOf (ct v))] 54))) := (Below.refl _ _).alloc (Nat.le_refl _) _
    have O1 := hide ((unhide O0).below b1)
    have B1 := hide ((unhide B0).trans (b1.mono (unhide B0).size))
    have P1 : Hid (PR w1 w.heap.size r1 (K.map kt)) := p1.mono (unhide B0).size
    obtain ⟨x1, cap1, rfl⟩ : ∃ x cap, r1 = .slice x K.length cap := by
      rcases p1.2 with ⟨hv, h0⟩ | ⟨g, cap, cur, hv, _⟩
      · rw [hml] at h0; exact ⟨none, 0, by rw [hv, h0]⟩
      · rw [hml] at hv; exact ⟨_, _, hv⟩
    clear HPA p1 b1 O0 B0
    go_wp2_with fail
    go_loopw [5, 7] (fun u i wr => ∃ k : Nat, k ≤ K.length ∧ i = .int .i64 (k : Int) ∧ HR wr w.heap.size u ((p, ct v) :: ((K.take k).flatMap fun q => hitF n (ptrN p q.1) q.2)) ∧ PR wr w.heap.size (.slice x1 K.length cap1) (K.map kt) ∧ Below w.heap.size w wr) (fun _ i _ => K.length - (intOf i).toNat)
    case atStart => exact ⟨0, Nat.zero_le _, rfl, by simpa using unhide O1, unhide P1, unhide B1⟩
    case round =>
      obtain ⟨k, hk, rfl, ho, hpr, hb⟩ := hrel
      clear O1 P1 B1
      have hwsz := hb.size
      by_cases hlt : k < K.length
      · have hltI : (k : Int) < (K.length : Int) := by omega
        obtain ⟨g, cap', he, hgB, hgl, c0, c1⟩ := hpr.cells k (by rw [hml]; exact hlt)
        injection he with he1 he2 he3
        subst he1; subst he3
        have ek : (K.map kt)[k]'(by rw [hml]; exact hlt) = kt K[k] := List.getElem_map _
        rw [ek] at c0 c1
        obtain ⟨l1, l2, l3, _⟩ := unhide HREC k hlt w
        have HRC : Hid (∀ w, Calls Tryz.prog 28 #[.string (strOf (ct K[k].2)), .string (strOf (ptrN p K[k].1))] w fun e w' => ∃ r, e = .returned r ∧ HR w' w.heap.size r (hitF n (ptrN p K[k].1) K[k].2) ∧ Below w.heap.size w w') := fun w => (unhide HREC k hlt w).2.2.2
        have l4 := unhide HT (k + 1) hlt
        have l5 := unhide HT k hk
        rw [unhide HF k hlt, List.length_append] at l4
        have l6 := (dep_cnt K[k].2)
        have HEK : Hid ((p, ct v) :: ((K.take (k + 1)).flatMap fun q => hitF n (ptrN p q.1) q.2) = ((p, ct v) :: ((K.take k).flatMap fun q => hitF n (ptrN p q.1) q.2)) ++ hitF n (ptrN p K[k].1) K[k].2) := by
          show _ = _
          rw [unhide HF k hlt]; rfl
        have hcat : strOf p ++ strOf (47 :: esc K[k].1) = strOf (ptrN p K[k].1) := strOf_app _ _
        have hzz : (9223372036854775807 < (strOf p).size + (strOf (47 :: esc K[k].1)).size) = False := eq_false (by
          rw [strOf_size, strOf_size]
          have := esc_le K[k].1
          simp only [List.length_cons]; omega)
        have hAl : ((p, ct v) :: ((K.take k).flatMap fun q => hitF n (ptrN p q.1) q.2)).length + (hitF n (ptrN p K[k].1) K[k].2).length ≤ 1000000 := by
          simp only [List.length_cons]; omega
        have hZ0 : 1 ≤ (hitF n (ptrN p K[k].1) K[k].2).length := by omega
        have HT1 : Hid (∀ (w : World) (g : Nat), w.cell? ⟨g, 0, none⟩ = some (.string (strOf K[k].1)) → Calls Tryz.prog 56 #[.slice (some ⟨g, 0, none⟩) 1 1] w fun e w' => e = .returned (.string (strOf (47 :: esc K[k].1))) ∧ Below w.heap.size w w') := fun w g c => one_text K[k].1 w (by omega) g c
        have d0 : wr.cell? ⟨g, k * 2, none⟩ = some (.string (strOf K[k].1)) := c0
        have d1 : wr.cell? ⟨g, k * 2 + 1, none⟩ = some (.string (strOf (ct K[k].2))) := c1
        have HO := hide ho
        have HPR := hide hpr
        have HB := hide hb
        clear c0 c1 ek he2 hml HREC HT HF HE l1 l2 l3 l4 l5 l6 ho hpr hb
        generalize (p, ct v) :: ((K.take k).flatMap fun q => hitF n (ptrN p q.1) q.2) = A at *
        generalize hitF n (ptrN p K[k].1) K[k].2 = Z at *
        generalize strOf (ptrN p K[k].1) = np at *
        generalize strOf (47 :: esc K[k].1) = tk at *
        generalize strOf K[k].1 = key at *
        generalize strOf (ct K[k].2) = tx at *
        have bA0 : Below wr.heap.size wr (wr.alloc (.cells #[.string key] 9)) := (Below.refl _ _).alloc (Nat.le_refl _) _
        have bA : Below wr.heap.size wr ((wr.alloc (.cells #[.string key] 9)).drew) := bA0.drew
        have a0 : (wr.alloc (.cells #[.string key] 9)).cell? ⟨g, k * 2, none⟩ = some (.string key) := (bA0.cell (p := ⟨g, k * 2, none⟩) hgl).trans d0
        have a1 : (wr.alloc (.cells #[.string key] 9)).cell? ⟨g, k * 2 + 1, none⟩ = some (.string tx) := (bA0.cell (p := ⟨g, k * 2 + 1, none⟩) hgl).trans d1
        have aT : ((wr.alloc (.cells #[.string key] 9)).drew).cell? ⟨wr.heap.size, 0, none⟩ = some (.string key) := lit1 wr 9 (.string key) 0 _ rfl
        have HBA := hide bA
        have HTA := hide (unhide HT1 _ _ aT)
        clear bA HT1 bA0 aT
        go_wp2_with fail
        go_region_law (first
            | (refine step_append_own rfl (.tmp 20) (.tmp 35) 51 rfl w.heap.size 54 i0 (.agg #[.string ByteArray.empty, .string ByteArray.empty]) 2 32 Tryz.underlying51 hi0 hz0 hz1 hz2 rfl (by decide) _ _ _ rfl (by exact own5) ⟨g5, 0, none⟩ Z.length cap5 (Z.flatMap partC) rfl (partC_len Z) (by exact unhide HCELL) (partC_one Z) (by unfold maxLen; omega) (by omega) (by omega) ?_
               intro v6 w6 own6 hg6)
            | (have hb4 := b4; go_simp; refine (unhide HRC _).mono ?_; rintro e w5 ⟨r5, rfl, h5, b5⟩
               have b5' := below_next b4' b5
               have own5 := own_below (unhide HO) b5'
               have P5 := (unhide HPR).below b5'
               have B5 := (unhide HB).trans (b5'.mono hwsz)
               have hw5 := B5.size
               obtain ⟨g5, cap5, rfl⟩ : ∃ g5 cap5, r5 = .slice (some ⟨g5, 0, none⟩) Z.length cap5 := (by
                 rcases h5.2 with ⟨_, h0⟩ | ⟨g5, cap5, cur5, hv5, _⟩
                 · omega
                 · exact ⟨g5, cap5, hv5⟩)
               have HCELL : Hid (∀ j u, (Z.flatMap partC)[j]? = some u → w5.cell? ((⟨g5, 0, none⟩ : Addr).add j) = some u) := fun j u hj => World.ownsRow.cells h5 rfl j u hj)
            | (go_simp; refine (unhide HTA).mono ?_; rintro e w4 ⟨rfl, b4⟩
               have b4' := below_next (unhide HBA) b4
               have k0 : w4.cell? ⟨g, k * 2, none⟩ = some (.string key) := (b4'.cell (p := ⟨g, k * 2, none⟩) hgl).trans d0
               have k1 : w4.cell? ⟨g, k * 2 + 1, none⟩ = some (.string tx) := (b4'.cell (p := ⟨g, k * 2 + 1, none⟩) hgl).trans d1))
        all_goals
          have O6 : Hid (HR w6 w.heap.size v6 (A ++ Z)) := by
            show HR w6 w.heap.size v6 (A ++ Z)
            unfold HR
            rw [List.length_append, List.flatMap_append]
            exact own6
          have B6 : Hid (Below w.heap.size w w6) := B5.grown hg6 hw5 (fun k hk => (own5.lt k hk).1)
          have P6 : Hid (PR w6 w.heap.size (.slice (some ⟨g, 0, none⟩) K.length cap1) (K.map kt)) := World.ownsRow.kept P5 hg6 (own_apart P5 own5 (by decide))
          clear own6 hg6 B5 P5 own5 h5 b5 b5' HCELL b4 b4' k0 k1 a0 a1 d0 d1 HBA HTA HRC HO HPR HB
          go_wp2
          go_roundw
        all_goals first
          | exact ⟨k + 1, by omega, by go_num, by rw [unhide HEK]; exact unhide O6, unhide P6, unhide B6⟩
          | (simp [intOf]; omega)
      · have hk' : k = K.length := by omega
        subst hk'
        have e := unhide HE
        rw [← e] at ho
        have HO := hide ho
        have HB := hide hb
        clear ho hb e HREC HT HF HE hpr hml
        go_wp2
        go_ret
        exact ⟨_, rfl, unhide HO, unhide HB⟩
end Go.Proofs.YtdbppklmmdmgjacGreatDoor

namespace Go.Proofs.YtdbppklmmdmgjacGreatDoor
open Go.RowKit

/-- What Places answers. -/
def placesL (s : ByteArray) : List (List UInt8) := match readR s with
  | .inl _ => []
  | .inr v => plF (depV v) [] v
def placesC (s : ByteArray) : Int := match readR s with
  | .inl _ => 1
  | .inr _ => 0
theorem places_len (s : ByteArray) : (placesL s).length ≤ 3000 := by
  unfold placesL
  cases hr : readR s with
  | inl c => simp
  | inr v =>
    obtain ⟨_, hd, htw, _, _, hc⟩ := read_facts hr
    obtain ⟨hok, _, _⟩ := doc_facts hd
    simp only
    rw [plF_len hok htw (Nat.le_refl _)]
    exact hc

set_option maxRecDepth 100000 in
set_option maxHeartbeats 4000000 in
theorem specPlaces_walk (s : ByteArray) (w : World) (hs : s.size ≤ 1048576) :
    Calls Tryz.prog 9 #[.string s] w fun e w' => ∃ v, e = .returned (.tuple #[v, .int .i64 (placesC s)]) ∧ OT w' w.heap.size v (placesL s) ∧ Below w.heap.size w w' := by
  obtain ⟨i0, hi, hz0, hz1, hz2⟩ := info_parts infoString
  have HF : Hid (∀ w, Calls Tryz.prog 21 #[.string s] w fun e w' => e = .returned (canonV s) ∧ Below w.heap.size w w') := fun w => specCanon_walk s w hs
  have HO : Hid (OT (w.alloc (.cells #[] 9)) w.heap.size (.slice (some ⟨w.heap.size, 0, none⟩) 0 0) []) := World.ownsRow_lit w #[] 0 (Nat.le_refl _) (by unfold maxLen; omega) rfl
  have HB0 : Hid (Below w.heap.size w (w.alloc (.cells #[] 9))) := (Below.refl _ _).alloc (Nat.le_refl _) _
  cases hr : readR s with
  | inl c =>
    obtain ⟨c1, c2⟩ := read_code hr
    have HC : Hid (placesC s = 1 ∧ placesL s = []) := by
      show _ ∧ _
      unfold placesC placesL; rw [hr]; exact ⟨rfl, rfl⟩
    have e0 : canonV s = .tuple #[.string ⟨#[]⟩, .int .i64 (c : Int)] := by unfold canonV; rw [hr]
    rw [e0] at HF
    have t1 : ((c : Int) == 0) = false := by simp; omega
    have t2 : ((c : Int) != 0) = true := by simp; omega
    have t3 : ¬ (c : Int) = 0 := by omega
    have t4 : ¬ c = 0 := by omega
    clear hr e0
    go_enter Tryz.func9, Tryz.ntmps9
    go_wp2_with fail
    refine (unhide HF _).mono ?_
    rintro e w1 ⟨rfl, b1⟩
    have O1 := hide (own_below (unhide HO) b1)
    have B1 := hide ((unhide HB0).trans (b1.mono (unhide HB0).size))
    clear HF b1 HO
    go_wp2
    go_ret2
    exact ⟨_, by rw [(unhide HC).1]; rfl, by rw [(unhide HC).2]; exact unhide O1, unhide B1⟩
  | inr v =>
    obtain ⟨hss, hd, htw, _, hdp, hcn⟩ := read_facts hr
    obtain ⟨hok, _, hln⟩ := doc_facts hd
    have HC : Hid (placesC s = 0 ∧ placesL s = (hitF (depV v) [] v).map (·.1)) := by
      show _ ∧ _
      unfold placesC placesL; rw [hr]; exact ⟨rfl, rfl⟩
    have e0 : canonV s = .tuple #[.string (strOf (ct v)), .int .i64 0] := by unfold canonV; rw [hr]
    rw [e0] at HF
    have HH : Hid (∀ w, Calls Tryz.prog 28 #[.string (strOf (ct v)), .string ⟨#[]⟩] w fun e w' => ∃ r, e = .returned r ∧ HR w' w.heap.size r (hitF (depV v) [] v) ∧ Below w.heap.size w w') := fun w => hits_walk (depV v) v [] w hok htw (Nat.le_refl _) (by omega) (by simp; omega) (by omega)
    have hHl : (hitF (depV v) [] v).length ≤ 3000 := by rw [hitF_len _ _ _ hok htw (Nat.le_refl _)]; exact hcn
    generalize hitF (depV v) [] v = H at *
    generalize strOf (ct v) = cv at *
    clear hr e0 hd htw hok hdp hcn hln hss
    go_enter Tryz.func9, Tryz.ntmps9
    go_wp2_with fail
    refine (unhide HF _).mono ?_
    rintro e w1 ⟨rfl, b1⟩
    have O1 := hide (own_below (unhide HO) b1)
    have B1 := hide ((unhide HB0).trans (b1.mono (unhide HB0).size))
    have hw1 := (unhide B1).size
    clear HF b1 HO HB0
    go_wp2_with fail
    refine (unhide HH _).mono ?_
    rintro e w2 ⟨r2, rfl, h2, b2⟩
    have O2 := hide (own_below (unhide O1) b2)
    have B2 := hide (below_next (unhide B1) b2)
    obtain ⟨x2, cap2, rfl⟩ : ∃ x cap, r2 = .slice x H.length cap := by
      rcases h2.2 with ⟨hv, h0⟩ | ⟨g, cap, cur, hv, _⟩
      · exact ⟨none, 0, by rw [hv, h0]⟩
      · exact ⟨_, _, hv⟩
    have H2 := hide h2
    clear HH O1 B1 b2 h2
    go_wp2_with fail
    go_loopw [4, 8] (fun u i wr => ∃ k : Nat, k ≤ H.length ∧ i = .int .i64 (k : Int) ∧ OT wr w.heap.size u ((H.map (·.1)).take k) ∧ HR wr w1.heap.size (.slice x2 H.length cap2) H ∧ Below w.heap.size w wr) (fun _ i _ => H.length - (intOf i).toNat)
    case atStart => exact ⟨0, Nat.zero_le _, rfl, unhide O2, unhide H2, unhide B2⟩
    case round =>
      obtain ⟨k, hk, rfl, ho, hh, hb⟩ := hrel
      have hlen : ((H.map (·.1)).take k).length = k := by rw [List.length_take, List.length_map]; omega
      have hwsz := hb.size
      have HB := hide hb
      clear O2 H2 B2 hb
      by_cases hlt : k < H.length
      · have hltI : (k : Int) < (H.length : Int) := by omega
        obtain ⟨g, cap', he, hgB, hgl, c0, c1⟩ := hh.cells k hlt
        injection he with he1 he2 he3
        subst he1; subst he3
        have HST : Hid ((H.map (·.1)).take (k + 1) = (H.map (·.1)).take k ++ [H[k].1]) := by
          show _ = _
          rw [List.take_succ_eq_append_getElem (by rw [List.length_map]; exact hlt)]; simp
        have HHH := hide hh
        generalize H[k].1 = t at *
        generalize (H.map (·.1)).take k = ts at *
        clear hh c1
        go_wp2_with (at_builtin; refine wpList_append_own _ rfl (.tmp 26) (.tmp 32) 25 rfl w.heap.size 9 i0 (.string ByteArray.empty) 1 16 Tryz.underlying25 hi hz0 hz1 hz2 rfl (by decide) _ _ _ rfl (ho.alloc _) ⟨wr.heap.size, 0, none⟩ 1 1 [.string (strOf t)] rfl rfl (lit1 _ _ _) (one_tok _) (by unfold maxLen; omega) (by omega) (by simp; omega) ?_)
        intro v3 w3 own3 hg3 _
        have O3 : Hid (OT w3 w.heap.size v3 (ts ++ [t])) := OT.step (t := t) (by rw [hlen]; exact own3)
        have B3 : Hid (Below w.heap.size w w3) := ((unhide HB).alloc (by omega) _).grown hg3 (by simp; omega) (fun k hk => (ho.lt k hk).1)
        have H3 : Hid (HR w3 w1.heap.size (.slice (some ⟨g, 0, none⟩) H.length cap2) H) := World.ownsRow.kept (World.ownsRow.alloc (unhide HHH) _) hg3 (own_apart (unhide HHH) ho (by decide))
        clear own3 hg3 ho HB HHH c0
        go_wp2
        go_roundw
        case rel => exact ⟨k + 1, by omega, by go_num, by rw [unhide HST]; exact unhide O3, unhide H3, unhide B3⟩
        case measure => simp [intOf]; omega
      · have hk' : k = H.length := by omega
        subst hk'
        have e : (H.map (·.1)).take H.length = H.map (·.1) := List.take_of_length_le (by rw [List.length_map]; omega)
        rw [e] at ho
        have HO := hide ho
        clear ho e hh
        go_wp2
        go_ret2
        exact ⟨_, by rw [(unhide HC).1]; rfl, by rw [(unhide HC).2]; exact unhide HO, unhide HB⟩
end Go.Proofs.YtdbppklmmdmgjacGreatDoor

namespace Go.Proofs.YtdbppklmmdmgjacGreatDoor
open Go.RowKit Go.Sort

set_option maxRecDepth 100000 in
set_option maxHeartbeats 4000000 in
theorem implPlaces_walk (s : ByteArray) (w : World) (hT : TabsB w.heap.size w) (hE : ErrB w.heap.size w) (hP : PowB w.heap.size w) (hs : s.size ≤ 1048576) :
    Calls Tryz.prog 10 #[.string s] w fun e w' => ∃ v, e = .returned (.tuple #[v, .int .i64 (placesC s)]) ∧ OT w' w.heap.size v (placesL s) ∧ Below w.heap.size w w' := by
  have HF := hide (readText_walk s w hT hE hP (by omega))
  have HP := hide hP
  clear hT hE hP
  cases hr : readR s with
  | inl c =>
    obtain ⟨c1, c2⟩ := read_code hr
    have HC : Hid (placesC s = 1 ∧ placesL s = []) := by
      show _ ∧ _
      unfold placesC placesL; rw [hr]; exact ⟨rfl, rfl⟩
    rw [hr] at HF
    have t1 : ((c : Int) == 0) = false := by simp; omega
    have t2 : ((c : Int) != 0) = true := by simp; omega
    have t3 : ¬ (c : Int) = 0 := by omega
    have t4 : ¬ c = 0 := by omega
    clear hr
    go_enter Tryz.func10, Tryz.ntmps10
    go_wp2_with fail
    refine (unhide HF).mono ?_
    rintro e w1 ⟨b1, rfl⟩
    clear HF
    go_wp2
    go_ret2
    exact ⟨_, by rw [(unhide HC).1]; rfl, by rw [(unhide HC).2]; exact World.ownsRow_nil w1 w.heap.size 9 1, b1⟩
  | inr v =>
    obtain ⟨hss, hd, htw, _, hdp, hcn⟩ := read_facts hr
    obtain ⟨hok, _, hln⟩ := doc_facts hd
    have HC : Hid (placesC s = 0 ∧ placesL s = plF (depV v) [] v) := by
      show _ ∧ _
      unfold placesC placesL; rw [hr]; exact ⟨rfl, rfl⟩
    rw [hr] at HF
    have HPL : Hid (∀ (w1 : World) (ty : TypeId) (p : Value), Below w.heap.size w w1 → Rep w1 (fun k => w.heap.size ≤ k ∧ k < w1.heap.size) v (.iface ty p) → Calls Tryz.prog 29 #[.slice none 0 0, .string ⟨#[]⟩, .iface ty p] w1 fun e w' => ∃ r, e = .returned r ∧ OT w' w1.heap.size r ([] ++ plF (depV v) [] v) ∧ PF w1.heap.size w1 w') := fun w1 ty p b1 rep =>
      places_walk (depV v) v [] [] (.slice none 0 0) w1 ty p w1.heap.size _ hok htw (Nat.le_refl _) (by omega) (by simp; omega) (by simp; omega) (World.ownsRow_nil w1 w1.heap.size 9 1) rep (fun k hk => hk.2) (Nat.le_refl _) (((unhide HP).next b1 (Nat.le_refl _)).more b1.size)
    clear hr hd htw hok hdp hcn hln hss HP
    go_enter Tryz.func10, Tryz.ntmps10
    go_wp2_with fail
    refine (unhide HF).mono ?_
    rintro e w1 ⟨b1, ty, p, rfl, rep⟩
    have HP1 := hide (unhide HPL w1 ty p b1 rep)
    have B1 := hide b1
    clear HF rep b1 HPL
    go_wp2_with fail
    refine (unhide HP1).mono ?_
    rintro e w2 ⟨r2, rfl, o2, f2⟩
    have O2 := hide (own_mono o2 (unhide B1).size)
    have B2 := hide (below_next (unhide B1) f2.1)
    clear HP1 o2 f2
    go_wp2
    go_ret2
    exact ⟨_, by rw [(unhide HC).1]; rfl, by rw [(unhide HC).2]; exact unhide O2, unhide B2⟩

set_option maxHeartbeats 2000000 in
set_option maxRecDepth 100000 in
theorem placesLaw_in (s : ByteArray) (w : World) (hT : Tabs w) (hE : ErrB w.heap.size w) (hP : PowB w.heap.size w) :
    Calls Tryz.prog 4 #[.string s] w fun e w' => e = .returned (.bool true) ∧ Below w.heap.size w w' := by
  by_cases hsz : s.size ≤ 1048576
  · have hlen := places_len s
    have HS := hide (specPlaces_walk s w hsz)
    have HI : Hid (∀ w1, Below w.heap.size w w1 → Calls Tryz.prog 10 #[.string s] w1 fun e w' => ∃ v, e = .returned (.tuple #[v, .int .i64 (placesC s)]) ∧ OT w' w1.heap.size v (placesL s) ∧ Below w1.heap.size w1 w') := fun w1 hb => implPlaces_walk s w1 (TabsB.of (hT.below hb)) ⟨Nat.lt_of_lt_of_le hE.1 hb.size, (hE.next hb (Nat.le_refl _)).2⟩ ((hP.next hb (Nat.le_refl _)).more hb.size) hsz
    generalize placesC s = ok at *
    generalize placesL s = ts at *
    clear hT hE hP
    go_enter Tryz.func4, Tryz.ntmps4
    go_wp2_with fail
    refine (unhide HS).mono ?_
    rintro e w1 ⟨v0, rfl, o1, b1⟩
    have HC2 := hide (unhide HI w1 b1)
    have O1 := hide o1
    clear HS o1
    go_wp2_with fail
    refine (unhide HC2).mono ?_
    rintro e w2 ⟨v1, rfl, o2, b2⟩
    have HE := hide (eqT_walk v1 v0 ts w2 o2 (own_below (unhide O1) b2) (by omega))
    have O2 := hide o2
    clear HC2 o2
    go_wp2_with fail
    refine (unhide HE).mono ?_
    rintro e w3 ⟨rfl, n3, rfl⟩
    have b3 : Below w1.heap.size w1 (w2.drewN n3) := b2.trans (below_draws _ _ _)
    have o3 : (w2.drewN n3).ownsRow w1.heap.size 9 1 v1 ts.length (ts.map tokCell) := unhide O2
    have HM := hide (markS_walk w1.heap.size v1 ts.length 1 _ (w2.drewN n3) o3 b3.size (by omega) (Nat.le_refl _) (by omega))
    clear HE O2 o3
    generalize w2.drewN n3 = w3 at *
    go_wp2_with fail
    refine (unhide HM).mono ?_
    rintro e w4 ⟨rfl, o4, b4⟩
    have b4' := b3.trans b4
    have HH := hide (heldS_walk w1.heap.size v1 ts.length 1 w4 o4 (by omega) (Nat.le_refl _) (by omega))
    have O4 := hide o4
    clear HM o4 b4 b3 b2
    go_wp2_with fail
    refine (unhide HH).mono ?_
    rintro e w5 ⟨rfl, b5⟩
    have O5 := hide (own_below (unhide O4) b5)
    have b5' := b4'.trans (b5.mono b4'.size)
    have B5 := b1.trans (b5'.mono b1.size)
    clear HH O4 b4' b5
    have HC6 := hide (unhide HI w5 B5)
    go_wp2_with fail
    refine (unhide HC6).mono ?_
    rintro e w6 ⟨v6, rfl, o6, b6⟩
    have b6' := b5'.trans (b6.mono b5'.size)
    have HE := hide (eqT_walk v6 v0 ts w6 o6 (own_below (unhide O1) b6') (by omega))
    have O6 := hide (own_below (unhide O5) b6)
    clear HC6 o6 O5
    go_wp2_with fail
    refine (unhide HE).mono ?_
    rintro e w7 ⟨rfl, n7, rfl⟩
    have o7 : (w6.drewN n7).ownsRow w1.heap.size 9 1 v1 ts.length (marks 1 ts.length) := unhide O6
    have B7 : Below w.heap.size w (w6.drewN n7) := (B5.trans (b6.mono B5.size)).trans (below_draws _ _ _)
    have HH := hide (heldS_walk w1.heap.size v1 ts.length 1 (w6.drewN n7) o7 (by omega) (Nat.le_refl _) (by omega))
    clear HE O6 o7
    generalize w6.drewN n7 = w7 at *
    go_wp2_with fail
    refine (unhide HH).mono ?_
    rintro e w8 ⟨rfl, b8⟩
    have B8 := B7.trans (b8.mono B7.size)
    go_wp2
    go_ret
    exact ⟨rfl, B8⟩
  · have hsz' : (1048576 : Int) < (s.size : Int) := by omega
    clear hT hE hP
    go_enter Tryz.func4, Tryz.ntmps4
    go_wp2
    go_ret
    exact ⟨rfl, Below.refl _ _⟩
end Go.Proofs.YtdbppklmmdmgjacGreatDoor

namespace Go.Proofs.YtdbppklmmdmgjacGreatDoor
open Go.RowKit

/-- What the row's condition says of the tables. -/
def VarsOk (w : World) : Prop := Tabs w ∧ ErrB w.heap.size w ∧ PowB w.heap.size w
theorem tables_of {W : World} (hL : laidMetH Tryz.prog Rows.fnExactPlacesRow.laid W) : VarsOk W := by
  have h : laidMet Tryz.prog laidAll W := hL
  exact ⟨tabs_at h, err_at h, pow_at h⟩
theorem placesLaw_walk (s : ByteArray) (w : World) (h : VarsOk w) :
    Calls Tryz.prog 4 #[.string s] w fun e w' => e = .returned (.bool true) ∧ Below w.heap.size w w' := placesLaw_in s w h.1 h.2.1 h.2.2
end Go.Proofs.YtdbppklmmdmgjacGreatDoor
