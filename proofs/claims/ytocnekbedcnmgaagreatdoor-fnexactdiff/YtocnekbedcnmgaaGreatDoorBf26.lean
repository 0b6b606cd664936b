import Derived.Test.YtocnekbedcnmgaaGreatDoorBf5
import Derived.Test.YtocnekbedcnmgaaGreatDoorBf4
import Derived.Test.YtocnekbedcnmgaaGreatDoorBf25
import Derived.Test.YtocnekbedcnmgaaGreatDoorBf1
import Derived.Test.YtocnekbedcnmgaaGreatDoorBf10
import Derived.Test.YtocnekbedcnmgaaGreatDoorBf24
import Derived.Laws.AppendOwnNone
import Derived.Test.YtocnekbedcnmgaaGreatDoorBf22
import Derived.Shelf.Spec.SlicesGrow
namespace Go.Proofs.YtocnekbedcnmgaaGreatDoor
open Go.RowKit

theorem tok_getD {ts : List (List UInt8)} {j : Nat} (h : j < ts.length) : (ts.map baT).getD j ByteArray.empty = baT (ts.getD j []) := by simp [h]
/-- What the look for a key answers. -/
def FindP (ps : List Part) (key : List UInt8) (e : Ending) : Prop := (e = .returned (.int .i64 (-1)) ∧ ∀ j (hj : j < ps.length), ps[j].1 ≠ key) ∨ ∃ (j : Nat) (hj : j < ps.length), e = .returned (.int .i64 (j : Int)) ∧ ps[j].1 = key
theorem FindP.no {ps : List Part} {key : List UInt8} {e : Ending} (h : e = .returned (.int .i64 (-1))) (k : ∀ j (hj : j < ps.length), ps[j].1 ≠ key) : FindP ps key e := Or.inl ⟨h, k⟩
theorem FindP.yes {ps : List Part} {key : List UInt8} {e : Ending} {j : Nat} (hj : j < ps.length) (h : e = .returned (.int .i64 (j : Int))) (k : ps[j].1 = key) : FindP ps key e := Or.inr ⟨j, hj, h, k⟩
/-- What the look for a part answers. -/
def ChildP (v : JV) (t : List UInt8) (e : Ending) : Prop := (e = .returned (.int .i64 (-1)) ∧ childV v t = none) ∨ ∃ (j : Nat) (hj : j < (partsV v).length) (u : JV), e = .returned (.int .i64 (j : Int)) ∧ childV v t = some u ∧ (partsV v)[j].2 = ct u ∧ (partsV v)[j].1 = t
theorem ChildP.no {v : JV} {t : List UInt8} {e : Ending} (h : e = .returned (.int .i64 (-1))) (k : childV v t = none) : ChildP v t e := Or.inl ⟨h, k⟩
theorem ChildP.yes {v u : JV} {t : List UInt8} {e : Ending} {j : Nat} (hj : j < (partsV v).length) (h : e = .returned (.int .i64 (j : Int))) (k : childV v t = some u ∧ (partsV v)[j].2 = ct u ∧ (partsV v)[j].1 = t) : ChildP v t e := Or.inr ⟨j, hj, u, h, k.1, k.2.1, k.2.2⟩

set_option maxHeartbeats 800000 in
theorem find_at (B : Nat) (v : Value) (ps : List Part) (key : List UInt8) (w : World) (h : PR w B v ps) (hn : ps.length ≤ 40000000) :
    Calls Tryz.prog 81 #[v, .string (strOf key)] w fun e w' => w = w' ∧ FindP ps key e := by
  obtain ⟨x, len, cap, rfl, hlen⟩ : ∃ x len cap, v = .slice x len cap ∧ len = ps.length := by
    rcases h.2 with ⟨hv, h0⟩ | ⟨g, cap, cur, hv, _⟩
    · exact ⟨_, _, _, hv, h0.symm⟩
    · exact ⟨_, _, _, hv, rfl⟩
  subst hlen
  have HP := hide h
  clear h
  go_enter Tryz.func81, Tryz.ntmps81
  go_wp2_with fail
  go_loopw [5] (fun k wr => w = wr ∧ ∃ j : Nat, k = .int .i64 (j : Int) ∧ j ≤ ps.length ∧ ∀ i (hi : i < ps.length), i < j → ps[i].1 ≠ key) (fun k _ => ps.length - (intOf k).toNat)
  case atStart => exact ⟨rfl, 0, rfl, Nat.zero_le _, fun i _ hi => by omega⟩
  case round =>
    obtain ⟨rfl, j, rfl, hj, hno⟩ := hrel
    have HNO := hide hno
    clear hno
    by_cases hin : j < ps.length
    · have t1 : ((j : Int) < (ps.length : Int)) = True := eq_true (by omega)
      obtain ⟨g, cap', he, hB, hgl, c0, c1⟩ := (unhide HP).cells j hin
      injection he with he1 he2 he3
      subst he1; subst he3
      have heq := str_eq ps[j].1 key
      by_cases hk : ps[j].1 = key
      · have t2 : (ps[j].1 == key) = true := by rw [beq_iff_eq]; exact hk
        have HK := hide hk
        rw [t2] at heq
        clear hk t2
        go_wp2
        go_ret
        exact ⟨rfl, FindP.yes hin rfl (unhide HK)⟩
      · have t2 : (ps[j].1 == key) = false := by rw [beq_eq_false_iff_ne]; exact hk
        have HX : Hid (∀ i (hi : i < ps.length), i < j + 1 → ps[i].1 ≠ key) := fun i hi hij => by
          by_cases e : i = j
          · subst e; exact hk
          · exact unhide HNO i hi (by omega)
        rw [t2] at heq
        clear hk t2
        go_wp2
        go_roundw
        case rel => exact ⟨trivial, j + 1, by go_num, by omega, unhide HX⟩
        case measure => simp [intOf]; omega
    · have t1 : ((j : Int) < (ps.length : Int)) = False := eq_false (by omega)
      go_wp2
      go_ret
      exact ⟨rfl, FindP.no rfl (fun i hi => unhide HNO i hi (by omega))⟩

/-- The parts of a value. -/
theorem parts_ct (v : JV) (hok : okV v) (w : World) (hl : (ct v).length ≤ 1000000) :
    Calls Tryz.prog 35 #[.string (strOf (ct v))] w fun e w' => ∃ r, e = .returned r ∧ PR w' w.heap.size r (partsV v) ∧ Below w.heap.size w w' := by
  have leaf : ∀ (c : UInt8) (r : List UInt8), ct v = c :: r → c.toNat ≠ 91 → c.toNat ≠ 123 → partsV v = [] → Calls Tryz.prog 35 #[.string (strOf (ct v))] w fun e w' => ∃ r, e = .returned r ∧ PR w' w.heap.size r (partsV v) ∧ Below w.heap.size w w' := fun c r hc h1 h2 hp => by
    rw [hp, hc]
    obtain ⟨a, b⟩ := bt_first (c := c) (r := r)
    exact parts_leaf _ w a (by rw [b]; exact h1) (by rw [b]; exact h2)
  cases v with
  | arr l => rw [okV] at hok; exact parts_arr l hok w (by rw [strOf_size]; exact hl)
  | obj m => rw [okV] at hok; exact parts_obj m hok w (by rw [strOf_size]; exact hl)
  | nul => exact leaf 110 _ rfl (by decide) (by decide) rfl
  | tt => exact leaf 116 _ rfl (by decide) (by decide) rfl
  | ff => exact leaf 102 _ rfl (by decide) (by decide) rfl
  | num l =>
    have hp := num_plain hok
    cases l with
    | nil => exact absurd rfl hp.1
    | cons c r =>
      have := (hp.2 c List.mem_cons_self).1
      exact leaf c r rfl this.2.1 this.2.2.1 rfl
  | str l => exact leaf 34 (qs l ++ [34]) rfl (by decide) (by decide) rfl
theorem parts_len {v : JV} (hok : okV v) (hl : (ct v).length ≤ 1000000) : (partsV v).length ≤ 1000000 := by
  cases v with
  | arr l =>
    show (idxF 0 (ctL l)).length ≤ _
    rw [idxF_len]
    have : (strOf (ct (.arr l))).data.toList = 91 :: (joinC (ctL l) ++ [93]) := by rw [strOf_toList]; rfl
    have := keyLen this
    rw [strOf_size] at this
    omega
  | obj m =>
    show (isort (ctM m)).length ≤ _
    have : (strOf (ct (.obj m))).data.toList = 123 :: (joinC ((isort (ctM m)).map memT) ++ [125]) := by rw [strOf_toList]; rfl
    have := keyLen this
    rw [strOf_size, List.length_map] at this
    omega
  | nul => simp [partsV]
  | tt => simp [partsV]
  | ff => simp [partsV]
  | num l => simp [partsV]
  | str l => simp [partsV]

set_option maxRecDepth 100000 in
set_option maxHeartbeats 2000000 in
theorem child_walk (v : JV) (hok : okV v) (htw : twV v = false) (t : List UInt8) (ht : t.length ≤ 1048576) (w : World) (hl : (ct v).length ≤ 1000000) :
    Calls Tryz.prog 137 #[.string (strOf (ct v)), .string (strOf t)] w fun e w' => Below w.heap.size w w' ∧ ChildP v t e := by
  have HP : Hid (∀ w, Calls Tryz.prog 35 #[.string (strOf (ct v))] w fun e w' => ∃ r, e = .returned r ∧ PR w' w.heap.size r (partsV v) ∧ Below w.heap.size w w') := fun w => parts_ct v hok w hl
  have HI : Hid (∀ w, Calls Tryz.prog 141 #[.string (strOf t)] w fun e w' => e = .returned (.int .i64 (idxZ t)) ∧ w = w') := fun w => by
    have := l1Index_walk (strOf t) w (by rw [strOf_size]; exact ht)
    rwa [strOf_toList] at this
  have hpl := parts_len hok hl
  have hne := ct_ne v hok
  have h0 : 0 < (strOf (ct v)).size := by rw [strOf_size]; cases h : ct v with
    | nil => exact absurd h hne
    | cons _ _ => simp
  have hI : (0 : Int) < ((strOf (ct v)).size : Int) := by omega
  have hfirst : (strOf (ct v))[0].toNat = 91 ↔ ∃ l, v = .arr l := by
    rw [← bt_at _ 0 h0]
    constructor
    · intro h
      cases v with
      | arr l => exact ⟨l, rfl⟩
      | obj m => exact absurd h (by rw [show ct (.obj m) = 123 :: (joinC ((isort (ctM m)).map memT) ++ [125]) from rfl, (bt_first (c := 123) (r := joinC ((isort (ctM m)).map memT) ++ [125])).2]; decide)
      | nul => exact absurd h (by decide)
      | tt => exact absurd h (by decide)
      | ff => exact absurd h (by decide)
      | num l =>
        have hp := num_plain hok
        cases l with
        | nil => exact absurd rfl hp.1
        | cons c r =>
          have h2 : bt (strOf (c :: r)) 0 = 91 := h
          rw [(bt_first (c := c) (r := r)).2] at h2
          exact absurd h2 (hp.2 c List.mem_cons_self).1.2.1
      | str l => exact absurd h (by rw [show ct (.str l) = 34 :: (qs l ++ [34]) from rfl, (bt_first (c := 34) (r := qs l ++ [34])).2]; decide)
    · rintro ⟨l, rfl⟩
      exact (bt_first (c := 91) (r := joinC (ctL l) ++ [93])).2
  have HFO : Hid (((∃ l, v = .arr l) → (idxT t).isSome = true) → ∀ {j : Nat} (hj : j < (partsV v).length), (partsV v)[j].1 = t → ∃ u, childV v t = some u ∧ (partsV v)[j].2 = ct u) := fun hi {j} hj hk => child_found hok htw hi hj hk
  have HMI : Hid ((∀ j (hj : j < (partsV v).length), (partsV v)[j].1 ≠ t) → childV v t = none) := fun h => child_missed h
  have HNO : Hid ((∃ l, v = .arr l) → idxT t = none → childV v t = none) := fun ⟨l, e⟩ h => by subst e; rw [childV_arr, h]; rfl
  have hrest : ((∃ l, v = .arr l) → (idxT t).isSome = true) → ∀ w1 (r : Value), PR w1 w.heap.size r (partsV v) → Calls Tryz.prog 81 #[r, .string (strOf t)] w1 fun e w' => w1 = w' ∧ ChildP v t e := fun hi w1 r hr => by
    refine (find_at _ r (partsV v) t w1 hr (by omega)).mono ?_
    rintro e w' ⟨rfl, ⟨rfl, h⟩ | ⟨j, hj, rfl, hk⟩⟩
    · exact ⟨rfl, ChildP.no rfl (unhide HMI h)⟩
    · obtain ⟨u, h1, h2⟩ := unhide HFO hi hj hk
      exact ⟨rfl, ChildP.yes hj rfl ⟨h1, h2, hk⟩⟩
  have HREST := hide hrest
  clear hrest HFO HMI
  by_cases ha : ∃ l, v = .arr l
  · have f1 : (((strOf (ct v))[0].toNat : Int) == 91) = true := by rw [beq_iff_eq]; have := hfirst.2 ha; omega
    cases hx : idxT t with
    | none =>
      have HN := hide (unhide HNO ha hx)
      have ez : idxZ t = -1 := by unfold idxZ; rw [hx]
      rw [ez] at HI
      clear hfirst HNO HREST ha hx ez HP hne hok htw
      generalize strOf (ct v) = T at *
      go_enter Tryz.func137, Tryz.ntmps137
      go_wp2_with fail
      refine (unhide HI _).mono ?_
      rintro e w1 ⟨rfl, rfl⟩
      clear HI
      go_wp2
      go_ret
      exact ⟨Below.refl _ _, ChildP.no rfl (unhide HN)⟩
    | some i =>
      have HR := hide (unhide HREST (fun _ => by rw [hx]; rfl))
      have ez : idxZ t = (i : Int) := by unfold idxZ; rw [hx]
      rw [ez] at HI
      have ti : ¬ (i : Int) < 0 := by omega
      clear hfirst HNO HREST ha hx ez hne hok htw
      generalize strOf (ct v) = T at *
      go_enter Tryz.func137, Tryz.ntmps137
      go_wp2_with fail
      refine (unhide HI _).mono ?_
      rintro e w1 ⟨rfl, rfl⟩
      clear HI
      go_wp2_with fail
      refine (unhide HP _).mono ?_
      rintro e w1 ⟨r, rfl, p1, b1⟩
      have HR1 := hide (unhide HR w1 r p1)
      clear HP HR p1
      go_wp2_with fail
      refine (unhide HR1).mono ?_
      rintro e w2 ⟨rfl, ⟨rfl, h⟩ | ⟨j, hj, u, rfl, h1, h2⟩⟩
      · clear HR1
        have HH := hide h
        clear h
        go_wp2
        go_ret
        exact ⟨b1, ChildP.no rfl (unhide HH)⟩
      · clear HR1
        have HH := hide (⟨h1, h2⟩ : childV v t = some u ∧ (partsV v)[j].2 = ct u ∧ (partsV v)[j].1 = t)
        clear h1 h2
        go_wp2
        go_ret
        exact ⟨b1, ChildP.yes hj rfl (unhide HH)⟩
  · have f1 : (((strOf (ct v))[0].toNat : Int) == 91) = false := by rw [beq_eq_false_iff_ne]; intro e; exact ha (hfirst.1 (by omega))
    have HR := hide (unhide HREST (fun h => absurd h ha))
    clear hfirst HNO HREST ha hne hok htw HI
    generalize strOf (ct v) = T at *
    go_enter Tryz.func137, Tryz.ntmps137
    go_wp2_with fail
    refine (unhide HP _).mono ?_
    rintro e w1 ⟨r, rfl, p1, b1⟩
    have HR1 := hide (unhide HR w1 r p1)
    clear HP HR p1
    go_wp2_with fail
    refine (unhide HR1).mono ?_
    rintro e w2 ⟨rfl, ⟨rfl, h⟩ | ⟨j, hj, u, rfl, h1, h2⟩⟩
    · clear HR1
      have HH := hide h
      clear h
      go_wp2
      go_ret
      exact ⟨b1, ChildP.no rfl (unhide HH)⟩
    · clear HR1
      have HH := hide (⟨h1, h2⟩ : childV v t = some u ∧ (partsV v)[j].2 = ct u ∧ (partsV v)[j].1 = t)
      clear h1 h2
      go_wp2
      go_ret
      exact ⟨b1, ChildP.yes hj rfl (unhide HH)⟩
end Go.Proofs.YtocnekbedcnmgaaGreatDoor


namespace Go.Proofs.YtocnekbedcnmgaaGreatDoor
open Go.RowKit

/-- A row of hits that the call owns. -/
def HR (w : World) (B : Nat) (v : Value) (hs : List Part) : Prop := w.ownsRow B 291 2 v hs.length (hs.flatMap partC)
theorem HR.below {w w' : World} {B : Nat} {v : Value} {hs : List Part} (h : HR w B v hs) (hb : Below w.heap.size w w') : HR w' B v hs := own_below h hb
theorem HR.cells {w : World} {B : Nat} {v : Value} {ps : List Part} (h : HR w B v ps) (j : Nat) (hj : j < ps.length) :
    ∃ g cap, v = .slice (some ⟨g, 0, none⟩) ps.length cap ∧ B ≤ g ∧ g < w.heap.size ∧ w.cell? ⟨g, j * 2, none⟩ = some (.string (strOf ps[j].1)) ∧ w.cell? ⟨g, j * 2 + 1, none⟩ = some (.string (strOf ps[j].2)) := by
  obtain ⟨hl, h0 | ⟨g, cap, cur, hv, hB, hg, hn, hc, hsz, ht⟩⟩ := h
  · omega
  · have hc0 := part_at ps j hj
    refine ⟨g, cap, hv, hB, (Array.getElem?_eq_some_iff.1 hg).1, ?_, ?_⟩
    · rw [Lib.cell_of_heap hg, ← Array.getElem?_toList, ← hc0.1, ← ht, List.getElem?_take_of_lt (by omega)]
    · rw [Lib.cell_of_heap hg, ← Array.getElem?_toList, ← hc0.2, ← ht, List.getElem?_take_of_lt (by omega)]
end Go.Proofs.YtocnekbedcnmgaaGreatDoor


namespace Go.Proofs.YtocnekbedcnmgaaGreatDoor
open Go.RowKit

/-- The pointer of tokens. -/
def ptrT (ts : List (List UInt8)) : List UInt8 := ts.flatMap fun t => 47 :: esc t
def totT (ts : List (List UInt8)) : Nat := (ts.map List.length).sum
theorem ptrT_snoc (ts : List (List UInt8)) (k : List UInt8) : ptrT (ts ++ [k]) = ptrN (ptrT ts) k := by simp [ptrT, ptrN]
theorem totT_snoc (ts : List (List UInt8)) (k : List UInt8) : totT (ts ++ [k]) = totT ts + k.length := by simp [totT]
theorem baT_text (ts : List (List UInt8)) : ptrText (ts.map baT) = ptrT ts := by
  induction ts with
  | nil => rfl
  | cons t r ih =>
    have e : (baT t).data.toList = t := by simp [baT]
    rw [List.map_cons]
    show 47 :: esc (baT t).data.toList ++ ptrText (r.map baT) = 47 :: esc t ++ ptrT r
    rw [ih, e]
theorem baT_tot (ts : List (List UInt8)) : tot (ts.map baT) = totT ts := by
  unfold tot totT
  rw [List.map_map]
  congr 1
theorem textO_walk {B : Nat} (v : Value) (ts : List (List UInt8)) (w : World) (h : OT w B v ts) (hm : ts.length + totT ts ≤ 1048576) :
    Calls Tryz.prog 134 #[v] w fun e w' => e = .returned (.string (strOf (ptrT ts))) ∧ Below w.heap.size w w' := by
  obtain ⟨a, g, cap, rfl, hs, _⟩ := h.shape
  have e : ts.length = (ts.map baT).length := by simp
  have := specText_walk a g 0 cap (ts.map baT) w hs (by rw [baT_tot, ← e]; exact hm)
  rw [← e, baT_text] at this
  exact this
theorem rowCells {w : World} {B : Nat} {v : Value} {ts : List (List UInt8)} (h : OT w B v ts) : (v = .slice none 0 0 ∧ ts = []) ∨ ∃ g cap, v = .slice (some ⟨g, 0, none⟩) ts.length cap ∧ (∀ j u, (ts.map tokCell)[j]? = some u → w.cell? ((⟨g, 0, none⟩ : Addr).add j) = some u) := by
  rcases h.2 with ⟨hv, h0⟩ | ⟨g, cap, cur, hv, _⟩
  · exact .inl ⟨hv, List.eq_nil_of_length_eq_zero h0⟩
  · refine .inr ⟨g, cap, hv, fun j u hj => ?_⟩
    subst hv
    exact World.ownsRow.cells h rfl j u hj
/-- Appending a row of texts to one that the call owns. -/
theorem wpList_append_rows {w : World} {ops : Array Oper} {rest : List Oper} {o : Oper} {a : Act} {Q : Exit → Act → World → Prop} (hg : o.guard = none) (s x : Operand)
    (ho : o.op = .call { callee := .builtin .append, args := #[s, x], argTypes := #[43, 43] }) {B B' : Nat} {v u : Value} {ts us : List (List UInt8)} (hs : a.eval s = v) (hx : a.eval x = u)
    (h : OT w B v ts) (k : OT w B' u us) (hB : B ≤ w.heap.size) (hl : ts.length + us.length ≤ 1000000)
    (hK : ∀ v' w', OT w' B v' (ts ++ us) → w.grownBy w' v.ownBlock → wpList Tryz.prog ops Q rest (a.put o.dst v') w') : wpList Tryz.prog ops Q (o :: rest) a w := by
  obtain ⟨i0, hi, hz0, hz1, hz2⟩ := info_parts infoString
  rcases rowCells k with ⟨rfl, rfl⟩ | ⟨g, cap, rfl, hcell⟩
  · refine wpList_append_own_none hg s x 43 ho B 9 i0 1 Tryz.underlying43 hi v _ _ hs h hx ?_
    exact hK v w (by rw [List.append_nil]; exact h) (World.grownBy.refl _ _)
  · refine wpList_append_own _ hg s x 43 ho B 9 i0 (.string ByteArray.empty) 1 16 Tryz.underlying43 hi hz0 hz1 hz2 rfl (by decide) v _ _ hs h ⟨g, 0, none⟩ us.length cap (us.map tokCell) hx (by simp) hcell (tok_ones us) (by unfold maxLen; omega) (by omega) hB ?_
    intro v' w' h1 h2 _
    exact hK v' w' (by unfold OT; rw [List.length_append, List.map_append]; exact h1) h2
theorem fst_kd {v : JV} (h : okV v) (h0 : 0 < (strOf (ct v)).size) : ((((strOf (ct v))[0]).toNat : Int) == 123) = (kd v == 6) ∧ ((((strOf (ct v))[0]).toNat : Int) == 91) = (kd v == 5) := by
  obtain ⟨c, r, e, f⟩ := ct_fb h
  have hb : ((strOf (ct v))[0]).toNat = c.toNat := by
    rw [← bt_at _ 0 h0]
    have := (bt_first (c := c) (r := r)).2
    rw [e]; exact this
  rw [hb, ← f]
  unfold fb
  have hc := c.toNat_lt
  constructor
  · by_cases h1 : c.toNat = 123
    · rw [h1]; rfl
    · have a1 : ((c.toNat : Int) == 123) = false := by rw [beq_eq_false_iff_ne]; omega
      rw [a1]
      symm
      rw [beq_eq_false_iff_ne]
      repeat (first | (split; omega) | split)
      all_goals omega
  · by_cases h1 : c.toNat = 91
    · rw [h1]; rfl
    · have a1 : ((c.toNat : Int) == 91) = false := by rw [beq_eq_false_iff_ne]; omega
      rw [a1]
      symm
      rw [beq_eq_false_iff_ne]
      repeat (first | (split; omega) | split)
      all_goals omega
/-- What the look for a key among a value's parts answers. -/
def FindR (v : JV) (key : List UInt8) (e : Ending) : Prop := (e = .returned (.int .i64 (-1)) ∧ findK (kidsV v) key = none) ∨ ∃ (j : Nat) (u : JV), j < (kidsV v).length ∧ e = .returned (.int .i64 (j : Int)) ∧ findK (kidsV v) key = some u ∧ ((kidsV v).map kt)[j]? = some (key, ct u)
theorem find_kids {B : Nat} (v : JV) (htw : twV v = false) (r : Value) (key : List UInt8) (w : World) (h : PR w B r ((kidsV v).map kt)) (hn : (kidsV v).length ≤ 1000000) :
    Calls Tryz.prog 81 #[r, .string (strOf key)] w fun e w' => w = w' ∧ FindR v key e := by
  refine (find_at B r _ key w h (by rw [List.length_map]; omega)).mono ?_
  rintro e w' ⟨rfl, ⟨rfl, hno⟩ | ⟨j, hj, rfl, hk⟩⟩
  · refine ⟨rfl, .inl ⟨rfl, findK_none.2 fun hm => ?_⟩⟩
    obtain ⟨q, hq, e⟩ := List.mem_map.1 hm
    obtain ⟨j, hj, e2⟩ := List.getElem_of_mem hq
    refine hno j (by rw [List.length_map]; exact hj) ?_
    rw [List.getElem_map, e2]
    exact e
  · have hj' : j < (kidsV v).length := by rw [List.length_map] at hj; exact hj
    rw [List.getElem_map] at hk
    refine ⟨rfl, .inr ⟨j, (kidsV v)[j].2, hj', rfl, findK_at (kids_nodup htw) hj' hk, ?_⟩⟩
    rw [List.getElem?_eq_getElem hj, List.getElem_map]
    show some (kt (kidsV v)[j]) = _
    unfold kt
    rw [show (kidsV v)[j].1 = key from hk]
end Go.Proofs.YtocnekbedcnmgaaGreatDoor


namespace Go.Proofs.YtocnekbedcnmgaaGreatDoor
open Go.RowKit Go.Lib

set_option maxHeartbeats 4000000 in
set_option maxRecDepth 100000 in
theorem grow_nil (n : Nat) (w : World) (hn : n ≤ 1000000) :
    Calls Tryz.prog 233 #[.slice none 0 0, .int .i64 (n : Int)] w fun e w' => ∃ r, e = .returned r ∧ OT w' w.heap.size r [] ∧ Below w.heap.size w w' := by
  obtain ⟨i0, hi0, hz0, hz1, hz2⟩ := info_parts infoString
  by_cases h0 : n = 0
  · subst h0
    go_enter Tryz.func233, Tryz.ntmps233
    go_wp2
    go_ret
    exact ⟨_, rfl, World.ownsRow_nil w w.heap.size 9 1, Below.refl _ _⟩
  · have hpos : (0 : Int) < (n : Int) := by omega
    have hnn : ¬ (n : Int) < 0 := by omega
    have hold : (Builtin.firstCells i0.size 0 (.slice none 0 0)).run Tryz.prog w.drew = .ok (([] : List Value).toArray) w.drew := run_firstCells_none w.drew i0.size 0 0 0
    have hrz : ∀ ty, (Builtin.append_ #[43, 3] ty #[.slice none 0 0, .int .i64 (n : Int)]).run Tryz.prog w =
        .ok (.slice (some ⟨w.heap.size, 0, none⟩) n (grownCap w n 0 9)) (w.drew.alloc (.cells (([] : List Value).toArray ++ Builtin.zeroCells (Value.string ByteArray.empty).cells n ++ Builtin.zeroCells (Value.string ByteArray.empty).cells (grownCap w n 0 9 - n)) 9)) := fun ty => by
      have h := Lib.run_append_grow_zeros w 43 3 ty 9 i0 (.string ByteArray.empty) .i64 .i64 Tryz.underlying43 Tryz.underlying3 hi0 hz0 none 0 0 [] hold n (by omega) (by omega) (by omega) (by omega)
        (by rw [hz2]; omega)
        (by rw [Nat.zero_add]; exact growslice_fits (by omega) (by rw [hz2]; omega))
      rw [Nat.zero_add] at h
      exact h
    have hGn : n ≤ grownCap w n 0 9 := grownCap_ge w _ _ _
    have hGm : grownCap w n 0 9 ≤ maxLen := grownCap_le_maxLen w n 0 9 (by unfold maxLen; omega)
    obtain ⟨G, hG⟩ : ∃ G, G = grownCap w n 0 9 := ⟨_, rfl⟩
    rw [← hG] at hrz hGn hGm
    have hG63 : G ≤ 9223372036854775807 := by unfold maxLen at hGm; omega
    have HO : Hid (OT (w.alloc (.cells (Builtin.zeroCells #[Value.string ByteArray.empty] n ++ Builtin.zeroCells #[Value.string ByteArray.empty] (G - n)) 9)).drew w.heap.size (.slice (some ⟨w.heap.size, 0, none⟩) 0 G) []) := by
      refine ⟨rfl, .inr ⟨w.heap.size, G, _, rfl, Nat.le_refl _, heap_alloc_new w _, Nat.zero_le _, hGm, ?_, rfl⟩⟩
      rw [Array.size_append, size_zeroCells, size_zeroCells]
      simp
      omega
    have HB : Hid (Below w.heap.size w (w.alloc (.cells (Builtin.zeroCells #[Value.string ByteArray.empty] n ++ Builtin.zeroCells #[Value.string ByteArray.empty] (G - n)) 9)).drew) := ((Below.refl _ _).alloc (Nat.le_refl _) _).drew
    clear hold hG
    go_enter Tryz.func233, Tryz.ntmps233
    go_wp2_with (at_builtin; refine Lib.wpList_append_run _ rfl _ _ _ _ rfl _ _ rfl rfl _ _ (hrz _) ?_)
    all_goals (go_ret; exact ⟨_, rfl, unhide HO, unhide HB⟩)
set_option maxHeartbeats 4000000 in
set_option maxRecDepth 100000 in
theorem concat_walk {B1 B2 : Nat} (g : Nat) (v1 v2 : Value) (ts us : List (List UInt8)) (w : World) (c0 : w.cell? ⟨g, 0, none⟩ = some v1) (c1 : w.cell? ⟨g, 1, none⟩ = some v2) (h1 : OT w B1 v1 ts) (h2 : OT w B2 v2 us) (hl : ts.length + us.length ≤ 1000000) :
    Calls Tryz.prog 207 #[.slice (some ⟨g, 0, none⟩) 2 2] w fun e w' => ∃ r, e = .returned r ∧ OT w' w.heap.size r (ts ++ us) ∧ Below w.heap.size w w' := by
  obtain ⟨a1, g1, k1, rfl, -, -⟩ := h1.shape
  obtain ⟨a2, g2, k2, rfl, -, -⟩ := h2.shape
  have H1 := hide h1
  have H2 := hide h2
  clear h1 h2
  have hgl : g < w.heap.size := World.block_lt_of_cell? _ _ c0
  have HC : Hid (∀ wx, Below w.heap.size w wx → wx.cell? ⟨g, 0, none⟩ = some (.slice a1 ts.length k1) ∧ wx.cell? ⟨g, 1, none⟩ = some (.slice a2 us.length k2)) := fun wx hx => ⟨(hx.cell (p := ⟨g, 0, none⟩) hgl).trans c0, (hx.cell (p := ⟨g, 1, none⟩) hgl).trans c1⟩
  go_enter Tryz.func207, Tryz.ntmps207
  go_wp2
  go_loopw [3, 11] (fun z i wr => ((z = .int .i64 0 ∧ i = .int .i64 0) ∨ (z = .int .i64 (ts.length : Int) ∧ i = .int .i64 1) ∨ (z = .int .i64 ((ts.length + us.length : Nat) : Int) ∧ i = .int .i64 2)) ∧ w = wr) (fun _ i _ => 2 - (RowKit.intOf i).toNat)
  case atStart => exact ⟨.inl ⟨rfl, rfl⟩, rfl⟩
  case round =>
    obtain ⟨hz, rfl⟩ := hrel
    rcases hz with ⟨rfl, rfl⟩ | ⟨rfl, rfl⟩ | ⟨rfl, rfl⟩
    · go_wp2
      go_roundw
      case rel => exact ⟨.inr (.inl ⟨by go_num, by go_num⟩), trivial⟩
      case measure => simp [RowKit.intOf]
    · go_wp2
      go_roundw
      case rel => exact ⟨.inr (.inr ⟨by go_num, by go_num⟩), trivial⟩
      case measure => simp [RowKit.intOf]
    · have HG := hide (grow_nil (ts.length + us.length) w (by omega))
      clear c0 c1
      go_wp2_with fail
      refine (unhide HG).mono ?_
      rintro e w2 ⟨r, rfl, o2, b2⟩
      have HO2 := hide o2
      have HB2 := hide b2
      clear HG o2 b2
      go_wp2
      go_loopw [6, 27] (fun r i wr => ((OT wr w.heap.size r [] ∧ i = .int .i64 0) ∨ (OT wr w.heap.size r ts ∧ i = .int .i64 1) ∨ (OT wr w.heap.size r (ts ++ us) ∧ i = .int .i64 2)) ∧ Below w.heap.size w wr) (fun _ i _ => 2 - (RowKit.intOf i).toNat)
      case atStart => exact ⟨.inl ⟨unhide HO2, rfl⟩, unhide HB2⟩
      case round =>
        obtain ⟨hz, hb⟩ := hrel
        obtain ⟨d0, d1⟩ := unhide HC wr hb
        have hbz := hb.size
        have HBR := hide hb
        have P1 := hide (own_below (unhide H1) hb)
        have P2 := hide (own_below (unhide H2) hb)
        clear hb
        rcases hz with ⟨ho, rfl⟩ | ⟨ho, rfl⟩ | ⟨ho, rfl⟩
        · have HO := hide ho
          clear ho
          go_wp2_with (at_builtin; refine wpList_append_rows rfl (.tmp 31) (.tmp 32) rfl rfl rfl (unhide HO) (unhide P1) hbz (by simp; omega) ?_)
          intro l4 w4 o4 g4
          have HB4 := hide ((unhide HBR).grown g4 hbz (fun b hb => ((unhide HO).lt b hb).1))
          have HO4 : Hid (OT w4 w.heap.size l4 ts) := o4
          clear o4 g4 d0 d1
          go_wp2
          go_roundw
          case rel => exact ⟨.inr (.inl ⟨unhide HO4, by go_num⟩), unhide HB4⟩
          case measure => simp [RowKit.intOf]
        · have HO := hide ho
          clear ho
          go_wp2_with (at_builtin; refine wpList_append_rows rfl (.tmp 31) (.tmp 32) rfl rfl rfl (unhide HO) (unhide P2) hbz hl ?_)
          intro l4 w4 o4 g4
          have HB4 := hide ((unhide HBR).grown g4 hbz (fun b hb => ((unhide HO).lt b hb).1))
          have HO4 : Hid (OT w4 w.heap.size l4 (ts ++ us)) := o4
          clear o4 g4 d0 d1
          go_wp2
          go_roundw
          case rel => exact ⟨.inr (.inr ⟨unhide HO4, by go_num⟩), unhide HB4⟩
          case measure => simp [RowKit.intOf]
        · have HO := hide ho
          clear ho
          go_wp2
          go_ret
          exact ⟨_, rfl, unhide HO, unhide HBR⟩
end Go.Proofs.YtocnekbedcnmgaaGreatDoor


namespace Go.Proofs.YtocnekbedcnmgaaGreatDoor
open Go.RowKit

set_option maxRecDepth 100000 in
set_option maxHeartbeats 4000000 in
/-- Two values of which no parts are told apart. -/
theorem chg_diff {B : Nat} (a b : JV) (ha : okV a) (hb : okV b) (ts : List (List UInt8)) (r : Value) (w : World) (hr : OT w B r ts) (hne : ct a ≠ ct b) (hc : comp a b = false) (la : (ct a).length ≤ 1000000) (lb : (ct b).length ≤ 1000000) (hm : ts.length + totT ts ≤ 1000000) :
    Calls Tryz.prog 92 #[.string (strOf (ct a)), .string (strOf (ct b)), r] w fun e w' => ∃ v, e = .returned v ∧ OTs w' w.heap.size v [ptrT ts] ∧ Below w.heap.size w w' := by
  have heq := str_eq (ct a) (ct b)
  rw [show (ct a == ct b) = false from by rw [beq_eq_false_iff_ne]; exact hne] at heq
  have HPA : Hid (∀ w, Calls Tryz.prog 35 #[.string (strOf (ct a))] w fun e w' => ∃ r, e = .returned r ∧ PR w' w.heap.size r ((kidsV a).map kt) ∧ Below w.heap.size w w') := fun w => by
    have := parts_ct a ha w la
    rwa [parts_kids] at this
  have HPB : Hid (∀ w, Calls Tryz.prog 35 #[.string (strOf (ct b))] w fun e w' => ∃ r, e = .returned r ∧ PR w' w.heap.size r ((kidsV b).map kt) ∧ Below w.heap.size w w') := fun w => by
    have := parts_ct b hb w lb
    rwa [parts_kids] at this
  have HT : Hid (∀ (B : Nat) (w : World), OT w B r ts → Calls Tryz.prog 134 #[r] w fun e w' => e = .returned (.string (strOf (ptrT ts))) ∧ Below w.heap.size w w') := fun B w h => textO_walk r ts w h (by omega)
  have HR := hide hr
  have h0a : 0 < (strOf (ct a)).size := by rw [strOf_size]; have := ct_ne a ha; cases h : ct a with
    | nil => exact absurd h this
    | cons _ _ => simp
  have h0b : 0 < (strOf (ct b)).size := by rw [strOf_size]; have := ct_ne b hb; cases h : ct b with
    | nil => exact absurd h this
    | cons _ _ => simp
  obtain ⟨a1, a2⟩ := fst_kd ha h0a
  obtain ⟨b1', b2'⟩ := fst_kd hb h0b
  have hIa : (0 : Int) < ((strOf (ct a)).size : Int) := by omega
  have hIb : (0 : Int) < ((strOf (ct b)).size : Int) := by omega
  have hla : (kidsV a).length ≤ 1000000 := by have := parts_len ha la; rw [parts_kids, List.length_map] at this; exact this
  have hlb : (kidsV b).length ≤ 1000000 := by have := parts_len hb lb; rw [parts_kids, List.length_map] at this; exact this
  have hcase : (kd a = 6 ∧ kd b ≠ 6) ∨ (kd a ≠ 6 ∧ kd a ≠ 5) ∨ (kd a = 5 ∧ kd b ≠ 5) ∨ (kd a = 5 ∧ kd b = 5 ∧ (kidsV a).length ≠ (kidsV b).length) := by
    cases a with
    | obj m => cases b with
      | obj m' => simp [comp] at hc
      | _ => exact .inl ⟨rfl, by simp [kd]⟩
    | arr l => cases b with
      | arr l' =>
        refine .inr (.inr (.inr ⟨rfl, rfl, ?_⟩))
        show (idxJ 0 l.toL).length ≠ (idxJ 0 l'.toL).length
        rw [idxJ_len, idxJ_len]
        simpa [comp] using hc
      | _ => exact .inr (.inr (.inl ⟨rfl, by simp [kd]⟩))
    | _ => exact .inr (.inl ⟨by simp [kd], by simp [kd]⟩)
  generalize strOf (ct a) = sa at *
  generalize strOf (ct b) = sb at *
  generalize kidsV a = K at *
  generalize kidsV b = L at *
  clear hc hne ha hb la lb hr
  rcases hcase with ⟨k1, k2⟩ | ⟨k1, k2⟩ | ⟨k1, k2⟩ | ⟨k1, k2, k3⟩
  · rw [show (kd a == 6) = true from by simp [k1]] at a1
    rw [show (kd a == 5) = false from by simp [k1]] at a2
    rw [show (kd b == 6) = false from by simp [k2]] at b1'
    clear b2' k1 k2
    go_enter Tryz.func92, Tryz.ntmps92
    go_wp2_with fail
    refine (unhide HPA _).mono ?_
    rintro e w1 ⟨r1, rfl, p1, b1⟩
    obtain ⟨x1, c1, rfl⟩ := p1.shape
    rw [List.length_map] at p1 ⊢
    have P1 := hide p1
    have B1 := hide b1
    clear p1 b1
    go_wp2_with fail
    refine (unhide HPB _).mono ?_
    rintro e w2 ⟨r2, rfl, p2, b2⟩
    obtain ⟨x2, c2, rfl⟩ := p2.shape
    rw [List.length_map] at p2 ⊢
    have P1' := hide ((unhide P1).below b2)
    have P2 := hide p2
    have B2 := hide (below_next (unhide B1) b2)
    have O2 := hide (own_below (own_below (unhide HR) (unhide B1)) b2)
    clear p2 b2 P1 B1 HPA HPB
    have HTX := hide (unhide HT _ w2 (unhide O2))
    clear P1' P2 O2 HT
    go_wp2_with fail
    refine (unhide HTX).mono ?_
    rintro e w3 ⟨rfl, b3⟩
    have B3 := hide (below_next (unhide B2) b3)
    have hw3 := (unhide B3).size
    clear HTX b3 B2
    go_wp2
    go_ret
    exact ⟨_, rfl, OTs.of (World.ownsRow_lit w3 #[.string (strOf (ptrT ts))] 1 hw3 (by unfold maxLen; omega) rfl) (by intro e; cases e), (unhide B3).alloc hw3 _⟩
  · rw [show (kd a == 6) = false from by simp [k1]] at a1
    rw [show (kd a == 5) = false from by simp [k2]] at a2
    clear b1' b2' k1 k2
    go_enter Tryz.func92, Tryz.ntmps92
    go_wp2_with fail
    refine (unhide HPA _).mono ?_
    rintro e w1 ⟨r1, rfl, p1, b1⟩
    obtain ⟨x1, c1, rfl⟩ := p1.shape
    rw [List.length_map] at p1 ⊢
    have P1 := hide p1
    have B1 := hide b1
    clear p1 b1
    go_wp2_with fail
    refine (unhide HPB _).mono ?_
    rintro e w2 ⟨r2, rfl, p2, b2⟩
    obtain ⟨x2, c2, rfl⟩ := p2.shape
    rw [List.length_map] at p2 ⊢
    have P1' := hide ((unhide P1).below b2)
    have P2 := hide p2
    have B2 := hide (below_next (unhide B1) b2)
    have O2 := hide (own_below (own_below (unhide HR) (unhide B1)) b2)
    clear p2 b2 P1 B1 HPA HPB
    have HTX := hide (unhide HT _ w2 (unhide O2))
    clear P1' P2 O2 HT
    go_wp2_with fail
    refine (unhide HTX).mono ?_
    rintro e w3 ⟨rfl, b3⟩
    have B3 := hide (below_next (unhide B2) b3)
    have hw3 := (unhide B3).size
    clear HTX b3 B2
    go_wp2
    go_ret
    exact ⟨_, rfl, OTs.of (World.ownsRow_lit w3 #[.string (strOf (ptrT ts))] 1 hw3 (by unfold maxLen; omega) rfl) (by intro e; cases e), (unhide B3).alloc hw3 _⟩
  · rw [show (kd a == 6) = false from by simp [k1]] at a1
    rw [show (kd a == 5) = true from by simp [k1]] at a2
    rw [show (kd b == 5) = false from by simp [k2]] at b2'
    clear b1' k1 k2
    go_enter Tryz.func92, Tryz.ntmps92
    go_wp2_with fail
    refine (unhide HPA _).mono ?_
    rintro e w1 ⟨r1, rfl, p1, b1⟩
    obtain ⟨x1, c1, rfl⟩ := p1.shape
    rw [List.length_map] at p1 ⊢
    have P1 := hide p1
    have B1 := hide b1
    clear p1 b1
    go_wp2_with fail
    refine (unhide HPB _).mono ?_
    rintro e w2 ⟨r2, rfl, p2, b2⟩
    obtain ⟨x2, c2, rfl⟩ := p2.shape
    rw [List.length_map] at p2 ⊢
    have P1' := hide ((unhide P1).below b2)
    have P2 := hide p2
    have B2 := hide (below_next (unhide B1) b2)
    have O2 := hide (own_below (own_below (unhide HR) (unhide B1)) b2)
    clear p2 b2 P1 B1 HPA HPB
    have HTX := hide (unhide HT _ w2 (unhide O2))
    clear P1' P2 O2 HT
    go_wp2_with fail
    refine (unhide HTX).mono ?_
    rintro e w3 ⟨rfl, b3⟩
    have B3 := hide (below_next (unhide B2) b3)
    have hw3 := (unhide B3).size
    clear HTX b3 B2
    go_wp2
    go_ret
    exact ⟨_, rfl, OTs.of (World.ownsRow_lit w3 #[.string (strOf (ptrT ts))] 1 hw3 (by unfold maxLen; omega) rfl) (by intro e; cases e), (unhide B3).alloc hw3 _⟩
  · rw [show (kd a == 6) = false from by simp [k1]] at a1
    rw [show (kd a == 5) = true from by simp [k1]] at a2
    rw [show (kd b == 5) = true from by simp [k2]] at b2'
    have t3 : ((K.length : Int) == (L.length : Int)) = false := by rw [beq_eq_false_iff_ne]; omega
    clear b1' k1 k2
    go_enter Tryz.func92, Tryz.ntmps92
    go_wp2_with fail
    refine (unhide HPA _).mono ?_
    rintro e w1 ⟨r1, rfl, p1, b1⟩
    obtain ⟨x1, c1, rfl⟩ := p1.shape
    rw [List.length_map] at p1 ⊢
    have P1 := hide p1
    have B1 := hide b1
    clear p1 b1
    go_wp2_with fail
    refine (unhide HPB _).mono ?_
    rintro e w2 ⟨r2, rfl, p2, b2⟩
    obtain ⟨x2, c2, rfl⟩ := p2.shape
    rw [List.length_map] at p2 ⊢
    have P1' := hide ((unhide P1).below b2)
    have P2 := hide p2
    have B2 := hide (below_next (unhide B1) b2)
    have O2 := hide (own_below (own_below (unhide HR) (unhide B1)) b2)
    clear p2 b2 P1 B1 HPA HPB
    have HTX := hide (unhide HT _ w2 (unhide O2))
    clear P1' P2 O2 HT
    go_wp2_with fail
    refine (unhide HTX).mono ?_
    rintro e w3 ⟨rfl, b3⟩
    have B3 := hide (below_next (unhide B2) b3)
    have hw3 := (unhide B3).size
    clear HTX b3 B2
    go_wp2
    go_ret
    exact ⟨_, rfl, OTs.of (World.ownsRow_lit w3 #[.string (strOf (ptrT ts))] 1 hw3 (by unfold maxLen; omega) rfl) (by intro e; cases e), (unhide B3).alloc hw3 _⟩
end Go.Proofs.YtocnekbedcnmgaaGreatDoor


namespace Go.Proofs.YtocnekbedcnmgaaGreatDoor
open Go.RowKit

theorem sum_kid {K : List (List UInt8 × JV)} {q : List UInt8 × JV} (h : q ∈ K) : cntV q.2 ≤ (K.map fun q => cntV q.2).sum := sumf_at (fun q => cntV q.2) h
theorem otsMono {w : World} {B B' : Nat} {v : Value} {ts : List (List UInt8)} (h : OTs w B v ts) (hB : B' ≤ B) : ∃ g cap, v = .slice (some ⟨g, 0, none⟩) ts.length cap ∧ B' ≤ g ∧ g < w.heap.size ∧ ts.length ≤ cap ∧ ∀ j u, (ts.map tokCell)[j]? = some u → w.cell? ⟨g, j, none⟩ = some u := by
  obtain ⟨_, g, cap, a, b, c⟩ := h
  exact ⟨g, cap, a, Nat.le_trans hB b, c⟩
theorem comp_cases {a b : JV} (h : comp a b = true) : (kd a = 6 ∧ kd b = 6) ∨ (kd a = 5 ∧ kd b = 5 ∧ (kidsV a).length = (kidsV b).length) := by
  cases a <;> cases b <;> first | exact .inl ⟨rfl, rfl⟩ | (simp [comp] at h; done) | skip
  rename_i l m
  refine .inr ⟨rfl, rfl, ?_⟩
  show (idxJ 0 l.toL).length = (idxJ 0 m.toL).length
  rw [idxJ_len, idxJ_len]
  simpa [comp] using h
theorem keys2_obj {a b : JV} (h : kd a = 6) : keys2 a b = onceL ((kidsV a).map (·.1) ++ (kidsV b).map (·.1)) := by
  cases a <;> first | rfl | (simp [kd] at h)
theorem keys2_arr {a b : JV} (h : kd a = 5) : keys2 a b = (kidsV a).map (·.1) := by
  cases a <;> first | rfl | (simp [kd] at h)
theorem keys2_len (a b : JV) : (keys2 a b).length ≤ (kidsV a).length + (kidsV b).length := by
  unfold keys2
  split
  · rw [List.length_map]; omega
  · have := onceL_len _ ((kidsV a).map (·.1) ++ (kidsV b).map (·.1)) rfl
    rw [List.length_append, List.length_map, List.length_map] at this
    exact this
theorem part_text {X : World} {B n c : Nat} {x : Option Addr} {ps : List Part} (h : PR X B (.slice x n c) ps) {i : Nat} {key t : List UInt8} (hi : ps[i]? = some (key, t)) : ∃ g, x = some ⟨g, 0, none⟩ ∧ X.cell? ⟨g, i * 2 + 1, none⟩ = some (.string (strOf t)) := by
  obtain ⟨hl, e⟩ := List.getElem?_eq_some_iff.1 hi
  obtain ⟨g, cap, he, _, _, _, c1⟩ := h.cells i hl
  injection he with he _ _
  rw [e] at c1
  exact ⟨g, he, c1⟩
theorem part_key {X : World} {B n c : Nat} {x : Option Addr} {ps : List Part} (h : PR X B (.slice x n c) ps) {i : Nat} {p : Part} (hi : ps[i]? = some p) : ∃ g, x = some ⟨g, 0, none⟩ ∧ X.cell? ⟨g, i * 2, none⟩ = some (.string (strOf p.1)) := by
  obtain ⟨hl, e⟩ := List.getElem?_eq_some_iff.1 hi
  obtain ⟨g, cap, he, _, _, c0, _⟩ := h.cells i hl
  injection he with he _ _
  rw [e] at c0
  exact ⟨g, he, c0⟩
theorem row_text {W : World} {B n c : Nat} {x : Option Addr} {ts : List (List UInt8)} (h : OT W B (.slice x n c) ts) {k : Nat} (hk : k < ts.length) : ∃ g, x = some ⟨g, 0, none⟩ ∧ ∀ X : World, Below W.heap.size W X → X.cell? ⟨g, k, none⟩ = some (.string (strOf ts[k])) := by
  rcases h.2 with ⟨_, h0⟩ | ⟨g, cap, cur, hv, _, hg, _⟩
  · omega
  · injection hv with e1 e2 e3
    subst e1; subst e2; subst e3
    refine ⟨g, rfl, fun X hX => ?_⟩
    have h1 := h.cellAt k (by omega)
    have hgl : g < W.heap.size := (Array.getElem?_eq_some_iff.1 hg).1
    rw [(hX.cell (p := ⟨g, k, none⟩) hgl), h1]
    simp [tokCell, strOf, hk]
theorem step_append_ownN {P : Program} {ops : Array Oper} {o : Oper} {a : Act} {w : World} {K : Act → World → Prop} {Q : Exit → Act → World → Prop} {E : Prop}
    (hg : o.guard = none) (s x : Operand) (t : TypeId) (hop : o.op = Op.call { callee := Callee.builtin Builtin.append, args := #[s, x], argTypes := #[t, t] })
    (base : Nat) (e : TypeId) (i : TypeInfo) (z : Value) (size bytes : Nat) (ht : P.underlying t = some (.slice e)) (hi : P.info? e = some i) (hz : i.zero = some z)
    (hsize : i.size = size) (hby : i.bytes = bytes) (hzs : z.cells.size = size) (hsz : 0 < size)
    (v : Value) (n : Nat) (xs : List Value) (hs : a.eval s = v) (hown : w.ownsRow base e size v n xs)
    (ad : Addr) (m c : Nat) (news : List Value) (hx : a.eval x = .slice (some ad) m c) (hl : news.length = m * size) (hnews : ∀ j u, news[j]? = some u → w.cell? (ad.add j) = some u) (h1 : ∀ u ∈ news, u.oneCell' = true)
    (h63 : n + m ≤ maxLen) (hbytes : (n + m) * bytes ≤ 140737488355328) (hbase : base ≤ w.heap.size) (hnn : v ≠ .slice none 0 0)
    (hK : ∀ v' w', w'.ownsRow base e size v' (n + m) (xs ++ news) → w.grownBy w' v.ownBlock → v' ≠ .slice none 0 0 → K (a.put o.dst v') w') :
    if Region.wanted o (yielded ops a.tmps) = true then Oper.wp P o a w K Q else E := by
  have hw : Region.wanted o (yielded ops a.tmps) = true := by simp [Region.wanted, hg]
  rw [if_pos hw]
  exact wp_append_own w s x t hop base e i z size bytes ht hi hz hsize hby hzs hsz v n xs hs hown ad m c news hx hl hnews h1 h63 hbytes hbase fun v' w' h2 h3 h4 => hK v' w' h2 h3 (fun e => hnn (h4.1 e).1)

set_option maxRecDepth 100000 in
set_option maxHeartbeats 8000000 in
theorem chg_walk : ∀ (n : Nat) (a b : JV) (ts : List (List UInt8)) (r : Value) (w : World) (B : Nat), okV a → okV b → twV a = false → twV b = false → depV a ≤ n → depV b ≤ n → OT w B r ts → ts.length + totT ts + (ct a).length ≤ 900000 → ts.length + totT ts + (ct b).length ≤ 900000 → cntV a + cntV b ≤ 100000 →
    Calls Tryz.prog 92 #[.string (strOf (ct a)), .string (strOf (ct b)), r] w fun e w' => ∃ v, e = .returned v ∧ OTs w' w.heap.size v (chF n (ptrT ts) a b) ∧ Below w.heap.size w w' := by
  intro n
  induction n with
  | zero => intro a b ts r w B _ _ _ _ h; have := (dep_cnt a).2; omega
  | succ n ih =>
    intro a b ts r w B ha hb ta tb da db hr hA hB hcn
    obtain ⟨i0, hi, hz0, hz1, hz2⟩ := info_parts infoString
    by_cases hne : ct a = ct b
    · have heq := str_eq (ct a) (ct b)
      rw [show (ct a == ct b) = true from by rw [beq_iff_eq]; exact hne] at heq
      rw [chF_nil _ _ a b ha hb ta tb hne]
      clear hne ih ha hb ta tb
      generalize strOf (ct a) = sa at *
      generalize strOf (ct b) = sb at *
      go_enter Tryz.func92, Tryz.ntmps92
      go_wp2
      go_ret
      exact ⟨_, rfl, OTs.of (World.ownsRow_lit w #[] 0 (Nat.le_refl _) (by unfold maxLen; omega) rfl) (by intro e; cases e), (Below.refl _ _).alloc (Nat.le_refl _) _⟩
    · by_cases hc : comp a b = true
      · have heq := str_eq (ct a) (ct b)
        rw [show (ct a == ct b) = false from by rw [beq_eq_false_iff_ne]; exact hne] at heq
        rw [chF_comp hc]
        have HPA : Hid (∀ w, Calls Tryz.prog 35 #[.string (strOf (ct a))] w fun e w' => ∃ r, e = .returned r ∧ PR w' w.heap.size r ((kidsV a).map kt) ∧ Below w.heap.size w w') := fun w => by
          have := parts_ct a ha w (by omega)
          rwa [parts_kids] at this
        have HPB : Hid (∀ w, Calls Tryz.prog 35 #[.string (strOf (ct b))] w fun e w' => ∃ r, e = .returned r ∧ PR w' w.heap.size r ((kidsV b).map kt) ∧ Below w.heap.size w w') := fun w => by
          have := parts_ct b hb w (by omega)
          rwa [parts_kids] at this
        have HR := hide hr
        have h0a : 0 < (strOf (ct a)).size := by rw [strOf_size]; have := ct_ne a ha; cases h : ct a with
          | nil => exact absurd h this
          | cons _ _ => simp
        have h0b : 0 < (strOf (ct b)).size := by rw [strOf_size]; have := ct_ne b hb; cases h : ct b with
          | nil => exact absurd h this
          | cons _ _ => simp
        obtain ⟨a1, a2⟩ := fst_kd ha h0a
        obtain ⟨b1', b2'⟩ := fst_kd hb h0b
        have hIa : (0 : Int) < ((strOf (ct a)).size : Int) := by omega
        have hIb : (0 : Int) < ((strOf (ct b)).size : Int) := by omega
        have hka := kids_cnt a
        have hkb := kids_cnt b
        have hsum : ∀ l : List (List UInt8 × JV), l.length ≤ (l.map fun q => cntV q.2).sum := by
          intro l
          induction l with
          | nil => simp
          | cons q r ih => have h3 := (dep_cnt q.2); rw [List.map_cons, List.sum_cons, List.length_cons]; omega
        have hla : (kidsV a).length ≤ 100000 := by have := hsum (kidsV a); omega
        have hlb : (kidsV b).length ≤ 100000 := by have := hsum (kidsV b); omega
        have HFAW : Hid (∀ (r : Value) (B : Nat) (w : World) (key : List UInt8), PR w B r ((kidsV a).map kt) → Calls Tryz.prog 81 #[r, .string (strOf key)] w fun e w' => w = w' ∧ FindR a key e) := fun r B w key h => find_kids a ta r key w h (by omega)
        have HFBW : Hid (∀ (r : Value) (B : Nat) (w : World) (key : List UInt8), PR w B r ((kidsV b).map kt) → Calls Tryz.prog 81 #[r, .string (strOf key)] w fun e w' => w = w' ∧ FindR b key e) := fun r B w key h => find_kids b tb r key w h (by omega)
        have HLN : Hid (∀ k, (((keys2 a b).take k).flatMap (chK n (ptrT ts) a b)).length ≤ 100000) := fun k => by have := chK_len (n := n) (p := ptrT ts) ha hb ta tb hc k; omega
        have HKEY : Hid (∀ key ∈ keys2 a b, (findK (kidsV a) key = none ∨ findK (kidsV b) key = none → chK n (ptrT ts) a b key = [ptrN (ptrT ts) key] ∧ ∀ (w : World) (B : Nat) (r : Value), OT w B r (ts ++ [key]) → Calls Tryz.prog 134 #[r] w fun e w' => e = .returned (.string (strOf (ptrN (ptrT ts) key))) ∧ Below w.heap.size w w') ∧
            ∀ u v, findK (kidsV a) key = some u → findK (kidsV b) key = some v → chK n (ptrT ts) a b key = chF n (ptrN (ptrT ts) key) u v ∧ ∀ (w : World) (B : Nat) (r : Value), OT w B r (ts ++ [key]) → Calls Tryz.prog 92 #[.string (strOf (ct u)), .string (strOf (ct v)), r] w fun e w' => ∃ x, e = .returned x ∧ OTs w' w.heap.size x (chF n (ptrN (ptrT ts) key) u v) ∧ Below w.heap.size w w') := fun key hk => by
          have hkl : ts.length + totT ts + key.length + 1 ≤ 900000 := by
            rcases keys2_in hc hk with h | h
            · obtain ⟨q, hq, rfl⟩ := List.mem_map.1 h
              have := (kids_ok ha ta hq).2.2.2
              omega
            · obtain ⟨q, hq, rfl⟩ := List.mem_map.1 h
              have := (kids_ok hb tb hq).2.2.2
              omega
          refine ⟨fun h => ⟨?_, fun w B r h => ?_⟩, fun u v hu hv => ⟨?_, fun w B r h => ?_⟩⟩
          · unfold chK
            rcases h with h | h
            · rw [h]
            · rw [h]; cases findK (kidsV a) key <;> rfl
          · have := textO_walk r (ts ++ [key]) w h (by rw [List.length_append, totT_snoc]; simp; omega)
            rwa [ptrT_snoc] at this
          · unfold chK; rw [hu, hv]
          · obtain ⟨o1, o2, o3, o4⟩ := kids_ok ha ta (findK_mem hu)
            obtain ⟨q1, q2, q3, q4⟩ := kids_ok hb tb (findK_mem hv)
            simp only at o1 o2 o3 o4 q1 q2 q3 q4
            have e1 : cntV u ≤ cntV a := by
              have h9 : cntV u ≤ _ := sum_kid (findK_mem hu)
              omega
            have e2 : cntV v ≤ cntV b := by
              have h9 : cntV v ≤ _ := sum_kid (findK_mem hv)
              omega
            have := ih u v (ts ++ [key]) r w B o1 q1 o2 q2 (by omega) (by omega) h (by rw [List.length_append, totT_snoc]; simp; omega) (by rw [List.length_append, totT_snoc]; simp; omega) (by omega)
            rwa [ptrT_snoc] at this
        have hcase : (kd a = 6 ∧ kd b = 6) ∨ (kd a = 5 ∧ kd b = 5 ∧ (kidsV a).length = (kidsV b).length) := comp_cases hc
        clear hr hka hkb hsum ih hne da db
        rcases hcase with ⟨k1, k2⟩ | ⟨k1, k2, k3⟩
        · rw [show (kd a == 6) = true from by simp [k1]] at a1
          rw [show (kd b == 6) = true from by simp [k2]] at b1'
          rw [show (kd a == 5) = false from by simp [k1]] at a2
          have HKW : Hid (∀ (r u : Value) (B1 B2 : Nat) (w : World), PR w B1 r ((kidsV a).map kt) → PR w B2 u ((kidsV b).map kt) → Calls Tryz.prog 135 #[r, u] w fun e w' => ∃ x, e = .returned x ∧ OT w' w.heap.size x (keys2 a b) ∧ Below w.heap.size w w') := fun r u B1 B2 w h1 h2 => by
            have := keys_walk r u _ _ w h1 h2 (by rw [List.length_map]; omega) (by rw [List.length_map]; omega)
            have e : onceL (((kidsV a).map kt).map (·.1) ++ ((kidsV b).map kt).map (·.1)) = keys2 a b := by
              rw [keys2_obj k1, List.map_map, List.map_map]; rfl
            rwa [e] at this
          clear b2' k1 k2
          go_enter Tryz.func92, Tryz.ntmps92
          go_wp2_with fail
          refine (unhide HPA _).mono ?_
          rintro e w1 ⟨r1, rfl, p1, b1⟩
          obtain ⟨x1, c1, rfl⟩ := p1.shape
          rw [List.length_map] at p1 ⊢
          have P1 := hide p1
          have B1 := hide b1
          clear p1 b1
          go_wp2_with fail
          refine (unhide HPB _).mono ?_
          rintro e w2 ⟨r2, rfl, p2, b2⟩
          obtain ⟨x2, c2, rfl⟩ := p2.shape
          rw [List.length_map] at p2 ⊢
          have P1' := hide ((unhide P1).below b2)
          have P2 := hide p2
          have B2 := hide (below_next (unhide B1) b2)
          have O2 := hide (own_below (own_below (unhide HR) (unhide B1)) b2)
          clear p2 b2 P1 B1 HPA HPB
          have bA : Below w2.heap.size w2 (w2.alloc (.cells #[] 9)) := (Below.refl _ _).alloc (Nat.le_refl _) _
          have HK1 := hide (unhide HKW _ _ _ _ _ ((unhide P1').below bA) ((unhide P2).below bA))
          have PA1 := hide ((unhide P1').below bA)
          have PA2 := hide ((unhide P2).below bA)
          have OA := hide (own_below (unhide O2) bA)
          have BA := hide (below_next (unhide B2) bA)
          clear HKW P1' P2 O2 B2 bA
          go_wp2_with fail
          refine (unhide HK1).mono ?_
          rintro e W0 ⟨rk, rfl, ok, bk⟩
          have OKY := hide ok
          have PW1 := hide ((unhide PA1).below bk)
          have PW2 := hide ((unhide PA2).below bk)
          have OW := hide (own_below (unhide OA) bk)
          have BW := hide (below_next (unhide BA) bk)
          clear HK1 PA1 PA2 OA BA ok bk
          have HATX : Hid (∀ X : World, Below W0.heap.size W0 X → OT X B r ts) := fun X hX => own_below (unhide OW) hX
          have HFA : Hid (∀ X : World, Below W0.heap.size W0 X → ∀ key, Calls Tryz.prog 81 #[.slice x1 (kidsV a).length c1, .string (strOf key)] X fun e w' => X = w' ∧ FindR a key e) := fun X hX key => unhide HFAW _ _ X key ((unhide PW1).below hX)
          have HFB : Hid (∀ X : World, Below W0.heap.size W0 X → ∀ key, Calls Tryz.prog 81 #[.slice x2 (kidsV b).length c2, .string (strOf key)] X fun e w' => X = w' ∧ FindR b key e) := fun X hX key => unhide HFBW _ _ X key ((unhide PW2).below hX)
          have HPC : Hid (∀ X : World, Below W0.heap.size W0 X → ∀ i key t, ((kidsV a).map kt)[i]? = some (key, t) → ∃ g, x1 = some ⟨g, 0, none⟩ ∧ X.cell? ⟨g, i * 2 + 1, none⟩ = some (.string (strOf t))) := fun X hX i key t hi => part_text ((unhide PW1).below hX) hi
          have HQC : Hid (∀ X : World, Below W0.heap.size W0 X → ∀ i key t, ((kidsV b).map kt)[i]? = some (key, t) → ∃ g, x2 = some ⟨g, 0, none⟩ ∧ X.cell? ⟨g, i * 2 + 1, none⟩ = some (.string (strOf t))) := fun X hX i key t hi => part_text ((unhide PW2).below hX) hi
          obtain ⟨xk, ck, rfl⟩ : ∃ x c, rk = .slice x (keys2 a b).length c := by
            obtain ⟨x, _, c, h, _⟩ := (unhide OKY).shape
            exact ⟨x, c, h⟩
          have HKC : Hid (∀ k (hk : k < (keys2 a b).length), ∃ g, xk = some ⟨g, 0, none⟩ ∧ ∀ X : World, Below W0.heap.size W0 X → X.cell? ⟨g, k, none⟩ = some (.string (strOf (keys2 a b)[k]))) := fun k hk => row_text (unhide OKY) hk
          clear OW PW1 PW2 OKY HFAW HFBW
          have hkyl : (keys2 a b).length ≤ 200000 := by have := keys2_len a b; omega
          have hK1 : (kidsV a).length ≤ 100000 := hla
          have hL1 : (kidsV b).length ≤ 100000 := hlb
          generalize hkeys : keys2 a b = keys at *
          generalize hC : chK n (ptrT ts) a b = C at *
          have HKY := hide hkeys
          have HCC := hide hC
          clear hkeys hC
          have O0 : Hid (OTs (W0.alloc (.cells #[] 9)) W0.heap.size (.slice (some ⟨W0.heap.size, 0, none⟩) 0 0) []) := OTs.of (World.ownsRow_lit W0 #[] 0 (Nat.le_refl _) (by unfold maxLen; omega) rfl) (by intro e; cases e)
          have B0 : Hid (Below W0.heap.size W0 (W0.alloc (.cells #[] 9))) := (Below.refl _ _).alloc (Nat.le_refl _) _
          go_wp2_with fail
          go_loopw [13, 14] (fun u i wr => ∃ k : Nat, k ≤ keys.length ∧ i = .int .i64 (k : Int) ∧ OTs wr W0.heap.size u ((keys.take k).flatMap C) ∧ Below W0.heap.size W0 wr) (fun _ i _ => keys.length - (intOf i).toNat)
          case atStart => exact ⟨0, Nat.zero_le _, rfl, unhide O0, unhide B0⟩
          case round =>
            obtain ⟨k, hk, rfl, hou, hbe⟩ := hrel
            clear O0 B0
            have hWs := hbe.size
            by_cases hlt : k < keys.length
            · have hltI : (k : Int) < (keys.length : Int) := by omega
              have HLT := hide hlt
              obtain ⟨gk, hxk, hckX⟩ := unhide HKC k hlt
              obtain rfl := hxk
              have HCK : Hid (∀ X : World, Below W0.heap.size W0 X → X.cell? ⟨gk, k, none⟩ = some (.string (strOf keys[k]))) := hckX
              have HSTEP := hide (unhide HKEY keys[k] (List.getElem_mem hlt))
              have HTK : Hid ((keys.take (k + 1)).flatMap C = (keys.take k).flatMap C ++ C keys[k]) := flat_take C keys k hlt
              have hlA := unhide HLN k
              have hlB := unhide HLN (k + 1)
              rw [unhide HTK, List.length_append] at hlB
              generalize keys[k] = key at *
              generalize (keys.take k).flatMap C = A at *
              have HOU := hide hou
              have HBE := hide hbe
              have own0 : (wr.alloc (.cells #[] 9)).ownsRow wr.heap.size 9 1 (.slice (some ⟨wr.heap.size, 0, none⟩) 0 0) 0 [] := World.ownsRow_lit wr #[] 0 (Nat.le_refl _) (by unfold maxLen; omega) rfl
              have HA0 : Hid (Below wr.heap.size wr (wr.alloc (.cells #[] 9))) := (Below.refl _ _).alloc (Nat.le_refl _) _
              have HAT : Hid (OT (wr.alloc (.cells #[] 9)) B r ts) := unhide HATX _ ((unhide HBE).trans ((unhide HA0).mono hWs))
              clear hou hbe hckX HKC HKEY HLN
              go_wp2_with (at_builtin; refine wpList_append_rows rfl (.tmp 85) (.tmp 86) rfl (ts := []) rfl rfl own0 (unhide HAT) (by simp) (by simp; omega) ?_)
              intro v3 w3 o3 hg3
              have B3 : Hid (Below wr.heap.size wr w3) := (unhide HA0).grown hg3 (by simp) (fun k hk => (own0.lt k hk).1)
              have hw3 := (unhide B3).size
              have c3 := unhide HCK _ ((unhide HBE).trans ((unhide B3).mono hWs))
              replace o3 : OT w3 wr.heap.size v3 ts := o3
              clear own0 hg3 HA0 HAT
              go_wp2_with (at_builtin; refine wpList_append_own _ rfl (.tmp 88) (.tmp 93) 43 rfl wr.heap.size 9 i0 (.string ByteArray.empty) 1 16 Tryz.underlying43 hi hz0 hz1 hz2 rfl (by decide) _ _ _ rfl (o3.alloc _) ⟨w3.heap.size, 0, none⟩ 1 1 [.string (strOf key)] rfl rfl (lit1 _ _ _) (one_tok _) (by unfold maxLen; omega) (by omega) (by simp; omega) ?_)
              intro v4 w4 own4 hg4 _
              have O4 : Hid (OT w4 wr.heap.size v4 (ts ++ [key])) := OT.step (t := key) own4
              have B4 : Hid (Below wr.heap.size wr w4) := ((unhide B3).alloc (by omega) _).grown hg4 (by simp; omega) (fun k hk => (o3.lt k hk).1)
              have BW4 := hide ((unhide HBE).trans ((unhide B4).mono hWs))
              have c4 := unhide HCK _ (unhide BW4)
              have OU4 : Hid (OT w4 W0.heap.size u13 A) := own_below (unhide HOU).1 (unhide B4)
              have NN4 : Hid (u13 ≠ .slice none 0 0) := by
                obtain ⟨_, g, cap, he, _⟩ := unhide HOU
                subst he
                intro e; cases e
              have HF1 := hide (unhide HFA w4 (unhide BW4) key)
              have HF2 := hide (unhide HFB w4 (unhide BW4) key)
              clear own4 hg4 o3 c3 B3 HBE HOU HCK HFA HFB HATX
              have hw4 := (unhide BW4).size
              go_wp2_with fail
              refine (unhide HF1).mono ?_
              rintro e w5 ⟨rfl, hfa⟩
              clear HF1
              rcases hfa with ⟨rfl, hfa⟩ | ⟨j1, u, hj1, rfl, hfa, hea⟩
              · -- not among the first parts
                have HNO := hide ((unhide HSTEP).1 (.inl hfa))
                clear HSTEP hfa HPC HQC
                go_wp2_with fail
                refine (unhide HF2).mono ?_
                rintro e w5 ⟨rfl, hfb⟩
                clear HF2
                rcases hfb with ⟨rfl, _⟩ | ⟨j2, v, hj2, rfl, _, _⟩
                · obtain ⟨hCK, htx⟩ := unhide HNO
                  have HTX := hide (htx w4 _ v4 (unhide O4))
                  have HCKE := hide hCK
                  rw [hCK] at hlB
                  clear HNO hCK htx O4
                  have HNP0 : tokCell (ptrN (ptrT ts) key) = .string (strOf (ptrN (ptrT ts) key)) := rfl
                  have HNP := hide HNP0
                  clear HNP0
                  generalize strOf (ptrN (ptrT ts) key) = np at *
                  go_wp2_with fail
                  refine (unhide HTX).mono ?_
                  rintro e w5 ⟨rfl, b5⟩
                  have ou5 := own_below (unhide OU4) b5
                  have BW5 := hide (below_next (unhide BW4) b5)
                  have hw5 := (unhide BW5).size
                  clear HTX b5 OU4 BW4 c4
                  go_wp2_with (at_builtin; refine wpList_append_own _ rfl (.tmp 127) (.tmp 130) 43 rfl W0.heap.size 9 i0 (.string ByteArray.empty) 1 16 Tryz.underlying43 hi hz0 hz1 hz2 rfl (by decide) _ _ _ rfl (ou5.alloc _) ⟨w5.heap.size, 0, none⟩ 1 1 [.string np] rfl rfl (lit1 _ _ _) (one_tok _) (by unfold maxLen; omega) (by omega) (by simp; omega) ?_)
                  intro v6 w6 own6 hg6 nn6
                  have O6 : Hid (OTs w6 W0.heap.size v6 (A ++ [ptrN (ptrT ts) key])) := OTs.of (OT.step (t := ptrN (ptrT ts) key) (by rw [show tokCell (ptrN (ptrT ts) key) = .string np from unhide HNP]; exact own6)) nn6
                  have B6 : Hid (Below W0.heap.size W0 w6) := ((unhide BW5).alloc (by omega) _).grown hg6 (by simp; omega) (fun k hk => (ou5.lt k hk).1)
                  clear own6 hg6 nn6 ou5 BW5
                  go_wp2
                  go_roundw
                  case rel => exact ⟨k + 1, unhide HLT, by go_num, by rw [unhide HTK, unhide HCKE]; exact unhide O6, unhide B6⟩
                  case measure => have h9 := unhide HLT; simp [intOf]; omega
                · have hj2I : (0 : Int) ≤ (j2 : Int) := by omega
                  obtain ⟨hCK, htx⟩ := unhide HNO
                  have HTX := hide (htx w4 _ v4 (unhide O4))
                  have HCKE := hide hCK
                  rw [hCK] at hlB
                  clear HNO hCK htx O4
                  have HNP0 : tokCell (ptrN (ptrT ts) key) = .string (strOf (ptrN (ptrT ts) key)) := rfl
                  have HNP := hide HNP0
                  clear HNP0
                  generalize strOf (ptrN (ptrT ts) key) = np at *
                  go_wp2_with fail
                  refine (unhide HTX).mono ?_
                  rintro e w5 ⟨rfl, b5⟩
                  have ou5 := own_below (unhide OU4) b5
                  have BW5 := hide (below_next (unhide BW4) b5)
                  have hw5 := (unhide BW5).size
                  clear HTX b5 OU4 BW4 c4
                  go_wp2_with (at_builtin; refine wpList_append_own _ rfl (.tmp 127) (.tmp 130) 43 rfl W0.heap.size 9 i0 (.string ByteArray.empty) 1 16 Tryz.underlying43 hi hz0 hz1 hz2 rfl (by decide) _ _ _ rfl (ou5.alloc _) ⟨w5.heap.size, 0, none⟩ 1 1 [.string np] rfl rfl (lit1 _ _ _) (one_tok _) (by unfold maxLen; omega) (by omega) (by simp; omega) ?_)
                  intro v6 w6 own6 hg6 nn6
                  have O6 : Hid (OTs w6 W0.heap.size v6 (A ++ [ptrN (ptrT ts) key])) := OTs.of (OT.step (t := ptrN (ptrT ts) key) (by rw [show tokCell (ptrN (ptrT ts) key) = .string np from unhide HNP]; exact own6)) nn6
                  have B6 : Hid (Below W0.heap.size W0 w6) := ((unhide BW5).alloc (by omega) _).grown hg6 (by simp; omega) (fun k hk => (ou5.lt k hk).1)
                  clear own6 hg6 nn6 ou5 BW5
                  go_wp2
                  go_roundw
                  case rel => exact ⟨k + 1, unhide HLT, by go_num, by rw [unhide HTK, unhide HCKE]; exact unhide O6, unhide B6⟩
                  case measure => have h9 := unhide HLT; simp [intOf]; omega
              · have HPCX := hide (unhide HPC w4 (unhide BW4) j1 key (ct u) hea)
                clear HPC hea
                go_wp2_with fail
                refine (unhide HF2).mono ?_
                rintro e w5 ⟨rfl, hfb⟩
                clear HF2
                rcases hfb with ⟨rfl, hfb⟩ | ⟨j2, v, hj2, rfl, hfb, heb⟩
                · have HNO := hide ((unhide HSTEP).1 (.inr hfb))
                  have hj1I : (0 : Int) ≤ (j1 : Int) := by omega
                  clear HSTEP hfb hfa HPCX HQC
                  obtain ⟨hCK, htx⟩ := unhide HNO
                  have HTX := hide (htx w4 _ v4 (unhide O4))
                  have HCKE := hide hCK
                  rw [hCK] at hlB
                  clear HNO hCK htx O4
                  have HNP0 : tokCell (ptrN (ptrT ts) key) = .string (strOf (ptrN (ptrT ts) key)) := rfl
                  have HNP := hide HNP0
                  clear HNP0
                  generalize strOf (ptrN (ptrT ts) key) = np at *
                  go_wp2_with fail
                  refine (unhide HTX).mono ?_
                  rintro e w5 ⟨rfl, b5⟩
                  have ou5 := own_below (unhide OU4) b5
                  have BW5 := hide (below_next (unhide BW4) b5)
                  have hw5 := (unhide BW5).size
                  clear HTX b5 OU4 BW4 c4
                  go_wp2_with (at_builtin; refine wpList_append_own _ rfl (.tmp 127) (.tmp 130) 43 rfl W0.heap.size 9 i0 (.string ByteArray.empty) 1 16 Tryz.underlying43 hi hz0 hz1 hz2 rfl (by decide) _ _ _ rfl (ou5.alloc _) ⟨w5.heap.size, 0, none⟩ 1 1 [.string np] rfl rfl (lit1 _ _ _) (one_tok _) (by unfold maxLen; omega) (by omega) (by simp; omega) ?_)
                  intro v6 w6 own6 hg6 nn6
                  have O6 : Hid (OTs w6 W0.heap.size v6 (A ++ [ptrN (ptrT ts) key])) := OTs.of (OT.step (t := ptrN (ptrT ts) key) (by rw [show tokCell (ptrN (ptrT ts) key) = .string np from unhide HNP]; exact own6)) nn6
                  have B6 : Hid (Below W0.heap.size W0 w6) := ((unhide BW5).alloc (by omega) _).grown hg6 (by simp; omega) (fun k hk => (ou5.lt k hk).1)
                  clear own6 hg6 nn6 ou5 BW5
                  go_wp2
                  go_roundw
                  case rel => exact ⟨k + 1, unhide HLT, by go_num, by rw [unhide HTK, unhide HCKE]; exact unhide O6, unhide B6⟩
                  case measure => have h9 := unhide HLT; simp [intOf]; omega
                · obtain ⟨g1, rfl, d1⟩ := unhide HPCX
                  obtain ⟨g2, rfl, d2⟩ := unhide HQC w4 (unhide BW4) j2 key (ct v) heb
                  obtain ⟨hCK, HRECX⟩ := (unhide HSTEP).2 u v hfa hfb
                  have HREC1 := hide (HRECX w4.drew wr.heap.size v4 (unhide O4))
                  have HCKE := hide hCK
                  have hj1I : (0 : Int) ≤ (j1 : Int) := by omega
                  have hj2I : (0 : Int) ≤ (j2 : Int) := by omega
                  have hj1L : (j1 : Int) < ((kidsV a).length : Int) := by omega
                  have hj2L : (j2 : Int) < ((kidsV b).length : Int) := by omega
                  rw [hCK] at hlB
                  clear HSTEP hfa hfb heb HPCX HQC hCK HRECX O4
                  generalize strOf (ct u) = su at *
                  generalize strOf (ct v) = sv at *
                  generalize chF n (ptrN (ptrT ts) key) u v = Z at *
                  go_wp2_with fail
                  go_region_law (first
                      | (refine step_append_ownN rfl (.tmp 113) (.tmp 125) 43 rfl W0.heap.size 9 i0 (.string ByteArray.empty) 1 16 Tryz.underlying43 hi hz0 hz1 hz2 rfl (by decide) _ _ _ rfl (by exact ou5) ⟨g5, 0, none⟩ Z.length cap5 (Z.map tokCell) rfl (by rw [List.length_map]; omega) (by exact unhide HCELL5) (tok_ones Z) (by unfold maxLen; omega) (by omega) (by omega) (unhide NN4) ?_
                         intro v6 w6 own6 hg6 nn6)
                      | (go_simp; refine (unhide HREC1).mono ?_; rintro e w5 ⟨r5, rfl, h5, b5⟩
                         have ou5 := own_below (w := w4.drew) (unhide OU4) b5
                         have BW5 := below_next ((unhide BW4).drew) b5
                         have hw5 := BW5.size
                         obtain ⟨h5a, g5, cap5, rfl, _, _, _, _⟩ := h5
                         have HCELL5 : Hid (∀ j u, (Z.map tokCell)[j]? = some u → w5.cell? ((⟨g5, 0, none⟩ : Addr).add j) = some u) := fun j u hj => World.ownsRow.cells h5a rfl j u hj))
                  all_goals
                    have O6 : Hid (OTs w6 W0.heap.size v6 (A ++ Z)) := OTs.of (by unfold OT; rw [List.length_append, List.map_append]; exact own6) nn6
                    have B6 : Hid (Below W0.heap.size W0 w6) := BW5.grown hg6 hw5 (fun k hk => (ou5.lt k hk).1)
                    clear own6 hg6 nn6 BW5 ou5 h5a b5 HCELL5 d1 d2 BW4 OU4 HREC1 c4
                    go_wp2
                    go_roundw
                  all_goals first
                    | exact ⟨k + 1, unhide HLT, by go_num, by rw [unhide HTK, unhide HCKE]; exact unhide O6, unhide B6⟩
                    | (have h9 := unhide HLT; simp [intOf]; omega)
            · have e : keys.take k = keys := List.take_of_length_le (by omega)
              rw [e, ← unhide HCC, ← unhide HKY] at hou
              have HOU := hide hou
              have HBE := hide hbe
              clear hou hbe e HKC HKEY HLN HPC HQC HFA HFB HATX
              go_wp2
              go_ret
              exact ⟨u13, rfl, ⟨own_mono (unhide HOU).1 (unhide BW).size, otsMono (unhide HOU) (unhide BW).size⟩, (unhide BW).trans ((unhide HBE).mono (unhide BW).size)⟩
        · rw [show (kd a == 6) = false from by simp [k1]] at a1
          rw [show (kd a == 5) = true from by simp [k1]] at a2
          rw [show (kd b == 5) = true from by simp [k2]] at b2'
          have t3 : ((((kidsV a).length : Nat) : Int) == (((kidsV b).length : Nat) : Int)) = true := by rw [beq_iff_eq]; omega
          have HKE : Hid (keys2 a b = (kidsV a).map (·.1)) := keys2_arr k1
          clear b1' k1 k2 k3
          go_enter Tryz.func92, Tryz.ntmps92
          go_wp2_with fail
          refine (unhide HPA _).mono ?_
          rintro e w1 ⟨r1, rfl, p1, b1⟩
          obtain ⟨x1, c1, rfl⟩ := p1.shape
          rw [List.length_map] at p1 ⊢
          have P1 := hide p1
          have B1 := hide b1
          clear p1 b1
          go_wp2_with fail
          refine (unhide HPB _).mono ?_
          rintro e w2 ⟨r2, rfl, p2, b2⟩
          obtain ⟨x2, c2, rfl⟩ := p2.shape
          rw [List.length_map] at p2 ⊢
          have P1' := hide ((unhide P1).below b2)
          have P2 := hide p2
          have B2 := hide (below_next (unhide B1) b2)
          have O2 := hide (own_below (own_below (unhide HR) (unhide B1)) b2)
          clear p2 b2 P1 B1 HPA HPB
          have OA0 : Hid (OT (w2.alloc (.cells #[] 9)) w2.heap.size (.slice (some ⟨w2.heap.size, 0, none⟩) 0 0) []) := World.ownsRow_lit w2 #[] 0 (Nat.le_refl _) (by unfold maxLen; omega) rfl
          have BA0 : Hid (Below w2.heap.size w2 (w2.alloc (.cells #[] 9))) := (Below.refl _ _).alloc (Nat.le_refl _) _
          go_wp2_with fail
          go_loopw [11, 12] (fun u i wr => ∃ k : Nat, k ≤ (kidsV a).length ∧ i = .int .i64 (k : Int) ∧ OT wr w2.heap.size u (((kidsV a).take k).map (·.1)) ∧ Below w2.heap.size w2 wr) (fun _ i _ => (kidsV a).length - (intOf i).toNat)
          case atStart => exact ⟨0, Nat.zero_le _, rfl, unhide OA0, unhide BA0⟩
          case round =>
            obtain ⟨k, hk, rfl, ho, hbe⟩ := hrel
            clear OA0 BA0
            have hlen : (((kidsV a).take k).map (·.1)).length = k := by rw [List.length_map, List.length_take]; omega
            have hws := hbe.size
            by_cases hlt : k < (kidsV a).length
            · have hltI : (k : Int) < ((kidsV a).length : Int) := by omega
              obtain ⟨g, rfl, hck⟩ := part_key ((unhide P1').below hbe) (show ((kidsV a).map kt)[k]? = some (kt (kidsV a)[k]) from by rw [List.getElem?_map, List.getElem?_eq_getElem hlt]; rfl)
              have HST : Hid (((kidsV a).take (k + 1)).map (·.1) = ((kidsV a).take k).map (·.1) ++ [(kidsV a)[k].1]) := by
                show _ = _
                rw [List.take_succ_eq_append_getElem hlt, List.map_append]; rfl
              have HBE := hide hbe
              have ekt : (kt (kidsV a)[k]).1 = (kidsV a)[k].1 := rfl
              rw [ekt] at hck
              generalize (kidsV a)[k].1 = t at *
              generalize ((kidsV a).take k).map (·.1) = A at *
              clear hbe ekt
              go_wp2_with (at_builtin; refine wpList_append_own _ rfl (.tmp 69) (.tmp 75) 43 rfl w2.heap.size 9 i0 (.string ByteArray.empty) 1 16 Tryz.underlying43 hi hz0 hz1 hz2 rfl (by decide) _ _ _ rfl (ho.alloc _) ⟨wr.heap.size, 0, none⟩ 1 1 [.string (strOf t)] rfl rfl (lit1 _ _ _) (one_tok _) (by unfold maxLen; omega) (by omega) (by simp; omega) ?_)
              intro v3 w3 own3 hg3 _
              have O3 : Hid (OT w3 w2.heap.size v3 (A ++ [t])) := OT.step (t := t) (by rw [hlen]; exact own3)
              have B3 : Hid (Below w2.heap.size w2 w3) := ((unhide HBE).alloc (by omega) _).grown hg3 (by simp; omega) (fun k hk => (ho.lt k hk).1)
              clear own3 hg3 ho HBE hck
              go_wp2
              go_roundw
              case rel => exact ⟨k + 1, by omega, by go_num, by rw [unhide HST]; exact unhide O3, unhide B3⟩
              case measure => simp [intOf]; omega
            · have hk' : (kidsV a).take k = kidsV a := List.take_of_length_le (by omega)
              rw [hk'] at ho
              obtain ⟨W0, hW0⟩ : ∃ W0, W0 = wr := ⟨_, rfl⟩
              subst hW0
              generalize hrk : u11 = rk at *
              have OKY : Hid (OT W0 w2.heap.size rk (keys2 a b)) := by
                show OT _ _ _ _
                rw [unhide HKE]; exact ho
              have PW1 := hide ((unhide P1').below hbe)
              have PW2 := hide ((unhide P2).below hbe)
              have OW := hide (own_below (unhide O2) hbe)
              have BW := hide (below_next (unhide B2) hbe)
              clear P1' P2 O2 B2 ho hbe hk' hlen HKE hrk
              have HATX : Hid (∀ X : World, Below W0.heap.size W0 X → OT X B r ts) := fun X hX => own_below (unhide OW) hX
              have HFA : Hid (∀ X : World, Below W0.heap.size W0 X → ∀ key, Calls Tryz.prog 81 #[.slice x1 (kidsV a).length c1, .string (strOf key)] X fun e w' => X = w' ∧ FindR a key e) := fun X hX key => unhide HFAW _ _ X key ((unhide PW1).below hX)
              have HFB : Hid (∀ X : World, Below W0.heap.size W0 X → ∀ key, Calls Tryz.prog 81 #[.slice x2 (kidsV b).length c2, .string (strOf key)] X fun e w' => X = w' ∧ FindR b key e) := fun X hX key => unhide HFBW _ _ X key ((unhide PW2).below hX)
              have HPC : Hid (∀ X : World, Below W0.heap.size W0 X → ∀ i key t, ((kidsV a).map kt)[i]? = some (key, t) → ∃ g, x1 = some ⟨g, 0, none⟩ ∧ X.cell? ⟨g, i * 2 + 1, none⟩ = some (.string (strOf t))) := fun X hX i key t hi => part_text ((unhide PW1).below hX) hi
              have HQC : Hid (∀ X : World, Below W0.heap.size W0 X → ∀ i key t, ((kidsV b).map kt)[i]? = some (key, t) → ∃ g, x2 = some ⟨g, 0, none⟩ ∧ X.cell? ⟨g, i * 2 + 1, none⟩ = some (.string (strOf t))) := fun X hX i key t hi => part_text ((unhide PW2).below hX) hi
              obtain ⟨xk, ck, rfl⟩ : ∃ x c, rk = .slice x (keys2 a b).length c := by
                obtain ⟨x, _, c, h, _⟩ := (unhide OKY).shape
                exact ⟨x, c, h⟩
              have HKC : Hid (∀ k (hk : k < (keys2 a b).length), ∃ g, xk = some ⟨g, 0, none⟩ ∧ ∀ X : World, Below W0.heap.size W0 X → X.cell? ⟨g, k, none⟩ = some (.string (strOf (keys2 a b)[k]))) := fun k hk => row_text (unhide OKY) hk
              clear OW PW1 PW2 OKY HFAW HFBW
              have hkyl : (keys2 a b).length ≤ 200000 := by have := keys2_len a b; omega
              have hK1 : (kidsV a).length ≤ 100000 := hla
              have hL1 : (kidsV b).length ≤ 100000 := hlb
              generalize hkeys : keys2 a b = keys at *
              generalize hC : chK n (ptrT ts) a b = C at *
              have HKY := hide hkeys
              have HCC := hide hC
              clear hkeys hC
              have O0 : Hid (OTs (W0.alloc (.cells #[] 9)) W0.heap.size (.slice (some ⟨W0.heap.size, 0, none⟩) 0 0) []) := OTs.of (World.ownsRow_lit W0 #[] 0 (Nat.le_refl _) (by unfold maxLen; omega) rfl) (by intro e; cases e)
              have B0 : Hid (Below W0.heap.size W0 (W0.alloc (.cells #[] 9))) := (Below.refl _ _).alloc (Nat.le_refl _) _
              go_wp2_with fail
              go_loopw [13, 14] (fun u i wr => ∃ k : Nat, k ≤ keys.length ∧ i = .int .i64 (k : Int) ∧ OTs wr W0.heap.size u ((keys.take k).flatMap C) ∧ Below W0.heap.size W0 wr) (fun _ i _ => keys.length - (intOf i).toNat)
              case atStart => exact ⟨0, Nat.zero_le _, rfl, unhide O0, unhide B0⟩
              case round =>
                obtain ⟨k, hk, rfl, hou, hbe⟩ := hrel
                clear O0 B0
                have hWs := hbe.size
                by_cases hlt : k < keys.length
                · have hltI : (k : Int) < (keys.length : Int) := by omega
                  have HLT := hide hlt
                  obtain ⟨gk, hxk, hckX⟩ := unhide HKC k hlt
                  obtain rfl := hxk
                  have HCK : Hid (∀ X : World, Below W0.heap.size W0 X → X.cell? ⟨gk, k, none⟩ = some (.string (strOf keys[k]))) := hckX
                  have HSTEP := hide (unhide HKEY keys[k] (List.getElem_mem hlt))
                  have HTK : Hid ((keys.take (k + 1)).flatMap C = (keys.take k).flatMap C ++ C keys[k]) := flat_take C keys k hlt
                  have hlA := unhide HLN k
                  have hlB := unhide HLN (k + 1)
                  rw [unhide HTK, List.length_append] at hlB
                  generalize keys[k] = key at *
                  generalize (keys.take k).flatMap C = A at *
                  have HOU := hide hou
                  have HBE := hide hbe
                  have own0 : (wr.alloc (.cells #[] 9)).ownsRow wr.heap.size 9 1 (.slice (some ⟨wr.heap.size, 0, none⟩) 0 0) 0 [] := World.ownsRow_lit wr #[] 0 (Nat.le_refl _) (by unfold maxLen; omega) rfl
                  have HA0 : Hid (Below wr.heap.size wr (wr.alloc (.cells #[] 9))) := (Below.refl _ _).alloc (Nat.le_refl _) _
                  have HAT : Hid (OT (wr.alloc (.cells #[] 9)) B r ts) := unhide HATX _ ((unhide HBE).trans ((unhide HA0).mono hWs))
                  clear hou hbe hckX HKC HKEY HLN
                  go_wp2_with (at_builtin; refine wpList_append_rows rfl (.tmp 85) (.tmp 86) rfl (ts := []) rfl rfl own0 (unhide HAT) (by simp) (by simp; omega) ?_)
                  intro v3 w3 o3 hg3
                  have B3 : Hid (Below wr.heap.size wr w3) := (unhide HA0).grown hg3 (by simp) (fun k hk => (own0.lt k hk).1)
                  have hw3 := (unhide B3).size
                  have c3 := unhide HCK _ ((unhide HBE).trans ((unhide B3).mono hWs))
                  replace o3 : OT w3 wr.heap.size v3 ts := o3
                  clear own0 hg3 HA0 HAT
                  go_wp2_with (at_builtin; refine wpList_append_own _ rfl (.tmp 88) (.tmp 93) 43 rfl wr.heap.size 9 i0 (.string ByteArray.empty) 1 16 Tryz.underlying43 hi hz0 hz1 hz2 rfl (by decide) _ _ _ rfl (o3.alloc _) ⟨w3.heap.size, 0, none⟩ 1 1 [.string (strOf key)] rfl rfl (lit1 _ _ _) (one_tok _) (by unfold maxLen; omega) (by omega) (by simp; omega) ?_)
                  intro v4 w4 own4 hg4 _
                  have O4 : Hid (OT w4 wr.heap.size v4 (ts ++ [key])) := OT.step (t := key) own4
                  have B4 : Hid (Below wr.heap.size wr w4) := ((unhide B3).alloc (by omega) _).grown hg4 (by simp; omega) (fun k hk => (o3.lt k hk).1)
                  have BW4 := hide ((unhide HBE).trans ((unhide B4).mono hWs))
                  have c4 := unhide HCK _ (unhide BW4)
                  have OU4 : Hid (OT w4 W0.heap.size u13 A) := own_below (unhide HOU).1 (unhide B4)
                  have NN4 : Hid (u13 ≠ .slice none 0 0) := by
                    obtain ⟨_, g, cap, he, _⟩ := unhide HOU
                    subst he
                    intro e; cases e
                  have HF1 := hide (unhide HFA w4 (unhide BW4) key)
                  have HF2 := hide (unhide HFB w4 (unhide BW4) key)
                  clear own4 hg4 o3 c3 B3 HBE HOU HCK HFA HFB HATX
                  have hw4 := (unhide BW4).size
                  go_wp2_with fail
                  refine (unhide HF1).mono ?_
                  rintro e w5 ⟨rfl, hfa⟩
                  clear HF1
                  rcases hfa with ⟨rfl, hfa⟩ | ⟨j1, u, hj1, rfl, hfa, hea⟩
                  · -- not among the first parts
                    have HNO := hide ((unhide HSTEP).1 (.inl hfa))
                    clear HSTEP hfa HPC HQC
                    go_wp2_with fail
                    refine (unhide HF2).mono ?_
                    rintro e w5 ⟨rfl, hfb⟩
                    clear HF2
                    rcases hfb with ⟨rfl, _⟩ | ⟨j2, v, hj2, rfl, _, _⟩
                    · obtain ⟨hCK, htx⟩ := unhide HNO
                      have HTX := hide (htx w4 _ v4 (unhide O4))
                      have HCKE := hide hCK
                      rw [hCK] at hlB
                      clear HNO hCK htx O4
                      have HNP0 : tokCell (ptrN (ptrT ts) key) = .string (strOf (ptrN (ptrT ts) key)) := rfl
                      have HNP := hide HNP0
                      clear HNP0
                      generalize strOf (ptrN (ptrT ts) key) = np at *
                      go_wp2_with fail
                      refine (unhide HTX).mono ?_
                      rintro e w5 ⟨rfl, b5⟩
                      have ou5 := own_below (unhide OU4) b5
                      have BW5 := hide (below_next (unhide BW4) b5)
                      have hw5 := (unhide BW5).size
                      clear HTX b5 OU4 BW4 c4
                      go_wp2_with (at_builtin; refine wpList_append_own _ rfl (.tmp 127) (.tmp 130) 43 rfl W0.heap.size 9 i0 (.string ByteArray.empty) 1 16 Tryz.underlying43 hi hz0 hz1 hz2 rfl (by decide) _ _ _ rfl (ou5.alloc _) ⟨w5.heap.size, 0, none⟩ 1 1 [.string np] rfl rfl (lit1 _ _ _) (one_tok _) (by unfold maxLen; omega) (by omega) (by simp; omega) ?_)
                      intro v6 w6 own6 hg6 nn6
                      have O6 : Hid (OTs w6 W0.heap.size v6 (A ++ [ptrN (ptrT ts) key])) := OTs.of (OT.step (t := ptrN (ptrT ts) key) (by rw [show tokCell (ptrN (ptrT ts) key) = .string np from unhide HNP]; exact own6)) nn6
                      have B6 : Hid (Below W0.heap.size W0 w6) := ((unhide BW5).alloc (by omega) _).grown hg6 (by simp; omega) (fun k hk => (ou5.lt k hk).1)
                      clear own6 hg6 nn6 ou5 BW5
                      go_wp2
                      go_roundw
                      case rel => exact ⟨k + 1, unhide HLT, by go_num, by rw [unhide HTK, unhide HCKE]; exact unhide O6, unhide B6⟩
                      case measure => have h9 := unhide HLT; simp [intOf]; omega
                    · have hj2I : (0 : Int) ≤ (j2 : Int) := by omega
                      obtain ⟨hCK, htx⟩ := unhide HNO
                      have HTX := hide (htx w4 _ v4 (unhide O4))
                      have HCKE := hide hCK
                      rw [hCK] at hlB
                      clear HNO hCK htx O4
                      have HNP0 : tokCell (ptrN (ptrT ts) key) = .string (strOf (ptrN (ptrT ts) key)) := rfl
                      have HNP := hide HNP0
                      clear HNP0
                      generalize strOf (ptrN (ptrT ts) key) = np at *
                      go_wp2_with fail
                      refine (unhide HTX).mono ?_
                      rintro e w5 ⟨rfl, b5⟩
                      have ou5 := own_below (unhide OU4) b5
                      have BW5 := hide (below_next (unhide BW4) b5)
                      have hw5 := (unhide BW5).size
                      clear HTX b5 OU4 BW4 c4
                      go_wp2_with (at_builtin; refine wpList_append_own _ rfl (.tmp 127) (.tmp 130) 43 rfl W0.heap.size 9 i0 (.string ByteArray.empty) 1 16 Tryz.underlying43 hi hz0 hz1 hz2 rfl (by decide) _ _ _ rfl (ou5.alloc _) ⟨w5.heap.size, 0, none⟩ 1 1 [.string np] rfl rfl (lit1 _ _ _) (one_tok _) (by unfold maxLen; omega) (by omega) (by simp; omega) ?_)
                      intro v6 w6 own6 hg6 nn6
                      have O6 : Hid (OTs w6 W0.heap.size v6 (A ++ [ptrN (ptrT ts) key])) := OTs.of (OT.step (t := ptrN (ptrT ts) key) (by rw [show tokCell (ptrN (ptrT ts) key) = .string np from unhide HNP]; exact own6)) nn6
                      have B6 : Hid (Below W0.heap.size W0 w6) := ((unhide BW5).alloc (by omega) _).grown hg6 (by simp; omega) (fun k hk => (ou5.lt k hk).1)
                      clear own6 hg6 nn6 ou5 BW5
                      go_wp2
                      go_roundw
                      case rel => exact ⟨k + 1, unhide HLT, by go_num, by rw [unhide HTK, unhide HCKE]; exact unhide O6, unhide B6⟩
                      case measure => have h9 := unhide HLT; simp [intOf]; omega
                  · have HPCX := hide (unhide HPC w4 (unhide BW4) j1 key (ct u) hea)
                    clear HPC hea
                    go_wp2_with fail
                    refine (unhide HF2).mono ?_
                    rintro e w5 ⟨rfl, hfb⟩
                    clear HF2
                    rcases hfb with ⟨rfl, hfb⟩ | ⟨j2, v, hj2, rfl, hfb, heb⟩
                    · have HNO := hide ((unhide HSTEP).1 (.inr hfb))
                      have hj1I : (0 : Int) ≤ (j1 : Int) := by omega
                      clear HSTEP hfb hfa HPCX HQC
                      obtain ⟨hCK, htx⟩ := unhide HNO
                      have HTX := hide (htx w4 _ v4 (unhide O4))
                      have HCKE := hide hCK
                      rw [hCK] at hlB
                      clear HNO hCK htx O4
                      have HNP0 : tokCell (ptrN (ptrT ts) key) = .string (strOf (ptrN (ptrT ts) key)) := rfl
                      have HNP := hide HNP0
                      clear HNP0
                      generalize strOf (ptrN (ptrT ts) key) = np at *
                      go_wp2_with fail
                      refine (unhide HTX).mono ?_
                      rintro e w5 ⟨rfl, b5⟩
                      have ou5 := own_below (unhide OU4) b5
                      have BW5 := hide (below_next (unhide BW4) b5)
                      have hw5 := (unhide BW5).size
                      clear HTX b5 OU4 BW4 c4
                      go_wp2_with (at_builtin; refine wpList_append_own _ rfl (.tmp 127) (.tmp 130) 43 rfl W0.heap.size 9 i0 (.string ByteArray.empty) 1 16 Tryz.underlying43 hi hz0 hz1 hz2 rfl (by decide) _ _ _ rfl (ou5.alloc _) ⟨w5.heap.size, 0, none⟩ 1 1 [.string np] rfl rfl (lit1 _ _ _) (one_tok _) (by unfold maxLen; omega) (by omega) (by simp; omega) ?_)
                      intro v6 w6 own6 hg6 nn6
                      have O6 : Hid (OTs w6 W0.heap.size v6 (A ++ [ptrN (ptrT ts) key])) := OTs.of (OT.step (t := ptrN (ptrT ts) key) (by rw [show tokCell (ptrN (ptrT ts) key) = .string np from unhide HNP]; exact own6)) nn6
                      have B6 : Hid (Below W0.heap.size W0 w6) := ((unhide BW5).alloc (by omega) _).grown hg6 (by simp; omega) (fun k hk => (ou5.lt k hk).1)
                      clear own6 hg6 nn6 ou5 BW5
                      go_wp2
                      go_roundw
                      case rel => exact ⟨k + 1, unhide HLT, by go_num, by rw [unhide HTK, unhide HCKE]; exact unhide O6, unhide B6⟩
                      case measure => have h9 := unhide HLT; simp [intOf]; omega
                    · obtain ⟨g1, rfl, d1⟩ := unhide HPCX
                      obtain ⟨g2, rfl, d2⟩ := unhide HQC w4 (unhide BW4) j2 key (ct v) heb
                      obtain ⟨hCK, HRECX⟩ := (unhide HSTEP).2 u v hfa hfb
                      have HREC1 := hide (HRECX w4.drew wr.heap.size v4 (unhide O4))
                      have HCKE := hide hCK
                      have hj1I : (0 : Int) ≤ (j1 : Int) := by omega
                      have hj2I : (0 : Int) ≤ (j2 : Int) := by omega
                      have hj1L : (j1 : Int) < ((kidsV a).length : Int) := by omega
                      have hj2L : (j2 : Int) < ((kidsV b).length : Int) := by omega
                      rw [hCK] at hlB
                      clear HSTEP hfa hfb heb HPCX HQC hCK HRECX O4
                      generalize strOf (ct u) = su at *
                      generalize strOf (ct v) = sv at *
                      generalize chF n (ptrN (ptrT ts) key) u v = Z at *
                      go_wp2_with fail
                      go_region_law (first
                          | (refine step_append_ownN rfl (.tmp 113) (.tmp 125) 43 rfl W0.heap.size 9 i0 (.string ByteArray.empty) 1 16 Tryz.underlying43 hi hz0 hz1 hz2 rfl (by decide) _ _ _ rfl (by exact ou5) ⟨g5, 0, none⟩ Z.length cap5 (Z.map tokCell) rfl (by rw [List.length_map]; omega) (by exact unhide HCELL5) (tok_ones Z) (by unfold maxLen; omega) (by omega) (by omega) (unhide NN4) ?_
                             intro v6 w6 own6 hg6 nn6)
                          | (go_simp; refine (unhide HREC1).mono ?_; rintro e w5 ⟨r5, rfl, h5, b5⟩
                             have ou5 := own_below (w := w4.drew) (unhide OU4) b5
                             have BW5 := below_next ((unhide BW4).drew) b5
                             have hw5 := BW5.size
                             obtain ⟨h5a, g5, cap5, rfl, _, _, _, _⟩ := h5
                             have HCELL5 : Hid (∀ j u, (Z.map tokCell)[j]? = some u → w5.cell? ((⟨g5, 0, none⟩ : Addr).add j) = some u) := fun j u hj => World.ownsRow.cells h5a rfl j u hj))
                      all_goals
                        have O6 : Hid (OTs w6 W0.heap.size v6 (A ++ Z)) := OTs.of (by unfold OT; rw [List.length_append, List.map_append]; exact own6) nn6
                        have B6 : Hid (Below W0.heap.size W0 w6) := BW5.grown hg6 hw5 (fun k hk => (ou5.lt k hk).1)
                        clear own6 hg6 nn6 BW5 ou5 h5a b5 HCELL5 d1 d2 BW4 OU4 HREC1 c4
                        go_wp2
                        go_roundw
                      all_goals first
                        | exact ⟨k + 1, unhide HLT, by go_num, by rw [unhide HTK, unhide HCKE]; exact unhide O6, unhide B6⟩
                        | (have h9 := unhide HLT; simp [intOf]; omega)
                · have e : keys.take k = keys := List.take_of_length_le (by omega)
                  rw [e, ← unhide HCC, ← unhide HKY] at hou
                  have HOU := hide hou
                  have HBE := hide hbe
                  clear hou hbe e HKC HKEY HLN HPC HQC HFA HFB HATX
                  go_wp2
                  go_ret
                  exact ⟨u13, rfl, ⟨own_mono (unhide HOU).1 (unhide BW).size, otsMono (unhide HOU) (unhide BW).size⟩, (unhide BW).trans ((unhide HBE).mono (unhide BW).size)⟩
      · have hc' : comp a b = false := by simpa using hc
        have e : chF (n + 1) (ptrT ts) a b = [ptrT ts] := by
          rw [chF, if_neg hc, if_neg]
          intro hl
          exact hne (leaf_ct hl)
        rw [e]
        exact chg_diff a b ha hb ts r w hr hne hc' (by omega) (by omega) (by omega)
end Go.Proofs.YtocnekbedcnmgaaGreatDoor


namespace Go.Proofs.YtocnekbedcnmgaaGreatDoor
open Go.RowKit

/-- The answer of l1Get. -/
def getR (v : JV) (ts : List (List UInt8)) : Value := match getV v ts with
  | some u => .tuple #[.string (strOf (ct u)), .bool true]
  | none => .tuple #[.string ⟨#[]⟩, .bool false]

set_option maxRecDepth 100000 in
set_option maxHeartbeats 4000000 in
theorem get_walkS (v : JV) (hok : okV v) (htw : twV v = false) (hl : (ct v).length ≤ 1000000) (a : Option Addr) (g off cap : Nat) (ts : List (List UInt8)) (w : World) (hs : SS w a g off (ts.map baT)) (hn : ts.length ≤ 1048577) (ht : ∀ t ∈ ts, t.length ≤ 1048576) :
    Calls Tryz.prog 94 #[.string (strOf (ct v)), .slice a ts.length cap] w fun e w' => e = .returned (getR v ts) ∧ Below w.heap.size w w' := by
  have hadr := hs.ad
  have HSS := hide hs
  rw [List.length_map] at hadr
  have HCH : Hid (∀ (u : JV) (k : Nat) (hk : k < ts.length) (w : World), okV u → twV u = false → (ct u).length ≤ 1000000 → Calls Tryz.prog 137 #[.string (strOf (ct u)), .string (strOf ts[k])] w fun e w' => Below w.heap.size w w' ∧ ChildP u ts[k] e) := fun u k hk w o1 o2 o3 => child_walk u o1 o2 ts[k] (ht _ (List.getElem_mem hk)) w o3
  have HPA : Hid (∀ (u : JV) (w : World), okV u → (ct u).length ≤ 1000000 → Calls Tryz.prog 35 #[.string (strOf (ct u))] w fun e w' => ∃ r, e = .returned r ∧ PR w' w.heap.size r (partsV u) ∧ Below w.heap.size w w') := fun u w o1 o2 => parts_ct u o1 w o2
  clear hs ht
  go_enter Tryz.func94, Tryz.ntmps94
  go_wp2
  go_loopw [0, 6] (fun sv iv wr => ∃ (k : Nat) (u : JV), k ≤ ts.length ∧ iv = .int .i64 (k : Int) ∧ sv = .string (strOf (ct u)) ∧ getV v (ts.take k) = some u ∧ okV u ∧ twV u = false ∧ (ct u).length ≤ 1000000 ∧ Below w.heap.size w wr) (fun _ iv _ => ts.length - (intOf iv).toNat)
  case atStart => exact ⟨0, v, Nat.zero_le _, rfl, rfl, rfl, hok, htw, hl, Below.refl _ _⟩
  case round =>
    obtain ⟨k, u, hk, rfl, rfl, hg, ho, htu, hlu, hb⟩ := hrel
    have HG := hide hg
    have HB := hide hb
    by_cases hlt : k < ts.length
    · have hltI : (k : Int) < (ts.length : Int) := by omega
      obtain rfl := hadr (by omega)
      have hck := ((unhide HSS).below hb).cell k (by rw [List.length_map]; exact hlt)
      rw [tok_getD hlt] at hck
      have hgd : baT (ts.getD k []) = strOf ts[k] := by simp [List.getD, hlt, baT, strOf]
      rw [hgd] at hck
      have HC := hide (unhide HCH u k hlt wr ho htu hlu)
      have HST : Hid (childV u ts[k] = none → getR v ts = .tuple #[.string ⟨#[]⟩, .bool false]) := fun hc => by unfold getR; rw [getV_stop hlt hg hc]
      have HNX : Hid (∀ u', childV u ts[k] = some u' → getV v (ts.take (k + 1)) = some u' ∧ okV u' ∧ twV u' = false ∧ (ct u').length ≤ 1000000) := fun u' hc => by
        obtain ⟨c1, c2, c3, _⟩ := childV_ok hc ho htu
        exact ⟨by rw [getV_step hlt hg]; exact hc, c1, c2, by omega⟩
      have HPU : Hid (∀ w, Calls Tryz.prog 35 #[.string (strOf (ct u))] w fun e w' => ∃ r, e = .returned r ∧ PR w' w.heap.size r (partsV u) ∧ Below w.heap.size w w') := fun w => unhide HPA u w ho hlu
      generalize strOf (ct u) = su at *
      generalize strOf ts[k] = st at *
      clear hg hb HG HCH HPA hgd
      go_wp2_with fail
      refine (unhide HC).mono ?_
      rintro e w1 ⟨b1, ⟨rfl, hcn⟩ | ⟨j, hj, u', rfl, hcs, hpt, -⟩⟩
      · have HV := hide (unhide HST hcn)
        have B1 := below_next (unhide HB) b1
        clear HC HST HNX HPU hck hcn
        go_wp2
        go_ret2
        exact ⟨by rw [unhide HV]; rfl, B1⟩
      · obtain ⟨n1, n2, n3, n4⟩ := unhide HNX u' hcs
        have B1 := hide (below_next (unhide HB) b1)
        have HN := hide (⟨n1, n2, n3, n4⟩ : getV v (ts.take (k + 1)) = some u' ∧ okV u' ∧ twV u' = false ∧ (ct u').length ≤ 1000000)
        have tj : ¬ (j : Int) < 0 := by omega
        clear HC HST HNX hck hcs n1 n2 n3 n4 b1
        go_wp2_with fail
        refine (unhide HPU _).mono ?_
        rintro e w2 ⟨r2, rfl, p2, b2⟩
        obtain ⟨g2, cap2, he, _, _, c0, c1⟩ := p2.cells j hj
        subst he
        rw [hpt] at c1
        have hjI : (j : Int) < ((partsV u).length : Int) := by omega
        have B2 := hide (below_next (unhide B1) b2)
        clear HPU p2 b2 B1 c0 hpt
        generalize (partsV u).length = pl at *
        go_wp2
        go_roundw
        case rel => exact ⟨k + 1, u', by omega, by go_num, rfl, (unhide HN).1, (unhide HN).2.1, (unhide HN).2.2.1, (unhide HN).2.2.2, unhide B2⟩
        case measure => simp [intOf]; omega
    · have e : ts.take k = ts := List.take_of_length_le (by omega)
      rw [e] at HG
      have HV : Hid (getR v ts = .tuple #[.string (strOf (ct u)), .bool true]) := by show _ = _; unfold getR; rw [unhide HG]
      generalize strOf (ct u) = su at *
      clear hg hb HG HCH HPA e
      go_wp2
      go_ret2
      exact ⟨by rw [unhide HV]; rfl, unhide HB⟩

theorem get_walk {B1 : Nat} (v : JV) (hok : okV v) (htw : twV v = false) (hl : (ct v).length ≤ 1000000) (r : Value) (ts : List (List UInt8)) (w : World) (h : OT w B1 r ts) (hn : ts.length ≤ 1048577) (ht : ∀ t ∈ ts, t.length ≤ 1048576) :
    Calls Tryz.prog 94 #[.string (strOf (ct v)), r] w fun e w' => e = .returned (getR v ts) ∧ Below w.heap.size w w' := by
  obtain ⟨a, g, cap, rfl, hs, _⟩ := h.shape
  exact get_walkS v hok htw hl a g 0 cap ts w hs hn ht
/-- The answer of Resolve. -/
def resV (s t : ByteArray) : Value := match readR s with
  | .inl _ => .tuple #[.string ⟨#[]⟩, .int .i64 1]
  | .inr v => match ptoks t.data.toList with
    | none => .tuple #[.string ⟨#[]⟩, .int .i64 2]
    | some ts => match getV v ts with
      | none => .tuple #[.string ⟨#[]⟩, .int .i64 3]
      | some u => .tuple #[.string (strOf (ct u)), .int .i64 0]
theorem mapM_mem {ps : List (List UInt8)} : ∀ {ts : List (List UInt8)}, ps.mapM unesc = some ts → ∀ t ∈ ts, ∃ p ∈ ps, unesc p = some t := by
  induction ps with
  | nil => intro ts h t ht; simp at h; subst h; simp at ht
  | cons p ps ih =>
    intro ts h t ht
    rw [mapM_cons'] at h
    cases hu : unesc p with
    | none => rw [hu] at h; simp at h
    | some q =>
      cases hm : List.mapM unesc ps with
      | none => rw [hu, hm] at h; simp at h
      | some us =>
        rw [hu, hm] at h
        simp at h
        subst h
        rcases List.mem_cons.1 ht with rfl | ht
        · exact ⟨p, List.mem_cons_self, hu⟩
        · obtain ⟨p', h1, h2⟩ := ih hm t ht
          exact ⟨p', List.mem_cons_of_mem _ h1, h2⟩
theorem unesc_len : ∀ (n : Nat) (p t : List UInt8), p.length ≤ n → unesc p = some t → t.length ≤ p.length := by
  intro n
  induction n with
  | zero => intro p t hl h; obtain rfl := List.eq_nil_of_length_eq_zero (Nat.le_zero.1 hl); simp [unesc] at h; subst h; simp
  | succ n ih =>
    intro p t hl h
    cases p with
    | nil => simp [unesc] at h; subst h; simp
    | cons c r =>
      have fin : ∀ (r' : List UInt8) (x : List UInt8), r'.length ≤ r.length → x.length = 1 → (unesc r').map (x ++ ·) = some t → t.length ≤ (c :: r).length := fun r' x hr hx hm => by
        cases hu : unesc r' with
        | none => rw [hu] at hm; simp at hm
        | some u =>
          rw [hu] at hm
          simp at hm
          have := ih r' u (by simp at hl; omega) hu
          rw [← hm]; simp; omega
      by_cases h1 : (c.toNat : Int) = 126
      · cases r with
        | nil => rw [unesc_end h1] at h; cases h
        | cons d r =>
          by_cases h2 : (d.toNat : Int) = 48
          · rw [unesc_0 r h1 h2] at h; exact fin r [126] (by simp) rfl h
          · by_cases h3 : (d.toNat : Int) = 49
            · rw [unesc_1 r h1 h3] at h; exact fin r [47] (by simp) rfl h
            · rw [unesc_bad r h1 h2 h3] at h; cases h
      · rw [unesc_lit r h1] at h; exact fin r [c] (Nat.le_refl _) rfl h
theorem ptoks_small {l : List UInt8} {ts : List (List UInt8)} (h : ptoks l = some ts) : ∀ t ∈ ts, t.length ≤ l.length := by
  intro t ht
  cases l with
  | nil => simp [ptoks] at h; subst h; simp at ht
  | cons c r =>
    rw [ptoks] at h
    split at h
    · unfold toks at h
      obtain ⟨p, hp, hu⟩ := mapM_mem h t ht
      have h1 := unesc_len _ p t (Nat.le_refl _) hu
      have h2 := pieces_size r p hp
      simp; omega
    · cases h

set_option maxRecDepth 100000 in
set_option maxHeartbeats 4000000 in
theorem specResolve_walk (s t : ByteArray) (w : World) (hs : s.size ≤ 1048576) (ht : t.size ≤ 1048576) :
    Calls Tryz.prog 43 #[.string s, .string t] w fun e w' => e = .returned (resV s t) ∧ Below w.heap.size w w' := by
  have HF := hide (specCanon_walk s w hs)
  have HT : Hid (∀ w, Calls Tryz.prog 93 #[.string t] w fun e w' => ∃ v, e = .returned (.tuple #[v, .bool (ptoks t.data.toList).isSome]) ∧ OT w' w.heap.size v ((ptoks t.data.toList).getD []) ∧ Below w.heap.size w w') := fun w => specToks_walk t w ht
  have hdl := data_len t
  have htl := toks_len_le t.data.toList
  cases hr : readR s with
  | inl c =>
    obtain ⟨c1, c2⟩ := read_code hr
    have HV : Hid (resV s t = .tuple #[.string ⟨#[]⟩, .int .i64 1]) := by show _ = _; unfold resV; rw [hr]
    have e0 : canonV s = .tuple #[.string ⟨#[]⟩, .int .i64 (c : Int)] := by unfold canonV; rw [hr]
    rw [e0] at HF
    have t1 : ((c : Int) == 0) = false := by simp; omega
    have t2 : ((c : Int) != 0) = true := by simp; omega
    have t3 : ¬ (c : Int) = 0 := by omega
    have t4 : ¬ c = 0 := by omega
    clear hr e0 HT hdl htl
    go_enter Tryz.func43, Tryz.ntmps43
    go_wp2_with fail
    refine (unhide HF).mono ?_
    rintro e w1 ⟨rfl, b1⟩
    clear HF
    go_wp2
    go_ret2
    exact ⟨by rw [unhide HV]; rfl, b1⟩
  | inr v =>
    obtain ⟨hss, hd, htw, _, _, _⟩ := read_facts hr
    obtain ⟨hok, hcn, hln⟩ := doc_facts hd
    have e0 : canonV s = .tuple #[.string (strOf (ct v)), .int .i64 0] := by unfold canonV; rw [hr]
    rw [e0] at HF
    cases hp : ptoks t.data.toList with
    | none =>
      have HV : Hid (resV s t = .tuple #[.string ⟨#[]⟩, .int .i64 2]) := by show _ = _; unfold resV; rw [hr, hp]
      rw [hp] at HT
      simp only [Option.isSome_none, Option.getD_none] at HT
      generalize strOf (ct v) = cv at *
      clear hr e0 hp hd htw hok hcn hln hdl htl
      go_enter Tryz.func43, Tryz.ntmps43
      go_wp2_with fail
      refine (unhide HF).mono ?_
      rintro e w1 ⟨rfl, b1⟩
      clear HF
      go_wp2_with fail
      refine (unhide HT _).mono ?_
      rintro e w2 ⟨v2, rfl, o2, b2⟩
      have B2 := below_next b1 b2
      clear HT o2
      go_wp2
      go_ret2
      exact ⟨by rw [unhide HV]; rfl, B2⟩
    | some ts =>
      have hsm := ptoks_small hp
      rw [hp] at HT htl
      simp only [Option.isSome_some, Option.getD_some] at HT htl
      have HG : Hid (∀ (r : Value) (B : Nat) (w : World), OT w B r ts → Calls Tryz.prog 94 #[.string (strOf (ct v)), r] w fun e w' => e = .returned (getR v ts) ∧ Below w.heap.size w w') := fun r B w h => get_walk v hok htw (by omega) r ts w h (by omega) (fun t ht => by have := hsm t ht; omega)
      cases hg : getV v ts with
      | none =>
        have HV : Hid (resV s t = .tuple #[.string ⟨#[]⟩, .int .i64 3]) := by show _ = _; unfold resV; rw [hr, hp]; simp only; rw [hg]
        have e1 : getR v ts = .tuple #[.string ⟨#[]⟩, .bool false] := by unfold getR; rw [hg]
        rw [e1] at HG
        generalize strOf (ct v) = cv at *
        clear hr e0 hp hd htw hok hcn hln hdl htl e1 hg hsm
        go_enter Tryz.func43, Tryz.ntmps43
        go_wp2_with fail
        refine (unhide HF).mono ?_
        rintro e w1 ⟨rfl, b1⟩
        clear HF
        go_wp2_with fail
        refine (unhide HT _).mono ?_
        rintro e w2 ⟨v2, rfl, o2, b2⟩
        have B2 := hide (below_next b1 b2)
        have HG2 := hide (unhide HG v2 _ w2 o2)
        clear HT o2 HG b1 b2
        go_wp2_with fail
        refine (unhide HG2).mono ?_
        rintro e w3 ⟨rfl, b3⟩
        have B3 := below_next (unhide B2) b3
        clear HG2
        go_wp2
        go_ret2
        exact ⟨by rw [unhide HV]; rfl, B3⟩
      | some u =>
        have HV : Hid (resV s t = .tuple #[.string (strOf (ct u)), .int .i64 0]) := by show _ = _; unfold resV; rw [hr, hp]; simp only; rw [hg]
        have e1 : getR v ts = .tuple #[.string (strOf (ct u)), .bool true] := by unfold getR; rw [hg]
        rw [e1] at HG
        generalize strOf (ct v) = cv at *
        generalize strOf (ct u) = cu at *
        clear hr e0 hp hd htw hok hcn hln hdl htl e1 hg hsm
        go_enter Tryz.func43, Tryz.ntmps43
        go_wp2_with fail
        refine (unhide HF).mono ?_
        rintro e w1 ⟨rfl, b1⟩
        clear HF
        go_wp2_with fail
        refine (unhide HT _).mono ?_
        rintro e w2 ⟨v2, rfl, o2, b2⟩
        have B2 := hide (below_next b1 b2)
        have HG2 := hide (unhide HG v2 _ w2 o2)
        clear HT o2 HG b1 b2
        go_wp2_with fail
        refine (unhide HG2).mono ?_
        rintro e w3 ⟨rfl, b3⟩
        have B3 := below_next (unhide B2) b3
        clear HG2
        go_wp2
        go_ret2
        exact ⟨by rw [unhide HV]; rfl, B3⟩
end Go.Proofs.YtocnekbedcnmgaaGreatDoor

