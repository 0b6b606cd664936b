import Derived.Test.YtcjajchfjoffnaaGreatDoorBto13
import Derived.Test.YtcjajchfjoffnaaGreatDoorBto12
import Derived.Test.YtcjajchfjoffnaaGreatDoorBto17
import Derived.Test.YtcjajchfjoffnaaGreatDoorBto1
import Derived.Test.YtcjajchfjoffnaaGreatDoorBto31
import Derived.Test.YtcjajchfjoffnaaGreatDoorBto16
import Derived.Laws.AppendOwnNone
import Derived.Test.YtcjajchfjoffnaaGreatDoorBto14
namespace Go.Proofs.YtcjajchfjoffnaaGreatDoor
open Go.RowKit

theorem tok_getD {ts : List (List UInt8)} {j : Nat} (h : j < ts.length) : (ts.map baT).getD j ByteArray.empty = baT (ts.getD j []) := by simp [h]
/-- What the look for a key answers. -/
def FindP (ps : List Part) (key : List UInt8) (e : Ending) : Prop := (e = .returned (.int .i64 (-1)) ∧ ∀ j (hj : j < ps.length), ps[j].1 ≠ key) ∨ ∃ (j : Nat) (hj : j < ps.length), e = .returned (.int .i64 (j : Int)) ∧ ps[j].1 = key
theorem FindP.no {ps : List Part} {key : List UInt8} {e : Ending} (h : e = .returned (.int .i64 (-1))) (k : ∀ j (hj : j < ps.length), ps[j].1 ≠ key) : FindP ps key e := Or.inl ⟨h, k⟩
theorem FindP.yes {ps : List Part} {key : List UInt8} {e : Ending} {j : Nat} (hj : j < ps.length) (h : e = .returned (.int .i64 (j : Int))) (k : ps[j].1 = key) : FindP ps key e := Or.inr ⟨j, hj, h, k⟩
/-- What the look for a part answers. -/
def ChildP (v : JV) (t : List UInt8) (e : Ending) : Prop := (e = .returned (.int .i64 (-1)) ∧ childV v t = none) ∨ ∃ (j : Nat) (hj : j < (partsV v).length) (u : JV), e = .returned (.int .i64 (j : Int)) ∧ childV v t = some u ∧ (partsV v)[j].2 = ct u
theorem ChildP.no {v : JV} {t : List UInt8} {e : Ending} (h : e = .returned (.int .i64 (-1))) (k : childV v t = none) : ChildP v t e := Or.inl ⟨h, k⟩
theorem ChildP.yes {v u : JV} {t : List UInt8} {e : Ending} {j : Nat} (hj : j < (partsV v).length) (h : e = .returned (.int .i64 (j : Int))) (k : childV v t = some u ∧ (partsV v)[j].2 = ct u) : ChildP v t e := Or.inr ⟨j, hj, u, h, k.1, k.2⟩

set_option maxHeartbeats 800000 in
theorem find_at (B : Nat) (v : Value) (ps : List Part) (key : List UInt8) (w : World) (h : PR w B v ps) (hn : ps.length ≤ 40000000) :
    Calls Tryz.prog 105 #[v, .string (strOf key)] w fun e w' => w = w' ∧ FindP ps key e := by
  obtain ⟨x, len, cap, rfl, hlen⟩ : ∃ x len cap, v = .slice x len cap ∧ len = ps.length := by
    rcases h.2 with ⟨hv, h0⟩ | ⟨g, cap, cur, hv, _⟩
    · exact ⟨_, _, _, hv, h0.symm⟩
    · exact ⟨_, _, _, hv, rfl⟩
  subst hlen
  have HP := hide h
  clear h
  go_enter Tryz.func105, Tryz.ntmps105
  go_wp2_with fail
  go_loopw [5] (fun k wr => w = wr ∧ ∃ j : Nat, k = .int .i64 (j : Int) ∧ j ≤ ps.length ∧ ∀ i (hi : i < ps.length), i < j → ps[i].1 ≠ key) (fun k _ => ps.length - (intOf k).toNat)
  case atStart => exact ⟨rfl, 0, rfl, Nat.zero_le _, fun i _ hi => by omega⟩
  case round =>
    obtain ⟨rfl, j, rfl, hj, hno⟩ := hrel
    have HNO := hide hno
    clear hno
    by_cases hin : j < ps.length
    · have t1 : ((j : Int) < (ps.length : Int)) = True := eq_true (by omega)
      obtain ⟨g, cap', he, hB, hgl, c0, c1⟩ := (unhide HP).cells j hin
      injection he with he1 he2 he3
      subst he1; subst he3
      have heq := str_eq ps[j].1 key
      by_cases hk : ps[j].1 = key
      · have t2 : (ps[j].1 == key) = true := by rw [beq_iff_eq]; exact hk
        have HK := hide hk
        rw [t2] at heq
        clear hk t2
        go_wp2
        go_ret
        exact ⟨rfl, FindP.yes hin rfl (unhide HK)⟩
      · have t2 : (ps[j].1 == key) = false := by rw [beq_eq_false_iff_ne]; exact hk
        have HX : Hid (∀ i (hi : i < ps.length), i < j + 1 → ps[i].1 ≠ key) := fun i hi hij => by
          by_cases e : i = j
          · subst e; exact hk
          · exact unhide HNO i hi (by omega)
        rw [t2] at heq
        clear hk t2
        go_wp2
        go_roundw
        case rel => exact ⟨trivial, j + 1, by go_num, by omega, unhide HX⟩
        case measure => simp [intOf]; omega
    · have t1 : ((j : Int) < (ps.length : Int)) = False := eq_false (by omega)
      go_wp2
      go_ret
      exact ⟨rfl, FindP.no rfl (fun i hi => unhide HNO i hi (by omega))⟩

/-- The parts of a value. -/
theorem parts_ct (v : JV) (hok : okV v) (w : World) (hl : (ct v).length ≤ 1000000) :
    Calls Tryz.prog 68 #[.string (strOf (ct v))] w fun e w' => ∃ r, e = .returned r ∧ PR w' w.heap.size r (partsV v) ∧ Below w.heap.size w w' := by
  have leaf : ∀ (c : UInt8) (r : List UInt8), ct v = c :: r → c.toNat ≠ 91 → c.toNat ≠ 123 → partsV v = [] → Calls Tryz.prog 68 #[.string (strOf (ct v))] w fun e w' => ∃ r, e = .returned r ∧ PR w' w.heap.size r (partsV v) ∧ Below w.heap.size w w' := fun c r hc h1 h2 hp => by
    rw [hp, hc]
    obtain ⟨a, b⟩ := bt_first (c := c) (r := r)
    exact parts_leaf _ w a (by rw [b]; exact h1) (by rw [b]; exact h2)
  cases v with
  | arr l => rw [okV] at hok; exact parts_arr l hok w (by rw [strOf_size]; exact hl)
  | obj m => rw [okV] at hok; exact parts_obj m hok w (by rw [strOf_size]; exact hl)
  | nul => exact leaf 110 _ rfl (by decide) (by decide) rfl
  | tt => exact leaf 116 _ rfl (by decide) (by decide) rfl
  | ff => exact leaf 102 _ rfl (by decide) (by decide) rfl
  | num l =>
    have hp := num_plain hok
    cases l with
    | nil => exact absurd rfl hp.1
    | cons c r =>
      have := (hp.2 c List.mem_cons_self).1
      exact leaf c r rfl this.2.1 this.2.2.1 rfl
  | str l => exact leaf 34 (qs l ++ [34]) rfl (by decide) (by decide) rfl
theorem parts_len {v : JV} (hok : okV v) (hl : (ct v).length ≤ 1000000) : (partsV v).length ≤ 1000000 := by
  cases v with
  | arr l =>
    show (idxF 0 (ctL l)).length ≤ _
    rw [idxF_len]
    have : (strOf (ct (.arr l))).data.toList = 91 :: (joinC (ctL l) ++ [93]) := by rw [strOf_toList]; rfl
    have := keyLen this
    rw [strOf_size] at this
    omega
  | obj m =>
    show (isort (ctM m)).length ≤ _
    have : (strOf (ct (.obj m))).data.toList = 123 :: (joinC ((isort (ctM m)).map memT) ++ [125]) := by rw [strOf_toList]; rfl
    have := keyLen this
    rw [strOf_size, List.length_map] at this
    omega
  | nul => simp [partsV]
  | tt => simp [partsV]
  | ff => simp [partsV]
  | num l => simp [partsV]
  | str l => simp [partsV]

end Go.Proofs.YtcjajchfjoffnaaGreatDoor

namespace Go.Proofs.YtcjajchfjoffnaaGreatDoor
open Go.RowKit

theorem partC_len (hs : List Part) : (hs.flatMap partC).length = hs.length * 2 := by
  induction hs with
  | nil => rfl
  | cons p r ih => rw [List.flatMap_cons, List.length_append, ih, List.length_cons]; simp [partC]; omega
theorem partC_one (hs : List Part) : ∀ u ∈ hs.flatMap partC, u.oneCell' = true := by
  intro u hu
  obtain ⟨p, _, hp⟩ := List.mem_flatMap.1 hu
  simp [partC] at hp
  rcases hp with rfl | rfl <;> rfl
theorem one_text (k : List UInt8) (w : World) (hk : k.length ≤ 1000000) (g : Nat) (c : w.cell? ⟨g, 0, none⟩ = some (.string (strOf k))) :
    Calls Tryz.prog 57 #[.slice (some ⟨g, 0, none⟩) 1 1] w fun e w' => e = .returned (.string (strOf (47 :: esc k))) ∧ Below w.heap.size w w' := by
  have h : SS w (some ⟨g, 0, none⟩) g 0 [strOf k] := ⟨fun _ => rfl, fun j hj => by
    have : j = 0 := by simp at hj; omega
    subst this; exact c⟩
  have ht : [strOf k].length + tot [strOf k] ≤ 1048576 := by simp [tot, strOf_size]; omega
  have e : ptrText [strOf k] = 47 :: esc k := by simp [ptrText, strOf_toList]
  have := specText_walk (some ⟨g, 0, none⟩) g 0 1 [strOf k] w h ht
  rw [e] at this
  exact this

end Go.Proofs.YtcjajchfjoffnaaGreatDoor

namespace Go.Proofs.YtcjajchfjoffnaaGreatDoor
open Go.RowKit

/-- The pointer of tokens. -/
def ptrT (ts : List (List UInt8)) : List UInt8 := ts.flatMap fun t => 47 :: esc t
def totT (ts : List (List UInt8)) : Nat := (ts.map List.length).sum
theorem ptrT_snoc (ts : List (List UInt8)) (k : List UInt8) : ptrT (ts ++ [k]) = ptrN (ptrT ts) k := by simp [ptrT, ptrN]
theorem totT_snoc (ts : List (List UInt8)) (k : List UInt8) : totT (ts ++ [k]) = totT ts + k.length := by simp [totT]
theorem baT_text (ts : List (List UInt8)) : ptrText (ts.map baT) = ptrT ts := by
  induction ts with
  | nil => rfl
  | cons t r ih =>
    have e : (baT t).data.toList = t := by simp [baT]
    rw [List.map_cons]
    show 47 :: esc (baT t).data.toList ++ ptrText (r.map baT) = 47 :: esc t ++ ptrT r
    rw [ih, e]
theorem baT_tot (ts : List (List UInt8)) : tot (ts.map baT) = totT ts := by
  unfold tot totT
  rw [List.map_map]
  congr 1
theorem textO_walk {B : Nat} (v : Value) (ts : List (List UInt8)) (w : World) (h : OT w B v ts) (hm : ts.length + totT ts ≤ 1048576) :
    Calls Tryz.prog 57 #[v] w fun e w' => e = .returned (.string (strOf (ptrT ts))) ∧ Below w.heap.size w w' := by
  obtain ⟨a, g, cap, rfl, hs, _⟩ := h.shape
  have e : ts.length = (ts.map baT).length := by simp
  have := specText_walk a g 0 cap (ts.map baT) w hs (by rw [baT_tot, ← e]; exact hm)
  rw [← e, baT_text] at this
  exact this
theorem rowCells {w : World} {B : Nat} {v : Value} {ts : List (List UInt8)} (h : OT w B v ts) : (v = .slice none 0 0 ∧ ts = []) ∨ ∃ g cap, v = .slice (some ⟨g, 0, none⟩) ts.length cap ∧ (∀ j u, (ts.map tokCell)[j]? = some u → w.cell? ((⟨g, 0, none⟩ : Addr).add j) = some u) := by
  rcases h.2 with ⟨hv, h0⟩ | ⟨g, cap, cur, hv, _⟩
  · exact .inl ⟨hv, List.eq_nil_of_length_eq_zero h0⟩
  · refine .inr ⟨g, cap, hv, fun j u hj => ?_⟩
    subst hv
    exact World.ownsRow.cells h rfl j u hj
/-- Appending a row of texts to one that the call owns. -/
theorem wpList_append_rows {w : World} {ops : Array Oper} {rest : List Oper} {o : Oper} {a : Act} {Q : Exit → Act → World → Prop} (hg : o.guard = none) (s x : Operand)
    (ho : o.op = .call { callee := .builtin .append, args := #[s, x], argTypes := #[45, 45] }) {B B' : Nat} {v u : Value} {ts us : List (List UInt8)} (hs : a.eval s = v) (hx : a.eval x = u)
    (h : OT w B v ts) (k : OT w B' u us) (hB : B ≤ w.heap.size) (hl : ts.length + us.length ≤ 1000000)
    (hK : ∀ v' w', OT w' B v' (ts ++ us) → w.grownBy w' v.ownBlock → wpList Tryz.prog ops Q rest (a.put o.dst v') w') : wpList Tryz.prog ops Q (o :: rest) a w := by
  obtain ⟨i0, hi, hz0, hz1, hz2⟩ := info_parts infoString
  rcases rowCells k with ⟨rfl, rfl⟩ | ⟨g, cap, rfl, hcell⟩
  · refine wpList_append_own_none hg s x 45 ho B 9 i0 1 Tryz.underlying45 hi v _ _ hs h hx ?_
    exact hK v w (by rw [List.append_nil]; exact h) (World.grownBy.refl _ _)
  · refine wpList_append_own _ hg s x 45 ho B 9 i0 (.string ByteArray.empty) 1 16 Tryz.underlying45 hi hz0 hz1 hz2 rfl (by decide) v _ _ hs h ⟨g, 0, none⟩ us.length cap (us.map tokCell) hx (by simp) hcell (tok_ones us) (by unfold maxLen; omega) (by omega) hB ?_
    intro v' w' h1 h2 _
    exact hK v' w' (by unfold OT; rw [List.length_append, List.map_append]; exact h1) h2
theorem fst_kd {v : JV} (h : okV v) (h0 : 0 < (strOf (ct v)).size) : ((((strOf (ct v))[0]).toNat : Int) == 123) = (kd v == 6) ∧ ((((strOf (ct v))[0]).toNat : Int) == 91) = (kd v == 5) := by
  obtain ⟨c, r, e, f⟩ := ct_fb h
  have hb : ((strOf (ct v))[0]).toNat = c.toNat := by
    rw [← bt_at _ 0 h0]
    have := (bt_first (c := c) (r := r)).2
    rw [e]; exact this
  rw [hb, ← f]
  unfold fb
  have hc := c.toNat_lt
  constructor
  · by_cases h1 : c.toNat = 123
    · rw [h1]; rfl
    · have a1 : ((c.toNat : Int) == 123) = false := by rw [beq_eq_false_iff_ne]; omega
      rw [a1]
      symm
      rw [beq_eq_false_iff_ne]
      repeat (first | (split; omega) | split)
      all_goals omega
  · by_cases h1 : c.toNat = 91
    · rw [h1]; rfl
    · have a1 : ((c.toNat : Int) == 91) = false := by rw [beq_eq_false_iff_ne]; omega
      rw [a1]
      symm
      rw [beq_eq_false_iff_ne]
      repeat (first | (split; omega) | split)
      all_goals omega
theorem findK_at : ∀ {K : List (List UInt8 × JV)} {j : Nat} {key : List UInt8}, (K.map (·.1)).Nodup → (h : j < K.length) → K[j].1 = key → findK K key = some K[j].2
  | q :: K, 0, key, _, _, e => by
    have e' : q.1 = key := e
    unfold findK
    rw [List.find?_cons, show (q.1 == key) = true from by rw [beq_iff_eq]; exact e']
    rfl
  | q :: K, j + 1, key, hn, h, e => by
    rw [List.map_cons, List.nodup_cons] at hn
    have h' : j < K.length := by simpa using h
    have e' : K[j].1 = key := e
    have ih := findK_at hn.2 h' e'
    have hne : (q.1 == key) = false := by
      rw [beq_eq_false_iff_ne]
      intro e2
      exact hn.1 (by rw [e2, ← e']; exact List.mem_map.2 ⟨_, List.getElem_mem h', rfl⟩)
    unfold findK at *
    rw [List.find?_cons, hne]
    exact ih
theorem kids_nodup {v : JV} (h : twV v = false) : ((kidsV v).map (·.1)).Nodup := by
  cases v with
  | arr l => exact keys2_nodup (a := .arr l) (b := .arr l) h
  | obj m =>
    rw [twV] at h
    show ((isortJ m.toL).map (·.1)).Nodup
    have := ((isortJ_perm m.toL).map (·.1)).nodup_iff
    rw [this, ← keysM_map]
    exact (twM_nodup m [] h).1
  | nul => simp [kidsV]
  | tt => simp [kidsV]
  | ff => simp [kidsV]
  | num l => simp [kidsV]
  | str l => simp [kidsV]
/-- What the look for a key among a value's parts answers. -/
def FindR (v : JV) (key : List UInt8) (e : Ending) : Prop := (e = .returned (.int .i64 (-1)) ∧ findK (kidsV v) key = none) ∨ ∃ (j : Nat) (u : JV), j < (kidsV v).length ∧ e = .returned (.int .i64 (j : Int)) ∧ findK (kidsV v) key = some u ∧ ((kidsV v).map kt)[j]? = some (key, ct u)
theorem find_kids {B : Nat} (v : JV) (htw : twV v = false) (r : Value) (key : List UInt8) (w : World) (h : PR w B r ((kidsV v).map kt)) (hn : (kidsV v).length ≤ 1000000) :
    Calls Tryz.prog 105 #[r, .string (strOf key)] w fun e w' => w = w' ∧ FindR v key e := by
  refine (find_at B r _ key w h (by rw [List.length_map]; omega)).mono ?_
  rintro e w' ⟨rfl, ⟨rfl, hno⟩ | ⟨j, hj, rfl, hk⟩⟩
  · refine ⟨rfl, .inl ⟨rfl, findK_none.2 fun hm => ?_⟩⟩
    obtain ⟨q, hq, e⟩ := List.mem_map.1 hm
    obtain ⟨j, hj, e2⟩ := List.getElem_of_mem hq
    refine hno j (by rw [List.length_map]; exact hj) ?_
    rw [List.getElem_map, e2]
    exact e
  · have hj' : j < (kidsV v).length := by rw [List.length_map] at hj; exact hj
    rw [List.getElem_map] at hk
    refine ⟨rfl, .inr ⟨j, (kidsV v)[j].2, hj', rfl, findK_at (kids_nodup htw) hj' hk, ?_⟩⟩
    rw [List.getElem?_eq_getElem hj, List.getElem_map]
    show some (kt (kidsV v)[j]) = _
    unfold kt
    rw [show (kidsV v)[j].1 = key from hk]
end Go.Proofs.YtcjajchfjoffnaaGreatDoor
