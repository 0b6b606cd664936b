import Derived.Test.YtcffdclgddmigaaGreatDoorBr1
import Derived.Test.YtcffdclgddmigaaGreatDoorBr2
import Derived.Test.YtcffdclgddmigaaGreatDoorBn40
import Derived.Test.YtcffdclgddmigaaGreatDoorBn1
import Derived.Test.YtcffdclgddmigaaGreatDoorBn43
import Derived.Test.YtcffdclgddmigaaGreatDoorBr4
import Derived.Test.YtcffdclgddmigaaGreatDoorBr5
namespace Go.Proofs.YtcffdclgddmigaaGreatDoor
open Go.RowKit

theorem tok_getD {ts : List (List UInt8)} {j : Nat} (h : j < ts.length) : (ts.map baT).getD j ByteArray.empty = baT (ts.getD j []) := by simp [h]
/-- What the look for a key answers. -/
def FindP (ps : List Part) (key : List UInt8) (e : Ending) : Prop := (e = .returned (.int .i64 (-1)) ∧ ∀ j (hj : j < ps.length), ps[j].1 ≠ key) ∨ ∃ (j : Nat) (hj : j < ps.length), e = .returned (.int .i64 (j : Int)) ∧ ps[j].1 = key
theorem FindP.no {ps : List Part} {key : List UInt8} {e : Ending} (h : e = .returned (.int .i64 (-1))) (k : ∀ j (hj : j < ps.length), ps[j].1 ≠ key) : FindP ps key e := Or.inl ⟨h, k⟩
theorem FindP.yes {ps : List Part} {key : List UInt8} {e : Ending} {j : Nat} (hj : j < ps.length) (h : e = .returned (.int .i64 (j : Int))) (k : ps[j].1 = key) : FindP ps key e := Or.inr ⟨j, hj, h, k⟩
/-- What the look for a part answers. -/
def ChildP (v : JV) (t : List UInt8) (e : Ending) : Prop := (e = .returned (.int .i64 (-1)) ∧ childV v t = none) ∨ ∃ (j : Nat) (hj : j < (partsV v).length) (u : JV), e = .returned (.int .i64 (j : Int)) ∧ childV v t = some u ∧ (partsV v)[j].2 = ct u
theorem ChildP.no {v : JV} {t : List UInt8} {e : Ending} (h : e = .returned (.int .i64 (-1))) (k : childV v t = none) : ChildP v t e := Or.inl ⟨h, k⟩
theorem ChildP.yes {v u : JV} {t : List UInt8} {e : Ending} {j : Nat} (hj : j < (partsV v).length) (h : e = .returned (.int .i64 (j : Int))) (k : childV v t = some u ∧ (partsV v)[j].2 = ct u) : ChildP v t e := Or.inr ⟨j, hj, u, h, k.1, k.2⟩

set_option maxHeartbeats 800000 in
theorem find_at (B : Nat) (v : Value) (ps : List Part) (key : List UInt8) (w : World) (h : PR w B v ps) (hn : ps.length ≤ 40000000) :
    Calls Tryz.prog 71 #[v, .string (strOf key)] w fun e w' => w = w' ∧ FindP ps key e := by
  obtain ⟨x, len, cap, rfl, hlen⟩ : ∃ x len cap, v = .slice x len cap ∧ len = ps.length := by
    rcases h.2 with ⟨hv, h0⟩ | ⟨g, cap, cur, hv, _⟩
    · exact ⟨_, _, _, hv, h0.symm⟩
    · exact ⟨_, _, _, hv, rfl⟩
  subst hlen
  have HP := hide h
  clear h
  go_enter Tryz.func71, Tryz.ntmps71
  go_wp2_with fail
  go_loopw [5] (fun k wr => w = wr ∧ ∃ j : Nat, k = .int .i64 (j : Int) ∧ j ≤ ps.length ∧ ∀ i (hi : i < ps.length), i < j → ps[i].1 ≠ key) (fun k _ => ps.length - (intOf k).toNat)
  case atStart => exact ⟨rfl, 0, rfl, Nat.zero_le _, fun i _ hi => by omega⟩
  case round =>
    obtain ⟨rfl, j, rfl, hj, hno⟩ := hrel
    have HNO := hide hno
    clear hno
    by_cases hin : j < ps.length
    · have t1 : ((j : Int) < (ps.length : Int)) = True := eq_true (by omega)
      obtain ⟨g, cap', he, hB, hgl, c0, c1⟩ := (unhide HP).cells j hin
      injection he with he1 he2 he3
      subst he1; subst he3
      have heq := str_eq ps[j].1 key
      by_cases hk : ps[j].1 = key
      · have t2 : (ps[j].1 == key) = true := by rw [beq_iff_eq]; exact hk
        have HK := hide hk
        rw [t2] at heq
        clear hk t2
        go_wp2
        go_ret
        exact ⟨rfl, FindP.yes hin rfl (unhide HK)⟩
      · have t2 : (ps[j].1 == key) = false := by rw [beq_eq_false_iff_ne]; exact hk
        have HX : Hid (∀ i (hi : i < ps.length), i < j + 1 → ps[i].1 ≠ key) := fun i hi hij => by
          by_cases e : i = j
          · subst e; exact hk
          · exact unhide HNO i hi (by omega)
        rw [t2] at heq
        clear hk t2
        go_wp2
        go_roundw
        case rel => exact ⟨trivial, j + 1, by go_num, by omega, unhide HX⟩
        case measure => simp [intOf]; omega
    · have t1 : ((j : Int) < (ps.length : Int)) = False := eq_false (by omega)
      go_wp2
      go_ret
      exact ⟨rfl, FindP.no rfl (fun i hi => unhide HNO i hi (by omega))⟩

/-- The parts of a value. -/
theorem parts_ct (v : JV) (hok : okV v) (w : World) (hl : (ct v).length ≤ 1000000) :
    Calls Tryz.prog 61 #[.string (strOf (ct v))] w fun e w' => ∃ r, e = .returned r ∧ PR w' w.heap.size r (partsV v) ∧ Below w.heap.size w w' := by
  have leaf : ∀ (c : UInt8) (r : List UInt8), ct v = c :: r → c.toNat ≠ 91 → c.toNat ≠ 123 → partsV v = [] → Calls Tryz.prog 61 #[.string (strOf (ct v))] w fun e w' => ∃ r, e = .returned r ∧ PR w' w.heap.size r (partsV v) ∧ Below w.heap.size w w' := fun c r hc h1 h2 hp => by
    rw [hp, hc]
    obtain ⟨a, b⟩ := bt_first (c := c) (r := r)
    exact parts_leaf _ w a (by rw [b]; exact h1) (by rw [b]; exact h2)
  cases v with
  | arr l => rw [okV] at hok; exact parts_arr l hok w (by rw [strOf_size]; exact hl)
  | obj m => rw [okV] at hok; exact parts_obj m hok w (by rw [strOf_size]; exact hl)
  | nul => exact leaf 110 _ rfl (by decide) (by decide) rfl
  | tt => exact leaf 116 _ rfl (by decide) (by decide) rfl
  | ff => exact leaf 102 _ rfl (by decide) (by decide) rfl
  | num l =>
    have hp := num_plain hok
    cases l with
    | nil => exact absurd rfl hp.1
    | cons c r =>
      have := (hp.2 c List.mem_cons_self).1
      exact leaf c r rfl this.2.1 this.2.2.1 rfl
  | str l => exact leaf 34 (qs l ++ [34]) rfl (by decide) (by decide) rfl
theorem parts_len {v : JV} (hok : okV v) (hl : (ct v).length ≤ 1000000) : (partsV v).length ≤ 1000000 := by
  cases v with
  | arr l =>
    show (idxF 0 (ctL l)).length ≤ _
    rw [idxF_len]
    have : (strOf (ct (.arr l))).data.toList = 91 :: (joinC (ctL l) ++ [93]) := by rw [strOf_toList]; rfl
    have := keyLen this
    rw [strOf_size] at this
    omega
  | obj m =>
    show (isort (ctM m)).length ≤ _
    have : (strOf (ct (.obj m))).data.toList = 123 :: (joinC ((isort (ctM m)).map memT) ++ [125]) := by rw [strOf_toList]; rfl
    have := keyLen this
    rw [strOf_size, List.length_map] at this
    omega
  | nul => simp [partsV]
  | tt => simp [partsV]
  | ff => simp [partsV]
  | num l => simp [partsV]
  | str l => simp [partsV]

set_option maxRecDepth 100000 in
set_option maxHeartbeats 2000000 in
theorem child_walk (v : JV) (hok : okV v) (htw : twV v = false) (t : List UInt8) (ht : t.length ≤ 1048576) (w : World) (hl : (ct v).length ≤ 1000000) :
    Calls Tryz.prog 60 #[.string (strOf (ct v)), .string (strOf t)] w fun e w' => Below w.heap.size w w' ∧ ChildP v t e := by
  have HP : Hid (∀ w, Calls Tryz.prog 61 #[.string (strOf (ct v))] w fun e w' => ∃ r, e = .returned r ∧ PR w' w.heap.size r (partsV v) ∧ Below w.heap.size w w') := fun w => parts_ct v hok w hl
  have HI : Hid (∀ w, Calls Tryz.prog 95 #[.string (strOf t)] w fun e w' => e = .returned (.int .i64 (idxZ t)) ∧ w = w') := fun w => by
    have := l1Index_walk (strOf t) w (by rw [strOf_size]; exact ht)
    rwa [strOf_toList] at this
  have hpl := parts_len hok hl
  have hne := ct_ne v hok
  have h0 : 0 < (strOf (ct v)).size := by rw [strOf_size]; cases h : ct v with
    | nil => exact absurd h hne
    | cons _ _ => simp
  have hI : (0 : Int) < ((strOf (ct v)).size : Int) := by omega
  have hfirst : (strOf (ct v))[0].toNat = 91 ↔ ∃ l, v = .arr l := by
    rw [← bt_at _ 0 h0]
    constructor
    · intro h
      cases v with
      | arr l => exact ⟨l, rfl⟩
      | obj m => exact absurd h (by rw [show ct (.obj m) = 123 :: (joinC ((isort (ctM m)).map memT) ++ [125]) from rfl, (bt_first (c := 123) (r := joinC ((isort (ctM m)).map memT) ++ [125])).2]; decide)
      | nul => exact absurd h (by decide)
      | tt => exact absurd h (by decide)
      | ff => exact absurd h (by decide)
      | num l =>
        have hp := num_plain hok
        cases l with
        | nil => exact absurd rfl hp.1
        | cons c r =>
          have h2 : bt (strOf (c :: r)) 0 = 91 := h
          rw [(bt_first (c := c) (r := r)).2] at h2
          exact absurd h2 (hp.2 c List.mem_cons_self).1.2.1
      | str l => exact absurd h (by rw [show ct (.str l) = 34 :: (qs l ++ [34]) from rfl, (bt_first (c := 34) (r := qs l ++ [34])).2]; decide)
    · rintro ⟨l, rfl⟩
      exact (bt_first (c := 91) (r := joinC (ctL l) ++ [93])).2
  have HFO : Hid (((∃ l, v = .arr l) → (idxT t).isSome = true) → ∀ {j : Nat} (hj : j < (partsV v).length), (partsV v)[j].1 = t → ∃ u, childV v t = some u ∧ (partsV v)[j].2 = ct u) := fun hi {j} hj hk => child_found hok htw hi hj hk
  have HMI : Hid ((∀ j (hj : j < (partsV v).length), (partsV v)[j].1 ≠ t) → childV v t = none) := fun h => child_missed h
  have HNO : Hid ((∃ l, v = .arr l) → idxT t = none → childV v t = none) := fun ⟨l, e⟩ h => by subst e; rw [childV_arr, h]; rfl
  have hrest : ((∃ l, v = .arr l) → (idxT t).isSome = true) → ∀ w1 (r : Value), PR w1 w.heap.size r (partsV v) → Calls Tryz.prog 71 #[r, .string (strOf t)] w1 fun e w' => w1 = w' ∧ ChildP v t e := fun hi w1 r hr => by
    refine (find_at _ r (partsV v) t w1 hr (by omega)).mono ?_
    rintro e w' ⟨rfl, ⟨rfl, h⟩ | ⟨j, hj, rfl, hk⟩⟩
    · exact ⟨rfl, ChildP.no rfl (unhide HMI h)⟩
    · obtain ⟨u, h1, h2⟩ := unhide HFO hi hj hk
      exact ⟨rfl, ChildP.yes hj rfl ⟨h1, h2⟩⟩
  have HREST := hide hrest
  clear hrest HFO HMI
  by_cases ha : ∃ l, v = .arr l
  · have f1 : (((strOf (ct v))[0].toNat : Int) == 91) = true := by rw [beq_iff_eq]; have := hfirst.2 ha; omega
    cases hx : idxT t with
    | none =>
      have HN := hide (unhide HNO ha hx)
      have ez : idxZ t = -1 := by unfold idxZ; rw [hx]
      rw [ez] at HI
      clear hfirst HNO HREST ha hx ez HP hne hok htw
      generalize strOf (ct v) = T at *
      go_enter Tryz.func60, Tryz.ntmps60
      go_wp2_with fail
      refine (unhide HI _).mono ?_
      rintro e w1 ⟨rfl, rfl⟩
      clear HI
      go_wp2
      go_ret
      exact ⟨Below.refl _ _, ChildP.no rfl (unhide HN)⟩
    | some i =>
      have HR := hide (unhide HREST (fun _ => by rw [hx]; rfl))
      have ez : idxZ t = (i : Int) := by unfold idxZ; rw [hx]
      rw [ez] at HI
      have ti : ¬ (i : Int) < 0 := by omega
      clear hfirst HNO HREST ha hx ez hne hok htw
      generalize strOf (ct v) = T at *
      go_enter Tryz.func60, Tryz.ntmps60
      go_wp2_with fail
      refine (unhide HI _).mono ?_
      rintro e w1 ⟨rfl, rfl⟩
      clear HI
      go_wp2_with fail
      refine (unhide HP _).mono ?_
      rintro e w1 ⟨r, rfl, p1, b1⟩
      have HR1 := hide (unhide HR w1 r p1)
      clear HP HR p1
      go_wp2_with fail
      refine (unhide HR1).mono ?_
      rintro e w2 ⟨rfl, ⟨rfl, h⟩ | ⟨j, hj, u, rfl, h1, h2⟩⟩
      · clear HR1
        have HH := hide h
        clear h
        go_wp2
        go_ret
        exact ⟨b1, ChildP.no rfl (unhide HH)⟩
      · clear HR1
        have HH := hide (⟨h1, h2⟩ : childV v t = some u ∧ (partsV v)[j].2 = ct u)
        clear h1 h2
        go_wp2
        go_ret
        exact ⟨b1, ChildP.yes hj rfl (unhide HH)⟩
  · have f1 : (((strOf (ct v))[0].toNat : Int) == 91) = false := by rw [beq_eq_false_iff_ne]; intro e; exact ha (hfirst.1 (by omega))
    have HR := hide (unhide HREST (fun h => absurd h ha))
    clear hfirst HNO HREST ha hne hok htw HI
    generalize strOf (ct v) = T at *
    go_enter Tryz.func60, Tryz.ntmps60
    go_wp2_with fail
    refine (unhide HP _).mono ?_
    rintro e w1 ⟨r, rfl, p1, b1⟩
    have HR1 := hide (unhide HR w1 r p1)
    clear HP HR p1
    go_wp2_with fail
    refine (unhide HR1).mono ?_
    rintro e w2 ⟨rfl, ⟨rfl, h⟩ | ⟨j, hj, u, rfl, h1, h2⟩⟩
    · clear HR1
      have HH := hide h
      clear h
      go_wp2
      go_ret
      exact ⟨b1, ChildP.no rfl (unhide HH)⟩
    · clear HR1
      have HH := hide (⟨h1, h2⟩ : childV v t = some u ∧ (partsV v)[j].2 = ct u)
      clear h1 h2
      go_wp2
      go_ret
      exact ⟨b1, ChildP.yes hj rfl (unhide HH)⟩
end Go.Proofs.YtcffdclgddmigaaGreatDoor

namespace Go.Proofs.YtcffdclgddmigaaGreatDoor
open Go.RowKit

/-- The answer of l1Get. -/
def getR (v : JV) (ts : List (List UInt8)) : Value := match getV v ts with
  | some u => .tuple #[.string (strOf (ct u)), .bool true]
  | none => .tuple #[.string ⟨#[]⟩, .bool false]

set_option maxRecDepth 100000 in
set_option maxHeartbeats 4000000 in
theorem get_walk {B1 : Nat} (v : JV) (hok : okV v) (htw : twV v = false) (hl : (ct v).length ≤ 1000000) (r : Value) (ts : List (List UInt8)) (w : World) (h : OT w B1 r ts) (hn : ts.length ≤ 1048577) (ht : ∀ t ∈ ts, t.length ≤ 1048576) :
    Calls Tryz.prog 31 #[.string (strOf (ct v)), r] w fun e w' => e = .returned (getR v ts) ∧ Below w.heap.size w w' := by
  obtain ⟨a, g, cap, rfl, hs, _⟩ := h.shape
  have hadr := hs.ad
  have HSS := hide hs
  rw [List.length_map] at hadr
  have HCH : Hid (∀ (u : JV) (k : Nat) (hk : k < ts.length) (w : World), okV u → twV u = false → (ct u).length ≤ 1000000 → Calls Tryz.prog 60 #[.string (strOf (ct u)), .string (strOf ts[k])] w fun e w' => Below w.heap.size w w' ∧ ChildP u ts[k] e) := fun u k hk w o1 o2 o3 => child_walk u o1 o2 ts[k] (ht _ (List.getElem_mem hk)) w o3
  have HPA : Hid (∀ (u : JV) (w : World), okV u → (ct u).length ≤ 1000000 → Calls Tryz.prog 61 #[.string (strOf (ct u))] w fun e w' => ∃ r, e = .returned r ∧ PR w' w.heap.size r (partsV u) ∧ Below w.heap.size w w') := fun u w o1 o2 => parts_ct u o1 w o2
  clear hs h ht
  go_enter Tryz.func31, Tryz.ntmps31
  go_wp2
  go_loopw [0, 6] (fun sv iv wr => ∃ (k : Nat) (u : JV), k ≤ ts.length ∧ iv = .int .i64 (k : Int) ∧ sv = .string (strOf (ct u)) ∧ getV v (ts.take k) = some u ∧ okV u ∧ twV u = false ∧ (ct u).length ≤ 1000000 ∧ Below w.heap.size w wr) (fun _ iv _ => ts.length - (intOf iv).toNat)
  case atStart => exact ⟨0, v, Nat.zero_le _, rfl, rfl, rfl, hok, htw, hl, Below.refl _ _⟩
  case round =>
    obtain ⟨k, u, hk, rfl, rfl, hg, ho, htu, hlu, hb⟩ := hrel
    have HG := hide hg
    have HB := hide hb
    by_cases hlt : k < ts.length
    · have hltI : (k : Int) < (ts.length : Int) := by omega
      obtain rfl := hadr (by omega)
      have hck := ((unhide HSS).below hb).cell k (by rw [List.length_map]; exact hlt)
      rw [tok_getD hlt, Nat.zero_add] at hck
      have hgd : baT (ts.getD k []) = strOf ts[k] := by simp [List.getD, hlt, baT, strOf]
      rw [hgd] at hck
      have HC := hide (unhide HCH u k hlt wr ho htu hlu)
      have HST : Hid (childV u ts[k] = none → getR v ts = .tuple #[.string ⟨#[]⟩, .bool false]) := fun hc => by unfold getR; rw [getV_stop hlt hg hc]
      have HNX : Hid (∀ u', childV u ts[k] = some u' → getV v (ts.take (k + 1)) = some u' ∧ okV u' ∧ twV u' = false ∧ (ct u').length ≤ 1000000) := fun u' hc => by
        obtain ⟨c1, c2, c3, _⟩ := childV_ok hc ho htu
        exact ⟨by rw [getV_step hlt hg]; exact hc, c1, c2, by omega⟩
      have HPU : Hid (∀ w, Calls Tryz.prog 61 #[.string (strOf (ct u))] w fun e w' => ∃ r, e = .returned r ∧ PR w' w.heap.size r (partsV u) ∧ Below w.heap.size w w') := fun w => unhide HPA u w ho hlu
      generalize strOf (ct u) = su at *
      generalize strOf ts[k] = st at *
      clear hg hb HG HCH HPA hgd
      go_wp2_with fail
      refine (unhide HC).mono ?_
      rintro e w1 ⟨b1, ⟨rfl, hcn⟩ | ⟨j, hj, u', rfl, hcs, hpt⟩⟩
      · have HV := hide (unhide HST hcn)
        have B1 := below_next (unhide HB) b1
        clear HC HST HNX HPU hck hcn
        go_wp2
        go_ret2
        exact ⟨by rw [unhide HV]; rfl, B1⟩
      · obtain ⟨n1, n2, n3, n4⟩ := unhide HNX u' hcs
        have B1 := hide (below_next (unhide HB) b1)
        have HN := hide (⟨n1, n2, n3, n4⟩ : getV v (ts.take (k + 1)) = some u' ∧ okV u' ∧ twV u' = false ∧ (ct u').length ≤ 1000000)
        have tj : ¬ (j : Int) < 0 := by omega
        clear HC HST HNX hck hcs n1 n2 n3 n4 b1
        go_wp2_with fail
        refine (unhide HPU _).mono ?_
        rintro e w2 ⟨r2, rfl, p2, b2⟩
        obtain ⟨g2, cap2, he, _, _, c0, c1⟩ := p2.cells j hj
        subst he
        rw [hpt] at c1
        have hjI : (j : Int) < ((partsV u).length : Int) := by omega
        have B2 := hide (below_next (unhide B1) b2)
        clear HPU p2 b2 B1 c0 hpt
        generalize (partsV u).length = pl at *
        go_wp2
        go_roundw
        case rel => exact ⟨k + 1, u', by omega, by go_num, rfl, (unhide HN).1, (unhide HN).2.1, (unhide HN).2.2.1, (unhide HN).2.2.2, unhide B2⟩
        case measure => simp [intOf]; omega
    · have e : ts.take k = ts := List.take_of_length_le (by omega)
      rw [e] at HG
      have HV : Hid (getR v ts = .tuple #[.string (strOf (ct u)), .bool true]) := by show _ = _; unfold getR; rw [unhide HG]
      generalize strOf (ct u) = su at *
      clear hg hb HG HCH HPA e
      go_wp2
      go_ret2
      exact ⟨by rw [unhide HV]; rfl, unhide HB⟩

/-- The answer of Resolve. -/
def resV (s t : ByteArray) : Value := match readR s with
  | .inl _ => .tuple #[.string ⟨#[]⟩, .int .i64 1]
  | .inr v => match ptoks t.data.toList with
    | none => .tuple #[.string ⟨#[]⟩, .int .i64 2]
    | some ts => match getV v ts with
      | none => .tuple #[.string ⟨#[]⟩, .int .i64 3]
      | some u => .tuple #[.string (strOf (ct u)), .int .i64 0]
theorem mapM_mem {ps : List (List UInt8)} : ∀ {ts : List (List UInt8)}, ps.mapM unesc = some ts → ∀ t ∈ ts, ∃ p ∈ ps, unesc p = some t := by
  induction ps with
  | nil => intro ts h t ht; simp at h; subst h; simp at ht
  | cons p ps ih =>
    intro ts h t ht
    rw [mapM_cons'] at h
    cases hu : unesc p with
    | none => rw [hu] at h; simp at h
    | some q =>
      cases hm : List.mapM unesc ps with
      | none => rw [hu, hm] at h; simp at h
      | some us =>
        rw [hu, hm] at h
        simp at h
        subst h
        rcases List.mem_cons.1 ht with rfl | ht
        · exact ⟨p, List.mem_cons_self, hu⟩
        · obtain ⟨p', h1, h2⟩ := ih hm t ht
          exact ⟨p', List.mem_cons_of_mem _ h1, h2⟩
theorem unesc_len : ∀ (n : Nat) (p t : List UInt8), p.length ≤ n → unesc p = some t → t.length ≤ p.length := by
  intro n
  induction n with
  | zero => intro p t hl h; obtain rfl := List.eq_nil_of_length_eq_zero (Nat.le_zero.1 hl); simp [unesc] at h; subst h; simp
  | succ n ih =>
    intro p t hl h
    cases p with
    | nil => simp [unesc] at h; subst h; simp
    | cons c r =>
      have fin : ∀ (r' : List UInt8) (x : List UInt8), r'.length ≤ r.length → x.length = 1 → (unesc r').map (x ++ ·) = some t → t.length ≤ (c :: r).length := fun r' x hr hx hm => by
        cases hu : unesc r' with
        | none => rw [hu] at hm; simp at hm
        | some u =>
          rw [hu] at hm
          simp at hm
          have := ih r' u (by simp at hl; omega) hu
          rw [← hm]; simp; omega
      by_cases h1 : (c.toNat : Int) = 126
      · cases r with
        | nil => rw [unesc_end h1] at h; cases h
        | cons d r =>
          by_cases h2 : (d.toNat : Int) = 48
          · rw [unesc_0 r h1 h2] at h; exact fin r [126] (by simp) rfl h
          · by_cases h3 : (d.toNat : Int) = 49
            · rw [unesc_1 r h1 h3] at h; exact fin r [47] (by simp) rfl h
            · rw [unesc_bad r h1 h2 h3] at h; cases h
      · rw [unesc_lit r h1] at h; exact fin r [c] (Nat.le_refl _) rfl h
theorem ptoks_small {l : List UInt8} {ts : List (List UInt8)} (h : ptoks l = some ts) : ∀ t ∈ ts, t.length ≤ l.length := by
  intro t ht
  cases l with
  | nil => simp [ptoks] at h; subst h; simp at ht
  | cons c r =>
    rw [ptoks] at h
    split at h
    · unfold toks at h
      obtain ⟨p, hp, hu⟩ := mapM_mem h t ht
      have h1 := unesc_len _ p t (Nat.le_refl _) hu
      have h2 := pieces_size r p hp
      simp; omega
    · cases h

set_option maxRecDepth 100000 in
set_option maxHeartbeats 4000000 in
theorem specResolve_walk (s t : ByteArray) (w : World) (hs : s.size ≤ 1048576) (ht : t.size ≤ 1048576) :
    Calls Tryz.prog 8 #[.string s, .string t] w fun e w' => e = .returned (resV s t) ∧ Below w.heap.size w w' := by
  have HF := hide (specCanon_walk s w hs)
  have HT : Hid (∀ w, Calls Tryz.prog 30 #[.string t] w fun e w' => ∃ v, e = .returned (.tuple #[v, .bool (ptoks t.data.toList).isSome]) ∧ OT w' w.heap.size v ((ptoks t.data.toList).getD []) ∧ Below w.heap.size w w') := fun w => specToks_walk t w ht
  have hdl := data_len t
  have htl := toks_len_le t.data.toList
  cases hr : readR s with
  | inl c =>
    obtain ⟨c1, c2⟩ := read_code hr
    have HV : Hid (resV s t = .tuple #[.string ⟨#[]⟩, .int .i64 1]) := by show _ = _; unfold resV; rw [hr]
    have e0 : canonV s = .tuple #[.string ⟨#[]⟩, .int .i64 (c : Int)] := by unfold canonV; rw [hr]
    rw [e0] at HF
    have t1 : ((c : Int) == 0) = false := by simp; omega
    have t2 : ((c : Int) != 0) = true := by simp; omega
    have t3 : ¬ (c : Int) = 0 := by omega
    have t4 : ¬ c = 0 := by omega
    clear hr e0 HT hdl htl
    go_enter Tryz.func8, Tryz.ntmps8
    go_wp2_with fail
    refine (unhide HF).mono ?_
    rintro e w1 ⟨rfl, b1⟩
    clear HF
    go_wp2
    go_ret2
    exact ⟨by rw [unhide HV]; rfl, b1⟩
  | inr v =>
    obtain ⟨hss, hd, htw, _, _, _⟩ := read_facts hr
    obtain ⟨hok, hcn, hln⟩ := doc_facts hd
    have e0 : canonV s = .tuple #[.string (strOf (ct v)), .int .i64 0] := by unfold canonV; rw [hr]
    rw [e0] at HF
    cases hp : ptoks t.data.toList with
    | none =>
      have HV : Hid (resV s t = .tuple #[.string ⟨#[]⟩, .int .i64 2]) := by show _ = _; unfold resV; rw [hr, hp]
      rw [hp] at HT
      simp only [Option.isSome_none, Option.getD_none] at HT
      generalize strOf (ct v) = cv at *
      clear hr e0 hp hd htw hok hcn hln hdl htl
      go_enter Tryz.func8, Tryz.ntmps8
      go_wp2_with fail
      refine (unhide HF).mono ?_
      rintro e w1 ⟨rfl, b1⟩
      clear HF
      go_wp2_with fail
      refine (unhide HT _).mono ?_
      rintro e w2 ⟨v2, rfl, o2, b2⟩
      have B2 := below_next b1 b2
      clear HT o2
      go_wp2
      go_ret2
      exact ⟨by rw [unhide HV]; rfl, B2⟩
    | some ts =>
      have hsm := ptoks_small hp
      rw [hp] at HT htl
      simp only [Option.isSome_some, Option.getD_some] at HT htl
      have HG : Hid (∀ (r : Value) (B : Nat) (w : World), OT w B r ts → Calls Tryz.prog 31 #[.string (strOf (ct v)), r] w fun e w' => e = .returned (getR v ts) ∧ Below w.heap.size w w') := fun r B w h => get_walk v hok htw (by omega) r ts w h (by omega) (fun t ht => by have := hsm t ht; omega)
      cases hg : getV v ts with
      | none =>
        have HV : Hid (resV s t = .tuple #[.string ⟨#[]⟩, .int .i64 3]) := by show _ = _; unfold resV; rw [hr, hp]; simp only; rw [hg]
        have e1 : getR v ts = .tuple #[.string ⟨#[]⟩, .bool false] := by unfold getR; rw [hg]
        rw [e1] at HG
        generalize strOf (ct v) = cv at *
        clear hr e0 hp hd htw hok hcn hln hdl htl e1 hg hsm
        go_enter Tryz.func8, Tryz.ntmps8
        go_wp2_with fail
        refine (unhide HF).mono ?_
        rintro e w1 ⟨rfl, b1⟩
        clear HF
        go_wp2_with fail
        refine (unhide HT _).mono ?_
        rintro e w2 ⟨v2, rfl, o2, b2⟩
        have B2 := hide (below_next b1 b2)
        have HG2 := hide (unhide HG v2 _ w2 o2)
        clear HT o2 HG b1 b2
        go_wp2_with fail
        refine (unhide HG2).mono ?_
        rintro e w3 ⟨rfl, b3⟩
        have B3 := below_next (unhide B2) b3
        clear HG2
        go_wp2
        go_ret2
        exact ⟨by rw [unhide HV]; rfl, B3⟩
      | some u =>
        have HV : Hid (resV s t = .tuple #[.string (strOf (ct u)), .int .i64 0]) := by show _ = _; unfold resV; rw [hr, hp]; simp only; rw [hg]
        have e1 : getR v ts = .tuple #[.string (strOf (ct u)), .bool true] := by unfold getR; rw [hg]
        rw [e1] at HG
        generalize strOf (ct v) = cv at *
        generalize strOf (ct u) = cu at *
        clear hr e0 hp hd htw hok hcn hln hdl htl e1 hg hsm
        go_enter Tryz.func8, Tryz.ntmps8
        go_wp2_with fail
        refine (unhide HF).mono ?_
        rintro e w1 ⟨rfl, b1⟩
        clear HF
        go_wp2_with fail
        refine (unhide HT _).mono ?_
        rintro e w2 ⟨v2, rfl, o2, b2⟩
        have B2 := hide (below_next b1 b2)
        have HG2 := hide (unhide HG v2 _ w2 o2)
        clear HT o2 HG b1 b2
        go_wp2_with fail
        refine (unhide HG2).mono ?_
        rintro e w3 ⟨rfl, b3⟩
        have B3 := below_next (unhide B2) b3
        clear HG2
        go_wp2
        go_ret2
        exact ⟨by rw [unhide HV]; rfl, B3⟩
end Go.Proofs.YtcffdclgddmigaaGreatDoor

namespace Go.Proofs.YtcffdclgddmigaaGreatDoor
open Go.RowKit Go.Sort

def resD : Option JV → Value
  | none => .tuple #[.string ⟨#[]⟩, .int .i64 3]
  | some u => .tuple #[.string (strOf (ct u)), .int .i64 0]

/-- What resolveIn answers. -/
def resIn (v : JV) (t : ByteArray) : Value := match ptoks t.data.toList with
  | none => .tuple #[.string ⟨#[]⟩, .int .i64 2]
  | some ts => resD (getV v ts)
theorem resIn_two (v : JV) (t : ByteArray) : ∃ (x : ByteArray) (c : Int), resIn v t = .tuple #[.string x, .int .i64 c] := by
  unfold resIn
  cases ptoks t.data.toList with
  | none => exact ⟨_, _, rfl⟩
  | some ts =>
    simp only
    cases getV v ts with
    | none => exact ⟨_, _, rfl⟩
    | some u => exact ⟨_, _, rfl⟩

set_option maxRecDepth 100000 in
set_option maxHeartbeats 8000000 in
theorem resolveIn_walk (v : JV) (t : ByteArray) (ty : TypeId) (p : Value) (w : World) (D : Nat → Prop) (hok : okV v) (htw : twV v = false) (hln : (ct v).length ≤ 1000000) (hrep : Rep w D v (.iface ty p)) (hD : ∀ k, D k → k < w.heap.size) (hP : PowB w.heap.size w) (hML : ML w) (ht : t.size ≤ 1048576) :
    Calls Tryz.prog 33 #[.iface ty p, .string t] w fun e w' => e = .returned (resIn v t) ∧ Below w.heap.size w w' := by
  have HT := hide (implToks_walk t w hML ht)
  have HP := hide hP
  have hdl := data_len t
  have htl := toks_len_le t.data.toList
  have REP := hide hrep
  have HD := hide hD
  clear hP hML hrep hD
  cases hp : ptoks t.data.toList with
  | none =>
    have HV : Hid (resIn v t = .tuple #[.string ⟨#[]⟩, .int .i64 2]) := by show _ = _; unfold resIn; rw [hp]
    rw [hp] at HT
    simp only [Option.isSome_none, Option.getD_none] at HT
    clear hp htw hok hln hdl htl
    go_enter Tryz.func33, Tryz.ntmps33
    go_wp2_with fail
    refine (unhide HT).mono ?_
    rintro e w2 ⟨v2, rfl, o2, b2⟩
    have B2 := hide b2
    clear HT o2 b2
    go_wp2
    go_ret2
    exact ⟨by rw [unhide HV]; rfl, unhide B2⟩
  | some ts =>
    have hsm := ptoks_small hp
    have HRV : Hid (resIn v t = resD (getV v ts)) := by show _ = _; unfold resIn; rw [hp]
    rw [hp] at HT htl
    simp only [Option.isSome_some, Option.getD_some] at HT htl
    clear hp
    go_enter Tryz.func33, Tryz.ntmps33
    go_wp2_with fail
    refine (unhide HT).mono ?_
    rintro e w2 ⟨v2, rfl, o2, b2⟩
    have REP2 : Hid (Rep w2 D v (.iface ty p)) := Rep.keep (fun k hk => b2.block k (unhide HD k hk)) (fun _ h => h) _ _ (unhide REP)
    have P2 := hide (((unhide HP).next b2 (Nat.le_refl _)).more b2.size)
    have hw2 := b2.size
    have B2 := hide b2
    obtain ⟨a, g, cap, rfl, hs2, _⟩ := o2.shape
    have hadr := hs2.ad
    have HCE := hide hs2.cell
    simp only [List.length_map] at hadr HCE
    clear HT o2 hs2 b2 HP REP
    go_wp2_with fail
    go_loopw [0, 19] (fun vv iv wr => ∃ (k : Nat) (u : JV) (ty : TypeId) (p : Value), k ≤ ts.length ∧ iv = .int .i64 (k : Int) ∧ vv = .iface ty p ∧ getV v (ts.take k) = some u ∧ okV u ∧ twV u = false ∧ (ct u).length ≤ 1000000 ∧ Rep w2 D u (.iface ty p) ∧ w2 = wr) (fun _ iv _ => ts.length - (intOf iv).toNat)
    case atStart => exact ⟨0, v, ty, p, Nat.zero_le _, rfl, rfl, rfl, hok, htw, by omega, unhide REP2, rfl⟩
    case round =>
      obtain ⟨k, u, ty, p, hk, rfl, rfl, hg, ho, htu, hlu, hrep, rfl⟩ := hrel
      clear REP2
      by_cases hlt : k < ts.length
      · have hltI : (k : Int) < (ts.length : Int) := by omega
        obtain rfl := hadr (by omega)
        have hck := unhide HCE k hlt
        rw [tok_getD hlt, Nat.zero_add] at hck
        have hgd : baT (ts.getD k []) = strOf ts[k] := by simp [List.getD, hlt, baT, strOf]
        rw [hgd] at hck
        have HC := hide (implChild_walk u htu ts[k] (by have := hsm _ (List.getElem_mem hlt); omega) ty p w2 _ hrep)
        have HST : Hid (childV u ts[k] = none → resIn v t = .tuple #[.string ⟨#[]⟩, .int .i64 3]) := fun hc => by rw [unhide HRV, getV_stop hlt hg hc]; rfl
        have HNX : Hid (∀ u', childV u ts[k] = some u' → getV v (ts.take (k + 1)) = some u' ∧ okV u' ∧ twV u' = false ∧ (ct u').length ≤ 1000000) := fun u' hc => by
          obtain ⟨c1, c2, c3, _⟩ := childV_ok hc ho htu
          exact ⟨by rw [getV_step hlt hg]; exact hc, c1, c2, by omega⟩
        generalize strOf ts[k] = st at *
        clear hg hrep hgd HCE HRV
        go_wp2_with fail
        refine (unhide HC).mono ?_
        rintro e w3 ⟨rfl, ⟨x, rfl, hcn⟩ | ⟨x, u', rfl, hcs, hru⟩⟩
        · have HV := hide (unhide HST hcn)
          clear HC HST HNX hck hcn
          go_wp2
          go_ret2
          exact ⟨by rw [unhide HV]; rfl, unhide B2⟩
        · have HN := hide (unhide HNX u' hcs)
          obtain ⟨ty', p', rfl⟩ := rep_iface hru
          have HRU := hide hru
          clear HC HST HNX hck hcs hru
          go_wp2
          go_roundw
          case rel => exact ⟨k + 1, u', ty', p', by omega, by go_num, rfl, (unhide HN).1, (unhide HN).2.1, (unhide HN).2.2.1, (unhide HN).2.2.2, unhide HRU, trivial⟩
          case measure => simp [intOf]; omega
      · have e : ts.take k = ts := List.take_of_length_le (by omega)
        rw [e] at hg
        have HV : Hid (resIn v t = .tuple #[.string (strOf (ct u)), .int .i64 0]) := by show _ = _; rw [unhide HRV, hg]; rfl
        have HC := hide (canonText_walk u ho htu ty p w2 _ hrep (fun k hk => by have := unhide HD k hk; omega) (unhide P2) hlu)
        generalize strOf (ct u) = su at *
        clear hg hrep HCE HRV e
        go_wp2_with fail
        refine (unhide HC).mono ?_
        rintro e w3 ⟨rfl, b3⟩
        have B3 := below_next (unhide B2) b3
        clear HC
        go_wp2
        go_ret2
        exact ⟨by rw [unhide HV]; rfl, B3⟩

set_option maxRecDepth 100000 in
set_option maxHeartbeats 8000000 in
theorem implResolve_walk (s t : ByteArray) (w : World) (hT : TabsB w.heap.size w) (hE : ErrB w.heap.size w) (hP : PowB w.heap.size w) (hML : ML w) (hs : s.size ≤ 1048576) (ht : t.size ≤ 1048576) :
    Calls Tryz.prog 9 #[.string s, .string t] w fun e w' => e = .returned (resV s t) ∧ Below w.heap.size w w' := by
  have HF := hide (readText_walk s w hT hE hP (by omega))
  have HP := hide hP
  have HM := hide hML
  clear hT hE hP hML
  cases hr : readR s with
  | inl c =>
    obtain ⟨c1, c2⟩ := read_code hr
    have HV : Hid (resV s t = .tuple #[.string ⟨#[]⟩, .int .i64 1]) := by show _ = _; unfold resV; rw [hr]
    rw [hr] at HF
    have t1 : ((c : Int) == 0) = false := by simp; omega
    have t2 : ((c : Int) != 0) = true := by simp; omega
    have t3 : ¬ (c : Int) = 0 := by omega
    have t4 : ¬ c = 0 := by omega
    clear hr
    go_enter Tryz.func9, Tryz.ntmps9
    go_wp2_with fail
    refine (unhide HF).mono ?_
    rintro e w1 ⟨b1, rfl⟩
    clear HF
    go_wp2
    go_ret2
    exact ⟨by rw [unhide HV]; rfl, b1⟩
  | inr v =>
    obtain ⟨hss, hd, htw, _, _, _⟩ := read_facts hr
    obtain ⟨hok, hcn, hln⟩ := doc_facts hd
    rw [hr] at HF
    obtain ⟨x, c, hxc⟩ := resIn_two v t
    have HV : Hid (resV s t = .tuple #[.string x, .int .i64 c]) := by
      show _ = _
      rw [← hxc]
      unfold resV resIn
      rw [hr]
      cases ptoks t.data.toList with
      | none => rfl
      | some ts => simp only; cases getV v ts <;> rfl
    have HXC := hide hxc
    clear hr hd hxc
    go_enter Tryz.func9, Tryz.ntmps9
    go_wp2_with fail
    refine (unhide HF).mono ?_
    rintro e w1 ⟨b1, ty, p, rfl, rep⟩
    have P1 := ((unhide HP).next b1 (Nat.le_refl _)).more b1.size
    have HR := hide (resolveIn_walk v t ty p w1 _ hok htw (by omega) rep (fun k hk => hk.2) P1 ((unhide HM).below b1) ht)
    rw [unhide HXC] at HR
    have B1 := hide b1
    clear HF rep b1 HP P1 HM
    go_wp2_with fail
    refine (unhide HR).mono ?_
    rintro e w2 ⟨rfl, b2⟩
    have B2 := hide (below_next (unhide B1) b2)
    clear HR b2 B1
    go_wp2
    go_ret2
    exact ⟨by rw [unhide HV]; rfl, unhide B2⟩

set_option maxRecDepth 100000 in
set_option maxHeartbeats 1600000 in
theorem resolveLaw_in (s t : ByteArray) (w : World) (hT : Tabs w) (hE : ErrB w.heap.size w) (hP : PowB w.heap.size w) (hML : ML w) :
    Calls Tryz.prog 3 #[.string s, .string t] w fun e w' => e = .returned (.bool true) ∧ Below w.heap.size w w' := by
  by_cases hs : s.size ≤ 1048576
  · have tl : ¬ (1048576 : Int) < (s.size : Int) := by omega
    by_cases ht : t.size ≤ 1048576
    · have tl2 : ¬ (1048576 : Int) < (t.size : Int) := by omega
      have HS := hide (specResolve_walk s t w hs ht)
      have HI : Hid (∀ w1, Below w.heap.size w w1 → Calls Tryz.prog 9 #[.string s, .string t] w1 fun e w' => e = .returned (resV s t) ∧ Below w1.heap.size w1 w') := fun w1 hb => implResolve_walk s t w1 (TabsB.of (hT.below hb)) ⟨Nat.lt_of_lt_of_le hE.1 hb.size, (hE.next hb (Nat.le_refl _)).2⟩ ((hP.next hb (Nat.le_refl _)).more hb.size) (hML.below hb) hs ht
      obtain ⟨x, c, hv⟩ : ∃ (x : ByteArray) (c : Int), resV s t = .tuple #[.string x, .int .i64 c] := by
        unfold resV
        cases readR s with
        | inl c => exact ⟨_, _, rfl⟩
        | inr v =>
          cases ptoks t.data.toList with
          | none => exact ⟨_, _, rfl⟩
          | some ts =>
            simp only
            cases getV v ts with
            | none => exact ⟨_, _, rfl⟩
            | some u => exact ⟨_, _, rfl⟩
      rw [hv] at HS HI
      clear hv hT hE hP hML
      go_enter Tryz.func3, Tryz.ntmps3
      go_wp2_with fail
      refine (unhide HS).mono ?_
      rintro e w1 ⟨rfl, b1⟩
      have HI1 := hide (unhide HI w1 b1)
      clear HS HI
      go_wp2_with fail
      refine (unhide HI1).mono ?_
      rintro e w2 ⟨rfl, b2⟩
      have B2 := below_next b1 b2
      go_wp2
      go_ret
      exact ⟨rfl, B2⟩
    · have tl2 : (1048576 : Int) < (t.size : Int) := by omega
      clear hT hE hP hML
      go_enter Tryz.func3, Tryz.ntmps3
      go_wp2
      go_ret
      exact ⟨rfl, Below.refl _ _⟩
  · have tl : (1048576 : Int) < (s.size : Int) := by omega
    clear hT hE hP hML
    go_enter Tryz.func3, Tryz.ntmps3
    go_wp2
    go_ret
    exact ⟨rfl, Below.refl _ _⟩
end Go.Proofs.YtcffdclgddmigaaGreatDoor

namespace Go.Proofs.YtcffdclgddmigaaGreatDoor
open Go.RowKit

/-- What the row's condition says of the tables. -/
def VarsOk (w : World) : Prop := Tabs w ∧ ErrB w.heap.size w ∧ PowB w.heap.size w
theorem tables_of {W : World} (hL : laidMetH Tryz.prog Rows.fnExactResolveRow.laid W) : VarsOk W := by
  have h : laidMet Tryz.prog laidAll W := hL
  exact ⟨tabs_at h, err_at h, pow_at h⟩
theorem resolveLaw_walk (s t : ByteArray) (w : World) (hML : ML w) (h : VarsOk w) :
    Calls Tryz.prog 3 #[.string s, .string t] w fun e w' => e = .returned (.bool true) ∧ Below w.heap.size w w' := resolveLaw_in s t w h.1 h.2.1 h.2.2 hML
end Go.Proofs.YtcffdclgddmigaaGreatDoor
