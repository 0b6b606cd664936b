import Derived.Deep.QuietTactic
import Derived.BigQuiet
import Derived.Test.YtbcfkkicmmhhcaaDoorBd1
import Derived.Test.YtbcfkkicmmhhcaaDoorBd2
namespace Go.Proofs.YtbcfkkicmmhhcaaDoor
open Go.RowKit

theorem SS.drewN {w : World} {xa : Option Addr} {xb xo : Nat} {ss : List ByteArray} (h : SS w xa xb xo ss) (n : Nat) : SS (w.drewN n) xa xb xo ss := ⟨h.ad, h.cell⟩

set_option maxHeartbeats 400000 in
theorem eq_walk (xa ya : Option Addr) (xb xo xc yb yo yc : Nat) (ss : List ByteArray) (w : World) (hx : SS w xa xb xo ss) (hy : SS w ya yb yo ss) (hm : ss.length ≤ 9223372036854775807) :
    Calls Tryd.prog 107 #[.slice xa ss.length xc, .slice ya ss.length yc] w fun e w' => e = .returned (.bool true) ∧ ∃ n, w' = w.drewN n := by
  have hax := hx.ad
  have hay := hy.ad
  have HX := hide hx.cell
  have HY := hide hy.cell
  clear hx hy
  go_enter Tryd.func107, Tryd.ntmps107
  go_wp2
  go_loopw [5] (fun i wr => ∃ k : Nat, k ≤ ss.length ∧ i = .int .i64 k ∧ ∃ n, wr = w.drewN n) (fun i _ => ss.length - (intOf i).toNat)
  case atStart => exact ⟨0, Nat.zero_le _, rfl, 0, rfl⟩
  case round =>
    obtain ⟨k, hk, rfl, n, rfl⟩ := hrel
    by_cases hlt : k < ss.length
    · have hcx := unhide HX k hlt
      have hcy := unhide HY k hlt
      obtain rfl := hax (by omega)
      obtain rfl := hay (by omega)
      clear hax hay
      generalize ss.getD k ByteArray.empty = s at *
      have hlt' : (k : Int) < (ss.length : Int) := by omega
      have dcx : (w.drewN n).cell? ⟨xb, xo + k, none⟩ = some (.string s) := hcx
      have dcy : (w.drewN n).cell? ⟨yb, yo + k, none⟩ = some (.string s) := hcy
      go_wp2
      go_quiet (fail)
      go_wp2
      go_roundw
      case rel => exact ⟨k + 1, by omega, by go_num, _, by first | rfl | (simp [World.drewN_drewN])⟩
      case measure => simp [intOf]; omega
    · clear hax hay
      go_wp2
      go_ret
      exact ⟨rfl, _, rfl⟩
end Go.Proofs.YtbcfkkicmmhhcaaDoor

namespace Go.Proofs.YtbcfkkicmmhhcaaDoor
open Go.RowKit

def pre (ts us : List (List UInt8)) : Bool := decide (ts.length ≤ us.length ∧ ∀ j, j < ts.length → ts.getD j [] = us.getD j [])

theorem ss_getD {ts : List (List UInt8)} {j : Nat} (h : j < ts.length) : (ts.map baT).getD j ByteArray.empty = baT (ts.getD j []) := by simp [h]
theorem baT_inj {a b : List UInt8} (h : baT a = baT b) : a = b := by
  have : (baT a).data.toList = (baT b).data.toList := by rw [h]
  simpa [baT] using this

set_option maxHeartbeats 400000 in
theorem heads_walk {B1 B2 : Nat} (v u : Value) (ts us : List (List UInt8)) (w : World) (h : OT w B1 v ts) (k : OT w B2 u us) (hl : ts.length ≤ 1048577) (hl2 : us.length ≤ 1048577) :
    Calls Tryd.prog 123 #[v, u] w fun e w' => e = .returned (.bool (pre ts us)) ∧ ∃ n, w' = w.drewN n := by
  obtain ⟨a, g, cap, rfl, hs, _⟩ := h.shape
  obtain ⟨a', g', cap', rfl, hs', _⟩ := k.shape
  have hax := hs.ad
  have hay := hs'.ad
  have HX := hide hs.cell
  have HY := hide hs'.cell
  rw [List.length_map] at hax hay
  simp only [List.length_map] at HX HY
  clear h k hs hs'
  by_cases hle : ts.length ≤ us.length
  · have hle' : ¬ (us.length : Int) < (ts.length : Int) := by omega
    go_enter Tryd.func123, Tryd.ntmps123
    go_wp2
    go_loopw [5] (fun i wr => ∃ m : Nat, m ≤ ts.length ∧ i = .int .i64 m ∧ (∀ j, j < m → ts.getD j [] = us.getD j []) ∧ ∃ n, wr = w.drewN n) (fun i _ => ts.length - (intOf i).toNat)
    case atStart => exact ⟨0, Nat.zero_le _, rfl, fun j hj => by omega, 0, rfl⟩
    case round =>
      obtain ⟨m, hm, rfl, hsame, n, rfl⟩ := hrel
      have HS := hide hsame
      clear hsame
      by_cases hlt : m < ts.length
      · have hlt2 : m < us.length := by omega
        have hcx := unhide HX m hlt
        have hcy := unhide HY m hlt2
        obtain rfl := hax (by omega)
        obtain rfl := hay (by omega)
        rw [ss_getD hlt] at hcx
        rw [ss_getD hlt2] at hcy
        have HP : Hid (ts.getD m [] ≠ us.getD m [] → pre ts us = false) := fun h => by
          unfold pre; rw [decide_eq_false_iff_not]; rintro ⟨_, hh⟩; exact h (hh m hlt)
        have HN : Hid (ts.getD m [] = us.getD m [] → ∀ j, j < m + 1 → ts.getD j [] = us.getD j []) := fun h j hj => by
          by_cases e : j = m
          · subst e; exact h
          · exact unhide HS j (by omega)
        clear hax hay HS
        generalize ts.getD m [] = p at *
        generalize us.getD m [] = q at *
        have hltI : (m : Int) < (ts.length : Int) := by omega
        have hltJ : (m : Int) < (us.length : Int) := by omega
        rw [Nat.zero_add] at hcx hcy
        by_cases hpq : p = q
        · subst hpq
          have HN' := hide (unhide HN rfl)
          go_wp2
          go_quiet (fail)
          go_wp2
          go_roundw
          case rel => exact ⟨m + 1, by omega, by go_num, unhide HN', _, by first | rfl | (simp [World.drewN_drewN])⟩
          case measure => simp [intOf]; omega
        · have HP' := hide (unhide HP hpq)
          have hne : ((baT p).toList == (baT q).toList) = false := by
            rw [beq_eq_false_iff_ne, Lib.toList_data, Lib.toList_data]; intro e; exact hpq (by simpa [baT] using e)
          go_wp2
          go_quiet (fail)
          go_wp2
          go_ret
          exact ⟨by rw [unhide HP']; rfl, _, World.drewN_drewN ..⟩
      · have HP : Hid (pre ts us = true) := by
          show _ = _; unfold pre; rw [decide_eq_true_iff]; exact ⟨hle, fun j hj => unhide HS j (by omega)⟩
        clear hax hay
        go_wp2
        go_ret
        exact ⟨by rw [unhide HP]; rfl, _, rfl⟩
  · have HP : Hid (pre ts us = false) := by
      show _ = _; unfold pre; rw [decide_eq_false_iff_not]; rintro ⟨h1, _⟩; exact hle h1
    have hle' : (us.length : Int) < (ts.length : Int) := by omega
    go_enter Tryd.func123, Tryd.ntmps123
    go_wp2
    go_ret
    exact ⟨by rw [unhide HP]; rfl, 0, rfl⟩
end Go.Proofs.YtbcfkkicmmhhcaaDoor

namespace Go.Proofs.YtbcfkkicmmhhcaaDoor

def wSpec (o1 o2 : Option (List (List UInt8))) : Int := match o1, o2 with
  | some ts, some us => if pre ts us = true ∧ pre us ts = true then 1 else if pre ts us = true then 2 else if pre us ts = true then 3 else 0
  | _, _ => -1
def sameTo (n : Nat) (ts us : List (List UInt8)) : Bool := decide ((ts.map baT).take n = (us.map baT).take n)
theorem sameTo_pre {ts us : List (List UInt8)} (h : ts.length ≤ us.length) : sameTo ts.length ts us = pre ts us := by
  unfold sameTo pre
  rw [decide_eq_decide]
  constructor
  · intro e
    refine ⟨h, fun j hj => ?_⟩
    have := congrArg (fun l => l[j]?) e
    simp [hj] at this
    have hj2 : j < us.length := by omega
    simp [hj2] at this
    simpa [hj, hj2] using baT_inj this
  · rintro ⟨_, e⟩
    apply List.ext_getElem?
    intro j
    by_cases hj : j < ts.length
    · have hj2 : j < us.length := by omega
      have := e j hj
      simp [hj, hj2] at this
      simp [hj, hj2, this]
    · simp [List.getElem?_take, hj]
theorem pre_len {ts us : List (List UInt8)} (h : pre ts us = true) : ts.length ≤ us.length := by
  unfold pre at h; exact (of_decide_eq_true h).1
theorem pre_false {ts us : List (List UInt8)} (h : us.length < ts.length) : pre ts us = false := by
  cases e : pre ts us with
  | false => rfl
  | true => have := pre_len e; omega
theorem sameTo_comm (n : Nat) (ts us : List (List UInt8)) : sameTo n ts us = sameTo n us ts := by
  unfold sameTo; rw [decide_eq_decide]; exact eq_comm

theorem w_diff {ts us : List (List UInt8)} (h : sameTo (min ts.length us.length) ts us = false) : wSpec (some ts) (some us) = 0 := by
  have a : pre ts us = false := by
    by_cases hl : ts.length ≤ us.length
    · rw [← sameTo_pre hl]; rw [Nat.min_eq_left hl] at h; exact h
    · exact pre_false (by omega)
  have b : pre us ts = false := by
    by_cases hl : us.length ≤ ts.length
    · rw [← sameTo_pre hl]; rw [Nat.min_eq_right hl, sameTo_comm] at h; exact h
    · exact pre_false (by omega)
  simp [wSpec, a, b]
theorem w_eq {ts us : List (List UInt8)} (h : sameTo (min ts.length us.length) ts us = true) (hl : ts.length = us.length) : wSpec (some ts) (some us) = 1 := by
  have a : pre ts us = true := by rw [← sameTo_pre (by omega)]; rw [Nat.min_eq_left (by omega)] at h; exact h
  have b : pre us ts = true := by rw [← sameTo_pre (by omega)]; rw [Nat.min_eq_right (by omega), sameTo_comm] at h; exact h
  simp [wSpec, a, b]
theorem w_lt {ts us : List (List UInt8)} (h : sameTo (min ts.length us.length) ts us = true) (hl : ts.length < us.length) : wSpec (some ts) (some us) = 2 := by
  have a : pre ts us = true := by rw [← sameTo_pre (by omega)]; rw [Nat.min_eq_left (by omega)] at h; exact h
  have b : pre us ts = false := pre_false hl
  simp [wSpec, a, b]
theorem w_gt {ts us : List (List UInt8)} (h : sameTo (min ts.length us.length) ts us = true) (hl : us.length < ts.length) : wSpec (some ts) (some us) = 3 := by
  have a : pre ts us = false := pre_false hl
  have b : pre us ts = true := by rw [← sameTo_pre (by omega)]; rw [Nat.min_eq_right (by omega), sameTo_comm] at h; exact h
  simp [wSpec, a, b]
end Go.Proofs.YtbcfkkicmmhhcaaDoor

namespace Go.Proofs.YtbcfkkicmmhhcaaDoor

theorem unesc_esc : ∀ t : List UInt8, unesc (esc t) = some t
  | [] => rfl
  | c :: t => by
    have ih := unesc_esc t
    have e : esc (c :: t) = escB c ++ esc t := by simp [esc]
    rw [e]
    by_cases h1 : (c.toNat : Int) = 126
    · rw [escB_126 h1]
      show unesc (126 :: 48 :: esc t) = _
      rw [unesc_0 _ (by decide) (by decide), ih]
      have : c = 126 := by have := UInt8.ofNat_toNat (x := c); rw [show c.toNat = 126 from by omega] at this; exact this.symm
      subst this; rfl
    · by_cases h2 : (c.toNat : Int) = 47
      · rw [escB_47 h2]
        show unesc (126 :: 49 :: esc t) = _
        rw [unesc_1 _ (by decide) (by decide), ih]
        have : c = 47 := by have := UInt8.ofNat_toNat (x := c); rw [show c.toNat = 47 from by omega] at this; exact this.symm
        subst this; rfl
      · rw [escB_other h1 h2]
        show unesc (c :: esc t) = _
        rw [unesc_lit _ h1, ih]; rfl
theorem esc_no (t : List UInt8) : ∀ c ∈ esc t, ¬ c.toNat = 47 := by
  intro c hc
  unfold esc at hc
  obtain ⟨a, _, ha⟩ := List.mem_flatMap.1 hc
  unfold escB at ha
  split at ha
  · simp at ha; rcases ha with rfl | rfl <;> decide
  · split at ha
    · simp at ha; rcases ha with rfl | rfl <;> decide
    · simp at ha; subst ha; assumption
theorem ptrText_cons (s : ByteArray) (ss : List ByteArray) : ptrText (s :: ss) = 47 :: (esc s.data.toList ++ ptrText ss) := by simp [ptrText]
theorem pieces_text : ∀ (ss : List ByteArray) (t : List UInt8), pieces (esc t ++ ptrText ss) = esc t :: ss.map (fun s => esc s.data.toList)
  | [], t => by show pieces (esc t ++ []) = _; rw [List.append_nil, pieces_one (esc_no t)]; rfl
  | s :: ss, t => by rw [ptrText_cons, pieces_app (esc_no t) (by decide), pieces_text ss]; rfl
theorem mapM_esc : ∀ ts : List (List UInt8), (ts.map esc).mapM unesc = some ts
  | [] => rfl
  | t :: ts => by rw [List.map_cons, List.mapM_cons, unesc_esc, mapM_esc ts]; rfl
theorem ptoks_text (ts : List (List UInt8)) : ptoks (ptrText (ts.map baT)) = some ts := by
  cases ts with
  | nil => rfl
  | cons t ts =>
    rw [List.map_cons, ptrText_cons, ptoks, if_pos (by decide)]
    show toks (esc t ++ ptrText (ts.map baT)) = _
    unfold toks
    rw [pieces_text, List.map_map]
    have : (esc t :: List.map ((fun s => esc s.data.toList) ∘ baT) ts) = (t :: ts).map esc := by simp [baT]
    rw [this, mapM_esc]
theorem pre_self (ts us : List (List UInt8)) : pre ts (ts ++ us) = true := by
  unfold pre; rw [decide_eq_true_iff]
  exact ⟨by simp, fun j hj => by simp [List.getD, List.getElem?_append_left hj]⟩
theorem wS_eq (ts : List (List UInt8)) : wSpec (some ts) (some (ts ++ [])) = 1 := by
  have a := pre_self ts []
  rw [List.append_nil] at *
  simp [wSpec, a]
theorem wS_eq' (ts : List (List UInt8)) : wSpec (some (ts ++ [])) (some ts) = 1 := by
  have a := pre_self ts []
  rw [List.append_nil] at *
  simp [wSpec, a]
theorem pre_long (ts : List (List UInt8)) {us : List (List UInt8)} (h : 0 < us.length) : pre (ts ++ us) ts = false := pre_false (by simp; omega)
theorem wS_lt (ts : List (List UInt8)) {us : List (List UInt8)} (h : 0 < us.length) : wSpec (some ts) (some (ts ++ us)) = 2 := by
  simp [wSpec, pre_self ts us, pre_long ts h]
theorem wS_gt (ts : List (List UInt8)) {us : List (List UInt8)} (h : 0 < us.length) : wSpec (some (ts ++ us)) (some ts) = 3 := by
  simp [wSpec, pre_self ts us, pre_long ts h]
theorem tot_small (ts : List (List UInt8)) (h : ∀ t ∈ ts, t.length ≤ 3) : tot (ts.map baT) ≤ 3 * ts.length := by
  induction ts with
  | nil => simp [tot]
  | cons t ts ih =>
    have h1 := h t List.mem_cons_self
    have h2 := ih (fun q hq => h q (List.mem_cons_of_mem _ hq))
    have e : (baT t).size = t.length := by show t.toArray.size = _; simp
    simp only [tot, List.map_cons, List.sum_cons, List.length_cons] at *
    omega
end Go.Proofs.YtbcfkkicmmhhcaaDoor
