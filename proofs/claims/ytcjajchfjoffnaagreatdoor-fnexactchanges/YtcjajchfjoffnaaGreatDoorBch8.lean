import Derived.Test.YtcjajchfjoffnaaGreatDoorBch7
import Derived.Deep.LoopGhost
import Derived.Test.YtcjajchfjoffnaaGreatDoorBch1
import Derived.Test.YtcjajchfjoffnaaGreatDoorBch5
import Derived.Lib.SlicesCompact
namespace Go.Proofs.YtcjajchfjoffnaaGreatDoor
open Go.RowKit

def insU (x : List UInt8) : List (List UInt8) → List (List UInt8)
  | [] => [x]
  | y :: r => if y < x then y :: insU x r else if y = x then y :: r else x :: y :: r
/-- Texts in order, each once. -/
def onceL (l : List (List UInt8)) : List (List UInt8) := l.foldl (fun acc x => insU x acc) []
theorem mem_insU {z x : List UInt8} : ∀ {l : List (List UInt8)}, z ∈ insU x l ↔ z = x ∨ z ∈ l
  | [] => by simp [insU]
  | y :: r => by
    rw [insU]
    split
    · rw [List.mem_cons, mem_insU, List.mem_cons]
      constructor
      · rintro (h | h | h)
        · exact .inr (.inl h)
        · exact .inl h
        · exact .inr (.inr h)
      · rintro (h | h | h)
        · exact .inr (.inl h)
        · exact .inl h
        · exact .inr (.inr h)
    · split
      · rename_i h; subst h
        constructor
        · intro h; exact .inr h
        · rintro (h | h)
          · rw [h]; exact List.mem_cons_self
          · exact h
      · rw [List.mem_cons]
theorem mem_foldU {z : List UInt8} : ∀ (l acc : List (List UInt8)), z ∈ l.foldl (fun acc x => insU x acc) acc ↔ z ∈ acc ∨ z ∈ l
  | [], acc => by simp
  | x :: l, acc => by
    rw [List.foldl_cons, mem_foldU l, mem_insU, List.mem_cons]
    constructor
    · rintro ((h | h) | h)
      · exact .inr (.inl h)
      · exact .inl h
      · exact .inr (.inr h)
    · rintro (h | h | h)
      · exact .inl (.inr h)
      · exact .inl (.inl h)
      · exact .inr h
theorem mem_onceL {z : List UInt8} {l : List (List UInt8)} : z ∈ onceL l ↔ z ∈ l := by
  unfold onceL; rw [mem_foldU]; simp
def UpS (l : List (List UInt8)) : Prop := l.Pairwise (fun a b => a < b)
theorem insU_up {x : List UInt8} : ∀ {l : List (List UInt8)}, UpS l → UpS (insU x l)
  | [], _ => by simp [insU, UpS]
  | y :: r, h => by
    unfold UpS at *
    rw [List.pairwise_cons] at h
    rw [insU]
    split
    · rename_i hlt
      rw [List.pairwise_cons]
      refine ⟨fun a ha => ?_, insU_up h.2⟩
      rcases mem_insU.1 ha with rfl | ha
      · exact hlt
      · exact h.1 a ha
    · split
      · rw [List.pairwise_cons]; exact h
      · rename_i h1 h2
        have hxy : x < y := by
          rcases Classical.em (x < y) with g | g
          · exact g
          · exact absurd (List.le_antisymm (List.not_lt.1 g) (List.not_lt.1 h1)) h2
        rw [List.pairwise_cons, List.pairwise_cons]
        refine ⟨fun a ha => ?_, h⟩
        rcases List.mem_cons.1 ha with rfl | ha
        · exact hxy
        · exact List.lt_trans hxy (h.1 a ha)
theorem foldU_up : ∀ (l acc : List (List UInt8)), UpS acc → UpS (l.foldl (fun acc x => insU x acc) acc)
  | [], _, h => h
  | x :: l, acc, h => by rw [List.foldl_cons]; exact foldU_up l _ (insU_up h)
theorem onceL_up (l : List (List UInt8)) : UpS (onceL l) := foldU_up l [] List.Pairwise.nil
theorem up_ext : ∀ {a b : List (List UInt8)}, UpS a → UpS b → (∀ z, z ∈ a ↔ z ∈ b) → a = b
  | [], [], _, _, _ => rfl
  | [], y :: _, _, _, h => by have := (h y).2 List.mem_cons_self; simp at this
  | x :: _, [], _, _, h => by have := (h x).1 List.mem_cons_self; simp at this
  | x :: r, y :: s, ha, hb, h => by
    unfold UpS at ha hb
    rw [List.pairwise_cons] at ha hb
    have e : x = y := by
      rcases List.mem_cons.1 ((h x).1 List.mem_cons_self) with e | h1
      · exact e
      · rcases List.mem_cons.1 ((h y).2 List.mem_cons_self) with e | h2
        · exact e.symm
        · exact absurd (List.lt_trans (hb.1 x h1) (ha.1 y h2)) (List.lt_irrefl _)
    subst e
    rw [up_ext (a := r) (b := s) ha.2 hb.2 (fun z => ?_)]
    constructor
    · intro hz
      rcases List.mem_cons.1 ((h z).1 (List.mem_cons_of_mem _ hz)) with e | h1
      · exact absurd (ha.1 z hz) (by rw [e]; exact List.lt_irrefl _)
      · exact h1
    · intro hz
      rcases List.mem_cons.1 ((h z).2 (List.mem_cons_of_mem _ hz)) with e | h1
      · exact absurd (hb.1 z hz) (by rw [e]; exact List.lt_irrefl _)
      · exact h1
theorem up_nodup {l : List (List UInt8)} (h : UpS l) : l.Nodup := by
  refine h.imp ?_
  intro a b hab e
  rw [e] at hab
  exact List.lt_irrefl _ hab
/-- What a key leads to among parts. -/
def findK (K : List (List UInt8 × JV)) (key : List UInt8) : Option JV := (K.find? fun q => q.1 == key).map (·.2)
def comp : JV → JV → Bool
  | .arr l, .arr m => l.toL.length == m.toL.length
  | .obj _, .obj _ => true
  | _, _ => false
def keys2 (a b : JV) : List (List UInt8) := match a with
  | .arr _ => (kidsV a).map (·.1)
  | _ => onceL ((kidsV a).map (·.1) ++ (kidsV b).map (·.1))
/-- Where two values differ. -/
def chF : Nat → List UInt8 → JV → JV → List (List UInt8)
  | 0, _, _, _ => []
  | n + 1, p, a, b => if comp a b = true then (keys2 a b).flatMap fun key => match findK (kidsV a) key, findK (kidsV b) key with
      | some u, some v => chF n (ptrN p key) u v
      | _, _ => [ptrN p key]
    else if leafEq a b = true then [] else [p]
theorem findK_mem {K : List (List UInt8 × JV)} {key : List UInt8} {u : JV} (h : findK K key = some u) : (key, u) ∈ K := by
  unfold findK at h
  cases hf : K.find? fun q => q.1 == key with
  | none => rw [hf] at h; simp at h
  | some q =>
    rw [hf] at h
    simp at h
    have h1 := List.find?_some hf
    have h2 := List.mem_of_find?_eq_some hf
    simp at h1
    subst h; subst h1
    exact h2
theorem findK_none {K : List (List UInt8 × JV)} {key : List UInt8} : findK K key = none ↔ key ∉ K.map (·.1) := by
  unfold findK
  rw [Option.map_eq_none_iff, List.find?_eq_none]
  constructor
  · intro h hm
    obtain ⟨q, hq, e⟩ := List.mem_map.1 hm
    exact h q hq (by simp [e])
  · intro h q hq e
    exact h (List.mem_map.2 ⟨q, hq, by simpa using e⟩)
theorem findK_ct : ∀ {K L : List (List UInt8 × JV)}, K.map kt = L.map kt → ∀ key, (findK K key).map ct = (findK L key).map ct
  | [], [], _, _ => rfl
  | [], _ :: _, h, _ => by simp at h
  | _ :: _, [], h, _ => by simp at h
  | q :: K, r :: L, h, key => by
    rw [List.map_cons, List.map_cons] at h
    injection h with h1 h2
    have a : q.1 = r.1 := congrArg (fun z : List UInt8 × List UInt8 => z.1) h1
    have b : ct q.2 = ct r.2 := congrArg (fun z : List UInt8 × List UInt8 => z.2) h1
    have ih := findK_ct h2 key
    unfold findK at *
    rw [List.find?_cons, List.find?_cons, a]
    cases hq : r.1 == key with
    | true => simp [b]
    | false => exact ih
theorem parts_same {a b : JV} (ha : okV a) (hb : okV b) (h : ct a = ct b) : partsV a = partsV b := by
  rcases ct_leaf ha hb h with e | ⟨l, m, rfl, rfl⟩ | ⟨l, m, rfl, rfl⟩
  · unfold leafEq at e
    split at e <;> first | rfl | cases e
  · rw [okV] at ha hb
    show idxF 0 (ctL l) = idxF 0 (ctL m)
    rw [ct_arr ha hb h]
  · rw [okV] at ha hb
    exact ct_obj ha hb h
theorem comp_same {a b : JV} (ha : okV a) (hb : okV b) (h : ct a = ct b) : comp a b = true ∨ leafEq a b = true := by
  rcases ct_leaf ha hb h with e | ⟨l, m, rfl, rfl⟩ | ⟨l, m, rfl, rfl⟩
  · exact .inr e
  · rw [okV] at ha hb
    have := congrArg List.length (ct_arr ha hb h)
    rw [ctL_map, ctL_map, List.length_map, List.length_map] at this
    left; simp [comp, this]
  · exact .inl rfl
theorem comp_leaf {a b : JV} (h : comp a b = true) : leafEq a b = false := by
  cases a <;> cases b <;> first | rfl | (simp [comp] at h)
theorem keys2_in {a b : JV} (hc : comp a b = true) {key : List UInt8} (h : key ∈ keys2 a b) : key ∈ (kidsV a).map (·.1) ∨ key ∈ (kidsV b).map (·.1) := by
  unfold keys2 at h
  split at h
  · exact .inl h
  · rw [mem_onceL, List.mem_append] at h; exact h
/-- Equal texts: no change. -/
theorem chF_nil : ∀ (n : Nat) (p : List UInt8) (a b : JV), okV a → okV b → twV a = false → twV b = false → ct a = ct b → chF n p a b = []
  | 0, _, _, _, _, _, _, _, _ => rfl
  | n + 1, p, a, b, ha, hb, ta, tb, h => by
    rw [chF]
    have hps := parts_same ha hb h
    rw [parts_kids, parts_kids] at hps
    split
    · rename_i hc
      rw [List.flatMap_eq_nil_iff]
      intro key hk
      have hf := findK_ct hps key
      have hkeys : (kidsV a).map (·.1) = (kidsV b).map (·.1) := by
        have := congrArg (List.map Prod.fst) hps
        rw [List.map_map, List.map_map] at this
        exact this
      have hin : key ∈ (kidsV a).map (·.1) := by
        rcases keys2_in hc hk with h | h
        · exact h
        · rw [hkeys]; exact h
      cases hu : findK (kidsV a) key with
      | none => exact absurd hin (findK_none.1 hu)
      | some u =>
        rw [hu] at hf
        cases hv : findK (kidsV b) key with
        | none => rw [hv] at hf; simp at hf
        | some v =>
          rw [hv] at hf
          simp at hf
          obtain ⟨o1, o2, _, _⟩ := kids_ok ha ta (findK_mem hu)
          obtain ⟨o3, o4, _, _⟩ := kids_ok hb tb (findK_mem hv)
          exact chF_nil n _ u v o1 o3 o2 o4 hf
    · rename_i hc
      rcases comp_same ha hb h with h1 | h1
      · exact absurd h1 hc
      · rw [if_pos h1]
def cntO : Option JV → Nat
  | none => 0
  | some v => cntV v
theorem sum_once (f : List UInt8 → Nat) (x : List UInt8) (c : Nat) : ∀ keys : List (List UInt8), keys.Nodup → (keys.map fun k => if x == k then c else f k).sum ≤ c + (keys.map f).sum
  | [], _ => by simp
  | k :: r, h => by
    rw [List.nodup_cons] at h
    have ih := sum_once f x c r h.2
    rw [List.map_cons, List.map_cons, List.sum_cons, List.sum_cons]
    by_cases e : x == k
    · rw [if_pos e]
      have : (r.map fun k => if x == k then c else f k) = r.map f := List.map_congr_left (fun y hy => by
        rw [if_neg]
        intro e2
        rw [beq_iff_eq] at e e2
        exact h.1 (by rw [← e, e2]; exact hy))
      rw [this]; omega
    · rw [if_neg e]; omega
theorem sum_find : ∀ (K : List (List UInt8 × JV)) (keys : List (List UInt8)), keys.Nodup → (keys.map fun k => cntO (findK K k)).sum ≤ (K.map fun q => cntV q.2).sum
  | [], keys, _ => by
    have : (keys.map fun k => cntO (findK [] k)) = keys.map fun _ => 0 := List.map_congr_left (fun _ _ => rfl)
    rw [this]
    have : ∀ l : List (List UInt8), (l.map fun _ => 0).sum = 0 := by intro l; induction l with
      | nil => rfl
      | cons x r ih => simpa using ih
    rw [this]; simp
  | q :: K, keys, h => by
    have e : (keys.map fun k => cntO (findK (q :: K) k)) = keys.map fun k => if q.1 == k then cntV q.2 else cntO (findK K k) := List.map_congr_left (fun k _ => by
      unfold findK
      rw [List.find?_cons]
      cases hq : q.1 == k with
      | true => simp [cntO]
      | false => rfl)
    rw [e, List.map_cons, List.sum_cons]
    have := sum_once (fun k => cntO (findK K k)) q.1 (cntV q.2) keys h
    have := sum_find K keys h
    omega
theorem keys2_nodup {a b : JV} (ta : twV a = false) : (keys2 a b).Nodup := by
  unfold keys2
  split
  · rename_i l
    show ((idxJ 0 l.toL).map (·.1)).Nodup
    rw [List.nodup_iff_pairwise_ne, List.pairwise_map, List.pairwise_iff_getElem]
    intro i j hi hj hij
    rw [idxJ_at, idxJ_at]
    intro e
    have := decT_inj e
    omega
  · exact up_nodup (onceL_up _)
theorem flat_le {α β : Type} (f : α → List β) (g : α → Nat) : ∀ l : List α, (∀ x ∈ l, (f x).length ≤ g x) → (l.flatMap f).length ≤ (l.map g).sum
  | [], _ => by simp
  | x :: r, h => by
    rw [List.flatMap_cons, List.length_append, List.map_cons, List.sum_cons]
    have := h x List.mem_cons_self
    have := flat_le f g r (fun y hy => h y (List.mem_cons_of_mem _ hy))
    omega
theorem sum_two {α : Type} (f g : α → Nat) : ∀ l : List α, (l.map fun x => f x + g x).sum = (l.map f).sum + (l.map g).sum
  | [] => rfl
  | x :: r => by simp only [List.map_cons, List.sum_cons, sum_two f g r]; omega
/-- How many pointers a key gives at most. -/
def cw (a b : JV) (key : List UInt8) : Nat := cntO (findK (kidsV a) key) + cntO (findK (kidsV b) key)
def chK (n : Nat) (p : List UInt8) (a b : JV) (key : List UInt8) : List (List UInt8) := match findK (kidsV a) key, findK (kidsV b) key with
  | some u, some v => chF n (ptrN p key) u v
  | _, _ => [ptrN p key]
theorem chF_comp {n : Nat} {p : List UInt8} {a b : JV} (h : comp a b = true) : chF (n + 1) p a b = (keys2 a b).flatMap (chK n p a b) := by
  rw [chF, if_pos h]; rfl
theorem chF_len : ∀ (n : Nat) (p : List UInt8) (a b : JV), okV a → okV b → twV a = false → twV b = false → (chF n p a b).length + 1 ≤ cntV a + cntV b
  | 0, p, a, b, _, _, _, _ => by
    have := dep_cnt a; have := dep_cnt b
    simp [chF]; omega
  | n + 1, p, a, b, ha, hb, ta, tb => by
    have h1 := dep_cnt a
    have h2 := dep_cnt b
    by_cases hc : comp a b = true
    · rw [chF_comp hc]
      have hle := flat_le (chK n p a b) (cw a b) (keys2 a b) (fun key hk => by
        unfold chK cw
        cases hu : findK (kidsV a) key with
        | none =>
          cases hv : findK (kidsV b) key with
          | none =>
            rcases keys2_in hc hk with h | h
            · exact absurd h (findK_none.1 hu)
            · exact absurd h (findK_none.1 hv)
          | some v => have := dep_cnt v; simp [cntO]; omega
        | some u =>
          have hcu := dep_cnt u
          cases hv : findK (kidsV b) key with
          | none => simp [cntO]; omega
          | some v =>
            obtain ⟨o1, o2, _, _⟩ := kids_ok ha ta (findK_mem hu)
            obtain ⟨o3, o4, _, _⟩ := kids_ok hb tb (findK_mem hv)
            have := chF_len n (ptrN p key) u v o1 o3 o2 o4
            simp only [cntO]; omega)
      have e : ((keys2 a b).map (cw a b)).sum = ((keys2 a b).map fun k => cntO (findK (kidsV a) k)).sum + ((keys2 a b).map fun k => cntO (findK (kidsV b) k)).sum := sum_two _ _ _
      have s1 := sum_find (kidsV a) _ (keys2_nodup (a := a) (b := b) ta)
      have s2 := sum_find (kidsV b) _ (keys2_nodup (a := a) (b := b) ta)
      have k1 := kids_cnt a
      have k2 := kids_cnt b
      omega
    · rw [chF, if_neg hc]
      split
      · simp; omega
      · simp; omega
/-- As many keys from the front. -/
theorem chK_len {n : Nat} {p : List UInt8} {a b : JV} (ha : okV a) (hb : okV b) (ta : twV a = false) (tb : twV b = false) (hc : comp a b = true) (k : Nat) : (((keys2 a b).take k).flatMap (chK n p a b)).length ≤ cntV a + cntV b := by
  have h := chF_len (n + 1) p a b ha hb ta tb
  rw [chF_comp hc] at h
  have e : keys2 a b = (keys2 a b).take k ++ (keys2 a b).drop k := (List.take_append_drop _ _).symm
  have : ((keys2 a b).flatMap (chK n p a b)).length = (((keys2 a b).take k).flatMap (chK n p a b)).length + (((keys2 a b).drop k).flatMap (chK n p a b)).length := by
    conv => lhs; rw [e]
    rw [List.flatMap_append, List.length_append]
  omega
end Go.Proofs.YtcjajchfjoffnaaGreatDoor

namespace Go.Proofs.YtcjajchfjoffnaaGreatDoor
open Go.RowKit

abbrev Part := List UInt8 × List UInt8
def partC (p : Part) : List Value := [.string (strOf p.1), .string (strOf p.2)]
/-- A row of parts that the call owns. -/
def PR (w : World) (B : Nat) (v : Value) (ps : List Part) : Prop := w.ownsRow B 78 2 v ps.length (ps.flatMap partC)
theorem part_at (ps : List Part) (j : Nat) (h : j < ps.length) : (ps.flatMap partC)[j * 2]? = some (.string (strOf ps[j].1)) ∧ (ps.flatMap partC)[j * 2 + 1]? = some (.string (strOf ps[j].2)) := by
  induction ps generalizing j with
  | nil => simp at h
  | cons p r ih =>
    cases j with
    | zero => exact ⟨rfl, rfl⟩
    | succ j =>
      have := ih j (by simpa using h)
      rw [List.flatMap_cons, show (j + 1) * 2 = j * 2 + 2 from by omega]
      exact this
theorem PR.cells {w : World} {B : Nat} {v : Value} {ps : List Part} (h : PR w B v ps) (j : Nat) (hj : j < ps.length) :
    ∃ g cap, v = .slice (some ⟨g, 0, none⟩) ps.length cap ∧ B ≤ g ∧ g < w.heap.size ∧ w.cell? ⟨g, j * 2, none⟩ = some (.string (strOf ps[j].1)) ∧ w.cell? ⟨g, j * 2 + 1, none⟩ = some (.string (strOf ps[j].2)) := by
  obtain ⟨hl, h0 | ⟨g, cap, cur, hv, hB, hg, hn, hc, hsz, ht⟩⟩ := h
  · omega
  · have hc0 := part_at ps j hj
    refine ⟨g, cap, hv, hB, (Array.getElem?_eq_some_iff.1 hg).1, ?_, ?_⟩
    · rw [Lib.cell_of_heap hg, ← Array.getElem?_toList, ← hc0.1, ← ht, List.getElem?_take_of_lt (by omega)]
    · rw [Lib.cell_of_heap hg, ← Array.getElem?_toList, ← hc0.2, ← ht, List.getElem?_take_of_lt (by omega)]
theorem PR.below {w w' : World} {B : Nat} {v : Value} {ps : List Part} (h : PR w B v ps) (hb : Below w.heap.size w w') : PR w' B v ps := own_below h hb
theorem PR.mono {w : World} {B B' : Nat} {v : Value} {ps : List Part} (h : PR w B v ps) (hB : B' ≤ B) : PR w B' v ps := own_mono h hB
/-- Whether a key is among those of the parts. -/
def hasK (ps : List Part) (key : List UInt8) : Bool := (ps.map (·.1)).contains key
theorem str_eq (a b : List UInt8) : ((strOf a).toList == (strOf b).toList) = (a == b) := by
  rw [ByteArray.toList_eq, ByteArray.toList_eq, strOf_toList, strOf_toList]

set_option maxHeartbeats 800000 in
theorem find_walk (B : Nat) (v : Value) (ps : List Part) (key : List UInt8) (w : World) (h : PR w B v ps) (hn : ps.length ≤ 40000000) :
    Calls Tryz.prog 105 #[v, .string (strOf key)] w fun e w' => ∃ z : Int, e = .returned (.int .i64 z) ∧ decide ((0 : Int) ≤ z) = hasK ps key ∧ w = w' := by
  obtain ⟨x, len, cap, rfl, hlen⟩ : ∃ x len cap, v = .slice x len cap ∧ len = ps.length := by
    rcases h.2 with ⟨hv, h0⟩ | ⟨g, cap, cur, hv, _⟩
    · exact ⟨_, _, _, hv, h0.symm⟩
    · exact ⟨_, _, _, hv, rfl⟩
  subst hlen
  have HP := hide h
  clear h
  go_enter Tryz.func105, Tryz.ntmps105
  go_wp2_with fail
  go_loopw [5] (fun k wr => w = wr ∧ ∃ j : Nat, k = .int .i64 (j : Int) ∧ j ≤ ps.length ∧ ((ps.take j).map (·.1)).contains key = false) (fun k _ => ps.length - (intOf k).toNat)
  case atStart => exact ⟨rfl, 0, rfl, Nat.zero_le _, by simp⟩
  case round =>
    obtain ⟨rfl, j, rfl, hj, hno⟩ := hrel
    have HNO := hide hno
    clear hno
    by_cases hin : j < ps.length
    · have t1 : ((j : Int) < (ps.length : Int)) = True := eq_true (by omega)
      obtain ⟨g, cap', he, hB, hgl, c0, c1⟩ := (unhide HP).cells j hin
      injection he with he1 he2 he3
      subst he1; subst he3
      have heq := str_eq ps[j].1 key
      by_cases hk : ps[j].1 = key
      · have t2 : (ps[j].1 == key) = true := by rw [beq_iff_eq]; exact hk
        have HY : Hid (hasK ps key = true) := by
          show _ = _
          unfold hasK
          rw [List.contains_iff_mem]
          exact List.mem_map.2 ⟨ps[j], List.getElem_mem _, hk⟩
        rw [t2] at heq
        clear hk t2
        go_wp2
        go_ret
        exact ⟨_, rfl, by rw [unhide HY]; exact decide_eq_true (by omega), rfl⟩
      · have t2 : (ps[j].1 == key) = false := by rw [beq_eq_false_iff_ne]; exact hk
        have HX : Hid (((ps.take (j + 1)).map (·.1)).contains key = false) := by
          show _ = _
          have := unhide HNO
          rw [List.take_succ_eq_append_getElem hin, List.map_append, List.contains_append, this]
          simp; exact fun e => hk e.symm
        rw [t2] at heq
        clear hk t2
        go_wp2
        go_roundw
        case rel => exact ⟨trivial, j + 1, by go_num, by omega, unhide HX⟩
        case measure => simp [intOf]; omega
    · have t1 : ((j : Int) < (ps.length : Int)) = False := eq_false (by omega)
      have HY : Hid (hasK ps key = false) := by
        show _ = _
        unfold hasK
        have := unhide HNO
        rwa [List.take_of_length_le (by omega)] at this
      go_wp2
      go_ret
      exact ⟨_, rfl, by rw [unhide HY]; rfl, rfl⟩
end Go.Proofs.YtcjajchfjoffnaaGreatDoor

namespace Go.Proofs.YtcjajchfjoffnaaGreatDoor
open Go.RowKit

/-- A token's index as the model gives it. -/
def idxZ (t : List UInt8) : Int := match idxT t with
  | some i => (i : Int)
  | none => -1
theorem tokD (s : ByteArray) (k : Nat) (h : k < s.size) : s.data.toList[k]'(by rw [data_len]; exact h) = s[k] := rfl
theorem dig_lt : ∀ (n : Nat) (t : List UInt8), t.length = n → digV t < 10 ^ n ∨ ¬ (∀ c ∈ t, isDg c.toNat = true) := by
  intro n
  induction n with
  | zero => intro t h; rw [List.eq_nil_of_length_eq_zero h]; exact .inl (by simp [digV])
  | succ n ih =>
    intro t h
    rcases List.eq_nil_or_concat t with e | ⟨a, c, e⟩
    · subst e; simp at h
    · rw [List.concat_eq_append] at e
      subst e
      by_cases hd : ∀ x ∈ a ++ [c], isDg x.toNat = true
      · left
        have hc := isDg_iff.1 (hd c (by simp))
        rcases ih a (by simpa using h) with h1 | h1
        · rw [digV_snoc, Nat.pow_succ]; omega
        · exact absurd (fun x hx => hd x (by simp [hx])) h1
      · exact .inr hd

end Go.Proofs.YtcjajchfjoffnaaGreatDoor

namespace Go.Proofs.YtcjajchfjoffnaaGreatDoor
open Go.RowKit

set_option maxRecDepth 100000 in
set_option maxHeartbeats 4000000 in
theorem arr_walk (s : ByteArray) (i : Nat) (w : World) (hs : s.size ≤ 1048576) (hi : i < s.size) (h91 : bt s i = 91)
    (IH : ∀ (j : Nat) (w : World), i < j → j ≤ s.size → Calls Tryz.prog 73 #[.string s, .int .i64 j] w (GP w (val s j))) :
    Calls Tryz.prog 120 #[.string s, .int .i64 i] w (GP w (val s i)) := by
  have HSM := hide (small1 s hs)
  have g0 := sk_ge s (i + 1)
  have g1 := (sk_le (s := s) (i := i + 1) (by omega)).2
  have HV := hide (val_arr h91)
  have HIH := hide IH
  clear IH
  generalize hk0 : sk s (i + 1) = k0 at *
  go_enter Tryz.func120, Tryz.ntmps120
  go_wp2_with fail
  refine ((unhide HSM).1 _ (i + 1) _ (by omega)).mono ?_
  rintro e w1 ⟨rfl, rfl⟩
  rw [hk0]
  go_wp2_with fail
  refine ((unhide HSM).2 93 k0 _ (by decide)).mono ?_
  rintro e w1 ⟨rfl, rfl⟩
  clear hk0
  by_cases h93 : bt s k0 = 93
  · rw [decide_eq_true h93]
    have HR : Hid (val s i = some (.arr .nil, k0 + 1)) := by show _ = _; rw [unhide HV, if_pos h93]
    clear h93 HV
    go_wp2
    go_returns
    rw [unhide HR]
    exact ⟨(alloc_below w _).trans ((Below.refl _ _).alloc (by simp) _), rfl⟩
  · rw [decide_eq_false h93]
    have HR : Hid (val s i = (elems s k0).map fun q => (.arr q.1, q.2)) := by show _ = _; rw [unhide HV, if_neg h93]
    clear h93 HV h91
    go_wp2_with fail
    go_loopg [1] (s.size + 1 - k0) (fun g k wr => ∃ (j : Nat) (acc : JL), g = s.size + 1 - j ∧ k = .int .i64 (j : Int) ∧ k0 ≤ j ∧ j ≤ s.size ∧ Got w.heap.size ⟨#[]⟩ 0 false false false wr ∧ Got (w.heap.size + 1) (strOf (91 :: preA acc)) 0 true (bigL acc) (twL acc) wr ∧ Below w.heap.size w wr ∧ (preA acc).length ≤ 31 * j ∧ elems s k0 = (elems s j).map fun q => (acc.app q.1, q.2))
    case atStart =>
      refine ⟨k0, .nil, rfl, rfl, Nat.le_refl _, g1, ?_, ?_, (alloc_below w _).trans ((Below.refl _ _).alloc (by simp) _), by simp [preA], by simp [JL.app]⟩
      · show (World.alloc _ _).heap[_]? = _
        rw [Lib.alloc_old _ _ _ (by simp)]; exact heap_alloc_new w _
      · have := heap_alloc_new (w.alloc (gotB ⟨#[]⟩ 0 false false false)) (gotB (strOf [91]) 0 true false false)
        rw [show (w.alloc (gotB ⟨#[]⟩ 0 false false false)).heap.size = w.heap.size + 1 from by simp] at this
        exact this
    case round =>
      obtain ⟨j, acc, hg, rfl, hj1, hj2, hr, hgot, hb, hpl, hst⟩ := hrel
      have HST := hide hst
      have HG := hide hgot
      have HRR := hide hr
      have HB := hide hb
      have hwsz := hb.size
      have hgl := hgot.lt
      clear hst hgot hr hb
      have HC := hide (unhide HIH j wr (by omega) (by omega))
      cases hv : val s j with
      | none =>
        have HN : Hid (val s i = none) := by
          show _ = _
          rw [unhide HR, unhide HST, elems_eq, hv]; rfl
        rw [hv] at HC
        clear hv
        go_wp2_with fail
        refine (unhide HC).mono ?_
        rintro e w2 ⟨b2, t, n, bb, tw, rfl⟩
        have R2 := (unhide HRR).below b2
        have B2 := below_next (unhide HB) b2
        have R3 := R2.alloc (gotB t n false bb tw)
        have B3 : Below w.heap.size w (w2.alloc (gotB t n false bb tw)) := B2.alloc (by have := b2.size; omega) _
        have c0 := R3.c0
        have c1 := R3.c1
        have c2 := R3.c2
        have c3 := R3.c3
        have c4 := R3.c4
        have f0 := R3.fz 0
        have f1 := R3.fz 1
        have f2 := R3.fz 2
        have f3 := R3.fz 3
        have f4 := R3.fz 4
        have RX := hide (R3.put ⟨#[]⟩ 0 0 rfl false false false)
        have BX := hide (below_put B3 (Nat.le_refl _) (.string ⟨#[]⟩) (.int .i64 0) (.bool false) (.bool false) (.bool false))
        clear HC HRR R2 R3 B2 B3
        simp only [gotV]
        go_wp2
        try simp only [Exit.inBlock, Exit.then]
        refine bodyPost_ret (got_ret rfl rfl (unhide RX)) rfl ?_
        exact GP.bad (unhide HN) (unhide BX)
      | some q =>
        obtain ⟨v, n⟩ := q
        have hvo := val_ok hv
        have hvl := val_len hv
        have HPL : Hid ((preA (acc.app (.cons v .nil))).length ≤ 31 * n) := by
          show _ ≤ _
          rw [preA_snoc]; simp only [List.length_append, List.length_cons, List.length_nil]; omega
        have z1 : (strOf (91 :: preA acc)).size ≤ 40000000 := by rw [strOf_size]; simp only [List.length_cons]; omega
        have z2 : (strOf (ct v)).size ≤ 40000000 := by rw [strOf_size]; omega
        have z3 : (strOf (91 :: (preA acc ++ ct v))).size ≤ 80000000 := by rw [strOf_size]; simp only [List.length_cons, List.length_append]; omega
        have hn1 := sk_ge s n
        have hn2 := (sk_le hvo.2).2
        have HEQ : Hid (elems s k0 = (if bt s (sk s n) = 93 then some (JL.cons v .nil, sk s n + 1) else if bt s (sk s n) = 44 then (elems s (sk s (sk s n + 1))).map fun r => (JL.cons v r.1, r.2) else none).map fun q => (acc.app q.1, q.2)) := by
          show _ = _
          rw [unhide HST, elems_eq, hv]; rfl
        rw [hv] at HC
        clear hv HST
        have hcat1 : strOf (91 :: preA acc) ++ strOf (ct v) = strOf (91 :: (preA acc ++ ct v)) := strOf_app _ _
        have HFI : Hid (strOf (91 :: (preA acc ++ ct v)) ++ ⟨#[93]⟩ = strOf (ct (.arr (acc.app (.cons v .nil))))) := by
          show _ = _
          rw [show (⟨#[93]⟩ : ByteArray) = strOf [93] from rfl, strOf_app, ct, mkA, ← joinC_pre]; simp
        have HCO : Hid (strOf (91 :: (preA acc ++ ct v)) ++ ⟨#[44]⟩ = strOf (91 :: preA (acc.app (.cons v .nil)))) := by
          show _ = _
          rw [show (⟨#[44]⟩ : ByteArray) = strOf [44] from rfl, strOf_app, preA_snoc]; simp
        have HBB : Hid (bigL (acc.app (.cons v .nil)) = (bigL acc || bigV v)) := by show _ = _; rw [bigL_app]; simp [bigL]
        have HTT : Hid (twL (acc.app (.cons v .nil)) = (twL acc || twV v)) := by show _ = _; rw [twL_app]; simp [twL]
        go_wp2_with fail
        refine (unhide HC).mono ?_
        rintro e w2 ⟨b2, rfl⟩
        simp only [gotV]
        have R3 := hide (((unhide HRR).below b2).alloc (gotB (strOf (ct v)) n true (bigV v) (twV v)))
        have G3 := ((unhide HG).below b2).alloc (gotB (strOf (ct v)) n true (bigV v) (twV v))
        have V3 : Got w2.heap.size (strOf (ct v)) n true (bigV v) (twV v) (w2.alloc (gotB (strOf (ct v)) n true (bigV v) (twV v))) := heap_alloc_new w2 _
        have B3 : Hid (Below w.heap.size w (w2.alloc (gotB (strOf (ct v)) n true (bigV v) (twV v)))) := (below_next (unhide HB) b2).alloc (by have := b2.size; omega) _
        have hw2 := b2.size
        clear HC HRR HG HB b2
        simp only [gotB] at G3 V3 R3 B3
        generalize bigL acc = ba at *
        generalize twL acc = ta at *
        generalize bigV v = bv at *
        generalize twV v = tv at *
        generalize strOf (91 :: preA acc) = sa at *
        generalize strOf (91 :: (preA acc ++ ct v)) = sb at *
        generalize strOf (ct v) = sc at *
        generalize hw3 : w2.alloc (.cells #[.string sc, .int .i64 (n : Int), .bool true, .bool bv, .bool tv] 121 (0, 0)) = w3 at *
        have hvg : w2.heap.size ≠ w.heap.size + 1 := by omega
        have ok3 := V3.c2
        have go0 := G3.c0
        have gf0 := G3.fz 0
        have gf3 := G3.fz 3
        have gf4 := G3.fz 4
        have v0 := V3.c0
        have G4 := G3.set0 sb
        have V4 := V3.other (p := ⟨w.heap.size + 1, 0, none⟩) hvg (.string sb)
        have G5 := G4.set3 (ba || bv)
        have V5 := V4.other (p := ⟨w.heap.size + 1, 3, none⟩) hvg (.bool (ba || bv))
        have G6 := G5.set4 (ta || tv)
        have V6 := V5.other (p := ⟨w.heap.size + 1, 4, none⟩) hvg (.bool (ta || tv))
        have g43 := G4.c3
        have v43 := V4.c3
        have f43 := G4.fz 3
        have g54 := G5.c4
        have v54 := V5.c4
        have f54 := G5.fz 4
        have v61 := V6.c1
        have HG6 := hide G6
        clear G3 V3 G4 V4 G5 V5 G6 V6
        generalize hbb : (ba || bv) = bb at *
        generalize htt : (ta || tv) = tt at *
        have hb' : ba = true ∧ bb = true ∨ ba = false ∧ bv = bb := or_cases _ _ _ hbb
        have ht' : ta = true ∧ tt = true ∨ ta = false ∧ tv = tt := or_cases _ _ _ htt
        clear hbb htt hpl hvl
        rcases hb' with ⟨rfl, rfl⟩ | ⟨rfl, rfl⟩ <;> rcases ht' with ⟨rfl, rfl⟩ | ⟨rfl, rfl⟩
        all_goals
          go_wp2_with fail
          refine ((unhide HSM).1 _ n _ rfl).mono ?_
          rintro e w6 ⟨rfl, hw6⟩
          have G6 := hw6 ▸ unhide HG6
          have R6 : Got w.heap.size ⟨#[]⟩ 0 false false false w6 := hw6 ▸ (((unhide R3).other (p := ⟨w.heap.size + 1, 0, none⟩) (by show _ ≠ w.heap.size + 1; omega) _).other (p := ⟨w.heap.size + 1, 3, none⟩) (by show _ ≠ w.heap.size + 1; omega) _).other (p := ⟨w.heap.size + 1, 4, none⟩) (by show _ ≠ w.heap.size + 1; omega) _
          have B6 : Below w.heap.size w w6 := hw6 ▸ (((unhide B3).setCell (p := ⟨w.heap.size + 1, 0, none⟩) (by show _ ≤ w.heap.size + 1; omega) _).setCell (p := ⟨w.heap.size + 1, 3, none⟩) (by show _ ≤ w.heap.size + 1; omega) _).setCell (p := ⟨w.heap.size + 1, 4, none⟩) (by show _ ≤ w.heap.size + 1; omega) _
          have HB6 := hide B6
          have HR6 := hide R6
          have HG6' := hide G6
          clear ok3 go0 gf0 gf3 gf4 v0 g43 v43 f43 g54 v54 f54 v61 HG6 R3 B3 hw6 hw3 hcat1 G6 R6 B6 hvg hw2 w3
          generalize sk s n = k at *
          go_wp2_with fail
          refine ((unhide HSM).2 93 k _ (by decide)).mono ?_
          rintro e w7 ⟨rfl, rfl⟩
          by_cases h93 : bt s k = 93
          · rw [decide_eq_true h93]
            have HVV : Hid (val s i = some (.arr (acc.app (.cons v .nil)), k + 1)) := by
              show _ = _
              rw [unhide HR, unhide HEQ, if_pos h93]; rfl
            have hfi := unhide HFI
            generalize hsf : strOf (ct (.arr (acc.app (.cons v .nil)))) = sf at *
            have HSF := hide hsf
            have G6 := unhide HG6'
            have c0 := G6.c0
            have f0 := G6.fz 0
            have G7 := G6.set0 sf
            have c71 := G7.c1
            have f71 := G7.fz 1
            have G8 := G7.set1 ((k : Int) + 1) (k + 1) (by omega)
            have R8 := ((unhide HR6).other (p := ⟨w.heap.size + 1, 0, none⟩) (by show _ ≠ w.heap.size + 1; omega) (.string sf)).other (p := ⟨w.heap.size + 1, 1, none⟩) (by show _ ≠ w.heap.size + 1; omega) (.int .i64 ((k : Int) + 1))
            have B8 := ((unhide HB6).setCell (p := ⟨w.heap.size + 1, 0, none⟩) (by show _ ≤ w.heap.size + 1; omega) (.string sf)).setCell (p := ⟨w.heap.size + 1, 1, none⟩) (by show _ ≤ w.heap.size + 1; omega) (.int .i64 ((k : Int) + 1))
            obtain ⟨a0, a1', a2, a3, a4⟩ := G8.cells
            have a1 := a1'.trans (show _ = some (Value.int .i64 ((k : Int) + 1)) by rw [show ((k + 1 : Nat) : Int) = (k : Int) + 1 from by omega])
            obtain ⟨r0, r1, r2, r3, r4⟩ := R8.cells
            obtain ⟨q0, q1, q2, q3, q4⟩ := R8.fzs
            have RX := hide (R8.copyTo G8 ((k : Int) + 1) (by omega))
            have BX := hide (fun a b c d e => below_put B8 (Nat.le_refl _) a b c d e)
            clear a1' G6 G7 G8 R8 B8 HG6' HR6 HB6 HFI hsf HCO HEQ HR h93
            go_wp2
            try simp only [Exit.inBlock, Exit.then]
            refine bodyPost_ret (got_ret rfl rfl (unhide RX)) rfl ?_
            rw [unhide HVV]
            refine ⟨unhide BX _ _ _ _ _, ?_⟩
            show _ = Ending.returned (gotV (strOf (ct (.arr (acc.app (.cons v .nil))))) (k + 1) true (bigL (acc.app (.cons v .nil))) (twL (acc.app (.cons v .nil))))
            rw [unhide HSF, unhide HBB, unhide HTT]
          · rw [decide_eq_false h93]
            go_wp2_with fail
            refine ((unhide HSM).2 44 k _ (by decide)).mono ?_
            rintro e w8 ⟨rfl, rfl⟩
            by_cases h44 : bt s k = 44
            · rw [decide_eq_true h44]
              have hkl : k < s.size := bt_in (by omega)
              have HST2 : Hid (elems s k0 = (elems s (sk s (k + 1))).map fun q => ((acc.app (.cons v .nil)).app q.1, q.2)) := by
                show _ = _
                rw [unhide HEQ, if_neg h93, if_pos h44, Option.map_map]
                congr 1
                funext q
                simp [JL.app_assoc, JL.app]
              have hco := unhide HCO
              generalize hsf : strOf (91 :: preA (acc.app (.cons v .nil))) = sf at *
              have HSF := hide hsf
              have G6 := unhide HG6'
              have c0 := G6.c0
              have f0 := G6.fz 0
              have G7 := hide (G6.set0 sf)
              have R7 := hide ((unhide HR6).other (p := ⟨w.heap.size + 1, 0, none⟩) (by show _ ≠ w.heap.size + 1; omega) (.string sf))
              have B7 := hide ((unhide HB6).setCell (p := ⟨w.heap.size + 1, 0, none⟩) (by show _ ≤ w.heap.size + 1; omega) (.string sf))
              clear G6 HG6' HR6 HB6 HFI hsf HCO HEQ h93 h44
              go_wp2_with fail
              refine ((unhide HSM).1 _ (k + 1) _ (by omega)).mono ?_
              rintro e w9 ⟨rfl, hw9⟩
              have G9 := hw9 ▸ unhide G7
              have R9 := hw9 ▸ unhide R7
              have B9 := hw9 ▸ unhide B7
              have hs1 := sk_ge s (k + 1)
              have hs2 := (sk_le (s := s) (i := k + 1) (by omega)).2
              clear G7 R7 B7 c0 f0
              go_wp2
              go_roundg (s.size + 1 - sk s (k + 1))
              case rel => exact ⟨sk s (k + 1), acc.app (.cons v .nil), rfl, rfl, by omega, hs2, R9, by rw [unhide HSF, unhide HBB, unhide HTT]; exact G9, B9, by have := unhide HPL; omega, unhide HST2⟩
              case measure => omega
            · rw [decide_eq_false h44]
              have HN : Hid (val s i = none) := by
                show _ = _
                rw [unhide HR, unhide HEQ, if_neg h93, if_neg h44]; rfl
              have R6 := unhide HR6
              obtain ⟨r0, r1, r2, r3, r4⟩ := R6.cells
              obtain ⟨q0, q1, q2, q3, q4⟩ := R6.fzs
              have RX := hide (R6.put ⟨#[]⟩ 0 0 rfl false false false)
              have BX := hide (below_put (unhide HB6) (Nat.le_refl _) (.string ⟨#[]⟩) (.int .i64 0) (.bool false) (.bool false) (.bool false))
              clear R6 HG6' HR6 HB6 HFI HCO HEQ h93 h44
              go_wp2
              try simp only [Exit.inBlock, Exit.then]
              refine bodyPost_ret (got_ret rfl rfl (unhide RX)) rfl ?_
              exact GP.bad (unhide HN) (unhide BX)
end Go.Proofs.YtcjajchfjoffnaaGreatDoor

namespace Go.Proofs.YtcjajchfjoffnaaGreatDoor
open Go.RowKit

theorem arr_at {zs : List (List UInt8)} {m : Nat} (h : m < zs.length) : zs.toArray[m]! = zs[m] := by
  rw [getElem!_pos zs.toArray m (by simpa using h)]
  simp
theorem cut_facts {zs : List (List UInt8)} (h : zs.Pairwise (fun a b => a ≤ b)) : ∀ m, m ≤ zs.length → UpS (Lib.compactUpTo zs.toArray m) ∧ ∀ x, x ∈ Lib.compactUpTo zs.toArray m ↔ x ∈ zs.take m
  | 0, _ => by simp [Lib.compactUpTo, UpS]
  | m + 1, hm => by
    obtain ⟨h1, h2⟩ := cut_facts h m (by omega)
    rw [Lib.compactUpTo_succ, arr_at (by omega), List.take_succ_eq_append_getElem (by omega)]
    have hp := List.pairwise_iff_getElem.1 h
    cases hk : Lib.keeps zs.toArray m with
    | true =>
      rw [if_pos rfl]
      refine ⟨?_, fun x => by rw [List.mem_append, List.mem_append, h2]⟩
      unfold UpS at *
      rw [List.pairwise_append]
      refine ⟨h1, List.pairwise_singleton _ _, fun x hx y hy => ?_⟩
      rw [List.mem_singleton] at hy
      subst hy
      obtain ⟨j, hj, rfl⟩ := List.mem_iff_getElem.1 ((h2 x).1 hx)
      rw [List.length_take] at hj
      rw [List.getElem_take]
      rw [← List.not_le]
      intro hle
      have hm0 : m ≠ 0 := by omega
      unfold Lib.keeps at hk
      rw [decide_eq_true_eq, arr_at (by omega), arr_at (by omega)] at hk
      rcases hk with hk | hk
      · exact hm0 hk
      · refine hk (List.le_antisymm ?_ (hp (m - 1) m (by omega) (by omega) (by omega)))
        by_cases e : j = m - 1
        · subst e; exact hle
        · exact List.le_trans hle (hp j (m - 1) (by omega) (by omega) (by omega))
    | false =>
      rw [if_neg (by simp), List.append_nil]
      refine ⟨h1, fun x => ?_⟩
      unfold Lib.keeps at hk
      rw [decide_eq_false_iff_not, not_or] at hk
      obtain ⟨hm0, hk⟩ := hk
      rw [arr_at (by omega), arr_at (by omega), Classical.not_not] at hk
      rw [h2, List.mem_append, List.mem_singleton]
      refine ⟨.inl, fun hx => ?_⟩
      rcases hx with hx | hx
      · exact hx
      · rw [hx, hk]
        exact List.mem_iff_getElem.2 ⟨m - 1, by rw [List.length_take]; omega, by rw [List.getElem_take]⟩
theorem sort_once (l : List (List UInt8)) : Lib.compact (l.mergeSort (fun x y => decide (x ≤ y))) = onceL l := by
  have tr : ∀ a b c : List UInt8, decide (a ≤ b) = true → decide (b ≤ c) = true → decide (a ≤ c) = true := fun a b c h1 h2 => by simp only [decide_eq_true_eq] at *; exact List.le_trans h1 h2
  have to : ∀ a b : List UInt8, (decide (a ≤ b) || decide (b ≤ a)) = true := fun a b => by simp only [Bool.or_eq_true, decide_eq_true_eq]; exact List.le_total a b
  have hs : (l.mergeSort (fun x y => decide (x ≤ y))).Pairwise (fun a b => a ≤ b) := (List.pairwise_mergeSort tr to l).imp fun h => by simpa using h
  obtain ⟨h1, h2⟩ := cut_facts hs _ (Nat.le_refl _)
  refine up_ext h1 (onceL_up l) fun z => ?_
  show z ∈ Lib.compactUpTo _ _ ↔ _
  rw [h2, List.take_length, mem_onceL]
  exact (List.mergeSort_perm l _).mem_iff
theorem compact_len (zs : List (List UInt8)) : (Lib.compact zs).length ≤ zs.length := by
  unfold Lib.compact Lib.compactUpTo
  rw [List.length_map]
  exact Nat.le_trans (List.length_filter_le _ _) (by simp)
end Go.Proofs.YtcjajchfjoffnaaGreatDoor
