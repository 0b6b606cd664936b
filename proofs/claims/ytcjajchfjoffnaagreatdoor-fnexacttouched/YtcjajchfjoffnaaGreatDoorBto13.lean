import Derived.Test.YtcjajchfjoffnaaGreatDoorBto12
import Derived.Lib.SlicesCompact
namespace Go.Proofs.YtcjajchfjoffnaaGreatDoor
open Go.RowKit

theorem endF_uniq {T : ByteArray} : ∀ (f f' op i k k' : Nat), endF T f op i = some k → endF T f' op i = some k' → k = k'
  | 0, _, _, _, _, _, h, _ => by simp [endF] at h
  | _ + 1, 0, _, _, _, _, _, h => by simp [endF] at h
  | f + 1, f' + 1, op, i, k, k', h, h' => by
    rw [endF] at h h'
    by_cases hi : i < T.size
    · rw [if_pos hi] at h h'
      cases hn : nxt T i with
      | none => rw [hn] at h; simp at h
      | some j =>
        rw [hn] at h h'
        simp only [Option.bind_some] at h h'
        cases ho : op1 (bt T i) op with
        | none => rw [ho] at h; simp at h
        | some o =>
          rw [ho] at h h'
          simp only [Option.bind_some] at h h'
          by_cases hs : o = 0 ∧ stopAt T j = true
          · rw [if_pos hs] at h h'
            injection h with h; injection h' with h'
            omega
          · rw [if_neg hs] at h h'
            exact endF_uniq f f' o j k k' h h'
    · rw [if_neg hi] at h; cases h
/-- A class of texts of which at most one stands at a place. -/
def Once (T : ByteArray) (P : List UInt8 → Prop) : Prop := ∀ t t', P t → P t' → ∀ i m m', T.data.toList.drop i = t ++ m → Stops m → T.data.toList.drop i = t' ++ m' → Stops m' → t = t'
theorem once_top (T : ByteArray) : Once T fun t => TopP T t ∧ t ≠ [] := fun t t' h h' i m m' d s d' s' => by
  obtain ⟨f, hf⟩ := h.1 i m d s
  obtain ⟨f', hf'⟩ := h'.1 i m' d' s'
  have := endF_uniq f f' 0 i _ _ hf hf'
  rw [d] at d'
  exact (List.append_inj d' (by omega)).1
theorem once_mem (T : ByteArray) : Once T fun t => ∃ p : List UInt8 × List UInt8, t = memT p ∧ TopP T p.2 ∧ p.2 ≠ [] ∧ Lib.validD p.1 = true := by
  rintro t t' ⟨p, rfl, h1, h2, h3⟩ ⟨q, rfl, k1, k2, k3⟩ i m m' d s d' s'
  have d1 : T.data.toList.drop i = quoted p.1 ++ (58 :: (p.2 ++ m)) := by rw [d]; simp [memT]
  have d2 : T.data.toList.drop i = quoted q.1 ++ (58 :: (q.2 ++ m')) := by rw [d']; simp [memT]
  have e1 := strQ_at p.1 T _ h3 i d1
  have e2 := strQ_at q.1 T _ k3 i d2
  rw [e1] at e2
  injection e2 with e2
  injection e2 with e2 _
  rw [← e2] at d2
  have d3 : T.data.toList.drop (i + (quoted p.1).length + 1) = p.2 ++ m := (at_head (T := T) (c := 58) (drop_past d1)).2.2
  have d4 : T.data.toList.drop (i + (quoted p.1).length + 1) = q.2 ++ m' := (at_head (T := T) (c := 58) (drop_past d2)).2.2
  have := once_top T p.2 q.2 ⟨h1, h2⟩ ⟨k1, k2⟩ _ m m' d3 s d4 s'
  unfold memT
  rw [e2, this]
theorem texts_inj {T : ByteArray} {P : List UInt8 → Prop} (hP : Once T P) (hne : ∀ t, P t → t ≠ []) {cs ds : List (List UInt8)} {a a' c c' : UInt8} (h : T.data.toList = a :: (joinC cs ++ [c])) (h' : T.data.toList = a' :: (joinC ds ++ [c'])) (hc : c.toNat = 93 ∨ c.toNat = 125) (hc' : c'.toNat = 93 ∨ c'.toNat = 125) (t1 : ∀ t ∈ cs, P t) (t2 : ∀ t ∈ ds, P t) : cs = ds := by
  have key : ∀ k, k ≤ cs.length → k ≤ ds.length → cs.take k = ds.take k := by
    intro k
    induction k with
    | zero => intro _ _; simp
    | succ k ih =>
      intro h1 h2
      have e := ih (by omega) (by omega)
      have d1 := drop_pk h k (by omega)
      have d2 := drop_pk h' k (by omega)
      have ep : pk cs k = pk ds k := by unfold pk; rw [e]
      rw [← ep] at d2
      have := hP _ _ (t1 _ (List.getElem_mem (by omega : k < cs.length))) (t2 _ (List.getElem_mem (by omega : k < ds.length))) _ _ _ d1 (stops_tail _ c hc) d2 (stops_tail _ c' hc')
      rw [List.take_succ_eq_append_getElem (by omega), List.take_succ_eq_append_getElem (by omega), e, this]
  have short : ∀ {xs ys : List (List UInt8)} {b b' e e' : UInt8}, T.data.toList = b :: (joinC xs ++ [e]) → T.data.toList = b' :: (joinC ys ++ [e']) → (∀ t ∈ ys, P t) → xs.take xs.length = ys.take xs.length → ¬ xs.length < ys.length := by
    intro xs ys b b' e e' hx hy ty hk hlt
    have p1 := pk_end hx
    have p2 := pk_in hy xs.length hlt
    have ep : pk xs xs.length = pk ys xs.length := by unfold pk; rw [hk]
    have hn := hne _ (ty _ (List.getElem_mem hlt))
    have : 1 ≤ (ys[xs.length]).length := by
      cases hq : ys[xs.length] with
      | nil => exact absurd hq hn
      | cons _ _ => simp
    omega
  have l1 : ¬ cs.length < ds.length := fun hl => short h h' t2 (key _ (Nat.le_refl _) (by omega)) hl
  have l2 : ¬ ds.length < cs.length := fun hl => short h' h t1 (key _ (by omega) (Nat.le_refl _)).symm hl
  have el : cs.length = ds.length := by omega
  have := key cs.length (Nat.le_refl _) (by omega)
  rwa [List.take_of_length_le (Nat.le_refl _), List.take_of_length_le (by omega)] at this
theorem ct_arr {l m : JL} (hl : okL l) (hm : okL m) (h : ct (.arr l) = ct (.arr m)) : ctL l = ctL m := by
  have e1 : (strOf (ct (.arr l))).data.toList = 91 :: (joinC (ctL l) ++ [93]) := by rw [strOf_toList]; rfl
  have e2 : (strOf (ct (.arr l))).data.toList = 91 :: (joinC (ctL m) ++ [93]) := by rw [strOf_toList, h]; rfl
  exact texts_inj (once_top _) (fun t ht => ht.2) e1 e2 (.inl rfl) (.inl rfl) (ctL_top _ l hl) (ctL_top _ m hm)
theorem memT_inj {p q : List UInt8 × List UInt8} (hp : Lib.validD p.1 = true) (hq : Lib.validD q.1 = true) (h : memT p = memT q) : p = q := by
  have d1 : (strOf (memT p)).data.toList.drop 0 = quoted p.1 ++ (58 :: p.2) := by rw [strOf_toList]; rfl
  have d2 : (strOf (memT p)).data.toList.drop 0 = quoted q.1 ++ (58 :: q.2) := by rw [strOf_toList, h]; rfl
  have e1 := strQ_at p.1 _ _ hp 0 d1
  have e2 := strQ_at q.1 _ _ hq 0 d2
  rw [e1] at e2
  injection e2 with e2
  injection e2 with e2 _
  rw [d1, e2] at d2
  have := List.append_cancel_left d2
  injection this with _ this
  exact Prod.ext e2 this
theorem map_memT_inj : ∀ {ps qs : List (List UInt8 × List UInt8)}, (∀ p ∈ ps, Lib.validD p.1 = true) → (∀ p ∈ qs, Lib.validD p.1 = true) → ps.map memT = qs.map memT → ps = qs
  | [], [], _, _, _ => rfl
  | [], _ :: _, _, _, h => by simp at h
  | _ :: _, [], _, _, h => by simp at h
  | p :: ps, q :: qs, h1, h2, h => by
    rw [List.map_cons, List.map_cons] at h
    injection h with a b
    rw [memT_inj (h1 p List.mem_cons_self) (h2 q List.mem_cons_self) a, map_memT_inj (fun x hx => h1 x (List.mem_cons_of_mem _ hx)) (fun x hx => h2 x (List.mem_cons_of_mem _ hx)) b]
theorem ct_obj {k m : JM} (hk : okM k) (hm : okM m) (h : ct (.obj k) = ct (.obj m)) : isort (ctM k) = isort (ctM m) := by
  have e1 : (strOf (ct (.obj k))).data.toList = 123 :: (joinC ((isort (ctM k)).map memT) ++ [125]) := by rw [strOf_toList]; rfl
  have e2 : (strOf (ct (.obj k))).data.toList = 123 :: (joinC ((isort (ctM m)).map memT) ++ [125]) := by rw [strOf_toList, h]; rfl
  have g1 := fun p (hp : p ∈ isort (ctM k)) => ctM_top (strOf (ct (.obj k))) k hk p ((isort_perm _).subset hp)
  have g2 := fun p (hp : p ∈ isort (ctM m)) => ctM_top (strOf (ct (.obj k))) m hm p ((isort_perm _).subset hp)
  have := texts_inj (once_mem _) (fun t ht => by obtain ⟨p, rfl, _⟩ := ht; simp [memT, quoted]) e1 e2 (.inr rfl) (.inr rfl)
    (fun t ht => by obtain ⟨p, hp, rfl⟩ := List.mem_map.1 ht; exact ⟨p, rfl, g1 p hp⟩) (fun t ht => by obtain ⟨p, hp, rfl⟩ := List.mem_map.1 ht; exact ⟨p, rfl, g2 p hp⟩)
  exact map_memT_inj (fun p hp => (g1 p hp).2.2) (fun p hp => (g2 p hp).2.2) this
theorem quoted_inj {a b : List UInt8} (ha : Lib.validD a = true) (hb : Lib.validD b = true) (h : quoted a = quoted b) : a = b := by
  have := memT_inj (p := (a, [])) (q := (b, [])) ha hb (by unfold memT; simp only; rw [h])
  injection this
/-- The kind of a value, and what its first byte says of it. -/
def kd : JV → Nat
  | .nul => 0 | .tt => 1 | .ff => 2 | .num _ => 3 | .str _ => 4 | .arr _ => 5 | .obj _ => 6
def fb (c : Nat) : Nat := if c = 110 then 0 else if c = 116 then 1 else if c = 102 then 2 else if c = 34 then 4 else if c = 91 then 5 else if c = 123 then 6 else 3
theorem ct_fb {v : JV} (h : okV v) : ∃ c r, ct v = c :: r ∧ fb c.toNat = kd v := by
  cases v with
  | nul => exact ⟨_, _, rfl, rfl⟩
  | tt => exact ⟨_, _, rfl, rfl⟩
  | ff => exact ⟨_, _, rfl, rfl⟩
  | num l =>
    rw [okV] at h
    obtain ⟨c, r, rfl, hc, _⟩ := h
    refine ⟨c, r, rfl, ?_⟩
    have : c.toNat = 45 ∨ (48 ≤ c.toNat ∧ c.toNat ≤ 57) := hc.imp id isDg_iff.1
    unfold fb kd
    repeat (rw [if_neg (by omega)])
  | str l => exact ⟨_, _, rfl, rfl⟩
  | arr l => exact ⟨_, _, rfl, rfl⟩
  | obj m => exact ⟨_, _, rfl, rfl⟩
theorem ct_kd {a b : JV} (ha : okV a) (hb : okV b) (h : ct a = ct b) : kd a = kd b := by
  obtain ⟨c, r, e, f⟩ := ct_fb ha
  obtain ⟨c', r', e', f'⟩ := ct_fb hb
  rw [e, e'] at h
  injection h with h _
  rw [← f, ← f', h]
/-- Whether two values that are no arrays and no objects are the same. -/
def leafEq : JV → JV → Bool
  | .nul, .nul => true
  | .tt, .tt => true
  | .ff, .ff => true
  | .num a, .num b => a == b
  | .str a, .str b => a == b
  | _, _ => false
theorem leaf_ct {a b : JV} (h : leafEq a b = true) : ct a = ct b := by
  unfold leafEq at h
  split at h <;> first | rfl | (rw [beq_iff_eq] at h; rw [h]) | cases h
theorem ct_leaf {a b : JV} (ha : okV a) (hb : okV b) (h : ct a = ct b) : leafEq a b = true ∨ (∃ l m, a = .arr l ∧ b = .arr m) ∨ ∃ k m, a = .obj k ∧ b = .obj m := by
  have hk := ct_kd ha hb h
  cases a with
  | nul => cases b <;> first | exact .inl rfl | (simp [kd] at hk)
  | tt => cases b <;> first | exact .inl rfl | (simp [kd] at hk)
  | ff => cases b <;> first | exact .inl rfl | (simp [kd] at hk)
  | num l => cases b with
    | num m => left; have : l = m := h; simp [leafEq, this]
    | _ => simp [kd] at hk
  | str l => cases b with
    | str m => left; rw [okV] at ha hb; have : l = m := quoted_inj ha hb h; simp [leafEq, this]
    | _ => simp [kd] at hk
  | arr l => cases b with
    | arr m => exact .inr (.inl ⟨l, m, rfl, rfl⟩)
    | _ => simp [kd] at hk
  | obj l => cases b with
    | obj m => exact .inr (.inr ⟨l, m, rfl, rfl⟩)
    | _ => simp [kd] at hk
end Go.Proofs.YtcjajchfjoffnaaGreatDoor

namespace Go.Proofs.YtcjajchfjoffnaaGreatDoor
open Go.RowKit

def insU (x : List UInt8) : List (List UInt8) → List (List UInt8)
  | [] => [x]
  | y :: r => if y < x then y :: insU x r else if y = x then y :: r else x :: y :: r
/-- Texts in order, each once. -/
def onceL (l : List (List UInt8)) : List (List UInt8) := l.foldl (fun acc x => insU x acc) []
theorem mem_insU {z x : List UInt8} : ∀ {l : List (List UInt8)}, z ∈ insU x l ↔ z = x ∨ z ∈ l
  | [] => by simp [insU]
  | y :: r => by
    rw [insU]
    split
    · rw [List.mem_cons, mem_insU, List.mem_cons]
      constructor
      · rintro (h | h | h)
        · exact .inr (.inl h)
        · exact .inl h
        · exact .inr (.inr h)
      · rintro (h | h | h)
        · exact .inr (.inl h)
        · exact .inl h
        · exact .inr (.inr h)
    · split
      · rename_i h; subst h
        constructor
        · intro h; exact .inr h
        · rintro (h | h)
          · rw [h]; exact List.mem_cons_self
          · exact h
      · rw [List.mem_cons]
theorem mem_foldU {z : List UInt8} : ∀ (l acc : List (List UInt8)), z ∈ l.foldl (fun acc x => insU x acc) acc ↔ z ∈ acc ∨ z ∈ l
  | [], acc => by simp
  | x :: l, acc => by
    rw [List.foldl_cons, mem_foldU l, mem_insU, List.mem_cons]
    constructor
    · rintro ((h | h) | h)
      · exact .inr (.inl h)
      · exact .inl h
      · exact .inr (.inr h)
    · rintro (h | h | h)
      · exact .inl (.inr h)
      · exact .inl (.inl h)
      · exact .inr h
theorem mem_onceL {z : List UInt8} {l : List (List UInt8)} : z ∈ onceL l ↔ z ∈ l := by
  unfold onceL; rw [mem_foldU]; simp
def UpS (l : List (List UInt8)) : Prop := l.Pairwise (fun a b => a < b)
theorem insU_up {x : List UInt8} : ∀ {l : List (List UInt8)}, UpS l → UpS (insU x l)
  | [], _ => by simp [insU, UpS]
  | y :: r, h => by
    unfold UpS at *
    rw [List.pairwise_cons] at h
    rw [insU]
    split
    · rename_i hlt
      rw [List.pairwise_cons]
      refine ⟨fun a ha => ?_, insU_up h.2⟩
      rcases mem_insU.1 ha with rfl | ha
      · exact hlt
      · exact h.1 a ha
    · split
      · rw [List.pairwise_cons]; exact h
      · rename_i h1 h2
        have hxy : x < y := by
          rcases Classical.em (x < y) with g | g
          · exact g
          · exact absurd (List.le_antisymm (List.not_lt.1 g) (List.not_lt.1 h1)) h2
        rw [List.pairwise_cons, List.pairwise_cons]
        refine ⟨fun a ha => ?_, h⟩
        rcases List.mem_cons.1 ha with rfl | ha
        · exact hxy
        · exact List.lt_trans hxy (h.1 a ha)
theorem foldU_up : ∀ (l acc : List (List UInt8)), UpS acc → UpS (l.foldl (fun acc x => insU x acc) acc)
  | [], _, h => h
  | x :: l, acc, h => by rw [List.foldl_cons]; exact foldU_up l _ (insU_up h)
theorem onceL_up (l : List (List UInt8)) : UpS (onceL l) := foldU_up l [] List.Pairwise.nil
theorem up_ext : ∀ {a b : List (List UInt8)}, UpS a → UpS b → (∀ z, z ∈ a ↔ z ∈ b) → a = b
  | [], [], _, _, _ => rfl
  | [], y :: _, _, _, h => by have := (h y).2 List.mem_cons_self; simp at this
  | x :: _, [], _, _, h => by have := (h x).1 List.mem_cons_self; simp at this
  | x :: r, y :: s, ha, hb, h => by
    unfold UpS at ha hb
    rw [List.pairwise_cons] at ha hb
    have e : x = y := by
      rcases List.mem_cons.1 ((h x).1 List.mem_cons_self) with e | h1
      · exact e
      · rcases List.mem_cons.1 ((h y).2 List.mem_cons_self) with e | h2
        · exact e.symm
        · exact absurd (List.lt_trans (hb.1 x h1) (ha.1 y h2)) (List.lt_irrefl _)
    subst e
    rw [up_ext (a := r) (b := s) ha.2 hb.2 (fun z => ?_)]
    constructor
    · intro hz
      rcases List.mem_cons.1 ((h z).1 (List.mem_cons_of_mem _ hz)) with e | h1
      · exact absurd (ha.1 z hz) (by rw [e]; exact List.lt_irrefl _)
      · exact h1
    · intro hz
      rcases List.mem_cons.1 ((h z).2 (List.mem_cons_of_mem _ hz)) with e | h1
      · exact absurd (hb.1 z hz) (by rw [e]; exact List.lt_irrefl _)
      · exact h1
theorem up_nodup {l : List (List UInt8)} (h : UpS l) : l.Nodup := by
  refine h.imp ?_
  intro a b hab e
  rw [e] at hab
  exact List.lt_irrefl _ hab
/-- What a key leads to among parts. -/
def findK (K : List (List UInt8 × JV)) (key : List UInt8) : Option JV := (K.find? fun q => q.1 == key).map (·.2)
def comp : JV → JV → Bool
  | .arr l, .arr m => l.toL.length == m.toL.length
  | .obj _, .obj _ => true
  | _, _ => false
def keys2 (a b : JV) : List (List UInt8) := match a with
  | .arr _ => (kidsV a).map (·.1)
  | _ => onceL ((kidsV a).map (·.1) ++ (kidsV b).map (·.1))
/-- Where two values differ. -/
def chF : Nat → List UInt8 → JV → JV → List (List UInt8)
  | 0, _, _, _ => []
  | n + 1, p, a, b => if comp a b = true then (keys2 a b).flatMap fun key => match findK (kidsV a) key, findK (kidsV b) key with
      | some u, some v => chF n (ptrN p key) u v
      | _, _ => [ptrN p key]
    else if leafEq a b = true then [] else [p]
theorem findK_mem {K : List (List UInt8 × JV)} {key : List UInt8} {u : JV} (h : findK K key = some u) : (key, u) ∈ K := by
  unfold findK at h
  cases hf : K.find? fun q => q.1 == key with
  | none => rw [hf] at h; simp at h
  | some q =>
    rw [hf] at h
    simp at h
    have h1 := List.find?_some hf
    have h2 := List.mem_of_find?_eq_some hf
    simp at h1
    subst h; subst h1
    exact h2
theorem findK_none {K : List (List UInt8 × JV)} {key : List UInt8} : findK K key = none ↔ key ∉ K.map (·.1) := by
  unfold findK
  rw [Option.map_eq_none_iff, List.find?_eq_none]
  constructor
  · intro h hm
    obtain ⟨q, hq, e⟩ := List.mem_map.1 hm
    exact h q hq (by simp [e])
  · intro h q hq e
    exact h (List.mem_map.2 ⟨q, hq, by simpa using e⟩)
theorem findK_ct : ∀ {K L : List (List UInt8 × JV)}, K.map kt = L.map kt → ∀ key, (findK K key).map ct = (findK L key).map ct
  | [], [], _, _ => rfl
  | [], _ :: _, h, _ => by simp at h
  | _ :: _, [], h, _ => by simp at h
  | q :: K, r :: L, h, key => by
    rw [List.map_cons, List.map_cons] at h
    injection h with h1 h2
    have a : q.1 = r.1 := congrArg (fun z : List UInt8 × List UInt8 => z.1) h1
    have b : ct q.2 = ct r.2 := congrArg (fun z : List UInt8 × List UInt8 => z.2) h1
    have ih := findK_ct h2 key
    unfold findK at *
    rw [List.find?_cons, List.find?_cons, a]
    cases hq : r.1 == key with
    | true => simp [b]
    | false => exact ih
theorem parts_same {a b : JV} (ha : okV a) (hb : okV b) (h : ct a = ct b) : partsV a = partsV b := by
  rcases ct_leaf ha hb h with e | ⟨l, m, rfl, rfl⟩ | ⟨l, m, rfl, rfl⟩
  · unfold leafEq at e
    split at e <;> first | rfl | cases e
  · rw [okV] at ha hb
    show idxF 0 (ctL l) = idxF 0 (ctL m)
    rw [ct_arr ha hb h]
  · rw [okV] at ha hb
    exact ct_obj ha hb h
theorem comp_same {a b : JV} (ha : okV a) (hb : okV b) (h : ct a = ct b) : comp a b = true ∨ leafEq a b = true := by
  rcases ct_leaf ha hb h with e | ⟨l, m, rfl, rfl⟩ | ⟨l, m, rfl, rfl⟩
  · exact .inr e
  · rw [okV] at ha hb
    have := congrArg List.length (ct_arr ha hb h)
    rw [ctL_map, ctL_map, List.length_map, List.length_map] at this
    left; simp [comp, this]
  · exact .inl rfl
theorem comp_leaf {a b : JV} (h : comp a b = true) : leafEq a b = false := by
  cases a <;> cases b <;> first | rfl | (simp [comp] at h)
theorem keys2_in {a b : JV} (hc : comp a b = true) {key : List UInt8} (h : key ∈ keys2 a b) : key ∈ (kidsV a).map (·.1) ∨ key ∈ (kidsV b).map (·.1) := by
  unfold keys2 at h
  split at h
  · exact .inl h
  · rw [mem_onceL, List.mem_append] at h; exact h
/-- Equal texts: no change. -/
theorem chF_nil : ∀ (n : Nat) (p : List UInt8) (a b : JV), okV a → okV b → twV a = false → twV b = false → ct a = ct b → chF n p a b = []
  | 0, _, _, _, _, _, _, _, _ => rfl
  | n + 1, p, a, b, ha, hb, ta, tb, h => by
    rw [chF]
    have hps := parts_same ha hb h
    rw [parts_kids, parts_kids] at hps
    split
    · rename_i hc
      rw [List.flatMap_eq_nil_iff]
      intro key hk
      have hf := findK_ct hps key
      have hkeys : (kidsV a).map (·.1) = (kidsV b).map (·.1) := by
        have := congrArg (List.map Prod.fst) hps
        rw [List.map_map, List.map_map] at this
        exact this
      have hin : key ∈ (kidsV a).map (·.1) := by
        rcases keys2_in hc hk with h | h
        · exact h
        · rw [hkeys]; exact h
      cases hu : findK (kidsV a) key with
      | none => exact absurd hin (findK_none.1 hu)
      | some u =>
        rw [hu] at hf
        cases hv : findK (kidsV b) key with
        | none => rw [hv] at hf; simp at hf
        | some v =>
          rw [hv] at hf
          simp at hf
          obtain ⟨o1, o2, _, _⟩ := kids_ok ha ta (findK_mem hu)
          obtain ⟨o3, o4, _, _⟩ := kids_ok hb tb (findK_mem hv)
          exact chF_nil n _ u v o1 o3 o2 o4 hf
    · rename_i hc
      rcases comp_same ha hb h with h1 | h1
      · exact absurd h1 hc
      · rw [if_pos h1]
def cntO : Option JV → Nat
  | none => 0
  | some v => cntV v
theorem sum_once (f : List UInt8 → Nat) (x : List UInt8) (c : Nat) : ∀ keys : List (List UInt8), keys.Nodup → (keys.map fun k => if x == k then c else f k).sum ≤ c + (keys.map f).sum
  | [], _ => by simp
  | k :: r, h => by
    rw [List.nodup_cons] at h
    have ih := sum_once f x c r h.2
    rw [List.map_cons, List.map_cons, List.sum_cons, List.sum_cons]
    by_cases e : x == k
    · rw [if_pos e]
      have : (r.map fun k => if x == k then c else f k) = r.map f := List.map_congr_left (fun y hy => by
        rw [if_neg]
        intro e2
        rw [beq_iff_eq] at e e2
        exact h.1 (by rw [← e, e2]; exact hy))
      rw [this]; omega
    · rw [if_neg e]; omega
theorem sum_find : ∀ (K : List (List UInt8 × JV)) (keys : List (List UInt8)), keys.Nodup → (keys.map fun k => cntO (findK K k)).sum ≤ (K.map fun q => cntV q.2).sum
  | [], keys, _ => by
    have : (keys.map fun k => cntO (findK [] k)) = keys.map fun _ => 0 := List.map_congr_left (fun _ _ => rfl)
    rw [this]
    have : ∀ l : List (List UInt8), (l.map fun _ => 0).sum = 0 := by intro l; induction l with
      | nil => rfl
      | cons x r ih => simpa using ih
    rw [this]; simp
  | q :: K, keys, h => by
    have e : (keys.map fun k => cntO (findK (q :: K) k)) = keys.map fun k => if q.1 == k then cntV q.2 else cntO (findK K k) := List.map_congr_left (fun k _ => by
      unfold findK
      rw [List.find?_cons]
      cases hq : q.1 == k with
      | true => simp [cntO]
      | false => rfl)
    rw [e, List.map_cons, List.sum_cons]
    have := sum_once (fun k => cntO (findK K k)) q.1 (cntV q.2) keys h
    have := sum_find K keys h
    omega
theorem keys2_nodup {a b : JV} (ta : twV a = false) : (keys2 a b).Nodup := by
  unfold keys2
  split
  · rename_i l
    show ((idxJ 0 l.toL).map (·.1)).Nodup
    rw [List.nodup_iff_pairwise_ne, List.pairwise_map, List.pairwise_iff_getElem]
    intro i j hi hj hij
    rw [idxJ_at, idxJ_at]
    intro e
    have := decT_inj e
    omega
  · exact up_nodup (onceL_up _)
theorem flat_le {α β : Type} (f : α → List β) (g : α → Nat) : ∀ l : List α, (∀ x ∈ l, (f x).length ≤ g x) → (l.flatMap f).length ≤ (l.map g).sum
  | [], _ => by simp
  | x :: r, h => by
    rw [List.flatMap_cons, List.length_append, List.map_cons, List.sum_cons]
    have := h x List.mem_cons_self
    have := flat_le f g r (fun y hy => h y (List.mem_cons_of_mem _ hy))
    omega
theorem sum_two {α : Type} (f g : α → Nat) : ∀ l : List α, (l.map fun x => f x + g x).sum = (l.map f).sum + (l.map g).sum
  | [] => rfl
  | x :: r => by simp only [List.map_cons, List.sum_cons, sum_two f g r]; omega
/-- How many pointers a key gives at most. -/
def cw (a b : JV) (key : List UInt8) : Nat := cntO (findK (kidsV a) key) + cntO (findK (kidsV b) key)
def chK (n : Nat) (p : List UInt8) (a b : JV) (key : List UInt8) : List (List UInt8) := match findK (kidsV a) key, findK (kidsV b) key with
  | some u, some v => chF n (ptrN p key) u v
  | _, _ => [ptrN p key]
theorem chF_comp {n : Nat} {p : List UInt8} {a b : JV} (h : comp a b = true) : chF (n + 1) p a b = (keys2 a b).flatMap (chK n p a b) := by
  rw [chF, if_pos h]; rfl
theorem chF_len : ∀ (n : Nat) (p : List UInt8) (a b : JV), okV a → okV b → twV a = false → twV b = false → (chF n p a b).length + 1 ≤ cntV a + cntV b
  | 0, p, a, b, _, _, _, _ => by
    have := dep_cnt a; have := dep_cnt b
    simp [chF]; omega
  | n + 1, p, a, b, ha, hb, ta, tb => by
    have h1 := dep_cnt a
    have h2 := dep_cnt b
    by_cases hc : comp a b = true
    · rw [chF_comp hc]
      have hle := flat_le (chK n p a b) (cw a b) (keys2 a b) (fun key hk => by
        unfold chK cw
        cases hu : findK (kidsV a) key with
        | none =>
          cases hv : findK (kidsV b) key with
          | none =>
            rcases keys2_in hc hk with h | h
            · exact absurd h (findK_none.1 hu)
            · exact absurd h (findK_none.1 hv)
          | some v => have := dep_cnt v; simp [cntO]; omega
        | some u =>
          have hcu := dep_cnt u
          cases hv : findK (kidsV b) key with
          | none => simp [cntO]; omega
          | some v =>
            obtain ⟨o1, o2, _, _⟩ := kids_ok ha ta (findK_mem hu)
            obtain ⟨o3, o4, _, _⟩ := kids_ok hb tb (findK_mem hv)
            have := chF_len n (ptrN p key) u v o1 o3 o2 o4
            simp only [cntO]; omega)
      have e : ((keys2 a b).map (cw a b)).sum = ((keys2 a b).map fun k => cntO (findK (kidsV a) k)).sum + ((keys2 a b).map fun k => cntO (findK (kidsV b) k)).sum := sum_two _ _ _
      have s1 := sum_find (kidsV a) _ (keys2_nodup (a := a) (b := b) ta)
      have s2 := sum_find (kidsV b) _ (keys2_nodup (a := a) (b := b) ta)
      have k1 := kids_cnt a
      have k2 := kids_cnt b
      omega
    · rw [chF, if_neg hc]
      split
      · simp; omega
      · simp; omega
/-- As many keys from the front. -/
theorem chK_len {n : Nat} {p : List UInt8} {a b : JV} (ha : okV a) (hb : okV b) (ta : twV a = false) (tb : twV b = false) (hc : comp a b = true) (k : Nat) : (((keys2 a b).take k).flatMap (chK n p a b)).length ≤ cntV a + cntV b := by
  have h := chF_len (n + 1) p a b ha hb ta tb
  rw [chF_comp hc] at h
  have e : keys2 a b = (keys2 a b).take k ++ (keys2 a b).drop k := (List.take_append_drop _ _).symm
  have : ((keys2 a b).flatMap (chK n p a b)).length = (((keys2 a b).take k).flatMap (chK n p a b)).length + (((keys2 a b).drop k).flatMap (chK n p a b)).length := by
    conv => lhs; rw [e]
    rw [List.flatMap_append, List.length_append]
  omega
end Go.Proofs.YtcjajchfjoffnaaGreatDoor

namespace Go.Proofs.YtcjajchfjoffnaaGreatDoor
open Go.RowKit

/-- A token's index as the model gives it. -/
def idxZ (t : List UInt8) : Int := match idxT t with
  | some i => (i : Int)
  | none => -1
theorem tokD (s : ByteArray) (k : Nat) (h : k < s.size) : s.data.toList[k]'(by rw [data_len]; exact h) = s[k] := rfl
theorem dig_lt : ∀ (n : Nat) (t : List UInt8), t.length = n → digV t < 10 ^ n ∨ ¬ (∀ c ∈ t, isDg c.toNat = true) := by
  intro n
  induction n with
  | zero => intro t h; rw [List.eq_nil_of_length_eq_zero h]; exact .inl (by simp [digV])
  | succ n ih =>
    intro t h
    rcases List.eq_nil_or_concat t with e | ⟨a, c, e⟩
    · subst e; simp at h
    · rw [List.concat_eq_append] at e
      subst e
      by_cases hd : ∀ x ∈ a ++ [c], isDg x.toNat = true
      · left
        have hc := isDg_iff.1 (hd c (by simp))
        rcases ih a (by simpa using h) with h1 | h1
        · rw [digV_snoc, Nat.pow_succ]; omega
        · exact absurd (fun x hx => hd x (by simp [hx])) h1
      · exact .inr hd

end Go.Proofs.YtcjajchfjoffnaaGreatDoor

namespace Go.Proofs.YtcjajchfjoffnaaGreatDoor
open Go.RowKit

theorem arr_at {zs : List (List UInt8)} {m : Nat} (h : m < zs.length) : zs.toArray[m]! = zs[m] := by
  rw [getElem!_pos zs.toArray m (by simpa using h)]
  simp
theorem cut_facts {zs : List (List UInt8)} (h : zs.Pairwise (fun a b => a ≤ b)) : ∀ m, m ≤ zs.length → UpS (Lib.compactUpTo zs.toArray m) ∧ ∀ x, x ∈ Lib.compactUpTo zs.toArray m ↔ x ∈ zs.take m
  | 0, _ => by simp [Lib.compactUpTo, UpS]
  | m + 1, hm => by
    obtain ⟨h1, h2⟩ := cut_facts h m (by omega)
    rw [Lib.compactUpTo_succ, arr_at (by omega), List.take_succ_eq_append_getElem (by omega)]
    have hp := List.pairwise_iff_getElem.1 h
    cases hk : Lib.keeps zs.toArray m with
    | true =>
      rw [if_pos rfl]
      refine ⟨?_, fun x => by rw [List.mem_append, List.mem_append, h2]⟩
      unfold UpS at *
      rw [List.pairwise_append]
      refine ⟨h1, List.pairwise_singleton _ _, fun x hx y hy => ?_⟩
      rw [List.mem_singleton] at hy
      subst hy
      obtain ⟨j, hj, rfl⟩ := List.mem_iff_getElem.1 ((h2 x).1 hx)
      rw [List.length_take] at hj
      rw [List.getElem_take]
      rw [← List.not_le]
      intro hle
      have hm0 : m ≠ 0 := by omega
      unfold Lib.keeps at hk
      rw [decide_eq_true_eq, arr_at (by omega), arr_at (by omega)] at hk
      rcases hk with hk | hk
      · exact hm0 hk
      · refine hk (List.le_antisymm ?_ (hp (m - 1) m (by omega) (by omega) (by omega)))
        by_cases e : j = m - 1
        · subst e; exact hle
        · exact List.le_trans hle (hp j (m - 1) (by omega) (by omega) (by omega))
    | false =>
      rw [if_neg (by simp), List.append_nil]
      refine ⟨h1, fun x => ?_⟩
      unfold Lib.keeps at hk
      rw [decide_eq_false_iff_not, not_or] at hk
      obtain ⟨hm0, hk⟩ := hk
      rw [arr_at (by omega), arr_at (by omega), Classical.not_not] at hk
      rw [h2, List.mem_append, List.mem_singleton]
      refine ⟨.inl, fun hx => ?_⟩
      rcases hx with hx | hx
      · exact hx
      · rw [hx, hk]
        exact List.mem_iff_getElem.2 ⟨m - 1, by rw [List.length_take]; omega, by rw [List.getElem_take]⟩
theorem sort_once (l : List (List UInt8)) : Lib.compact (l.mergeSort (fun x y => decide (x ≤ y))) = onceL l := by
  have tr : ∀ a b c : List UInt8, decide (a ≤ b) = true → decide (b ≤ c) = true → decide (a ≤ c) = true := fun a b c h1 h2 => by simp only [decide_eq_true_eq] at *; exact List.le_trans h1 h2
  have to : ∀ a b : List UInt8, (decide (a ≤ b) || decide (b ≤ a)) = true := fun a b => by simp only [Bool.or_eq_true, decide_eq_true_eq]; exact List.le_total a b
  have hs : (l.mergeSort (fun x y => decide (x ≤ y))).Pairwise (fun a b => a ≤ b) := (List.pairwise_mergeSort tr to l).imp fun h => by simpa using h
  obtain ⟨h1, h2⟩ := cut_facts hs _ (Nat.le_refl _)
  refine up_ext h1 (onceL_up l) fun z => ?_
  show z ∈ Lib.compactUpTo _ _ ↔ _
  rw [h2, List.take_length, mem_onceL]
  exact (List.mergeSort_perm l _).mem_iff
theorem compact_len (zs : List (List UInt8)) : (Lib.compact zs).length ≤ zs.length := by
  unfold Lib.compact Lib.compactUpTo
  rw [List.length_map]
  exact Nat.le_trans (List.length_filter_le _ _) (by simp)
end Go.Proofs.YtcjajchfjoffnaaGreatDoor
