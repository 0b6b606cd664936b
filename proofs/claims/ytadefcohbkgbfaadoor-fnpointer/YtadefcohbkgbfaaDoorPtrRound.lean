import Derived.Test.YtadefcohbkgbfaaDoorWithinPlain
namespace Go.Proofs.YtadefcohbkgbfaaDoor

theorem unesc_esc : ∀ t : List UInt8, unesc (esc t) = some t
  | [] => rfl
  | c :: t => by
    have ih := unesc_esc t
    have e : esc (c :: t) = escB c ++ esc t := by simp [esc]
    rw [e]
    by_cases h1 : (c.toNat : Int) = 126
    · rw [escB_126 h1]
      show unesc (126 :: 48 :: esc t) = _
      rw [unesc_0 _ (by decide) (by decide), ih]
      have : c = 126 := by have := UInt8.ofNat_toNat (x := c); rw [show c.toNat = 126 from by omega] at this; exact this.symm
      subst this; rfl
    · by_cases h2 : (c.toNat : Int) = 47
      · rw [escB_47 h2]
        show unesc (126 :: 49 :: esc t) = _
        rw [unesc_1 _ (by decide) (by decide), ih]
        have : c = 47 := by have := UInt8.ofNat_toNat (x := c); rw [show c.toNat = 47 from by omega] at this; exact this.symm
        subst this; rfl
      · rw [escB_other h1 h2]
        show unesc (c :: esc t) = _
        rw [unesc_lit _ h1, ih]; rfl
theorem esc_noR (t : List UInt8) : ∀ c ∈ esc t, ¬ c.toNat = 47 := by
  intro c hc
  unfold esc at hc
  obtain ⟨a, _, ha⟩ := List.mem_flatMap.1 hc
  unfold escB at ha
  split at ha
  · simp at ha; rcases ha with rfl | rfl <;> decide
  · split at ha
    · simp at ha; rcases ha with rfl | rfl <;> decide
    · simp at ha; subst ha; assumption
theorem ptrText_cons (s : ByteArray) (ss : List ByteArray) : ptrText (s :: ss) = 47 :: (esc s.data.toList ++ ptrText ss) := by simp [ptrText]
theorem pieces_text : ∀ (ss : List ByteArray) (t : List UInt8), pieces (esc t ++ ptrText ss) = esc t :: ss.map (fun s => esc s.data.toList)
  | [], t => by show pieces (esc t ++ []) = _; rw [List.append_nil, pieces_one (esc_noR t)]; rfl
  | s :: ss, t => by rw [ptrText_cons, pieces_app (esc_noR t) (by decide), pieces_text ss]; rfl
theorem mapM_esc : ∀ ts : List (List UInt8), (ts.map esc).mapM unesc = some ts
  | [] => rfl
  | t :: ts => by rw [List.map_cons, List.mapM_cons, unesc_esc, mapM_esc ts]; rfl
theorem ptoks_text (ts : List (List UInt8)) : ptoks (ptrText (ts.map baT)) = some ts := by
  cases ts with
  | nil => rfl
  | cons t ts =>
    rw [List.map_cons, ptrText_cons, ptoks, if_pos (by decide)]
    show toks (esc t ++ ptrText (ts.map baT)) = _
    unfold toks
    rw [pieces_text, List.map_map]
    have : (esc t :: List.map ((fun s => esc s.data.toList) ∘ baT) ts) = (t :: ts).map esc := by simp [baT]
    rw [this, mapM_esc]
theorem pre_self (ts us : List (List UInt8)) : pre ts (ts ++ us) = true := by
  unfold pre; rw [decide_eq_true_iff]
  exact ⟨by simp, fun j hj => by simp [List.getD, List.getElem?_append_left hj]⟩
theorem wS_eq (ts : List (List UInt8)) : wSpec (some ts) (some (ts ++ [])) = 1 := by
  have a := pre_self ts []
  rw [List.append_nil] at *
  simp [wSpec, a]
theorem wS_eq' (ts : List (List UInt8)) : wSpec (some (ts ++ [])) (some ts) = 1 := by
  have a := pre_self ts []
  rw [List.append_nil] at *
  simp [wSpec, a]
theorem pre_long (ts : List (List UInt8)) {us : List (List UInt8)} (h : 0 < us.length) : pre (ts ++ us) ts = false := pre_false (by simp; omega)
theorem wS_lt (ts : List (List UInt8)) {us : List (List UInt8)} (h : 0 < us.length) : wSpec (some ts) (some (ts ++ us)) = 2 := by
  simp [wSpec, pre_self ts us, pre_long ts h]
theorem wS_gt (ts : List (List UInt8)) {us : List (List UInt8)} (h : 0 < us.length) : wSpec (some (ts ++ us)) (some ts) = 3 := by
  simp [wSpec, pre_self ts us, pre_long ts h]
theorem tot_small (ts : List (List UInt8)) (h : ∀ t ∈ ts, t.length ≤ 3) : tot (ts.map baT) ≤ 3 * ts.length := by
  induction ts with
  | nil => simp [tot]
  | cons t ts ih =>
    have h1 := h t List.mem_cons_self
    have h2 := ih (fun q hq => h q (List.mem_cons_of_mem _ hq))
    have e : (baT t).size = t.length := by show t.toArray.size = _; simp
    simp only [tot, List.map_cons, List.sum_cons, List.length_cons] at *
    omega
end Go.Proofs.YtadefcohbkgbfaaDoor
