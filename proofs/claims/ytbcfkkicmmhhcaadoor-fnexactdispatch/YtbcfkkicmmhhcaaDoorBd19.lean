import Derived.Laws.AppendOwnNone
import Derived.Test.YtbcfkkicmmhhcaaDoorBd18
namespace Go.Proofs.YtbcfkkicmmhhcaaDoor
open Go.RowKit

/-- The element types of the blocks. -/
def Tys (ts : List TypeId) (w : World) (bl : List Nat) : Prop := ∀ b ∈ bl, ∃ cur t, w.heap[b]? = some (.cells cur t (0, 0)) ∧ t ∈ ts
theorem own_ty {w : World} {B e size n : Nat} {v : Value} {xs : List Value} (h : w.ownsRow B e size v n xs) : Tys [e] w v.ownBlock.toList := by
  intro b hb
  rcases h.2 with ⟨hv, _⟩ | ⟨g, cap, cur, hv, _, hg, _⟩
  · rw [hv] at hb; simp [Value.ownBlock] at hb
  · rw [hv] at hb; simp [Value.ownBlock] at hb
    subst hb; exact ⟨cur, e, hg, by simp⟩
theorem Tys.mono {ts ts' : List TypeId} {w : World} {bl : List Nat} (h : Tys ts w bl) (hs : ∀ t ∈ ts, t ∈ ts') : Tys ts' w bl := fun b hb => by
  obtain ⟨cur, t, h1, h2⟩ := h b hb; exact ⟨cur, t, h1, hs t h2⟩
theorem Tys.app {ts : List TypeId} {w : World} {bl cl : List Nat} (h : Tys ts w bl) (k : Tys ts w cl) : Tys ts w (bl ++ cl) := fun b hb => by
  rcases List.mem_append.1 hb with hb | hb
  · exact h b hb
  · exact k b hb
theorem Tys.keep {ts : List TypeId} {w w' : World} {bl : List Nat} (h : Tys ts w bl) (hk : Kp bl w w') : Tys ts w' bl := fun b hb => by
  obtain ⟨cur, t, h1, h2⟩ := h b hb; exact ⟨cur, t, (hk b hb).trans h1, h2⟩
theorem orow_ty {α : Type} {e : Elem α} {ts : List TypeId} (he : ∀ {w vs x bl}, e.E w vs x bl → Tys ts w bl) {w : World} {v : Value} {xs : List α} {bl : List Nat} (h : ORow e w v xs bl) : Tys (e.T :: ts) w bl := by
  obtain ⟨ps, hl, hE, ho, rfl⟩ := h
  refine ((own_ty ho).mono (by simp)).app fun b hb => ?_
  obtain ⟨p, hp, hb⟩ := List.mem_flatMap.1 hb
  obtain ⟨j, hj, rfl⟩ := List.mem_iff_getElem.1 hp
  obtain ⟨cur, t, h1, h2⟩ := he (hE j ps[j] (xs[j]'(by omega)) (List.getElem?_eq_getElem hj) (List.getElem?_eq_getElem (by omega))) b hb
  exact ⟨cur, t, h1, List.mem_cons_of_mem _ h2⟩
theorem str_ty {w : World} {vs : List Value} {s : ByteArray} {bl : List Nat} (h : strE.E w vs s bl) : Tys [] w bl := by
  obtain ⟨_, rfl⟩ := h; intro b hb; simp at hb
theorem ostr_ty {w : World} {v : Value} {ss : List ByteArray} {bl : List Nat} (h : OStr w v ss bl) : Tys [9] w bl := orow_ty (e := strE) str_ty h
theorem msg_ty {w : World} {vs : List Value} {m : Msg} {bl : List Nat} (h : msgE.E w vs m bl) : Tys [9] w bl := by obtain ⟨q, _, h⟩ := h; exact ostr_ty h
theorem nws_ty {w : World} {vs : List Value} {m : Nws} {bl : List Nat} (h : nwsE.E w vs m bl) : Tys [9] w bl := by obtain ⟨q, _, h⟩ := h; exact ostr_ty h
theorem wat_ty {w : World} {vs : List Value} {m : Wat} {bl : List Nat} (h : watE.E w vs m bl) : Tys [115, 9] w bl := by obtain ⟨q, _, h⟩ := h; exact orow_ty (e := msgE) msg_ty h
theorem own_base {w : World} {B e size n : Nat} {v : Value} {xs : List Value} (h : w.ownsRow 0 e size v n xs) (hB : ∀ g, v.ownBlock = some g → B ≤ g) : w.ownsRow B e size v n xs := by
  refine ⟨h.1, ?_⟩
  rcases h.2 with h0 | ⟨g, cap, cur, hv, _, r⟩
  · exact .inl h0
  · exact .inr ⟨g, cap, cur, hv, hB g (by rw [hv]; rfl), r⟩
/-- One more element at the end of a row that the call owns: what is asked of the append, and what comes of it. -/
theorem ORow.app {α : Type} {e : Elem α} {ts : List TypeId} (he : ∀ {w vs x bl}, e.E w vs x bl → Tys ts w bl) (hts : e.T ∉ ts) {B : Nat} {w : World} {v : Value} {xs : List α} {bl : List Nat} (h : ORow e w v xs bl) (hF : Fsh B bl)
    {vs : List Value} {x : α} {ib : List Nat} (hE : e.E w vs x ib) (hFi : Fsh B ib) (hap : ∀ b ∈ ib, b ∉ bl) :
    ∃ cs, w.ownsRow B e.T e.wd v xs.length cs ∧ ∀ v' w', w'.ownsRow B e.T e.wd v' (xs.length + 1) (cs ++ vs) → w.grownBy w' v.ownBlock → ∃ bl', ORow e w' v' (xs ++ [x]) bl' ∧ Fsh B bl' ∧ ∀ b ∈ bl', b ∈ bl ∨ b ∈ ib ∨ v'.ownBlock = some b := by
  have hlt := h.lt
  have hlti := e.lt hE
  obtain ⟨ps, hl, hE0, ho, rfl⟩ := h
  refine ⟨ps.flatMap (·.1), own_base ho fun g hg => hF.2 g (by simp [hg]), fun v' w' ho' hg => ?_⟩
  have hd := hF.1
  rw [List.nodup_append] at hd
  have hk : Kp (ps.flatMap (·.2)) w w' := fun b hb => hg.block b (hlt b (List.mem_append.2 (.inr hb))) fun e1 => hd.2.2 b (by simp [← e1]) b hb rfl
  have hki : Kp ib w w' := fun b hb => hg.block b (hlti b hb) fun e1 => hap b hb (List.mem_append.2 (.inl (by simp [← e1])))
  have hE' := e.keep hE hki
  have hT : Tys ts w' (ps.flatMap (·.2) ++ ib) := by
    refine Tys.app (Tys.keep (fun b hb => ?_) hk) (he hE')
    obtain ⟨p, hp, hb⟩ := List.mem_flatMap.1 hb
    obtain ⟨j, hj, rfl⟩ := List.mem_iff_getElem.1 hp
    exact he (hE0 j ps[j] (xs[j]'(by omega)) (List.getElem?_eq_getElem hj) (List.getElem?_eq_getElem (by omega))) b hb
  refine ⟨v'.ownBlock.toList ++ (ps.flatMap (·.2) ++ ib), ⟨ps ++ [(vs, ib)], by simp [hl], ?_, ?_, by simp⟩, ⟨?_, ?_⟩, ?_⟩
  · intro j p y hp hy
    by_cases hj : j < xs.length
    · rw [List.getElem?_append_left (by omega)] at hp hy
      exact e.keep (hE0 j p y hp hy) fun b hb => hk b (List.mem_flatMap.2 ⟨p, List.mem_of_getElem? hp, hb⟩)
    · have hy' := (List.getElem?_eq_some_iff.1 hy).1
      rw [List.length_append, List.length_singleton] at hy'
      have : j = xs.length := by omega
      subst this
      rw [← hl] at hp
      simp at hp hy
      subst hp; subst hy; exact hE'
  · rw [List.flatMap_append, List.length_append]
    have := own_mono ho' (Nat.zero_le B)
    simpa using this
  · rw [List.nodup_append]
    refine ⟨by cases v'.ownBlock <;> simp, ?_, ?_⟩
    · rw [List.nodup_append]
      exact ⟨hd.2.1, hFi.1, fun a ha b hb e1 => hap b hb (List.mem_append.2 (.inr (e1 ▸ ha)))⟩
    · intro a ha b hb e1
      subst e1
      obtain ⟨cur, t, h1, h2⟩ := own_ty ho' a ha
      obtain ⟨cur', t', h1', h2'⟩ := hT a hb
      rw [h1] at h1'
      simp at h1' h2
      exact hts (h2 ▸ h1'.2 ▸ h2')
  · intro b hb
    rcases List.mem_append.1 hb with hb | hb
    · exact (ho'.lt b (by simpa using hb)).1
    · rcases List.mem_append.1 hb with hb | hb
      · exact hF.2 b (List.mem_append.2 (.inr hb))
      · exact hFi.2 b hb
  · intro b hb
    rcases List.mem_append.1 hb with hb | hb
    · exact .inr (.inr (by simpa using hb))
    · rcases List.mem_append.1 hb with hb | hb
      · exact .inl (List.mem_append.2 (.inr hb))
      · exact .inr (.inl hb)
theorem OStr.cells {w : World} {v : Value} {ss : List ByteArray} {bl : List Nat} (h : OStr w v ss bl) : (v = .slice none 0 0 ∧ ss = []) ∨ ∃ g cap, v = .slice (some ⟨g, 0, none⟩) ss.length cap ∧ ∀ (j : Nat) (u : Value), (ss.map Value.string)[j]? = some u → w.cell? ((⟨g, 0, none⟩ : Addr).add j) = some u := by
  obtain ⟨ho, _⟩ := ostr_iff.1 h
  rcases ho.2 with ⟨hv, h0⟩ | ⟨g, cap, cur, hv, _⟩
  · exact .inl ⟨hv, List.eq_nil_of_length_eq_zero h0⟩
  · exact .inr ⟨g, cap, hv, fun j u hu => ho.cells (by rw [hv]; rfl) j u hu⟩
theorem ORow.head {α : Type} {e : Elem α} {w : World} {v : Value} {xs : List α} {bl : List Nat} (h : ORow e w v xs bl) {g : Nat} (hg : v.ownBlock = some g) : g ∈ bl := by
  obtain ⟨cb, h⟩ := h.split
  rw [h, hg]; simp
theorem str_one (ss : List ByteArray) : ∀ u ∈ ss.map Value.string, u.oneCell' = true := by
  intro u hu; obtain ⟨s, _, rfl⟩ := List.mem_map.1 hu; rfl

theorem wpList_append_str {w : World} {ops : Array Oper} {rest : List Oper} {o : Oper} {a : Act} {Q : Exit → Act → World → Prop} (hg : o.guard = none) (s x : Operand)
    (ho : o.op = .call { callee := .builtin .append, args := #[s, x], argTypes := #[49, 49] }) {B : Nat} {v u : Value} {ss us : List ByteArray} {bk : List Nat} (hs : a.eval s = v) (hx : a.eval x = u)
    (h : w.ownsRow B 9 1 v ss.length (ss.map .string)) (k : OStr w u us bk) (hB : B ≤ w.heap.size) (hl : ss.length + us.length ≤ 4000000)
    (hK : ∀ v' w', w'.ownsRow B 9 1 v' (ss ++ us).length ((ss ++ us).map .string) → w.grownBy w' v.ownBlock → wpList Tryd.prog ops Q rest (a.put o.dst v') w') : wpList Tryd.prog ops Q (o :: rest) a w := by
  obtain ⟨i0, hi, hz0, hz1, hz2⟩ := info_parts infoStr
  rcases k.cells with ⟨rfl, rfl⟩ | ⟨g, cap, rfl, hcell⟩
  · refine wpList_append_own_none hg s x 49 ho B 9 i0 1 Tryd.underlying49 hi v _ _ hs h hx ?_
    exact hK v w (by rw [List.append_nil]; exact h) (World.grownBy.refl _ _)
  · refine wpList_append_own _ hg s x 49 ho B 9 i0 (.string ByteArray.empty) 1 16 Tryd.underlying49 hi hz0 hz1 hz2 rfl (by decide) v _ _ hs h ⟨g, 0, none⟩ us.length cap (us.map .string) hx (by simp) hcell (str_one us) (by unfold maxLen; omega) (by omega) hB ?_
    intro v' w' h1 h2 _
    refine hK v' w' ?_ h2
    rw [List.length_append, List.map_append]; exact h1
theorem wpList_append_elem {α : Type} {e : Elem α} {ts : List TypeId} (he : ∀ {w vs x bl}, e.E w vs x bl → Tys ts w bl) (hts : e.T ∉ ts) {t : TypeId} (ht : Tryd.prog.underlying t = some (.slice e.T)) {z : Value} {bytes : Nat}
    (hinfo : (Tryd.prog.info? e.T).map (fun i => (i.zero, i.size, i.bytes)) = some (some z, e.wd, bytes)) (hzs : z.cells.size = e.wd) (hsz : 0 < e.wd) (hby : bytes ≤ 100)
    {w : World} {ops : Array Oper} {rest : List Oper} {o : Oper} {a : Act} {Q : Exit → Act → World → Prop} (hg : o.guard = none) (s x : Operand)
    (ho : o.op = .call { callee := .builtin .append, args := #[s, x], argTypes := #[t, t] }) {B : Nat} {v : Value} {xs : List α} {bl : List Nat} (hs : a.eval s = v)
    (h : ORow e w v xs bl) (hF : Fsh B bl) {vs : List Value} {y : α} {ib : List Nat} (hE : e.E w vs y ib) (hFi : Fsh B ib) (hap : ∀ b ∈ ib, b ∉ bl) {g : Nat} (hx : a.eval x = .slice (some ⟨g, 0, none⟩) 1 1)
    (hcell : ∀ (j : Nat) (u : Value), vs[j]? = some u → w.cell? ((⟨g, 0, none⟩ : Addr).add j) = some u) (h1 : ∀ u ∈ vs, u.oneCell' = true) (hB : B ≤ w.heap.size) (hl : xs.length ≤ 40000000)
    (hK : ∀ v' w' bl', ORow e w' v' (xs ++ [y]) bl' → Fsh B bl' → (∀ b ∈ bl', b ∈ bl ∨ b ∈ ib ∨ v'.ownBlock = some b) → w.grownBy w' v.ownBlock → wpList Tryd.prog ops Q rest (a.put o.dst v') w') : wpList Tryd.prog ops Q (o :: rest) a w := by
  obtain ⟨i0, hi, hz0, hz1, hz2⟩ := info_parts hinfo
  obtain ⟨cs, hown, hfin⟩ := h.app he hts hF hE hFi hap
  refine wpList_append_own _ hg s x t ho B e.T i0 z e.wd bytes ht hi hz0 hz1 hz2 hzs hsz v _ cs hs hown ⟨g, 0, none⟩ 1 1 vs hx (by rw [e.len hE]; omega) hcell h1 (by unfold maxLen; omega) ?_ hB ?_
  · have : (xs.length + 1) * bytes ≤ (xs.length + 1) * 100 := Nat.mul_le_mul_left _ hby
    omega
  · intro v' w' h1 h2 _
    obtain ⟨bl', h3, h4, h5⟩ := hfin v' w' h1 h2
    exact hK v' w' bl' h3 h4 h5 h2
theorem step_append_elem {α : Type} {e : Elem α} {ts : List TypeId} (he : ∀ {w vs x bl}, e.E w vs x bl → Tys ts w bl) (hts : e.T ∉ ts) {t : TypeId} (ht : Tryd.prog.underlying t = some (.slice e.T)) {z : Value} {bytes : Nat}
    (hinfo : (Tryd.prog.info? e.T).map (fun i => (i.zero, i.size, i.bytes)) = some (some z, e.wd, bytes)) (hzs : z.cells.size = e.wd) (hsz : 0 < e.wd) (hby : bytes ≤ 100)
    {w : World} {ops : Array Oper} {o : Oper} {a : Act} {K : Act → World → Prop} {Q : Exit → Act → World → Prop} {F : Prop} (hg : o.guard = none) (s x : Operand)
    (ho : o.op = .call { callee := .builtin .append, args := #[s, x], argTypes := #[t, t] }) {B : Nat} {v : Value} {xs : List α} {bl : List Nat} (hs : a.eval s = v)
    (h : ORow e w v xs bl) (hF : Fsh B bl) {vs : List Value} {y : α} {ib : List Nat} (hE : e.E w vs y ib) (hFi : Fsh B ib) (hap : ∀ b ∈ ib, b ∉ bl) {g : Nat} (hx : a.eval x = .slice (some ⟨g, 0, none⟩) 1 1)
    (hcell : ∀ (j : Nat) (u : Value), vs[j]? = some u → w.cell? ((⟨g, 0, none⟩ : Addr).add j) = some u) (h1 : ∀ u ∈ vs, u.oneCell' = true) (hB : B ≤ w.heap.size) (hl : xs.length ≤ 40000000)
    (hK : ∀ v' w' bl', ORow e w' v' (xs ++ [y]) bl' → Fsh B bl' → (∀ b ∈ bl', b ∈ bl ∨ b ∈ ib ∨ v'.ownBlock = some b) → w.grownBy w' v.ownBlock → K (a.put o.dst v') w') :
    if Region.wanted o (yielded ops a.tmps) = true then Oper.wp Tryd.prog o a w K Q else F := by
  have hw : Region.wanted o (yielded ops a.tmps) = true := by simp [Region.wanted, hg]
  rw [if_pos hw]
  obtain ⟨i0, hi, hz0, hz1, hz2⟩ := info_parts hinfo
  obtain ⟨cs, hown, hfin⟩ := h.app he hts hF hE hFi hap
  refine wp_append_own w s x t ho B e.T i0 z e.wd bytes ht hi hz0 hz1 hz2 hzs hsz v _ cs hs hown ⟨g, 0, none⟩ 1 1 vs hx (by rw [e.len hE]; omega) hcell h1 (by unfold maxLen; omega) ?_ hB ?_
  · have : (xs.length + 1) * bytes ≤ (xs.length + 1) * 100 := Nat.mul_le_mul_left _ hby
    omega
  · intro v' w' h1 h2 _
    obtain ⟨bl', h3, h4, h5⟩ := hfin v' w' h1 h2
    exact hK v' w' bl' h3 h4 h5 h2
theorem lit_cells (w : World) (vs : List Value) (T : TypeId) : ∀ (j : Nat) (u : Value), vs[j]? = some u → (w.alloc (.cells vs.toArray T)).cell? ((⟨w.heap.size, 0, none⟩ : Addr).add j) = some u := by
  intro j u hu
  have h := Lib.cell_of_heap (heap_alloc_new w (.cells vs.toArray T)) j
  rw [Go.WideShapes.add_plain, Nat.zero_add, h]
  simpa using hu
theorem ostr_own {w : World} {v : Value} {ss : List ByteArray} {B : Nat} (h : w.ownsRow B 9 1 v ss.length (ss.map .string)) : OStr w v ss v.ownBlock.toList ∧ Fsh B v.ownBlock.toList :=
  ⟨ostr_iff.2 ⟨own_mono h (Nat.zero_le _), rfl⟩, by cases v.ownBlock <;> simp, fun b hb => (h.lt b (by simpa using hb)).1⟩
theorem empty_row (w : World) (e size : Nat) : (w.alloc (.cells #[] e)).ownsRow w.heap.size e size (.slice (some ⟨w.heap.size, 0, none⟩) 0 0) 0 [] := by
  exact w.ownsRow_made #[] 0 (Nat.le_refl _) (Nat.zero_le _) (by simp)
set_option maxHeartbeats 400000 in
theorem l5Texts_walk (v : Value) (ss : List ByteArray) (bl : List Nat) (w : World) (h : OStr w v ss bl) (hm : ss.length ≤ 1048577) :
    Calls Tryd.prog 62 #[v] w fun e w' => ∃ v' bl', e = .returned v' ∧ OStr w' v' ss bl' ∧ Fsh w.heap.size bl' ∧ Below w.heap.size w w' := by
  have H := hide h
  clear h
  have he := empty_row w 9 1
  go_enter Tryd.func62, Tryd.ntmps62
  go_wp2_with (at_builtin; refine wpList_append_str rfl (.tmp 5) (.tmp 6) rfl (ss := []) rfl rfl he ((unhide H).below (alloc_b w _)) (by simp) (by simp; omega) ?_)
  intro v' w' ho hg
  have HB := hide (((alloc_b w (.cells #[] 9)).grown hg (by simp) (fun k hk => by injection hk with hk; simp at hk; omega)))
  have HO := hide ho
  clear ho hg he
  go_wp2
  go_ret
  exact ⟨_, _, rfl, (ostr_own (unhide HO)).1, (ostr_own (unhide HO)).2, unhide HB⟩
end Go.Proofs.YtbcfkkicmmhhcaaDoor
