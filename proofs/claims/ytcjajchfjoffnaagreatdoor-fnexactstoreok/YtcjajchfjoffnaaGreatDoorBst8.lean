import Derived.Laws.AppendOwnNone
import Derived.Test.YtcjajchfjoffnaaGreatDoorBst7
import Derived.Deep.RegionHeld
import Derived.Test.YtcjajchfjoffnaaGreatDoorBst3
namespace Go.Proofs.YtcjajchfjoffnaaGreatDoor
open Go.RowKit

/-- The element types of the blocks. -/
def Tys (ts : List TypeId) (w : World) (bl : List Nat) : Prop := ∀ b ∈ bl, ∃ cur t, w.heap[b]? = some (.cells cur t (0, 0)) ∧ t ∈ ts
theorem own_ty {w : World} {B e size n : Nat} {v : Value} {xs : List Value} (h : w.ownsRow B e size v n xs) : Tys [e] w v.ownBlock.toList := by
  intro b hb
  rcases h.2 with ⟨hv, _⟩ | ⟨g, cap, cur, hv, _, hg, _⟩
  · rw [hv] at hb; simp [Value.ownBlock] at hb
  · rw [hv] at hb; simp [Value.ownBlock] at hb
    subst hb; exact ⟨cur, e, hg, by simp⟩
theorem Tys.mono {ts ts' : List TypeId} {w : World} {bl : List Nat} (h : Tys ts w bl) (hs : ∀ t ∈ ts, t ∈ ts') : Tys ts' w bl := fun b hb => by
  obtain ⟨cur, t, h1, h2⟩ := h b hb; exact ⟨cur, t, h1, hs t h2⟩
theorem Tys.app {ts : List TypeId} {w : World} {bl cl : List Nat} (h : Tys ts w bl) (k : Tys ts w cl) : Tys ts w (bl ++ cl) := fun b hb => by
  rcases List.mem_append.1 hb with hb | hb
  · exact h b hb
  · exact k b hb
theorem Tys.keep {ts : List TypeId} {w w' : World} {bl : List Nat} (h : Tys ts w bl) (hk : Kp bl w w') : Tys ts w' bl := fun b hb => by
  obtain ⟨cur, t, h1, h2⟩ := h b hb; exact ⟨cur, t, (hk b hb).trans h1, h2⟩
theorem orow_ty {α : Type} {e : Elem α} {ts : List TypeId} (he : ∀ {w vs x bl}, e.E w vs x bl → Tys ts w bl) {w : World} {v : Value} {xs : List α} {bl : List Nat} (h : ORow e w v xs bl) : Tys (e.T :: ts) w bl := by
  obtain ⟨ps, hl, hE, ho, rfl⟩ := h
  refine ((own_ty ho).mono (by simp)).app fun b hb => ?_
  obtain ⟨p, hp, hb⟩ := List.mem_flatMap.1 hb
  obtain ⟨j, hj, rfl⟩ := List.mem_iff_getElem.1 hp
  obtain ⟨cur, t, h1, h2⟩ := he (hE j ps[j] (xs[j]'(by omega)) (List.getElem?_eq_getElem hj) (List.getElem?_eq_getElem (by omega))) b hb
  exact ⟨cur, t, h1, List.mem_cons_of_mem _ h2⟩
theorem str_ty {w : World} {vs : List Value} {s : ByteArray} {bl : List Nat} (h : strE.E w vs s bl) : Tys [] w bl := by
  obtain ⟨_, rfl⟩ := h; intro b hb; simp at hb
theorem ostr_ty {w : World} {v : Value} {ss : List ByteArray} {bl : List Nat} (h : OStr w v ss bl) : Tys [9] w bl := orow_ty (e := strE) str_ty h
theorem own_base {w : World} {B e size n : Nat} {v : Value} {xs : List Value} (h : w.ownsRow 0 e size v n xs) (hB : ∀ g, v.ownBlock = some g → B ≤ g) : w.ownsRow B e size v n xs := by
  refine ⟨h.1, ?_⟩
  rcases h.2 with h0 | ⟨g, cap, cur, hv, _, r⟩
  · exact .inl h0
  · exact .inr ⟨g, cap, cur, hv, hB g (by rw [hv]; rfl), r⟩
/-- One more element at the end of a row that the call owns: what is asked of the append, and what comes of it. -/
theorem ORow.app {α : Type} {e : Elem α} {ts : List TypeId} (he : ∀ {w vs x bl}, e.E w vs x bl → Tys ts w bl) (hts : e.T ∉ ts) {B : Nat} {w : World} {v : Value} {xs : List α} {bl : List Nat} (h : ORow e w v xs bl) (hF : Fsh B bl)
    {vs : List Value} {x : α} {ib : List Nat} (hE : e.E w vs x ib) (hFi : Fsh B ib) (hap : ∀ b ∈ ib, b ∉ bl) :
    ∃ cs, w.ownsRow B e.T e.wd v xs.length cs ∧ ∀ v' w', w'.ownsRow B e.T e.wd v' (xs.length + 1) (cs ++ vs) → w.grownBy w' v.ownBlock → ∃ bl', ORow e w' v' (xs ++ [x]) bl' ∧ Fsh B bl' ∧ ∀ b ∈ bl', b ∈ bl ∨ b ∈ ib ∨ v'.ownBlock = some b := by
  have hlt := h.lt
  have hlti := e.lt hE
  obtain ⟨ps, hl, hE0, ho, rfl⟩ := h
  refine ⟨ps.flatMap (·.1), own_base ho fun g hg => hF.2 g (by simp [hg]), fun v' w' ho' hg => ?_⟩
  have hd := hF.1
  rw [List.nodup_append] at hd
  have hk : Kp (ps.flatMap (·.2)) w w' := fun b hb => hg.block b (hlt b (List.mem_append.2 (.inr hb))) fun e1 => hd.2.2 b (by simp [← e1]) b hb rfl
  have hki : Kp ib w w' := fun b hb => hg.block b (hlti b hb) fun e1 => hap b hb (List.mem_append.2 (.inl (by simp [← e1])))
  have hE' := e.keep hE hki
  have hT : Tys ts w' (ps.flatMap (·.2) ++ ib) := by
    refine Tys.app (Tys.keep (fun b hb => ?_) hk) (he hE')
    obtain ⟨p, hp, hb⟩ := List.mem_flatMap.1 hb
    obtain ⟨j, hj, rfl⟩ := List.mem_iff_getElem.1 hp
    exact he (hE0 j ps[j] (xs[j]'(by omega)) (List.getElem?_eq_getElem hj) (List.getElem?_eq_getElem (by omega))) b hb
  refine ⟨v'.ownBlock.toList ++ (ps.flatMap (·.2) ++ ib), ⟨ps ++ [(vs, ib)], by simp [hl], ?_, ?_, by simp⟩, ⟨?_, ?_⟩, ?_⟩
  · intro j p y hp hy
    by_cases hj : j < xs.length
    · rw [List.getElem?_append_left (by omega)] at hp hy
      exact e.keep (hE0 j p y hp hy) fun b hb => hk b (List.mem_flatMap.2 ⟨p, List.mem_of_getElem? hp, hb⟩)
    · have hy' := (List.getElem?_eq_some_iff.1 hy).1
      rw [List.length_append, List.length_singleton] at hy'
      have : j = xs.length := by omega
      subst this
      rw [← hl] at hp
      simp at hp hy
      subst hp; subst hy; exact hE'
  · rw [List.flatMap_append, List.length_append]
    have := own_mono ho' (Nat.zero_le B)
    simpa using this
  · rw [List.nodup_append]
    refine ⟨by cases v'.ownBlock <;> simp, ?_, ?_⟩
    · rw [List.nodup_append]
      exact ⟨hd.2.1, hFi.1, fun a ha b hb e1 => hap b hb (List.mem_append.2 (.inr (e1 ▸ ha)))⟩
    · intro a ha b hb e1
      subst e1
      obtain ⟨cur, t, h1, h2⟩ := own_ty ho' a ha
      obtain ⟨cur', t', h1', h2'⟩ := hT a hb
      rw [h1] at h1'
      simp at h1' h2
      exact hts (h2 ▸ h1'.2 ▸ h2')
  · intro b hb
    rcases List.mem_append.1 hb with hb | hb
    · exact (ho'.lt b (by simpa using hb)).1
    · rcases List.mem_append.1 hb with hb | hb
      · exact hF.2 b (List.mem_append.2 (.inr hb))
      · exact hFi.2 b hb
  · intro b hb
    rcases List.mem_append.1 hb with hb | hb
    · exact .inr (.inr (by simpa using hb))
    · rcases List.mem_append.1 hb with hb | hb
      · exact .inl (List.mem_append.2 (.inr hb))
      · exact .inr (.inl hb)
theorem OStr.cells {w : World} {v : Value} {ss : List ByteArray} {bl : List Nat} (h : OStr w v ss bl) : (v = .slice none 0 0 ∧ ss = []) ∨ ∃ g cap, v = .slice (some ⟨g, 0, none⟩) ss.length cap ∧ ∀ (j : Nat) (u : Value), (ss.map Value.string)[j]? = some u → w.cell? ((⟨g, 0, none⟩ : Addr).add j) = some u := by
  obtain ⟨ho, _⟩ := ostr_iff.1 h
  rcases ho.2 with ⟨hv, h0⟩ | ⟨g, cap, cur, hv, _⟩
  · exact .inl ⟨hv, List.eq_nil_of_length_eq_zero h0⟩
  · exact .inr ⟨g, cap, hv, fun j u hu => ho.cells (by rw [hv]; rfl) j u hu⟩
theorem ORow.head {α : Type} {e : Elem α} {w : World} {v : Value} {xs : List α} {bl : List Nat} (h : ORow e w v xs bl) {g : Nat} (hg : v.ownBlock = some g) : g ∈ bl := by
  obtain ⟨cb, h⟩ := h.split
  rw [h, hg]; simp
theorem str_one (ss : List ByteArray) : ∀ u ∈ ss.map Value.string, u.oneCell' = true := by
  intro u hu; obtain ⟨s, _, rfl⟩ := List.mem_map.1 hu; rfl

theorem wpList_append_str {w : World} {ops : Array Oper} {rest : List Oper} {o : Oper} {a : Act} {Q : Exit → Act → World → Prop} (hg : o.guard = none) (s x : Operand)
    (ho : o.op = .call { callee := .builtin .append, args := #[s, x], argTypes := #[45, 45] }) {B : Nat} {v u : Value} {ss us : List ByteArray} {bk : List Nat} (hs : a.eval s = v) (hx : a.eval x = u)
    (h : w.ownsRow B 9 1 v ss.length (ss.map .string)) (k : OStr w u us bk) (hB : B ≤ w.heap.size) (hl : ss.length + us.length ≤ 4000000)
    (hK : ∀ v' w', w'.ownsRow B 9 1 v' (ss ++ us).length ((ss ++ us).map .string) → w.grownBy w' v.ownBlock → wpList Tryz.prog ops Q rest (a.put o.dst v') w') : wpList Tryz.prog ops Q (o :: rest) a w := by
  obtain ⟨i0, hi, hz0, hz1, hz2⟩ := info_parts infoStr
  rcases k.cells with ⟨rfl, rfl⟩ | ⟨g, cap, rfl, hcell⟩
  · refine wpList_append_own_none hg s x 45 ho B 9 i0 1 Tryz.underlying45 hi v _ _ hs h hx ?_
    exact hK v w (by rw [List.append_nil]; exact h) (World.grownBy.refl _ _)
  · refine wpList_append_own _ hg s x 45 ho B 9 i0 (.string ByteArray.empty) 1 16 Tryz.underlying45 hi hz0 hz1 hz2 rfl (by decide) v _ _ hs h ⟨g, 0, none⟩ us.length cap (us.map .string) hx (by simp) hcell (str_one us) (by unfold maxLen; omega) (by omega) hB ?_
    intro v' w' h1 h2 _
    refine hK v' w' ?_ h2
    rw [List.length_append, List.map_append]; exact h1
theorem wpList_append_elem {α : Type} {e : Elem α} {ts : List TypeId} (he : ∀ {w vs x bl}, e.E w vs x bl → Tys ts w bl) (hts : e.T ∉ ts) {t : TypeId} (ht : Tryz.prog.underlying t = some (.slice e.T)) {z : Value} {bytes : Nat}
    (hinfo : (Tryz.prog.info? e.T).map (fun i => (i.zero, i.size, i.bytes)) = some (some z, e.wd, bytes)) (hzs : z.cells.size = e.wd) (hsz : 0 < e.wd) (hby : bytes ≤ 100)
    {w : World} {ops : Array Oper} {rest : List Oper} {o : Oper} {a : Act} {Q : Exit → Act → World → Prop} (hg : o.guard = none) (s x : Operand)
    (ho : o.op = .call { callee := .builtin .append, args := #[s, x], argTypes := #[t, t] }) {B : Nat} {v : Value} {xs : List α} {bl : List Nat} (hs : a.eval s = v)
    (h : ORow e w v xs bl) (hF : Fsh B bl) {vs : List Value} {y : α} {ib : List Nat} (hE : e.E w vs y ib) (hFi : Fsh B ib) (hap : ∀ b ∈ ib, b ∉ bl) {g : Nat} (hx : a.eval x = .slice (some ⟨g, 0, none⟩) 1 1)
    (hcell : ∀ (j : Nat) (u : Value), vs[j]? = some u → w.cell? ((⟨g, 0, none⟩ : Addr).add j) = some u) (h1 : ∀ u ∈ vs, u.oneCell' = true) (hB : B ≤ w.heap.size) (hl : xs.length ≤ 40000000)
    (hK : ∀ v' w' bl', ORow e w' v' (xs ++ [y]) bl' → Fsh B bl' → (∀ b ∈ bl', b ∈ bl ∨ b ∈ ib ∨ v'.ownBlock = some b) → w.grownBy w' v.ownBlock → wpList Tryz.prog ops Q rest (a.put o.dst v') w') : wpList Tryz.prog ops Q (o :: rest) a w := by
  obtain ⟨i0, hi, hz0, hz1, hz2⟩ := info_parts hinfo
  obtain ⟨cs, hown, hfin⟩ := h.app he hts hF hE hFi hap
  refine wpList_append_own _ hg s x t ho B e.T i0 z e.wd bytes ht hi hz0 hz1 hz2 hzs hsz v _ cs hs hown ⟨g, 0, none⟩ 1 1 vs hx (by rw [e.len hE]; omega) hcell h1 (by unfold maxLen; omega) ?_ hB ?_
  · have : (xs.length + 1) * bytes ≤ (xs.length + 1) * 100 := Nat.mul_le_mul_left _ hby
    omega
  · intro v' w' h1 h2 _
    obtain ⟨bl', h3, h4, h5⟩ := hfin v' w' h1 h2
    exact hK v' w' bl' h3 h4 h5 h2
theorem step_append_elem {α : Type} {e : Elem α} {ts : List TypeId} (he : ∀ {w vs x bl}, e.E w vs x bl → Tys ts w bl) (hts : e.T ∉ ts) {t : TypeId} (ht : Tryz.prog.underlying t = some (.slice e.T)) {z : Value} {bytes : Nat}
    (hinfo : (Tryz.prog.info? e.T).map (fun i => (i.zero, i.size, i.bytes)) = some (some z, e.wd, bytes)) (hzs : z.cells.size = e.wd) (hsz : 0 < e.wd) (hby : bytes ≤ 100)
    {w : World} {ops : Array Oper} {o : Oper} {a : Act} {K : Act → World → Prop} {Q : Exit → Act → World → Prop} {F : Prop} (hg : o.guard = none) (s x : Operand)
    (ho : o.op = .call { callee := .builtin .append, args := #[s, x], argTypes := #[t, t] }) {B : Nat} {v : Value} {xs : List α} {bl : List Nat} (hs : a.eval s = v)
    (h : ORow e w v xs bl) (hF : Fsh B bl) {vs : List Value} {y : α} {ib : List Nat} (hE : e.E w vs y ib) (hFi : Fsh B ib) (hap : ∀ b ∈ ib, b ∉ bl) {g : Nat} (hx : a.eval x = .slice (some ⟨g, 0, none⟩) 1 1)
    (hcell : ∀ (j : Nat) (u : Value), vs[j]? = some u → w.cell? ((⟨g, 0, none⟩ : Addr).add j) = some u) (h1 : ∀ u ∈ vs, u.oneCell' = true) (hB : B ≤ w.heap.size) (hl : xs.length ≤ 40000000)
    (hK : ∀ v' w' bl', ORow e w' v' (xs ++ [y]) bl' → Fsh B bl' → (∀ b ∈ bl', b ∈ bl ∨ b ∈ ib ∨ v'.ownBlock = some b) → w.grownBy w' v.ownBlock → K (a.put o.dst v') w') :
    if Region.wanted o (yielded ops a.tmps) = true then Oper.wp Tryz.prog o a w K Q else F := by
  have hw : Region.wanted o (yielded ops a.tmps) = true := by simp [Region.wanted, hg]
  rw [if_pos hw]
  obtain ⟨i0, hi, hz0, hz1, hz2⟩ := info_parts hinfo
  obtain ⟨cs, hown, hfin⟩ := h.app he hts hF hE hFi hap
  refine wp_append_own w s x t ho B e.T i0 z e.wd bytes ht hi hz0 hz1 hz2 hzs hsz v _ cs hs hown ⟨g, 0, none⟩ 1 1 vs hx (by rw [e.len hE]; omega) hcell h1 (by unfold maxLen; omega) ?_ hB ?_
  · have : (xs.length + 1) * bytes ≤ (xs.length + 1) * 100 := Nat.mul_le_mul_left _ hby
    omega
  · intro v' w' h1 h2 _
    obtain ⟨bl', h3, h4, h5⟩ := hfin v' w' h1 h2
    exact hK v' w' bl' h3 h4 h5 h2
theorem lit_cells (w : World) (vs : List Value) (T : TypeId) : ∀ (j : Nat) (u : Value), vs[j]? = some u → (w.alloc (.cells vs.toArray T)).cell? ((⟨w.heap.size, 0, none⟩ : Addr).add j) = some u := by
  intro j u hu
  have h := Lib.cell_of_heap (heap_alloc_new w (.cells vs.toArray T)) j
  rw [Go.WideShapes.add_plain, Nat.zero_add, h]
  simpa using hu
theorem ostr_own {w : World} {v : Value} {ss : List ByteArray} {B : Nat} (h : w.ownsRow B 9 1 v ss.length (ss.map .string)) : OStr w v ss v.ownBlock.toList ∧ Fsh B v.ownBlock.toList :=
  ⟨ostr_iff.2 ⟨own_mono h (Nat.zero_le _), rfl⟩, by cases v.ownBlock <;> simp, fun b hb => (h.lt b (by simpa using hb)).1⟩
theorem empty_row (w : World) (e size : Nat) : (w.alloc (.cells #[] e)).ownsRow w.heap.size e size (.slice (some ⟨w.heap.size, 0, none⟩) 0 0) 0 [] := by
  exact w.ownsRow_made #[] 0 (Nat.le_refl _) (Nat.zero_le _) (by simp)
theorem results_cell_tmp {P : Program} {fn : Func} {p r : Tmp} {ty : TypeId} (h : fn.results = #[.cell p ty, .tmp r]) (tmps : Array Value) (w : World) (g : Nat) (t : TypeId) (cs : Array Value) (fr : Nat × Nat) (d : TypeDesc) (v : Value)
    (hp : tmps.getD p undef = .pointer (some ⟨g, 0, none⟩)) (hr : tmps.getD r undef = v) (hg : w.heap[g]? = some (.cells cs t fr))
    (hu : P.underlying ty = some d) (hd : (match d with | .struct _ | .array _ _ => true | _ => false) = true) (hi : (P.info? ty).map (·.size) = some cs.size) :
    (results fn tmps).run P w = .ok (.tuple #[.agg cs, v]) w := by
  have hp' : tmps[p]?.getD undef = .pointer (some ⟨g, 0, none⟩) := by simpa using hp
  have hr' : tmps[r]?.getD undef = v := by simpa using hr
  simp [results, h, hp', hr', asAddr, run_loadVar_row w g t ty cs fr d hg hu hd hi]
end Go.Proofs.YtcjajchfjoffnaaGreatDoor

namespace Go.Proofs.YtcjajchfjoffnaaGreatDoor
open Go.RowKit

end Go.Proofs.YtcjajchfjoffnaaGreatDoor

namespace Go.Proofs.YtcjajchfjoffnaaGreatDoor
open Go.RowKit

/-- The place of a client's first watch, -1 when there is none. -/
def findI (ws : List Wat) (c : Int) : Int := match ws.findIdx? (fun x => x.client == c) with
  | some i => (i : Int)
  | none => -1
theorem findI_at {ws : List Wat} {c : Int} {j : Nat} (hj : j < ws.length) (hc : ws[j].client = c) (hb : ∀ i (h : i < ws.length), i < j → ws[i].client ≠ c) : findI ws c = (j : Int) := by
  have : ws.findIdx? (fun x => x.client == c) = some j := by
    rw [List.findIdx?_eq_some_iff_getElem]
    exact ⟨hj, by simp [hc], fun i hi => by simpa using hb i (by omega) hi⟩
  unfold findI; rw [this]
theorem findI_no {ws : List Wat} {c : Int} (hb : ∀ i (h : i < ws.length), ws[i].client ≠ c) : findI ws c = -1 := by
  have : ws.findIdx? (fun x => x.client == c) = none := by
    rw [List.findIdx?_eq_none_iff]
    intro x hx
    obtain ⟨i, hi, rfl⟩ := List.mem_iff_getElem.1 hx
    simpa using hb i hi
  unfold findI; rw [this]
theorem findI_cases (ws : List Wat) (c : Int) : findI ws c = -1 ∨ ∃ j : Nat, ∃ h : j < ws.length, findI ws c = (j : Int) ∧ ws[j].client = c := by
  unfold findI
  cases h : ws.findIdx? (fun x => x.client == c) with
  | none => exact .inl rfl
  | some j =>
    rw [List.findIdx?_eq_some_iff_getElem] at h
    obtain ⟨hj, hc, _⟩ := h
    exact .inr ⟨j, hj, rfl, by simpa using hc⟩

/-- The watches up to place k but the one at place s. -/
def skipT (ws : List Wat) (s : Int) : Nat → List Wat
  | 0 => []
  | k + 1 => skipT ws s k ++ (if (k : Int) = s then [] else ws[k]?.toList)
theorem skipT_len (ws : List Wat) (s : Int) : ∀ k, (skipT ws s k).length ≤ k
  | 0 => Nat.le_refl _
  | k + 1 => by
    have h1 := skipT_len ws s k
    rw [skipT, List.length_append]
    have : (if (k : Int) = s then [] else ws[k]?.toList).length ≤ 1 := by
      split
      · simp
      · cases ws[k]? <;> simp
    omega
def copyH (h : Hb) (s : Int) (d : Nat) : Hb := ⟨skipT h.watches s h.watches.length, h.waiting.drop d⟩

section
variable {w : World} {A B : Obj} {wr w3 : World} {p p' q q' : Value} {ws : List Wat} {ns : List Nws} {b1 b2 b1' b2' ib : List Nat}
end
end Go.Proofs.YtcjajchfjoffnaaGreatDoor

namespace Go.Proofs.YtcjajchfjoffnaaGreatDoor
open Go.RowKit

/-- Five new blocks. -/
structure New5 (w : World) (a b c d e : Obj) (w' : World) : Prop where
  bel : Below w.heap.size w w'
  size : w'.heap.size = w.heap.size + 1 + 1 + 1 + 1 + 1
  k0 : w'.heap[w.heap.size]? = some a
  k1 : w'.heap[w.heap.size + 1]? = some b
  k2 : w'.heap[w.heap.size + 1 + 1]? = some c
  k3 : w'.heap[w.heap.size + 1 + 1 + 1]? = some d
  k4 : w'.heap[w.heap.size + 1 + 1 + 1 + 1]? = some e
theorem new5 (w : World) (a b c d e : Obj) : New5 w a b c d e (((((w.alloc a).alloc b).alloc c).alloc d).alloc e) := by
  have h := new3 w a b c
  generalize ((w.alloc a).alloc b).alloc c = w3 at *
  have k := new2 w3 d e
  have hs := h.size
  generalize (w3.alloc d).alloc e = w5 at *
  have b5 := k.bel
  have s5 := k.size
  have k3 := k.k0
  have k4 := k.k1
  rw [hs] at b5 s5 k3 k4
  exact ⟨h.bel.trans (b5.mono (by omega)), s5, (b5.block _ (by omega)).trans h.k0, (b5.block _ (by omega)).trans h.k1, (b5.block _ (by omega)).trans h.k2, k3, k4⟩

/-- What the second region reads. -/
def HS3 (N g m n yc : Nat) (z : Int) (qv : Value) (w : World) : Prop := w.cell? ⟨N, 1, none⟩ = some (.slice (some ⟨g, 0, none⟩) n yc) ∧ w.cell? ⟨g, m * 2, none⟩ = some (.int .i64 z) ∧ w.cell? ⟨g, m * 2 + 1, none⟩ = some qv
section
variable {N g m n yc : Nat} {z : Int} {qv : Value} {w w' : World}
theorem HS3.keep (h : HS3 N g m n yc z qv w) (hb : Below w.heap.size w w') : HS3 N g m n yc z qv w' :=
  ⟨(hb.cell (World.block_lt_of_cell? _ _ h.1)).trans h.1, (hb.cell (World.block_lt_of_cell? _ _ h.2.1)).trans h.2.1, (hb.cell (World.block_lt_of_cell? _ _ h.2.2)).trans h.2.2⟩
theorem HS3.grown {row : Option Nat} (h : HS3 N g m n yc z qv w) (hg : w.grownBy w' row) (hr : ∀ b, row = some b → N + 1 + 1 ≤ b) (hN : g < N) : HS3 N g m n yc z qv w' :=
  ⟨hg.cell h.1 fun e => by have := hr N e.symm; omega, hg.cell h.2.1 fun e => by have := hr g e.symm; omega, hg.cell h.2.2 fun e => by have := hr g e.symm; omega⟩
theorem HS3.set (h : HS3 N g m n yc z qv w) (hN : g < N) (o : Nat) (u : Value) : HS3 N g m n yc z qv (w.setCell ⟨N + 1 + 1 + 1 + 1, o, none⟩ u) :=
  ⟨(World.cell?_of_block (w := w) (Below.heap_setCell _ _ _ _ (by simp; omega))).trans h.1, (World.cell?_of_block (w := w) (Below.heap_setCell _ _ _ _ (by simp; omega))).trans h.2.1, (World.cell?_of_block (w := w) (Below.heap_setCell _ _ _ _ (by simp; omega))).trans h.2.2⟩
end
end Go.Proofs.YtcjajchfjoffnaaGreatDoor

namespace Go.Proofs.YtcjajchfjoffnaaGreatDoor
open Go.RowKit

theorem skipT_none (ws : List Wat) : ∀ k, k ≤ ws.length → skipT ws (-1) k = ws.take k
  | 0, _ => by simp [skipT]
  | k + 1, h => by
    rw [skipT, skipT_none ws k (by omega), if_neg (by omega), List.take_add_one]
theorem copyH_none (h : Hb) : copyH h (-1) 0 = h := by
  unfold copyH
  rw [skipT_none _ _ (Nat.le_refl _), List.take_length]; rfl

section
variable {w0 : World} {G F : Nat} {wr w3 : World} {p p' q q' : Value} {ws : List Wat} {ns : List Nws} {b1 b2 b1' b2' ib : List Nat}
end

end Go.Proofs.YtcjajchfjoffnaaGreatDoor

namespace Go.Proofs.YtcjajchfjoffnaaGreatDoor
open Go.RowKit

/-- What the elements of a row hold of blocks. -/
theorem orow_inner_ty {α : Type} {e : Elem α} {ts : List TypeId} (he : ∀ {w vs x bl}, e.E w vs x bl → Tys ts w bl) {w : World} {v : Value} {xs : List α} {bl cb : List Nat} (h : ORow e w v xs bl) (hc : bl = v.ownBlock.toList ++ cb) : Tys ts w cb := by
  obtain ⟨ps, hl, hE, ho, hb⟩ := h
  rw [hb] at hc
  have := List.append_cancel_left hc
  subst this
  intro b hb
  obtain ⟨p, hp, hb⟩ := List.mem_flatMap.1 hb
  obtain ⟨j, hj, rfl⟩ := List.mem_iff_getElem.1 hp
  exact he (hE j ps[j] (xs[j]'(by omega)) (List.getElem?_eq_getElem hj) (List.getElem?_eq_getElem (by omega))) b hb
theorem Tys.not {ts : List TypeId} {w : World} {bl : List Nat} (h : Tys ts w bl) {B e size n : Nat} {v : Value} {xs : List Value} (ho : w.ownsRow B e size v n xs) (hn : e ∉ ts) {g : Nat} (hg : v.ownBlock = some g) : g ∉ bl := fun hm => by
  obtain ⟨cur, t, h1, h2⟩ := h g hm
  obtain ⟨cur', t', h3, h4⟩ := own_ty ho g (by simp [hg])
  rw [h1] at h3
  injection h3 with h3; injection h3 with _ h3
  simp at h4
  exact hn (h4 ▸ h3 ▸ h2)
/-- One more element at the end of a row that the call owns; what lies in the elements may be shared. -/
theorem ORow.app2 {α : Type} {e : Elem α} {ts : List TypeId} (he : ∀ {w vs x bl}, e.E w vs x bl → Tys ts w bl) (hts : e.T ∉ ts) {B : Nat} {w : World} {v : Value} {xs : List α} {cb : List Nat} (h : ORow e w v xs (v.ownBlock.toList ++ cb)) (hB : ∀ g, v.ownBlock = some g → B ≤ g)
    {vs : List Value} {x : α} {ib : List Nat} (hE : e.E w vs x ib) :
    ∃ cs, w.ownsRow B e.T e.wd v xs.length cs ∧ ∀ v' w', w'.ownsRow B e.T e.wd v' (xs.length + 1) (cs ++ vs) → w.grownBy w' v.ownBlock → ORow e w' v' (xs ++ [x]) (v'.ownBlock.toList ++ (cb ++ ib)) := by
  have hlt := h.lt
  have hlti := e.lt hE
  have hty := orow_inner_ty he h rfl
  have htyi := he hE
  obtain ⟨ps, hl, hE0, ho, hb⟩ := h
  have hcb := List.append_cancel_left hb
  subst hcb
  refine ⟨ps.flatMap (·.1), own_base ho hB, fun v' w' ho' hg => ?_⟩
  have hk : Kp (ps.flatMap (·.2)) w w' := fun b hb => hg.block b (hlt b (List.mem_append.2 (.inr hb))) fun e1 => hty.not ho hts e1.symm hb
  have hki : Kp ib w w' := fun b hb => hg.block b (hlti b hb) fun e1 => htyi.not ho hts e1.symm hb
  refine ⟨ps ++ [(vs, ib)], by simp [hl], ?_, ?_, by simp⟩
  · intro j p y hp hy
    by_cases hj : j < xs.length
    · rw [List.getElem?_append_left (by omega)] at hp hy
      exact e.keep (hE0 j p y hp hy) fun b hb => hk b (List.mem_flatMap.2 ⟨p, List.mem_of_getElem? hp, hb⟩)
    · have hy' := (List.getElem?_eq_some_iff.1 hy).1
      rw [List.length_append, List.length_singleton] at hy'
      have : j = xs.length := by omega
      subst this
      rw [← hl] at hp
      simp at hp hy
      subst hp; subst hy; exact e.keep hE hki
  · rw [List.flatMap_append, List.length_append]
    have := own_mono ho' (Nat.zero_le B)
    simpa using this
theorem wpList_append_elem2 {α : Type} {e : Elem α} {ts : List TypeId} (he : ∀ {w vs x bl}, e.E w vs x bl → Tys ts w bl) (hts : e.T ∉ ts) {t : TypeId} (ht : Tryz.prog.underlying t = some (.slice e.T)) {z : Value} {bytes : Nat}
    (hinfo : (Tryz.prog.info? e.T).map (fun i => (i.zero, i.size, i.bytes)) = some (some z, e.wd, bytes)) (hzs : z.cells.size = e.wd) (hsz : 0 < e.wd) (hby : bytes ≤ 100)
    {w : World} {ops : Array Oper} {rest : List Oper} {o : Oper} {a : Act} {Q : Exit → Act → World → Prop} (hg : o.guard = none) (s x : Operand)
    (ho : o.op = .call { callee := .builtin .append, args := #[s, x], argTypes := #[t, t] }) {B : Nat} {v : Value} {xs : List α} {cb : List Nat} (hs : a.eval s = v)
    (h : ORow e w v xs (v.ownBlock.toList ++ cb)) (hB0 : ∀ g, v.ownBlock = some g → B ≤ g) {vs : List Value} {y : α} {ib : List Nat} (hE : e.E w vs y ib) {g : Nat} (hx : a.eval x = .slice (some ⟨g, 0, none⟩) 1 1)
    (hcell : ∀ (j : Nat) (u : Value), vs[j]? = some u → w.cell? ((⟨g, 0, none⟩ : Addr).add j) = some u) (h1 : ∀ u ∈ vs, u.oneCell' = true) (hB : B ≤ w.heap.size) (hl : xs.length ≤ 40000000)
    (hK : ∀ v' w', ORow e w' v' (xs ++ [y]) (v'.ownBlock.toList ++ (cb ++ ib)) → (∀ g, v'.ownBlock = some g → B ≤ g) → w.grownBy w' v.ownBlock → wpList Tryz.prog ops Q rest (a.put o.dst v') w') : wpList Tryz.prog ops Q (o :: rest) a w := by
  obtain ⟨i0, hi, hz0, hz1, hz2⟩ := info_parts hinfo
  obtain ⟨cs, hown, hfin⟩ := h.app2 he hts hB0 hE
  refine wpList_append_own _ hg s x t ho B e.T i0 z e.wd bytes ht hi hz0 hz1 hz2 hzs hsz v _ cs hs hown ⟨g, 0, none⟩ 1 1 vs hx (by rw [e.len hE]; omega) hcell h1 (by unfold maxLen; omega) ?_ hB ?_
  · have : (xs.length + 1) * bytes ≤ (xs.length + 1) * 100 := Nat.mul_le_mul_left _ hby
    omega
  · intro v' w' h1 h2 _
    exact hK v' w' (hfin v' w' h1 h2) (fun g hg => (h1.lt g hg).1) h2
theorem step_append_elem2 {α : Type} {e : Elem α} {ts : List TypeId} (he : ∀ {w vs x bl}, e.E w vs x bl → Tys ts w bl) (hts : e.T ∉ ts) {t : TypeId} (ht : Tryz.prog.underlying t = some (.slice e.T)) {z : Value} {bytes : Nat}
    (hinfo : (Tryz.prog.info? e.T).map (fun i => (i.zero, i.size, i.bytes)) = some (some z, e.wd, bytes)) (hzs : z.cells.size = e.wd) (hsz : 0 < e.wd) (hby : bytes ≤ 100)
    {w : World} {ops : Array Oper} {o : Oper} {a : Act} {K : Act → World → Prop} {Q : Exit → Act → World → Prop} {F : Prop} (hg : o.guard = none) (s x : Operand)
    (ho : o.op = .call { callee := .builtin .append, args := #[s, x], argTypes := #[t, t] }) {B : Nat} {v : Value} {xs : List α} {cb : List Nat} (hs : a.eval s = v)
    (h : ORow e w v xs (v.ownBlock.toList ++ cb)) (hB0 : ∀ g, v.ownBlock = some g → B ≤ g) {vs : List Value} {y : α} {ib : List Nat} (hE : e.E w vs y ib) {g : Nat} (hx : a.eval x = .slice (some ⟨g, 0, none⟩) 1 1)
    (hcell : ∀ (j : Nat) (u : Value), vs[j]? = some u → w.cell? ((⟨g, 0, none⟩ : Addr).add j) = some u) (h1 : ∀ u ∈ vs, u.oneCell' = true) (hB : B ≤ w.heap.size) (hl : xs.length ≤ 40000000)
    (hK : ∀ v' w', ORow e w' v' (xs ++ [y]) (v'.ownBlock.toList ++ (cb ++ ib)) → (∀ g, v'.ownBlock = some g → B ≤ g) → w.grownBy w' v.ownBlock → K (a.put o.dst v') w') :
    if Region.wanted o (yielded ops a.tmps) = true then Oper.wp Tryz.prog o a w K Q else F := by
  have hw : Region.wanted o (yielded ops a.tmps) = true := by simp [Region.wanted, hg]
  rw [if_pos hw]
  obtain ⟨i0, hi, hz0, hz1, hz2⟩ := info_parts hinfo
  obtain ⟨cs, hown, hfin⟩ := h.app2 he hts hB0 hE
  refine wp_append_own w s x t ho B e.T i0 z e.wd bytes ht hi hz0 hz1 hz2 hzs hsz v _ cs hs hown ⟨g, 0, none⟩ 1 1 vs hx (by rw [e.len hE]; omega) hcell h1 (by unfold maxLen; omega) ?_ hB ?_
  · have : (xs.length + 1) * bytes ≤ (xs.length + 1) * 100 := Nat.mul_le_mul_left _ hby
    omega
  · intro v' w' h1 h2 _
    exact hK v' w' (hfin v' w' h1 h2) (fun g hg => (h1.lt g hg).1) h2
/-- A whole row behind nil: a copy; what lies in the elements is shared. -/
theorem wpList_append_nil {α : Type} {e : Elem α} (hone : ∀ {w vs x bl}, e.E w vs x bl → ∀ u ∈ vs, u.oneCell' = true) {t : TypeId} (ht : Tryz.prog.underlying t = some (.slice e.T)) {z : Value} {bytes : Nat}
    (hinfo : (Tryz.prog.info? e.T).map (fun i => (i.zero, i.size, i.bytes)) = some (some z, e.wd, bytes)) (hzs : z.cells.size = e.wd) (hsz : 0 < e.wd) (hby : bytes ≤ 100)
    {w : World} {ops : Array Oper} {rest : List Oper} {o : Oper} {a : Act} {Q : Exit → Act → World → Prop} (hg : o.guard = none) (s x : Operand)
    (ho : o.op = .call { callee := .builtin .append, args := #[s, x], argTypes := #[t, t] }) {v : Value} {xs : List α} {cb : List Nat} (hs : a.eval s = .slice none 0 0) (hx : a.eval x = v)
    (h : ORow e w v xs (v.ownBlock.toList ++ cb)) (hl : xs.length ≤ 40000000)
    (hK : ∀ v' w', ORow e w' v' xs (v'.ownBlock.toList ++ cb) → (∀ g, v'.ownBlock = some g → w.heap.size ≤ g) → Below w.heap.size w w' → wpList Tryz.prog ops Q rest (a.put o.dst v') w') : wpList Tryz.prog ops Q (o :: rest) a w := by
  obtain ⟨i0, hi, hz0, hz1, hz2⟩ := info_parts hinfo
  have hlt := h.lt
  obtain ⟨ps, hl0, hE, ho0, hb⟩ := h
  have hcb := List.append_cancel_left hb
  have hnil := w.ownsRow_nil w.heap.size e.T e.wd
  rcases ho0.2 with ⟨hv, h0⟩ | ⟨g, cap, cur, hv, _⟩
  · subst hv
    refine wpList_append_own_none hg s x t ho w.heap.size e.T i0 e.wd ht hi _ _ _ hs hnil hx ?_
    exact hK _ w ⟨ps, hl0, hE, ho0, hb⟩ (fun g hg => by simp [Value.ownBlock] at hg) (Below.refl _ _)
  · have hwd := orow_wd hl0 hE
    have hones : ∀ u ∈ ps.flatMap (·.1), u.oneCell' = true := by
      intro u hu
      obtain ⟨p, hp, hu⟩ := List.mem_flatMap.1 hu
      obtain ⟨j, hj, rfl⟩ := List.mem_iff_getElem.1 hp
      exact hone (hE j ps[j] (xs[j]'(by omega)) (List.getElem?_eq_getElem hj) (List.getElem?_eq_getElem (by omega))) u hu
    have hob : v.ownBlock = some g := by rw [hv]; rfl
    refine wpList_append_own _ hg s x t ho w.heap.size e.T i0 z e.wd bytes ht hi hz0 hz1 hz2 hzs hsz _ 0 [] hs hnil ⟨g, 0, none⟩ xs.length cap (ps.flatMap (·.1)) (hx.trans hv) ho0.1 (fun j u hu => ho0.cells hob j u hu) hones (by unfold maxLen; omega) ?_ (Nat.le_refl _) ?_
    · have : (0 + xs.length) * bytes ≤ (0 + xs.length) * 100 := Nat.mul_le_mul_left _ hby
      omega
    · intro v' w' h1 h2 _
      have hbel : Below w.heap.size w w' := (Below.refl _ _).grown h2 (Nat.le_refl _) (fun k hk => by simp [Value.ownBlock] at hk)
      refine hK v' w' ⟨ps, hl0, fun j p y hp hy => e.keep (hE j p y hp hy) fun b hb1 => hbel.block b (hlt b (by rw [hb]; exact List.mem_append.2 (.inr (List.mem_flatMap.2 ⟨p, List.mem_of_getElem? hp, hb1⟩)))), ?_, by rw [hcb]⟩ (fun g hg => (h1.lt g hg).1) hbel
      have := own_mono h1 (Nat.zero_le _)
      simpa using this
theorem str_ones {w : World} {vs : List Value} {x : ByteArray} {bl : List Nat} (h : strE.E w vs x bl) : ∀ u ∈ vs, u.oneCell' = true := by
  obtain ⟨rfl, _⟩ := h; intro u hu; simp at hu; subst hu; rfl
theorem infoStrE : (Tryz.prog.info? strE.T).map (fun i => (i.zero, i.size, i.bytes)) = some (some (.string ByteArray.empty), strE.wd, 16) := infoStr

set_option maxHeartbeats 400000 in
set_option maxRecDepth 100000 in
theorem copiedStr_walk (v : Value) (xs : List ByteArray) (bl : List Nat) (w : World) (h : OStr w v xs bl) (hm : xs.length ≤ 2097154) :
    Calls Tryz.prog 76 #[v] w fun e w' => ∃ v' bl', e = .returned v' ∧ OStr w' v' xs bl' ∧ Fsh w.heap.size bl' ∧ Below w.heap.size w w' := by
  have hc : bl = v.ownBlock.toList ++ [] := by rw [List.append_nil]; exact (ostr_iff.1 h).2
  subst hc
  have H := hide h
  clear h
  go_enter Tryz.func76, Tryz.ntmps76
  go_wp2_with (at_builtin; refine wpList_append_nil (e := strE) str_ones Tryz.underlying45 infoStrE rfl (by decide) (by decide) rfl (.const (.slice none 0 0)) (.tmp 3) rfl rfl rfl (unhide H) (by omega) ?_)
  intro v' w' ho hB hb
  have HO := hide ho
  have HBB := hide hB
  have HBE := hide hb
  clear ho hB hb H
  go_wp2
  go_ret
  refine ⟨_, _, rfl, unhide HO, ⟨?_, fun b hb => unhide HBB b (by simpa using hb)⟩, unhide HBE⟩
  cases v'.ownBlock <;> simp
/-- What a ring holds, in order. -/
structure RingIs {α : Type} (cells : List α) (f c : Nat) (q : List α) : Prop where
  cnt : c = q.length
  le : c ≤ cells.length
  lt : f < cells.length ∨ cells = []
  at_ : ∀ (i : Nat) (x : α), q[i]? = some x → cells[(f + i) % cells.length]? = some x
theorem RingIs.fresh {α : Type} (q : List α) : RingIs q 0 q.length q := by
  refine ⟨rfl, Nat.le_refl _, ?_, fun i x h => ?_⟩
  · cases q with
    | nil => exact .inr rfl
    | cons a r => exact .inl (by simp)
  · have hi := (List.getElem?_eq_some_iff.1 h).1
    rw [Nat.zero_add, Nat.mod_eq_of_lt hi]; exact h
/-- A ring in three cells of a block. -/
structure RingAt {α : Type} (e : Elem α) (w : World) (g o : Nat) (cv : Value) (f c : Nat) (ms : List α) (q : List α) (cb : List Nat) : Prop where
  c0 : w.cell? ⟨g, o, none⟩ = some cv
  c1 : w.cell? ⟨g, o + 1, none⟩ = some (.int .i64 (f : Int))
  c2 : w.cell? ⟨g, o + 2, none⟩ = some (.int .i64 (c : Int))
  row : ORow e w cv ms (cv.ownBlock.toList ++ cb)
  ring : RingIs ms f c q
theorem RingAt.below {α : Type} {e : Elem α} {w w' : World} {g o : Nat} {cv : Value} {f c : Nat} {ms q : List α} {cb : List Nat} (h : RingAt e w g o cv f c ms q cb) (hb : Below w.heap.size w w') : RingAt e w' g o cv f c ms q cb :=
  ⟨(hb.cell (World.block_lt_of_cell? _ _ h.c0)).trans h.c0, (hb.cell (World.block_lt_of_cell? _ _ h.c1)).trans h.c1, (hb.cell (World.block_lt_of_cell? _ _ h.c2)).trans h.c2, h.row.below hb, h.ring⟩
end Go.Proofs.YtcjajchfjoffnaaGreatDoor

namespace Go.Proofs.YtcjajchfjoffnaaGreatDoor
open Go.RowKit

/-- A store of its own memory. -/
def TellP (vs : List Ver) (w : World) (e : Ending) (w' : World) : Prop := ∃ v bl, e = .returned (.agg #[v]) ∧ ORow verE w' v vs bl ∧ Fsh w.heap.size bl ∧ Below w.heap.size w w'
theorem ver_ty {w : World} {vs : List Value} {m : Ver} {bl : List Nat} (h : verE.E w vs m bl) : Tys [9] w bl := by obtain ⟨q, _, h⟩ := h; exact ostr_ty h
theorem infoVerE : (Tryz.prog.info? verE.T).map (fun i => (i.zero, i.size, i.bytes)) = some (some (.agg #[.int .i64 0, .string ByteArray.empty, .slice none 0 0]), verE.wd, 48) := by kernel_rfl
set_option maxRecDepth 100000 in
set_option maxHeartbeats 800000 in
theorem reverse1_walk (a : Option Addr) (n c : Nat) (hn : n ≤ 1) (w : World) : Calls Tryz.prog 77 #[.slice a n c] w fun e w' => e = .returned (.tuple #[]) ∧ w = w' := by
  rcases (show n = 0 ∨ n = 1 by omega) with rfl | rfl
  · go_enter Tryz.func77, Tryz.ntmps77
    go_wp2
    go_loopw [2, 3] (fun i j wr => i = .int .i64 0 ∧ j = .int .i64 (-1) ∧ w = wr) (fun _ _ _ => 0)
    case atStart => exact ⟨rfl, rfl, rfl⟩
    case round =>
      obtain ⟨rfl, rfl, rfl⟩ := hrel
      go_wp2
      go_end0
      exact ⟨rfl, rfl⟩
  · go_enter Tryz.func77, Tryz.ntmps77
    go_wp2
    go_loopw [2, 3] (fun i j wr => i = .int .i64 0 ∧ j = .int .i64 0 ∧ w = wr) (fun _ _ _ => 0)
    case atStart => exact ⟨rfl, rfl, rfl⟩
    case round =>
      obtain ⟨rfl, rfl, rfl⟩ := hrel
      go_wp2
      go_end0
      exact ⟨rfl, rfl⟩
set_option maxRecDepth 100000 in
set_option maxHeartbeats 800000 in
theorem tell0_walk (w : World) : Calls Tryz.prog 36 #[.pointer none] w (TellP [] w) := by
  have HR := hide (fun (w : World) => reverse1_walk none 0 0 (by decide) w)
  go_enter Tryz.func36, Tryz.ntmps36
  go_wp2
  have hA := alloc_b w (Obj.cells #[Value.slice none 0 0] 24)
  have kA := heap_alloc_new w (Obj.cells #[Value.slice none 0 0] 24)
  generalize (w.alloc (Obj.cells #[Value.slice none 0 0] 24)) = wA at *
  have HA := hide hA
  have HKA := hide kA
  clear hA kA
  go_loopw [3, 4] (fun lv at' wr => lv = .slice none 0 0 ∧ at' = .pointer none ∧ wA = wr) (fun _ _ _ => 0)
  case atStart => exact ⟨rfl, rfl, rfl⟩
  case round =>
    obtain ⟨rfl, rfl, rfl⟩ := hrel
    go_wp2_with fail
    refine (unhide HR _).mono ?_
    rintro e w1 ⟨rfl, rfl⟩
    have c0 : wA.cell? ⟨w.heap.size, 0, none⟩ = some (.slice none 0 0) := Lib.cell_of_heap (unhide HKA) 0
    have f0 := Lib.frozen_of_heap (unhide HKA)
    clear HR
    go_wp2
    refine bodyPost_ret (results_cell_row rfl _ _ w.heap.size 24 #[_] (0, 0) _ rfl (putN_full (unhide HKA) [_] rfl) Tryz.underlying24 rfl (by kernel_rfl)) rfl ?_
    exact ⟨_, [], rfl, ORow.nil _ _, Fsh.nil _, putN_below (unhide HA) (Nat.le_refl _) [_] 0⟩
/-- The one revision of a store that was opened. -/
def revB (d : ByteArray) (rt : Value) : Obj := .cells #[.int .i64 0, .string d, .slice none 0 0, rt, .pointer none] 125 (0, 0)
def atN : Value → Nat
  | .pointer (some _) => 1
  | _ => 0
set_option maxRecDepth 100000 in
set_option maxHeartbeats 1600000 in
theorem tell1_walk (g : Nat) (d : ByteArray) (rt : Value) (w : World) (h : w.heap[g]? = some (revB d rt)) : Calls Tryz.prog 36 #[.pointer (some ⟨g, 0, none⟩)] w (TellP [⟨0, d, []⟩] w) := by
  have HR := hide (fun (a : Option Addr) (c : Nat) (w : World) => reverse1_walk a 1 c (by decide) w)
  have HC := hide (fun w => copiedStr_walk (.slice none 0 0) [] [] w (ORow.nil _ _) (by decide))
  have HK := hide h
  have hlt : g < w.heap.size := (Array.getElem?_eq_some_iff.1 h).1
  clear h
  go_enter Tryz.func36, Tryz.ntmps36
  go_wp2
  have hA := alloc_b w (Obj.cells #[Value.slice none 0 0] 24)
  have kA := heap_alloc_new w (Obj.cells #[Value.slice none 0 0] 24)
  have zA : (w.alloc (Obj.cells #[Value.slice none 0 0] 24)).heap.size = w.heap.size + 1 := by simp
  generalize (w.alloc (Obj.cells #[Value.slice none 0 0] 24)) = wA at *
  have HA := hide hA
  have HKA := hide kA
  have HKW : Hid (∀ wx, Below wA.heap.size wA wx → wx.heap[g]? = some (revB d rt)) := fun wx hx => (hx.block g (by omega)).trans ((hA.block g hlt).trans (unhide HK))
  clear hA kA HK
  go_loopw [3, 4] (fun lv at' wr => (lv = .slice none 0 0 ∧ at' = .pointer (some ⟨g, 0, none⟩) ∧ wA = wr) ∨ (at' = .pointer none ∧ ∃ bl, ORow verE wr lv [⟨0, d, []⟩] bl ∧ Fsh (w.heap.size + 1) bl ∧ Below wA.heap.size wA wr)) (fun _ at' _ => atN at')
  case atStart => exact .inl ⟨rfl, rfl, rfl⟩
  case round =>
    rcases hrel with ⟨rfl, rfl, rfl⟩ | ⟨rfl, bl, ho, hf, hb⟩
    · have hd : Below wA.heap.size wA wA.drew := (Below.refl _ _).drew
      have k1 := unhide HKW _ hd
      have c0 : wA.drew.cell? ⟨g, 0, none⟩ = some (.int .i64 0) := Lib.cell_of_heap k1 0
      have c1 : wA.drew.cell? ⟨g, 1, none⟩ = some (.string d) := Lib.cell_of_heap k1 1
      have c2 : wA.drew.cell? ⟨g, 2, none⟩ = some (.slice none 0 0) := Lib.cell_of_heap k1 2
      have HM := hide (unhide HC wA.drew)
      clear k1 HC
      go_wp2_with fail
      go_region_law (first
        | (refine step_append_elem (e := verE) ver_ty (by decide) Tryz.underlying22 infoVerE rfl (by decide) (by decide) rfl (.tmp 12) (.tmp 30) rfl (B := w.heap.size + 1) rfl (ORow.nil _ _) (Fsh.nil _) (unhide E3) (unhide HFI) (fun b hb hx => by simp at hx) rfl (by exact lit_cells w2 [_, _, _] _) (by exact unhide HONE) (by simp; omega) (by decide) ?_
           intro v' w3 bl' o4 f4 m4 hg4
           obtain ⟨va, vc, rfl, hv1, hv2⟩ := o4.form
           have b3 : Below wA.heap.size wA w3 := (unhide B2).grown hg4 (unhide B2).size (fun k hk => by cases hk)
           have k4 := unhide HKW _ b3
           have c4 : w3.cell? ⟨g, 4, none⟩ = some (.pointer none) := Lib.cell_of_heap k4 4)
        | (go_simp; refine (unhide HM).mono ?_
           rintro e w2 ⟨v2, bl2, rfl, o2, f2, b2⟩
           obtain ⟨za, zc, rfl, hy1, hy2⟩ := o2.form
           have k2 := unhide HKW _ (below_next hd b2)
           have d0 : w2.cell? ⟨g, 0, none⟩ = some (.int .i64 0) := Lib.cell_of_heap k2 0
           have d1 : w2.cell? ⟨g, 1, none⟩ = some (.string d) := Lib.cell_of_heap k2 1
           have hE2 : verE.E w2 [.int .i64 0, .string d, .slice za 0 zc] ⟨0, d, []⟩ bl2 := ⟨_, rfl, o2⟩
           have hab : Below w2.heap.size w2 (w2.alloc (.cells #[.int .i64 0, .string d, .slice za 0 zc] 58)) := alloc_b _ _
           have E3 := hide (verE.keep hE2 (.of_below hab (verE.lt hE2)))
           have HFI := hide (f2.mono (B' := w.heap.size + 1) (by simp; omega))
           have B2 := hide (below_next (below_next hd b2) hab)
           have hsz2 : wA.heap.size ≤ w2.heap.size := b2.size
           have HONE : Hid (∀ u ∈ [Value.int .i64 0, .string d, .slice za 0 zc], u.oneCell' = true) := fun u hu => by simp at hu; rcases hu with rfl | rfl | rfl <;> rfl))
      all_goals (
        have HO4 := hide o4
        have HF4 := hide f4
        have HB3 := hide b3
        clear o4 f4 m4 hg4 b3 k4 hE2 E3 HFI B2 HONE o2 f2 b2 hab
        go_wp2
        go_roundw)
      all_goals first
        | exact .inr ⟨rfl, _, unhide HO4, unhide HF4, unhide HB3⟩
        | exact Nat.zero_lt_one
    · obtain ⟨xa, xc, rfl, hx1, hx2⟩ := ho.form
      have HO := hide ho
      clear ho hx1 hx2
      go_wp2_with fail
      refine (unhide HR _ _ _).mono ?_
      rintro e w1 ⟨rfl, rfl⟩
      have k1 := (hb.block w.heap.size (by omega)).trans (unhide HKA)
      have c0 : wr.cell? ⟨w.heap.size, 0, none⟩ = some (.slice none 0 0) := Lib.cell_of_heap k1 0
      have f0 := Lib.frozen_of_heap k1
      have HB := hide hb
      have HK1 := hide k1
      clear HR hb k1
      go_wp2
      refine bodyPost_ret (results_cell_row rfl _ _ w.heap.size 24 #[_] (0, 0) _ rfl (putN_full (unhide HK1) [_] rfl) Tryz.underlying24 rfl (by kernel_rfl)) rfl ?_
      exact ⟨_, bl, rfl, (unhide HO).putN (hf.not (by omega)) [_] 0, hf.mono (by omega), putN_below (below_next (unhide HA) (unhide HB)) (Nat.le_refl _) [_] 0⟩
end Go.Proofs.YtcjajchfjoffnaaGreatDoor

namespace Go.Proofs.YtcjajchfjoffnaaGreatDoor
open Go.ChangeShapes Go.WideShapes Go.ChangeAt Go.RowKit Go.Deep

section
variable {H : Type} {enc : TypeId × Value → H} {w : World} {sp : Nat → Bool} {held : Bool}
instance : Inhabited Ver := ⟨⟨0, ByteArray.empty, []⟩⟩
theorem lst1 {α : Type} {l : List α} (h : l.length = 1) : ∃ a, l = [a] := by
  match l, h with
  | [a], _ => exact ⟨a, rfl⟩
theorem open_ver {n : Nat} {cs : List Value} {y : DataW H × List MemPlace} (h : DataW.trod enc Tryz.prog w 0 sp held n 129 cs = some y) : ∃ m, verR.R w cs m := by
  obtain ⟨xs, k, _, _, hl, hxl, hf⟩ := DataW.trod_struct Tryz.underlying129 h
  have hl3 : cs.length = 3 := hl.trans (by kernel_rfl)
  obtain ⟨a0, a1, a2, rfl⟩ := lst3 hl3
  obtain ⟨y0, y1, y2, rfl⟩ := lst3 hxl
  have h0 : DataW.trod enc Tryz.prog w 0 sp held k 3 (List.take (Tryz.prog.cellsOf 3) [a0, a1, a2]) = some y0 := hf 0 _ rfl
  have h1 : DataW.trod enc Tryz.prog w 0 sp held k 9 (List.take (Tryz.prog.cellsOf 9) [a1, a2]) = some y1 := hf 1 _ rfl
  have h2 : DataW.trod enc Tryz.prog w 0 sp held k 45 (List.take (Tryz.prog.cellsOf 45) [a2]) = some y2 := hf 2 _ rfl
  rw [show Tryz.prog.cellsOf 3 = 1 from by kernel_rfl] at h0
  rw [show Tryz.prog.cellsOf 9 = 1 from by kernel_rfl] at h1
  rw [show Tryz.prog.cellsOf 45 = 1 from by kernel_rfl] at h2
  obtain ⟨z0, e0⟩ := leaf_int Tryz.underlying3 (h0 : DataW.trod enc Tryz.prog w 0 sp held k 3 [a0] = some y0)
  obtain ⟨s1, e1, z1⟩ := leaf_str Tryz.underlying9 (h1 : DataW.trod enc Tryz.prog w 0 sp held k 9 [a1] = some y1)
  obtain ⟨q, ss, hq, hr⟩ := open_strR (h2 : DataW.trod enc Tryz.prog w 0 sp held k 45 [a2] = some y2)
  cases e0; cases e1; cases hq
  exact ⟨⟨z0, s1, ss⟩, _, rfl, z1, hr⟩
theorem open_vers {fuel : Nat} {cs : List Value} {x : DataW H × List MemPlace} (h : DataW.trod enc Tryz.prog w 0 sp held fuel 30 cs = some x) : ∃ v xs, cs = [v] ∧ RRow verR w v xs :=
  open_rrow verR Tryz.underlying30 (by kernel_rfl) (by decide) (fun _ _ _ h => open_ver h) h
theorem open_sto {n : Nat} {cs : List Value} {y : DataW H × List MemPlace} (h : DataW.trod enc Tryz.prog w 0 sp held n 32 cs = some y) : ∃ a hb, cs = [a] ∧ RSto w (.agg #[a]) hb := by
  obtain ⟨xs, k, _, _, hl, hxl, hf⟩ := DataW.trod_struct Tryz.underlying32 h
  have hl3 : cs.length = 1 := hl.trans (by kernel_rfl)
  obtain ⟨a0, rfl⟩ := lst1 hl3
  obtain ⟨y0, rfl⟩ := lst1 hxl
  have h0 : DataW.trod enc Tryz.prog w 0 sp held k 30 (List.take (Tryz.prog.cellsOf 30) [a0]) = some y0 := hf 0 _ rfl
  rw [show Tryz.prog.cellsOf 30 = 1 from by kernel_rfl] at h0
  obtain ⟨p, ws, e0, r0⟩ := open_vers (h0 : DataW.trod enc Tryz.prog w 0 sp held k 30 [a0] = some y0)
  cases e0
  exact ⟨_, ws, rfl, _, rfl, r0⟩
end
end Go.Proofs.YtcjajchfjoffnaaGreatDoor
