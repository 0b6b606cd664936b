import Derived.OwnWalk
import Derived.Test.YtiolpmhodbefoaaGreatDoorBp2
import Derived.Lib.Builder
import Derived.Handy
import Derived.Test.YtiolpmhodbefoaaGreatDoorBp1
namespace Go.Proofs.YtiolpmhodbefoaaGreatDoor
open Go.RowKit

/-- Cells written one behind the other. -/
def putN (w : World) (g : Nat) : Nat → List Value → World
  | _, [] => w
  | o, a :: r => putN (w.setCell ⟨g, o, none⟩ a) g (o + 1) r
def setN (xs : List Value) : Nat → List Value → List Value
  | _, [] => xs
  | o, a :: r => setN (xs.set o a) (o + 1) r
theorem setN_app : ∀ (vs A rest : List Value), vs.length ≤ rest.length → setN (A ++ rest) A.length vs = A ++ vs ++ rest.drop vs.length
  | [], A, rest, _ => by simp [setN]
  | a :: r, A, [], h => by simp at h
  | a :: r, A, b :: rest, h => by
    have := setN_app r (A ++ [a]) rest (by simpa using h)
    rw [setN, List.set_append_right _ _ (Nat.le_refl _), Nat.sub_self, List.set_cons_zero]
    rw [List.length_append] at this
    simpa using this
theorem putN_own {w : World} {g cap n e size : Nat} {xs : List Value} (h : w.ownsRow 0 e size (.slice (some ⟨g, 0, none⟩) n cap) n xs) : ∀ (vs : List Value) (o : Nat), (putN w g o vs).ownsRow 0 e size (.slice (some ⟨g, 0, none⟩) n cap) n (setN xs o vs) := by
  intro vs
  induction vs generalizing w xs with
  | nil => intro o; exact h
  | cons a r ih => intro o; exact ih (h.stored o a).1 (o + 1)
theorem putN_other {w : World} {g k : Nat} (hk : k ≠ g) : ∀ (vs : List Value) (o : Nat), (putN w g o vs).heap[k]? = w.heap[k]? := by
  intro vs
  induction vs generalizing w with
  | nil => intro o; rfl
  | cons a r ih => intro o; exact (ih (o + 1)).trans (Below.heap_setCell _ _ _ _ hk)
theorem putN_below {B g : Nat} {a w : World} (h : Below B a w) (hg : B ≤ g) : ∀ (vs : List Value) (o : Nat), Below B a (putN w g o vs) := by
  intro vs
  induction vs generalizing w with
  | nil => intro o; exact h
  | cons c r ih => intro o; exact ih (h.setCell (p := ⟨g, o, none⟩) hg c) (o + 1)
theorem putN_heap {w : World} {g : Nat} {cs : Array Value} {T : TypeId} (h : w.heap[g]? = some (.cells cs T (0, 0))) : ∀ (vs : List Value) (o : Nat), (putN w g o vs).heap[g]? = some (.cells (setN cs.toList o vs).toArray T (0, 0)) := by
  intro vs
  induction vs generalizing w cs with
  | nil => intro o; simpa [putN, setN] using h
  | cons a r ih =>
    intro o
    have := ih (heap_setCell_same w g o cs T a h) (o + 1)
    rw [putN, this, setN]
    simp
theorem putN_full {w : World} {g : Nat} {cs : Array Value} {T : TypeId} (h : w.heap[g]? = some (.cells cs T (0, 0))) (vs : List Value) (hl : vs.length = cs.size) : (putN w g 0 vs).heap[g]? = some (.cells vs.toArray T (0, 0)) := by
  rw [putN_heap h]
  have := setN_app vs [] cs.toList (by simp [hl])
  simp only [List.nil_append, List.length_nil] at this
  rw [this, List.drop_of_length_le (by simp [hl]), List.append_nil]
/-- A row that was made whole, its first elements written. -/
def PRow {α : Type} (e : Elem α) (w : World) (g n cap : Nat) (xs : List α) (bl : List Nat) : Prop :=
  ∃ (ps : List (List Value × List Nat)) (rest : List Value), ps.length = xs.length ∧ (∀ (j : Nat) (p : List Value × List Nat) (x : α), ps[j]? = some p → xs[j]? = some x → e.E w p.1 x p.2) ∧
    w.ownsRow 0 e.T e.wd (.slice (some ⟨g, 0, none⟩) n cap) n (ps.flatMap (·.1) ++ rest) ∧ bl = ps.flatMap (·.2)
section
variable {α : Type} {e : Elem α} {w w' : World} {g n cap : Nat} {xs : List α} {bl : List Nat}
theorem PRow.start {cs : List Value} (h : w.ownsRow 0 e.T e.wd (.slice (some ⟨g, 0, none⟩) n cap) n cs) : PRow e w g n cap [] [] := ⟨[], cs, rfl, fun _ _ _ h => by simp at h, h, rfl⟩
theorem PRow.keep (h : PRow e w g n cap xs bl) (hg : w'.heap[g]? = w.heap[g]?) (hk : Kp bl w w') : PRow e w' g n cap xs bl := by
  obtain ⟨ps, rest, hl, hE, ho, rfl⟩ := h
  refine ⟨ps, rest, hl, fun j p x hp hx => e.keep (hE j p x hp hx) fun b hb => hk b (List.mem_flatMap.2 ⟨p, List.mem_of_getElem? hp, hb⟩), own_keep ho fun b hb => ?_, rfl⟩
  simp [Value.ownBlock] at hb
  rw [hb]; exact hg
theorem PRow.lt (h : PRow e w g n cap xs bl) : g < w.heap.size ∧ ∀ b ∈ bl, b < w.heap.size := by
  obtain ⟨ps, rest, hl, hE, ho, rfl⟩ := h
  refine ⟨(ho.lt g rfl).2, fun b hb => ?_⟩
  obtain ⟨p, hp, hb⟩ := List.mem_flatMap.1 hb
  obtain ⟨j, hj, rfl⟩ := List.mem_iff_getElem.1 hp
  exact e.lt (hE j ps[j] (xs[j]'(by omega)) (List.getElem?_eq_getElem hj) (List.getElem?_eq_getElem (by omega))) b hb
theorem PRow.below (h : PRow e w g n cap xs bl) (hb : Below w.heap.size w w') : PRow e w' g n cap xs bl := h.keep (hb.block g h.lt.1) (.of_below hb h.lt.2)
/-- Where the next element goes there is a cell, and it may be written. -/
theorem PRow.cell (h : PRow e w g n cap xs bl) (hlt : xs.length < n) (m : Nat) (hm : m < e.wd) : ∃ u, w.cell? ⟨g, xs.length * e.wd + m, none⟩ = some u := by
  obtain ⟨ps, rest, hl, hE, ho, rfl⟩ := h
  have : (xs.length + 1) * e.wd ≤ n * e.wd := Nat.mul_le_mul_right _ hlt
  rw [Nat.add_mul] at this
  have h1 := ho.1
  have hj : xs.length * e.wd + m < n * e.wd := by omega
  rw [ho.cellAt _ hj]
  exact ⟨_, List.getElem?_eq_getElem (by rw [h1]; exact hj)⟩
theorem PRow.frozen (h : PRow e w g n cap xs bl) (j : Nat) : w.frozen? ⟨g, j, none⟩ = false := by
  obtain ⟨ps, rest, hl, hE, ho, rfl⟩ := h
  exact ho.frozenAt _
/-- The next element is written. -/
theorem PRow.put (h : PRow e w g n cap xs bl) (hlt : xs.length < n) (hg : g ∉ bl) {vs : List Value} {x : α} {ib : List Nat} (hE : e.E w vs x ib) (hgi : g ∉ ib) :
    PRow e (putN w g (xs.length * e.wd) vs) g n cap (xs ++ [x]) (bl ++ ib) := by
  obtain ⟨ps, rest, hl, hE0, ho, rfl⟩ := h
  have hwd := orow_wd hl hE0
  have hfl : (ps.flatMap (·.1)).length = xs.length * e.wd := by rw [flat_len hwd, hl]
  have hv := e.len hE
  have hrl : vs.length ≤ rest.length := by
    have h1 := ho.1
    rw [List.length_append, hfl] at h1
    have : (xs.length + 1) * e.wd ≤ n * e.wd := Nat.mul_le_mul_right _ hlt
    rw [Nat.add_mul] at this
    omega
  have hkp : ∀ b' : List Nat, g ∉ b' → Kp b' w (putN w g (xs.length * e.wd) vs) := fun b' hb b hbb => putN_other (k := b) (g := g) (fun h => hb (by rw [← h]; exact hbb)) _ _
  refine ⟨ps ++ [(vs, ib)], rest.drop vs.length, by simp [hl], ?_, ?_, by simp⟩
  · intro j p y hp hy
    by_cases hj : j < xs.length
    · rw [List.getElem?_append_left (by omega)] at hp hy
      exact e.keep (hE0 j p y hp hy) (hkp _ fun hb => hg (List.mem_flatMap.2 ⟨p, List.mem_of_getElem? hp, hb⟩))
    · have hy' := (List.getElem?_eq_some_iff.1 hy).1
      rw [List.length_append, List.length_singleton] at hy'
      have : j = xs.length := by omega
      subst this
      rw [← hl] at hp
      simp at hp hy
      subst hp; subst hy; exact e.keep hE (hkp _ hgi)
  · have := putN_own ho vs (xs.length * e.wd)
    rw [← hfl, setN_app _ _ _ hrl, hfl] at this
    simpa using this
theorem PRow.full (h : PRow e w g n cap xs bl) (hn : xs.length = n) : ORow e w (.slice (some ⟨g, 0, none⟩) xs.length cap) xs (g :: bl) := by
  obtain ⟨ps, rest, hl, hE, ho, rfl⟩ := h
  have hwd := orow_wd hl hE
  have hr : rest = [] := by
    have h1 := ho.1
    rw [List.length_append, flat_len hwd, hl, hn] at h1
    exact List.eq_nil_of_length_eq_zero (by omega)
  subst hr; subst hn
  refine ⟨ps, hl, hE, by simpa using ho, by simp [Value.ownBlock]⟩
end
/-- Fresh and apart: blocks from B on, each once. -/
def Fsh (B : Nat) (bl : List Nat) : Prop := bl.Nodup ∧ ∀ b ∈ bl, B ≤ b
theorem Fsh.nil (B : Nat) : Fsh B [] := ⟨List.nodup_nil, fun _ h => by simp at h⟩
theorem Fsh.mono {B B' : Nat} {bl : List Nat} (h : Fsh B bl) (hB : B' ≤ B) : Fsh B' bl := ⟨h.1, fun b hb => Nat.le_trans hB (h.2 b hb)⟩
theorem Fsh.app {B C : Nat} {bl cl : List Nat} (h : Fsh B bl) (hlt : ∀ b ∈ bl, b < C) (k : Fsh C cl) (hBC : B ≤ C) : Fsh B (bl ++ cl) := by
  refine ⟨List.nodup_append.2 ⟨h.1, k.1, fun a ha b hb e => ?_⟩, fun b hb => ?_⟩
  · subst e; have := hlt a ha; have := k.2 a hb; omega
  · rcases List.mem_append.1 hb with hb | hb
    · exact h.2 b hb
    · exact Nat.le_trans hBC (k.2 b hb)
theorem Fsh.cons {B B' g : Nat} {bl : List Nat} (h : Fsh B bl) (hg : B' ≤ g) (hgB : g < B) : Fsh B' (g :: bl) :=
  ⟨List.nodup_cons.2 ⟨fun hm => by have := h.2 g hm; omega, h.1⟩, fun b hb => by
    rcases List.mem_cons.1 hb with rfl | hb
    · exact hg
    · have := h.2 b hb; omega⟩
end Go.Proofs.YtiolpmhodbefoaaGreatDoor


namespace Go.Proofs.YtiolpmhodbefoaaGreatDoor
open Go.RowKit

theorem ORow.other {α : Type} {e : Elem α} {w : World} {v : Value} {xs : List α} {bl : List Nat} (h : ORow e w v xs bl) {g : Nat} (hg : g ∉ bl) (o : Nat) (u : Value) : ORow e (w.setCell ⟨g, o, none⟩ u) v xs bl :=
  h.keep fun b hb => Below.heap_setCell _ _ _ _ fun he => hg (by subst he; exact hb)
theorem Fsh.not {B g : Nat} {bl : List Nat} (h : Fsh B bl) (hg : g < B) : g ∉ bl := fun hm => by have := h.2 g hm; omega
/-- Three new blocks. -/
structure New3 (w : World) (a b c : Obj) (w' : World) : Prop where
  bel : Below w.heap.size w w'
  size : w'.heap.size = w.heap.size + 1 + 1 + 1
  k0 : w'.heap[w.heap.size]? = some a
  k1 : w'.heap[w.heap.size + 1]? = some b
  k2 : w'.heap[w.heap.size + 1 + 1]? = some c
theorem new3 (w : World) (a b c : Obj) : New3 w a b c (((w.alloc a).alloc b).alloc c) := by
  refine ⟨below_next (below_next (alloc_b w _) (alloc_b _ _)) (alloc_b _ _), by simp, ?_, ?_, ?_⟩
  · exact ((alloc_b _ c).block _ (by simp; omega)).trans (((alloc_b _ b).block _ (by simp)).trans (heap_alloc_new w a))
  · have := heap_alloc_new (w.alloc a) b
    rw [show (w.alloc a).heap.size = w.heap.size + 1 from by simp] at this
    exact ((alloc_b _ c).block _ (by simp)).trans this
  · have := heap_alloc_new ((w.alloc a).alloc b) c
    simpa using this
theorem ORow.putN {α : Type} {e : Elem α} {w : World} {v : Value} {xs : List α} {bl : List Nat} (h : ORow e w v xs bl) {g : Nat} (hg : g ∉ bl) (vs : List Value) (o : Nat) : ORow e (putN w g o vs) v xs bl :=
  h.keep fun b hb => putN_other (fun he => hg (by subst he; exact hb)) _ _
end Go.Proofs.YtiolpmhodbefoaaGreatDoor


namespace Go.Proofs.YtiolpmhodbefoaaGreatDoor
open Go.RowKit

set_option maxRecDepth 100000 in
set_option maxHeartbeats 800000 in
theorem toStep_walk (a0 a1 a2 : Value) (m : PStep) (w : World) (h : stepR.R w [a0, a1, a2] m) (_hs : szStep m ≤ 1048576) :
    Calls Tryz.prog 147 #[.agg #[a0, a1, a2]] w fun e w' => ∃ b0 b1 b2 ib, e = .returned (.agg #[b0, b1, b2]) ∧ stepE.E w' [b0, b1, b2] m ib ∧ Fsh (w.heap.size + 1) ib ∧ Below w.heap.size w w' := by
  obtain ⟨hq, h1⟩ := h
  injection hq with e0 hq; injection hq with e1 hq; injection hq with e2 hq
  subst e0; subst e1; subst e2
  clear hq h1
  go_enter Tryz.func147, Tryz.ntmps147
  go_wp2
  have hA := new3 w (Obj.cells #[.bool m.byI, .string m.name, .int .i64 m.idx] 207) (Obj.cells #[.bool m.byI, .string m.name, .int .i64 m.idx] 131) (Obj.cells #[.bool m.byI, .string m.name, .int .i64 m.idx] 131)
  refine bodyPost_ret (results_cell_row rfl _ _ (w.heap.size + 1) 131 #[_, _, _] (0, 0) _ rfl hA.k1 Tryz.underlying131 rfl (by kernel_rfl)) rfl ?_
  exact ⟨_, _, _, [], rfl, ⟨rfl, rfl⟩, Fsh.nil _, hA.bel⟩
theorem infoStep : (Tryz.prog.info? 131).map (fun i => (i.zero, i.size, i.bytes)) = some (some (.agg #[.bool false, .string ByteArray.empty, .int .i64 0]), 3, 32) := by kernel_rfl
set_option maxRecDepth 100000 in
set_option maxHeartbeats 1600000 in
theorem toSteps_walk (v : Value) (ms : List PStep) (w : World) (h : RRow stepR w v ms) (hs : szSteps ms ≤ 1048576) :
    Calls Tryz.prog 134 #[v] w fun e w' => ∃ v' bl, e = .returned v' ∧ ORow stepE w' v' ms bl ∧ Fsh w.heap.size bl ∧ Below w.heap.size w w' := by
  have hl : ms.length ≤ 1048576 := by unfold szSteps at hs; omega
  have hsz : ∀ k (hk : k < ms.length), szStep ms[k] ≤ 1048576 := fun k hk => by
    have h1 := sum_take_snoc szStep ms k ms[k] (List.getElem?_eq_getElem hk)
    have h2 := sum_take_le (ms.map szStep) (k + 1)
    rw [← List.map_take] at h2
    unfold szSteps at hs; omega
  have HZ := hide hsz
  clear hs hsz
  have H := hide h
  obtain ⟨hm, a, cap, rfl, hrow⟩ := h
  clear hrow hm
  obtain ⟨i0, hi, hz0, hz1, hz2⟩ := info_parts infoStep
  go_enter Tryz.func134, Tryz.ntmps134
  go_wp2_with (at_make; refine wpList_make_full _ rfl _ _ 66 rfl 0 131 i0 (.agg #[.bool false, .string ByteArray.empty, .int .i64 0]) 3 Tryz.underlying66 hi hz0 hz1 .i64 .i64 _ _ ms.length rfl rfl rfl rfl (by rw [hz2]; omega) (by unfold maxLen; omega) (Nat.zero_le _) ?_)
  intro w1 hown hgrow
  have hbel : Below w.heap.size w w1 := (Below.refl _ _).grown hgrow (Nat.le_refl _) (by intro k hk; cases hk)
  have hP : PRow stepE w1 w.heap.size ms.length ms.length [] [] := PRow.start hown
  have hg1 := hP.lt.1
  have HP := hide hP
  have HB := hide hbel
  clear hgrow hi hz0 hz1 hz2 hown hP hbel
  go_wp2
  go_loopw [4] (fun i wr => ∃ k : Nat, k ≤ ms.length ∧ i = .int .i64 k ∧ Below w.heap.size w wr ∧ ∃ bl, PRow stepE wr w.heap.size ms.length ms.length (ms.take k) bl ∧ Fsh (w.heap.size + 1) bl) (fun i _ => ms.length - (intOf i).toNat)
  case atStart => exact ⟨0, Nat.zero_le _, rfl, unhide HB, [], unhide HP, Fsh.nil _⟩
  case round =>
    obtain ⟨k, hk, rfl, hb, bl, hP, hF⟩ := hrel
    by_cases hlt : k < ms.length
    · have hgr := hP.lt.1
      obtain ⟨_, a', cap', he, hrow⟩ := (unhide H).below hb
      injection he with he1 he2 he3; subst he1; subst he3; clear he2
      obtain ⟨b, o, rfl, vs, hR, hc⟩ := hrow k ms[k] (List.getElem?_eq_getElem hlt)
      obtain ⟨a0, a1, a2, rfl⟩ := list3 (stepR.len hR)
      have c0 : wr.cell? ⟨b, o + k * 3, none⟩ = _ := hc 0 _ rfl
      have c1 : wr.cell? ⟨b, o + k * 3 + 1, none⟩ = _ := hc 1 _ rfl
      have c2 : wr.cell? ⟨b, o + k * 3 + 2, none⟩ = _ := hc 2 _ rfl
      have HM := hide (toStep_walk a0 a1 a2 ms[k] wr hR (unhide HZ k hlt))
      have hkl : (ms.take k).length = k := by rw [List.length_take]; omega
      have HPR := hide hP
      have HFB := hide hF
      have HBR := hide hb
      have HKL := hide hkl
      clear hrow hc hR hP hF hb hkl
      go_wp2_with fail
      refine (unhide HM).mono ?_
      rintro e w2 ⟨b0, b1, y2, ib, rfl, hE, hFi, b2⟩
      have P2 := (unhide HPR).below b2
      have hkl := unhide HKL
      have hlt' : (ms.take k).length < ms.length := by rw [hkl]; exact hlt
      obtain ⟨u0, d0⟩ := P2.cell hlt' 0 (by decide)
      rw [hkl] at d0
      have d0 : w2.cell? ⟨w.heap.size, k * 3, none⟩ = some u0 := d0
      obtain ⟨u1, d1⟩ := P2.cell hlt' 1 (by decide)
      rw [hkl] at d1
      have d1 : w2.cell? ⟨w.heap.size, k * 3 + 1, none⟩ = some u1 := d1
      obtain ⟨u2, d2⟩ := P2.cell hlt' 2 (by decide)
      rw [hkl] at d2
      have d2 : w2.cell? ⟨w.heap.size, k * 3 + 2, none⟩ = some u2 := d2
      have fz := P2.frozen
      have hng : w.heap.size ∉ bl := (unhide HFB).not (by omega)
      have hngi : w.heap.size ∉ ib := hFi.not (by omega)
      have HPN := hide (P2.put hlt' hng hE hngi)
      have HFN := hide ((unhide HFB).app (C := wr.heap.size + 1) (fun b hb => by have := (unhide HPR).lt.2 b hb; omega) hFi (by omega))
      have HBN := hide (below_next (unhide HBR) b2)
      have hE0 := hE
      have hbs := hE0.1
      injection hbs with e0 hbs
      subst e0
      injection hbs with e1 hbs
      subst e1
      injection hbs with e2 hbs
      subst e2
      clear hbs
      rw [hkl] at HPN
      clear P2 hE hFi b2 HM hng hngi HPR HFB HBR hkl hlt' HKL
      go_wp2
      go_roundw
      case rel => exact ⟨k + 1, by omega, by go_num, putN_below (unhide HBN) (Nat.le_refl _) [_, _, _] (k * 3), _, by rw [List.take_add_one, List.getElem?_eq_getElem hlt]; exact unhide HPN, unhide HFN⟩
      case measure => simp [intOf]; omega
    · have hk' : k = ms.length := by omega
      subst hk'
      rw [List.take_length] at hP
      go_wp2
      go_ret
      exact ⟨_, _, rfl, hP.full rfl, hF.cons (Nat.le_refl _) (by omega), hb⟩
set_option maxRecDepth 100000 in
set_option maxHeartbeats 1600000 in
theorem toFop_walk (a0 a1 a2 a3 a4 : Value) (m : PFOp) (w : World) (h : fopR.R w [a0, a1, a2, a3, a4] m) (hs : szFop m ≤ 1048576) :
    Calls Tryz.prog 110 #[.agg #[a0, a1, a2, a3, a4]] w fun e w' => ∃ b0 b1 b2 b3 b4 ib, e = .returned (.agg #[b0, b1, b2, b3, b4]) ∧ fopE.E w' [b0, b1, b2, b3, b4] m ib ∧ Fsh (w.heap.size + 1) ib ∧ Below w.heap.size w w' := by
  obtain ⟨q, hq, _, h1⟩ := h
  injection hq with e0 hq
  subst e0
  injection hq with e1 hq
  subst e1
  injection hq with e2 hq
  subst e2
  injection hq with e3 hq
  subst e3
  injection hq with e4 hq
  subst e4
  have hl : szSteps m.steps ≤ 1048576 := by unfold szFop at hs; omega
  clear hs hq
  have H1 := hide h1
  clear h1
  go_enter Tryz.func110, Tryz.ntmps110
  go_wp2_with fail
  have hA := new3 w (Obj.cells #[Value.int IntKind.i64 m.k, Value.int IntKind.i64 m.n, Value.string m.s, Value.bool m.root, a4] 167) (Obj.cells #[Value.int IntKind.i64 0, Value.int IntKind.i64 0, Value.string ⟨#[]⟩, Value.bool false, Value.slice none 0 0] 68) (Obj.cells #[Value.int IntKind.i64 m.k, Value.int IntKind.i64 m.n, Value.string m.s, Value.bool m.root, Value.slice none 0 0] 68)
  generalize (((w.alloc (Obj.cells #[Value.int IntKind.i64 m.k, Value.int IntKind.i64 m.n, Value.string m.s, Value.bool m.root, a4] 167)).alloc (Obj.cells #[Value.int IntKind.i64 0, Value.int IntKind.i64 0, Value.string ⟨#[]⟩, Value.bool false, Value.slice none 0 0] 68)).alloc (Obj.cells #[Value.int IntKind.i64 m.k, Value.int IntKind.i64 m.n, Value.string m.s, Value.bool m.root, Value.slice none 0 0] 68)) = wA at *
  refine (toSteps_walk a4 m.steps wA ((unhide H1).below hA.bel) hl).mono ?_
  rintro e w1 ⟨v', bl, rfl, ho, hf, b1⟩
  obtain ⟨xa, xc, rfl, _, _⟩ := ho.form
  have hsz := hA.size
  have k0 := (b1.block w.heap.size (by omega)).trans hA.k0
  have k1 := (b1.block (w.heap.size + 1) (by omega)).trans hA.k1
  have k2 := (b1.block (w.heap.size + 1 + 1) (by omega)).trans hA.k2
  have c20 : w1.cell? ⟨w.heap.size + 1 + 1, 0, none⟩ = some (.int .i64 m.k) := Lib.cell_of_heap k2 0
  have c21 : w1.cell? ⟨w.heap.size + 1 + 1, 1, none⟩ = some (.int .i64 m.n) := Lib.cell_of_heap k2 1
  have c22 : w1.cell? ⟨w.heap.size + 1 + 1, 2, none⟩ = some (.string m.s) := Lib.cell_of_heap k2 2
  have c23 : w1.cell? ⟨w.heap.size + 1 + 1, 3, none⟩ = some (.bool m.root) := Lib.cell_of_heap k2 3
  have c24 : w1.cell? ⟨w.heap.size + 1 + 1, 4, none⟩ = some (.slice none 0 0) := Lib.cell_of_heap k2 4
  have c10 : w1.cell? ⟨w.heap.size + 1, 0, none⟩ = some (.int .i64 0) := Lib.cell_of_heap k1 0
  have c11 : w1.cell? ⟨w.heap.size + 1, 1, none⟩ = some (.int .i64 0) := Lib.cell_of_heap k1 1
  have c12 : w1.cell? ⟨w.heap.size + 1, 2, none⟩ = some (.string ⟨#[]⟩) := Lib.cell_of_heap k1 2
  have c13 : w1.cell? ⟨w.heap.size + 1, 3, none⟩ = some (.bool false) := Lib.cell_of_heap k1 3
  have c14 : w1.cell? ⟨w.heap.size + 1, 4, none⟩ = some (.slice none 0 0) := Lib.cell_of_heap k1 4
  have f2 := Lib.frozen_of_heap k2
  have f1 := Lib.frozen_of_heap k1
  have HB := hide (below_next hA.bel b1)
  have HO := hide ho
  have HF := hide hf
  have HK := hide k1
  clear b1 ho hf hA H1 k0 k1 k2
  go_wp2
  refine bodyPost_ret (results_cell_row rfl _ _ (w.heap.size + 1) 68 #[_, _, _, _, _] (0, 0) _ rfl (putN_full (w := putN w1 (w.heap.size + 1 + 1) 4 [_]) ((putN_other (by omega) _ _).trans (unhide HK)) [_, _, _, _, _] rfl) Tryz.underlying68 rfl (by kernel_rfl)) rfl ?_
  have n1 := (unhide HF).not (g := w.heap.size + 1) (by omega)
  have n2 := (unhide HF).not (g := w.heap.size + 1 + 1) (by omega)
  refine ⟨_, _, _, _, _, bl, rfl, ⟨_, rfl, ((unhide HO).putN n2 [_] 4).putN n1 [_, _, _, _, _] 0⟩, (unhide HF).mono (by omega), ?_⟩
  exact putN_below (g := w.heap.size + 1) (putN_below (g := w.heap.size + 1 + 1) (unhide HB) (by omega) [_] 4) (by omega) [_, _, _, _, _] 0
theorem infoFop : (Tryz.prog.info? 68).map (fun i => (i.zero, i.size, i.bytes)) = some (some (.agg #[.int .i64 0, .int .i64 0, .string ByteArray.empty, .bool false, .slice none 0 0]), 5, 64) := by kernel_rfl
set_option maxRecDepth 100000 in
set_option maxHeartbeats 1600000 in
theorem toFops_walk (v : Value) (ms : List PFOp) (w : World) (h : RRow fopR w v ms) (hs : szFops ms ≤ 1048576) :
    Calls Tryz.prog 87 #[v] w fun e w' => ∃ v' bl, e = .returned v' ∧ ORow fopE w' v' ms bl ∧ Fsh w.heap.size bl ∧ Below w.heap.size w w' := by
  have hl : ms.length ≤ 1048576 := by unfold szFops at hs; omega
  have hsz : ∀ k (hk : k < ms.length), szFop ms[k] ≤ 1048576 := fun k hk => by
    have h1 := sum_take_snoc szFop ms k ms[k] (List.getElem?_eq_getElem hk)
    have h2 := sum_take_le (ms.map szFop) (k + 1)
    rw [← List.map_take] at h2
    unfold szFops at hs; omega
  have HZ := hide hsz
  clear hs hsz
  have H := hide h
  obtain ⟨hm, a, cap, rfl, hrow⟩ := h
  clear hrow hm
  obtain ⟨i0, hi, hz0, hz1, hz2⟩ := info_parts infoFop
  go_enter Tryz.func87, Tryz.ntmps87
  go_wp2_with (at_make; refine wpList_make_full _ rfl _ _ 44 rfl 0 68 i0 (.agg #[.int .i64 0, .int .i64 0, .string ByteArray.empty, .bool false, .slice none 0 0]) 5 Tryz.underlying44 hi hz0 hz1 .i64 .i64 _ _ ms.length rfl rfl rfl rfl (by rw [hz2]; omega) (by unfold maxLen; omega) (Nat.zero_le _) ?_)
  intro w1 hown hgrow
  have hbel : Below w.heap.size w w1 := (Below.refl _ _).grown hgrow (Nat.le_refl _) (by intro k hk; cases hk)
  have hP : PRow fopE w1 w.heap.size ms.length ms.length [] [] := PRow.start hown
  have hg1 := hP.lt.1
  have HP := hide hP
  have HB := hide hbel
  clear hgrow hi hz0 hz1 hz2 hown hP hbel
  go_wp2
  go_loopw [4] (fun i wr => ∃ k : Nat, k ≤ ms.length ∧ i = .int .i64 k ∧ Below w.heap.size w wr ∧ ∃ bl, PRow fopE wr w.heap.size ms.length ms.length (ms.take k) bl ∧ Fsh (w.heap.size + 1) bl) (fun i _ => ms.length - (intOf i).toNat)
  case atStart => exact ⟨0, Nat.zero_le _, rfl, unhide HB, [], unhide HP, Fsh.nil _⟩
  case round =>
    obtain ⟨k, hk, rfl, hb, bl, hP, hF⟩ := hrel
    by_cases hlt : k < ms.length
    · have hgr := hP.lt.1
      obtain ⟨_, a', cap', he, hrow⟩ := (unhide H).below hb
      injection he with he1 he2 he3; subst he1; subst he3; clear he2
      obtain ⟨b, o, rfl, vs, hR, hc⟩ := hrow k ms[k] (List.getElem?_eq_getElem hlt)
      obtain ⟨a0, a1, a2, a3, a4, rfl⟩ := list5 (fopR.len hR)
      have c0 : wr.cell? ⟨b, o + k * 5, none⟩ = _ := hc 0 _ rfl
      have c1 : wr.cell? ⟨b, o + k * 5 + 1, none⟩ = _ := hc 1 _ rfl
      have c2 : wr.cell? ⟨b, o + k * 5 + 2, none⟩ = _ := hc 2 _ rfl
      have c3 : wr.cell? ⟨b, o + k * 5 + 3, none⟩ = _ := hc 3 _ rfl
      have c4 : wr.cell? ⟨b, o + k * 5 + 4, none⟩ = _ := hc 4 _ rfl
      have HM := hide (toFop_walk a0 a1 a2 a3 a4 ms[k] wr hR (unhide HZ k hlt))
      have hkl : (ms.take k).length = k := by rw [List.length_take]; omega
      have HPR := hide hP
      have HFB := hide hF
      have HBR := hide hb
      have HKL := hide hkl
      clear hrow hc hR hP hF hb hkl
      go_wp2_with fail
      refine (unhide HM).mono ?_
      rintro e w2 ⟨b0, b1, y2, b3, b4, ib, rfl, hE, hFi, b2⟩
      have P2 := (unhide HPR).below b2
      have hkl := unhide HKL
      have hlt' : (ms.take k).length < ms.length := by rw [hkl]; exact hlt
      obtain ⟨u0, d0⟩ := P2.cell hlt' 0 (by decide)
      rw [hkl] at d0
      have d0 : w2.cell? ⟨w.heap.size, k * 5, none⟩ = some u0 := d0
      obtain ⟨u1, d1⟩ := P2.cell hlt' 1 (by decide)
      rw [hkl] at d1
      have d1 : w2.cell? ⟨w.heap.size, k * 5 + 1, none⟩ = some u1 := d1
      obtain ⟨u2, d2⟩ := P2.cell hlt' 2 (by decide)
      rw [hkl] at d2
      have d2 : w2.cell? ⟨w.heap.size, k * 5 + 2, none⟩ = some u2 := d2
      obtain ⟨u3, d3⟩ := P2.cell hlt' 3 (by decide)
      rw [hkl] at d3
      have d3 : w2.cell? ⟨w.heap.size, k * 5 + 3, none⟩ = some u3 := d3
      obtain ⟨u4, d4⟩ := P2.cell hlt' 4 (by decide)
      rw [hkl] at d4
      have d4 : w2.cell? ⟨w.heap.size, k * 5 + 4, none⟩ = some u4 := d4
      have fz := P2.frozen
      have hng : w.heap.size ∉ bl := (unhide HFB).not (by omega)
      have hngi : w.heap.size ∉ ib := hFi.not (by omega)
      have HPN := hide (P2.put hlt' hng hE hngi)
      have HFN := hide ((unhide HFB).app (C := wr.heap.size + 1) (fun b hb => by have := (unhide HPR).lt.2 b hb; omega) hFi (by omega))
      have HBN := hide (below_next (unhide HBR) b2)
      have hE0 := hE
      obtain ⟨q0, hbs, hE2⟩ := hE0
      injection hbs with e0 hbs
      subst e0
      injection hbs with e1 hbs
      subst e1
      injection hbs with e2 hbs
      subst e2
      injection hbs with e3 hbs
      subst e3
      injection hbs with e4 hbs
      subst e4
      clear hbs
      obtain ⟨xa0, xc0, rfl, _, _⟩ := hE2.form
      clear hE2
      rw [hkl] at HPN
      clear P2 hE hFi b2 HM hng hngi HPR HFB HBR hkl hlt' HKL
      go_wp2
      go_roundw
      case rel => exact ⟨k + 1, by omega, by go_num, putN_below (unhide HBN) (Nat.le_refl _) [_, _, _, _, _] (k * 5), _, by rw [List.take_add_one, List.getElem?_eq_getElem hlt]; exact unhide HPN, unhide HFN⟩
      case measure => simp [intOf]; omega
    · have hk' : k = ms.length := by omega
      subst hk'
      rw [List.take_length] at hP
      go_wp2
      go_ret
      exact ⟨_, _, rfl, hP.full rfl, hF.cons (Nat.le_refl _) (by omega), hb⟩
set_option maxRecDepth 100000 in
set_option maxHeartbeats 1600000 in
theorem toSel_walk (a0 a1 a2 a3 a4 a5 a6 a7 a8 : Value) (m : PSel) (w : World) (h : selR.R w [a0, a1, a2, a3, a4, a5, a6, a7, a8] m) (hs : szSel m ≤ 1048576) :
    Calls Tryz.prog 65 #[.agg #[a0, a1, a2, a3, a4, a5, a6, a7, a8]] w fun e w' => ∃ b0 b1 b2 b3 b4 b5 b6 b7 b8 ib, e = .returned (.agg #[b0, b1, b2, b3, b4, b5, b6, b7, b8]) ∧ selE.E w' [b0, b1, b2, b3, b4, b5, b6, b7, b8] m ib ∧ Fsh (w.heap.size + 1) ib ∧ Below w.heap.size w w' := by
  obtain ⟨q, hq, _, h1⟩ := h
  injection hq with e0 hq
  subst e0
  injection hq with e1 hq
  subst e1
  injection hq with e2 hq
  subst e2
  injection hq with e3 hq
  subst e3
  injection hq with e4 hq
  subst e4
  injection hq with e5 hq
  subst e5
  injection hq with e6 hq
  subst e6
  injection hq with e7 hq
  subst e7
  injection hq with e8 hq
  subst e8
  have hl : szFops m.cond ≤ 1048576 := by unfold szSel at hs; omega
  clear hs hq
  have H1 := hide h1
  clear h1
  go_enter Tryz.func65, Tryz.ntmps65
  go_wp2_with fail
  have hA := new3 w (Obj.cells #[Value.int IntKind.i64 m.k, Value.string m.name, Value.bool m.hasA, Value.bool m.hasB, Value.bool m.hasC, Value.int IntKind.i64 m.a, Value.int IntKind.i64 m.b, Value.int IntKind.i64 m.c, a8] 120) (Obj.cells #[Value.int IntKind.i64 0, Value.string ⟨#[]⟩, Value.bool false, Value.bool false, Value.bool false, Value.int IntKind.i64 0, Value.int IntKind.i64 0, Value.int IntKind.i64 0, Value.slice none 0 0] 46) (Obj.cells #[Value.int IntKind.i64 m.k, Value.string m.name, Value.bool m.hasA, Value.bool m.hasB, Value.bool m.hasC, Value.int IntKind.i64 m.a, Value.int IntKind.i64 m.b, Value.int IntKind.i64 m.c, Value.slice none 0 0] 46)
  generalize (((w.alloc (Obj.cells #[Value.int IntKind.i64 m.k, Value.string m.name, Value.bool m.hasA, Value.bool m.hasB, Value.bool m.hasC, Value.int IntKind.i64 m.a, Value.int IntKind.i64 m.b, Value.int IntKind.i64 m.c, a8] 120)).alloc (Obj.cells #[Value.int IntKind.i64 0, Value.string ⟨#[]⟩, Value.bool false, Value.bool false, Value.bool false, Value.int IntKind.i64 0, Value.int IntKind.i64 0, Value.int IntKind.i64 0, Value.slice none 0 0] 46)).alloc (Obj.cells #[Value.int IntKind.i64 m.k, Value.string m.name, Value.bool m.hasA, Value.bool m.hasB, Value.bool m.hasC, Value.int IntKind.i64 m.a, Value.int IntKind.i64 m.b, Value.int IntKind.i64 m.c, Value.slice none 0 0] 46)) = wA at *
  refine (toFops_walk a8 m.cond wA ((unhide H1).below hA.bel) hl).mono ?_
  rintro e w1 ⟨v', bl, rfl, ho, hf, b1⟩
  obtain ⟨xa, xc, rfl, _, _⟩ := ho.form
  have hsz := hA.size
  have k0 := (b1.block w.heap.size (by omega)).trans hA.k0
  have k1 := (b1.block (w.heap.size + 1) (by omega)).trans hA.k1
  have k2 := (b1.block (w.heap.size + 1 + 1) (by omega)).trans hA.k2
  have c20 : w1.cell? ⟨w.heap.size + 1 + 1, 0, none⟩ = some (.int .i64 m.k) := Lib.cell_of_heap k2 0
  have c21 : w1.cell? ⟨w.heap.size + 1 + 1, 1, none⟩ = some (.string m.name) := Lib.cell_of_heap k2 1
  have c22 : w1.cell? ⟨w.heap.size + 1 + 1, 2, none⟩ = some (.bool m.hasA) := Lib.cell_of_heap k2 2
  have c23 : w1.cell? ⟨w.heap.size + 1 + 1, 3, none⟩ = some (.bool m.hasB) := Lib.cell_of_heap k2 3
  have c24 : w1.cell? ⟨w.heap.size + 1 + 1, 4, none⟩ = some (.bool m.hasC) := Lib.cell_of_heap k2 4
  have c25 : w1.cell? ⟨w.heap.size + 1 + 1, 5, none⟩ = some (.int .i64 m.a) := Lib.cell_of_heap k2 5
  have c26 : w1.cell? ⟨w.heap.size + 1 + 1, 6, none⟩ = some (.int .i64 m.b) := Lib.cell_of_heap k2 6
  have c27 : w1.cell? ⟨w.heap.size + 1 + 1, 7, none⟩ = some (.int .i64 m.c) := Lib.cell_of_heap k2 7
  have c28 : w1.cell? ⟨w.heap.size + 1 + 1, 8, none⟩ = some (.slice none 0 0) := Lib.cell_of_heap k2 8
  have c10 : w1.cell? ⟨w.heap.size + 1, 0, none⟩ = some (.int .i64 0) := Lib.cell_of_heap k1 0
  have c11 : w1.cell? ⟨w.heap.size + 1, 1, none⟩ = some (.string ⟨#[]⟩) := Lib.cell_of_heap k1 1
  have c12 : w1.cell? ⟨w.heap.size + 1, 2, none⟩ = some (.bool false) := Lib.cell_of_heap k1 2
  have c13 : w1.cell? ⟨w.heap.size + 1, 3, none⟩ = some (.bool false) := Lib.cell_of_heap k1 3
  have c14 : w1.cell? ⟨w.heap.size + 1, 4, none⟩ = some (.bool false) := Lib.cell_of_heap k1 4
  have c15 : w1.cell? ⟨w.heap.size + 1, 5, none⟩ = some (.int .i64 0) := Lib.cell_of_heap k1 5
  have c16 : w1.cell? ⟨w.heap.size + 1, 6, none⟩ = some (.int .i64 0) := Lib.cell_of_heap k1 6
  have c17 : w1.cell? ⟨w.heap.size + 1, 7, none⟩ = some (.int .i64 0) := Lib.cell_of_heap k1 7
  have c18 : w1.cell? ⟨w.heap.size + 1, 8, none⟩ = some (.slice none 0 0) := Lib.cell_of_heap k1 8
  have f2 := Lib.frozen_of_heap k2
  have f1 := Lib.frozen_of_heap k1
  have HB := hide (below_next hA.bel b1)
  have HO := hide ho
  have HF := hide hf
  have HK := hide k1
  clear b1 ho hf hA H1 k0 k1 k2
  go_wp2
  refine bodyPost_ret (results_cell_row rfl _ _ (w.heap.size + 1) 46 #[_, _, _, _, _, _, _, _, _] (0, 0) _ rfl (putN_full (w := putN w1 (w.heap.size + 1 + 1) 8 [_]) ((putN_other (by omega) _ _).trans (unhide HK)) [_, _, _, _, _, _, _, _, _] rfl) Tryz.underlying46 rfl (by kernel_rfl)) rfl ?_
  have n1 := (unhide HF).not (g := w.heap.size + 1) (by omega)
  have n2 := (unhide HF).not (g := w.heap.size + 1 + 1) (by omega)
  refine ⟨_, _, _, _, _, _, _, _, _, bl, rfl, ⟨_, rfl, ((unhide HO).putN n2 [_] 8).putN n1 [_, _, _, _, _, _, _, _, _] 0⟩, (unhide HF).mono (by omega), ?_⟩
  exact putN_below (g := w.heap.size + 1) (putN_below (g := w.heap.size + 1 + 1) (unhide HB) (by omega) [_] 8) (by omega) [_, _, _, _, _, _, _, _, _] 0
theorem infoSel : (Tryz.prog.info? 46).map (fun i => (i.zero, i.size, i.bytes)) = some (some (.agg #[.int .i64 0, .string ByteArray.empty, .bool false, .bool false, .bool false, .int .i64 0, .int .i64 0, .int .i64 0, .slice none 0 0]), 9, 80) := by kernel_rfl
set_option maxRecDepth 100000 in
set_option maxHeartbeats 1600000 in
theorem toSels_walk (v : Value) (ms : List PSel) (w : World) (h : RRow selR w v ms) (hs : szSels ms ≤ 1048576) :
    Calls Tryz.prog 38 #[v] w fun e w' => ∃ v' bl, e = .returned v' ∧ ORow selE w' v' ms bl ∧ Fsh w.heap.size bl ∧ Below w.heap.size w w' := by
  have hl : ms.length ≤ 1048576 := by unfold szSels at hs; omega
  have hsz : ∀ k (hk : k < ms.length), szSel ms[k] ≤ 1048576 := fun k hk => by
    have h1 := sum_take_snoc szSel ms k ms[k] (List.getElem?_eq_getElem hk)
    have h2 := sum_take_le (ms.map szSel) (k + 1)
    rw [← List.map_take] at h2
    unfold szSels at hs; omega
  have HZ := hide hsz
  clear hs hsz
  have H := hide h
  obtain ⟨hm, a, cap, rfl, hrow⟩ := h
  clear hrow hm
  obtain ⟨i0, hi, hz0, hz1, hz2⟩ := info_parts infoSel
  go_enter Tryz.func38, Tryz.ntmps38
  go_wp2_with (at_make; refine wpList_make_full _ rfl _ _ 40 rfl 0 46 i0 (.agg #[.int .i64 0, .string ByteArray.empty, .bool false, .bool false, .bool false, .int .i64 0, .int .i64 0, .int .i64 0, .slice none 0 0]) 9 Tryz.underlying40 hi hz0 hz1 .i64 .i64 _ _ ms.length rfl rfl rfl rfl (by rw [hz2]; omega) (by unfold maxLen; omega) (Nat.zero_le _) ?_)
  intro w1 hown hgrow
  have hbel : Below w.heap.size w w1 := (Below.refl _ _).grown hgrow (Nat.le_refl _) (by intro k hk; cases hk)
  have hP : PRow selE w1 w.heap.size ms.length ms.length [] [] := PRow.start hown
  have hg1 := hP.lt.1
  have HP := hide hP
  have HB := hide hbel
  clear hgrow hi hz0 hz1 hz2 hown hP hbel
  go_wp2
  go_loopw [4] (fun i wr => ∃ k : Nat, k ≤ ms.length ∧ i = .int .i64 k ∧ Below w.heap.size w wr ∧ ∃ bl, PRow selE wr w.heap.size ms.length ms.length (ms.take k) bl ∧ Fsh (w.heap.size + 1) bl) (fun i _ => ms.length - (intOf i).toNat)
  case atStart => exact ⟨0, Nat.zero_le _, rfl, unhide HB, [], unhide HP, Fsh.nil _⟩
  case round =>
    obtain ⟨k, hk, rfl, hb, bl, hP, hF⟩ := hrel
    by_cases hlt : k < ms.length
    · have hgr := hP.lt.1
      obtain ⟨_, a', cap', he, hrow⟩ := (unhide H).below hb
      injection he with he1 he2 he3; subst he1; subst he3; clear he2
      obtain ⟨b, o, rfl, vs, hR, hc⟩ := hrow k ms[k] (List.getElem?_eq_getElem hlt)
      obtain ⟨a0, a1, a2, a3, a4, a5, a6, a7, a8, rfl⟩ := list9 (selR.len hR)
      have c0 : wr.cell? ⟨b, o + k * 9, none⟩ = _ := hc 0 _ rfl
      have c1 : wr.cell? ⟨b, o + k * 9 + 1, none⟩ = _ := hc 1 _ rfl
      have c2 : wr.cell? ⟨b, o + k * 9 + 2, none⟩ = _ := hc 2 _ rfl
      have c3 : wr.cell? ⟨b, o + k * 9 + 3, none⟩ = _ := hc 3 _ rfl
      have c4 : wr.cell? ⟨b, o + k * 9 + 4, none⟩ = _ := hc 4 _ rfl
      have c5 : wr.cell? ⟨b, o + k * 9 + 5, none⟩ = _ := hc 5 _ rfl
      have c6 : wr.cell? ⟨b, o + k * 9 + 6, none⟩ = _ := hc 6 _ rfl
      have c7 : wr.cell? ⟨b, o + k * 9 + 7, none⟩ = _ := hc 7 _ rfl
      have c8 : wr.cell? ⟨b, o + k * 9 + 8, none⟩ = _ := hc 8 _ rfl
      have HM := hide (toSel_walk a0 a1 a2 a3 a4 a5 a6 a7 a8 ms[k] wr hR (unhide HZ k hlt))
      have hkl : (ms.take k).length = k := by rw [List.length_take]; omega
      have HPR := hide hP
      have HFB := hide hF
      have HBR := hide hb
      have HKL := hide hkl
      clear hrow hc hR hP hF hb hkl
      go_wp2_with fail
      refine (unhide HM).mono ?_
      rintro e w2 ⟨b0, b1, y2, b3, b4, b5, b6, b7, b8, ib, rfl, hE, hFi, b2⟩
      have P2 := (unhide HPR).below b2
      have hkl := unhide HKL
      have hlt' : (ms.take k).length < ms.length := by rw [hkl]; exact hlt
      obtain ⟨u0, d0⟩ := P2.cell hlt' 0 (by decide)
      rw [hkl] at d0
      have d0 : w2.cell? ⟨w.heap.size, k * 9, none⟩ = some u0 := d0
      obtain ⟨u1, d1⟩ := P2.cell hlt' 1 (by decide)
      rw [hkl] at d1
      have d1 : w2.cell? ⟨w.heap.size, k * 9 + 1, none⟩ = some u1 := d1
      obtain ⟨u2, d2⟩ := P2.cell hlt' 2 (by decide)
      rw [hkl] at d2
      have d2 : w2.cell? ⟨w.heap.size, k * 9 + 2, none⟩ = some u2 := d2
      obtain ⟨u3, d3⟩ := P2.cell hlt' 3 (by decide)
      rw [hkl] at d3
      have d3 : w2.cell? ⟨w.heap.size, k * 9 + 3, none⟩ = some u3 := d3
      obtain ⟨u4, d4⟩ := P2.cell hlt' 4 (by decide)
      rw [hkl] at d4
      have d4 : w2.cell? ⟨w.heap.size, k * 9 + 4, none⟩ = some u4 := d4
      obtain ⟨u5, d5⟩ := P2.cell hlt' 5 (by decide)
      rw [hkl] at d5
      have d5 : w2.cell? ⟨w.heap.size, k * 9 + 5, none⟩ = some u5 := d5
      obtain ⟨u6, d6⟩ := P2.cell hlt' 6 (by decide)
      rw [hkl] at d6
      have d6 : w2.cell? ⟨w.heap.size, k * 9 + 6, none⟩ = some u6 := d6
      obtain ⟨u7, d7⟩ := P2.cell hlt' 7 (by decide)
      rw [hkl] at d7
      have d7 : w2.cell? ⟨w.heap.size, k * 9 + 7, none⟩ = some u7 := d7
      obtain ⟨u8, d8⟩ := P2.cell hlt' 8 (by decide)
      rw [hkl] at d8
      have d8 : w2.cell? ⟨w.heap.size, k * 9 + 8, none⟩ = some u8 := d8
      have fz := P2.frozen
      have hng : w.heap.size ∉ bl := (unhide HFB).not (by omega)
      have hngi : w.heap.size ∉ ib := hFi.not (by omega)
      have HPN := hide (P2.put hlt' hng hE hngi)
      have HFN := hide ((unhide HFB).app (C := wr.heap.size + 1) (fun b hb => by have := (unhide HPR).lt.2 b hb; omega) hFi (by omega))
      have HBN := hide (below_next (unhide HBR) b2)
      have hE0 := hE
      obtain ⟨q0, hbs, hE2⟩ := hE0
      injection hbs with e0 hbs
      subst e0
      injection hbs with e1 hbs
      subst e1
      injection hbs with e2 hbs
      subst e2
      injection hbs with e3 hbs
      subst e3
      injection hbs with e4 hbs
      subst e4
      injection hbs with e5 hbs
      subst e5
      injection hbs with e6 hbs
      subst e6
      injection hbs with e7 hbs
      subst e7
      injection hbs with e8 hbs
      subst e8
      clear hbs
      obtain ⟨xa0, xc0, rfl, _, _⟩ := hE2.form
      clear hE2
      rw [hkl] at HPN
      clear P2 hE hFi b2 HM hng hngi HPR HFB HBR hkl hlt' HKL
      go_wp2
      go_roundw
      case rel => exact ⟨k + 1, by omega, by go_num, putN_below (unhide HBN) (Nat.le_refl _) [_, _, _, _, _, _, _, _, _] (k * 9), _, by rw [List.take_add_one, List.getElem?_eq_getElem hlt]; exact unhide HPN, unhide HFN⟩
      case measure => simp [intOf]; omega
    · have hk' : k = ms.length := by omega
      subst hk'
      rw [List.take_length] at hP
      go_wp2
      go_ret
      exact ⟨_, _, rfl, hP.full rfl, hF.cons (Nat.le_refl _) (by omega), hb⟩
set_option maxRecDepth 100000 in
set_option maxHeartbeats 1600000 in
theorem toSeg_walk (a0 a1 : Value) (m : PSeg) (w : World) (h : segR.R w [a0, a1] m) (hs : szSeg m ≤ 1048576) :
    Calls Tryz.prog 18 #[.agg #[a0, a1]] w fun e w' => ∃ b0 b1 ib, e = .returned (.agg #[b0, b1]) ∧ segE.E w' [b0, b1] m ib ∧ Fsh (w.heap.size + 1) ib ∧ Below w.heap.size w w' := by
  obtain ⟨q, hq, h1⟩ := h
  injection hq with e0 hq
  subst e0
  injection hq with e1 hq
  subst e1
  have hl : szSels m.sels ≤ 1048576 := by unfold szSeg at hs; omega
  clear hs hq
  have H1 := hide h1
  clear h1
  go_enter Tryz.func18, Tryz.ntmps18
  go_wp2_with fail
  have hA := new3 w (Obj.cells #[Value.bool m.deep, a1] 39) (Obj.cells #[Value.bool false, Value.slice none 0 0] 42) (Obj.cells #[Value.bool m.deep, Value.slice none 0 0] 42)
  generalize (((w.alloc (Obj.cells #[Value.bool m.deep, a1] 39)).alloc (Obj.cells #[Value.bool false, Value.slice none 0 0] 42)).alloc (Obj.cells #[Value.bool m.deep, Value.slice none 0 0] 42)) = wA at *
  refine (toSels_walk a1 m.sels wA ((unhide H1).below hA.bel) hl).mono ?_
  rintro e w1 ⟨v', bl, rfl, ho, hf, b1⟩
  obtain ⟨xa, xc, rfl, _, _⟩ := ho.form
  have hsz := hA.size
  have k0 := (b1.block w.heap.size (by omega)).trans hA.k0
  have k1 := (b1.block (w.heap.size + 1) (by omega)).trans hA.k1
  have k2 := (b1.block (w.heap.size + 1 + 1) (by omega)).trans hA.k2
  have c20 : w1.cell? ⟨w.heap.size + 1 + 1, 0, none⟩ = some (.bool m.deep) := Lib.cell_of_heap k2 0
  have c21 : w1.cell? ⟨w.heap.size + 1 + 1, 1, none⟩ = some (.slice none 0 0) := Lib.cell_of_heap k2 1
  have c10 : w1.cell? ⟨w.heap.size + 1, 0, none⟩ = some (.bool false) := Lib.cell_of_heap k1 0
  have c11 : w1.cell? ⟨w.heap.size + 1, 1, none⟩ = some (.slice none 0 0) := Lib.cell_of_heap k1 1
  have f2 := Lib.frozen_of_heap k2
  have f1 := Lib.frozen_of_heap k1
  have HB := hide (below_next hA.bel b1)
  have HO := hide ho
  have HF := hide hf
  have HK := hide k1
  clear b1 ho hf hA H1 k0 k1 k2
  go_wp2
  refine bodyPost_ret (results_cell_row rfl _ _ (w.heap.size + 1) 42 #[_, _] (0, 0) _ rfl (putN_full (w := putN w1 (w.heap.size + 1 + 1) 1 [_]) ((putN_other (by omega) _ _).trans (unhide HK)) [_, _] rfl) Tryz.underlying42 rfl (by kernel_rfl)) rfl ?_
  have n1 := (unhide HF).not (g := w.heap.size + 1) (by omega)
  have n2 := (unhide HF).not (g := w.heap.size + 1 + 1) (by omega)
  refine ⟨_, _, bl, rfl, ⟨_, rfl, ((unhide HO).putN n2 [_] 1).putN n1 [_, _] 0⟩, (unhide HF).mono (by omega), ?_⟩
  exact putN_below (g := w.heap.size + 1) (putN_below (g := w.heap.size + 1 + 1) (unhide HB) (by omega) [_] 1) (by omega) [_, _] 0
theorem infoSeg : (Tryz.prog.info? 42).map (fun i => (i.zero, i.size, i.bytes)) = some (some (.agg #[.bool false, .slice none 0 0]), 2, 32) := by kernel_rfl
set_option maxRecDepth 100000 in
set_option maxHeartbeats 1600000 in
theorem toSegs_walk (v : Value) (ms : List PSeg) (w : World) (h : RRow segR w v ms) (hs : szSegs ms ≤ 1048576) :
    Calls Tryz.prog 7 #[v] w fun e w' => ∃ v' bl, e = .returned v' ∧ ORow segE w' v' ms bl ∧ Fsh w.heap.size bl ∧ Below w.heap.size w w' := by
  have hl : ms.length ≤ 1048576 := by unfold szSegs at hs; omega
  have hsz : ∀ k (hk : k < ms.length), szSeg ms[k] ≤ 1048576 := fun k hk => by
    have h1 := sum_take_snoc szSeg ms k ms[k] (List.getElem?_eq_getElem hk)
    have h2 := sum_take_le (ms.map szSeg) (k + 1)
    rw [← List.map_take] at h2
    unfold szSegs at hs; omega
  have HZ := hide hsz
  clear hs hsz
  have H := hide h
  obtain ⟨hm, a, cap, rfl, hrow⟩ := h
  clear hrow hm
  obtain ⟨i0, hi, hz0, hz1, hz2⟩ := info_parts infoSeg
  go_enter Tryz.func7, Tryz.ntmps7
  go_wp2_with (at_make; refine wpList_make_full _ rfl _ _ 26 rfl 0 42 i0 (.agg #[.bool false, .slice none 0 0]) 2 Tryz.underlying26 hi hz0 hz1 .i64 .i64 _ _ ms.length rfl rfl rfl rfl (by rw [hz2]; omega) (by unfold maxLen; omega) (Nat.zero_le _) ?_)
  intro w1 hown hgrow
  have hbel : Below w.heap.size w w1 := (Below.refl _ _).grown hgrow (Nat.le_refl _) (by intro k hk; cases hk)
  have hP : PRow segE w1 w.heap.size ms.length ms.length [] [] := PRow.start hown
  have hg1 := hP.lt.1
  have HP := hide hP
  have HB := hide hbel
  clear hgrow hi hz0 hz1 hz2 hown hP hbel
  go_wp2
  go_loopw [4] (fun i wr => ∃ k : Nat, k ≤ ms.length ∧ i = .int .i64 k ∧ Below w.heap.size w wr ∧ ∃ bl, PRow segE wr w.heap.size ms.length ms.length (ms.take k) bl ∧ Fsh (w.heap.size + 1) bl) (fun i _ => ms.length - (intOf i).toNat)
  case atStart => exact ⟨0, Nat.zero_le _, rfl, unhide HB, [], unhide HP, Fsh.nil _⟩
  case round =>
    obtain ⟨k, hk, rfl, hb, bl, hP, hF⟩ := hrel
    by_cases hlt : k < ms.length
    · have hgr := hP.lt.1
      obtain ⟨_, a', cap', he, hrow⟩ := (unhide H).below hb
      injection he with he1 he2 he3; subst he1; subst he3; clear he2
      obtain ⟨b, o, rfl, vs, hR, hc⟩ := hrow k ms[k] (List.getElem?_eq_getElem hlt)
      obtain ⟨a0, a1, rfl⟩ := list2 (segR.len hR)
      have c0 : wr.cell? ⟨b, o + k * 2, none⟩ = _ := hc 0 _ rfl
      have c1 : wr.cell? ⟨b, o + k * 2 + 1, none⟩ = _ := hc 1 _ rfl
      have HM := hide (toSeg_walk a0 a1 ms[k] wr hR (unhide HZ k hlt))
      have hkl : (ms.take k).length = k := by rw [List.length_take]; omega
      have HPR := hide hP
      have HFB := hide hF
      have HBR := hide hb
      have HKL := hide hkl
      clear hrow hc hR hP hF hb hkl
      go_wp2_with fail
      refine (unhide HM).mono ?_
      rintro e w2 ⟨b0, b1, ib, rfl, hE, hFi, b2⟩
      have P2 := (unhide HPR).below b2
      have hkl := unhide HKL
      have hlt' : (ms.take k).length < ms.length := by rw [hkl]; exact hlt
      obtain ⟨u0, d0⟩ := P2.cell hlt' 0 (by decide)
      rw [hkl] at d0
      have d0 : w2.cell? ⟨w.heap.size, k * 2, none⟩ = some u0 := d0
      obtain ⟨u1, d1⟩ := P2.cell hlt' 1 (by decide)
      rw [hkl] at d1
      have d1 : w2.cell? ⟨w.heap.size, k * 2 + 1, none⟩ = some u1 := d1
      have fz := P2.frozen
      have hng : w.heap.size ∉ bl := (unhide HFB).not (by omega)
      have hngi : w.heap.size ∉ ib := hFi.not (by omega)
      have HPN := hide (P2.put hlt' hng hE hngi)
      have HFN := hide ((unhide HFB).app (C := wr.heap.size + 1) (fun b hb => by have := (unhide HPR).lt.2 b hb; omega) hFi (by omega))
      have HBN := hide (below_next (unhide HBR) b2)
      have hE0 := hE
      obtain ⟨q0, hbs, hE2⟩ := hE0
      injection hbs with e0 hbs
      subst e0
      injection hbs with e1 hbs
      subst e1
      clear hbs
      obtain ⟨xa0, xc0, rfl, _, _⟩ := hE2.form
      clear hE2
      rw [hkl] at HPN
      clear P2 hE hFi b2 HM hng hngi HPR HFB HBR hkl hlt' HKL
      go_wp2
      go_roundw
      case rel => exact ⟨k + 1, by omega, by go_num, putN_below (unhide HBN) (Nat.le_refl _) [_, _] (k * 2), _, by rw [List.take_add_one, List.getElem?_eq_getElem hlt]; exact unhide HPN, unhide HFN⟩
      case measure => simp [intOf]; omega
    · have hk' : k = ms.length := by omega
      subst hk'
      rw [List.take_length] at hP
      go_wp2
      go_ret
      exact ⟨_, _, rfl, hP.full rfl, hF.cons (Nat.le_refl _) (by omega), hb⟩
end Go.Proofs.YtiolpmhodbefoaaGreatDoor

