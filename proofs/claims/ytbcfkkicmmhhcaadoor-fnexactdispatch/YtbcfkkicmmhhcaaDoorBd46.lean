import Derived.Test.YtbcfkkicmmhhcaaDoorBd45
import Derived.Test.YtbcfkkicmmhhcaaDoorBd44
import Derived.Test.YtbcfkkicmmhhcaaDoorBd24
import Derived.Test.YtbcfkkicmmhhcaaDoorBd42
import Derived.Test.YtbcfkkicmmhhcaaDoorBd32
namespace Go.Proofs.YtbcfkkicmmhhcaaDoor
open Go.RowKit

/-- The model's Dispatch at work: the argument, the result's cell, the copy whose watches are told. -/
structure SD (w wr : World) (F O : Nat) (hv rv : Obj) (pv qv : Value) (xs : List Wat) (ns : List Nws) (b1 b2 : List Nat) : Prop where
  bel : Below w.heap.size w wr
  kh : wr.heap[w.heap.size]? = some hv
  kr : wr.heap[w.heap.size + 1]? = some rv
  ko : wr.heap[O]? = some (.cells #[pv, qv] 39 (0, 0))
  o1 : ORow watE wr pv xs b1
  o2 : ORow nwsE wr qv ns b2
  fs : Fsh F (b1 ++ b2)
  hF : w.heap.size + 2 ≤ F
  hO : F ≤ O
theorem SD.step {w wr : World} {F O : Nat} {hv rv : Obj} {pv qv : Value} {xs : List Wat} {ns : List Nws} {b1 b2 : List Nat} (h : SD w wr F O hv rv pv qv xs ns b1 b2) {gp n pc : Nat} (hpv : pv = .slice (some ⟨gp, 0, none⟩) n pc) {k : Nat} {m : Wat} (hx : xs[k]? = some m) :
    ∃ q jb, ORow msgE wr q m.queue jb ∧ Fsh F jb ∧ (∀ (j : Nat) u, [Value.int .i64 m.client, .string m.ptr, .int .i64 m.cap, .int .i64 m.since, .bool m.closed, q][j]? = some u → wr.cell? ⟨gp, k * 6 + j, none⟩ = some u) ∧
      ∀ w' m' q' jb', ORow msgE w' q' m'.queue jb' → Fsh F jb' → (∀ b ∈ jb', b ∈ jb ∨ wr.heap.size ≤ b) → Fr q.ownBlock.toList wr w' →
        (∀ (j : Nat) u, [Value.int .i64 m.client, .string m.ptr, .int .i64 m.cap, .int .i64 m.since, .bool m.closed, q][j]? = some u → w'.cell? ⟨gp, k * 6 + j, none⟩ = some u ∧ w'.frozen? ⟨gp, k * 6 + j, none⟩ = false) ∧
        w'.heap[O]? = some (.cells #[pv, qv] 39 (0, 0)) ∧ ∃ b1', SD w (putN w' gp (k * 6) [.int .i64 m'.client, .string m'.ptr, .int .i64 m'.cap, .int .i64 m'.since, .bool m'.closed, q']) F O hv rv pv qv (xs.set k m') ns b1' b2 := by
  subst hpv
  obtain ⟨cb, hcb⟩ := h.o1.split
  have hcb' : b1 = gp :: cb := hcb
  subst hcb'
  have hfs := h.fs
  have hd := hfs.1
  rw [List.nodup_append] at hd
  obtain ⟨vs, ib, hE, hc, hsub, hnd, hkeep, hnew⟩ := orow_replace h.o1 hd.1 hx
  obtain ⟨q, rfl, oq⟩ := hE
  have hgp : gp ∉ cb := (List.nodup_cons.1 hd.1).1
  have hgl : gp < wr.heap.size := h.o1.lt gp List.mem_cons_self
  have hOn : O ∉ gp :: cb := hub_not h.ko (wats_ty h.o1) (by decide)
  refine ⟨q, ib, oq, ⟨hnd, fun b hb => hfs.2 b (List.mem_append.2 (.inl (List.mem_cons_of_mem _ (hsub b hb))))⟩, fun j u hu => (hc j u hu).1, fun w' m' q' jb' oq' hF' hsb hfr => ?_⟩
  have hfr' : Fr ib wr w' := hfr.mono fun i hi => oq.head (by simpa using hi)
  have hib : ∀ b ∈ ib, b ∈ gp :: cb := fun b hb => List.mem_cons_of_mem _ (hsub b hb)
  have hko' := (hfr'.block O (Array.getElem?_eq_some_iff.1 h.ko).1 fun hm => hOn (hib O hm)).trans h.ko
  refine ⟨hkeep w' hfr', hko', ?_⟩
  obtain ⟨cb', r1, r2, r3⟩ := hnew w' [.int .i64 m'.client, .string m'.ptr, .int .i64 m'.cap, .int .i64 m'.since, .bool m'.closed, q'] m' jb' hfr' ⟨q', rfl, oq'⟩ (fun hm => by
    rcases hsb gp hm with h1 | h1
    · exact hgp (hsub gp h1)
    · omega) hF'.1 hsb
  have hGF : F ≤ gp := hfs.2 gp (List.mem_append.2 (.inl List.mem_cons_self))
  have hs0 := h.bel.size
  have hF := h.hF
  have hO := h.hO
  have hlow : ∀ k, k < F → k ∉ ib := fun k hk hm => by have := hfs.2 k (List.mem_append.2 (.inl (hib k hm))); omega
  have hlt0 : w.heap.size < wr.heap.size := (Array.getElem?_eq_some_iff.1 h.kh).1
  have hlt1 : w.heap.size + 1 < wr.heap.size := (Array.getElem?_eq_some_iff.1 h.kr).1
  refine ⟨gp :: cb', ⟨?_, ?_, ?_, ?_, r1, ?_, ⟨?_, ?_⟩, h.hF, h.hO⟩⟩
  · exact putN_below (g := gp) (h.bel.trans (hfr'.below (fun b hb => by have := hlow b; by_cases hk : b < F; exact absurd hb (hlow b hk); omega) hs0)) (by omega) _ _
  · exact (putN_other (by omega) _ _).trans ((hfr'.block _ hlt0 (hlow _ (by omega))).trans h.kh)
  · exact (putN_other (by omega) _ _).trans ((hfr'.block _ hlt1 (hlow _ (by omega))).trans h.kr)
  · exact (putN_other (fun e => hOn (by rw [e]; exact List.mem_cons_self)) _ _).trans hko'
  · have h2 : ORow nwsE w' qv ns b2 := h.o2.keep (hfr'.kp h.o2.lt fun b hb hm => hd.2.2 b (hib b hm) b hb rfl)
    exact h2.putN (fun hm => hd.2.2 gp List.mem_cons_self gp hm rfl) _ _
  · refine List.nodup_append.2 ⟨r2, hd.2.1, fun a ha b hb e => ?_⟩
    subst e
    have hbl := h.o2.lt a hb
    rcases List.mem_cons.1 ha with rfl | ha
    · exact hd.2.2 a List.mem_cons_self a hb rfl
    · rcases r3 a ha with h1 | h1
      · exact hd.2.2 a (List.mem_cons_of_mem _ h1) a hb rfl
      · rcases hsb a h1 with h2 | h2
        · exact hd.2.2 a (hib a h2) a hb rfl
        · omega
  · intro b hb
    rcases List.mem_append.1 hb with hb | hb
    · rcases List.mem_cons.1 hb with rfl | hb
      · exact hGF
      · rcases r3 b hb with h1 | h1
        · exact hfs.2 b (List.mem_append.2 (.inl (List.mem_cons_of_mem _ h1)))
        · exact hF'.2 b h1
    · exact hfs.2 b (List.mem_append.2 (.inr hb))
theorem SD.below {w wr w' : World} {F O : Nat} {hv rv : Obj} {pv qv : Value} {xs : List Wat} {ns : List Nws} {b1 b2 : List Nat} (h : SD w wr F O hv rv pv qv xs ns b1 b2) (hb : Below wr.heap.size wr w') : SD w w' F O hv rv pv qv xs ns b1 b2 :=
  ⟨below_next h.bel hb, (hb.block _ (Array.getElem?_eq_some_iff.1 h.kh).1).trans h.kh, (hb.block _ (Array.getElem?_eq_some_iff.1 h.kr).1).trans h.kr, (hb.block _ (Array.getElem?_eq_some_iff.1 h.ko).1).trans h.ko, h.o1.below hb, h.o2.below hb, h.fs, h.hF, h.hO⟩
theorem toldF_at {n : Int} {ss : List ByteArray} {ws : List Wat} {k : Nat} (hk : k < ws.length) : ((toldK n ss ws k).map (·.1))[k]? = some ws[k] := by
  rw [List.getElem?_map, toldK_at hk]; rfl
theorem toldF_set {n : Int} {ss : List ByteArray} {ws : List Wat} {k : Nat} (hk : k < ws.length) : ((toldK n ss ws k).map (·.1)).set k (tellW ws[k] n ss) = (toldK n ss ws (k + 1)).map (·.1) := by
  rw [← toldK_set hk, List.map_set]
theorem toldF_zero (n : Int) (ss : List ByteArray) (ws : List Wat) : (toldK n ss ws 0).map (·.1) = ws := by rw [toldK_zero, List.map_map]; exact List.map_id _
end Go.Proofs.YtbcfkkicmmhhcaaDoor

namespace Go.Proofs.YtbcfkkicmmhhcaaDoor
open Go.RowKit

/-- What lies between the world before l5Tell and the append is kept by the append. -/
theorem tell_keep {w W w9 : World} {q : Value} {xs : List Msg} {jb : List Nat} (hq : ORow msgE w q xs jb) (hg : W.grownBy w9 q.ownBlock) {k : Nat} (h1 : w.heap.size ≤ k) (h2 : k < W.heap.size) : w9.heap[k]? = W.heap[k]? :=
  hg.block k h2 fun e => by have := hq.lt k (hq.head e.symm); omega
/-- The end of l5Tell: the watch's fields and the answer's cells were stored. -/
theorem tell_end {w W w9 w10 : World} {q v' : Value} {xs ys : List Msg} {jb bl' : List Nat} (hq : ORow msgE w q xs jb) (hB : Below w.heap.size w W) (hs : w.heap.size + 3 ≤ W.heap.size) (hg : W.grownBy w9 q.ownBlock) (o4 : ORow msgE w9 v' ys bl')
    (m4 : ∀ b ∈ bl', b ∈ jb ∨ w.heap.size + 3 ≤ b ∨ v'.ownBlock = some b) {N : Nat} (hw4 : v'.ownBlock = q.ownBlock ∨ v'.ownBlock = some N) (hN : w.heap.size + 3 ≤ N) (hfr : Fr [w.heap.size] w9 w10) (L : List Value) :
    ORow msgE (putN w10 (w.heap.size + 1 + 1) 0 L) v' ys bl' ∧ Fr q.ownBlock.toList w (putN w10 (w.heap.size + 1 + 1) 0 L) ∧ (∀ b ∈ bl', b ∈ jb ∨ w.heap.size ≤ b) := by
  have hm : ∀ b ∈ bl', b < w.heap.size ∧ b ∈ jb ∨ w.heap.size + 3 ≤ b := fun b hb => by
    rcases m4 b hb with h | h | h
    · exact .inl ⟨hq.lt b h, h⟩
    · exact .inr h
    · rcases hw4 with h5 | h5
      · rw [h] at h5; have := hq.head h5.symm; exact .inl ⟨hq.lt b this, this⟩
      · rw [h] at h5; injection h5 with h5; exact .inr (by omega)
  have hz9 := hg.size
  have hn0 : ∀ b ∈ bl', b ∉ [w.heap.size] := fun b hb e => by
    simp at e
    rcases hm b hb with h | h <;> omega
  have hn2 : w.heap.size + 1 + 1 ∉ bl' := fun e => by
    rcases hm _ e with h | h <;> omega
  have o10 : ORow msgE w10 v' ys bl' := o4.keep (hfr.kp o4.lt hn0)
  have hlow := putN_below (g := w.heap.size + 1 + 1) (Below.refl (w.heap.size + 1 + 1) w10) (Nat.le_refl _) L 0
  have fr9 : Fr q.ownBlock.toList w w9 := ⟨hg.os.trans hB.os, hg.tape.trans hB.tape, hg.output.trans hB.output, by omega, fun k hk hkn => (hg.block k (by omega) fun e => hkn (by simp [← e])).trans (hB.block k hk)⟩
  have fr10 : Fr q.ownBlock.toList w w10 := fr9.trans' hfr (fun i hi => .inr (by simp at hi; omega))
  refine ⟨o10.putN hn2 L 0, fr10.trans' (bl' := [w.heap.size + 1 + 1]) ⟨hlow.os, hlow.tape, hlow.output, hlow.size, fun k _ hkn => putN_other (g := w.heap.size + 1 + 1) (k := k) (fun e => hkn (by simp [e])) L 0⟩ (fun i hi => .inr (by simp at hi; omega)), fun b hb => ?_⟩
  rcases hm b hb with h | h
  · exact .inl h.2
  · exact .inr (by omega)
theorem fr_set0 (w : World) (g j : Nat) (v : Value) : Fr [g] w (w.setCell ⟨g, j, none⟩ v) := (Fr.refl [g] w).set (by simp) j v
end Go.Proofs.YtbcfkkicmmhhcaaDoor
