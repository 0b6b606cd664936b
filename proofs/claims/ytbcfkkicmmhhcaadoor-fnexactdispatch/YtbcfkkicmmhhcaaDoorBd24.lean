import Derived.Test.YtbcfkkicmmhhcaaDoorBd23
namespace Go.Proofs.YtbcfkkicmmhhcaaDoor
open Go.RowKit

theorem skipT_none (ws : List Wat) : ∀ k, k ≤ ws.length → skipT ws (-1) k = ws.take k
  | 0, _ => by simp [skipT]
  | k + 1, h => by
    rw [skipT, skipT_none ws k (by omega), if_neg (by omega), List.take_add_one]
theorem copyH_none (h : Hb) : copyH h (-1) 0 = h := by
  unfold copyH
  rw [skipT_none _ _ (Nat.le_refl _), List.take_length]; rfl

/-- A hub in a block of its own, its rows the call's own. -/
structure HB (w0 : World) (G F : Nat) (wr : World) (p q : Value) (ws : List Wat) (ns : List Nws) (b1 b2 : List Nat) : Prop where
  bel : Below w0.heap.size w0 wr
  ko : wr.heap[G]? = some (.cells #[p, q] 39 (0, 0))
  o1 : ORow watE wr p ws b1
  o2 : ORow nwsE wr q ns b2
  fs : Fsh F (b1 ++ b2)
  hF : w0.heap.size ≤ F
  hG : w0.heap.size ≤ G
section
variable {w0 : World} {G F : Nat} {wr w3 : World} {p p' q q' : Value} {ws : List Wat} {ns : List Nws} {b1 b2 b1' b2' ib : List Nat}
theorem HB.below (h : HB w0 G F wr p q ws ns b1 b2) (hb : Below wr.heap.size wr w3) : HB w0 G F w3 p q ws ns b1 b2 :=
  ⟨below_next h.bel hb, (hb.block _ (Array.getElem?_eq_some_iff.1 h.ko).1).trans h.ko, h.o1.below hb, h.o2.below hb, h.fs, h.hF, h.hG⟩
theorem HB.koN (h : HB w0 G F wr p q ws ns b1 b2) (hg : wr.grownBy w3 q.ownBlock) : w3.heap[G]? = some (.cells #[p, q] 39 (0, 0)) :=
  (hg.block _ (Array.getElem?_eq_some_iff.1 h.ko).1 fun e => hub_not h.ko (nwss_ty h.o2) (by decide) (h.o2.head e.symm)).trans h.ko
theorem HB.news (h : HB w0 G F wr p q ws ns b1 b2) (hg : wr.grownBy w3 q.ownBlock) {x : Nws} (ho : ORow nwsE w3 q' (ns ++ [x]) b2') (hF : Fsh F b2') (hm : ∀ b ∈ b2', b ∈ b2 ∨ b ∈ ib ∨ q'.ownBlock = some b) (hi : ∀ b ∈ ib, b ∉ b1) :
    HB w0 G F (w3.setCell ⟨G, 1, none⟩ q') p q' ws (ns ++ [x]) b1 b2' := by
  have hko := (Array.getElem?_eq_some_iff.1 h.ko).1
  have hfs := h.fs
  have hd := hfs.1
  rw [List.nodup_append] at hd
  have hown : ∀ g, q.ownBlock = some g → g ∈ b2 := fun g hg => h.o2.head hg
  have hn1 := hub_not h.ko (wats_ty h.o1) (by decide)
  have ko3 := h.koN hg
  have hn3 := hub_not ko3 (nwss_ty ho) (by decide)
  have q3 : ORow watE w3 p ws b1 := h.o1.keep fun b hb => hg.block b (h.o1.lt b hb) fun e => hd.2.2 b hb b (hown b e.symm) rfl
  have hs := h.bel.size
  refine ⟨(h.bel.grown hg hs fun k hk => Nat.le_trans h.hF (hfs.2 k (List.mem_append.2 (.inr (hown k hk))))).setCell (p := ⟨G, 1, none⟩) h.hG _, heap_setCell_same _ _ 1 _ _ _ ko3, q3.other hn1 1 q', ho.other hn3 1 q', ?_, h.hF, h.hG⟩
  refine ⟨List.nodup_append.2 ⟨hd.1, hF.1, fun a ha b hb e => ?_⟩, fun b hb => ?_⟩
  · subst e
    rcases hm a hb with h1 | h1 | h1
    · exact hd.2.2 a ha a h1 rfl
    · exact hi a h1 ha
    · obtain ⟨cs, hcs⟩ := ho.own
      obtain ⟨cur, t, e1, e2⟩ := own_ty hcs a (by simp [h1])
      obtain ⟨cur', t', e3, e4⟩ := wats_ty q3 a ha
      rw [e1] at e3
      injection e3 with e3; injection e3 with _ e3
      simp at e2
      rw [← e3, e2] at e4
      exact absurd e4 (by decide)
  · rcases List.mem_append.1 hb with hb | hb
    · exact hfs.2 b (List.mem_append.2 (.inl hb))
    · exact hF.2 b hb
end

end Go.Proofs.YtbcfkkicmmhhcaaDoor
