import Derived.Test.YtbcfkkicmmhhcaaL5Copy2
namespace Go.Proofs.Ytbcfkkicmmhhcaa
open Go.RowKit

theorem skipT_none (ws : List Wat) : ∀ k, k ≤ ws.length → skipT ws (-1) k = ws.take k
  | 0, _ => by simp [skipT]
  | k + 1, h => by
    rw [skipT, skipT_none ws k (by omega), if_neg (by omega), List.take_add_one]
theorem copyH_none (h : Hb) : copyH h (-1) 0 = h := by
  unfold copyH
  rw [skipT_none _ _ (Nat.le_refl _), List.take_length]; rfl

/-- A hub in a block of its own, its rows the call's own. -/
structure HB (w0 : World) (G F : Nat) (wr : World) (p q : Value) (ws : List Wat) (ns : List Nws) (b1 b2 : List Nat) : Prop where
  bel : Below w0.heap.size w0 wr
  ko : wr.heap[G]? = some (.cells #[p, q] 32 (0, 0))
  o1 : ORow watE wr p ws b1
  o2 : ORow nwsE wr q ns b2
  fs : Fsh F (b1 ++ b2)
  hF : w0.heap.size ≤ F
  hG : w0.heap.size ≤ G
section
variable {w0 : World} {G F : Nat} {wr w3 : World} {p p' q q' : Value} {ws : List Wat} {ns : List Nws} {b1 b2 b1' b2' ib : List Nat}
theorem HB.below (h : HB w0 G F wr p q ws ns b1 b2) (hb : Below wr.heap.size wr w3) : HB w0 G F w3 p q ws ns b1 b2 :=
  ⟨below_next h.bel hb, (hb.block _ (Array.getElem?_eq_some_iff.1 h.ko).1).trans h.ko, h.o1.below hb, h.o2.below hb, h.fs, h.hF, h.hG⟩
theorem HB.koN (h : HB w0 G F wr p q ws ns b1 b2) (hg : wr.grownBy w3 q.ownBlock) : w3.heap[G]? = some (.cells #[p, q] 32 (0, 0)) :=
  (hg.block _ (Array.getElem?_eq_some_iff.1 h.ko).1 fun e => hub_not h.ko (nwss_ty h.o2) (by decide) (h.o2.head e.symm)).trans h.ko
theorem HB.news (h : HB w0 G F wr p q ws ns b1 b2) (hg : wr.grownBy w3 q.ownBlock) {x : Nws} (ho : ORow nwsE w3 q' (ns ++ [x]) b2') (hF : Fsh F b2') (hm : ∀ b ∈ b2', b ∈ b2 ∨ b ∈ ib ∨ q'.ownBlock = some b) (hi : ∀ b ∈ ib, b ∉ b1) :
    HB w0 G F (w3.setCell ⟨G, 1, none⟩ q') p q' ws (ns ++ [x]) b1 b2' := by
  have hko := (Array.getElem?_eq_some_iff.1 h.ko).1
  have hfs := h.fs
  have hd := hfs.1
  rw [List.nodup_append] at hd
  have hown : ∀ g, q.ownBlock = some g → g ∈ b2 := fun g hg => h.o2.head hg
  have hn1 := hub_not h.ko (wats_ty h.o1) (by decide)
  have ko3 := h.koN hg
  have hn3 := hub_not ko3 (nwss_ty ho) (by decide)
  have q3 : ORow watE w3 p ws b1 := h.o1.keep fun b hb => hg.block b (h.o1.lt b hb) fun e => hd.2.2 b hb b (hown b e.symm) rfl
  have hs := h.bel.size
  refine ⟨(h.bel.grown hg hs fun k hk => Nat.le_trans h.hF (hfs.2 k (List.mem_append.2 (.inr (hown k hk))))).setCell (p := ⟨G, 1, none⟩) h.hG _, heap_setCell_same _ _ 1 _ _ _ ko3, q3.other hn1 1 q', ho.other hn3 1 q', ?_, h.hF, h.hG⟩
  refine ⟨List.nodup_append.2 ⟨hd.1, hF.1, fun a ha b hb e => ?_⟩, fun b hb => ?_⟩
  · subst e
    rcases hm a hb with h1 | h1 | h1
    · exact hd.2.2 a ha a h1 rfl
    · exact hi a h1 ha
    · obtain ⟨cs, hcs⟩ := ho.own
      obtain ⟨cur, t, e1, e2⟩ := own_ty hcs a (by simp [h1])
      obtain ⟨cur', t', e3, e4⟩ := wats_ty q3 a ha
      rw [e1] at e3
      injection e3 with e3; injection e3 with _ e3
      simp at e2
      rw [← e3, e2] at e4
      exact absurd e4 (by decide)
  · rcases List.mem_append.1 hb with hb | hb
    · exact hfs.2 b (List.mem_append.2 (.inl hb))
    · exact hF.2 b hb
end

set_option maxHeartbeats 1600000 in
theorem specPublish_walk (v pv : Value) (h : Hb) (ver : Int) (ps : List ByteArray) (bl bp : List Nat) (w : World) (ho : OHub w v h bl) (hp : OStr w pv ps bp) (hs : szHb h ≤ 1048577) (hps : ps.length ≤ 1048577) :
    Calls Try.prog 8 #[v, .int .i64 ver, pv] w fun e w' => ∃ v' bl', e = .returned v' ∧ OHub w' v' ⟨h.watches, h.waiting ++ [⟨ver, ps⟩]⟩ bl' ∧ Fsh w.heap.size bl' ∧ Below w.heap.size w w' := by
  have hz2 : szNwss h.waiting ≤ 1048577 := by unfold szHb at hs; omega
  have hl2 : h.waiting.length ≤ 1048577 := by unfold szNwss at hz2; omega
  obtain ⟨p, q, i1, i2, rfl, o1, o2, rfl⟩ := ho
  have HO : Hid (OHub w (.agg #[p, q]) h (i1 ++ i2)) := ⟨p, q, i1, i2, rfl, o1, o2, rfl⟩
  have HP := hide hp
  clear o1 o2 hp hz2
  go_enter Try.func8, Try.ntmps8
  go_wp2_with fail
  have hA := new2 w (Obj.cells #[p, q] 32) (Obj.cells #[Value.slice none 0 0, Value.slice none 0 0] 32)
  generalize ((w.alloc (Obj.cells #[p, q] 32)).alloc (Obj.cells #[Value.slice none 0 0, Value.slice none 0 0] 32)) = wA at *
  refine (l5Copy_walk _ h (-1) 0 (i1 ++ i2) wA ((unhide HO).below hA.bel) hs (by omega)).mono ?_
  rintro e w1 ⟨v1, c1, rfl, oh1, f1, b1⟩
  rw [copyH_none] at oh1
  obtain ⟨p1, q1, j1, j2, rfl, p1o, q1o, rfl⟩ := oh1
  obtain ⟨pa, pc, rfl, _, _⟩ := p1o.form
  obtain ⟨qa, qc, rfl, _, _⟩ := q1o.form
  have hsz := hA.size
  have hz1 := b1.size
  have B1 := below_next hA.bel b1
  have k1 := (b1.block (w.heap.size + 1) (by omega)).trans hA.k1
  have hB : HB w w1.heap.size wA.heap.size (w1.alloc (.cells #[.slice pa h.watches.length pc, .slice qa h.waiting.length qc] 32)) (.slice pa h.watches.length pc) (.slice qa h.waiting.length qc) h.watches h.waiting j1 j2 :=
    ⟨below_next B1 (alloc_b _ _), heap_alloc_new _ _, p1o.below (alloc_b _ _), q1o.below (alloc_b _ _), f1, by omega, by omega⟩
  have k1' := ((alloc_b w1 (.cells #[.slice pa h.watches.length pc, .slice qa h.waiting.length qc] 32)).block _ (by omega)).trans k1
  have HBd := hide (hB.below (w3 := (w1.alloc (.cells #[.slice pa h.watches.length pc, .slice qa h.waiting.length qc] 32)).drew) ((Below.refl _ _).drew))
  have hPd : OStr (w1.alloc (.cells #[.slice pa h.watches.length pc, .slice qa h.waiting.length qc] 32)).drew pv ps bp := (unhide HP).below (below_next (below_next B1 (alloc_b _ _)) ((Below.refl _ _).drew))
  have HM := hide (l5Texts_walk pv ps bp _ hPd hps)
  have HK1 := hide k1'
  have hko : (w1.alloc (.cells #[.slice pa h.watches.length pc, .slice qa h.waiting.length qc] 32)).heap.size = w1.heap.size + 1 := by simp
  have HKO := hide hko
  clear hA p1o q1o f1 b1 B1 k1 k1' hB hPd HO HP hko
  go_wp2
  generalize (w1.alloc (Obj.cells #[.slice pa h.watches.length pc, .slice qa h.waiting.length qc] 32)) = wB at *
  generalize hG : w1.heap.size = G at *
  have hbs := unhide HKO
  have cO1 : wB.cell? ⟨G, 1, none⟩ = some (.slice qa h.waiting.length qc) := Lib.cell_of_heap (w := wB) (unhide HBd).ko 1
  clear HKO hG
  go_region_law (first
    | (refine step_append_elem (e := nwsE) nws_ty (by decide) Try.underlying30 infoNws rfl (by decide) (by decide) rfl (.tmp 11) (.tmp 16) rfl rfl (unhide O3) (unhide HF3) (unhide E3) (unhide HFI) (unhide HAP) rfl (by exact lit_cells w2 [_, _] _) (by exact unhide HONE) (by simp; omega) (by omega) ?_
       intro v' w3 bl' o4 f4 m4 hg4
       obtain ⟨va, vc, rfl, hv1, hv2⟩ := o4.form
       have ko3 := (unhide HC3).koN hg4
       have cO3 : w3.cell? ⟨G, 1, none⟩ = some (.slice qa h.waiting.length qc) := Lib.cell_of_heap ko3 1
       have fO3 := Lib.frozen_of_heap ko3)
    | (go_simp; refine (unhide HM).mono ?_
       rintro e w2 ⟨r2, ib, rfl, hE2, hFi, bb2⟩
       obtain ⟨za, zc, rfl, hy1, hy2⟩ := hE2.form
       have hsz2 : wB.heap.size ≤ w2.heap.size := bb2.size
       have hCS2 := (unhide HBd).below bb2
       have hab : Below w2.heap.size w2 (w2.alloc (.cells #[.int .i64 ver, .slice za ps.length zc] 53)) := alloc_b _ _
       have hCS3 := hCS2.below hab
       have O3 := hide hCS3.o2
       have HF3 := hide (show Fsh wA.heap.size j2 from ⟨(List.nodup_append.1 hCS3.fs.1).2.1, fun b hb => hCS3.fs.2 b (List.mem_append.2 (.inr hb))⟩)
       have E3 := hide (show nwsE.E (w2.alloc (.cells #[.int .i64 ver, .slice za ps.length zc] 53)) [.int .i64 ver, .slice za ps.length zc] ⟨ver, ps⟩ ib from ⟨_, rfl, hE2.below hab⟩)
       have HFI := hide (hFi.mono (B' := wA.heap.size) (by simp; omega))
       have HAP : Hid (∀ b ∈ ib, b ∉ j2) := fun b hb hbl => by have h1 := hFi.2 b hb; have h2 := (unhide HBd).o2.lt b hbl; simp at h1 h2; omega
       have HAP2 : Hid (∀ b ∈ ib, b ∉ j1) := fun b hb hbl => by have h1 := hFi.2 b hb; have h2 := (unhide HBd).o1.lt b hbl; simp at h1 h2; omega
       have HONE : Hid (∀ u ∈ [Value.int .i64 ver, .slice za ps.length zc], u.oneCell' = true) := fun u hu => by simp at hu; rcases hu with rfl | rfl <;> rfl
       have HC3 := hide hCS3
       have cO2 : w2.cell? ⟨G, 1, none⟩ = some (.slice qa h.waiting.length qc) := Lib.cell_of_heap hCS2.ko 1
       have cO4 : (w2.alloc (.cells #[.int .i64 ver, .slice za ps.length zc] 53)).cell? ⟨G, 1, none⟩ = some (.slice qa h.waiting.length qc) := Lib.cell_of_heap hCS3.ko 1
       have kR2 := (bb2.block (w.heap.size + 1) (by simp; omega)).trans (unhide HK1)
       have kR3 := (hab.block (w.heap.size + 1) (by omega)).trans kR2))
  all_goals (
    have hn := (unhide HC3).news hg4 o4 f4 m4 (unhide HAP2)
    have kR4 := (hg4.block (w.heap.size + 1) (by simp; omega) fun e => by have := (unhide HF3).2 _ ((unhide O3).head e.symm); omega).trans kR3
    rw [List.length_append, List.length_singleton] at hn
    have kR5 : (w3.setCell ⟨G, 1, none⟩ (.slice va (h.waiting.length + 1) vc)).heap[w.heap.size + 1]? = _ := (Below.heap_setCell _ _ _ _ (by simp; omega)).trans kR4
    have HN := hide hn
    have d0 : (w3.setCell ⟨G, 1, none⟩ (.slice va (h.waiting.length + 1) vc)).cell? ⟨G, 0, none⟩ = some (.slice pa h.watches.length pc) := Lib.cell_of_heap hn.ko 0
    have d1 : (w3.setCell ⟨G, 1, none⟩ (.slice va (h.waiting.length + 1) vc)).cell? ⟨G, 1, none⟩ = some (.slice va (h.waiting.length + 1) vc) := Lib.cell_of_heap hn.ko 1
    have r0 : (w3.setCell ⟨G, 1, none⟩ (.slice va (h.waiting.length + 1) vc)).cell? ⟨w.heap.size + 1, 0, none⟩ = some (.slice none 0 0) := Lib.cell_of_heap kR5 0
    have r1 : (w3.setCell ⟨G, 1, none⟩ (.slice va (h.waiting.length + 1) vc)).cell? ⟨w.heap.size + 1, 1, none⟩ = some (.slice none 0 0) := Lib.cell_of_heap kR5 1
    have fr := Lib.frozen_of_heap kR5
    have HKR := hide kR5
    clear o4 f4 m4 hg4 hv1 hv2 ko3 cO3 fO3 cO2 cO4 HC3 HONE HAP2 HAP HFI E3 O3 hCS3 hab hCS2 hy1 hy2 hE2 hFi bb2 HM HBd cO1 kR2 kR3 kR4 kR5 hn HK1
    generalize w3.setCell ⟨G, 1, none⟩ (.slice va (h.waiting.length + 1) vc) = w9 at *
    go_wp2
    refine bodyPost_ret (results_cell_row rfl _ _ (w.heap.size + 1) 32 #[_, _] (0, 0) _ rfl (putN_full (unhide HKR) [_, _] rfl) Try.underlying32 rfl (by kernel_rfl)) rfl ?_
    have hn9 := unhide HN
    have hno : w.heap.size + 1 ∉ j1 ++ bl' := fun hm => by have := hn9.fs.2 _ hm; omega
    have n1 : w.heap.size + 1 ∉ j1 := fun hm => hno (List.mem_append.2 (.inl hm))
    have n2 : w.heap.size + 1 ∉ bl' := fun hm => hno (List.mem_append.2 (.inr hm))
    refine ⟨_, j1 ++ bl', rfl, ⟨_, _, j1, bl', rfl, hn9.o1.putN n1 [_, _] 0, hn9.o2.putN n2 [_, _] 0, rfl⟩, hn9.fs.mono (by omega), ?_⟩
    exact putN_below (g := w.heap.size + 1) hn9.bel (by omega) [_, _] 0)
end Go.Proofs.Ytbcfkkicmmhhcaa
