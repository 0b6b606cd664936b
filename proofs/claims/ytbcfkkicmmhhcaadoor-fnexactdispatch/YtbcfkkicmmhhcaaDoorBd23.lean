import Derived.Deep.RegionHeld
import Derived.Test.YtbcfkkicmmhhcaaDoorBd21
namespace Go.Proofs.YtbcfkkicmmhhcaaDoor
open Go.RowKit

/-- Five new blocks. -/
structure New5 (w : World) (a b c d e : Obj) (w' : World) : Prop where
  bel : Below w.heap.size w w'
  size : w'.heap.size = w.heap.size + 1 + 1 + 1 + 1 + 1
  k0 : w'.heap[w.heap.size]? = some a
  k1 : w'.heap[w.heap.size + 1]? = some b
  k2 : w'.heap[w.heap.size + 1 + 1]? = some c
  k3 : w'.heap[w.heap.size + 1 + 1 + 1]? = some d
  k4 : w'.heap[w.heap.size + 1 + 1 + 1 + 1]? = some e
theorem new5 (w : World) (a b c d e : Obj) : New5 w a b c d e (((((w.alloc a).alloc b).alloc c).alloc d).alloc e) := by
  have h := new3 w a b c
  generalize ((w.alloc a).alloc b).alloc c = w3 at *
  have k := new2 w3 d e
  have hs := h.size
  generalize (w3.alloc d).alloc e = w5 at *
  have b5 := k.bel
  have s5 := k.size
  have k3 := k.k0
  have k4 := k.k1
  rw [hs] at b5 s5 k3 k4
  exact ⟨h.bel.trans (b5.mono (by omega)), s5, (b5.block _ (by omega)).trans h.k0, (b5.block _ (by omega)).trans h.k1, (b5.block _ (by omega)).trans h.k2, k3, k4⟩

/-- What the second region reads. -/
def HS3 (N g m n yc : Nat) (z : Int) (qv : Value) (w : World) : Prop := w.cell? ⟨N, 1, none⟩ = some (.slice (some ⟨g, 0, none⟩) n yc) ∧ w.cell? ⟨g, m * 2, none⟩ = some (.int .i64 z) ∧ w.cell? ⟨g, m * 2 + 1, none⟩ = some qv
section
variable {N g m n yc : Nat} {z : Int} {qv : Value} {w w' : World}
theorem HS3.keep (h : HS3 N g m n yc z qv w) (hb : Below w.heap.size w w') : HS3 N g m n yc z qv w' :=
  ⟨(hb.cell (World.block_lt_of_cell? _ _ h.1)).trans h.1, (hb.cell (World.block_lt_of_cell? _ _ h.2.1)).trans h.2.1, (hb.cell (World.block_lt_of_cell? _ _ h.2.2)).trans h.2.2⟩
theorem HS3.grown {row : Option Nat} (h : HS3 N g m n yc z qv w) (hg : w.grownBy w' row) (hr : ∀ b, row = some b → N + 1 + 1 ≤ b) (hN : g < N) : HS3 N g m n yc z qv w' :=
  ⟨hg.cell h.1 fun e => by have := hr N e.symm; omega, hg.cell h.2.1 fun e => by have := hr g e.symm; omega, hg.cell h.2.2 fun e => by have := hr g e.symm; omega⟩
theorem HS3.set (h : HS3 N g m n yc z qv w) (hN : g < N) (o : Nat) (u : Value) : HS3 N g m n yc z qv (w.setCell ⟨N + 1 + 1 + 1 + 1, o, none⟩ u) :=
  ⟨(World.cell?_of_block (w := w) (Below.heap_setCell _ _ _ _ (by simp; omega))).trans h.1, (World.cell?_of_block (w := w) (Below.heap_setCell _ _ _ _ (by simp; omega))).trans h.2.1, (World.cell?_of_block (w := w) (Below.heap_setCell _ _ _ _ (by simp; omega))).trans h.2.2⟩
end
set_option maxHeartbeats 1600000 in
set_option maxRecDepth 100000 in
theorem l5Copy_walk (v : Value) (h : Hb) (s : Int) (d : Nat) (bl : List Nat) (w : World) (ho : OHub w v h bl) (hs : szHb h ≤ 1048577) (hd : d ≤ 1) :
    Calls Tryd.prog 34 #[v, .int .i64 s, .int .i64 d] w fun e w' => ∃ v' bl', e = .returned v' ∧ OHub w' v' (copyH h s d) bl' ∧ Fsh w.heap.size bl' ∧ Below w.heap.size w w' := by
  obtain ⟨p, q, i1, i2, rfl, o1, o2, rfl⟩ := ho
  obtain ⟨xa, xc, rfl, hfm, hsh⟩ := o1.form
  obtain ⟨ya, yc, rfl, hfm2, hsh2⟩ := o2.form
  have hz1 : szWats h.watches ≤ 1048577 := by unfold szHb at hs; omega
  have hz2 : szNwss h.waiting ≤ 1048577 := by unfold szHb at hs; omega
  have hl1 : h.watches.length ≤ 1048577 := by unfold szWats at hz1; omega
  have hl2 : h.waiting.length ≤ 1048577 := by unfold szNwss at hz2; omega
  have hsz1 : ∀ k (hk : k < h.watches.length), szWat h.watches[k] ≤ 1048577 := fun k hk => by
    have h1 := sum_take_snoc szWat h.watches k h.watches[k] (List.getElem?_eq_getElem hk)
    have h2 := sum_take_le (h.watches.map szWat) (k + 1)
    rw [← List.map_take] at h2
    unfold szWats at hz1; omega
  have hsz2 : ∀ k (hk : k < h.waiting.length), h.waiting[k].ptrs.length ≤ 1048577 := fun k hk => by
    have h1 := sum_take_snoc szNws h.waiting k h.waiting[k] (List.getElem?_eq_getElem hk)
    have h2 := sum_take_le (h.waiting.map szNws) (k + 1)
    rw [← List.map_take] at h2
    unfold szNwss at hz2
    have h3 : h.waiting[k].ptrs.length ≤ szNws h.waiting[k] := by unfold szNws szStr; omega
    omega
  have HZ1 := hide hsz1
  have HZ2 := hide hsz2
  have O1 := hide o1
  have O2 := hide o2
  have HSH := hide hsh
  have HSH2 := hide hsh2
  clear o1 o2 hfm hsh hfm2 hsh2 hs hz1 hz2 hsz1 hsz2
  go_enter Tryd.func34, Tryd.ntmps34
  go_wp2
  have hA := new5 w (Obj.cells #[Value.slice xa h.watches.length xc, Value.slice ya h.waiting.length yc] 39) (Obj.cells #[Value.slice none 0 0, Value.slice none 0 0] 39) (Obj.cells #[] 72) (Obj.cells #[] 85) (Obj.cells #[Value.slice (some ⟨w.heap.size + 1 + 1, 0, none⟩) 0 0, Value.slice (some ⟨w.heap.size + 1 + 1 + 1, 0, none⟩) 0 0] 39)
  generalize (((((w.alloc (Obj.cells #[Value.slice xa h.watches.length xc, Value.slice ya h.waiting.length yc] 39)).alloc (Obj.cells #[Value.slice none 0 0, Value.slice none 0 0] 39)).alloc (Obj.cells #[] 72)).alloc (Obj.cells #[] 85)).alloc (Obj.cells #[Value.slice (some ⟨w.heap.size + 1 + 1, 0, none⟩) 0 0, Value.slice (some ⟨w.heap.size + 1 + 1 + 1, 0, none⟩) 0 0] 39)) = wA at *
  have hCS : CS w (Obj.cells #[Value.slice xa h.watches.length xc, Value.slice ya h.waiting.length yc] 39) (Obj.cells #[Value.slice none 0 0, Value.slice none 0 0] 39) wA (.slice (some ⟨w.heap.size + 1 + 1, 0, none⟩) 0 0) (.slice (some ⟨w.heap.size + 1 + 1 + 1, 0, none⟩) 0 0) [] [] [w.heap.size + 1 + 1] [w.heap.size + 1 + 1 + 1] := by
    refine ⟨hA.bel, hA.k0, hA.k1, hA.k4, ⟨[], rfl, fun _ _ _ h => by simp at h, ?_, rfl⟩, ⟨[], rfl, fun _ _ _ h => by simp at h, ?_, rfl⟩, by simp, fun b hb => by simp at hb; omega⟩
    · exact ⟨by simp, .inr ⟨w.heap.size + 1 + 1, 0, #[], rfl, Nat.zero_le _, hA.k2, Nat.zero_le _, Nat.zero_le _, by simp, by simp⟩⟩
    · exact ⟨by simp, .inr ⟨w.heap.size + 1 + 1 + 1, 0, #[], rfl, Nat.zero_le _, hA.k3, Nat.zero_le _, Nat.zero_le _, by simp, by simp⟩⟩
  have HCS := hide hCS
  clear hA hCS
  go_loopw [8] (fun i wr => ∃ k : Nat, k ≤ h.watches.length ∧ i = .int .i64 (k : Int) ∧ ∃ p q b1 b2, CS w (Obj.cells #[Value.slice xa h.watches.length xc, Value.slice ya h.waiting.length yc] 39) (Obj.cells #[Value.slice none 0 0, Value.slice none 0 0] 39) wr p q (skipT h.watches s k) [] b1 b2) (fun i _ => h.watches.length - (intOf i).toNat)
  case atStart => exact ⟨0, Nat.zero_le _, rfl, _, _, _, _, unhide HCS⟩
  case round =>
    obtain ⟨k, hk, rfl, p, q, b1, b2, hcs⟩ := hrel
    have c00 : wr.cell? ⟨w.heap.size, 0, none⟩ = some (.slice xa h.watches.length xc) := Lib.cell_of_heap hcs.k0 0
    by_cases hlt : k < h.watches.length
    · by_cases hks : (k : Int) = s
      · have hnx : skipT h.watches s (k + 1) = skipT h.watches s k := by rw [skipT, if_pos hks, List.append_nil]
        have HNX := hide hnx
        have HC := hide hcs
        have t1 : ((k : Int) != s) = false := by simpa using hks
        clear hnx hcs hks
        go_wp2
        go_roundw
        case rel => exact ⟨k + 1, by omega, by go_num, p, q, b1, b2, by rw [unhide HNX]; exact unhide HC⟩
        case measure => simp [intOf]; omega
      · have hnx : skipT h.watches s (k + 1) = skipT h.watches s k ++ [h.watches[k]] := by rw [skipT, if_neg hks, List.getElem?_eq_getElem hlt]; rfl
        have HNX := hide hnx
        have t1 : ((k : Int) != s) = true := by simpa using hks
        obtain ⟨pa, pc, rfl, hfp, _⟩ := hcs.o1.form
        obtain ⟨qa, qc, rfl, hfq, _⟩ := hcs.o2.form
        have hbw := hcs.bel
        have cO0 : wr.cell? ⟨w.heap.size + 1 + 1 + 1 + 1, 0, none⟩ = some (.slice pa (skipT h.watches s k).length pc) := Lib.cell_of_heap hcs.ko 0
        have fO := Lib.frozen_of_heap hcs.ko
        have hko := (Array.getElem?_eq_some_iff.1 hcs.ko).1
        obtain ⟨g, rfl⟩ := unhide HSH (by omega)
        obtain ⟨vs, jb, hE, hc, hx1, hx2, hx3⟩ := ((unhide O1).below hbw).at (List.getElem?_eq_getElem hlt)
        obtain ⟨a0, a1, a2, a3, a4, a5, rfl⟩ := list6 (watE.len hE)
        have c0 : wr.cell? ⟨g, k * 6, none⟩ = _ := (hc 0 _ rfl).1
        have c1 : wr.cell? ⟨g, k * 6 + 1, none⟩ = _ := (hc 1 _ rfl).1
        have c2 : wr.cell? ⟨g, k * 6 + 2, none⟩ = _ := (hc 2 _ rfl).1
        have c3 : wr.cell? ⟨g, k * 6 + 3, none⟩ = _ := (hc 3 _ rfl).1
        have c4 : wr.cell? ⟨g, k * 6 + 4, none⟩ = _ := (hc 4 _ rfl).1
        have c5 : wr.cell? ⟨g, k * 6 + 5, none⟩ = _ := (hc 5 _ rfl).1
        have hdr : Below wr.heap.size wr wr.drew := (Below.refl _ _).drew
        have HM := hide (l5Wat_walk a0 a1 a2 a3 a4 a5 h.watches[k] 0 jb wr.drew (watE.keep hE (.of_below hdr (watE.lt hE))) (unhide HZ1 k hlt) (by omega))
        have hlk := skipT_len h.watches s k
        have HCD := hide (hcs.below hdr)
        have hltI : (k : Int) < (h.watches.length : Int) := by omega
        clear hx1 hx2 hx3 hc hE hfp hfq hbw hnx hks hdr hcs
        go_wp2
        go_region_law (first
          | (refine step_append_elem (e := watE) wat_ty (by decide) Tryd.underlying36 infoWat rfl (by decide) (by decide) rfl (.tmp 24) (.tmp 31) rfl rfl (unhide O3) (unhide HF3) (unhide E3) (unhide HFI) (unhide HAP) rfl (by exact lit_cells w2 [_, _, _, _, _, _] _) (by exact unhide HONE) (by simp; omega) (by omega) ?_
             intro v' w3 bl' o4 f4 m4 hg4
             obtain ⟨va, vc, rfl, hv1, hv2⟩ := o4.form
             have ko3 := (unhide HC3).koW hg4
             have cO3 : w3.cell? ⟨w.heap.size + 1 + 1 + 1 + 1, 0, none⟩ = some (.slice pa (skipT h.watches s k).length pc) := Lib.cell_of_heap ko3 0
             have fO3 := Lib.frozen_of_heap ko3)
          | (go_simp; refine (unhide HM).mono ?_
             rintro e w2 ⟨b0, b1', b2', b3, b4, b5, ib, rfl, hE2', hFi, bb2⟩
             have hE2 : watE.E w2 [b0, b1', b2', b3, b4, b5] h.watches[k] ib := hE2'
             have hE0 := hE2
             obtain ⟨q0, hbs0, hE1⟩ := hE0
             injection hbs0 with e0 hbs0; injection hbs0 with e1 hbs0; injection hbs0 with e2 hbs0; injection hbs0 with e3 hbs0; injection hbs0 with e4 hbs0; injection hbs0 with e5 hbs0
             subst e0; subst e1; subst e2; subst e3; subst e4; subst e5
             obtain ⟨za, zc, rfl, hy1, hy2⟩ := hE1.form
             have hsz2 : wr.heap.size ≤ w2.heap.size := bb2.size
             have hCS2 := (unhide HCD).below bb2
             have hab : Below w2.heap.size w2 (w2.alloc (.cells #[.int .i64 h.watches[k].client, .string h.watches[k].ptr, .int .i64 h.watches[k].cap, .int .i64 h.watches[k].since, .bool h.watches[k].closed, .slice za h.watches[k].queue.length zc] 72)) := alloc_b _ _
             have hCS3 := hCS2.below hab
             have hcw : w.heap.size ≤ wr.heap.size := (unhide HCD).bel.size
             have O3 := hide hCS3.o1
             have HF3 := hide (show Fsh (w.heap.size + 1 + 1) b1 from ⟨(List.nodup_append.1 hCS3.fs.1).1, fun b hb => hCS3.fs.2 b (List.mem_append.2 (.inl hb))⟩)
             have E3 := hide (watE.keep hE2 (.of_below hab (watE.lt hE2)))
             have HFI := hide (hFi.mono (B' := w.heap.size + 1 + 1) (by simp; omega))
             have HAP : Hid (∀ b ∈ ib, b ∉ b1) := fun b hb hbl => by have h1 := hFi.2 b hb; have h2 := (unhide HCD).o1.lt b hbl; simp at h1 h2; omega
             have HAP2 : Hid (∀ b ∈ ib, b ∉ b2) := fun b hb hbl => by have h1 := hFi.2 b hb; have h2 := (unhide HCD).o2.lt b hbl; simp at h1 h2; omega
             have HONE : Hid (∀ u ∈ [Value.int .i64 h.watches[k].client, .string h.watches[k].ptr, .int .i64 h.watches[k].cap, .int .i64 h.watches[k].since, .bool h.watches[k].closed, .slice za h.watches[k].queue.length zc], u.oneCell' = true) := fun u hu => by simp at hu; rcases hu with rfl | rfl | rfl | rfl | rfl | rfl <;> rfl
             have HC3 := hide hCS3
             have cO2 : w2.cell? ⟨w.heap.size + 1 + 1 + 1 + 1, 0, none⟩ = some (.slice pa (skipT h.watches s k).length pc) := Lib.cell_of_heap hCS2.ko 0
             have cO4 : (w2.alloc (.cells #[.int .i64 h.watches[k].client, .string h.watches[k].ptr, .int .i64 h.watches[k].cap, .int .i64 h.watches[k].since, .bool h.watches[k].closed, .slice za h.watches[k].queue.length zc] 72)).cell? ⟨w.heap.size + 1 + 1 + 1 + 1, 0, none⟩ = some (.slice pa (skipT h.watches s k).length pc) := Lib.cell_of_heap hCS3.ko 0))
        all_goals (
          have HN := hide ((unhide HC3).watch hg4 o4 f4 m4 (unhide HAP2))
          rw [List.length_append, List.length_singleton, ← unhide HNX] at HN
          clear o4 f4 m4 hg4 hv1 hv2 ko3 cO3 fO3 cO2 cO4 HC3 HONE HAP2 HAP HFI E3 HF3 O3 hcw hCS3 hab hCS2 hy1 hy2 hE1 hbs0 hE2 hE2' hFi bb2 HM HCD cO0 fO c0 c1 c2 c3 c4 c5
          go_wp2
          go_roundw)
        all_goals first
          | exact ⟨k + 1, by omega, by go_num, _, _, _, _, unhide HN⟩
          | (simp [intOf]; omega)
    · have hk' : k = h.watches.length := by omega
      subst hk'
      have HCW := hide hcs
      clear hcs
      go_wp2
      go_loopw [9] (fun i wx => ∃ m : Nat, d ≤ m ∧ m ≤ max d h.waiting.length ∧ i = .int .i64 (m : Int) ∧ ∃ p q b1 b2, CS w (Obj.cells #[Value.slice xa h.watches.length xc, Value.slice ya h.waiting.length yc] 39) (Obj.cells #[Value.slice none 0 0, Value.slice none 0 0] 39) wx p q (skipT h.watches s h.watches.length) ((h.waiting.drop d).take (m - d)) b1 b2) (fun i _ => h.waiting.length - (intOf i).toNat)
      case atStart => exact ⟨d, Nat.le_refl _, by omega, rfl, _, _, _, _, by rw [Nat.sub_self]; exact unhide HCW⟩
      case round =>
        obtain ⟨m, hdm, hm, rfl, p, q, b1, b2, hcs⟩ := hrel
        have c01 : wr.cell? ⟨w.heap.size, 1, none⟩ = some (.slice ya h.waiting.length yc) := Lib.cell_of_heap hcs.k0 1
        by_cases hlt : m < h.waiting.length
        · have hnx : (h.waiting.drop d).take (m + 1 - d) = (h.waiting.drop d).take (m - d) ++ [h.waiting[m]] := by
            rw [show m + 1 - d = m - d + 1 from by omega, List.take_add_one, List.getElem?_drop, show d + (m - d) = m from by omega, List.getElem?_eq_getElem hlt]; rfl
          have hll : ((h.waiting.drop d).take (m - d)).length = m - d := by rw [List.length_take, List.length_drop]; omega
          have HNX := hide hnx
          have HLL := hide hll
          obtain ⟨pa, pc, rfl, hfp, _⟩ := hcs.o1.form
          obtain ⟨qa, qc, rfl, hfq, _⟩ := hcs.o2.form
          generalize (h.waiting.drop d).take (m - d) = ns at *
          have hbw := hcs.bel
          have cO1 : wr.cell? ⟨w.heap.size + 1 + 1 + 1 + 1, 1, none⟩ = some (.slice qa ns.length qc) := Lib.cell_of_heap hcs.ko 1
          have fO := Lib.frozen_of_heap hcs.ko
          have hko := (Array.getElem?_eq_some_iff.1 hcs.ko).1
          obtain ⟨g, rfl⟩ := unhide HSH2 (by omega)
          obtain ⟨vs, jb, hE, hc, hx1, hx2, hx3⟩ := ((unhide O2).below hbw).at (List.getElem?_eq_getElem hlt)
          obtain ⟨qv, rfl, hq⟩ := hE
          have c0 : wr.cell? ⟨g, m * 2, none⟩ = some (.int .i64 h.waiting[m].ver) := (hc 0 _ rfl).1
          have c1 : wr.cell? ⟨g, m * 2 + 1, none⟩ = some qv := (hc 1 _ rfl).1
          have hgw : g < w.heap.size := (unhide O2).lt g ((unhide O2).head rfl)
          have hdr : Below wr.heap.size wr wr.drew := (Below.refl _ _).drew
          have HM := hide (l5Texts_walk qv h.waiting[m].ptrs jb wr.drew (hq.below hdr) (unhide HZ2 m hlt))
          have HCD := hide (hcs.below hdr)
          have hltI : (m : Int) < (h.waiting.length : Int) := by omega
          have hll' : ns.length ≤ 1048577 := by omega
          have K0 := hide hcs.k0
          clear hx1 hx2 hx3 hc hq hfp hfq hbw hnx hdr hcs hll
          go_wp2
          refine wp_region_held_drew (S := HS3 w.heap.size g m h.waiting.length yc h.waiting[m].ver qv) (by kernel_rfl) ⟨c01, c0, c1⟩ (fun hHeld => ?_)
          refine wpAnyH_take (i := 0) (v := ?_) rfl (by kernel_rfl) (by kernel_rfl) (by kernel_rfl) (fun _ _ _ h => h) (Or.inl ⟨by rfl, ?_⟩) (by assumption) ?_
          rotate_left 1
          · intro wy hSw
            obtain ⟨y0, y1, y2⟩ := hSw
            go_simp
            try with_reducible rfl
          try simp only [Act.put]
          refine wpAnyH_take (i := 2) (v := ?_) rfl (by kernel_rfl) (by kernel_rfl) (by kernel_rfl) (fun _ _ _ h => h) (Or.inl ⟨by rfl, ?_⟩) (by assumption) ?_
          rotate_left 1
          · intro wy hSw
            obtain ⟨y0, y1, y2⟩ := hSw
            go_simp
            try with_reducible rfl
          try simp only [Act.put]
          refine wpAnyH_take (i := 4) (v := ?_) rfl (by kernel_rfl) (by kernel_rfl) (by kernel_rfl) (fun _ _ _ h => h) (Or.inl ⟨by rfl, ?_⟩) (by assumption) ?_
          rotate_left 1
          · intro wy hSw
            obtain ⟨y0, y1, y2⟩ := hSw
            go_simp
            try with_reducible rfl
          try simp only [Act.put]
          refine wpAnyH_take (i := 3) (v := ?_) rfl (by kernel_rfl) (by kernel_rfl) (by kernel_rfl) (fun _ _ _ h => h) (Or.inl ⟨by rfl, ?_⟩) (by assumption) ?_
          rotate_left 1
          · intro wy hSw
            obtain ⟨y0, y1, y2⟩ := hSw
            go_simp
            try with_reducible rfl
          try simp only [Act.put]
          refine wpAnyH_take (i := 5) (v := ?_) rfl (by kernel_rfl) (by kernel_rfl) (by kernel_rfl) (fun _ _ _ h => h) (Or.inl ⟨by rfl, ?_⟩) (by assumption) ?_
          rotate_left 1
          · intro wy hSw
            obtain ⟨y0, y1, y2⟩ := hSw
            go_simp
            try with_reducible rfl
          try simp only [Act.put]
          refine wpAnyH_take (i := 6) (v := ?_) rfl (by kernel_rfl) (by kernel_rfl) (by kernel_rfl) (fun _ _ _ h => h) (Or.inl ⟨by rfl, ?_⟩) (by assumption) ?_
          rotate_left 1
          · intro wy hSw
            obtain ⟨y0, y1, y2⟩ := hSw
            go_simp
            try with_reducible rfl
          try simp only [Act.put]
          refine wpAnyH_take (i := 8) (v := ?_) rfl (by kernel_rfl) (by kernel_rfl) (by kernel_rfl) (fun _ _ _ h => h) (Or.inl ⟨by rfl, ?_⟩) (by assumption) ?_
          rotate_left 1
          · intro wy hSw
            obtain ⟨y0, y1, y2⟩ := hSw
            go_simp
            try with_reducible rfl
          try simp only [Act.put]
          refine wpAnyH_take (i := 10) (v := ?_) rfl (by kernel_rfl) (by kernel_rfl) (by kernel_rfl) (fun _ _ _ h => h) (Or.inl ⟨by rfl, ?_⟩) (by assumption) ?_
          rotate_left 1
          · intro wy hSw
            obtain ⟨y0, y1, y2⟩ := hSw
            go_simp
            try with_reducible rfl
          try simp only [Act.put]
          refine wpAnyH_take (i := 7) (v := ?_) rfl (by kernel_rfl) (by kernel_rfl) (by kernel_rfl) (fun _ _ _ h => h) (Or.inl ⟨by rfl, ?_⟩) (by assumption) ?_
          rotate_left 1
          · intro wy hSw
            obtain ⟨y0, y1, y2⟩ := hSw
            go_simp
            try with_reducible rfl
          try simp only [Act.put]
          refine wpAnyH_take (i := 9) (v := ?_) rfl (by kernel_rfl) (by kernel_rfl) (by kernel_rfl) (fun _ _ _ h => h) (Or.inl ⟨by rfl, ?_⟩) (by assumption) ?_
          rotate_left 1
          · intro wy hSw
            obtain ⟨y0, y1, y2⟩ := hSw
            go_simp
            try with_reducible rfl
          try simp only [Act.put]
          refine wpAnyH_take (i := 11) (v := ?_) rfl (by kernel_rfl) (by kernel_rfl) (by kernel_rfl) (fun _ _ _ h => h) (Or.inl ⟨by rfl, ?_⟩) (by assumption) ?_
          rotate_left 1
          · intro wy hSw
            obtain ⟨y0, y1, y2⟩ := hSw
            go_simp
            try with_reducible rfl
          try simp only [Act.put]
          refine wpAnyH_take (i := 12) (v := ?_) rfl (by kernel_rfl) (by kernel_rfl) (by kernel_rfl) (fun _ _ _ h => h) (Or.inl ⟨by rfl, ?_⟩) (by assumption) ?_
          rotate_left 1
          · intro wy hSw
            obtain ⟨y0, y1, y2⟩ := hSw
            go_simp
            try with_reducible rfl
          try simp only [Act.put]
          refine wpAnyH_take (i := 13) (v := ?_) rfl (by kernel_rfl) (by kernel_rfl) (by kernel_rfl) (fun _ _ _ h => h) (Or.inl ⟨by rfl, ?_⟩) (by assumption) ?_
          rotate_left 1
          · intro wy hSw
            obtain ⟨y0, y1, y2⟩ := hSw
            go_simp
            try with_reducible rfl
          try simp only [Act.put]
          refine wpAnyH_ready (rs := [1, 14]) (by kernel_rfl) (by simp) ?_
          refine AllReadyH.cons rfl (fun K hK => ?_) ?_
          · go_simp
            refine hK.out _ _ (show HS3 w.heap.size g m h.waiting.length yc h.waiting[m].ver qv _ from hHeld) (fun hHeld => ?_)
            clear hK K
            try simp only [Act.put]
            refine wpAnyH_ready (rs := [14]) (by kernel_rfl) (by simp) ?_
            refine AllReadyH.cons rfl (fun K hK => ?_) AllReadyH.nil
            go_simp
            refine (unhide HM).mono ?_
            rintro e w2 ⟨r2, ib, rfl, hE2, hFi, bb2⟩
            obtain ⟨za, zc, rfl, hy1, hy2⟩ := hE2.form
            have hsz2 : wr.heap.size ≤ w2.heap.size := bb2.size
            have hCS2 := (unhide HCD).below bb2
            have hab : Below w2.heap.size w2 (w2.alloc (.cells #[.int .i64 h.waiting[m].ver, .slice za h.waiting[m].ptrs.length zc] 85)) := alloc_b _ _
            have hCS3 := hCS2.below hab
            have hcw : w.heap.size ≤ wr.heap.size := (unhide HCD).bel.size
            have O3 := hide hCS3.o2
            have HF3 := hide (show Fsh (w.heap.size + 1 + 1) b2 from ⟨(List.nodup_append.1 hCS3.fs.1).2.1, fun b hb => hCS3.fs.2 b (List.mem_append.2 (.inr hb))⟩)
            have E3 := hide (show nwsE.E (w2.alloc (.cells #[.int .i64 h.waiting[m].ver, .slice za h.waiting[m].ptrs.length zc] 85)) [.int .i64 h.waiting[m].ver, .slice za h.waiting[m].ptrs.length zc] h.waiting[m] ib from ⟨_, rfl, hE2.below hab⟩)
            have HFI := hide (hFi.mono (B' := w.heap.size + 1 + 1) (by simp; omega))
            have HAP : Hid (∀ b ∈ ib, b ∉ b2) := fun b hb hbl => by have h1 := hFi.2 b hb; have h2 := (unhide HCD).o2.lt b hbl; simp at h1 h2; omega
            have HAP2 : Hid (∀ b ∈ ib, b ∉ b1) := fun b hb hbl => by have h1 := hFi.2 b hb; have h2 := (unhide HCD).o1.lt b hbl; simp at h1 h2; omega
            have HONE : Hid (∀ u ∈ [Value.int .i64 h.waiting[m].ver, .slice za h.waiting[m].ptrs.length zc], u.oneCell' = true) := fun u hu => by simp at hu; rcases hu with rfl | rfl <;> rfl
            have HC3 := hide hCS3
            have cO2 : w2.cell? ⟨w.heap.size + 1 + 1 + 1 + 1, 1, none⟩ = some (.slice qa ns.length qc) := Lib.cell_of_heap hCS2.ko 1
            have cO4 : (w2.alloc (.cells #[.int .i64 h.waiting[m].ver, .slice za h.waiting[m].ptrs.length zc] 85)).cell? ⟨w.heap.size + 1 + 1 + 1 + 1, 1, none⟩ = some (.slice qa ns.length qc) := Lib.cell_of_heap hCS3.ko 1
            have hS2 : HS3 w.heap.size g m h.waiting.length yc h.waiting[m].ver qv w2 := HS3.keep hHeld bb2
            have hS3 : HS3 w.heap.size g m h.waiting.length yc h.waiting[m].ver qv (w2.alloc (.cells #[.int .i64 h.waiting[m].ver, .slice za h.waiting[m].ptrs.length zc] 85)) := HS3.keep hS2 hab
            clear hCS2 hCS3 hE2 hFi hy1 hy2
            refine hK.out _ _ (show HS3 w.heap.size g m h.waiting.length yc h.waiting[m].ver qv _ from hS2) (fun hHeld => ?_)
            clear hK K
            try simp only [Act.put]
            refine wpAnyH_take (i := 15) (v := ?_) rfl (by kernel_rfl) (by kernel_rfl) (by kernel_rfl) (fun _ _ _ h => h) (Or.inl ⟨by rfl, ?_⟩) (by assumption) ?_
            rotate_left 1
            · intro wy hSw
              obtain ⟨y0, y1, y2⟩ := hSw
              go_simp
              try with_reducible rfl
            try simp only [Act.put]
            refine wpAnyH_ready (rs := [16]) (by kernel_rfl) (by simp) ?_
            refine AllReadyH.cons rfl (fun K hK => ?_) AllReadyH.nil
            go_simp
            refine hK.out _ _ (show HS3 w.heap.size g m h.waiting.length yc h.waiting[m].ver qv _ from hS3) (fun hHeld => ?_)
            clear hK K
            try simp only [Act.put]
            refine wpAnyH_ready (rs := [17]) (by kernel_rfl) (by simp) ?_
            refine AllReadyH.cons rfl (fun K hK => ?_) AllReadyH.nil
            refine step_append_elem (e := nwsE) nws_ty (by decide) Tryd.underlying37 infoNws rfl (by decide) (by decide) rfl (.tmp 43) (.tmp 58) rfl rfl (unhide O3) (unhide HF3) (unhide E3) (unhide HFI) (unhide HAP) rfl (by exact lit_cells w2 [_, _] _) (by exact unhide HONE) (by simp; omega) (by omega) ?_
            intro v' w3 bl' o4 f4 m4 hg4
            obtain ⟨va, vc, rfl, hv1, hv2⟩ := o4.form
            have ko3 := (unhide HC3).koN hg4
            have cO3 : w3.cell? ⟨w.heap.size + 1 + 1 + 1 + 1, 1, none⟩ = some (.slice qa ns.length qc) := Lib.cell_of_heap ko3 1
            have fO3 := Lib.frozen_of_heap ko3
            have hS4 : HS3 w.heap.size g m h.waiting.length yc h.waiting[m].ver qv w3 := HS3.grown hS3 hg4 (fun b hb => (unhide HF3).2 b ((unhide O3).head hb)) (by omega)
            try simp only [Act.put]
            refine hK.out _ _ (show HS3 w.heap.size g m h.waiting.length yc h.waiting[m].ver qv _ from hS4) (fun hHeld => ?_)
            clear hK K
            try simp only [Act.put]
            refine wpAnyH_take (i := 18) (v := ?_) rfl (by kernel_rfl) (by kernel_rfl) (by kernel_rfl) (fun _ _ _ h => h) (Or.inl ⟨by rfl, ?_⟩) (by assumption) ?_
            rotate_left 1
            · intro wy hSw
              obtain ⟨y0, y1, y2⟩ := hSw
              go_simp
              try with_reducible rfl
            try simp only [Act.put]
            refine wpAnyH_ready (rs := [19]) (by kernel_rfl) (by simp) ?_
            refine AllReadyH.cons rfl (fun K hK => ?_) AllReadyH.nil
            go_simp
            refine hK.out _ _ (show HS3 w.heap.size g m h.waiting.length yc h.waiting[m].ver qv _ from HS3.set hS4 (by omega) _ _) (fun hHeld => ?_)
            clear hK K
            try simp only [Act.put]
            have HN := hide ((unhide HC3).news hg4 o4 f4 m4 (unhide HAP2))
            rw [List.length_append, List.length_singleton, ← unhide HNX] at HN
            clear o4 f4 m4 hg4 hv1 hv2 ko3 cO3 fO3 cO2 cO4 HC3 HONE HAP2 HAP HFI E3 HF3 O3 hcw hab bb2 HM HCD cO1 fO c0 c1 hS2 hS3 hS4 hHeld
            refine wpAnyH_done (by kernel_rfl) ?_ _
            go_wp2
            go_roundw
            case rel => exact ⟨m + 1, by omega, by omega, by go_num, _, _, _, _, unhide HN⟩
            case measure => simp [intOf]; omega
          · refine AllReadyH.cons rfl (fun K hK => ?_) AllReadyH.nil
            go_simp
            refine (unhide HM).mono ?_
            rintro e w2 ⟨r2, ib, rfl, hE2, hFi, bb2⟩
            obtain ⟨za, zc, rfl, hy1, hy2⟩ := hE2.form
            have hsz2 : wr.heap.size ≤ w2.heap.size := bb2.size
            have hCS2 := (unhide HCD).below bb2
            have hab : Below w2.heap.size w2 (w2.alloc (.cells #[.int .i64 h.waiting[m].ver, .slice za h.waiting[m].ptrs.length zc] 85)) := alloc_b _ _
            have hCS3 := hCS2.below hab
            have hcw : w.heap.size ≤ wr.heap.size := (unhide HCD).bel.size
            have O3 := hide hCS3.o2
            have HF3 := hide (show Fsh (w.heap.size + 1 + 1) b2 from ⟨(List.nodup_append.1 hCS3.fs.1).2.1, fun b hb => hCS3.fs.2 b (List.mem_append.2 (.inr hb))⟩)
            have E3 := hide (show nwsE.E (w2.alloc (.cells #[.int .i64 h.waiting[m].ver, .slice za h.waiting[m].ptrs.length zc] 85)) [.int .i64 h.waiting[m].ver, .slice za h.waiting[m].ptrs.length zc] h.waiting[m] ib from ⟨_, rfl, hE2.below hab⟩)
            have HFI := hide (hFi.mono (B' := w.heap.size + 1 + 1) (by simp; omega))
            have HAP : Hid (∀ b ∈ ib, b ∉ b2) := fun b hb hbl => by have h1 := hFi.2 b hb; have h2 := (unhide HCD).o2.lt b hbl; simp at h1 h2; omega
            have HAP2 : Hid (∀ b ∈ ib, b ∉ b1) := fun b hb hbl => by have h1 := hFi.2 b hb; have h2 := (unhide HCD).o1.lt b hbl; simp at h1 h2; omega
            have HONE : Hid (∀ u ∈ [Value.int .i64 h.waiting[m].ver, .slice za h.waiting[m].ptrs.length zc], u.oneCell' = true) := fun u hu => by simp at hu; rcases hu with rfl | rfl <;> rfl
            have HC3 := hide hCS3
            have cO2 : w2.cell? ⟨w.heap.size + 1 + 1 + 1 + 1, 1, none⟩ = some (.slice qa ns.length qc) := Lib.cell_of_heap hCS2.ko 1
            have cO4 : (w2.alloc (.cells #[.int .i64 h.waiting[m].ver, .slice za h.waiting[m].ptrs.length zc] 85)).cell? ⟨w.heap.size + 1 + 1 + 1 + 1, 1, none⟩ = some (.slice qa ns.length qc) := Lib.cell_of_heap hCS3.ko 1
            have hS2 : HS3 w.heap.size g m h.waiting.length yc h.waiting[m].ver qv w2 := HS3.keep hHeld bb2
            have hS3 : HS3 w.heap.size g m h.waiting.length yc h.waiting[m].ver qv (w2.alloc (.cells #[.int .i64 h.waiting[m].ver, .slice za h.waiting[m].ptrs.length zc] 85)) := HS3.keep hS2 hab
            clear hCS2 hCS3 hE2 hFi hy1 hy2
            refine hK.out _ _ (show HS3 w.heap.size g m h.waiting.length yc h.waiting[m].ver qv _ from hS2) (fun hHeld => ?_)
            clear hK K
            try simp only [Act.put]
            refine wpAnyH_take (i := 15) (v := ?_) rfl (by kernel_rfl) (by kernel_rfl) (by kernel_rfl) (fun _ _ _ h => h) (Or.inl ⟨by rfl, ?_⟩) (by assumption) ?_
            rotate_left 1
            · intro wy hSw
              obtain ⟨y0, y1, y2⟩ := hSw
              go_simp
              try with_reducible rfl
            try simp only [Act.put]
            refine wpAnyH_ready (rs := [1, 16]) (by kernel_rfl) (by simp) ?_
            refine AllReadyH.cons rfl (fun K hK => ?_) ?_
            · go_simp
              refine hK.out _ _ (show HS3 w.heap.size g m h.waiting.length yc h.waiting[m].ver qv _ from hHeld) (fun hHeld => ?_)
              clear hK K
              try simp only [Act.put]
              refine wpAnyH_ready (rs := [16]) (by kernel_rfl) (by simp) ?_
              refine AllReadyH.cons rfl (fun K hK => ?_) AllReadyH.nil
              go_simp
              refine hK.out _ _ (show HS3 w.heap.size g m h.waiting.length yc h.waiting[m].ver qv _ from hS3) (fun hHeld => ?_)
              clear hK K
              try simp only [Act.put]
              refine wpAnyH_ready (rs := [17]) (by kernel_rfl) (by simp) ?_
              refine AllReadyH.cons rfl (fun K hK => ?_) AllReadyH.nil
              refine step_append_elem (e := nwsE) nws_ty (by decide) Tryd.underlying37 infoNws rfl (by decide) (by decide) rfl (.tmp 43) (.tmp 58) rfl rfl (unhide O3) (unhide HF3) (unhide E3) (unhide HFI) (unhide HAP) rfl (by exact lit_cells w2 [_, _] _) (by exact unhide HONE) (by simp; omega) (by omega) ?_
              intro v' w3 bl' o4 f4 m4 hg4
              obtain ⟨va, vc, rfl, hv1, hv2⟩ := o4.form
              have ko3 := (unhide HC3).koN hg4
              have cO3 : w3.cell? ⟨w.heap.size + 1 + 1 + 1 + 1, 1, none⟩ = some (.slice qa ns.length qc) := Lib.cell_of_heap ko3 1
              have fO3 := Lib.frozen_of_heap ko3
              have hS4 : HS3 w.heap.size g m h.waiting.length yc h.waiting[m].ver qv w3 := HS3.grown hS3 hg4 (fun b hb => (unhide HF3).2 b ((unhide O3).head hb)) (by omega)
              try simp only [Act.put]
              refine hK.out _ _ (show HS3 w.heap.size g m h.waiting.length yc h.waiting[m].ver qv _ from hS4) (fun hHeld => ?_)
              clear hK K
              try simp only [Act.put]
              refine wpAnyH_take (i := 18) (v := ?_) rfl (by kernel_rfl) (by kernel_rfl) (by kernel_rfl) (fun _ _ _ h => h) (Or.inl ⟨by rfl, ?_⟩) (by assumption) ?_
              rotate_left 1
              · intro wy hSw
                obtain ⟨y0, y1, y2⟩ := hSw
                go_simp
                try with_reducible rfl
              try simp only [Act.put]
              refine wpAnyH_ready (rs := [19]) (by kernel_rfl) (by simp) ?_
              refine AllReadyH.cons rfl (fun K hK => ?_) AllReadyH.nil
              go_simp
              refine hK.out _ _ (show HS3 w.heap.size g m h.waiting.length yc h.waiting[m].ver qv _ from HS3.set hS4 (by omega) _ _) (fun hHeld => ?_)
              clear hK K
              try simp only [Act.put]
              have HN := hide ((unhide HC3).news hg4 o4 f4 m4 (unhide HAP2))
              rw [List.length_append, List.length_singleton, ← unhide HNX] at HN
              clear o4 f4 m4 hg4 hv1 hv2 ko3 cO3 fO3 cO2 cO4 HC3 HONE HAP2 HAP HFI E3 HF3 O3 hcw hab bb2 HM HCD cO1 fO c0 c1 hS2 hS3 hS4 hHeld
              refine wpAnyH_done (by kernel_rfl) ?_ _
              go_wp2
              go_roundw
              case rel => exact ⟨m + 1, by omega, by omega, by go_num, _, _, _, _, unhide HN⟩
              case measure => simp [intOf]; omega
            · refine AllReadyH.cons rfl (fun K hK => ?_) AllReadyH.nil
              go_simp
              refine hK.out _ _ (show HS3 w.heap.size g m h.waiting.length yc h.waiting[m].ver qv _ from hS3) (fun hHeld => ?_)
              clear hK K
              try simp only [Act.put]
              refine wpAnyH_ready (rs := [1]) (by kernel_rfl) (by simp) ?_
              refine AllReadyH.cons rfl (fun K hK => ?_) AllReadyH.nil
              go_simp
              refine hK.out _ _ (show HS3 w.heap.size g m h.waiting.length yc h.waiting[m].ver qv _ from hHeld) (fun hHeld => ?_)
              clear hK K
              try simp only [Act.put]
              refine wpAnyH_ready (rs := [17]) (by kernel_rfl) (by simp) ?_
              refine AllReadyH.cons rfl (fun K hK => ?_) AllReadyH.nil
              refine step_append_elem (e := nwsE) nws_ty (by decide) Tryd.underlying37 infoNws rfl (by decide) (by decide) rfl (.tmp 43) (.tmp 58) rfl rfl (unhide O3) (unhide HF3) (unhide E3) (unhide HFI) (unhide HAP) rfl (by exact lit_cells w2 [_, _] _) (by exact unhide HONE) (by simp; omega) (by omega) ?_
              intro v' w3 bl' o4 f4 m4 hg4
              obtain ⟨va, vc, rfl, hv1, hv2⟩ := o4.form
              have ko3 := (unhide HC3).koN hg4
              have cO3 : w3.cell? ⟨w.heap.size + 1 + 1 + 1 + 1, 1, none⟩ = some (.slice qa ns.length qc) := Lib.cell_of_heap ko3 1
              have fO3 := Lib.frozen_of_heap ko3
              have hS4 : HS3 w.heap.size g m h.waiting.length yc h.waiting[m].ver qv w3 := HS3.grown hS3 hg4 (fun b hb => (unhide HF3).2 b ((unhide O3).head hb)) (by omega)
              try simp only [Act.put]
              refine hK.out _ _ (show HS3 w.heap.size g m h.waiting.length yc h.waiting[m].ver qv _ from hS4) (fun hHeld => ?_)
              clear hK K
              try simp only [Act.put]
              refine wpAnyH_take (i := 18) (v := ?_) rfl (by kernel_rfl) (by kernel_rfl) (by kernel_rfl) (fun _ _ _ h => h) (Or.inl ⟨by rfl, ?_⟩) (by assumption) ?_
              rotate_left 1
              · intro wy hSw
                obtain ⟨y0, y1, y2⟩ := hSw
                go_simp
                try with_reducible rfl
              try simp only [Act.put]
              refine wpAnyH_ready (rs := [19]) (by kernel_rfl) (by simp) ?_
              refine AllReadyH.cons rfl (fun K hK => ?_) AllReadyH.nil
              go_simp
              refine hK.out _ _ (show HS3 w.heap.size g m h.waiting.length yc h.waiting[m].ver qv _ from HS3.set hS4 (by omega) _ _) (fun hHeld => ?_)
              clear hK K
              try simp only [Act.put]
              have HN := hide ((unhide HC3).news hg4 o4 f4 m4 (unhide HAP2))
              rw [List.length_append, List.length_singleton, ← unhide HNX] at HN
              clear o4 f4 m4 hg4 hv1 hv2 ko3 cO3 fO3 cO2 cO4 HC3 HONE HAP2 HAP HFI E3 HF3 O3 hcw hab bb2 HM HCD cO1 fO c0 c1 hS2 hS3 hS4 hHeld
              refine wpAnyH_done (by kernel_rfl) ?_ _
              go_wp2
              go_roundw
              case rel => exact ⟨m + 1, by omega, by omega, by go_num, _, _, _, _, unhide HN⟩
              case measure => simp [intOf]; omega
        · have hkl : (h.waiting.drop d).take (m - d) = h.waiting.drop d := List.take_of_length_le (by rw [List.length_drop]; omega)
          rw [hkl] at hcs
          obtain ⟨pa, pc, rfl, hfp, _⟩ := hcs.o1.form
          obtain ⟨qa, qc, rfl, hfq, _⟩ := hcs.o2.form
          rw [List.length_drop] at hcs
          have cO0 : wr.cell? ⟨w.heap.size + 1 + 1 + 1 + 1, 0, none⟩ = some (.slice pa (skipT h.watches s h.watches.length).length pc) := Lib.cell_of_heap hcs.ko 0
          have cO1 : wr.cell? ⟨w.heap.size + 1 + 1 + 1 + 1, 1, none⟩ = some (.slice qa (h.waiting.length - d) qc) := Lib.cell_of_heap hcs.ko 1
          have r0 : wr.cell? ⟨w.heap.size + 1, 0, none⟩ = some (.slice none 0 0) := Lib.cell_of_heap hcs.k1 0
          have r1 : wr.cell? ⟨w.heap.size + 1, 1, none⟩ = some (.slice none 0 0) := Lib.cell_of_heap hcs.k1 1
          have f1 := Lib.frozen_of_heap hcs.k1
          have HC := hide hcs
          clear hcs hkl hfp hfq
          go_wp2
          refine bodyPost_ret (results_cell_row rfl _ _ (w.heap.size + 1) 39 #[_, _] (0, 0) _ rfl (putN_full (unhide HC).k1 [_, _] rfl) Tryd.underlying39 rfl (by kernel_rfl)) rfl ?_
          have hn : w.heap.size + 1 ∉ b1 ++ b2 := fun hm => by have := (unhide HC).fs.2 _ hm; omega
          have n1 : w.heap.size + 1 ∉ b1 := fun hm => hn (List.mem_append.2 (.inl hm))
          have n2 : w.heap.size + 1 ∉ b2 := fun hm => hn (List.mem_append.2 (.inr hm))
          refine ⟨_, b1 ++ b2, rfl, ⟨_, _, b1, b2, rfl, (unhide HC).o1.putN n1 [_, _] 0, (unhide HC).o2.putN n2 [_, _] 0, rfl⟩, (unhide HC).fs.mono (by omega), ?_⟩
          exact putN_below (g := w.heap.size + 1) (unhide HC).bel (by omega) [_, _] 0
end Go.Proofs.YtbcfkkicmmhhcaaDoor
