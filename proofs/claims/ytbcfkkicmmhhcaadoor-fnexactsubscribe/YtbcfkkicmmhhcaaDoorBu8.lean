import Derived.Deep.RegionHeld
import Derived.Test.YtbcfkkicmmhhcaaDoorBu7
import Derived.Test.YtbcfkkicmmhhcaaDoorBu2
import Derived.Lib.AppendZerosOnto
namespace Go.Proofs.YtbcfkkicmmhhcaaDoor
open Go.RowKit

/-- Five new blocks. -/
structure New5 (w : World) (a b c d e : Obj) (w' : World) : Prop where
  bel : Below w.heap.size w w'
  size : w'.heap.size = w.heap.size + 1 + 1 + 1 + 1 + 1
  k0 : w'.heap[w.heap.size]? = some a
  k1 : w'.heap[w.heap.size + 1]? = some b
  k2 : w'.heap[w.heap.size + 1 + 1]? = some c
  k3 : w'.heap[w.heap.size + 1 + 1 + 1]? = some d
  k4 : w'.heap[w.heap.size + 1 + 1 + 1 + 1]? = some e
theorem new5 (w : World) (a b c d e : Obj) : New5 w a b c d e (((((w.alloc a).alloc b).alloc c).alloc d).alloc e) := by
  have h := new3 w a b c
  generalize ((w.alloc a).alloc b).alloc c = w3 at *
  have k := new2 w3 d e
  have hs := h.size
  generalize (w3.alloc d).alloc e = w5 at *
  have b5 := k.bel
  have s5 := k.size
  have k3 := k.k0
  have k4 := k.k1
  rw [hs] at b5 s5 k3 k4
  exact ⟨h.bel.trans (b5.mono (by omega)), s5, (b5.block _ (by omega)).trans h.k0, (b5.block _ (by omega)).trans h.k1, (b5.block _ (by omega)).trans h.k2, k3, k4⟩

/-- What the second region reads. -/
def HS3 (N g m n yc : Nat) (z : Int) (qv : Value) (w : World) : Prop := w.cell? ⟨N, 1, none⟩ = some (.slice (some ⟨g, 0, none⟩) n yc) ∧ w.cell? ⟨g, m * 2, none⟩ = some (.int .i64 z) ∧ w.cell? ⟨g, m * 2 + 1, none⟩ = some qv
section
variable {N g m n yc : Nat} {z : Int} {qv : Value} {w w' : World}
theorem HS3.keep (h : HS3 N g m n yc z qv w) (hb : Below w.heap.size w w') : HS3 N g m n yc z qv w' :=
  ⟨(hb.cell (World.block_lt_of_cell? _ _ h.1)).trans h.1, (hb.cell (World.block_lt_of_cell? _ _ h.2.1)).trans h.2.1, (hb.cell (World.block_lt_of_cell? _ _ h.2.2)).trans h.2.2⟩
theorem HS3.grown {row : Option Nat} (h : HS3 N g m n yc z qv w) (hg : w.grownBy w' row) (hr : ∀ b, row = some b → N + 1 + 1 ≤ b) (hN : g < N) : HS3 N g m n yc z qv w' :=
  ⟨hg.cell h.1 fun e => by have := hr N e.symm; omega, hg.cell h.2.1 fun e => by have := hr g e.symm; omega, hg.cell h.2.2 fun e => by have := hr g e.symm; omega⟩
theorem HS3.set (h : HS3 N g m n yc z qv w) (hN : g < N) (o : Nat) (u : Value) : HS3 N g m n yc z qv (w.setCell ⟨N + 1 + 1 + 1 + 1, o, none⟩ u) :=
  ⟨(World.cell?_of_block (w := w) (Below.heap_setCell _ _ _ _ (by simp; omega))).trans h.1, (World.cell?_of_block (w := w) (Below.heap_setCell _ _ _ _ (by simp; omega))).trans h.2.1, (World.cell?_of_block (w := w) (Below.heap_setCell _ _ _ _ (by simp; omega))).trans h.2.2⟩
end
set_option maxHeartbeats 1600000 in
set_option maxRecDepth 100000 in
theorem l5Copy_walk (v : Value) (h : Hb) (s : Int) (d : Nat) (bl : List Nat) (w : World) (ho : OHub w v h bl) (hs : szHb h ≤ 1048577) (hd : d ≤ 1) :
    Calls Tryd.prog 34 #[v, .int .i64 s, .int .i64 d] w fun e w' => ∃ v' bl', e = .returned v' ∧ OHub w' v' (copyH h s d) bl' ∧ Fsh w.heap.size bl' ∧ Below w.heap.size w w' := by
  obtain ⟨p, q, i1, i2, rfl, o1, o2, rfl⟩ := ho
  obtain ⟨xa, xc, rfl, hfm, hsh⟩ := o1.form
  obtain ⟨ya, yc, rfl, hfm2, hsh2⟩ := o2.form
  have hz1 : szWats h.watches ≤ 1048577 := by unfold szHb at hs; omega
  have hz2 : szNwss h.waiting ≤ 1048577 := by unfold szHb at hs; omega
  have hl1 : h.watches.length ≤ 1048577 := by unfold szWats at hz1; omega
  have hl2 : h.waiting.length ≤ 1048577 := by unfold szNwss at hz2; omega
  have hsz1 : ∀ k (hk : k < h.watches.length), szWat h.watches[k] ≤ 1048577 := fun k hk => by
    have h1 := sum_take_snoc szWat h.watches k h.watches[k] (List.getElem?_eq_getElem hk)
    have h2 := sum_take_le (h.watches.map szWat) (k + 1)
    rw [← List.map_take] at h2
    unfold szWats at hz1; omega
  have hsz2 : ∀ k (hk : k < h.waiting.length), h.waiting[k].ptrs.length ≤ 1048577 := fun k hk => by
    have h1 := sum_take_snoc szNws h.waiting k h.waiting[k] (List.getElem?_eq_getElem hk)
    have h2 := sum_take_le (h.waiting.map szNws) (k + 1)
    rw [← List.map_take] at h2
    unfold szNwss at hz2
    have h3 : h.waiting[k].ptrs.length ≤ szNws h.waiting[k] := by unfold szNws szStr; omega
    omega
  have HZ1 := hide hsz1
  have HZ2 := hide hsz2
  have O1 := hide o1
  have O2 := hide o2
  have HSH := hide hsh
  have HSH2 := hide hsh2
  clear o1 o2 hfm hsh hfm2 hsh2 hs hz1 hz2 hsz1 hsz2
  go_enter Tryd.func34, Tryd.ntmps34
  go_wp2
  have hA := new5 w (Obj.cells #[Value.slice xa h.watches.length xc, Value.slice ya h.waiting.length yc] 39) (Obj.cells #[Value.slice none 0 0, Value.slice none 0 0] 39) (Obj.cells #[] 72) (Obj.cells #[] 85) (Obj.cells #[Value.slice (some ⟨w.heap.size + 1 + 1, 0, none⟩) 0 0, Value.slice (some ⟨w.heap.size + 1 + 1 + 1, 0, none⟩) 0 0] 39)
  generalize (((((w.alloc (Obj.cells #[Value.slice xa h.watches.length xc, Value.slice ya h.waiting.length yc] 39)).alloc (Obj.cells #[Value.slice none 0 0, Value.slice none 0 0] 39)).alloc (Obj.cells #[] 72)).alloc (Obj.cells #[] 85)).alloc (Obj.cells #[Value.slice (some ⟨w.heap.size + 1 + 1, 0, none⟩) 0 0, Value.slice (some ⟨w.heap.size + 1 + 1 + 1, 0, none⟩) 0 0] 39)) = wA at *
  have hCS : CS w (Obj.cells #[Value.slice xa h.watches.length xc, Value.slice ya h.waiting.length yc] 39) (Obj.cells #[Value.slice none 0 0, Value.slice none 0 0] 39) wA (.slice (some ⟨w.heap.size + 1 + 1, 0, none⟩) 0 0) (.slice (some ⟨w.heap.size + 1 + 1 + 1, 0, none⟩) 0 0) [] [] [w.heap.size + 1 + 1] [w.heap.size + 1 + 1 + 1] := by
    refine ⟨hA.bel, hA.k0, hA.k1, hA.k4, ⟨[], rfl, fun _ _ _ h => by simp at h, ?_, rfl⟩, ⟨[], rfl, fun _ _ _ h => by simp at h, ?_, rfl⟩, by simp, fun b hb => by simp at hb; omega⟩
    · exact ⟨by simp, .inr ⟨w.heap.size + 1 + 1, 0, #[], rfl, Nat.zero_le _, hA.k2, Nat.zero_le _, Nat.zero_le _, by simp, by simp⟩⟩
    · exact ⟨by simp, .inr ⟨w.heap.size + 1 + 1 + 1, 0, #[], rfl, Nat.zero_le _, hA.k3, Nat.zero_le _, Nat.zero_le _, by simp, by simp⟩⟩
  have HCS := hide hCS
  clear hA hCS
  go_loopw [8] (fun i wr => ∃ k : Nat, k ≤ h.watches.length ∧ i = .int .i64 (k : Int) ∧ ∃ p q b1 b2, CS w (Obj.cells #[Value.slice xa h.watches.length xc, Value.slice ya h.waiting.length yc] 39) (Obj.cells #[Value.slice none 0 0, Value.slice none 0 0] 39) wr p q (skipT h.watches s k) [] b1 b2) (fun i _ => h.watches.length - (intOf i).toNat)
  case atStart => exact ⟨0, Nat.zero_le _, rfl, _, _, _, _, unhide HCS⟩
  case round =>
    obtain ⟨k, hk, rfl, p, q, b1, b2, hcs⟩ := hrel
    have c00 : wr.cell? ⟨w.heap.size, 0, none⟩ = some (.slice xa h.watches.length xc) := Lib.cell_of_heap hcs.k0 0
    by_cases hlt : k < h.watches.length
    · by_cases hks : (k : Int) = s
      · have hnx : skipT h.watches s (k + 1) = skipT h.watches s k := by rw [skipT, if_pos hks, List.append_nil]
        have HNX := hide hnx
        have HC := hide hcs
        have t1 : ((k : Int) != s) = false := by simpa using hks
        clear hnx hcs hks
        go_wp2
        go_roundw
        case rel => exact ⟨k + 1, by omega, by go_num, p, q, b1, b2, by rw [unhide HNX]; exact unhide HC⟩
        case measure => simp [intOf]; omega
      · have hnx : skipT h.watches s (k + 1) = skipT h.watches s k ++ [h.watches[k]] := by rw [skipT, if_neg hks, List.getElem?_eq_getElem hlt]; rfl
        have HNX := hide hnx
        have t1 : ((k : Int) != s) = true := by simpa using hks
        obtain ⟨pa, pc, rfl, hfp, _⟩ := hcs.o1.form
        obtain ⟨qa, qc, rfl, hfq, _⟩ := hcs.o2.form
        have hbw := hcs.bel
        have cO0 : wr.cell? ⟨w.heap.size + 1 + 1 + 1 + 1, 0, none⟩ = some (.slice pa (skipT h.watches s k).length pc) := Lib.cell_of_heap hcs.ko 0
        have fO := Lib.frozen_of_heap hcs.ko
        have hko := (Array.getElem?_eq_some_iff.1 hcs.ko).1
        obtain ⟨g, rfl⟩ := unhide HSH (by omega)
        obtain ⟨vs, jb, hE, hc, hx1, hx2, hx3⟩ := ((unhide O1).below hbw).at (List.getElem?_eq_getElem hlt)
        obtain ⟨a0, a1, a2, a3, a4, a5, rfl⟩ := list6 (watE.len hE)
        have c0 : wr.cell? ⟨g, k * 6, none⟩ = _ := (hc 0 _ rfl).1
        have c1 : wr.cell? ⟨g, k * 6 + 1, none⟩ = _ := (hc 1 _ rfl).1
        have c2 : wr.cell? ⟨g, k * 6 + 2, none⟩ = _ := (hc 2 _ rfl).1
        have c3 : wr.cell? ⟨g, k * 6 + 3, none⟩ = _ := (hc 3 _ rfl).1
        have c4 : wr.cell? ⟨g, k * 6 + 4, none⟩ = _ := (hc 4 _ rfl).1
        have c5 : wr.cell? ⟨g, k * 6 + 5, none⟩ = _ := (hc 5 _ rfl).1
        have hdr : Below wr.heap.size wr wr.drew := (Below.refl _ _).drew
        have HM := hide (l5Wat_walk a0 a1 a2 a3 a4 a5 h.watches[k] 0 jb wr.drew (watE.keep hE (.of_below hdr (watE.lt hE))) (unhide HZ1 k hlt) (by omega))
        have hlk := skipT_len h.watches s k
        have HCD := hide (hcs.below hdr)
        have hltI : (k : Int) < (h.watches.length : Int) := by omega
        clear hx1 hx2 hx3 hc hE hfp hfq hbw hnx hks hdr hcs
        go_wp2
        go_region_law (first
          | (refine step_append_elem (e := watE) wat_ty (by decide) Tryd.underlying36 infoWat rfl (by decide) (by decide) rfl (.tmp 24) (.tmp 31) rfl rfl (unhide O3) (unhide HF3) (unhide E3) (unhide HFI) (unhide HAP) rfl (by exact lit_cells w2 [_, _, _, _, _, _] _) (by exact unhide HONE) (by simp; omega) (by omega) ?_
             intro v' w3 bl' o4 f4 m4 hg4
             obtain ⟨va, vc, rfl, hv1, hv2⟩ := o4.form
             have ko3 := (unhide HC3).koW hg4
             have cO3 : w3.cell? ⟨w.heap.size + 1 + 1 + 1 + 1, 0, none⟩ = some (.slice pa (skipT h.watches s k).length pc) := Lib.cell_of_heap ko3 0
             have fO3 := Lib.frozen_of_heap ko3)
          | (go_simp; refine (unhide HM).mono ?_
             rintro e w2 ⟨b0, b1', b2', b3, b4, b5, ib, rfl, hE2', hFi, bb2⟩
             have hE2 : watE.E w2 [b0, b1', b2', b3, b4, b5] h.watches[k] ib := hE2'
             have hE0 := hE2
             obtain ⟨q0, hbs0, hE1⟩ := hE0
             injection hbs0 with e0 hbs0; injection hbs0 with e1 hbs0; injection hbs0 with e2 hbs0; injection hbs0 with e3 hbs0; injection hbs0 with e4 hbs0; injection hbs0 with e5 hbs0
             subst e0; subst e1; subst e2; subst e3; subst e4; subst e5
             obtain ⟨za, zc, rfl, hy1, hy2⟩ := hE1.form
             have hsz2 : wr.heap.size ≤ w2.heap.size := bb2.size
             have hCS2 := (unhide HCD).below bb2
             have hab : Below w2.heap.size w2 (w2.alloc (.cells #[.int .i64 h.watches[k].client, .string h.watches[k].ptr, .int .i64 h.watches[k].cap, .int .i64 h.watches[k].since, .bool h.watches[k].closed, .slice za h.watches[k].queue.length zc] 72)) := alloc_b _ _
             have hCS3 := hCS2.below hab
             have hcw : w.heap.size ≤ wr.heap.size := (unhide HCD).bel.size
             have O3 := hide hCS3.o1
             have HF3 := hide (show Fsh (w.heap.size + 1 + 1) b1 from ⟨(List.nodup_append.1 hCS3.fs.1).1, fun b hb => hCS3.fs.2 b (List.mem_append.2 (.inl hb))⟩)
             have E3 := hide (watE.keep hE2 (.of_below hab (watE.lt hE2)))
             have HFI := hide (hFi.mono (B' := w.heap.size + 1 + 1) (by simp; omega))
             have HAP : Hid (∀ b ∈ ib, b ∉ b1) := fun b hb hbl => by have h1 := hFi.2 b hb; have h2 := (unhide HCD).o1.lt b hbl; simp at h1 h2; omega
             have HAP2 : Hid (∀ b ∈ ib, b ∉ b2) := fun b hb hbl => by have h1 := hFi.2 b hb; have h2 := (unhide HCD).o2.lt b hbl; simp at h1 h2; omega
             have HONE : Hid (∀ u ∈ [Value.int .i64 h.watches[k].client, .string h.watches[k].ptr, .int .i64 h.watches[k].cap, .int .i64 h.watches[k].since, .bool h.watches[k].closed, .slice za h.watches[k].queue.length zc], u.oneCell' = true) := fun u hu => by simp at hu; rcases hu with rfl | rfl | rfl | rfl | rfl | rfl <;> rfl
             have HC3 := hide hCS3
             have cO2 : w2.cell? ⟨w.heap.size + 1 + 1 + 1 + 1, 0, none⟩ = some (.slice pa (skipT h.watches s k).length pc) := Lib.cell_of_heap hCS2.ko 0
             have cO4 : (w2.alloc (.cells #[.int .i64 h.watches[k].client, .string h.watches[k].ptr, .int .i64 h.watches[k].cap, .int .i64 h.watches[k].since, .bool h.watches[k].closed, .slice za h.watches[k].queue.length zc] 72)).cell? ⟨w.heap.size + 1 + 1 + 1 + 1, 0, none⟩ = some (.slice pa (skipT h.watches s k).length pc) := Lib.cell_of_heap hCS3.ko 0))
        all_goals (
          have HN := hide ((unhide HC3).watch hg4 o4 f4 m4 (unhide HAP2))
          rw [List.length_append, List.length_singleton, ← unhide HNX] at HN
          clear o4 f4 m4 hg4 hv1 hv2 ko3 cO3 fO3 cO2 cO4 HC3 HONE HAP2 HAP HFI E3 HF3 O3 hcw hCS3 hab hCS2 hy1 hy2 hE1 hbs0 hE2 hE2' hFi bb2 HM HCD cO0 fO c0 c1 c2 c3 c4 c5
          go_wp2
          go_roundw)
        all_goals first
          | exact ⟨k + 1, by omega, by go_num, _, _, _, _, unhide HN⟩
          | (simp [intOf]; omega)
    · have hk' : k = h.watches.length := by omega
      subst hk'
      have HCW := hide hcs
      clear hcs
      go_wp2
      go_loopw [9] (fun i wx => ∃ m : Nat, d ≤ m ∧ m ≤ max d h.waiting.length ∧ i = .int .i64 (m : Int) ∧ ∃ p q b1 b2, CS w (Obj.cells #[Value.slice xa h.watches.length xc, Value.slice ya h.waiting.length yc] 39) (Obj.cells #[Value.slice none 0 0, Value.slice none 0 0] 39) wx p q (skipT h.watches s h.watches.length) ((h.waiting.drop d).take (m - d)) b1 b2) (fun i _ => h.waiting.length - (intOf i).toNat)
      case atStart => exact ⟨d, Nat.le_refl _, by omega, rfl, _, _, _, _, by rw [Nat.sub_self]; exact unhide HCW⟩
      case round =>
        obtain ⟨m, hdm, hm, rfl, p, q, b1, b2, hcs⟩ := hrel
        have c01 : wr.cell? ⟨w.heap.size, 1, none⟩ = some (.slice ya h.waiting.length yc) := Lib.cell_of_heap hcs.k0 1
        by_cases hlt : m < h.waiting.length
        · have hnx : (h.waiting.drop d).take (m + 1 - d) = (h.waiting.drop d).take (m - d) ++ [h.waiting[m]] := by
            rw [show m + 1 - d = m - d + 1 from by omega, List.take_add_one, List.getElem?_drop, show d + (m - d) = m from by omega, List.getElem?_eq_getElem hlt]; rfl
          have hll : ((h.waiting.drop d).take (m - d)).length = m - d := by rw [List.length_take, List.length_drop]; omega
          have HNX := hide hnx
          have HLL := hide hll
          obtain ⟨pa, pc, rfl, hfp, _⟩ := hcs.o1.form
          obtain ⟨qa, qc, rfl, hfq, _⟩ := hcs.o2.form
          generalize (h.waiting.drop d).take (m - d) = ns at *
          have hbw := hcs.bel
          have cO1 : wr.cell? ⟨w.heap.size + 1 + 1 + 1 + 1, 1, none⟩ = some (.slice qa ns.length qc) := Lib.cell_of_heap hcs.ko 1
          have fO := Lib.frozen_of_heap hcs.ko
          have hko := (Array.getElem?_eq_some_iff.1 hcs.ko).1
          obtain ⟨g, rfl⟩ := unhide HSH2 (by omega)
          obtain ⟨vs, jb, hE, hc, hx1, hx2, hx3⟩ := ((unhide O2).below hbw).at (List.getElem?_eq_getElem hlt)
          obtain ⟨qv, rfl, hq⟩ := hE
          have c0 : wr.cell? ⟨g, m * 2, none⟩ = some (.int .i64 h.waiting[m].ver) := (hc 0 _ rfl).1
          have c1 : wr.cell? ⟨g, m * 2 + 1, none⟩ = some qv := (hc 1 _ rfl).1
          have hgw : g < w.heap.size := (unhide O2).lt g ((unhide O2).head rfl)
          have hdr : Below wr.heap.size wr wr.drew := (Below.refl _ _).drew
          have HM := hide (l5Texts_walk qv h.waiting[m].ptrs jb wr.drew (hq.below hdr) (unhide HZ2 m hlt))
          have HCD := hide (hcs.below hdr)
          have hltI : (m : Int) < (h.waiting.length : Int) := by omega
          have hll' : ns.length ≤ 1048577 := by omega
          have K0 := hide hcs.k0
          clear hx1 hx2 hx3 hc hq hfp hfq hbw hnx hdr hcs hll
          go_wp2
          refine wp_region_held_drew (S := HS3 w.heap.size g m h.waiting.length yc h.waiting[m].ver qv) (by kernel_rfl) ⟨c01, c0, c1⟩ (fun hHeld => ?_)
          refine wpAnyH_take (i := 0) (v := ?_) rfl (by kernel_rfl) (by kernel_rfl) (by kernel_rfl) (fun _ _ _ h => h) (Or.inl ⟨by rfl, ?_⟩) (by assumption) ?_
          rotate_left 1
          · intro wy hSw
            obtain ⟨y0, y1, y2⟩ := hSw
            go_simp
            try with_reducible rfl
          try simp only [Act.put]
          refine wpAnyH_take (i := 2) (v := ?_) rfl (by kernel_rfl) (by kernel_rfl) (by kernel_rfl) (fun _ _ _ h => h) (Or.inl ⟨by rfl, ?_⟩) (by assumption) ?_
          rotate_left 1
          · intro wy hSw
            obtain ⟨y0, y1, y2⟩ := hSw
            go_simp
            try with_reducible rfl
          try simp only [Act.put]
          refine wpAnyH_take (i := 4) (v := ?_) rfl (by kernel_rfl) (by kernel_rfl) (by kernel_rfl) (fun _ _ _ h => h) (Or.inl ⟨by rfl, ?_⟩) (by assumption) ?_
          rotate_left 1
          · intro wy hSw
            obtain ⟨y0, y1, y2⟩ := hSw
            go_simp
            try with_reducible rfl
          try simp only [Act.put]
          refine wpAnyH_take (i := 3) (v := ?_) rfl (by kernel_rfl) (by kernel_rfl) (by kernel_rfl) (fun _ _ _ h => h) (Or.inl ⟨by rfl, ?_⟩) (by assumption) ?_
          rotate_left 1
          · intro wy hSw
            obtain ⟨y0, y1, y2⟩ := hSw
            go_simp
            try with_reducible rfl
          try simp only [Act.put]
          refine wpAnyH_take (i := 5) (v := ?_) rfl (by kernel_rfl) (by kernel_rfl) (by kernel_rfl) (fun _ _ _ h => h) (Or.inl ⟨by rfl, ?_⟩) (by assumption) ?_
          rotate_left 1
          · intro wy hSw
            obtain ⟨y0, y1, y2⟩ := hSw
            go_simp
            try with_reducible rfl
          try simp only [Act.put]
          refine wpAnyH_take (i := 6) (v := ?_) rfl (by kernel_rfl) (by kernel_rfl) (by kernel_rfl) (fun _ _ _ h => h) (Or.inl ⟨by rfl, ?_⟩) (by assumption) ?_
          rotate_left 1
          · intro wy hSw
            obtain ⟨y0, y1, y2⟩ := hSw
            go_simp
            try with_reducible rfl
          try simp only [Act.put]
          refine wpAnyH_take (i := 8) (v := ?_) rfl (by kernel_rfl) (by kernel_rfl) (by kernel_rfl) (fun _ _ _ h => h) (Or.inl ⟨by rfl, ?_⟩) (by assumption) ?_
          rotate_left 1
          · intro wy hSw
            obtain ⟨y0, y1, y2⟩ := hSw
            go_simp
            try with_reducible rfl
          try simp only [Act.put]
          refine wpAnyH_take (i := 10) (v := ?_) rfl (by kernel_rfl) (by kernel_rfl) (by kernel_rfl) (fun _ _ _ h => h) (Or.inl ⟨by rfl, ?_⟩) (by assumption) ?_
          rotate_left 1
          · intro wy hSw
            obtain ⟨y0, y1, y2⟩ := hSw
            go_simp
            try with_reducible rfl
          try simp only [Act.put]
          refine wpAnyH_take (i := 7) (v := ?_) rfl (by kernel_rfl) (by kernel_rfl) (by kernel_rfl) (fun _ _ _ h => h) (Or.inl ⟨by rfl, ?_⟩) (by assumption) ?_
          rotate_left 1
          · intro wy hSw
            obtain ⟨y0, y1, y2⟩ := hSw
            go_simp
            try with_reducible rfl
          try simp only [Act.put]
          refine wpAnyH_take (i := 9) (v := ?_) rfl (by kernel_rfl) (by kernel_rfl) (by kernel_rfl) (fun _ _ _ h => h) (Or.inl ⟨by rfl, ?_⟩) (by assumption) ?_
          rotate_left 1
          · intro wy hSw
            obtain ⟨y0, y1, y2⟩ := hSw
            go_simp
            try with_reducible rfl
          try simp only [Act.put]
          refine wpAnyH_take (i := 11) (v := ?_) rfl (by kernel_rfl) (by kernel_rfl) (by kernel_rfl) (fun _ _ _ h => h) (Or.inl ⟨by rfl, ?_⟩) (by assumption) ?_
          rotate_left 1
          · intro wy hSw
            obtain ⟨y0, y1, y2⟩ := hSw
            go_simp
            try with_reducible rfl
          try simp only [Act.put]
          refine wpAnyH_take (i := 12) (v := ?_) rfl (by kernel_rfl) (by kernel_rfl) (by kernel_rfl) (fun _ _ _ h => h) (Or.inl ⟨by rfl, ?_⟩) (by assumption) ?_
          rotate_left 1
          · intro wy hSw
            obtain ⟨y0, y1, y2⟩ := hSw
            go_simp
            try with_reducible rfl
          try simp only [Act.put]
          refine wpAnyH_take (i := 13) (v := ?_) rfl (by kernel_rfl) (by kernel_rfl) (by kernel_rfl) (fun _ _ _ h => h) (Or.inl ⟨by rfl, ?_⟩) (by assumption) ?_
          rotate_left 1
          · intro wy hSw
            obtain ⟨y0, y1, y2⟩ := hSw
            go_simp
            try with_reducible rfl
          try simp only [Act.put]
          refine wpAnyH_ready (rs := [1, 14]) (by kernel_rfl) (by simp) ?_
          refine AllReadyH.cons rfl (fun K hK => ?_) ?_
          · go_simp
            refine hK.out _ _ (show HS3 w.heap.size g m h.waiting.length yc h.waiting[m].ver qv _ from hHeld) (fun hHeld => ?_)
            clear hK K
            try simp only [Act.put]
            refine wpAnyH_ready (rs := [14]) (by kernel_rfl) (by simp) ?_
            refine AllReadyH.cons rfl (fun K hK => ?_) AllReadyH.nil
            go_simp
            refine (unhide HM).mono ?_
            rintro e w2 ⟨r2, ib, rfl, hE2, hFi, bb2⟩
            obtain ⟨za, zc, rfl, hy1, hy2⟩ := hE2.form
            have hsz2 : wr.heap.size ≤ w2.heap.size := bb2.size
            have hCS2 := (unhide HCD).below bb2
            have hab : Below w2.heap.size w2 (w2.alloc (.cells #[.int .i64 h.waiting[m].ver, .slice za h.waiting[m].ptrs.length zc] 85)) := alloc_b _ _
            have hCS3 := hCS2.below hab
            have hcw : w.heap.size ≤ wr.heap.size := (unhide HCD).bel.size
            have O3 := hide hCS3.o2
            have HF3 := hide (show Fsh (w.heap.size + 1 + 1) b2 from ⟨(List.nodup_append.1 hCS3.fs.1).2.1, fun b hb => hCS3.fs.2 b (List.mem_append.2 (.inr hb))⟩)
            have E3 := hide (show nwsE.E (w2.alloc (.cells #[.int .i64 h.waiting[m].ver, .slice za h.waiting[m].ptrs.length zc] 85)) [.int .i64 h.waiting[m].ver, .slice za h.waiting[m].ptrs.length zc] h.waiting[m] ib from ⟨_, rfl, hE2.below hab⟩)
            have HFI := hide (hFi.mono (B' := w.heap.size + 1 + 1) (by simp; omega))
            have HAP : Hid (∀ b ∈ ib, b ∉ b2) := fun b hb hbl => by have h1 := hFi.2 b hb; have h2 := (unhide HCD).o2.lt b hbl; simp at h1 h2; omega
            have HAP2 : Hid (∀ b ∈ ib, b ∉ b1) := fun b hb hbl => by have h1 := hFi.2 b hb; have h2 := (unhide HCD).o1.lt b hbl; simp at h1 h2; omega
            have HONE : Hid (∀ u ∈ [Value.int .i64 h.waiting[m].ver, .slice za h.waiting[m].ptrs.length zc], u.oneCell' = true) := fun u hu => by simp at hu; rcases hu with rfl | rfl <;> rfl
            have HC3 := hide hCS3
            have cO2 : w2.cell? ⟨w.heap.size + 1 + 1 + 1 + 1, 1, none⟩ = some (.slice qa ns.length qc) := Lib.cell_of_heap hCS2.ko 1
            have cO4 : (w2.alloc (.cells #[.int .i64 h.waiting[m].ver, .slice za h.waiting[m].ptrs.length zc] 85)).cell? ⟨w.heap.size + 1 + 1 + 1 + 1, 1, none⟩ = some (.slice qa ns.length qc) := Lib.cell_of_heap hCS3.ko 1
            have hS2 : HS3 w.heap.size g m h.waiting.length yc h.waiting[m].ver qv w2 := HS3.keep hHeld bb2
            have hS3 : HS3 w.heap.size g m h.waiting.length yc h.waiting[m].ver qv (w2.alloc (.cells #[.int .i64 h.waiting[m].ver, .slice za h.waiting[m].ptrs.length zc] 85)) := HS3.keep hS2 hab
            clear hCS2 hCS3 hE2 hFi hy1 hy2
            refine hK.out _ _ (show HS3 w.heap.size g m h.waiting.length yc h.waiting[m].ver qv _ from hS2) (fun hHeld => ?_)
            clear hK K
            try simp only [Act.put]
            refine wpAnyH_take (i := 15) (v := ?_) rfl (by kernel_rfl) (by kernel_rfl) (by kernel_rfl) (fun _ _ _ h => h) (Or.inl ⟨by rfl, ?_⟩) (by assumption) ?_
            rotate_left 1
            · intro wy hSw
              obtain ⟨y0, y1, y2⟩ := hSw
              go_simp
              try with_reducible rfl
            try simp only [Act.put]
            refine wpAnyH_ready (rs := [16]) (by kernel_rfl) (by simp) ?_
            refine AllReadyH.cons rfl (fun K hK => ?_) AllReadyH.nil
            go_simp
            refine hK.out _ _ (show HS3 w.heap.size g m h.waiting.length yc h.waiting[m].ver qv _ from hS3) (fun hHeld => ?_)
            clear hK K
            try simp only [Act.put]
            refine wpAnyH_ready (rs := [17]) (by kernel_rfl) (by simp) ?_
            refine AllReadyH.cons rfl (fun K hK => ?_) AllReadyH.nil
            refine step_append_elem (e := nwsE) nws_ty (by decide) Tryd.underlying37 infoNws rfl (by decide) (by decide) rfl (.tmp 43) (.tmp 58) rfl rfl (unhide O3) (unhide HF3) (unhide E3) (unhide HFI) (unhide HAP) rfl (by exact lit_cells w2 [_, _] _) (by exact unhide HONE) (by simp; omega) (by omega) ?_
            intro v' w3 bl' o4 f4 m4 hg4
            obtain ⟨va, vc, rfl, hv1, hv2⟩ := o4.form
            have ko3 := (unhide HC3).koN hg4
            have cO3 : w3.cell? ⟨w.heap.size + 1 + 1 + 1 + 1, 1, none⟩ = some (.slice qa ns.length qc) := Lib.cell_of_heap ko3 1
            have fO3 := Lib.frozen_of_heap ko3
            have hS4 : HS3 w.heap.size g m h.waiting.length yc h.waiting[m].ver qv w3 := HS3.grown hS3 hg4 (fun b hb => (unhide HF3).2 b ((unhide O3).head hb)) (by omega)
            try simp only [Act.put]
            refine hK.out _ _ (show HS3 w.heap.size g m h.waiting.length yc h.waiting[m].ver qv _ from hS4) (fun hHeld => ?_)
            clear hK K
            try simp only [Act.put]
            refine wpAnyH_take (i := 18) (v := ?_) rfl (by kernel_rfl) (by kernel_rfl) (by kernel_rfl) (fun _ _ _ h => h) (Or.inl ⟨by rfl, ?_⟩) (by assumption) ?_
            rotate_left 1
            · intro wy hSw
              obtain ⟨y0, y1, y2⟩ := hSw
              go_simp
              try with_reducible rfl
            try simp only [Act.put]
            refine wpAnyH_ready (rs := [19]) (by kernel_rfl) (by simp) ?_
            refine AllReadyH.cons rfl (fun K hK => ?_) AllReadyH.nil
            go_simp
            refine hK.out _ _ (show HS3 w.heap.size g m h.waiting.length yc h.waiting[m].ver qv _ from HS3.set hS4 (by omega) _ _) (fun hHeld => ?_)
            clear hK K
            try simp only [Act.put]
            have HN := hide ((unhide HC3).news hg4 o4 f4 m4 (unhide HAP2))
            rw [List.length_append, List.length_singleton, ← unhide HNX] at HN
            clear o4 f4 m4 hg4 hv1 hv2 ko3 cO3 fO3 cO2 cO4 HC3 HONE HAP2 HAP HFI E3 HF3 O3 hcw hab bb2 HM HCD cO1 fO c0 c1 hS2 hS3 hS4 hHeld
            refine wpAnyH_done (by kernel_rfl) ?_ _
            go_wp2
            go_roundw
            case rel => exact ⟨m + 1, by omega, by omega, by go_num, _, _, _, _, unhide HN⟩
            case measure => simp [intOf]; omega
          · refine AllReadyH.cons rfl (fun K hK => ?_) AllReadyH.nil
            go_simp
            refine (unhide HM).mono ?_
            rintro e w2 ⟨r2, ib, rfl, hE2, hFi, bb2⟩
            obtain ⟨za, zc, rfl, hy1, hy2⟩ := hE2.form
            have hsz2 : wr.heap.size ≤ w2.heap.size := bb2.size
            have hCS2 := (unhide HCD).below bb2
            have hab : Below w2.heap.size w2 (w2.alloc (.cells #[.int .i64 h.waiting[m].ver, .slice za h.waiting[m].ptrs.length zc] 85)) := alloc_b _ _
            have hCS3 := hCS2.below hab
            have hcw : w.heap.size ≤ wr.heap.size := (unhide HCD).bel.size
            have O3 := hide hCS3.o2
            have HF3 := hide (show Fsh (w.heap.size + 1 + 1) b2 from ⟨(List.nodup_append.1 hCS3.fs.1).2.1, fun b hb => hCS3.fs.2 b (List.mem_append.2 (.inr hb))⟩)
            have E3 := hide (show nwsE.E (w2.alloc (.cells #[.int .i64 h.waiting[m].ver, .slice za h.waiting[m].ptrs.length zc] 85)) [.int .i64 h.waiting[m].ver, .slice za h.waiting[m].ptrs.length zc] h.waiting[m] ib from ⟨_, rfl, hE2.below hab⟩)
            have HFI := hide (hFi.mono (B' := w.heap.size + 1 + 1) (by simp; omega))
            have HAP : Hid (∀ b ∈ ib, b ∉ b2) := fun b hb hbl => by have h1 := hFi.2 b hb; have h2 := (unhide HCD).o2.lt b hbl; simp at h1 h2; omega
            have HAP2 : Hid (∀ b ∈ ib, b ∉ b1) := fun b hb hbl => by have h1 := hFi.2 b hb; have h2 := (unhide HCD).o1.lt b hbl; simp at h1 h2; omega
            have HONE : Hid (∀ u ∈ [Value.int .i64 h.waiting[m].ver, .slice za h.waiting[m].ptrs.length zc], u.oneCell' = true) := fun u hu => by simp at hu; rcases hu with rfl | rfl <;> rfl
            have HC3 := hide hCS3
            have cO2 : w2.cell? ⟨w.heap.size + 1 + 1 + 1 + 1, 1, none⟩ = some (.slice qa ns.length qc) := Lib.cell_of_heap hCS2.ko 1
            have cO4 : (w2.alloc (.cells #[.int .i64 h.waiting[m].ver, .slice za h.waiting[m].ptrs.length zc] 85)).cell? ⟨w.heap.size + 1 + 1 + 1 + 1, 1, none⟩ = some (.slice qa ns.length qc) := Lib.cell_of_heap hCS3.ko 1
            have hS2 : HS3 w.heap.size g m h.waiting.length yc h.waiting[m].ver qv w2 := HS3.keep hHeld bb2
            have hS3 : HS3 w.heap.size g m h.waiting.length yc h.waiting[m].ver qv (w2.alloc (.cells #[.int .i64 h.waiting[m].ver, .slice za h.waiting[m].ptrs.length zc] 85)) := HS3.keep hS2 hab
            clear hCS2 hCS3 hE2 hFi hy1 hy2
            refine hK.out _ _ (show HS3 w.heap.size g m h.waiting.length yc h.waiting[m].ver qv _ from hS2) (fun hHeld => ?_)
            clear hK K
            try simp only [Act.put]
            refine wpAnyH_take (i := 15) (v := ?_) rfl (by kernel_rfl) (by kernel_rfl) (by kernel_rfl) (fun _ _ _ h => h) (Or.inl ⟨by rfl, ?_⟩) (by assumption) ?_
            rotate_left 1
            · intro wy hSw
              obtain ⟨y0, y1, y2⟩ := hSw
              go_simp
              try with_reducible rfl
            try simp only [Act.put]
            refine wpAnyH_ready (rs := [1, 16]) (by kernel_rfl) (by simp) ?_
            refine AllReadyH.cons rfl (fun K hK => ?_) ?_
            · go_simp
              refine hK.out _ _ (show HS3 w.heap.size g m h.waiting.length yc h.waiting[m].ver qv _ from hHeld) (fun hHeld => ?_)
              clear hK K
              try simp only [Act.put]
              refine wpAnyH_ready (rs := [16]) (by kernel_rfl) (by simp) ?_
              refine AllReadyH.cons rfl (fun K hK => ?_) AllReadyH.nil
              go_simp
              refine hK.out _ _ (show HS3 w.heap.size g m h.waiting.length yc h.waiting[m].ver qv _ from hS3) (fun hHeld => ?_)
              clear hK K
              try simp only [Act.put]
              refine wpAnyH_ready (rs := [17]) (by kernel_rfl) (by simp) ?_
              refine AllReadyH.cons rfl (fun K hK => ?_) AllReadyH.nil
              refine step_append_elem (e := nwsE) nws_ty (by decide) Tryd.underlying37 infoNws rfl (by decide) (by decide) rfl (.tmp 43) (.tmp 58) rfl rfl (unhide O3) (unhide HF3) (unhide E3) (unhide HFI) (unhide HAP) rfl (by exact lit_cells w2 [_, _] _) (by exact unhide HONE) (by simp; omega) (by omega) ?_
              intro v' w3 bl' o4 f4 m4 hg4
              obtain ⟨va, vc, rfl, hv1, hv2⟩ := o4.form
              have ko3 := (unhide HC3).koN hg4
              have cO3 : w3.cell? ⟨w.heap.size + 1 + 1 + 1 + 1, 1, none⟩ = some (.slice qa ns.length qc) := Lib.cell_of_heap ko3 1
              have fO3 := Lib.frozen_of_heap ko3
              have hS4 : HS3 w.heap.size g m h.waiting.length yc h.waiting[m].ver qv w3 := HS3.grown hS3 hg4 (fun b hb => (unhide HF3).2 b ((unhide O3).head hb)) (by omega)
              try simp only [Act.put]
              refine hK.out _ _ (show HS3 w.heap.size g m h.waiting.length yc h.waiting[m].ver qv _ from hS4) (fun hHeld => ?_)
              clear hK K
              try simp only [Act.put]
              refine wpAnyH_take (i := 18) (v := ?_) rfl (by kernel_rfl) (by kernel_rfl) (by kernel_rfl) (fun _ _ _ h => h) (Or.inl ⟨by rfl, ?_⟩) (by assumption) ?_
              rotate_left 1
              · intro wy hSw
                obtain ⟨y0, y1, y2⟩ := hSw
                go_simp
                try with_reducible rfl
              try simp only [Act.put]
              refine wpAnyH_ready (rs := [19]) (by kernel_rfl) (by simp) ?_
              refine AllReadyH.cons rfl (fun K hK => ?_) AllReadyH.nil
              go_simp
              refine hK.out _ _ (show HS3 w.heap.size g m h.waiting.length yc h.waiting[m].ver qv _ from HS3.set hS4 (by omega) _ _) (fun hHeld => ?_)
              clear hK K
              try simp only [Act.put]
              have HN := hide ((unhide HC3).news hg4 o4 f4 m4 (unhide HAP2))
              rw [List.length_append, List.length_singleton, ← unhide HNX] at HN
              clear o4 f4 m4 hg4 hv1 hv2 ko3 cO3 fO3 cO2 cO4 HC3 HONE HAP2 HAP HFI E3 HF3 O3 hcw hab bb2 HM HCD cO1 fO c0 c1 hS2 hS3 hS4 hHeld
              refine wpAnyH_done (by kernel_rfl) ?_ _
              go_wp2
              go_roundw
              case rel => exact ⟨m + 1, by omega, by omega, by go_num, _, _, _, _, unhide HN⟩
              case measure => simp [intOf]; omega
            · refine AllReadyH.cons rfl (fun K hK => ?_) AllReadyH.nil
              go_simp
              refine hK.out _ _ (show HS3 w.heap.size g m h.waiting.length yc h.waiting[m].ver qv _ from hS3) (fun hHeld => ?_)
              clear hK K
              try simp only [Act.put]
              refine wpAnyH_ready (rs := [1]) (by kernel_rfl) (by simp) ?_
              refine AllReadyH.cons rfl (fun K hK => ?_) AllReadyH.nil
              go_simp
              refine hK.out _ _ (show HS3 w.heap.size g m h.waiting.length yc h.waiting[m].ver qv _ from hHeld) (fun hHeld => ?_)
              clear hK K
              try simp only [Act.put]
              refine wpAnyH_ready (rs := [17]) (by kernel_rfl) (by simp) ?_
              refine AllReadyH.cons rfl (fun K hK => ?_) AllReadyH.nil
              refine step_append_elem (e := nwsE) nws_ty (by decide) Tryd.underlying37 infoNws rfl (by decide) (by decide) rfl (.tmp 43) (.tmp 58) rfl rfl (unhide O3) (unhide HF3) (unhide E3) (unhide HFI) (unhide HAP) rfl (by exact lit_cells w2 [_, _] _) (by exact unhide HONE) (by simp; omega) (by omega) ?_
              intro v' w3 bl' o4 f4 m4 hg4
              obtain ⟨va, vc, rfl, hv1, hv2⟩ := o4.form
              have ko3 := (unhide HC3).koN hg4
              have cO3 : w3.cell? ⟨w.heap.size + 1 + 1 + 1 + 1, 1, none⟩ = some (.slice qa ns.length qc) := Lib.cell_of_heap ko3 1
              have fO3 := Lib.frozen_of_heap ko3
              have hS4 : HS3 w.heap.size g m h.waiting.length yc h.waiting[m].ver qv w3 := HS3.grown hS3 hg4 (fun b hb => (unhide HF3).2 b ((unhide O3).head hb)) (by omega)
              try simp only [Act.put]
              refine hK.out _ _ (show HS3 w.heap.size g m h.waiting.length yc h.waiting[m].ver qv _ from hS4) (fun hHeld => ?_)
              clear hK K
              try simp only [Act.put]
              refine wpAnyH_take (i := 18) (v := ?_) rfl (by kernel_rfl) (by kernel_rfl) (by kernel_rfl) (fun _ _ _ h => h) (Or.inl ⟨by rfl, ?_⟩) (by assumption) ?_
              rotate_left 1
              · intro wy hSw
                obtain ⟨y0, y1, y2⟩ := hSw
                go_simp
                try with_reducible rfl
              try simp only [Act.put]
              refine wpAnyH_ready (rs := [19]) (by kernel_rfl) (by simp) ?_
              refine AllReadyH.cons rfl (fun K hK => ?_) AllReadyH.nil
              go_simp
              refine hK.out _ _ (show HS3 w.heap.size g m h.waiting.length yc h.waiting[m].ver qv _ from HS3.set hS4 (by omega) _ _) (fun hHeld => ?_)
              clear hK K
              try simp only [Act.put]
              have HN := hide ((unhide HC3).news hg4 o4 f4 m4 (unhide HAP2))
              rw [List.length_append, List.length_singleton, ← unhide HNX] at HN
              clear o4 f4 m4 hg4 hv1 hv2 ko3 cO3 fO3 cO2 cO4 HC3 HONE HAP2 HAP HFI E3 HF3 O3 hcw hab bb2 HM HCD cO1 fO c0 c1 hS2 hS3 hS4 hHeld
              refine wpAnyH_done (by kernel_rfl) ?_ _
              go_wp2
              go_roundw
              case rel => exact ⟨m + 1, by omega, by omega, by go_num, _, _, _, _, unhide HN⟩
              case measure => simp [intOf]; omega
        · have hkl : (h.waiting.drop d).take (m - d) = h.waiting.drop d := List.take_of_length_le (by rw [List.length_drop]; omega)
          rw [hkl] at hcs
          obtain ⟨pa, pc, rfl, hfp, _⟩ := hcs.o1.form
          obtain ⟨qa, qc, rfl, hfq, _⟩ := hcs.o2.form
          rw [List.length_drop] at hcs
          have cO0 : wr.cell? ⟨w.heap.size + 1 + 1 + 1 + 1, 0, none⟩ = some (.slice pa (skipT h.watches s h.watches.length).length pc) := Lib.cell_of_heap hcs.ko 0
          have cO1 : wr.cell? ⟨w.heap.size + 1 + 1 + 1 + 1, 1, none⟩ = some (.slice qa (h.waiting.length - d) qc) := Lib.cell_of_heap hcs.ko 1
          have r0 : wr.cell? ⟨w.heap.size + 1, 0, none⟩ = some (.slice none 0 0) := Lib.cell_of_heap hcs.k1 0
          have r1 : wr.cell? ⟨w.heap.size + 1, 1, none⟩ = some (.slice none 0 0) := Lib.cell_of_heap hcs.k1 1
          have f1 := Lib.frozen_of_heap hcs.k1
          have HC := hide hcs
          clear hcs hkl hfp hfq
          go_wp2
          refine bodyPost_ret (results_cell_row rfl _ _ (w.heap.size + 1) 39 #[_, _] (0, 0) _ rfl (putN_full (unhide HC).k1 [_, _] rfl) Tryd.underlying39 rfl (by kernel_rfl)) rfl ?_
          have hn : w.heap.size + 1 ∉ b1 ++ b2 := fun hm => by have := (unhide HC).fs.2 _ hm; omega
          have n1 : w.heap.size + 1 ∉ b1 := fun hm => hn (List.mem_append.2 (.inl hm))
          have n2 : w.heap.size + 1 ∉ b2 := fun hm => hn (List.mem_append.2 (.inr hm))
          refine ⟨_, b1 ++ b2, rfl, ⟨_, _, b1, b2, rfl, (unhide HC).o1.putN n1 [_, _] 0, (unhide HC).o2.putN n2 [_, _] 0, rfl⟩, (unhide HC).fs.mono (by omega), ?_⟩
          exact putN_below (g := w.heap.size + 1) (unhide HC).bel (by omega) [_, _] 0
end Go.Proofs.YtbcfkkicmmhhcaaDoor

namespace Go.Proofs.YtbcfkkicmmhhcaaDoor
open Go.RowKit

theorem skipT_none (ws : List Wat) : ∀ k, k ≤ ws.length → skipT ws (-1) k = ws.take k
  | 0, _ => by simp [skipT]
  | k + 1, h => by
    rw [skipT, skipT_none ws k (by omega), if_neg (by omega), List.take_add_one]
theorem copyH_none (h : Hb) : copyH h (-1) 0 = h := by
  unfold copyH
  rw [skipT_none _ _ (Nat.le_refl _), List.take_length]; rfl

/-- A hub in a block of its own, its rows the call's own. -/
structure HB (w0 : World) (G F : Nat) (wr : World) (p q : Value) (ws : List Wat) (ns : List Nws) (b1 b2 : List Nat) : Prop where
  bel : Below w0.heap.size w0 wr
  ko : wr.heap[G]? = some (.cells #[p, q] 39 (0, 0))
  o1 : ORow watE wr p ws b1
  o2 : ORow nwsE wr q ns b2
  fs : Fsh F (b1 ++ b2)
  hF : w0.heap.size ≤ F
  hG : w0.heap.size ≤ G
section
variable {w0 : World} {G F : Nat} {wr w3 : World} {p p' q q' : Value} {ws : List Wat} {ns : List Nws} {b1 b2 b1' b2' ib : List Nat}
theorem HB.below (h : HB w0 G F wr p q ws ns b1 b2) (hb : Below wr.heap.size wr w3) : HB w0 G F w3 p q ws ns b1 b2 :=
  ⟨below_next h.bel hb, (hb.block _ (Array.getElem?_eq_some_iff.1 h.ko).1).trans h.ko, h.o1.below hb, h.o2.below hb, h.fs, h.hF, h.hG⟩
theorem HB.koN (h : HB w0 G F wr p q ws ns b1 b2) (hg : wr.grownBy w3 q.ownBlock) : w3.heap[G]? = some (.cells #[p, q] 39 (0, 0)) :=
  (hg.block _ (Array.getElem?_eq_some_iff.1 h.ko).1 fun e => hub_not h.ko (nwss_ty h.o2) (by decide) (h.o2.head e.symm)).trans h.ko
theorem HB.news (h : HB w0 G F wr p q ws ns b1 b2) (hg : wr.grownBy w3 q.ownBlock) {x : Nws} (ho : ORow nwsE w3 q' (ns ++ [x]) b2') (hF : Fsh F b2') (hm : ∀ b ∈ b2', b ∈ b2 ∨ b ∈ ib ∨ q'.ownBlock = some b) (hi : ∀ b ∈ ib, b ∉ b1) :
    HB w0 G F (w3.setCell ⟨G, 1, none⟩ q') p q' ws (ns ++ [x]) b1 b2' := by
  have hko := (Array.getElem?_eq_some_iff.1 h.ko).1
  have hfs := h.fs
  have hd := hfs.1
  rw [List.nodup_append] at hd
  have hown : ∀ g, q.ownBlock = some g → g ∈ b2 := fun g hg => h.o2.head hg
  have hn1 := hub_not h.ko (wats_ty h.o1) (by decide)
  have ko3 := h.koN hg
  have hn3 := hub_not ko3 (nwss_ty ho) (by decide)
  have q3 : ORow watE w3 p ws b1 := h.o1.keep fun b hb => hg.block b (h.o1.lt b hb) fun e => hd.2.2 b hb b (hown b e.symm) rfl
  have hs := h.bel.size
  refine ⟨(h.bel.grown hg hs fun k hk => Nat.le_trans h.hF (hfs.2 k (List.mem_append.2 (.inr (hown k hk))))).setCell (p := ⟨G, 1, none⟩) h.hG _, heap_setCell_same _ _ 1 _ _ _ ko3, q3.other hn1 1 q', ho.other hn3 1 q', ?_, h.hF, h.hG⟩
  refine ⟨List.nodup_append.2 ⟨hd.1, hF.1, fun a ha b hb e => ?_⟩, fun b hb => ?_⟩
  · subst e
    rcases hm a hb with h1 | h1 | h1
    · exact hd.2.2 a ha a h1 rfl
    · exact hi a h1 ha
    · obtain ⟨cs, hcs⟩ := ho.own
      obtain ⟨cur, t, e1, e2⟩ := own_ty hcs a (by simp [h1])
      obtain ⟨cur', t', e3, e4⟩ := wats_ty q3 a ha
      rw [e1] at e3
      injection e3 with e3; injection e3 with _ e3
      simp at e2
      rw [← e3, e2] at e4
      exact absurd e4 (by decide)
  · rcases List.mem_append.1 hb with hb | hb
    · exact hfs.2 b (List.mem_append.2 (.inl hb))
    · exact hF.2 b hb
end

end Go.Proofs.YtbcfkkicmmhhcaaDoor

namespace Go.Proofs.YtbcfkkicmmhhcaaDoor
open Go.RowKit

/-- What the elements of a row hold of blocks. -/
theorem orow_inner_ty {α : Type} {e : Elem α} {ts : List TypeId} (he : ∀ {w vs x bl}, e.E w vs x bl → Tys ts w bl) {w : World} {v : Value} {xs : List α} {bl cb : List Nat} (h : ORow e w v xs bl) (hc : bl = v.ownBlock.toList ++ cb) : Tys ts w cb := by
  obtain ⟨ps, hl, hE, ho, hb⟩ := h
  rw [hb] at hc
  have := List.append_cancel_left hc
  subst this
  intro b hb
  obtain ⟨p, hp, hb⟩ := List.mem_flatMap.1 hb
  obtain ⟨j, hj, rfl⟩ := List.mem_iff_getElem.1 hp
  exact he (hE j ps[j] (xs[j]'(by omega)) (List.getElem?_eq_getElem hj) (List.getElem?_eq_getElem (by omega))) b hb
theorem Tys.not {ts : List TypeId} {w : World} {bl : List Nat} (h : Tys ts w bl) {B e size n : Nat} {v : Value} {xs : List Value} (ho : w.ownsRow B e size v n xs) (hn : e ∉ ts) {g : Nat} (hg : v.ownBlock = some g) : g ∉ bl := fun hm => by
  obtain ⟨cur, t, h1, h2⟩ := h g hm
  obtain ⟨cur', t', h3, h4⟩ := own_ty ho g (by simp [hg])
  rw [h1] at h3
  injection h3 with h3; injection h3 with _ h3
  simp at h4
  exact hn (h4 ▸ h3 ▸ h2)
/-- One more element at the end of a row that the call owns; what lies in the elements may be shared. -/
theorem ORow.app2 {α : Type} {e : Elem α} {ts : List TypeId} (he : ∀ {w vs x bl}, e.E w vs x bl → Tys ts w bl) (hts : e.T ∉ ts) {B : Nat} {w : World} {v : Value} {xs : List α} {cb : List Nat} (h : ORow e w v xs (v.ownBlock.toList ++ cb)) (hB : ∀ g, v.ownBlock = some g → B ≤ g)
    {vs : List Value} {x : α} {ib : List Nat} (hE : e.E w vs x ib) :
    ∃ cs, w.ownsRow B e.T e.wd v xs.length cs ∧ ∀ v' w', w'.ownsRow B e.T e.wd v' (xs.length + 1) (cs ++ vs) → w.grownBy w' v.ownBlock → ORow e w' v' (xs ++ [x]) (v'.ownBlock.toList ++ (cb ++ ib)) := by
  have hlt := h.lt
  have hlti := e.lt hE
  have hty := orow_inner_ty he h rfl
  have htyi := he hE
  obtain ⟨ps, hl, hE0, ho, hb⟩ := h
  have hcb := List.append_cancel_left hb
  subst hcb
  refine ⟨ps.flatMap (·.1), own_base ho hB, fun v' w' ho' hg => ?_⟩
  have hk : Kp (ps.flatMap (·.2)) w w' := fun b hb => hg.block b (hlt b (List.mem_append.2 (.inr hb))) fun e1 => hty.not ho hts e1.symm hb
  have hki : Kp ib w w' := fun b hb => hg.block b (hlti b hb) fun e1 => htyi.not ho hts e1.symm hb
  refine ⟨ps ++ [(vs, ib)], by simp [hl], ?_, ?_, by simp⟩
  · intro j p y hp hy
    by_cases hj : j < xs.length
    · rw [List.getElem?_append_left (by omega)] at hp hy
      exact e.keep (hE0 j p y hp hy) fun b hb => hk b (List.mem_flatMap.2 ⟨p, List.mem_of_getElem? hp, hb⟩)
    · have hy' := (List.getElem?_eq_some_iff.1 hy).1
      rw [List.length_append, List.length_singleton] at hy'
      have : j = xs.length := by omega
      subst this
      rw [← hl] at hp
      simp at hp hy
      subst hp; subst hy; exact e.keep hE hki
  · rw [List.flatMap_append, List.length_append]
    have := own_mono ho' (Nat.zero_le B)
    simpa using this
theorem wpList_append_elem2 {α : Type} {e : Elem α} {ts : List TypeId} (he : ∀ {w vs x bl}, e.E w vs x bl → Tys ts w bl) (hts : e.T ∉ ts) {t : TypeId} (ht : Tryd.prog.underlying t = some (.slice e.T)) {z : Value} {bytes : Nat}
    (hinfo : (Tryd.prog.info? e.T).map (fun i => (i.zero, i.size, i.bytes)) = some (some z, e.wd, bytes)) (hzs : z.cells.size = e.wd) (hsz : 0 < e.wd) (hby : bytes ≤ 100)
    {w : World} {ops : Array Oper} {rest : List Oper} {o : Oper} {a : Act} {Q : Exit → Act → World → Prop} (hg : o.guard = none) (s x : Operand)
    (ho : o.op = .call { callee := .builtin .append, args := #[s, x], argTypes := #[t, t] }) {B : Nat} {v : Value} {xs : List α} {cb : List Nat} (hs : a.eval s = v)
    (h : ORow e w v xs (v.ownBlock.toList ++ cb)) (hB0 : ∀ g, v.ownBlock = some g → B ≤ g) {vs : List Value} {y : α} {ib : List Nat} (hE : e.E w vs y ib) {g : Nat} (hx : a.eval x = .slice (some ⟨g, 0, none⟩) 1 1)
    (hcell : ∀ (j : Nat) (u : Value), vs[j]? = some u → w.cell? ((⟨g, 0, none⟩ : Addr).add j) = some u) (h1 : ∀ u ∈ vs, u.oneCell' = true) (hB : B ≤ w.heap.size) (hl : xs.length ≤ 40000000)
    (hK : ∀ v' w', ORow e w' v' (xs ++ [y]) (v'.ownBlock.toList ++ (cb ++ ib)) → (∀ g, v'.ownBlock = some g → B ≤ g) → w.grownBy w' v.ownBlock → wpList Tryd.prog ops Q rest (a.put o.dst v') w') : wpList Tryd.prog ops Q (o :: rest) a w := by
  obtain ⟨i0, hi, hz0, hz1, hz2⟩ := info_parts hinfo
  obtain ⟨cs, hown, hfin⟩ := h.app2 he hts hB0 hE
  refine wpList_append_own _ hg s x t ho B e.T i0 z e.wd bytes ht hi hz0 hz1 hz2 hzs hsz v _ cs hs hown ⟨g, 0, none⟩ 1 1 vs hx (by rw [e.len hE]; omega) hcell h1 (by unfold maxLen; omega) ?_ hB ?_
  · have : (xs.length + 1) * bytes ≤ (xs.length + 1) * 100 := Nat.mul_le_mul_left _ hby
    omega
  · intro v' w' h1 h2 _
    exact hK v' w' (hfin v' w' h1 h2) (fun g hg => (h1.lt g hg).1) h2
theorem step_append_elem2 {α : Type} {e : Elem α} {ts : List TypeId} (he : ∀ {w vs x bl}, e.E w vs x bl → Tys ts w bl) (hts : e.T ∉ ts) {t : TypeId} (ht : Tryd.prog.underlying t = some (.slice e.T)) {z : Value} {bytes : Nat}
    (hinfo : (Tryd.prog.info? e.T).map (fun i => (i.zero, i.size, i.bytes)) = some (some z, e.wd, bytes)) (hzs : z.cells.size = e.wd) (hsz : 0 < e.wd) (hby : bytes ≤ 100)
    {w : World} {ops : Array Oper} {o : Oper} {a : Act} {K : Act → World → Prop} {Q : Exit → Act → World → Prop} {F : Prop} (hg : o.guard = none) (s x : Operand)
    (ho : o.op = .call { callee := .builtin .append, args := #[s, x], argTypes := #[t, t] }) {B : Nat} {v : Value} {xs : List α} {cb : List Nat} (hs : a.eval s = v)
    (h : ORow e w v xs (v.ownBlock.toList ++ cb)) (hB0 : ∀ g, v.ownBlock = some g → B ≤ g) {vs : List Value} {y : α} {ib : List Nat} (hE : e.E w vs y ib) {g : Nat} (hx : a.eval x = .slice (some ⟨g, 0, none⟩) 1 1)
    (hcell : ∀ (j : Nat) (u : Value), vs[j]? = some u → w.cell? ((⟨g, 0, none⟩ : Addr).add j) = some u) (h1 : ∀ u ∈ vs, u.oneCell' = true) (hB : B ≤ w.heap.size) (hl : xs.length ≤ 40000000)
    (hK : ∀ v' w', ORow e w' v' (xs ++ [y]) (v'.ownBlock.toList ++ (cb ++ ib)) → (∀ g, v'.ownBlock = some g → B ≤ g) → w.grownBy w' v.ownBlock → K (a.put o.dst v') w') :
    if Region.wanted o (yielded ops a.tmps) = true then Oper.wp Tryd.prog o a w K Q else F := by
  have hw : Region.wanted o (yielded ops a.tmps) = true := by simp [Region.wanted, hg]
  rw [if_pos hw]
  obtain ⟨i0, hi, hz0, hz1, hz2⟩ := info_parts hinfo
  obtain ⟨cs, hown, hfin⟩ := h.app2 he hts hB0 hE
  refine wp_append_own w s x t ho B e.T i0 z e.wd bytes ht hi hz0 hz1 hz2 hzs hsz v _ cs hs hown ⟨g, 0, none⟩ 1 1 vs hx (by rw [e.len hE]; omega) hcell h1 (by unfold maxLen; omega) ?_ hB ?_
  · have : (xs.length + 1) * bytes ≤ (xs.length + 1) * 100 := Nat.mul_le_mul_left _ hby
    omega
  · intro v' w' h1 h2 _
    exact hK v' w' (hfin v' w' h1 h2) (fun g hg => (h1.lt g hg).1) h2
/-- A whole row behind nil: a copy; what lies in the elements is shared. -/
theorem wpList_append_nil {α : Type} {e : Elem α} (hone : ∀ {w vs x bl}, e.E w vs x bl → ∀ u ∈ vs, u.oneCell' = true) {t : TypeId} (ht : Tryd.prog.underlying t = some (.slice e.T)) {z : Value} {bytes : Nat}
    (hinfo : (Tryd.prog.info? e.T).map (fun i => (i.zero, i.size, i.bytes)) = some (some z, e.wd, bytes)) (hzs : z.cells.size = e.wd) (hsz : 0 < e.wd) (hby : bytes ≤ 100)
    {w : World} {ops : Array Oper} {rest : List Oper} {o : Oper} {a : Act} {Q : Exit → Act → World → Prop} (hg : o.guard = none) (s x : Operand)
    (ho : o.op = .call { callee := .builtin .append, args := #[s, x], argTypes := #[t, t] }) {v : Value} {xs : List α} {cb : List Nat} (hs : a.eval s = .slice none 0 0) (hx : a.eval x = v)
    (h : ORow e w v xs (v.ownBlock.toList ++ cb)) (hl : xs.length ≤ 40000000)
    (hK : ∀ v' w', ORow e w' v' xs (v'.ownBlock.toList ++ cb) → (∀ g, v'.ownBlock = some g → w.heap.size ≤ g) → Below w.heap.size w w' → wpList Tryd.prog ops Q rest (a.put o.dst v') w') : wpList Tryd.prog ops Q (o :: rest) a w := by
  obtain ⟨i0, hi, hz0, hz1, hz2⟩ := info_parts hinfo
  have hlt := h.lt
  obtain ⟨ps, hl0, hE, ho0, hb⟩ := h
  have hcb := List.append_cancel_left hb
  have hnil := w.ownsRow_nil w.heap.size e.T e.wd
  rcases ho0.2 with ⟨hv, h0⟩ | ⟨g, cap, cur, hv, _⟩
  · subst hv
    refine wpList_append_own_none hg s x t ho w.heap.size e.T i0 e.wd ht hi _ _ _ hs hnil hx ?_
    exact hK _ w ⟨ps, hl0, hE, ho0, hb⟩ (fun g hg => by simp [Value.ownBlock] at hg) (Below.refl _ _)
  · have hwd := orow_wd hl0 hE
    have hones : ∀ u ∈ ps.flatMap (·.1), u.oneCell' = true := by
      intro u hu
      obtain ⟨p, hp, hu⟩ := List.mem_flatMap.1 hu
      obtain ⟨j, hj, rfl⟩ := List.mem_iff_getElem.1 hp
      exact hone (hE j ps[j] (xs[j]'(by omega)) (List.getElem?_eq_getElem hj) (List.getElem?_eq_getElem (by omega))) u hu
    have hob : v.ownBlock = some g := by rw [hv]; rfl
    refine wpList_append_own _ hg s x t ho w.heap.size e.T i0 z e.wd bytes ht hi hz0 hz1 hz2 hzs hsz _ 0 [] hs hnil ⟨g, 0, none⟩ xs.length cap (ps.flatMap (·.1)) (hx.trans hv) ho0.1 (fun j u hu => ho0.cells hob j u hu) hones (by unfold maxLen; omega) ?_ (Nat.le_refl _) ?_
    · have : (0 + xs.length) * bytes ≤ (0 + xs.length) * 100 := Nat.mul_le_mul_left _ hby
      omega
    · intro v' w' h1 h2 _
      have hbel : Below w.heap.size w w' := (Below.refl _ _).grown h2 (Nat.le_refl _) (fun k hk => by simp [Value.ownBlock] at hk)
      refine hK v' w' ⟨ps, hl0, fun j p y hp hy => e.keep (hE j p y hp hy) fun b hb1 => hbel.block b (hlt b (by rw [hb]; exact List.mem_append.2 (.inr (List.mem_flatMap.2 ⟨p, List.mem_of_getElem? hp, hb1⟩)))), ?_, by rw [hcb]⟩ (fun g hg => (h1.lt g hg).1) hbel
      have := own_mono h1 (Nat.zero_le _)
      simpa using this
theorem str_ones {w : World} {vs : List Value} {x : ByteArray} {bl : List Nat} (h : strE.E w vs x bl) : ∀ u ∈ vs, u.oneCell' = true := by
  obtain ⟨rfl, _⟩ := h; intro u hu; simp at hu; subst hu; rfl
theorem msg_ones {w : World} {vs : List Value} {x : Msg} {bl : List Nat} (h : msgE.E w vs x bl) : ∀ u ∈ vs, u.oneCell' = true := by
  obtain ⟨q, rfl, h⟩ := h
  obtain ⟨a, c, rfl, _⟩ := h.form
  intro u hu; simp at hu; rcases hu with rfl | rfl | rfl <;> rfl
theorem nws_ones {w : World} {vs : List Value} {x : Nws} {bl : List Nat} (h : nwsE.E w vs x bl) : ∀ u ∈ vs, u.oneCell' = true := by
  obtain ⟨q, rfl, h⟩ := h
  obtain ⟨a, c, rfl, _⟩ := h.form
  intro u hu; simp at hu; rcases hu with rfl | rfl <;> rfl
theorem infoStrE : (Tryd.prog.info? strE.T).map (fun i => (i.zero, i.size, i.bytes)) = some (some (.string ByteArray.empty), strE.wd, 16) := infoStr

set_option maxHeartbeats 400000 in
set_option maxRecDepth 100000 in
theorem copiedStr_walk (v : Value) (xs : List ByteArray) (bl : List Nat) (w : World) (h : OStr w v xs bl) (hm : xs.length ≤ 1048577) :
    Calls Tryd.prog 72 #[v] w fun e w' => ∃ v' bl', e = .returned v' ∧ OStr w' v' xs bl' ∧ Fsh w.heap.size bl' ∧ Below w.heap.size w w' := by
  have hc : bl = v.ownBlock.toList ++ [] := by rw [List.append_nil]; exact (ostr_iff.1 h).2
  subst hc
  have H := hide h
  clear h
  go_enter Tryd.func72, Tryd.ntmps72
  go_wp2_with (at_builtin; refine wpList_append_nil (e := strE) str_ones Tryd.underlying49 infoStrE rfl (by decide) (by decide) rfl (.const (.slice none 0 0)) (.tmp 3) rfl rfl rfl (unhide H) (by omega) ?_)
  intro v' w' ho hB hb
  have HO := hide ho
  have HBB := hide hB
  have HBE := hide hb
  clear ho hB hb H
  go_wp2
  go_ret
  refine ⟨_, _, rfl, unhide HO, ⟨?_, fun b hb => unhide HBB b (by simpa using hb)⟩, unhide HBE⟩
  cases v'.ownBlock <;> simp
set_option maxHeartbeats 400000 in
set_option maxRecDepth 100000 in
theorem copiedMsg_walk (v : Value) (xs : List Msg) (cb : List Nat) (w : World) (h : ORow msgE w v xs (v.ownBlock.toList ++ cb)) (hm : xs.length ≤ 1048577) :
    Calls Tryd.prog 99 #[v] w fun e w' => ∃ v', e = .returned v' ∧ ORow msgE w' v' xs (v'.ownBlock.toList ++ cb) ∧ (∀ g, v'.ownBlock = some g → w.heap.size ≤ g) ∧ Below w.heap.size w w' := by
  have H := hide h
  clear h
  go_enter Tryd.func99, Tryd.ntmps99
  go_wp2_with (at_builtin; refine wpList_append_nil (e := msgE) msg_ones Tryd.underlying70 infoMsg rfl (by decide) (by decide) rfl (.const (.slice none 0 0)) (.tmp 3) rfl rfl rfl (unhide H) (by omega) ?_)
  intro v' w' ho hB hb
  have HO := hide ho
  have HBB := hide hB
  have HBE := hide hb
  clear ho hB hb H
  go_wp2
  go_ret
  exact ⟨_, rfl, unhide HO, unhide HBB, unhide HBE⟩
set_option maxHeartbeats 400000 in
set_option maxRecDepth 100000 in
theorem ringOfMsg_walk (v : Value) (xs : List Msg) (cb : List Nat) (w : World) (h : ORow msgE w v xs (v.ownBlock.toList ++ cb)) (hm : xs.length ≤ 1048577) :
    Calls Tryd.prog 67 #[v] w fun e w' => ∃ v', e = .returned (.agg #[v', .int .i64 0, .int .i64 xs.length]) ∧ ORow msgE w' v' xs (v'.ownBlock.toList ++ cb) ∧ (∀ g, v'.ownBlock = some g → w.heap.size ≤ g) ∧ Below w.heap.size w w' := by
  obtain ⟨xa, xc, rfl, hx1, hx2⟩ := h.form
  have H := hide h
  clear h hx1 hx2
  go_enter Tryd.func67, Tryd.ntmps67
  go_wp2_with fail
  have hlt := (unhide H).lt
  have k0 := heap_alloc_new w (Obj.cells #[Value.slice none 0 0, Value.int IntKind.i64 0, Value.int IntKind.i64 0] 112)
  have hA := alloc_b w (Obj.cells #[Value.slice none 0 0, Value.int IntKind.i64 0, Value.int IntKind.i64 0] 112)
  have hsz : (w.alloc (Obj.cells #[Value.slice none 0 0, Value.int IntKind.i64 0, Value.int IntKind.i64 0] 112)).heap.size = w.heap.size + 1 := by simp
  generalize (w.alloc (Obj.cells #[Value.slice none 0 0, Value.int IntKind.i64 0, Value.int IntKind.i64 0] 112)) = wA at *
  refine (copiedMsg_walk _ xs cb wA ((unhide H).below hA) hm).mono ?_
  rintro e w1 ⟨v1, rfl, o1, g1, b1⟩
  obtain ⟨ya, yc, rfl, hy1, hy2⟩ := o1.form
  have k1 := (b1.block w.heap.size (by omega)).trans k0
  have c0 : w1.cell? ⟨w.heap.size, 0, none⟩ = some (.slice none 0 0) := Lib.cell_of_heap k1 0
  have c1 : w1.cell? ⟨w.heap.size, 1, none⟩ = some (.int .i64 0) := Lib.cell_of_heap k1 1
  have c2 : w1.cell? ⟨w.heap.size, 2, none⟩ = some (.int .i64 0) := Lib.cell_of_heap k1 2
  have f1 := Lib.frozen_of_heap k1
  have hno : w.heap.size ∉ (Value.slice ya xs.length yc).ownBlock.toList ++ cb := fun hm => by
    rcases List.mem_append.1 hm with hm | hm
    · have := g1 _ (by simpa using hm); omega
    · have := hlt _ (List.mem_append.2 (.inr hm)); omega
  have HO := hide o1
  have HG := hide g1
  have HB := hide (below_next hA b1)
  have HK := hide k1
  have HNO := hide hno
  clear o1 g1 b1 k1 hA hlt hy1 hy2 H hno k0
  go_wp2
  refine bodyPost_ret (results_cell_row rfl _ _ w.heap.size 112 #[_, _, _] (0, 0) _ rfl (putN_full (unhide HK) [_, _, _] rfl) Tryd.underlying112 rfl (by kernel_rfl)) rfl ?_
  refine ⟨_, rfl, (unhide HO).putN (unhide HNO) [_, _, _] 0, fun g hg => by have := unhide HG g hg; omega, ?_⟩
  exact putN_below (g := w.heap.size) (unhide HB) (Nat.le_refl _) [_, _, _] 0
set_option maxHeartbeats 400000 in
set_option maxRecDepth 100000 in
theorem copiedNws_walk (v : Value) (xs : List Nws) (cb : List Nat) (w : World) (h : ORow nwsE w v xs (v.ownBlock.toList ++ cb)) (hm : xs.length ≤ 1048577) :
    Calls Tryd.prog 98 #[v] w fun e w' => ∃ v', e = .returned v' ∧ ORow nwsE w' v' xs (v'.ownBlock.toList ++ cb) ∧ (∀ g, v'.ownBlock = some g → w.heap.size ≤ g) ∧ Below w.heap.size w w' := by
  have H := hide h
  clear h
  go_enter Tryd.func98, Tryd.ntmps98
  go_wp2_with (at_builtin; refine wpList_append_nil (e := nwsE) nws_ones Tryd.underlying37 infoNws rfl (by decide) (by decide) rfl (.const (.slice none 0 0)) (.tmp 3) rfl rfl rfl (unhide H) (by omega) ?_)
  intro v' w' ho hB hb
  have HO := hide ho
  have HBB := hide hB
  have HBE := hide hb
  clear ho hB hb H
  go_wp2
  go_ret
  exact ⟨_, rfl, unhide HO, unhide HBB, unhide HBE⟩
set_option maxHeartbeats 400000 in
set_option maxRecDepth 100000 in
theorem ringOfNws_walk (v : Value) (xs : List Nws) (cb : List Nat) (w : World) (h : ORow nwsE w v xs (v.ownBlock.toList ++ cb)) (hm : xs.length ≤ 1048577) :
    Calls Tryd.prog 66 #[v] w fun e w' => ∃ v', e = .returned (.agg #[v', .int .i64 0, .int .i64 xs.length]) ∧ ORow nwsE w' v' xs (v'.ownBlock.toList ++ cb) ∧ (∀ g, v'.ownBlock = some g → w.heap.size ≤ g) ∧ Below w.heap.size w w' := by
  obtain ⟨xa, xc, rfl, hx1, hx2⟩ := h.form
  have H := hide h
  clear h hx1 hx2
  go_enter Tryd.func66, Tryd.ntmps66
  go_wp2_with fail
  have hlt := (unhide H).lt
  have k0 := heap_alloc_new w (Obj.cells #[Value.slice none 0 0, Value.int IntKind.i64 0, Value.int IntKind.i64 0] 106)
  have hA := alloc_b w (Obj.cells #[Value.slice none 0 0, Value.int IntKind.i64 0, Value.int IntKind.i64 0] 106)
  have hsz : (w.alloc (Obj.cells #[Value.slice none 0 0, Value.int IntKind.i64 0, Value.int IntKind.i64 0] 106)).heap.size = w.heap.size + 1 := by simp
  generalize (w.alloc (Obj.cells #[Value.slice none 0 0, Value.int IntKind.i64 0, Value.int IntKind.i64 0] 106)) = wA at *
  refine (copiedNws_walk _ xs cb wA ((unhide H).below hA) hm).mono ?_
  rintro e w1 ⟨v1, rfl, o1, g1, b1⟩
  obtain ⟨ya, yc, rfl, hy1, hy2⟩ := o1.form
  have k1 := (b1.block w.heap.size (by omega)).trans k0
  have c0 : w1.cell? ⟨w.heap.size, 0, none⟩ = some (.slice none 0 0) := Lib.cell_of_heap k1 0
  have c1 : w1.cell? ⟨w.heap.size, 1, none⟩ = some (.int .i64 0) := Lib.cell_of_heap k1 1
  have c2 : w1.cell? ⟨w.heap.size, 2, none⟩ = some (.int .i64 0) := Lib.cell_of_heap k1 2
  have f1 := Lib.frozen_of_heap k1
  have hno : w.heap.size ∉ (Value.slice ya xs.length yc).ownBlock.toList ++ cb := fun hm => by
    rcases List.mem_append.1 hm with hm | hm
    · have := g1 _ (by simpa using hm); omega
    · have := hlt _ (List.mem_append.2 (.inr hm)); omega
  have HO := hide o1
  have HG := hide g1
  have HB := hide (below_next hA b1)
  have HK := hide k1
  have HNO := hide hno
  clear o1 g1 b1 k1 hA hlt hy1 hy2 H hno k0
  go_wp2
  refine bodyPost_ret (results_cell_row rfl _ _ w.heap.size 106 #[_, _, _] (0, 0) _ rfl (putN_full (unhide HK) [_, _, _] rfl) Tryd.underlying106 rfl (by kernel_rfl)) rfl ?_
  refine ⟨_, rfl, (unhide HO).putN (unhide HNO) [_, _, _] 0, fun g hg => by have := unhide HG g hg; omega, ?_⟩
  exact putN_below (g := w.heap.size) (unhide HB) (Nat.le_refl _) [_, _, _] 0

/-- What a ring holds, in order. -/
structure RingIs {α : Type} (cells : List α) (f c : Nat) (q : List α) : Prop where
  cnt : c = q.length
  le : c ≤ cells.length
  lt : f < cells.length ∨ cells = []
  at_ : ∀ (i : Nat) (x : α), q[i]? = some x → cells[(f + i) % cells.length]? = some x
theorem RingIs.fresh {α : Type} (q : List α) : RingIs q 0 q.length q := by
  refine ⟨rfl, Nat.le_refl _, ?_, fun i x h => ?_⟩
  · cases q with
    | nil => exact .inr rfl
    | cons a r => exact .inl (by simp)
  · have hi := (List.getElem?_eq_some_iff.1 h).1
    rw [Nat.zero_add, Nat.mod_eq_of_lt hi]; exact h
/-- A ring in three cells of a block. -/
structure RingAt {α : Type} (e : Elem α) (w : World) (g o : Nat) (cv : Value) (f c : Nat) (ms : List α) (q : List α) (cb : List Nat) : Prop where
  c0 : w.cell? ⟨g, o, none⟩ = some cv
  c1 : w.cell? ⟨g, o + 1, none⟩ = some (.int .i64 (f : Int))
  c2 : w.cell? ⟨g, o + 2, none⟩ = some (.int .i64 (c : Int))
  row : ORow e w cv ms (cv.ownBlock.toList ++ cb)
  ring : RingIs ms f c q
theorem RingAt.below {α : Type} {e : Elem α} {w w' : World} {g o : Nat} {cv : Value} {f c : Nat} {ms q : List α} {cb : List Nat} (h : RingAt e w g o cv f c ms q cb) (hb : Below w.heap.size w w') : RingAt e w' g o cv f c ms q cb :=
  ⟨(hb.cell (World.block_lt_of_cell? _ _ h.c0)).trans h.c0, (hb.cell (World.block_lt_of_cell? _ _ h.c1)).trans h.c1, (hb.cell (World.block_lt_of_cell? _ _ h.c2)).trans h.c2, h.row.below hb, h.ring⟩
end Go.Proofs.YtbcfkkicmmhhcaaDoor

namespace Go.Proofs.YtbcfkkicmmhhcaaDoor
open Go.RowKit

set_option maxHeartbeats 400000 in
set_option maxRecDepth 100000 in
theorem cellMsg_walk (g o : Nat) (cv : Value) (f c : Nat) (ms q : List Msg) (cb : List Nat) (i : Nat) (w : World) (h : RingAt msgE w g o cv f c ms q cb) (hi : i < ms.length) (hm : ms.length ≤ 4000000) :
    Calls Tryd.prog 121 #[.pointer (some ⟨g, o, none⟩), .int .i64 i] w fun e w' => ∃ gc, e = .returned (.pointer (some ⟨gc, (f + i) % ms.length * 3, none⟩)) ∧ cv.ownBlock = some gc ∧ ∃ n, w' = w.drewN n := by
  obtain ⟨xa, xc, rfl, hx1, hx2⟩ := h.row.form
  obtain ⟨gc, rfl⟩ := hx2 (by omega)
  have c0 := h.c0
  have c1 := h.c1
  have c2 := h.c2
  have hf : f < ms.length := by rcases h.ring.lt with h1 | h1; exact h1; rw [h1] at hi; simp at hi
  have hr : (f + i) % ms.length < ms.length := Nat.mod_lt _ (by omega)
  have t2 : ((f : Int) + (i : Int)) % (ms.length : Int) = (((f + i) % ms.length : Nat) : Int) := by rw [Int.natCast_emod, Int.natCast_add]
  have t1 : ((f : Int) + (i : Int)).tmod (ms.length : Int) = (((f + i) % ms.length : Nat) : Int) := by rw [Int.tmod_eq_emod_of_nonneg (by omega)]; exact t2
  have nz : ((ms.length : Int) = 0) = False := eq_false (by omega)
  have nz' : (ms.length = 0) = False := eq_false (by omega)
  generalize (f + i) % ms.length = r at *
  have i1 : (0 : Int) ≤ (r : Int) := by omega
  have i2 : (r : Int) < (ms.length : Int) := by omega
  clear h hx1 hx2
  go_enter Tryd.func121, Tryd.ntmps121
  go_wp2
  go_quiet (fail)
  go_wp2
  go_ret
  exact ⟨gc, rfl, rfl, _, rfl⟩
set_option maxHeartbeats 800000 in
set_option maxRecDepth 100000 in
theorem listMsg_walk (g o : Nat) (cv : Value) (f c : Nat) (ms q : List Msg) (cb : List Nat) (w : World) (h : RingAt msgE w g o cv f c ms q cb) (hm : ms.length ≤ 4000000) :
    Calls Tryd.prog 103 #[.pointer (some ⟨g, o, none⟩)] w fun e w' => ∃ v' cb', e = .returned v' ∧ ORow msgE w' v' q (v'.ownBlock.toList ++ cb') ∧ (∀ g, v'.ownBlock = some g → w.heap.size ≤ g) ∧ (∀ b ∈ cb', b ∈ cb) ∧ Below w.heap.size w w' := by
  have hcq := h.ring.cnt
  have hle := h.ring.le
  have c2 := h.c2
  have H := hide h
  clear h
  go_enter Tryd.func103, Tryd.ntmps103
  go_wp2
  go_loopw [3, 9] (fun lv i wr => ∃ k : Nat, k ≤ q.length ∧ i = .int .i64 (k : Int) ∧ Below w.heap.size w wr ∧ ∃ cb', ORow msgE wr lv (q.take k) (lv.ownBlock.toList ++ cb') ∧ (∀ g, lv.ownBlock = some g → w.heap.size ≤ g) ∧ ∀ b ∈ cb', b ∈ cb) (fun _ i _ => q.length - (intOf i).toNat)
  case atStart => exact ⟨0, Nat.zero_le _, rfl, Below.refl _ _, [], ORow.nil _ _, fun g hg => by simp [Value.ownBlock] at hg, fun b hb => by simp at hb⟩
  case round =>
    obtain ⟨k, hk, rfl, hb, cb', ho, hB, hsub⟩ := hrel
    by_cases hlt : k < q.length
    · have hR := (unhide H).below hb
      have hkm : k < ms.length := by omega
      have hat := hR.ring.at_ k q[k] (List.getElem?_eq_getElem hlt)
      have HC := hide (cellMsg_walk g o cv f c ms q cb k wr hR hkm hm)
      obtain ⟨xa, xc, hcv, hx1, hx2⟩ := hR.row.form
      obtain ⟨gc, rfl⟩ := hx2 (by omega)
      have hrow := hR.row
      rw [hcv] at hrow
      obtain ⟨vs, ib, hE, hc, hibs, _, _⟩ := hrow.at hat
      have hE0 := hE
      obtain ⟨qv, hvs, hq⟩ := hE0
      subst hvs
      obtain ⟨ya, yc, rfl, hy1, hy2⟩ := hq.form
      generalize hr : (f + k) % ms.length = r at *
      have hone := msg_ones hE
      have hibc : ∀ b ∈ ib, b ∈ cb := fun b hb => by
        rcases List.mem_append.1 (hibs b hb) with h1 | h1
        · exfalso
          obtain ⟨cs, hcs⟩ := hrow.own
          exact (msg_ty hE).not hcs (by decide) (by simpa using h1) hb
        · exact h1
      have hnx : q.take (k + 1) = q.take k ++ [q[k]] := by rw [List.take_add_one, List.getElem?_eq_getElem hlt]; rfl
      have hll : (q.take k).length = k := by rw [List.length_take]; omega
      have c0' : wr.cell? ⟨gc, r * 3, none⟩ = _ := (hc 0 _ rfl).1
      have c1' : wr.cell? ⟨gc, r * 3 + 1, none⟩ = _ := (hc 1 _ rfl).1
      have c2' : wr.cell? ⟨gc, r * 3 + 2, none⟩ = _ := (hc 2 _ rfl).1
      have HE := hide hE
      have HO := hide ho
      have HB := hide hb
      have HBB := hide hB
      have HS := hide hsub
      have HI := hide hibc
      have HNX := hide hnx
      have HLL := hide hll
      have HON := hide hone
      have hob : cv.ownBlock = some gc := by rw [hcv]; rfl
      have HOB := hide hob
      clear hR hat hcv hx1 hx2 hrow hc hibs hE hq hy1 hy2 ho hb hB hsub hibc hnx hll hone hob hr
      go_wp2_with fail
      refine (unhide HC).mono ?_
      rintro e w1 ⟨gd, rfl, hgd, n1, rfl⟩
      have hge : gd = gc := by rw [unhide HOB] at hgd; exact (Option.some.inj hgd).symm
      subst hge
      have d0 : (wr.drewN n1).cell? ⟨gd, r * 3, none⟩ = _ := c0'
      have d1 : (wr.drewN n1).cell? ⟨gd, r * 3 + 1, none⟩ = _ := c1'
      have d2 : (wr.drewN n1).cell? ⟨gd, r * 3 + 2, none⟩ = _ := c2'
      have hdb : Below wr.heap.size wr (wr.drewN n1) := draws_b wr n1
      have hab := alloc_b (wr.drewN n1) (.cells #[.int .i64 q[k].ver, .slice ya q[k].ptrs.length yc, .bool q[k].over] 115)
      have hbb := below_next hdb hab
      have O3 := hide ((unhide HO).below hbb)
      have E3 := hide (msgE.keep (unhide HE) (.of_below hbb (msgE.lt (unhide HE))))
      have HB3 := hide (below_next (unhide HB) hbb)
      clear hgd hdb hab hbb HC HO HE HB c0' c1' c2'
      generalize wr.drewN n1 = wd at *
      go_wp2_with (at_builtin; refine wpList_append_elem2 (e := msgE) msg_ty (by decide) Tryd.underlying70 infoMsg rfl (by decide) (by decide) rfl (.tmp 12) (.tmp 18) rfl (B := w.heap.size) rfl (unhide O3) (unhide HBB) (unhide E3) rfl (lit_cells wd [_, _, _] _) (unhide HON) (by have := (unhide HB3).size; simpa using this) (by rw [unhide HLL]; omega) ?_)
      intro v' w3 o4 hB4 hg4
      try rw [← unhide HNX] at o4
      have HB4 := hide ((unhide HB3).grown hg4 (unhide HB3).size (fun j hj => unhide HBB j hj))
      have HO4 := hide o4
      have HBB4 := hide hB4
      have HS4 : Hid (∀ b ∈ cb' ++ ib, b ∈ cb) := fun b hb => by
        rcases List.mem_append.1 hb with h1 | h1
        · exact unhide HS b h1
        · exact unhide HI b h1
      clear o4 hB4 hg4 O3 E3 HB3 d0 d1 d2 HBB HS HI HON
      go_wp2
      go_roundw
      case rel => exact ⟨k + 1, by omega, by go_num, unhide HB4, _, unhide HO4, unhide HBB4, unhide HS4⟩
      case measure => simp [intOf]; omega
    · have hk' : k = q.length := by omega
      subst hk'
      rw [List.take_length] at ho
      have HO := hide ho
      have HB := hide hb
      have HBB := hide hB
      have HS := hide hsub
      clear ho hb hB hsub
      go_wp2
      go_ret
      exact ⟨_, cb', rfl, unhide HO, unhide HBB, unhide HS, unhide HB⟩
set_option maxHeartbeats 400000 in
set_option maxRecDepth 100000 in
theorem cellNws_walk (g o : Nat) (cv : Value) (f c : Nat) (ms q : List Nws) (cb : List Nat) (i : Nat) (w : World) (h : RingAt nwsE w g o cv f c ms q cb) (hi : i < ms.length) (hm : ms.length ≤ 4000000) :
    Calls Tryd.prog 105 #[.pointer (some ⟨g, o, none⟩), .int .i64 i] w fun e w' => ∃ gc, e = .returned (.pointer (some ⟨gc, (f + i) % ms.length * 2, none⟩)) ∧ cv.ownBlock = some gc ∧ ∃ n, w' = w.drewN n := by
  obtain ⟨xa, xc, rfl, hx1, hx2⟩ := h.row.form
  obtain ⟨gc, rfl⟩ := hx2 (by omega)
  have c0 := h.c0
  have c1 := h.c1
  have c2 := h.c2
  have hf : f < ms.length := by rcases h.ring.lt with h1 | h1; exact h1; rw [h1] at hi; simp at hi
  have hr : (f + i) % ms.length < ms.length := Nat.mod_lt _ (by omega)
  have t2 : ((f : Int) + (i : Int)) % (ms.length : Int) = (((f + i) % ms.length : Nat) : Int) := by rw [Int.natCast_emod, Int.natCast_add]
  have t1 : ((f : Int) + (i : Int)).tmod (ms.length : Int) = (((f + i) % ms.length : Nat) : Int) := by rw [Int.tmod_eq_emod_of_nonneg (by omega)]; exact t2
  have nz : ((ms.length : Int) = 0) = False := eq_false (by omega)
  have nz' : (ms.length = 0) = False := eq_false (by omega)
  generalize (f + i) % ms.length = r at *
  have i1 : (0 : Int) ≤ (r : Int) := by omega
  have i2 : (r : Int) < (ms.length : Int) := by omega
  clear h hx1 hx2
  go_enter Tryd.func105, Tryd.ntmps105
  go_wp2
  go_quiet (fail)
  go_wp2
  go_ret
  exact ⟨gc, rfl, rfl, _, rfl⟩
set_option maxHeartbeats 800000 in
set_option maxRecDepth 100000 in
theorem listNws_walk (g o : Nat) (cv : Value) (f c : Nat) (ms q : List Nws) (cb : List Nat) (w : World) (h : RingAt nwsE w g o cv f c ms q cb) (hm : ms.length ≤ 4000000) :
    Calls Tryd.prog 71 #[.pointer (some ⟨g, o, none⟩)] w fun e w' => ∃ v' cb', e = .returned v' ∧ ORow nwsE w' v' q (v'.ownBlock.toList ++ cb') ∧ (∀ g, v'.ownBlock = some g → w.heap.size ≤ g) ∧ (∀ b ∈ cb', b ∈ cb) ∧ Below w.heap.size w w' := by
  have hcq := h.ring.cnt
  have hle := h.ring.le
  have c2 := h.c2
  have H := hide h
  clear h
  go_enter Tryd.func71, Tryd.ntmps71
  go_wp2
  go_loopw [3, 9] (fun lv i wr => ∃ k : Nat, k ≤ q.length ∧ i = .int .i64 (k : Int) ∧ Below w.heap.size w wr ∧ ∃ cb', ORow nwsE wr lv (q.take k) (lv.ownBlock.toList ++ cb') ∧ (∀ g, lv.ownBlock = some g → w.heap.size ≤ g) ∧ ∀ b ∈ cb', b ∈ cb) (fun _ i _ => q.length - (intOf i).toNat)
  case atStart => exact ⟨0, Nat.zero_le _, rfl, Below.refl _ _, [], ORow.nil _ _, fun g hg => by simp [Value.ownBlock] at hg, fun b hb => by simp at hb⟩
  case round =>
    obtain ⟨k, hk, rfl, hb, cb', ho, hB, hsub⟩ := hrel
    by_cases hlt : k < q.length
    · have hR := (unhide H).below hb
      have hkm : k < ms.length := by omega
      have hat := hR.ring.at_ k q[k] (List.getElem?_eq_getElem hlt)
      have HC := hide (cellNws_walk g o cv f c ms q cb k wr hR hkm hm)
      obtain ⟨xa, xc, hcv, hx1, hx2⟩ := hR.row.form
      obtain ⟨gc, rfl⟩ := hx2 (by omega)
      have hrow := hR.row
      rw [hcv] at hrow
      obtain ⟨vs, ib, hE, hc, hibs, _, _⟩ := hrow.at hat
      have hE0 := hE
      obtain ⟨qv, hvs, hq⟩ := hE0
      subst hvs
      obtain ⟨ya, yc, rfl, hy1, hy2⟩ := hq.form
      generalize hr : (f + k) % ms.length = r at *
      have hone := nws_ones hE
      have hibc : ∀ b ∈ ib, b ∈ cb := fun b hb => by
        rcases List.mem_append.1 (hibs b hb) with h1 | h1
        · exfalso
          obtain ⟨cs, hcs⟩ := hrow.own
          exact (nws_ty hE).not hcs (by decide) (by simpa using h1) hb
        · exact h1
      have hnx : q.take (k + 1) = q.take k ++ [q[k]] := by rw [List.take_add_one, List.getElem?_eq_getElem hlt]; rfl
      have hll : (q.take k).length = k := by rw [List.length_take]; omega
      have c0' : wr.cell? ⟨gc, r * 2, none⟩ = _ := (hc 0 _ rfl).1
      have c1' : wr.cell? ⟨gc, r * 2 + 1, none⟩ = _ := (hc 1 _ rfl).1
      have HE := hide hE
      have HO := hide ho
      have HB := hide hb
      have HBB := hide hB
      have HS := hide hsub
      have HI := hide hibc
      have HNX := hide hnx
      have HLL := hide hll
      have HON := hide hone
      have hob : cv.ownBlock = some gc := by rw [hcv]; rfl
      have HOB := hide hob
      clear hR hat hcv hx1 hx2 hrow hc hibs hE hq hy1 hy2 ho hb hB hsub hibc hnx hll hone hob hr
      go_wp2_with fail
      refine (unhide HC).mono ?_
      rintro e w1 ⟨gd, rfl, hgd, n1, rfl⟩
      have hge : gd = gc := by rw [unhide HOB] at hgd; exact (Option.some.inj hgd).symm
      subst hge
      have d0 : (wr.drewN n1).cell? ⟨gd, r * 2, none⟩ = _ := c0'
      have d1 : (wr.drewN n1).cell? ⟨gd, r * 2 + 1, none⟩ = _ := c1'
      have hdb : Below wr.heap.size wr (wr.drewN n1) := draws_b wr n1
      have hab := alloc_b (wr.drewN n1) (.cells #[.int .i64 q[k].ver, .slice ya q[k].ptrs.length yc] 85)
      have hbb := below_next hdb hab
      have O3 := hide ((unhide HO).below hbb)
      have E3 := hide (nwsE.keep (unhide HE) (.of_below hbb (nwsE.lt (unhide HE))))
      have HB3 := hide (below_next (unhide HB) hbb)
      clear hgd hdb hab hbb HC HO HE HB c0' c1'
      generalize wr.drewN n1 = wd at *
      go_wp2_with (at_builtin; refine wpList_append_elem2 (e := nwsE) nws_ty (by decide) Tryd.underlying37 infoNws rfl (by decide) (by decide) rfl (.tmp 12) (.tmp 18) rfl (B := w.heap.size) rfl (unhide O3) (unhide HBB) (unhide E3) rfl (lit_cells wd [_, _] _) (unhide HON) (by have := (unhide HB3).size; simpa using this) (by rw [unhide HLL]; omega) ?_)
      intro v' w3 o4 hB4 hg4
      try rw [← unhide HNX] at o4
      have HB4 := hide ((unhide HB3).grown hg4 (unhide HB3).size (fun j hj => unhide HBB j hj))
      have HO4 := hide o4
      have HBB4 := hide hB4
      have HS4 : Hid (∀ b ∈ cb' ++ ib, b ∈ cb) := fun b hb => by
        rcases List.mem_append.1 hb with h1 | h1
        · exact unhide HS b h1
        · exact unhide HI b h1
      clear o4 hB4 hg4 O3 E3 HB3 d0 d1 HBB HS HI HON
      go_wp2
      go_roundw
      case rel => exact ⟨k + 1, by omega, by go_num, unhide HB4, _, unhide HO4, unhide HBB4, unhide HS4⟩
      case measure => simp [intOf]; omega
    · have hk' : k = q.length := by omega
      subst hk'
      rw [List.take_length] at ho
      have HO := hide ho
      have HB := hide hb
      have HBB := hide hB
      have HS := hide hsub
      clear ho hb hB hsub
      go_wp2
      go_ret
      exact ⟨_, cb', rfl, unhide HO, unhide HBB, unhide HS, unhide HB⟩
end Go.Proofs.YtbcfkkicmmhhcaaDoor

namespace Go.Proofs.YtbcfkkicmmhhcaaDoor
open Go.RowKit

set_option maxHeartbeats 800000 in
set_option maxRecDepth 100000 in
theorem copyMsg_walk (a0 a1 a2 : Value) (m : Msg) (ib : List Nat) (w : World) (h : msgE.E w [a0, a1, a2] m ib) (hs : szMsg m ≤ 1048577) :
    Calls Tryd.prog 104 #[.agg #[a0, a1, a2]] w fun e w' => ∃ b0 b1 b2 jb, e = .returned (.agg #[b0, b1, b2]) ∧ msgE.E w' [b0, b1, b2] m jb ∧ Fsh (w.heap.size + 1) jb ∧ Below w.heap.size w w' := by
  obtain ⟨q, hq, h1⟩ := h
  injection hq with e0 hq; injection hq with e1 hq; injection hq with e2 hq
  subst e0; subst e1; subst e2
  have hl : m.ptrs.length ≤ 1048577 := by unfold szMsg szStr at hs; omega
  clear hs hq
  have H1 := hide h1
  clear h1
  go_enter Tryd.func104, Tryd.ntmps104
  go_wp2_with fail
  have hA := new2 w (Obj.cells #[Value.int IntKind.i64 m.ver, a1, Value.bool m.over] 115) (Obj.cells #[Value.int IntKind.i64 0, Value.slice none 0 0, Value.bool false] 115)
  generalize ((w.alloc (Obj.cells #[Value.int IntKind.i64 m.ver, a1, Value.bool m.over] 115)).alloc (Obj.cells #[Value.int IntKind.i64 0, Value.slice none 0 0, Value.bool false] 115)) = wA at *
  refine (copiedStr_walk a1 m.ptrs ib wA ((unhide H1).below hA.bel) hl).mono ?_
  rintro e w1 ⟨v', bl, rfl, ho, hf, b1⟩
  obtain ⟨xa, xc, rfl, _, _⟩ := ho.form
  have hsz := hA.size
  have k0 := (b1.block w.heap.size (by omega)).trans hA.k0
  have k1 := (b1.block (w.heap.size + 1) (by omega)).trans hA.k1
  have c00 : w1.cell? ⟨w.heap.size, 0, none⟩ = some (.int .i64 m.ver) := Lib.cell_of_heap k0 0
  have c01 : w1.cell? ⟨w.heap.size, 1, none⟩ = some a1 := Lib.cell_of_heap k0 1
  have c02 : w1.cell? ⟨w.heap.size, 2, none⟩ = some (.bool m.over) := Lib.cell_of_heap k0 2
  have c10 : w1.cell? ⟨w.heap.size + 1, 0, none⟩ = some (.int .i64 0) := Lib.cell_of_heap k1 0
  have c11 : w1.cell? ⟨w.heap.size + 1, 1, none⟩ = some (.slice none 0 0) := Lib.cell_of_heap k1 1
  have c12 : w1.cell? ⟨w.heap.size + 1, 2, none⟩ = some (.bool false) := Lib.cell_of_heap k1 2
  have f0 := Lib.frozen_of_heap k0
  have f1 := Lib.frozen_of_heap k1
  have HB := hide (below_next hA.bel b1)
  have HO := hide ho
  have HF := hide hf
  have HK := hide k1
  clear b1 ho hf hA H1 k0 k1
  go_wp2
  refine bodyPost_ret (results_cell_row rfl _ _ (w.heap.size + 1) 115 #[_, _, _] (0, 0) _ rfl (putN_full (w := putN w1 w.heap.size 1 [_]) ((putN_other (by omega) _ _).trans (unhide HK)) [_, _, _] rfl) Tryd.underlying115 rfl (by kernel_rfl)) rfl ?_
  have n1 := (unhide HF).not (g := w.heap.size) (by omega)
  have n2 := (unhide HF).not (g := w.heap.size + 1) (by omega)
  refine ⟨_, _, _, bl, rfl, ⟨_, rfl, ((unhide HO).putN n1 [_] 1).putN n2 [_, _, _] 0⟩, (unhide HF).mono (by omega), ?_⟩
  exact putN_below (g := w.heap.size + 1) (putN_below (g := w.heap.size) (unhide HB) (by omega) [_] 1) (by omega) [_, _, _] 0


theorem Fr.grown {bl : List Nat} {a w w' : World} {row : Option Nat} (h : Fr bl a w) (hg : w.grownBy w' row) (hr : ∀ k, row = some k → a.heap.size ≤ k) : Fr bl a w' :=
  ⟨hg.os.trans h.os, hg.tape.trans h.tape, hg.output.trans h.output, Nat.le_trans h.size hg.size, fun i hi hn => (hg.block i (Nat.lt_of_lt_of_le hi h.size) fun e => by have := hr i e.symm; omega).trans (h.block i hi hn)⟩
/-- A watch at work: a pointer to its block, its messages in a ring. -/
def wtrE : Elem Wat where
  T := 116
  wd := 1
  E := fun w vs m bl => ∃ g cv f c ms cb, vs = [.pointer (some ⟨g, 0, none⟩)] ∧ w.heap[g]? = some (.cells #[.int .i64 m.client, .string m.ptr, .int .i64 m.cap, .int .i64 m.since, .bool m.closed, .slice none 0 0, cv, .int .i64 (f : Nat), .int .i64 (c : Nat)] 118 (0, 0)) ∧
    ORow msgE w cv ms (cv.ownBlock.toList ++ cb) ∧ RingIs ms f c m.queue ∧ ms.length ≤ 4000000 ∧ bl = g :: (cv.ownBlock.toList ++ cb)
  len := fun h => by obtain ⟨g, cv, f, c, ms, cb, h, _⟩ := h; rw [h]; rfl
  lt := fun h => by
    obtain ⟨g, cv, f, c, ms, cb, _, h1, h2, _, _, rfl⟩ := h
    intro b hb
    rcases List.mem_cons.1 hb with rfl | hb
    · exact (Array.getElem?_eq_some_iff.1 h1).1
    · exact h2.lt b hb
  keep := fun h hk => by
    obtain ⟨g, cv, f, c, ms, cb, h0, h1, h2, h3, h4, rfl⟩ := h
    exact ⟨g, cv, f, c, ms, cb, h0, (hk g (by simp)).trans h1, h2.keep fun b hb => hk b (List.mem_cons_of_mem _ hb), h3, h4, rfl⟩

set_option maxHeartbeats 800000 in
set_option maxRecDepth 100000 in
theorem tellWat_walk (v : Value) (m : Wat) (bl : List Nat) (w : World) (h : wtrE.E w [v] m bl) (hs : szWat m ≤ 1048577) :
    Calls Tryd.prog 70 #[v] w fun e w' => ∃ b0 b1 b2 b3 b4 b5 jb, e = .returned (.agg #[b0, b1, b2, b3, b4, b5]) ∧ watE.E w' [b0, b1, b2, b3, b4, b5] m jb ∧ Fsh w.heap.size jb ∧ Below w.heap.size w w' := by
  obtain ⟨g, cv, f, c, ms, cb, hv, hk, ho, hr, hml, rfl⟩ := h
  injection hv with hv _
  subst hv
  have hgl : g < w.heap.size := (Array.getElem?_eq_some_iff.1 hk).1
  have hl : szMsgs m.queue ≤ 1048577 := by unfold szWat at hs; omega
  have hqn : m.queue.length ≤ 1048577 := by unfold szMsgs at hl; omega
  have hsz : ∀ k (hk : k < m.queue.length), szMsg m.queue[k] ≤ 1048577 := fun k hk => by
    have h1 := sum_take_snoc szMsg m.queue k m.queue[k] (List.getElem?_eq_getElem hk)
    have h2 := sum_take_le (m.queue.map szMsg) (k + 1)
    rw [← List.map_take] at h2
    unfold szMsgs at hl; omega
  have HZ := hide hsz
  have HO := hide ho
  have HR := hide hr
  have HK := hide hk
  have c0 : w.cell? ⟨g, 0, none⟩ = some (.int .i64 m.client) := Lib.cell_of_heap hk 0
  have c1 : w.cell? ⟨g, 1, none⟩ = some (.string m.ptr) := Lib.cell_of_heap hk 1
  have c2 : w.cell? ⟨g, 2, none⟩ = some (.int .i64 m.cap) := Lib.cell_of_heap hk 2
  have c3 : w.cell? ⟨g, 3, none⟩ = some (.int .i64 m.since) := Lib.cell_of_heap hk 3
  have c4 : w.cell? ⟨g, 4, none⟩ = some (.bool m.closed) := Lib.cell_of_heap hk 4
  have c5 : w.cell? ⟨g, 5, none⟩ = some (.slice none 0 0) := Lib.cell_of_heap hk 5
  clear ho hr hk hsz hs hl
  go_enter Tryd.func70, Tryd.ntmps70
  go_wp2_with fail
  have hA := new2 w (Obj.cells #[Value.int IntKind.i64 0, Value.string ⟨#[]⟩, Value.int IntKind.i64 0, Value.int IntKind.i64 0, Value.bool false, Value.slice none 0 0] 72) (Obj.cells #[Value.int IntKind.i64 m.client, Value.string m.ptr, Value.int IntKind.i64 m.cap, Value.int IntKind.i64 m.since, Value.bool m.closed, Value.slice none 0 0] 72)
  generalize ((w.alloc (Obj.cells #[Value.int IntKind.i64 0, Value.string ⟨#[]⟩, Value.int IntKind.i64 0, Value.int IntKind.i64 0, Value.bool false, Value.slice none 0 0] 72)).alloc (Obj.cells #[Value.int IntKind.i64 m.client, Value.string m.ptr, Value.int IntKind.i64 m.cap, Value.int IntKind.i64 m.since, Value.bool m.closed, Value.slice none 0 0] 72)) = wA at *
  have kA := (hA.bel.block g hgl).trans (unhide HK)
  have hRA : RingAt msgE wA g 6 cv f c ms m.queue cb := ⟨Lib.cell_of_heap kA 6, Lib.cell_of_heap kA 7, Lib.cell_of_heap kA 8, (unhide HO).below hA.bel, unhide HR⟩
  refine (listMsg_walk g 6 cv f c ms m.queue cb wA hRA hml).mono ?_
  rintro e w1 ⟨lv, cb', rfl, ol, gl, sl, bl1⟩
  obtain ⟨la, lc, rfl, hl1, hl2⟩ := ol.form
  have hsz := hA.size
  have B1 := below_next hA.bel bl1
  have k0 := (bl1.block w.heap.size (by omega)).trans hA.k0
  have k1 := (bl1.block (w.heap.size + 1) (by omega)).trans hA.k1
  have hz1 := bl1.size
  have hno : ∀ b ∈ (Value.slice la m.queue.length lc).ownBlock.toList ++ cb', b ∉ [w.heap.size + 1] := fun b hb hm => by
    simp at hm
    rcases List.mem_append.1 hb with h1 | h1
    · have := gl b (by simpa using h1); omega
    · have := (unhide HO).lt b (List.mem_append.2 (.inr (sl b h1))); omega
  have HL := hide ol
  have HB1 := hide B1
  have HK0 := hide k0
  have HK1 := hide k1
  have HSH := hide hl2
  have HNO := hide hno
  clear hA kA hRA ol gl sl bl1 hl1 hl2 B1 k0 k1 HO HR HK c0 c1 c2 c3 c4 c5 hno
  go_wp2
  go_loopw [15] (fun i wr => ∃ k : Nat, k ≤ m.queue.length ∧ i = .int .i64 (k : Int) ∧ Fr [w.heap.size + 1] w1 wr ∧ ∃ tv bl, wr.heap[w.heap.size + 1]? = some (.cells #[.int .i64 m.client, .string m.ptr, .int .i64 m.cap, .int .i64 m.since, .bool m.closed, tv] 72 (0, 0)) ∧ ORow msgE wr tv (m.queue.take k) bl ∧ Fsh w1.heap.size bl) (fun i _ => m.queue.length - (intOf i).toNat)
  case atStart => exact ⟨0, Nat.zero_le _, rfl, Fr.refl _ _, _, [], unhide HK1, ORow.nil _ _, Fsh.nil _⟩
  case round =>
    obtain ⟨k, hk, rfl, hfr, tv, bl, hkt, ho, hF⟩ := hrel
    have hfs := hfr.size
    have kr : wr.heap[w.heap.size]? = _ := (hfr.block w.heap.size (by omega) (by simp)).trans (unhide HK0)
    have hbw : Below w.heap.size w wr := (unhide HB1).trans (hfr.below (fun b hb => by simp at hb; omega) (by omega))
    by_cases hlt : k < m.queue.length
    · obtain ⟨gl, rfl⟩ := unhide HSH (by omega)
      obtain ⟨ta, tc, rfl, ht1, ht2⟩ := ho.form
      have hL := (unhide HL).keep (hfr.kp (unhide HL).lt (unhide HNO))
      obtain ⟨vs, jb, hE, hc, hx1, hx2, hx3⟩ := hL.at (List.getElem?_eq_getElem hlt)
      have hE0 := hE
      obtain ⟨qv, hvs, hq⟩ := hE0
      subst hvs
      obtain ⟨ya, yc, rfl, hy1, hy2⟩ := hq.form
      have c0 : wr.cell? ⟨gl, k * 3, none⟩ = some (.int .i64 m.queue[k].ver) := (hc 0 _ rfl).1
      have c1 : wr.cell? ⟨gl, k * 3 + 1, none⟩ = some (.slice ya m.queue[k].ptrs.length yc) := (hc 1 _ rfl).1
      have c2 : wr.cell? ⟨gl, k * 3 + 2, none⟩ = some (.bool m.queue[k].over) := (hc 2 _ rfl).1
      have hnx : m.queue.take (k + 1) = m.queue.take k ++ [m.queue[k]] := by rw [List.take_add_one, List.getElem?_eq_getElem hlt]; rfl
      have hll : (m.queue.take k).length = k := by rw [List.length_take]; omega
      generalize m.queue.take k = ns at *
      have hab := alloc_b wr (.cells #[.int .i64 m.queue[k].ver, .slice ya m.queue[k].ptrs.length yc, .bool m.queue[k].over] 115)
      have kt : (wr.alloc (.cells #[.int .i64 m.queue[k].ver, .slice ya m.queue[k].ptrs.length yc, .bool m.queue[k].over] 115)).heap[w.heap.size + 1]? = _ := (hab.block _ (Array.getElem?_eq_some_iff.1 hkt).1).trans hkt
      have cT : (wr.alloc (.cells #[.int .i64 m.queue[k].ver, .slice ya m.queue[k].ptrs.length yc, .bool m.queue[k].over] 115)).cell? ⟨w.heap.size + 1, 5, none⟩ = some (.slice ta ns.length tc) := Lib.cell_of_heap kt 5
      have kM := heap_alloc_new wr (.cells #[.int .i64 m.queue[k].ver, .slice ya m.queue[k].ptrs.length yc, .bool m.queue[k].over] 115)
      have hdr : ∀ w' : World, Below w'.heap.size w' w'.drew := fun w' => (Below.refl _ _).drew
      have hbd := below_next hab (hdr _)
      have HM := hide (copyMsg_walk _ _ _ m.queue[k] jb _ (msgE.keep hE (.of_below hbd (msgE.lt hE))) (unhide HZ k hlt))
      have hasz : (wr.alloc (.cells #[.int .i64 m.queue[k].ver, .slice ya m.queue[k].ptrs.length yc, .bool m.queue[k].over] 115)).heap.size = wr.heap.size + 1 := by simp
      have HO := hide (ho.below hbd)
      have HFR := hide (hfr.next hbd)
      have HF := hide hF
      have HKT := hide kt
      have HNX := hide hnx
      have HLL := hide hll
      have hltI : (k : Int) < (m.queue.length : Int) := by omega
      have hnl : ns.length ≤ 1048577 := by omega
      have HAS := hide hasz
      have HBW := hide hbw
      clear hL hx1 hx2 hx3 hc hE hq hy1 hy2 ht1 ht2 ho hfr hF hnx hll hkt kt hbd hab hdr kM hasz kr hbw
      go_wp2
      have kM := heap_alloc_new wr (.cells #[.int .i64 m.queue[k].ver, .slice ya m.queue[k].ptrs.length yc, .bool m.queue[k].over] 115)
      generalize (wr.alloc (.cells #[.int .i64 m.queue[k].ver, .slice ya m.queue[k].ptrs.length yc, .bool m.queue[k].over] 115)) = wB at *
      generalize wr.heap.size = M at *
      have hbs := unhide HAS
      have e0 : wB.cell? ⟨M, 0, none⟩ = some (.int .i64 m.queue[k].ver) := Lib.cell_of_heap kM 0
      have e1 : wB.cell? ⟨M, 1, none⟩ = some (.slice ya m.queue[k].ptrs.length yc) := Lib.cell_of_heap kM 1
      have e2 : wB.cell? ⟨M, 2, none⟩ = some (.bool m.queue[k].over) := Lib.cell_of_heap kM 2
      clear kM HAS c0 c1 c2
      go_region_law (first
        | (refine step_append_elem (e := msgE) msg_ty (by decide) Tryd.underlying70 infoMsg rfl (by decide) (by decide) rfl (.tmp 20) (.tmp 23) rfl rfl (unhide O3) (unhide HF) (unhide E3) (unhide HFI) (unhide HAP) rfl (by exact lit_cells w2 [_, _, _] _) (by exact unhide HONE) (by simp; omega) (by omega) ?_
           intro v' w3 bl' o4 f4 m4 hg4
           obtain ⟨va, vc, rfl, hv1, hv2⟩ := o4.form
           have ko3 := (hg4.block (w.heap.size + 1) (by simp; omega) fun e => by have := (unhide HF).2 _ ((unhide O3).head e.symm); omega).trans kt3
           have cO3 : w3.cell? ⟨w.heap.size + 1, 5, none⟩ = some (.slice ta ns.length tc) := Lib.cell_of_heap ko3 5
           have fO3 := Lib.frozen_of_heap ko3)
        | (go_simp; refine (unhide HM).mono ?_
           rintro e w2 ⟨b0, b1, b2, ib, rfl, hE2, hFi, bb2⟩
           have hE0 := hE2
           obtain ⟨q0, hbs0, hE1⟩ := hE0
           injection hbs0 with f0 hbs0; injection hbs0 with f1 hbs0; injection hbs0 with f2 hbs0
           subst f0; subst f1; subst f2
           obtain ⟨za, zc, rfl, hy1, hy2⟩ := hE1.form
           have hsz2 : wB.heap.size ≤ w2.heap.size := bb2.size
           have kt2 := (bb2.block (w.heap.size + 1) (by simp; omega)).trans (unhide HKT)
           have hab : Below w2.heap.size w2 (w2.alloc (.cells #[.int .i64 m.queue[k].ver, .slice za m.queue[k].ptrs.length zc, .bool m.queue[k].over] 115)) := alloc_b _ _
           have kt3 := (hab.block (w.heap.size + 1) (by omega)).trans kt2
           have O3 := hide (((unhide HO).below bb2).below hab)
           have E3 := hide (msgE.keep hE2 (.of_below hab (msgE.lt hE2)))
           have HFI := hide (hFi.mono (B' := w1.heap.size) (by have := (unhide HFR).size; simp at this ⊢; omega))
           have HAP : Hid (∀ b ∈ ib, b ∉ bl) := fun b hb hbl => by have h1 := hFi.2 b hb; have h2 := (unhide HO).lt b hbl; simp at h1 h2; omega
           have HONE : Hid (∀ u ∈ [Value.int .i64 m.queue[k].ver, .slice za m.queue[k].ptrs.length zc, .bool m.queue[k].over], u.oneCell' = true) := fun u hu => by simp at hu; rcases hu with rfl | rfl | rfl <;> rfl
           have HF2 := hide (((unhide HFR).next bb2).next hab)
           have cO2 : w2.cell? ⟨w.heap.size + 1, 5, none⟩ = some (.slice ta ns.length tc) := Lib.cell_of_heap kt2 5
           have cO4 : (w2.alloc (.cells #[.int .i64 m.queue[k].ver, .slice za m.queue[k].ptrs.length zc, .bool m.queue[k].over] 115)).cell? ⟨w.heap.size + 1, 5, none⟩ = some (.slice ta ns.length tc) := Lib.cell_of_heap kt3 5))
      all_goals (
        have hl1 : (ns ++ [m.queue[k]]).length = ns.length + 1 := by rw [List.length_append]; rfl
        have kn := heap_setCell_same _ _ 5 _ _ (.slice va (ns ++ [m.queue[k]]).length vc) ko3
        have on := o4.other (g := w.heap.size + 1) (fun hm => by have := f4.2 _ hm; omega) 5 (.slice va (ns ++ [m.queue[k]]).length vc)
        have fn := ((unhide HF2).grown hg4 (fun j hj => (unhide HF).2 _ ((unhide O3).head hj))).set (g := w.heap.size + 1) (by simp) 5 (.slice va (ns ++ [m.queue[k]]).length vc)
        rw [hl1] at kn on fn
        rw [← unhide HNX] at on
        have KN := hide kn
        have ON := hide on
        have FN := hide fn
        have F4 := hide f4
        clear kn on fn o4 f4 m4 hg4 hv1 hv2 ko3 cO3 fO3 cO2 cO4 HF2 HONE HAP HFI E3 O3 kt3 hab kt2 hy1 hy2 hE1 hbs0 hE2 hFi bb2 HM HO HFR HF HKT e0 e1 e2 cT hl1
        go_wp2
        go_roundw)
      all_goals first
        | (refine ⟨k + 1, by omega, by go_num, unhide FN, _, bl', unhide KN, unhide ON, unhide F4⟩)
        | (simp [intOf]; omega)
    · have hk' : k = m.queue.length := by omega
      subst hk'
      rw [List.take_length] at ho
      obtain ⟨ta, tc, rfl, ht1, ht2⟩ := ho.form
      have d0 : wr.cell? ⟨w.heap.size + 1, 0, none⟩ = some (.int .i64 m.client) := Lib.cell_of_heap hkt 0
      have d1 : wr.cell? ⟨w.heap.size + 1, 1, none⟩ = some (.string m.ptr) := Lib.cell_of_heap hkt 1
      have d2 : wr.cell? ⟨w.heap.size + 1, 2, none⟩ = some (.int .i64 m.cap) := Lib.cell_of_heap hkt 2
      have d3 : wr.cell? ⟨w.heap.size + 1, 3, none⟩ = some (.int .i64 m.since) := Lib.cell_of_heap hkt 3
      have d4 : wr.cell? ⟨w.heap.size + 1, 4, none⟩ = some (.bool m.closed) := Lib.cell_of_heap hkt 4
      have d5 : wr.cell? ⟨w.heap.size + 1, 5, none⟩ = some (.slice ta m.queue.length tc) := Lib.cell_of_heap hkt 5
      have r0 : wr.cell? ⟨w.heap.size, 0, none⟩ = some (.int .i64 0) := Lib.cell_of_heap kr 0
      have r1 : wr.cell? ⟨w.heap.size, 1, none⟩ = some (.string ⟨#[]⟩) := Lib.cell_of_heap kr 1
      have r2 : wr.cell? ⟨w.heap.size, 2, none⟩ = some (.int .i64 0) := Lib.cell_of_heap kr 2
      have r3 : wr.cell? ⟨w.heap.size, 3, none⟩ = some (.int .i64 0) := Lib.cell_of_heap kr 3
      have r4 : wr.cell? ⟨w.heap.size, 4, none⟩ = some (.bool false) := Lib.cell_of_heap kr 4
      have r5 : wr.cell? ⟨w.heap.size, 5, none⟩ = some (.slice none 0 0) := Lib.cell_of_heap kr 5
      have fr := Lib.frozen_of_heap kr
      have HB := hide hbw
      have HO := hide ho
      have HF := hide hF
      have HKR := hide kr
      clear hbw ho hF kr hkt hfr ht1 ht2
      go_wp2
      refine bodyPost_ret (results_cell_row rfl _ _ w.heap.size 72 #[_, _, _, _, _, _] (0, 0) _ rfl (putN_full (unhide HKR) [_, _, _, _, _, _] rfl) Tryd.underlying72 rfl (by kernel_rfl)) rfl ?_
      have n1 := (unhide HF).not (g := w.heap.size) (by omega)
      refine ⟨_, _, _, _, _, _, bl, rfl, ⟨_, rfl, (unhide HO).putN n1 [_, _, _, _, _, _] 0⟩, (unhide HF).mono (by omega), ?_⟩
      exact putN_below (g := w.heap.size) (unhide HB) (Nat.le_refl _) [_, _, _, _, _, _] 0
end Go.Proofs.YtbcfkkicmmhhcaaDoor

namespace Go.Proofs.YtbcfkkicmmhhcaaDoor
open Go.RowKit

section
variable {w0 : World} {G F : Nat} {wr w3 : World} {p p' q q' : Value} {ws : List Wat} {ns : List Nws} {b1 b2 b1' b2' ib : List Nat}
theorem HB.koW (h : HB w0 G F wr p q ws ns b1 b2) (hg : wr.grownBy w3 p.ownBlock) : w3.heap[G]? = some (.cells #[p, q] 39 (0, 0)) :=
  (hg.block _ (Array.getElem?_eq_some_iff.1 h.ko).1 fun e => hub_not h.ko (wats_ty h.o1) (by decide) (h.o1.head e.symm)).trans h.ko
theorem HB.watch (h : HB w0 G F wr p q ws ns b1 b2) (hg : wr.grownBy w3 p.ownBlock) {x : Wat} (ho : ORow watE w3 p' (ws ++ [x]) b1') (hF : Fsh F b1') (hm : ∀ b ∈ b1', b ∈ b1 ∨ b ∈ ib ∨ p'.ownBlock = some b) (hi : ∀ b ∈ ib, b ∉ b2) :
    HB w0 G F (w3.setCell ⟨G, 0, none⟩ p') p' q (ws ++ [x]) ns b1' b2 := by
  have hfs := h.fs
  have hd := hfs.1
  rw [List.nodup_append] at hd
  have hown : ∀ g, p.ownBlock = some g → g ∈ b1 := fun g hg => h.o1.head hg
  have hn2 := hub_not h.ko (nwss_ty h.o2) (by decide)
  have ko3 := h.koW hg
  have hn3 := hub_not ko3 (wats_ty ho) (by decide)
  have q3 : ORow nwsE w3 q ns b2 := h.o2.keep fun b hb => hg.block b (h.o2.lt b hb) fun e => hd.2.2 b (hown b e.symm) b hb rfl
  have hs := h.bel.size
  refine ⟨(h.bel.grown hg hs fun k hk => Nat.le_trans h.hF (hfs.2 k (List.mem_append.2 (.inl (hown k hk))))).setCell (p := ⟨G, 0, none⟩) h.hG _, heap_setCell_same _ _ 0 _ _ _ ko3, ho.other hn3 0 p', q3.other hn2 0 p', ?_, h.hF, h.hG⟩
  refine ⟨List.nodup_append.2 ⟨hF.1, hd.2.1, fun a ha b hb e => ?_⟩, fun b hb => ?_⟩
  · subst e
    rcases hm a ha with h1 | h1 | h1
    · exact hd.2.2 a h1 a hb rfl
    · exact hi a h1 hb
    · obtain ⟨cs, hcs⟩ := ho.own
      obtain ⟨cur, t, e1, e2⟩ := own_ty hcs a (by simp [h1])
      obtain ⟨cur', t', e3, e4⟩ := nwss_ty q3 a hb
      rw [e1] at e3
      injection e3 with e3; injection e3 with _ e3
      simp at e2
      rw [← e3, e2] at e4
      exact absurd e4 (by decide)
  · rcases List.mem_append.1 hb with hb | hb
    · exact hF.2 b hb
    · exact hfs.2 b (List.mem_append.2 (.inr hb))
end

/-- A hub at work: its block, its watchers, its ring of news. -/
structure Brd (w : World) (B : Nat) (h : Hb) (pv cv : Value) (f c : Nat) (ns : List Nws) (cb bw : List Nat) : Prop where
  ko : w.heap[B]? = some (.cells #[pv, cv, .int .i64 (f : Int), .int .i64 (c : Int)] 110 (0, 0))
  o1 : ORow wtrE w pv h.watches bw
  o2 : ORow nwsE w cv ns (cv.ownBlock.toList ++ cb)
  ring : RingIs ns f c h.waiting
  len : ns.length ≤ 4000000
theorem Brd.below {w w' : World} {B : Nat} {h : Hb} {pv cv : Value} {f c : Nat} {ns : List Nws} {cb bw : List Nat} (hb : Brd w B h pv cv f c ns cb bw) (hw : Below w.heap.size w w') : Brd w' B h pv cv f c ns cb bw :=
  ⟨(hw.block _ (Array.getElem?_eq_some_iff.1 hb.ko).1).trans hb.ko, hb.o1.below hw, hb.o2.below hw, hb.ring, hb.len⟩

set_option maxHeartbeats 1600000 in
set_option maxRecDepth 100000 in
theorem tellHub_walk (B : Nat) (h : Hb) (pv cv : Value) (f c : Nat) (ns : List Nws) (cb bw : List Nat) (w : World) (hb : Brd w B h pv cv f c ns cb bw) (hs : szHb h ≤ 2097154) (hs1 : ∀ x ∈ h.watches, szWat x ≤ 1048577) (hs2 : ∀ x ∈ h.waiting, x.ptrs.length ≤ 1048577) :
    Calls Tryd.prog 41 #[.pointer (some ⟨B, 0, none⟩)] w fun e w' => ∃ v' bl', e = .returned v' ∧ OHub w' v' h bl' ∧ Fsh w.heap.size bl' ∧ Below w.heap.size w w' := by
  have hl1 : h.watches.length ≤ 2097154 := by unfold szHb szWats at hs; omega
  have hl2 : h.waiting.length ≤ 2097154 := by unfold szHb szNwss at hs; omega
  obtain ⟨xa, xc, rfl, hfm, hsh⟩ := hb.o1.form
  have HBD := hide hb
  have HSH := hide hsh
  have HS1 := hide hs1
  have HS2 := hide hs2
  have hBl : B < w.heap.size := (Array.getElem?_eq_some_iff.1 hb.ko).1
  have c0 : w.cell? ⟨B, 0, none⟩ = some (.slice xa h.watches.length xc) := Lib.cell_of_heap hb.ko 0
  clear hb hfm hsh hs hs1 hs2
  go_enter Tryd.func41, Tryd.ntmps41
  go_wp2
  have hA := new2 w (Obj.cells #[Value.slice none 0 0, Value.slice none 0 0] 39) (Obj.cells #[Value.slice none 0 0, Value.slice none 0 0] 39)
  generalize ((w.alloc (Obj.cells #[Value.slice none 0 0, Value.slice none 0 0] 39)).alloc (Obj.cells #[Value.slice none 0 0, Value.slice none 0 0] 39)) = wA at *
  have hsz := hA.size
  have hH : HB w (w.heap.size + 1) (w.heap.size + 1 + 1) wA (.slice none 0 0) (.slice none 0 0) [] [] [] [] := ⟨hA.bel, hA.k1, ORow.nil _ _, ORow.nil _ _, Fsh.nil _, by omega, by omega⟩
  have HHB := hide hH
  have HK0 := hide hA.k0
  clear hA hH c0
  go_loopw [13] (fun i wr => ∃ k : Nat, k ≤ h.watches.length ∧ i = .int .i64 (k : Int) ∧ wr.heap[w.heap.size]? = some (.cells #[Value.slice none 0 0, Value.slice none 0 0] 39 (0, 0)) ∧ ∃ p b1, HB w (w.heap.size + 1) (w.heap.size + 1 + 1) wr p (.slice none 0 0) (h.watches.take k) [] b1 []) (fun i _ => h.watches.length - (intOf i).toNat)
  case atStart => exact ⟨0, Nat.zero_le _, rfl, unhide HK0, _, _, unhide HHB⟩
  case round =>
    obtain ⟨k, hk, rfl, hkr, p, b1, hcs⟩ := hrel
    have hws := hcs.bel.size
    have hko := (Array.getElem?_eq_some_iff.1 hcs.ko).1
    by_cases hlt : k < h.watches.length
    · obtain ⟨gp, rfl⟩ := unhide HSH (by omega)
      obtain ⟨pa, pc, rfl, hfp, hfp2⟩ := hcs.o1.form
      obtain ⟨vs, jb, hE, hc, hx1, hx2, hx3⟩ := ((unhide HBD).below hcs.bel).o1.at (List.getElem?_eq_getElem hlt)
      obtain ⟨a0, rfl⟩ : ∃ a0, vs = [a0] := by
        have := wtrE.len hE
        match vs, this with
        | [a], _ => exact ⟨a, rfl⟩
      have c0 := (hc 0 _ rfl).1
      rw [show k * wtrE.wd + 0 = k from by simp [wtrE]] at c0
      have hszk := unhide HS1 h.watches[k] (List.getElem_mem _)
      have hnx : h.watches.take (k + 1) = h.watches.take k ++ [h.watches[k]] := by rw [List.take_add_one, List.getElem?_eq_getElem hlt]; rfl
      have hll : (h.watches.take k).length = k := by rw [List.length_take]; omega
      generalize h.watches.take k = ws at *
      have hdr : Below wr.heap.size wr wr.drew := (Below.refl _ _).drew
      have HM := hide (tellWat_walk a0 h.watches[k] jb wr.drew (wtrE.keep hE (.of_below hdr (wtrE.lt hE))) hszk)
      have HCD := hide (hcs.below hdr)
      have cO0 : wr.cell? ⟨w.heap.size + 1, 0, none⟩ = some (.slice pa ws.length pc) := Lib.cell_of_heap hcs.ko 0
      have HKR := hide hkr
      have HNX := hide hnx
      have hnl : ws.length ≤ 2097154 := by omega
      have hltI : (k : Int) < (h.watches.length : Int) := by omega
      obtain ⟨ga, _, _, _, _, _, hva, _⟩ := hE
      injection hva with hva _
      subst hva
      clear hx1 hx2 hx3 hc hfp hfp2 hszk hnx hll hdr hcs hkr
      go_wp2
      go_region_law (first
        | (refine step_append_elem (e := watE) wat_ty (by decide) Tryd.underlying36 infoWat rfl (by decide) (by decide) rfl (.tmp 18) (.tmp 21) rfl rfl (unhide O3) (unhide HF3) (unhide E3) (unhide HFI) (unhide HAP) rfl (by exact lit_cells w2 [_, _, _, _, _, _] _) (by exact unhide HONE) (by simp; omega) (by omega) ?_
           intro v' w3 bl' o4 f4 m4 hg4
           obtain ⟨va, vc, rfl, hv1, hv2⟩ := o4.form
           have ko3 := (unhide HC3).koW hg4
           have cO3 : w3.cell? ⟨w.heap.size + 1, 0, none⟩ = some (.slice pa ws.length pc) := Lib.cell_of_heap ko3 0
           have fO3 := Lib.frozen_of_heap ko3)
        | (go_simp; refine (unhide HM).mono ?_
           rintro e w2 ⟨b0, b1', b2', b3, b4, b5, ib, rfl, hE2, hFi, bb2⟩
           have hE0 := hE2
           obtain ⟨q0, hbs0, hE1⟩ := hE0
           injection hbs0 with e0 hbs0; injection hbs0 with e1 hbs0; injection hbs0 with e2 hbs0; injection hbs0 with e3 hbs0; injection hbs0 with e4 hbs0; injection hbs0 with e5 hbs0
           subst e0; subst e1; subst e2; subst e3; subst e4; subst e5
           obtain ⟨za, zc, rfl, hy1, hy2⟩ := hE1.form
           have hsz2 : wr.heap.size ≤ w2.heap.size := bb2.size
           have hCS2 := (unhide HCD).below bb2
           have hab : Below w2.heap.size w2 (w2.alloc (.cells #[.int .i64 h.watches[k].client, .string h.watches[k].ptr, .int .i64 h.watches[k].cap, .int .i64 h.watches[k].since, .bool h.watches[k].closed, .slice za h.watches[k].queue.length zc] 72)) := alloc_b _ _
           have hCS3 := hCS2.below hab
           have O3 := hide hCS3.o1
           have HF3 := hide (show Fsh (w.heap.size + 1 + 1) b1 from ⟨(List.nodup_append.1 hCS3.fs.1).1, fun b hb => hCS3.fs.2 b (List.mem_append.2 (.inl hb))⟩)
           have E3 := hide (watE.keep hE2 (.of_below hab (watE.lt hE2)))
           have HFI := hide (hFi.mono (B' := w.heap.size + 1 + 1) (by simp; omega))
           have HAP : Hid (∀ b ∈ ib, b ∉ b1) := fun b hb hbl => by have h1 := hFi.2 b hb; have h2 := (unhide HCD).o1.lt b hbl; simp at h1 h2; omega
           have HONE : Hid (∀ u ∈ [Value.int .i64 h.watches[k].client, .string h.watches[k].ptr, .int .i64 h.watches[k].cap, .int .i64 h.watches[k].since, .bool h.watches[k].closed, .slice za h.watches[k].queue.length zc], u.oneCell' = true) := fun u hu => by simp at hu; rcases hu with rfl | rfl | rfl | rfl | rfl | rfl <;> rfl
           have HC3 := hide hCS3
           have kR3 := (hab.block w.heap.size (by omega)).trans ((bb2.block w.heap.size (by simp; omega)).trans (unhide HKR))
           have cO2 : w2.cell? ⟨w.heap.size + 1, 0, none⟩ = some (.slice pa ws.length pc) := Lib.cell_of_heap hCS2.ko 0
           have cO4 : (w2.alloc (.cells #[.int .i64 h.watches[k].client, .string h.watches[k].ptr, .int .i64 h.watches[k].cap, .int .i64 h.watches[k].since, .bool h.watches[k].closed, .slice za h.watches[k].queue.length zc] 72)).cell? ⟨w.heap.size + 1, 0, none⟩ = some (.slice pa ws.length pc) := Lib.cell_of_heap hCS3.ko 0))
      all_goals (
        have hn := (unhide HC3).watch hg4 o4 f4 m4 (fun b _ hb => by simp at hb)
        have kR4 := (hg4.block w.heap.size (by simp; omega) fun e => by have := (unhide HF3).2 _ ((unhide O3).head e.symm); omega).trans kR3
        have kR5 := (Below.heap_setCell w3 ⟨w.heap.size + 1, 0, none⟩ (.slice va (ws ++ [h.watches[k]]).length vc) w.heap.size (by simp)).trans kR4
        rw [List.length_append, List.length_singleton] at hn kR5
        rw [← unhide HNX] at hn
        have HN := hide hn
        have HKN := hide kR5
        clear hn kR3 kR4 kR5 o4 f4 m4 hg4 hv1 hv2 ko3 cO3 fO3 cO2 cO4 HC3 HONE HAP HFI E3 HF3 O3 hCS3 hab hCS2 hy1 hy2 hE1 hbs0 hE2 hFi bb2 HM HCD cO0 c0
        go_wp2
        go_roundw)
      all_goals first
        | exact ⟨k + 1, by omega, by go_num, unhide HKN, _, _, unhide HN⟩
        | (simp [intOf]; omega)
    · have hk' : k = h.watches.length := by omega
      subst hk'
      rw [List.take_length] at hcs
      have hBr := (unhide HBD).below hcs.bel
      have HM := hide (listNws_walk B 1 cv f c ns h.waiting cb wr ⟨Lib.cell_of_heap hBr.ko 1, Lib.cell_of_heap hBr.ko 2, Lib.cell_of_heap hBr.ko 3, hBr.o2, hBr.ring⟩ hBr.len)
      have HC := hide hcs
      have HKR := hide hkr
      clear hcs hkr hBr
      go_wp2_with fail
      refine (unhide HM).mono ?_
      rintro e w2 ⟨lv, cb', rfl, ol, gl, sl, bl2⟩
      obtain ⟨la, lc, rfl, hl1', hl2'⟩ := ol.form
      have hC2 := (unhide HC).below bl2
      have hz2 := bl2.size
      have kr2 := (bl2.block w.heap.size (by omega)).trans (unhide HKR)
      have hno : ∀ b ∈ (Value.slice la h.waiting.length lc).ownBlock.toList ++ cb', b ∉ [w.heap.size + 1] := fun b hb hm => by
        simp at hm
        rcases List.mem_append.1 hb with h1 | h1
        · have := gl b (by simpa using h1); omega
        · have := (unhide HBD).o2.lt b (List.mem_append.2 (.inr (sl b h1))); omega
      have HL := hide ol
      have HNO := hide hno
      have HC2 := hide hC2
      have HKR2 := hide kr2
      have HSL := hide hl2'
      clear ol gl sl bl2 hl1' hl2' hno hC2 kr2 HM HC HKR
      go_wp2
      go_loopw [30] (fun i wx => ∃ m : Nat, m ≤ h.waiting.length ∧ i = .int .i64 (m : Int) ∧ Fr [w.heap.size + 1] w2 wx ∧ ∃ q b2, HB w (w.heap.size + 1) (w.heap.size + 1 + 1) wx p q h.watches (h.waiting.take m) b1 b2 ∧ Fsh w2.heap.size b2) (fun i _ => h.waiting.length - (intOf i).toNat)
      case atStart => exact ⟨0, Nat.zero_le _, rfl, Fr.refl _ _, _, _, unhide HC2, Fsh.nil _⟩
      case round =>
        obtain ⟨m, hm, rfl, hfr, q, b2, hcs, hF⟩ := hrel
        have hfs := hfr.size
        have hws' := hcs.bel.size
        have kr : wr.heap[w.heap.size]? = _ := (hfr.block w.heap.size (by omega) (by simp)).trans (unhide HKR2)
        by_cases hlt2 : m < h.waiting.length
        · obtain ⟨gl, rfl⟩ := unhide HSL (by omega)
          obtain ⟨qa, qc, rfl, ht1, ht2⟩ := hcs.o2.form
          have hL := (unhide HL).keep (hfr.kp (unhide HL).lt (unhide HNO))
          obtain ⟨vs, jb, hE, hc, hx1, hx2, hx3⟩ := hL.at (List.getElem?_eq_getElem hlt2)
          obtain ⟨qv, hvs, hq⟩ := hE
          subst hvs
          obtain ⟨ya, yc, rfl, hy1, hy2⟩ := hq.form
          have c0 : wr.cell? ⟨gl, m * 2, none⟩ = some (.int .i64 h.waiting[m].ver) := (hc 0 _ rfl).1
          have c1 : wr.cell? ⟨gl, m * 2 + 1, none⟩ = some (.slice ya h.waiting[m].ptrs.length yc) := (hc 1 _ rfl).1
          have hszm := unhide HS2 h.waiting[m] (List.getElem_mem _)
          have hnx : h.waiting.take (m + 1) = h.waiting.take m ++ [h.waiting[m]] := by rw [List.take_add_one, List.getElem?_eq_getElem hlt2]; rfl
          have hll : (h.waiting.take m).length = m := by rw [List.length_take]; omega
          generalize h.waiting.take m = nn at *
          have hab := alloc_b wr (.cells #[.int .i64 h.waiting[m].ver, .slice ya h.waiting[m].ptrs.length yc] 85)
          have hdr : ∀ w' : World, Below w'.heap.size w' w'.drew := fun w' => (Below.refl _ _).drew
          have hbd := below_next hab (hdr _)
          have HM := hide (copiedStr_walk _ h.waiting[m].ptrs jb _ (hq.below hbd) hszm)
          have hasz : (wr.alloc (.cells #[.int .i64 h.waiting[m].ver, .slice ya h.waiting[m].ptrs.length yc] 85)).heap.size = wr.heap.size + 1 := by simp
          have cT : (wr.alloc (.cells #[.int .i64 h.waiting[m].ver, .slice ya h.waiting[m].ptrs.length yc] 85)).cell? ⟨w.heap.size + 1, 1, none⟩ = some (.slice qa nn.length qc) := Lib.cell_of_heap (hcs.below hab).ko 1
          have HCB := hide (hcs.below hbd)
          have HFR := hide (hfr.next hbd)
          have HF := hide hF
          have HNX := hide hnx
          have hnl : nn.length ≤ 2097154 := by omega
          have hltI : (m : Int) < (h.waiting.length : Int) := by omega
          have HAS := hide hasz
          clear hL hx1 hx2 hx3 hc hq hy1 hy2 ht1 ht2 hfr hF hnx hll hbd hab hdr hasz kr hcs hszm
          go_wp2
          have kM := heap_alloc_new wr (.cells #[.int .i64 h.waiting[m].ver, .slice ya h.waiting[m].ptrs.length yc] 85)
          generalize (wr.alloc (.cells #[.int .i64 h.waiting[m].ver, .slice ya h.waiting[m].ptrs.length yc] 85)) = wB at *
          generalize hMM : wr.heap.size = M at *
          have hbs := unhide HAS
          have e0 : wB.cell? ⟨M, 0, none⟩ = some (.int .i64 h.waiting[m].ver) := Lib.cell_of_heap kM 0
          have e1 : wB.cell? ⟨M, 1, none⟩ = some (.slice ya h.waiting[m].ptrs.length yc) := Lib.cell_of_heap kM 1
          have KM := hide kM
          clear kM HAS c0 c1 hMM
          go_region_law (first
            | (refine step_append_elem (e := nwsE) nws_ty (by decide) Tryd.underlying37 infoNws rfl (by decide) (by decide) rfl (.tmp 35) (.tmp 42) rfl rfl (unhide O3) (unhide HF) (unhide E3) (unhide HFI) (unhide HAP) rfl (by exact lit_cells w4 [_, _] _) (by exact unhide HONE) (by simp; omega) (by omega) ?_
               intro v' w3 bl' o4 f4 m4 hg4
               obtain ⟨va, vc, rfl, hv1, hv2⟩ := o4.form
               have ko3 := (unhide HC3).koN hg4
               have cO3 : w3.cell? ⟨w.heap.size + 1, 1, none⟩ = some (.slice qa nn.length qc) := Lib.cell_of_heap ko3 1
               have fO3 := Lib.frozen_of_heap ko3)
            | (go_simp; refine (unhide HM).mono ?_
               rintro e w4 ⟨r4, ib, rfl, hE2, hFi, bb2⟩
               obtain ⟨za, zc, rfl, hy1, hy2⟩ := hE2.form
               have hsz2 : wB.heap.size ≤ w4.heap.size := bb2.size
               have hCS2 := (unhide HCB).below bb2
               have hab : Below w4.heap.size w4 (w4.alloc (.cells #[.int .i64 h.waiting[m].ver, .slice za h.waiting[m].ptrs.length zc] 85)) := alloc_b _ _
               have hCS3 := hCS2.below hab
               have O3 := hide hCS3.o2
               have E3 := hide (show nwsE.E (w4.alloc (.cells #[.int .i64 h.waiting[m].ver, .slice za h.waiting[m].ptrs.length zc] 85)) [.int .i64 h.waiting[m].ver, .slice za h.waiting[m].ptrs.length zc] h.waiting[m] ib from ⟨_, rfl, hE2.below hab⟩)
               have HFI := hide (hFi.mono (B' := w2.heap.size) (by have := (unhide HFR).size; simp at this ⊢; omega))
               have HAP : Hid (∀ b ∈ ib, b ∉ b2) := fun b hb hbl => by have h1 := hFi.2 b hb; have h2 := (unhide HCB).o2.lt b hbl; simp at h1 h2; omega
               have HAP2 : Hid (∀ b ∈ ib, b ∉ b1) := fun b hb hbl => by have h1 := hFi.2 b hb; have h2 := (unhide HCB).o1.lt b hbl; simp at h1 h2; omega
               have HONE : Hid (∀ u ∈ [Value.int .i64 h.waiting[m].ver, .slice za h.waiting[m].ptrs.length zc], u.oneCell' = true) := fun u hu => by simp at hu; rcases hu with rfl | rfl <;> rfl
               have HC3 := hide hCS3
               have HF2 := hide (((unhide HFR).next bb2).next hab)
               have e0' : w4.cell? ⟨M, 0, none⟩ = some (.int .i64 h.waiting[m].ver) := (bb2.cell (p := ⟨M, 0, none⟩) (by simp; omega)).trans e0
               have cO2 : w4.cell? ⟨w.heap.size + 1, 1, none⟩ = some (.slice qa nn.length qc) := Lib.cell_of_heap hCS2.ko 1
               have cO4 : (w4.alloc (.cells #[.int .i64 h.waiting[m].ver, .slice za h.waiting[m].ptrs.length zc] 85)).cell? ⟨w.heap.size + 1, 1, none⟩ = some (.slice qa nn.length qc) := Lib.cell_of_heap hCS3.ko 1))
          all_goals (
            have hn := (unhide HC3).news hg4 o4 (f4.mono (by omega)) m4 (unhide HAP2)
            have fn := ((unhide HF2).grown hg4 (fun j hj => (unhide HF).2 _ ((unhide O3).head hj))).set (g := w.heap.size + 1) (by simp) 1 (.slice va (nn ++ [h.waiting[m]]).length vc)
            rw [List.length_append, List.length_singleton] at hn fn
            rw [← unhide HNX] at hn
            have HN := hide hn
            have FN := hide fn
            have F4 := hide f4
            clear hn fn o4 f4 m4 hg4 hv1 hv2 ko3 cO3 fO3 cO2 cO4 HC3 HF2 HONE HAP HAP2 HFI E3 O3 hCS3 hab hCS2 hy1 hy2 hE2 hFi bb2 HM HCB HFR HF e0 e1 e0' cT KM
            go_wp2
            go_roundw)
          all_goals first
            | exact ⟨m + 1, by omega, by go_num, unhide FN, _, _, unhide HN, unhide F4⟩
            | (simp [intOf]; omega)
        · have hm' : m = h.waiting.length := by omega
          subst hm'
          rw [List.take_length] at hcs
          obtain ⟨pa, pc, rfl, hfp, hfp2⟩ := hcs.o1.form
          obtain ⟨qa, qc, rfl, hfq, hfq2⟩ := hcs.o2.form
          have d0 : wr.cell? ⟨w.heap.size + 1, 0, none⟩ = some (.slice pa h.watches.length pc) := Lib.cell_of_heap hcs.ko 0
          have d1 : wr.cell? ⟨w.heap.size + 1, 1, none⟩ = some (.slice qa h.waiting.length qc) := Lib.cell_of_heap hcs.ko 1
          have r0 : wr.cell? ⟨w.heap.size, 0, none⟩ = some (.slice none 0 0) := Lib.cell_of_heap kr 0
          have r1 : wr.cell? ⟨w.heap.size, 1, none⟩ = some (.slice none 0 0) := Lib.cell_of_heap kr 1
          have fr := Lib.frozen_of_heap kr
          have HC := hide hcs
          have HKR := hide kr
          clear hcs kr hfr hF hfp hfp2 hfq hfq2
          go_wp2
          refine bodyPost_ret (results_cell_row rfl _ _ w.heap.size 39 #[_, _] (0, 0) _ rfl (putN_full (unhide HKR) [_, _] rfl) Tryd.underlying39 rfl (by kernel_rfl)) rfl ?_
          have hn : w.heap.size ∉ b1 ++ b2 := fun hm => by have := (unhide HC).fs.2 _ hm; omega
          have n1 : w.heap.size ∉ b1 := fun hm => hn (List.mem_append.2 (.inl hm))
          have n2 : w.heap.size ∉ b2 := fun hm => hn (List.mem_append.2 (.inr hm))
          refine ⟨_, b1 ++ b2, rfl, ⟨_, _, b1, b2, rfl, (unhide HC).o1.putN n1 [_, _] 0, (unhide HC).o2.putN n2 [_, _] 0, rfl⟩, (unhide HC).fs.mono (by omega), ?_⟩
          exact putN_below (g := w.heap.size) (unhide HC).bel (Nat.le_refl _) [_, _] 0
end Go.Proofs.YtbcfkkicmmhhcaaDoor

namespace Go.Proofs.YtbcfkkicmmhhcaaDoor
open Go.RowKit

theorem wtr_ty {w : World} {vs : List Value} {m : Wat} {bl : List Nat} (h : wtrE.E w vs m bl) : Tys [118, 115, 9] w bl := by
  obtain ⟨g, cv, f, c, ms, cb, _, h1, h2, _, _, rfl⟩ := h
  intro b hb
  rcases List.mem_cons.1 hb with rfl | hb
  · exact ⟨_, _, h1, by simp⟩
  · obtain ⟨cur, t, h3, h4⟩ := orow_ty (e := msgE) msg_ty h2 b hb
    exact ⟨cur, t, h3, List.mem_cons_of_mem _ h4⟩
theorem msgs_inner {w : World} {v : Value} {ms : List Msg} {cb : List Nat} (h : ORow msgE w v ms (v.ownBlock.toList ++ cb)) : ∀ b ∈ cb, ∃ cur, w.heap[b]? = some (.cells cur 9 (0, 0)) := by
  obtain ⟨ps, hl, hE, ho, hb⟩ := h
  rw [List.append_cancel_left hb]
  intro b hm
  obtain ⟨p, hp, hbp⟩ := List.mem_flatMap.1 hm
  obtain ⟨j, hj, rfl⟩ := List.mem_iff_getElem.1 hp
  obtain ⟨q, _, h1⟩ := hE j ps[j] (ms[j]'(by omega)) (List.getElem?_eq_getElem hj) (List.getElem?_eq_getElem (by omega))
  obtain ⟨cur, t, e1, e2⟩ := ostr_ty h1 b hbp
  simp at e2
  exact ⟨cur, by rw [e1, e2]⟩
theorem infoWtr : (Tryd.prog.info? 116).map (fun i => (i.zero, i.size, i.bytes)) = some (some (.pointer none), 1, 8) := by kernel_rfl

set_option maxHeartbeats 1600000 in
set_option maxRecDepth 100000 in
theorem readHub2_walk (v : Value) (h : Hb) (bl : List Nat) (w : World) (ho : OHub w v h bl) (hs : szHb h ≤ 1048577) :
    Calls Tryd.prog 39 #[v] w fun e w' => ∃ B pv cv cb bw, e = .returned (.pointer (some ⟨B, 0, none⟩)) ∧ Brd w' B h pv cv 0 h.waiting.length h.waiting cb bw ∧ w.heap.size ≤ B ∧ (∀ g, cv.ownBlock = some g → w.heap.size ≤ g) ∧ (∀ g, pv.ownBlock = some g → w.heap.size ≤ g) ∧ (∀ b ∈ cb, b < w.heap.size) ∧ Below w.heap.size w w' ∧ ∃ cbk, bw = pv.ownBlock.toList ++ cbk ∧ (bl.Nodup → Once 0 cbk) ∧ ∀ b ∈ cbk, w.heap.size ≤ b ∨ ∃ cur, w'.heap[b]? = some (.cells cur 9 (0, 0)) := by
  obtain ⟨p, q, i1, i2, rfl, o1, o2, rfl⟩ := ho
  have hz1 : szWats h.watches ≤ 1048577 := by unfold szHb at hs; omega
  have hz2 : szNwss h.waiting ≤ 1048577 := by unfold szHb at hs; omega
  have hl1 : h.watches.length ≤ 1048577 := by unfold szWats at hz1; omega
  have hl2 : h.waiting.length ≤ 1048577 := by unfold szNwss at hz2; omega
  have hsz1 : ∀ k (hk : k < h.watches.length), h.watches[k].queue.length ≤ 1048577 := fun k hk => by
    have h1 := sum_take_snoc szWat h.watches k h.watches[k] (List.getElem?_eq_getElem hk)
    have h2 := sum_take_le (h.watches.map szWat) (k + 1)
    rw [← List.map_take] at h2
    unfold szWats at hz1
    have h3 : h.watches[k].queue.length ≤ szWat h.watches[k] := by unfold szWat szMsgs; omega
    omega
  obtain ⟨xa, xc, rfl, hfm, hsh⟩ := o1.form
  obtain ⟨cb2, hcb2⟩ := o2.split
  subst hcb2
  have hlt1 := o1.lt
  obtain ⟨ps, hpl, hpE, hpo, hpb⟩ := id o1
  have hat : ∀ wr gx, Below w.heap.size w wr → xa = some ⟨gx, 0, none⟩ → ∀ k (hk : k < h.watches.length), ∃ p, ps[k]? = some p ∧ watE.E wr p.1 h.watches[k] p.2 ∧ ∀ m u, p.1[m]? = some u → wr.cell? ⟨gx, k * watE.wd + m, none⟩ = some u := fun wr gx hb hxa k hk => by
    subst hxa
    have hin : ∀ (j : Nat) (p : List Value × List Nat), ps[j]? = some p → ∀ b ∈ p.2, b < w.heap.size := fun j p hp b hb => hlt1 b (by rw [hpb]; exact List.mem_append.2 (.inr (List.mem_flatMap.2 ⟨p, List.mem_of_getElem? hp, hb⟩)))
    exact orow_at hpl (fun j p x hp hx => watE.keep (hpE j p x hp hx) (.of_below hb (hin j p hp))) (own_keep hpo (.of_below hb fun b hb => hlt1 b (by rw [hpb]; exact List.mem_append.2 (.inl hb)))) (List.getElem?_eq_getElem hk)
  have hps : ∀ (j : Nat) (p : List Value × List Nat), ps[j]? = some p → ∀ b ∈ p.2, b < w.heap.size := fun j p hp b hb => hlt1 b (by rw [hpb]; exact List.mem_append.2 (.inr (List.mem_flatMap.2 ⟨p, List.mem_of_getElem? hp, hb⟩)))
  have hnd : (i1 ++ (q.ownBlock.toList ++ cb2)).Nodup → (ps.flatMap (·.2)).Nodup := fun hn => by
    rw [List.nodup_append] at hn
    have := hn.1
    rw [hpb, List.nodup_append] at this
    exact this.2.1
  have HAT := hide hat
  have HPS := hide hps
  have HND := hide hnd
  have HZ := hide hsz1
  have O1 := hide o1
  have O2 := hide o2
  have HSH := hide hsh
  clear o1 o2 hfm hsh hs hz1 hz2 hsz1 hat hps hnd hpl hpE hpo hpb hlt1
  go_enter Tryd.func39, Tryd.ntmps39
  go_wp2_with fail
  have hA := alloc_b w (Obj.cells #[Value.slice xa h.watches.length xc, q] 39)
  have kA := heap_alloc_new w (Obj.cells #[Value.slice xa h.watches.length xc, q] 39)
  have hasz : (w.alloc (Obj.cells #[Value.slice xa h.watches.length xc, q] 39)).heap.size = w.heap.size + 1 := by simp
  generalize (w.alloc (Obj.cells #[Value.slice xa h.watches.length xc, q] 39)) = wA at *
  refine (ringOfNws_walk q h.waiting cb2 wA ((unhide O2).below hA) hl2).mono ?_
  rintro e w1 ⟨cv, rfl, oc, gc, b1⟩
  obtain ⟨ca, cc, rfl, hc1, hc2⟩ := oc.form
  have B1 := below_next hA b1
  have hz1 := b1.size
  have k1 := (b1.block w.heap.size (by omega)).trans kA
  have c0 : w1.cell? ⟨w.heap.size, 0, none⟩ = some (.slice xa h.watches.length xc) := Lib.cell_of_heap k1 0
  have hbb := alloc_b w1 (Obj.cells #[Value.slice none 0 0, Value.slice ca h.waiting.length cc, Value.int IntKind.i64 0, Value.int IntKind.i64 (h.waiting.length : Int)] 110)
  have c0' := (hbb.cell (p := ⟨w.heap.size, 0, none⟩) (by simp; omega)).trans c0
  have kB := heap_alloc_new w1 (Obj.cells #[Value.slice none 0 0, Value.slice ca h.waiting.length cc, Value.int IntKind.i64 0, Value.int IntKind.i64 (h.waiting.length : Int)] 110)
  have hb2 : (w1.alloc (Obj.cells #[Value.slice none 0 0, Value.slice ca h.waiting.length cc, Value.int IntKind.i64 0, Value.int IntKind.i64 (h.waiting.length : Int)] 110)).heap.size = w1.heap.size + 1 := by simp
  have HOC := hide (oc.below hbb)
  have hclt := oc.lt
  have HCL := hide hclt
  have HGC := hide gc
  have HB2 := hide (below_next B1 hbb)
  have HKB := hide kB
  have HKB0 := hide kB
  clear oc gc b1 hc1 hc2 B1 k1 kA hA hbb kB hclt c0
  go_wp2
  generalize (w1.alloc (Obj.cells #[Value.slice none 0 0, Value.slice ca h.waiting.length cc, Value.int IntKind.i64 0, Value.int IntKind.i64 (h.waiting.length : Int)] 110)) = w2 at *
  generalize w1.heap.size = B at *
  clear c0'
  go_loopw [15] (fun i wr => ∃ k : Nat, k ≤ h.watches.length ∧ i = .int .i64 (k : Int) ∧ Fr [B] w2 wr ∧ ∃ pv cbk, wr.heap[B]? = some (.cells #[pv, .slice ca h.waiting.length cc, .int .i64 0, .int .i64 (h.waiting.length : Int)] 110 (0, 0)) ∧ ORow wtrE wr pv (h.watches.take k) (pv.ownBlock.toList ++ cbk) ∧ (∀ g, pv.ownBlock = some g → w2.heap.size ≤ g) ∧ Hid ((i1 ++ (q.ownBlock.toList ++ cb2)).Nodup → Once 0 cbk ∧ ∀ b ∈ cbk, w.heap.size ≤ b ∨ ∃ i p, i < k ∧ ps[i]? = some p ∧ b ∈ p.2) ∧ Hid (∀ b ∈ cbk, w.heap.size ≤ b ∨ ∃ cur, w.heap[b]? = some (.cells cur 9 (0, 0)))) (fun i _ => h.watches.length - (intOf i).toNat)
  case atStart => exact ⟨0, Nat.zero_le _, rfl, Fr.refl _ _, _, [], unhide HKB, ORow.nil _ _, fun g hg => by simp [Value.ownBlock] at hg, fun _ => ⟨Once.nil _, fun b hb => by simp at hb⟩, fun b hb => by simp at hb⟩
  case round =>
    obtain ⟨k, hk, rfl, hfr, pv, cbk, hkb, hop, hgp, HNK, HST⟩ := hrel
    have hfs := hfr.size
    have hbw : Below w.heap.size w wr := (unhide HB2).trans (hfr.below (fun b hb => by simp at hb; omega) (unhide HB2).size)
    by_cases hlt : k < h.watches.length
    · obtain ⟨gx, rfl⟩ := unhide HSH (by omega)
      obtain ⟨pa, pc, rfl, hp1, hp2⟩ := hop.form
      obtain ⟨pk, hpk, hE, hc⟩ := unhide HAT wr gx hbw rfl k hlt
      obtain ⟨qv, hvs, hq⟩ := hE
      rw [hvs] at hc
      obtain ⟨ya, yc, rfl, hy1, hy2⟩ := hq.form
      obtain ⟨cbq, hcbq⟩ := hq.split
      rw [hcbq] at hq
      have hx1 : ∀ b ∈ cbq, b ∈ pk.2 := fun b hb => by rw [hcbq]; exact List.mem_append.2 (.inr hb)
      have c0 : wr.cell? ⟨gx, k * 6, none⟩ = some (.int .i64 h.watches[k].client) := hc 0 _ rfl
      have c1 : wr.cell? ⟨gx, k * 6 + 1, none⟩ = some (.string h.watches[k].ptr) := hc 1 _ rfl
      have c2 : wr.cell? ⟨gx, k * 6 + 2, none⟩ = some (.int .i64 h.watches[k].cap) := hc 2 _ rfl
      have c3 : wr.cell? ⟨gx, k * 6 + 3, none⟩ = some (.int .i64 h.watches[k].since) := hc 3 _ rfl
      have c4 : wr.cell? ⟨gx, k * 6 + 4, none⟩ = some (.bool h.watches[k].closed) := hc 4 _ rfl
      have c5 : wr.cell? ⟨gx, k * 6 + 5, none⟩ = some (.slice ya h.watches[k].queue.length yc) := hc 5 _ rfl
      have HQT : Hid (∀ b ∈ cbq, w.heap.size ≤ b ∨ ∃ cur, w.heap[b]? = some (.cells cur 9 (0, 0))) := fun b hb => by
        obtain ⟨cur, e1⟩ := msgs_inner hq b hb
        exact .inr ⟨cur, (hbw.block b (unhide HPS k pk hpk b (hx1 b hb))).symm.trans e1⟩
      have HQ := hide hq
      have HQL : Hid (∀ b ∈ cbq, b < w.heap.size) := fun b hb => unhide HPS k pk hpk b (hx1 b hb)
      have hpl5 := hop.lt
      have HPL := hide hpl5
      have HPK := hide hpk
      have HX1 := hide hx1
      have HCQ : Hid (pk.2.Nodup → cbq.Nodup) := fun hn => by rw [hcbq, List.nodup_append] at hn; exact hn.2.1
      clear hpl5 hpk hvs hcbq
      have HFR := hide hfr
      have HKB := hide hkb
      have HOP := hide hop
      have HGP := hide hgp
      have hltI : (k : Int) < (h.watches.length : Int) := by omega
      clear hx1 hc hq hy1 hy2 hp1 hp2 hfr hkb hop hgp hbw
      go_wp2_with fail
      have hab := alloc_b wr (.cells #[.int .i64 h.watches[k].client, .string h.watches[k].ptr, .int .i64 h.watches[k].cap, .int .i64 h.watches[k].since, .bool h.watches[k].closed, .slice ya h.watches[k].queue.length yc] 72)
      have kM := heap_alloc_new wr (.cells #[.int .i64 h.watches[k].client, .string h.watches[k].ptr, .int .i64 h.watches[k].cap, .int .i64 h.watches[k].since, .bool h.watches[k].closed, .slice ya h.watches[k].queue.length yc] 72)
      have hasz : (wr.alloc (.cells #[.int .i64 h.watches[k].client, .string h.watches[k].ptr, .int .i64 h.watches[k].cap, .int .i64 h.watches[k].since, .bool h.watches[k].closed, .slice ya h.watches[k].queue.length yc] 72)).heap.size = wr.heap.size + 1 := by simp
      generalize (wr.alloc (.cells #[.int .i64 h.watches[k].client, .string h.watches[k].ptr, .int .i64 h.watches[k].cap, .int .i64 h.watches[k].since, .bool h.watches[k].closed, .slice ya h.watches[k].queue.length yc] 72)) = wB at *
      refine (ringOfMsg_walk _ h.watches[k].queue cbq wB ((unhide HQ).below hab) (unhide HZ k hlt)).mono ?_
      rintro e w4 ⟨mv, rfl, om, gm, b4⟩
      obtain ⟨ma, mc, rfl, hm1, hm2⟩ := om.form
      have hz4 := b4.size
      have hB4 := below_next hab b4
      have hr4 := (alloc_b w4 (.cells #[.slice ma h.watches[k].queue.length mc, .int .i64 0, .int .i64 (h.watches[k].queue.length : Int)] 112))
      have kM4 := (hr4.block wr.heap.size (by omega)).trans ((b4.block wr.heap.size (by omega)).trans kM)
      have d0 : (w4.alloc (.cells #[.slice ma h.watches[k].queue.length mc, .int .i64 0, .int .i64 (h.watches[k].queue.length : Int)] 112)).cell? ⟨wr.heap.size, 5, none⟩ = some (.slice ya h.watches[k].queue.length yc) := Lib.cell_of_heap kM4 5
      have fM := Lib.frozen_of_heap kM4
      have KM4 := hide kM4
      have OM := hide (om.below hr4)
      have GM := hide gm
      have hl4 := om.lt
      have HL4 := hide hl4
      have BW4 := hide (below_next hB4 hr4)
      have kR := heap_alloc_new w4 (.cells #[.slice ma h.watches[k].queue.length mc, .int .i64 0, .int .i64 (h.watches[k].queue.length : Int)] 112)
      have KR := hide kR
      have HAS := hide hasz
      clear hab kM hasz om gm b4 hm1 hm2 hB4 hr4 kM4 hl4 kR HQ c0 c1 c2 c3 c4 c5
      go_wp2
      have hasz := unhide HAS
      have kM5 := heap_setCell_same _ _ 5 _ _ (.slice none 0 0) (unhide KM4)
      have kR5 := (Below.heap_setCell (w4.alloc (.cells #[.slice ma h.watches[k].queue.length mc, .int .i64 0, .int .i64 (h.watches[k].queue.length : Int)] 112)) ⟨wr.heap.size, 5, none⟩ (.slice none 0 0) w4.heap.size (by simp; omega)).trans (unhide KR)
      have BW5 := (unhide BW4).setCell (p := ⟨wr.heap.size, 5, none⟩) (Nat.le_refl _) (.slice none 0 0)
      have hnm : wr.heap.size ∉ (Value.slice ma h.watches[k].queue.length mc).ownBlock.toList ++ cbq := fun hm => by
        rcases List.mem_append.1 hm with h1 | h1
        · have := unhide GM _ (by simpa using h1); omega
        · have := (unhide HQL) _ h1; omega
      have OM5 := (unhide OM).other hnm 5 (.slice none 0 0)
      have hs5 : ((w4.alloc (.cells #[.slice ma h.watches[k].queue.length mc, .int .i64 0, .int .i64 (h.watches[k].queue.length : Int)] 112)).setCell ⟨wr.heap.size, 5, none⟩ (.slice none 0 0)).heap.size = w4.heap.size + 1 := by simp [World.setCell]
      clear BW4 KM4 KR OM
      generalize ((w4.alloc (.cells #[.slice ma h.watches[k].queue.length mc, .int .i64 0, .int .i64 (h.watches[k].queue.length : Int)] 112)).setCell ⟨wr.heap.size, 5, none⟩ (.slice none 0 0)) = w5 at *
      have kB5 := (BW5.block B (Array.getElem?_eq_some_iff.1 (unhide HKB)).1).trans (unhide HKB)
      have OP5 := (unhide HOP).below BW5
      have FR5 := (unhide HFR).next BW5
      have e0 : w5.cell? ⟨wr.heap.size, 0, none⟩ = some (.int .i64 h.watches[k].client) := Lib.cell_of_heap kM5 0
      have e1 : w5.cell? ⟨wr.heap.size, 1, none⟩ = some (.string h.watches[k].ptr) := Lib.cell_of_heap kM5 1
      have e2 : w5.cell? ⟨wr.heap.size, 2, none⟩ = some (.int .i64 h.watches[k].cap) := Lib.cell_of_heap kM5 2
      have e3 : w5.cell? ⟨wr.heap.size, 3, none⟩ = some (.int .i64 h.watches[k].since) := Lib.cell_of_heap kM5 3
      have e4 : w5.cell? ⟨wr.heap.size, 4, none⟩ = some (.bool h.watches[k].closed) := Lib.cell_of_heap kM5 4
      have e5 : w5.cell? ⟨wr.heap.size, 5, none⟩ = some (.slice none 0 0) := Lib.cell_of_heap kM5 5
      have r0 : w5.cell? ⟨w4.heap.size, 0, none⟩ = some (.slice ma h.watches[k].queue.length mc) := Lib.cell_of_heap kR5 0
      have r1 : w5.cell? ⟨w4.heap.size, 1, none⟩ = some (.int .i64 0) := Lib.cell_of_heap kR5 1
      have r2 : w5.cell? ⟨w4.heap.size, 2, none⟩ = some (.int .i64 (h.watches[k].queue.length : Int)) := Lib.cell_of_heap kR5 2
      have bO : w5.cell? ⟨B, 0, none⟩ = some (.slice pa (h.watches.take k).length pc) := Lib.cell_of_heap kB5 0
      have hxy : Below w5.heap.size w5 ((w5.alloc (.cells #[.int .i64 h.watches[k].client, .string h.watches[k].ptr, .int .i64 h.watches[k].cap, .int .i64 h.watches[k].since, .bool h.watches[k].closed, .slice none 0 0, .slice ma h.watches[k].queue.length mc, .int .i64 0, .int .i64 (h.watches[k].queue.length : Int)] 118)).alloc (.cells #[.pointer (some ⟨w5.heap.size, 0, none⟩)] 116)).drew := (below_next (alloc_b _ _) (alloc_b _ _)).drew
      have kX : ((w5.alloc (.cells #[.int .i64 h.watches[k].client, .string h.watches[k].ptr, .int .i64 h.watches[k].cap, .int .i64 h.watches[k].since, .bool h.watches[k].closed, .slice none 0 0, .slice ma h.watches[k].queue.length mc, .int .i64 0, .int .i64 (h.watches[k].queue.length : Int)] 118)).alloc (.cells #[.pointer (some ⟨w5.heap.size, 0, none⟩)] 116)).drew.heap[w5.heap.size]? = some (.cells #[.int .i64 h.watches[k].client, .string h.watches[k].ptr, .int .i64 h.watches[k].cap, .int .i64 h.watches[k].since, .bool h.watches[k].closed, .slice none 0 0, .slice ma h.watches[k].queue.length mc, .int .i64 0, .int .i64 (h.watches[k].queue.length : Int)] 118) := ((alloc_b (w5.alloc (.cells #[.int .i64 h.watches[k].client, .string h.watches[k].ptr, .int .i64 h.watches[k].cap, .int .i64 h.watches[k].since, .bool h.watches[k].closed, .slice none 0 0, .slice ma h.watches[k].queue.length mc, .int .i64 0, .int .i64 (h.watches[k].queue.length : Int)] 118)) (.cells #[.pointer (some ⟨w5.heap.size, 0, none⟩)] 116)).block w5.heap.size (by simp)).trans (heap_alloc_new w5 (.cells #[.int .i64 h.watches[k].client, .string h.watches[k].ptr, .int .i64 h.watches[k].cap, .int .i64 h.watches[k].since, .bool h.watches[k].closed, .slice none 0 0, .slice ma h.watches[k].queue.length mc, .int .i64 0, .int .i64 (h.watches[k].queue.length : Int)] 118))
      have E3 : Hid (wtrE.E ((w5.alloc (.cells #[.int .i64 h.watches[k].client, .string h.watches[k].ptr, .int .i64 h.watches[k].cap, .int .i64 h.watches[k].since, .bool h.watches[k].closed, .slice none 0 0, .slice ma h.watches[k].queue.length mc, .int .i64 0, .int .i64 (h.watches[k].queue.length : Int)] 118)).alloc (.cells #[.pointer (some ⟨w5.heap.size, 0, none⟩)] 116)).drew [.pointer (some ⟨w5.heap.size, 0, none⟩)] h.watches[k] (w5.heap.size :: ((Value.slice ma h.watches[k].queue.length mc).ownBlock.toList ++ cbq))) :=
        ⟨w5.heap.size, .slice ma h.watches[k].queue.length mc, 0, h.watches[k].queue.length, h.watches[k].queue, cbq, rfl, kX, OM5.below hxy, RingIs.fresh _, by have := unhide HZ k hlt; omega, rfl⟩
      have hsx : (w5.alloc (.cells #[.int .i64 h.watches[k].client, .string h.watches[k].ptr, .int .i64 h.watches[k].cap, .int .i64 h.watches[k].since, .bool h.watches[k].closed, .slice none 0 0, .slice ma h.watches[k].queue.length mc, .int .i64 0, .int .i64 (h.watches[k].queue.length : Int)] 118)).heap.size = w5.heap.size + 1 := by simp
      have HCE : Hid (∀ (j : Nat) (u : Value), [Value.pointer (some ⟨w5.heap.size, 0, none⟩)][j]? = some u → ((w5.alloc (.cells #[.int .i64 h.watches[k].client, .string h.watches[k].ptr, .int .i64 h.watches[k].cap, .int .i64 h.watches[k].since, .bool h.watches[k].closed, .slice none 0 0, .slice ma h.watches[k].queue.length mc, .int .i64 0, .int .i64 (h.watches[k].queue.length : Int)] 118)).alloc (.cells #[.pointer (some ⟨w5.heap.size, 0, none⟩)] 116)).drew.cell? ((⟨w5.heap.size + 1, 0, none⟩ : Addr).add j) = some u) := fun j u hu => by
        have := lit_cells (w5.alloc (.cells #[.int .i64 h.watches[k].client, .string h.watches[k].ptr, .int .i64 h.watches[k].cap, .int .i64 h.watches[k].since, .bool h.watches[k].closed, .slice none 0 0, .slice ma h.watches[k].queue.length mc, .int .i64 0, .int .i64 (h.watches[k].queue.length : Int)] 118)) [Value.pointer (some ⟨w5.heap.size, 0, none⟩)] 116 j u hu
        rw [hsx] at this; exact this
      have kB6 := (hxy.block B (Array.getElem?_eq_some_iff.1 kB5).1).trans kB5
      have OP6 := hide (OP5.below hxy)
      have FR6 := hide (FR5.next hxy)
      have HGP' := unhide HGP
      have KB6 := hide kB6
      have hBw2 : B < w2.heap.size := (Array.getElem?_eq_some_iff.1 (unhide HKB0)).1
      have hw25 : w2.heap.size ≤ w5.heap.size := by have := (unhide HFR).size; have := BW5.size; omega
      have hll : (h.watches.take k).length = k := by rw [List.length_take]; omega
      have hnx : h.watches.take (k + 1) = h.watches.take k ++ [h.watches[k]] := by rw [List.take_add_one, List.getElem?_eq_getElem hlt]; rfl
      generalize h.watches.take k = ws at *
      have hwl : ws.length ≤ 1048577 := by omega
      have bO6 : ((w5.alloc (.cells #[.int .i64 h.watches[k].client, .string h.watches[k].ptr, .int .i64 h.watches[k].cap, .int .i64 h.watches[k].since, .bool h.watches[k].closed, .slice none 0 0, .slice ma h.watches[k].queue.length mc, .int .i64 0, .int .i64 (h.watches[k].queue.length : Int)] 118)).alloc (.cells #[.pointer (some ⟨w5.heap.size, 0, none⟩)] 116)).drew.cell? ⟨B, 0, none⟩ = some (.slice pa ws.length pc) := Lib.cell_of_heap kB6 0
      have bO7 : (w5.alloc (.cells #[.int .i64 h.watches[k].client, .string h.watches[k].ptr, .int .i64 h.watches[k].cap, .int .i64 h.watches[k].since, .bool h.watches[k].closed, .slice none 0 0, .slice ma h.watches[k].queue.length mc, .int .i64 0, .int .i64 (h.watches[k].queue.length : Int)] 118)).cell? ⟨B, 0, none⟩ = some (.slice pa ws.length pc) := ((alloc_b w5 (.cells #[.int .i64 h.watches[k].client, .string h.watches[k].ptr, .int .i64 h.watches[k].cap, .int .i64 h.watches[k].since, .bool h.watches[k].closed, .slice none 0 0, .slice ma h.watches[k].queue.length mc, .int .i64 0, .int .i64 (h.watches[k].queue.length : Int)] 118)).cell (p := ⟨B, 0, none⟩) (by simp; omega)).trans bO
      have HNX := hide hnx
      have hw4 : w.heap.size ≤ wr.heap.size := by have := (unhide HFR).size; have := (unhide HB2).size; omega
      have HON : Hid ((i1 ++ (q.ownBlock.toList ++ cb2)).Nodup → Once 0 (cbk ++ (w5.heap.size :: ((Value.slice ma h.watches[k].queue.length mc).ownBlock.toList ++ cbq))) ∧ ∀ b ∈ cbk ++ (w5.heap.size :: ((Value.slice ma h.watches[k].queue.length mc).ownBlock.toList ++ cbq)), w.heap.size ≤ b ∨ ∃ i p, i < k + 1 ∧ ps[i]? = some p ∧ b ∈ p.2) := fun hn => by
        obtain ⟨k1, k2⟩ := unhide HNK hn
        have hfl := unhide HND hn
        have hlt5 : ∀ b ∈ cbk, b < wr.heap.size := fun b hb => unhide HPL b (List.mem_append.2 (.inr hb))
        have hown : ∀ b ∈ (Value.slice ma h.watches[k].queue.length mc).ownBlock.toList, wr.heap.size < b ∧ b < w5.heap.size := fun b hb => by
          have h1 := unhide GM b (by simpa using hb)
          have h2 := unhide HL4 b (List.mem_append.2 (.inl hb))
          omega
        have hq5 := unhide HQL
        refine ⟨once_append.2 ⟨k1, ?_, fun x hx y hy _ e => ?_⟩, fun b hb => ?_⟩
        · rw [once_zero, List.nodup_cons, List.nodup_append]
          refine ⟨fun hm => ?_, ?_, unhide HCQ (nodup_at hfl (unhide HPK)), fun a ha b hb e => ?_⟩
          · rcases List.mem_append.1 hm with h1 | h1
            · have := (hown _ h1).2; omega
            · have := hq5 _ h1; omega
          · cases hO : (Value.slice ma h.watches[k].queue.length mc).ownBlock <;> simp
          · subst e
            have := hown _ ha; have := hq5 _ hb; omega
        · subst e
          have hx5 := hlt5 x hx
          rcases List.mem_cons.1 hy with rfl | hy
          · omega
          · rcases List.mem_append.1 hy with h1 | h1
            · have := (hown _ h1).1; omega
            · have h2 := hq5 _ h1
              rcases k2 x hx with h3 | ⟨i, p, hi, hp, hb⟩
              · omega
              · exact nodup_apart hfl hp (unhide HPK) (by omega) x hb (unhide HX1 x h1)
        · rcases List.mem_append.1 hb with hb | hb
          · rcases k2 b hb with h3 | ⟨i, p, hi, hp, hb⟩
            · exact .inl h3
            · exact .inr ⟨i, p, by omega, hp, hb⟩
          · rcases List.mem_cons.1 hb with rfl | hb
            · left; omega
            · rcases List.mem_append.1 hb with h1 | h1
              · left; have := (hown _ h1).1; omega
              · exact .inr ⟨k, pk, by omega, unhide HPK, unhide HX1 b h1⟩
      have HSN : Hid (∀ b ∈ cbk ++ (w5.heap.size :: ((Value.slice ma h.watches[k].queue.length mc).ownBlock.toList ++ cbq)), w.heap.size ≤ b ∨ ∃ cur, w.heap[b]? = some (.cells cur 9 (0, 0))) := fun b hb => by
        rcases List.mem_append.1 hb with hb | hb
        · exact unhide HST b hb
        · rcases List.mem_cons.1 hb with rfl | hb
          · left; omega
          · rcases List.mem_append.1 hb with h1 | h1
            · left; have := unhide GM b (by simpa using h1); omega
            · exact unhide HQT b h1
      have hone : Hid (∀ u ∈ [Value.pointer (some ⟨w5.heap.size, 0, none⟩)], u.oneCell' = true) := fun u hu => by simp at hu; subst hu; rfl
      have HG := hide HGP'
      clear hs5 hxy kX kB6 hnx hll kM5 kR5 BW5 hnm OM5 kB5 OP5 FR5 HGP' hsx HGP HKB HOP HFR GM HL4 HAS d0 fM HNK HPL HPK HX1 HCQ hw4 HST HQT
      go_region_law (first
        | (refine step_append_elem2 (e := wtrE) wtr_ty (by decide) Tryd.underlying108 infoWtr rfl (by decide) (by decide) rfl (.tmp 27) (.tmp 32) rfl (B := w2.heap.size) rfl (unhide OP6) (unhide HG) (unhide E3) rfl (by exact unhide HCE) (by exact unhide hone) (by simp; omega) (by omega) ?_
           intro v' w7 o7 g7 hg7
           obtain ⟨va, vc, rfl, hv1, hv2⟩ := o7.form
           have ko7 := (hg7.block B (by simp; omega) fun e => by have := unhide HG B e.symm; omega).trans (unhide KB6)
           have cO7 : w7.cell? ⟨B, 0, none⟩ = some (.slice pa ws.length pc) := Lib.cell_of_heap ko7 0
           have fO7 := Lib.frozen_of_heap ko7))
      all_goals (
        have kn := heap_setCell_same _ _ 0 _ _ (.slice va (ws ++ [h.watches[k]]).length vc) ko7
        have on := o7.other (g := B) (fun hm => by
          obtain ⟨cur, t, e1, e2⟩ := orow_ty (e := wtrE) wtr_ty o7 B hm
          rw [ko7] at e1
          injection e1 with e1; injection e1 with _ e1
          subst e1
          exact absurd e2 (by decide)) 0 (.slice va (ws ++ [h.watches[k]]).length vc)
        have fn := ((unhide FR6).grown hg7 (fun j hj => unhide HG j hj)).set (g := B) (by simp) 0 (.slice va (ws ++ [h.watches[k]]).length vc)
        rw [List.length_append, List.length_singleton] at kn on fn g7
        rw [← unhide HNX] at on
        have KN := hide kn
        have ON := hide on
        have FN := hide fn
        have GN := hide g7
        clear kn on fn o7 g7 hg7 hv1 hv2 ko7 cO7 fO7 OP6 HG E3 HCE hone FR6 KB6 bO6 bO7 e0 e1 e2 e3 e4 e5 r0 r1 r2 bO
        go_wp2
        go_roundw)
      all_goals first
        | exact ⟨k + 1, by omega, by go_num, unhide FN, _, _, unhide KN, unhide ON, unhide GN, HON, HSN⟩
        | (simp [intOf]; omega)
    · have hk' : k = h.watches.length := by omega
      subst hk'
      rw [List.take_length] at hop
      have hoc := (unhide HOC).keep (hfr.kp (unhide HOC).lt (fun b hb hm => by simp at hm; have := unhide HCL b hb; omega))
      have HR : Hid (Brd wr B h pv (.slice ca h.waiting.length cc) 0 h.waiting.length h.waiting cb2 (pv.ownBlock.toList ++ cbk)) := ⟨hkb, hop, hoc, RingIs.fresh _, by omega⟩
      have HW := hide hbw
      have HGP := hide hgp
      clear hfr hkb hop hgp hbw hoc
      go_wp2
      go_ret
      refine ⟨B, _, _, _, _, rfl, unhide HR, ?_, fun g hg => by have := unhide HGC g hg; omega, fun g hg => by have := unhide HGP g hg; have := (unhide HB2).size; omega, fun b hb => (unhide O2).lt b (List.mem_append.2 (.inr hb)), unhide HW, cbk, rfl, fun hn => (unhide HNK hn).1, fun b hb => ?_⟩
      · omega
      · rcases unhide HST b hb with h1 | ⟨cur, h1⟩
        · exact .inl h1
        · exact .inr ⟨cur, ((unhide HW).block b (Array.getElem?_eq_some_iff.1 h1).1).trans h1⟩
theorem readHub_walk (v : Value) (h : Hb) (bl : List Nat) (w : World) (ho : OHub w v h bl) (hs : szHb h ≤ 1048577) :
    Calls Tryd.prog 39 #[v] w fun e w' => ∃ B pv cv cb bw, e = .returned (.pointer (some ⟨B, 0, none⟩)) ∧ Brd w' B h pv cv 0 h.waiting.length h.waiting cb bw ∧ w.heap.size ≤ B ∧ (∀ g, cv.ownBlock = some g → w.heap.size ≤ g) ∧ (∀ g, pv.ownBlock = some g → w.heap.size ≤ g) ∧ (∀ b ∈ cb, b < w.heap.size) ∧ Below w.heap.size w w' :=
  (readHub2_walk v h bl w ho hs).mono fun _ _ ⟨B, pv, cv, cb, bw, h1, h2, h3, h4, h5, h6, h7, _⟩ => ⟨B, pv, cv, cb, bw, h1, h2, h3, h4, h5, h6, h7⟩
end Go.Proofs.YtbcfkkicmmhhcaaDoor

namespace Go.Proofs.YtbcfkkicmmhhcaaDoor
open Go.RowKit

/-- append(s, make([]T, k)...) onto a row that the call owns: k zero values behind it. -/
theorem append_zeros_own {P : Program} (w : World) (base : Nat) (t tn ty e : TypeId) (i : TypeInfo) (z : Value) (kq kn : IntKind) (size bytes : Nat) (ht : P.underlying t = some (.slice e)) (htn : P.underlying tn = some (.int kn)) (hi : P.info? e = some i) (hz : i.zero = some z)
    (hsize : i.size = size) (hby : i.bytes = bytes) (hzs : z.cells.size = size) (hsz : 0 < size) (hz1 : ∀ u ∈ z.cells.toList, u.oneCell' = true)
    (v : Value) (n : Nat) (xs : List Value) (hown : w.ownsRow base e size v n xs) (k : Nat) (hk : 0 < k) (hnk : n + k ≤ 100000000) (hb : bytes ≤ 100) (hbase : base ≤ w.heap.size) :
    ∃ v' w', (Builtin.append_ #[t, tn] ty #[v, .int kq k]).run P w = .ok v' w' ∧ w'.ownsRow base e size v' (n + k) (xs ++ (Builtin.zeroCells z.cells k).toList) ∧ w.grownBy w' v.ownBlock := by
  subst hsize
  subst hby
  have hzl : (Builtin.zeroCells z.cells k).toList.length = k * i.size := by rw [Array.length_toList, size_zeroCells, hzs]
  have hlen : (xs ++ (Builtin.zeroCells z.cells k).toList).length = (n + k) * i.size := by rw [List.length_append, hown.1, hzl, Nat.add_mul]
  have hkb : k * i.bytes ≤ k * 100 := Nat.mul_le_mul_left _ hb
  have hones : ∀ u ∈ (Builtin.zeroCells z.cells k).toList, u.oneCell' = true := by
    intro u hu
    unfold Builtin.zeroCells at hu
    rw [Array.toList_map] at hu
    obtain ⟨j, _, rfl⟩ := List.mem_map.1 hu
    have hm : j % z.cells.size < z.cells.size := Nat.mod_lt _ (by omega)
    apply hz1
    rw [getElem!_pos z.cells _ hm]
    exact Array.mem_toList_iff.2 (Array.getElem_mem hm)
  rcases hown.2 with ⟨rfl, rfl⟩ | ⟨g, cap, cur, rfl, hbg, hg, hnc, hcm, hcs, htake⟩
  · have hx : xs = [] := List.eq_nil_of_length_eq_zero (by simpa using hown.1)
    subst hx
    have hr := Lib.run_append_nil_zeros (P := P) w t tn ty e i z kq kn ht htn hi hz k hk hsz (by omega) (by omega)
    have hge := grownCap_ge w k 0 e
    have hcm : grownCap w k 0 e ≤ maxLen := grownCap_le_maxLen w k 0 e (by unfold maxLen; omega)
    rw [Nat.zero_add] at hlen ⊢
    refine ⟨_, _, hr, ⟨hlen, .inr ⟨w.heap.size, _, _, rfl, hbase, heap_alloc_new w.drew _, hge, hcm, ?_, ?_⟩⟩, ⟨rfl, rfl, rfl, by simp, fun j hj _ => Below.heap_alloc w.drew _ j hj⟩⟩
    · rw [Array.size_append, size_zeroCells, size_zeroCells, hzs, ← Nat.add_mul]
      congr 1; omega
    · rw [Array.toList_append, List.nil_append, ← hzl]
      exact List.take_left
  · have holds : ∀ j u, xs[j]? = some u → w.cell? ((⟨g, 0, none⟩ : Addr).add j) = some u := hown.cells (g := g) rfl
    by_cases hroom : n + k ≤ cap
    · have hfit : n * i.size + (Builtin.zeroCells z.cells k).toList.length ≤ cur.size := by rw [hzl, hcs, ← Nat.add_mul]; exact Nat.mul_le_mul_right _ hroom
      have hst := run_storeCells_at P g (n * i.size) e (Builtin.zeroCells z.cells k).toList 0 cur w hg (by simpa using hfit) hones
      simp only [Nat.add_zero] at hst
      have hw : IntKind.i64.wrap (k : Int) = k := by rw [IntKind.wrap_i64]; omega
      have hneg : ¬ ((k : Int) < 0) := by omega
      have h48i : ¬ (281474976710656 < (k : Int) * (i.bytes : Int)) := by rw [← Int.natCast_mul]; omega
      have hns : ¬ (k * i.size = 0) := Nat.mul_ne_zero (by omega) (by omega)
      have hr : (Builtin.append_ #[t, tn] ty #[.slice (some ⟨g, 0, none⟩) n cap, .int kq k]).run P w = .ok (.slice (some ⟨g, 0, none⟩) (n + k) cap) (w.setRow g (cur.toList.take (n * i.size) ++ (Builtin.zeroCells z.cells k).toList ++ cur.toList.drop (n * i.size + (Builtin.zeroCells z.cells k).toList.length)).toArray) := by
        simp [Builtin.append_, run_underlying ht, run_underlying htn, sizeOf, typeInfo, zeroValue, hi, hz, asInt, asIntOf, hw, hneg, h48i, hns, hroom, Addr.add_lit, hst]
      refine ⟨_, _, hr, ⟨hlen, .inr ⟨g, cap, _, rfl, hbg, setRow_heap w g cur _ e _ hg, hroom, hcm, ?_, ?_⟩⟩, ⟨rfl, rfl, rfl, by simp, fun k _ hk => setRow_other w g k _ (fun e => hk (by simp [Value.ownBlock, e]))⟩⟩
      · simp only [List.size_toArray, List.length_append, List.length_take, List.length_drop, Array.length_toList]
        rw [Array.length_toList] at hfit hzl
        omega
      · rw [htake, ← hlen]
        exact List.take_left
    · have hf : (Builtin.firstCells i.size n (.slice (some ⟨g, 0, none⟩) n cap)).run P w.drew = .ok xs.toArray w.drew := run_firstCells_some (P := P) w.drew i.size n ⟨g, 0, none⟩ n cap xs hown.1 holds
      have hfit : Builtin.nextslicecap (n + k) cap * i.bytes ≤ 281474976710656 := growslice_fits (by omega) (by
        have : (n + k) * i.bytes ≤ (n + k) * 100 := Nat.mul_le_mul_left _ hb
        omega)
      have hr := Lib.run_append_grow_zeros (P := P) w t tn ty e i z kq kn ht htn hi hz (some ⟨g, 0, none⟩) n cap xs hf k hk hsz (by omega) (by omega) (by omega) hfit
      have hge := grownCap_ge w (n + k) cap e
      have hcm' : grownCap w (n + k) cap e ≤ maxLen := grownCap_le_maxLen w (n + k) cap e (by unfold maxLen; omega)
      refine ⟨_, _, hr, ⟨hlen, .inr ⟨w.heap.size, _, _, rfl, hbase, heap_alloc_new w.drew _, hge, hcm', ?_, ?_⟩⟩, ⟨rfl, rfl, rfl, by simp, fun j hj _ => Below.heap_alloc w.drew _ j hj⟩⟩
      · rw [Array.size_append, Array.size_append, size_zeroCells, size_zeroCells, hzs, List.size_toArray, hown.1, ← Nat.add_mul, ← Nat.add_mul]
        congr 1; omega
      · rw [Array.toList_append, Array.toList_append, ← hlen]
        exact List.take_left
/-- The same as a step of a region that draws its order. -/
theorem step_append_zeros {P : Program} {ops : Array Oper} {o : Oper} {a : Act} {w : World} {K : Act → World → Prop} {Q : Exit → Act → World → Prop} {F : Prop} (hg : o.guard = none) (s x : Operand) (t tn : TypeId)
    (ho : o.op = .call { callee := .builtin .append, args := #[s, x], argTypes := #[t, tn] }) (base : Nat) (e : TypeId) (z : Value) (kq kn : IntKind) (size bytes : Nat) (ht : P.underlying t = some (.slice e)) (htn : P.underlying tn = some (.int kn))
    (hinfo : (P.info? e).map (fun i => (i.zero, i.size, i.bytes)) = some (some z, size, bytes)) (hzs : z.cells.size = size) (hsz : 0 < size) (hz1 : ∀ u ∈ z.cells.toList, u.oneCell' = true)
    (v : Value) (n : Nat) (xs : List Value) (hs : a.eval s = v) (hown : w.ownsRow base e size v n xs) (k : Nat) (hx : a.eval x = .int kq k) (hk : 0 < k) (hnk : n + k ≤ 100000000) (hb : bytes ≤ 100) (hbase : base ≤ w.heap.size)
    (hK : ∀ v' w', w'.ownsRow base e size v' (n + k) (xs ++ (Builtin.zeroCells z.cells k).toList) → w.grownBy w' v.ownBlock → K (a.put o.dst v') w') :
    if Region.wanted o (yielded ops a.tmps) = true then Oper.wp P o a w K Q else F := by
  have hw : Region.wanted o (yielded ops a.tmps) = true := by simp [Region.wanted, hg]
  rw [if_pos hw]
  obtain ⟨i0, hi, hz0, hz1', hz2⟩ := info_parts hinfo
  obtain ⟨v', w', hr, h2, h3⟩ := append_zeros_own (P := P) w base t tn o.type e i0 z kq kn size bytes ht htn hi hz0 hz1' hz2 hzs hsz hz1 v n xs hown k hk hnk hb hbase
  exact Lib.wp_append_run w s x t tn ho v _ hs hx v' w' hr (hK v' w' h2 h3)

theorem setN_right : ∀ (vs A R : List Value) (o : Nat), setN (A ++ R) (A.length + o) vs = A ++ setN R o vs
  | [], A, R, o => rfl
  | a :: r, A, R, o => by
    rw [setN, setN, List.set_append_right _ _ (by omega), Nat.add_sub_cancel_left, Nat.add_assoc, setN_right r A]
theorem flat_setN {ps : List (List Value × List Nat)} {wd : Nat} (h : ∀ p ∈ ps, p.1.length = wd) {j : Nat} (hj : j < ps.length) (vs : List Value) (hv : vs.length = wd) (ib : List Nat) :
    (ps.set j (vs, ib)).flatMap (·.1) = setN (ps.flatMap (·.1)) (j * wd) vs := by
  induction ps generalizing j with
  | nil => simp at hj
  | cons q r ih =>
    have hq := h q List.mem_cons_self
    cases j with
    | zero =>
      have := setN_app vs [] (q.1 ++ r.flatMap (·.1)) (by rw [List.length_append]; omega)
      rw [List.nil_append, List.length_nil, List.nil_append] at this
      rw [List.set_cons_zero, List.flatMap_cons, List.flatMap_cons, Nat.zero_mul, this, hv, ← hq, List.drop_left]
    | succ j =>
      have := ih (fun p hp => h p (List.mem_cons_of_mem _ hp)) (by simpa using hj)
      rw [List.set_cons_succ, List.flatMap_cons, List.flatMap_cons, this, Nat.add_mul, Nat.one_mul, Nat.add_comm, ← hq, setN_right]
/-- An element of a row is written anew; what lies in the elements may be shared. -/
theorem orow_putAll {α : Type} {e : Elem α} {ts : List TypeId} (he : ∀ {w vs x bl}, e.E w vs x bl → Tys ts w bl) (hts : e.T ∉ ts) {w : World} {g n cap : Nat} {xs : List α} {cb : List Nat} (h : ORow e w (.slice (some ⟨g, 0, none⟩) n cap) xs (g :: cb)) {j : Nat} (hj : j < xs.length)
    {vs : List Value} {x : α} {ib : List Nat} (hE : e.E w vs x ib) : ∃ cb', ORow e (putN w g (j * e.wd) vs) (.slice (some ⟨g, 0, none⟩) n cap) (xs.set j x) (g :: cb') := by
  have hty := orow_inner_ty he (cb := cb) h rfl
  have htyi := he hE
  obtain ⟨ps, hl, hE0, ho, hb⟩ := h
  have hn : n = xs.length := by
    rcases ho.2 with ⟨hv, h0⟩ | ⟨g', cap', cur, hv, _⟩
    · cases hv
    · injection hv
  subst hn
  have hcb : cb = ps.flatMap (·.2) := by
    simp [Value.ownBlock] at hb; exact hb
  have hwd := orow_wd hl hE0
  have hnot : ∀ p ∈ ps, g ∉ p.2 := fun p hp hg => hty.not ho hts (g := g) rfl (by rw [hcb]; exact List.mem_flatMap.2 ⟨p, hp, hg⟩)
  have hnoti : g ∉ ib := fun hg => htyi.not ho hts (g := g) rfl hg
  have hk : ∀ bl : List Nat, g ∉ bl → Kp bl w (putN w g (j * e.wd) vs) := fun bl hg b hb => putN_other (k := b) (g := g) (fun e => hg (by rw [← e]; exact hb)) _ _
  refine ⟨(ps.set j (vs, ib)).flatMap (·.2), ps.set j (vs, ib), by simp [hl], ?_, ?_, by simp [Value.ownBlock]⟩
  · intro i p y hp hy
    by_cases hij : i = j
    · subst hij
      rw [List.getElem?_set_self (by omega)] at hp hy
      cases hp; cases hy
      exact e.keep hE (hk _ hnoti)
    · rw [List.getElem?_set_ne (by omega)] at hp hy
      exact e.keep (hE0 i p y hp hy) (hk _ (hnot p (List.mem_of_getElem? hp)))
  · rw [List.length_set, flat_setN hwd (by omega) vs (e.len hE) ib]
    exact putN_own ho vs (j * e.wd)
theorem zeros2 (a b : Value) : ∀ k, (Builtin.zeroCells #[a, b] k).toList = (List.replicate k ([a, b], ([] : List Nat))).flatMap (·.1)
  | 0 => by simp [Builtin.zeroCells]
  | k + 1 => by
    have ih := zeros2 a b k
    unfold Builtin.zeroCells at *
    rw [Array.toList_map, Array.toList_range] at *
    rw [List.replicate_succ', List.flatMap_append, ← ih]
    have e2 : (#[a, b] : Array Value).size = 2 := rfl
    rw [e2, Nat.add_mul, Nat.one_mul, List.range_succ, List.range_succ, List.map_append, List.map_append, List.append_assoc]
    congr 1
    have m0 : k * 2 % 2 = 0 := by omega
    have m1 : (k * 2 + 1) % 2 = 1 := by omega
    simp [m0, m1]
/-- The zero value of the news. -/
def nws0 : Nws := ⟨0, []⟩
/-- Zero values behind a row of news. -/
theorem ORow.zeros {B k : Nat} {w : World} {v : Value} {xs : List Nws} {cb : List Nat} (h : ORow nwsE w v xs (v.ownBlock.toList ++ cb)) (hB : ∀ g, v.ownBlock = some g → B ≤ g) :
    ∃ cs, w.ownsRow B nwsE.T nwsE.wd v xs.length cs ∧ ∀ v' w', w'.ownsRow B nwsE.T nwsE.wd v' (xs.length + k) (cs ++ (Builtin.zeroCells #[.int .i64 0, .slice none 0 0] k).toList) → w.grownBy w' v.ownBlock → ORow nwsE w' v' (xs ++ List.replicate k nws0) (v'.ownBlock.toList ++ cb) := by
  have hlt := h.lt
  have hty := orow_inner_ty nws_ty h rfl
  obtain ⟨ps, hl, hE0, ho, hb⟩ := h
  have hcb := List.append_cancel_left hb
  subst hcb
  refine ⟨ps.flatMap (·.1), own_base ho hB, fun v' w' ho' hg => ?_⟩
  have hk : Kp (ps.flatMap (·.2)) w w' := fun b hb => hg.block b (hlt b (List.mem_append.2 (.inr hb))) fun e1 => hty.not ho (by decide) e1.symm hb
  have hz : ∀ k, (List.replicate k (([.int .i64 0, .slice none 0 0], []) : List Value × List Nat)).flatMap (·.2) = [] := fun k => by
    induction k with
    | zero => rfl
    | succ k ih => rw [List.replicate_succ, List.flatMap_cons, ih]; rfl
  refine ⟨ps ++ List.replicate k ([.int .i64 0, .slice none 0 0], []), by simp [hl], ?_, ?_, by rw [List.flatMap_append, hz, List.append_nil]⟩
  · intro j p y hp hy
    by_cases hj : j < xs.length
    · rw [List.getElem?_append_left (by omega)] at hp hy
      exact nwsE.keep (hE0 j p y hp hy) fun b hb => hk b (List.mem_flatMap.2 ⟨p, List.mem_of_getElem? hp, hb⟩)
    · rw [List.getElem?_append_right (by omega)] at hp hy
      have hp' := List.mem_replicate.1 (List.mem_of_getElem? hp)
      have hy' := List.mem_replicate.1 (List.mem_of_getElem? hy)
      rw [hp'.2, hy'.2]
      exact ⟨_, rfl, ORow.nil _ _⟩
  · rw [List.flatMap_append, List.length_append, List.length_replicate, ← zeros2]
    exact own_mono ho' (Nat.zero_le B)
end Go.Proofs.YtbcfkkicmmhhcaaDoor

namespace Go.Proofs.YtbcfkkicmmhhcaaDoor
open Go.RowKit

/-- A ring that was full, one more element behind the others. -/
theorem RingIs.pushed (q : List Nws) (x : Nws) : RingIs ((q ++ List.replicate (q.length + 1) nws0).set q.length x) 0 (q.length + 1) (q ++ [x]) := by
  have hL : ((q ++ List.replicate (q.length + 1) nws0).set q.length x).length = q.length + (q.length + 1) := by simp
  refine ⟨by simp, by rw [hL]; omega, .inl (by rw [hL]; omega), fun i y hy => ?_⟩
  have hi := (List.getElem?_eq_some_iff.1 hy).1
  rw [List.length_append, List.length_singleton] at hi
  rw [hL, Nat.zero_add, Nat.mod_eq_of_lt (by omega)]
  by_cases h : i = q.length
  · subst h
    rw [List.getElem?_set_self (by simp)]
    simpa using hy
  · rw [List.getElem?_set_ne (by omega), List.getElem?_append_left (by omega)]
    rw [List.getElem?_append_left (by omega)] at hy
    exact hy

end Go.Proofs.YtbcfkkicmmhhcaaDoor

namespace Go.Proofs.YtbcfkkicmmhhcaaDoor
open Go.RowKit

end Go.Proofs.YtbcfkkicmmhhcaaDoor
