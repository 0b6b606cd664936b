import Derived.Test.YtiolpmhodbefoaaImplPOk7
namespace Go.Proofs.Ytiolpmhodbefoaa
open Go.RowKit

/-- A segment as validSegs makes it. -/
def segK : KE PSeg where
  T := 72
  wd := 2
  pos := by decide
  R := fun w S vs g => ∃ (x : Option Addr) (y z : Nat), vs = [.bool g.deep, .slice x y z] ∧ LRow selK w S (.slice x y z) g.sels
  len := fun h => by obtain ⟨x, y, z, rfl, -⟩ := h; rfl
  move := fun h hm => by
    obtain ⟨x, y, z, h1, h2⟩ := h
    exact ⟨x, y, z, h1, h2.move hm⟩
theorem infoSegr : (Try.prog.info? 72).map (fun i => (i.zero, i.size, i.bytes)) = some (some (.agg #[.bool false, .slice none 0 0]), 2, 32) := by kernel_rfl
set_option maxRecDepth 100000 in
set_option maxHeartbeats 16000000 in
theorem validSegs_walk (v : Value) (ms : List PSeg) (bl : List Nat) (w : World) (h : ORow segE w v ms bl) (hs : szSegs ms ≤ 1048576) :
    Calls Try.prog 17 #[v] w (VRes segK (pathOk ms) ms bl w) := by
  have hlt0 := h.lt
  obtain ⟨a, c, rfl, -, hxa⟩ := h.form
  have hlen : ms.length ≤ 1048576 := by unfold szSegs at hs; omega
  have hlI : (ms.length : Int) ≤ 1048576 := by omega
  by_cases hbig : (1000 : Int) < (ms.length : Int)
  · have HV : Hid (pathOk ms = false) := by show _ = _; unfold pathOk; rw [decide_eq_false (show ¬ ms.length ≤ 1000 by omega)]; rfl
    clear h hxa hs hlt0
    go_enter Try.func17, Try.ntmps17
    go_wp2
    go_ret2
    exact ⟨_, _, _, by rw [unhide HV]; rfl, Below.refl _ _, fun e => by rw [unhide HV] at e; cases e⟩
  have HS0 : Hid (∀ b, b ∈ bl → b < w.heap.size) := hlt0
  have HROW : Hid (∀ (wr : World) (j : Nat) (hj : j < ms.length), Below w.heap.size w wr → ∃ g x y z ib, a = some ⟨g, 0, none⟩ ∧ wr.cell? ⟨g, j * 2, none⟩ = some (.bool ms[j].deep) ∧ wr.cell? ⟨g, j * 2 + 1, none⟩ = some (.slice x y z) ∧
      (∀ b ∈ ib, b ∈ bl) ∧ ∀ wx, Below wr.heap.size wr wx → Calls Try.prog 32 #[.slice x y z] wx (VRes selK (segOk ms[j]) ms[j].sels ib wx)) := by
    intro wr j hj hb
    obtain ⟨g, rfl⟩ := hxa (by omega)
    obtain ⟨vs, ib, hE, hc, hib, -, -⟩ := (h.below hb).at (List.getElem?_eq_getElem hj)
    obtain ⟨q, rfl, hst⟩ := hE
    have hz := sz_seg hs (List.getElem_mem hj)
    obtain ⟨x, z, rfl, -, -⟩ := hst.form
    exact ⟨g, x, _, z, ib, rfl, (hc 0 _ rfl).1, (hc 1 _ rfl).1, hib, fun wx hx => validSels_walk _ _ ib wx (hst.below hx) hz⟩
  have HNO : Hid (∀ j (hj : j < ms.length), segOk ms[j] = false → pathOk ms = false) := fun j hj e => by unfold pathOk; rw [all_no hj e, Bool.and_false]
  have HYES : Hid ((∀ j (hj : j < ms.length), segOk ms[j] = true) → pathOk ms = true) := fun e => by unfold pathOk; rw [all_yes e, decide_eq_true (by omega)]; rfl
  clear h hxa hs hlt0
  generalize pathOk ms = SO at *
  obtain ⟨i0, hi, hz0, hz1, hz2⟩ := info_parts infoSegr
  go_enter Try.func17, Try.ntmps17
  go_wp2_with (at_make; refine wpList_make_own _ rfl _ _ 45 rfl w.heap.size 72 i0 _ 2 Try.underlying45 hi hz0 hz1 .i64 .i64 _ ms.length rfl rfl rfl (by rw [hz2]; omega) (by unfold maxLen; omega) (Nat.le_refl _) ?_)
  intro w3 hown3 hgrow3
  have HB3 : Hid (Below w.heap.size w w3) := (Below.refl _ _).grown hgrow3 (Nat.le_refl _) (by intro k hk; cases hk)
  have HO3 : Hid (WRow segK w3 (· ∈ bl) w.heap.size (.slice (some ⟨w.heap.size, 0, none⟩) 0 ms.length) []) := WRow.start (e := segK) hown3
  clear hown3 hgrow3
  go_wp2
  go_loopw [4, 17] (fun lv iv wr => ∃ (j : Nat), j ≤ ms.length ∧ iv = .int .i64 (j : Int) ∧ Hid (WRow segK wr (· ∈ bl) w.heap.size lv (ms.take j)) ∧ Below w.heap.size w wr ∧ Hid (∀ x (hx : x < ms.length), x < j → segOk ms[x] = true)) (fun _ i _ => ms.length - (intOf i).toNat)
  case atStart => exact ⟨0, Nat.zero_le _, rfl, unhide HO3, unhide HB3, fun x _ hx => by omega⟩
  case round =>
    obtain ⟨j, hj, rfl, hW, hb, hd⟩ := hrel
    obtain ⟨lx, ly, lz, rfl⟩ := WRow.slice (unhide hW)
    clear HO3 HB3
    by_cases hlt : j < ms.length
    · have hltI : (j : Int) < (ms.length : Int) := by omega
      obtain ⟨g0, qx, qy, qz, ib, rfl, d0, d1, hib, hvs⟩ := unhide HROW _ j hlt hb
      have HVS := hide (hvs _ (alloc_b wr (Obj.cells #[.bool ms[j].deep, .slice qx qy qz] 39 (0, 0))))
      have HIB := hide hib
      have HB := hide hb
      have HJY : Hid (segOk ms[j] = true → ∀ x (hx : x < ms.length), x < j + 1 → segOk ms[x] = true) := fun e x hx h => by
        by_cases ex : x = j
        · subst ex; exact e
        · exact unhide hd x hx (by omega)
      have HJN : Hid (segOk ms[j] = false → SO = false) := unhide HNO j hlt
      have HTK : Hid (ms.take (j + 1) = ms.take j ++ [ms[j]]) := List.take_succ_eq_append_getElem hlt
      have HTL : Hid ((ms.take j).length ≤ 1000) := by show _ ≤ _; rw [List.length_take]; omega
      clear hvs hib hb hd HNO HROW HYES
      generalize ms[j] = o at *
      obtain ⟨deep, sels⟩ := o
      simp only at *
      go_wp2_with fail
      refine (unhide HVS).mono ?_
      rintro e w2 ⟨ra, rn, rc, rfl, b2, hres⟩
      have HRES := hide hres
      have HB2 : Hid (Below wr.heap.size wr w2) := below_next (alloc_b wr _) b2
      have HBW2 : Hid (Below w.heap.size w w2) := below_next (unhide HB) (unhide HB2)
      have h0 := heap_alloc_new wr (Obj.cells #[.bool deep, .slice qx qy qz] 39 (0, 0))
      have x0 : w2.cell? ⟨wr.heap.size, 0, none⟩ = some (.bool deep) := Lib.cell_of_heap ((b2.block _ (Array.getElem?_eq_some_iff.1 h0).1).trans h0) 0
      have HW2 : Hid (WRow segK w2 (· ∈ bl) w.heap.size (.slice lx ly lz) (ms.take j)) := (unhide hW).keep (unhide HB2)
      have HMV : Hid (∀ o, Mv (fun b => b ∈ ib ∨ (wr.alloc (Obj.cells #[.bool deep, .slice qx qy qz] 39 (0, 0))).heap.size ≤ b) (Hd (· ∈ bl) w.heap.size (Value.slice lx ly lz).ownBlock) w2 (w2.alloc o)) := fun o b hb hlt => by
        refine ⟨?_, (alloc_b _ o).block b hlt⟩
        rcases hb with hb | hb
        · exact .inl (unhide HIB b hb)
        · simp at hb
          have hz1 := (unhide HB).size
          refine .inr ⟨by omega, fun e => ?_⟩
          obtain ⟨_, -, ho⟩ := unhide hW
          have := (ho.lt b e).2
          omega
      clear b2 hW HVS hres h0 d0 d1
      cases hg : segOk ⟨deep, sels⟩ with
      | false =>
        have HV : Hid (SO = false) := unhide HJN hg
        clear HJN HJY HW2 HIB HMV HRES hg x0
        go_wp2
        go_ret2
        exact ⟨_, _, _, by rw [unhide HV]; rfl, unhide HBW2, fun e => by rw [unhide HV] at e; cases e⟩
      | true =>
        have HD := hide (unhide HJY hg)
        have HL := hide (unhide HRES hg)
        clear HJN HJY HRES hg
        have HCELL : Hid (∀ (i : Nat) (u : Value), [Value.bool deep, .slice ra rn rc][i]? = some u → (w2.alloc (.cells #[.bool deep, .slice ra rn rc] 72)).cell? ((⟨w2.heap.size, 0, none⟩ : Addr).add i) = some u) := fun i u hu => litK_cells w2 _ _ i u hu
        have HBA : Hid (Below w2.heap.size w2 (w2.alloc (.cells #[.bool deep, .slice ra rn rc] 72))) := alloc_b _ _
        have HWA : Hid (WRow segK (w2.alloc (.cells #[.bool deep, .slice ra rn rc] 72)) (· ∈ bl) w.heap.size (.slice lx ly lz) (ms.take j)) := (unhide HW2).keep (unhide HBA)
        have HZA : Hid (w.heap.size ≤ (w2.alloc (.cells #[.bool deep, .slice ra rn rc] 72)).heap.size) := Nat.le_trans (unhide HBW2).size (unhide HBA).size
        have HNODE : Hid (segK.R (w2.alloc (.cells #[.bool deep, .slice ra rn rc] 72)) (Hd (· ∈ bl) w.heap.size (Value.slice lx ly lz).ownBlock) [.bool deep, .slice ra rn rc] ⟨deep, sels⟩) := ⟨_, _, _, rfl, (unhide HL).move (unhide HMV _)⟩
        clear HW2 HMV HL HIB
        go_wp2_with (at_builtin; refine wpList_append_K segK Try.underlying45 infoSegr rfl (by decide) rfl (.tmp 29) (.tmp 34) rfl rfl (unhide HWA) (unhide HS0) (unhide HNODE) rfl (unhide HCELL) (by intro u hu; simp at hu; rcases hu with rfl | rfl <;> rfl) (unhide HZA) (Nat.le_trans (unhide HTL) (by decide)) ?_)
        intro v' w5 hW5 hg5 hown5
        have HW5 : Hid (WRow segK w5 (· ∈ bl) w.heap.size v' (ms.take (j + 1))) := by show WRow _ _ _ _ _ _; rw [unhide HTK]; exact hW5
        have HB5 : Hid (Below w.heap.size w w5) := (below_next (unhide HBW2) (unhide HBA)).grown hg5 (unhide HZA) hown5
        clear hW5 hg5 hown5 HNODE HWA HCELL
        go_wp2
        go_roundw
        case rel => exact ⟨j + 1, by omega, by go_num, HW5, unhide HB5, HD⟩
        case measure => simp [intOf]; omega
    · have hjl : ms.take j = ms := List.take_of_length_le (by omega)
      have HW : Hid (WRow segK wr (· ∈ bl) w.heap.size (.slice lx ly lz) ms) := by
        show WRow _ _ _ _ _ _
        have := unhide hW
        rwa [hjl] at this
      have HV := hide (unhide HYES fun x hx => unhide hd x hx (by omega))
      have HB := hide hb
      clear hW hd hb HROW HNO HYES hjl
      go_wp2
      go_ret2
      exact ⟨_, _, _, by rw [unhide HV]; rfl, unhide HB, fun _ => (unhide HW).done⟩
theorem implPathOk_walk (v : Value) (ms : List PSeg) (bl : List Nat) (w : World) (h : ORow segE w v ms bl) (hs : szSegs ms ≤ 1048576) :
    Calls Try.prog 8 #[v] w fun e w' => e = .returned (.bool (pathOk ms)) ∧ Below w.heap.size w w' := by
  have HV := hide (validSegs_walk v ms bl w h hs)
  obtain ⟨a, c, rfl, -, -⟩ := h.form
  clear h
  go_enter Try.func8, Try.ntmps8
  go_wp2_with fail
  refine (unhide HV).mono ?_
  rintro e w2 ⟨ra, rn, rc, rfl, b2, -⟩
  have HB := hide b2
  clear b2 HV
  go_wp2
  go_ret
  exact ⟨rfl, unhide HB⟩
end Go.Proofs.Ytiolpmhodbefoaa
