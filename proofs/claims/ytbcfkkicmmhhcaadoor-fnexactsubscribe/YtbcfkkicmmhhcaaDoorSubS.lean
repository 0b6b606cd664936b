import Derived.Test.YtbcfkkicmmhhcaaDoorSub
import Derived.Test.YtbcfkkicmmhhcaaDoorSpecToks
namespace Go.Proofs.YtbcfkkicmmhhcaaDoor
open Go.RowKit

theorem l2IsPtr_walk (s : ByteArray) (w : World) (hsz : s.size ≤ 1048576) :
    Calls Tryd.prog 35 #[.string s] w fun e w' => e = .returned (.bool (ptoks s.data.toList).isSome) ∧ Below w.heap.size w w' := by
  have HT := hide (specToks_walk s w hsz)
  generalize (ptoks s.data.toList).isSome = z at *
  go_enter Tryd.func35, Tryd.ntmps35
  go_wp2_with fail
  refine (unhide HT).mono ?_
  rintro e w1 ⟨v0, rfl, o1, b1⟩
  have HB := hide b1
  clear HT o1 b1
  go_wp2
  go_ret
  exact ⟨rfl, unhide HB⟩

set_option maxHeartbeats 8000000 in
set_option maxRecDepth 100000 in
theorem specSubscribe_walk (v : Value) (h : Hb) (client : Int) (ptr : ByteArray) (room ver : Int) (bl : List Nat) (w : World) (ho : OHub w v h bl) (hp : ptr.size ≤ 1048576) (hs : szHb h ≤ 1048577) :
    Calls Tryd.prog 12 #[v, .int .i64 client, .string ptr, .int .i64 room, .int .i64 ver] w fun e w' => ∃ v' bl', e = .returned (.tuple #[v', .int .i64 (subC client ptr room)]) ∧ OHub w' v' (subH h client ptr room ver) bl' ∧ Fsh w.heap.size bl' ∧ Below w.heap.size w w' := by
  obtain ⟨p, q, i1, i2, rfl, o1, o2, rfl⟩ := ho
  have HO : Hid (OHub w (.agg #[p, q]) h (i1 ++ i2)) := ⟨p, q, i1, i2, rfl, o1, o2, rfl⟩
  clear o1 o2
  obtain ⟨z, hz⟩ : ∃ z, (ptoks ptr.data.toList).isSome = z := ⟨_, rfl⟩
  have HZ := hide hz
  clear hz
  by_cases c1 : client < 0
  · have hC : subC client ptr room = 1 := subC_1 (.inl c1)
    rw [subH_no hC (by omega), hC]
    clear hC
    go_enter Tryd.func12, Tryd.ntmps12
    go_wp2_with fail
    have hA := new2 w (Obj.cells #[p, q] 39) (Obj.cells #[Value.slice none 0 0, Value.slice none 0 0] 39)
    generalize ((w.alloc (Obj.cells #[p, q] 39)).alloc (Obj.cells #[Value.slice none 0 0, Value.slice none 0 0] 39)) = wA at *
    have hsz := hA.size
    have HB1 := hide hA.bel
    have HK1 := hide hA.k1
    have HC := hide (l5Copy_walk _ h (-1) 0 _ wA ((unhide HO).below hA.bel) hs (by omega))
    clear hA HO
    refine (unhide HC).mono ?_
    clear HC
    rintro e w2 ⟨v2, b2l, rfl, o2, f2, b2⟩
    rw [copyH_none] at o2
    obtain ⟨pw, qw, x1, x2, rfl, ow, ox, rfl⟩ := o2
    obtain ⟨a1, d1, rfl, t1, t2⟩ := ow.form
    obtain ⟨a2, d2, rfl, t3, t4⟩ := ox.form
    have hz2 := b2.size
    have k2 := (b2.block (w.heap.size + 1) (by omega)).trans (unhide HK1)
    have r0 : w2.cell? ⟨w.heap.size + 1, 0, none⟩ = some (.slice none 0 0) := Lib.cell_of_heap k2 0
    have r1 : w2.cell? ⟨w.heap.size + 1, 1, none⟩ = some (.slice none 0 0) := Lib.cell_of_heap k2 1
    have fr := Lib.frozen_of_heap k2
    have OW := hide ow
    have OX := hide ox
    have F2 := hide f2
    have K2 := hide k2
    have B2 := hide (below_next (unhide HB1) b2)
    clear ow ox f2 k2 b2 HB1 HK1 t1 t2 t3 t4
    go_wp2
    refine bodyPost_ret (results_cell_tmp rfl _ _ (w.heap.size + 1) 39 #[_, _] (0, 0) _ _ rfl rfl (putN_full (unhide K2) [_, _] rfl) Tryd.underlying39 rfl (by kernel_rfl)) rfl ?_
    have hn : w.heap.size + 1 ∉ x1 ++ x2 := fun hm => by have := (unhide F2).2 _ hm; omega
    have n1 : w.heap.size + 1 ∉ x1 := fun hm => hn (List.mem_append.2 (.inl hm))
    have n2 : w.heap.size + 1 ∉ x2 := fun hm => hn (List.mem_append.2 (.inr hm))
    refine ⟨_, x1 ++ x2, rfl, ⟨_, _, x1, x2, rfl, (unhide OW).putN n1 [_, _] 0, (unhide OX).putN n2 [_, _] 0, rfl⟩, (unhide F2).mono (by omega), putN_below (g := w.heap.size + 1) (unhide B2) (by omega) [_, _] 0⟩
  · by_cases c2 : 8 ≤ client
    · have hC : subC client ptr room = 1 := subC_1 (.inr c2)
      rw [subH_no hC (by omega), hC]
      clear hC
      go_enter Tryd.func12, Tryd.ntmps12
      go_wp2_with fail
      have hA := new2 w (Obj.cells #[p, q] 39) (Obj.cells #[Value.slice none 0 0, Value.slice none 0 0] 39)
      generalize ((w.alloc (Obj.cells #[p, q] 39)).alloc (Obj.cells #[Value.slice none 0 0, Value.slice none 0 0] 39)) = wA at *
      have hsz := hA.size
      have HB1 := hide hA.bel
      have HK1 := hide hA.k1
      have HC := hide (l5Copy_walk _ h (-1) 0 _ wA ((unhide HO).below hA.bel) hs (by omega))
      clear hA HO
      refine (unhide HC).mono ?_
      clear HC
      rintro e w2 ⟨v2, b2l, rfl, o2, f2, b2⟩
      rw [copyH_none] at o2
      obtain ⟨pw, qw, x1, x2, rfl, ow, ox, rfl⟩ := o2
      obtain ⟨a1, d1, rfl, t1, t2⟩ := ow.form
      obtain ⟨a2, d2, rfl, t3, t4⟩ := ox.form
      have hz2 := b2.size
      have k2 := (b2.block (w.heap.size + 1) (by omega)).trans (unhide HK1)
      have r0 : w2.cell? ⟨w.heap.size + 1, 0, none⟩ = some (.slice none 0 0) := Lib.cell_of_heap k2 0
      have r1 : w2.cell? ⟨w.heap.size + 1, 1, none⟩ = some (.slice none 0 0) := Lib.cell_of_heap k2 1
      have fr := Lib.frozen_of_heap k2
      have OW := hide ow
      have OX := hide ox
      have F2 := hide f2
      have K2 := hide k2
      have B2 := hide (below_next (unhide HB1) b2)
      clear ow ox f2 k2 b2 HB1 HK1 t1 t2 t3 t4
      go_wp2
      refine bodyPost_ret (results_cell_tmp rfl _ _ (w.heap.size + 1) 39 #[_, _] (0, 0) _ _ rfl rfl (putN_full (unhide K2) [_, _] rfl) Tryd.underlying39 rfl (by kernel_rfl)) rfl ?_
      have hn : w.heap.size + 1 ∉ x1 ++ x2 := fun hm => by have := (unhide F2).2 _ hm; omega
      have n1 : w.heap.size + 1 ∉ x1 := fun hm => hn (List.mem_append.2 (.inl hm))
      have n2 : w.heap.size + 1 ∉ x2 := fun hm => hn (List.mem_append.2 (.inr hm))
      refine ⟨_, x1 ++ x2, rfl, ⟨_, _, x1, x2, rfl, (unhide OW).putN n1 [_, _] 0, (unhide OX).putN n2 [_, _] 0, rfl⟩, (unhide F2).mono (by omega), putN_below (g := w.heap.size + 1) (unhide B2) (by omega) [_, _] 0⟩
    · cases z
      · have hC : subC client ptr room = 2 := subC_2 c1 c2 (unhide HZ)
        rw [subH_no hC (by omega), hC]
        clear hC
        go_enter Tryd.func12, Tryd.ntmps12
        go_wp2_with fail
        have hA := new2 w (Obj.cells #[p, q] 39) (Obj.cells #[Value.slice none 0 0, Value.slice none 0 0] 39)
        generalize ((w.alloc (Obj.cells #[p, q] 39)).alloc (Obj.cells #[Value.slice none 0 0, Value.slice none 0 0] 39)) = wA at *
        have hsz := hA.size
        refine (l2IsPtr_walk ptr wA hp).mono ?_
        rintro e w1 ⟨rfl, b1⟩
        have hz1 := b1.size
        have B1 := below_next hA.bel b1
        have k0 := (b1.block w.heap.size (by omega)).trans hA.k0
        have k1 := (b1.block (w.heap.size + 1) (by omega)).trans hA.k1
        have c0 : w1.cell? ⟨w.heap.size, 0, none⟩ = some p := Lib.cell_of_heap k0 0
        have c1' : w1.cell? ⟨w.heap.size, 1, none⟩ = some q := Lib.cell_of_heap k0 1
        have HB1 := hide B1
        have HK1 := hide k1
        have HC := hide (l5Copy_walk _ h (-1) 0 _ w1 ((unhide HO).below B1) hs (by omega))
        clear hA HO b1 B1 k0 k1
        rw [unhide HZ]
        go_wp2_with fail
        refine (unhide HC).mono ?_
        clear HC c0 c1'
        rintro e w2 ⟨v2, b2l, rfl, o2, f2, b2⟩
        rw [copyH_none] at o2
        obtain ⟨pw, qw, x1, x2, rfl, ow, ox, rfl⟩ := o2
        obtain ⟨a1, d1, rfl, t1, t2⟩ := ow.form
        obtain ⟨a2, d2, rfl, t3, t4⟩ := ox.form
        have hz2 := b2.size
        have k2 := (b2.block (w.heap.size + 1) (by omega)).trans (unhide HK1)
        have r0 : w2.cell? ⟨w.heap.size + 1, 0, none⟩ = some (.slice none 0 0) := Lib.cell_of_heap k2 0
        have r1 : w2.cell? ⟨w.heap.size + 1, 1, none⟩ = some (.slice none 0 0) := Lib.cell_of_heap k2 1
        have fr := Lib.frozen_of_heap k2
        have OW := hide ow
        have OX := hide ox
        have F2 := hide f2
        have K2 := hide k2
        have B2 := hide (below_next (unhide HB1) b2)
        clear ow ox f2 k2 b2 HB1 HK1 t1 t2 t3 t4
        go_wp2
        refine bodyPost_ret (results_cell_tmp rfl _ _ (w.heap.size + 1) 39 #[_, _] (0, 0) _ _ rfl rfl (putN_full (unhide K2) [_, _] rfl) Tryd.underlying39 rfl (by kernel_rfl)) rfl ?_
        have hn : w.heap.size + 1 ∉ x1 ++ x2 := fun hm => by have := (unhide F2).2 _ hm; omega
        have n1 : w.heap.size + 1 ∉ x1 := fun hm => hn (List.mem_append.2 (.inl hm))
        have n2 : w.heap.size + 1 ∉ x2 := fun hm => hn (List.mem_append.2 (.inr hm))
        refine ⟨_, x1 ++ x2, rfl, ⟨_, _, x1, x2, rfl, (unhide OW).putN n1 [_, _] 0, (unhide OX).putN n2 [_, _] 0, rfl⟩, (unhide F2).mono (by omega), putN_below (g := w.heap.size + 1) (unhide B2) (by omega) [_, _] 0⟩
      · by_cases c3 : room < 1
        · have hC : subC client ptr room = 3 := subC_3 c1 c2 (unhide HZ) (.inl c3)
          rw [subH_no hC (by omega), hC]
          clear hC
          go_enter Tryd.func12, Tryd.ntmps12
          go_wp2_with fail
          have hA := new2 w (Obj.cells #[p, q] 39) (Obj.cells #[Value.slice none 0 0, Value.slice none 0 0] 39)
          generalize ((w.alloc (Obj.cells #[p, q] 39)).alloc (Obj.cells #[Value.slice none 0 0, Value.slice none 0 0] 39)) = wA at *
          have hsz := hA.size
          refine (l2IsPtr_walk ptr wA hp).mono ?_
          rintro e w1 ⟨rfl, b1⟩
          have hz1 := b1.size
          have B1 := below_next hA.bel b1
          have k0 := (b1.block w.heap.size (by omega)).trans hA.k0
          have k1 := (b1.block (w.heap.size + 1) (by omega)).trans hA.k1
          have c0 : w1.cell? ⟨w.heap.size, 0, none⟩ = some p := Lib.cell_of_heap k0 0
          have c1' : w1.cell? ⟨w.heap.size, 1, none⟩ = some q := Lib.cell_of_heap k0 1
          have HB1 := hide B1
          have HK1 := hide k1
          have HC := hide (l5Copy_walk _ h (-1) 0 _ w1 ((unhide HO).below B1) hs (by omega))
          clear hA HO b1 B1 k0 k1
          rw [unhide HZ]
          go_wp2_with fail
          refine (unhide HC).mono ?_
          clear HC c0 c1'
          rintro e w2 ⟨v2, b2l, rfl, o2, f2, b2⟩
          rw [copyH_none] at o2
          obtain ⟨pw, qw, x1, x2, rfl, ow, ox, rfl⟩ := o2
          obtain ⟨a1, d1, rfl, t1, t2⟩ := ow.form
          obtain ⟨a2, d2, rfl, t3, t4⟩ := ox.form
          have hz2 := b2.size
          have k2 := (b2.block (w.heap.size + 1) (by omega)).trans (unhide HK1)
          have r0 : w2.cell? ⟨w.heap.size + 1, 0, none⟩ = some (.slice none 0 0) := Lib.cell_of_heap k2 0
          have r1 : w2.cell? ⟨w.heap.size + 1, 1, none⟩ = some (.slice none 0 0) := Lib.cell_of_heap k2 1
          have fr := Lib.frozen_of_heap k2
          have OW := hide ow
          have OX := hide ox
          have F2 := hide f2
          have K2 := hide k2
          have B2 := hide (below_next (unhide HB1) b2)
          clear ow ox f2 k2 b2 HB1 HK1 t1 t2 t3 t4
          go_wp2
          refine bodyPost_ret (results_cell_tmp rfl _ _ (w.heap.size + 1) 39 #[_, _] (0, 0) _ _ rfl rfl (putN_full (unhide K2) [_, _] rfl) Tryd.underlying39 rfl (by kernel_rfl)) rfl ?_
          have hn : w.heap.size + 1 ∉ x1 ++ x2 := fun hm => by have := (unhide F2).2 _ hm; omega
          have n1 : w.heap.size + 1 ∉ x1 := fun hm => hn (List.mem_append.2 (.inl hm))
          have n2 : w.heap.size + 1 ∉ x2 := fun hm => hn (List.mem_append.2 (.inr hm))
          refine ⟨_, x1 ++ x2, rfl, ⟨_, _, x1, x2, rfl, (unhide OW).putN n1 [_, _] 0, (unhide OX).putN n2 [_, _] 0, rfl⟩, (unhide F2).mono (by omega), putN_below (g := w.heap.size + 1) (unhide B2) (by omega) [_, _] 0⟩
        · by_cases c4 : 100 < room
          · have hC : subC client ptr room = 3 := subC_3 c1 c2 (unhide HZ) (.inr c4)
            rw [subH_no hC (by omega), hC]
            clear hC
            go_enter Tryd.func12, Tryd.ntmps12
            go_wp2_with fail
            have hA := new2 w (Obj.cells #[p, q] 39) (Obj.cells #[Value.slice none 0 0, Value.slice none 0 0] 39)
            generalize ((w.alloc (Obj.cells #[p, q] 39)).alloc (Obj.cells #[Value.slice none 0 0, Value.slice none 0 0] 39)) = wA at *
            have hsz := hA.size
            refine (l2IsPtr_walk ptr wA hp).mono ?_
            rintro e w1 ⟨rfl, b1⟩
            have hz1 := b1.size
            have B1 := below_next hA.bel b1
            have k0 := (b1.block w.heap.size (by omega)).trans hA.k0
            have k1 := (b1.block (w.heap.size + 1) (by omega)).trans hA.k1
            have c0 : w1.cell? ⟨w.heap.size, 0, none⟩ = some p := Lib.cell_of_heap k0 0
            have c1' : w1.cell? ⟨w.heap.size, 1, none⟩ = some q := Lib.cell_of_heap k0 1
            have HB1 := hide B1
            have HK1 := hide k1
            have HC := hide (l5Copy_walk _ h (-1) 0 _ w1 ((unhide HO).below B1) hs (by omega))
            clear hA HO b1 B1 k0 k1
            rw [unhide HZ]
            go_wp2_with fail
            refine (unhide HC).mono ?_
            clear HC c0 c1'
            rintro e w2 ⟨v2, b2l, rfl, o2, f2, b2⟩
            rw [copyH_none] at o2
            obtain ⟨pw, qw, x1, x2, rfl, ow, ox, rfl⟩ := o2
            obtain ⟨a1, d1, rfl, t1, t2⟩ := ow.form
            obtain ⟨a2, d2, rfl, t3, t4⟩ := ox.form
            have hz2 := b2.size
            have k2 := (b2.block (w.heap.size + 1) (by omega)).trans (unhide HK1)
            have r0 : w2.cell? ⟨w.heap.size + 1, 0, none⟩ = some (.slice none 0 0) := Lib.cell_of_heap k2 0
            have r1 : w2.cell? ⟨w.heap.size + 1, 1, none⟩ = some (.slice none 0 0) := Lib.cell_of_heap k2 1
            have fr := Lib.frozen_of_heap k2
            have OW := hide ow
            have OX := hide ox
            have F2 := hide f2
            have K2 := hide k2
            have B2 := hide (below_next (unhide HB1) b2)
            clear ow ox f2 k2 b2 HB1 HK1 t1 t2 t3 t4
            go_wp2
            refine bodyPost_ret (results_cell_tmp rfl _ _ (w.heap.size + 1) 39 #[_, _] (0, 0) _ _ rfl rfl (putN_full (unhide K2) [_, _] rfl) Tryd.underlying39 rfl (by kernel_rfl)) rfl ?_
            have hn : w.heap.size + 1 ∉ x1 ++ x2 := fun hm => by have := (unhide F2).2 _ hm; omega
            have n1 : w.heap.size + 1 ∉ x1 := fun hm => hn (List.mem_append.2 (.inl hm))
            have n2 : w.heap.size + 1 ∉ x2 := fun hm => hn (List.mem_append.2 (.inr hm))
            refine ⟨_, x1 ++ x2, rfl, ⟨_, _, x1, x2, rfl, (unhide OW).putN n1 [_, _] 0, (unhide OX).putN n2 [_, _] 0, rfl⟩, (unhide F2).mono (by omega), putN_below (g := w.heap.size + 1) (unhide B2) (by omega) [_, _] 0⟩
          · have hC : subC client ptr room = 0 := subC_0 c1 c2 (unhide HZ) c3 c4
            have hH : subH h client ptr room ver = ⟨(canH h client).watches ++ [subW client ptr room ver], h.waiting⟩ := by unfold subH; rw [if_pos hC]
            rw [hH, hC]
            clear hC hH
            go_enter Tryd.func12, Tryd.ntmps12
            go_wp2_with fail
            have hA := new2 w (Obj.cells #[p, q] 39) (Obj.cells #[Value.slice none 0 0, Value.slice none 0 0] 39)
            generalize ((w.alloc (Obj.cells #[p, q] 39)).alloc (Obj.cells #[Value.slice none 0 0, Value.slice none 0 0] 39)) = wA at *
            have hsz := hA.size
            refine (l2IsPtr_walk ptr wA hp).mono ?_
            rintro e w1 ⟨rfl, b1⟩
            have hz1 := b1.size
            have B1 := below_next hA.bel b1
            have k0 := (b1.block w.heap.size (by omega)).trans hA.k0
            have k1 := (b1.block (w.heap.size + 1) (by omega)).trans hA.k1
            have c0 : w1.cell? ⟨w.heap.size, 0, none⟩ = some p := Lib.cell_of_heap k0 0
            have c1' : w1.cell? ⟨w.heap.size, 1, none⟩ = some q := Lib.cell_of_heap k0 1
            have HB1 := hide B1
            have HK0 := hide k0
            have HK1 := hide k1
            have hdr : Below w1.heap.size w1 w1.drew := (Below.refl _ _).drew
            have HF : Hid (∀ wx, Below w1.heap.size w1 wx → Calls Tryd.prog 36 #[.agg #[p, q], .int .i64 client] wx fun e w' => e = .returned (.int .i64 (findI h.watches client)) ∧ Below w1.heap.size w1 w' ∧ Below wx.heap.size wx w') := fun wx hx => (l5Find_walk _ h client _ wx ((unhide HO).below (below_next (unhide HB1) hx))).mono fun e w' ⟨h1, h2⟩ => ⟨h1, below_next hx h2, h2⟩
            have HC : Hid (∀ wx, Below w1.heap.size w1 wx → Calls Tryd.prog 34 #[.agg #[p, q], .int .i64 (findI h.watches client), .int .i64 0] wx fun e w' => ∃ v' bl', e = .returned v' ∧ OHub w' v' (copyH h (findI h.watches client) 0) bl' ∧ Fsh wx.heap.size bl' ∧ Below w1.heap.size w1 w' ∧ Below wx.heap.size wx w') := fun wx hx => (l5Copy_walk _ h (findI h.watches client) 0 _ wx ((unhide HO).below (below_next (unhide HB1) hx)) hs (by omega)).mono fun e w' ⟨v', bl', h1, h2, h3, h4⟩ => ⟨v', bl', h1, h2, h3, below_next hx h4, h4⟩
            have hda : Below w1.heap.size w1 (w1.alloc (Obj.cells #[Value.slice none 0 0, Value.slice none 0 0] 39)).drew := (alloc_b _ _).drew
            have c0a : (w1.alloc (Obj.cells #[Value.slice none 0 0, Value.slice none 0 0] 39)).cell? ⟨w.heap.size, 0, none⟩ = some p := (hda.cell (World.block_lt_of_cell? _ _ c0)).trans c0
            have c1a : (w1.alloc (Obj.cells #[Value.slice none 0 0, Value.slice none 0 0] 39)).cell? ⟨w.heap.size, 1, none⟩ = some q := (hda.cell (World.block_lt_of_cell? _ _ c1')).trans c1'
            have HDR := hide hdr
            have HDA := hide hda
            clear hA b1 B1 k0 k1 hdr hda
            obtain ⟨h', hh'⟩ : ∃ h', canH h client = h' := ⟨_, rfl⟩
            have hcp : copyH h (findI h.watches client) 0 = h' := hh'
            have hlw : h'.watches.length ≤ 1048577 := by
              have h1 : h.watches.length ≤ 1048577 := by unfold szHb szWats at hs; omega
              rw [← hh']
              have := skipT_len h.watches (findI h.watches client) h.watches.length
              simp only [canH]; omega
            have hw' : h'.waiting = h.waiting := by rw [← hh']; rfl
            have HCP := hide hcp
            have HH' := hide hh'
            have HW' := hide hw'
            clear hcp hh' hw'
            rw [unhide HZ]
            go_wp2_with fail
            go_region_law (first
              | (go_simp; refine (unhide HC w2 b2').mono ?_
                 rintro e w3 ⟨v3, b3l, rfl, o3, f3, b3, bx3⟩
                 rw [unhide HCP] at o3
                 obtain ⟨pw, qw, x1, x2, rfl, ow, ox, rfl⟩ := o3
                 obtain ⟨a1, d1, rfl, t1, t2⟩ := ow.form
                 obtain ⟨a2, d2, rfl, t3, t4⟩ := ox.form
                 have hz3 := bx3.size
                 have kG3 := (bx3.block w1.heap.size (by omega)).trans kG
                 have k13 := (b3.block (w.heap.size + 1) (by omega)).trans (unhide HK1)
                 have b3' := below_next (unhide HB1) b3
                 have n1 : w1.heap.size ∉ x1 := fun hm => by have := f3.2 _ (List.mem_append.2 (.inl hm)); (try simp at this); omega
                 have n2 : w1.heap.size ∉ x2 := fun hm => by have := f3.2 _ (List.mem_append.2 (.inr hm)); (try simp at this); omega
                 have hBf : HB w (w1.heap.size) wA.heap.size ((w3.setCell ⟨w1.heap.size, 0, none⟩ (.slice a1 h'.watches.length d1)).setCell ⟨w1.heap.size, 1, none⟩ (.slice a2 h'.waiting.length d2)) (.slice a1 h'.watches.length d1) (.slice a2 h'.waiting.length d2) h'.watches h'.waiting x1 x2 :=
                   ⟨putN_below (g := w1.heap.size) b3' (by omega) [.slice a1 h'.watches.length d1, .slice a2 h'.waiting.length d2] 0, putN_full kG3 [.slice a1 h'.watches.length d1, .slice a2 h'.waiting.length d2] rfl, ow.putN n1 [.slice a1 h'.watches.length d1, .slice a2 h'.waiting.length d2] 0, ox.putN n2 [.slice a1 h'.watches.length d1, .slice a2 h'.waiting.length d2] 0, f3.mono (by first | omega | (simp; omega)), by omega, by omega⟩
                 have hkf : ((w3.setCell ⟨w1.heap.size, 0, none⟩ (.slice a1 h'.watches.length d1)).setCell ⟨w1.heap.size, 1, none⟩ (.slice a2 h'.waiting.length d2)).heap[w.heap.size + 1]? = some (Obj.cells #[Value.slice none 0 0, Value.slice none 0 0] 39) := (putN_other (g := w1.heap.size) (by omega) [.slice a1 h'.watches.length d1, .slice a2 h'.waiting.length d2] 0).trans k13
                 have g0 : w3.cell? ⟨w1.heap.size, 0, none⟩ = some (.slice none 0 0) := Lib.cell_of_heap kG3 0
                 have g1 : w3.cell? ⟨w1.heap.size, 1, none⟩ = some (.slice none 0 0) := Lib.cell_of_heap kG3 1
                 have fg := Lib.frozen_of_heap kG3
                 have hGs : w1.heap.size < ((w3.setCell ⟨w1.heap.size, 0, none⟩ (.slice a1 h'.watches.length d1)).setCell ⟨w1.heap.size, 1, none⟩ (.slice a2 h'.waiting.length d2)).heap.size := by simp [World.setCell]; omega)
              | (go_simp; refine (unhide HC w2 b2').mono ?_
                 rintro e w3 ⟨v3, b3l, rfl, o3, f3, b3, bx3⟩
                 rw [unhide HCP] at o3
                 obtain ⟨pw, qw, x1, x2, rfl, ow, ox, rfl⟩ := o3
                 obtain ⟨a1, d1, rfl, t1, t2⟩ := ow.form
                 obtain ⟨a2, d2, rfl, t3, t4⟩ := ox.form
                 have hz3 := bx3.size
                 have k13 := (b3.block (w.heap.size + 1) (by omega)).trans (unhide HK1)
                 have b3' := below_next (unhide HB1) b3
                 have hBf : HB w w3.heap.size wA.heap.size (w3.alloc (Obj.cells #[.slice a1 h'.watches.length d1, .slice a2 h'.waiting.length d2] 39)) (.slice a1 h'.watches.length d1) (.slice a2 h'.waiting.length d2) h'.watches h'.waiting x1 x2 :=
                   ⟨below_next b3' (alloc_b _ _), heap_alloc_new _ _, ow.below (alloc_b _ _), ox.below (alloc_b _ _), f3.mono (by first | omega | (simp; omega)), by omega, by omega⟩
                 have hkf : (w3.alloc (Obj.cells #[.slice a1 h'.watches.length d1, .slice a2 h'.waiting.length d2] 39)).heap[w.heap.size + 1]? = some (Obj.cells #[Value.slice none 0 0, Value.slice none 0 0] 39) := ((alloc_b w3 (Obj.cells #[.slice a1 h'.watches.length d1, .slice a2 h'.waiting.length d2] 39)).block (w.heap.size + 1) (by omega)).trans k13
                 have hGs : w3.heap.size < (w3.alloc (Obj.cells #[.slice a1 h'.watches.length d1, .slice a2 h'.waiting.length d2] 39)).heap.size := by simp)
              | (go_simp; refine (unhide HC (w2.alloc (Obj.cells #[Value.slice none 0 0, Value.slice none 0 0] 39)) (below_next b2' (alloc_b _ _))).mono ?_
                 rintro e w3 ⟨v3, b3l, rfl, o3, f3, b3, bx3⟩
                 rw [unhide HCP] at o3
                 obtain ⟨pw, qw, x1, x2, rfl, ow, ox, rfl⟩ := o3
                 obtain ⟨a1, d1, rfl, t1, t2⟩ := ow.form
                 obtain ⟨a2, d2, rfl, t3, t4⟩ := ox.form
                 have hz3 := bx3.size
                 simp at hz3
                 have kG3 := (bx3.block w2.heap.size (by simp)).trans (heap_alloc_new w2 (Obj.cells #[Value.slice none 0 0, Value.slice none 0 0] 39))
                 have k13 := (b3.block (w.heap.size + 1) (by omega)).trans (unhide HK1)
                 have b3' := below_next (unhide HB1) b3
                 have n1 : w2.heap.size ∉ x1 := fun hm => by have := f3.2 _ (List.mem_append.2 (.inl hm)); (try simp at this); omega
                 have n2 : w2.heap.size ∉ x2 := fun hm => by have := f3.2 _ (List.mem_append.2 (.inr hm)); (try simp at this); omega
                 have hBf : HB w (w2.heap.size) wA.heap.size ((w3.setCell ⟨w2.heap.size, 0, none⟩ (.slice a1 h'.watches.length d1)).setCell ⟨w2.heap.size, 1, none⟩ (.slice a2 h'.waiting.length d2)) (.slice a1 h'.watches.length d1) (.slice a2 h'.waiting.length d2) h'.watches h'.waiting x1 x2 :=
                   ⟨putN_below (g := w2.heap.size) b3' (by omega) [.slice a1 h'.watches.length d1, .slice a2 h'.waiting.length d2] 0, putN_full kG3 [.slice a1 h'.watches.length d1, .slice a2 h'.waiting.length d2] rfl, ow.putN n1 [.slice a1 h'.watches.length d1, .slice a2 h'.waiting.length d2] 0, ox.putN n2 [.slice a1 h'.watches.length d1, .slice a2 h'.waiting.length d2] 0, f3.mono (by first | omega | (simp; omega)), by omega, by omega⟩
                 have hkf : ((w3.setCell ⟨w2.heap.size, 0, none⟩ (.slice a1 h'.watches.length d1)).setCell ⟨w2.heap.size, 1, none⟩ (.slice a2 h'.waiting.length d2)).heap[w.heap.size + 1]? = some (Obj.cells #[Value.slice none 0 0, Value.slice none 0 0] 39) := (putN_other (g := w2.heap.size) (by omega) [.slice a1 h'.watches.length d1, .slice a2 h'.waiting.length d2] 0).trans k13
                 have g0 : w3.cell? ⟨w2.heap.size, 0, none⟩ = some (.slice none 0 0) := Lib.cell_of_heap kG3 0
                 have g1 : w3.cell? ⟨w2.heap.size, 1, none⟩ = some (.slice none 0 0) := Lib.cell_of_heap kG3 1
                 have fg := Lib.frozen_of_heap kG3
                 have hGs : w2.heap.size < ((w3.setCell ⟨w2.heap.size, 0, none⟩ (.slice a1 h'.watches.length d1)).setCell ⟨w2.heap.size, 1, none⟩ (.slice a2 h'.waiting.length d2)).heap.size := by simp [World.setCell]; omega)
              | (go_simp; refine (unhide HF w1.drew (unhide HDR)).mono ?_
                 rintro e w2 ⟨rfl, b2', bx2⟩
                 have hz2 := b2'.size
                 have k02 := (b2'.block w.heap.size (by omega)).trans (unhide HK0)
                 have c02 : w2.cell? ⟨w.heap.size, 0, none⟩ = some p := Lib.cell_of_heap k02 0
                 have c12 : w2.cell? ⟨w.heap.size, 1, none⟩ = some q := Lib.cell_of_heap k02 1
                 have c02a : (w2.alloc (Obj.cells #[Value.slice none 0 0, Value.slice none 0 0] 39)).cell? ⟨w.heap.size, 0, none⟩ = some p := ((alloc_b w2 (Obj.cells #[Value.slice none 0 0, Value.slice none 0 0] 39)).cell (World.block_lt_of_cell? _ _ c02)).trans c02
                 have c12a : (w2.alloc (Obj.cells #[Value.slice none 0 0, Value.slice none 0 0] 39)).cell? ⟨w.heap.size, 1, none⟩ = some q := ((alloc_b w2 (Obj.cells #[Value.slice none 0 0, Value.slice none 0 0] 39)).cell (World.block_lt_of_cell? _ _ c12)).trans c12)
              | (go_simp; refine (unhide HF (w1.alloc (Obj.cells #[Value.slice none 0 0, Value.slice none 0 0] 39)).drew (unhide HDA)).mono ?_
                 rintro e w2 ⟨rfl, b2', bx2⟩
                 have hz2 := b2'.size
                 have k02 := (b2'.block w.heap.size (by omega)).trans (unhide HK0)
                 have c02 : w2.cell? ⟨w.heap.size, 0, none⟩ = some p := Lib.cell_of_heap k02 0
                 have c12 : w2.cell? ⟨w.heap.size, 1, none⟩ = some q := Lib.cell_of_heap k02 1
                 have kG := (bx2.block w1.heap.size (by simp)).trans (heap_alloc_new w1 (Obj.cells #[Value.slice none 0 0, Value.slice none 0 0] 39))
                 have hzG : w1.heap.size < w2.heap.size := by have := bx2.size; (try simp at this); omega))
            all_goals (
              have HAB1 : Hid (wA.heap.size = w.heap.size + 1 + 1 ∧ wA.heap.size ≤ w1.heap.size ∧ w1.heap.size ≤ w2.heap.size ∧ w2.heap.size ≤ w3.heap.size) := ⟨hsz, hz1, hz2, by first | exact hz3 | omega⟩
              first
                | (have hB1 : HB w w3.heap.size _ _ _ _ _ _ _ _ := hBf
                   clear hB1
                   have HGE : Hid (wA.heap.size ≤ w3.heap.size) := by have := unhide HAB1; exact (by omega : wA.heap.size ≤ w3.heap.size)
                   have HSB : Hid (wA.heap.size ≤ (w3.alloc (Obj.cells #[.slice a1 h'.watches.length d1, .slice a2 h'.waiting.length d2] 39)).heap.size) := by have := unhide HAB1; exact (by simp; omega : wA.heap.size ≤ (w3.alloc (Obj.cells #[.slice a1 h'.watches.length d1, .slice a2 h'.waiting.length d2] 39)).heap.size)
                   generalize w3.alloc (Obj.cells #[.slice a1 h'.watches.length d1, .slice a2 h'.waiting.length d2] 39) = wB at *
                   generalize w3.heap.size = G at *)
                | (have hB1 : HB w w2.heap.size _ _ _ _ _ _ _ _ := hBf
                   clear hB1
                   have HGE : Hid (wA.heap.size ≤ w2.heap.size) := by have := unhide HAB1; exact (by omega : wA.heap.size ≤ w2.heap.size)
                   have HSB : Hid (wA.heap.size ≤ ((w3.setCell ⟨w2.heap.size, 0, none⟩ (.slice a1 h'.watches.length d1)).setCell ⟨w2.heap.size, 1, none⟩ (.slice a2 h'.waiting.length d2)).heap.size) := by have := unhide HAB1; exact (by simp [World.setCell]; omega : wA.heap.size ≤ ((w3.setCell ⟨w2.heap.size, 0, none⟩ (.slice a1 h'.watches.length d1)).setCell ⟨w2.heap.size, 1, none⟩ (.slice a2 h'.waiting.length d2)).heap.size)
                   generalize ((w3.setCell ⟨w2.heap.size, 0, none⟩ (.slice a1 h'.watches.length d1)).setCell ⟨w2.heap.size, 1, none⟩ (.slice a2 h'.waiting.length d2)) = wB at *
                   generalize w2.heap.size = G at *)
                | (have hB1 : HB w w1.heap.size _ _ _ _ _ _ _ _ := hBf
                   clear hB1
                   have HGE : Hid (wA.heap.size ≤ w1.heap.size) := by have := unhide HAB1; exact (by omega : wA.heap.size ≤ w1.heap.size)
                   have HSB : Hid (wA.heap.size ≤ ((w3.setCell ⟨w1.heap.size, 0, none⟩ (.slice a1 h'.watches.length d1)).setCell ⟨w1.heap.size, 1, none⟩ (.slice a2 h'.waiting.length d2)).heap.size) := by have := unhide HAB1; exact (by simp [World.setCell]; omega : wA.heap.size ≤ ((w3.setCell ⟨w1.heap.size, 0, none⟩ (.slice a1 h'.watches.length d1)).setCell ⟨w1.heap.size, 1, none⟩ (.slice a2 h'.waiting.length d2)).heap.size)
                   generalize ((w3.setCell ⟨w1.heap.size, 0, none⟩ (.slice a1 h'.watches.length d1)).setCell ⟨w1.heap.size, 1, none⟩ (.slice a2 h'.waiting.length d2)) = wB at *
                   generalize w1.heap.size = G at *)
              have hz9 := hBf.bel.size
              have hfs := hBf.fs
              have hAs : wA.heap.size ≤ wB.heap.size := unhide HSB
              have hE0 := alloc_b wB (Obj.cells #[] 115)
              have kE := heap_alloc_new wB (Obj.cells #[] 115)
              have hsE : (wB.alloc (Obj.cells #[] 115)).heap.size = wB.heap.size + 1 := by simp
              have hE1 := alloc_b (wB.alloc (Obj.cells #[] 115)) (Obj.cells #[.int .i64 client, .string ptr, .int .i64 room, .int .i64 ver, .bool false, .slice (some ⟨wB.heap.size, 0, none⟩) 0 0] 72)
              have kE2 := (hE1.block wB.heap.size (by omega)).trans kE
              have hB3 := hBf.below (below_next hE0 hE1)
              have OE : ORow msgE ((wB.alloc (Obj.cells #[] 115)).alloc (Obj.cells #[.int .i64 client, .string ptr, .int .i64 room, .int .i64 ver, .bool false, .slice (some ⟨wB.heap.size, 0, none⟩) 0 0] 72)) (.slice (some ⟨wB.heap.size, 0, none⟩) 0 0) [] [wB.heap.size] :=
                ⟨[], rfl, fun _ _ _ h => by simp at h, ⟨by simp, .inr ⟨wB.heap.size, 0, #[], rfl, Nat.zero_le _, kE2, Nat.zero_le _, Nat.zero_le _, by simp, by simp⟩⟩, rfl⟩
              have E3 : Hid (watE.E ((wB.alloc (Obj.cells #[] 115)).alloc (Obj.cells #[.int .i64 client, .string ptr, .int .i64 room, .int .i64 ver, .bool false, .slice (some ⟨wB.heap.size, 0, none⟩) 0 0] 72)) [.int .i64 client, .string ptr, .int .i64 room, .int .i64 ver, .bool false, .slice (some ⟨wB.heap.size, 0, none⟩) 0 0] (subW client ptr room ver) [wB.heap.size]) := ⟨_, rfl, OE⟩
              have O3 := hide hB3.o1
              have HF3 : Hid (Fsh wA.heap.size x1) := ⟨(List.nodup_append.1 hfs.1).1, fun b hb => hfs.2 b (List.mem_append.2 (.inl hb))⟩
              have HFI2 : Hid (Fsh wA.heap.size [wB.heap.size]) := ⟨by simp, fun b hb => by simp at hb; omega⟩
              have HAP : Hid (∀ b ∈ [wB.heap.size], b ∉ x1) := fun b hb hm => by simp at hb; have := hBf.o1.lt b hm; omega
              have HAP2 : Hid (∀ b ∈ [wB.heap.size], b ∉ x2) := fun b hb hm => by simp at hb; have := hBf.o2.lt b hm; omega
              have HONE : Hid (∀ u ∈ [Value.int .i64 client, .string ptr, .int .i64 room, .int .i64 ver, .bool false, .slice (some ⟨wB.heap.size, 0, none⟩) 0 0], u.oneCell' = true) := fun u hu => by simp at hu; rcases hu with rfl | rfl | rfl | rfl | rfl | rfl <;> rfl
              have HLC : Hid (∀ (j : Nat) (u : Value), [Value.int .i64 client, .string ptr, .int .i64 room, .int .i64 ver, .bool false, .slice (some ⟨wB.heap.size, 0, none⟩) 0 0][j]? = some u → ((wB.alloc (Obj.cells #[] 115)).alloc (Obj.cells #[.int .i64 client, .string ptr, .int .i64 room, .int .i64 ver, .bool false, .slice (some ⟨wB.heap.size, 0, none⟩) 0 0] 72)).cell? ((⟨wB.heap.size + 1, 0, none⟩ : Addr).add j) = some u) := fun j u hu => by
                have := lit_cells (wB.alloc (Obj.cells #[] 115)) [Value.int .i64 client, .string ptr, .int .i64 room, .int .i64 ver, .bool false, .slice (some ⟨wB.heap.size, 0, none⟩) 0 0] 72 j u hu
                rw [hsE] at this; exact this
              have HC3 := hide hB3
              have K3 := hide (((below_next hE0 hE1).block (w.heap.size + 1) (by omega)).trans hkf)
              have cO1 : wB.cell? ⟨G, 0, none⟩ = some (.slice a1 h'.watches.length d1) := Lib.cell_of_heap hBf.ko 0
              have hGl := hGs
              have HGS := hide hGs
              have hz2w : w.heap.size + 1 + 1 ≤ wB.heap.size := by have := hsz; omega
              clear hBf hkf hGs ow ox f3 b3 bx3 t1 t2 t3 t4 hE0 kE hsE hE1 kE2 hB3 OE hfs b2' bx2 k02 c02 c12 HC HF c0 c1' c0a c1a HDR HDA HB1 HK0 HK1 HO hGl
              go_wp2_with (at_builtin; refine wpList_append_elem (e := watE) wat_ty (by decide) Tryd.underlying36 infoWat rfl (by decide) (by decide) rfl (.tmp 40) (.tmp 47) rfl (B := wA.heap.size) rfl (unhide O3) (unhide HF3) (unhide E3) (unhide HFI2) (unhide HAP) rfl (by exact unhide HLC) (by exact unhide HONE) (by simp; omega) (by omega) ?_)
              intro v' w9 bl' o4 f4 m4 hg4
              obtain ⟨va, vc, rfl, hv1, hv2⟩ := o4.form
              have ko3 := (unhide HC3).koW hg4
              have cO3 : w9.cell? ⟨G, 0, none⟩ = some (.slice a1 h'.watches.length d1) := Lib.cell_of_heap ko3 0
              have fO3 := Lib.frozen_of_heap ko3
              have f4' : Fsh wA.heap.size bl' := by rw [hsz]; exact f4
              have hn := (unhide HC3).watch (ib := [wB.heap.size]) hg4 o4 f4' (fun b hb => by simpa using m4 b hb) (unhide HAP2)
              have kR4 := (hg4.block (w.heap.size + 1) (by simp; omega) fun e => by have := (unhide HF3).2 _ ((unhide O3).head e.symm); omega).trans (unhide K3)
              have hGne : w.heap.size + 1 ≠ G := by have := unhide HGE; omega
              have kR5 : (w9.setCell ⟨G, 0, none⟩ (.slice va (h'.watches ++ [subW client ptr room ver]).length vc)).heap[w.heap.size + 1]? = _ := (Below.heap_setCell _ _ _ _ hGne).trans kR4
              rw [List.length_append, List.length_singleton] at hn kR5
              have HN := hide hn
              have d0 : (w9.setCell ⟨G, 0, none⟩ (.slice va (h'.watches.length + 1) vc)).cell? ⟨G, 0, none⟩ = some (.slice va (h'.watches.length + 1) vc) := Lib.cell_of_heap hn.ko 0
              have d1' : (w9.setCell ⟨G, 0, none⟩ (.slice va (h'.watches.length + 1) vc)).cell? ⟨G, 1, none⟩ = some (.slice a2 h'.waiting.length d2) := Lib.cell_of_heap hn.ko 1
              have r0 : (w9.setCell ⟨G, 0, none⟩ (.slice va (h'.watches.length + 1) vc)).cell? ⟨w.heap.size + 1, 0, none⟩ = some (.slice none 0 0) := Lib.cell_of_heap kR5 0
              have r1 : (w9.setCell ⟨G, 0, none⟩ (.slice va (h'.watches.length + 1) vc)).cell? ⟨w.heap.size + 1, 1, none⟩ = some (.slice none 0 0) := Lib.cell_of_heap kR5 1
              have fr := Lib.frozen_of_heap kR5
              have HKR := hide kR5
              clear o4 f4 f4' m4 hg4 hv1 hv2 ko3 HC3 HONE HAP2 HAP HFI2 E3 O3 HLC cO1 kR4 kR5 hn K3 HF3
              go_wp2_with fail
              generalize w9.setCell ⟨G, 0, none⟩ (.slice va (h'.watches.length + 1) vc) = wF at *
              refine bodyPost_ret (results_cell_tmp rfl _ _ (w.heap.size + 1) 39 #[_, _] (0, 0) _ _ rfl rfl (putN_full (unhide HKR) [_, _] rfl) Tryd.underlying39 rfl (by kernel_rfl)) rfl ?_
              have hn9 := unhide HN
              have hno : w.heap.size + 1 ∉ bl' ++ x2 := fun hm => by have := hn9.fs.2 _ hm; omega
              have nn1 : w.heap.size + 1 ∉ bl' := fun hm => hno (List.mem_append.2 (.inl hm))
              have nn2 : w.heap.size + 1 ∉ x2 := fun hm => hno (List.mem_append.2 (.inr hm))
              rw [unhide HH', ← unhide HW']
              exact ⟨_, bl' ++ x2, rfl, ⟨_, _, bl', x2, rfl, hn9.o1.putN nn1 [_, _] 0, hn9.o2.putN nn2 [_, _] 0, rfl⟩, hn9.fs.mono (by omega), putN_below (g := w.heap.size + 1) hn9.bel (by omega) [_, _] 0⟩)
end Go.Proofs.YtbcfkkicmmhhcaaDoor
