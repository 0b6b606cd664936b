import Derived.Test.YtbcfkkicmmhhcaaDoorBd25
namespace Go.Proofs.YtbcfkkicmmhhcaaDoor
open Go.RowKit

set_option maxHeartbeats 400000 in
set_option maxRecDepth 100000 in
theorem cellMsg_walk (g o : Nat) (cv : Value) (f c : Nat) (ms q : List Msg) (cb : List Nat) (i : Nat) (w : World) (h : RingAt msgE w g o cv f c ms q cb) (hi : i < ms.length) (hm : ms.length ≤ 4000000) :
    Calls Tryd.prog 121 #[.pointer (some ⟨g, o, none⟩), .int .i64 i] w fun e w' => ∃ gc, e = .returned (.pointer (some ⟨gc, (f + i) % ms.length * 3, none⟩)) ∧ cv.ownBlock = some gc ∧ ∃ n, w' = w.drewN n := by
  obtain ⟨xa, xc, rfl, hx1, hx2⟩ := h.row.form
  obtain ⟨gc, rfl⟩ := hx2 (by omega)
  have c0 := h.c0
  have c1 := h.c1
  have c2 := h.c2
  have hf : f < ms.length := by rcases h.ring.lt with h1 | h1; exact h1; rw [h1] at hi; simp at hi
  have hr : (f + i) % ms.length < ms.length := Nat.mod_lt _ (by omega)
  have t2 : ((f : Int) + (i : Int)) % (ms.length : Int) = (((f + i) % ms.length : Nat) : Int) := by rw [Int.natCast_emod, Int.natCast_add]
  have t1 : ((f : Int) + (i : Int)).tmod (ms.length : Int) = (((f + i) % ms.length : Nat) : Int) := by rw [Int.tmod_eq_emod_of_nonneg (by omega)]; exact t2
  have nz : ((ms.length : Int) = 0) = False := eq_false (by omega)
  have nz' : (ms.length = 0) = False := eq_false (by omega)
  generalize (f + i) % ms.length = r at *
  have i1 : (0 : Int) ≤ (r : Int) := by omega
  have i2 : (r : Int) < (ms.length : Int) := by omega
  clear h hx1 hx2
  go_enter Tryd.func121, Tryd.ntmps121
  go_wp2
  go_quiet (fail)
  go_wp2
  go_ret
  exact ⟨gc, rfl, rfl, _, rfl⟩
set_option maxHeartbeats 800000 in
set_option maxRecDepth 100000 in
theorem listMsg_walk (g o : Nat) (cv : Value) (f c : Nat) (ms q : List Msg) (cb : List Nat) (w : World) (h : RingAt msgE w g o cv f c ms q cb) (hm : ms.length ≤ 4000000) :
    Calls Tryd.prog 103 #[.pointer (some ⟨g, o, none⟩)] w fun e w' => ∃ v' cb', e = .returned v' ∧ ORow msgE w' v' q (v'.ownBlock.toList ++ cb') ∧ (∀ g, v'.ownBlock = some g → w.heap.size ≤ g) ∧ (∀ b ∈ cb', b ∈ cb) ∧ Below w.heap.size w w' := by
  have hcq := h.ring.cnt
  have hle := h.ring.le
  have c2 := h.c2
  have H := hide h
  clear h
  go_enter Tryd.func103, Tryd.ntmps103
  go_wp2
  go_loopw [3, 9] (fun lv i wr => ∃ k : Nat, k ≤ q.length ∧ i = .int .i64 (k : Int) ∧ Below w.heap.size w wr ∧ ∃ cb', ORow msgE wr lv (q.take k) (lv.ownBlock.toList ++ cb') ∧ (∀ g, lv.ownBlock = some g → w.heap.size ≤ g) ∧ ∀ b ∈ cb', b ∈ cb) (fun _ i _ => q.length - (intOf i).toNat)
  case atStart => exact ⟨0, Nat.zero_le _, rfl, Below.refl _ _, [], ORow.nil _ _, fun g hg => by simp [Value.ownBlock] at hg, fun b hb => by simp at hb⟩
  case round =>
    obtain ⟨k, hk, rfl, hb, cb', ho, hB, hsub⟩ := hrel
    by_cases hlt : k < q.length
    · have hR := (unhide H).below hb
      have hkm : k < ms.length := by omega
      have hat := hR.ring.at_ k q[k] (List.getElem?_eq_getElem hlt)
      have HC := hide (cellMsg_walk g o cv f c ms q cb k wr hR hkm hm)
      obtain ⟨xa, xc, hcv, hx1, hx2⟩ := hR.row.form
      obtain ⟨gc, rfl⟩ := hx2 (by omega)
      have hrow := hR.row
      rw [hcv] at hrow
      obtain ⟨vs, ib, hE, hc, hibs, _, _⟩ := hrow.at hat
      have hE0 := hE
      obtain ⟨qv, hvs, hq⟩ := hE0
      subst hvs
      obtain ⟨ya, yc, rfl, hy1, hy2⟩ := hq.form
      generalize hr : (f + k) % ms.length = r at *
      have hone := msg_ones hE
      have hibc : ∀ b ∈ ib, b ∈ cb := fun b hb => by
        rcases List.mem_append.1 (hibs b hb) with h1 | h1
        · exfalso
          obtain ⟨cs, hcs⟩ := hrow.own
          exact (msg_ty hE).not hcs (by decide) (by simpa using h1) hb
        · exact h1
      have hnx : q.take (k + 1) = q.take k ++ [q[k]] := by rw [List.take_add_one, List.getElem?_eq_getElem hlt]; rfl
      have hll : (q.take k).length = k := by rw [List.length_take]; omega
      have c0' : wr.cell? ⟨gc, r * 3, none⟩ = _ := (hc 0 _ rfl).1
      have c1' : wr.cell? ⟨gc, r * 3 + 1, none⟩ = _ := (hc 1 _ rfl).1
      have c2' : wr.cell? ⟨gc, r * 3 + 2, none⟩ = _ := (hc 2 _ rfl).1
      have HE := hide hE
      have HO := hide ho
      have HB := hide hb
      have HBB := hide hB
      have HS := hide hsub
      have HI := hide hibc
      have HNX := hide hnx
      have HLL := hide hll
      have HON := hide hone
      have hob : cv.ownBlock = some gc := by rw [hcv]; rfl
      have HOB := hide hob
      clear hR hat hcv hx1 hx2 hrow hc hibs hE hq hy1 hy2 ho hb hB hsub hibc hnx hll hone hob hr
      go_wp2_with fail
      refine (unhide HC).mono ?_
      rintro e w1 ⟨gd, rfl, hgd, n1, rfl⟩
      have hge : gd = gc := by rw [unhide HOB] at hgd; exact (Option.some.inj hgd).symm
      subst hge
      have d0 : (wr.drewN n1).cell? ⟨gd, r * 3, none⟩ = _ := c0'
      have d1 : (wr.drewN n1).cell? ⟨gd, r * 3 + 1, none⟩ = _ := c1'
      have d2 : (wr.drewN n1).cell? ⟨gd, r * 3 + 2, none⟩ = _ := c2'
      have hdb : Below wr.heap.size wr (wr.drewN n1) := draws_b wr n1
      have hab := alloc_b (wr.drewN n1) (.cells #[.int .i64 q[k].ver, .slice ya q[k].ptrs.length yc, .bool q[k].over] 115)
      have hbb := below_next hdb hab
      have O3 := hide ((unhide HO).below hbb)
      have E3 := hide (msgE.keep (unhide HE) (.of_below hbb (msgE.lt (unhide HE))))
      have HB3 := hide (below_next (unhide HB) hbb)
      clear hgd hdb hab hbb HC HO HE HB c0' c1' c2'
      generalize wr.drewN n1 = wd at *
      go_wp2_with (at_builtin; refine wpList_append_elem2 (e := msgE) msg_ty (by decide) Tryd.underlying70 infoMsg rfl (by decide) (by decide) rfl (.tmp 12) (.tmp 18) rfl (B := w.heap.size) rfl (unhide O3) (unhide HBB) (unhide E3) rfl (lit_cells wd [_, _, _] _) (unhide HON) (by have := (unhide HB3).size; simpa using this) (by rw [unhide HLL]; omega) ?_)
      intro v' w3 o4 hB4 hg4
      try rw [← unhide HNX] at o4
      have HB4 := hide ((unhide HB3).grown hg4 (unhide HB3).size (fun j hj => unhide HBB j hj))
      have HO4 := hide o4
      have HBB4 := hide hB4
      have HS4 : Hid (∀ b ∈ cb' ++ ib, b ∈ cb) := fun b hb => by
        rcases List.mem_append.1 hb with h1 | h1
        · exact unhide HS b h1
        · exact unhide HI b h1
      clear o4 hB4 hg4 O3 E3 HB3 d0 d1 d2 HBB HS HI HON
      go_wp2
      go_roundw
      case rel => exact ⟨k + 1, by omega, by go_num, unhide HB4, _, unhide HO4, unhide HBB4, unhide HS4⟩
      case measure => simp [intOf]; omega
    · have hk' : k = q.length := by omega
      subst hk'
      rw [List.take_length] at ho
      have HO := hide ho
      have HB := hide hb
      have HBB := hide hB
      have HS := hide hsub
      clear ho hb hB hsub
      go_wp2
      go_ret
      exact ⟨_, cb', rfl, unhide HO, unhide HBB, unhide HS, unhide HB⟩
set_option maxHeartbeats 400000 in
set_option maxRecDepth 100000 in
theorem cellNws_walk (g o : Nat) (cv : Value) (f c : Nat) (ms q : List Nws) (cb : List Nat) (i : Nat) (w : World) (h : RingAt nwsE w g o cv f c ms q cb) (hi : i < ms.length) (hm : ms.length ≤ 4000000) :
    Calls Tryd.prog 105 #[.pointer (some ⟨g, o, none⟩), .int .i64 i] w fun e w' => ∃ gc, e = .returned (.pointer (some ⟨gc, (f + i) % ms.length * 2, none⟩)) ∧ cv.ownBlock = some gc ∧ ∃ n, w' = w.drewN n := by
  obtain ⟨xa, xc, rfl, hx1, hx2⟩ := h.row.form
  obtain ⟨gc, rfl⟩ := hx2 (by omega)
  have c0 := h.c0
  have c1 := h.c1
  have c2 := h.c2
  have hf : f < ms.length := by rcases h.ring.lt with h1 | h1; exact h1; rw [h1] at hi; simp at hi
  have hr : (f + i) % ms.length < ms.length := Nat.mod_lt _ (by omega)
  have t2 : ((f : Int) + (i : Int)) % (ms.length : Int) = (((f + i) % ms.length : Nat) : Int) := by rw [Int.natCast_emod, Int.natCast_add]
  have t1 : ((f : Int) + (i : Int)).tmod (ms.length : Int) = (((f + i) % ms.length : Nat) : Int) := by rw [Int.tmod_eq_emod_of_nonneg (by omega)]; exact t2
  have nz : ((ms.length : Int) = 0) = False := eq_false (by omega)
  have nz' : (ms.length = 0) = False := eq_false (by omega)
  generalize (f + i) % ms.length = r at *
  have i1 : (0 : Int) ≤ (r : Int) := by omega
  have i2 : (r : Int) < (ms.length : Int) := by omega
  clear h hx1 hx2
  go_enter Tryd.func105, Tryd.ntmps105
  go_wp2
  go_quiet (fail)
  go_wp2
  go_ret
  exact ⟨gc, rfl, rfl, _, rfl⟩
set_option maxHeartbeats 800000 in
set_option maxRecDepth 100000 in
theorem listNws_walk (g o : Nat) (cv : Value) (f c : Nat) (ms q : List Nws) (cb : List Nat) (w : World) (h : RingAt nwsE w g o cv f c ms q cb) (hm : ms.length ≤ 4000000) :
    Calls Tryd.prog 71 #[.pointer (some ⟨g, o, none⟩)] w fun e w' => ∃ v' cb', e = .returned v' ∧ ORow nwsE w' v' q (v'.ownBlock.toList ++ cb') ∧ (∀ g, v'.ownBlock = some g → w.heap.size ≤ g) ∧ (∀ b ∈ cb', b ∈ cb) ∧ Below w.heap.size w w' := by
  have hcq := h.ring.cnt
  have hle := h.ring.le
  have c2 := h.c2
  have H := hide h
  clear h
  go_enter Tryd.func71, Tryd.ntmps71
  go_wp2
  go_loopw [3, 9] (fun lv i wr => ∃ k : Nat, k ≤ q.length ∧ i = .int .i64 (k : Int) ∧ Below w.heap.size w wr ∧ ∃ cb', ORow nwsE wr lv (q.take k) (lv.ownBlock.toList ++ cb') ∧ (∀ g, lv.ownBlock = some g → w.heap.size ≤ g) ∧ ∀ b ∈ cb', b ∈ cb) (fun _ i _ => q.length - (intOf i).toNat)
  case atStart => exact ⟨0, Nat.zero_le _, rfl, Below.refl _ _, [], ORow.nil _ _, fun g hg => by simp [Value.ownBlock] at hg, fun b hb => by simp at hb⟩
  case round =>
    obtain ⟨k, hk, rfl, hb, cb', ho, hB, hsub⟩ := hrel
    by_cases hlt : k < q.length
    · have hR := (unhide H).below hb
      have hkm : k < ms.length := by omega
      have hat := hR.ring.at_ k q[k] (List.getElem?_eq_getElem hlt)
      have HC := hide (cellNws_walk g o cv f c ms q cb k wr hR hkm hm)
      obtain ⟨xa, xc, hcv, hx1, hx2⟩ := hR.row.form
      obtain ⟨gc, rfl⟩ := hx2 (by omega)
      have hrow := hR.row
      rw [hcv] at hrow
      obtain ⟨vs, ib, hE, hc, hibs, _, _⟩ := hrow.at hat
      have hE0 := hE
      obtain ⟨qv, hvs, hq⟩ := hE0
      subst hvs
      obtain ⟨ya, yc, rfl, hy1, hy2⟩ := hq.form
      generalize hr : (f + k) % ms.length = r at *
      have hone := nws_ones hE
      have hibc : ∀ b ∈ ib, b ∈ cb := fun b hb => by
        rcases List.mem_append.1 (hibs b hb) with h1 | h1
        · exfalso
          obtain ⟨cs, hcs⟩ := hrow.own
          exact (nws_ty hE).not hcs (by decide) (by simpa using h1) hb
        · exact h1
      have hnx : q.take (k + 1) = q.take k ++ [q[k]] := by rw [List.take_add_one, List.getElem?_eq_getElem hlt]; rfl
      have hll : (q.take k).length = k := by rw [List.length_take]; omega
      have c0' : wr.cell? ⟨gc, r * 2, none⟩ = _ := (hc 0 _ rfl).1
      have c1' : wr.cell? ⟨gc, r * 2 + 1, none⟩ = _ := (hc 1 _ rfl).1
      have HE := hide hE
      have HO := hide ho
      have HB := hide hb
      have HBB := hide hB
      have HS := hide hsub
      have HI := hide hibc
      have HNX := hide hnx
      have HLL := hide hll
      have HON := hide hone
      have hob : cv.ownBlock = some gc := by rw [hcv]; rfl
      have HOB := hide hob
      clear hR hat hcv hx1 hx2 hrow hc hibs hE hq hy1 hy2 ho hb hB hsub hibc hnx hll hone hob hr
      go_wp2_with fail
      refine (unhide HC).mono ?_
      rintro e w1 ⟨gd, rfl, hgd, n1, rfl⟩
      have hge : gd = gc := by rw [unhide HOB] at hgd; exact (Option.some.inj hgd).symm
      subst hge
      have d0 : (wr.drewN n1).cell? ⟨gd, r * 2, none⟩ = _ := c0'
      have d1 : (wr.drewN n1).cell? ⟨gd, r * 2 + 1, none⟩ = _ := c1'
      have hdb : Below wr.heap.size wr (wr.drewN n1) := draws_b wr n1
      have hab := alloc_b (wr.drewN n1) (.cells #[.int .i64 q[k].ver, .slice ya q[k].ptrs.length yc] 85)
      have hbb := below_next hdb hab
      have O3 := hide ((unhide HO).below hbb)
      have E3 := hide (nwsE.keep (unhide HE) (.of_below hbb (nwsE.lt (unhide HE))))
      have HB3 := hide (below_next (unhide HB) hbb)
      clear hgd hdb hab hbb HC HO HE HB c0' c1'
      generalize wr.drewN n1 = wd at *
      go_wp2_with (at_builtin; refine wpList_append_elem2 (e := nwsE) nws_ty (by decide) Tryd.underlying37 infoNws rfl (by decide) (by decide) rfl (.tmp 12) (.tmp 18) rfl (B := w.heap.size) rfl (unhide O3) (unhide HBB) (unhide E3) rfl (lit_cells wd [_, _] _) (unhide HON) (by have := (unhide HB3).size; simpa using this) (by rw [unhide HLL]; omega) ?_)
      intro v' w3 o4 hB4 hg4
      try rw [← unhide HNX] at o4
      have HB4 := hide ((unhide HB3).grown hg4 (unhide HB3).size (fun j hj => unhide HBB j hj))
      have HO4 := hide o4
      have HBB4 := hide hB4
      have HS4 : Hid (∀ b ∈ cb' ++ ib, b ∈ cb) := fun b hb => by
        rcases List.mem_append.1 hb with h1 | h1
        · exact unhide HS b h1
        · exact unhide HI b h1
      clear o4 hB4 hg4 O3 E3 HB3 d0 d1 HBB HS HI HON
      go_wp2
      go_roundw
      case rel => exact ⟨k + 1, by omega, by go_num, unhide HB4, _, unhide HO4, unhide HBB4, unhide HS4⟩
      case measure => simp [intOf]; omega
    · have hk' : k = q.length := by omega
      subst hk'
      rw [List.take_length] at ho
      have HO := hide ho
      have HB := hide hb
      have HBB := hide hB
      have HS := hide hsub
      clear ho hb hB hsub
      go_wp2
      go_ret
      exact ⟨_, cb', rfl, unhide HO, unhide HBB, unhide HS, unhide HB⟩
end Go.Proofs.YtbcfkkicmmhhcaaDoor
