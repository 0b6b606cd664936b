import Derived.Test.YtbcfkkicmmhhcaaDoorCancel
import Derived.Test.YtbcfkkicmmhhcaaDoorClashI
namespace Go.Proofs.YtbcfkkicmmhhcaaDoor
open Go.RowKit

/-- The watch that Subscribe makes, its code and what it leaves of a hub. -/
def subW (c : Int) (p : ByteArray) (r v : Int) : Wat := ⟨c, p, r, v, false, []⟩
def subC (c : Int) (p : ByteArray) (r : Int) : Int := if c < 0 ∨ 8 ≤ c then 1 else if (ptoks p.data.toList).isSome = false then 2 else if r < 1 ∨ 100 < r then 3 else 0
def subH (h : Hb) (c : Int) (p : ByteArray) (r v : Int) : Hb := if subC c p r = 0 then ⟨(canH h c).watches ++ [subW c p r v], h.waiting⟩ else h
theorem subH_no {h : Hb} {c : Int} {p : ByteArray} {r v k : Int} (hk : subC c p r = k) (h0 : k ≠ 0) : subH h c p r v = h := by
  unfold subH; rw [hk, if_neg h0]
theorem subC_1 {c : Int} {p : ByteArray} {r : Int} (h : c < 0 ∨ 8 ≤ c) : subC c p r = 1 := by unfold subC; rw [if_pos h]
theorem subC_2 {c : Int} {p : ByteArray} {r : Int} (h : ¬ c < 0) (h' : ¬ 8 ≤ c) (hz : (ptoks p.data.toList).isSome = false) : subC c p r = 2 := by
  unfold subC; rw [if_neg (by omega), if_pos hz]
theorem subC_3 {c : Int} {p : ByteArray} {r : Int} (h : ¬ c < 0) (h' : ¬ 8 ≤ c) (hz : (ptoks p.data.toList).isSome = true) (h3 : r < 1 ∨ 100 < r) : subC c p r = 3 := by
  unfold subC; rw [if_neg (by omega), if_neg (by simp [hz]), if_pos h3]
theorem subC_0 {c : Int} {p : ByteArray} {r : Int} (h : ¬ c < 0) (h' : ¬ 8 ≤ c) (hz : (ptoks p.data.toList).isSome = true) (h3 : ¬ r < 1) (h4 : ¬ 100 < r) : subC c p r = 0 := by
  unfold subC; rw [if_neg (by omega), if_neg (by simp [hz]), if_neg (by omega)]

set_option maxHeartbeats 1600000 in
set_option maxRecDepth 100000 in
theorem subBrd_walk (B : Nat) (h : Hb) (pv cv : Value) (f c : Nat) (ns : List Nws) (cb bw : List Nat) (client : Int) (ptr : ByteArray) (room ver : Int) (w : World) (hb : Brd w B h pv cv f c ns cb bw) (hML : ML w) (hp : ptr.size ≤ 1048576) (D : Nat) (hB : D ≤ B) (hpv : ∀ g, pv.ownBlock = some g → D ≤ g) (hD : D ≤ w.heap.size) (hl : h.watches.length ≤ 1048577) :
    Calls Tryd.prog 40 #[.pointer (some ⟨B, 0, none⟩), .int .i64 client, .string ptr, .int .i64 room, .int .i64 ver] w fun e w' => Below D w w' ∧ ∃ pv' bw', e = .returned (.int .i64 (subC client ptr room)) ∧ Brd w' B (subH h client ptr room ver) pv' cv f c ns cb bw' := by
  have HBD := hide hb
  have HPV := hide hpv
  have HPT := hide (isPtr_walk ptr w hML hp)
  clear hb hpv hML
  obtain ⟨z, hz⟩ : ∃ z, (ptoks ptr.data.toList).isSome = z := ⟨_, rfl⟩
  rw [hz] at HPT
  have HZ := hide hz
  clear hz
  by_cases c1 : client < 0
  · have hC : subC client ptr room = 1 := subC_1 (.inl c1)
    rw [subH_no hC (by omega), hC]
    clear hC
    go_enter Tryd.func40, Tryd.ntmps40
    go_wp2
    go_ret
    first
      | exact ⟨Below.refl _ _, _, _, rfl, unhide HBD⟩
      | exact ⟨Below.refl _ _, rfl, _, _, unhide HBD⟩
  · by_cases c2 : 8 ≤ client
    · have hC : subC client ptr room = 1 := subC_1 (.inr c2)
      rw [subH_no hC (by omega), hC]
      clear hC
      go_enter Tryd.func40, Tryd.ntmps40
      go_wp2
      go_ret
      first
        | exact ⟨Below.refl _ _, _, _, rfl, unhide HBD⟩
        | exact ⟨Below.refl _ _, rfl, _, _, unhide HBD⟩
    · cases z
      · have hC : subC client ptr room = 2 := subC_2 c1 c2 (unhide HZ)
        rw [subH_no hC (by omega), hC]
        clear hC
        go_enter Tryd.func40, Tryd.ntmps40
        go_wp2_with fail
        refine (unhide HPT).mono ?_
        rintro e w1 ⟨rfl, b1⟩
        have B1 := hide b1
        clear b1 HPT
        go_wp2
        go_ret
        exact ⟨(unhide B1).mono hD, _, _, rfl, (unhide HBD).below (unhide B1)⟩
      · by_cases c3 : room < 1
        · have hC : subC client ptr room = 3 := subC_3 c1 c2 (unhide HZ) (.inl c3)
          rw [subH_no hC (by omega), hC]
          clear hC
          go_enter Tryd.func40, Tryd.ntmps40
          go_wp2_with fail
          refine (unhide HPT).mono ?_
          rintro e w1 ⟨rfl, b1⟩
          have B1 := hide b1
          clear b1 HPT
          go_wp2
          go_ret
          exact ⟨(unhide B1).mono hD, _, _, rfl, (unhide HBD).below (unhide B1)⟩
        · by_cases c4 : 100 < room
          · have hC : subC client ptr room = 3 := subC_3 c1 c2 (unhide HZ) (.inr c4)
            rw [subH_no hC (by omega), hC]
            clear hC
            go_enter Tryd.func40, Tryd.ntmps40
            go_wp2_with fail
            refine (unhide HPT).mono ?_
            rintro e w1 ⟨rfl, b1⟩
            have B1 := hide b1
            clear b1 HPT
            go_wp2
            go_ret
            exact ⟨(unhide B1).mono hD, _, _, rfl, (unhide HBD).below (unhide B1)⟩
          · have hC : subC client ptr room = 0 := subC_0 c1 c2 (unhide HZ) c3 c4
            have hH : subH h client ptr room ver = ⟨(canH h client).watches ++ [subW client ptr room ver], h.waiting⟩ := by unfold subH; rw [if_pos hC]
            rw [hH, hC]
            clear hC hH
            go_enter Tryd.func40, Tryd.ntmps40
            go_wp2_with fail
            refine (unhide HPT).mono ?_
            rintro e w1 ⟨rfl, b1⟩
            have hz1 := b1.size
            have HC := hide (cancelBrd_walk B h pv cv f c ns cb bw client w1 ((unhide HBD).below b1) D hB (unhide HPV) (by omega) hl)
            have B1 := hide (b1.mono hD)
            clear b1 HPT
            go_wp2_with fail
            refine (unhide HC).mono ?_
            rintro e w2 ⟨b2, pv', bw', hpv', hcase⟩
            obtain ⟨h', cd, hh', rfl, hB2, hl'⟩ : ∃ h' cd, canH h client = h' ∧ e = .returned (.int .i64 cd) ∧ Brd w2 B h' pv' cv f c ns cb bw' ∧ h'.watches.length ≤ 1048577 := by
              rcases hcase with ⟨h0, he, hb⟩ | ⟨j, hj, h0, he, hb⟩
              · exact ⟨h, 1, canH_none h0, he, hb, hl⟩
              · exact ⟨_, 0, canH_some h0, he, hb, by have : (h.watches.eraseIdx j).length ≤ h.watches.length := List.length_eraseIdx_le _ _; simp only; omega⟩
            have hw' : h'.waiting = h.waiting := by rw [← hh']; rfl
            have HH' := hide hh'
            have BD2 := hide hB2
            have B2 := hide ((unhide B1).trans b2)
            have HPV' := hide hpv'
            have HW' := hide hw'
            clear b2 hcase hB2 HC B1 hh' hpv' hw'
            obtain ⟨pa, pc, rfl, hp1, hp2⟩ := (unhide BD2).o1.form
            obtain ⟨cbk, rfl⟩ := (unhide BD2).o1.split
            have hab := alloc_b w2 (.cells #[.int .i64 client, .string ptr, .int .i64 room, .int .i64 ver, .bool false, .slice none 0 0] 72)
            have kM := heap_alloc_new w2 (.cells #[.int .i64 client, .string ptr, .int .i64 room, .int .i64 ver, .bool false, .slice none 0 0] 72)
            have hs5 : (w2.alloc (.cells #[.int .i64 client, .string ptr, .int .i64 room, .int .i64 ver, .bool false, .slice none 0 0] 72)).heap.size = w2.heap.size + 1 := by simp
            have b5 := (unhide BD2).below hab
            have B5 := hide ((unhide B2).trans (hab.mono (by have := (unhide B2).size; omega)))
            have hDs : D ≤ w2.heap.size := by have := (unhide B2).size; omega
            have KM := hide kM
            have BD5 := hide b5
            have HAB := hide hab
            clear hab kM b5 hp1 hp2 BD2
            go_wp2_with fail
            generalize (w2.alloc (.cells #[.int .i64 client, .string ptr, .int .i64 room, .int .i64 ver, .bool false, .slice none 0 0] 72)) = w5 at *
            have hD5 : D ≤ w5.heap.size := by omega
            have HS5 := hide hs5
            clear hs5
            have kM5 := unhide KM
            have hb5 := unhide BD5
            have e0 : w5.cell? ⟨w2.heap.size, 0, none⟩ = some (.int .i64 client) := Lib.cell_of_heap kM5 0
            have e1 : w5.cell? ⟨w2.heap.size, 1, none⟩ = some (.string ptr) := Lib.cell_of_heap kM5 1
            have e2 : w5.cell? ⟨w2.heap.size, 2, none⟩ = some (.int .i64 room) := Lib.cell_of_heap kM5 2
            have e3 : w5.cell? ⟨w2.heap.size, 3, none⟩ = some (.int .i64 ver) := Lib.cell_of_heap kM5 3
            have e4 : w5.cell? ⟨w2.heap.size, 4, none⟩ = some (.bool false) := Lib.cell_of_heap kM5 4
            have e5 : w5.cell? ⟨w2.heap.size, 5, none⟩ = some (.slice none 0 0) := Lib.cell_of_heap kM5 5
            have bO : w5.cell? ⟨B, 0, none⟩ = some (.slice pa h'.watches.length pc) := Lib.cell_of_heap hb5.ko 0
            have hxy : Below w5.heap.size w5 ((w5.alloc (.cells #[.int .i64 client, .string ptr, .int .i64 room, .int .i64 ver, .bool false, .slice none 0 0, .slice none 0 0, .int .i64 0, .int .i64 0] 118)).alloc (.cells #[.pointer (some ⟨w5.heap.size, 0, none⟩)] 116)).drew := (below_next (alloc_b _ _) (alloc_b _ _)).drew
            have kX : ((w5.alloc (.cells #[.int .i64 client, .string ptr, .int .i64 room, .int .i64 ver, .bool false, .slice none 0 0, .slice none 0 0, .int .i64 0, .int .i64 0] 118)).alloc (.cells #[.pointer (some ⟨w5.heap.size, 0, none⟩)] 116)).drew.heap[w5.heap.size]? = some (.cells #[.int .i64 client, .string ptr, .int .i64 room, .int .i64 ver, .bool false, .slice none 0 0, .slice none 0 0, .int .i64 0, .int .i64 0] 118) := (Below.block (alloc_b (w5.alloc (.cells #[.int .i64 client, .string ptr, .int .i64 room, .int .i64 ver, .bool false, .slice none 0 0, .slice none 0 0, .int .i64 0, .int .i64 0] 118)) (.cells #[.pointer (some ⟨w5.heap.size, 0, none⟩)] 116)) w5.heap.size (by simp)).trans (heap_alloc_new w5 (.cells #[.int .i64 client, .string ptr, .int .i64 room, .int .i64 ver, .bool false, .slice none 0 0, .slice none 0 0, .int .i64 0, .int .i64 0] 118))
            have E3 : Hid (wtrE.E ((w5.alloc (.cells #[.int .i64 client, .string ptr, .int .i64 room, .int .i64 ver, .bool false, .slice none 0 0, .slice none 0 0, .int .i64 0, .int .i64 0] 118)).alloc (.cells #[.pointer (some ⟨w5.heap.size, 0, none⟩)] 116)).drew [.pointer (some ⟨w5.heap.size, 0, none⟩)] (subW client ptr room ver) (w5.heap.size :: ((Value.slice none 0 0).ownBlock.toList ++ []))) :=
              ⟨w5.heap.size, .slice none 0 0, 0, 0, [], [], rfl, kX, ORow.nil _ _, RingIs.fresh [], by simp, rfl⟩
            have hsx : (w5.alloc (.cells #[.int .i64 client, .string ptr, .int .i64 room, .int .i64 ver, .bool false, .slice none 0 0, .slice none 0 0, .int .i64 0, .int .i64 0] 118)).heap.size = w5.heap.size + 1 := by simp
            have HCE : Hid (∀ (j : Nat) (u : Value), [Value.pointer (some ⟨w5.heap.size, 0, none⟩)][j]? = some u → ((w5.alloc (.cells #[.int .i64 client, .string ptr, .int .i64 room, .int .i64 ver, .bool false, .slice none 0 0, .slice none 0 0, .int .i64 0, .int .i64 0] 118)).alloc (.cells #[.pointer (some ⟨w5.heap.size, 0, none⟩)] 116)).drew.cell? ((⟨w5.heap.size + 1, 0, none⟩ : Addr).add j) = some u) := fun j u hu => by
              have := lit_cells (w5.alloc (.cells #[.int .i64 client, .string ptr, .int .i64 room, .int .i64 ver, .bool false, .slice none 0 0, .slice none 0 0, .int .i64 0, .int .i64 0] 118)) [Value.pointer (some ⟨w5.heap.size, 0, none⟩)] 116 j u hu
              rw [hsx] at this; exact this
            have kB6 := (hxy.block B (Array.getElem?_eq_some_iff.1 hb5.ko).1).trans hb5.ko
            have OP6 := hide (hb5.o1.below hxy)
            have KB6 := hide kB6
            have bO6 : ((w5.alloc (.cells #[.int .i64 client, .string ptr, .int .i64 room, .int .i64 ver, .bool false, .slice none 0 0, .slice none 0 0, .int .i64 0, .int .i64 0] 118)).alloc (.cells #[.pointer (some ⟨w5.heap.size, 0, none⟩)] 116)).drew.cell? ⟨B, 0, none⟩ = some (.slice pa h'.watches.length pc) := Lib.cell_of_heap kB6 0
            have bO7 : (w5.alloc (.cells #[.int .i64 client, .string ptr, .int .i64 room, .int .i64 ver, .bool false, .slice none 0 0, .slice none 0 0, .int .i64 0, .int .i64 0] 118)).cell? ⟨B, 0, none⟩ = some (.slice pa h'.watches.length pc) := ((alloc_b w5 (.cells #[.int .i64 client, .string ptr, .int .i64 room, .int .i64 ver, .bool false, .slice none 0 0, .slice none 0 0, .int .i64 0, .int .i64 0] 118)).cell (p := ⟨B, 0, none⟩) (Array.getElem?_eq_some_iff.1 hb5.ko).1).trans bO
            have HXY := hide hxy
            have hone : Hid (∀ u ∈ [Value.pointer (some ⟨w5.heap.size, 0, none⟩)], u.oneCell' = true) := fun u hu => by simp at hu; subst hu; rfl
            have ON5 := hide (hb5.o2.below hxy)
            have tyB5 : B ∉ cv.ownBlock.toList ++ cb := fun hm => by
              obtain ⟨cur', t, e1, e2⟩ := nwss_ty hb5.o2 B hm
              rw [hb5.ko] at e1
              injection e1 with e1; injection e1 with _ e1
              subst e1
              exact absurd e2 (by decide)
            have TYB := hide tyB5
            have HRG := hide hb5.ring
            have hnl := hb5.len
            clear hxy kX kB6 hsx kM5 hb5 tyB5
            go_region_law (first
              | (refine step_append_elem2 (e := wtrE) wtr_ty (by decide) Tryd.underlying108 infoWtr rfl (by decide) (by decide) rfl (.tmp 42) (.tmp 46) rfl (B := D) rfl (unhide OP6) (unhide HPV') (unhide E3) rfl (by exact unhide HCE) (by exact unhide hone) (by simp; omega) (by omega) ?_
                 intro v' w7 o7 g7 hg7
                 obtain ⟨va, vc, rfl, hv1, hv2⟩ := o7.form
                 have ko7 := (hg7.block B (by simp; have := (Array.getElem?_eq_some_iff.1 (unhide KB6)).1; simp at this; omega) fun e => by
                   obtain ⟨cur', t, e1, e2⟩ := orow_ty (e := wtrE) wtr_ty (unhide OP6) B ((unhide OP6).head e.symm)
                   rw [unhide KB6] at e1
                   injection e1 with e1; injection e1 with _ e1
                   subst e1
                   exact absurd e2 (by decide)).trans (unhide KB6)
                 have cO7 : w7.cell? ⟨B, 0, none⟩ = some (.slice pa h'.watches.length pc) := Lib.cell_of_heap ko7 0
                 have fO7 := Lib.frozen_of_heap ko7))
            all_goals (
              have tyN : ∀ {wx : World} {bl : List Nat} {ts : List TypeId} {cur : Array Value}, wx.heap[B]? = some (.cells cur 110 (0, 0)) → Tys ts wx bl → 110 ∉ ts → B ∉ bl := fun hk ht hn hm => by
                obtain ⟨cur', t, e1, e2⟩ := ht B hm
                rw [hk] at e1
                injection e1 with e1; injection e1 with _ e1
                exact hn (e1 ▸ e2)
              have on7 := (unhide ON5).keep fun b hb => hg7.block b ((unhide ON5).lt b hb) fun e => by
                obtain ⟨cs9, hcs9⟩ := (unhide OP6).own
                exact (nwss_ty (unhide ON5)).not hcs9 (by decide) e.symm hb
              have kn := heap_setCell_same _ _ 0 _ _ (.slice va (h'.watches ++ [subW client ptr room ver]).length vc) ko7
              have ow := o7.other (g := B) (tyN ko7 (orow_ty (e := wtrE) wtr_ty o7) (by decide)) 0 (.slice va (h'.watches ++ [subW client ptr room ver]).length vc)
              have on := on7.other (g := B) (tyN ko7 (nwss_ty on7) (by decide)) 0 (.slice va (h'.watches ++ [subW client ptr room ver]).length vc)
              have bl7 := (((unhide B5).trans ((unhide HXY).mono hD5)).grown hg7 (by simp; omega) (unhide HPV')).setCell (p := ⟨B, 0, none⟩) hB (.slice va (h'.watches ++ [subW client ptr room ver]).length vc)
              rw [List.length_append, List.length_singleton] at kn ow on bl7
              have HR : Hid (Brd (w7.setCell ⟨B, 0, none⟩ (.slice va (h'.watches.length + 1) vc)) B ⟨h'.watches ++ [subW client ptr room ver], h.waiting⟩ (.slice va (h'.watches.length + 1) vc) cv f c ns cb _) := ⟨kn, ow, on, (unhide HW') ▸ unhide HRG, hnl⟩
              have HBL := hide bl7
              clear tyN on7 kn ow on bl7 o7 g7 hg7 hv1 hv2 ko7 cO7 fO7 OP6 E3 HCE hone KB6 HXY ON5 TYB HRG bO bO6 bO7 e0 e1 e2 e3 e4 e5 KM BD5 HAB
              go_wp2
              go_ret
              rw [unhide HH']
              first
                | exact ⟨unhide HBL, _, _, rfl, unhide HR⟩
                | exact ⟨unhide HBL, rfl, _, _, unhide HR⟩)
end Go.Proofs.YtbcfkkicmmhhcaaDoor
