import Derived.Test.YtbcfkkicmmhhcaaTake
namespace Go.Proofs.Ytbcfkkicmmhhcaa
open Go.RowKit

set_option maxHeartbeats 1600000 in
theorem implTake_walk (v : Value) (h : Hb) (client : Int) (bl : List Nat) (w : World) (ho : OHub w v h bl) (hn : bl.Nodup) (hs : szHb h ≤ 1048576) :
    Calls Try.prog 20 #[v, .int .i64 client] w fun e w' => ∃ v' bl' a0 a1 a2 jb, e = .returned (.tuple #[v', .agg #[a0, a1, a2], .int .i64 (takC h client)]) ∧ OHub w' v' (takH h client) bl' ∧ msgE.E w' [a0, a1, a2] (takM h client) jb ∧ Fsh w.heap.size (bl' ++ jb) ∧ Below w.heap.size w w' := by
  obtain ⟨p, q, i1, i2, rfl, o1, o2, rfl⟩ := ho
  have HO : Hid (OHub w (.agg #[p, q]) h (i1 ++ i2)) := ⟨p, q, i1, i2, rfl, o1, o2, rfl⟩
  have hsb : szHb h ≤ 1048577 := by omega
  obtain ⟨tz, t1, t2, t3⟩ := takH_sz (c := client) hs
  have htz : szHb (takH h client) ≤ 2097154 := by omega
  have HT1 := hide t1
  have HT2 := hide t2
  have HND := hide hn
  clear o1 o2 t1 t2 tz hn
  go_enter Try.func20, Try.ntmps20
  go_wp2_with fail
  have hA := new3 w (Obj.cells #[p, q] 32) (Obj.cells #[Value.slice none 0 0, Value.slice none 0 0] 32) (Obj.cells #[Value.int IntKind.i64 0, Value.slice none 0 0, Value.bool false] 44)
  generalize (((w.alloc (Obj.cells #[p, q] 32)).alloc (Obj.cells #[Value.slice none 0 0, Value.slice none 0 0] 32)).alloc (Obj.cells #[Value.int IntKind.i64 0, Value.slice none 0 0, Value.bool false] 44)) = wA at *
  have hsz := hA.size
  refine (readHub2_walk _ h (i1 ++ i2) wA ((unhide HO).below hA.bel) hsb).mono ?_
  rintro e w1 ⟨B, bv, cv, cb, bw, rfl, hB, hBn, _, hpn, _, b1, cbk, rfl, hon, hst⟩
  have hz1 := b1.size
  have B1 := below_next hA.bel b1
  have k1 := (b1.block (w.heap.size + 1) (by omega)).trans hA.k1
  have k2 := (b1.block (w.heap.size + 1 + 1) (by omega)).trans hA.k2
  have HM := hide (takeBrd_walk B h bv cv 0 h.waiting.length h.waiting cb cbk client w1 hB (hon (unhide HND)) wA.heap.size hst hz1)
  have HB1 := hide B1
  have HK1 := hide k1
  have HK2 := hide k2
  clear hA b1 B1 k1 k2 hB HO hpn hon hst HND
  go_wp2_with fail
  refine (unhide HM).mono ?_
  rintro e w2 ⟨a1, ib, bw', rfl, oa, hB2, b2⟩
  have H1 := unhide HT1
  have H2 := unhide HT2
  clear HT1 HT2 HM
  obtain ⟨h', hh'⟩ : ∃ h', takH h client = h' := ⟨_, rfl⟩
  obtain ⟨m', hm'⟩ : ∃ m', takM h client = m' := ⟨_, rfl⟩
  obtain ⟨cd, hcd⟩ : ∃ cd, takC h client = cd := ⟨_, rfl⟩
  rw [hh'] at hB2 htz H1 H2
  rw [hm'] at oa t3
  rw [hm', hcd]
  have HH' := hide hh'
  have HM' := hide hm'
  have HCD := hide hcd
  clear hh' hm' hcd
  obtain ⟨ya, yc, rfl, _, _⟩ := oa.form
  have hz2 := b2.size
  have hab := alloc_b w2 (Obj.cells #[Value.int IntKind.i64 m'.ver, .slice ya m'.ptrs.length yc, Value.bool m'.over] 44)
  have kM := heap_alloc_new w2 (Obj.cells #[Value.int IntKind.i64 m'.ver, .slice ya m'.ptrs.length yc, Value.bool m'.over] 44)
  have hsm : (w2.alloc (Obj.cells #[Value.int IntKind.i64 m'.ver, .slice ya m'.ptrs.length yc, Value.bool m'.over] 44)).heap.size = w2.heap.size + 1 := by simp
  have hdr : Below (w2.alloc (Obj.cells #[Value.int IntKind.i64 m'.ver, .slice ya m'.ptrs.length yc, Value.bool m'.over] 44)).heap.size (w2.alloc (Obj.cells #[Value.int IntKind.i64 m'.ver, .slice ya m'.ptrs.length yc, Value.bool m'.over] 44)) (w2.alloc (Obj.cells #[Value.int IntKind.i64 m'.ver, .slice ya m'.ptrs.length yc, Value.bool m'.over] 44)).drew := (Below.refl _ _).drew
  have hbd := below_next hab hdr
  have HTL := hide (tellHub_walk B h' bv cv 0 h.waiting.length h.waiting cb bw' (w2.alloc (Obj.cells #[Value.int IntKind.i64 m'.ver, .slice ya m'.ptrs.length yc, Value.bool m'.over] 44)).drew (hB2.below hbd) htz H1 H2)
  have OA := hide (oa.below hbd)
  have BW := hide ((unhide HB1).trans ((b2.mono (by omega)).trans (hbd.mono (by omega))))
  have K1 := hide ((hbd.block (w.heap.size + 1) (by omega)).trans ((b2.block (w.heap.size + 1) (by omega)).trans (unhide HK1)))
  have K2 := hide ((hbd.block (w.heap.size + 1 + 1) (by omega)).trans ((b2.block (w.heap.size + 1 + 1) (by omega)).trans (unhide HK2)))
  have m0 : (w2.alloc (Obj.cells #[Value.int IntKind.i64 m'.ver, .slice ya m'.ptrs.length yc, Value.bool m'.over] 44)).cell? ⟨w2.heap.size, 0, none⟩ = some (.int .i64 m'.ver) := Lib.cell_of_heap kM 0
  have m1 : (w2.alloc (Obj.cells #[Value.int IntKind.i64 m'.ver, .slice ya m'.ptrs.length yc, Value.bool m'.over] 44)).cell? ⟨w2.heap.size, 1, none⟩ = some (.slice ya m'.ptrs.length yc) := Lib.cell_of_heap kM 1
  have m2 : (w2.alloc (Obj.cells #[Value.int IntKind.i64 m'.ver, .slice ya m'.ptrs.length yc, Value.bool m'.over] 44)).cell? ⟨w2.heap.size, 2, none⟩ = some (.bool m'.over) := Lib.cell_of_heap kM 2
  have KM := hide kM
  clear oa hB2 b2 hab kM hdr hbd H1 H2 htz HB1 HK1 HK2
  go_wp2_with fail
  generalize (w2.alloc (Obj.cells #[Value.int IntKind.i64 m'.ver, .slice ya m'.ptrs.length yc, Value.bool m'.over] 44)) = wM at *
  generalize w2.heap.size = M at *
  go_region_law (first
    | (go_simp; refine (unhide HCM).mono ?_
       rintro e w4 ⟨b0, b1', b2', jb, rfl, hE, hF, b4⟩
       have hE0 := hE
       obtain ⟨q0, hbs0, hE1⟩ := hE0
       injection hbs0 with f0 hbs0; injection hbs0 with f1 hbs0; injection hbs0 with f2 hbs0
       subst f0; subst f1; subst f2
       obtain ⟨za, zc, rfl, hy1, hy2⟩ := hE1.form
       have k14 := (b4.block (w.heap.size + 1) (by omega)).trans k13
       have k24 := (b4.block (w.heap.size + 1 + 1) (by omega)).trans k23
       have r0 : w4.cell? ⟨w.heap.size + 1, 0, none⟩ = some (.slice none 0 0) := Lib.cell_of_heap k14 0
       have r1 : w4.cell? ⟨w.heap.size + 1, 1, none⟩ = some (.slice none 0 0) := Lib.cell_of_heap k14 1
       have fr1 := Lib.frozen_of_heap k14
       have s0 : w4.cell? ⟨w.heap.size + 1 + 1, 0, none⟩ = some (.int .i64 0) := Lib.cell_of_heap k24 0
       have s1 : w4.cell? ⟨w.heap.size + 1 + 1, 1, none⟩ = some (.slice none 0 0) := Lib.cell_of_heap k24 1
       have s2 : w4.cell? ⟨w.heap.size + 1 + 1, 2, none⟩ = some (.bool false) := Lib.cell_of_heap k24 2
       have fr2 := Lib.frozen_of_heap k24)
    | (go_simp; refine (unhide HTL).mono ?_
       rintro e w3 ⟨v3, bl3, rfl, o3, f3, b3⟩
       obtain ⟨p3, q3, j1, j2, rfl, po, qo, rfl⟩ := o3
       obtain ⟨pa, pc, rfl, hp1, hp2⟩ := po.form
       obtain ⟨qa, qc, rfl, hq1, hq2⟩ := qo.form
       have hz3 : wM.heap.size ≤ w3.heap.size := b3.size
       have HCM := hide (copyMsg_walk _ _ _ m' ib w3 ⟨_, rfl, (unhide OA).below b3⟩ t3)
       have kM3 := (b3.block M (by simp; omega)).trans (unhide KM)
       have k13 := (b3.block (w.heap.size + 1) (by simp; omega)).trans (unhide K1)
       have k23 := (b3.block (w.heap.size + 1 + 1) (by simp; omega)).trans (unhide K2)
       have m0' : w3.cell? ⟨M, 0, none⟩ = some (.int .i64 m'.ver) := Lib.cell_of_heap kM3 0
       have m1' : w3.cell? ⟨M, 1, none⟩ = some (.slice ya m'.ptrs.length yc) := Lib.cell_of_heap kM3 1
       have m2' : w3.cell? ⟨M, 2, none⟩ = some (.bool m'.over) := Lib.cell_of_heap kM3 2))
  all_goals (
    have hlt : ∀ b ∈ j1 ++ j2, b < w3.heap.size := fun b hb => by
      rcases List.mem_append.1 hb with hb | hb
      · exact po.lt b hb
      · exact qo.lt b hb
    have hwM : w.heap.size ≤ wM.heap.size := (unhide BW).size
    have hfs : Fsh w.heap.size ((j1 ++ j2) ++ jb) := ⟨List.nodup_append.2 ⟨f3.1, hF.1, fun a ha b hb e => by have := hlt a ha; have := hF.2 b hb; omega⟩, fun b hb => by
      rcases List.mem_append.1 hb with hb | hb
      · have h1 : wM.heap.size ≤ b := f3.2 b hb
        omega
      · have := hF.2 b hb; omega⟩
    have hn : ∀ g, g < wM.heap.size → g ∉ j1 ++ j2 := fun g hg hm => by
      have h1 : wM.heap.size ≤ g := f3.2 g hm
      omega
    have hnj : ∀ g, g < wM.heap.size → g ∉ jb := fun g hg hm => by have := hF.2 g hm; omega
    have hsM : w.heap.size + 1 + 1 < wM.heap.size := by omega
    have kf1 : (putN (putN w4 (w.heap.size + 1) 0 [.slice pa h'.watches.length pc, .slice qa h'.waiting.length qc]) (w.heap.size + 1 + 1) 0 [.int .i64 m'.ver, .slice za m'.ptrs.length zc, .bool m'.over]).heap[w.heap.size + 1]? = some (.cells #[.slice pa h'.watches.length pc, .slice qa h'.waiting.length qc] 32 (0, 0)) := (putN_other (by omega) _ _).trans (putN_full k14 [.slice pa h'.watches.length pc, .slice qa h'.waiting.length qc] rfl)
    have kf2 : (putN (putN w4 (w.heap.size + 1) 0 [.slice pa h'.watches.length pc, .slice qa h'.waiting.length qc]) (w.heap.size + 1 + 1) 0 [.int .i64 m'.ver, .slice za m'.ptrs.length zc, .bool m'.over]).heap[w.heap.size + 1 + 1]? = some (.cells #[.int .i64 m'.ver, .slice za m'.ptrs.length zc, .bool m'.over] 44 (0, 0)) := putN_full ((putN_other (by omega) _ _).trans k24) [.int .i64 m'.ver, .slice za m'.ptrs.length zc, .bool m'.over] rfl
    have HFS := hide hfs
    have HN : Hid ((∀ g, g < wM.heap.size → g ∉ j1 ++ j2) ∧ ∀ g, g < wM.heap.size → g ∉ jb) := ⟨hn, hnj⟩
    have PO := hide (po.below b4)
    have QO := hide (qo.below b4)
    have HE1 := hide hE1
    have BB : Hid (Below w.heap.size w w4) := (unhide BW).trans ((Below.mono b3 hwM).trans (b4.mono (by omega)))
    have KF1 := hide kf1
    have KF2 := hide kf2
    clear hlt hfs hn hnj po qo hE1 kf1 kf2 hE hF b4 f3 b3 k13 k23 k14 k24 hy1 hy2 hp1 hp2 hq1 hq2 HTL HCM OA K1 K2 KM kM3 m0 m1 m2 m0' m1' m2' BW
    go_wp2
    refine bodyPost_ret (results_cell2_tmp rfl _ _ (w.heap.size + 1) 32 #[_, _] (0, 0) _ (w.heap.size + 1 + 1) 44 #[_, _, _] (0, 0) _ _ rfl rfl rfl (unhide KF1) (unhide KF2) Try.underlying32 rfl (by kernel_rfl) Try.underlying44 rfl (by kernel_rfl)) rfl ?_
    obtain ⟨n1, n2⟩ := unhide HN
    have na := n1 (w.heap.size + 1) (by omega)
    have nb := n1 (w.heap.size + 1 + 1) (by omega)
    rw [unhide HH', unhide HM', unhide HCD]
    refine ⟨_, j1 ++ j2, _, _, _, rfl, ⟨_, _, j1, j2, rfl, ((unhide PO).putN (fun hm => na (List.mem_append.2 (.inl hm))) [_, _] 0).putN (fun hm => nb (List.mem_append.2 (.inl hm))) [_, _, _] 0, ((unhide QO).putN (fun hm => na (List.mem_append.2 (.inr hm))) [_, _] 0).putN (fun hm => nb (List.mem_append.2 (.inr hm))) [_, _, _] 0, rfl⟩, jb, ⟨_, rfl, ((unhide HE1).putN (n2 (w.heap.size + 1) (by omega)) [_, _] 0).putN (n2 (w.heap.size + 1 + 1) (by omega)) [_, _, _] 0⟩, unhide HFS, ?_⟩
    exact putN_below (g := w.heap.size + 1 + 1) (putN_below (g := w.heap.size + 1) (unhide BB) (by omega) [_, _] 0) (by omega) [_, _, _] 0)
end Go.Proofs.Ytbcfkkicmmhhcaa
