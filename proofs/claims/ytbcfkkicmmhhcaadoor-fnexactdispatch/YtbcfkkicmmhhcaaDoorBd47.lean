import Derived.Test.YtbcfkkicmmhhcaaDoorBd46
namespace Go.Proofs.YtbcfkkicmmhhcaaDoor
open Go.RowKit

/-- What l5Tell answers. -/
def TP (m : Wat) (n : Nws) (q : Value) (jb : List Nat) (F : Nat) (w : World) (e : Ending) (w' : World) : Prop :=
  ∃ q' jb', e = .returned (.agg #[.int .i64 m.client, .string m.ptr, .int .i64 m.cap, .int .i64 m.since, .bool (tellW m n.ver (n.ptrs.filter fun s => (ptoks s.data.toList).isSome)).closed, q']) ∧ ORow msgE w' q' (tellW m n.ver (n.ptrs.filter fun s => (ptoks s.data.toList).isSome)).queue jb' ∧ Fsh F jb' ∧ (∀ b ∈ jb', b ∈ jb ∨ w.heap.size ≤ b) ∧ Fr q.ownBlock.toList w w'
set_option maxHeartbeats 3000000 in
set_option maxRecDepth 100000 in
theorem l5Tell_walk (m : Wat) (q nv : Value) (n : Nws) (jb nb : List Nat) (F : Nat) (w : World) (hq : ORow msgE w q m.queue jb) (hF : Fsh F jb) (hFw : F ≤ w.heap.size) (hn : OStr w nv n.ptrs nb) (hp : m.ptr.size ≤ 1048576) (hs : ∀ j, (n.ptrs.getD j ByteArray.empty).size ≤ 1048576) (hl : n.ptrs.length ≤ 1048577) (hm : m.queue.length ≤ 1048577) :
    Calls Tryd.prog 48 #[.agg #[.int .i64 m.client, .string m.ptr, .int .i64 m.cap, .int .i64 m.since, .bool m.closed, q], .agg #[.int .i64 n.ver, nv]] w (TP m n q jb F w) := by
  obtain ⟨qa, qc, rfl, hq1, hq2⟩ := hq.form
  obtain ⟨xa, xb, xc, rfl, hS⟩ := hn.ss
  obtain ⟨clo, hclo⟩ : ∃ clo, m.closed = clo := ⟨_, rfl⟩
  rw [hclo]
  have hNO := nearW_only m n.ptrs
  have HNO := hide hNO
  have HCLO := hide hclo
  have HQ := hide hq
  have HF := hide hF
  have hA := new3 w (Obj.cells #[.int .i64 m.client, .string m.ptr, .int .i64 m.cap, .int .i64 m.since, .bool clo, .slice qa m.queue.length qc] 72) (Obj.cells #[.int .i64 n.ver, .slice xa n.ptrs.length xc] 85) (Obj.cells #[Value.int IntKind.i64 0, Value.string ⟨#[]⟩, Value.int IntKind.i64 0, Value.int IntKind.i64 0, Value.bool false, Value.slice none 0 0] 72)
  have HNR := hide (l5Near_walk m.ptr xa xb 0 xc n.ptrs _ hp (hS.below hA.bel) hs hl)
  have HA := hide hA
  clear hA hq hF hn hS hs hclo hNO hq1 hq2
  go_enter Tryd.func48, Tryd.ntmps48
  go_wp2_with fail
  generalize (((w.alloc (Obj.cells #[.int .i64 m.client, .string m.ptr, .int .i64 m.cap, .int .i64 m.since, .bool clo, .slice qa m.queue.length qc] 72)).alloc (Obj.cells #[.int .i64 n.ver, .slice xa n.ptrs.length xc] 85)).alloc (Obj.cells #[Value.int IntKind.i64 0, Value.string ⟨#[]⟩, Value.int IntKind.i64 0, Value.int IntKind.i64 0, Value.bool false, Value.slice none 0 0] 72)) = wA at *
  refine (unhide HNR).mono ?_
  rintro e w1 ⟨v1, rfl, o1, b1⟩
  rw [nearQ_map] at o1
  obtain ⟨os1, hv1⟩ := ot_ostr o1
  rw [← unhide HNO] at os1
  obtain ⟨nn, hnn⟩ : ∃ nn, nearW m (n.ptrs.filter fun s => (ptoks s.data.toList).isSome) = nn := ⟨_, rfl⟩
  rw [hnn] at os1
  obtain ⟨ya, yc, rfl, t1, t2⟩ := os1.form
  have hzA := (unhide HA).size
  have hz1 := b1.size
  have B1 := below_next (unhide HA).bel b1
  have k0 := (b1.block w.heap.size (by omega)).trans (unhide HA).k0
  have k1 := (b1.block (w.heap.size + 1) (by omega)).trans (unhide HA).k1
  have k2 := (b1.block (w.heap.size + 1 + 1) (by omega)).trans (unhide HA).k2
  have HNN := hide hnn
  have OS1 := hide os1
  have HV1 := hide hv1
  have HB1 := hide B1
  have K0 := hide k0
  have K1 := hide k1
  have K2 := hide k2
  have a0 : w1.cell? ⟨w.heap.size, 0, none⟩ = some (.int .i64 m.client) := Lib.cell_of_heap k0 0
  have a1 : w1.cell? ⟨w.heap.size, 1, none⟩ = some (.string m.ptr) := Lib.cell_of_heap k0 1
  have a2 : w1.cell? ⟨w.heap.size, 2, none⟩ = some (.int .i64 m.cap) := Lib.cell_of_heap k0 2
  have a3 : w1.cell? ⟨w.heap.size, 3, none⟩ = some (.int .i64 m.since) := Lib.cell_of_heap k0 3
  have a4 : w1.cell? ⟨w.heap.size, 4, none⟩ = some (.bool clo) := Lib.cell_of_heap k0 4
  have a5 : w1.cell? ⟨w.heap.size, 5, none⟩ = some (.slice qa m.queue.length qc) := Lib.cell_of_heap k0 5
  have fa := Lib.frozen_of_heap k0
  have b0 : w1.cell? ⟨w.heap.size + 1, 0, none⟩ = some (.int .i64 n.ver) := Lib.cell_of_heap k1 0
  have r0 : w1.cell? ⟨w.heap.size + 1 + 1, 0, none⟩ = some (.int .i64 0) := Lib.cell_of_heap k2 0
  have r1 : w1.cell? ⟨w.heap.size + 1 + 1, 1, none⟩ = some (.string ⟨#[]⟩) := Lib.cell_of_heap k2 1
  have r2 : w1.cell? ⟨w.heap.size + 1 + 1, 2, none⟩ = some (.int .i64 0) := Lib.cell_of_heap k2 2
  have r3 : w1.cell? ⟨w.heap.size + 1 + 1, 3, none⟩ = some (.int .i64 0) := Lib.cell_of_heap k2 3
  have r4 : w1.cell? ⟨w.heap.size + 1 + 1, 4, none⟩ = some (.bool false) := Lib.cell_of_heap k2 4
  have r5 : w1.cell? ⟨w.heap.size + 1 + 1, 5, none⟩ = some (.slice none 0 0) := Lib.cell_of_heap k2 5
  have fr := Lib.frozen_of_heap k2
  clear o1 b1 t1 t2 os1 hv1 B1 k0 k1 k2 hnn HNR HNO HA
  have SAME : Hid (tellW m n.ver (n.ptrs.filter fun s => (ptoks s.data.toList).isSome) = m → TP m n (.slice qa m.queue.length qc) jb F w (.returned (.agg #[.int .i64 m.client, .string m.ptr, .int .i64 m.cap, .int .i64 m.since, .bool clo, .slice qa m.queue.length qc])) (putN w1 (w.heap.size + 1 + 1) 0 [.int .i64 m.client, .string m.ptr, .int .i64 m.cap, .int .i64 m.since, .bool clo, .slice qa m.queue.length qc])) := fun hT => by
    have hbel := putN_below (g := w.heap.size + 1 + 1) (unhide HB1) (by omega) [.int .i64 m.client, .string m.ptr, .int .i64 m.cap, .int .i64 m.since, .bool clo, .slice qa m.queue.length qc] 0
    refine ⟨_, jb, by rw [hT, unhide HCLO], by rw [hT]; exact (unhide HQ).below hbel, unhide HF, fun b hb => .inl hb, Fr.of_below hbel⟩
  cases clo
  · by_cases hv : n.ver ≤ m.since
    · have HT := hide (tellW_id (ss := n.ptrs.filter fun s => (ptoks s.data.toList).isSome) (.inr (.inl hv)))
      go_wp2
      refine bodyPost_ret (results_cell_row rfl _ _ (w.heap.size + 1 + 1) 72 #[_, _, _, _, _, _] (0, 0) _ rfl (putN_full (unhide K2) [_, _, _, _, _, _] rfl) Tryd.underlying72 rfl (by kernel_rfl)) rfl ?_
      exact unhide SAME (unhide HT)
    · by_cases h0 : nn.length = 0
      · have HT := hide (tellW_id (m := m) (ver := n.ver) (ss := n.ptrs.filter fun s => (ptoks s.data.toList).isSome) (.inr (.inr (by rw [unhide HNN]; exact h0))))
        have h0' : ((nn.length : Int) == 0) = true := by simp [h0]
        clear h0
        go_wp2
        refine bodyPost_ret (results_cell_row rfl _ _ (w.heap.size + 1 + 1) 72 #[_, _, _, _, _, _] (0, 0) _ rfl (putN_full (unhide K2) [_, _, _, _, _, _] rfl) Tryd.underlying72 rfl (by kernel_rfl)) rfl ?_
        exact unhide SAME (unhide HT)
      · have h0' : ((nn.length : Int) == 0) = false := by simpa using h0
        by_cases h4 : (m.queue.length : Int) < m.cap
        · have HT := hide (tellW_add (m := m) (ver := n.ver) (ss := (n.ptrs.filter fun s => (ptoks s.data.toList).isSome)) (unhide HCLO) hv (by rw [unhide HNN]; exact h0) h4)
          rw [unhide HNN] at HT
          have hab := alloc_b w1 (Obj.cells #[.int .i64 n.ver, .slice ya nn.length yc, .bool false] 115)
          have E3 : Hid (msgE.E (w1.alloc (Obj.cells #[.int .i64 n.ver, .slice ya nn.length yc, .bool false] 115)) [.int .i64 n.ver, .slice ya nn.length yc, .bool false] ⟨n.ver, nn, false⟩ (Value.slice ya nn.length yc).ownBlock.toList) := ⟨_, rfl, (unhide OS1).below hab⟩
          have O3 := hide (((unhide HQ).below (unhide HB1)).below hab)
          have HFi : Hid (Fsh F (Value.slice ya nn.length yc).ownBlock.toList) := ⟨by cases (Value.slice ya nn.length yc).ownBlock <;> simp, fun b hb => by have := unhide HV1 b (by simpa using hb); omega⟩
          have HAP : Hid (∀ b ∈ (Value.slice ya nn.length yc).ownBlock.toList, b ∉ jb) := fun b hb hmm => by have h1 := unhide HV1 b (by simpa using hb); have h2 := (unhide HQ).lt b hmm; omega
          have HONE : Hid (∀ u ∈ [Value.int .i64 n.ver, .slice ya nn.length yc, .bool false], u.oneCell' = true) := fun u hu => by simp at hu; rcases hu with rfl | rfl | rfl <;> rfl
          have HAB := hide hab
          have hFw1 : F ≤ w1.heap.size := by omega
          clear h0 hab
          go_wp2_with (at_builtin; refine wpList_append_elemW (e := msgE) msg_ty (by decide) Tryd.underlying70 infoMsg rfl (by decide) (by decide) rfl (.tmp 33) (.tmp 38) rfl (B := F) rfl (unhide O3) (unhide HF) (unhide E3) (unhide HFi) (unhide HAP) rfl (by exact lit_cells w1 [_, _, _] _) (by exact unhide HONE) (by simp; omega) (by omega) ?_)
          intro v' w9 bl' o4 f4 m4 hg4 hw4
          obtain ⟨va, vc, rfl, hv1, hv2⟩ := o4.form
          clear hv1 hv2
          have hlen : (m.queue ++ [(⟨n.ver, nn, false⟩ : Msg)]).length = m.queue.length + 1 := by rw [List.length_append]; rfl
          rw [hlen] at o4 hw4 m4
          have hsA : w.heap.size + 3 ≤ (w1.alloc (Obj.cells #[.int .i64 n.ver, .slice ya nn.length yc, .bool false] 115)).heap.size := by simp; omega
          have k0' := (tell_keep (unhide HQ) hg4 (k := w.heap.size) (by omega) (by omega)).trans (((unhide HAB).block w.heap.size (by omega)).trans (unhide K0))
          have k2' := (tell_keep (unhide HQ) hg4 (k := w.heap.size + 1 + 1) (by omega) (by omega)).trans (((unhide HAB).block (w.heap.size + 1 + 1) (by omega)).trans (unhide K2))
          have TE := tell_end (unhide HQ) (below_next (unhide HB1) (unhide HAB)) hsA hg4 o4 (fun b hb => by
            rcases m4 b hb with h | h | h
            · exact .inl h
            · exact .inr (.inl (by have := unhide HV1 b (by simpa using h); omega))
            · exact .inr (.inr h)) hw4 (by omega) (fr_set0 w9 w.heap.size 5 (.slice va (m.queue.length + 1) vc)) [.int .i64 m.client, .string m.ptr, .int .i64 m.cap, .int .i64 m.since, .bool false, .slice va (m.queue.length + 1) vc]
          have p5 : w9.cell? ⟨w.heap.size, 5, none⟩ = some (.slice qa m.queue.length qc) := Lib.cell_of_heap k0' 5
          have fp := Lib.frozen_of_heap k0'
          have k10 := heap_setCell_same _ _ 5 _ _ (.slice va (m.queue.length + 1) vc) k0'
          have k2'' := (Below.heap_setCell w9 ⟨w.heap.size, 5, none⟩ (.slice va (m.queue.length + 1) vc) (w.heap.size + 1 + 1) (by simp; omega)).trans k2'
          have HR : Hid (TP m n (.slice qa m.queue.length qc) jb F w (.returned (.agg #[.int .i64 m.client, .string m.ptr, .int .i64 m.cap, .int .i64 m.since, .bool false, .slice va (m.queue.length + 1) vc])) (putN (w9.setCell ⟨w.heap.size, 5, none⟩ (.slice va (m.queue.length + 1) vc)) (w.heap.size + 1 + 1) 0 [.int .i64 m.client, .string m.ptr, .int .i64 m.cap, .int .i64 m.since, .bool false, .slice va (m.queue.length + 1) vc])) := 
            ⟨_, bl', by rw [unhide HT, unhide HCLO], by rw [unhide HT]; exact TE.1, f4, TE.2.2, TE.2.1⟩
          have KF := hide (putN_full k2'' [.int .i64 m.client, .string m.ptr, .int .i64 m.cap, .int .i64 m.since, .bool false, .slice va (m.queue.length + 1) vc] rfl)
          have d0 : (w9.setCell ⟨w.heap.size, 5, none⟩ (.slice va (m.queue.length + 1) vc)).cell? ⟨w.heap.size, 0, none⟩ = some (.int .i64 m.client) := Lib.cell_of_heap k10 0
          have d1 : (w9.setCell ⟨w.heap.size, 5, none⟩ (.slice va (m.queue.length + 1) vc)).cell? ⟨w.heap.size, 1, none⟩ = some (.string m.ptr) := Lib.cell_of_heap k10 1
          have d2 : (w9.setCell ⟨w.heap.size, 5, none⟩ (.slice va (m.queue.length + 1) vc)).cell? ⟨w.heap.size, 2, none⟩ = some (.int .i64 m.cap) := Lib.cell_of_heap k10 2
          have d3 : (w9.setCell ⟨w.heap.size, 5, none⟩ (.slice va (m.queue.length + 1) vc)).cell? ⟨w.heap.size, 3, none⟩ = some (.int .i64 m.since) := Lib.cell_of_heap k10 3
          have d4 : (w9.setCell ⟨w.heap.size, 5, none⟩ (.slice va (m.queue.length + 1) vc)).cell? ⟨w.heap.size, 4, none⟩ = some (.bool false) := Lib.cell_of_heap k10 4
          have d5 : (w9.setCell ⟨w.heap.size, 5, none⟩ (.slice va (m.queue.length + 1) vc)).cell? ⟨w.heap.size, 5, none⟩ = some (.slice va (m.queue.length + 1) vc) := Lib.cell_of_heap k10 5
          have g0 : (w9.setCell ⟨w.heap.size, 5, none⟩ (.slice va (m.queue.length + 1) vc)).cell? ⟨w.heap.size + 1 + 1, 0, none⟩ = some (.int .i64 0) := Lib.cell_of_heap k2'' 0
          have g1 : (w9.setCell ⟨w.heap.size, 5, none⟩ (.slice va (m.queue.length + 1) vc)).cell? ⟨w.heap.size + 1 + 1, 1, none⟩ = some (.string ⟨#[]⟩) := Lib.cell_of_heap k2'' 1
          have g2 : (w9.setCell ⟨w.heap.size, 5, none⟩ (.slice va (m.queue.length + 1) vc)).cell? ⟨w.heap.size + 1 + 1, 2, none⟩ = some (.int .i64 0) := Lib.cell_of_heap k2'' 2
          have g3 : (w9.setCell ⟨w.heap.size, 5, none⟩ (.slice va (m.queue.length + 1) vc)).cell? ⟨w.heap.size + 1 + 1, 3, none⟩ = some (.int .i64 0) := Lib.cell_of_heap k2'' 3
          have g4 : (w9.setCell ⟨w.heap.size, 5, none⟩ (.slice va (m.queue.length + 1) vc)).cell? ⟨w.heap.size + 1 + 1, 4, none⟩ = some (.bool false) := Lib.cell_of_heap k2'' 4
          have g5 : (w9.setCell ⟨w.heap.size, 5, none⟩ (.slice va (m.queue.length + 1) vc)).cell? ⟨w.heap.size + 1 + 1, 5, none⟩ = some (.slice none 0 0) := Lib.cell_of_heap k2'' 5
          have fg := Lib.frozen_of_heap k2''
          have HZA := hide hzA
          clear hzA hlen k10 k2'' TE hsA o4 f4 m4 hg4 hw4 k0' k2' E3 O3 HFi HAP HONE HAB a0 a1 a2 a3 a4 a5 b0 r0 r1 r2 r3 r4 r5 fa fr SAME
          go_wp2
          refine bodyPost_ret (results_cell_row rfl _ _ (w.heap.size + 1 + 1) 72 #[_, _, _, _, _, _] (0, 0) _ rfl (unhide KF) Tryd.underlying72 rfl (by kernel_rfl)) rfl ?_
          exact unhide HR
        · have HT := hide (tellW_over (m := m) (ver := n.ver) (ss := (n.ptrs.filter fun s => (ptoks s.data.toList).isSome)) (unhide HCLO) hv (by rw [unhide HNN]; exact h0) h4)
          have hab0 := alloc_b w1 (Obj.cells #[] 9)
          have hown0 := World.ownsRow_lit (base := 0) (e := 9) (size := 1) w1 #[] 0 (Nat.zero_le _) (by unfold maxLen; omega) rfl
          have hab1 := alloc_b (w1.alloc (Obj.cells #[] 9)) (Obj.cells #[.int .i64 n.ver, .slice (some ⟨w1.heap.size, 0, none⟩) 0 0, .bool true] 115)
          have hab := below_next hab0 hab1
          have hs0 : (w1.alloc (Obj.cells #[] 9)).heap.size = w1.heap.size + 1 := by simp
          have E3 : Hid (msgE.E ((w1.alloc (Obj.cells #[] 9)).alloc (Obj.cells #[.int .i64 n.ver, .slice (some ⟨w1.heap.size, 0, none⟩) 0 0, .bool true] 115)) [.int .i64 n.ver, .slice (some ⟨w1.heap.size, 0, none⟩) 0 0, .bool true] ⟨n.ver, [], true⟩ [w1.heap.size]) := ⟨_, rfl, ORow.below (ostr_iff.2 ⟨hown0, rfl⟩) hab1⟩
          have HCE : Hid (∀ (j : Nat) (u : Value), [Value.int .i64 n.ver, .slice (some ⟨w1.heap.size, 0, none⟩) 0 0, .bool true][j]? = some u → ((w1.alloc (Obj.cells #[] 9)).alloc (Obj.cells #[.int .i64 n.ver, .slice (some ⟨w1.heap.size, 0, none⟩) 0 0, .bool true] 115)).cell? ((⟨w1.heap.size + 1, 0, none⟩ : Addr).add j) = some u) := fun j u hu => by
            have := lit_cells (w1.alloc (Obj.cells #[] 9)) [Value.int .i64 n.ver, .slice (some ⟨w1.heap.size, 0, none⟩) 0 0, .bool true] 115 j u hu
            rw [hs0] at this; exact this
          have O3 := hide (((unhide HQ).below (unhide HB1)).below hab)
          have HFi : Hid (Fsh F [w1.heap.size]) := ⟨by simp, fun b hb => by simp at hb; omega⟩
          have HAP : Hid (∀ b ∈ [w1.heap.size], b ∉ jb) := fun b hb hmm => by simp at hb; have h2 := (unhide HQ).lt b hmm; omega
          have HONE : Hid (∀ u ∈ [Value.int .i64 n.ver, .slice (some ⟨w1.heap.size, 0, none⟩) 0 0, .bool true], u.oneCell' = true) := fun u hu => by simp at hu; rcases hu with rfl | rfl | rfl <;> rfl
          have HAB := hide hab
          have hFw1 : F ≤ w1.heap.size := by omega
          clear h0 hab hab0 hab1 hown0 hs0
          go_wp2_with (at_builtin; refine wpList_append_elemW (e := msgE) msg_ty (by decide) Tryd.underlying70 infoMsg rfl (by decide) (by decide) rfl (.tmp 43) (.tmp 48) rfl (B := F) rfl (unhide O3) (unhide HF) (unhide E3) (unhide HFi) (unhide HAP) rfl (by exact unhide HCE) (by exact unhide HONE) (by simp; omega) (by omega) ?_)
          intro v' w9 bl' o4 f4 m4 hg4 hw4
          obtain ⟨va, vc, rfl, hv1, hv2⟩ := o4.form
          clear hv1 hv2
          have hlen : (m.queue ++ [(⟨n.ver, [], true⟩ : Msg)]).length = m.queue.length + 1 := by rw [List.length_append]; rfl
          rw [hlen] at o4 hw4 m4
          have hsA : w.heap.size + 3 ≤ ((w1.alloc (Obj.cells #[] 9)).alloc (Obj.cells #[.int .i64 n.ver, .slice (some ⟨w1.heap.size, 0, none⟩) 0 0, .bool true] 115)).heap.size := by simp; omega
          have k0' := (tell_keep (unhide HQ) hg4 (k := w.heap.size) (by omega) (by omega)).trans (((unhide HAB).block w.heap.size (by omega)).trans (unhide K0))
          have k2' := (tell_keep (unhide HQ) hg4 (k := w.heap.size + 1 + 1) (by omega) (by omega)).trans (((unhide HAB).block (w.heap.size + 1 + 1) (by omega)).trans (unhide K2))
          have TE := tell_end (unhide HQ) (below_next (unhide HB1) (unhide HAB)) hsA hg4 o4 (fun b hb => by
            rcases m4 b hb with h | h | h
            · exact .inl h
            · exact .inr (.inl (by first | omega | (simp at h; omega)))
            · exact .inr (.inr h)) hw4 (by omega) ((fr_set0 w9 w.heap.size 5 (.slice va (m.queue.length + 1) vc)).set (g := w.heap.size) (by simp) 4 (.bool true)) [.int .i64 m.client, .string m.ptr, .int .i64 m.cap, .int .i64 m.since, .bool true, .slice va (m.queue.length + 1) vc]
          have p5 : w9.cell? ⟨w.heap.size, 5, none⟩ = some (.slice qa m.queue.length qc) := Lib.cell_of_heap k0' 5
          have fp := Lib.frozen_of_heap k0'
          have k10 := heap_setCell_same _ _ 5 _ _ (.slice va (m.queue.length + 1) vc) k0'
          have k11 := heap_setCell_same _ _ 4 _ _ (.bool true) k10
          have q4 : (w9.setCell ⟨w.heap.size, 5, none⟩ (.slice va (m.queue.length + 1) vc)).cell? ⟨w.heap.size, 4, none⟩ = some (.bool false) := Lib.cell_of_heap k10 4
          have fq := Lib.frozen_of_heap k10
          have k2x := (Below.heap_setCell w9 ⟨w.heap.size, 5, none⟩ (.slice va (m.queue.length + 1) vc) (w.heap.size + 1 + 1) (by simp; omega)).trans k2'
          have k2'' := (Below.heap_setCell (w9.setCell ⟨w.heap.size, 5, none⟩ (.slice va (m.queue.length + 1) vc)) ⟨w.heap.size, 4, none⟩ (.bool true) (w.heap.size + 1 + 1) (by simp; omega)).trans k2x
          have HR : Hid (TP m n (.slice qa m.queue.length qc) jb F w (.returned (.agg #[.int .i64 m.client, .string m.ptr, .int .i64 m.cap, .int .i64 m.since, .bool true, .slice va (m.queue.length + 1) vc])) (putN ((w9.setCell ⟨w.heap.size, 5, none⟩ (.slice va (m.queue.length + 1) vc)).setCell ⟨w.heap.size, 4, none⟩ (.bool true)) (w.heap.size + 1 + 1) 0 [.int .i64 m.client, .string m.ptr, .int .i64 m.cap, .int .i64 m.since, .bool true, .slice va (m.queue.length + 1) vc])) := 
            ⟨_, bl', by rw [unhide HT], by rw [unhide HT]; exact TE.1, f4, TE.2.2, TE.2.1⟩
          have KF := hide (putN_full k2'' [.int .i64 m.client, .string m.ptr, .int .i64 m.cap, .int .i64 m.since, .bool true, .slice va (m.queue.length + 1) vc] rfl)
          have d0 : ((w9.setCell ⟨w.heap.size, 5, none⟩ (.slice va (m.queue.length + 1) vc)).setCell ⟨w.heap.size, 4, none⟩ (.bool true)).cell? ⟨w.heap.size, 0, none⟩ = some (.int .i64 m.client) := Lib.cell_of_heap k11 0
          have d1 : ((w9.setCell ⟨w.heap.size, 5, none⟩ (.slice va (m.queue.length + 1) vc)).setCell ⟨w.heap.size, 4, none⟩ (.bool true)).cell? ⟨w.heap.size, 1, none⟩ = some (.string m.ptr) := Lib.cell_of_heap k11 1
          have d2 : ((w9.setCell ⟨w.heap.size, 5, none⟩ (.slice va (m.queue.length + 1) vc)).setCell ⟨w.heap.size, 4, none⟩ (.bool true)).cell? ⟨w.heap.size, 2, none⟩ = some (.int .i64 m.cap) := Lib.cell_of_heap k11 2
          have d3 : ((w9.setCell ⟨w.heap.size, 5, none⟩ (.slice va (m.queue.length + 1) vc)).setCell ⟨w.heap.size, 4, none⟩ (.bool true)).cell? ⟨w.heap.size, 3, none⟩ = some (.int .i64 m.since) := Lib.cell_of_heap k11 3
          have d4 : ((w9.setCell ⟨w.heap.size, 5, none⟩ (.slice va (m.queue.length + 1) vc)).setCell ⟨w.heap.size, 4, none⟩ (.bool true)).cell? ⟨w.heap.size, 4, none⟩ = some (.bool true) := Lib.cell_of_heap k11 4
          have d5 : ((w9.setCell ⟨w.heap.size, 5, none⟩ (.slice va (m.queue.length + 1) vc)).setCell ⟨w.heap.size, 4, none⟩ (.bool true)).cell? ⟨w.heap.size, 5, none⟩ = some (.slice va (m.queue.length + 1) vc) := Lib.cell_of_heap k11 5
          have g0 : ((w9.setCell ⟨w.heap.size, 5, none⟩ (.slice va (m.queue.length + 1) vc)).setCell ⟨w.heap.size, 4, none⟩ (.bool true)).cell? ⟨w.heap.size + 1 + 1, 0, none⟩ = some (.int .i64 0) := Lib.cell_of_heap k2'' 0
          have g1 : ((w9.setCell ⟨w.heap.size, 5, none⟩ (.slice va (m.queue.length + 1) vc)).setCell ⟨w.heap.size, 4, none⟩ (.bool true)).cell? ⟨w.heap.size + 1 + 1, 1, none⟩ = some (.string ⟨#[]⟩) := Lib.cell_of_heap k2'' 1
          have g2 : ((w9.setCell ⟨w.heap.size, 5, none⟩ (.slice va (m.queue.length + 1) vc)).setCell ⟨w.heap.size, 4, none⟩ (.bool true)).cell? ⟨w.heap.size + 1 + 1, 2, none⟩ = some (.int .i64 0) := Lib.cell_of_heap k2'' 2
          have g3 : ((w9.setCell ⟨w.heap.size, 5, none⟩ (.slice va (m.queue.length + 1) vc)).setCell ⟨w.heap.size, 4, none⟩ (.bool true)).cell? ⟨w.heap.size + 1 + 1, 3, none⟩ = some (.int .i64 0) := Lib.cell_of_heap k2'' 3
          have g4 : ((w9.setCell ⟨w.heap.size, 5, none⟩ (.slice va (m.queue.length + 1) vc)).setCell ⟨w.heap.size, 4, none⟩ (.bool true)).cell? ⟨w.heap.size + 1 + 1, 4, none⟩ = some (.bool false) := Lib.cell_of_heap k2'' 4
          have g5 : ((w9.setCell ⟨w.heap.size, 5, none⟩ (.slice va (m.queue.length + 1) vc)).setCell ⟨w.heap.size, 4, none⟩ (.bool true)).cell? ⟨w.heap.size + 1 + 1, 5, none⟩ = some (.slice none 0 0) := Lib.cell_of_heap k2'' 5
          have fg := Lib.frozen_of_heap k2''
          have HZA := hide hzA
          clear hzA hlen k10 k11 k2x k2'' TE hsA o4 f4 m4 hg4 hw4 k0' k2' E3 O3 HFi HAP HONE HAB HCE a0 a1 a2 a3 a4 a5 b0 r0 r1 r2 r3 r4 r5 fa fr SAME
          go_wp2
          refine bodyPost_ret (results_cell_row rfl _ _ (w.heap.size + 1 + 1) 72 #[_, _, _, _, _, _] (0, 0) _ rfl (unhide KF) Tryd.underlying72 rfl (by kernel_rfl)) rfl ?_
          exact unhide HR
  · have HT := hide (tellW_id (ver := n.ver) (ss := n.ptrs.filter fun s => (ptoks s.data.toList).isSome) (.inl (unhide HCLO)))
    go_wp2
    refine bodyPost_ret (results_cell_row rfl _ _ (w.heap.size + 1 + 1) 72 #[_, _, _, _, _, _] (0, 0) _ rfl (putN_full (unhide K2) [_, _, _, _, _, _] rfl) Tryd.underlying72 rfl (by kernel_rfl)) rfl ?_
    exact unhide SAME (unhide HT)
end Go.Proofs.YtbcfkkicmmhhcaaDoor
