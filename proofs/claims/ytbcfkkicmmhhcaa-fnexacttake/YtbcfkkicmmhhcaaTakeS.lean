import Derived.Test.YtbcfkkicmmhhcaaTake
import Derived.Deep.CutRange
namespace Go.Proofs.Ytbcfkkicmmhhcaa
open Go.RowKit

theorem then_ret {K : Act → World → Prop} {Q : Exit → Act → World → Prop} {a : Act} {w : World} (h : Q .ret a w) : Exit.then K Q .ret a w := h
theorem takeS_fin {w w3 : World} {p2 q2 m1 : Value} {h' : Hb} {m' : Msg} {x1 x2 ib : List Nat} {u0 u1 v0 v1 v2 : Value} (k1 : w3.heap[w.heap.size + 1]? = some (.cells #[u0, u1] 32 (0, 0))) (k2 : w3.heap[w.heap.size + 1 + 1]? = some (.cells #[v0, v1, v2] 44 (0, 0))) (ow : ORow watE w3 p2 h'.watches x1) (ox : ORow nwsE w3 q2 h'.waiting x2) (hm : OStr w3 m1 m'.ptrs ib) (hn : ∀ g, g < w.heap.size + 1 + 1 + 1 → g ∉ (x1 ++ x2) ++ ib) (hb : Below w.heap.size w w3) :
    (putN (putN w3 (w.heap.size + 1) 0 [p2, q2]) (w.heap.size + 1 + 1) 0 [.int .i64 m'.ver, m1, .bool m'.over]).heap[w.heap.size + 1]? = some (.cells #[p2, q2] 32 (0, 0)) ∧
    (putN (putN w3 (w.heap.size + 1) 0 [p2, q2]) (w.heap.size + 1 + 1) 0 [.int .i64 m'.ver, m1, .bool m'.over]).heap[w.heap.size + 1 + 1]? = some (.cells #[.int .i64 m'.ver, m1, .bool m'.over] 44 (0, 0)) ∧
    OHub (putN (putN w3 (w.heap.size + 1) 0 [p2, q2]) (w.heap.size + 1 + 1) 0 [.int .i64 m'.ver, m1, .bool m'.over]) (.agg #[p2, q2]) h' (x1 ++ x2) ∧
    msgE.E (putN (putN w3 (w.heap.size + 1) 0 [p2, q2]) (w.heap.size + 1 + 1) 0 [.int .i64 m'.ver, m1, .bool m'.over]) [.int .i64 m'.ver, m1, .bool m'.over] m' ib ∧
    Below w.heap.size w (putN (putN w3 (w.heap.size + 1) 0 [p2, q2]) (w.heap.size + 1 + 1) 0 [.int .i64 m'.ver, m1, .bool m'.over]) := by
  have a1 := hn (w.heap.size + 1) (by omega)
  have a2 := hn (w.heap.size + 1 + 1) (by omega)
  simp only [List.mem_append, not_or] at a1 a2
  refine ⟨(putN_other (by omega) _ _).trans (putN_full k1 [p2, q2] rfl), putN_full ((putN_other (by omega) _ _).trans k2) [.int .i64 m'.ver, m1, .bool m'.over] rfl, ⟨_, _, x1, x2, rfl, (ow.putN a1.1.1 [p2, q2] 0).putN a2.1.1 _ 0, (ox.putN a1.1.2 [p2, q2] 0).putN a2.1.2 _ 0, rfl⟩, ⟨_, rfl, (hm.putN a1.2 [p2, q2] 0).putN a2.2 _ 0⟩, ?_⟩
  exact putN_below (g := w.heap.size + 1 + 1) (putN_below (g := w.heap.size + 1) hb (by omega) _ 0) (by omega) _ 0
theorem takeS_find {w w3 : World} {p2 q2 m1 : Value} {h' : Hb} {m' : Msg} {x1 x2 ib : List Nat} {u0 u1 v0 v1 v2 : Value} (k1 : w3.heap[w.heap.size + 1]? = some (.cells #[u0, u1] 32 (0, 0))) (k2 : w3.heap[w.heap.size + 1 + 1]? = some (.cells #[v0, v1, v2] 44 (0, 0))) (ow : ORow watE w3 p2 h'.watches x1) (ox : ORow nwsE w3 q2 h'.waiting x2) (hm : OStr w3 m1 m'.ptrs ib) (hn : ∀ g, g < w.heap.size + 1 + 1 + 1 → g ∉ (x1 ++ x2) ++ ib) (hb : Below w.heap.size w w3) :
    (putN (putN w3 (w.heap.size + 1) 0 [p2, q2]) (w.heap.size + 1 + 1) 0 [.int .i64 m'.ver, m1, .bool m'.over]).drew.heap[w.heap.size + 1]? = some (.cells #[p2, q2] 32 (0, 0)) ∧
    (putN (putN w3 (w.heap.size + 1) 0 [p2, q2]) (w.heap.size + 1 + 1) 0 [.int .i64 m'.ver, m1, .bool m'.over]).drew.heap[w.heap.size + 1 + 1]? = some (.cells #[.int .i64 m'.ver, m1, .bool m'.over] 44 (0, 0)) ∧
    OHub (putN (putN w3 (w.heap.size + 1) 0 [p2, q2]) (w.heap.size + 1 + 1) 0 [.int .i64 m'.ver, m1, .bool m'.over]).drew (.agg #[p2, q2]) h' (x1 ++ x2) ∧
    msgE.E (putN (putN w3 (w.heap.size + 1) 0 [p2, q2]) (w.heap.size + 1 + 1) 0 [.int .i64 m'.ver, m1, .bool m'.over]).drew [.int .i64 m'.ver, m1, .bool m'.over] m' ib ∧
    Below w.heap.size w (putN (putN w3 (w.heap.size + 1) 0 [p2, q2]) (w.heap.size + 1 + 1) 0 [.int .i64 m'.ver, m1, .bool m'.over]).drew := by
  obtain ⟨f1, f2, f3, f4, f5⟩ := takeS_fin k1 k2 ow ox hm hn hb
  have hd : ∀ x : World, x.drew.heap = x.heap := fun _ => rfl
  rw [hd]
  exact ⟨f1, f2, f3.below (Below.refl _ _).drew, msgE.keep f4 (.of_below (Below.refl _ _).drew (msgE.lt f4)), f5.drew⟩
set_option maxHeartbeats 4000000 in
set_option maxRecDepth 100000 in
theorem specTake_walk (v : Value) (h : Hb) (client : Int) (bl : List Nat) (w : World) (ho : OHub w v h bl) (hs : szHb h ≤ 1048577) :
    Calls Try.prog 19 #[v, .int .i64 client] w fun e w' => ∃ v' bl' a0 a1 a2 jb, e = .returned (.tuple #[v', .agg #[a0, a1, a2], .int .i64 (takC h client)]) ∧ OHub w' v' (takH h client) bl' ∧ msgE.E w' [a0, a1, a2] (takM h client) jb ∧ Below w.heap.size w w' := by
  obtain ⟨p, q, i1, i2, rfl, o1, o2, rfl⟩ := ho
  have HO : Hid (OHub w (.agg #[p, q]) h (i1 ++ i2)) := ⟨p, q, i1, i2, rfl, o1, o2, rfl⟩
  have O1 := hide o1
  obtain ⟨xa, xc, rfl, hfm, hsh⟩ := o1.form
  have HSH := hide hsh
  clear o1 o2 hsh hfm
  go_enter Try.func19, Try.ntmps19
  go_wp2_with fail
  have hA := new3 w (Obj.cells #[.slice xa h.watches.length xc, q] 32) (Obj.cells #[Value.slice none 0 0, Value.slice none 0 0] 32) (Obj.cells #[Value.int IntKind.i64 0, Value.slice none 0 0, Value.bool false] 44)
  generalize (((w.alloc (Obj.cells #[.slice xa h.watches.length xc, q] 32)).alloc (Obj.cells #[Value.slice none 0 0, Value.slice none 0 0] 32)).alloc (Obj.cells #[Value.int IntKind.i64 0, Value.slice none 0 0, Value.bool false] 44)) = wA at *
  have hsz := hA.size
  refine (l5Find_walk _ h client _ wA ((unhide HO).below hA.bel)).mono ?_
  rintro e w1 ⟨rfl, b1⟩
  have hz1 := b1.size
  have B1 := below_next hA.bel b1
  have k0 := (b1.block w.heap.size (by omega)).trans hA.k0
  have k1 := (b1.block (w.heap.size + 1) (by omega)).trans hA.k1
  have k2 := (b1.block (w.heap.size + 1 + 1) (by omega)).trans hA.k2
  have c0 : w1.cell? ⟨w.heap.size, 0, none⟩ = some (.slice xa h.watches.length xc) := Lib.cell_of_heap k0 0
  have c1 : w1.cell? ⟨w.heap.size, 1, none⟩ = some q := Lib.cell_of_heap k0 1
  have HC := hide (l5Copy_walk _ h (-1) 0 _ w1 ((unhide HO).below B1) hs (by omega))
  have hch : copyH h (-1) 0 = h := by
    unfold copyH; rw [skipT_none _ _ (Nat.le_refl _), List.take_length]; rfl
  rw [hch] at HC
  have HK0 := hide k0
  have HK1 := hide k1
  have HK2 := hide k2
  have HB1 := hide B1
  clear hA b1 B1 k0 k1 k2 hch
  obtain ⟨z, hz⟩ : ∃ z, findI h.watches client = z := ⟨_, rfl⟩
  rw [hz]
  have HZ := hide hz
  clear hz
  go_wp2_with fail
  refine (unhide HC).mono ?_
  rintro e w2 ⟨v2, b2l, rfl, o2, f2, b2⟩
  obtain ⟨pw, qw, x1, x2, rfl, ow, ox, rfl⟩ := o2
  obtain ⟨a1, d1, rfl, hfa, hsw⟩ := ow.form
  obtain ⟨a2, d2, rfl, hfb, hfc⟩ := ox.form
  have hz2 := b2.size
  have hab := alloc_b w2 (Obj.cells #[.slice a1 h.watches.length d1, .slice a2 h.waiting.length d2] 32)
  have kO := heap_alloc_new w2 (Obj.cells #[.slice a1 h.watches.length d1, .slice a2 h.waiting.length d2] 32)
  have hsO : (w2.alloc (Obj.cells #[.slice a1 h.watches.length d1, .slice a2 h.waiting.length d2] 32)).heap.size = w2.heap.size + 1 := by simp
  have bb := below_next b2 hab
  have B3 := below_next (unhide HB1) bb
  have k0 := (bb.block w.heap.size (by omega)).trans (unhide HK0)
  have k1 := (bb.block (w.heap.size + 1) (by omega)).trans (unhide HK1)
  have k2 := (bb.block (w.heap.size + 1 + 1) (by omega)).trans (unhide HK2)
  have OW := hide (ow.below hab)
  have OX := hide (ox.below hab)
  have hlw := ow.lt
  have hlx := ox.lt
  have HLW := hide hlw
  have HLX := hide hlx
  have HSW := hide hsw
  have F2 := hide f2
  clear hfa hfb hfc hsw HC HB1 HK0 HK1 HK2 c0 c1 ow ox hlw hlx f2 b2 hab bb
  obtain ⟨w3, hw3⟩ : ∃ w3, (w2.alloc (Obj.cells #[.slice a1 h.watches.length d1, .slice a2 h.waiting.length d2] 32)) = w3 := ⟨_, rfl⟩
  rw [hw3] at kO hsO B3 k0 k1 k2 OW OX
  have HW3 := hide hw3
  clear hw3
  have e0 : w3.cell? ⟨w2.heap.size, 0, none⟩ = some (.slice a1 h.watches.length d1) := Lib.cell_of_heap kO 0
  have e1 : w3.cell? ⟨w2.heap.size, 1, none⟩ = some (.slice a2 h.waiting.length d2) := Lib.cell_of_heap kO 1
  have n0 : w3.cell? ⟨w.heap.size, 0, none⟩ = some (.slice xa h.watches.length xc) := Lib.cell_of_heap k0 0
  have HN : Hid (∀ g, g < w1.heap.size → g ∉ x1 ++ x2) := fun g hg hm => by have := (unhide F2).2 g hm; omega
  by_cases hzn : z < 0
  · have hm1 : findI h.watches client = -1 := by
      rcases findI_cases h.watches client with h1 | ⟨j, _, h1, _⟩
      · exact h1
      · have := unhide HZ; omega
    have HT := hide (tak_no hm1)
    obtain ⟨f1, f2, f3, f4, f5⟩ := takeS_fin (m' := msg0) (m1 := .slice none 0 0) (ib := []) k1 k2 (unhide OW) (unhide OX) (ORow.nil _ _) (fun g hg hm => unhide HN g (by omega) (by simpa using hm)) B3
    have F3 := hide f3
    have F4 := hide f4
    have F5 := hide f5
    have FA := hide f1
    have FB := hide f2
    have r0 : w3.cell? ⟨w.heap.size + 1, 0, none⟩ = some (.slice none 0 0) := Lib.cell_of_heap k1 0
    have r1 : w3.cell? ⟨w.heap.size + 1, 1, none⟩ = some (.slice none 0 0) := Lib.cell_of_heap k1 1
    have fr1 := Lib.frozen_of_heap k1
    have s0 : w3.cell? ⟨w.heap.size + 1 + 1, 0, none⟩ = some (.int .i64 0) := Lib.cell_of_heap k2 0
    have s1 : w3.cell? ⟨w.heap.size + 1 + 1, 1, none⟩ = some (.slice none 0 0) := Lib.cell_of_heap k2 1
    have s2 : w3.cell? ⟨w.heap.size + 1 + 1, 2, none⟩ = some (.bool false) := Lib.cell_of_heap k2 2
    have fr2 := Lib.frozen_of_heap k2
    clear f1 f2 f3 f4 f5 hm1 k0 k1 k2 kO B3 OW OX
    have hw3 := unhide HW3
    clear HW3 HN
    go_wp2
    refine bodyPost_ret (results_cell2_tmp rfl _ _ (w.heap.size + 1) 32 #[_, _] (0, 0) _ (w.heap.size + 1 + 1) 44 #[_, _, _] (0, 0) _ _ rfl rfl rfl (unhide FA) (unhide FB) Try.underlying32 rfl (by kernel_rfl) Try.underlying44 rfl (by kernel_rfl)) rfl ?_
    obtain ⟨t1, t2, t3⟩ := unhide HT
    rw [t1, t2, t3]
    exact ⟨_, _, _, _, _, _, rfl, unhide F3, unhide F4, unhide F5⟩
  · obtain ⟨j, hj, hzj⟩ : ∃ j : Nat, ∃ hj : j < h.watches.length, findI h.watches client = (j : Int) := by
      rcases findI_cases h.watches client with h1 | ⟨j, hj, h1, _⟩
      · exact absurd ((unhide HZ).symm.trans h1) (by omega)
      · exact ⟨j, hj, h1⟩
    obtain rfl : z = (j : Int) := (unhide HZ).symm.trans hzj
    have HZJ := hide hzj
    clear hzj HZ
    have hw3 := unhide HW3
    have K0 := hide k0
    have K1 := hide k1
    have K2 := hide k2
    have KO := hide kO
    have BB3 := hide B3
    clear HW3 k0 k1 k2 kO B3
    go_upto_region 5 with fail
    have k0 := unhide K0
    have k1 := unhide K1
    have k2 := unhide K2
    have kO := unhide KO
    have B3 := unhide BB3
    clear K0 K1 K2 KO BB3 hw3 hzn
    obtain ⟨gx, rfl⟩ := unhide HSH (by omega)
    obtain ⟨g1, rfl⟩ := unhide HSW (by omega)
    obtain ⟨vs, jb, hEw, hcw, hx1, hx2, hx3⟩ := (unhide O1).at (List.getElem?_eq_getElem hj)
    have hE := watE.keep hEw (.of_below B3 (watE.lt hEw))
    have hE0 := hEw
    obtain ⟨qv, rfl, hqw⟩ := hE0
    have hq := hqw.below B3
    have HQW := hide hqw
    have hc : ∀ m u, [Value.int .i64 h.watches[j].client, .string h.watches[j].ptr, .int .i64 h.watches[j].cap, .int .i64 h.watches[j].since, .bool h.watches[j].closed, qv][m]? = some u → w3.cell? ⟨gx, j * watE.wd + m, none⟩ = some u := fun m u hu => by
      have h1 := (hcw m u hu).1
      exact (B3.cell (World.block_lt_of_cell? _ _ h1)).trans h1
    clear hcw hEw hqw
    obtain ⟨ya, yc, rfl, hy1, hy2⟩ := hq.form
    have HQ := hide hq
    have HE := hide hE
    have c0 : w3.cell? ⟨gx, j * 6, none⟩ = some (.int .i64 h.watches[j].client) := hc 0 _ rfl
    have c1 : w3.cell? ⟨gx, j * 6 + 1, none⟩ = some (.string h.watches[j].ptr) := hc 1 _ rfl
    have c2 : w3.cell? ⟨gx, j * 6 + 2, none⟩ = some (.int .i64 h.watches[j].cap) := hc 2 _ rfl
    have c3 : w3.cell? ⟨gx, j * 6 + 3, none⟩ = some (.int .i64 h.watches[j].since) := hc 3 _ rfl
    have c4 : w3.cell? ⟨gx, j * 6 + 4, none⟩ = some (.bool h.watches[j].closed) := hc 4 _ rfl
    have c5 : w3.cell? ⟨gx, j * 6 + 5, none⟩ = some (.slice ya h.watches[j].queue.length yc) := hc 5 _ rfl
    obtain ⟨clo, hclo⟩ : ∃ clo, h.watches[j].closed = clo := ⟨_, rfl⟩
    rw [hclo] at c4
    have HCLO := hide hclo
    have hjI : (j : Int) < (h.watches.length : Int) := by omega
    have HY := hide hy2
    have hab := alloc_b w3 (Obj.cells #[.int .i64 h.watches[j].client, .string h.watches[j].ptr, .int .i64 h.watches[j].cap, .int .i64 h.watches[j].since, .bool clo, .slice ya h.watches[j].queue.length yc] 73)
    have kW := heap_alloc_new w3 (Obj.cells #[.int .i64 h.watches[j].client, .string h.watches[j].ptr, .int .i64 h.watches[j].cap, .int .i64 h.watches[j].since, .bool clo, .slice ya h.watches[j].queue.length yc] 73)
    rcases Nat.eq_zero_or_pos h.watches[j].queue.length with hq0 | hq0
    · have hqn : h.watches[j].queue = [] := List.length_eq_zero_iff.1 hq0
      have HT := hide (tak_nil hj (unhide HZJ) hqn)
      rw [hq0] at c5 hab kW
      obtain ⟨w4, hw4⟩ : ∃ w4, (w3.alloc (Obj.cells #[.int .i64 h.watches[j].client, .string h.watches[j].ptr, .int .i64 h.watches[j].cap, .int .i64 h.watches[j].since, .bool clo, .slice ya 0 yc] 73)) = w4 := ⟨_, rfl⟩
      rw [hw4] at hab kW
      rw [hsO] at kW
      have l4 : w4.cell? ⟨w2.heap.size + 1, 4, none⟩ = some (.bool clo) := Lib.cell_of_heap kW 4
      have l5 : w4.cell? ⟨w2.heap.size + 1, 5, none⟩ = some (.slice ya 0 yc) := Lib.cell_of_heap kW 5
      have kO4 := (hab.block w2.heap.size (by omega)).trans kO
      have e0' : w4.cell? ⟨w2.heap.size, 0, none⟩ = some (.slice (some ⟨g1, 0, none⟩) h.watches.length d1) := Lib.cell_of_heap kO4 0
      have e1' : w4.cell? ⟨w2.heap.size, 1, none⟩ = some (.slice a2 h.waiting.length d2) := Lib.cell_of_heap kO4 1
      have k14 := (hab.block (w.heap.size + 1) (by omega)).trans k1
      have k24 := (hab.block (w.heap.size + 1 + 1) (by omega)).trans k2
      obtain ⟨f1, f2, f3, f4, f5⟩ := takeS_fin (m' := msg0) (m1 := .slice none 0 0) (ib := []) k14 k24 ((unhide OW).below hab) ((unhide OX).below hab) (ORow.nil _ _) (fun g hg hm => unhide HN g (by omega) (by simpa using hm)) (below_next B3 hab)
      have F3 := hide f3
      have F4 := hide f4
      have F5 := hide f5
      have FA := hide f1
      have FB := hide f2
      have r0 : w4.cell? ⟨w.heap.size + 1, 0, none⟩ = some (.slice none 0 0) := Lib.cell_of_heap k14 0
      have r1 : w4.cell? ⟨w.heap.size + 1, 1, none⟩ = some (.slice none 0 0) := Lib.cell_of_heap k14 1
      have fr1 := Lib.frozen_of_heap k14
      have s0 : w4.cell? ⟨w.heap.size + 1 + 1, 0, none⟩ = some (.int .i64 0) := Lib.cell_of_heap k24 0
      have s1 : w4.cell? ⟨w.heap.size + 1 + 1, 1, none⟩ = some (.slice none 0 0) := Lib.cell_of_heap k24 1
      have s2 : w4.cell? ⟨w.heap.size + 1 + 1, 2, none⟩ = some (.bool false) := Lib.cell_of_heap k24 2
      have fr2 := Lib.frozen_of_heap k24
      clear f1 f2 f3 f4 f5 k0 k1 k2 kO B3 OW OX hc hx1 hx2 hx3 hE hq hy1 hy2 HQ HE HY hab kW kO4 k14 k24 HN hq0 hqn hclo
      cases clo
      all_goals (
        go_wp2
        refine bodyPost_ret (results_cell2_tmp rfl _ _ (w.heap.size + 1) 32 #[_, _] (0, 0) _ (w.heap.size + 1 + 1) 44 #[_, _, _] (0, 0) _ _ rfl rfl rfl (unhide FA) (unhide FB) Try.underlying32 rfl (by kernel_rfl) Try.underlying44 rfl (by kernel_rfl)) rfl ?_
        obtain ⟨t1, t2, t3⟩ := unhide HT
        rw [unhide HCLO] at t3
        simp at t3
        rw [t1, t2, t3]
        exact ⟨_, _, _, _, _, _, rfl, unhide F3, unhide F4, unhide F5⟩)
    · obtain ⟨m, qs, hqc⟩ : ∃ m qs, h.watches[j].queue = m :: qs := List.exists_cons_of_length_pos hq0
      have HT := hide (tak_cons hj (unhide HZJ) hqc)
      obtain ⟨gq, rfl⟩ := hy2 hq0
      obtain ⟨w4, hw4⟩ : ∃ w4, (w3.alloc (Obj.cells #[.int .i64 h.watches[j].client, .string h.watches[j].ptr, .int .i64 h.watches[j].cap, .int .i64 h.watches[j].since, .bool clo, .slice (some ⟨gq, 0, none⟩) h.watches[j].queue.length yc] 73)) = w4 := ⟨_, rfl⟩
      rw [hw4] at hab kW
      rw [hsO] at kW
      have hs4 : w4.heap.size = w3.heap.size + 1 := by rw [← hw4]; simp
      have l0 : w4.cell? ⟨w2.heap.size + 1, 0, none⟩ = some (.int .i64 h.watches[j].client) := Lib.cell_of_heap kW 0
      have l1 : w4.cell? ⟨w2.heap.size + 1, 1, none⟩ = some (.string h.watches[j].ptr) := Lib.cell_of_heap kW 1
      have l2 : w4.cell? ⟨w2.heap.size + 1, 2, none⟩ = some (.int .i64 h.watches[j].cap) := Lib.cell_of_heap kW 2
      have l3 : w4.cell? ⟨w2.heap.size + 1, 3, none⟩ = some (.int .i64 h.watches[j].since) := Lib.cell_of_heap kW 3
      have l4 : w4.cell? ⟨w2.heap.size + 1, 4, none⟩ = some (.bool clo) := Lib.cell_of_heap kW 4
      have l5 : w4.cell? ⟨w2.heap.size + 1, 5, none⟩ = some (.slice (some ⟨gq, 0, none⟩) h.watches[j].queue.length yc) := Lib.cell_of_heap kW 5
      have kO4 := (hab.block w2.heap.size (by omega)).trans kO
      have e0' : w4.cell? ⟨w2.heap.size, 0, none⟩ = some (.slice (some ⟨g1, 0, none⟩) h.watches.length d1) := Lib.cell_of_heap kO4 0
      have e1' : w4.cell? ⟨w2.heap.size, 1, none⟩ = some (.slice a2 h.waiting.length d2) := Lib.cell_of_heap kO4 1
      have hnz : ((h.watches[j].queue.length : Int) == 0) = false := by simpa using hqc ▸ (by simp : (m :: qs) ≠ [])
      have K14 := hide ((hab.block (w.heap.size + 1) (by omega)).trans k1)
      have K24 := hide ((hab.block (w.heap.size + 1 + 1) (by omega)).trans k2)
      have OW4 := hide ((unhide OW).below hab)
      have OX4 := hide ((unhide OX).below hab)
      have B4 := hide (below_next B3 hab)
      have KO4 := hide kO4
      have KW4 := hide kW
      have HE4 := hide (watE.keep (unhide HE) (.of_below hab (watE.lt (unhide HE))))
      have HQ4 := hide ((unhide HQ).below hab)
      have HQC := hide hqc
      clear k0 k1 k2 kO B3 OW OX hc hx1 hx2 hx3 hE hq hy1 hy2 HQ HE HY hab kW kO4 hqc hclo
      have hE4 := unhide HE4
      rw [unhide HCLO] at hE4
      have hszw : szWat h.watches[j] ≤ 1048577 := by
        have h1 := sum_take_snoc szWat h.watches j h.watches[j] (List.getElem?_eq_getElem hj)
        have h2 := sum_take_le (h.watches.map szWat) (j + 1)
        rw [← List.map_take] at h2
        unfold szHb szWats at hs; omega
      have hdr : Below w4.heap.size w4 w4.drew := (Below.refl _ _).drew
      have HW := hide (l5Wat_walk _ _ _ _ _ _ h.watches[j] 1 jb w4.drew (watE.keep hE4 (.of_below hdr (watE.lt hE4))) hszw (by omega))
      obtain ⟨cbx, hcbx⟩ := (unhide OW4).split
      have hcbx' : x1 = g1 :: cbx := hcbx
      subst hcbx'
      have hg1 : w1.heap.size ≤ g1 := (unhide F2).2 g1 (by simp)
      have hqd : h.watches[j].queue.drop 1 = qs := by rw [unhide HQC]; rfl
      have HQD := hide hqd
      clear hE4 HE4 hdr hqd hcbx
      go_wp2_with fail
      go_region_law (go_simp; refine (unhide HW).mono ?_
                     rintro e w5 ⟨b0, b1, b2', b3, b4, b5, jw, rfl, hE5, hF5, bb5⟩
                     have hE0 := hE5
                     obtain ⟨q5, hvs, hq5⟩ := hE0
                     injection hvs with i0 hvs; injection hvs with i1' hvs; injection hvs with i2' hvs; injection hvs with i3 hvs; injection hvs with i4 hvs; injection hvs with i5 hvs
                     subst i0; subst i1'; subst i2'; subst i3; subst i4; subst i5
                     obtain ⟨za, zc, rfl, hz1', hz2'⟩ := hq5.form
                     have hz5 : w4.heap.size ≤ w5.heap.size := bb5.size
                     have bb45 : Below w4.heap.size w4 w5 := ⟨bb5.os, bb5.tape, bb5.output, bb5.size, bb5.block⟩
                     have ow5 := (unhide OW4).below bb45
                     obtain ⟨vsx, jbx, hEx, hcx, hx1, hx2, hx3⟩ := ow5.at (List.getElem?_eq_getElem hj)
                     obtain ⟨qx, rfl, hqx⟩ := hEx
                     have y0 : w5.cell? ⟨g1, j * 6, none⟩ = some (.int .i64 h.watches[j].client) := (hcx 0 _ rfl).1
                     have z0 : w5.frozen? ⟨g1, j * 6, none⟩ = false := (hcx 0 _ rfl).2
                     have y1 : w5.cell? ⟨g1, j * 6 + 1, none⟩ = some (.string h.watches[j].ptr) := (hcx 1 _ rfl).1
                     have z1 : w5.frozen? ⟨g1, j * 6 + 1, none⟩ = false := (hcx 1 _ rfl).2
                     have y2 : w5.cell? ⟨g1, j * 6 + 2, none⟩ = some (.int .i64 h.watches[j].cap) := (hcx 2 _ rfl).1
                     have z2 : w5.frozen? ⟨g1, j * 6 + 2, none⟩ = false := (hcx 2 _ rfl).2
                     have y3 : w5.cell? ⟨g1, j * 6 + 3, none⟩ = some (.int .i64 h.watches[j].since) := (hcx 3 _ rfl).1
                     have z3 : w5.frozen? ⟨g1, j * 6 + 3, none⟩ = false := (hcx 3 _ rfl).2
                     have y4 : w5.cell? ⟨g1, j * 6 + 4, none⟩ = some (.bool h.watches[j].closed) := (hcx 4 _ rfl).1
                     have z4 : w5.frozen? ⟨g1, j * 6 + 4, none⟩ = false := (hcx 4 _ rfl).2
                     have y5 : w5.cell? ⟨g1, j * 6 + 5, none⟩ = some qx := (hcx 5 _ rfl).1
                     have z5 : w5.frozen? ⟨g1, j * 6 + 5, none⟩ = false := (hcx 5 _ rfl).2
                     have ko5 := (bb45.block w2.heap.size (by omega)).trans (unhide KO4)
                     have eo : w5.cell? ⟨w2.heap.size, 0, none⟩ = some (.slice (some ⟨g1, 0, none⟩) h.watches.length d1) := Lib.cell_of_heap ko5 0)
      all_goals (
        generalize hw6 : ((((((w5.setCell ⟨g1, j * 6, none⟩ (Value.int IntKind.i64 h.watches[j].client)).setCell ⟨g1, j * 6 + 1, none⟩ (Value.string h.watches[j].ptr)).setCell ⟨g1, j * 6 + 2, none⟩ (Value.int IntKind.i64 h.watches[j].cap)).setCell ⟨g1, j * 6 + 3, none⟩ (Value.int IntKind.i64 h.watches[j].since)).setCell ⟨g1, j * 6 + 4, none⟩ (Value.bool h.watches[j].closed)).setCell ⟨g1, j * 6 + 5, none⟩ (Value.slice za (h.watches[j].queue.length - 1) zc)) = w6
        have hp6 : w6 = putN w5 g1 (j * 6) [.int .i64 h.watches[j].client, .string h.watches[j].ptr, .int .i64 h.watches[j].cap, .int .i64 h.watches[j].since, .bool h.watches[j].closed, .slice za (h.watches[j].queue.length - 1) zc] := hw6.symm
        obtain ⟨cb', row6, sub6, _⟩ := orow_putAll2 wat_ty (by decide) ow5 (j := j) hj hE5
        rw [List.length_drop] at row6
        have row6' : ORow watE w6 (.slice (some ⟨g1, 0, none⟩) h.watches.length d1) (h.watches.set j ⟨h.watches[j].client, h.watches[j].ptr, h.watches[j].cap, h.watches[j].since, h.watches[j].closed, qs⟩) (g1 :: cb') := by
          rw [hp6, ← unhide HQD]; exact row6
        have hg1l : g1 < w2.heap.size := unhide HLW g1 (by simp)
        have hs6 : w6.heap.size = w5.heap.size := by rw [← hw6]; simp [World.setCell]
        have oth : ∀ k, k ≠ g1 → w6.heap[k]? = w5.heap[k]? := fun k hk => by rw [hp6]; exact putN_other hk _ _
        have k16 := (oth (w.heap.size + 1) (by omega)).trans ((bb45.block (w.heap.size + 1) (by omega)).trans (unhide K14))
        have k26 := (oth (w.heap.size + 1 + 1) (by omega)).trans ((bb45.block (w.heap.size + 1 + 1) (by omega)).trans (unhide K24))
        have ko6 := (oth w2.heap.size (by omega)).trans ko5
        have kw6 := (oth (w2.heap.size + 1) (by omega)).trans ((bb45.block (w2.heap.size + 1) (by omega)).trans (unhide KW4))
        have b6 : Below w.heap.size w w6 := by
          rw [hp6]
          exact putN_below (g := g1) ((unhide B4).trans (bb45.mono (by omega))) (by omega) _ _
        have hx6 : ∀ b ∈ x2, w6.heap[b]? = w4.heap[b]? := fun b hb => (oth b fun e => by
          have h1 := (List.nodup_append.1 (unhide F2).1).2.2 g1 (by simp) b hb
          exact h1 e.symm).trans (bb45.block b (by have := unhide HLX b hb; omega))
        have ox6 : ORow nwsE w6 (.slice a2 h.waiting.length d2) h.waiting x2 := (unhide OX4).keep hx6
        have hl5 : w6.cell? ⟨w2.heap.size + 1, 5, none⟩ = some (.slice (some ⟨gq, 0, none⟩) h.watches[j].queue.length yc) := Lib.cell_of_heap kw6 5
        obtain ⟨vs0, ib0, hE0, hc0, hx1', hx2', hx3'⟩ := ((unhide HQW).below b6).at (j := 0) (x := m) (by rw [unhide HQC]; rfl)
        have hE0' := hE0
        obtain ⟨qm, rfl, hqm⟩ := hE0'
        obtain ⟨ma, mc, rfl, hm1, hm2⟩ := hqm.form
        obtain ⟨mo, hmo⟩ : ∃ mo, m.over = mo := ⟨_, rfl⟩
        have HMO := hide hmo
        have m0 : w6.cell? ⟨gq, 0, none⟩ = some (.int .i64 m.ver) := (hc0 0 _ rfl).1
        have m1 : w6.cell? ⟨gq, 1, none⟩ = some (.slice ma m.ptrs.length mc) := (hc0 1 _ rfl).1
        have m2 : w6.cell? ⟨gq, 2, none⟩ = some (.bool m.over) := (hc0 2 _ rfl).1
        have hszm : szMsg m ≤ 1048577 := by
          have h1 := hszw
          unfold szWat szMsgs at h1
          rw [unhide HQC] at h1
          simp at h1
          omega
        have HM := hide (l5Msg_walk _ _ _ m ib0 w6 hE0 hszm)
        have hqI : (0 : Int) < (h.watches[j].queue.length : Int) := by omega
        have HN6 : Hid (∀ g, g < w.heap.size + 1 + 1 + 1 → g ∉ (g1 :: cb') ++ x2) := fun g hg hm => by
          rcases List.mem_append.1 hm with hm | hm
          · rcases List.mem_cons.1 hm with hm | hm
            · omega
            · rcases sub6 g hm with h1 | h1
              · have := (unhide F2).2 g (by simp [h1]); omega
              · have h2 : w4.heap.size + 1 ≤ g := hF5.2 g h1
                omega
          · have := (unhide F2).2 g (by simp [hm]); omega
        have K16 := hide k16
        have K26 := hide k26
        have KO6 := hide ko6
        have B6 := hide b6
        have OX6 := hide ox6
        have ROW6 := hide row6'
        have hs6' : w.heap.size + 1 + 1 + 1 ≤ w6.heap.size := by omega
        have hs7' : w2.heap.size < w6.heap.size := by omega
        clear hw6 hp6 row6 row6' sub6 oth k16 k26 ko6 kw6 b6 hx6 ox6 hE0 hc0 hx1' hx2' hx3' hqm hm1 hm2 hmo hszm bb5 bb45 hE5 hF5 hq5 hz1' hz2' ow5 hcx hx1 hx2 hx3 hqx y0 y1 y2 y3 y4 y5 z0 z1 z2 z3 z4 z5 ko5 eo HW OW4 OX4 K14 K24 KO4 KW4 HQW B4 HQ4 hnz
        clear l0 l1 l2 l3 l4 l5 e0 e1 e0' e1' c0 c1 c2 c3 c4 c5 n0 hs4 hw4 hszw hvs hsO
        go_wp2_with fail
        refine (unhide HM).mono ?_
        rintro e w7 ⟨u0, u1, u2, jm, rfl, hEm, hFm, b7⟩
        have hEm0 := hEm
        obtain ⟨q7, hvs7, hq7⟩ := hEm0
        injection hvs7 with j0 hvs7; injection hvs7 with j1' hvs7; injection hvs7 with j2' hvs7
        subst j0; subst j1'; subst j2'
        obtain ⟨na, nc, rfl, hn1, hn2⟩ := hq7.form
        rw [unhide HMO]
        have B7 := hide b7
        have EM := hide hEm
        have FM := hide hFm
        have Q7 := hide hq7
        clear b7 hEm hFm hq7 hn1 hn2 HM m0 m1 m2 hl5 hqI
        go_upto_region 12 with fail
        have b7 := unhide B7
        have hEm := unhide EM
        have hFm := unhide FM
        have hq7 := unhide Q7
        clear B7 EM FM Q7
        have hz7 := b7.size
        have hab := alloc_b w7 (Obj.cells #[.int .i64 m.ver, .slice na m.ptrs.length nc, .bool mo] 44)
        have kM := heap_alloc_new w7 (Obj.cells #[.int .i64 m.ver, .slice na m.ptrs.length nc, .bool mo] 44)
        have b68 := below_next b7 hab
        have k18 := (b68.block (w.heap.size + 1) (by omega)).trans (unhide K16)
        have k28 := (b68.block (w.heap.size + 1 + 1) (by omega)).trans (unhide K26)
        have ko8 := (b68.block w2.heap.size (by omega)).trans (unhide KO6)
        generalize w7.alloc (Obj.cells #[.int .i64 m.ver, .slice na m.ptrs.length nc, .bool mo] 44) = w8 at *
        have e0 : w8.cell? ⟨w2.heap.size, 0, none⟩ = some (.slice (some ⟨g1, 0, none⟩) h.watches.length d1) := Lib.cell_of_heap ko8 0
        have e1 : w8.cell? ⟨w2.heap.size, 1, none⟩ = some (.slice a2 h.waiting.length d2) := Lib.cell_of_heap ko8 1
        have n0 : w8.cell? ⟨w7.heap.size, 0, none⟩ = some (.int .i64 m.ver) := Lib.cell_of_heap kM 0
        have n1 : w8.cell? ⟨w7.heap.size, 1, none⟩ = some (.slice na m.ptrs.length nc) := Lib.cell_of_heap kM 1
        have n2 : w8.cell? ⟨w7.heap.size, 2, none⟩ = some (.bool mo) := Lib.cell_of_heap kM 2
        obtain ⟨f1, f2, f3, f4, f5⟩ := takeS_find (h' := ⟨h.watches.set j ⟨h.watches[j].client, h.watches[j].ptr, h.watches[j].cap, h.watches[j].since, h.watches[j].closed, qs⟩, h.waiting⟩) (m' := m) k18 k28 ((unhide ROW6).below b68) ((unhide OX6).below b68) (hq7.below hab) (fun g hg hm => by
          rcases List.mem_append.1 hm with hm | hm
          · exact unhide HN6 g hg hm
          · have := hFm.2 g hm; omega) (below_next (unhide B6) b68)
        rw [unhide HMO] at f1 f2 f3 f4 f5
        have F3 := hide f3
        have F4 := hide f4
        have F5 := hide f5
        have FA := hide f1
        have FB := hide f2
        have r0 : w8.cell? ⟨w.heap.size + 1, 0, none⟩ = some (.slice none 0 0) := Lib.cell_of_heap k18 0
        have r1 : w8.cell? ⟨w.heap.size + 1, 1, none⟩ = some (.slice none 0 0) := Lib.cell_of_heap k18 1
        have fr1 := Lib.frozen_of_heap k18
        have s0 : w8.cell? ⟨w.heap.size + 1 + 1, 0, none⟩ = some (.int .i64 0) := Lib.cell_of_heap k28 0
        have s1 : w8.cell? ⟨w.heap.size + 1 + 1, 1, none⟩ = some (.slice none 0 0) := Lib.cell_of_heap k28 1
        have s2 : w8.cell? ⟨w.heap.size + 1 + 1, 2, none⟩ = some (.bool false) := Lib.cell_of_heap k28 2
        have fr2 := Lib.frozen_of_heap k28
        clear f1 f2 f3 f4 f5 hab kM b68 k18 k28 ko8 hq7 hEm hFm b7 K16 K26 KO6 B6 OX6 ROW6 HN6
        cases mo
        all_goals (
          go_wp2_with fail
          go_region_law (fail))
        all_goals (
          clear e0 e1 n0 n1 n2 r0 r1 s0 s1 s2 fr1 fr2
          rename_i Kx hKx
          refine hKx _ _ (wp_ret ?_)
          try refine then_ret ?_
          show bodyPost _ _ _ Exit.ret _ _
          refine bodyPost_ret (results_cell2_tmp rfl _ _ (w.heap.size + 1) 32 #[_, _] (0, 0) _ (w.heap.size + 1 + 1) 44 #[_, _, _] (0, 0) _ _ rfl rfl rfl (unhide FA) (unhide FB) Try.underlying32 rfl (by kernel_rfl) Try.underlying44 rfl (by kernel_rfl)) rfl ?_
          obtain ⟨t1, t2, t3⟩ := unhide HT
          rw [unhide HMO] at t3
          simp at t3
          rw [t1, t2, t3]
          exact ⟨_, _, _, _, _, _, rfl, unhide F3, unhide F4, unhide F5⟩))
end Go.Proofs.Ytbcfkkicmmhhcaa
