import Derived.Test.YtlfonikfjibloaaGreatDoorBt32
import Derived.Test.YtlfonikfjibloaaGreatDoorBt27
import Derived.Lib.AppendZerosOnto
namespace Go.Proofs.YtlfonikfjibloaaGreatDoor
open Go.RowKit

theorem wtr_ty {w : World} {vs : List Value} {m : Wat} {bl : List Nat} (h : wtrE.E w vs m bl) : Tys [225, 58, 9] w bl := by
  obtain ⟨g, cv, f, c, ms, cb, _, h1, h2, _, _, rfl⟩ := h
  intro b hb
  rcases List.mem_cons.1 hb with rfl | hb
  · exact ⟨_, _, h1, by simp⟩
  · obtain ⟨cur, t, h3, h4⟩ := orow_ty (e := msgE) msg_ty h2 b hb
    exact ⟨cur, t, h3, List.mem_cons_of_mem _ h4⟩
theorem msgs_inner {w : World} {v : Value} {ms : List Msg} {cb : List Nat} (h : ORow msgE w v ms (v.ownBlock.toList ++ cb)) : ∀ b ∈ cb, ∃ cur, w.heap[b]? = some (.cells cur 9 (0, 0)) := by
  obtain ⟨ps, hl, hE, ho, hb⟩ := h
  rw [List.append_cancel_left hb]
  intro b hm
  obtain ⟨p, hp, hbp⟩ := List.mem_flatMap.1 hm
  obtain ⟨j, hj, rfl⟩ := List.mem_iff_getElem.1 hp
  obtain ⟨q, _, h1⟩ := hE j ps[j] (ms[j]'(by omega)) (List.getElem?_eq_getElem hj) (List.getElem?_eq_getElem (by omega))
  obtain ⟨cur, t, e1, e2⟩ := ostr_ty h1 b hbp
  simp at e2
  exact ⟨cur, by rw [e1, e2]⟩
theorem infoWtr : (Tryz.prog.info? 223).map (fun i => (i.zero, i.size, i.bytes)) = some (some (.pointer none), 1, 8) := by kernel_rfl

set_option maxHeartbeats 1600000 in
set_option maxRecDepth 100000 in
theorem readHub2_walk (v : Value) (h : Hb) (bl : List Nat) (w : World) (ho : OHub w v h bl) (hs : szHb h ≤ 1048577) :
    Calls Tryz.prog 60 #[v] w fun e w' => ∃ B pv cv cb bw, e = .returned (.pointer (some ⟨B, 0, none⟩)) ∧ Brd w' B h pv cv 0 h.waiting.length h.waiting cb bw ∧ w.heap.size ≤ B ∧ (∀ g, cv.ownBlock = some g → w.heap.size ≤ g) ∧ (∀ g, pv.ownBlock = some g → w.heap.size ≤ g) ∧ (∀ b ∈ cb, b < w.heap.size) ∧ Below w.heap.size w w' ∧ ∃ cbk, bw = pv.ownBlock.toList ++ cbk ∧ (bl.Nodup → Once 0 cbk) ∧ ∀ b ∈ cbk, w.heap.size ≤ b ∨ ∃ cur, w'.heap[b]? = some (.cells cur 9 (0, 0)) := by
  obtain ⟨p, q, i1, i2, rfl, o1, o2, rfl⟩ := ho
  have hz1 : szWats h.watches ≤ 1048577 := by unfold szHb at hs; omega
  have hz2 : szNwss h.waiting ≤ 1048577 := by unfold szHb at hs; omega
  have hl1 : h.watches.length ≤ 1048577 := by unfold szWats at hz1; omega
  have hl2 : h.waiting.length ≤ 1048577 := by unfold szNwss at hz2; omega
  have hsz1 : ∀ k (hk : k < h.watches.length), h.watches[k].queue.length ≤ 1048577 := fun k hk => by
    have h1 := sum_take_snoc szWat h.watches k h.watches[k] (List.getElem?_eq_getElem hk)
    have h2 := sum_take_le (h.watches.map szWat) (k + 1)
    rw [← List.map_take] at h2
    unfold szWats at hz1
    have h3 : h.watches[k].queue.length ≤ szWat h.watches[k] := by unfold szWat szMsgs; omega
    omega
  obtain ⟨xa, xc, rfl, hfm, hsh⟩ := o1.form
  obtain ⟨cb2, hcb2⟩ := o2.split
  subst hcb2
  have hlt1 := o1.lt
  obtain ⟨ps, hpl, hpE, hpo, hpb⟩ := id o1
  have hat : ∀ wr gx, Below w.heap.size w wr → xa = some ⟨gx, 0, none⟩ → ∀ k (hk : k < h.watches.length), ∃ p, ps[k]? = some p ∧ watE.E wr p.1 h.watches[k] p.2 ∧ ∀ m u, p.1[m]? = some u → wr.cell? ⟨gx, k * watE.wd + m, none⟩ = some u := fun wr gx hb hxa k hk => by
    subst hxa
    have hin : ∀ (j : Nat) (p : List Value × List Nat), ps[j]? = some p → ∀ b ∈ p.2, b < w.heap.size := fun j p hp b hb => hlt1 b (by rw [hpb]; exact List.mem_append.2 (.inr (List.mem_flatMap.2 ⟨p, List.mem_of_getElem? hp, hb⟩)))
    exact orow_at hpl (fun j p x hp hx => watE.keep (hpE j p x hp hx) (.of_below hb (hin j p hp))) (own_keep hpo (.of_below hb fun b hb => hlt1 b (by rw [hpb]; exact List.mem_append.2 (.inl hb)))) (List.getElem?_eq_getElem hk)
  have hps : ∀ (j : Nat) (p : List Value × List Nat), ps[j]? = some p → ∀ b ∈ p.2, b < w.heap.size := fun j p hp b hb => hlt1 b (by rw [hpb]; exact List.mem_append.2 (.inr (List.mem_flatMap.2 ⟨p, List.mem_of_getElem? hp, hb⟩)))
  have hnd : (i1 ++ (q.ownBlock.toList ++ cb2)).Nodup → (ps.flatMap (·.2)).Nodup := fun hn => by
    rw [List.nodup_append] at hn
    have := hn.1
    rw [hpb, List.nodup_append] at this
    exact this.2.1
  have HAT := hide hat
  have HPS := hide hps
  have HND := hide hnd
  have HZ := hide hsz1
  have O1 := hide o1
  have O2 := hide o2
  have HSH := hide hsh
  clear o1 o2 hfm hsh hs hz1 hz2 hsz1 hat hps hnd hpl hpE hpo hpb hlt1
  go_enter Tryz.func60, Tryz.ntmps60
  go_wp2_with fail
  have hA := alloc_b w (Obj.cells #[Value.slice xa h.watches.length xc, q] 47)
  have kA := heap_alloc_new w (Obj.cells #[Value.slice xa h.watches.length xc, q] 47)
  have hasz : (w.alloc (Obj.cells #[Value.slice xa h.watches.length xc, q] 47)).heap.size = w.heap.size + 1 := by simp
  generalize (w.alloc (Obj.cells #[Value.slice xa h.watches.length xc, q] 47)) = wA at *
  refine (ringOfNws_walk q h.waiting cb2 wA ((unhide O2).below hA) hl2).mono ?_
  rintro e w1 ⟨cv, rfl, oc, gc, b1⟩
  obtain ⟨ca, cc, rfl, hc1, hc2⟩ := oc.form
  have B1 := below_next hA b1
  have hz1 := b1.size
  have k1 := (b1.block w.heap.size (by omega)).trans kA
  have c0 : w1.cell? ⟨w.heap.size, 0, none⟩ = some (.slice xa h.watches.length xc) := Lib.cell_of_heap k1 0
  have hbb := alloc_b w1 (Obj.cells #[Value.slice none 0 0, Value.slice ca h.waiting.length cc, Value.int IntKind.i64 0, Value.int IntKind.i64 (h.waiting.length : Int)] 141)
  have c0' := (hbb.cell (p := ⟨w.heap.size, 0, none⟩) (by simp; omega)).trans c0
  have kB := heap_alloc_new w1 (Obj.cells #[Value.slice none 0 0, Value.slice ca h.waiting.length cc, Value.int IntKind.i64 0, Value.int IntKind.i64 (h.waiting.length : Int)] 141)
  have hb2 : (w1.alloc (Obj.cells #[Value.slice none 0 0, Value.slice ca h.waiting.length cc, Value.int IntKind.i64 0, Value.int IntKind.i64 (h.waiting.length : Int)] 141)).heap.size = w1.heap.size + 1 := by simp
  have HOC := hide (oc.below hbb)
  have hclt := oc.lt
  have HCL := hide hclt
  have HGC := hide gc
  have HB2 := hide (below_next B1 hbb)
  have HKB := hide kB
  have HKB0 := hide kB
  clear oc gc b1 hc1 hc2 B1 k1 kA hA hbb kB hclt c0
  go_wp2
  generalize (w1.alloc (Obj.cells #[Value.slice none 0 0, Value.slice ca h.waiting.length cc, Value.int IntKind.i64 0, Value.int IntKind.i64 (h.waiting.length : Int)] 141)) = w2 at *
  generalize w1.heap.size = B at *
  clear c0'
  go_loopw [15] (fun i wr => ∃ k : Nat, k ≤ h.watches.length ∧ i = .int .i64 (k : Int) ∧ Fr [B] w2 wr ∧ ∃ pv cbk, wr.heap[B]? = some (.cells #[pv, .slice ca h.waiting.length cc, .int .i64 0, .int .i64 (h.waiting.length : Int)] 141 (0, 0)) ∧ ORow wtrE wr pv (h.watches.take k) (pv.ownBlock.toList ++ cbk) ∧ (∀ g, pv.ownBlock = some g → w2.heap.size ≤ g) ∧ Hid ((i1 ++ (q.ownBlock.toList ++ cb2)).Nodup → Once 0 cbk ∧ ∀ b ∈ cbk, w.heap.size ≤ b ∨ ∃ i p, i < k ∧ ps[i]? = some p ∧ b ∈ p.2) ∧ Hid (∀ b ∈ cbk, w.heap.size ≤ b ∨ ∃ cur, w.heap[b]? = some (.cells cur 9 (0, 0)))) (fun i _ => h.watches.length - (intOf i).toNat)
  case atStart => exact ⟨0, Nat.zero_le _, rfl, Fr.refl _ _, _, [], unhide HKB, ORow.nil _ _, fun g hg => by simp [Value.ownBlock] at hg, fun _ => ⟨Once.nil _, fun b hb => by simp at hb⟩, fun b hb => by simp at hb⟩
  case round =>
    obtain ⟨k, hk, rfl, hfr, pv, cbk, hkb, hop, hgp, HNK, HST⟩ := hrel
    have hfs := hfr.size
    have hbw : Below w.heap.size w wr := (unhide HB2).trans (hfr.below (fun b hb => by simp at hb; omega) (unhide HB2).size)
    by_cases hlt : k < h.watches.length
    · obtain ⟨gx, rfl⟩ := unhide HSH (by omega)
      obtain ⟨pa, pc, rfl, hp1, hp2⟩ := hop.form
      obtain ⟨pk, hpk, hE, hc⟩ := unhide HAT wr gx hbw rfl k hlt
      obtain ⟨qv, hvs, hq⟩ := hE
      rw [hvs] at hc
      obtain ⟨ya, yc, rfl, hy1, hy2⟩ := hq.form
      obtain ⟨cbq, hcbq⟩ := hq.split
      rw [hcbq] at hq
      have hx1 : ∀ b ∈ cbq, b ∈ pk.2 := fun b hb => by rw [hcbq]; exact List.mem_append.2 (.inr hb)
      have c0 : wr.cell? ⟨gx, k * 6, none⟩ = some (.int .i64 h.watches[k].client) := hc 0 _ rfl
      have c1 : wr.cell? ⟨gx, k * 6 + 1, none⟩ = some (.string h.watches[k].ptr) := hc 1 _ rfl
      have c2 : wr.cell? ⟨gx, k * 6 + 2, none⟩ = some (.int .i64 h.watches[k].cap) := hc 2 _ rfl
      have c3 : wr.cell? ⟨gx, k * 6 + 3, none⟩ = some (.int .i64 h.watches[k].since) := hc 3 _ rfl
      have c4 : wr.cell? ⟨gx, k * 6 + 4, none⟩ = some (.bool h.watches[k].closed) := hc 4 _ rfl
      have c5 : wr.cell? ⟨gx, k * 6 + 5, none⟩ = some (.slice ya h.watches[k].queue.length yc) := hc 5 _ rfl
      have HQT : Hid (∀ b ∈ cbq, w.heap.size ≤ b ∨ ∃ cur, w.heap[b]? = some (.cells cur 9 (0, 0))) := fun b hb => by
        obtain ⟨cur, e1⟩ := msgs_inner hq b hb
        exact .inr ⟨cur, (hbw.block b (unhide HPS k pk hpk b (hx1 b hb))).symm.trans e1⟩
      have HQ := hide hq
      have HQL : Hid (∀ b ∈ cbq, b < w.heap.size) := fun b hb => unhide HPS k pk hpk b (hx1 b hb)
      have hpl5 := hop.lt
      have HPL := hide hpl5
      have HPK := hide hpk
      have HX1 := hide hx1
      have HCQ : Hid (pk.2.Nodup → cbq.Nodup) := fun hn => by rw [hcbq, List.nodup_append] at hn; exact hn.2.1
      clear hpl5 hpk hvs hcbq
      have HFR := hide hfr
      have HKB := hide hkb
      have HOP := hide hop
      have HGP := hide hgp
      have hltI : (k : Int) < (h.watches.length : Int) := by omega
      clear hx1 hc hq hy1 hy2 hp1 hp2 hfr hkb hop hgp hbw
      go_wp2_with fail
      have hab := alloc_b wr (.cells #[.int .i64 h.watches[k].client, .string h.watches[k].ptr, .int .i64 h.watches[k].cap, .int .i64 h.watches[k].since, .bool h.watches[k].closed, .slice ya h.watches[k].queue.length yc] 219)
      have kM := heap_alloc_new wr (.cells #[.int .i64 h.watches[k].client, .string h.watches[k].ptr, .int .i64 h.watches[k].cap, .int .i64 h.watches[k].since, .bool h.watches[k].closed, .slice ya h.watches[k].queue.length yc] 219)
      have hasz : (wr.alloc (.cells #[.int .i64 h.watches[k].client, .string h.watches[k].ptr, .int .i64 h.watches[k].cap, .int .i64 h.watches[k].since, .bool h.watches[k].closed, .slice ya h.watches[k].queue.length yc] 219)).heap.size = wr.heap.size + 1 := by simp
      generalize (wr.alloc (.cells #[.int .i64 h.watches[k].client, .string h.watches[k].ptr, .int .i64 h.watches[k].cap, .int .i64 h.watches[k].since, .bool h.watches[k].closed, .slice ya h.watches[k].queue.length yc] 219)) = wB at *
      refine (ringOfMsg_walk _ h.watches[k].queue cbq wB ((unhide HQ).below hab) (unhide HZ k hlt)).mono ?_
      rintro e w4 ⟨mv, rfl, om, gm, b4⟩
      obtain ⟨ma, mc, rfl, hm1, hm2⟩ := om.form
      have hz4 := b4.size
      have hB4 := below_next hab b4
      have hr4 := (alloc_b w4 (.cells #[.slice ma h.watches[k].queue.length mc, .int .i64 0, .int .i64 (h.watches[k].queue.length : Int)] 221))
      have kM4 := (hr4.block wr.heap.size (by omega)).trans ((b4.block wr.heap.size (by omega)).trans kM)
      have d0 : (w4.alloc (.cells #[.slice ma h.watches[k].queue.length mc, .int .i64 0, .int .i64 (h.watches[k].queue.length : Int)] 221)).cell? ⟨wr.heap.size, 5, none⟩ = some (.slice ya h.watches[k].queue.length yc) := Lib.cell_of_heap kM4 5
      have fM := Lib.frozen_of_heap kM4
      have KM4 := hide kM4
      have OM := hide (om.below hr4)
      have GM := hide gm
      have hl4 := om.lt
      have HL4 := hide hl4
      have BW4 := hide (below_next hB4 hr4)
      have kR := heap_alloc_new w4 (.cells #[.slice ma h.watches[k].queue.length mc, .int .i64 0, .int .i64 (h.watches[k].queue.length : Int)] 221)
      have KR := hide kR
      have HAS := hide hasz
      clear hab kM hasz om gm b4 hm1 hm2 hB4 hr4 kM4 hl4 kR HQ c0 c1 c2 c3 c4 c5
      go_wp2
      have hasz := unhide HAS
      have kM5 := heap_setCell_same _ _ 5 _ _ (.slice none 0 0) (unhide KM4)
      have kR5 := (Below.heap_setCell (w4.alloc (.cells #[.slice ma h.watches[k].queue.length mc, .int .i64 0, .int .i64 (h.watches[k].queue.length : Int)] 221)) ⟨wr.heap.size, 5, none⟩ (.slice none 0 0) w4.heap.size (by simp; omega)).trans (unhide KR)
      have BW5 := (unhide BW4).setCell (p := ⟨wr.heap.size, 5, none⟩) (Nat.le_refl _) (.slice none 0 0)
      have hnm : wr.heap.size ∉ (Value.slice ma h.watches[k].queue.length mc).ownBlock.toList ++ cbq := fun hm => by
        rcases List.mem_append.1 hm with h1 | h1
        · have := unhide GM _ (by simpa using h1); omega
        · have := (unhide HQL) _ h1; omega
      have OM5 := (unhide OM).other hnm 5 (.slice none 0 0)
      have hs5 : ((w4.alloc (.cells #[.slice ma h.watches[k].queue.length mc, .int .i64 0, .int .i64 (h.watches[k].queue.length : Int)] 221)).setCell ⟨wr.heap.size, 5, none⟩ (.slice none 0 0)).heap.size = w4.heap.size + 1 := by simp [World.setCell]
      clear BW4 KM4 KR OM
      generalize ((w4.alloc (.cells #[.slice ma h.watches[k].queue.length mc, .int .i64 0, .int .i64 (h.watches[k].queue.length : Int)] 221)).setCell ⟨wr.heap.size, 5, none⟩ (.slice none 0 0)) = w5 at *
      have kB5 := (BW5.block B (Array.getElem?_eq_some_iff.1 (unhide HKB)).1).trans (unhide HKB)
      have OP5 := (unhide HOP).below BW5
      have FR5 := (unhide HFR).next BW5
      have e0 : w5.cell? ⟨wr.heap.size, 0, none⟩ = some (.int .i64 h.watches[k].client) := Lib.cell_of_heap kM5 0
      have e1 : w5.cell? ⟨wr.heap.size, 1, none⟩ = some (.string h.watches[k].ptr) := Lib.cell_of_heap kM5 1
      have e2 : w5.cell? ⟨wr.heap.size, 2, none⟩ = some (.int .i64 h.watches[k].cap) := Lib.cell_of_heap kM5 2
      have e3 : w5.cell? ⟨wr.heap.size, 3, none⟩ = some (.int .i64 h.watches[k].since) := Lib.cell_of_heap kM5 3
      have e4 : w5.cell? ⟨wr.heap.size, 4, none⟩ = some (.bool h.watches[k].closed) := Lib.cell_of_heap kM5 4
      have e5 : w5.cell? ⟨wr.heap.size, 5, none⟩ = some (.slice none 0 0) := Lib.cell_of_heap kM5 5
      have r0 : w5.cell? ⟨w4.heap.size, 0, none⟩ = some (.slice ma h.watches[k].queue.length mc) := Lib.cell_of_heap kR5 0
      have r1 : w5.cell? ⟨w4.heap.size, 1, none⟩ = some (.int .i64 0) := Lib.cell_of_heap kR5 1
      have r2 : w5.cell? ⟨w4.heap.size, 2, none⟩ = some (.int .i64 (h.watches[k].queue.length : Int)) := Lib.cell_of_heap kR5 2
      have bO : w5.cell? ⟨B, 0, none⟩ = some (.slice pa (h.watches.take k).length pc) := Lib.cell_of_heap kB5 0
      have hxy : Below w5.heap.size w5 ((w5.alloc (.cells #[.int .i64 h.watches[k].client, .string h.watches[k].ptr, .int .i64 h.watches[k].cap, .int .i64 h.watches[k].since, .bool h.watches[k].closed, .slice none 0 0, .slice ma h.watches[k].queue.length mc, .int .i64 0, .int .i64 (h.watches[k].queue.length : Int)] 225)).alloc (.cells #[.pointer (some ⟨w5.heap.size, 0, none⟩)] 223)).drew := (below_next (alloc_b _ _) (alloc_b _ _)).drew
      have kX : ((w5.alloc (.cells #[.int .i64 h.watches[k].client, .string h.watches[k].ptr, .int .i64 h.watches[k].cap, .int .i64 h.watches[k].since, .bool h.watches[k].closed, .slice none 0 0, .slice ma h.watches[k].queue.length mc, .int .i64 0, .int .i64 (h.watches[k].queue.length : Int)] 225)).alloc (.cells #[.pointer (some ⟨w5.heap.size, 0, none⟩)] 223)).drew.heap[w5.heap.size]? = some (.cells #[.int .i64 h.watches[k].client, .string h.watches[k].ptr, .int .i64 h.watches[k].cap, .int .i64 h.watches[k].since, .bool h.watches[k].closed, .slice none 0 0, .slice ma h.watches[k].queue.length mc, .int .i64 0, .int .i64 (h.watches[k].queue.length : Int)] 225) := ((alloc_b (w5.alloc (.cells #[.int .i64 h.watches[k].client, .string h.watches[k].ptr, .int .i64 h.watches[k].cap, .int .i64 h.watches[k].since, .bool h.watches[k].closed, .slice none 0 0, .slice ma h.watches[k].queue.length mc, .int .i64 0, .int .i64 (h.watches[k].queue.length : Int)] 225)) (.cells #[.pointer (some ⟨w5.heap.size, 0, none⟩)] 223)).block w5.heap.size (by simp)).trans (heap_alloc_new w5 (.cells #[.int .i64 h.watches[k].client, .string h.watches[k].ptr, .int .i64 h.watches[k].cap, .int .i64 h.watches[k].since, .bool h.watches[k].closed, .slice none 0 0, .slice ma h.watches[k].queue.length mc, .int .i64 0, .int .i64 (h.watches[k].queue.length : Int)] 225))
      have E3 : Hid (wtrE.E ((w5.alloc (.cells #[.int .i64 h.watches[k].client, .string h.watches[k].ptr, .int .i64 h.watches[k].cap, .int .i64 h.watches[k].since, .bool h.watches[k].closed, .slice none 0 0, .slice ma h.watches[k].queue.length mc, .int .i64 0, .int .i64 (h.watches[k].queue.length : Int)] 225)).alloc (.cells #[.pointer (some ⟨w5.heap.size, 0, none⟩)] 223)).drew [.pointer (some ⟨w5.heap.size, 0, none⟩)] h.watches[k] (w5.heap.size :: ((Value.slice ma h.watches[k].queue.length mc).ownBlock.toList ++ cbq))) :=
        ⟨w5.heap.size, .slice ma h.watches[k].queue.length mc, 0, h.watches[k].queue.length, h.watches[k].queue, cbq, rfl, kX, OM5.below hxy, RingIs.fresh _, by have := unhide HZ k hlt; omega, rfl⟩
      have hsx : (w5.alloc (.cells #[.int .i64 h.watches[k].client, .string h.watches[k].ptr, .int .i64 h.watches[k].cap, .int .i64 h.watches[k].since, .bool h.watches[k].closed, .slice none 0 0, .slice ma h.watches[k].queue.length mc, .int .i64 0, .int .i64 (h.watches[k].queue.length : Int)] 225)).heap.size = w5.heap.size + 1 := by simp
      have HCE : Hid (∀ (j : Nat) (u : Value), [Value.pointer (some ⟨w5.heap.size, 0, none⟩)][j]? = some u → ((w5.alloc (.cells #[.int .i64 h.watches[k].client, .string h.watches[k].ptr, .int .i64 h.watches[k].cap, .int .i64 h.watches[k].since, .bool h.watches[k].closed, .slice none 0 0, .slice ma h.watches[k].queue.length mc, .int .i64 0, .int .i64 (h.watches[k].queue.length : Int)] 225)).alloc (.cells #[.pointer (some ⟨w5.heap.size, 0, none⟩)] 223)).drew.cell? ((⟨w5.heap.size + 1, 0, none⟩ : Addr).add j) = some u) := fun j u hu => by
        have := lit_cells (w5.alloc (.cells #[.int .i64 h.watches[k].client, .string h.watches[k].ptr, .int .i64 h.watches[k].cap, .int .i64 h.watches[k].since, .bool h.watches[k].closed, .slice none 0 0, .slice ma h.watches[k].queue.length mc, .int .i64 0, .int .i64 (h.watches[k].queue.length : Int)] 225)) [Value.pointer (some ⟨w5.heap.size, 0, none⟩)] 223 j u hu
        rw [hsx] at this; exact this
      have kB6 := (hxy.block B (Array.getElem?_eq_some_iff.1 kB5).1).trans kB5
      have OP6 := hide (OP5.below hxy)
      have FR6 := hide (FR5.next hxy)
      have HGP' := unhide HGP
      have KB6 := hide kB6
      have hBw2 : B < w2.heap.size := (Array.getElem?_eq_some_iff.1 (unhide HKB0)).1
      have hw25 : w2.heap.size ≤ w5.heap.size := by have := (unhide HFR).size; have := BW5.size; omega
      have hll : (h.watches.take k).length = k := by rw [List.length_take]; omega
      have hnx : h.watches.take (k + 1) = h.watches.take k ++ [h.watches[k]] := by rw [List.take_add_one, List.getElem?_eq_getElem hlt]; rfl
      generalize h.watches.take k = ws at *
      have hwl : ws.length ≤ 1048577 := by omega
      have bO6 : ((w5.alloc (.cells #[.int .i64 h.watches[k].client, .string h.watches[k].ptr, .int .i64 h.watches[k].cap, .int .i64 h.watches[k].since, .bool h.watches[k].closed, .slice none 0 0, .slice ma h.watches[k].queue.length mc, .int .i64 0, .int .i64 (h.watches[k].queue.length : Int)] 225)).alloc (.cells #[.pointer (some ⟨w5.heap.size, 0, none⟩)] 223)).drew.cell? ⟨B, 0, none⟩ = some (.slice pa ws.length pc) := Lib.cell_of_heap kB6 0
      have bO7 : (w5.alloc (.cells #[.int .i64 h.watches[k].client, .string h.watches[k].ptr, .int .i64 h.watches[k].cap, .int .i64 h.watches[k].since, .bool h.watches[k].closed, .slice none 0 0, .slice ma h.watches[k].queue.length mc, .int .i64 0, .int .i64 (h.watches[k].queue.length : Int)] 225)).cell? ⟨B, 0, none⟩ = some (.slice pa ws.length pc) := ((alloc_b w5 (.cells #[.int .i64 h.watches[k].client, .string h.watches[k].ptr, .int .i64 h.watches[k].cap, .int .i64 h.watches[k].since, .bool h.watches[k].closed, .slice none 0 0, .slice ma h.watches[k].queue.length mc, .int .i64 0, .int .i64 (h.watches[k].queue.length : Int)] 225)).cell (p := ⟨B, 0, none⟩) (by simp; omega)).trans bO
      have HNX := hide hnx
      have hw4 : w.heap.size ≤ wr.heap.size := by have := (unhide HFR).size; have := (unhide HB2).size; omega
      have HON : Hid ((i1 ++ (q.ownBlock.toList ++ cb2)).Nodup → Once 0 (cbk ++ (w5.heap.size :: ((Value.slice ma h.watches[k].queue.length mc).ownBlock.toList ++ cbq))) ∧ ∀ b ∈ cbk ++ (w5.heap.size :: ((Value.slice ma h.watches[k].queue.length mc).ownBlock.toList ++ cbq)), w.heap.size ≤ b ∨ ∃ i p, i < k + 1 ∧ ps[i]? = some p ∧ b ∈ p.2) := fun hn => by
        obtain ⟨k1, k2⟩ := unhide HNK hn
        have hfl := unhide HND hn
        have hlt5 : ∀ b ∈ cbk, b < wr.heap.size := fun b hb => unhide HPL b (List.mem_append.2 (.inr hb))
        have hown : ∀ b ∈ (Value.slice ma h.watches[k].queue.length mc).ownBlock.toList, wr.heap.size < b ∧ b < w5.heap.size := fun b hb => by
          have h1 := unhide GM b (by simpa using hb)
          have h2 := unhide HL4 b (List.mem_append.2 (.inl hb))
          omega
        have hq5 := unhide HQL
        refine ⟨once_append.2 ⟨k1, ?_, fun x hx y hy _ e => ?_⟩, fun b hb => ?_⟩
        · rw [once_zero, List.nodup_cons, List.nodup_append]
          refine ⟨fun hm => ?_, ?_, unhide HCQ (nodup_at hfl (unhide HPK)), fun a ha b hb e => ?_⟩
          · rcases List.mem_append.1 hm with h1 | h1
            · have := (hown _ h1).2; omega
            · have := hq5 _ h1; omega
          · cases hO : (Value.slice ma h.watches[k].queue.length mc).ownBlock <;> simp
          · subst e
            have := hown _ ha; have := hq5 _ hb; omega
        · subst e
          have hx5 := hlt5 x hx
          rcases List.mem_cons.1 hy with rfl | hy
          · omega
          · rcases List.mem_append.1 hy with h1 | h1
            · have := (hown _ h1).1; omega
            · have h2 := hq5 _ h1
              rcases k2 x hx with h3 | ⟨i, p, hi, hp, hb⟩
              · omega
              · exact nodup_apart hfl hp (unhide HPK) (by omega) x hb (unhide HX1 x h1)
        · rcases List.mem_append.1 hb with hb | hb
          · rcases k2 b hb with h3 | ⟨i, p, hi, hp, hb⟩
            · exact .inl h3
            · exact .inr ⟨i, p, by omega, hp, hb⟩
          · rcases List.mem_cons.1 hb with rfl | hb
            · left; omega
            · rcases List.mem_append.1 hb with h1 | h1
              · left; have := (hown _ h1).1; omega
              · exact .inr ⟨k, pk, by omega, unhide HPK, unhide HX1 b h1⟩
      have HSN : Hid (∀ b ∈ cbk ++ (w5.heap.size :: ((Value.slice ma h.watches[k].queue.length mc).ownBlock.toList ++ cbq)), w.heap.size ≤ b ∨ ∃ cur, w.heap[b]? = some (.cells cur 9 (0, 0))) := fun b hb => by
        rcases List.mem_append.1 hb with hb | hb
        · exact unhide HST b hb
        · rcases List.mem_cons.1 hb with rfl | hb
          · left; omega
          · rcases List.mem_append.1 hb with h1 | h1
            · left; have := unhide GM b (by simpa using h1); omega
            · exact unhide HQT b h1
      have hone : Hid (∀ u ∈ [Value.pointer (some ⟨w5.heap.size, 0, none⟩)], u.oneCell' = true) := fun u hu => by simp at hu; subst hu; rfl
      have HG := hide HGP'
      clear hs5 hxy kX kB6 hnx hll kM5 kR5 BW5 hnm OM5 kB5 OP5 FR5 HGP' hsx HGP HKB HOP HFR GM HL4 HAS d0 fM HNK HPL HPK HX1 HCQ hw4 HST HQT
      go_region_law (first
        | (refine step_append_elem2 (e := wtrE) wtr_ty (by decide) Tryz.underlying137 infoWtr rfl (by decide) (by decide) rfl (.tmp 27) (.tmp 32) rfl (B := w2.heap.size) rfl (unhide OP6) (unhide HG) (unhide E3) rfl (by exact unhide HCE) (by exact unhide hone) (by simp; omega) (by omega) ?_
           intro v' w7 o7 g7 hg7
           obtain ⟨va, vc, rfl, hv1, hv2⟩ := o7.form
           have ko7 := (hg7.block B (by simp; omega) fun e => by have := unhide HG B e.symm; omega).trans (unhide KB6)
           have cO7 : w7.cell? ⟨B, 0, none⟩ = some (.slice pa ws.length pc) := Lib.cell_of_heap ko7 0
           have fO7 := Lib.frozen_of_heap ko7))
      all_goals (
        have kn := heap_setCell_same _ _ 0 _ _ (.slice va (ws ++ [h.watches[k]]).length vc) ko7
        have on := o7.other (g := B) (fun hm => by
          obtain ⟨cur, t, e1, e2⟩ := orow_ty (e := wtrE) wtr_ty o7 B hm
          rw [ko7] at e1
          injection e1 with e1; injection e1 with _ e1
          subst e1
          exact absurd e2 (by decide)) 0 (.slice va (ws ++ [h.watches[k]]).length vc)
        have fn := ((unhide FR6).grown hg7 (fun j hj => unhide HG j hj)).set (g := B) (by simp) 0 (.slice va (ws ++ [h.watches[k]]).length vc)
        rw [List.length_append, List.length_singleton] at kn on fn g7
        rw [← unhide HNX] at on
        have KN := hide kn
        have ON := hide on
        have FN := hide fn
        have GN := hide g7
        clear kn on fn o7 g7 hg7 hv1 hv2 ko7 cO7 fO7 OP6 HG E3 HCE hone FR6 KB6 bO6 bO7 e0 e1 e2 e3 e4 e5 r0 r1 r2 bO
        go_wp2
        go_roundw)
      all_goals first
        | exact ⟨k + 1, by omega, by go_num, unhide FN, _, _, unhide KN, unhide ON, unhide GN, HON, HSN⟩
        | (simp [intOf]; omega)
    · have hk' : k = h.watches.length := by omega
      subst hk'
      rw [List.take_length] at hop
      have hoc := (unhide HOC).keep (hfr.kp (unhide HOC).lt (fun b hb hm => by simp at hm; have := unhide HCL b hb; omega))
      have HR : Hid (Brd wr B h pv (.slice ca h.waiting.length cc) 0 h.waiting.length h.waiting cb2 (pv.ownBlock.toList ++ cbk)) := ⟨hkb, hop, hoc, RingIs.fresh _, by omega⟩
      have HW := hide hbw
      have HGP := hide hgp
      clear hfr hkb hop hgp hbw hoc
      go_wp2
      go_ret
      refine ⟨B, _, _, _, _, rfl, unhide HR, ?_, fun g hg => by have := unhide HGC g hg; omega, fun g hg => by have := unhide HGP g hg; have := (unhide HB2).size; omega, fun b hb => (unhide O2).lt b (List.mem_append.2 (.inr hb)), unhide HW, cbk, rfl, fun hn => (unhide HNK hn).1, fun b hb => ?_⟩
      · omega
      · rcases unhide HST b hb with h1 | ⟨cur, h1⟩
        · exact .inl h1
        · exact .inr ⟨cur, ((unhide HW).block b (Array.getElem?_eq_some_iff.1 h1).1).trans h1⟩
theorem readHub_walk (v : Value) (h : Hb) (bl : List Nat) (w : World) (ho : OHub w v h bl) (hs : szHb h ≤ 1048577) :
    Calls Tryz.prog 60 #[v] w fun e w' => ∃ B pv cv cb bw, e = .returned (.pointer (some ⟨B, 0, none⟩)) ∧ Brd w' B h pv cv 0 h.waiting.length h.waiting cb bw ∧ w.heap.size ≤ B ∧ (∀ g, cv.ownBlock = some g → w.heap.size ≤ g) ∧ (∀ g, pv.ownBlock = some g → w.heap.size ≤ g) ∧ (∀ b ∈ cb, b < w.heap.size) ∧ Below w.heap.size w w' :=
  (readHub2_walk v h bl w ho hs).mono fun _ _ ⟨B, pv, cv, cb, bw, h1, h2, h3, h4, h5, h6, h7, _⟩ => ⟨B, pv, cv, cb, bw, h1, h2, h3, h4, h5, h6, h7⟩
end Go.Proofs.YtlfonikfjibloaaGreatDoor

namespace Go.Proofs.YtlfonikfjibloaaGreatDoor
open Go.RowKit

/-- append(s, make([]T, k)...) onto a row that the call owns: k zero values behind it. -/
theorem append_zeros_own {P : Program} (w : World) (base : Nat) (t tn ty e : TypeId) (i : TypeInfo) (z : Value) (kq kn : IntKind) (size bytes : Nat) (ht : P.underlying t = some (.slice e)) (htn : P.underlying tn = some (.int kn)) (hi : P.info? e = some i) (hz : i.zero = some z)
    (hsize : i.size = size) (hby : i.bytes = bytes) (hzs : z.cells.size = size) (hsz : 0 < size) (hz1 : ∀ u ∈ z.cells.toList, u.oneCell' = true)
    (v : Value) (n : Nat) (xs : List Value) (hown : w.ownsRow base e size v n xs) (k : Nat) (hk : 0 < k) (hnk : n + k ≤ 100000000) (hb : bytes ≤ 100) (hbase : base ≤ w.heap.size) :
    ∃ v' w', (Builtin.append_ #[t, tn] ty #[v, .int kq k]).run P w = .ok v' w' ∧ w'.ownsRow base e size v' (n + k) (xs ++ (Builtin.zeroCells z.cells k).toList) ∧ w.grownBy w' v.ownBlock := by
  subst hsize
  subst hby
  have hzl : (Builtin.zeroCells z.cells k).toList.length = k * i.size := by rw [Array.length_toList, size_zeroCells, hzs]
  have hlen : (xs ++ (Builtin.zeroCells z.cells k).toList).length = (n + k) * i.size := by rw [List.length_append, hown.1, hzl, Nat.add_mul]
  have hkb : k * i.bytes ≤ k * 100 := Nat.mul_le_mul_left _ hb
  have hones : ∀ u ∈ (Builtin.zeroCells z.cells k).toList, u.oneCell' = true := by
    intro u hu
    unfold Builtin.zeroCells at hu
    rw [Array.toList_map] at hu
    obtain ⟨j, _, rfl⟩ := List.mem_map.1 hu
    have hm : j % z.cells.size < z.cells.size := Nat.mod_lt _ (by omega)
    apply hz1
    rw [getElem!_pos z.cells _ hm]
    exact Array.mem_toList_iff.2 (Array.getElem_mem hm)
  rcases hown.2 with ⟨rfl, rfl⟩ | ⟨g, cap, cur, rfl, hbg, hg, hnc, hcm, hcs, htake⟩
  · have hx : xs = [] := List.eq_nil_of_length_eq_zero (by simpa using hown.1)
    subst hx
    have hr := Lib.run_append_nil_zeros (P := P) w t tn ty e i z kq kn ht htn hi hz k hk hsz (by omega) (by omega)
    have hge := grownCap_ge w k 0 e
    have hcm : grownCap w k 0 e ≤ maxLen := grownCap_le_maxLen w k 0 e (by unfold maxLen; omega)
    rw [Nat.zero_add] at hlen ⊢
    refine ⟨_, _, hr, ⟨hlen, .inr ⟨w.heap.size, _, _, rfl, hbase, heap_alloc_new w.drew _, hge, hcm, ?_, ?_⟩⟩, ⟨rfl, rfl, rfl, by simp, fun j hj _ => Below.heap_alloc w.drew _ j hj⟩⟩
    · rw [Array.size_append, size_zeroCells, size_zeroCells, hzs, ← Nat.add_mul]
      congr 1; omega
    · rw [Array.toList_append, List.nil_append, ← hzl]
      exact List.take_left
  · have holds : ∀ j u, xs[j]? = some u → w.cell? ((⟨g, 0, none⟩ : Addr).add j) = some u := hown.cells (g := g) rfl
    by_cases hroom : n + k ≤ cap
    · have hfit : n * i.size + (Builtin.zeroCells z.cells k).toList.length ≤ cur.size := by rw [hzl, hcs, ← Nat.add_mul]; exact Nat.mul_le_mul_right _ hroom
      have hst := run_storeCells_at P g (n * i.size) e (Builtin.zeroCells z.cells k).toList 0 cur w hg (by simpa using hfit) hones
      simp only [Nat.add_zero] at hst
      have hw : IntKind.i64.wrap (k : Int) = k := by rw [IntKind.wrap_i64]; omega
      have hneg : ¬ ((k : Int) < 0) := by omega
      have h48i : ¬ (281474976710656 < (k : Int) * (i.bytes : Int)) := by rw [← Int.natCast_mul]; omega
      have hns : ¬ (k * i.size = 0) := Nat.mul_ne_zero (by omega) (by omega)
      have hr : (Builtin.append_ #[t, tn] ty #[.slice (some ⟨g, 0, none⟩) n cap, .int kq k]).run P w = .ok (.slice (some ⟨g, 0, none⟩) (n + k) cap) (w.setRow g (cur.toList.take (n * i.size) ++ (Builtin.zeroCells z.cells k).toList ++ cur.toList.drop (n * i.size + (Builtin.zeroCells z.cells k).toList.length)).toArray) := by
        simp [Builtin.append_, run_underlying ht, run_underlying htn, sizeOf, typeInfo, zeroValue, hi, hz, asInt, asIntOf, hw, hneg, h48i, hns, hroom, Addr.add_lit, hst]
      refine ⟨_, _, hr, ⟨hlen, .inr ⟨g, cap, _, rfl, hbg, setRow_heap w g cur _ e _ hg, hroom, hcm, ?_, ?_⟩⟩, ⟨rfl, rfl, rfl, by simp, fun k _ hk => setRow_other w g k _ (fun e => hk (by simp [Value.ownBlock, e]))⟩⟩
      · simp only [List.size_toArray, List.length_append, List.length_take, List.length_drop, Array.length_toList]
        rw [Array.length_toList] at hfit hzl
        omega
      · rw [htake, ← hlen]
        exact List.take_left
    · have hf : (Builtin.firstCells i.size n (.slice (some ⟨g, 0, none⟩) n cap)).run P w.drew = .ok xs.toArray w.drew := run_firstCells_some (P := P) w.drew i.size n ⟨g, 0, none⟩ n cap xs hown.1 holds
      have hfit : Builtin.nextslicecap (n + k) cap * i.bytes ≤ 281474976710656 := growslice_fits (by omega) (by
        have : (n + k) * i.bytes ≤ (n + k) * 100 := Nat.mul_le_mul_left _ hb
        omega)
      have hr := Lib.run_append_grow_zeros (P := P) w t tn ty e i z kq kn ht htn hi hz (some ⟨g, 0, none⟩) n cap xs hf k hk hsz (by omega) (by omega) (by omega) hfit
      have hge := grownCap_ge w (n + k) cap e
      have hcm' : grownCap w (n + k) cap e ≤ maxLen := grownCap_le_maxLen w (n + k) cap e (by unfold maxLen; omega)
      refine ⟨_, _, hr, ⟨hlen, .inr ⟨w.heap.size, _, _, rfl, hbase, heap_alloc_new w.drew _, hge, hcm', ?_, ?_⟩⟩, ⟨rfl, rfl, rfl, by simp, fun j hj _ => Below.heap_alloc w.drew _ j hj⟩⟩
      · rw [Array.size_append, Array.size_append, size_zeroCells, size_zeroCells, hzs, List.size_toArray, hown.1, ← Nat.add_mul, ← Nat.add_mul]
        congr 1; omega
      · rw [Array.toList_append, Array.toList_append, ← hlen]
        exact List.take_left
/-- The same as a step of a region that draws its order. -/
theorem step_append_zeros {P : Program} {ops : Array Oper} {o : Oper} {a : Act} {w : World} {K : Act → World → Prop} {Q : Exit → Act → World → Prop} {F : Prop} (hg : o.guard = none) (s x : Operand) (t tn : TypeId)
    (ho : o.op = .call { callee := .builtin .append, args := #[s, x], argTypes := #[t, tn] }) (base : Nat) (e : TypeId) (z : Value) (kq kn : IntKind) (size bytes : Nat) (ht : P.underlying t = some (.slice e)) (htn : P.underlying tn = some (.int kn))
    (hinfo : (P.info? e).map (fun i => (i.zero, i.size, i.bytes)) = some (some z, size, bytes)) (hzs : z.cells.size = size) (hsz : 0 < size) (hz1 : ∀ u ∈ z.cells.toList, u.oneCell' = true)
    (v : Value) (n : Nat) (xs : List Value) (hs : a.eval s = v) (hown : w.ownsRow base e size v n xs) (k : Nat) (hx : a.eval x = .int kq k) (hk : 0 < k) (hnk : n + k ≤ 100000000) (hb : bytes ≤ 100) (hbase : base ≤ w.heap.size)
    (hK : ∀ v' w', w'.ownsRow base e size v' (n + k) (xs ++ (Builtin.zeroCells z.cells k).toList) → w.grownBy w' v.ownBlock → K (a.put o.dst v') w') :
    if Region.wanted o (yielded ops a.tmps) = true then Oper.wp P o a w K Q else F := by
  have hw : Region.wanted o (yielded ops a.tmps) = true := by simp [Region.wanted, hg]
  rw [if_pos hw]
  obtain ⟨i0, hi, hz0, hz1', hz2⟩ := info_parts hinfo
  obtain ⟨v', w', hr, h2, h3⟩ := append_zeros_own (P := P) w base t tn o.type e i0 z kq kn size bytes ht htn hi hz0 hz1' hz2 hzs hsz hz1 v n xs hown k hk hnk hb hbase
  exact Lib.wp_append_run w s x t tn ho v _ hs hx v' w' hr (hK v' w' h2 h3)

theorem setN_right : ∀ (vs A R : List Value) (o : Nat), setN (A ++ R) (A.length + o) vs = A ++ setN R o vs
  | [], A, R, o => rfl
  | a :: r, A, R, o => by
    rw [setN, setN, List.set_append_right _ _ (by omega), Nat.add_sub_cancel_left, Nat.add_assoc, setN_right r A]
theorem flat_setN {ps : List (List Value × List Nat)} {wd : Nat} (h : ∀ p ∈ ps, p.1.length = wd) {j : Nat} (hj : j < ps.length) (vs : List Value) (hv : vs.length = wd) (ib : List Nat) :
    (ps.set j (vs, ib)).flatMap (·.1) = setN (ps.flatMap (·.1)) (j * wd) vs := by
  induction ps generalizing j with
  | nil => simp at hj
  | cons q r ih =>
    have hq := h q List.mem_cons_self
    cases j with
    | zero =>
      have := setN_app vs [] (q.1 ++ r.flatMap (·.1)) (by rw [List.length_append]; omega)
      rw [List.nil_append, List.length_nil, List.nil_append] at this
      rw [List.set_cons_zero, List.flatMap_cons, List.flatMap_cons, Nat.zero_mul, this, hv, ← hq, List.drop_left]
    | succ j =>
      have := ih (fun p hp => h p (List.mem_cons_of_mem _ hp)) (by simpa using hj)
      rw [List.set_cons_succ, List.flatMap_cons, List.flatMap_cons, this, Nat.add_mul, Nat.one_mul, Nat.add_comm, ← hq, setN_right]
/-- An element of a row is written anew; what lies in the elements may be shared. -/
theorem orow_putAll {α : Type} {e : Elem α} {ts : List TypeId} (he : ∀ {w vs x bl}, e.E w vs x bl → Tys ts w bl) (hts : e.T ∉ ts) {w : World} {g n cap : Nat} {xs : List α} {cb : List Nat} (h : ORow e w (.slice (some ⟨g, 0, none⟩) n cap) xs (g :: cb)) {j : Nat} (hj : j < xs.length)
    {vs : List Value} {x : α} {ib : List Nat} (hE : e.E w vs x ib) : ∃ cb', ORow e (putN w g (j * e.wd) vs) (.slice (some ⟨g, 0, none⟩) n cap) (xs.set j x) (g :: cb') := by
  have hty := orow_inner_ty he (cb := cb) h rfl
  have htyi := he hE
  obtain ⟨ps, hl, hE0, ho, hb⟩ := h
  have hn : n = xs.length := by
    rcases ho.2 with ⟨hv, h0⟩ | ⟨g', cap', cur, hv, _⟩
    · cases hv
    · injection hv
  subst hn
  have hcb : cb = ps.flatMap (·.2) := by
    simp [Value.ownBlock] at hb; exact hb
  have hwd := orow_wd hl hE0
  have hnot : ∀ p ∈ ps, g ∉ p.2 := fun p hp hg => hty.not ho hts (g := g) rfl (by rw [hcb]; exact List.mem_flatMap.2 ⟨p, hp, hg⟩)
  have hnoti : g ∉ ib := fun hg => htyi.not ho hts (g := g) rfl hg
  have hk : ∀ bl : List Nat, g ∉ bl → Kp bl w (putN w g (j * e.wd) vs) := fun bl hg b hb => putN_other (k := b) (g := g) (fun e => hg (by rw [← e]; exact hb)) _ _
  refine ⟨(ps.set j (vs, ib)).flatMap (·.2), ps.set j (vs, ib), by simp [hl], ?_, ?_, by simp [Value.ownBlock]⟩
  · intro i p y hp hy
    by_cases hij : i = j
    · subst hij
      rw [List.getElem?_set_self (by omega)] at hp hy
      cases hp; cases hy
      exact e.keep hE (hk _ hnoti)
    · rw [List.getElem?_set_ne (by omega)] at hp hy
      exact e.keep (hE0 i p y hp hy) (hk _ (hnot p (List.mem_of_getElem? hp)))
  · rw [List.length_set, flat_setN hwd (by omega) vs (e.len hE) ib]
    exact putN_own ho vs (j * e.wd)
theorem zeros2 (a b : Value) : ∀ k, (Builtin.zeroCells #[a, b] k).toList = (List.replicate k ([a, b], ([] : List Nat))).flatMap (·.1)
  | 0 => by simp [Builtin.zeroCells]
  | k + 1 => by
    have ih := zeros2 a b k
    unfold Builtin.zeroCells at *
    rw [Array.toList_map, Array.toList_range] at *
    rw [List.replicate_succ', List.flatMap_append, ← ih]
    have e2 : (#[a, b] : Array Value).size = 2 := rfl
    rw [e2, Nat.add_mul, Nat.one_mul, List.range_succ, List.range_succ, List.map_append, List.map_append, List.append_assoc]
    congr 1
    have m0 : k * 2 % 2 = 0 := by omega
    have m1 : (k * 2 + 1) % 2 = 1 := by omega
    simp [m0, m1]
/-- The zero value of the news. -/
def nws0 : Nws := ⟨0, []⟩
/-- Zero values behind a row of news. -/
theorem ORow.zeros {B k : Nat} {w : World} {v : Value} {xs : List Nws} {cb : List Nat} (h : ORow nwsE w v xs (v.ownBlock.toList ++ cb)) (hB : ∀ g, v.ownBlock = some g → B ≤ g) :
    ∃ cs, w.ownsRow B nwsE.T nwsE.wd v xs.length cs ∧ ∀ v' w', w'.ownsRow B nwsE.T nwsE.wd v' (xs.length + k) (cs ++ (Builtin.zeroCells #[.int .i64 0, .slice none 0 0] k).toList) → w.grownBy w' v.ownBlock → ORow nwsE w' v' (xs ++ List.replicate k nws0) (v'.ownBlock.toList ++ cb) := by
  have hlt := h.lt
  have hty := orow_inner_ty nws_ty h rfl
  obtain ⟨ps, hl, hE0, ho, hb⟩ := h
  have hcb := List.append_cancel_left hb
  subst hcb
  refine ⟨ps.flatMap (·.1), own_base ho hB, fun v' w' ho' hg => ?_⟩
  have hk : Kp (ps.flatMap (·.2)) w w' := fun b hb => hg.block b (hlt b (List.mem_append.2 (.inr hb))) fun e1 => hty.not ho (by decide) e1.symm hb
  have hz : ∀ k, (List.replicate k (([.int .i64 0, .slice none 0 0], []) : List Value × List Nat)).flatMap (·.2) = [] := fun k => by
    induction k with
    | zero => rfl
    | succ k ih => rw [List.replicate_succ, List.flatMap_cons, ih]; rfl
  refine ⟨ps ++ List.replicate k ([.int .i64 0, .slice none 0 0], []), by simp [hl], ?_, ?_, by rw [List.flatMap_append, hz, List.append_nil]⟩
  · intro j p y hp hy
    by_cases hj : j < xs.length
    · rw [List.getElem?_append_left (by omega)] at hp hy
      exact nwsE.keep (hE0 j p y hp hy) fun b hb => hk b (List.mem_flatMap.2 ⟨p, List.mem_of_getElem? hp, hb⟩)
    · rw [List.getElem?_append_right (by omega)] at hp hy
      have hp' := List.mem_replicate.1 (List.mem_of_getElem? hp)
      have hy' := List.mem_replicate.1 (List.mem_of_getElem? hy)
      rw [hp'.2, hy'.2]
      exact ⟨_, rfl, ORow.nil _ _⟩
  · rw [List.flatMap_append, List.length_append, List.length_replicate, ← zeros2]
    exact own_mono ho' (Nat.zero_le B)
end Go.Proofs.YtlfonikfjibloaaGreatDoor
