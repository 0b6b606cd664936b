import Derived.Laws.AppendOwn
import Derived.Test.YtlfonikfjibloaaGreatDoorBt33
namespace Go.Proofs.YtlfonikfjibloaaGreatDoor
open Go.RowKit

/-- Where the row lies behind an append: where it lay, or in a new block. -/
theorem append_where {P : Program} (w : World) {base : Nat} {t ty e : TypeId} {i : TypeInfo} {z : Value} (ht : P.underlying t = some (.slice e)) (hi : P.info? e = some i) (hz : i.zero = some z)
    {v : Value} {n : Nat} {xs : List Value} (hown : w.ownsRow base e i.size v n xs) {a : Addr} {m c : Nat} {news : List Value} (hl : news.length = m * i.size) (hnews : ∀ j u, news[j]? = some u → w.cell? (a.add j) = some u) (h1 : ∀ u ∈ news, u.oneCell' = true)
    (h0 : 0 < m) (h63 : n + m ≤ maxLen) (hbytes : (n + m) * i.bytes ≤ 140737488355328) {v' : Value} {w' : World} (hr : (Builtin.append_ #[t, t] ty #[v, .slice (some a) m c]).run P w = .ok v' w') :
    v'.ownBlock = v.ownBlock ∨ v'.ownBlock = some w.heap.size := by
  unfold maxLen at h63
  rcases hown.2 with ⟨hv, hn⟩ | ⟨g, cap, cur, hv, _, hg, _, _, hcs, _⟩
  · subst hv; subst hn
    have hx := run_append_nil (P := P) w t ty e i z ht hi hz a m c news hl hnews h0 (by omega) (by simp only [Nat.zero_add] at hbytes; omega)
    rw [hx] at hr
    injection hr with hr1 _
    subst hr1
    exact .inr rfl
  · subst hv
    by_cases hroom : n + m ≤ cap
    · have hx := run_append_room (P := P) w t ty e i ht hi g n cap cur hg a m c news hl hnews h1 hroom (by rw [hl, hcs, ← Nat.add_mul]; exact Nat.mul_le_mul_right _ hroom)
      rw [hx] at hr
      injection hr with hr1 _
      subst hr1
      exact .inl rfl
    · have hx := run_append_grow (P := P) w t ty e i z ht hi hz ⟨g, 0, none⟩ n cap xs hown.1 (hown.cells (g := g) rfl) a m c news hl hnews (by omega) (by omega) (growslice_fits (by omega) hbytes)
      rw [hx] at hr
      injection hr with hr1 _
      subst hr1
      exact .inr rfl
theorem step_append_elemW {α : Type} {e : Elem α} {ts : List TypeId} (he : ∀ {w vs x bl}, e.E w vs x bl → Tys ts w bl) (hts : e.T ∉ ts) {t : TypeId} (ht : Tryz.prog.underlying t = some (.slice e.T)) {z : Value} {bytes : Nat}
    (hinfo : (Tryz.prog.info? e.T).map (fun i => (i.zero, i.size, i.bytes)) = some (some z, e.wd, bytes)) (hzs : z.cells.size = e.wd) (hsz : 0 < e.wd) (hby : bytes ≤ 100)
    {w : World} {ops : Array Oper} {o : Oper} {a : Act} {K : Act → World → Prop} {Q : Exit → Act → World → Prop} {F : Prop} (hg : o.guard = none) (s x : Operand)
    (ho : o.op = .call { callee := .builtin .append, args := #[s, x], argTypes := #[t, t] }) {B : Nat} {v : Value} {xs : List α} {bl : List Nat} (hs : a.eval s = v)
    (h : ORow e w v xs bl) (hF : Fsh B bl) {vs : List Value} {y : α} {ib : List Nat} (hE : e.E w vs y ib) (hFi : Fsh B ib) (hap : ∀ b ∈ ib, b ∉ bl) {g : Nat} (hx : a.eval x = .slice (some ⟨g, 0, none⟩) 1 1)
    (hcell : ∀ (j : Nat) (u : Value), vs[j]? = some u → w.cell? ((⟨g, 0, none⟩ : Addr).add j) = some u) (h1 : ∀ u ∈ vs, u.oneCell' = true) (hB : B ≤ w.heap.size) (hl : xs.length ≤ 40000000)
    (hK : ∀ v' w' bl', ORow e w' v' (xs ++ [y]) bl' → Fsh B bl' → (∀ b ∈ bl', b ∈ bl ∨ b ∈ ib ∨ v'.ownBlock = some b) → w.grownBy w' v.ownBlock → (v'.ownBlock = v.ownBlock ∨ v'.ownBlock = some w.heap.size) → K (a.put o.dst v') w') :
    if Region.wanted o (yielded ops a.tmps) = true then Oper.wp Tryz.prog o a w K Q else F := by
  have hw : Region.wanted o (yielded ops a.tmps) = true := by simp [Region.wanted, hg]
  rw [if_pos hw]
  obtain ⟨i0, hi, hz0, hz1, hz2⟩ := info_parts hinfo
  obtain ⟨cs, hown, hfin⟩ := h.app he hts hF hE hFi hap
  have hby2 : (xs.length + 1) * bytes ≤ (xs.length + 1) * 100 := Nat.mul_le_mul_left _ hby
  obtain ⟨v', w', hr, h2, h3, _⟩ := run_append_own (P := Tryz.prog) w B t o.type e.T i0 z e.wd bytes ht hi hz0 hz1 hz2 hzs hsz v _ cs hown ⟨g, 0, none⟩ 1 1 vs (by rw [e.len hE]; omega) hcell h1 (by unfold maxLen; omega) (by omega) hB
  have h4 := append_where (P := Tryz.prog) w (z := z) ht hi hz0 (by rw [hz1]; exact hown) (by rw [hz1, e.len hE]; omega) hcell h1 (by omega) (by unfold maxLen; omega) (by rw [hz2]; omega) hr
  obtain ⟨bl', h5, h6, h7⟩ := hfin v' w' h2 h3
  exact Lib.wp_append_run w s x t t ho v _ hs hx v' w' hr (hK v' w' bl' h5 h6 h7 h3 h4)
theorem wpList_append_elemW {α : Type} {e : Elem α} {ts : List TypeId} (he : ∀ {w vs x bl}, e.E w vs x bl → Tys ts w bl) (hts : e.T ∉ ts) {t : TypeId} (ht : Tryz.prog.underlying t = some (.slice e.T)) {z : Value} {bytes : Nat}
    (hinfo : (Tryz.prog.info? e.T).map (fun i => (i.zero, i.size, i.bytes)) = some (some z, e.wd, bytes)) (hzs : z.cells.size = e.wd) (hsz : 0 < e.wd) (hby : bytes ≤ 100)
    {w : World} {ops : Array Oper} {rest : List Oper} {o : Oper} {a : Act} {Q : Exit → Act → World → Prop} (hg : o.guard = none) (s x : Operand)
    (ho : o.op = .call { callee := .builtin .append, args := #[s, x], argTypes := #[t, t] }) {B : Nat} {v : Value} {xs : List α} {bl : List Nat} (hs : a.eval s = v)
    (h : ORow e w v xs bl) (hF : Fsh B bl) {vs : List Value} {y : α} {ib : List Nat} (hE : e.E w vs y ib) (hFi : Fsh B ib) (hap : ∀ b ∈ ib, b ∉ bl) {g : Nat} (hx : a.eval x = .slice (some ⟨g, 0, none⟩) 1 1)
    (hcell : ∀ (j : Nat) (u : Value), vs[j]? = some u → w.cell? ((⟨g, 0, none⟩ : Addr).add j) = some u) (h1 : ∀ u ∈ vs, u.oneCell' = true) (hB : B ≤ w.heap.size) (hl : xs.length ≤ 40000000)
    (hK : ∀ v' w' bl', ORow e w' v' (xs ++ [y]) bl' → Fsh B bl' → (∀ b ∈ bl', b ∈ bl ∨ b ∈ ib ∨ v'.ownBlock = some b) → w.grownBy w' v.ownBlock → (v'.ownBlock = v.ownBlock ∨ v'.ownBlock = some w.heap.size) → wpList Tryz.prog ops Q rest (a.put o.dst v') w') :
    wpList Tryz.prog ops Q (o :: rest) a w := by
  obtain ⟨i0, hi, hz0, hz1, hz2⟩ := info_parts hinfo
  obtain ⟨cs, hown, hfin⟩ := h.app he hts hF hE hFi hap
  have hby2 : (xs.length + 1) * bytes ≤ (xs.length + 1) * 100 := Nat.mul_le_mul_left _ hby
  obtain ⟨v', w', hr, h2, h3, _⟩ := run_append_own (P := Tryz.prog) w B t o.type e.T i0 z e.wd bytes ht hi hz0 hz1 hz2 hzs hsz v _ cs hown ⟨g, 0, none⟩ 1 1 vs (by rw [e.len hE]; omega) hcell h1 (by unfold maxLen; omega) (by omega) hB
  have h4 := append_where (P := Tryz.prog) w (z := z) ht hi hz0 (by rw [hz1]; exact hown) (by rw [hz1, e.len hE]; omega) hcell h1 (by omega) (by unfold maxLen; omega) (by rw [hz2]; omega) hr
  obtain ⟨bl', h5, h6, h7⟩ := hfin v' w' h2 h3
  exact Lib.wpList_append_run w hg s x t t ho v _ hs hx v' w' hr (hK v' w' bl' h5 h6 h7 h3 h4)
end Go.Proofs.YtlfonikfjibloaaGreatDoor

namespace Go.Proofs.YtlfonikfjibloaaGreatDoor
open Go.RowKit

/-- A ring that was full, one more element behind the others. -/
theorem RingIs.pushed (q : List Nws) (x : Nws) : RingIs ((q ++ List.replicate (q.length + 1) nws0).set q.length x) 0 (q.length + 1) (q ++ [x]) := by
  have hL : ((q ++ List.replicate (q.length + 1) nws0).set q.length x).length = q.length + (q.length + 1) := by simp
  refine ⟨by simp, by rw [hL]; omega, .inl (by rw [hL]; omega), fun i y hy => ?_⟩
  have hi := (List.getElem?_eq_some_iff.1 hy).1
  rw [List.length_append, List.length_singleton] at hi
  rw [hL, Nat.zero_add, Nat.mod_eq_of_lt (by omega)]
  by_cases h : i = q.length
  · subst h
    rw [List.getElem?_set_self (by simp)]
    simpa using hy
  · rw [List.getElem?_set_ne (by omega), List.getElem?_append_left (by omega)]
    rw [List.getElem?_append_left (by omega)] at hy
    exact hy

set_option maxHeartbeats 1600000 in
set_option maxRecDepth 100000 in
theorem pushNws_walk (B : Nat) (h : Hb) (pv cv : Value) (cb bw : List Nat) (ver : Int) (sv : Value) (ss : List ByteArray) (sb : List Nat) (w : World) (hb : Brd w B h pv cv 0 h.waiting.length h.waiting cb bw) (hs : OStr w sv ss sb) (hl : h.waiting.length ≤ 1048577) :
    Calls Tryz.prog 63 #[.pointer (some ⟨B, 1, none⟩), .agg #[.int .i64 ver, sv]] w fun e w' => e = .returned (.tuple #[]) ∧ ∃ cv' ns cb', Brd w' B ⟨h.watches, h.waiting ++ [⟨ver, ss⟩]⟩ pv cv' 0 (h.waiting.length + 1) ns cb' bw ∧ Fr [B] w w' := by
  obtain ⟨xa, xc, rfl, hx1, hx2⟩ := hb.o2.form
  obtain ⟨sa, sc, rfl, hs1, hs2⟩ := hs.form
  have hBl : B < w.heap.size := (Array.getElem?_eq_some_iff.1 hb.ko).1
  have hA := alloc_b w (.cells #[.int .i64 ver, .slice sa ss.length sc] 53)
  have hbA := hb.below hA
  have hsA := hs.below hA
  have hasz : (w.alloc (.cells #[.int .i64 ver, .slice sa ss.length sc] 53)).heap.size = w.heap.size + 1 := by simp
  have kX := heap_alloc_new w (.cells #[.int .i64 ver, .slice sa ss.length sc] 53)
  have HBA := hide hbA
  have HSA := hide hsA
  have HKX := hide kX
  have HA := hide hA
  have HAS := hide hasz
  have hnn : (h.waiting.length : Int) + 1 = ((h.waiting.length + 1 : Nat) : Int) := by omega
  clear hb hs hx1 hx2 hs1 hs2 hA hbA hsA kX hasz
  go_enter Tryz.func63, Tryz.ntmps63
  go_wp2
  generalize (w.alloc (.cells #[.int .i64 ver, .slice sa ss.length sc] 53)) = wA at *
  have c0 : wA.cell? ⟨B, 1, none⟩ = some (.slice xa h.waiting.length xc) := Lib.cell_of_heap (unhide HBA).ko 1
  have c1 : wA.cell? ⟨B, 2, none⟩ = some (.int .i64 0) := Lib.cell_of_heap (unhide HBA).ko 2
  have c2 : wA.cell? ⟨B, 3, none⟩ = some (.int .i64 (h.waiting.length : Int)) := Lib.cell_of_heap (unhide HBA).ko 3
  clear hnn
  go_quiet (fail)
  go_wp2
  have hdb := draws_b wA nq
  have hbD := (unhide HBA).below hdb
  have hsD := (unhide HSA).below hdb
  have kD := (hdb.block w.heap.size (by have := unhide HAS; omega)).trans (unhide HKX)
  have hWD := below_next (unhide HA) hdb
  have hsz : (wA.drewN nq).heap.size = w.heap.size + 1 := unhide HAS
  generalize wA.drewN nq = wD at *
  have hdr : Below wD.heap.size wD wD.drew := (Below.refl _ _).drew
  have hbr := hbD.below hdr
  have c2' : wD.cell? ⟨B, 3, none⟩ = some (.int .i64 (h.waiting.length : Int)) := Lib.cell_of_heap hbD.ko 3
  have HM := hide (listNws_walk B 1 _ 0 h.waiting.length h.waiting h.waiting cb wD.drew ⟨Lib.cell_of_heap hbr.ko 1, Lib.cell_of_heap hbr.ko 2, Lib.cell_of_heap hbr.ko 3, hbr.o2, hbr.ring⟩ (by omega))
  have HBD := hide hbD
  have HSD := hide hsD
  have HKD := hide kD
  have HWD := hide hWD
  have HBR := hide hbr
  have hwr : IntKind.i64.wrap ((h.waiting.length : Int) + 1) = (h.waiting.length : Int) + 1 := by rw [IntKind.wrap_i64]; omega
  clear hdb hbD hsD kD hWD hdr hbr HBA HSA HKX HA HAS c0 c1 c2
  go_region_law (first
    | (refine step_append_zeros rfl (.tmp 16) (.tmp 21) 42 3 rfl wD.heap.size 53 (.agg #[.int .i64 0, .slice none 0 0]) .i64 .i64 2 32 Tryz.underlying42 Tryz.underlying3 infoNws rfl (by decide) (by exact zone) _ _ _ rfl (unhide HOWN) (h.waiting.length + 1) rfl (by omega) (by omega) (by omega) (by exact hsz2) ?_
       intro v' w3 o3 hg3
       have or3 := unhide HFIN v' w3 o3 hg3
       obtain ⟨va, vc, rfl, hv1, hv2⟩ := or3.form
       have ko3 := (hg3.block B (by omega) fun e => by have := unhide HGL B e.symm; omega).trans ko2
       have cO3 : w3.cell? ⟨B, 1, none⟩ = some (.slice xa h.waiting.length xc) := Lib.cell_of_heap ko3 1
       have fO3 := Lib.frozen_of_heap ko3)
    | (go_simp; refine (unhide HM).mono ?_
       rintro e w2 ⟨lv, cb', rfl, ol, gl, sl, bl2⟩
       obtain ⟨la, lc, rfl, hl1, hl2⟩ := ol.form
       have hsz2 : wD.heap.size ≤ w2.heap.size := bl2.size
       have hgl : ∀ g, (Value.slice la h.waiting.length lc).ownBlock = some g → wD.heap.size ≤ g := gl
       obtain ⟨cs, hown, hfin⟩ := ORow.zeros (k := h.waiting.length + 1) ol hgl
       have HOWN := hide hown
       have HFIN := hide hfin
       have HGL := hide hgl
       have ko2 := (bl2.block B (by simp; omega)).trans (unhide HBR).ko
       have c2'' : w2.cell? ⟨B, 3, none⟩ = some (.int .i64 (h.waiting.length : Int)) := Lib.cell_of_heap ko2 3
       have HBL2 := hide bl2
       have zone : ∀ u ∈ (Value.agg #[.int .i64 0, .slice none 0 0]).cells.toList, u.oneCell' = true := fun u hu => by simp [Value.cells] at hu; rcases hu with rfl | rfl <;> rfl))
  all_goals (
    have hvl : (h.waiting ++ List.replicate (h.waiting.length + 1) nws0).length = h.waiting.length + (h.waiting.length + 1) := by rw [List.length_append, List.length_replicate]
    rw [hvl] at or3
    have hgo3 : ∀ g, (Value.slice va (h.waiting.length + (h.waiting.length + 1)) vc).ownBlock = some g → wD.heap.size ≤ g := fun g hg => by
      rw [hvl] at o3
      exact (o3.lt g hg).1
    have hnl : ∀ (bl : List Nat) (ts : List TypeId), Tys ts w2 bl → 53 ∉ ts → (∀ b ∈ bl, b < w2.heap.size) → Kp bl w2 w3 := fun bl ts ht hn hlt b hb => hg3.block b (hlt b hb) fun e => by
      obtain ⟨csl, hcsl⟩ := ol.own
      exact ht.not hcsl hn e.symm hb
    have b2w := bl2
    have ow2 := (unhide HBR).o1.below bl2
    have tw2 := orow_ty (e := wtrE) wtr_ty ow2
    have ow3 := ow2.keep (hnl _ _ tw2 (by decide) ow2.lt)
    have os2 := ((unhide HSD).below (w' := w2) ⟨bl2.os, bl2.tape, bl2.output, bl2.size, fun k hk => bl2.block k hk⟩)
    have os3 := os2.keep (hnl _ _ (ostr_ty os2) (by decide) os2.lt)
    have kp2 := (bl2.block w.heap.size (by simp; omega)).trans (unhide HKD)
    have kp3 := (hg3.block w.heap.size (by omega) fun e => by have := unhide HGL _ e.symm; omega).trans kp2
    have hBnot : ∀ (bl : List Nat) (ts : List TypeId), Tys ts w3 bl → 141 ∉ ts → B ∉ bl := fun bl ts ht hn hm => by
      obtain ⟨cur, t, e1, e2⟩ := ht B hm
      rw [ko3] at e1
      injection e1 with e1; injection e1 with _ e1
      exact hn (e1 ▸ e2)
    have nw := hBnot _ _ (orow_ty (e := wtrE) wtr_ty ow3) (by decide)
    have ns := hBnot _ _ (ostr_ty os3) (by decide)
    have nr := hBnot _ _ (nwss_ty or3) (by decide)
    have ko4 := heap_setCell_same _ _ 1 _ _ (.slice va (h.waiting.length + (h.waiting.length + 1)) vc) ko3
    have ko5 := heap_setCell_same _ _ 2 _ _ (.int .i64 0) ko4
    have ow5 := (ow3.other nw 1 (.slice va (h.waiting.length + (h.waiting.length + 1)) vc)).other nw 2 (.int .i64 0)
    have os5 := (os3.other ns 1 (.slice va (h.waiting.length + (h.waiting.length + 1)) vc)).other ns 2 (.int .i64 0)
    have or5 := (or3.other nr 1 (.slice va (h.waiting.length + (h.waiting.length + 1)) vc)).other nr 2 (.int .i64 0)
    have kp5 := (Below.heap_setCell (w3.setCell ⟨B, 1, none⟩ (.slice va (h.waiting.length + (h.waiting.length + 1)) vc)) ⟨B, 2, none⟩ (.int .i64 0) w.heap.size (by simp; omega)).trans ((Below.heap_setCell w3 ⟨B, 1, none⟩ (.slice va (h.waiting.length + (h.waiting.length + 1)) vc) w.heap.size (by simp; omega)).trans kp3)
    have fw2 : Fr [B] w w2 := (Fr.of_below (unhide HWD)).trans' (bl' := [B]) (Fr.of_below (w := wD) (w' := w2) ⟨bl2.os, bl2.tape, bl2.output, bl2.size, fun k hk => bl2.block k hk⟩) (fun i hi => .inl hi)
    have fr5 := ((fw2.grown hg3 (fun j hj => by have := unhide HGL j hj; omega)).set (g := B) (by simp) 1 (.slice va (h.waiting.length + (h.waiting.length + 1)) vc)).set (g := B) (by simp) 2 (.int .i64 0)
    have KO5 := hide ko5
    have OW5 := hide ow5
    have OS5 := hide os5
    have OR5 := hide or5
    have KP5 := hide kp5
    have FR5 := hide fr5
    have HG5 := hide hgo3
    have d2 : (w3.setCell ⟨B, 1, none⟩ (.slice va (h.waiting.length + (h.waiting.length + 1)) vc)).cell? ⟨B, 2, none⟩ = some (.int .i64 0) := Lib.cell_of_heap ko4 2
    have fd2 := Lib.frozen_of_heap ko4
    clear hv1 hv2 ko2 cO3 fO3 hvl hgo3 hnl b2w ow2 tw2 ow3 os2 os3 kp2 kp3 hBnot nw ns nr ko4 ko5 ow5 os5 or5 kp5 fw2 fr5 or3 o3 hg3 ko3 HOWN HFIN HGL ol hl1 hl2 sl bl2 HBL2 hown hfin hgl gl HM HBD HSD HKD HWD HBR c2' c2'' zone
    go_wp2
    clear d2 fd2
    generalize ((w3.setCell ⟨B, 1, none⟩ (.slice va (h.waiting.length + (h.waiting.length + 1)) vc)).setCell ⟨B, 2, none⟩ (.int .i64 0)) = w5 at *
    have or5 := unhide OR5
    have ko5 : w5.heap[B]? = some (.cells #[pv, .slice va (h.waiting.length + (h.waiting.length + 1)) vc, .int .i64 0, .int .i64 (h.waiting.length : Int)] 141 (0, 0)) := unhide KO5
    have hLl : (h.waiting ++ List.replicate (h.waiting.length + 1) nws0).length = h.waiting.length + (h.waiting.length + 1) := by rw [List.length_append, List.length_replicate]
    obtain ⟨gc, rfl⟩ : ∃ gc, va = some ⟨gc, 0, none⟩ := by
      obtain ⟨a', c', he, _, hp⟩ := or5.form
      injection he with he1 _ _
      obtain ⟨g, hg⟩ := hp (by rw [hLl]; omega)
      exact ⟨g, he1.trans hg⟩
    have hring : RingIs (h.waiting ++ List.replicate (h.waiting.length + 1) nws0) 0 h.waiting.length h.waiting := by
      refine ⟨rfl, by rw [hLl]; omega, .inl (by rw [hLl]; omega), fun i x hx => ?_⟩
      have hi := (List.getElem?_eq_some_iff.1 hx).1
      rw [hLl, Nat.zero_add, Nat.mod_eq_of_lt (by omega), List.getElem?_append_left (by omega)]
      exact hx
    have hdr5 : Below w5.heap.size w5 w5.drew := (Below.refl _ _).drew
    have hR5 : RingAt nwsE w5.drew B 1 (.slice (some ⟨gc, 0, none⟩) (h.waiting.length + (h.waiting.length + 1)) vc) 0 h.waiting.length (h.waiting ++ List.replicate (h.waiting.length + 1) nws0) h.waiting cb' := ⟨Lib.cell_of_heap ko5 1, Lib.cell_of_heap ko5 2, Lib.cell_of_heap ko5 3, or5.below hdr5, hring⟩
    have HM := hide (cellNws_walk B 1 _ 0 h.waiting.length _ h.waiting cb' h.waiting.length w5.drew hR5 (by rw [hLl]; omega) (by rw [hLl]; omega))
    rw [hLl, Nat.zero_add, Nat.mod_eq_of_lt (by omega)] at HM
    have e3 : w5.cell? ⟨B, 3, none⟩ = some (.int .i64 (h.waiting.length : Int)) := Lib.cell_of_heap ko5 3
    have x0 : w5.cell? ⟨w.heap.size, 0, none⟩ = some (.int .i64 ver) := Lib.cell_of_heap (unhide KP5) 0
    have x1 : w5.cell? ⟨w.heap.size, 1, none⟩ = some (.slice sa ss.length sc) := Lib.cell_of_heap (unhide KP5) 1
    obtain ⟨vs0, ib0, hE0, hc0, _, _, _⟩ := or5.at (j := h.waiting.length) (x := nws0) (by rw [List.getElem?_append_right (Nat.le_refl _), Nat.sub_self]; rfl)
    obtain ⟨qz, rfl, _⟩ := hE0
    have y0 : w5.cell? ⟨gc, h.waiting.length * 2, none⟩ = _ := (hc0 0 _ rfl).1
    have y1 : w5.cell? ⟨gc, h.waiting.length * 2 + 1, none⟩ = _ := (hc0 1 _ rfl).1
    have z0 : w5.frozen? ⟨gc, h.waiting.length * 2, none⟩ = _ := (hc0 0 _ rfl).2
    have z1 : w5.frozen? ⟨gc, h.waiting.length * 2 + 1, none⟩ = _ := (hc0 1 _ rfl).2
    have hgB : gc ≠ B := fun e => by have := unhide HG5 gc rfl; omega
    have KO := hide ko5
    clear or5 ko5 KO5 hring hdr5 hR5 hc0
    go_region_law (go_simp; refine (unhide HM).mono ?_; rintro e w6 ⟨gd, rfl, hgd, n6, rfl⟩; obtain rfl : gd = gc := (Option.some.inj hgd).symm; have b6 : Below w5.heap.size w5 (w5.drew.drewN n6) := ⟨rfl, rfl, rfl, Nat.le_refl _, fun _ _ => rfl⟩; have f3 := (b6.cell (World.block_lt_of_cell? _ _ e3)).trans e3; have x0' := (b6.cell (World.block_lt_of_cell? _ _ x0)).trans x0; have x1' := (b6.cell (World.block_lt_of_cell? _ _ x1)).trans x1; have y0' := (b6.cell (World.block_lt_of_cell? _ _ y0)).trans y0; have y1' := (b6.cell (World.block_lt_of_cell? _ _ y1)).trans y1; have z0' := (b6.frozen (World.block_lt_of_cell? _ _ y0)).trans z0; have z1' := (b6.frozen (World.block_lt_of_cell? _ _ y1)).trans z1; have k6 := (b6.block B (Array.getElem?_eq_some_iff.1 (unhide KO)).1).trans (unhide KO); have fB := Lib.frozen_of_heap k6))
  all_goals (
    have OW6 := hide ((unhide OW5).below b6)
    have OS6 := (unhide OS5).below b6
    have or6 : ORow nwsE (w5.drew.drewN n6) (.slice (some ⟨gd, 0, none⟩) (h.waiting.length + (h.waiting.length + 1)) vc) (h.waiting ++ List.replicate (h.waiting.length + 1) nws0) (gd :: cb') := (unhide OR5).below b6
    obtain ⟨cb2, oe⟩ := orow_putAll nws_ty (by decide) or6 (j := h.waiting.length) (by rw [hLl]; omega) (vs := [.int .i64 ver, .slice sa ss.length sc]) (x := ⟨ver, ss⟩) (ib := sb) ⟨_, rfl, OS6⟩
    have hge := unhide HG5 gd rfl
    have k7 : (putN (w5.drew.drewN n6) gd (h.waiting.length * 2) [.int .i64 ver, .slice sa ss.length sc]).heap[B]? = some (.cells #[pv, .slice (some ⟨gd, 0, none⟩) (h.waiting.length + (h.waiting.length + 1)) vc, .int .i64 0, .int .i64 (h.waiting.length : Int)] 141 (0, 0)) := (putN_other (fun e => hgB e.symm) _ _).trans k6
    have fB7 : (((w5.drew.drewN n6).setCell ⟨gd, h.waiting.length * 2, none⟩ (.int .i64 ver)).setCell ⟨gd, h.waiting.length * 2 + 1, none⟩ (.slice sa ss.length sc)).frozen? ⟨B, 3, none⟩ = false := Lib.frozen_of_heap k7 3
    have k8 := heap_setCell_same _ _ 3 _ _ (.int .i64 ((h.waiting.length : Int) + 1)) k7
    have ow7 : ORow wtrE (putN (w5.drew.drewN n6) gd (h.waiting.length * 2) [.int .i64 ver, .slice sa ss.length sc]) pv h.watches bw := (unhide OW6).putN (fun hm => by
      obtain ⟨cur, t, e1, e2⟩ := orow_ty (e := wtrE) wtr_ty (unhide OW6) gd hm
      obtain ⟨cs9, hcs9⟩ := or6.own
      obtain ⟨cur', t', e3', e4'⟩ := own_ty hcs9 gd (by simp [Value.ownBlock])
      rw [e1] at e3'
      injection e3' with e3'; injection e3' with _ e3'
      simp at e4'
      rw [e3', e4'] at e2
      exact absurd e2 (by decide)) _ _
    have hBn : ∀ (bl : List Nat) (ts : List TypeId), Tys ts (putN (w5.drew.drewN n6) gd (h.waiting.length * 2) [.int .i64 ver, .slice sa ss.length sc]) bl → 141 ∉ ts → B ∉ bl := fun bl ts ht hn hm => by
      obtain ⟨cur, t, e1, e2⟩ := ht B hm
      rw [k7] at e1
      injection e1 with e1; injection e1 with _ e1
      exact hn (e1 ▸ e2)
    have ow8 := ow7.other (hBn _ _ (orow_ty (e := wtrE) wtr_ty ow7) (by decide)) 3 (.int .i64 ((h.waiting.length : Int) + 1))
    have oe8 := ORow.other oe (hBn _ _ (nwss_ty oe) (by decide)) 3 (.int .i64 ((h.waiting.length : Int) + 1))
    have hBrd : Brd _ B ⟨h.watches, h.waiting ++ [⟨ver, ss⟩]⟩ pv _ 0 (h.waiting.length + 1) _ cb2 bw := ⟨k8, ow8, oe8, RingIs.pushed h.waiting ⟨ver, ss⟩, by rw [List.length_set, hLl]; omega⟩
    have f6 : Fr [B] w (w5.drew.drewN n6) := (unhide FR5).next b6
    have f7 : Fr [B] w (putN (w5.drew.drewN n6) gd (h.waiting.length * 2) [.int .i64 ver, .slice sa ss.length sc]) := f6.trans' (bl' := [gd]) ⟨rfl, rfl, rfl, by simp [putN, World.setCell], fun k _ hn => putN_other (fun e => hn (by simp [e])) _ _⟩ (fun i hi => .inr (by simp at hi; omega))
    have f8 := f7.set (g := B) (by simp) 3 (.int .i64 ((h.waiting.length : Int) + 1))
    have HR := hide hBrd
    have HF8 := hide f8
    have e6 : w5.drew.drewN n6 = w5.drewN (1 + n6) := by simp
    rw [e6] at HR HF8
    have fB5 : w5.frozen? ⟨B, 3, none⟩ = false := Lib.frozen_of_heap (unhide KO) 3
    clear e6
    clear OW6 OS6 or6 oe k7 k8 ow7 hBn ow8 oe8 hBrd f6 f7 f8 OR5 OW5 OS5 FR5 KP5 HG5 KO HM k6 b6
    go_wp2
    go_returns
    exact ⟨rfl, _, _, _, unhide HR, unhide HF8⟩)
end Go.Proofs.YtlfonikfjibloaaGreatDoor

namespace Go.Proofs.YtlfonikfjibloaaGreatDoor
open Go.RowKit

set_option maxHeartbeats 800000 in
set_option maxRecDepth 100000 in
theorem implPublish_walk (v pv : Value) (h : Hb) (ver : Int) (ps : List ByteArray) (bl bp : List Nat) (w : World) (ho : OHub w v h bl) (hp : OStr w pv ps bp) (hs : szHb h + szStr ps ≤ 1048576) :
    Calls Tryz.prog 23 #[v, .int .i64 ver, pv] w fun e w' => ∃ v' bl', e = .returned v' ∧ OHub w' v' ⟨h.watches, h.waiting ++ [⟨ver, ps⟩]⟩ bl' ∧ Fsh w.heap.size bl' ∧ Below w.heap.size w w' := by
  have hz1 : szWats h.watches ≤ 1048577 := by unfold szHb at hs; omega
  have hz2 : szNwss h.waiting ≤ 1048577 := by unfold szHb at hs; omega
  have hl2 : h.waiting.length ≤ 1048577 := by unfold szNwss at hz2; omega
  have hpl : ps.length ≤ 1048577 := by unfold szStr at hs; omega
  have hs1 : ∀ x ∈ h.watches, szWat x ≤ 1048577 := fun x hx => by
    obtain ⟨k, hk, rfl⟩ := List.mem_iff_getElem.1 hx
    have h1 := sum_take_snoc szWat h.watches k h.watches[k] (List.getElem?_eq_getElem hk)
    have h2 := sum_take_le (h.watches.map szWat) (k + 1)
    rw [← List.map_take] at h2
    unfold szWats at hz1; omega
  have hs2 : ∀ x ∈ h.waiting ++ [⟨ver, ps⟩], x.ptrs.length ≤ 1048577 := fun x hx => by
    rcases List.mem_append.1 hx with hx | hx
    · obtain ⟨k, hk, rfl⟩ := List.mem_iff_getElem.1 hx
      have h1 := sum_take_snoc szNws h.waiting k h.waiting[k] (List.getElem?_eq_getElem hk)
      have h2 := sum_take_le (h.waiting.map szNws) (k + 1)
      rw [← List.map_take] at h2
      unfold szNwss at hz2
      have h3 : h.waiting[k].ptrs.length ≤ szNws h.waiting[k] := by unfold szNws szStr; omega
      omega
    · simp at hx; subst hx; exact hpl
  have hst : szHb ⟨h.watches, h.waiting ++ [⟨ver, ps⟩]⟩ ≤ 2097154 := by
    unfold szHb szNwss at *
    rw [List.length_append, List.map_append, List.sum_append]
    simp [szNws]
    omega
  obtain ⟨p, q, i1, i2, rfl, o1, o2, rfl⟩ := ho
  obtain ⟨sa, sc, rfl, hsa1, hsa2⟩ := hp.form
  have HO : Hid (OHub w (.agg #[p, q]) h (i1 ++ i2)) := ⟨p, q, i1, i2, rfl, o1, o2, rfl⟩
  have HP := hide hp
  have HS1 := hide hs1
  have HS2 := hide hs2
  have HST := hide hst
  have hsb : szHb h ≤ 1048577 := by omega
  clear o1 o2 hp hz1 hz2 hs1 hs2 hst hsa1 hsa2 hs
  go_enter Tryz.func23, Tryz.ntmps23
  go_wp2_with fail
  have hA := new2 w (Obj.cells #[p, q] 47) (Obj.cells #[Value.slice none 0 0, Value.slice none 0 0] 47)
  generalize ((w.alloc (Obj.cells #[p, q] 47)).alloc (Obj.cells #[Value.slice none 0 0, Value.slice none 0 0] 47)) = wA at *
  have hsz := hA.size
  refine (readHub_walk _ h (i1 ++ i2) wA ((unhide HO).below hA.bel) hsb).mono ?_
  rintro e w1 ⟨B, bv, cv, cb, bw, rfl, hB, hBn, _, _, _, b1⟩
  have hz1 := b1.size
  have B1 := below_next hA.bel b1
  have k1 := (b1.block (w.heap.size + 1) (by omega)).trans hA.k1
  have HM := hide (pushNws_walk B h bv cv cb bw ver _ ps bp w1 hB ((unhide HP).below B1) hl2)
  have HB1 := hide B1
  have HK1 := hide k1
  have hBs : B < w1.heap.size := (Array.getElem?_eq_some_iff.1 hB.ko).1
  clear hA b1 B1 k1 hB HO HP
  go_wp2_with fail
  refine (unhide HM).mono ?_
  rintro e w2 ⟨rfl, cv', ns, cb', hB2, f2⟩
  have hz2 := f2.size
  have B2 : Below w.heap.size w w2 := (unhide HB1).trans (f2.below (fun b hb => by simp at hb; omega) (by omega))
  have k2 := (f2.block (w.heap.size + 1) (by omega) (by simp; omega)).trans (unhide HK1)
  have HT := hide (tellHub_walk B _ bv cv' 0 (h.waiting.length + 1) ns cb' bw w2 hB2 (unhide HST) (unhide HS1) (unhide HS2))
  have HB2 := hide B2
  have HK2 := hide k2
  clear f2 hB2 B2 k2 HM HB1 HK1 HST HS1 HS2
  go_wp2_with fail
  refine (unhide HT).mono ?_
  rintro e w3 ⟨v3, bl3, rfl, o3, f3, b3⟩
  obtain ⟨p3, q3, j1, j2, rfl, po, qo, rfl⟩ := o3
  obtain ⟨pa, pc, rfl, hp1, hp2⟩ := po.form
  obtain ⟨qa, qc, rfl, hq1, hq2⟩ := qo.form
  rw [show (Hb.waiting ⟨h.watches, h.waiting ++ [⟨ver, ps⟩]⟩).length = h.waiting.length + 1 from by simp] at qo
  have k3 := (b3.block (w.heap.size + 1) (by omega)).trans (unhide HK2)
  have hz3 := b3.size
  have r0 : w3.cell? ⟨w.heap.size + 1, 0, none⟩ = some (.slice none 0 0) := Lib.cell_of_heap k3 0
  have r1 : w3.cell? ⟨w.heap.size + 1, 1, none⟩ = some (.slice none 0 0) := Lib.cell_of_heap k3 1
  have fr := Lib.frozen_of_heap k3
  have HB3 := hide (below_next (unhide HB2) b3)
  have HPO := hide po
  have HQO := hide qo
  have HF3 := hide f3
  have HK3 := hide k3
  clear b3 po qo f3 k3 hp1 hp2 hq1 hq2 HT HB2 HK2
  go_wp2
  refine bodyPost_ret (results_cell_row rfl _ _ (w.heap.size + 1) 47 #[_, _] (0, 0) _ rfl (putN_full (unhide HK3) [_, _] rfl) Tryz.underlying47 rfl (by kernel_rfl)) rfl ?_
  have hn : w.heap.size + 1 ∉ j1 ++ j2 := fun hm => by have := (unhide HF3).2 _ hm; omega
  have n1 : w.heap.size + 1 ∉ j1 := fun hm => hn (List.mem_append.2 (.inl hm))
  have n2 : w.heap.size + 1 ∉ j2 := fun hm => hn (List.mem_append.2 (.inr hm))
  refine ⟨_, j1 ++ j2, rfl, ⟨_, _, j1, j2, rfl, (unhide HPO).putN n1 [_, _] 0, ?_, rfl⟩, (unhide HF3).mono (by omega), putN_below (g := w.heap.size + 1) (unhide HB3) (by omega) [_, _] 0⟩
  exact (unhide HQO).putN n2 [_, _] 0
end Go.Proofs.YtlfonikfjibloaaGreatDoor
