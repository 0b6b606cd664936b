import Derived.Test.YtbcfkkicmmhhcaaDoorBd39
namespace Go.Proofs.YtbcfkkicmmhhcaaDoor
open Go.RowKit

theorem once_setD {D : Nat} {ps : List (List Value × List Nat)} (h : ∀ b ∈ ps.flatMap (·.2), b < D) {j : Nat} {q : List Value × List Nat} (hq : Once D q.2) : Once D ((ps.set j q).flatMap (·.2)) := by
  have hold : ∀ p ∈ ps, ∀ b ∈ p.2, b < D := fun p hp b hb => h b (List.mem_flatMap.2 ⟨p, hp, hb⟩)
  refine once_flat.2 ⟨fun p hp => ?_, ?_⟩
  · rcases List.mem_or_eq_of_mem_set hp with hp | rfl
    · exact Once.old (hold p hp)
    · exact hq
  · rw [List.pairwise_iff_getElem]
    intro i k hi hk hik a ha b hb hDa hab
    have hi' : i < ps.length := by simpa using hi
    have hk' : k < ps.length := by simpa using hk
    by_cases h1 : i = j
    · rw [List.getElem_set_ne (by omega)] at hb
      have := hold _ (List.getElem_mem hk') b hb
      omega
    · rw [List.getElem_set_ne (by omega)] at ha
      have := hold _ (List.getElem_mem hi') a ha
      omega
theorem orow_putAll3 {α : Type} {e : Elem α} {ts : List TypeId} (he : ∀ {w vs x bl}, e.E w vs x bl → Tys ts w bl) (hts : e.T ∉ ts) {w : World} {g n cap : Nat} {xs : List α} {cb : List Nat} (h : ORow e w (.slice (some ⟨g, 0, none⟩) n cap) xs (g :: cb)) {j : Nat} (hj : j < xs.length)
    {vs : List Value} {x : α} {ib : List Nat} (hE : e.E w vs x ib) : ∃ cb', ORow e (putN w g (j * e.wd) vs) (.slice (some ⟨g, 0, none⟩) n cap) (xs.set j x) (g :: cb') ∧ (∀ b ∈ cb', b ∈ cb ∨ b ∈ ib) ∧ (∀ D, (∀ b ∈ cb, b < D) → Once D ib → Once D cb') := by
  have hty := orow_inner_ty he (cb := cb) h rfl
  have htyi := he hE
  obtain ⟨ps, hl, hE0, ho, hb⟩ := h
  have hn : n = xs.length := by
    rcases ho.2 with ⟨hv, h0⟩ | ⟨g', cap', cur, hv, _⟩
    · cases hv
    · injection hv
  subst hn
  have hcb : cb = ps.flatMap (·.2) := by
    simp [Value.ownBlock] at hb; exact hb
  have hwd := orow_wd hl hE0
  have hnot : ∀ p ∈ ps, g ∉ p.2 := fun p hp hg => hty.not ho hts (g := g) rfl (by rw [hcb]; exact List.mem_flatMap.2 ⟨p, hp, hg⟩)
  have hnoti : g ∉ ib := fun hg => htyi.not ho hts (g := g) rfl hg
  have hk : ∀ bl : List Nat, g ∉ bl → Kp bl w (putN w g (j * e.wd) vs) := fun bl hg b hb => putN_other (k := b) (g := g) (fun e => hg (by rw [← e]; exact hb)) _ _
  refine ⟨(ps.set j (vs, ib)).flatMap (·.2), ⟨ps.set j (vs, ib), by simp [hl], ?_, ?_, by simp [Value.ownBlock]⟩, fun b hb => ?_, fun D h1 h2 => ?_⟩
  · intro i p y hp hy
    by_cases hij : i = j
    · subst hij
      rw [List.getElem?_set_self (by omega)] at hp hy
      cases hp; cases hy
      exact e.keep hE (hk _ hnoti)
    · rw [List.getElem?_set_ne (by omega)] at hp hy
      exact e.keep (hE0 i p y hp hy) (hk _ (hnot p (List.mem_of_getElem? hp)))
  · rw [List.length_set, flat_setN hwd (by omega) vs (e.len hE) ib]
    exact putN_own ho vs (j * e.wd)
  · obtain ⟨p, hp, hb⟩ := List.mem_flatMap.1 hb
    rcases List.mem_or_eq_of_mem_set hp with hp | rfl
    · left; rw [hcb]; exact List.mem_flatMap.2 ⟨p, hp, hb⟩
    · exact .inr hb
  · rw [hcb] at h1
    exact once_setD h1 (q := (vs, ib)) h2
theorem zeros3 (a b c : Value) : ∀ k, (Builtin.zeroCells #[a, b, c] k).toList = (List.replicate k ([a, b, c], ([] : List Nat))).flatMap (·.1)
  | 0 => by simp [Builtin.zeroCells]
  | k + 1 => by
    have ih := zeros3 a b c k
    unfold Builtin.zeroCells at *
    rw [Array.toList_map, Array.toList_range] at *
    rw [List.replicate_succ', List.flatMap_append, ← ih]
    have e2 : (#[a, b, c] : Array Value).size = 3 := rfl
    rw [e2, Nat.add_mul, Nat.one_mul, List.range_succ, List.range_succ, List.range_succ, List.map_append, List.map_append, List.map_append, List.append_assoc, List.append_assoc]
    congr 1
    have m0 : k * 3 % 3 = 0 := by omega
    have m1 : (k * 3 + 1) % 3 = 1 := by omega
    have m2 : (k * 3 + 2) % 3 = 2 := by omega
    simp [m0, m1, m2]
theorem ORow.zerosM {B k : Nat} {w : World} {v : Value} {xs : List Msg} {cb : List Nat} (h : ORow msgE w v xs (v.ownBlock.toList ++ cb)) (hB : ∀ g, v.ownBlock = some g → B ≤ g) :
    ∃ cs, w.ownsRow B msgE.T msgE.wd v xs.length cs ∧ ∀ v' w', w'.ownsRow B msgE.T msgE.wd v' (xs.length + k) (cs ++ (Builtin.zeroCells #[.int .i64 0, .slice none 0 0, .bool false] k).toList) → w.grownBy w' v.ownBlock → ORow msgE w' v' (xs ++ List.replicate k msg0) (v'.ownBlock.toList ++ cb) := by
  have hlt := h.lt
  have hty := orow_inner_ty msg_ty h rfl
  obtain ⟨ps, hl, hE0, ho, hb⟩ := h
  have hcb := List.append_cancel_left hb
  subst hcb
  refine ⟨ps.flatMap (·.1), own_base ho hB, fun v' w' ho' hg => ?_⟩
  have hk : Kp (ps.flatMap (·.2)) w w' := fun b hb => hg.block b (hlt b (List.mem_append.2 (.inr hb))) fun e1 => hty.not ho (by decide) e1.symm hb
  have hz : ∀ k, (List.replicate k (([.int .i64 0, .slice none 0 0, .bool false], []) : List Value × List Nat)).flatMap (·.2) = [] := fun k => by
    induction k with
    | zero => rfl
    | succ k ih => rw [List.replicate_succ, List.flatMap_cons, ih]; rfl
  refine ⟨ps ++ List.replicate k ([.int .i64 0, .slice none 0 0, .bool false], []), by simp [hl], ?_, ?_, by rw [List.flatMap_append, hz, List.append_nil]⟩
  · intro j p y hp hy
    by_cases hj : j < xs.length
    · rw [List.getElem?_append_left (by omega)] at hp hy
      exact msgE.keep (hE0 j p y hp hy) fun b hb => hk b (List.mem_flatMap.2 ⟨p, List.mem_of_getElem? hp, hb⟩)
    · rw [List.getElem?_append_right (by omega)] at hp hy
      have hp' := List.mem_replicate.1 (List.mem_of_getElem? hp)
      have hy' := List.mem_replicate.1 (List.mem_of_getElem? hy)
      rw [hp'.2, hy'.2]
      exact ⟨_, rfl, ORow.nil _ _⟩
  · rw [List.flatMap_append, List.length_append, List.length_replicate, ← zeros3]
    exact own_mono ho' (Nat.zero_le B)
/-- A ring of messages that was full, one more behind the others. -/
theorem RingIs.pushedM (q : List Msg) (x : Msg) : RingIs ((q ++ List.replicate (q.length + 1) msg0).set q.length x) 0 (q.length + 1) (q ++ [x]) := by
  have hL : ((q ++ List.replicate (q.length + 1) msg0).set q.length x).length = q.length + (q.length + 1) := by simp
  refine ⟨by simp, by rw [hL]; omega, .inl (by rw [hL]; omega), fun i y hy => ?_⟩
  have hi := (List.getElem?_eq_some_iff.1 hy).1
  rw [List.length_append, List.length_singleton] at hi
  rw [hL, Nat.zero_add, Nat.mod_eq_of_lt (by omega)]
  by_cases h : i = q.length
  · subst h
    rw [List.getElem?_set_self (by simp)]
    simpa using hy
  · rw [List.getElem?_set_ne (by omega), List.getElem?_append_left (by omega)]
    rw [List.getElem?_append_left (by omega)] at hy
    exact hy

set_option maxHeartbeats 1600000 in
set_option maxRecDepth 100000 in
theorem pushMsg_walk (B : Nat) (cl : Int) (pt : ByteArray) (cp si : Int) (cd : Bool) (cv : Value) (q : List Msg) (cb : List Nat) (ver : Int) (over : Bool) (sv : Value) (ss : List ByteArray) (sb : List Nat) (w : World) (hk : w.heap[B]? = some (.cells #[.int .i64 cl, .string pt, .int .i64 cp, .int .i64 si, .bool cd, .slice none 0 0, cv, .int .i64 0, .int .i64 (q.length : Int)] 118 (0, 0))) (ho : ORow msgE w cv q (cv.ownBlock.toList ++ cb)) (hs : OStr w sv ss sb) (hl : q.length ≤ 1048577) :
    Calls Tryd.prog 110 #[.pointer (some ⟨B, 6, none⟩), .agg #[.int .i64 ver, sv, .bool over]] w fun e w' => e = .returned (.tuple #[]) ∧ ∃ cv' ms' cb', w'.heap[B]? = some (.cells #[.int .i64 cl, .string pt, .int .i64 cp, .int .i64 si, .bool cd, .slice none 0 0, cv', .int .i64 0, .int .i64 ((q.length : Int) + 1)] 118 (0, 0)) ∧ ORow msgE w' cv' ms' (cv'.ownBlock.toList ++ cb') ∧ RingIs ms' 0 (q.length + 1) (q ++ [⟨ver, ss, over⟩]) ∧ ms'.length ≤ 4000000 ∧ (∀ b, cv'.ownBlock = some b → w.heap.size ≤ b) ∧ (∀ b ∈ cb', b ∈ cb ∨ b ∈ sb) ∧ (∀ D, (∀ b ∈ cb, b < D) → Once D sb → Once D cb') ∧ Fr [B] w w' := by
  obtain ⟨xa, xc, rfl, hx1, hx2⟩ := ho.form
  obtain ⟨sa, sc, rfl, hs1, hs2⟩ := hs.form
  have hBl : B < w.heap.size := (Array.getElem?_eq_some_iff.1 hk).1
  have hA := alloc_b w (.cells #[.int .i64 ver, .slice sa ss.length sc, .bool over] 115)
  have kBA := (hA.block B hBl).trans hk
  have hoA := ho.below hA
  have hsA := hs.below hA
  have hasz : (w.alloc (.cells #[.int .i64 ver, .slice sa ss.length sc, .bool over] 115)).heap.size = w.heap.size + 1 := by simp
  have kX := heap_alloc_new w (.cells #[.int .i64 ver, .slice sa ss.length sc, .bool over] 115)
  have KBA := hide kBA
  have HOA := hide hoA
  have HSA := hide hsA
  have HKX := hide kX
  have HA := hide hA
  have HAS := hide hasz
  have hnn : (q.length : Int) + 1 = ((q.length + 1 : Nat) : Int) := by omega
  clear hk ho hs hx1 hx2 hs1 hs2 hA kBA hoA hsA kX hasz
  go_enter Tryd.func110, Tryd.ntmps110
  go_wp2
  generalize (w.alloc (.cells #[.int .i64 ver, .slice sa ss.length sc, .bool over] 115)) = wA at *
  have c0 : wA.cell? ⟨B, 6, none⟩ = some (.slice xa q.length xc) := Lib.cell_of_heap (unhide KBA) 6
  have c1 : wA.cell? ⟨B, 7, none⟩ = some (.int .i64 0) := Lib.cell_of_heap (unhide KBA) 7
  have c2 : wA.cell? ⟨B, 8, none⟩ = some (.int .i64 (q.length : Int)) := Lib.cell_of_heap (unhide KBA) 8
  clear hnn
  go_quiet (fail)
  go_wp2
  have hdb := draws_b wA nq
  have kBD := (hdb.block B (by have := unhide HAS; omega)).trans (unhide KBA)
  have hoD := (unhide HOA).below hdb
  have hsD := (unhide HSA).below hdb
  have kD := (hdb.block w.heap.size (by have := unhide HAS; omega)).trans (unhide HKX)
  have hWD := below_next (unhide HA) hdb
  have hsz : (wA.drewN nq).heap.size = w.heap.size + 1 := unhide HAS
  generalize wA.drewN nq = wD at *
  have hdr : Below wD.heap.size wD wD.drew := (Below.refl _ _).drew
  have hor := hoD.below hdr
  have c2' : wD.cell? ⟨B, 8, none⟩ = some (.int .i64 (q.length : Int)) := Lib.cell_of_heap kBD 8
  have HM := hide (listMsg_walk B 6 _ 0 q.length q q cb wD.drew ⟨Lib.cell_of_heap kBD 6, Lib.cell_of_heap kBD 7, Lib.cell_of_heap kBD 8, hor, RingIs.fresh q⟩ (by omega))
  have HBD := hide kBD
  have HSD := hide hsD
  have HKD := hide kD
  have HWD := hide hWD
  have hwr : IntKind.i64.wrap ((q.length : Int) + 1) = (q.length : Int) + 1 := by rw [IntKind.wrap_i64]; omega
  clear hdb kBD hoD hor hsD kD hWD hdr KBA HOA HSA HKX HA HAS c0 c1 c2
  go_region_law (first
    | (refine step_append_zeros rfl (.tmp 16) (.tmp 21) 70 3 rfl wD.heap.size 115 (.agg #[.int .i64 0, .slice none 0 0, .bool false]) .i64 .i64 3 40 Tryd.underlying70 Tryd.underlying3 infoMsg rfl (by decide) (by exact zone) _ _ _ rfl (unhide HOWN) (q.length + 1) rfl (by omega) (by omega) (by omega) (by exact hsz2) ?_
       intro v' w3 o3 hg3
       have or3 := unhide HFIN v' w3 o3 hg3
       obtain ⟨va, vc, rfl, hv1, hv2⟩ := or3.form
       have ko3 := (hg3.block B (by omega) fun e => by have := unhide HGL B e.symm; omega).trans ko2
       have cO3 : w3.cell? ⟨B, 6, none⟩ = some (.slice xa q.length xc) := Lib.cell_of_heap ko3 6
       have fO3 := Lib.frozen_of_heap ko3)
    | (go_simp; refine (unhide HM).mono ?_
       rintro e w2 ⟨lv, cb', rfl, ol, gl, sl, bl2⟩
       obtain ⟨la, lc, rfl, hl1, hl2⟩ := ol.form
       have hsz2 : wD.heap.size ≤ w2.heap.size := bl2.size
       have hgl : ∀ g, (Value.slice la q.length lc).ownBlock = some g → wD.heap.size ≤ g := gl
       obtain ⟨cs, hown, hfin⟩ := ORow.zerosM (k := q.length + 1) ol hgl
       have HOWN := hide hown
       have HFIN := hide hfin
       have HGL := hide hgl
       have ko2 := (bl2.block B (by simp; omega)).trans (unhide HBD)
       have c2'' : w2.cell? ⟨B, 8, none⟩ = some (.int .i64 (q.length : Int)) := Lib.cell_of_heap ko2 8
       have HBL2 := hide bl2
       have zone : ∀ u ∈ (Value.agg #[.int .i64 0, .slice none 0 0, .bool false]).cells.toList, u.oneCell' = true := fun u hu => by simp [Value.cells] at hu; rcases hu with rfl | rfl | rfl <;> rfl))
  all_goals (
    have hvl : (q ++ List.replicate (q.length + 1) msg0).length = q.length + (q.length + 1) := by rw [List.length_append, List.length_replicate]
    rw [hvl] at or3
    have hgo3 : ∀ g, (Value.slice va (q.length + (q.length + 1)) vc).ownBlock = some g → wD.heap.size ≤ g := fun g hg => by
      rw [hvl] at o3
      exact (o3.lt g hg).1
    have hnl : ∀ (bl : List Nat) (ts : List TypeId), Tys ts w2 bl → 115 ∉ ts → (∀ b ∈ bl, b < w2.heap.size) → Kp bl w2 w3 := fun bl ts ht hn hlt b hb => hg3.block b (hlt b hb) fun e => by
      obtain ⟨csl, hcsl⟩ := ol.own
      exact ht.not hcsl hn e.symm hb
    have b2w := bl2
    have os2 := ((unhide HSD).below (w' := w2) ⟨bl2.os, bl2.tape, bl2.output, bl2.size, fun k hk => bl2.block k hk⟩)
    have os3 := os2.keep (hnl _ _ (ostr_ty os2) (by decide) os2.lt)
    have kp2 := (bl2.block w.heap.size (by simp; omega)).trans (unhide HKD)
    have kp3 := (hg3.block w.heap.size (by omega) fun e => by have := unhide HGL _ e.symm; omega).trans kp2
    have hBnot : ∀ (bl : List Nat) (ts : List TypeId), Tys ts w3 bl → 118 ∉ ts → B ∉ bl := fun bl ts ht hn hm => by
      obtain ⟨cur, t, e1, e2⟩ := ht B hm
      rw [ko3] at e1
      injection e1 with e1; injection e1 with _ e1
      exact hn (e1 ▸ e2)
    have ns := hBnot _ _ (ostr_ty os3) (by decide)
    have nr := hBnot _ _ (orow_ty (e := msgE) msg_ty or3) (by decide)
    have ko4 := heap_setCell_same _ _ 6 _ _ (.slice va (q.length + (q.length + 1)) vc) ko3
    have ko5 := heap_setCell_same _ _ 7 _ _ (.int .i64 0) ko4
    have os5 := (os3.other ns 6 (.slice va (q.length + (q.length + 1)) vc)).other ns 7 (.int .i64 0)
    have or5 := (or3.other nr 6 (.slice va (q.length + (q.length + 1)) vc)).other nr 7 (.int .i64 0)
    have kp5 := (Below.heap_setCell (w3.setCell ⟨B, 6, none⟩ (.slice va (q.length + (q.length + 1)) vc)) ⟨B, 7, none⟩ (.int .i64 0) w.heap.size (by simp; omega)).trans ((Below.heap_setCell w3 ⟨B, 6, none⟩ (.slice va (q.length + (q.length + 1)) vc) w.heap.size (by simp; omega)).trans kp3)
    have fw2 : Fr [B] w w2 := (Fr.of_below (unhide HWD)).trans' (bl' := [B]) (Fr.of_below (w := wD) (w' := w2) ⟨bl2.os, bl2.tape, bl2.output, bl2.size, fun k hk => bl2.block k hk⟩) (fun i hi => .inl hi)
    have fr5 := ((fw2.grown hg3 (fun j hj => by have := unhide HGL j hj; omega)).set (g := B) (by simp) 6 (.slice va (q.length + (q.length + 1)) vc)).set (g := B) (by simp) 7 (.int .i64 0)
    have SL := hide sl
    have KO5 := hide ko5
    have OS5 := hide os5
    have OR5 := hide or5
    have KP5 := hide kp5
    have FR5 := hide fr5
    have HG5 := hide hgo3
    have d2 : (w3.setCell ⟨B, 6, none⟩ (.slice va (q.length + (q.length + 1)) vc)).cell? ⟨B, 7, none⟩ = some (.int .i64 0) := Lib.cell_of_heap ko4 7
    have fd2 := Lib.frozen_of_heap ko4
    clear hv1 hv2 ko2 cO3 fO3 hvl hgo3 hnl b2w os2 os3 kp2 kp3 hBnot ns nr ko4 ko5 os5 or5 kp5 fw2 fr5 or3 o3 hg3 ko3 HOWN HFIN HGL ol hl1 hl2 bl2 HBL2 hown hfin hgl gl HM HBD HSD HKD HWD c2' c2'' zone
    go_wp2
    clear d2 fd2
    generalize ((w3.setCell ⟨B, 6, none⟩ (.slice va (q.length + (q.length + 1)) vc)).setCell ⟨B, 7, none⟩ (.int .i64 0)) = w5 at *
    have or5 := unhide OR5
    have ko5 : w5.heap[B]? = some (.cells #[.int .i64 cl, .string pt, .int .i64 cp, .int .i64 si, .bool cd, .slice none 0 0, .slice va (q.length + (q.length + 1)) vc, .int .i64 0, .int .i64 (q.length : Int)] 118 (0, 0)) := unhide KO5
    have hLl : (q ++ List.replicate (q.length + 1) msg0).length = q.length + (q.length + 1) := by rw [List.length_append, List.length_replicate]
    obtain ⟨gc, rfl⟩ : ∃ gc, va = some ⟨gc, 0, none⟩ := by
      obtain ⟨a', c', he, _, hp⟩ := or5.form
      injection he with he1 _ _
      obtain ⟨g, hg⟩ := hp (by rw [hLl]; omega)
      exact ⟨g, he1.trans hg⟩
    have hring : RingIs (q ++ List.replicate (q.length + 1) msg0) 0 q.length q := by
      refine ⟨rfl, by rw [hLl]; omega, .inl (by rw [hLl]; omega), fun i x hx => ?_⟩
      have hi := (List.getElem?_eq_some_iff.1 hx).1
      rw [hLl, Nat.zero_add, Nat.mod_eq_of_lt (by omega), List.getElem?_append_left (by omega)]
      exact hx
    have hdr5 : Below w5.heap.size w5 w5.drew := (Below.refl _ _).drew
    have hR5 : RingAt msgE w5.drew B 6 (.slice (some ⟨gc, 0, none⟩) (q.length + (q.length + 1)) vc) 0 q.length (q ++ List.replicate (q.length + 1) msg0) q cb' := ⟨Lib.cell_of_heap ko5 6, Lib.cell_of_heap ko5 7, Lib.cell_of_heap ko5 8, or5.below hdr5, hring⟩
    have HM := hide (cellMsg_walk B 6 _ 0 q.length _ q cb' q.length w5.drew hR5 (by rw [hLl]; omega) (by rw [hLl]; omega))
    rw [hLl, Nat.zero_add, Nat.mod_eq_of_lt (by omega)] at HM
    have e3 : w5.cell? ⟨B, 8, none⟩ = some (.int .i64 (q.length : Int)) := Lib.cell_of_heap ko5 8
    have x0 : w5.cell? ⟨w.heap.size, 0, none⟩ = some (.int .i64 ver) := Lib.cell_of_heap (unhide KP5) 0
    have x1 : w5.cell? ⟨w.heap.size, 1, none⟩ = some (.slice sa ss.length sc) := Lib.cell_of_heap (unhide KP5) 1
    have x2 : w5.cell? ⟨w.heap.size, 2, none⟩ = some (.bool over) := Lib.cell_of_heap (unhide KP5) 2
    obtain ⟨vs0, ib0, hE0, hc0, _, _, _⟩ := or5.at (j := q.length) (x := msg0) (by rw [List.getElem?_append_right (Nat.le_refl _), Nat.sub_self]; rfl)
    obtain ⟨qz, rfl, _⟩ := hE0
    have y0 : w5.cell? ⟨gc, q.length * 3, none⟩ = _ := (hc0 0 _ rfl).1
    have y1 : w5.cell? ⟨gc, q.length * 3 + 1, none⟩ = _ := (hc0 1 _ rfl).1
    have y2 : w5.cell? ⟨gc, q.length * 3 + 2, none⟩ = _ := (hc0 2 _ rfl).1
    have z2 : w5.frozen? ⟨gc, q.length * 3 + 2, none⟩ = _ := (hc0 2 _ rfl).2
    have z0 : w5.frozen? ⟨gc, q.length * 3, none⟩ = _ := (hc0 0 _ rfl).2
    have z1 : w5.frozen? ⟨gc, q.length * 3 + 1, none⟩ = _ := (hc0 1 _ rfl).2
    have hgB : gc ≠ B := fun e => by have := unhide HG5 gc rfl; omega
    have KO := hide ko5
    clear or5 ko5 KO5 hring hdr5 hR5 hc0
    go_region_law (go_simp; refine (unhide HM).mono ?_; rintro e w6 ⟨gd, rfl, hgd, n6, rfl⟩; obtain rfl : gd = gc := (Option.some.inj hgd).symm; have b6 : Below w5.heap.size w5 (w5.drew.drewN n6) := ⟨rfl, rfl, rfl, Nat.le_refl _, fun _ _ => rfl⟩; have f3 := (b6.cell (World.block_lt_of_cell? _ _ e3)).trans e3; have x0' := (b6.cell (World.block_lt_of_cell? _ _ x0)).trans x0; have x1' := (b6.cell (World.block_lt_of_cell? _ _ x1)).trans x1; have x2' := (b6.cell (World.block_lt_of_cell? _ _ x2)).trans x2; have y2' := (b6.cell (World.block_lt_of_cell? _ _ y2)).trans y2; have z2' := (b6.frozen (World.block_lt_of_cell? _ _ y2)).trans z2; have y0' := (b6.cell (World.block_lt_of_cell? _ _ y0)).trans y0; have y1' := (b6.cell (World.block_lt_of_cell? _ _ y1)).trans y1; have z0' := (b6.frozen (World.block_lt_of_cell? _ _ y0)).trans z0; have z1' := (b6.frozen (World.block_lt_of_cell? _ _ y1)).trans z1; have k6 := (b6.block B (Array.getElem?_eq_some_iff.1 (unhide KO)).1).trans (unhide KO); have fB := Lib.frozen_of_heap k6))
  all_goals (
    have OS6 := (unhide OS5).below b6
    have or6 : ORow msgE (w5.drew.drewN n6) (.slice (some ⟨gd, 0, none⟩) (q.length + (q.length + 1)) vc) (q ++ List.replicate (q.length + 1) msg0) (gd :: cb') := (unhide OR5).below b6
    obtain ⟨cb2, oe, osub, oonce⟩ := orow_putAll3 msg_ty (by decide) or6 (j := q.length) (by rw [hLl]; omega) (vs := [.int .i64 ver, .slice sa ss.length sc, .bool over]) (x := ⟨ver, ss, over⟩) (ib := sb) ⟨_, rfl, OS6⟩
    have hge := unhide HG5 gd rfl
    have k7 : (putN (w5.drew.drewN n6) gd (q.length * 3) [.int .i64 ver, .slice sa ss.length sc, .bool over]).heap[B]? = some (.cells #[.int .i64 cl, .string pt, .int .i64 cp, .int .i64 si, .bool cd, .slice none 0 0, .slice (some ⟨gd, 0, none⟩) (q.length + (q.length + 1)) vc, .int .i64 0, .int .i64 (q.length : Int)] 118 (0, 0)) := (putN_other (fun e => hgB e.symm) _ _).trans k6
    have fB7 : ((((w5.drew.drewN n6).setCell ⟨gd, q.length * 3, none⟩ (.int .i64 ver)).setCell ⟨gd, q.length * 3 + 1, none⟩ (.slice sa ss.length sc)).setCell ⟨gd, q.length * 3 + 2, none⟩ (.bool over)).frozen? ⟨B, 8, none⟩ = false := Lib.frozen_of_heap k7 8
    have k8 := heap_setCell_same _ _ 8 _ _ (.int .i64 ((q.length : Int) + 1)) k7
    have hBn : ∀ (bl : List Nat) (ts : List TypeId), Tys ts (putN (w5.drew.drewN n6) gd (q.length * 3) [.int .i64 ver, .slice sa ss.length sc, .bool over]) bl → 118 ∉ ts → B ∉ bl := fun bl ts ht hn hm => by
      obtain ⟨cur, t, e1, e2⟩ := ht B hm
      rw [k7] at e1
      injection e1 with e1; injection e1 with _ e1
      exact hn (e1 ▸ e2)
    have oe8 := ORow.other oe (hBn _ _ (orow_ty (e := msgE) msg_ty oe) (by decide)) 8 (.int .i64 ((q.length : Int) + 1))
    have hP : _ ∧ ORow msgE _ _ _ _ ∧ RingIs _ 0 (q.length + 1) _ ∧ _ ∧ _ ∧ _ ∧ _ := ⟨k8, oe8, RingIs.pushedM q ⟨ver, ss, over⟩, (show ((q ++ List.replicate (q.length + 1) msg0).set q.length ⟨ver, ss, over⟩).length ≤ 4000000 by rw [List.length_set, hLl]; omega), (show ∀ x, (Value.slice (some ⟨gd, 0, none⟩) (q.length + (q.length + 1)) vc).ownBlock = some x → w.heap.size ≤ x from fun x hx => by simp [Value.ownBlock] at hx; omega), (show ∀ x ∈ cb2, x ∈ cb ∨ x ∈ sb from fun x hx => by rcases osub x hx with h1 | h1; exact .inl (unhide SL x h1); exact .inr h1), (show ∀ D, (∀ x ∈ cb, x < D) → Once D sb → Once D cb2 from fun D h1 h2 => oonce D (fun x hx => h1 x (unhide SL x hx)) h2)⟩
    have f6 : Fr [B] w (w5.drew.drewN n6) := (unhide FR5).next b6
    have f7 : Fr [B] w (putN (w5.drew.drewN n6) gd (q.length * 3) [.int .i64 ver, .slice sa ss.length sc, .bool over]) := f6.trans' (bl' := [gd]) ⟨rfl, rfl, rfl, by simp [putN, World.setCell], fun k _ hn => putN_other (fun e => hn (by simp [e])) _ _⟩ (fun i hi => .inr (by simp at hi; omega))
    have f8 := f7.set (g := B) (by simp) 8 (.int .i64 ((q.length : Int) + 1))
    have HR := hide hP
    have HF8 := hide f8
    have e6 : w5.drew.drewN n6 = w5.drewN (1 + n6) := by simp
    rw [e6] at HR HF8
    have fB5 : w5.frozen? ⟨B, 8, none⟩ = false := Lib.frozen_of_heap (unhide KO) 8
    clear e6
    clear OS6 or6 oe osub oonce SL k7 k8 hBn oe8 hP f6 f7 f8 OR5 OS5 FR5 KP5 HG5 KO HM k6 b6
    go_wp2
    go_returns
    obtain ⟨g1, g2, g3, g4, g5, g6, g7⟩ := unhide HR
    exact ⟨rfl, _, _, _, g1, g2, g3, g4, g5, g6, g7, unhide HF8⟩)
end Go.Proofs.YtbcfkkicmmhhcaaDoor
