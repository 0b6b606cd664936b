import Derived.Test.YtlfonikfjibloaaGreatDoorBt38
import Derived.Test.YtlfonikfjibloaaGreatDoorBt25
namespace Go.Proofs.YtlfonikfjibloaaGreatDoor
open Go.RowKit

theorem once_setD {D : Nat} {ps : List (List Value × List Nat)} (h : ∀ b ∈ ps.flatMap (·.2), b < D) {j : Nat} {q : List Value × List Nat} (hq : Once D q.2) : Once D ((ps.set j q).flatMap (·.2)) := by
  have hold : ∀ p ∈ ps, ∀ b ∈ p.2, b < D := fun p hp b hb => h b (List.mem_flatMap.2 ⟨p, hp, hb⟩)
  refine once_flat.2 ⟨fun p hp => ?_, ?_⟩
  · rcases List.mem_or_eq_of_mem_set hp with hp | rfl
    · exact Once.old (hold p hp)
    · exact hq
  · rw [List.pairwise_iff_getElem]
    intro i k hi hk hik a ha b hb hDa hab
    have hi' : i < ps.length := by simpa using hi
    have hk' : k < ps.length := by simpa using hk
    by_cases h1 : i = j
    · rw [List.getElem_set_ne (by omega)] at hb
      have := hold _ (List.getElem_mem hk') b hb
      omega
    · rw [List.getElem_set_ne (by omega)] at ha
      have := hold _ (List.getElem_mem hi') a ha
      omega
theorem orow_putAll3 {α : Type} {e : Elem α} {ts : List TypeId} (he : ∀ {w vs x bl}, e.E w vs x bl → Tys ts w bl) (hts : e.T ∉ ts) {w : World} {g n cap : Nat} {xs : List α} {cb : List Nat} (h : ORow e w (.slice (some ⟨g, 0, none⟩) n cap) xs (g :: cb)) {j : Nat} (hj : j < xs.length)
    {vs : List Value} {x : α} {ib : List Nat} (hE : e.E w vs x ib) : ∃ cb', ORow e (putN w g (j * e.wd) vs) (.slice (some ⟨g, 0, none⟩) n cap) (xs.set j x) (g :: cb') ∧ (∀ b ∈ cb', b ∈ cb ∨ b ∈ ib) ∧ (∀ D, (∀ b ∈ cb, b < D) → Once D ib → Once D cb') := by
  have hty := orow_inner_ty he (cb := cb) h rfl
  have htyi := he hE
  obtain ⟨ps, hl, hE0, ho, hb⟩ := h
  have hn : n = xs.length := by
    rcases ho.2 with ⟨hv, h0⟩ | ⟨g', cap', cur, hv, _⟩
    · cases hv
    · injection hv
  subst hn
  have hcb : cb = ps.flatMap (·.2) := by
    simp [Value.ownBlock] at hb; exact hb
  have hwd := orow_wd hl hE0
  have hnot : ∀ p ∈ ps, g ∉ p.2 := fun p hp hg => hty.not ho hts (g := g) rfl (by rw [hcb]; exact List.mem_flatMap.2 ⟨p, hp, hg⟩)
  have hnoti : g ∉ ib := fun hg => htyi.not ho hts (g := g) rfl hg
  have hk : ∀ bl : List Nat, g ∉ bl → Kp bl w (putN w g (j * e.wd) vs) := fun bl hg b hb => putN_other (k := b) (g := g) (fun e => hg (by rw [← e]; exact hb)) _ _
  refine ⟨(ps.set j (vs, ib)).flatMap (·.2), ⟨ps.set j (vs, ib), by simp [hl], ?_, ?_, by simp [Value.ownBlock]⟩, fun b hb => ?_, fun D h1 h2 => ?_⟩
  · intro i p y hp hy
    by_cases hij : i = j
    · subst hij
      rw [List.getElem?_set_self (by omega)] at hp hy
      cases hp; cases hy
      exact e.keep hE (hk _ hnoti)
    · rw [List.getElem?_set_ne (by omega)] at hp hy
      exact e.keep (hE0 i p y hp hy) (hk _ (hnot p (List.mem_of_getElem? hp)))
  · rw [List.length_set, flat_setN hwd (by omega) vs (e.len hE) ib]
    exact putN_own ho vs (j * e.wd)
  · obtain ⟨p, hp, hb⟩ := List.mem_flatMap.1 hb
    rcases List.mem_or_eq_of_mem_set hp with hp | rfl
    · left; rw [hcb]; exact List.mem_flatMap.2 ⟨p, hp, hb⟩
    · exact .inr hb
  · rw [hcb] at h1
    exact once_setD h1 (q := (vs, ib)) h2
theorem zeros3 (a b c : Value) : ∀ k, (Builtin.zeroCells #[a, b, c] k).toList = (List.replicate k ([a, b, c], ([] : List Nat))).flatMap (·.1)
  | 0 => by simp [Builtin.zeroCells]
  | k + 1 => by
    have ih := zeros3 a b c k
    unfold Builtin.zeroCells at *
    rw [Array.toList_map, Array.toList_range] at *
    rw [List.replicate_succ', List.flatMap_append, ← ih]
    have e2 : (#[a, b, c] : Array Value).size = 3 := rfl
    rw [e2, Nat.add_mul, Nat.one_mul, List.range_succ, List.range_succ, List.range_succ, List.map_append, List.map_append, List.map_append, List.append_assoc, List.append_assoc]
    congr 1
    have m0 : k * 3 % 3 = 0 := by omega
    have m1 : (k * 3 + 1) % 3 = 1 := by omega
    have m2 : (k * 3 + 2) % 3 = 2 := by omega
    simp [m0, m1, m2]
theorem ORow.zerosM {B k : Nat} {w : World} {v : Value} {xs : List Msg} {cb : List Nat} (h : ORow msgE w v xs (v.ownBlock.toList ++ cb)) (hB : ∀ g, v.ownBlock = some g → B ≤ g) :
    ∃ cs, w.ownsRow B msgE.T msgE.wd v xs.length cs ∧ ∀ v' w', w'.ownsRow B msgE.T msgE.wd v' (xs.length + k) (cs ++ (Builtin.zeroCells #[.int .i64 0, .slice none 0 0, .bool false] k).toList) → w.grownBy w' v.ownBlock → ORow msgE w' v' (xs ++ List.replicate k msg0) (v'.ownBlock.toList ++ cb) := by
  have hlt := h.lt
  have hty := orow_inner_ty msg_ty h rfl
  obtain ⟨ps, hl, hE0, ho, hb⟩ := h
  have hcb := List.append_cancel_left hb
  subst hcb
  refine ⟨ps.flatMap (·.1), own_base ho hB, fun v' w' ho' hg => ?_⟩
  have hk : Kp (ps.flatMap (·.2)) w w' := fun b hb => hg.block b (hlt b (List.mem_append.2 (.inr hb))) fun e1 => hty.not ho (by decide) e1.symm hb
  have hz : ∀ k, (List.replicate k (([.int .i64 0, .slice none 0 0, .bool false], []) : List Value × List Nat)).flatMap (·.2) = [] := fun k => by
    induction k with
    | zero => rfl
    | succ k ih => rw [List.replicate_succ, List.flatMap_cons, ih]; rfl
  refine ⟨ps ++ List.replicate k ([.int .i64 0, .slice none 0 0, .bool false], []), by simp [hl], ?_, ?_, by rw [List.flatMap_append, hz, List.append_nil]⟩
  · intro j p y hp hy
    by_cases hj : j < xs.length
    · rw [List.getElem?_append_left (by omega)] at hp hy
      exact msgE.keep (hE0 j p y hp hy) fun b hb => hk b (List.mem_flatMap.2 ⟨p, List.mem_of_getElem? hp, hb⟩)
    · rw [List.getElem?_append_right (by omega)] at hp hy
      have hp' := List.mem_replicate.1 (List.mem_of_getElem? hp)
      have hy' := List.mem_replicate.1 (List.mem_of_getElem? hy)
      rw [hp'.2, hy'.2]
      exact ⟨_, rfl, ORow.nil _ _⟩
  · rw [List.flatMap_append, List.length_append, List.length_replicate, ← zeros3]
    exact own_mono ho' (Nat.zero_le B)
/-- A ring of messages that was full, one more behind the others. -/
theorem RingIs.pushedM (q : List Msg) (x : Msg) : RingIs ((q ++ List.replicate (q.length + 1) msg0).set q.length x) 0 (q.length + 1) (q ++ [x]) := by
  have hL : ((q ++ List.replicate (q.length + 1) msg0).set q.length x).length = q.length + (q.length + 1) := by simp
  refine ⟨by simp, by rw [hL]; omega, .inl (by rw [hL]; omega), fun i y hy => ?_⟩
  have hi := (List.getElem?_eq_some_iff.1 hy).1
  rw [List.length_append, List.length_singleton] at hi
  rw [hL, Nat.zero_add, Nat.mod_eq_of_lt (by omega)]
  by_cases h : i = q.length
  · subst h
    rw [List.getElem?_set_self (by simp)]
    simpa using hy
  · rw [List.getElem?_set_ne (by omega), List.getElem?_append_left (by omega)]
    rw [List.getElem?_append_left (by omega)] at hy
    exact hy

set_option maxHeartbeats 1600000 in
set_option maxRecDepth 100000 in
theorem pushMsg_walk (B : Nat) (cl : Int) (pt : ByteArray) (cp si : Int) (cd : Bool) (cv : Value) (q : List Msg) (cb : List Nat) (ver : Int) (over : Bool) (sv : Value) (ss : List ByteArray) (sb : List Nat) (w : World) (hk : w.heap[B]? = some (.cells #[.int .i64 cl, .string pt, .int .i64 cp, .int .i64 si, .bool cd, .slice none 0 0, cv, .int .i64 0, .int .i64 (q.length : Int)] 225 (0, 0))) (ho : ORow msgE w cv q (cv.ownBlock.toList ++ cb)) (hs : OStr w sv ss sb) (hl : q.length ≤ 1048577) :
    Calls Tryz.prog 173 #[.pointer (some ⟨B, 6, none⟩), .agg #[.int .i64 ver, sv, .bool over]] w fun e w' => e = .returned (.tuple #[]) ∧ ∃ cv' ms' cb', w'.heap[B]? = some (.cells #[.int .i64 cl, .string pt, .int .i64 cp, .int .i64 si, .bool cd, .slice none 0 0, cv', .int .i64 0, .int .i64 ((q.length : Int) + 1)] 225 (0, 0)) ∧ ORow msgE w' cv' ms' (cv'.ownBlock.toList ++ cb') ∧ RingIs ms' 0 (q.length + 1) (q ++ [⟨ver, ss, over⟩]) ∧ ms'.length ≤ 4000000 ∧ (∀ b, cv'.ownBlock = some b → w.heap.size ≤ b) ∧ (∀ b ∈ cb', b ∈ cb ∨ b ∈ sb) ∧ (∀ D, (∀ b ∈ cb, b < D) → Once D sb → Once D cb') ∧ Fr [B] w w' := by
  obtain ⟨xa, xc, rfl, hx1, hx2⟩ := ho.form
  obtain ⟨sa, sc, rfl, hs1, hs2⟩ := hs.form
  have hBl : B < w.heap.size := (Array.getElem?_eq_some_iff.1 hk).1
  have hA := alloc_b w (.cells #[.int .i64 ver, .slice sa ss.length sc, .bool over] 58)
  have kBA := (hA.block B hBl).trans hk
  have hoA := ho.below hA
  have hsA := hs.below hA
  have hasz : (w.alloc (.cells #[.int .i64 ver, .slice sa ss.length sc, .bool over] 58)).heap.size = w.heap.size + 1 := by simp
  have kX := heap_alloc_new w (.cells #[.int .i64 ver, .slice sa ss.length sc, .bool over] 58)
  have KBA := hide kBA
  have HOA := hide hoA
  have HSA := hide hsA
  have HKX := hide kX
  have HA := hide hA
  have HAS := hide hasz
  have hnn : (q.length : Int) + 1 = ((q.length + 1 : Nat) : Int) := by omega
  clear hk ho hs hx1 hx2 hs1 hs2 hA kBA hoA hsA kX hasz
  go_enter Tryz.func173, Tryz.ntmps173
  go_wp2
  generalize (w.alloc (.cells #[.int .i64 ver, .slice sa ss.length sc, .bool over] 58)) = wA at *
  have c0 : wA.cell? ⟨B, 6, none⟩ = some (.slice xa q.length xc) := Lib.cell_of_heap (unhide KBA) 6
  have c1 : wA.cell? ⟨B, 7, none⟩ = some (.int .i64 0) := Lib.cell_of_heap (unhide KBA) 7
  have c2 : wA.cell? ⟨B, 8, none⟩ = some (.int .i64 (q.length : Int)) := Lib.cell_of_heap (unhide KBA) 8
  clear hnn
  go_quiet (fail)
  go_wp2
  have hdb := draws_b wA nq
  have kBD := (hdb.block B (by have := unhide HAS; omega)).trans (unhide KBA)
  have hoD := (unhide HOA).below hdb
  have hsD := (unhide HSA).below hdb
  have kD := (hdb.block w.heap.size (by have := unhide HAS; omega)).trans (unhide HKX)
  have hWD := below_next (unhide HA) hdb
  have hsz : (wA.drewN nq).heap.size = w.heap.size + 1 := unhide HAS
  generalize wA.drewN nq = wD at *
  have hdr : Below wD.heap.size wD wD.drew := (Below.refl _ _).drew
  have hor := hoD.below hdr
  have c2' : wD.cell? ⟨B, 8, none⟩ = some (.int .i64 (q.length : Int)) := Lib.cell_of_heap kBD 8
  have HM := hide (listMsg_walk B 6 _ 0 q.length q q cb wD.drew ⟨Lib.cell_of_heap kBD 6, Lib.cell_of_heap kBD 7, Lib.cell_of_heap kBD 8, hor, RingIs.fresh q⟩ (by omega))
  have HBD := hide kBD
  have HSD := hide hsD
  have HKD := hide kD
  have HWD := hide hWD
  have hwr : IntKind.i64.wrap ((q.length : Int) + 1) = (q.length : Int) + 1 := by rw [IntKind.wrap_i64]; omega
  clear hdb kBD hoD hor hsD kD hWD hdr KBA HOA HSA HKX HA HAS c0 c1 c2
  go_region_law (first
    | (refine step_append_zeros rfl (.tmp 16) (.tmp 21) 217 3 rfl wD.heap.size 58 (.agg #[.int .i64 0, .slice none 0 0, .bool false]) .i64 .i64 3 40 Tryz.underlying217 Tryz.underlying3 infoMsg rfl (by decide) (by exact zone) _ _ _ rfl (unhide HOWN) (q.length + 1) rfl (by omega) (by omega) (by omega) (by exact hsz2) ?_
       intro v' w3 o3 hg3
       have or3 := unhide HFIN v' w3 o3 hg3
       obtain ⟨va, vc, rfl, hv1, hv2⟩ := or3.form
       have ko3 := (hg3.block B (by omega) fun e => by have := unhide HGL B e.symm; omega).trans ko2
       have cO3 : w3.cell? ⟨B, 6, none⟩ = some (.slice xa q.length xc) := Lib.cell_of_heap ko3 6
       have fO3 := Lib.frozen_of_heap ko3)
    | (go_simp; refine (unhide HM).mono ?_
       rintro e w2 ⟨lv, cb', rfl, ol, gl, sl, bl2⟩
       obtain ⟨la, lc, rfl, hl1, hl2⟩ := ol.form
       have hsz2 : wD.heap.size ≤ w2.heap.size := bl2.size
       have hgl : ∀ g, (Value.slice la q.length lc).ownBlock = some g → wD.heap.size ≤ g := gl
       obtain ⟨cs, hown, hfin⟩ := ORow.zerosM (k := q.length + 1) ol hgl
       have HOWN := hide hown
       have HFIN := hide hfin
       have HGL := hide hgl
       have ko2 := (bl2.block B (by simp; omega)).trans (unhide HBD)
       have c2'' : w2.cell? ⟨B, 8, none⟩ = some (.int .i64 (q.length : Int)) := Lib.cell_of_heap ko2 8
       have HBL2 := hide bl2
       have zone : ∀ u ∈ (Value.agg #[.int .i64 0, .slice none 0 0, .bool false]).cells.toList, u.oneCell' = true := fun u hu => by simp [Value.cells] at hu; rcases hu with rfl | rfl | rfl <;> rfl))
  all_goals (
    have hvl : (q ++ List.replicate (q.length + 1) msg0).length = q.length + (q.length + 1) := by rw [List.length_append, List.length_replicate]
    rw [hvl] at or3
    have hgo3 : ∀ g, (Value.slice va (q.length + (q.length + 1)) vc).ownBlock = some g → wD.heap.size ≤ g := fun g hg => by
      rw [hvl] at o3
      exact (o3.lt g hg).1
    have hnl : ∀ (bl : List Nat) (ts : List TypeId), Tys ts w2 bl → 58 ∉ ts → (∀ b ∈ bl, b < w2.heap.size) → Kp bl w2 w3 := fun bl ts ht hn hlt b hb => hg3.block b (hlt b hb) fun e => by
      obtain ⟨csl, hcsl⟩ := ol.own
      exact ht.not hcsl hn e.symm hb
    have b2w := bl2
    have os2 := ((unhide HSD).below (w' := w2) ⟨bl2.os, bl2.tape, bl2.output, bl2.size, fun k hk => bl2.block k hk⟩)
    have os3 := os2.keep (hnl _ _ (ostr_ty os2) (by decide) os2.lt)
    have kp2 := (bl2.block w.heap.size (by simp; omega)).trans (unhide HKD)
    have kp3 := (hg3.block w.heap.size (by omega) fun e => by have := unhide HGL _ e.symm; omega).trans kp2
    have hBnot : ∀ (bl : List Nat) (ts : List TypeId), Tys ts w3 bl → 225 ∉ ts → B ∉ bl := fun bl ts ht hn hm => by
      obtain ⟨cur, t, e1, e2⟩ := ht B hm
      rw [ko3] at e1
      injection e1 with e1; injection e1 with _ e1
      exact hn (e1 ▸ e2)
    have ns := hBnot _ _ (ostr_ty os3) (by decide)
    have nr := hBnot _ _ (orow_ty (e := msgE) msg_ty or3) (by decide)
    have ko4 := heap_setCell_same _ _ 6 _ _ (.slice va (q.length + (q.length + 1)) vc) ko3
    have ko5 := heap_setCell_same _ _ 7 _ _ (.int .i64 0) ko4
    have os5 := (os3.other ns 6 (.slice va (q.length + (q.length + 1)) vc)).other ns 7 (.int .i64 0)
    have or5 := (or3.other nr 6 (.slice va (q.length + (q.length + 1)) vc)).other nr 7 (.int .i64 0)
    have kp5 := (Below.heap_setCell (w3.setCell ⟨B, 6, none⟩ (.slice va (q.length + (q.length + 1)) vc)) ⟨B, 7, none⟩ (.int .i64 0) w.heap.size (by simp; omega)).trans ((Below.heap_setCell w3 ⟨B, 6, none⟩ (.slice va (q.length + (q.length + 1)) vc) w.heap.size (by simp; omega)).trans kp3)
    have fw2 : Fr [B] w w2 := (Fr.of_below (unhide HWD)).trans' (bl' := [B]) (Fr.of_below (w := wD) (w' := w2) ⟨bl2.os, bl2.tape, bl2.output, bl2.size, fun k hk => bl2.block k hk⟩) (fun i hi => .inl hi)
    have fr5 := ((fw2.grown hg3 (fun j hj => by have := unhide HGL j hj; omega)).set (g := B) (by simp) 6 (.slice va (q.length + (q.length + 1)) vc)).set (g := B) (by simp) 7 (.int .i64 0)
    have SL := hide sl
    have KO5 := hide ko5
    have OS5 := hide os5
    have OR5 := hide or5
    have KP5 := hide kp5
    have FR5 := hide fr5
    have HG5 := hide hgo3
    have d2 : (w3.setCell ⟨B, 6, none⟩ (.slice va (q.length + (q.length + 1)) vc)).cell? ⟨B, 7, none⟩ = some (.int .i64 0) := Lib.cell_of_heap ko4 7
    have fd2 := Lib.frozen_of_heap ko4
    clear hv1 hv2 ko2 cO3 fO3 hvl hgo3 hnl b2w os2 os3 kp2 kp3 hBnot ns nr ko4 ko5 os5 or5 kp5 fw2 fr5 or3 o3 hg3 ko3 HOWN HFIN HGL ol hl1 hl2 bl2 HBL2 hown hfin hgl gl HM HBD HSD HKD HWD c2' c2'' zone
    go_wp2
    clear d2 fd2
    generalize ((w3.setCell ⟨B, 6, none⟩ (.slice va (q.length + (q.length + 1)) vc)).setCell ⟨B, 7, none⟩ (.int .i64 0)) = w5 at *
    have or5 := unhide OR5
    have ko5 : w5.heap[B]? = some (.cells #[.int .i64 cl, .string pt, .int .i64 cp, .int .i64 si, .bool cd, .slice none 0 0, .slice va (q.length + (q.length + 1)) vc, .int .i64 0, .int .i64 (q.length : Int)] 225 (0, 0)) := unhide KO5
    have hLl : (q ++ List.replicate (q.length + 1) msg0).length = q.length + (q.length + 1) := by rw [List.length_append, List.length_replicate]
    obtain ⟨gc, rfl⟩ : ∃ gc, va = some ⟨gc, 0, none⟩ := by
      obtain ⟨a', c', he, _, hp⟩ := or5.form
      injection he with he1 _ _
      obtain ⟨g, hg⟩ := hp (by rw [hLl]; omega)
      exact ⟨g, he1.trans hg⟩
    have hring : RingIs (q ++ List.replicate (q.length + 1) msg0) 0 q.length q := by
      refine ⟨rfl, by rw [hLl]; omega, .inl (by rw [hLl]; omega), fun i x hx => ?_⟩
      have hi := (List.getElem?_eq_some_iff.1 hx).1
      rw [hLl, Nat.zero_add, Nat.mod_eq_of_lt (by omega), List.getElem?_append_left (by omega)]
      exact hx
    have hdr5 : Below w5.heap.size w5 w5.drew := (Below.refl _ _).drew
    have hR5 : RingAt msgE w5.drew B 6 (.slice (some ⟨gc, 0, none⟩) (q.length + (q.length + 1)) vc) 0 q.length (q ++ List.replicate (q.length + 1) msg0) q cb' := ⟨Lib.cell_of_heap ko5 6, Lib.cell_of_heap ko5 7, Lib.cell_of_heap ko5 8, or5.below hdr5, hring⟩
    have HM := hide (cellMsg_walk B 6 _ 0 q.length _ q cb' q.length w5.drew hR5 (by rw [hLl]; omega) (by rw [hLl]; omega))
    rw [hLl, Nat.zero_add, Nat.mod_eq_of_lt (by omega)] at HM
    have e3 : w5.cell? ⟨B, 8, none⟩ = some (.int .i64 (q.length : Int)) := Lib.cell_of_heap ko5 8
    have x0 : w5.cell? ⟨w.heap.size, 0, none⟩ = some (.int .i64 ver) := Lib.cell_of_heap (unhide KP5) 0
    have x1 : w5.cell? ⟨w.heap.size, 1, none⟩ = some (.slice sa ss.length sc) := Lib.cell_of_heap (unhide KP5) 1
    have x2 : w5.cell? ⟨w.heap.size, 2, none⟩ = some (.bool over) := Lib.cell_of_heap (unhide KP5) 2
    obtain ⟨vs0, ib0, hE0, hc0, _, _, _⟩ := or5.at (j := q.length) (x := msg0) (by rw [List.getElem?_append_right (Nat.le_refl _), Nat.sub_self]; rfl)
    obtain ⟨qz, rfl, _⟩ := hE0
    have y0 : w5.cell? ⟨gc, q.length * 3, none⟩ = _ := (hc0 0 _ rfl).1
    have y1 : w5.cell? ⟨gc, q.length * 3 + 1, none⟩ = _ := (hc0 1 _ rfl).1
    have y2 : w5.cell? ⟨gc, q.length * 3 + 2, none⟩ = _ := (hc0 2 _ rfl).1
    have z2 : w5.frozen? ⟨gc, q.length * 3 + 2, none⟩ = _ := (hc0 2 _ rfl).2
    have z0 : w5.frozen? ⟨gc, q.length * 3, none⟩ = _ := (hc0 0 _ rfl).2
    have z1 : w5.frozen? ⟨gc, q.length * 3 + 1, none⟩ = _ := (hc0 1 _ rfl).2
    have hgB : gc ≠ B := fun e => by have := unhide HG5 gc rfl; omega
    have KO := hide ko5
    clear or5 ko5 KO5 hring hdr5 hR5 hc0
    go_region_law (go_simp; refine (unhide HM).mono ?_; rintro e w6 ⟨gd, rfl, hgd, n6, rfl⟩; obtain rfl : gd = gc := (Option.some.inj hgd).symm; have b6 : Below w5.heap.size w5 (w5.drew.drewN n6) := ⟨rfl, rfl, rfl, Nat.le_refl _, fun _ _ => rfl⟩; have f3 := (b6.cell (World.block_lt_of_cell? _ _ e3)).trans e3; have x0' := (b6.cell (World.block_lt_of_cell? _ _ x0)).trans x0; have x1' := (b6.cell (World.block_lt_of_cell? _ _ x1)).trans x1; have x2' := (b6.cell (World.block_lt_of_cell? _ _ x2)).trans x2; have y2' := (b6.cell (World.block_lt_of_cell? _ _ y2)).trans y2; have z2' := (b6.frozen (World.block_lt_of_cell? _ _ y2)).trans z2; have y0' := (b6.cell (World.block_lt_of_cell? _ _ y0)).trans y0; have y1' := (b6.cell (World.block_lt_of_cell? _ _ y1)).trans y1; have z0' := (b6.frozen (World.block_lt_of_cell? _ _ y0)).trans z0; have z1' := (b6.frozen (World.block_lt_of_cell? _ _ y1)).trans z1; have k6 := (b6.block B (Array.getElem?_eq_some_iff.1 (unhide KO)).1).trans (unhide KO); have fB := Lib.frozen_of_heap k6))
  all_goals (
    have OS6 := (unhide OS5).below b6
    have or6 : ORow msgE (w5.drew.drewN n6) (.slice (some ⟨gd, 0, none⟩) (q.length + (q.length + 1)) vc) (q ++ List.replicate (q.length + 1) msg0) (gd :: cb') := (unhide OR5).below b6
    obtain ⟨cb2, oe, osub, oonce⟩ := orow_putAll3 msg_ty (by decide) or6 (j := q.length) (by rw [hLl]; omega) (vs := [.int .i64 ver, .slice sa ss.length sc, .bool over]) (x := ⟨ver, ss, over⟩) (ib := sb) ⟨_, rfl, OS6⟩
    have hge := unhide HG5 gd rfl
    have k7 : (putN (w5.drew.drewN n6) gd (q.length * 3) [.int .i64 ver, .slice sa ss.length sc, .bool over]).heap[B]? = some (.cells #[.int .i64 cl, .string pt, .int .i64 cp, .int .i64 si, .bool cd, .slice none 0 0, .slice (some ⟨gd, 0, none⟩) (q.length + (q.length + 1)) vc, .int .i64 0, .int .i64 (q.length : Int)] 225 (0, 0)) := (putN_other (fun e => hgB e.symm) _ _).trans k6
    have fB7 : ((((w5.drew.drewN n6).setCell ⟨gd, q.length * 3, none⟩ (.int .i64 ver)).setCell ⟨gd, q.length * 3 + 1, none⟩ (.slice sa ss.length sc)).setCell ⟨gd, q.length * 3 + 2, none⟩ (.bool over)).frozen? ⟨B, 8, none⟩ = false := Lib.frozen_of_heap k7 8
    have k8 := heap_setCell_same _ _ 8 _ _ (.int .i64 ((q.length : Int) + 1)) k7
    have hBn : ∀ (bl : List Nat) (ts : List TypeId), Tys ts (putN (w5.drew.drewN n6) gd (q.length * 3) [.int .i64 ver, .slice sa ss.length sc, .bool over]) bl → 225 ∉ ts → B ∉ bl := fun bl ts ht hn hm => by
      obtain ⟨cur, t, e1, e2⟩ := ht B hm
      rw [k7] at e1
      injection e1 with e1; injection e1 with _ e1
      exact hn (e1 ▸ e2)
    have oe8 := ORow.other oe (hBn _ _ (orow_ty (e := msgE) msg_ty oe) (by decide)) 8 (.int .i64 ((q.length : Int) + 1))
    have hP : _ ∧ ORow msgE _ _ _ _ ∧ RingIs _ 0 (q.length + 1) _ ∧ _ ∧ _ ∧ _ ∧ _ := ⟨k8, oe8, RingIs.pushedM q ⟨ver, ss, over⟩, (show ((q ++ List.replicate (q.length + 1) msg0).set q.length ⟨ver, ss, over⟩).length ≤ 4000000 by rw [List.length_set, hLl]; omega), (show ∀ x, (Value.slice (some ⟨gd, 0, none⟩) (q.length + (q.length + 1)) vc).ownBlock = some x → w.heap.size ≤ x from fun x hx => by simp [Value.ownBlock] at hx; omega), (show ∀ x ∈ cb2, x ∈ cb ∨ x ∈ sb from fun x hx => by rcases osub x hx with h1 | h1; exact .inl (unhide SL x h1); exact .inr h1), (show ∀ D, (∀ x ∈ cb, x < D) → Once D sb → Once D cb2 from fun D h1 h2 => oonce D (fun x hx => h1 x (unhide SL x hx)) h2)⟩
    have f6 : Fr [B] w (w5.drew.drewN n6) := (unhide FR5).next b6
    have f7 : Fr [B] w (putN (w5.drew.drewN n6) gd (q.length * 3) [.int .i64 ver, .slice sa ss.length sc, .bool over]) := f6.trans' (bl' := [gd]) ⟨rfl, rfl, rfl, by simp [putN, World.setCell], fun k _ hn => putN_other (fun e => hn (by simp [e])) _ _⟩ (fun i hi => .inr (by simp at hi; omega))
    have f8 := f7.set (g := B) (by simp) 8 (.int .i64 ((q.length : Int) + 1))
    have HR := hide hP
    have HF8 := hide f8
    have e6 : w5.drew.drewN n6 = w5.drewN (1 + n6) := by simp
    rw [e6] at HR HF8
    have fB5 : w5.frozen? ⟨B, 8, none⟩ = false := Lib.frozen_of_heap (unhide KO) 8
    clear e6
    clear OS6 or6 oe osub oonce SL k7 k8 hBn oe8 hP f6 f7 f8 OR5 OS5 FR5 KP5 HG5 KO HM k6 b6
    go_wp2
    go_returns
    obtain ⟨g1, g2, g3, g4, g5, g6, g7⟩ := unhide HR
    exact ⟨rfl, _, _, _, g1, g2, g3, g4, g5, g6, g7, unhide HF8⟩)
end Go.Proofs.YtlfonikfjibloaaGreatDoor

namespace Go.Proofs.YtlfonikfjibloaaGreatDoor
open Go.RowKit

/-- What of a list of texts a watch is told, and the watch behind it. -/
def nearW (m : Wat) (ss : List ByteArray) : List ByteArray := if (ptoks m.ptr.data.toList).isSome then ss.filter (fun s => leads m.ptr.data.toList s.data.toList) else []
def tellW (m : Wat) (ver : Int) (ss : List ByteArray) : Wat :=
  if m.closed = true ∨ ver ≤ m.since ∨ (nearW m ss).length = 0 then m
  else if (m.queue.length : Int) < m.cap then ⟨m.client, m.ptr, m.cap, m.since, m.closed, m.queue ++ [⟨ver, nearW m ss, false⟩]⟩
  else ⟨m.client, m.ptr, m.cap, m.since, true, m.queue ++ [⟨ver, [], true⟩]⟩
theorem nearW_ot {w : World} {B : Nat} {v : Value} {m : Wat} {ss : List ByteArray} (h : OT w B v (if (ptoks m.ptr.data.toList).isSome then nearP m.ptr ss else [])) : OStr w v (nearW m ss) v.ownBlock.toList ∧ ∀ g, v.ownBlock = some g → B ≤ g := by
  have he : (if (ptoks m.ptr.data.toList).isSome then nearP m.ptr ss else []) = (nearW m ss).map (·.data.toList) := by
    unfold nearW nearP
    cases (ptoks m.ptr.data.toList).isSome <;> simp
  rw [he] at h
  refine ⟨ostr_iff.2 ⟨?_, rfl⟩, fun g hg => (World.ownsRow.lt h g hg).1⟩
  have h1 := own_mono h (Nat.zero_le B)
  rw [List.length_map, List.map_map] at h1
  have e2 : (tokCell ∘ fun x : ByteArray => x.data.toList) = Value.string := by
    funext x
    exact congrArg Value.string (ba_data x)
  rw [e2] at h1
  exact h1
theorem tellW_id {m : Wat} {ver : Int} {ss : List ByteArray} (h : m.closed = true ∨ ver ≤ m.since ∨ (nearW m ss).length = 0) : tellW m ver ss = m := by unfold tellW; rw [if_pos h]
theorem tellW_add {m : Wat} {ver : Int} {ss : List ByteArray} (h1 : m.closed = false) (h2 : ¬ ver ≤ m.since) (h3 : ¬ (nearW m ss).length = 0) (h4 : (m.queue.length : Int) < m.cap) : tellW m ver ss = ⟨m.client, m.ptr, m.cap, m.since, m.closed, m.queue ++ [⟨ver, nearW m ss, false⟩]⟩ := by
  unfold tellW; rw [if_neg (by simp [h1, h2, h3]), if_pos h4]
theorem tellW_over {m : Wat} {ver : Int} {ss : List ByteArray} (h1 : m.closed = false) (h2 : ¬ ver ≤ m.since) (h3 : ¬ (nearW m ss).length = 0) (h4 : ¬ (m.queue.length : Int) < m.cap) : tellW m ver ss = ⟨m.client, m.ptr, m.cap, m.since, true, m.queue ++ [⟨ver, [], true⟩]⟩ := by
  unfold tellW; rw [if_neg (by simp [h1, h2, h3]), if_neg h4]

theorem ty_notg {ts : List TypeId} {w : World} {bl : List Nat} (ht : Tys ts w bl) {g : Nat} {cur : Array Value} {T : TypeId} (hk : w.heap[g]? = some (.cells cur T (0, 0))) (hn : T ∉ ts) : g ∉ bl := fun hm => by
  obtain ⟨cur', t, h1, h2⟩ := ht g hm
  rw [hk] at h1; injection h1 with h1; injection h1 with _ h1
  exact hn (h1 ▸ h2)
/-- A watcher in a world behind another one, told what it is told. -/
structure Heard (w : World) (g : Nat) (m m' : Wat) (cv : Value) (cb : List Nat) (w' : World) : Prop where
  fr : Fr [g] w w'
  st : ∃ cv' c' ms' cb', w'.heap[g]? = some (.cells #[.int .i64 m.client, .string m.ptr, .int .i64 m.cap, .int .i64 m.since, .bool m'.closed, .slice none 0 0, cv', .int .i64 0, .int .i64 ((c' : Nat) : Int)] 225 (0, 0)) ∧ ORow msgE w' cv' ms' (cv'.ownBlock.toList ++ cb') ∧ RingIs ms' 0 c' m'.queue ∧ ms'.length ≤ 4000000 ∧ (∀ b, cv'.ownBlock = some b → cv.ownBlock = some b ∨ w.heap.size ≤ b) ∧ (∀ b ∈ cb', b ∈ cb ∨ w.heap.size ≤ b) ∧ (∀ D, D ≤ w.heap.size → (∀ b ∈ cb, b < D) → Once D cb')
theorem Heard.same {w w' : World} {g : Nat} {m : Wat} {cv : Value} {cb : List Nat} (hk : w.heap[g]? = some (.cells #[.int .i64 m.client, .string m.ptr, .int .i64 m.cap, .int .i64 m.since, .bool m.closed, .slice none 0 0, cv, .int .i64 0, .int .i64 (m.queue.length : Int)] 225 (0, 0))) (ho : ORow msgE w cv m.queue (cv.ownBlock.toList ++ cb)) (hl : m.queue.length ≤ 1048577) (hb : Below w.heap.size w w') : Heard w g m m cv cb w' :=
  ⟨Fr.of_below hb, cv, m.queue.length, m.queue, cb, (hb.block g (Array.getElem?_eq_some_iff.1 hk).1).trans hk, ho.below hb, RingIs.fresh _, by omega, fun _ h => .inl h, fun _ h => .inl h, fun _ _ h => Once.old h⟩

set_option maxHeartbeats 1600000 in
set_option maxRecDepth 100000 in
theorem hear_walk (g : Nat) (m : Wat) (cv : Value) (cb : List Nat) (ver : Int) (xa : Option Addr) (xb xo xc : Nat) (ss : List ByteArray) (w : World) (hk : w.heap[g]? = some (.cells #[.int .i64 m.client, .string m.ptr, .int .i64 m.cap, .int .i64 m.since, .bool m.closed, .slice none 0 0, cv, .int .i64 0, .int .i64 (m.queue.length : Int)] 225 (0, 0))) (ho : ORow msgE w cv m.queue (cv.ownBlock.toList ++ cb)) (hML : ML w) (hp : m.ptr.size ≤ 1048576) (hS : SS w xa xb xo ss) (hm : ss.length ≤ 1048577) (hl : m.queue.length ≤ 1048577) :
    Calls Tryz.prog 125 #[.pointer (some ⟨g, 0, none⟩), .agg #[.int .i64 ver, .slice xa ss.length xc]] w fun e w' => e = .returned (.tuple #[]) ∧ Heard w g m (tellW m ver ss) cv cb w' := by
  have hgl : g < w.heap.size := (Array.getElem?_eq_some_iff.1 hk).1
  have hab := alloc_b w (.cells #[.int .i64 ver, .slice xa ss.length xc] 53)
  have kN := heap_alloc_new w (.cells #[.int .i64 ver, .slice xa ss.length xc] 53)
  have HS := hide (fun wx (hb : Below w.heap.size w wx) => Heard.same hk ho hl hb)
  obtain ⟨clo, hclo⟩ : ∃ clo, m.closed = clo := ⟨_, rfl⟩
  rw [hclo] at hk
  have kA := (hab.block g hgl).trans hk
  have HCLO := hide hclo
  have HO := hide ho
  have HK := hide hk
  have HAB := hide hab
  have HKA := hide kA
  have HKN := hide kN
  have c3 := Lib.cell_of_heap kA 3
  have c4 := Lib.cell_of_heap kA 4
  have n0 := Lib.cell_of_heap kN 0
  have n1 := Lib.cell_of_heap kN 1
  have hc1 := Lib.cell_of_heap hk 1
  have HN : Hid (∀ wx, Below w.heap.size w wx → Calls Tryz.prog 172 #[.pointer (some ⟨g, 0, none⟩), .slice xa ss.length xc] wx fun e w' => ∃ v, e = .returned v ∧ OT w' wx.heap.size v (if (ptoks m.ptr.data.toList).isSome then nearP m.ptr ss else []) ∧ Below wx.heap.size wx w') := fun wx hx => near_walk g m.ptr xa xb xo xc ss wx (hML.below hx) hp ((hx.cell (World.block_lt_of_cell? _ _ hc1)).trans hc1) (hS.below hx) hm
  clear hk ho hML hS hab kN kA hclo hc1
  simp only [List.getElem?_toArray, List.getElem?_cons_succ, List.getElem?_cons_zero] at c3 c4 n0 n1
  cases clo
  · by_cases hv : ver ≤ m.since
    · have hT : tellW m ver ss = m := tellW_id (.inr (.inl hv))
      rw [hT]
      clear hT
      go_enter Tryz.func125, Tryz.ntmps125
      go_wp2
      generalize (w.alloc (.cells #[.int .i64 ver, .slice xa ss.length xc] 53)) = wA at *
      go_quiet (fail)
      go_wp2
      go_returns
      exact ⟨rfl, unhide HS _ (below_next (unhide HAB) (draws_b wA _))⟩
    · go_enter Tryz.func125, Tryz.ntmps125
      go_wp2
      generalize (w.alloc (.cells #[.int .i64 ver, .slice xa ss.length xc] 53)) = wA at *
      go_quiet (fail)
      have hdb := draws_b wA nq
      have HAD := hide (below_next (unhide HAB) hdb)
      have HKD := hide ((hdb.block g (by have := (Array.getElem?_eq_some_iff.1 (unhide HKA)).1; omega)).trans (unhide HKA))
      clear hdb
      go_wp2_with fail
      refine (unhide HN _ (unhide HAD)).mono ?_
      rintro e w1 ⟨v1, rfl, o1, b1⟩
      obtain ⟨os1, hv1⟩ := nearW_ot o1
      obtain ⟨ya, yc, rfl, t1, t2⟩ := os1.form
      have hz1 := b1.size
      have hzA : w.heap.size < wA.heap.size := (Array.getElem?_eq_some_iff.1 (unhide HKN)).1
      have B1 := below_next (unhide HAD) b1
      have k1 := (b1.block g (by simp; omega)).trans (unhide HKD)
      have kN1 := (b1.block w.heap.size (by simp; omega)).trans (unhide HKN)
      have c2 : w1.cell? ⟨g, 2, none⟩ = some (.int .i64 m.cap) := Lib.cell_of_heap k1 2
      have c8 : w1.cell? ⟨g, 8, none⟩ = some (.int .i64 (m.queue.length : Int)) := Lib.cell_of_heap k1 8
      have n0' : w1.cell? ⟨w.heap.size, 0, none⟩ = some (.int .i64 ver) := Lib.cell_of_heap kN1 0
      have HB1 := hide B1
      have HK1 := hide k1
      have OS1 := hide os1
      have HV1 := hide hv1
      have HO1 := hide ((unhide HO).below B1)
      clear o1 b1 t1 t2 B1 k1 kN1 os1 hv1 HN HAD HKD c3 c4 n0 n1
      by_cases h0 : (nearW m ss).length = 0
      · have hT : tellW m ver ss = m := tellW_id (.inr (.inr h0))
        have HT := hide hT
        have h0' : (((nearW m ss).length : Int) == 0) = true := by simp [h0]
        clear hT h0
        go_wp2
        go_returns
        rw [unhide HT]
        exact ⟨rfl, unhide HS _ (unhide HB1)⟩
      · have h0' : (((nearW m ss).length : Int) == 0) = false := by simpa using h0
        by_cases h4 : (m.queue.length : Int) < m.cap
        · have HT := hide (tellW_add (ver := ver) (ss := ss) (unhide HCLO) (by omega) h0 h4)
          have HP := hide (fun wx (hx : Below w1.heap.size w1 wx) => pushMsg_walk g m.client m.ptr m.cap m.since false cv m.queue cb ver false _ (nearW m ss) _ wx ((hx.block g (Array.getElem?_eq_some_iff.1 (unhide HK1)).1).trans (unhide HK1)) ((unhide HO1).below hx) ((unhide OS1).below hx) hl)
          clear h0
          go_wp2_with fail
          go_quiet (fail)
          go_wp2_with fail
          clear h0' h4 c2 c8
          go_region_law (go_simp; refine (unhide HP _ (draws_b w1 _)).mono ?_; rintro e w2 ⟨rfl, cv', ms', cb', k2, o2, r2, l2, v2, s2, on2, f2⟩)
          all_goals (
            have f2' : Fr [g] w1 w2 := ⟨f2.os, f2.tape, f2.output, f2.size, f2.block⟩
            have hzA' : w.heap.size ≤ wA.heap.size := by omega
            have hz1' : wA.heap.size ≤ w1.heap.size := hz1
            have HR : Hid (Heard w g m (tellW m ver ss) cv cb w2) := by
              rw [unhide HT]
              refine ⟨(Fr.of_below (unhide HB1)).trans f2', cv', m.queue.length + 1, ms', cb', ?_, o2, r2, l2, fun b hb => .inr ?_, fun b hb => ?_, fun D _ h1 => on2 D h1 ?_⟩
              · show w2.heap[g]? = some (.cells #[.int .i64 m.client, .string m.ptr, .int .i64 m.cap, .int .i64 m.since, .bool m.closed, .slice none 0 0, cv', .int .i64 0, .int .i64 ((m.queue.length + 1 : Nat) : Int)] 225 (0, 0))
                rw [unhide HCLO]; exact k2
              · have h1 : w1.heap.size ≤ b := v2 b hb
                omega
              · rcases s2 b hb with h1 | h1
                · exact .inl h1
                · have h2 := unhide HV1 b (by simpa using h1)
                  simp at h2
                  exact .inr (by omega)
              · unfold Once
                exact List.Nodup.sublist List.filter_sublist (by cases (Value.slice ya (nearW m ss).length yc).ownBlock <;> simp)
            clear f2 f2' k2 o2 r2 l2 v2 s2 on2 HP
            go_wp2
            go_returns
            exact ⟨rfl, HR⟩)
        · have HT := hide (tellW_over (ver := ver) (ss := ss) (unhide HCLO) (by omega) h0 h4)
          have HP := hide (fun wx (hx : Below w1.heap.size w1 wx) => pushMsg_walk g m.client m.ptr m.cap m.since false cv m.queue cb ver true (.slice none 0 0) [] [] wx ((hx.block g (Array.getElem?_eq_some_iff.1 (unhide HK1)).1).trans (unhide HK1)) ((unhide HO1).below hx) (ORow.nil _ _) hl)
          clear h0
          go_wp2_with fail
          go_quiet (fail)
          go_wp2_with fail
          clear h0' h4 c2 c8
          go_region_law (go_simp; refine (unhide HP _ (draws_b w1 _)).mono ?_; rintro e w2 ⟨rfl, cv', ms', cb', k2, o2, r2, l2, v2, s2, on2, f2⟩)
          all_goals (
            have f2' : Fr [g] w1 w2 := ⟨f2.os, f2.tape, f2.output, f2.size, f2.block⟩
            have hzA' : w.heap.size ≤ wA.heap.size := by omega
            have hz1' : wA.heap.size ≤ w1.heap.size := hz1
            have hgn : g ∉ cv'.ownBlock.toList ++ cb' := ty_notg (orow_ty (e := msgE) msg_ty o2) k2 (by decide)
            have d4 : w2.cell? ⟨g, 4, none⟩ = some (.bool false) := Lib.cell_of_heap k2 4
            have fz := Lib.frozen_of_heap k2
            have k3 := heap_setCell_same _ _ 4 _ _ (.bool true) k2
            have HR : Hid (Heard w g m (tellW m ver ss) cv cb (w2.setCell ⟨g, 4, none⟩ (.bool true))) := by
              rw [unhide HT]
              refine ⟨((Fr.of_below (unhide HB1)).trans f2').set (g := g) (by simp) 4 (.bool true), cv', m.queue.length + 1, ms', cb', k3, o2.other hgn 4 (.bool true), r2, l2, fun b hb => .inr ?_, fun b hb => ?_, fun D _ h1 => on2 D h1 (Once.nil _)⟩
              · have h1 : w1.heap.size ≤ b := v2 b hb
                omega
              · rcases s2 b hb with h1 | h1
                · exact .inl h1
                · simp at h1
            clear f2 f2' k2 k3 o2 r2 l2 v2 s2 on2 HP hgn
            go_wp2
            go_returns
            exact ⟨rfl, HR⟩)
  · have hT : tellW m ver ss = m := tellW_id (.inl (unhide HCLO))
    rw [hT]
    clear hT
    go_enter Tryz.func125, Tryz.ntmps125
    go_wp2
    generalize (w.alloc (.cells #[.int .i64 ver, .slice xa ss.length xc] 53)) = wA at *
    go_quiet (fail)
    go_wp2
    go_returns
    exact ⟨rfl, unhide HS _ (below_next (unhide HAB) (draws_b wA _))⟩
end Go.Proofs.YtlfonikfjibloaaGreatDoor

namespace Go.Proofs.YtlfonikfjibloaaGreatDoor
open Go.RowKit

/-- The texts of a list that lie above or under another one. -/
def nearQ (p : ByteArray) (ss : List ByteArray) : List (List UInt8) := (ss.filter fun s => meet s.data.toList p.data.toList).map (·.data.toList)
theorem nearQ_step {p : ByteArray} {ss : List ByteArray} {k : Nat} (h : k < ss.length) : nearQ p (ss.take (k + 1)) = nearQ p (ss.take k) ++ (if meet (ss.getD k ByteArray.empty).data.toList p.data.toList then [(ss.getD k ByteArray.empty).data.toList] else []) := by
  rw [take_snoc h]
  generalize ss.getD k ByteArray.empty = s
  unfold nearQ
  rw [List.filter_append, List.map_append]
  congr 1
  cases hl : meet s.data.toList p.data.toList <;> simp [hl]
theorem nearQ_len (p : ByteArray) (ss : List ByteArray) : (nearQ p ss).length ≤ ss.length := by
  unfold nearQ; rw [List.length_map]; exact List.length_filter_le _ _

set_option maxHeartbeats 1000000 in
set_option maxRecDepth 100000 in
theorem l5Near_walk (ptr : ByteArray) (xa : Option Addr) (xb xo xc : Nat) (ss : List ByteArray) (w : World) (hp : ptr.size ≤ 1048576) (h : SS w xa xb xo ss) (hs : ∀ j, (ss.getD j ByteArray.empty).size ≤ 1048576) (hm : ss.length ≤ 1048577) :
    Calls Tryz.prog 65 #[.slice xa ss.length xc, .string ptr] w fun e w' => ∃ v, e = .returned v ∧ OT w' w.heap.size v (nearQ ptr ss) ∧ Below w.heap.size w w' := by
  obtain ⟨i0, hi, hz0, hz1, hz2⟩ := info_parts infoString
  have HAD := hide h.ad
  have HC := hide h.cell
  have HSZ := hide hs
  have hown0 := World.ownsRow_lit (base := w.heap.size) (e := 9) (size := 1) w #[] 0 (Nat.le_refl _) (by unfold maxLen; omega) rfl
  have hbel0 : Below w.heap.size w (w.alloc (.cells #[] 9)) := (Below.refl _ _).alloc (Nat.le_refl _) _
  have HW0 := hide hown0
  have HB0 := hide hbel0
  clear h hs hown0 hbel0
  go_enter Tryz.func65, Tryz.ntmps65
  go_wp2
  generalize (w.alloc (.cells #[] 9)) = wA at *
  go_loopw [5, 6] (fun v i wr => ∃ k : Nat, k ≤ ss.length ∧ i = .int .i64 k ∧ OT wr w.heap.size v (nearQ ptr (ss.take k)) ∧ Below w.heap.size w wr) (fun _ i _ => ss.length - (intOf i).toNat)
  case atStart => exact ⟨0, Nat.zero_le _, rfl, unhide HW0, unhide HB0⟩
  case round =>
    obtain ⟨k, hk, rfl, hown, hb⟩ := hrel
    by_cases hlt : k < ss.length
    · have hc0 := unhide HC k hlt
      have hxb : xb < w.heap.size := World.block_lt_of_cell? _ _ hc0
      obtain rfl := unhide HAD (by omega)
      have hst := nearQ_step (p := ptr) hlt
      have hol := nearQ_len ptr (ss.take k)
      have hol2 : (ss.take k).length ≤ k := by rw [List.length_take]; omega
      have hsk := unhide HSZ k
      generalize hs : ss.getD k ByteArray.empty = s at *
      have HST := hide hst
      have hc : wr.cell? ⟨xb, xo + k, none⟩ = some (.string s) := (hb.cell (p := ⟨xb, xo + k, none⟩) hxb).trans hc0
      have HM := hide (specWithin_walk s ptr wr hsk hp)
      generalize nearQ ptr (ss.take k) = p at *
      have hpl : p.length ≤ 1048577 := by omega
      have hmw := meet_w s.data.toList ptr.data.toList
      have HB := hide hb
      have hwsz := hb.size
      clear hst hs hol hol2 hb HAD HW0 HB0 HSZ hsk
      cases hl : meet s.data.toList ptr.data.toList with
      | false =>
        rw [hl] at HST hmw
        have hn : ¬ 0 < wSpec (ptoks s.data.toList) (ptoks ptr.data.toList) := by simpa using hmw.symm
        clear hl hmw
        generalize wSpec (ptoks s.data.toList) (ptoks ptr.data.toList) = z at *
        go_wp2_with fail
        refine (unhide HM).mono ?_
        rintro e w2 ⟨rfl, b2⟩
        have OO := hide (own_below hown b2)
        have BB := hide (below_next (unhide HB) b2)
        clear HM hown b2 HB
        go_wp2
        go_roundw
        case rel => exact ⟨k + 1, by omega, by go_num, by rw [unhide HST]; simpa using unhide OO, unhide BB⟩
        case measure => simp [intOf]; omega
      | true =>
        rw [hl] at HST hmw
        have hn : 0 < wSpec (ptoks s.data.toList) (ptoks ptr.data.toList) := by simpa using hmw.symm
        clear hl hmw
        generalize wSpec (ptoks s.data.toList) (ptoks ptr.data.toList) = z at *
        go_wp2_with fail
        refine (unhide HM).mono ?_
        rintro e w2 ⟨rfl, b2⟩
        have hown2 := own_below hown b2
        have B2 := below_next (unhide HB) b2
        have hw2 := B2.size
        have hc2 : w2.cell? ⟨xb, xo + k, none⟩ = some (.string s) := (b2.cell (World.block_lt_of_cell? _ _ hc)).trans hc
        have HQ := hide (ba_data s)
        have HB2 := hide B2
        clear HM hown b2 B2 HB hc hc0
        go_wp2_with (at_builtin; (refine wpList_append_own _ rfl (.tmp 21) (.tmp 26) 51 rfl w.heap.size 9 i0 (.string ByteArray.empty) 1 16 Tryz.underlying51 hi hz0 hz1 hz2 rfl (by decide) _ _ _ rfl (hown2.alloc _) ⟨w2.heap.size, 0, none⟩ 1 1 [.string s] rfl rfl (lit1 _ _ _) (one_tok _) (by unfold maxLen; omega) (by omega) (by simp; omega) ?_))
        intro v3 w3 hown3 hgrow3 _
        have B3 : Below w.heap.size w w3 := ((unhide HB2).alloc hw2 _).grown hgrow3 (by simp; omega) (fun k hk => (hown2.lt k hk).1)
        have own3 : OT w3 w.heap.size v3 (p ++ [s.data.toList]) := OT.step (t := s.data.toList) (by rw [show tokCell s.data.toList = .string s from congrArg Value.string (unhide HQ)]; exact hown3)
        have OO := hide own3
        have BB := hide B3
        clear hown3 hgrow3 hown2 own3 B3 hc2
        go_wp2
        go_roundw
        case rel => exact ⟨k + 1, by omega, by go_num, by rw [unhide HST]; exact unhide OO, unhide BB⟩
        case measure => simp [intOf]; omega
    · have e : ss.take k = ss := List.take_of_length_le (by omega)
      rw [e] at hown
      have OO := hide hown
      have BB := hide hb
      clear hown hb HAD
      go_wp2
      go_ret
      exact ⟨_, rfl, unhide OO, unhide BB⟩

theorem nearW_only (m : Wat) (ss : List ByteArray) : nearW m (ss.filter fun s => (ptoks s.data.toList).isSome) = ss.filter fun s => meet s.data.toList m.ptr.data.toList := by
  unfold nearW
  cases hp : (ptoks m.ptr.data.toList).isSome with
  | false =>
    rw [if_neg (by simp)]
    symm
    rw [List.filter_eq_nil_iff]
    intro s _
    simp [meet, hp]
  | true =>
    rw [if_pos rfl, List.filter_filter]
    refine List.filter_congr fun s _ => ?_
    unfold meet leads
    rw [hp, Bool.and_true, Bool.and_comm, Bool.or_comm]
theorem onlyP_map (ss : List ByteArray) : onlyP ss = (ss.filter fun s => (ptoks s.data.toList).isSome).map (·.data.toList) := rfl
theorem nearQ_map (p : ByteArray) (ss : List ByteArray) : nearQ p ss = (ss.filter fun s => meet s.data.toList p.data.toList).map (·.data.toList) := rfl
/-- A row of texts as the tokens' rows have it. -/
theorem ot_ostr {w : World} {B : Nat} {v : Value} {ss : List ByteArray} (h : OT w B v (ss.map (·.data.toList))) : OStr w v ss v.ownBlock.toList ∧ ∀ g, v.ownBlock = some g → B ≤ g := by
  refine ⟨ostr_iff.2 ⟨?_, rfl⟩, fun g hg => (World.ownsRow.lt h g hg).1⟩
  have h1 := own_mono h (Nat.zero_le B)
  rw [List.length_map, List.map_map] at h1
  have e2 : (tokCell ∘ fun x : ByteArray => x.data.toList) = Value.string := by
    funext x
    exact congrArg Value.string (ba_data x)
  rw [e2] at h1
  exact h1
/-- What Dispatch leaves of a hub, and whether there was news. -/
def dispW (n : Nws) (ws : List Wat) : List Wat := (ws.take 100).map (fun m => tellW m n.ver (n.ptrs.filter fun s => (ptoks s.data.toList).isSome)) ++ ws.drop 100
def dispH (h : Hb) : Hb := match h.waiting with
  | [] => h
  | n :: q => ⟨dispW n h.watches, q⟩
def dispOk (h : Hb) : Bool := !h.waiting.isEmpty
end Go.Proofs.YtlfonikfjibloaaGreatDoor
