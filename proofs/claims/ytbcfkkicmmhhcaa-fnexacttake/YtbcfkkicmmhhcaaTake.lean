import Derived.Test.YtbcfkkicmmhhcaaPop
namespace Go.Proofs.Ytbcfkkicmmhhcaa
open Go.RowKit

/-- A watch without its first message; what Take leaves of a hub, its message and its code. -/
def takW (m : Wat) : Wat := ⟨m.client, m.ptr, m.cap, m.since, m.closed, m.queue.drop 1⟩
def takAt (h : Hb) (c : Int) : Option Wat := if findI h.watches c < 0 then none else h.watches[(findI h.watches c).toNat]?
def takH (h : Hb) (c : Int) : Hb := match takAt h c with
  | none => h
  | some x => ⟨h.watches.set (findI h.watches c).toNat (takW x), h.waiting⟩
def takM (h : Hb) (c : Int) : Msg := match takAt h c with
  | none => msg0
  | some x => x.queue.headD msg0
def takC (h : Hb) (c : Int) : Int := match takAt h c with
  | none => 1
  | some x => match x.queue with
    | [] => if x.closed then 3 else 2
    | m :: _ => if m.over then 4 else 0
theorem tak_no {h : Hb} {c : Int} (h0 : findI h.watches c = -1) : takH h c = h ∧ takM h c = msg0 ∧ takC h c = 1 := by
  have : takAt h c = none := by unfold takAt; rw [h0]; rfl
  unfold takH takM takC
  rw [this]; exact ⟨rfl, rfl, rfl⟩
theorem takAt_at {h : Hb} {c : Int} {j : Nat} (hj : j < h.watches.length) (h0 : findI h.watches c = (j : Int)) : takAt h c = some h.watches[j] := by
  unfold takAt
  rw [h0, if_neg (by omega), Int.toNat_natCast, List.getElem?_eq_getElem hj]
theorem tak_nil {h : Hb} {c : Int} {j : Nat} (hj : j < h.watches.length) (h0 : findI h.watches c = (j : Int)) (hq : h.watches[j].queue = []) : takH h c = h ∧ takM h c = msg0 ∧ takC h c = if h.watches[j].closed then 3 else 2 := by
  have ht := takAt_at hj h0
  unfold takH takM takC
  rw [ht, h0]
  refine ⟨?_, ?_, ?_⟩
  · have : takW h.watches[j] = h.watches[j] := by
      unfold takW; rw [hq]
      cases hx : h.watches[j]
      rw [hx] at hq
      simp at hq ⊢
      exact hq
    simp only [Int.toNat_natCast, this, List.set_getElem_self]
  · simp [hq]
  · simp [hq]
theorem tak_cons {h : Hb} {c : Int} {j : Nat} (hj : j < h.watches.length) (h0 : findI h.watches c = (j : Int)) {m : Msg} {q : List Msg} (hq : h.watches[j].queue = m :: q) :
    takH h c = ⟨h.watches.set j ⟨h.watches[j].client, h.watches[j].ptr, h.watches[j].cap, h.watches[j].since, h.watches[j].closed, q⟩, h.waiting⟩ ∧ takM h c = m ∧ takC h c = if m.over then 4 else 0 := by
  have ht := takAt_at hj h0
  unfold takH takM takC
  rw [ht, h0]
  refine ⟨?_, ?_, ?_⟩
  · simp [takW, hq]
  · simp [hq]
  · simp [hq]

theorem ty_not {ts : List TypeId} {w : World} {bl : List Nat} (ht : Tys ts w bl) {g : Nat} {cur : Array Value} {T : TypeId} (hk : w.heap[g]? = some (.cells cur T (0, 0))) (hn : T ∉ ts) : g ∉ bl := fun hm => by
  obtain ⟨cur', t, h1, h2⟩ := ht g hm
  rw [hk] at h1; injection h1 with h1; injection h1 with _ h1
  exact hn (h1 ▸ h2)
theorem ty_ne {w : World} {a b : Nat} {cu cv : Array Value} {S T : TypeId} (ha : w.heap[a]? = some (.cells cu S (0, 0))) (hb : w.heap[b]? = some (.cells cv T (0, 0))) (hn : S ≠ T) : a ≠ b := fun e => by
  subst e
  rw [ha] at hb; injection hb with hb; injection hb with _ hb
  exact hn hb
/-- A board whose watcher at a place has lost its first message. -/
theorem Brd.popped {w : World} {B gp n pc : Nat} {h : Hb} {cv : Value} {f c : Nat} {ns : List Nws} {cb cbk : List Nat} (hb : Brd w B h (.slice (some ⟨gp, 0, none⟩) n pc) cv f c ns cb ((Value.slice (some ⟨gp, 0, none⟩) n pc).ownBlock.toList ++ cbk)) (hon : Once 0 cbk) {D : Nat} (hst : ∀ b ∈ cbk, D ≤ b ∨ ∃ cur, w.heap[b]? = some (.cells cur 9 (0, 0))) (hD : D ≤ w.heap.size)
    {j g : Nat} (hj : j < h.watches.length) (hc : w.cell? ⟨gp, j, none⟩ = some (.pointer (some ⟨g, 0, none⟩))) :
    ∃ cw fw kw ms cbw, w.heap[g]? = some (.cells #[.int .i64 h.watches[j].client, .string h.watches[j].ptr, .int .i64 h.watches[j].cap, .int .i64 h.watches[j].since, .bool h.watches[j].closed, .slice none 0 0, cw, .int .i64 (fw : Nat), .int .i64 (kw : Nat)] 92 (0, 0)) ∧ g ∈ cbk ∧ (∀ gc, cw.ownBlock = some gc → gc ∈ cbk) ∧ ms.length ≤ 4000000 ∧ RingAt msgE w g 6 cw fw kw ms h.watches[j].queue cbw ∧
      ∀ w2 gc cb' f' k' ms' q', cw.ownBlock = some gc → Fr [g, gc] w w2 → ORow msgE w2 cw ms' (gc :: cb') → (∀ b ∈ cb', b ∈ cbw) → (Once 0 cbw → Once 0 cb') → ms'.length = ms.length → RingIs ms' f' k' q' →
        w2.heap[g]? = some (.cells #[.int .i64 h.watches[j].client, .string h.watches[j].ptr, .int .i64 h.watches[j].cap, .int .i64 h.watches[j].since, .bool h.watches[j].closed, .slice none 0 0, cw, .int .i64 (f' : Nat), .int .i64 (k' : Nat)] 92 (0, 0)) →
        Below D w w2 ∧ ∃ bw', Brd w2 B ⟨h.watches.set j ⟨h.watches[j].client, h.watches[j].ptr, h.watches[j].cap, h.watches[j].since, h.watches[j].closed, q'⟩, h.waiting⟩ (.slice (some ⟨gp, 0, none⟩) n pc) cv f c ns cb bw' ∧ ∀ b ∈ bw', b = gp ∨ b ∈ cbk ∨ w.heap.size ≤ b := by
  obtain ⟨vs, ib, hE, hcs, hsub, honi, hnew⟩ := ORow.swap (D := 0) hb.o1 hon (List.getElem?_eq_getElem hj)
  obtain ⟨g', cw, fw, kw, ms, cbw, rfl, hkw, how, hrw, hml, rfl⟩ := hE
  have hd0 := hcs 0 _ rfl
  rw [show j * wtrE.wd + 0 = j from by simp [wtrE], hc] at hd0
  obtain rfl : g = g' := by injection hd0 with e; injection e with e; injection e with e; injection e
  refine ⟨cw, fw, kw, ms, cbw, hkw, hsub g (by simp), fun gc hgc => hsub gc (by simp [hgc]), hml, ⟨Lib.cell_of_heap hkw 6, Lib.cell_of_heap hkw 7, Lib.cell_of_heap hkw 8, how, hrw⟩, ?_⟩
  intro w2 gc cb' f' k' ms' q' hgc fr ho hs hon' hl hr hk
  obtain ⟨cs9, hcs9⟩ := how.own
  obtain ⟨cur, t, e1, e2⟩ := own_ty hcs9 gc (by simp [hgc])
  obtain rfl : t = msgE.T := by simpa using e2
  have hgib : g ∈ g :: (cw.ownBlock.toList ++ cbw) := by simp
  have hgcb : gc ∈ g :: (cw.ownBlock.toList ++ cbw) := by simp [hgc]
  have hDg : D ≤ g := by
    rcases hst g (hsub g hgib) with h1 | ⟨cur', h1⟩
    · exact h1
    · exact absurd rfl (ty_ne hkw h1 (by decide))
  have hDc : D ≤ gc := by
    rcases hst gc (hsub gc hgcb) with h1 | ⟨cur', h1⟩
    · exact h1
    · exact absurd rfl (ty_ne e1 h1 (by decide))
  obtain ⟨cs8, hcs8⟩ := hb.o1.own
  obtain ⟨cur8, t8, e8, e9⟩ := own_ty hcs8 gp (by simp [Value.ownBlock])
  obtain rfl : t8 = wtrE.T := by simpa using e9
  obtain ⟨cbn, hswap, _, hcbn⟩ := hnew w2 ⟨h.watches[j].client, h.watches[j].ptr, h.watches[j].cap, h.watches[j].since, h.watches[j].closed, q'⟩ (g :: (cw.ownBlock.toList ++ cb')) [g, gc] fr (fun b hb => ⟨Nat.zero_le _, by
      simp at hb
      rcases hb with rfl | rfl
      · exact hgib
      · exact hgcb⟩) (fun hm => by
      simp at hm
      rcases hm with hm | hm
      · exact absurd hm (ty_ne e8 hkw (by decide))
      · exact absurd hm (ty_ne e8 e1 (by decide))) ⟨g, cw, f', k', ms', cb', rfl, hk, by rw [hgc]; exact ho, hr, by omega, rfl⟩ (by
      rw [once_zero, List.nodup_cons, List.nodup_append] at honi ⊢
      obtain ⟨n1, n2, n3, n4⟩ := honi
      refine ⟨fun hm => n1 ?_, n2, once_zero.1 (hon' (once_zero.2 n3)), fun a ha b hb e => n4 a ha b (hs b hb) e⟩
      rcases List.mem_append.1 hm with hm | hm
      · exact List.mem_append.2 (.inl hm)
      · exact List.mem_append.2 (.inr (hs _ hm))) (fun b hb => .inl (by
      rcases List.mem_cons.1 hb with hb | hb
      · rw [hb]; exact hgib
      · rcases List.mem_append.1 hb with hb | hb
        · exact List.mem_cons_of_mem _ (List.mem_append.2 (.inl hb))
        · exact List.mem_cons_of_mem _ (List.mem_append.2 (.inr (hs b hb)))))
  have hgl : g < w.heap.size := (Array.getElem?_eq_some_iff.1 hkw).1
  refine ⟨fr.below (fun b hb => by simp at hb; rcases hb with rfl | rfl <;> assumption) hD, _, ⟨?_, hswap, ?_, hb.ring, hb.len⟩, fun b hm => ?_⟩
  · refine (fr.block B (Array.getElem?_eq_some_iff.1 hb.ko).1 fun hm => ?_).trans hb.ko
    simp at hm
    rcases hm with hm | hm
    · exact absurd hm (ty_ne hb.ko hkw (by decide))
    · exact absurd hm (ty_ne hb.ko e1 (by decide))
  · refine hb.o2.keep (fr.kp hb.o2.lt fun b hb1 hm => ?_)
    simp at hm
    rcases hm with rfl | rfl
    · exact ty_not (nwss_ty hb.o2) hkw (by decide) hb1
    · exact ty_not (nwss_ty hb.o2) e1 (by decide) hb1
  · rcases List.mem_append.1 hm with hm | hm
    · exact .inl (by simpa [Value.ownBlock] using hm)
    · exact .inr (hcbn b hm)

theorem Brd.put {w : World} {B : Nat} {h : Hb} {pv cv : Value} {f c : Nat} {ns : List Nws} {cb bw : List Nat} (hb : Brd w B h pv cv f c ns cb bw) {g : Nat} (hB : B ≠ g) (h1 : g ∉ bw) (h2 : g ∉ cv.ownBlock.toList ++ cb) (vs : List Value) (o : Nat) : Brd (putN w g o vs) B h pv cv f c ns cb bw :=
  ⟨(putN_other hB vs o).trans hb.ko, hb.o1.putN h1 vs o, hb.o2.putN h2 vs o, hb.ring, hb.len⟩
set_option maxHeartbeats 1600000 in
theorem takeBrd_walk (B : Nat) (h : Hb) (pv cv : Value) (f c : Nat) (ns : List Nws) (cb cbk : List Nat) (client : Int) (w : World) (hb : Brd w B h pv cv f c ns cb (pv.ownBlock.toList ++ cbk)) (hon : Once 0 cbk) (D : Nat) (hst : ∀ b ∈ cbk, D ≤ b ∨ ∃ cur, w.heap[b]? = some (.cells cur 9 (0, 0))) (hD : D ≤ w.heap.size) :
    Calls Try.prog 44 #[.pointer (some ⟨B, 0, none⟩), .int .i64 client] w fun e w' => ∃ a1 ib bw', e = .returned (.tuple #[.agg #[.int .i64 (takM h client).ver, a1, .bool (takM h client).over], .int .i64 (takC h client)]) ∧ OStr w' a1 (takM h client).ptrs ib ∧ Brd w' B (takH h client) pv cv f c ns cb bw' ∧ Below D w w' := by
  have hcl : ∀ b ∈ cbk, b < w.heap.size := fun b hm => hb.o1.lt b (List.mem_append.2 (.inr hm))
  have HCL := hide hcl
  have HBD := hide hb
  have HON := hide hon
  have HST := hide hst
  clear hb hon hst hcl
  go_enter Try.func44, Try.ntmps44
  go_wp2_with fail
  have hA := alloc_b w (Obj.cells #[Value.int IntKind.i64 0, Value.slice none 0 0, Value.bool false] 44)
  have kA := heap_alloc_new w (Obj.cells #[Value.int IntKind.i64 0, Value.slice none 0 0, Value.bool false] 44)
  have hsz : (w.alloc (Obj.cells #[Value.int IntKind.i64 0, Value.slice none 0 0, Value.bool false] 44)).heap.size = w.heap.size + 1 := by simp
  generalize (w.alloc (Obj.cells #[Value.int IntKind.i64 0, Value.slice none 0 0, Value.bool false] 44)) = wA at *
  refine (findWtr_walk B h pv cv f c ns cb _ client wA ((unhide HBD).below hA)).mono ?_
  rintro e w1 ⟨rfl, ⟨h0, rfl⟩ | ⟨j, g, hj, h0, rfl, hcell⟩⟩
  · have HT := hide (tak_no h0)
    have r0 : wA.cell? ⟨w.heap.size, 0, none⟩ = some (.int .i64 0) := Lib.cell_of_heap kA 0
    have r1 : wA.cell? ⟨w.heap.size, 1, none⟩ = some (.slice none 0 0) := Lib.cell_of_heap kA 1
    have r2 : wA.cell? ⟨w.heap.size, 2, none⟩ = some (.bool false) := Lib.cell_of_heap kA 2
    have fr := Lib.frozen_of_heap kA
    have HA := hide hA
    have KA := hide kA
    clear h0 hA kA
    go_wp2
    refine bodyPost_ret (results_cell_tmp rfl _ _ w.heap.size 44 #[_, _, _] (0, 0) _ _ rfl rfl (putN_full (unhide KA) [_, _, _] rfl) Try.underlying44 rfl (by kernel_rfl)) rfl ?_
    obtain ⟨t1, t2, t3⟩ := unhide HT
    rw [t1, t2, t3]
    have hbb := putN_below (g := w.heap.size) (unhide HA) (Nat.le_refl _) [.int .i64 0, .slice none 0 0, .bool false] 0
    exact ⟨.slice none 0 0, [], _, rfl, ORow.nil _ _, (unhide HBD).below hbb, hbb.mono hD⟩
  · obtain ⟨pa, pc, rfl, hp1, hp2⟩ := (unhide HBD).o1.form
    obtain ⟨gp, rfl⟩ := hp2 (by omega)
    have hc9 := hcell gp _ _ rfl
    have hbA := (unhide HBD).below hA
    have hstA : ∀ b ∈ cbk, D ≤ b ∨ ∃ cur, wA.heap[b]? = some (.cells cur 9 (0, 0)) := fun b hm => by
      rcases unhide HST b hm with h1 | ⟨cur, h1⟩
      · exact .inl h1
      · exact .inr ⟨cur, (hA.block b (unhide HCL b hm)).trans h1⟩
    have HH := hide h0
    obtain ⟨cw, fw, kw, ms, cbw, hkw, hgk, hgck, hml, hring, hnew⟩ := Brd.popped hbA (unhide HON) hstA (by omega) hj hc9
    have hgl : g < w.heap.size := unhide HCL g hgk
    have HGC : Hid (∀ gc, cw.ownBlock = some gc → gc < w.heap.size) := fun gc hgc => unhide HCL gc (hgck gc hgc)
    have HCK : Hid (∀ b ∈ cbk, b < w.heap.size) := unhide HCL
    clear hgk hgck
    have HP := hide (popMsg_walk g 6 _ 92 cw fw kw ms h.watches[j].queue cbw _ hkw (by decide) hring hml)
    have HN := hide hnew
    have KA := hide kA
    have HA := hide hA
    have HKW := hide hkw
    have HRG := hide hring
    clear hA kA hp1 hp2 hcell hc9 hstA h0 HON HST HCL hring hnew hkw hbA
    go_wp2_with fail
    refine (unhide HP).mono ?_
    rintro e w2 (⟨hq, rfl, b2⟩ | ⟨m, q, gc, a1, ib, cb', hq, rfl, hgc, oa, orow, sub, on, hr, k2, fr2⟩)
    · have HT := hide (tak_nil hj (unhide HH) hq)
      have hz2 := b2.size
      have kw2 := (b2.block g (by omega)).trans (unhide HKW)
      have ka2 := (b2.block w.heap.size (by omega)).trans (unhide KA)
      have hab := alloc_b w2 (Obj.cells #[Value.int IntKind.i64 0, Value.slice none 0 0, Value.bool false] 44)
      have kw3 := (hab.block g (by omega)).trans kw2
      have ka3 := (hab.block w.heap.size (by omega)).trans ka2
      have c4 : (w2.alloc (Obj.cells #[Value.int IntKind.i64 0, Value.slice none 0 0, Value.bool false] 44)).cell? ⟨g, 4, none⟩ = some (.bool h.watches[j].closed) := Lib.cell_of_heap kw3 4
      have fa := Lib.frozen_of_heap ka3
      have r0 : (w2.alloc (Obj.cells #[Value.int IntKind.i64 0, Value.slice none 0 0, Value.bool false] 44)).cell? ⟨w.heap.size, 0, none⟩ = some (.int .i64 0) := Lib.cell_of_heap ka3 0
      have r1 : (w2.alloc (Obj.cells #[Value.int IntKind.i64 0, Value.slice none 0 0, Value.bool false] 44)).cell? ⟨w.heap.size, 1, none⟩ = some (.slice none 0 0) := Lib.cell_of_heap ka3 1
      have r2 : (w2.alloc (Obj.cells #[Value.int IntKind.i64 0, Value.slice none 0 0, Value.bool false] 44)).cell? ⟨w.heap.size, 2, none⟩ = some (.bool false) := Lib.cell_of_heap ka3 2
      have BB2 := hide (below_next (below_next (unhide HA) b2) hab)
      have KA3 := hide ka3
      clear b2 kw2 ka2 hq HP HN HKW KA HH hab kw3 ka3 HRG
      by_cases hcl : h.watches[j].closed = true
      all_goals (
        go_wp2
        generalize (w2.alloc (Obj.cells #[Value.int IntKind.i64 0, Value.slice none 0 0, Value.bool false] 44)) = w3 at *
        refine bodyPost_ret (results_cell_tmp rfl _ _ w.heap.size 44 #[_, _, _] (0, 0) _ _ rfl rfl (putN_full (unhide KA3) [_, _, _] rfl) Try.underlying44 rfl (by kernel_rfl)) rfl ?_
        obtain ⟨t1, t2, t3⟩ := unhide HT
        rw [t1, t2, t3]
        have hbb := putN_below (g := w.heap.size) (unhide BB2) (Nat.le_refl _) [.int .i64 0, .slice none 0 0, .bool false] 0
        exact ⟨.slice none 0 0, [], _, by simp [hcl, msg0], ORow.nil _ _, (unhide HBD).below hbb, hbb.mono hD⟩)
    · have HT := hide (tak_cons hj (unhide HH) hq)
      obtain ⟨mo, hmo⟩ : ∃ mo, m.over = mo := ⟨_, rfl⟩
      rw [hmo]
      have HMO := hide hmo
      clear hmo
      obtain ⟨ya, yc, rfl, hy1, hy2⟩ := oa.form
      have hz2 := fr2.size
      obtain ⟨bD, bw', bN, hbN⟩ := unhide HN w2 gc cb' _ _ _ q hgc fr2 orow sub on (by simp) hr (by simpa using k2)
      have hne : w.heap.size ∉ [g, gc] := fun hm => by
        simp at hm
        rcases hm with hm | hm
        · omega
        · have := unhide HGC gc hgc; omega
      have ka2 := (fr2.block w.heap.size (by omega) hne).trans (unhide KA)
      have hab := alloc_b w2 (Obj.cells #[Value.int IntKind.i64 m.ver, .slice ya m.ptrs.length yc, Value.bool mo] 44)
      have kM := heap_alloc_new w2 (Obj.cells #[Value.int IntKind.i64 m.ver, .slice ya m.ptrs.length yc, Value.bool mo] 44)
      have ka3 := (hab.block w.heap.size (by omega)).trans ka2
      have fa := Lib.frozen_of_heap ka3
      have r0 : (w2.alloc (Obj.cells #[Value.int IntKind.i64 m.ver, .slice ya m.ptrs.length yc, Value.bool mo] 44)).cell? ⟨w.heap.size, 0, none⟩ = some (.int .i64 0) := Lib.cell_of_heap ka3 0
      have r1 : (w2.alloc (Obj.cells #[Value.int IntKind.i64 m.ver, .slice ya m.ptrs.length yc, Value.bool mo] 44)).cell? ⟨w.heap.size, 1, none⟩ = some (.slice none 0 0) := Lib.cell_of_heap ka3 1
      have r2 : (w2.alloc (Obj.cells #[Value.int IntKind.i64 m.ver, .slice ya m.ptrs.length yc, Value.bool mo] 44)).cell? ⟨w.heap.size, 2, none⟩ = some (.bool false) := Lib.cell_of_heap ka3 2
      have m0 : (w2.alloc (Obj.cells #[Value.int IntKind.i64 m.ver, .slice ya m.ptrs.length yc, Value.bool mo] 44)).cell? ⟨w2.heap.size, 0, none⟩ = some (.int .i64 m.ver) := Lib.cell_of_heap kM 0
      have m1 : (w2.alloc (Obj.cells #[Value.int IntKind.i64 m.ver, .slice ya m.ptrs.length yc, Value.bool mo] 44)).cell? ⟨w2.heap.size, 1, none⟩ = some (.slice ya m.ptrs.length yc) := Lib.cell_of_heap kM 1
      have m2 : (w2.alloc (Obj.cells #[Value.int IntKind.i64 m.ver, .slice ya m.ptrs.length yc, Value.bool mo] 44)).cell? ⟨w2.heap.size, 2, none⟩ = some (.bool mo) := Lib.cell_of_heap kM 2
      have BD := hide bD
      have BN := hide bN
      have hgpl : gp < w.heap.size := (unhide HBD).o1.lt gp (by simp [Value.ownBlock])
      have hnb : w.heap.size ∉ bw' := fun hm => by
        rcases hbN _ hm with h1 | h1 | h1
        · omega
        · have := unhide HCK _ h1; omega
        · omega
      have HNB := hide hnb
      have HIB := hide (ty_not (ostr_ty oa) ka2 (by decide))
      have HAB := hide hab
      have KA3 := hide ka3
      have OA := hide oa
      clear hbN hnb oa hy1 hy2 orow sub on hr k2 fr2 bD bN hq hne ka2 hab kM ka3 HP HN HKW KA HH HRG
      cases mo
      all_goals (
        go_wp2
        have hab := unhide HAB
        have ka3 := unhide KA3
        clear HAB KA3 r0 r1 r2 m0 m1 m2 fa
        generalize (w2.alloc (Obj.cells _ _)) = w3 at *
        have HAB := hide hab
        have KA3 := hide ka3
        refine bodyPost_ret (results_cell_tmp rfl _ _ w.heap.size 44 #[_, _, _] (0, 0) _ _ rfl rfl (putN_full (unhide KA3) [_, _, _] rfl) Try.underlying44 rfl (by kernel_rfl)) rfl ?_
        obtain ⟨t1, t2, t3⟩ := unhide HT
        rw [t1, t2, t3]
        have hbB := (unhide HBD)
        have hB : B ≠ w.heap.size := by have := (Array.getElem?_eq_some_iff.1 hbB.ko).1; omega
        refine ⟨.slice ya m.ptrs.length yc, ib, bw', by rw [unhide HMO]; simp, ((unhide OA).below (unhide HAB)).putN (unhide HIB) [_, _, _] 0, ((unhide BN).below (unhide HAB)).put hB (unhide HNB) (fun hm => by have := hbB.o2.lt _ hm; omega) [_, _, _] 0, ?_⟩
        exact putN_below (g := w.heap.size) ((((unhide HA).mono hD).trans (unhide BD)).trans ((unhide HAB).mono (by omega))) hD [_, _, _] 0)

theorem results_cell2_tmp {P : Program} {fn : Func} {p p2 r : Tmp} {ty ty2 : TypeId} (h : fn.results = #[.cell p ty, .cell p2 ty2, .tmp r]) (tmps : Array Value) (w : World) (g : Nat) (t : TypeId) (cs : Array Value) (fr : Nat × Nat) (d : TypeDesc) (g2 : Nat) (t2 : TypeId) (cs2 : Array Value) (fr2 : Nat × Nat) (d2 : TypeDesc) (v : Value)
    (hp : tmps.getD p undef = .pointer (some ⟨g, 0, none⟩)) (hp2 : tmps.getD p2 undef = .pointer (some ⟨g2, 0, none⟩)) (hr : tmps.getD r undef = v) (hg : w.heap[g]? = some (.cells cs t fr)) (hg2 : w.heap[g2]? = some (.cells cs2 t2 fr2))
    (hu : P.underlying ty = some d) (hd : (match d with | .struct _ | .array _ _ => true | _ => false) = true) (hi : (P.info? ty).map (·.size) = some cs.size)
    (hu2 : P.underlying ty2 = some d2) (hd2 : (match d2 with | .struct _ | .array _ _ => true | _ => false) = true) (hi2 : (P.info? ty2).map (·.size) = some cs2.size) :
    (results fn tmps).run P w = .ok (.tuple #[.agg cs, .agg cs2, v]) w := by
  have hp' : tmps[p]?.getD undef = .pointer (some ⟨g, 0, none⟩) := by simpa using hp
  have hp2' : tmps[p2]?.getD undef = .pointer (some ⟨g2, 0, none⟩) := by simpa using hp2
  have hr' : tmps[r]?.getD undef = v := by simpa using hr
  simp [results, h, hp', hp2', hr', asAddr, run_loadVar_row w g t ty cs fr d hg hu hd hi, run_loadVar_row w g2 t2 ty2 cs2 fr2 d2 hg2 hu2 hd2 hi2]
theorem sum_set_le : ∀ (l : List Nat) (j a : Nat) {b : Nat}, l[j]? = some b → a ≤ b → (l.set j a).sum ≤ l.sum
  | [], j, a, b, h, _ => by simp at h
  | x :: r, 0, a, b, h, hl => by simp at h; simp; omega
  | x :: r, j + 1, a, b, h, hl => by
    have := sum_set_le r j a (by simpa using h) hl
    simp; omega
theorem takH_sz {h : Hb} {c : Int} (hs : szHb h ≤ 1048576) : szHb (takH h c) ≤ 1048576 ∧ (∀ x ∈ (takH h c).watches, szWat x ≤ 1048577) ∧ (∀ x ∈ (takH h c).waiting, x.ptrs.length ≤ 1048577) ∧ szMsg (takM h c) ≤ 1048577 := by
  have hz1 : szWats h.watches ≤ 1048576 := by unfold szHb at hs; omega
  have hz2 : szNwss h.waiting ≤ 1048576 := by unfold szHb at hs; omega
  have hs1 : ∀ (k : Nat) (hk : k < h.watches.length), szWat h.watches[k] ≤ 1048576 := fun k hk => by
    have h1 := sum_take_snoc szWat h.watches k h.watches[k] (List.getElem?_eq_getElem hk)
    have h2 := sum_take_le (h.watches.map szWat) (k + 1)
    rw [← List.map_take] at h2
    unfold szWats at hz1; omega
  have hs2 : ∀ x ∈ h.waiting, x.ptrs.length ≤ 1048577 := fun x hx => by
    obtain ⟨k, hk, rfl⟩ := List.mem_iff_getElem.1 hx
    have h1 := sum_take_snoc szNws h.waiting k h.waiting[k] (List.getElem?_eq_getElem hk)
    have h2 := sum_take_le (h.waiting.map szNws) (k + 1)
    rw [← List.map_take] at h2
    unfold szNwss at hz2
    have h3 : h.waiting[k].ptrs.length ≤ szNws h.waiting[k] := by unfold szNws szStr; omega
    omega
  have hm0 : szMsg msg0 ≤ 1048577 := by decide
  have hall : ∀ x ∈ h.watches, szWat x ≤ 1048577 := fun x hx => by
    obtain ⟨k, hk, rfl⟩ := List.mem_iff_getElem.1 hx
    have := hs1 k hk; omega
  rcases findI_cases h.watches c with h1 | ⟨j, hj, h1, _⟩
  · obtain ⟨t1, t2, _⟩ := tak_no h1
    rw [t1, t2]
    exact ⟨hs, hall, hs2, hm0⟩
  · cases hq : h.watches[j].queue with
    | nil =>
      obtain ⟨t1, t2, _⟩ := tak_nil hj h1 hq
      rw [t1, t2]
      exact ⟨hs, hall, hs2, hm0⟩
    | cons m q =>
      obtain ⟨t1, t2, _⟩ := tak_cons hj h1 hq
      rw [t1, t2]
      have hw := hs1 j hj
      have hle : szWat ⟨h.watches[j].client, h.watches[j].ptr, h.watches[j].cap, h.watches[j].since, h.watches[j].closed, q⟩ ≤ szWat h.watches[j] := by
        unfold szWat szMsgs; rw [hq]; simp; omega
      have hm : szMsg m ≤ szWat h.watches[j] := by
        unfold szWat szMsgs; rw [hq]; simp; omega
      refine ⟨?_, fun x hx => ?_, hs2, by omega⟩
      · have hsum : ((h.watches.set j ⟨h.watches[j].client, h.watches[j].ptr, h.watches[j].cap, h.watches[j].since, h.watches[j].closed, q⟩).map szWat).sum ≤ (h.watches.map szWat).sum := by
          rw [List.map_set]
          exact sum_set_le _ _ _ (by rw [List.getElem?_map, List.getElem?_eq_getElem hj]; rfl) hle
        show szWats (h.watches.set j _) + szNwss h.waiting ≤ 1048576
        unfold szWats
        unfold szHb szWats at hs
        rw [List.length_set]
        omega
      · rcases List.mem_or_eq_of_mem_set hx with hx | hx
        · exact hall x hx
        · rw [hx]; omega
end Go.Proofs.Ytbcfkkicmmhhcaa
