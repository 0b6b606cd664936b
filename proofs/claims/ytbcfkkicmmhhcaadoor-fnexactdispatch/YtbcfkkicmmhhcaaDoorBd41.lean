import Derived.Test.YtbcfkkicmmhhcaaDoorBd39
import Derived.Test.YtbcfkkicmmhhcaaDoorBd40
import Derived.Test.YtbcfkkicmmhhcaaDoorBd30
namespace Go.Proofs.YtbcfkkicmmhhcaaDoor
open Go.RowKit

/-- What of a list of texts a watch is told, and the watch behind it. -/
def nearW (m : Wat) (ss : List ByteArray) : List ByteArray := if (ptoks m.ptr.data.toList).isSome then ss.filter (fun s => leads m.ptr.data.toList s.data.toList) else []
def tellW (m : Wat) (ver : Int) (ss : List ByteArray) : Wat :=
  if m.closed = true ∨ ver ≤ m.since ∨ (nearW m ss).length = 0 then m
  else if (m.queue.length : Int) < m.cap then ⟨m.client, m.ptr, m.cap, m.since, m.closed, m.queue ++ [⟨ver, nearW m ss, false⟩]⟩
  else ⟨m.client, m.ptr, m.cap, m.since, true, m.queue ++ [⟨ver, [], true⟩]⟩
theorem nearW_ot {w : World} {B : Nat} {v : Value} {m : Wat} {ss : List ByteArray} (h : OT w B v (if (ptoks m.ptr.data.toList).isSome then nearP m.ptr ss else [])) : OStr w v (nearW m ss) v.ownBlock.toList ∧ ∀ g, v.ownBlock = some g → B ≤ g := by
  have he : (if (ptoks m.ptr.data.toList).isSome then nearP m.ptr ss else []) = (nearW m ss).map (·.data.toList) := by
    unfold nearW nearP
    cases (ptoks m.ptr.data.toList).isSome <;> simp
  rw [he] at h
  refine ⟨ostr_iff.2 ⟨?_, rfl⟩, fun g hg => (World.ownsRow.lt h g hg).1⟩
  have h1 := own_mono h (Nat.zero_le B)
  rw [List.length_map, List.map_map] at h1
  have e2 : (tokCell ∘ fun x : ByteArray => x.data.toList) = Value.string := by
    funext x
    exact congrArg Value.string (ba_data x)
  rw [e2] at h1
  exact h1
theorem tellW_id {m : Wat} {ver : Int} {ss : List ByteArray} (h : m.closed = true ∨ ver ≤ m.since ∨ (nearW m ss).length = 0) : tellW m ver ss = m := by unfold tellW; rw [if_pos h]
theorem tellW_add {m : Wat} {ver : Int} {ss : List ByteArray} (h1 : m.closed = false) (h2 : ¬ ver ≤ m.since) (h3 : ¬ (nearW m ss).length = 0) (h4 : (m.queue.length : Int) < m.cap) : tellW m ver ss = ⟨m.client, m.ptr, m.cap, m.since, m.closed, m.queue ++ [⟨ver, nearW m ss, false⟩]⟩ := by
  unfold tellW; rw [if_neg (by simp [h1, h2, h3]), if_pos h4]
theorem tellW_over {m : Wat} {ver : Int} {ss : List ByteArray} (h1 : m.closed = false) (h2 : ¬ ver ≤ m.since) (h3 : ¬ (nearW m ss).length = 0) (h4 : ¬ (m.queue.length : Int) < m.cap) : tellW m ver ss = ⟨m.client, m.ptr, m.cap, m.since, true, m.queue ++ [⟨ver, [], true⟩]⟩ := by
  unfold tellW; rw [if_neg (by simp [h1, h2, h3]), if_neg h4]

theorem ty_notg {ts : List TypeId} {w : World} {bl : List Nat} (ht : Tys ts w bl) {g : Nat} {cur : Array Value} {T : TypeId} (hk : w.heap[g]? = some (.cells cur T (0, 0))) (hn : T ∉ ts) : g ∉ bl := fun hm => by
  obtain ⟨cur', t, h1, h2⟩ := ht g hm
  rw [hk] at h1; injection h1 with h1; injection h1 with _ h1
  exact hn (h1 ▸ h2)
/-- A watcher in a world behind another one, told what it is told. -/
structure Heard (w : World) (g : Nat) (m m' : Wat) (cv : Value) (cb : List Nat) (w' : World) : Prop where
  fr : Fr [g] w w'
  st : ∃ cv' c' ms' cb', w'.heap[g]? = some (.cells #[.int .i64 m.client, .string m.ptr, .int .i64 m.cap, .int .i64 m.since, .bool m'.closed, .slice none 0 0, cv', .int .i64 0, .int .i64 ((c' : Nat) : Int)] 118 (0, 0)) ∧ ORow msgE w' cv' ms' (cv'.ownBlock.toList ++ cb') ∧ RingIs ms' 0 c' m'.queue ∧ ms'.length ≤ 4000000 ∧ (∀ b, cv'.ownBlock = some b → cv.ownBlock = some b ∨ w.heap.size ≤ b) ∧ (∀ b ∈ cb', b ∈ cb ∨ w.heap.size ≤ b) ∧ (∀ D, D ≤ w.heap.size → (∀ b ∈ cb, b < D) → Once D cb')
theorem Heard.same {w w' : World} {g : Nat} {m : Wat} {cv : Value} {cb : List Nat} (hk : w.heap[g]? = some (.cells #[.int .i64 m.client, .string m.ptr, .int .i64 m.cap, .int .i64 m.since, .bool m.closed, .slice none 0 0, cv, .int .i64 0, .int .i64 (m.queue.length : Int)] 118 (0, 0))) (ho : ORow msgE w cv m.queue (cv.ownBlock.toList ++ cb)) (hl : m.queue.length ≤ 1048577) (hb : Below w.heap.size w w') : Heard w g m m cv cb w' :=
  ⟨Fr.of_below hb, cv, m.queue.length, m.queue, cb, (hb.block g (Array.getElem?_eq_some_iff.1 hk).1).trans hk, ho.below hb, RingIs.fresh _, by omega, fun _ h => .inl h, fun _ h => .inl h, fun _ _ h => Once.old h⟩

set_option maxHeartbeats 1600000 in
set_option maxRecDepth 100000 in
theorem hear_walk (g : Nat) (m : Wat) (cv : Value) (cb : List Nat) (ver : Int) (xa : Option Addr) (xb xo xc : Nat) (ss : List ByteArray) (w : World) (hk : w.heap[g]? = some (.cells #[.int .i64 m.client, .string m.ptr, .int .i64 m.cap, .int .i64 m.since, .bool m.closed, .slice none 0 0, cv, .int .i64 0, .int .i64 (m.queue.length : Int)] 118 (0, 0))) (ho : ORow msgE w cv m.queue (cv.ownBlock.toList ++ cb)) (hML : ML w) (hp : m.ptr.size ≤ 1048576) (hS : SS w xa xb xo ss) (hm : ss.length ≤ 1048577) (hl : m.queue.length ≤ 1048577) :
    Calls Tryd.prog 82 #[.pointer (some ⟨g, 0, none⟩), .agg #[.int .i64 ver, .slice xa ss.length xc]] w fun e w' => e = .returned (.tuple #[]) ∧ Heard w g m (tellW m ver ss) cv cb w' := by
  have hgl : g < w.heap.size := (Array.getElem?_eq_some_iff.1 hk).1
  have hab := alloc_b w (.cells #[.int .i64 ver, .slice xa ss.length xc] 85)
  have kN := heap_alloc_new w (.cells #[.int .i64 ver, .slice xa ss.length xc] 85)
  have HS := hide (fun wx (hb : Below w.heap.size w wx) => Heard.same hk ho hl hb)
  obtain ⟨clo, hclo⟩ : ∃ clo, m.closed = clo := ⟨_, rfl⟩
  rw [hclo] at hk
  have kA := (hab.block g hgl).trans hk
  have HCLO := hide hclo
  have HO := hide ho
  have HK := hide hk
  have HAB := hide hab
  have HKA := hide kA
  have HKN := hide kN
  have c3 := Lib.cell_of_heap kA 3
  have c4 := Lib.cell_of_heap kA 4
  have n0 := Lib.cell_of_heap kN 0
  have n1 := Lib.cell_of_heap kN 1
  have hc1 := Lib.cell_of_heap hk 1
  have HN : Hid (∀ wx, Below w.heap.size w wx → Calls Tryd.prog 109 #[.pointer (some ⟨g, 0, none⟩), .slice xa ss.length xc] wx fun e w' => ∃ v, e = .returned v ∧ OT w' wx.heap.size v (if (ptoks m.ptr.data.toList).isSome then nearP m.ptr ss else []) ∧ Below wx.heap.size wx w') := fun wx hx => near_walk g m.ptr xa xb xo xc ss wx (hML.below hx) hp ((hx.cell (World.block_lt_of_cell? _ _ hc1)).trans hc1) (hS.below hx) hm
  clear hk ho hML hS hab kN kA hclo hc1
  simp only [List.getElem?_toArray, List.getElem?_cons_succ, List.getElem?_cons_zero] at c3 c4 n0 n1
  cases clo
  · by_cases hv : ver ≤ m.since
    · have hT : tellW m ver ss = m := tellW_id (.inr (.inl hv))
      rw [hT]
      clear hT
      go_enter Tryd.func82, Tryd.ntmps82
      go_wp2
      generalize (w.alloc (.cells #[.int .i64 ver, .slice xa ss.length xc] 85)) = wA at *
      go_quiet (fail)
      go_wp2
      go_returns
      exact ⟨rfl, unhide HS _ (below_next (unhide HAB) (draws_b wA _))⟩
    · go_enter Tryd.func82, Tryd.ntmps82
      go_wp2
      generalize (w.alloc (.cells #[.int .i64 ver, .slice xa ss.length xc] 85)) = wA at *
      go_quiet (fail)
      have hdb := draws_b wA nq
      have HAD := hide (below_next (unhide HAB) hdb)
      have HKD := hide ((hdb.block g (by have := (Array.getElem?_eq_some_iff.1 (unhide HKA)).1; omega)).trans (unhide HKA))
      clear hdb
      go_wp2_with fail
      refine (unhide HN _ (unhide HAD)).mono ?_
      rintro e w1 ⟨v1, rfl, o1, b1⟩
      obtain ⟨os1, hv1⟩ := nearW_ot o1
      obtain ⟨ya, yc, rfl, t1, t2⟩ := os1.form
      have hz1 := b1.size
      have hzA : w.heap.size < wA.heap.size := (Array.getElem?_eq_some_iff.1 (unhide HKN)).1
      have B1 := below_next (unhide HAD) b1
      have k1 := (b1.block g (by simp; omega)).trans (unhide HKD)
      have kN1 := (b1.block w.heap.size (by simp; omega)).trans (unhide HKN)
      have c2 : w1.cell? ⟨g, 2, none⟩ = some (.int .i64 m.cap) := Lib.cell_of_heap k1 2
      have c8 : w1.cell? ⟨g, 8, none⟩ = some (.int .i64 (m.queue.length : Int)) := Lib.cell_of_heap k1 8
      have n0' : w1.cell? ⟨w.heap.size, 0, none⟩ = some (.int .i64 ver) := Lib.cell_of_heap kN1 0
      have HB1 := hide B1
      have HK1 := hide k1
      have OS1 := hide os1
      have HV1 := hide hv1
      have HO1 := hide ((unhide HO).below B1)
      clear o1 b1 t1 t2 B1 k1 kN1 os1 hv1 HN HAD HKD c3 c4 n0 n1
      by_cases h0 : (nearW m ss).length = 0
      · have hT : tellW m ver ss = m := tellW_id (.inr (.inr h0))
        have HT := hide hT
        have h0' : (((nearW m ss).length : Int) == 0) = true := by simp [h0]
        clear hT h0
        go_wp2
        go_returns
        rw [unhide HT]
        exact ⟨rfl, unhide HS _ (unhide HB1)⟩
      · have h0' : (((nearW m ss).length : Int) == 0) = false := by simpa using h0
        by_cases h4 : (m.queue.length : Int) < m.cap
        · have HT := hide (tellW_add (ver := ver) (ss := ss) (unhide HCLO) (by omega) h0 h4)
          have HP := hide (fun wx (hx : Below w1.heap.size w1 wx) => pushMsg_walk g m.client m.ptr m.cap m.since false cv m.queue cb ver false _ (nearW m ss) _ wx ((hx.block g (Array.getElem?_eq_some_iff.1 (unhide HK1)).1).trans (unhide HK1)) ((unhide HO1).below hx) ((unhide OS1).below hx) hl)
          clear h0
          go_wp2_with fail
          go_quiet (fail)
          go_wp2_with fail
          clear h0' h4 c2 c8
          go_region_law (go_simp; refine (unhide HP _ (draws_b w1 _)).mono ?_; rintro e w2 ⟨rfl, cv', ms', cb', k2, o2, r2, l2, v2, s2, on2, f2⟩)
          all_goals (
            have f2' : Fr [g] w1 w2 := ⟨f2.os, f2.tape, f2.output, f2.size, f2.block⟩
            have hzA' : w.heap.size ≤ wA.heap.size := by omega
            have hz1' : wA.heap.size ≤ w1.heap.size := hz1
            have HR : Hid (Heard w g m (tellW m ver ss) cv cb w2) := by
              rw [unhide HT]
              refine ⟨(Fr.of_below (unhide HB1)).trans f2', cv', m.queue.length + 1, ms', cb', ?_, o2, r2, l2, fun b hb => .inr ?_, fun b hb => ?_, fun D _ h1 => on2 D h1 ?_⟩
              · show w2.heap[g]? = some (.cells #[.int .i64 m.client, .string m.ptr, .int .i64 m.cap, .int .i64 m.since, .bool m.closed, .slice none 0 0, cv', .int .i64 0, .int .i64 ((m.queue.length + 1 : Nat) : Int)] 118 (0, 0))
                rw [unhide HCLO]; exact k2
              · have h1 : w1.heap.size ≤ b := v2 b hb
                omega
              · rcases s2 b hb with h1 | h1
                · exact .inl h1
                · have h2 := unhide HV1 b (by simpa using h1)
                  simp at h2
                  exact .inr (by omega)
              · unfold Once
                exact List.Nodup.sublist List.filter_sublist (by cases (Value.slice ya (nearW m ss).length yc).ownBlock <;> simp)
            clear f2 f2' k2 o2 r2 l2 v2 s2 on2 HP
            go_wp2
            go_returns
            exact ⟨rfl, HR⟩)
        · have HT := hide (tellW_over (ver := ver) (ss := ss) (unhide HCLO) (by omega) h0 h4)
          have HP := hide (fun wx (hx : Below w1.heap.size w1 wx) => pushMsg_walk g m.client m.ptr m.cap m.since false cv m.queue cb ver true (.slice none 0 0) [] [] wx ((hx.block g (Array.getElem?_eq_some_iff.1 (unhide HK1)).1).trans (unhide HK1)) ((unhide HO1).below hx) (ORow.nil _ _) hl)
          clear h0
          go_wp2_with fail
          go_quiet (fail)
          go_wp2_with fail
          clear h0' h4 c2 c8
          go_region_law (go_simp; refine (unhide HP _ (draws_b w1 _)).mono ?_; rintro e w2 ⟨rfl, cv', ms', cb', k2, o2, r2, l2, v2, s2, on2, f2⟩)
          all_goals (
            have f2' : Fr [g] w1 w2 := ⟨f2.os, f2.tape, f2.output, f2.size, f2.block⟩
            have hzA' : w.heap.size ≤ wA.heap.size := by omega
            have hz1' : wA.heap.size ≤ w1.heap.size := hz1
            have hgn : g ∉ cv'.ownBlock.toList ++ cb' := ty_notg (orow_ty (e := msgE) msg_ty o2) k2 (by decide)
            have d4 : w2.cell? ⟨g, 4, none⟩ = some (.bool false) := Lib.cell_of_heap k2 4
            have fz := Lib.frozen_of_heap k2
            have k3 := heap_setCell_same _ _ 4 _ _ (.bool true) k2
            have HR : Hid (Heard w g m (tellW m ver ss) cv cb (w2.setCell ⟨g, 4, none⟩ (.bool true))) := by
              rw [unhide HT]
              refine ⟨((Fr.of_below (unhide HB1)).trans f2').set (g := g) (by simp) 4 (.bool true), cv', m.queue.length + 1, ms', cb', k3, o2.other hgn 4 (.bool true), r2, l2, fun b hb => .inr ?_, fun b hb => ?_, fun D _ h1 => on2 D h1 (Once.nil _)⟩
              · have h1 : w1.heap.size ≤ b := v2 b hb
                omega
              · rcases s2 b hb with h1 | h1
                · exact .inl h1
                · simp at h1
            clear f2 f2' k2 k3 o2 r2 l2 v2 s2 on2 HP hgn
            go_wp2
            go_returns
            exact ⟨rfl, HR⟩)
  · have hT : tellW m ver ss = m := tellW_id (.inl (unhide HCLO))
    rw [hT]
    clear hT
    go_enter Tryd.func82, Tryd.ntmps82
    go_wp2
    generalize (w.alloc (.cells #[.int .i64 ver, .slice xa ss.length xc] 85)) = wA at *
    go_quiet (fail)
    go_wp2
    go_returns
    exact ⟨rfl, unhide HS _ (below_next (unhide HAB) (draws_b wA _))⟩
end Go.Proofs.YtbcfkkicmmhhcaaDoor

namespace Go.Proofs.YtbcfkkicmmhhcaaDoor
open Go.RowKit

/-- A watcher that was not told yet (true), or was (false). -/
def wtrT (D : Nat) : Elem (Wat × Bool) where
  T := 116
  wd := 1
  E := fun w vs x bl => (x.2 = true ∧ (wtrF D).E w vs x.1 bl) ∨ (x.2 = false ∧ ∃ g cv c ms cb, vs = [.pointer (some ⟨g, 0, none⟩)] ∧ w.heap[g]? = some (.cells #[.int .i64 x.1.client, .string x.1.ptr, .int .i64 x.1.cap, .int .i64 x.1.since, .bool x.1.closed, .slice none 0 0, cv, .int .i64 0, .int .i64 ((c : Nat) : Int)] 118 (0, 0)) ∧
    ORow msgE w cv ms (cv.ownBlock.toList ++ cb) ∧ RingIs ms 0 c x.1.queue ∧ ms.length ≤ 4000000 ∧ bl = g :: (cv.ownBlock.toList ++ cb))
  len := fun h => by
    rcases h with ⟨_, h⟩ | ⟨_, g, cv, c, ms, cb, h, _⟩
    · exact (wtrF D).len h
    · rw [h]; rfl
  lt := fun h => by
    rcases h with ⟨_, h⟩ | ⟨_, g, cv, c, ms, cb, _, h1, h2, _, _, rfl⟩
    · exact (wtrF D).lt h
    · intro b hb
      rcases List.mem_cons.1 hb with rfl | hb
      · exact (Array.getElem?_eq_some_iff.1 h1).1
      · exact h2.lt b hb
  keep := fun h hk => by
    rcases h with ⟨hx, h⟩ | ⟨hx, g, cv, c, ms, cb, h0, h1, h2, h3, h4, rfl⟩
    · exact .inl ⟨hx, (wtrF D).keep h hk⟩
    · exact .inr ⟨hx, g, cv, c, ms, cb, h0, (hk g (by simp)).trans h1, h2.keep fun b hb => hk b (List.mem_cons_of_mem _ hb), h3, h4, rfl⟩
theorem wtrT_wtrE {D : Nat} {w : World} {vs : List Value} {x : Wat × Bool} {bl : List Nat} (h : (wtrT D).E w vs x bl) : wtrE.E w vs x.1 bl := by
  rcases h with ⟨_, h⟩ | ⟨_, g, cv, c, ms, cb, h0, h1, h2, h3, h4, h5⟩
  · exact wtrF_wtrE h
  · exact ⟨g, cv, 0, c, ms, cb, h0, h1, h2, h3, h4, h5⟩
/-- The same row, read otherwise. -/
theorem ORow.conv {α β : Type} {e : Elem α} {e' : Elem β} {w : World} {v : Value} {xs : List α} {bl : List Nat} (f : α → β) (hT : e.T = e'.T) (hd : e.wd = e'.wd) (hi : ∀ {vs x bl}, e.E w vs x bl → e'.E w vs (f x) bl) (h : ORow e w v xs bl) : ORow e' w v (xs.map f) bl := by
  obtain ⟨ps, hl, hE, ho, hb⟩ := h
  refine ⟨ps, by rw [List.length_map, hl], fun j p y hp hy => ?_, by rw [List.length_map, ← hT, ← hd]; exact ho, hb⟩
  rw [List.getElem?_map] at hy
  cases hx : xs[j]? with
  | none => rw [hx] at hy; cases hy
  | some x => rw [hx] at hy; cases hy; exact hi (hE j p x hp hx)
theorem tellW_fix (m : Wat) (ver : Int) (ss : List ByteArray) : (tellW m ver ss).client = m.client ∧ (tellW m ver ss).ptr = m.ptr ∧ (tellW m ver ss).cap = m.cap ∧ (tellW m ver ss).since = m.since := by
  unfold tellW
  split
  · exact ⟨rfl, rfl, rfl, rfl⟩
  · split <;> exact ⟨rfl, rfl, rfl, rfl⟩

/-- One watcher of the row is told. -/
theorem told_step {D : Nat} {w : World} {gp n pc : Nat} {xs : List (Wat × Bool)} {cbk : List Nat} (h : ORow (wtrT D) w (.slice (some ⟨gp, 0, none⟩) n pc) xs ((Value.slice (some ⟨gp, 0, none⟩) n pc).ownBlock.toList ++ cbk)) (hd : Once D cbk) (hD : D ≤ w.heap.size) {k : Nat} {m : Wat} (hx : xs[k]? = some (m, true)) (ver : Int) (ss : List ByteArray) :
    ∃ g cv cb, w.cell? ⟨gp, k, none⟩ = some (.pointer (some ⟨g, 0, none⟩)) ∧ w.heap[g]? = some (.cells #[.int .i64 m.client, .string m.ptr, .int .i64 m.cap, .int .i64 m.since, .bool m.closed, .slice none 0 0, cv, .int .i64 0, .int .i64 (m.queue.length : Int)] 118 (0, 0)) ∧ ORow msgE w cv m.queue (cv.ownBlock.toList ++ cb) ∧ m.queue.length ≤ 1048577 ∧ D ≤ g ∧ g ∈ cbk ∧
      ∀ w', Heard w g m (tellW m ver ss) cv cb w' → ∃ cbk', ORow (wtrT D) w' (.slice (some ⟨gp, 0, none⟩) n pc) (xs.set k (tellW m ver ss, false)) ((Value.slice (some ⟨gp, 0, none⟩) n pc).ownBlock.toList ++ cbk') ∧ Once D cbk' ∧ ∀ b ∈ cbk', b ∈ cbk ∨ w.heap.size ≤ b := by
  obtain ⟨vs, ib, hE, hcs, hsub, honi, hnew⟩ := ORow.swap (D := D) h hd hx
  rcases hE with ⟨_, hE⟩ | ⟨hf, _⟩
  · obtain ⟨g, cv, cb, rfl, hk, ho, hl, hDg, hDo, hcb, rfl⟩ := hE
    have hd0 := hcs 0 _ rfl
    rw [show k * (wtrT D).wd + 0 = k from by show k * 1 + 0 = k; omega] at hd0
    refine ⟨g, cv, cb, hd0, hk, ho, hl, hDg, hsub g (by simp), fun w' hh => ?_⟩
    obtain ⟨hfr, cv', c', ms', cb', k', o', r', l', v', s', on'⟩ := hh
    obtain ⟨t1, t2, t3, t4⟩ := tellW_fix m ver ss
    obtain ⟨cs8, hcs8⟩ := h.own
    obtain ⟨cur8, t8, e8, e9⟩ := own_ty hcs8 gp (by simp [Value.ownBlock])
    have e9' : t8 = 116 := by
      have h9 : t8 = (wtrT D).T := by simpa using e9
      exact h9
    subst e9'
    have hgp : gp ≠ g := fun e => by
      subst e
      rw [hk] at e8; injection e8 with e8; injection e8 with _ e8
      exact absurd e8 (by decide)
    have hgn : g ∉ cv'.ownBlock.toList ++ cb' := ty_notg (orow_ty (e := msgE) msg_ty o') k' (by decide)
    have hon : Once D (g :: (cv'.ownBlock.toList ++ cb')) := by
      have h1 : Once D cb' := on' D hD hcb
      have h2 := msgs_inner o'
      have h3 : Once D (cv'.ownBlock.toList ++ cb') := once_append.2 ⟨by
          unfold Once
          exact List.Nodup.sublist List.filter_sublist (by cases cv'.ownBlock <;> simp), h1, fun x hx y hy _ e => by
          subst e
          obtain ⟨cs9, hcs9⟩ := o'.own
          obtain ⟨cur, t, e1, e2⟩ := own_ty hcs9 x hx
          obtain ⟨cur', e3⟩ := h2 x hy
          rw [e1] at e3; injection e3 with e3; injection e3 with _ e3
          simp at e2
          rw [e2] at e3
          exact absurd e3 (by decide)⟩
      have h4 : Once D ([g] ++ (cv'.ownBlock.toList ++ cb')) := once_append.2 ⟨by unfold Once; exact List.Nodup.sublist List.filter_sublist (by simp), h3, fun x hx y hy _ e => by
        simp at hx
        subst hx; subst e
        exact hgn hy⟩
      exact h4
    refine hnew w' (tellW m ver ss, false) (g :: (cv'.ownBlock.toList ++ cb')) [g] hfr (fun b hb => by simp at hb; subst hb; exact ⟨hDg, by simp⟩) (by simpa using hgp) (.inr ⟨rfl, g, cv', c', ms', cb', rfl, by rw [t1, t2, t3, t4]; exact k', o', r', l', rfl⟩) hon (fun b hb => ?_)
    rcases List.mem_cons.1 hb with rfl | hb
    · exact .inl (by simp)
    · rcases List.mem_append.1 hb with hb | hb
      · rcases v' b (by simpa using hb) with h1 | h1
        · exact .inl (by simp [h1])
        · exact .inr h1
      · rcases s' b hb with h1 | h1
        · exact .inl (by simp [h1])
        · exact .inr h1
  · exact absurd hf (by simp)
end Go.Proofs.YtbcfkkicmmhhcaaDoor
