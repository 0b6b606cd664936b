import Derived.Test.YtlfonikfjibloaaGreatDoorBt39
import Derived.Test.YtlfonikfjibloaaGreatDoorBt40
import Derived.Test.YtlfonikfjibloaaGreatDoorBt35
import Derived.Test.YtlfonikfjibloaaGreatDoorBt38
import Derived.Test.YtlfonikfjibloaaGreatDoorBt37
namespace Go.Proofs.YtlfonikfjibloaaGreatDoor
open Go.RowKit

/-- The one watch of the law, and what it is told. -/
def watT (ptr : ByteArray) (room : Nat) (clo : Bool) (q : List Msg) : Wat := ⟨3, ptr, (room : Int), 0, clo, q⟩
def nrT (ptr : ByteArray) (n : Nws) : List ByteArray := n.ptrs.filter fun s => meet s.data.toList ptr.data.toList
def eT (ptr : ByteArray) (n : Nws) : List (Int × List ByteArray) := if (nrT ptr n).length = 0 then [] else [(n.ver, nrT ptr n)]
def lT (ptr : ByteArray) (ns : List Nws) : List (Int × List ByteArray) := ns.flatMap (eT ptr)
def qT (r : Nat) (E : List (Int × List ByteArray)) : List Msg := (E.take r).map (fun p => ⟨p.1, p.2, false⟩) ++ ((E.drop r).take 1).map (fun p => ⟨p.1, [], true⟩)
def cT (r : Nat) (E : List (Int × List ByteArray)) : Bool := decide (r < E.length)
theorem lT_snoc (ptr : ByteArray) (ns : List Nws) (n : Nws) : lT ptr (ns ++ [n]) = lT ptr ns ++ eT ptr n := by simp [lT]
theorem lT_cons (ptr : ByteArray) (ns : List Nws) (n : Nws) : lT ptr (n :: ns) = eT ptr n ++ lT ptr ns := by simp [lT]
theorem qT_nil (r : Nat) : qT r [] = [] := by simp [qT]
theorem qT_cons (r : Nat) (x : Int × List ByteArray) (E : List (Int × List ByteArray)) : qT (r + 1) (x :: E) = ⟨x.1, x.2, false⟩ :: qT r E := by simp [qT]
theorem qT_zero (x : Int × List ByteArray) (E : List (Int × List ByteArray)) : qT 0 (x :: E) = [⟨x.1, [], true⟩] := by simp [qT]
theorem cT_cons (r : Nat) (x : Int × List ByteArray) (E : List (Int × List ByteArray)) : cT (r + 1) (x :: E) = cT r E := by simp [cT]
theorem cT_nil (r : Nat) : cT r [] = false := by simp [cT]
theorem cT_zero (x : Int × List ByteArray) (E : List (Int × List ByteArray)) : cT 0 (x :: E) = true := by simp [cT]

theorem tell_qT (ptr : ByteArray) (room : Nat) (E : List (Int × List ByteArray)) (n : Nws) (hv : 0 < n.ver) :
    tellW (watT ptr room (cT room E) (qT room E)) n.ver (n.ptrs.filter fun s => (ptoks s.data.toList).isSome) = watT ptr room (cT room (E ++ eT ptr n)) (qT room (E ++ eT ptr n)) := by
  have hn : nearW (watT ptr room (cT room E) (qT room E)) (n.ptrs.filter fun s => (ptoks s.data.toList).isSome) = nrT ptr n := nearW_only _ _
  by_cases h0 : (nrT ptr n).length = 0
  · have he : eT ptr n = [] := by unfold eT; rw [if_pos h0]
    rw [he, List.append_nil]
    exact tellW_id (.inr (.inr (by rw [hn]; exact h0)))
  · have he : eT ptr n = [(n.ver, nrT ptr n)] := by unfold eT; rw [if_neg h0]
    rw [he]
    by_cases hc : room < E.length
    · have c1 : cT room E = true := by simp [cT, hc]
      have c2 : cT room (E ++ [(n.ver, nrT ptr n)]) = true := by simp [cT]; omega
      rw [tellW_id (.inl (by simp [watT, c1])), c1, c2]
      have : qT room (E ++ [(n.ver, nrT ptr n)]) = qT room E := by
        unfold qT
        rw [List.take_append_of_le_length (by omega), List.drop_append_of_le_length (by omega), List.take_append_of_le_length (by rw [List.length_drop]; omega)]
      rw [this]
    · have c1 : cT room E = false := by simp [cT]; omega
      have q1 : qT room E = E.map (fun p => ⟨p.1, p.2, false⟩) := by
        unfold qT
        rw [List.take_of_length_le (by omega), List.drop_of_length_le (by omega)]; simp
      by_cases hl : E.length < room
      · have c2 : cT room (E ++ [(n.ver, nrT ptr n)]) = false := by simp [cT]; omega
        have q2 : qT room (E ++ [(n.ver, nrT ptr n)]) = E.map (fun p => (⟨p.1, p.2, false⟩ : Msg)) ++ [⟨n.ver, nrT ptr n, false⟩] := by
          unfold qT
          rw [List.take_of_length_le (by simp; omega), List.drop_of_length_le (by simp; omega)]; simp
        rw [tellW_add (by simp [watT, c1]) (by simp [watT]; omega) (by rw [hn]; exact h0) (by simp [watT, q1]; omega), hn, c2, q2]
        simp [watT, c1, q1]
      · have hr : room = E.length := by omega
        have c2 : cT room (E ++ [(n.ver, nrT ptr n)]) = true := by simp [cT]; omega
        have q2 : qT room (E ++ [(n.ver, nrT ptr n)]) = E.map (fun p => (⟨p.1, p.2, false⟩ : Msg)) ++ [⟨n.ver, [], true⟩] := by
          unfold qT
          rw [hr]; simp
        rw [tellW_over (by simp [watT, c1]) (by simp [watT]; omega) (by rw [hn]; exact h0) (by simp [watT, q1]; omega), c2, q2]
        simp [watT, q1]
/-- A hub with that one watch. -/
def hubT (ptr : ByteArray) (room : Nat) (r : Nat) (E : List (Int × List ByteArray)) (ns : List Nws) : Hb := ⟨[watT ptr room (cT r E) (qT r E)], ns⟩
theorem disp_hubT (ptr : ByteArray) (room : Nat) (E : List (Int × List ByteArray)) (n : Nws) (ns : List Nws) (hv : 0 < n.ver) : dispH (hubT ptr room room E (n :: ns)) = hubT ptr room room (E ++ eT ptr n) ns ∧ dispOk (hubT ptr room room E (n :: ns)) = true := by
  refine ⟨?_, rfl⟩
  show (⟨dispW n [watT ptr room (cT room E) (qT room E)], ns⟩ : Hb) = _
  unfold dispW hubT
  simp only [List.take_succ_cons, List.take_nil, List.map_cons, List.map_nil, List.drop_succ_cons, List.drop_nil, List.append_nil]
  rw [tell_qT ptr room E n hv]
theorem find_hubT (ptr : ByteArray) (room : Nat) (c : Bool) (q : List Msg) : findI [watT ptr room c q] 3 = ((0 : Nat) : Int) := findI_at (by simp) rfl (fun i _ h => by omega)
theorem take_hubT_cons (ptr : ByteArray) (room r : Nat) (x : Int × List ByteArray) (E : List (Int × List ByteArray)) (ns : List Nws) : takH (hubT ptr room (r + 1) (x :: E) ns) 3 = hubT ptr room r E ns ∧ takM (hubT ptr room (r + 1) (x :: E) ns) 3 = ⟨x.1, x.2, false⟩ ∧ takC (hubT ptr room (r + 1) (x :: E) ns) 3 = 0 := by
  obtain ⟨h1, h2, h3⟩ := tak_cons (h := hubT ptr room (r + 1) (x :: E) ns) (c := 3) (j := 0) (by simp [hubT]) (find_hubT _ _ _ _) (m := ⟨x.1, x.2, false⟩) (q := qT r E) (by simp [hubT, watT, qT_cons])
  refine ⟨?_, h2, by rw [h3]; simp⟩
  rw [h1]
  simp [hubT, watT, cT_cons]
theorem take_hubT_over (ptr : ByteArray) (room : Nat) (x : Int × List ByteArray) (E : List (Int × List ByteArray)) (ns : List Nws) : takH (hubT ptr room 0 (x :: E) ns) 3 = ⟨[watT ptr room true []], ns⟩ ∧ takM (hubT ptr room 0 (x :: E) ns) 3 = ⟨x.1, [], true⟩ ∧ takC (hubT ptr room 0 (x :: E) ns) 3 = 4 := by
  obtain ⟨h1, h2, h3⟩ := tak_cons (h := hubT ptr room 0 (x :: E) ns) (c := 3) (j := 0) (by simp [hubT]) (find_hubT _ _ _ _) (m := ⟨x.1, [], true⟩) (q := []) (by simp [hubT, watT, qT_zero])
  refine ⟨?_, h2, by rw [h3]; simp⟩
  rw [h1]
  simp [hubT, watT, cT_zero]
theorem take_hubT_last (ptr : ByteArray) (room : Nat) (ns : List Nws) : takC ⟨[watT ptr room true []], ns⟩ 3 = 3 := by
  obtain ⟨_, _, h3⟩ := tak_nil (h := ⟨[watT ptr room true []], ns⟩) (c := 3) (j := 0) (by simp) (find_hubT _ _ _ _) rfl
  rw [h3]; rfl
theorem take_hubT_end (ptr : ByteArray) (room r : Nat) (ns : List Nws) : takC (hubT ptr room r [] ns) 3 = 2 := by
  obtain ⟨_, _, h3⟩ := tak_nil (h := hubT ptr room r [] ns) (c := 3) (j := 0) (by simp [hubT]) (find_hubT _ _ _ _) (by simp [hubT, watT, qT_nil])
  rw [h3]; simp [hubT, watT, cT_nil]
end Go.Proofs.YtlfonikfjibloaaGreatDoor

namespace Go.Proofs.YtlfonikfjibloaaGreatDoor
open Go.RowKit

/-- A watcher that was not told yet (true), or was (false). -/
def wtrT (D : Nat) : Elem (Wat × Bool) where
  T := 223
  wd := 1
  E := fun w vs x bl => (x.2 = true ∧ (wtrF D).E w vs x.1 bl) ∨ (x.2 = false ∧ ∃ g cv c ms cb, vs = [.pointer (some ⟨g, 0, none⟩)] ∧ w.heap[g]? = some (.cells #[.int .i64 x.1.client, .string x.1.ptr, .int .i64 x.1.cap, .int .i64 x.1.since, .bool x.1.closed, .slice none 0 0, cv, .int .i64 0, .int .i64 ((c : Nat) : Int)] 225 (0, 0)) ∧
    ORow msgE w cv ms (cv.ownBlock.toList ++ cb) ∧ RingIs ms 0 c x.1.queue ∧ ms.length ≤ 4000000 ∧ bl = g :: (cv.ownBlock.toList ++ cb))
  len := fun h => by
    rcases h with ⟨_, h⟩ | ⟨_, g, cv, c, ms, cb, h, _⟩
    · exact (wtrF D).len h
    · rw [h]; rfl
  lt := fun h => by
    rcases h with ⟨_, h⟩ | ⟨_, g, cv, c, ms, cb, _, h1, h2, _, _, rfl⟩
    · exact (wtrF D).lt h
    · intro b hb
      rcases List.mem_cons.1 hb with rfl | hb
      · exact (Array.getElem?_eq_some_iff.1 h1).1
      · exact h2.lt b hb
  keep := fun h hk => by
    rcases h with ⟨hx, h⟩ | ⟨hx, g, cv, c, ms, cb, h0, h1, h2, h3, h4, rfl⟩
    · exact .inl ⟨hx, (wtrF D).keep h hk⟩
    · exact .inr ⟨hx, g, cv, c, ms, cb, h0, (hk g (by simp)).trans h1, h2.keep fun b hb => hk b (List.mem_cons_of_mem _ hb), h3, h4, rfl⟩
theorem wtrT_wtrE {D : Nat} {w : World} {vs : List Value} {x : Wat × Bool} {bl : List Nat} (h : (wtrT D).E w vs x bl) : wtrE.E w vs x.1 bl := by
  rcases h with ⟨_, h⟩ | ⟨_, g, cv, c, ms, cb, h0, h1, h2, h3, h4, h5⟩
  · exact wtrF_wtrE h
  · exact ⟨g, cv, 0, c, ms, cb, h0, h1, h2, h3, h4, h5⟩
/-- The same row, read otherwise. -/
theorem ORow.conv {α β : Type} {e : Elem α} {e' : Elem β} {w : World} {v : Value} {xs : List α} {bl : List Nat} (f : α → β) (hT : e.T = e'.T) (hd : e.wd = e'.wd) (hi : ∀ {vs x bl}, e.E w vs x bl → e'.E w vs (f x) bl) (h : ORow e w v xs bl) : ORow e' w v (xs.map f) bl := by
  obtain ⟨ps, hl, hE, ho, hb⟩ := h
  refine ⟨ps, by rw [List.length_map, hl], fun j p y hp hy => ?_, by rw [List.length_map, ← hT, ← hd]; exact ho, hb⟩
  rw [List.getElem?_map] at hy
  cases hx : xs[j]? with
  | none => rw [hx] at hy; cases hy
  | some x => rw [hx] at hy; cases hy; exact hi (hE j p x hp hx)
theorem tellW_fix (m : Wat) (ver : Int) (ss : List ByteArray) : (tellW m ver ss).client = m.client ∧ (tellW m ver ss).ptr = m.ptr ∧ (tellW m ver ss).cap = m.cap ∧ (tellW m ver ss).since = m.since := by
  unfold tellW
  split
  · exact ⟨rfl, rfl, rfl, rfl⟩
  · split <;> exact ⟨rfl, rfl, rfl, rfl⟩

/-- One watcher of the row is told. -/
theorem told_step {D : Nat} {w : World} {gp n pc : Nat} {xs : List (Wat × Bool)} {cbk : List Nat} (h : ORow (wtrT D) w (.slice (some ⟨gp, 0, none⟩) n pc) xs ((Value.slice (some ⟨gp, 0, none⟩) n pc).ownBlock.toList ++ cbk)) (hd : Once D cbk) (hD : D ≤ w.heap.size) {k : Nat} {m : Wat} (hx : xs[k]? = some (m, true)) (ver : Int) (ss : List ByteArray) :
    ∃ g cv cb, w.cell? ⟨gp, k, none⟩ = some (.pointer (some ⟨g, 0, none⟩)) ∧ w.heap[g]? = some (.cells #[.int .i64 m.client, .string m.ptr, .int .i64 m.cap, .int .i64 m.since, .bool m.closed, .slice none 0 0, cv, .int .i64 0, .int .i64 (m.queue.length : Int)] 225 (0, 0)) ∧ ORow msgE w cv m.queue (cv.ownBlock.toList ++ cb) ∧ m.queue.length ≤ 1048577 ∧ D ≤ g ∧ g ∈ cbk ∧
      ∀ w', Heard w g m (tellW m ver ss) cv cb w' → ∃ cbk', ORow (wtrT D) w' (.slice (some ⟨gp, 0, none⟩) n pc) (xs.set k (tellW m ver ss, false)) ((Value.slice (some ⟨gp, 0, none⟩) n pc).ownBlock.toList ++ cbk') ∧ Once D cbk' ∧ ∀ b ∈ cbk', b ∈ cbk ∨ w.heap.size ≤ b := by
  obtain ⟨vs, ib, hE, hcs, hsub, honi, hnew⟩ := ORow.swap (D := D) h hd hx
  rcases hE with ⟨_, hE⟩ | ⟨hf, _⟩
  · obtain ⟨g, cv, cb, rfl, hk, ho, hl, hDg, hDo, hcb, rfl⟩ := hE
    have hd0 := hcs 0 _ rfl
    rw [show k * (wtrT D).wd + 0 = k from by show k * 1 + 0 = k; omega] at hd0
    refine ⟨g, cv, cb, hd0, hk, ho, hl, hDg, hsub g (by simp), fun w' hh => ?_⟩
    obtain ⟨hfr, cv', c', ms', cb', k', o', r', l', v', s', on'⟩ := hh
    obtain ⟨t1, t2, t3, t4⟩ := tellW_fix m ver ss
    obtain ⟨cs8, hcs8⟩ := h.own
    obtain ⟨cur8, t8, e8, e9⟩ := own_ty hcs8 gp (by simp [Value.ownBlock])
    have e9' : t8 = 223 := by
      have h9 : t8 = (wtrT D).T := by simpa using e9
      exact h9
    subst e9'
    have hgp : gp ≠ g := fun e => by
      subst e
      rw [hk] at e8; injection e8 with e8; injection e8 with _ e8
      exact absurd e8 (by decide)
    have hgn : g ∉ cv'.ownBlock.toList ++ cb' := ty_notg (orow_ty (e := msgE) msg_ty o') k' (by decide)
    have hon : Once D (g :: (cv'.ownBlock.toList ++ cb')) := by
      have h1 : Once D cb' := on' D hD hcb
      have h2 := msgs_inner o'
      have h3 : Once D (cv'.ownBlock.toList ++ cb') := once_append.2 ⟨by
          unfold Once
          exact List.Nodup.sublist List.filter_sublist (by cases cv'.ownBlock <;> simp), h1, fun x hx y hy _ e => by
          subst e
          obtain ⟨cs9, hcs9⟩ := o'.own
          obtain ⟨cur, t, e1, e2⟩ := own_ty hcs9 x hx
          obtain ⟨cur', e3⟩ := h2 x hy
          rw [e1] at e3; injection e3 with e3; injection e3 with _ e3
          simp at e2
          rw [e2] at e3
          exact absurd e3 (by decide)⟩
      have h4 : Once D ([g] ++ (cv'.ownBlock.toList ++ cb')) := once_append.2 ⟨by unfold Once; exact List.Nodup.sublist List.filter_sublist (by simp), h3, fun x hx y hy _ e => by
        simp at hx
        subst hx; subst e
        exact hgn hy⟩
      exact h4
    refine hnew w' (tellW m ver ss, false) (g :: (cv'.ownBlock.toList ++ cb')) [g] hfr (fun b hb => by simp at hb; subst hb; exact ⟨hDg, by simp⟩) (by simpa using hgp) (.inr ⟨rfl, g, cv', c', ms', cb', rfl, by rw [t1, t2, t3, t4]; exact k', o', r', l', rfl⟩) hon (fun b hb => ?_)
    rcases List.mem_cons.1 hb with rfl | hb
    · exact .inl (by simp)
    · rcases List.mem_append.1 hb with hb | hb
      · rcases v' b (by simpa using hb) with h1 | h1
        · exact .inl (by simp [h1])
        · exact .inr h1
      · rcases s' b hb with h1 | h1
        · exact .inl (by simp [h1])
        · exact .inr h1
  · exact absurd hf (by simp)
end Go.Proofs.YtlfonikfjibloaaGreatDoor

namespace Go.Proofs.YtlfonikfjibloaaGreatDoor
open Go.RowKit

set_option maxHeartbeats 1600000 in
set_option maxRecDepth 100000 in
theorem popNws_walk (g o : Nat) (cs : Array Value) (T : TypeId) (cv : Value) (f c : Nat) (ms q : List Nws) (cb : List Nat) (w : World) (hk : w.heap[g]? = some (.cells cs T (0, 0))) (hT : T ≠ 53 ∧ T ≠ 9) (h : RingAt nwsE w g o cv f c ms q cb) (hm : ms.length ≤ 4000000) :
    Calls Tryz.prog 123 #[.pointer (some ⟨g, o, none⟩)] w fun e w' => (q = [] ∧ e = .returned (.tuple #[.agg #[.int .i64 0, .slice none 0 0], .bool false]) ∧ Below w.heap.size w w') ∨
      ∃ m q' gc a1 ib cb', q = m :: q' ∧ e = .returned (.tuple #[.agg #[.int .i64 m.ver, a1], .bool true]) ∧ cv.ownBlock = some gc ∧ OStr w' a1 m.ptrs ib ∧ ORow nwsE w' cv (ms.set f nws0) (gc :: cb') ∧ (∀ b ∈ cb', b ∈ cb) ∧ (Once 0 cb → Once 0 cb') ∧ RingIs (ms.set f nws0) ((f + 1) % ms.length) (c - 1) q' ∧
        w'.heap[g]? = some (.cells ((cs.setIfInBounds (o + 1) (.int .i64 (((f + 1) % ms.length : Nat) : Int))).setIfInBounds (o + 2) (.int .i64 ((c - 1 : Nat) : Int))) T (0, 0)) ∧ Fr [g, gc] w w' := by
  have c2 := h.c2
  have c1 := h.c1
  have c0 := h.c0
  have hcnt := h.ring.cnt
  have H := hide h
  have HK := hide hk
  clear h hk
  have hA := new2 w (Obj.cells #[Value.int IntKind.i64 0, Value.slice none 0 0] 53) (Obj.cells #[Value.int IntKind.i64 0, Value.slice none 0 0] 53)
  have d2 := (hA.bel.cell (World.block_lt_of_cell? _ _ c2)).trans c2
  cases q with
  | nil =>
    have hc0 : c = 0 := by simpa using hcnt
    subst hc0
    have HA := hide hA
    clear hcnt hT hA c0 c1 c2
    go_enter Tryz.func123, Tryz.ntmps123
    go_wp2
    refine bodyPost_ret (results_cell_tmp rfl _ _ w.heap.size 53 #[_, _] (0, 0) _ _ rfl rfl (unhide HA).k0 Tryz.underlying53 rfl (by kernel_rfl)) rfl ?_
    exact .inl ⟨trivial, rfl, (unhide HA).bel⟩
  | cons m q =>
    have hc1 : c = q.length + 1 := by simpa using hcnt
    have hnz : ((c : Int) == 0) = false := by simp; omega
    have hnz' : (c = 0) = False := eq_false (by omega)
    obtain ⟨hring, hf, hat, -⟩ := (unhide H).ring.popped (z := nws0)
    have hl0 : 0 < ms.length := by omega
    have hmod : (f + 0) % ms.length = f := by rw [Nat.add_zero, Nat.mod_eq_of_lt hf]
    have HR := hide hring
    have HAT := hide hat
    have HA := hide hA
    obtain ⟨xa, xc, hcv, -, hxs⟩ := (unhide H).row.form
    obtain ⟨gc, rfl⟩ := hxs (by omega)
    subst hcv
    have HC := hide (cellNws_walk g o _ f c ms (m :: q) cb 0 _ ((unhide H).below hA.bel) hl0 hm)
    rw [hmod] at HC
    have hrow := (unhide H).row.below hA.bel
    obtain ⟨vs, ib, hE, hce, hibs, -, -⟩ := hrow.at hat
    have hE0 := hE
    obtain ⟨qv, hvs, hq⟩ := hE0
    subst hvs
    obtain ⟨ya, yc, rfl, hy1, hy2⟩ := hq.form
    have y0 := (hce 0 _ rfl).1
    have y1 := (hce 1 _ rfl).1
    have z0 := (hce 0 _ rfl).2
    have z1 := (hce 1 _ rfl).2
    have HC1 := hide hc1
    have HIBS := hide hibs
    clear hcnt hring hat hmod hxs hE hce hibs hy1 hy2 hnz' hc1
    simp only [show f * nwsE.wd = f * 2 from rfl, Nat.add_zero] at y0 y1 z0 z1
    have d0 := (hA.bel.cell (World.block_lt_of_cell? _ _ c0)).trans c0
    have d1 := (hA.bel.cell (World.block_lt_of_cell? _ _ c1)).trans c1
    have kA := (hA.bel.block g (Array.getElem?_eq_some_iff.1 (unhide HK)).1).trans (unhide HK)
    have KA := hide kA
    have HROW := hide hrow
    have HQ := hide hq
    have hsz := hA.size
    have HBE := hide hA.bel
    clear hA kA hrow hq c0 c1 c2
    go_enter Tryz.func123, Tryz.ntmps123
    go_wp2_with fail
    generalize ((w.alloc (Obj.cells #[Value.int IntKind.i64 0, Value.slice none 0 0] 53)).alloc (Obj.cells #[Value.int IntKind.i64 0, Value.slice none 0 0] 53)) = wA at *
    refine (unhide HC).mono ?_
    rintro e w1 ⟨gd, rfl, hgd, n1, rfl⟩
    obtain rfl : gc = gd := Option.some.inj hgd
    clear hgd HC
    have n0 : wA.cell? ⟨w.heap.size + 1, 0, none⟩ = some (.int .i64 0) := Lib.cell_of_heap (unhide HA).k1 0
    have n1' : wA.cell? ⟨w.heap.size + 1, 1, none⟩ = some (.slice none 0 0) := Lib.cell_of_heap (unhide HA).k1 1
    have hb1 : Below wA.heap.size wA ((wA.drewN n1).alloc (Obj.cells #[Value.int IntKind.i64 m.ver, Value.slice ya m.ptrs.length yc] 53)) := below_next (draws_b wA n1) (alloc_b _ _)
    have kX : ((wA.drewN n1).alloc (Obj.cells #[Value.int IntKind.i64 m.ver, Value.slice ya m.ptrs.length yc] 53)).heap[w.heap.size + 1 + 1]? = some (Obj.cells #[Value.int IntKind.i64 m.ver, Value.slice ya m.ptrs.length yc] 53) := by rw [← hsz]; exact heap_alloc_new (wA.drewN n1) _
    have hs1 : ((wA.drewN n1).alloc (Obj.cells #[Value.int IntKind.i64 m.ver, Value.slice ya m.ptrs.length yc] 53)).heap.size = w.heap.size + 1 + 1 + 1 := by rw [← hsz]; simp
    have HB1 := hide hb1
    have KX := hide kX
    clear hb1 kX
    go_wp2_with fail
    generalize ((wA.drewN n1).alloc (Obj.cells #[Value.int IntKind.i64 m.ver, Value.slice ya m.ptrs.length yc] 53)) = w1 at *
    have hb1 := unhide HB1
    have d0' := (hb1.cell (World.block_lt_of_cell? _ _ d0)).trans d0
    have d1' := (hb1.cell (World.block_lt_of_cell? _ _ d1)).trans d1
    have d2' := (hb1.cell (World.block_lt_of_cell? _ _ d2)).trans d2
    have m0 := (hb1.cell (World.block_lt_of_cell? _ _ n0)).trans n0
    have m1 := (hb1.cell (World.block_lt_of_cell? _ _ n1')).trans n1'
    have s0 := (hb1.cell (World.block_lt_of_cell? _ _ y0)).trans y0
    have s1 := (hb1.cell (World.block_lt_of_cell? _ _ y1)).trans y1
    have t0 := (hb1.frozen (World.block_lt_of_cell? _ _ y0)).trans z0
    have t1 := (hb1.frozen (World.block_lt_of_cell? _ _ y1)).trans z1
    have k1 := (hb1.block g (Array.getElem?_eq_some_iff.1 (unhide KA)).1).trans (unhide KA)
    have row1 := (unhide HROW).below hb1
    have q1 := (unhide HQ).below hb1
    have hdr : Below w1.heap.size w1 w1.drew := (Below.refl _ _).drew
    have HC2 := hide (cellNws_walk g o _ f c ms (m :: q) cb 0 w1.drew ((RingAt.mk d0' d1' d2' row1 (unhide H).ring).below hdr) hl0 hm)
    rw [show (f + 0) % ms.length = f from by rw [Nat.add_zero, Nat.mod_eq_of_lt hf]] at HC2
    have K1 := hide k1
    have ROW1 := hide row1
    have Q1 := hide q1
    have R0 := hide ((hb1.block w.heap.size (by omega)).trans (unhide HA).k0)
    have BW1 := hide (below_next (unhide HBE) hb1)
    clear d0 d1 d2 n0 n1' y0 y1 z0 z1 hb1 HB1 k1 row1 q1 hdr KA HROW HQ HBE HA
    go_region_law (go_simp; refine (unhide HC2).mono ?_; rintro e w6 ⟨gd, rfl, hgd, n6, rfl⟩; obtain rfl : gd = gc := (Option.some.inj hgd).symm; have b6 : Below w1.heap.size w1 (w1.drew.drewN n6) := ⟨rfl, rfl, rfl, Nat.le_refl _, fun _ _ => rfl⟩; have m0' := (b6.cell (World.block_lt_of_cell? _ _ m0)).trans m0; have m1' := (b6.cell (World.block_lt_of_cell? _ _ m1)).trans m1; have s0' := (b6.cell (World.block_lt_of_cell? _ _ s0)).trans s0; have s1' := (b6.cell (World.block_lt_of_cell? _ _ s1)).trans s1; have t0' := (b6.frozen (World.block_lt_of_cell? _ _ s0)).trans t0; have t1' := (b6.frozen (World.block_lt_of_cell? _ _ s1)).trans t1)
    all_goals (
      have e6 : w1.drew.drewN n6 = w1.drewN (1 + n6) := by simp
      rw [e6] at b6
      have hgl : gd < w.heap.size := (unhide H).row.lt gd (by simp [Value.ownBlock])
      have hgw : g < w.heap.size := (Array.getElem?_eq_some_iff.1 (unhide HK)).1
      have row6 : ORow nwsE (w1.drewN (1 + n6)) (.slice (some ⟨gd, 0, none⟩) ms.length xc) ms (gd :: cb) := (unhide ROW1).below b6
      obtain ⟨cb', row7, sub7, on7⟩ := orow_putAll2 nws_ty (by decide) row6 (j := f) hf (vs := [.int .i64 0, .slice none 0 0]) (x := nws0) (ib := []) ⟨_, rfl, ORow.nil _ _⟩
      obtain ⟨w7, hw7⟩ : ∃ w7, w7 = (((w1.drewN (1 + n6)).setCell ⟨gd, f * 2, none⟩ (.int .i64 0)).setCell ⟨gd, f * 2 + 1, none⟩ (.slice none 0 0)) := ⟨_, rfl⟩
      have hw7' : w7 = putN (w1.drewN (1 + n6)) gd (f * 2) [.int .i64 0, .slice none 0 0] := hw7
      have tyG : ∃ cur, (w1.drewN (1 + n6)).heap[gd]? = some (.cells cur 53 (0, 0)) := by
        obtain ⟨cs9, hcs9⟩ := row6.own
        obtain ⟨cur, t, e1, e2⟩ := own_ty hcs9 gd (by simp [Value.ownBlock])
        simp at e2
        exact ⟨cur, by rw [e1, e2]; rfl⟩
      have k6 := (b6.block g (by omega)).trans (unhide K1)
      have hgg : g ≠ gd := fun e => by
        obtain ⟨cur, e1⟩ := tyG
        rw [e, e1] at k6
        injection k6 with k6; injection k6 with _ k6
        exact hT.1 k6.symm
      have hib : gd ∉ ib := fun hm => by
        obtain ⟨cur, e1⟩ := tyG
        obtain ⟨cur', t, e2, e3⟩ := ostr_ty ((unhide Q1).below b6) gd hm
        rw [e1] at e2
        injection e2 with e2; injection e2 with _ e2
        rw [← e2] at e3
        exact absurd e3 (by decide)
      have hgib : g ∉ ib := fun hm => by
        obtain ⟨cur', t, e2, e3⟩ := ostr_ty ((unhide Q1).below b6) g hm
        rw [k6] at e2
        injection e2 with e2; injection e2 with _ e2
        rw [← e2] at e3
        simp at e3
        exact hT.2 e3
      have k7 : w7.heap[g]? = some (.cells cs T (0, 0)) := by rw [hw7']; exact (putN_other hgg _ _).trans k6
      have q7 : OStr w7 (.slice ya m.ptrs.length yc) m.ptrs ib := by rw [hw7']; exact ((unhide Q1).below b6).putN hib _ _
      have x7 : w7.heap[w.heap.size + 1 + 1]? = some (.cells #[.int .i64 m.ver, .slice ya m.ptrs.length yc] 53) := by rw [hw7']; exact (putN_other (by omega) _ _).trans ((b6.block _ (by omega)).trans (unhide KX))
      have r7 : w7.heap[w.heap.size]? = some (.cells #[.int .i64 0, .slice none 0 0] 53) := by rw [hw7']; exact (putN_other (by omega) _ _).trans ((b6.block _ (by omega)).trans (unhide R0))
      have hs7 : w7.heap.size = w.heap.size + 1 + 1 + 1 := by rw [hw7]; simp [World.setCell]; exact hs1
      have fr7 : Fr [g, gd] w w7 := by
        rw [hw7']
        exact ((Fr.of_below (unhide BW1)).next b6).trans ⟨rfl, rfl, rfl, by simp [putN, World.setCell], fun k _ hn => putN_other (fun e => hn (by simp [e])) _ _⟩
      have row7' : ORow nwsE w7 (.slice (some ⟨gd, 0, none⟩) ms.length xc) (ms.set f nws0) (gd :: cb') := by rw [hw7']; exact row7
      have hgcb : g ∉ gd :: cb' := fun hm => by
        obtain ⟨cur', t, e2, e3⟩ := orow_ty (e := nwsE) nws_ty row7' g hm
        rw [k7] at e2
        injection e2 with e2; injection e2 with _ e2
        rw [← e2] at e3
        simp at e3
        rcases e3 with e3 | e3
        · exact hT.1 e3
        · exact hT.2 e3
      have c0e : cs[o]? = some (.slice (some ⟨gd, 0, none⟩) ms.length xc) := (Lib.cell_of_heap (unhide K1) o).symm.trans d0'
      have c1e : cs[o + 1]? = some (.int .i64 (f : Int)) := (Lib.cell_of_heap (unhide K1) (o + 1)).symm.trans d1'
      have c2e : cs[o + 2]? = some (.int .i64 (c : Int)) := (Lib.cell_of_heap (unhide K1) (o + 2)).symm.trans d2'
      have a0 := (Lib.cell_of_heap k7 o).trans c0e
      have a1 := (Lib.cell_of_heap k7 (o + 1)).trans c1e
      have fz := Lib.frozen_of_heap k7 (o + 1)
      have HW7 := hide hw7
      rw [← unhide HW7]
      have u2 : ((f : Int) + 1) % (ms.length : Int) = (((f + 1) % ms.length : Nat) : Int) := by rw [Int.natCast_emod, Int.natCast_add]; rfl
      have u1 : ((f : Int) + 1).tmod (ms.length : Int) = (((f + 1) % ms.length : Nat) : Int) := by rw [Int.tmod_eq_emod_of_nonneg (by omega)]; exact u2
      have hwr : IntKind.i64.wrap ((f : Int) + 1) = (f : Int) + 1 := by rw [IntKind.wrap_i64]; omega
      have nz : ((ms.length : Int) = 0) = False := eq_false (by omega)
      have nz' : (ms.length = 0) = False := eq_false (by omega)
      have hrl : (f + 1) % ms.length < ms.length := Nat.mod_lt _ (by omega)
      generalize hr : (f + 1) % ms.length = r at *
      have HRR := hide hr
      clear hr
      have K7 := hide k7
      have Q7 := hide q7
      have X7 := hide x7
      have R7 := hide r7
      have FR7 := hide fr7
      have ROW7 := hide row7'
      have SUB7 := hide sub7
      have ON7 := hide on7
      have C2E := hide c2e
      clear hw7 hw7' HW7 k6 k7 q7 x7 r7 fr7 row7 row7' row6 sub7 on7 tyG c0e c1e c2e HC2 m0 m1 m0' m1' s0 s1 s0' s1' t0 t1 t0' t1' d0' d1' d2' b6 e6 K1 Q1 R0 BW1 KX ROW1 hgd
      go_wp2_with fail
      go_region_law (fail))
    all_goals (
      have k8 : ((w7.setCell ⟨g, o + 1, none⟩ (.int .i64 (r : Int))).drew).heap[g]? = some (.cells (cs.setIfInBounds (o + 1) (.int .i64 (r : Int))) T (0, 0)) := heap_setCell_same w7 g (o + 1) cs T (.int .i64 (r : Int)) (unhide K7)
      have oth : ∀ k, k ≠ g → ((w7.setCell ⟨g, o + 1, none⟩ (.int .i64 (r : Int))).drew).heap[k]? = w7.heap[k]? := fun k hk => Below.heap_setCell w7 ⟨g, o + 1, none⟩ (.int .i64 (r : Int)) k (by simpa using hk)
      have x8 := (oth (w.heap.size + 1 + 1) (by omega)).trans (unhide X7)
      have r8 := (oth w.heap.size (by omega)).trans (unhide R7)
      have q8 : OStr ((w7.setCell ⟨g, o + 1, none⟩ (.int .i64 (r : Int))).drew) (.slice ya m.ptrs.length yc) m.ptrs ib := (unhide Q7).keep fun b hb => oth b fun e => hgib (e ▸ hb)
      have row8 : ORow nwsE ((w7.setCell ⟨g, o + 1, none⟩ (.int .i64 (r : Int))).drew) (.slice (some ⟨gd, 0, none⟩) ms.length xc) (ms.set f nws0) (gd :: cb') := (unhide ROW7).keep fun b hb => oth b fun e => hgcb (e ▸ hb)
      have fr8 : Fr [g, gd] w ((w7.setCell ⟨g, o + 1, none⟩ (.int .i64 (r : Int))).drew) := ((unhide FR7).set (g := g) (by simp) (o + 1) (.int .i64 (r : Int))).drew
      have hs8 : ((w7.setCell ⟨g, o + 1, none⟩ (.int .i64 (r : Int))).drew).heap.size = w.heap.size + 1 + 1 + 1 := by rw [← hs7]; simp [World.setCell]
      have c2e : (cs.setIfInBounds (o + 1) (.int .i64 (r : Int)))[o + 2]? = some (.int .i64 (c : Int)) := by
        rw [Array.getElem?_setIfInBounds_ne (by omega)]; exact unhide C2E
      have a2 := (Lib.cell_of_heap k8 (o + 2)).trans c2e
      have f2 := Lib.frozen_of_heap k8 (o + 2)
      have p0 : ((w7.setCell ⟨g, o + 1, none⟩ (.int .i64 (r : Int))).drew).cell? ⟨w.heap.size + 1 + 1, 0, none⟩ = some (.int .i64 m.ver) := Lib.cell_of_heap x8 0
      have p1 : ((w7.setCell ⟨g, o + 1, none⟩ (.int .i64 (r : Int))).drew).cell? ⟨w.heap.size + 1 + 1, 1, none⟩ = some (.slice ya m.ptrs.length yc) := Lib.cell_of_heap x8 1
      have r0 : ((w7.setCell ⟨g, o + 1, none⟩ (.int .i64 (r : Int))).drew).cell? ⟨w.heap.size, 0, none⟩ = some (.int .i64 0) := Lib.cell_of_heap r8 0
      have r1 : ((w7.setCell ⟨g, o + 1, none⟩ (.int .i64 (r : Int))).drew).cell? ⟨w.heap.size, 1, none⟩ = some (.slice none 0 0) := Lib.cell_of_heap r8 1
      have fr := Lib.frozen_of_heap r8
      have hwc : IntKind.i64.wrap ((c : Int) - 1) = (c : Int) - 1 := by
        have := unhide HC1; have := (unhide H).ring.le
        rw [IntKind.wrap_i64]; omega
      have hcm : (c : Int) - 1 = ((c - 1 : Nat) : Int) := by have := unhide HC1; omega
      have hw64 : wrap64 ((c - 1 : Nat) : Int) = ((c - 1 : Nat) : Int) := by
        have := unhide HC1; have := (unhide H).ring.le
        unfold wrap64; omega
      have hgx : w.heap.size + 1 + 1 ≠ g := by omega
      have hgr : w.heap.size ≠ g := by omega
      have K8 := hide k8
      have X8 := hide x8
      have R8 := hide r8
      have Q8 := hide q8
      have ROW8 := hide row8
      have FR8 := hide fr8
      clear k8 oth x8 r8 q8 row8 fr8 c2e K7 X7 R7 Q7 ROW7 FR7 a0 a1 fz u1 u2 nz nz' hwr hs7 C2E
      generalize (w7.setCell ⟨g, o + 1, none⟩ (.int .i64 (r : Int))).drew = w8 at *
      go_wp2
      have k9 := heap_setCell_same w8 g (o + 2) _ T (.int .i64 ((c - 1 : Nat) : Int)) (unhide K8)
      have oth9 : ∀ k, k ≠ g → (w8.setCell ⟨g, o + 2, none⟩ (.int .i64 ((c - 1 : Nat) : Int))).heap[k]? = w8.heap[k]? := fun k hk => Below.heap_setCell w8 ⟨g, o + 2, none⟩ (.int .i64 ((c - 1 : Nat) : Int)) k (by simpa using hk)
      have r9 := (oth9 w.heap.size hgr).trans (unhide R8)
      have hil : ∀ b ∈ ib, b < w.heap.size := fun b hb => (unhide H).row.lt b (unhide HIBS b hb)
      have hcl : ∀ b ∈ cb', b < w.heap.size := fun b hb => (unhide H).row.lt b (List.mem_append.2 (.inr (by have := unhide SUB7 b hb; simpa using this)))
      refine bodyPost_ret (results_cell_tmp rfl _ _ w.heap.size 53 #[_, _] (0, 0) _ _ rfl rfl (putN_full r9 [_, _] rfl) Tryz.underlying53 rfl (by kernel_rfl)) rfl ?_
      rw [unhide HRR]
      refine .inr ⟨m, q, gd, .slice ya m.ptrs.length yc, ib, cb', rfl, rfl, rfl, ?_, ?_, fun b hb => by have := unhide SUB7 b hb; simpa using this, ?_, unhide HR, ?_, ?_⟩
      · exact ((unhide Q8).other hgib (o + 2) _).putN (fun hm => by have := hil _ hm; omega) [_, _] 0
      · exact ((unhide ROW8).other hgcb (o + 2) _).putN (fun hm => by
          rcases List.mem_cons.1 hm with h1 | h1
          · omega
          · have := hcl _ h1; omega) [_, _] 0
      · exact fun h1 => unhide ON7 h1 (Once.nil _) (fun b hb => by simp at hb)
      · exact (putN_other (g := w.heap.size) (k := g) (by omega) [_, _] 0).trans k9
      · exact ((unhide FR8).set (g := g) (by simp) (o + 2) _).trans' (bl' := [w.heap.size]) ⟨rfl, rfl, rfl, by simp [World.setCell], fun k _ hn => putN_other (fun e => hn (by simp [e])) [_, _] 0⟩ (fun i hi => .inr (by simp at hi; omega)))
end Go.Proofs.YtlfonikfjibloaaGreatDoor

namespace Go.Proofs.YtlfonikfjibloaaGreatDoor
open Go.RowKit

/-- The watches of which the first k were told. -/
def toldK (n : Int) (ss : List ByteArray) (ws : List Wat) (k : Nat) : List (Wat × Bool) := (ws.take k).map (fun m => (tellW m n ss, false)) ++ (ws.drop k).map (fun m => (m, true))
theorem toldK_len (n : Int) (ss : List ByteArray) (ws : List Wat) (k : Nat) : (toldK n ss ws k).length = ws.length := by
  unfold toldK; rw [List.length_append, List.length_map, List.length_map, List.length_take, List.length_drop]; omega
theorem toldK_zero (n : Int) (ss : List ByteArray) (ws : List Wat) : toldK n ss ws 0 = ws.map (fun m => (m, true)) := by simp [toldK]
theorem toldK_at {n : Int} {ss : List ByteArray} {ws : List Wat} {k : Nat} (hk : k < ws.length) : (toldK n ss ws k)[k]? = some (ws[k], true) := by
  unfold toldK
  rw [List.getElem?_append_right (by simp; omega)]
  simp [hk, Nat.min_eq_left (Nat.le_of_lt hk)]
theorem toldK_set {n : Int} {ss : List ByteArray} {ws : List Wat} {k : Nat} (hk : k < ws.length) : (toldK n ss ws k).set k (tellW ws[k] n ss, false) = toldK n ss ws (k + 1) := by
  unfold toldK
  have hl : ((ws.take k).map (fun m => (tellW m n ss, false))).length = k := by simp; omega
  rw [List.set_append_right _ _ (by omega), hl, Nat.sub_self, List.drop_eq_getElem_cons hk, List.map_cons, List.set_cons_zero, List.take_add_one, List.getElem?_eq_getElem hk, List.map_append, List.append_assoc]
  rfl
theorem toldK_end (n : Int) (ss : List ByteArray) (ws : List Wat) : (toldK n ss ws (min ws.length 100)).map (·.1) = (ws.take 100).map (fun m => tellW m n ss) ++ ws.drop 100 := by
  unfold toldK
  rw [List.map_append, List.map_map, List.map_map]
  by_cases h : ws.length ≤ 100
  · rw [Nat.min_eq_left h, List.take_of_length_le h, List.drop_of_length_le h, List.take_length, List.drop_length]
    simp
  · rw [Nat.min_eq_right (by omega)]
    congr 1
    exact List.map_id _

/-- A board whose news is told: what holds between two watchers. -/
structure DS (D : Nat) (w : World) (B : Nat) (pv cv : Value) (f c : Nat) (ns : List Nws) (cb : List Nat) (xv : Value) (ss : List ByteArray) (xs : List (Wat × Bool)) (wr : World) : Prop where
  bel : Below D w wr
  hD : D ≤ wr.heap.size
  ko : wr.heap[B]? = some (.cells #[pv, cv, .int .i64 (f : Int), .int .i64 (c : Int)] 141 (0, 0))
  o1 : ∃ cbk, ORow (wtrT D) wr pv xs (pv.ownBlock.toList ++ cbk) ∧ Once D cbk
  o2 : ORow nwsE wr cv ns (cv.ownBlock.toList ++ cb)
  os : ∃ bl, OStr wr xv ss bl
section
variable {D : Nat} {w : World} {B : Nat} {pv cv : Value} {f c : Nat} {ns : List Nws} {cb : List Nat} {xv : Value} {ss : List ByteArray} {xs : List (Wat × Bool)} {wr : World}
theorem DS.below (h : DS D w B pv cv f c ns cb xv ss xs wr) {w' : World} (hb : Below wr.heap.size wr w') : DS D w B pv cv f c ns cb xv ss xs w' := by
  obtain ⟨cbk, h1, h2⟩ := h.o1
  obtain ⟨bl, h3⟩ := h.os
  exact ⟨h.bel.trans (hb.mono h.hD), Nat.le_trans h.hD hb.size, (hb.block B (Array.getElem?_eq_some_iff.1 h.ko).1).trans h.ko, ⟨cbk, h1.below hb, h2⟩, h.o2.below hb, ⟨bl, h3.below hb⟩⟩
theorem DS.step (h : DS D w B pv cv f c ns cb xv ss xs wr) {gp n pc : Nat} (hpv : pv = .slice (some ⟨gp, 0, none⟩) n pc) {k : Nat} {m : Wat} (hx : xs[k]? = some (m, true)) (ver : Int) :
    ∃ g cw cbw, wr.cell? ⟨gp, k, none⟩ = some (.pointer (some ⟨g, 0, none⟩)) ∧ wr.heap[g]? = some (.cells #[.int .i64 m.client, .string m.ptr, .int .i64 m.cap, .int .i64 m.since, .bool m.closed, .slice none 0 0, cw, .int .i64 0, .int .i64 (m.queue.length : Int)] 225 (0, 0)) ∧ ORow msgE wr cw m.queue (cw.ownBlock.toList ++ cbw) ∧ m.queue.length ≤ 1048577 ∧
      ∀ w', Heard wr g m (tellW m ver ss) cw cbw w' → DS D w B pv cv f c ns cb xv ss (xs.set k (tellW m ver ss, false)) w' := by
  subst hpv
  obtain ⟨cbk, h1, h2⟩ := h.o1
  obtain ⟨bl, h3⟩ := h.os
  obtain ⟨g, cw, cbw, hc, hk, ho, hl, hDg, _, hst⟩ := told_step h1 h2 h.hD hx ver ss
  refine ⟨g, cw, cbw, hc, hk, ho, hl, fun w' hh => ?_⟩
  obtain ⟨cbk', h1', h2', _⟩ := hst w' hh
  have hBg : B ≠ g := fun e => by
    have := h.ko
    rw [e, hk] at this
    injection this with this; injection this with _ this
    exact absurd this (by decide)
  have hn2 := ty_notg (nwss_ty h.o2) hk (by decide)
  have hn3 := ty_notg (ostr_ty h3) hk (by decide)
  refine ⟨h.bel.trans (hh.fr.below (fun b hb => by simp at hb; omega) h.hD), Nat.le_trans h.hD hh.fr.size, (hh.fr.block B (Array.getElem?_eq_some_iff.1 h.ko).1 (by simpa using hBg)).trans h.ko, ⟨cbk', h1', h2'⟩, h.o2.keep (hh.fr.kp h.o2.lt fun b hb hm => ?_), ⟨bl, h3.keep (hh.fr.kp h3.lt fun b hb hm => ?_)⟩⟩
  · simp at hm; subst hm; exact hn2 hb
  · simp at hm; subst hm; exact hn3 hb
theorem DS.texts {ver : Int} {ws : List Wat} (h : DS D w B pv cv f c ns cb xv ss (toldK ver ss ws 0) wr) {xv' : Value} {ss' : List ByteArray} {bl : List Nat} (ho : OStr wr xv' ss' bl) : DS D w B pv cv f c ns cb xv' ss' (toldK ver ss' ws 0) wr :=
  ⟨h.bel, h.hD, h.ko, by rw [toldK_zero, ← toldK_zero ver ss]; exact h.o1, h.o2, ⟨bl, ho⟩⟩
theorem DS.brd (h : DS D w B pv cv f c ns cb xv ss xs wr) {q : List Nws} (hr : RingIs ns f c q) (hl : ns.length ≤ 4000000) : ∃ bw, Brd wr B ⟨xs.map (·.1), q⟩ pv cv f c ns cb bw := by
  obtain ⟨cbk, h1, h2⟩ := h.o1
  exact ⟨_, h.ko, ORow.conv (e := wtrT D) (e' := wtrE) (fun x : Wat × Bool => x.1) rfl rfl (fun hE => wtrT_wtrE hE) h1, h.o2, hr, hl⟩
end
/-- The pop of the news leaves the watchers. -/
theorem DS.start {D : Nat} {w w2 : World} {B : Nat} {pv cv : Value} {ver : Int} {f c f' c' gc : Nat} {h : Hb} {ns ns' : List Nws} {cb bw cbk cb' ib : List Nat} {a1 : Value} {ss : List ByteArray} (hb : Brd w B h pv cv f c ns cb bw) (hw : ORow (wtrF D) w pv h.watches (pv.ownBlock.toList ++ cbk)) (hon : Once 0 cbk) (hD : D ≤ w.heap.size) (hDB : D ≤ B) (hgc : cv.ownBlock = some gc) (hcv : D ≤ gc)
    (hfr : Fr [B, gc] w w2) (k2 : w2.heap[B]? = some (.cells #[pv, cv, .int .i64 (f' : Int), .int .i64 (c' : Int)] 141 (0, 0))) (o2 : ORow nwsE w2 cv ns' (gc :: cb')) (oa : OStr w2 a1 ss ib) : DS D w B pv cv f' c' ns' cb' a1 ss (toldK ver ss h.watches 0) w2 := by
  have hn1 : B ∉ pv.ownBlock.toList ++ cbk := ty_notg (orow_ty (e := wtrF D) wtrF_ty hw) hb.ko (by show 141 ∉ (223 :: _); decide)
  obtain ⟨cs, hcs⟩ := hb.o2.own
  obtain ⟨cur, t, e1, e2⟩ := own_ty hcs gc (by simp [hgc])
  have e2' : t = 53 := by
    have h9 : t = nwsE.T := by simpa using e2
    exact h9
  subst e2'
  have hn2 : gc ∉ pv.ownBlock.toList ++ cbk := ty_notg (orow_ty (e := wtrF D) wtrF_ty hw) e1 (by show 53 ∉ (223 :: _); decide)
  have hw2 := hw.keep (hfr.kp hw.lt fun b hbm hm => by
    simp at hm
    rcases hm with rfl | rfl
    · exact hn1 hbm
    · exact hn2 hbm)
  refine ⟨hfr.below (fun b hm => by simp at hm; rcases hm with rfl | rfl <;> assumption) hD, Nat.le_trans hD hfr.size, k2, ⟨cbk, ?_, ?_⟩, by rw [hgc]; exact o2, ⟨ib, oa⟩⟩
  · rw [toldK_zero]
    exact ORow.conv (e' := wtrT D) (fun m => (m, true)) rfl rfl (fun hE => .inl ⟨rfl, hE⟩) hw2
  · exact (once_zero.1 hon).sublist List.filter_sublist
end Go.Proofs.YtlfonikfjibloaaGreatDoor

namespace Go.Proofs.YtlfonikfjibloaaGreatDoor
open Go.RowKit

theorem tot_filter (p : ByteArray → Bool) : ∀ ss : List ByteArray, tot (ss.filter p) ≤ tot ss
  | [] => by simp [tot]
  | s :: r => by
    have := tot_filter p r
    unfold tot at *
    rw [List.filter_cons]
    cases p s <;> simp <;> omega
theorem szStr_filter (p : ByteArray → Bool) (ss : List ByteArray) : szStr (ss.filter p) ≤ szStr ss := by
  have h1 := tot_filter p ss
  have h2 := List.length_filter_le p ss
  unfold szStr; omega
theorem szStr_near (m : Wat) (ss : List ByteArray) : szStr (nearW m ss) ≤ szStr ss := by
  unfold nearW
  split
  · exact szStr_filter _ _
  · simp [szStr, tot]
theorem szMsgs_snoc (q : List Msg) (x : Msg) : szMsgs (q ++ [x]) = szMsgs q + 1 + szMsg x := by
  unfold szMsgs; simp; omega
theorem szWat_tell (m : Wat) (ver : Int) (ss : List ByteArray) : szWat (tellW m ver ss) ≤ szWat m + (1 + szStr ss) := by
  have h1 := szStr_near m ss
  have h0 : szStr ([] : List ByteArray) = 0 := rfl
  unfold tellW
  split
  · omega
  · split
    · show m.ptr.size + szMsgs (m.queue ++ [⟨ver, nearW m ss, false⟩]) ≤ _
      rw [szMsgs_snoc]
      show m.ptr.size + (szMsgs m.queue + 1 + szStr (nearW m ss)) ≤ m.ptr.size + szMsgs m.queue + (1 + szStr ss)
      omega
    · show m.ptr.size + szMsgs (m.queue ++ [⟨ver, [], true⟩]) ≤ _
      rw [szMsgs_snoc]
      show m.ptr.size + (szMsgs m.queue + 1 + szStr []) ≤ m.ptr.size + szMsgs m.queue + (1 + szStr ss)
      omega
theorem sum_told (f : Wat → Wat) (K : Nat) (hf : ∀ m, szWat (f m) ≤ szWat m + K) : ∀ ws : List Wat, ((ws.map f).map szWat).sum ≤ (ws.map szWat).sum + ws.length * K
  | [] => by simp
  | m :: r => by
    have h1 := sum_told f K hf r
    have h2 := hf m
    simp only [List.map_cons, List.sum_cons, List.length_cons, Nat.add_mul]
    omega
theorem hub_parts {h : Hb} (hs : szHb h ≤ 1048576) : (∀ x ∈ h.watches, szWat x ≤ 1048576) ∧ (∀ x ∈ h.waiting, szNws x ≤ 1048576) ∧ h.watches.length ≤ 1048576 ∧ h.waiting.length ≤ 1048576 := by
  have hz1 : szWats h.watches ≤ 1048576 := by unfold szHb at hs; omega
  have hz2 : szNwss h.waiting ≤ 1048576 := by unfold szHb at hs; omega
  refine ⟨fun x hx => ?_, fun x hx => ?_, by unfold szWats at hz1; omega, by unfold szNwss at hz2; omega⟩
  · obtain ⟨k, hk, rfl⟩ := List.mem_iff_getElem.1 hx
    have h1 := sum_take_snoc szWat h.watches k h.watches[k] (List.getElem?_eq_getElem hk)
    have h2 := sum_take_le (h.watches.map szWat) (k + 1)
    rw [← List.map_take] at h2
    unfold szWats at hz1; omega
  · obtain ⟨k, hk, rfl⟩ := List.mem_iff_getElem.1 hx
    have h1 := sum_take_snoc szNws h.waiting k h.waiting[k] (List.getElem?_eq_getElem hk)
    have h2 := sum_take_le (h.waiting.map szNws) (k + 1)
    rw [← List.map_take] at h2
    unfold szNwss at hz2; omega
theorem dispH_sz {h : Hb} (hs : szHb h ≤ 1048576) : szHb (dispH h) ≤ 107000000 ∧ (∀ x ∈ (dispH h).watches, szWat x ≤ 2097154) ∧ (∀ x ∈ (dispH h).waiting, x.ptrs.length ≤ 1048577) ∧ (dispH h).watches.length ≤ 2097154 ∧ (dispH h).waiting.length ≤ 2097154 := by
  obtain ⟨p1, p2, p3, p4⟩ := hub_parts hs
  have hl : ∀ x ∈ h.waiting, x.ptrs.length ≤ 1048577 := fun x hx => by have := p2 x hx; unfold szNws szStr at this; omega
  unfold dispH
  cases hw : h.waiting with
  | nil => exact ⟨by show szHb h ≤ _; omega, fun x hx => by have := p1 x hx; omega, fun x hx => hl x hx, by show h.watches.length ≤ _; omega, by show h.waiting.length ≤ _; omega⟩
  | cons n q =>
    have hn := p2 n (by rw [hw]; simp)
    have hK : ∀ m : Wat, szWat (tellW m n.ver (n.ptrs.filter fun s => (ptoks s.data.toList).isSome)) ≤ szWat m + 1048577 := fun m => by
      have h1 := szWat_tell m n.ver (n.ptrs.filter fun s => (ptoks s.data.toList).isSome)
      have h2 := szStr_filter (fun s => (ptoks s.data.toList).isSome) n.ptrs
      unfold szNws at hn; omega
    have h1 := sum_told _ 1048577 hK (h.watches.take 100)
    have h2 : (h.watches.take 100).length ≤ 100 := by rw [List.length_take]; omega
    have h3 : ((h.watches.take 100).map szWat).sum + ((h.watches.drop 100).map szWat).sum = (h.watches.map szWat).sum := by
      rw [← List.sum_append, ← List.map_append, List.take_append_drop]
    have h4 : (h.watches.take 100).length * 1048577 ≤ 100 * 1048577 := Nat.mul_le_mul_right _ h2
    have hlen : (dispW n h.watches).length = h.watches.length := by unfold dispW; simp; omega
    have hq : szNwss q ≤ szNwss h.waiting := by rw [hw]; unfold szNwss; simp; omega
    refine ⟨?_, fun x hx => ?_, fun x hx => hl x (by rw [hw]; exact List.mem_cons_of_mem _ hx), by simp only; omega, by rw [hw] at p4; simp at p4 ⊢; omega⟩
    · show szWats (dispW n h.watches) + szNwss q ≤ 107000000
      have h5 : szWats (dispW n h.watches) ≤ szWats h.watches + 104857700 := by
        unfold szWats
        rw [hlen]
        unfold dispW
        rw [List.map_append, List.sum_append]
        omega
      unfold szHb at hs
      omega
    · have hx' : x ∈ dispW n h.watches := hx
      unfold dispW at hx'
      rcases List.mem_append.1 hx' with hx' | hx'
      · obtain ⟨m, hm, rfl⟩ := List.mem_map.1 hx'
        have h6 := p1 m (List.mem_of_mem_take hm)
        have h7 := hK m
        omega
      · have h6 := p1 x (List.mem_of_mem_drop hx')
        omega
end Go.Proofs.YtlfonikfjibloaaGreatDoor
