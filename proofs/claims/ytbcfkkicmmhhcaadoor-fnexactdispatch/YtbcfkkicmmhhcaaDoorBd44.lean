import Derived.Test.YtbcfkkicmmhhcaaDoorBd41
import Derived.Test.YtbcfkkicmmhhcaaDoorBd42
import Derived.Test.YtbcfkkicmmhhcaaDoorBd43
import Derived.Test.YtbcfkkicmmhhcaaDoorBd38
import Derived.Test.YtbcfkkicmmhhcaaDoorBd36
namespace Go.Proofs.YtbcfkkicmmhhcaaDoor
open Go.RowKit

/-- The watches of which the first k were told. -/
def toldK (n : Int) (ss : List ByteArray) (ws : List Wat) (k : Nat) : List (Wat × Bool) := (ws.take k).map (fun m => (tellW m n ss, false)) ++ (ws.drop k).map (fun m => (m, true))
theorem toldK_len (n : Int) (ss : List ByteArray) (ws : List Wat) (k : Nat) : (toldK n ss ws k).length = ws.length := by
  unfold toldK; rw [List.length_append, List.length_map, List.length_map, List.length_take, List.length_drop]; omega
theorem toldK_zero (n : Int) (ss : List ByteArray) (ws : List Wat) : toldK n ss ws 0 = ws.map (fun m => (m, true)) := by simp [toldK]
theorem toldK_at {n : Int} {ss : List ByteArray} {ws : List Wat} {k : Nat} (hk : k < ws.length) : (toldK n ss ws k)[k]? = some (ws[k], true) := by
  unfold toldK
  rw [List.getElem?_append_right (by simp; omega)]
  simp [hk, Nat.min_eq_left (Nat.le_of_lt hk)]
theorem toldK_set {n : Int} {ss : List ByteArray} {ws : List Wat} {k : Nat} (hk : k < ws.length) : (toldK n ss ws k).set k (tellW ws[k] n ss, false) = toldK n ss ws (k + 1) := by
  unfold toldK
  have hl : ((ws.take k).map (fun m => (tellW m n ss, false))).length = k := by simp; omega
  rw [List.set_append_right _ _ (by omega), hl, Nat.sub_self, List.drop_eq_getElem_cons hk, List.map_cons, List.set_cons_zero, List.take_add_one, List.getElem?_eq_getElem hk, List.map_append, List.append_assoc]
  rfl
theorem toldK_end (n : Int) (ss : List ByteArray) (ws : List Wat) : (toldK n ss ws (min ws.length 100)).map (·.1) = (ws.take 100).map (fun m => tellW m n ss) ++ ws.drop 100 := by
  unfold toldK
  rw [List.map_append, List.map_map, List.map_map]
  by_cases h : ws.length ≤ 100
  · rw [Nat.min_eq_left h, List.take_of_length_le h, List.drop_of_length_le h, List.take_length, List.drop_length]
    simp
  · rw [Nat.min_eq_right (by omega)]
    congr 1
    exact List.map_id _

/-- A board whose news is told: what holds between two watchers. -/
structure DS (D : Nat) (w : World) (B : Nat) (pv cv : Value) (f c : Nat) (ns : List Nws) (cb : List Nat) (xv : Value) (ss : List ByteArray) (xs : List (Wat × Bool)) (wr : World) : Prop where
  bel : Below D w wr
  hD : D ≤ wr.heap.size
  ko : wr.heap[B]? = some (.cells #[pv, cv, .int .i64 (f : Int), .int .i64 (c : Int)] 110 (0, 0))
  o1 : ∃ cbk, ORow (wtrT D) wr pv xs (pv.ownBlock.toList ++ cbk) ∧ Once D cbk
  o2 : ORow nwsE wr cv ns (cv.ownBlock.toList ++ cb)
  os : ∃ bl, OStr wr xv ss bl
section
variable {D : Nat} {w : World} {B : Nat} {pv cv : Value} {f c : Nat} {ns : List Nws} {cb : List Nat} {xv : Value} {ss : List ByteArray} {xs : List (Wat × Bool)} {wr : World}
theorem DS.below (h : DS D w B pv cv f c ns cb xv ss xs wr) {w' : World} (hb : Below wr.heap.size wr w') : DS D w B pv cv f c ns cb xv ss xs w' := by
  obtain ⟨cbk, h1, h2⟩ := h.o1
  obtain ⟨bl, h3⟩ := h.os
  exact ⟨h.bel.trans (hb.mono h.hD), Nat.le_trans h.hD hb.size, (hb.block B (Array.getElem?_eq_some_iff.1 h.ko).1).trans h.ko, ⟨cbk, h1.below hb, h2⟩, h.o2.below hb, ⟨bl, h3.below hb⟩⟩
theorem DS.step (h : DS D w B pv cv f c ns cb xv ss xs wr) {gp n pc : Nat} (hpv : pv = .slice (some ⟨gp, 0, none⟩) n pc) {k : Nat} {m : Wat} (hx : xs[k]? = some (m, true)) (ver : Int) :
    ∃ g cw cbw, wr.cell? ⟨gp, k, none⟩ = some (.pointer (some ⟨g, 0, none⟩)) ∧ wr.heap[g]? = some (.cells #[.int .i64 m.client, .string m.ptr, .int .i64 m.cap, .int .i64 m.since, .bool m.closed, .slice none 0 0, cw, .int .i64 0, .int .i64 (m.queue.length : Int)] 118 (0, 0)) ∧ ORow msgE wr cw m.queue (cw.ownBlock.toList ++ cbw) ∧ m.queue.length ≤ 1048577 ∧
      ∀ w', Heard wr g m (tellW m ver ss) cw cbw w' → DS D w B pv cv f c ns cb xv ss (xs.set k (tellW m ver ss, false)) w' := by
  subst hpv
  obtain ⟨cbk, h1, h2⟩ := h.o1
  obtain ⟨bl, h3⟩ := h.os
  obtain ⟨g, cw, cbw, hc, hk, ho, hl, hDg, _, hst⟩ := told_step h1 h2 h.hD hx ver ss
  refine ⟨g, cw, cbw, hc, hk, ho, hl, fun w' hh => ?_⟩
  obtain ⟨cbk', h1', h2', _⟩ := hst w' hh
  have hBg : B ≠ g := fun e => by
    have := h.ko
    rw [e, hk] at this
    injection this with this; injection this with _ this
    exact absurd this (by decide)
  have hn2 := ty_notg (nwss_ty h.o2) hk (by decide)
  have hn3 := ty_notg (ostr_ty h3) hk (by decide)
  refine ⟨h.bel.trans (hh.fr.below (fun b hb => by simp at hb; omega) h.hD), Nat.le_trans h.hD hh.fr.size, (hh.fr.block B (Array.getElem?_eq_some_iff.1 h.ko).1 (by simpa using hBg)).trans h.ko, ⟨cbk', h1', h2'⟩, h.o2.keep (hh.fr.kp h.o2.lt fun b hb hm => ?_), ⟨bl, h3.keep (hh.fr.kp h3.lt fun b hb hm => ?_)⟩⟩
  · simp at hm; subst hm; exact hn2 hb
  · simp at hm; subst hm; exact hn3 hb
theorem DS.texts {ver : Int} {ws : List Wat} (h : DS D w B pv cv f c ns cb xv ss (toldK ver ss ws 0) wr) {xv' : Value} {ss' : List ByteArray} {bl : List Nat} (ho : OStr wr xv' ss' bl) : DS D w B pv cv f c ns cb xv' ss' (toldK ver ss' ws 0) wr :=
  ⟨h.bel, h.hD, h.ko, by rw [toldK_zero, ← toldK_zero ver ss]; exact h.o1, h.o2, ⟨bl, ho⟩⟩
theorem DS.brd (h : DS D w B pv cv f c ns cb xv ss xs wr) {q : List Nws} (hr : RingIs ns f c q) (hl : ns.length ≤ 4000000) : ∃ bw, Brd wr B ⟨xs.map (·.1), q⟩ pv cv f c ns cb bw := by
  obtain ⟨cbk, h1, h2⟩ := h.o1
  exact ⟨_, h.ko, ORow.conv (e := wtrT D) (e' := wtrE) (fun x : Wat × Bool => x.1) rfl rfl (fun hE => wtrT_wtrE hE) h1, h.o2, hr, hl⟩
end
/-- The pop of the news leaves the watchers. -/
theorem DS.start {D : Nat} {w w2 : World} {B : Nat} {pv cv : Value} {ver : Int} {f c f' c' gc : Nat} {h : Hb} {ns ns' : List Nws} {cb bw cbk cb' ib : List Nat} {a1 : Value} {ss : List ByteArray} (hb : Brd w B h pv cv f c ns cb bw) (hw : ORow (wtrF D) w pv h.watches (pv.ownBlock.toList ++ cbk)) (hon : Once 0 cbk) (hD : D ≤ w.heap.size) (hDB : D ≤ B) (hgc : cv.ownBlock = some gc) (hcv : D ≤ gc)
    (hfr : Fr [B, gc] w w2) (k2 : w2.heap[B]? = some (.cells #[pv, cv, .int .i64 (f' : Int), .int .i64 (c' : Int)] 110 (0, 0))) (o2 : ORow nwsE w2 cv ns' (gc :: cb')) (oa : OStr w2 a1 ss ib) : DS D w B pv cv f' c' ns' cb' a1 ss (toldK ver ss h.watches 0) w2 := by
  have hn1 : B ∉ pv.ownBlock.toList ++ cbk := ty_notg (orow_ty (e := wtrF D) wtrF_ty hw) hb.ko (by show 110 ∉ (116 :: _); decide)
  obtain ⟨cs, hcs⟩ := hb.o2.own
  obtain ⟨cur, t, e1, e2⟩ := own_ty hcs gc (by simp [hgc])
  have e2' : t = 85 := by
    have h9 : t = nwsE.T := by simpa using e2
    exact h9
  subst e2'
  have hn2 : gc ∉ pv.ownBlock.toList ++ cbk := ty_notg (orow_ty (e := wtrF D) wtrF_ty hw) e1 (by show 85 ∉ (116 :: _); decide)
  have hw2 := hw.keep (hfr.kp hw.lt fun b hbm hm => by
    simp at hm
    rcases hm with rfl | rfl
    · exact hn1 hbm
    · exact hn2 hbm)
  refine ⟨hfr.below (fun b hm => by simp at hm; rcases hm with rfl | rfl <;> assumption) hD, Nat.le_trans hD hfr.size, k2, ⟨cbk, ?_, ?_⟩, by rw [hgc]; exact o2, ⟨ib, oa⟩⟩
  · rw [toldK_zero]
    exact ORow.conv (e' := wtrT D) (fun m => (m, true)) rfl rfl (fun hE => .inl ⟨rfl, hE⟩) hw2
  · exact (once_zero.1 hon).sublist List.filter_sublist
end Go.Proofs.YtbcfkkicmmhhcaaDoor

namespace Go.Proofs.YtbcfkkicmmhhcaaDoor
open Go.RowKit

theorem tot_filter (p : ByteArray → Bool) : ∀ ss : List ByteArray, tot (ss.filter p) ≤ tot ss
  | [] => by simp [tot]
  | s :: r => by
    have := tot_filter p r
    unfold tot at *
    rw [List.filter_cons]
    cases p s <;> simp <;> omega
theorem szStr_filter (p : ByteArray → Bool) (ss : List ByteArray) : szStr (ss.filter p) ≤ szStr ss := by
  have h1 := tot_filter p ss
  have h2 := List.length_filter_le p ss
  unfold szStr; omega
theorem szStr_near (m : Wat) (ss : List ByteArray) : szStr (nearW m ss) ≤ szStr ss := by
  unfold nearW
  split
  · exact szStr_filter _ _
  · simp [szStr, tot]
theorem szMsgs_snoc (q : List Msg) (x : Msg) : szMsgs (q ++ [x]) = szMsgs q + 1 + szMsg x := by
  unfold szMsgs; simp; omega
theorem szWat_tell (m : Wat) (ver : Int) (ss : List ByteArray) : szWat (tellW m ver ss) ≤ szWat m + (1 + szStr ss) := by
  have h1 := szStr_near m ss
  have h0 : szStr ([] : List ByteArray) = 0 := rfl
  unfold tellW
  split
  · omega
  · split
    · show m.ptr.size + szMsgs (m.queue ++ [⟨ver, nearW m ss, false⟩]) ≤ _
      rw [szMsgs_snoc]
      show m.ptr.size + (szMsgs m.queue + 1 + szStr (nearW m ss)) ≤ m.ptr.size + szMsgs m.queue + (1 + szStr ss)
      omega
    · show m.ptr.size + szMsgs (m.queue ++ [⟨ver, [], true⟩]) ≤ _
      rw [szMsgs_snoc]
      show m.ptr.size + (szMsgs m.queue + 1 + szStr []) ≤ m.ptr.size + szMsgs m.queue + (1 + szStr ss)
      omega
theorem sum_told (f : Wat → Wat) (K : Nat) (hf : ∀ m, szWat (f m) ≤ szWat m + K) : ∀ ws : List Wat, ((ws.map f).map szWat).sum ≤ (ws.map szWat).sum + ws.length * K
  | [] => by simp
  | m :: r => by
    have h1 := sum_told f K hf r
    have h2 := hf m
    simp only [List.map_cons, List.sum_cons, List.length_cons, Nat.add_mul]
    omega
theorem hub_parts {h : Hb} (hs : szHb h ≤ 1048576) : (∀ x ∈ h.watches, szWat x ≤ 1048576) ∧ (∀ x ∈ h.waiting, szNws x ≤ 1048576) ∧ h.watches.length ≤ 1048576 ∧ h.waiting.length ≤ 1048576 := by
  have hz1 : szWats h.watches ≤ 1048576 := by unfold szHb at hs; omega
  have hz2 : szNwss h.waiting ≤ 1048576 := by unfold szHb at hs; omega
  refine ⟨fun x hx => ?_, fun x hx => ?_, by unfold szWats at hz1; omega, by unfold szNwss at hz2; omega⟩
  · obtain ⟨k, hk, rfl⟩ := List.mem_iff_getElem.1 hx
    have h1 := sum_take_snoc szWat h.watches k h.watches[k] (List.getElem?_eq_getElem hk)
    have h2 := sum_take_le (h.watches.map szWat) (k + 1)
    rw [← List.map_take] at h2
    unfold szWats at hz1; omega
  · obtain ⟨k, hk, rfl⟩ := List.mem_iff_getElem.1 hx
    have h1 := sum_take_snoc szNws h.waiting k h.waiting[k] (List.getElem?_eq_getElem hk)
    have h2 := sum_take_le (h.waiting.map szNws) (k + 1)
    rw [← List.map_take] at h2
    unfold szNwss at hz2; omega
theorem dispH_sz {h : Hb} (hs : szHb h ≤ 1048576) : szHb (dispH h) ≤ 107000000 ∧ (∀ x ∈ (dispH h).watches, szWat x ≤ 2097154) ∧ (∀ x ∈ (dispH h).waiting, x.ptrs.length ≤ 1048577) ∧ (dispH h).watches.length ≤ 2097154 ∧ (dispH h).waiting.length ≤ 2097154 := by
  obtain ⟨p1, p2, p3, p4⟩ := hub_parts hs
  have hl : ∀ x ∈ h.waiting, x.ptrs.length ≤ 1048577 := fun x hx => by have := p2 x hx; unfold szNws szStr at this; omega
  unfold dispH
  cases hw : h.waiting with
  | nil => exact ⟨by show szHb h ≤ _; omega, fun x hx => by have := p1 x hx; omega, fun x hx => hl x hx, by show h.watches.length ≤ _; omega, by show h.waiting.length ≤ _; omega⟩
  | cons n q =>
    have hn := p2 n (by rw [hw]; simp)
    have hK : ∀ m : Wat, szWat (tellW m n.ver (n.ptrs.filter fun s => (ptoks s.data.toList).isSome)) ≤ szWat m + 1048577 := fun m => by
      have h1 := szWat_tell m n.ver (n.ptrs.filter fun s => (ptoks s.data.toList).isSome)
      have h2 := szStr_filter (fun s => (ptoks s.data.toList).isSome) n.ptrs
      unfold szNws at hn; omega
    have h1 := sum_told _ 1048577 hK (h.watches.take 100)
    have h2 : (h.watches.take 100).length ≤ 100 := by rw [List.length_take]; omega
    have h3 : ((h.watches.take 100).map szWat).sum + ((h.watches.drop 100).map szWat).sum = (h.watches.map szWat).sum := by
      rw [← List.sum_append, ← List.map_append, List.take_append_drop]
    have h4 : (h.watches.take 100).length * 1048577 ≤ 100 * 1048577 := Nat.mul_le_mul_right _ h2
    have hlen : (dispW n h.watches).length = h.watches.length := by unfold dispW; simp; omega
    have hq : szNwss q ≤ szNwss h.waiting := by rw [hw]; unfold szNwss; simp; omega
    refine ⟨?_, fun x hx => ?_, fun x hx => hl x (by rw [hw]; exact List.mem_cons_of_mem _ hx), by simp only; omega, by rw [hw] at p4; simp at p4 ⊢; omega⟩
    · show szWats (dispW n h.watches) + szNwss q ≤ 107000000
      have h5 : szWats (dispW n h.watches) ≤ szWats h.watches + 104857700 := by
        unfold szWats
        rw [hlen]
        unfold dispW
        rw [List.map_append, List.sum_append]
        omega
      unfold szHb at hs
      omega
    · have hx' : x ∈ dispW n h.watches := hx
      unfold dispW at hx'
      rcases List.mem_append.1 hx' with hx' | hx'
      · obtain ⟨m, hm, rfl⟩ := List.mem_map.1 hx'
        have h6 := p1 m (List.mem_of_mem_take hm)
        have h7 := hK m
        omega
      · have h6 := p1 x (List.mem_of_mem_drop hx')
        omega
end Go.Proofs.YtbcfkkicmmhhcaaDoor
