import Derived.Test.YtbcfkkicmmhhcaaDoorBd20
import Derived.Test.YtbcfkkicmmhhcaaDoorBd18
namespace Go.Proofs.YtbcfkkicmmhhcaaDoor
open Go.RowKit

/-- The place of a client's first watch, -1 when there is none. -/
def findI (ws : List Wat) (c : Int) : Int := match ws.findIdx? (fun x => x.client == c) with
  | some i => (i : Int)
  | none => -1
theorem findI_at {ws : List Wat} {c : Int} {j : Nat} (hj : j < ws.length) (hc : ws[j].client = c) (hb : ∀ i (h : i < ws.length), i < j → ws[i].client ≠ c) : findI ws c = (j : Int) := by
  have : ws.findIdx? (fun x => x.client == c) = some j := by
    rw [List.findIdx?_eq_some_iff_getElem]
    exact ⟨hj, by simp [hc], fun i hi => by simpa using hb i (by omega) hi⟩
  unfold findI; rw [this]
theorem findI_no {ws : List Wat} {c : Int} (hb : ∀ i (h : i < ws.length), ws[i].client ≠ c) : findI ws c = -1 := by
  have : ws.findIdx? (fun x => x.client == c) = none := by
    rw [List.findIdx?_eq_none_iff]
    intro x hx
    obtain ⟨i, hi, rfl⟩ := List.mem_iff_getElem.1 hx
    simpa using hb i hi
  unfold findI; rw [this]
theorem findI_cases (ws : List Wat) (c : Int) : findI ws c = -1 ∨ ∃ j : Nat, ∃ h : j < ws.length, findI ws c = (j : Int) ∧ ws[j].client = c := by
  unfold findI
  cases h : ws.findIdx? (fun x => x.client == c) with
  | none => exact .inl rfl
  | some j =>
    rw [List.findIdx?_eq_some_iff_getElem] at h
    obtain ⟨hj, hc, _⟩ := h
    exact .inr ⟨j, hj, rfl, by simpa using hc⟩

set_option maxHeartbeats 800000 in
theorem l5Find_walk (v : Value) (h : Hb) (client : Int) (bl : List Nat) (w : World) (ho : OHub w v h bl) :
    Calls Tryd.prog 36 #[v, .int .i64 client] w fun e w' => e = .returned (.int .i64 (findI h.watches client)) ∧ Below w.heap.size w w' := by
  obtain ⟨p, q, b1, b2, rfl, o1, o2, rfl⟩ := ho
  have hm := o1.len
  unfold maxLen at hm
  obtain ⟨xa, xc, rfl, hfm, hsh⟩ := o1.form
  have O1 := hide o1
  have HSH := hide hsh
  clear o1 o2 hfm hsh
  go_enter Tryd.func36, Tryd.ntmps36
  go_wp2
  have hA := alloc_b w (Obj.cells #[Value.slice xa h.watches.length xc, q] 39)
  have c0 : (w.alloc (Obj.cells #[Value.slice xa h.watches.length xc, q] 39)).cell? ⟨w.heap.size, 0, none⟩ = some (.slice xa h.watches.length xc) := Lib.cell_of_heap (heap_alloc_new w _) 0
  generalize (w.alloc (Obj.cells #[Value.slice xa h.watches.length xc, q] 39)) = wA at *
  have HA := hide hA
  have HO := hide ((unhide O1).below hA)
  clear hA O1
  go_loopw [5] (fun i wr => wA = wr ∧ ∃ k : Nat, k ≤ h.watches.length ∧ i = .int .i64 (k : Int) ∧ ∀ i (hi : i < h.watches.length), i < k → h.watches[i].client ≠ client) (fun i _ => h.watches.length - (intOf i).toNat)
  case atStart => exact ⟨rfl, 0, Nat.zero_le _, rfl, fun i hi h => by omega⟩
  case round =>
    obtain ⟨rfl, k, hk, rfl, hno⟩ := hrel
    have HN := hide hno
    clear hno
    by_cases hlt : k < h.watches.length
    · obtain ⟨g, rfl⟩ := unhide HSH (by omega)
      obtain ⟨vs, jb, hE, hc, hx1, hx2, hx3⟩ := (unhide HO).at (List.getElem?_eq_getElem hlt)
      obtain ⟨qq, rfl, hqq⟩ := hE
      have d0 : wA.cell? ⟨g, k * 6, none⟩ = _ := (hc 0 _ rfl).1
      clear hx1 hx2 hx3 hc hqq
      by_cases hcl : h.watches[k].client = client
      · have HR := hide (findI_at hlt hcl (unhide HN))
        have hcl' : (h.watches[k].client == client) = true := by simpa using hcl
        clear hcl
        go_wp2
        go_ret
        exact ⟨ret_int (unhide HR).symm, unhide HA⟩
      · have hcl' : (h.watches[k].client == client) = false := by simpa using hcl
        have HC := hide hcl
        clear hcl
        go_wp2
        go_roundw
        case rel =>
          refine ⟨trivial, k + 1, by omega, by go_num, fun i hi hik => ?_⟩
          by_cases e : i = k
          · subst e; exact unhide HC
          · exact unhide HN i hi (by omega)
        case measure => simp [intOf]; omega
    · have HR := hide (findI_no (ws := h.watches) (c := client) fun i hi => unhide HN i hi (by omega))
      go_wp2
      go_ret
      exact ⟨ret_int (unhide HR).symm, unhide HA⟩

/-- The watches up to place k but the one at place s. -/
def skipT (ws : List Wat) (s : Int) : Nat → List Wat
  | 0 => []
  | k + 1 => skipT ws s k ++ (if (k : Int) = s then [] else ws[k]?.toList)
theorem skipT_len (ws : List Wat) (s : Int) : ∀ k, (skipT ws s k).length ≤ k
  | 0 => Nat.le_refl _
  | k + 1 => by
    have h1 := skipT_len ws s k
    rw [skipT, List.length_append]
    have : (if (k : Int) = s then [] else ws[k]?.toList).length ≤ 1 := by
      split
      · simp
      · cases ws[k]? <;> simp
    omega
def copyH (h : Hb) (s : Int) (d : Nat) : Hb := ⟨skipT h.watches s h.watches.length, h.waiting.drop d⟩

/-- The state of l5Copy: the argument, the result, the copy under way. -/
structure CS (w : World) (A B : Obj) (wr : World) (p q : Value) (ws : List Wat) (ns : List Nws) (b1 b2 : List Nat) : Prop where
  bel : Below w.heap.size w wr
  k0 : wr.heap[w.heap.size]? = some A
  k1 : wr.heap[w.heap.size + 1]? = some B
  ko : wr.heap[w.heap.size + 1 + 1 + 1 + 1]? = some (.cells #[p, q] 39 (0, 0))
  o1 : ORow watE wr p ws b1
  o2 : ORow nwsE wr q ns b2
  fs : Fsh (w.heap.size + 1 + 1) (b1 ++ b2)
section
variable {w : World} {A B : Obj} {wr w3 : World} {p p' q q' : Value} {ws : List Wat} {ns : List Nws} {b1 b2 b1' b2' ib : List Nat}
theorem hub_not {w : World} {g : Nat} {cur : Array Value} {bl : List Nat} {ts : List TypeId} (hk : w.heap[g]? = some (.cells cur 39 (0, 0))) (ht : Tys ts w bl) (hn : 39 ∉ ts) : g ∉ bl := fun hm => by
  obtain ⟨cur', t, h1, h2⟩ := ht g hm
  rw [hk] at h1; injection h1 with h1; injection h1 with _ h1
  exact hn (h1 ▸ h2)
theorem wats_ty {w : World} {v : Value} {xs : List Wat} {bl : List Nat} (h : ORow watE w v xs bl) : Tys [72, 115, 9] w bl := orow_ty (e := watE) wat_ty h
theorem nwss_ty {w : World} {v : Value} {xs : List Nws} {bl : List Nat} (h : ORow nwsE w v xs bl) : Tys [85, 9] w bl := orow_ty (e := nwsE) nws_ty h
theorem CS.below (h : CS w A B wr p q ws ns b1 b2) (hb : Below wr.heap.size wr w3) : CS w A B w3 p q ws ns b1 b2 := by
  have hs := h.bel.size
  have hko := (Array.getElem?_eq_some_iff.1 h.ko).1
  exact ⟨below_next h.bel hb, (hb.block _ (by omega)).trans h.k0, (hb.block _ (by omega)).trans h.k1, (hb.block _ hko).trans h.ko, h.o1.below hb, h.o2.below hb, h.fs⟩
theorem CS.koW (h : CS w A B wr p q ws ns b1 b2) (hg : wr.grownBy w3 p.ownBlock) : w3.heap[w.heap.size + 1 + 1 + 1 + 1]? = some (.cells #[p, q] 39 (0, 0)) :=
  (hg.block _ (Array.getElem?_eq_some_iff.1 h.ko).1 fun e => hub_not h.ko (wats_ty h.o1) (by decide) (h.o1.head e.symm)).trans h.ko
theorem CS.koN (h : CS w A B wr p q ws ns b1 b2) (hg : wr.grownBy w3 q.ownBlock) : w3.heap[w.heap.size + 1 + 1 + 1 + 1]? = some (.cells #[p, q] 39 (0, 0)) :=
  (hg.block _ (Array.getElem?_eq_some_iff.1 h.ko).1 fun e => hub_not h.ko (nwss_ty h.o2) (by decide) (h.o2.head e.symm)).trans h.ko
theorem CS.watch (h : CS w A B wr p q ws ns b1 b2) (hg : wr.grownBy w3 p.ownBlock) {x : Wat} (ho : ORow watE w3 p' (ws ++ [x]) b1') (hF : Fsh (w.heap.size + 1 + 1) b1') (hm : ∀ b ∈ b1', b ∈ b1 ∨ b ∈ ib ∨ p'.ownBlock = some b) (hi : ∀ b ∈ ib, b ∉ b2) :
    CS w A B (w3.setCell ⟨w.heap.size + 1 + 1 + 1 + 1, 0, none⟩ p') p' q (ws ++ [x]) ns b1' b2 := by
  have hko := (Array.getElem?_eq_some_iff.1 h.ko).1
  have hfs := h.fs
  have hd := hfs.1
  rw [List.nodup_append] at hd
  have hown : ∀ g, p.ownBlock = some g → g ∈ b1 := fun g hg => h.o1.head hg
  have hge : ∀ g, p.ownBlock = some g → w.heap.size + 1 + 1 ≤ g := fun g hg => hfs.2 g (List.mem_append.2 (.inl (hown g hg)))
  have hn1 := hub_not h.ko (wats_ty h.o1) (by decide)
  have hn2 := hub_not h.ko (nwss_ty h.o2) (by decide)
  have ko3 : w3.heap[w.heap.size + 1 + 1 + 1 + 1]? = some (.cells #[p, q] 39 (0, 0)) := (hg.block _ hko fun e => hn1 (hown _ e.symm)).trans h.ko
  have hn3 := hub_not ko3 (wats_ty ho) (by decide)
  have q3 : ORow nwsE w3 q ns b2 := h.o2.keep fun b hb => hg.block b (h.o2.lt b hb) fun e => hd.2.2 b (hown b e.symm) b hb rfl
  have hs := h.bel.size
  refine ⟨(h.bel.grown hg hs fun k hk => by have := hge k hk; omega).setCell (p := ⟨w.heap.size + 1 + 1 + 1 + 1, 0, none⟩) (by simp; omega) _, ?_, ?_, ?_, ho.other hn3 0 p', q3.other hn2 0 p', ?_⟩
  · exact (Below.heap_setCell _ _ _ _ (by simp; omega)).trans ((hg.block _ (by omega) fun e => by have := hge _ e.symm; omega).trans h.k0)
  · exact (Below.heap_setCell _ _ _ _ (by simp)).trans ((hg.block _ (by omega) fun e => by have := hge _ e.symm; omega).trans h.k1)
  · exact heap_setCell_same _ _ 0 _ _ _ ko3
  · refine ⟨List.nodup_append.2 ⟨hF.1, hd.2.1, fun a ha b hb e => ?_⟩, fun b hb => ?_⟩
    · subst e
      rcases hm a ha with h1 | h1 | h1
      · exact hd.2.2 a h1 a hb rfl
      · exact hi a h1 hb
      · obtain ⟨cs, hcs⟩ := ho.own
        obtain ⟨cur, t, e1, e2⟩ := own_ty hcs a (by simp [h1])
        obtain ⟨cur', t', e3, e4⟩ := nwss_ty q3 a hb
        rw [e1] at e3
        injection e3 with e3; injection e3 with _ e3
        simp at e2
        rw [← e3, e2] at e4
        exact absurd e4 (by decide)
    · rcases List.mem_append.1 hb with hb | hb
      · exact hF.2 b hb
      · exact hfs.2 b (List.mem_append.2 (.inr hb))
theorem CS.news (h : CS w A B wr p q ws ns b1 b2) (hg : wr.grownBy w3 q.ownBlock) {x : Nws} (ho : ORow nwsE w3 q' (ns ++ [x]) b2') (hF : Fsh (w.heap.size + 1 + 1) b2') (hm : ∀ b ∈ b2', b ∈ b2 ∨ b ∈ ib ∨ q'.ownBlock = some b) (hi : ∀ b ∈ ib, b ∉ b1) :
    CS w A B (w3.setCell ⟨w.heap.size + 1 + 1 + 1 + 1, 1, none⟩ q') p q' ws (ns ++ [x]) b1 b2' := by
  have hko := (Array.getElem?_eq_some_iff.1 h.ko).1
  have hfs := h.fs
  have hd := hfs.1
  rw [List.nodup_append] at hd
  have hown : ∀ g, q.ownBlock = some g → g ∈ b2 := fun g hg => h.o2.head hg
  have hge : ∀ g, q.ownBlock = some g → w.heap.size + 1 + 1 ≤ g := fun g hg => hfs.2 g (List.mem_append.2 (.inr (hown g hg)))
  have hn1 := hub_not h.ko (wats_ty h.o1) (by decide)
  have hn2 := hub_not h.ko (nwss_ty h.o2) (by decide)
  have ko3 : w3.heap[w.heap.size + 1 + 1 + 1 + 1]? = some (.cells #[p, q] 39 (0, 0)) := (hg.block _ hko fun e => hn2 (hown _ e.symm)).trans h.ko
  have hn3 := hub_not ko3 (nwss_ty ho) (by decide)
  have q3 : ORow watE w3 p ws b1 := h.o1.keep fun b hb => hg.block b (h.o1.lt b hb) fun e => hd.2.2 b hb b (hown b e.symm) rfl
  have hs := h.bel.size
  refine ⟨(h.bel.grown hg hs fun k hk => by have := hge k hk; omega).setCell (p := ⟨w.heap.size + 1 + 1 + 1 + 1, 1, none⟩) (by simp; omega) _, ?_, ?_, ?_, q3.other hn1 1 q', ho.other hn3 1 q', ?_⟩
  · exact (Below.heap_setCell _ _ _ _ (by simp; omega)).trans ((hg.block _ (by omega) fun e => by have := hge _ e.symm; omega).trans h.k0)
  · exact (Below.heap_setCell _ _ _ _ (by simp)).trans ((hg.block _ (by omega) fun e => by have := hge _ e.symm; omega).trans h.k1)
  · exact heap_setCell_same _ _ 1 _ _ _ ko3
  · refine ⟨List.nodup_append.2 ⟨hd.1, hF.1, fun a ha b hb e => ?_⟩, fun b hb => ?_⟩
    · subst e
      rcases hm a hb with h1 | h1 | h1
      · exact hd.2.2 a ha a h1 rfl
      · exact hi a h1 ha
      · obtain ⟨cs, hcs⟩ := ho.own
        obtain ⟨cur, t, e1, e2⟩ := own_ty hcs a (by simp [h1])
        obtain ⟨cur', t', e3, e4⟩ := wats_ty q3 a ha
        rw [e1] at e3
        injection e3 with e3; injection e3 with _ e3
        simp at e2
        rw [← e3, e2] at e4
        exact absurd e4 (by decide)
    · rcases List.mem_append.1 hb with hb | hb
      · exact hfs.2 b (List.mem_append.2 (.inl hb))
      · exact hF.2 b hb
end
end Go.Proofs.YtbcfkkicmmhhcaaDoor

namespace Go.Proofs.YtbcfkkicmmhhcaaDoor
open Go.RowKit

theorem sum_le_sum {α : Type} (f g : α → Nat) (l : List α) (h : ∀ x ∈ l, f x ≤ g x) : (l.map f).sum ≤ (l.map g).sum := by
  induction l with
  | nil => simp
  | cons a r ih =>
    have h1 := h a List.mem_cons_self
    have h2 := ih fun x hx => h x (List.mem_cons_of_mem _ hx)
    simp only [List.map_cons, List.sum_cons]; omega
theorem cntMsgs_le (ms : List Msg) : cntR cntMsg ms ≤ 2 * szMsgs ms := by
  unfold cntR szMsgs
  induction ms with
  | nil => simp
  | cons a r ih =>
    have : cntMsg a ≤ 2 + szMsg a := by unfold cntMsg szMsg szStr; omega
    simp only [List.map_cons, List.sum_cons, List.length_cons]; omega
theorem cntWats_le (ms : List Wat) : cntR cntWat ms ≤ 5 * szWats ms := by
  unfold cntR szWats
  induction ms with
  | nil => simp
  | cons a r ih =>
    have h1 := cntMsgs_le a.queue
    have : cntWat a ≤ 5 + 2 * szWat a := by unfold cntWat szWat; omega
    simp only [List.map_cons, List.sum_cons, List.length_cons]; omega
theorem cntNwss_le (ms : List Nws) : cntR cntNws ms ≤ szNwss ms := by
  unfold cntR szNwss
  induction ms with
  | nil => simp
  | cons a r ih =>
    have : cntNws a ≤ 1 + szNws a := by unfold cntNws szNws szStr; omega
    simp only [List.map_cons, List.sum_cons, List.length_cons]; omega
theorem cntHb_le (h : Hb) : cntR cntWat h.watches + cntR cntNws h.waiting ≤ 6 * szHb h := by
  have h1 := cntWats_le h.watches
  have h2 := cntNwss_le h.waiting
  unfold szHb; omega
theorem OHub.fr {w w' : World} {v : Value} {h : Hb} {bl bx : List Nat} (ho : OHub w v h bl) (hf : Fr bx w w') (hd : ∀ b ∈ bl, b ∉ bx) : OHub w' v h bl := ho.keep (hf.kp ho.lt hd)

end Go.Proofs.YtbcfkkicmmhhcaaDoor
