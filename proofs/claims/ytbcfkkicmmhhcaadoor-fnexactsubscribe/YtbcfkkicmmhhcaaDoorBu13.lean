import Derived.Lib.OwnBridge
import Derived.Test.YtbcfkkicmmhhcaaDoorBu8
import Derived.Test.YtbcfkkicmmhhcaaDoorBu9
import Derived.Test.YtbcfkkicmmhhcaaDoorBu12
import Derived.Test.YtbcfkkicmmhhcaaDoorBu1
import Derived.Test.YtbcfkkicmmhhcaaDoorBu7
namespace Go.Proofs.YtbcfkkicmmhhcaaDoor
open Go.RowKit

theorem wtr_ptrs {w : World} {ws : List Wat} {ps : List (List Value × List Nat)} (hl : ps.length = ws.length) (hE : ∀ (j : Nat) (p : List Value × List Nat) (x : Wat), ps[j]? = some p → ws[j]? = some x → wtrE.E w p.1 x p.2) :
    ∃ al : List (Option Addr), al.length = ps.length ∧ ps.flatMap (·.1) = al.map Value.pointer ∧ ∀ (j : Nat) (a : Option Addr) (p : List Value × List Nat), al[j]? = some a → ps[j]? = some p → p.1 = [.pointer a] := by
  induction ps generalizing ws with
  | nil => exact ⟨[], rfl, rfl, fun j a p h => by simp at h⟩
  | cons q r ih =>
    cases ws with
    | nil => simp at hl
    | cons x xs =>
      obtain ⟨al, h1, h2, h3⟩ := ih (ws := xs) (by simpa using hl) (fun j p y hp hy => hE (j + 1) p y (by simpa using hp) (by simpa using hy))
      obtain ⟨g, _, _, _, _, _, hv, _⟩ := hE 0 q x rfl rfl
      refine ⟨some ⟨g, 0, none⟩ :: al, by simp [h1], by rw [List.flatMap_cons, h2, hv]; rfl, fun j a p ha hp => ?_⟩
      cases j with
      | zero => simp at ha hp; subst ha; subst hp; exact hv
      | succ j => exact h3 j a p (by simpa using ha) (by simpa using hp)
theorem flat_of {ps : List (List Value × List Nat)} {al : List (Option Addr)} (h1 : al.length = ps.length) (h : ∀ (j : Nat) (a : Option Addr) (p : List Value × List Nat), al[j]? = some a → ps[j]? = some p → p.1 = [.pointer a]) : ps.flatMap (·.1) = al.map Value.pointer := by
  induction ps generalizing al with
  | nil => cases al with
    | nil => rfl
    | cons a r => simp at h1
  | cons q r ih =>
    cases al with
    | nil => simp at h1
    | cons a al =>
      rw [List.flatMap_cons, h 0 a q rfl rfl, List.map_cons, ih (by simpa using h1) (fun j b p hb hp => h (j + 1) b p (by simpa using hb) (by simpa using hp))]; rfl
theorem put_other {α : Type} [Inhabited α] (enc : α → Value) (w : World) (q g k : Nat) (d : Array α) (hk : k ≠ g) : (Sort.putRow enc (Sort.ahead w q) g 0 d).heap[k]? = w.heap[k]? := by
  simp [Sort.putRow, Sort.mapBlock, Sort.ahead, Array.getElem?_modify, Ne.symm hk]
/-- slices.Delete of one watcher. -/
theorem delWtr_walk (g n cap : Nat) (ws : List Wat) (bw : List Nat) (j : Nat) (w : World) (h : ORow wtrE w (.slice (some ⟨g, 0, none⟩) n cap) ws bw) (hj : j < ws.length) :
    Calls Tryd.prog 102 #[.slice (some ⟨g, 0, none⟩) n cap, .int .i64 j, .int .i64 (j + 1 : Nat)] w fun e w' => e = .returned (.slice (some ⟨g, 0, none⟩) (n - 1) cap) ∧ (∃ bw', ORow wtrE w' (.slice (some ⟨g, 0, none⟩) (n - 1) cap) (ws.eraseIdx j) bw') ∧ Fr [g] w w' := by
  have hty := orow_ty (e := wtrE) wtr_ty h
  have hlt := h.lt
  obtain ⟨cb, hsp⟩ := h.split
  have hin := orow_inner_ty wtr_ty h hsp
  obtain ⟨ps, hl, hE, ho, hb⟩ := h
  have hn : n = ws.length := by
    rcases ho.2 with ⟨hv, h0⟩ | ⟨g', cap', cur, hv, _⟩
    · cases hv
    · injection hv
  subst hn
  obtain ⟨al, ha1, ha2, ha3⟩ := wtr_ptrs hl hE
  have hown : w.ownsRow 0 116 1 (.slice (some ⟨g, 0, none⟩) ws.length cap) ws.length (al.map Value.pointer) := by rw [← ha2]; exact ho
  obtain ⟨g', cap', hv, _, _, hc1, hc2, hc3, hH⟩ := Lib.holds_of_ownsRow hown (by simp)
  injection hv with hv1 _ hv3
  injection hv1 with hv1
  injection hv1 with hv1
  subst hv1; subst hv3
  obtain ⟨i0, hi, hz0, hz1, hz2⟩ := info_parts infoWtr
  have hcon := AnyE.slices_Delete Tryd.laysDel Value.pointer (fun _ => rfl) none (fun w => Tryd.zeroValue116 w) i0 hi hz1 g 0 cap j (j + 1) al.toArray w hH (by simp; omega) (by unfold maxLen at hc2; omega) (by omega) (by simp; omega)
  have hsz : al.toArray.size = ws.length := by simp [hc3]
  rw [hsz] at hcon
  change Calls Tryd.prog 102 _ _ _ at hcon
  refine hcon.mono ?_
  rintro e w' ⟨rfl, q, rfl⟩
  have hys : (al.take j ++ al.drop (j + 1) ++ List.replicate (j + 1 - j) none).length = ws.length := by
    simp; omega
  have hown' := Lib.ownsRow_putRow (q := q) (k := ws.length - 1) hown hys (by omega)
  have htk : (al.take j ++ al.drop (j + 1) ++ List.replicate (j + 1 - j) (none : Option Addr)).take (ws.length - 1) = al.eraseIdx j := by
    rw [List.eraseIdx_eq_take_drop_succ, List.take_append_of_le_length (by simp; omega), List.take_of_length_le (by simp; omega)]
  rw [htk] at hown'
  have hgn : g ∉ ps.flatMap (·.2) := fun hm => by
    have hcb : cb = ps.flatMap (·.2) := by rw [hsp] at hb; exact List.append_cancel_left hb
    exact hin.not ho (by decide) (g := g) rfl (by rw [hcb]; exact hm)
  have hk : ∀ p ∈ ps, Kp p.2 w (Sort.putRow Value.pointer (Sort.ahead w q) g 0 (al.take j ++ al.drop (j + 1) ++ List.replicate (j + 1 - j) none).toArray) := fun p hp b hb => put_other _ _ _ _ _ _ fun e => hgn (List.mem_flatMap.2 ⟨p, hp, by rw [← e]; exact hb⟩)
  refine ⟨by rw [show ws.length - (j + 1 - j) = ws.length - 1 from by omega], ⟨_, ps.eraseIdx j, ?_, ?_, ?_, rfl⟩, ⟨rfl, rfl, rfl, ?_, fun k _ hn => put_other _ _ _ _ _ _ (by simpa using hn)⟩⟩
  · rw [List.length_eraseIdx, List.length_eraseIdx, hl]
  · intro i p x hp hx
    rw [List.getElem?_eraseIdx] at hp hx
    by_cases hij : i < j
    · rw [if_pos hij] at hp hx
      exact wtrE.keep (hE i p x hp hx) (hk p (List.mem_of_getElem? hp))
    · rw [if_neg hij] at hp hx
      exact wtrE.keep (hE (i + 1) p x hp hx) (hk p (List.mem_of_getElem? hp))
  · have hfl : (ps.eraseIdx j).flatMap (·.1) = (al.eraseIdx j).map Value.pointer := flat_of (by rw [List.length_eraseIdx, List.length_eraseIdx, ha1]) fun i a p ha hp => by
      rw [List.getElem?_eraseIdx] at ha hp
      by_cases hij : i < j
      · rw [if_pos hij] at ha hp; exact ha3 i a p ha hp
      · rw [if_neg hij] at ha hp; exact ha3 (i + 1) a p ha hp
    rw [hfl, List.length_eraseIdx, if_pos hj]
    exact hown'
  · simp [Sort.putRow, Sort.mapBlock, Sort.ahead]
end Go.Proofs.YtbcfkkicmmhhcaaDoor

namespace Go.Proofs.YtbcfkkicmmhhcaaDoor
open Go.RowKit

set_option maxHeartbeats 800000 in
set_option maxRecDepth 100000 in
theorem findWtr_walk (B : Nat) (h : Hb) (pv cv : Value) (f c : Nat) (ns : List Nws) (cb bw : List Nat) (client : Int) (w : World) (hb : Brd w B h pv cv f c ns cb bw) :
    Calls Tryd.prog 101 #[.pointer (some ⟨B, 0, none⟩), .int .i64 client] w fun e w' => w = w' ∧ ((findI h.watches client = -1 ∧ e = .returned (.tuple #[.pointer none, .int .i64 0])) ∨ ∃ (j g : Nat) (_ : j < h.watches.length), findI h.watches client = (j : Int) ∧ e = .returned (.tuple #[.pointer (some ⟨g, 0, none⟩), .int .i64 j]) ∧ ∀ gp n cap, pv = .slice (some ⟨gp, 0, none⟩) n cap → w.cell? ⟨gp, j, none⟩ = some (.pointer (some ⟨g, 0, none⟩))) := by
  have hm := hb.o1.len
  unfold maxLen at hm
  obtain ⟨xa, xc, rfl, hfm, hsh⟩ := hb.o1.form
  have HBD := hide hb
  have HSH := hide hsh
  have c0 : w.cell? ⟨B, 0, none⟩ = some (.slice xa h.watches.length xc) := Lib.cell_of_heap hb.ko 0
  clear hb hfm hsh
  go_enter Tryd.func101, Tryd.ntmps101
  go_wp2
  go_loopw [13] (fun i wr => w = wr ∧ ∃ k : Nat, k ≤ h.watches.length ∧ i = .int .i64 (k : Int) ∧ ∀ i (hi : i < h.watches.length), i < k → h.watches[i].client ≠ client) (fun i _ => h.watches.length - (intOf i).toNat)
  case atStart => exact ⟨rfl, 0, Nat.zero_le _, rfl, fun i hi h => by omega⟩
  case round =>
    obtain ⟨rfl, k, hk, rfl, hno⟩ := hrel
    have HN := hide hno
    clear hno
    by_cases hlt : k < h.watches.length
    · obtain ⟨g, rfl⟩ := unhide HSH (by omega)
      obtain ⟨vs, jb, hE, hc, hx1, hx2, hx3⟩ := (unhide HBD).o1.at (List.getElem?_eq_getElem hlt)
      obtain ⟨gw, cw, fw, kw, ms, cbw, rfl, hkw, _, _, _, _⟩ := hE
      have d0 := (hc 0 _ rfl).1
      rw [show k * wtrE.wd + 0 = k from by simp [wtrE]] at d0
      have e0 : w.cell? ⟨gw, 0, none⟩ = some (.int .i64 h.watches[k].client) := Lib.cell_of_heap hkw 0
      clear hx1 hx2 hx3 hc hkw
      by_cases hcl : h.watches[k].client = client
      · have HR := hide (findI_at hlt hcl (unhide HN))
        have hcl' : (h.watches[k].client == client) = true := by simpa using hcl
        clear hcl
        have HD0 := hide d0
        go_wp2
        go_returns
        exact ⟨rfl, .inr ⟨k, gw, hlt, unhide HR, rfl, fun gp n cap e => by injection e with e; injection e with e; injection e with e; rw [← e]; exact unhide HD0⟩⟩
      · have hcl' : (h.watches[k].client == client) = false := by simpa using hcl
        have HC := hide hcl
        clear hcl
        go_wp2
        go_roundw
        case rel =>
          refine ⟨trivial, k + 1, by omega, by go_num, fun i hi hik => ?_⟩
          by_cases e : i = k
          · subst e; exact unhide HC
          · exact unhide HN i hi (by omega)
        case measure => simp [intOf]; omega
    · have HR := hide (findI_no (ws := h.watches) (c := client) fun i hi => unhide HN i hi (by omega))
      go_wp2
      go_returns
      exact ⟨rfl, .inl ⟨unhide HR, rfl⟩⟩

set_option maxHeartbeats 800000 in
set_option maxRecDepth 100000 in
theorem cancelBrd_walk (B : Nat) (h : Hb) (pv cv : Value) (f c : Nat) (ns : List Nws) (cb bw : List Nat) (client : Int) (w : World) (hb : Brd w B h pv cv f c ns cb bw) (D : Nat) (hB : D ≤ B) (hp : ∀ g, pv.ownBlock = some g → D ≤ g) (hD : D ≤ w.heap.size) (hl : h.watches.length ≤ 1048577) :
    Calls Tryd.prog 69 #[.pointer (some ⟨B, 0, none⟩), .int .i64 client] w fun e w' => Below D w w' ∧ ∃ pv' bw', (∀ g, pv'.ownBlock = some g → D ≤ g) ∧ ((findI h.watches client = -1 ∧ e = .returned (.int .i64 1) ∧ Brd w' B h pv' cv f c ns cb bw') ∨ ∃ (j : Nat) (_ : j < h.watches.length), findI h.watches client = (j : Int) ∧ e = .returned (.int .i64 0) ∧ Brd w' B ⟨h.watches.eraseIdx j, h.waiting⟩ pv' cv f c ns cb bw') := by
  have HF := hide (findWtr_walk B h pv cv f c ns cb bw client w hb)
  have HBD := hide hb
  clear hb
  go_enter Tryd.func69, Tryd.ntmps69
  go_wp2_with fail
  refine (unhide HF).mono ?_
  rintro e w1 ⟨rfl, ⟨h0, rfl⟩ | ⟨j, g, hj, h0, rfl, _⟩⟩
  · have H0 := hide h0
    clear h0 HF
    go_wp2
    go_ret
    exact ⟨Below.refl _ _, _, _, hp, .inl ⟨unhide H0, rfl, unhide HBD⟩⟩
  · have H0 := hide h0
    have hbd := unhide HBD
    obtain ⟨xa, xc, rfl, hf1, hf2⟩ := hbd.o1.form
    obtain ⟨gp, rfl⟩ := hf2 (by omega)
    have c0 : w.cell? ⟨B, 0, none⟩ = some (.slice (some ⟨gp, 0, none⟩) h.watches.length xc) := Lib.cell_of_heap hbd.ko 0
    have HD := hide (fun wx (hx : Below w.heap.size w wx) => delWtr_walk gp _ xc h.watches bw j wx (hbd.o1.below hx) hj)
    have hgp := hp gp rfl
    clear h0 HF hbd hf1 hf2 hp
    go_wp2_with fail
    refine (unhide HD w (Below.refl _ _)).mono ?_
    rintro e w2 ⟨rfl, ⟨bw', o2⟩, fr2⟩
    have hbd := unhide HBD
    have tyB : ∀ {w' : World} {bl : List Nat} {ts : List TypeId} {cur : Array Value}, w'.heap[B]? = some (.cells cur 110 (0, 0)) → Tys ts w' bl → 110 ∉ ts → B ∉ bl := fun hk ht hn hm => by
      obtain ⟨cur', t, e1, e2⟩ := ht B hm
      rw [hk] at e1
      injection e1 with e1; injection e1 with _ e1
      exact hn (e1 ▸ e2)
    have nBg : B ≠ gp := fun e => tyB hbd.ko (orow_ty (e := wtrE) wtr_ty hbd.o1) (by decide) (by rw [e]; exact hbd.o1.head rfl)
    have ko2 := (fr2.block B (Array.getElem?_eq_some_iff.1 hbd.ko).1 (by simpa using nBg)).trans hbd.ko
    have on2 := hbd.o2.keep (fr2.kp hbd.o2.lt fun b hb hm => by
      simp at hm
      subst hm
      obtain ⟨cs9, hcs9⟩ := hbd.o1.own
      exact (nwss_ty hbd.o2).not hcs9 (by decide) rfl hb)
    have hls : (h.watches.eraseIdx j).length = h.watches.length - 1 := by rw [List.length_eraseIdx, if_pos hj]
    have ko3 := heap_setCell_same _ _ 0 _ _ (.slice (some ⟨gp, 0, none⟩) (h.watches.length - 1) xc) ko2
    have ow3 := o2.other (tyB ko2 (orow_ty (e := wtrE) wtr_ty o2) (by decide)) 0 (.slice (some ⟨gp, 0, none⟩) (h.watches.length - 1) xc)
    have on3 := on2.other (tyB ko2 (nwss_ty on2) (by decide)) 0 (.slice (some ⟨gp, 0, none⟩) (h.watches.length - 1) xc)
    have HR : Hid (Brd (w2.setCell ⟨B, 0, none⟩ (.slice (some ⟨gp, 0, none⟩) (h.watches.length - 1) xc)) B ⟨h.watches.eraseIdx j, h.waiting⟩ (.slice (some ⟨gp, 0, none⟩) (h.watches.length - 1) xc) cv f c ns cb bw') := ⟨ko3, ow3, on3, hbd.ring, hbd.len⟩
    have HW := hide ((fr2.below (B := D) (fun b hb => by simp at hb; omega) hD).setCell (p := ⟨B, 0, none⟩) hB (.slice (some ⟨gp, 0, none⟩) (h.watches.length - 1) xc))
    have d0 : w2.cell? ⟨B, 0, none⟩ = some (.slice (some ⟨gp, 0, none⟩) h.watches.length xc) := Lib.cell_of_heap ko2 0
    have fd := Lib.frozen_of_heap ko2
    clear hbd tyB nBg ko2 on2 hls ko3 ow3 on3 o2 fr2 HD c0 HBD
    go_wp2
    go_ret
    exact ⟨unhide HW, _, _, fun g hg => by simp [Value.ownBlock] at hg; omega, .inr ⟨j, hj, unhide H0, rfl, unhide HR⟩⟩

/-- What Cancel leaves of a hub, and its code. -/
def canH (h : Hb) (c : Int) : Hb := ⟨skipT h.watches (findI h.watches c) h.watches.length, h.waiting⟩
def canC (h : Hb) (c : Int) : Int := if findI h.watches c < 0 then 1 else 0
theorem skipT_one (ws : List Wat) (j : Nat) : ∀ k, skipT ws (j : Int) k = (ws.take k).eraseIdx j
  | 0 => by simp [skipT]
  | k + 1 => by
    rw [skipT, skipT_one ws j k, List.take_add_one]
    by_cases hjk : (k : Int) = (j : Int)
    · have : k = j := by omega
      subst this
      rw [if_pos rfl, List.append_nil]
      by_cases hk : k < ws.length
      · rw [List.getElem?_eq_getElem hk, List.eraseIdx_append_of_length_le (by simp; omega)]
        have : (ws.take k).length = k := by rw [List.length_take]; omega
        rw [this, Nat.sub_self, List.eraseIdx_of_length_le (by omega)]
        simp
      · rw [List.getElem?_eq_none (by omega)]; simp
    · rw [if_neg hjk]
      by_cases hk : k < ws.length
      · have hl : (ws.take k).length = k := by rw [List.length_take]; omega
        rw [List.getElem?_eq_getElem hk]
        by_cases hlt : j < k
        · rw [List.eraseIdx_append_of_lt_length (by omega)]
        · rw [List.eraseIdx_of_length_le (by omega), List.eraseIdx_of_length_le (by simp; omega)]
      · rw [List.getElem?_eq_none (by omega)]; simp
theorem canH_none {h : Hb} {c : Int} (h0 : findI h.watches c = -1) : canH h c = h := by
  unfold canH; rw [h0, skipT_none _ _ (Nat.le_refl _), List.take_length]
theorem canH_some {h : Hb} {c : Int} {j : Nat} (h0 : findI h.watches c = (j : Int)) : canH h c = ⟨h.watches.eraseIdx j, h.waiting⟩ := by
  unfold canH; rw [h0, skipT_one, List.take_length]

theorem sum_erase {α : Type} (f : α → Nat) : ∀ (l : List α) (j : Nat), ((l.eraseIdx j).map f).sum ≤ (l.map f).sum
  | [], j => by simp
  | a :: r, 0 => by simp
  | a :: r, j + 1 => by
    have := sum_erase f r j
    simp only [List.eraseIdx_cons_succ, List.map_cons, List.sum_cons]; omega
theorem canH_sz {h : Hb} {c : Int} (hs : szHb h ≤ 1048576) : szHb (canH h c) ≤ 1048577 := by
  rcases findI_cases h.watches c with h1 | ⟨j, _, h1, _⟩
  · rw [canH_none h1]; omega
  · rw [canH_some h1]
    have h1 : (h.watches.eraseIdx j).length ≤ h.watches.length := List.length_eraseIdx_le _ _
    have h2 := sum_erase szWat h.watches j
    show szWats (h.watches.eraseIdx j) + szNwss h.waiting ≤ 1048577
    unfold szWats
    unfold szHb szWats at hs
    omega
theorem results_cell_tmp {P : Program} {fn : Func} {p r : Tmp} {ty : TypeId} (h : fn.results = #[.cell p ty, .tmp r]) (tmps : Array Value) (w : World) (g : Nat) (t : TypeId) (cs : Array Value) (fr : Nat × Nat) (d : TypeDesc) (v : Value)
    (hp : tmps.getD p undef = .pointer (some ⟨g, 0, none⟩)) (hr : tmps.getD r undef = v) (hg : w.heap[g]? = some (.cells cs t fr))
    (hu : P.underlying ty = some d) (hd : (match d with | .struct _ | .array _ _ => true | _ => false) = true) (hi : (P.info? ty).map (·.size) = some cs.size) :
    (results fn tmps).run P w = .ok (.tuple #[.agg cs, v]) w := by
  have hp' : tmps[p]?.getD undef = .pointer (some ⟨g, 0, none⟩) := by simpa using hp
  have hr' : tmps[r]?.getD undef = v := by simpa using hr
  simp [results, h, hp', hr', asAddr, run_loadVar_row w g t ty cs fr d hg hu hd hi]
end Go.Proofs.YtbcfkkicmmhhcaaDoor

namespace Go.Proofs.YtbcfkkicmmhhcaaDoor
open Go.RowKit

/-- The watch that Subscribe makes, its code and what it leaves of a hub. -/
def subW (c : Int) (p : ByteArray) (r v : Int) : Wat := ⟨c, p, r, v, false, []⟩
def subC (c : Int) (p : ByteArray) (r : Int) : Int := if c < 0 ∨ 8 ≤ c then 1 else if (ptoks p.data.toList).isSome = false then 2 else if r < 1 ∨ 100 < r then 3 else 0
def subH (h : Hb) (c : Int) (p : ByteArray) (r v : Int) : Hb := if subC c p r = 0 then ⟨(canH h c).watches ++ [subW c p r v], h.waiting⟩ else h
theorem subH_no {h : Hb} {c : Int} {p : ByteArray} {r v k : Int} (hk : subC c p r = k) (h0 : k ≠ 0) : subH h c p r v = h := by
  unfold subH; rw [hk, if_neg h0]
theorem subC_1 {c : Int} {p : ByteArray} {r : Int} (h : c < 0 ∨ 8 ≤ c) : subC c p r = 1 := by unfold subC; rw [if_pos h]
theorem subC_2 {c : Int} {p : ByteArray} {r : Int} (h : ¬ c < 0) (h' : ¬ 8 ≤ c) (hz : (ptoks p.data.toList).isSome = false) : subC c p r = 2 := by
  unfold subC; rw [if_neg (by omega), if_pos hz]
theorem subC_3 {c : Int} {p : ByteArray} {r : Int} (h : ¬ c < 0) (h' : ¬ 8 ≤ c) (hz : (ptoks p.data.toList).isSome = true) (h3 : r < 1 ∨ 100 < r) : subC c p r = 3 := by
  unfold subC; rw [if_neg (by omega), if_neg (by simp [hz]), if_pos h3]
theorem subC_0 {c : Int} {p : ByteArray} {r : Int} (h : ¬ c < 0) (h' : ¬ 8 ≤ c) (hz : (ptoks p.data.toList).isSome = true) (h3 : ¬ r < 1) (h4 : ¬ 100 < r) : subC c p r = 0 := by
  unfold subC; rw [if_neg (by omega), if_neg (by simp [hz]), if_neg (by omega)]

set_option maxHeartbeats 1600000 in
set_option maxRecDepth 100000 in
theorem subBrd_walk (B : Nat) (h : Hb) (pv cv : Value) (f c : Nat) (ns : List Nws) (cb bw : List Nat) (client : Int) (ptr : ByteArray) (room ver : Int) (w : World) (hb : Brd w B h pv cv f c ns cb bw) (hML : ML w) (hp : ptr.size ≤ 1048576) (D : Nat) (hB : D ≤ B) (hpv : ∀ g, pv.ownBlock = some g → D ≤ g) (hD : D ≤ w.heap.size) (hl : h.watches.length ≤ 1048577) :
    Calls Tryd.prog 40 #[.pointer (some ⟨B, 0, none⟩), .int .i64 client, .string ptr, .int .i64 room, .int .i64 ver] w fun e w' => Below D w w' ∧ ∃ pv' bw', e = .returned (.int .i64 (subC client ptr room)) ∧ Brd w' B (subH h client ptr room ver) pv' cv f c ns cb bw' := by
  have HBD := hide hb
  have HPV := hide hpv
  have HPT := hide (isPtr_walk ptr w hML hp)
  clear hb hpv hML
  obtain ⟨z, hz⟩ : ∃ z, (ptoks ptr.data.toList).isSome = z := ⟨_, rfl⟩
  rw [hz] at HPT
  have HZ := hide hz
  clear hz
  by_cases c1 : client < 0
  · have hC : subC client ptr room = 1 := subC_1 (.inl c1)
    rw [subH_no hC (by omega), hC]
    clear hC
    go_enter Tryd.func40, Tryd.ntmps40
    go_wp2
    go_ret
    first
      | exact ⟨Below.refl _ _, _, _, rfl, unhide HBD⟩
      | exact ⟨Below.refl _ _, rfl, _, _, unhide HBD⟩
  · by_cases c2 : 8 ≤ client
    · have hC : subC client ptr room = 1 := subC_1 (.inr c2)
      rw [subH_no hC (by omega), hC]
      clear hC
      go_enter Tryd.func40, Tryd.ntmps40
      go_wp2
      go_ret
      first
        | exact ⟨Below.refl _ _, _, _, rfl, unhide HBD⟩
        | exact ⟨Below.refl _ _, rfl, _, _, unhide HBD⟩
    · cases z
      · have hC : subC client ptr room = 2 := subC_2 c1 c2 (unhide HZ)
        rw [subH_no hC (by omega), hC]
        clear hC
        go_enter Tryd.func40, Tryd.ntmps40
        go_wp2_with fail
        refine (unhide HPT).mono ?_
        rintro e w1 ⟨rfl, b1⟩
        have B1 := hide b1
        clear b1 HPT
        go_wp2
        go_ret
        exact ⟨(unhide B1).mono hD, _, _, rfl, (unhide HBD).below (unhide B1)⟩
      · by_cases c3 : room < 1
        · have hC : subC client ptr room = 3 := subC_3 c1 c2 (unhide HZ) (.inl c3)
          rw [subH_no hC (by omega), hC]
          clear hC
          go_enter Tryd.func40, Tryd.ntmps40
          go_wp2_with fail
          refine (unhide HPT).mono ?_
          rintro e w1 ⟨rfl, b1⟩
          have B1 := hide b1
          clear b1 HPT
          go_wp2
          go_ret
          exact ⟨(unhide B1).mono hD, _, _, rfl, (unhide HBD).below (unhide B1)⟩
        · by_cases c4 : 100 < room
          · have hC : subC client ptr room = 3 := subC_3 c1 c2 (unhide HZ) (.inr c4)
            rw [subH_no hC (by omega), hC]
            clear hC
            go_enter Tryd.func40, Tryd.ntmps40
            go_wp2_with fail
            refine (unhide HPT).mono ?_
            rintro e w1 ⟨rfl, b1⟩
            have B1 := hide b1
            clear b1 HPT
            go_wp2
            go_ret
            exact ⟨(unhide B1).mono hD, _, _, rfl, (unhide HBD).below (unhide B1)⟩
          · have hC : subC client ptr room = 0 := subC_0 c1 c2 (unhide HZ) c3 c4
            have hH : subH h client ptr room ver = ⟨(canH h client).watches ++ [subW client ptr room ver], h.waiting⟩ := by unfold subH; rw [if_pos hC]
            rw [hH, hC]
            clear hC hH
            go_enter Tryd.func40, Tryd.ntmps40
            go_wp2_with fail
            refine (unhide HPT).mono ?_
            rintro e w1 ⟨rfl, b1⟩
            have hz1 := b1.size
            have HC := hide (cancelBrd_walk B h pv cv f c ns cb bw client w1 ((unhide HBD).below b1) D hB (unhide HPV) (by omega) hl)
            have B1 := hide (b1.mono hD)
            clear b1 HPT
            go_wp2_with fail
            refine (unhide HC).mono ?_
            rintro e w2 ⟨b2, pv', bw', hpv', hcase⟩
            obtain ⟨h', cd, hh', rfl, hB2, hl'⟩ : ∃ h' cd, canH h client = h' ∧ e = .returned (.int .i64 cd) ∧ Brd w2 B h' pv' cv f c ns cb bw' ∧ h'.watches.length ≤ 1048577 := by
              rcases hcase with ⟨h0, he, hb⟩ | ⟨j, hj, h0, he, hb⟩
              · exact ⟨h, 1, canH_none h0, he, hb, hl⟩
              · exact ⟨_, 0, canH_some h0, he, hb, by have : (h.watches.eraseIdx j).length ≤ h.watches.length := List.length_eraseIdx_le _ _; simp only; omega⟩
            have hw' : h'.waiting = h.waiting := by rw [← hh']; rfl
            have HH' := hide hh'
            have BD2 := hide hB2
            have B2 := hide ((unhide B1).trans b2)
            have HPV' := hide hpv'
            have HW' := hide hw'
            clear b2 hcase hB2 HC B1 hh' hpv' hw'
            obtain ⟨pa, pc, rfl, hp1, hp2⟩ := (unhide BD2).o1.form
            obtain ⟨cbk, rfl⟩ := (unhide BD2).o1.split
            have hab := alloc_b w2 (.cells #[.int .i64 client, .string ptr, .int .i64 room, .int .i64 ver, .bool false, .slice none 0 0] 72)
            have kM := heap_alloc_new w2 (.cells #[.int .i64 client, .string ptr, .int .i64 room, .int .i64 ver, .bool false, .slice none 0 0] 72)
            have hs5 : (w2.alloc (.cells #[.int .i64 client, .string ptr, .int .i64 room, .int .i64 ver, .bool false, .slice none 0 0] 72)).heap.size = w2.heap.size + 1 := by simp
            have b5 := (unhide BD2).below hab
            have B5 := hide ((unhide B2).trans (hab.mono (by have := (unhide B2).size; omega)))
            have hDs : D ≤ w2.heap.size := by have := (unhide B2).size; omega
            have KM := hide kM
            have BD5 := hide b5
            have HAB := hide hab
            clear hab kM b5 hp1 hp2 BD2
            go_wp2_with fail
            generalize (w2.alloc (.cells #[.int .i64 client, .string ptr, .int .i64 room, .int .i64 ver, .bool false, .slice none 0 0] 72)) = w5 at *
            have hD5 : D ≤ w5.heap.size := by omega
            have HS5 := hide hs5
            clear hs5
            have kM5 := unhide KM
            have hb5 := unhide BD5
            have e0 : w5.cell? ⟨w2.heap.size, 0, none⟩ = some (.int .i64 client) := Lib.cell_of_heap kM5 0
            have e1 : w5.cell? ⟨w2.heap.size, 1, none⟩ = some (.string ptr) := Lib.cell_of_heap kM5 1
            have e2 : w5.cell? ⟨w2.heap.size, 2, none⟩ = some (.int .i64 room) := Lib.cell_of_heap kM5 2
            have e3 : w5.cell? ⟨w2.heap.size, 3, none⟩ = some (.int .i64 ver) := Lib.cell_of_heap kM5 3
            have e4 : w5.cell? ⟨w2.heap.size, 4, none⟩ = some (.bool false) := Lib.cell_of_heap kM5 4
            have e5 : w5.cell? ⟨w2.heap.size, 5, none⟩ = some (.slice none 0 0) := Lib.cell_of_heap kM5 5
            have bO : w5.cell? ⟨B, 0, none⟩ = some (.slice pa h'.watches.length pc) := Lib.cell_of_heap hb5.ko 0
            have hxy : Below w5.heap.size w5 ((w5.alloc (.cells #[.int .i64 client, .string ptr, .int .i64 room, .int .i64 ver, .bool false, .slice none 0 0, .slice none 0 0, .int .i64 0, .int .i64 0] 118)).alloc (.cells #[.pointer (some ⟨w5.heap.size, 0, none⟩)] 116)).drew := (below_next (alloc_b _ _) (alloc_b _ _)).drew
            have kX : ((w5.alloc (.cells #[.int .i64 client, .string ptr, .int .i64 room, .int .i64 ver, .bool false, .slice none 0 0, .slice none 0 0, .int .i64 0, .int .i64 0] 118)).alloc (.cells #[.pointer (some ⟨w5.heap.size, 0, none⟩)] 116)).drew.heap[w5.heap.size]? = some (.cells #[.int .i64 client, .string ptr, .int .i64 room, .int .i64 ver, .bool false, .slice none 0 0, .slice none 0 0, .int .i64 0, .int .i64 0] 118) := (Below.block (alloc_b (w5.alloc (.cells #[.int .i64 client, .string ptr, .int .i64 room, .int .i64 ver, .bool false, .slice none 0 0, .slice none 0 0, .int .i64 0, .int .i64 0] 118)) (.cells #[.pointer (some ⟨w5.heap.size, 0, none⟩)] 116)) w5.heap.size (by simp)).trans (heap_alloc_new w5 (.cells #[.int .i64 client, .string ptr, .int .i64 room, .int .i64 ver, .bool false, .slice none 0 0, .slice none 0 0, .int .i64 0, .int .i64 0] 118))
            have E3 : Hid (wtrE.E ((w5.alloc (.cells #[.int .i64 client, .string ptr, .int .i64 room, .int .i64 ver, .bool false, .slice none 0 0, .slice none 0 0, .int .i64 0, .int .i64 0] 118)).alloc (.cells #[.pointer (some ⟨w5.heap.size, 0, none⟩)] 116)).drew [.pointer (some ⟨w5.heap.size, 0, none⟩)] (subW client ptr room ver) (w5.heap.size :: ((Value.slice none 0 0).ownBlock.toList ++ []))) :=
              ⟨w5.heap.size, .slice none 0 0, 0, 0, [], [], rfl, kX, ORow.nil _ _, RingIs.fresh [], by simp, rfl⟩
            have hsx : (w5.alloc (.cells #[.int .i64 client, .string ptr, .int .i64 room, .int .i64 ver, .bool false, .slice none 0 0, .slice none 0 0, .int .i64 0, .int .i64 0] 118)).heap.size = w5.heap.size + 1 := by simp
            have HCE : Hid (∀ (j : Nat) (u : Value), [Value.pointer (some ⟨w5.heap.size, 0, none⟩)][j]? = some u → ((w5.alloc (.cells #[.int .i64 client, .string ptr, .int .i64 room, .int .i64 ver, .bool false, .slice none 0 0, .slice none 0 0, .int .i64 0, .int .i64 0] 118)).alloc (.cells #[.pointer (some ⟨w5.heap.size, 0, none⟩)] 116)).drew.cell? ((⟨w5.heap.size + 1, 0, none⟩ : Addr).add j) = some u) := fun j u hu => by
              have := lit_cells (w5.alloc (.cells #[.int .i64 client, .string ptr, .int .i64 room, .int .i64 ver, .bool false, .slice none 0 0, .slice none 0 0, .int .i64 0, .int .i64 0] 118)) [Value.pointer (some ⟨w5.heap.size, 0, none⟩)] 116 j u hu
              rw [hsx] at this; exact this
            have kB6 := (hxy.block B (Array.getElem?_eq_some_iff.1 hb5.ko).1).trans hb5.ko
            have OP6 := hide (hb5.o1.below hxy)
            have KB6 := hide kB6
            have bO6 : ((w5.alloc (.cells #[.int .i64 client, .string ptr, .int .i64 room, .int .i64 ver, .bool false, .slice none 0 0, .slice none 0 0, .int .i64 0, .int .i64 0] 118)).alloc (.cells #[.pointer (some ⟨w5.heap.size, 0, none⟩)] 116)).drew.cell? ⟨B, 0, none⟩ = some (.slice pa h'.watches.length pc) := Lib.cell_of_heap kB6 0
            have bO7 : (w5.alloc (.cells #[.int .i64 client, .string ptr, .int .i64 room, .int .i64 ver, .bool false, .slice none 0 0, .slice none 0 0, .int .i64 0, .int .i64 0] 118)).cell? ⟨B, 0, none⟩ = some (.slice pa h'.watches.length pc) := ((alloc_b w5 (.cells #[.int .i64 client, .string ptr, .int .i64 room, .int .i64 ver, .bool false, .slice none 0 0, .slice none 0 0, .int .i64 0, .int .i64 0] 118)).cell (p := ⟨B, 0, none⟩) (Array.getElem?_eq_some_iff.1 hb5.ko).1).trans bO
            have HXY := hide hxy
            have hone : Hid (∀ u ∈ [Value.pointer (some ⟨w5.heap.size, 0, none⟩)], u.oneCell' = true) := fun u hu => by simp at hu; subst hu; rfl
            have ON5 := hide (hb5.o2.below hxy)
            have tyB5 : B ∉ cv.ownBlock.toList ++ cb := fun hm => by
              obtain ⟨cur', t, e1, e2⟩ := nwss_ty hb5.o2 B hm
              rw [hb5.ko] at e1
              injection e1 with e1; injection e1 with _ e1
              subst e1
              exact absurd e2 (by decide)
            have TYB := hide tyB5
            have HRG := hide hb5.ring
            have hnl := hb5.len
            clear hxy kX kB6 hsx kM5 hb5 tyB5
            go_region_law (first
              | (refine step_append_elem2 (e := wtrE) wtr_ty (by decide) Tryd.underlying108 infoWtr rfl (by decide) (by decide) rfl (.tmp 42) (.tmp 46) rfl (B := D) rfl (unhide OP6) (unhide HPV') (unhide E3) rfl (by exact unhide HCE) (by exact unhide hone) (by simp; omega) (by omega) ?_
                 intro v' w7 o7 g7 hg7
                 obtain ⟨va, vc, rfl, hv1, hv2⟩ := o7.form
                 have ko7 := (hg7.block B (by simp; have := (Array.getElem?_eq_some_iff.1 (unhide KB6)).1; simp at this; omega) fun e => by
                   obtain ⟨cur', t, e1, e2⟩ := orow_ty (e := wtrE) wtr_ty (unhide OP6) B ((unhide OP6).head e.symm)
                   rw [unhide KB6] at e1
                   injection e1 with e1; injection e1 with _ e1
                   subst e1
                   exact absurd e2 (by decide)).trans (unhide KB6)
                 have cO7 : w7.cell? ⟨B, 0, none⟩ = some (.slice pa h'.watches.length pc) := Lib.cell_of_heap ko7 0
                 have fO7 := Lib.frozen_of_heap ko7))
            all_goals (
              have tyN : ∀ {wx : World} {bl : List Nat} {ts : List TypeId} {cur : Array Value}, wx.heap[B]? = some (.cells cur 110 (0, 0)) → Tys ts wx bl → 110 ∉ ts → B ∉ bl := fun hk ht hn hm => by
                obtain ⟨cur', t, e1, e2⟩ := ht B hm
                rw [hk] at e1
                injection e1 with e1; injection e1 with _ e1
                exact hn (e1 ▸ e2)
              have on7 := (unhide ON5).keep fun b hb => hg7.block b ((unhide ON5).lt b hb) fun e => by
                obtain ⟨cs9, hcs9⟩ := (unhide OP6).own
                exact (nwss_ty (unhide ON5)).not hcs9 (by decide) e.symm hb
              have kn := heap_setCell_same _ _ 0 _ _ (.slice va (h'.watches ++ [subW client ptr room ver]).length vc) ko7
              have ow := o7.other (g := B) (tyN ko7 (orow_ty (e := wtrE) wtr_ty o7) (by decide)) 0 (.slice va (h'.watches ++ [subW client ptr room ver]).length vc)
              have on := on7.other (g := B) (tyN ko7 (nwss_ty on7) (by decide)) 0 (.slice va (h'.watches ++ [subW client ptr room ver]).length vc)
              have bl7 := (((unhide B5).trans ((unhide HXY).mono hD5)).grown hg7 (by simp; omega) (unhide HPV')).setCell (p := ⟨B, 0, none⟩) hB (.slice va (h'.watches ++ [subW client ptr room ver]).length vc)
              rw [List.length_append, List.length_singleton] at kn ow on bl7
              have HR : Hid (Brd (w7.setCell ⟨B, 0, none⟩ (.slice va (h'.watches.length + 1) vc)) B ⟨h'.watches ++ [subW client ptr room ver], h.waiting⟩ (.slice va (h'.watches.length + 1) vc) cv f c ns cb _) := ⟨kn, ow, on, (unhide HW') ▸ unhide HRG, hnl⟩
              have HBL := hide bl7
              clear tyN on7 kn ow on bl7 o7 g7 hg7 hv1 hv2 ko7 cO7 fO7 OP6 E3 HCE hone KB6 HXY ON5 TYB HRG bO bO6 bO7 e0 e1 e2 e3 e4 e5 KM BD5 HAB
              go_wp2
              go_ret
              rw [unhide HH']
              first
                | exact ⟨unhide HBL, _, _, rfl, unhide HR⟩
                | exact ⟨unhide HBL, rfl, _, _, unhide HR⟩)
end Go.Proofs.YtbcfkkicmmhhcaaDoor

namespace Go.Proofs.YtbcfkkicmmhhcaaDoor
open Go.RowKit

theorem subH_sz {h : Hb} {c : Int} {p : ByteArray} {r v : Int} (hs : szHb h ≤ 1048576) (hp : p.size ≤ 1048576) : szHb (subH h c p r v) ≤ 2097154 ∧ (∀ x ∈ (subH h c p r v).watches, szWat x ≤ 1048577) ∧ (∀ x ∈ (subH h c p r v).waiting, x.ptrs.length ≤ 1048577) := by
  have hz1 : szWats h.watches ≤ 1048577 := by unfold szHb at hs; omega
  have hz2 : szNwss h.waiting ≤ 1048577 := by unfold szHb at hs; omega
  have hs1 : ∀ x ∈ h.watches, szWat x ≤ 1048577 := fun x hx => by
    obtain ⟨k, hk, rfl⟩ := List.mem_iff_getElem.1 hx
    have h1 := sum_take_snoc szWat h.watches k h.watches[k] (List.getElem?_eq_getElem hk)
    have h2 := sum_take_le (h.watches.map szWat) (k + 1)
    rw [← List.map_take] at h2
    unfold szWats at hz1; omega
  have hs2 : ∀ x ∈ h.waiting, x.ptrs.length ≤ 1048577 := fun x hx => by
    obtain ⟨k, hk, rfl⟩ := List.mem_iff_getElem.1 hx
    have h1 := sum_take_snoc szNws h.waiting k h.waiting[k] (List.getElem?_eq_getElem hk)
    have h2 := sum_take_le (h.waiting.map szNws) (k + 1)
    rw [← List.map_take] at h2
    unfold szNwss at hz2
    have h3 : h.waiting[k].ptrs.length ≤ szNws h.waiting[k] := by unfold szNws szStr; omega
    omega
  unfold subH
  by_cases h0 : subC c p r = 0
  · rw [if_pos h0]
    have hw : szWat (subW c p r v) = p.size := by simp [subW, szWat, szMsgs]
    have hcz := canH_sz (c := c) hs
    have hcw : (canH h c).waiting = h.waiting := rfl
    refine ⟨?_, fun x hx => ?_, hs2⟩
    · show szWats ((canH h c).watches ++ [subW c p r v]) + szNwss h.waiting ≤ 2097154
      unfold szHb at hcz
      rw [hcw] at hcz
      unfold szWats at hcz ⊢
      simp [hw]
      omega
    · rcases List.mem_append.1 hx with hx | hx
      · rcases findI_cases h.watches c with h1 | ⟨j, _, h1, _⟩
        · rw [canH_none h1] at hx; exact hs1 x hx
        · rw [canH_some h1] at hx; exact hs1 x (List.mem_of_mem_eraseIdx hx)
      · simp at hx
        rw [hx, hw]; omega
  · rw [if_neg h0]
    exact ⟨by omega, hs1, hs2⟩

set_option maxHeartbeats 1600000 in
set_option maxRecDepth 100000 in
theorem implSubscribe_walk (v : Value) (h : Hb) (client : Int) (ptr : ByteArray) (room ver : Int) (bl : List Nat) (w : World) (ho : OHub w v h bl) (hML : ML w) (hp : ptr.size ≤ 1048576) (hs : szHb h ≤ 1048576) :
    Calls Tryd.prog 14 #[v, .int .i64 client, .string ptr, .int .i64 room, .int .i64 ver] w fun e w' => ∃ v' bl', e = .returned (.tuple #[v', .int .i64 (subC client ptr room)]) ∧ OHub w' v' (subH h client ptr room ver) bl' ∧ Fsh w.heap.size bl' ∧ Below w.heap.size w w' := by
  obtain ⟨p, q, i1, i2, rfl, o1, o2, rfl⟩ := ho
  have HO : Hid (OHub w (.agg #[p, q]) h (i1 ++ i2)) := ⟨p, q, i1, i2, rfl, o1, o2, rfl⟩
  have hsb : szHb h ≤ 1048577 := by omega
  have hz1 : szWats h.watches ≤ 1048577 := by unfold szHb at hs; omega
  have hz2 : szNwss h.waiting ≤ 1048577 := by unfold szHb at hs; omega
  have hl1 : h.watches.length ≤ 1048577 := by unfold szWats at hz1; omega
  obtain ⟨hse, hs1', hs2'⟩ := subH_sz (c := client) (p := ptr) (r := room) (v := ver) hs hp
  have HS1 := hide hs1'
  have HS2 := hide hs2'
  have HML := hide hML
  clear o1 o2 hz1 hz2 hs1' hs2' hML
  go_enter Tryd.func14, Tryd.ntmps14
  go_wp2_with fail
  have hA := new2 w (Obj.cells #[p, q] 39) (Obj.cells #[Value.slice none 0 0, Value.slice none 0 0] 39)
  generalize ((w.alloc (Obj.cells #[p, q] 39)).alloc (Obj.cells #[Value.slice none 0 0, Value.slice none 0 0] 39)) = wA at *
  have hsz := hA.size
  refine (readHub_walk _ h (i1 ++ i2) wA ((unhide HO).below hA.bel) hsb).mono ?_
  rintro e w1 ⟨B, bv, cv, cb, bw, rfl, hB, hBn, _, hpn, _, b1⟩
  have hz1 := b1.size
  have B1 := below_next hA.bel b1
  have k1 := (b1.block (w.heap.size + 1) (by omega)).trans hA.k1
  have HM := hide (subBrd_walk B h bv cv 0 h.waiting.length h.waiting cb bw client ptr room ver w1 hB ((unhide HML).below B1) hp wA.heap.size hBn hpn hz1 hl1)
  have HB1 := hide B1
  have HK1 := hide k1
  clear hA b1 B1 k1 hB HO hpn
  go_wp2_with fail
  refine (unhide HM).mono ?_
  rintro e w2 ⟨b2, pv', bw', rfl, hB2⟩
  have hs1' := unhide HS1
  have hs2' := unhide HS2
  have hse' := hse
  clear HS1 HS2 hse
  obtain ⟨h', hh'⟩ : ∃ h', subH h client ptr room ver = h' := ⟨_, rfl⟩
  obtain ⟨cd, hcd⟩ : ∃ cd, subC client ptr room = cd := ⟨_, rfl⟩
  rw [hh'] at hB2 hs1' hs2' hse'
  rw [hcd]
  have hz2 := b2.size
  have B2 : Below w.heap.size w w2 := (unhide HB1).trans (b2.mono (by omega))
  have k2 := (b2.block (w.heap.size + 1) (by omega)).trans (unhide HK1)
  have HTL := hide (tellHub_walk B _ pv' cv 0 h.waiting.length h.waiting cb bw' w2 hB2 hse' hs1' hs2')
  have HB2 := hide B2
  have HK2 := hide k2
  have HH := hide hh'
  have HCD := hide hcd
  clear b2 hB2 B2 k2 HM HB1 HK1 hse' hs1' hs2' hh' hcd
  go_wp2_with fail
  refine (unhide HTL).mono ?_
  rintro e w3 ⟨v3, bl3, rfl, o3, f3, b3⟩
  obtain ⟨p3, q3, j1, j2, rfl, po, qo, rfl⟩ := o3
  obtain ⟨pa, pc, rfl, hp1, hp2⟩ := po.form
  obtain ⟨qa, qc, rfl, hq1, hq2⟩ := qo.form
  have k3 := (b3.block (w.heap.size + 1) (by omega)).trans (unhide HK2)
  have hz3 := b3.size
  have r0 : w3.cell? ⟨w.heap.size + 1, 0, none⟩ = some (.slice none 0 0) := Lib.cell_of_heap k3 0
  have r1 : w3.cell? ⟨w.heap.size + 1, 1, none⟩ = some (.slice none 0 0) := Lib.cell_of_heap k3 1
  have fr := Lib.frozen_of_heap k3
  have HB3 := hide (below_next (unhide HB2) b3)
  have HPO := hide po
  have HQO := hide qo
  have HF3 := hide f3
  have HK3 := hide k3
  clear b3 po qo f3 k3 hp1 hp2 hq1 hq2 HTL HB2 HK2
  go_wp2
  refine bodyPost_ret (results_cell_tmp rfl _ _ (w.heap.size + 1) 39 #[_, _] (0, 0) _ _ rfl rfl (putN_full (unhide HK3) [_, _] rfl) Tryd.underlying39 rfl (by kernel_rfl)) rfl ?_
  have hn : w.heap.size + 1 ∉ j1 ++ j2 := fun hm => by have := (unhide HF3).2 _ hm; omega
  have n1 : w.heap.size + 1 ∉ j1 := fun hm => hn (List.mem_append.2 (.inl hm))
  have n2 : w.heap.size + 1 ∉ j2 := fun hm => hn (List.mem_append.2 (.inr hm))
  rw [unhide HH, unhide HCD]
  exact ⟨_, j1 ++ j2, rfl, ⟨_, _, j1, j2, rfl, (unhide HPO).putN n1 [_, _] 0, (unhide HQO).putN n2 [_, _] 0, rfl⟩, (unhide HF3).mono (by omega), putN_below (g := w.heap.size + 1) (unhide HB3) (by omega) [_, _] 0⟩
end Go.Proofs.YtbcfkkicmmhhcaaDoor

namespace Go.Proofs.YtbcfkkicmmhhcaaDoor
open Go.RowKit

theorem l2IsPtr_walk (s : ByteArray) (w : World) (hsz : s.size ≤ 1048576) :
    Calls Tryd.prog 35 #[.string s] w fun e w' => e = .returned (.bool (ptoks s.data.toList).isSome) ∧ Below w.heap.size w w' := by
  have HT := hide (specToks_walk s w hsz)
  generalize (ptoks s.data.toList).isSome = z at *
  go_enter Tryd.func35, Tryd.ntmps35
  go_wp2_with fail
  refine (unhide HT).mono ?_
  rintro e w1 ⟨v0, rfl, o1, b1⟩
  have HB := hide b1
  clear HT o1 b1
  go_wp2
  go_ret
  exact ⟨rfl, unhide HB⟩

set_option maxHeartbeats 8000000 in
set_option maxRecDepth 100000 in
theorem specSubscribe_walk (v : Value) (h : Hb) (client : Int) (ptr : ByteArray) (room ver : Int) (bl : List Nat) (w : World) (ho : OHub w v h bl) (hp : ptr.size ≤ 1048576) (hs : szHb h ≤ 1048577) :
    Calls Tryd.prog 12 #[v, .int .i64 client, .string ptr, .int .i64 room, .int .i64 ver] w fun e w' => ∃ v' bl', e = .returned (.tuple #[v', .int .i64 (subC client ptr room)]) ∧ OHub w' v' (subH h client ptr room ver) bl' ∧ Fsh w.heap.size bl' ∧ Below w.heap.size w w' := by
  obtain ⟨p, q, i1, i2, rfl, o1, o2, rfl⟩ := ho
  have HO : Hid (OHub w (.agg #[p, q]) h (i1 ++ i2)) := ⟨p, q, i1, i2, rfl, o1, o2, rfl⟩
  clear o1 o2
  obtain ⟨z, hz⟩ : ∃ z, (ptoks ptr.data.toList).isSome = z := ⟨_, rfl⟩
  have HZ := hide hz
  clear hz
  by_cases c1 : client < 0
  · have hC : subC client ptr room = 1 := subC_1 (.inl c1)
    rw [subH_no hC (by omega), hC]
    clear hC
    go_enter Tryd.func12, Tryd.ntmps12
    go_wp2_with fail
    have hA := new2 w (Obj.cells #[p, q] 39) (Obj.cells #[Value.slice none 0 0, Value.slice none 0 0] 39)
    generalize ((w.alloc (Obj.cells #[p, q] 39)).alloc (Obj.cells #[Value.slice none 0 0, Value.slice none 0 0] 39)) = wA at *
    have hsz := hA.size
    have HB1 := hide hA.bel
    have HK1 := hide hA.k1
    have HC := hide (l5Copy_walk _ h (-1) 0 _ wA ((unhide HO).below hA.bel) hs (by omega))
    clear hA HO
    refine (unhide HC).mono ?_
    clear HC
    rintro e w2 ⟨v2, b2l, rfl, o2, f2, b2⟩
    rw [copyH_none] at o2
    obtain ⟨pw, qw, x1, x2, rfl, ow, ox, rfl⟩ := o2
    obtain ⟨a1, d1, rfl, t1, t2⟩ := ow.form
    obtain ⟨a2, d2, rfl, t3, t4⟩ := ox.form
    have hz2 := b2.size
    have k2 := (b2.block (w.heap.size + 1) (by omega)).trans (unhide HK1)
    have r0 : w2.cell? ⟨w.heap.size + 1, 0, none⟩ = some (.slice none 0 0) := Lib.cell_of_heap k2 0
    have r1 : w2.cell? ⟨w.heap.size + 1, 1, none⟩ = some (.slice none 0 0) := Lib.cell_of_heap k2 1
    have fr := Lib.frozen_of_heap k2
    have OW := hide ow
    have OX := hide ox
    have F2 := hide f2
    have K2 := hide k2
    have B2 := hide (below_next (unhide HB1) b2)
    clear ow ox f2 k2 b2 HB1 HK1 t1 t2 t3 t4
    go_wp2
    refine bodyPost_ret (results_cell_tmp rfl _ _ (w.heap.size + 1) 39 #[_, _] (0, 0) _ _ rfl rfl (putN_full (unhide K2) [_, _] rfl) Tryd.underlying39 rfl (by kernel_rfl)) rfl ?_
    have hn : w.heap.size + 1 ∉ x1 ++ x2 := fun hm => by have := (unhide F2).2 _ hm; omega
    have n1 : w.heap.size + 1 ∉ x1 := fun hm => hn (List.mem_append.2 (.inl hm))
    have n2 : w.heap.size + 1 ∉ x2 := fun hm => hn (List.mem_append.2 (.inr hm))
    refine ⟨_, x1 ++ x2, rfl, ⟨_, _, x1, x2, rfl, (unhide OW).putN n1 [_, _] 0, (unhide OX).putN n2 [_, _] 0, rfl⟩, (unhide F2).mono (by omega), putN_below (g := w.heap.size + 1) (unhide B2) (by omega) [_, _] 0⟩
  · by_cases c2 : 8 ≤ client
    · have hC : subC client ptr room = 1 := subC_1 (.inr c2)
      rw [subH_no hC (by omega), hC]
      clear hC
      go_enter Tryd.func12, Tryd.ntmps12
      go_wp2_with fail
      have hA := new2 w (Obj.cells #[p, q] 39) (Obj.cells #[Value.slice none 0 0, Value.slice none 0 0] 39)
      generalize ((w.alloc (Obj.cells #[p, q] 39)).alloc (Obj.cells #[Value.slice none 0 0, Value.slice none 0 0] 39)) = wA at *
      have hsz := hA.size
      have HB1 := hide hA.bel
      have HK1 := hide hA.k1
      have HC := hide (l5Copy_walk _ h (-1) 0 _ wA ((unhide HO).below hA.bel) hs (by omega))
      clear hA HO
      refine (unhide HC).mono ?_
      clear HC
      rintro e w2 ⟨v2, b2l, rfl, o2, f2, b2⟩
      rw [copyH_none] at o2
      obtain ⟨pw, qw, x1, x2, rfl, ow, ox, rfl⟩ := o2
      obtain ⟨a1, d1, rfl, t1, t2⟩ := ow.form
      obtain ⟨a2, d2, rfl, t3, t4⟩ := ox.form
      have hz2 := b2.size
      have k2 := (b2.block (w.heap.size + 1) (by omega)).trans (unhide HK1)
      have r0 : w2.cell? ⟨w.heap.size + 1, 0, none⟩ = some (.slice none 0 0) := Lib.cell_of_heap k2 0
      have r1 : w2.cell? ⟨w.heap.size + 1, 1, none⟩ = some (.slice none 0 0) := Lib.cell_of_heap k2 1
      have fr := Lib.frozen_of_heap k2
      have OW := hide ow
      have OX := hide ox
      have F2 := hide f2
      have K2 := hide k2
      have B2 := hide (below_next (unhide HB1) b2)
      clear ow ox f2 k2 b2 HB1 HK1 t1 t2 t3 t4
      go_wp2
      refine bodyPost_ret (results_cell_tmp rfl _ _ (w.heap.size + 1) 39 #[_, _] (0, 0) _ _ rfl rfl (putN_full (unhide K2) [_, _] rfl) Tryd.underlying39 rfl (by kernel_rfl)) rfl ?_
      have hn : w.heap.size + 1 ∉ x1 ++ x2 := fun hm => by have := (unhide F2).2 _ hm; omega
      have n1 : w.heap.size + 1 ∉ x1 := fun hm => hn (List.mem_append.2 (.inl hm))
      have n2 : w.heap.size + 1 ∉ x2 := fun hm => hn (List.mem_append.2 (.inr hm))
      refine ⟨_, x1 ++ x2, rfl, ⟨_, _, x1, x2, rfl, (unhide OW).putN n1 [_, _] 0, (unhide OX).putN n2 [_, _] 0, rfl⟩, (unhide F2).mono (by omega), putN_below (g := w.heap.size + 1) (unhide B2) (by omega) [_, _] 0⟩
    · cases z
      · have hC : subC client ptr room = 2 := subC_2 c1 c2 (unhide HZ)
        rw [subH_no hC (by omega), hC]
        clear hC
        go_enter Tryd.func12, Tryd.ntmps12
        go_wp2_with fail
        have hA := new2 w (Obj.cells #[p, q] 39) (Obj.cells #[Value.slice none 0 0, Value.slice none 0 0] 39)
        generalize ((w.alloc (Obj.cells #[p, q] 39)).alloc (Obj.cells #[Value.slice none 0 0, Value.slice none 0 0] 39)) = wA at *
        have hsz := hA.size
        refine (l2IsPtr_walk ptr wA hp).mono ?_
        rintro e w1 ⟨rfl, b1⟩
        have hz1 := b1.size
        have B1 := below_next hA.bel b1
        have k0 := (b1.block w.heap.size (by omega)).trans hA.k0
        have k1 := (b1.block (w.heap.size + 1) (by omega)).trans hA.k1
        have c0 : w1.cell? ⟨w.heap.size, 0, none⟩ = some p := Lib.cell_of_heap k0 0
        have c1' : w1.cell? ⟨w.heap.size, 1, none⟩ = some q := Lib.cell_of_heap k0 1
        have HB1 := hide B1
        have HK1 := hide k1
        have HC := hide (l5Copy_walk _ h (-1) 0 _ w1 ((unhide HO).below B1) hs (by omega))
        clear hA HO b1 B1 k0 k1
        rw [unhide HZ]
        go_wp2_with fail
        refine (unhide HC).mono ?_
        clear HC c0 c1'
        rintro e w2 ⟨v2, b2l, rfl, o2, f2, b2⟩
        rw [copyH_none] at o2
        obtain ⟨pw, qw, x1, x2, rfl, ow, ox, rfl⟩ := o2
        obtain ⟨a1, d1, rfl, t1, t2⟩ := ow.form
        obtain ⟨a2, d2, rfl, t3, t4⟩ := ox.form
        have hz2 := b2.size
        have k2 := (b2.block (w.heap.size + 1) (by omega)).trans (unhide HK1)
        have r0 : w2.cell? ⟨w.heap.size + 1, 0, none⟩ = some (.slice none 0 0) := Lib.cell_of_heap k2 0
        have r1 : w2.cell? ⟨w.heap.size + 1, 1, none⟩ = some (.slice none 0 0) := Lib.cell_of_heap k2 1
        have fr := Lib.frozen_of_heap k2
        have OW := hide ow
        have OX := hide ox
        have F2 := hide f2
        have K2 := hide k2
        have B2 := hide (below_next (unhide HB1) b2)
        clear ow ox f2 k2 b2 HB1 HK1 t1 t2 t3 t4
        go_wp2
        refine bodyPost_ret (results_cell_tmp rfl _ _ (w.heap.size + 1) 39 #[_, _] (0, 0) _ _ rfl rfl (putN_full (unhide K2) [_, _] rfl) Tryd.underlying39 rfl (by kernel_rfl)) rfl ?_
        have hn : w.heap.size + 1 ∉ x1 ++ x2 := fun hm => by have := (unhide F2).2 _ hm; omega
        have n1 : w.heap.size + 1 ∉ x1 := fun hm => hn (List.mem_append.2 (.inl hm))
        have n2 : w.heap.size + 1 ∉ x2 := fun hm => hn (List.mem_append.2 (.inr hm))
        refine ⟨_, x1 ++ x2, rfl, ⟨_, _, x1, x2, rfl, (unhide OW).putN n1 [_, _] 0, (unhide OX).putN n2 [_, _] 0, rfl⟩, (unhide F2).mono (by omega), putN_below (g := w.heap.size + 1) (unhide B2) (by omega) [_, _] 0⟩
      · by_cases c3 : room < 1
        · have hC : subC client ptr room = 3 := subC_3 c1 c2 (unhide HZ) (.inl c3)
          rw [subH_no hC (by omega), hC]
          clear hC
          go_enter Tryd.func12, Tryd.ntmps12
          go_wp2_with fail
          have hA := new2 w (Obj.cells #[p, q] 39) (Obj.cells #[Value.slice none 0 0, Value.slice none 0 0] 39)
          generalize ((w.alloc (Obj.cells #[p, q] 39)).alloc (Obj.cells #[Value.slice none 0 0, Value.slice none 0 0] 39)) = wA at *
          have hsz := hA.size
          refine (l2IsPtr_walk ptr wA hp).mono ?_
          rintro e w1 ⟨rfl, b1⟩
          have hz1 := b1.size
          have B1 := below_next hA.bel b1
          have k0 := (b1.block w.heap.size (by omega)).trans hA.k0
          have k1 := (b1.block (w.heap.size + 1) (by omega)).trans hA.k1
          have c0 : w1.cell? ⟨w.heap.size, 0, none⟩ = some p := Lib.cell_of_heap k0 0
          have c1' : w1.cell? ⟨w.heap.size, 1, none⟩ = some q := Lib.cell_of_heap k0 1
          have HB1 := hide B1
          have HK1 := hide k1
          have HC := hide (l5Copy_walk _ h (-1) 0 _ w1 ((unhide HO).below B1) hs (by omega))
          clear hA HO b1 B1 k0 k1
          rw [unhide HZ]
          go_wp2_with fail
          refine (unhide HC).mono ?_
          clear HC c0 c1'
          rintro e w2 ⟨v2, b2l, rfl, o2, f2, b2⟩
          rw [copyH_none] at o2
          obtain ⟨pw, qw, x1, x2, rfl, ow, ox, rfl⟩ := o2
          obtain ⟨a1, d1, rfl, t1, t2⟩ := ow.form
          obtain ⟨a2, d2, rfl, t3, t4⟩ := ox.form
          have hz2 := b2.size
          have k2 := (b2.block (w.heap.size + 1) (by omega)).trans (unhide HK1)
          have r0 : w2.cell? ⟨w.heap.size + 1, 0, none⟩ = some (.slice none 0 0) := Lib.cell_of_heap k2 0
          have r1 : w2.cell? ⟨w.heap.size + 1, 1, none⟩ = some (.slice none 0 0) := Lib.cell_of_heap k2 1
          have fr := Lib.frozen_of_heap k2
          have OW := hide ow
          have OX := hide ox
          have F2 := hide f2
          have K2 := hide k2
          have B2 := hide (below_next (unhide HB1) b2)
          clear ow ox f2 k2 b2 HB1 HK1 t1 t2 t3 t4
          go_wp2
          refine bodyPost_ret (results_cell_tmp rfl _ _ (w.heap.size + 1) 39 #[_, _] (0, 0) _ _ rfl rfl (putN_full (unhide K2) [_, _] rfl) Tryd.underlying39 rfl (by kernel_rfl)) rfl ?_
          have hn : w.heap.size + 1 ∉ x1 ++ x2 := fun hm => by have := (unhide F2).2 _ hm; omega
          have n1 : w.heap.size + 1 ∉ x1 := fun hm => hn (List.mem_append.2 (.inl hm))
          have n2 : w.heap.size + 1 ∉ x2 := fun hm => hn (List.mem_append.2 (.inr hm))
          refine ⟨_, x1 ++ x2, rfl, ⟨_, _, x1, x2, rfl, (unhide OW).putN n1 [_, _] 0, (unhide OX).putN n2 [_, _] 0, rfl⟩, (unhide F2).mono (by omega), putN_below (g := w.heap.size + 1) (unhide B2) (by omega) [_, _] 0⟩
        · by_cases c4 : 100 < room
          · have hC : subC client ptr room = 3 := subC_3 c1 c2 (unhide HZ) (.inr c4)
            rw [subH_no hC (by omega), hC]
            clear hC
            go_enter Tryd.func12, Tryd.ntmps12
            go_wp2_with fail
            have hA := new2 w (Obj.cells #[p, q] 39) (Obj.cells #[Value.slice none 0 0, Value.slice none 0 0] 39)
            generalize ((w.alloc (Obj.cells #[p, q] 39)).alloc (Obj.cells #[Value.slice none 0 0, Value.slice none 0 0] 39)) = wA at *
            have hsz := hA.size
            refine (l2IsPtr_walk ptr wA hp).mono ?_
            rintro e w1 ⟨rfl, b1⟩
            have hz1 := b1.size
            have B1 := below_next hA.bel b1
            have k0 := (b1.block w.heap.size (by omega)).trans hA.k0
            have k1 := (b1.block (w.heap.size + 1) (by omega)).trans hA.k1
            have c0 : w1.cell? ⟨w.heap.size, 0, none⟩ = some p := Lib.cell_of_heap k0 0
            have c1' : w1.cell? ⟨w.heap.size, 1, none⟩ = some q := Lib.cell_of_heap k0 1
            have HB1 := hide B1
            have HK1 := hide k1
            have HC := hide (l5Copy_walk _ h (-1) 0 _ w1 ((unhide HO).below B1) hs (by omega))
            clear hA HO b1 B1 k0 k1
            rw [unhide HZ]
            go_wp2_with fail
            refine (unhide HC).mono ?_
            clear HC c0 c1'
            rintro e w2 ⟨v2, b2l, rfl, o2, f2, b2⟩
            rw [copyH_none] at o2
            obtain ⟨pw, qw, x1, x2, rfl, ow, ox, rfl⟩ := o2
            obtain ⟨a1, d1, rfl, t1, t2⟩ := ow.form
            obtain ⟨a2, d2, rfl, t3, t4⟩ := ox.form
            have hz2 := b2.size
            have k2 := (b2.block (w.heap.size + 1) (by omega)).trans (unhide HK1)
            have r0 : w2.cell? ⟨w.heap.size + 1, 0, none⟩ = some (.slice none 0 0) := Lib.cell_of_heap k2 0
            have r1 : w2.cell? ⟨w.heap.size + 1, 1, none⟩ = some (.slice none 0 0) := Lib.cell_of_heap k2 1
            have fr := Lib.frozen_of_heap k2
            have OW := hide ow
            have OX := hide ox
            have F2 := hide f2
            have K2 := hide k2
            have B2 := hide (below_next (unhide HB1) b2)
            clear ow ox f2 k2 b2 HB1 HK1 t1 t2 t3 t4
            go_wp2
            refine bodyPost_ret (results_cell_tmp rfl _ _ (w.heap.size + 1) 39 #[_, _] (0, 0) _ _ rfl rfl (putN_full (unhide K2) [_, _] rfl) Tryd.underlying39 rfl (by kernel_rfl)) rfl ?_
            have hn : w.heap.size + 1 ∉ x1 ++ x2 := fun hm => by have := (unhide F2).2 _ hm; omega
            have n1 : w.heap.size + 1 ∉ x1 := fun hm => hn (List.mem_append.2 (.inl hm))
            have n2 : w.heap.size + 1 ∉ x2 := fun hm => hn (List.mem_append.2 (.inr hm))
            refine ⟨_, x1 ++ x2, rfl, ⟨_, _, x1, x2, rfl, (unhide OW).putN n1 [_, _] 0, (unhide OX).putN n2 [_, _] 0, rfl⟩, (unhide F2).mono (by omega), putN_below (g := w.heap.size + 1) (unhide B2) (by omega) [_, _] 0⟩
          · have hC : subC client ptr room = 0 := subC_0 c1 c2 (unhide HZ) c3 c4
            have hH : subH h client ptr room ver = ⟨(canH h client).watches ++ [subW client ptr room ver], h.waiting⟩ := by unfold subH; rw [if_pos hC]
            rw [hH, hC]
            clear hC hH
            go_enter Tryd.func12, Tryd.ntmps12
            go_wp2_with fail
            have hA := new2 w (Obj.cells #[p, q] 39) (Obj.cells #[Value.slice none 0 0, Value.slice none 0 0] 39)
            generalize ((w.alloc (Obj.cells #[p, q] 39)).alloc (Obj.cells #[Value.slice none 0 0, Value.slice none 0 0] 39)) = wA at *
            have hsz := hA.size
            refine (l2IsPtr_walk ptr wA hp).mono ?_
            rintro e w1 ⟨rfl, b1⟩
            have hz1 := b1.size
            have B1 := below_next hA.bel b1
            have k0 := (b1.block w.heap.size (by omega)).trans hA.k0
            have k1 := (b1.block (w.heap.size + 1) (by omega)).trans hA.k1
            have c0 : w1.cell? ⟨w.heap.size, 0, none⟩ = some p := Lib.cell_of_heap k0 0
            have c1' : w1.cell? ⟨w.heap.size, 1, none⟩ = some q := Lib.cell_of_heap k0 1
            have HB1 := hide B1
            have HK0 := hide k0
            have HK1 := hide k1
            have hdr : Below w1.heap.size w1 w1.drew := (Below.refl _ _).drew
            have HF : Hid (∀ wx, Below w1.heap.size w1 wx → Calls Tryd.prog 36 #[.agg #[p, q], .int .i64 client] wx fun e w' => e = .returned (.int .i64 (findI h.watches client)) ∧ Below w1.heap.size w1 w' ∧ Below wx.heap.size wx w') := fun wx hx => (l5Find_walk _ h client _ wx ((unhide HO).below (below_next (unhide HB1) hx))).mono fun e w' ⟨h1, h2⟩ => ⟨h1, below_next hx h2, h2⟩
            have HC : Hid (∀ wx, Below w1.heap.size w1 wx → Calls Tryd.prog 34 #[.agg #[p, q], .int .i64 (findI h.watches client), .int .i64 0] wx fun e w' => ∃ v' bl', e = .returned v' ∧ OHub w' v' (copyH h (findI h.watches client) 0) bl' ∧ Fsh wx.heap.size bl' ∧ Below w1.heap.size w1 w' ∧ Below wx.heap.size wx w') := fun wx hx => (l5Copy_walk _ h (findI h.watches client) 0 _ wx ((unhide HO).below (below_next (unhide HB1) hx)) hs (by omega)).mono fun e w' ⟨v', bl', h1, h2, h3, h4⟩ => ⟨v', bl', h1, h2, h3, below_next hx h4, h4⟩
            have hda : Below w1.heap.size w1 (w1.alloc (Obj.cells #[Value.slice none 0 0, Value.slice none 0 0] 39)).drew := (alloc_b _ _).drew
            have c0a : (w1.alloc (Obj.cells #[Value.slice none 0 0, Value.slice none 0 0] 39)).cell? ⟨w.heap.size, 0, none⟩ = some p := (hda.cell (World.block_lt_of_cell? _ _ c0)).trans c0
            have c1a : (w1.alloc (Obj.cells #[Value.slice none 0 0, Value.slice none 0 0] 39)).cell? ⟨w.heap.size, 1, none⟩ = some q := (hda.cell (World.block_lt_of_cell? _ _ c1')).trans c1'
            have HDR := hide hdr
            have HDA := hide hda
            clear hA b1 B1 k0 k1 hdr hda
            obtain ⟨h', hh'⟩ : ∃ h', canH h client = h' := ⟨_, rfl⟩
            have hcp : copyH h (findI h.watches client) 0 = h' := hh'
            have hlw : h'.watches.length ≤ 1048577 := by
              have h1 : h.watches.length ≤ 1048577 := by unfold szHb szWats at hs; omega
              rw [← hh']
              have := skipT_len h.watches (findI h.watches client) h.watches.length
              simp only [canH]; omega
            have hw' : h'.waiting = h.waiting := by rw [← hh']; rfl
            have HCP := hide hcp
            have HH' := hide hh'
            have HW' := hide hw'
            clear hcp hh' hw'
            rw [unhide HZ]
            go_wp2_with fail
            refine wp_mono (Q := Exit.then (fun a' wB => ∃ (G : Nat) (a1 : Option Addr) (d1 : Nat) (a2 : Option Addr) (d2 : Nat) (x1 x2 : List Nat), a' = (⟨#[.agg #[p, q], .int .i64 client, .string ptr, .int .i64 room, .int .i64 ver, .pointer (some ⟨w.heap.size, 0, none⟩), undef, undef, undef, undef, .pointer (some ⟨w.heap.size + 1, 0, none⟩), .int .i64 0, .pointer (some ⟨G, 0, none⟩), .int .i64 client, .bool false, .bool false, .int .i64 client, .bool false, .bool false, undef, undef, .string ptr, .bool true, .bool false, undef, undef, .int .i64 room, .bool (decide (room < 1)), .bool (decide (room < 1)), .int .i64 room, .bool (decide (100 < room)), .bool (decide (room < 1) || decide (100 < room)), undef, undef, .agg #[p, q], .agg #[p, q], .int .i64 client, .int .i64 (findI h.watches client), .agg #[.slice a1 h'.watches.length d1, .slice a2 h'.waiting.length d2], undef, undef, undef, undef, undef, undef, undef, undef, undef, undef, undef, undef], []⟩ : Act) ∧ HB w G wA.heap.size wB (.slice a1 h'.watches.length d1) (.slice a2 h'.waiting.length d2) h'.watches h'.waiting x1 x2 ∧ wB.heap[w.heap.size + 1]? = some (Obj.cells #[Value.slice none 0 0, Value.slice none 0 0] 39) ∧ G < wB.heap.size ∧ wA.heap.size ≤ G ∧ wA.heap.size ≤ wB.heap.size) (fun _ _ _ => False)) ?_ ?_
            · go_region_law (first
                | (go_simp; refine (unhide HC w2 b2').mono ?_
                   rintro e w3 ⟨v3, b3l, rfl, o3, f3, b3, bx3⟩
                   rw [unhide HCP] at o3
                   obtain ⟨pw, qw, x1, x2, rfl, ow, ox, rfl⟩ := o3
                   obtain ⟨a1, d1, rfl, t1, t2⟩ := ow.form
                   obtain ⟨a2, d2, rfl, t3, t4⟩ := ox.form
                   have hz3 := bx3.size
                   have kG3 := (bx3.block w1.heap.size (by omega)).trans kG
                   have k13 := (b3.block (w.heap.size + 1) (by omega)).trans (unhide HK1)
                   have b3' := below_next (unhide HB1) b3
                   have n1 : w1.heap.size ∉ x1 := fun hm => by have := f3.2 _ (List.mem_append.2 (.inl hm)); (try simp at this); omega
                   have n2 : w1.heap.size ∉ x2 := fun hm => by have := f3.2 _ (List.mem_append.2 (.inr hm)); (try simp at this); omega
                   have hBf : HB w (w1.heap.size) wA.heap.size ((w3.setCell ⟨w1.heap.size, 0, none⟩ (.slice a1 h'.watches.length d1)).setCell ⟨w1.heap.size, 1, none⟩ (.slice a2 h'.waiting.length d2)) (.slice a1 h'.watches.length d1) (.slice a2 h'.waiting.length d2) h'.watches h'.waiting x1 x2 :=
                     ⟨putN_below (g := w1.heap.size) b3' (by omega) [.slice a1 h'.watches.length d1, .slice a2 h'.waiting.length d2] 0, putN_full kG3 [.slice a1 h'.watches.length d1, .slice a2 h'.waiting.length d2] rfl, ow.putN n1 [.slice a1 h'.watches.length d1, .slice a2 h'.waiting.length d2] 0, ox.putN n2 [.slice a1 h'.watches.length d1, .slice a2 h'.waiting.length d2] 0, f3.mono (by first | omega | (simp; omega)), by omega, by omega⟩
                   have hkf : ((w3.setCell ⟨w1.heap.size, 0, none⟩ (.slice a1 h'.watches.length d1)).setCell ⟨w1.heap.size, 1, none⟩ (.slice a2 h'.waiting.length d2)).heap[w.heap.size + 1]? = some (Obj.cells #[Value.slice none 0 0, Value.slice none 0 0] 39) := (putN_other (g := w1.heap.size) (by omega) [.slice a1 h'.watches.length d1, .slice a2 h'.waiting.length d2] 0).trans k13
                   have g0 : w3.cell? ⟨w1.heap.size, 0, none⟩ = some (.slice none 0 0) := Lib.cell_of_heap kG3 0
                   have g1 : w3.cell? ⟨w1.heap.size, 1, none⟩ = some (.slice none 0 0) := Lib.cell_of_heap kG3 1
                   have fg := Lib.frozen_of_heap kG3
                   have hGs : w1.heap.size < ((w3.setCell ⟨w1.heap.size, 0, none⟩ (.slice a1 h'.watches.length d1)).setCell ⟨w1.heap.size, 1, none⟩ (.slice a2 h'.waiting.length d2)).heap.size := by simp [World.setCell]; omega)
                | (go_simp; refine (unhide HC w2 b2').mono ?_
                   rintro e w3 ⟨v3, b3l, rfl, o3, f3, b3, bx3⟩
                   rw [unhide HCP] at o3
                   obtain ⟨pw, qw, x1, x2, rfl, ow, ox, rfl⟩ := o3
                   obtain ⟨a1, d1, rfl, t1, t2⟩ := ow.form
                   obtain ⟨a2, d2, rfl, t3, t4⟩ := ox.form
                   have hz3 := bx3.size
                   have k13 := (b3.block (w.heap.size + 1) (by omega)).trans (unhide HK1)
                   have b3' := below_next (unhide HB1) b3
                   have hBf : HB w w3.heap.size wA.heap.size (w3.alloc (Obj.cells #[.slice a1 h'.watches.length d1, .slice a2 h'.waiting.length d2] 39)) (.slice a1 h'.watches.length d1) (.slice a2 h'.waiting.length d2) h'.watches h'.waiting x1 x2 :=
                     ⟨below_next b3' (alloc_b _ _), heap_alloc_new _ _, ow.below (alloc_b _ _), ox.below (alloc_b _ _), f3.mono (by first | omega | (simp; omega)), by omega, by omega⟩
                   have hkf : (w3.alloc (Obj.cells #[.slice a1 h'.watches.length d1, .slice a2 h'.waiting.length d2] 39)).heap[w.heap.size + 1]? = some (Obj.cells #[Value.slice none 0 0, Value.slice none 0 0] 39) := ((alloc_b w3 (Obj.cells #[.slice a1 h'.watches.length d1, .slice a2 h'.waiting.length d2] 39)).block (w.heap.size + 1) (by omega)).trans k13
                   have hGs : w3.heap.size < (w3.alloc (Obj.cells #[.slice a1 h'.watches.length d1, .slice a2 h'.waiting.length d2] 39)).heap.size := by simp)
                | (go_simp; refine (unhide HC (w2.alloc (Obj.cells #[Value.slice none 0 0, Value.slice none 0 0] 39)) (below_next b2' (alloc_b _ _))).mono ?_
                   rintro e w3 ⟨v3, b3l, rfl, o3, f3, b3, bx3⟩
                   rw [unhide HCP] at o3
                   obtain ⟨pw, qw, x1, x2, rfl, ow, ox, rfl⟩ := o3
                   obtain ⟨a1, d1, rfl, t1, t2⟩ := ow.form
                   obtain ⟨a2, d2, rfl, t3, t4⟩ := ox.form
                   have hz3 := bx3.size
                   simp at hz3
                   have kG3 := (bx3.block w2.heap.size (by simp)).trans (heap_alloc_new w2 (Obj.cells #[Value.slice none 0 0, Value.slice none 0 0] 39))
                   have k13 := (b3.block (w.heap.size + 1) (by omega)).trans (unhide HK1)
                   have b3' := below_next (unhide HB1) b3
                   have n1 : w2.heap.size ∉ x1 := fun hm => by have := f3.2 _ (List.mem_append.2 (.inl hm)); (try simp at this); omega
                   have n2 : w2.heap.size ∉ x2 := fun hm => by have := f3.2 _ (List.mem_append.2 (.inr hm)); (try simp at this); omega
                   have hBf : HB w (w2.heap.size) wA.heap.size ((w3.setCell ⟨w2.heap.size, 0, none⟩ (.slice a1 h'.watches.length d1)).setCell ⟨w2.heap.size, 1, none⟩ (.slice a2 h'.waiting.length d2)) (.slice a1 h'.watches.length d1) (.slice a2 h'.waiting.length d2) h'.watches h'.waiting x1 x2 :=
                     ⟨putN_below (g := w2.heap.size) b3' (by omega) [.slice a1 h'.watches.length d1, .slice a2 h'.waiting.length d2] 0, putN_full kG3 [.slice a1 h'.watches.length d1, .slice a2 h'.waiting.length d2] rfl, ow.putN n1 [.slice a1 h'.watches.length d1, .slice a2 h'.waiting.length d2] 0, ox.putN n2 [.slice a1 h'.watches.length d1, .slice a2 h'.waiting.length d2] 0, f3.mono (by first | omega | (simp; omega)), by omega, by omega⟩
                   have hkf : ((w3.setCell ⟨w2.heap.size, 0, none⟩ (.slice a1 h'.watches.length d1)).setCell ⟨w2.heap.size, 1, none⟩ (.slice a2 h'.waiting.length d2)).heap[w.heap.size + 1]? = some (Obj.cells #[Value.slice none 0 0, Value.slice none 0 0] 39) := (putN_other (g := w2.heap.size) (by omega) [.slice a1 h'.watches.length d1, .slice a2 h'.waiting.length d2] 0).trans k13
                   have g0 : w3.cell? ⟨w2.heap.size, 0, none⟩ = some (.slice none 0 0) := Lib.cell_of_heap kG3 0
                   have g1 : w3.cell? ⟨w2.heap.size, 1, none⟩ = some (.slice none 0 0) := Lib.cell_of_heap kG3 1
                   have fg := Lib.frozen_of_heap kG3
                   have hGs : w2.heap.size < ((w3.setCell ⟨w2.heap.size, 0, none⟩ (.slice a1 h'.watches.length d1)).setCell ⟨w2.heap.size, 1, none⟩ (.slice a2 h'.waiting.length d2)).heap.size := by simp [World.setCell]; omega)
                | (go_simp; refine (unhide HF w1.drew (unhide HDR)).mono ?_
                   rintro e w2 ⟨rfl, b2', bx2⟩
                   have hz2 := b2'.size
                   have k02 := (b2'.block w.heap.size (by omega)).trans (unhide HK0)
                   have c02 : w2.cell? ⟨w.heap.size, 0, none⟩ = some p := Lib.cell_of_heap k02 0
                   have c12 : w2.cell? ⟨w.heap.size, 1, none⟩ = some q := Lib.cell_of_heap k02 1
                   have c02a : (w2.alloc (Obj.cells #[Value.slice none 0 0, Value.slice none 0 0] 39)).cell? ⟨w.heap.size, 0, none⟩ = some p := ((alloc_b w2 (Obj.cells #[Value.slice none 0 0, Value.slice none 0 0] 39)).cell (World.block_lt_of_cell? _ _ c02)).trans c02
                   have c12a : (w2.alloc (Obj.cells #[Value.slice none 0 0, Value.slice none 0 0] 39)).cell? ⟨w.heap.size, 1, none⟩ = some q := ((alloc_b w2 (Obj.cells #[Value.slice none 0 0, Value.slice none 0 0] 39)).cell (World.block_lt_of_cell? _ _ c12)).trans c12)
                | (go_simp; refine (unhide HF (w1.alloc (Obj.cells #[Value.slice none 0 0, Value.slice none 0 0] 39)).drew (unhide HDA)).mono ?_
                   rintro e w2 ⟨rfl, b2', bx2⟩
                   have hz2 := b2'.size
                   have k02 := (b2'.block w.heap.size (by omega)).trans (unhide HK0)
                   have c02 : w2.cell? ⟨w.heap.size, 0, none⟩ = some p := Lib.cell_of_heap k02 0
                   have c12 : w2.cell? ⟨w.heap.size, 1, none⟩ = some q := Lib.cell_of_heap k02 1
                   have kG := (bx2.block w1.heap.size (by simp)).trans (heap_alloc_new w1 (Obj.cells #[Value.slice none 0 0, Value.slice none 0 0] 39))
                   have hzG : w1.heap.size < w2.heap.size := by have := bx2.size; (try simp at this); omega))
              all_goals (
                first
                  | exact ⟨w3.heap.size, a1, d1, a2, d2, x1, x2, rfl, hBf, hkf, hGs, by omega, by omega⟩
                  | exact ⟨w2.heap.size, a1, d1, a2, d2, x1, x2, rfl, hBf, hkf, hGs, by omega, by omega⟩
                  | exact ⟨w1.heap.size, a1, d1, a2, d2, x1, x2, rfl, hBf, hkf, hGs, by omega, by omega⟩)
            · intro e a' wB hR
              cases e
              case normal =>
                obtain ⟨G, a1, d1, a2, d2, x1, x2, rfl, hBf, hkf, hGs, hGe, hSb⟩ := hR
                have HGE := hide hGe
                have HSB := hide hSb
                clear hGe hSb
                have hz9 := hBf.bel.size
                have hfs := hBf.fs
                have hAs : wA.heap.size ≤ wB.heap.size := unhide HSB
                have hE0 := alloc_b wB (Obj.cells #[] 115)
                have kE := heap_alloc_new wB (Obj.cells #[] 115)
                have hsE : (wB.alloc (Obj.cells #[] 115)).heap.size = wB.heap.size + 1 := by simp
                have hE1 := alloc_b (wB.alloc (Obj.cells #[] 115)) (Obj.cells #[.int .i64 client, .string ptr, .int .i64 room, .int .i64 ver, .bool false, .slice (some ⟨wB.heap.size, 0, none⟩) 0 0] 72)
                have kE2 := (hE1.block wB.heap.size (by omega)).trans kE
                have hB3 := hBf.below (below_next hE0 hE1)
                have OE : ORow msgE ((wB.alloc (Obj.cells #[] 115)).alloc (Obj.cells #[.int .i64 client, .string ptr, .int .i64 room, .int .i64 ver, .bool false, .slice (some ⟨wB.heap.size, 0, none⟩) 0 0] 72)) (.slice (some ⟨wB.heap.size, 0, none⟩) 0 0) [] [wB.heap.size] :=
                  ⟨[], rfl, fun _ _ _ h => by simp at h, ⟨by simp, .inr ⟨wB.heap.size, 0, #[], rfl, Nat.zero_le _, kE2, Nat.zero_le _, Nat.zero_le _, by simp, by simp⟩⟩, rfl⟩
                have E3 : Hid (watE.E ((wB.alloc (Obj.cells #[] 115)).alloc (Obj.cells #[.int .i64 client, .string ptr, .int .i64 room, .int .i64 ver, .bool false, .slice (some ⟨wB.heap.size, 0, none⟩) 0 0] 72)) [.int .i64 client, .string ptr, .int .i64 room, .int .i64 ver, .bool false, .slice (some ⟨wB.heap.size, 0, none⟩) 0 0] (subW client ptr room ver) [wB.heap.size]) := ⟨_, rfl, OE⟩
                have O3 := hide hB3.o1
                have HF3 : Hid (Fsh wA.heap.size x1) := ⟨(List.nodup_append.1 hfs.1).1, fun b hb => hfs.2 b (List.mem_append.2 (.inl hb))⟩
                have HFI2 : Hid (Fsh wA.heap.size [wB.heap.size]) := ⟨by simp, fun b hb => by simp at hb; omega⟩
                have HAP : Hid (∀ b ∈ [wB.heap.size], b ∉ x1) := fun b hb hm => by simp at hb; have := hBf.o1.lt b hm; omega
                have HAP2 : Hid (∀ b ∈ [wB.heap.size], b ∉ x2) := fun b hb hm => by simp at hb; have := hBf.o2.lt b hm; omega
                have HONE : Hid (∀ u ∈ [Value.int .i64 client, .string ptr, .int .i64 room, .int .i64 ver, .bool false, .slice (some ⟨wB.heap.size, 0, none⟩) 0 0], u.oneCell' = true) := fun u hu => by simp at hu; rcases hu with rfl | rfl | rfl | rfl | rfl | rfl <;> rfl
                have HLC : Hid (∀ (j : Nat) (u : Value), [Value.int .i64 client, .string ptr, .int .i64 room, .int .i64 ver, .bool false, .slice (some ⟨wB.heap.size, 0, none⟩) 0 0][j]? = some u → ((wB.alloc (Obj.cells #[] 115)).alloc (Obj.cells #[.int .i64 client, .string ptr, .int .i64 room, .int .i64 ver, .bool false, .slice (some ⟨wB.heap.size, 0, none⟩) 0 0] 72)).cell? ((⟨wB.heap.size + 1, 0, none⟩ : Addr).add j) = some u) := fun j u hu => by
                  have := lit_cells (wB.alloc (Obj.cells #[] 115)) [Value.int .i64 client, .string ptr, .int .i64 room, .int .i64 ver, .bool false, .slice (some ⟨wB.heap.size, 0, none⟩) 0 0] 72 j u hu
                  rw [hsE] at this; exact this
                have HC3 := hide hB3
                have K3 := hide (((below_next hE0 hE1).block (w.heap.size + 1) (by omega)).trans hkf)
                have cO1 : wB.cell? ⟨G, 0, none⟩ = some (.slice a1 h'.watches.length d1) := Lib.cell_of_heap hBf.ko 0
                have hGl := hGs
                have HGS := hide hGs
                have hz2w : w.heap.size + 1 + 1 ≤ wB.heap.size := by have := hsz; omega
                clear hBf hkf hGs hE0 kE hsE hE1 kE2 hB3 OE hfs HC HF c0 c1' c0a c1a HDR HDA HB1 HK0 HK1 HO hGl
                go_wp2_with (at_builtin; refine wpList_append_elem (e := watE) wat_ty (by decide) Tryd.underlying36 infoWat rfl (by decide) (by decide) rfl (.tmp 40) (.tmp 47) rfl (B := wA.heap.size) rfl (unhide O3) (unhide HF3) (unhide E3) (unhide HFI2) (unhide HAP) rfl (by exact unhide HLC) (by exact unhide HONE) (by simp; omega) (by omega) ?_)
                intro v' w9 bl' o4 f4 m4 hg4
                obtain ⟨va, vc, rfl, hv1, hv2⟩ := o4.form
                have ko3 := (unhide HC3).koW hg4
                have cO3 : w9.cell? ⟨G, 0, none⟩ = some (.slice a1 h'.watches.length d1) := Lib.cell_of_heap ko3 0
                have fO3 := Lib.frozen_of_heap ko3
                have f4' : Fsh wA.heap.size bl' := by rw [hsz]; exact f4
                have hn := (unhide HC3).watch (ib := [wB.heap.size]) hg4 o4 f4' (fun b hb => by simpa using m4 b hb) (unhide HAP2)
                have kR4 := (hg4.block (w.heap.size + 1) (by simp; omega) fun e => by have := (unhide HF3).2 _ ((unhide O3).head e.symm); omega).trans (unhide K3)
                have hGne : w.heap.size + 1 ≠ G := by have := unhide HGE; omega
                have kR5 : (w9.setCell ⟨G, 0, none⟩ (.slice va (h'.watches ++ [subW client ptr room ver]).length vc)).heap[w.heap.size + 1]? = _ := (Below.heap_setCell _ _ _ _ hGne).trans kR4
                rw [List.length_append, List.length_singleton] at hn kR5
                have HN := hide hn
                have d0 : (w9.setCell ⟨G, 0, none⟩ (.slice va (h'.watches.length + 1) vc)).cell? ⟨G, 0, none⟩ = some (.slice va (h'.watches.length + 1) vc) := Lib.cell_of_heap hn.ko 0
                have d1' : (w9.setCell ⟨G, 0, none⟩ (.slice va (h'.watches.length + 1) vc)).cell? ⟨G, 1, none⟩ = some (.slice a2 h'.waiting.length d2) := Lib.cell_of_heap hn.ko 1
                have r0 : (w9.setCell ⟨G, 0, none⟩ (.slice va (h'.watches.length + 1) vc)).cell? ⟨w.heap.size + 1, 0, none⟩ = some (.slice none 0 0) := Lib.cell_of_heap kR5 0
                have r1 : (w9.setCell ⟨G, 0, none⟩ (.slice va (h'.watches.length + 1) vc)).cell? ⟨w.heap.size + 1, 1, none⟩ = some (.slice none 0 0) := Lib.cell_of_heap kR5 1
                have fr := Lib.frozen_of_heap kR5
                have HKR := hide kR5
                clear o4 f4 f4' m4 hg4 hv1 hv2 ko3 HC3 HONE HAP2 HAP HFI2 E3 O3 HLC cO1 kR4 kR5 hn K3 HF3
                go_wp2_with fail
                generalize w9.setCell ⟨G, 0, none⟩ (.slice va (h'.watches.length + 1) vc) = wF at *
                refine bodyPost_ret (results_cell_tmp rfl _ _ (w.heap.size + 1) 39 #[_, _] (0, 0) _ _ rfl rfl (putN_full (unhide HKR) [_, _] rfl) Tryd.underlying39 rfl (by kernel_rfl)) rfl ?_
                have hn9 := unhide HN
                have hno : w.heap.size + 1 ∉ bl' ++ x2 := fun hm => by have := hn9.fs.2 _ hm; omega
                have nn1 : w.heap.size + 1 ∉ bl' := fun hm => hno (List.mem_append.2 (.inl hm))
                have nn2 : w.heap.size + 1 ∉ x2 := fun hm => hno (List.mem_append.2 (.inr hm))
                rw [unhide HH', ← unhide HW']
                exact ⟨_, bl' ++ x2, rfl, ⟨_, _, bl', x2, rfl, hn9.o1.putN nn1 [_, _] 0, hn9.o2.putN nn2 [_, _] 0, rfl⟩, hn9.fs.mono (by omega), putN_below (g := w.heap.size + 1) hn9.bel (by omega) [_, _] 0⟩
              all_goals exact hR.elim
end Go.Proofs.YtbcfkkicmmhhcaaDoor

namespace Go.Proofs.YtbcfkkicmmhhcaaDoor
open Go.RowKit

set_option maxHeartbeats 2000000 in
set_option maxRecDepth 100000 in
theorem subscribeLaw_walk (v : Value) (h : Hb) (client : Int) (ptr : ByteArray) (room ver : Int) (w : World) (hr : RHub w v h) (hML : ML w) :
    Calls Tryd.prog 4 #[v, .int .i64 client, .string ptr, .int .i64 room, .int .i64 ver] w fun e w' => e = .returned (.bool true) ∧ Below w.heap.size w w' := by
  obtain ⟨v1, v2, rfl, hr1, hr2⟩ := hr
  have HR : Hid (RHub w (.agg #[v1, v2]) h) := ⟨v1, v2, rfl, hr1, hr2⟩
  clear hr1 hr2
  by_cases hp : ptr.size ≤ 1048576
  · have hpI : ¬ (1048576 : Int) < (ptr.size : Int) := by omega
    have HML := hide hML
    clear hML
    by_cases hsz : szHb h ≤ 1048576
    · go_enter Tryd.func4, Tryd.ntmps4
      go_wp2_with fail
      have hA := alloc_b w (Obj.cells #[v1, v2] 34)
      have kA := heap_alloc_new w (Obj.cells #[v1, v2] 34)
      have hAs : (w.alloc (Obj.cells #[v1, v2] 34)).heap.size = w.heap.size + 1 := by simp
      generalize (w.alloc (Obj.cells #[v1, v2] 34)) = wA at *
      have HRA := hide ((unhide HR).below hA)
      have HA := hide hA
      have q0 : wA.cell? ⟨w.heap.size, 0, none⟩ = some v1 := Lib.cell_of_heap kA 0
      have q1 : wA.cell? ⟨w.heap.size, 1, none⟩ = some v2 := Lib.cell_of_heap kA 1
      have hN : w.heap.size < wA.heap.size := by omega
      clear hA kA HR hAs
      have HCELL : Hid (∀ wi, Below wA.heap.size wA wi → wi.cell? ⟨w.heap.size, 0, none⟩ = some v1 ∧ wi.cell? ⟨w.heap.size, 1, none⟩ = some v2) := fun wi hb => ⟨(hb.cell (p := ⟨w.heap.size, 0, none⟩) hN).trans q0, (hb.cell (p := ⟨w.heap.size, 1, none⟩) hN).trans q1⟩
      have HSZ := hide (szHub_walk _ h wA (unhide HRA))
      rw [szI_ok hsz] at HSZ
      refine (unhide HSZ).mono ?_
      rintro e w2 ⟨rfl, b2⟩
      have BA2 := b2
      have hL1 : 1048576 - szHb h ≤ 1048576 := by omega
      generalize 1048576 - szHb h = L1 at *
      obtain ⟨c20, c21⟩ := unhide HCELL w2 BA2
      have HT := hide (toHub_walk _ h w2 ((unhide HRA).below BA2) hsz)
      clear b2 HSZ q0 q1
      go_wp2_with fail
      refine (unhide HT).mono ?_
      rintro e w4 ⟨p4, q4, b41, b42, rfl, o41, o42, f4, b4⟩
      have BA4 := below_next BA2 b4
      obtain ⟨h', hh'⟩ : ∃ h', h' = (subH h client ptr room ver) := ⟨_, rfl⟩
      obtain ⟨cd, hcd⟩ : ∃ cd, cd = (subC client ptr room) := ⟨_, rfl⟩
      have hs' : szHb h' ≤ 2097154 := by rw [hh']; exact (subH_sz hsz hp).1
      have hct := cntHb_le h
      have hct' := cntHb_le h'
      have hsb : szHb h ≤ 1048577 := by omega
      have HI : Hid (∀ (v : Value) (bl : List Nat) (w : World), OHub w v h bl → Below wA.heap.size wA w → Calls Tryd.prog 14 #[v, .int .i64 client, .string ptr, .int .i64 room, .int .i64 ver] w fun e w' => ∃ v' bl', e = .returned (.tuple #[v', .int .i64 cd]) ∧ OHub w' v' h' bl' ∧ Fsh w.heap.size bl' ∧ Below w.heap.size w w') := fun v bl w ho hbw => by
        rw [hh', hcd]; exact implSubscribe_walk v h client ptr room ver bl w ho (((unhide HML).below (unhide HA)).below hbw) hp hsz
      have HS5 := hide (specSubscribe_walk _ h client ptr room ver _ w4 ⟨p4, q4, b41, b42, rfl, o41, o42, rfl⟩ hp hsb)
      rw [← hh', ← hcd] at HS5
      clear HT BA2 o41 o42 f4 b4 c20 c21 hh' hcd
      go_wp2_with fail
      refine (unhide HS5).mono ?_
      rintro e w5 ⟨v5, b0, rfl, o5, f5, b5⟩
      have BA5 := below_next BA4 b5
      obtain ⟨pw, qw, c51, c52, rfl, ow1, ow2, rfl⟩ := o5
      obtain ⟨a1, d1, rfl, _, _⟩ := ow1.form
      obtain ⟨a2, d2, rfl, _, _⟩ := ow2.form
      have L5 := heap_alloc_new w5 (.cells #[.slice a1 h'.watches.length d1, .slice a2 h'.waiting.length d2] 39)
      have hab5 := alloc_b w5 (.cells #[.slice a1 h'.watches.length d1, .slice a2 h'.waiting.length d2] 39)
      have O6 : Hid (OHub (w5.alloc (.cells #[.slice a1 h'.watches.length d1, .slice a2 h'.waiting.length d2] 39)) (.agg #[.slice a1 h'.watches.length d1, .slice a2 h'.waiting.length d2]) h' (c51 ++ c52)) := OHub.below ⟨_, _, c51, c52, rfl, ow1, ow2, rfl⟩ hab5
      have z6 : (w5.alloc (.cells #[.slice a1 h'.watches.length d1, .slice a2 h'.waiting.length d2] 39)).heap.size = w5.heap.size + 1 := by simp
      have BA6 := below_next BA5 hab5
      obtain ⟨c60, c61⟩ := unhide HCELL _ BA6
      have HT7 := hide (toHub_walk _ h _ ((unhide HRA).below BA6) hsz)
      have LL6 := hide L5
      have BB6 := hide BA6
      have HLW : Hid (∀ b ∈ c51 ++ c52, b < w5.heap.size) := fun b hb => by
        rcases List.mem_append.1 hb with hb | hb
        · exact ow1.lt b hb
        · exact ow2.lt b hb
      have hnA : wA.heap.size ≤ w5.heap.size := BA5.size
      clear HS5 BA4 ow1 ow2 f5 b5 L5 hab5 BA5 BA6
      go_wp2_with fail
      generalize (w5.alloc (.cells #[.slice a1 h'.watches.length d1, .slice a2 h'.waiting.length d2] 39)) = w6 at *
      generalize w5.heap.size = W0 at *
      refine (unhide HT7).mono ?_
      rintro e w7 ⟨px, qx, x1, x2, rfl, ox1, ox2, fx, b7⟩
      obtain ⟨a3, d3, rfl, _, _⟩ := ox1.form
      obtain ⟨a4, d4, rfl, _, _⟩ := ox2.form
      have hz7 := b7.size
      have BA7 := below_next (unhide BB6) b7
      have hab7 := alloc_b w7 (.cells #[.slice a3 h.watches.length d3, .slice a4 h.waiting.length d4] 39)
      have L7 := heap_alloc_new w7 (.cells #[.slice a3 h.watches.length d3, .slice a4 h.waiting.length d4] 39)
      have z8 : (w7.alloc (.cells #[.slice a3 h.watches.length d3, .slice a4 h.waiting.length d4] 39)).heap.size = w7.heap.size + 1 := by simp
      have hb68 := below_next b7 hab7
      have O8 := hide ((unhide O6).below hb68)
      have LW8 := hide ((hb68.block W0 (by omega)).trans (unhide LL6))
      have X8 : OHub (w7.alloc (.cells #[.slice a3 h.watches.length d3, .slice a4 h.waiting.length d4] 39)) (.agg #[.slice a3 h.watches.length d3, .slice a4 h.waiting.length d4]) h (x1 ++ x2) := OHub.below ⟨_, _, x1, x2, rfl, ox1, ox2, rfl⟩ hab7
      have BB8 := hide (below_next BA7 hab7)
      have FX := hide fx
      have hlx : ∀ b ∈ x1 ++ x2, b < w7.heap.size := fun b hb => by
        rcases List.mem_append.1 hb with hb | hb
        · exact ox1.lt b hb
        · exact ox2.lt b hb
      have HLX := hide hlx
      have cx0 : (w7.alloc (.cells #[.slice a3 h.watches.length d3, .slice a4 h.waiting.length d4] 39)).cell? ⟨w7.heap.size, 0, none⟩ = some (.slice a3 h.watches.length d3) := Lib.cell_of_heap L7 0
      have cx1 : (w7.alloc (.cells #[.slice a3 h.watches.length d3, .slice a4 h.waiting.length d4] 39)).cell? ⟨w7.heap.size, 1, none⟩ = some (.slice a4 h.waiting.length d4) := Lib.cell_of_heap L7 1
      have HI10 := hide (unhide HI _ _ _ X8 (unhide BB8))
      have XX9 := hide X8
      have LX9 := hide L7
      clear HT7 O6 LL6 BB6 ox1 ox2 fx b7 BA7 hab7 L7 hb68 hlx c60 c61 X8
      go_wp2_with fail
      generalize (w7.alloc (.cells #[.slice a3 h.watches.length d3, .slice a4 h.waiting.length d4] 39)) = w9 at *
      generalize w7.heap.size = X0 at *
      refine (unhide HI10).mono ?_
      rintro e w10 ⟨vg, bg, rfl, og, fg, b10⟩
      obtain ⟨pg, qg, g1, g2, rfl, og1, og2, rfl⟩ := og
      obtain ⟨a6, d6, rfl, _, _⟩ := og1.form
      obtain ⟨a7, d7, rfl, _, _⟩ := og2.form
      have hz10 := b10.size
      have hab10 := alloc_b w10 (.cells #[.slice a6 h'.watches.length d6, .slice a7 h'.waiting.length d7] 39)
      have z11 : (w10.alloc (.cells #[.slice a6 h'.watches.length d6, .slice a7 h'.waiting.length d7] 39)).heap.size = w10.heap.size + 1 := by simp
      have hb911 := below_next b10 hab10
      have G11 : Hid (OHub (w10.alloc (.cells #[.slice a6 h'.watches.length d6, .slice a7 h'.waiting.length d7] 39)) (.agg #[.slice a6 h'.watches.length d6, .slice a7 h'.waiting.length d7]) h' (g1 ++ g2)) := OHub.below ⟨_, _, g1, g2, rfl, og1, og2, rfl⟩ hab10
      have LG11 := hide (heap_alloc_new w10 (.cells #[.slice a6 h'.watches.length d6, .slice a7 h'.waiting.length d7] 39))
      have O11 := hide ((unhide O8).below hb911)
      have lw11 := (hb911.block W0 (by omega)).trans (unhide LW8)
      have X11 := hide ((unhide XX9).below hb911)
      have LX11 := hide ((hb911.block X0 (by omega)).trans (unhide LX9))
      have BB11 := hide (below_next (unhide BB8) hb911)
      have FG := hide fg
      have HLG : Hid (∀ b ∈ g1 ++ g2, b < w10.heap.size) := fun b hb => by
        rcases List.mem_append.1 hb with hb | hb
        · exact og1.lt b hb
        · exact og2.lt b hb
      have cw0 : (w10.alloc (.cells #[.slice a6 h'.watches.length d6, .slice a7 h'.waiting.length d7] 39)).cell? ⟨W0, 0, none⟩ = some (.slice a1 h'.watches.length d1) := Lib.cell_of_heap lw11 0
      have cw1 : (w10.alloc (.cells #[.slice a6 h'.watches.length d6, .slice a7 h'.waiting.length d7] 39)).cell? ⟨W0, 1, none⟩ = some (.slice a2 h'.waiting.length d2) := Lib.cell_of_heap lw11 1
      have HE12 := hide (eqHub_walk _ _ h' _ _ _ (unhide G11) (unhide O11))
      have LW11 := hide lw11
      clear HI10 og1 og2 fg b10 hab10 hb911 O8 LW8 XX9 LX9 BB8 cx0 cx1 lw11
      go_wp2_with fail
      generalize (w10.alloc (.cells #[.slice a6 h'.watches.length d6, .slice a7 h'.waiting.length d7] 39)) = w11 at *
      generalize w10.heap.size = G0 at *
      refine (unhide HE12).mono ?_
      rintro e w12 ⟨rfl, b12⟩
      have hz12 := b12.size
      have BA12 := below_next (unhide BB11) b12
      obtain ⟨c120, c121⟩ := unhide HCELL w12 BA12
      have kx12 := (b12.block X0 (by omega)).trans (unhide LX11)
      have cx0 : w12.cell? ⟨X0, 0, none⟩ = some (.slice a3 h.watches.length d3) := Lib.cell_of_heap kx12 0
      have cx1 : w12.cell? ⟨X0, 1, none⟩ = some (.slice a4 h.waiting.length d4) := Lib.cell_of_heap kx12 1
      have hdr12 : Below w12.heap.size w12 w12.drew := (Below.refl _ _).drew
      have HT13 := hide (toHub_walk _ h w12.drew ((unhide HRA).below (below_next BA12 hdr12)) hsz)
      clear hdr12
      have G12 := hide ((unhide G11).below b12)
      have LG12 := hide ((b12.block G0 (by omega)).trans (unhide LG11))
      have O12 := hide ((unhide O11).below b12)
      have LW12 := hide ((b12.block W0 (by omega)).trans (unhide LW11))
      have X12 := hide ((unhide X11).below b12)
      have LX12 := hide kx12
      have BB12 := hide BA12
      clear HE12 b12 G11 LG11 O11 LW11 X11 LX11 BB11 BA12 kx12 cw0 cw1
      go_wp2_with fail
      go_region_law (first
        | (go_simp; refine (unhide HE14).mono ?_; rintro e w14 ⟨rfl, b14⟩)
        | (go_simp; refine (unhide HT13).mono ?_; rintro e w13 ⟨p13, q13, t1, t2, rfl, ot1, ot2, f13, b13⟩
           have b13' : Below w12.heap.size w12 w13 := ⟨b13.os, b13.tape, b13.output, b13.size, b13.block⟩
           have kx13 := (b13'.block X0 (by omega)).trans (unhide LX12)
           have cx0' : w13.cell? ⟨X0, 0, none⟩ = some (.slice a3 h.watches.length d3) := Lib.cell_of_heap kx13 0
           have cx1' : w13.cell? ⟨X0, 1, none⟩ = some (.slice a4 h.waiting.length d4) := Lib.cell_of_heap kx13 1
           have HE14 := hide (eqHub_walk _ _ h _ _ w13 ((unhide X12).below b13') ⟨p13, q13, t1, t2, rfl, ot1, ot2, rfl⟩)))
      all_goals (
        have b1216 := below_next b13' b14
        have hz16 := b1216.size
        have BA16 := below_next (unhide BB12) b1216
        have X16 := (unhide X12).below b1216
        have kx16 := (b1216.block X0 (by omega)).trans (unhide LX12)
        have cx0n : w14.cell? ⟨X0, 0, none⟩ = some (.slice a3 h.watches.length d3) := Lib.cell_of_heap kx16 0
        have cx1n : w14.cell? ⟨X0, 1, none⟩ = some (.slice a4 h.waiting.length d4) := Lib.cell_of_heap kx16 1
        have HM17 := hide (markHub_walk _ h _ w14 X16 (unhide FX).1 (by omega) 1 (by omega))
        have G16 := hide ((unhide G12).below b1216)
        have LG16 := hide ((b1216.block G0 (by omega)).trans (unhide LG12))
        have O16 := hide ((unhide O12).below b1216)
        have LW16 := hide ((b1216.block W0 (by omega)).trans (unhide LW12))
        have BB16 := hide BA16
        clear b1216 BA16 b13 b13' b14 kx13 cx0' cx1' HE14 HT13 ot1 ot2 f13 G12 LG12 O12 LW12 X12 LX12 BB12 cx0 cx1 c120 c121 X16 kx16
        have hx_lo : ∀ b ∈ x1 ++ x2, w6.heap.size ≤ b := (unhide FX).2
        have hx_hi := unhide HLX
        have hg_lo : ∀ b ∈ g1 ++ g2, w9.heap.size ≤ b := (unhide FG).2
        have hg_hi := unhide HLG
        have hw_hi := unhide HLW
        have HNUM : Hid ((∀ b ∈ x1 ++ x2, w6.heap.size ≤ b) ∧ (∀ b ∈ x1 ++ x2, b < X0) ∧ (∀ b ∈ g1 ++ g2, w9.heap.size ≤ b) ∧ (∀ b ∈ g1 ++ g2, b < G0) ∧ (∀ b ∈ c51 ++ c52, b < W0)) := ⟨hx_lo, hx_hi, hg_lo, hg_hi, hw_hi⟩
        clear hx_lo hx_hi hg_lo hg_hi hw_hi
        have hcb : 1 + cntR cntWat h.watches + cntR cntNws h.waiting ≤ 100000000 := by omega
        go_wp2_with fail
        refine (unhide HM17).mono ?_
        rintro e w18 ⟨rfl, -, fr18⟩
        generalize 1 + cntR cntWat h.watches + cntR cntNws h.waiting = K1 at *
        have hz18 := fr18.size
        obtain ⟨nx1, nx2, ng1, ng2, nw2⟩ := unhide HNUM
        have G18 := (unhide G16).fr fr18 fun b hb hm => by have := ng1 b hb; have := nx2 b hm; omega
        have O18 := (unhide O16).fr fr18 fun b hb hm => by have := nw2 b hb; have := nx1 b hm; omega
        have lg18 := (fr18.block G0 (by omega) fun hm => by have := nx2 _ hm; omega).trans (unhide LG16)
        have lw18 := (fr18.block W0 (by omega) fun hm => by have := nx1 _ hm; omega).trans (unhide LW16)
        have ba18 := (unhide BB16).trans (fr18.below (fun b hb => by have := nx1 b hb; omega) (by omega))
        have HE19 := hide (eqHub_walk _ _ h' _ _ w18 G18 O18)
        have cg0 : w18.cell? ⟨G0, 0, none⟩ = some (.slice a6 h'.watches.length d6) := Lib.cell_of_heap lg18 0
        have cg1 : w18.cell? ⟨G0, 1, none⟩ = some (.slice a7 h'.waiting.length d7) := Lib.cell_of_heap lg18 1
        have cw0 : w18.cell? ⟨W0, 0, none⟩ = some (.slice a1 h'.watches.length d1) := Lib.cell_of_heap lw18 0
        have cw1 : w18.cell? ⟨W0, 1, none⟩ = some (.slice a2 h'.waiting.length d2) := Lib.cell_of_heap lw18 1
        have GG18 := hide G18
        have OO18 := hide O18
        have LG18 := hide lg18
        have LW18 := hide lw18
        have BB18 := hide ba18
        clear HM17 fr18 G18 O18 lg18 lw18 ba18 nx1 nx2 ng1 ng2 nw2 G16 LG16 O16 LW16 BB16 cx0n cx1n
        go_wp2_with fail
        refine (unhide HE19).mono ?_
        rintro e w19 ⟨rfl, b19⟩
        have hz19 := b19.size
        have G19 := (unhide GG18).below b19
        have lg19 := (b19.block G0 (by omega)).trans (unhide LG18)
        have cg0' : w19.cell? ⟨G0, 0, none⟩ = some (.slice a6 h'.watches.length d6) := Lib.cell_of_heap lg19 0
        have cg1' : w19.cell? ⟨G0, 1, none⟩ = some (.slice a7 h'.waiting.length d7) := Lib.cell_of_heap lg19 1
        have hcb' : 1 + cntR cntWat h'.watches + cntR cntNws h'.waiting ≤ 100000000 := by omega
        have HM20 := hide (markHub_walk _ h' _ w19 G19 (unhide FG).1 (by omega) 1 (by omega))
        have O19 := hide ((unhide OO18).below b19)
        have LG19 := hide lg19
        have LW19 := hide ((b19.block W0 (by omega)).trans (unhide LW18))
        have BB19 := hide (below_next (unhide BB18) b19)
        clear HE19 b19 G19 lg19 GG18 OO18 LG18 LW18 BB18 cg0 cg1 cw0 cw1
        go_wp2_with fail
        refine (unhide HM20).mono ?_
        rintro e w20 ⟨rfl, G20, fr20⟩
        have hz20 := fr20.size
        obtain ⟨nx1, nx2, ng1, ng2, nw2⟩ := unhide HNUM
        have O20 := hide ((unhide O19).fr fr20 fun b hb hm => by have := nw2 b hb; have := ng1 b hm; omega)
        have lg20 := (fr20.block G0 (by omega) fun hm => by have := ng2 _ hm; omega).trans (unhide LG19)
        have LW20 := hide ((fr20.block W0 (by omega) fun hm => by have := ng1 _ hm; omega).trans (unhide LW19))
        have BB20 := hide ((unhide BB19).trans (fr20.below (fun b hb => by have := ng1 b hb; omega) (by omega)))
        have cg0 : w20.cell? ⟨G0, 0, none⟩ = some (.slice a6 h'.watches.length d6) := Lib.cell_of_heap lg20 0
        have cg1 : w20.cell? ⟨G0, 1, none⟩ = some (.slice a7 h'.waiting.length d7) := Lib.cell_of_heap lg20 1
        have HH21 := hide (heldHub_walk _ h' _ w20 1 G20 (by omega) (by omega))
        have GG20 := hide G20
        have LG20 := hide lg20
        have HHELD : Hid (∀ wi bl, OHub wi (.agg #[.slice a6 h'.watches.length d6, .slice a7 h'.waiting.length d7]) ⟨mkRow mkWat cntWat 1 h'.watches, mkRow mkNws cntNws (1 + cntR cntWat h'.watches) h'.waiting⟩ bl → Calls Tryd.prog 17 #[.agg #[.slice a6 h'.watches.length d6, .slice a7 h'.waiting.length d7], .int .i64 (1 : Nat)] wi fun e w' => e = .returned (.int .i64 (1 + cntR cntWat h'.watches + cntR cntNws h'.waiting : Nat)) ∧ Below wi.heap.size wi w') := fun wi bl ho => heldHub_walk _ h' bl wi 1 ho (by omega) (by omega)
        generalize 1 + cntR cntWat h'.watches + cntR cntNws h'.waiting = K2 at *
        clear HM20 fr20 G20 lg20 nx1 nx2 ng1 ng2 nw2 O19 LG19 LW19 BB19 cg0' cg1'
        go_wp2_with fail
        refine (unhide HH21).mono ?_
        rintro e w21 ⟨rfl, b21⟩
        have hz21 := b21.size
        have BA21 := below_next (unhide BB20) b21
        obtain ⟨c0, c1⟩ := unhide HCELL w21 BA21
        have HT22 := hide (toHub_walk _ h w21 ((unhide HRA).below BA21) hsz)
        have G21 := hide ((unhide GG20).below b21)
        have LG21 := hide ((b21.block G0 (by omega)).trans (unhide LG20))
        have O21 := hide ((unhide O20).below b21)
        have LW21 := hide ((b21.block W0 (by omega)).trans (unhide LW20))
        have BB21 := hide BA21
        clear HH21 b21 BA21 GG20 LG20 O20 LW20 BB20 cg0 cg1
        go_wp2_with fail
        refine (unhide HT22).mono ?_
        rintro e w23 ⟨p22, q22, t1', t2', rfl, ot1', ot2', f22, b22⟩
        have HI24 := hide (unhide HI _ _ w23 ⟨p22, q22, t1', t2', rfl, ot1', ot2', rfl⟩ (below_next (unhide BB21) b22))
        have B23 := hide b22
        clear HT22 ot1' ot2' f22 b22 c0 c1
        go_wp2_with fail
        refine (unhide HI24).mono ?_
        rintro e w24 ⟨vh, bh, rfl, oh, f24, b24⟩
        obtain ⟨ph, qh, h1', h2', rfl, oh1, oh2, rfl⟩ := oh
        obtain ⟨a8, d8, rfl, _, _⟩ := oh1.form
        obtain ⟨a9, d9, rfl, _, _⟩ := oh2.form
        have hab24 := alloc_b w24 (.cells #[.slice a8 h'.watches.length d8, .slice a9 h'.waiting.length d9] 39)
        have b2125 := below_next (below_next (unhide B23) b24) hab24
        have hz25 := b2125.size
        have H25 : OHub (w24.alloc (.cells #[.slice a8 h'.watches.length d8, .slice a9 h'.waiting.length d9] 39)) (.agg #[.slice a8 h'.watches.length d8, .slice a9 h'.waiting.length d9]) h' (h1' ++ h2') := OHub.below ⟨_, _, h1', h2', rfl, oh1, oh2, rfl⟩ hab24
        have lw25 := (b2125.block W0 (by omega)).trans (unhide LW21)
        have cw0 : (w24.alloc (.cells #[.slice a8 h'.watches.length d8, .slice a9 h'.waiting.length d9] 39)).cell? ⟨W0, 0, none⟩ = some (.slice a1 h'.watches.length d1) := Lib.cell_of_heap lw25 0
        have cw1 : (w24.alloc (.cells #[.slice a8 h'.watches.length d8, .slice a9 h'.waiting.length d9] 39)).cell? ⟨W0, 1, none⟩ = some (.slice a2 h'.waiting.length d2) := Lib.cell_of_heap lw25 1
        have HE26 := hide (eqHub_walk _ _ h' _ _ _ H25 ((unhide O21).below b2125))
        have G25 := hide ((unhide G21).below b2125)
        have LG25 := hide ((b2125.block G0 (by omega)).trans (unhide LG21))
        have BB25 := hide (below_next (unhide BB21) b2125)
        clear HI24 oh1 oh2 f24 b24 hab24 b2125 H25 lw25 G21 LG21 O21 LW21 BB21 B23
        go_wp2_with fail
        generalize (w24.alloc (.cells #[.slice a8 h'.watches.length d8, .slice a9 h'.waiting.length d9] 39)) = w25 at *
        refine (unhide HE26).mono ?_
        rintro e w26 ⟨rfl, b26⟩
        have hz26 := b26.size
        have lg26 := (b26.block G0 (by omega)).trans (unhide LG25)
        have cg0 : w26.cell? ⟨G0, 0, none⟩ = some (.slice a6 h'.watches.length d6) := Lib.cell_of_heap lg26 0
        have cg1 : w26.cell? ⟨G0, 1, none⟩ = some (.slice a7 h'.waiting.length d7) := Lib.cell_of_heap lg26 1
        have HH27 := hide (unhide HHELD w26 _ ((unhide G25).below b26))
        have BB26 := hide (below_next (unhide BB25) b26)
        clear HE26 b26 lg26 G25 LG25 BB25 cw0 cw1
        go_wp2_with fail
        refine (unhide HH27).mono ?_
        rintro e w27 ⟨rfl, b27⟩
        have HFIN := hide (below_next (unhide HA) (below_next (unhide BB26) b27))
        clear HH27 b27 BB26 cg0 cg1
        go_wp2
        go_ret
        exact ⟨rfl, unhide HFIN⟩)
    · go_enter Tryd.func4, Tryd.ntmps4
      go_wp2_with fail
      have hA := alloc_b w (Obj.cells #[v1, v2] 34)
      generalize (w.alloc (Obj.cells #[v1, v2] 34)) = wA at *
      have HSZ := hide (szHub_walk _ h wA ((unhide HR).below hA))
      rw [szI_no hsz] at HSZ
      have HA := hide hA
      clear hA HR hsz
      refine (unhide HSZ).mono ?_
      rintro e w1 ⟨rfl, b1⟩
      have HB1 := hide (below_next (unhide HA) b1)
      clear HSZ b1
      go_wp2
      go_ret
      exact ⟨rfl, unhide HB1⟩
  · have hpI : (1048576 : Int) < (ptr.size : Int) := by omega
    clear hML
    go_enter Tryd.func4, Tryd.ntmps4
    go_wp2
    go_ret
    exact ⟨rfl, alloc_b _ _⟩
end Go.Proofs.YtbcfkkicmmhhcaaDoor
