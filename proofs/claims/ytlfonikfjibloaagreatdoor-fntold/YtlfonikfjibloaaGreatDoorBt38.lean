import Derived.Lib.OwnBridge
import Derived.Test.YtlfonikfjibloaaGreatDoorBt34
import Derived.Test.YtlfonikfjibloaaGreatDoorBt36
import Derived.Test.YtlfonikfjibloaaGreatDoorBt37
import Derived.Test.YtlfonikfjibloaaGreatDoorBt27
namespace Go.Proofs.YtlfonikfjibloaaGreatDoor
open Go.RowKit

theorem wtr_ptrs {w : World} {ws : List Wat} {ps : List (List Value × List Nat)} (hl : ps.length = ws.length) (hE : ∀ (j : Nat) (p : List Value × List Nat) (x : Wat), ps[j]? = some p → ws[j]? = some x → wtrE.E w p.1 x p.2) :
    ∃ al : List (Option Addr), al.length = ps.length ∧ ps.flatMap (·.1) = al.map Value.pointer ∧ ∀ (j : Nat) (a : Option Addr) (p : List Value × List Nat), al[j]? = some a → ps[j]? = some p → p.1 = [.pointer a] := by
  induction ps generalizing ws with
  | nil => exact ⟨[], rfl, rfl, fun j a p h => by simp at h⟩
  | cons q r ih =>
    cases ws with
    | nil => simp at hl
    | cons x xs =>
      obtain ⟨al, h1, h2, h3⟩ := ih (ws := xs) (by simpa using hl) (fun j p y hp hy => hE (j + 1) p y (by simpa using hp) (by simpa using hy))
      obtain ⟨g, _, _, _, _, _, hv, _⟩ := hE 0 q x rfl rfl
      refine ⟨some ⟨g, 0, none⟩ :: al, by simp [h1], by rw [List.flatMap_cons, h2, hv]; rfl, fun j a p ha hp => ?_⟩
      cases j with
      | zero => simp at ha hp; subst ha; subst hp; exact hv
      | succ j => exact h3 j a p (by simpa using ha) (by simpa using hp)
theorem flat_of {ps : List (List Value × List Nat)} {al : List (Option Addr)} (h1 : al.length = ps.length) (h : ∀ (j : Nat) (a : Option Addr) (p : List Value × List Nat), al[j]? = some a → ps[j]? = some p → p.1 = [.pointer a]) : ps.flatMap (·.1) = al.map Value.pointer := by
  induction ps generalizing al with
  | nil => cases al with
    | nil => rfl
    | cons a r => simp at h1
  | cons q r ih =>
    cases al with
    | nil => simp at h1
    | cons a al =>
      rw [List.flatMap_cons, h 0 a q rfl rfl, List.map_cons, ih (by simpa using h1) (fun j b p hb hp => h (j + 1) b p (by simpa using hb) (by simpa using hp))]; rfl
theorem put_other {α : Type} [Inhabited α] (enc : α → Value) (w : World) (q g k : Nat) (d : Array α) (hk : k ≠ g) : (Sort.putRow enc (Sort.ahead w q) g 0 d).heap[k]? = w.heap[k]? := by
  simp [Sort.putRow, Sort.mapBlock, Sort.ahead, Array.getElem?_modify, Ne.symm hk]
/-- slices.Delete of one watcher. -/
theorem delWtr_walk (g n cap : Nat) (ws : List Wat) (bw : List Nat) (j : Nat) (w : World) (h : ORow wtrE w (.slice (some ⟨g, 0, none⟩) n cap) ws bw) (hj : j < ws.length) :
    Calls Tryz.prog 170 #[.slice (some ⟨g, 0, none⟩) n cap, .int .i64 j, .int .i64 (j + 1 : Nat)] w fun e w' => e = .returned (.slice (some ⟨g, 0, none⟩) (n - 1) cap) ∧ (∃ bw', ORow wtrE w' (.slice (some ⟨g, 0, none⟩) (n - 1) cap) (ws.eraseIdx j) bw') ∧ Fr [g] w w' := by
  have hty := orow_ty (e := wtrE) wtr_ty h
  have hlt := h.lt
  obtain ⟨cb, hsp⟩ := h.split
  have hin := orow_inner_ty wtr_ty h hsp
  obtain ⟨ps, hl, hE, ho, hb⟩ := h
  have hn : n = ws.length := by
    rcases ho.2 with ⟨hv, h0⟩ | ⟨g', cap', cur, hv, _⟩
    · cases hv
    · injection hv
  subst hn
  obtain ⟨al, ha1, ha2, ha3⟩ := wtr_ptrs hl hE
  have hown : w.ownsRow 0 223 1 (.slice (some ⟨g, 0, none⟩) ws.length cap) ws.length (al.map Value.pointer) := by rw [← ha2]; exact ho
  obtain ⟨g', cap', hv, _, _, hc1, hc2, hc3, hH⟩ := Lib.holds_of_ownsRow hown (by simp)
  injection hv with hv1 _ hv3
  injection hv1 with hv1
  injection hv1 with hv1
  subst hv1; subst hv3
  obtain ⟨i0, hi, hz0, hz1, hz2⟩ := info_parts infoWtr
  have hcon := AnyE.slices_Delete Tryz.laysDel Value.pointer (fun _ => rfl) none (fun w => Tryz.zeroValue223 w) i0 hi hz1 g 0 cap j (j + 1) al.toArray w hH (by simp; omega) (by unfold maxLen at hc2; omega) (by omega) (by simp; omega)
  have hsz : al.toArray.size = ws.length := by simp [hc3]
  rw [hsz] at hcon
  change Calls Tryz.prog 170 _ _ _ at hcon
  refine hcon.mono ?_
  rintro e w' ⟨rfl, q, rfl⟩
  have hys : (al.take j ++ al.drop (j + 1) ++ List.replicate (j + 1 - j) none).length = ws.length := by
    simp; omega
  have hown' := Lib.ownsRow_putRow (q := q) (k := ws.length - 1) hown hys (by omega)
  have htk : (al.take j ++ al.drop (j + 1) ++ List.replicate (j + 1 - j) (none : Option Addr)).take (ws.length - 1) = al.eraseIdx j := by
    rw [List.eraseIdx_eq_take_drop_succ, List.take_append_of_le_length (by simp; omega), List.take_of_length_le (by simp; omega)]
  rw [htk] at hown'
  have hgn : g ∉ ps.flatMap (·.2) := fun hm => by
    have hcb : cb = ps.flatMap (·.2) := by rw [hsp] at hb; exact List.append_cancel_left hb
    exact hin.not ho (by decide) (g := g) rfl (by rw [hcb]; exact hm)
  have hk : ∀ p ∈ ps, Kp p.2 w (Sort.putRow Value.pointer (Sort.ahead w q) g 0 (al.take j ++ al.drop (j + 1) ++ List.replicate (j + 1 - j) none).toArray) := fun p hp b hb => put_other _ _ _ _ _ _ fun e => hgn (List.mem_flatMap.2 ⟨p, hp, by rw [← e]; exact hb⟩)
  refine ⟨by rw [show ws.length - (j + 1 - j) = ws.length - 1 from by omega], ⟨_, ps.eraseIdx j, ?_, ?_, ?_, rfl⟩, ⟨rfl, rfl, rfl, ?_, fun k _ hn => put_other _ _ _ _ _ _ (by simpa using hn)⟩⟩
  · rw [List.length_eraseIdx, List.length_eraseIdx, hl]
  · intro i p x hp hx
    rw [List.getElem?_eraseIdx] at hp hx
    by_cases hij : i < j
    · rw [if_pos hij] at hp hx
      exact wtrE.keep (hE i p x hp hx) (hk p (List.mem_of_getElem? hp))
    · rw [if_neg hij] at hp hx
      exact wtrE.keep (hE (i + 1) p x hp hx) (hk p (List.mem_of_getElem? hp))
  · have hfl : (ps.eraseIdx j).flatMap (·.1) = (al.eraseIdx j).map Value.pointer := flat_of (by rw [List.length_eraseIdx, List.length_eraseIdx, ha1]) fun i a p ha hp => by
      rw [List.getElem?_eraseIdx] at ha hp
      by_cases hij : i < j
      · rw [if_pos hij] at ha hp; exact ha3 i a p ha hp
      · rw [if_neg hij] at ha hp; exact ha3 (i + 1) a p ha hp
    rw [hfl, List.length_eraseIdx, if_pos hj]
    exact hown'
  · simp [Sort.putRow, Sort.mapBlock, Sort.ahead]
end Go.Proofs.YtlfonikfjibloaaGreatDoor

namespace Go.Proofs.YtlfonikfjibloaaGreatDoor
open Go.RowKit

set_option maxHeartbeats 800000 in
set_option maxRecDepth 100000 in
theorem findWtr_walk (B : Nat) (h : Hb) (pv cv : Value) (f c : Nat) (ns : List Nws) (cb bw : List Nat) (client : Int) (w : World) (hb : Brd w B h pv cv f c ns cb bw) :
    Calls Tryz.prog 127 #[.pointer (some ⟨B, 0, none⟩), .int .i64 client] w fun e w' => w = w' ∧ ((findI h.watches client = -1 ∧ e = .returned (.tuple #[.pointer none, .int .i64 0])) ∨ ∃ (j g : Nat) (_ : j < h.watches.length), findI h.watches client = (j : Int) ∧ e = .returned (.tuple #[.pointer (some ⟨g, 0, none⟩), .int .i64 j]) ∧ ∀ gp n cap, pv = .slice (some ⟨gp, 0, none⟩) n cap → w.cell? ⟨gp, j, none⟩ = some (.pointer (some ⟨g, 0, none⟩))) := by
  have hm := hb.o1.len
  unfold maxLen at hm
  obtain ⟨xa, xc, rfl, hfm, hsh⟩ := hb.o1.form
  have HBD := hide hb
  have HSH := hide hsh
  have c0 : w.cell? ⟨B, 0, none⟩ = some (.slice xa h.watches.length xc) := Lib.cell_of_heap hb.ko 0
  clear hb hfm hsh
  go_enter Tryz.func127, Tryz.ntmps127
  go_wp2
  go_loopw [13] (fun i wr => w = wr ∧ ∃ k : Nat, k ≤ h.watches.length ∧ i = .int .i64 (k : Int) ∧ ∀ i (hi : i < h.watches.length), i < k → h.watches[i].client ≠ client) (fun i _ => h.watches.length - (intOf i).toNat)
  case atStart => exact ⟨rfl, 0, Nat.zero_le _, rfl, fun i hi h => by omega⟩
  case round =>
    obtain ⟨rfl, k, hk, rfl, hno⟩ := hrel
    have HN := hide hno
    clear hno
    by_cases hlt : k < h.watches.length
    · obtain ⟨g, rfl⟩ := unhide HSH (by omega)
      obtain ⟨vs, jb, hE, hc, hx1, hx2, hx3⟩ := (unhide HBD).o1.at (List.getElem?_eq_getElem hlt)
      obtain ⟨gw, cw, fw, kw, ms, cbw, rfl, hkw, _, _, _, _⟩ := hE
      have d0 := (hc 0 _ rfl).1
      rw [show k * wtrE.wd + 0 = k from by simp [wtrE]] at d0
      have e0 : w.cell? ⟨gw, 0, none⟩ = some (.int .i64 h.watches[k].client) := Lib.cell_of_heap hkw 0
      clear hx1 hx2 hx3 hc hkw
      by_cases hcl : h.watches[k].client = client
      · have HR := hide (findI_at hlt hcl (unhide HN))
        have hcl' : (h.watches[k].client == client) = true := by simpa using hcl
        clear hcl
        have HD0 := hide d0
        go_wp2
        go_returns
        exact ⟨rfl, .inr ⟨k, gw, hlt, unhide HR, rfl, fun gp n cap e => by injection e with e; injection e with e; injection e with e; rw [← e]; exact unhide HD0⟩⟩
      · have hcl' : (h.watches[k].client == client) = false := by simpa using hcl
        have HC := hide hcl
        clear hcl
        go_wp2
        go_roundw
        case rel =>
          refine ⟨trivial, k + 1, by omega, by go_num, fun i hi hik => ?_⟩
          by_cases e : i = k
          · subst e; exact unhide HC
          · exact unhide HN i hi (by omega)
        case measure => simp [intOf]; omega
    · have HR := hide (findI_no (ws := h.watches) (c := client) fun i hi => unhide HN i hi (by omega))
      go_wp2
      go_returns
      exact ⟨rfl, .inl ⟨unhide HR, rfl⟩⟩

set_option maxHeartbeats 800000 in
set_option maxRecDepth 100000 in
theorem cancelBrd_walk (B : Nat) (h : Hb) (pv cv : Value) (f c : Nat) (ns : List Nws) (cb bw : List Nat) (client : Int) (w : World) (hb : Brd w B h pv cv f c ns cb bw) (D : Nat) (hB : D ≤ B) (hp : ∀ g, pv.ownBlock = some g → D ≤ g) (hD : D ≤ w.heap.size) (hl : h.watches.length ≤ 1048577) :
    Calls Tryz.prog 118 #[.pointer (some ⟨B, 0, none⟩), .int .i64 client] w fun e w' => Below D w w' ∧ ∃ pv' bw', (∀ g, pv'.ownBlock = some g → D ≤ g) ∧ ((findI h.watches client = -1 ∧ e = .returned (.int .i64 1) ∧ Brd w' B h pv' cv f c ns cb bw') ∨ ∃ (j : Nat) (_ : j < h.watches.length), findI h.watches client = (j : Int) ∧ e = .returned (.int .i64 0) ∧ Brd w' B ⟨h.watches.eraseIdx j, h.waiting⟩ pv' cv f c ns cb bw') := by
  have HF := hide (findWtr_walk B h pv cv f c ns cb bw client w hb)
  have HBD := hide hb
  clear hb
  go_enter Tryz.func118, Tryz.ntmps118
  go_wp2_with fail
  refine (unhide HF).mono ?_
  rintro e w1 ⟨rfl, ⟨h0, rfl⟩ | ⟨j, g, hj, h0, rfl, _⟩⟩
  · have H0 := hide h0
    clear h0 HF
    go_wp2
    go_ret
    exact ⟨Below.refl _ _, _, _, hp, .inl ⟨unhide H0, rfl, unhide HBD⟩⟩
  · have H0 := hide h0
    have hbd := unhide HBD
    obtain ⟨xa, xc, rfl, hf1, hf2⟩ := hbd.o1.form
    obtain ⟨gp, rfl⟩ := hf2 (by omega)
    have c0 : w.cell? ⟨B, 0, none⟩ = some (.slice (some ⟨gp, 0, none⟩) h.watches.length xc) := Lib.cell_of_heap hbd.ko 0
    have HD := hide (fun wx (hx : Below w.heap.size w wx) => delWtr_walk gp _ xc h.watches bw j wx (hbd.o1.below hx) hj)
    have hgp := hp gp rfl
    clear h0 HF hbd hf1 hf2 hp
    go_wp2_with fail
    refine (unhide HD w (Below.refl _ _)).mono ?_
    rintro e w2 ⟨rfl, ⟨bw', o2⟩, fr2⟩
    have hbd := unhide HBD
    have tyB : ∀ {w' : World} {bl : List Nat} {ts : List TypeId} {cur : Array Value}, w'.heap[B]? = some (.cells cur 141 (0, 0)) → Tys ts w' bl → 141 ∉ ts → B ∉ bl := fun hk ht hn hm => by
      obtain ⟨cur', t, e1, e2⟩ := ht B hm
      rw [hk] at e1
      injection e1 with e1; injection e1 with _ e1
      exact hn (e1 ▸ e2)
    have nBg : B ≠ gp := fun e => tyB hbd.ko (orow_ty (e := wtrE) wtr_ty hbd.o1) (by decide) (by rw [e]; exact hbd.o1.head rfl)
    have ko2 := (fr2.block B (Array.getElem?_eq_some_iff.1 hbd.ko).1 (by simpa using nBg)).trans hbd.ko
    have on2 := hbd.o2.keep (fr2.kp hbd.o2.lt fun b hb hm => by
      simp at hm
      subst hm
      obtain ⟨cs9, hcs9⟩ := hbd.o1.own
      exact (nwss_ty hbd.o2).not hcs9 (by decide) rfl hb)
    have hls : (h.watches.eraseIdx j).length = h.watches.length - 1 := by rw [List.length_eraseIdx, if_pos hj]
    have ko3 := heap_setCell_same _ _ 0 _ _ (.slice (some ⟨gp, 0, none⟩) (h.watches.length - 1) xc) ko2
    have ow3 := o2.other (tyB ko2 (orow_ty (e := wtrE) wtr_ty o2) (by decide)) 0 (.slice (some ⟨gp, 0, none⟩) (h.watches.length - 1) xc)
    have on3 := on2.other (tyB ko2 (nwss_ty on2) (by decide)) 0 (.slice (some ⟨gp, 0, none⟩) (h.watches.length - 1) xc)
    have HR : Hid (Brd (w2.setCell ⟨B, 0, none⟩ (.slice (some ⟨gp, 0, none⟩) (h.watches.length - 1) xc)) B ⟨h.watches.eraseIdx j, h.waiting⟩ (.slice (some ⟨gp, 0, none⟩) (h.watches.length - 1) xc) cv f c ns cb bw') := ⟨ko3, ow3, on3, hbd.ring, hbd.len⟩
    have HW := hide ((fr2.below (B := D) (fun b hb => by simp at hb; omega) hD).setCell (p := ⟨B, 0, none⟩) hB (.slice (some ⟨gp, 0, none⟩) (h.watches.length - 1) xc))
    have d0 : w2.cell? ⟨B, 0, none⟩ = some (.slice (some ⟨gp, 0, none⟩) h.watches.length xc) := Lib.cell_of_heap ko2 0
    have fd := Lib.frozen_of_heap ko2
    clear hbd tyB nBg ko2 on2 hls ko3 ow3 on3 o2 fr2 HD c0 HBD
    go_wp2
    go_ret
    exact ⟨unhide HW, _, _, fun g hg => by simp [Value.ownBlock] at hg; omega, .inr ⟨j, hj, unhide H0, rfl, unhide HR⟩⟩

/-- What Cancel leaves of a hub, and its code. -/
def canH (h : Hb) (c : Int) : Hb := ⟨skipT h.watches (findI h.watches c) h.watches.length, h.waiting⟩
def canC (h : Hb) (c : Int) : Int := if findI h.watches c < 0 then 1 else 0
theorem skipT_one (ws : List Wat) (j : Nat) : ∀ k, skipT ws (j : Int) k = (ws.take k).eraseIdx j
  | 0 => by simp [skipT]
  | k + 1 => by
    rw [skipT, skipT_one ws j k, List.take_add_one]
    by_cases hjk : (k : Int) = (j : Int)
    · have : k = j := by omega
      subst this
      rw [if_pos rfl, List.append_nil]
      by_cases hk : k < ws.length
      · rw [List.getElem?_eq_getElem hk, List.eraseIdx_append_of_length_le (by simp; omega)]
        have : (ws.take k).length = k := by rw [List.length_take]; omega
        rw [this, Nat.sub_self, List.eraseIdx_of_length_le (by omega)]
        simp
      · rw [List.getElem?_eq_none (by omega)]; simp
    · rw [if_neg hjk]
      by_cases hk : k < ws.length
      · have hl : (ws.take k).length = k := by rw [List.length_take]; omega
        rw [List.getElem?_eq_getElem hk]
        by_cases hlt : j < k
        · rw [List.eraseIdx_append_of_lt_length (by omega)]
        · rw [List.eraseIdx_of_length_le (by omega), List.eraseIdx_of_length_le (by simp; omega)]
      · rw [List.getElem?_eq_none (by omega)]; simp
theorem canH_none {h : Hb} {c : Int} (h0 : findI h.watches c = -1) : canH h c = h := by
  unfold canH; rw [h0, skipT_none _ _ (Nat.le_refl _), List.take_length]
theorem canH_some {h : Hb} {c : Int} {j : Nat} (h0 : findI h.watches c = (j : Int)) : canH h c = ⟨h.watches.eraseIdx j, h.waiting⟩ := by
  unfold canH; rw [h0, skipT_one, List.take_length]

theorem sum_erase {α : Type} (f : α → Nat) : ∀ (l : List α) (j : Nat), ((l.eraseIdx j).map f).sum ≤ (l.map f).sum
  | [], j => by simp
  | a :: r, 0 => by simp
  | a :: r, j + 1 => by
    have := sum_erase f r j
    simp only [List.eraseIdx_cons_succ, List.map_cons, List.sum_cons]; omega
theorem canH_sz {h : Hb} {c : Int} (hs : szHb h ≤ 1048576) : szHb (canH h c) ≤ 1048577 := by
  rcases findI_cases h.watches c with h1 | ⟨j, _, h1, _⟩
  · rw [canH_none h1]; omega
  · rw [canH_some h1]
    have h1 : (h.watches.eraseIdx j).length ≤ h.watches.length := List.length_eraseIdx_le _ _
    have h2 := sum_erase szWat h.watches j
    show szWats (h.watches.eraseIdx j) + szNwss h.waiting ≤ 1048577
    unfold szWats
    unfold szHb szWats at hs
    omega
theorem results_cell_tmp {P : Program} {fn : Func} {p r : Tmp} {ty : TypeId} (h : fn.results = #[.cell p ty, .tmp r]) (tmps : Array Value) (w : World) (g : Nat) (t : TypeId) (cs : Array Value) (fr : Nat × Nat) (d : TypeDesc) (v : Value)
    (hp : tmps.getD p undef = .pointer (some ⟨g, 0, none⟩)) (hr : tmps.getD r undef = v) (hg : w.heap[g]? = some (.cells cs t fr))
    (hu : P.underlying ty = some d) (hd : (match d with | .struct _ | .array _ _ => true | _ => false) = true) (hi : (P.info? ty).map (·.size) = some cs.size) :
    (results fn tmps).run P w = .ok (.tuple #[.agg cs, v]) w := by
  have hp' : tmps[p]?.getD undef = .pointer (some ⟨g, 0, none⟩) := by simpa using hp
  have hr' : tmps[r]?.getD undef = v := by simpa using hr
  simp [results, h, hp', hr', asAddr, run_loadVar_row w g t ty cs fr d hg hu hd hi]
end Go.Proofs.YtlfonikfjibloaaGreatDoor

namespace Go.Proofs.YtlfonikfjibloaaGreatDoor
open Go.RowKit

/-- The texts of a list that meet another one. -/
def nearP (p : ByteArray) (ss : List ByteArray) : List (List UInt8) := (ss.filter fun s => leads p.data.toList s.data.toList).map (·.data.toList)
theorem nearP_step {p : ByteArray} {ss : List ByteArray} {k : Nat} (h : k < ss.length) : nearP p (ss.take (k + 1)) = nearP p (ss.take k) ++ (if leads p.data.toList (ss.getD k ByteArray.empty).data.toList then [(ss.getD k ByteArray.empty).data.toList] else []) := by
  rw [take_snoc h]
  generalize ss.getD k ByteArray.empty = s
  unfold nearP
  rw [List.filter_append, List.map_append]
  congr 1
  cases hl : leads p.data.toList s.data.toList <;> simp [hl]
theorem nearP_len (p : ByteArray) (ss : List ByteArray) : (nearP p ss).length ≤ ss.length := by
  unfold nearP; rw [List.length_map]; exact List.length_filter_le _ _

set_option maxHeartbeats 1000000 in
set_option maxRecDepth 100000 in
theorem near_walk (g : Nat) (ptr : ByteArray) (xa : Option Addr) (xb xo xc : Nat) (ss : List ByteArray) (w : World) (hML : ML w) (hp : ptr.size ≤ 1048576) (hg : w.cell? ⟨g, 1, none⟩ = some (.string ptr)) (h : SS w xa xb xo ss) (hm : ss.length ≤ 1048577) :
    Calls Tryz.prog 172 #[.pointer (some ⟨g, 0, none⟩), .slice xa ss.length xc] w fun e w' => ∃ v, e = .returned v ∧ OT w' w.heap.size v (if (ptoks ptr.data.toList).isSome then nearP ptr ss else []) ∧ Below w.heap.size w w' := by
  obtain ⟨i0, hi, hz0, hz1, hz2⟩ := info_parts infoString
  have hadr := h.ad
  have HC := hide h.cell
  have HT := hide (isPtr_walk ptr w hML hp)
  clear h hML
  have hgl := World.block_lt_of_cell? _ _ hg
  cases hz : (ptoks ptr.data.toList).isSome with
  | false =>
    rw [hz] at HT
    clear hadr hz
    go_enter Tryz.func172, Tryz.ntmps172
    go_wp2_with fail
    refine (unhide HT).mono ?_
    rintro e w1 ⟨rfl, b1⟩
    have B1 := hide b1
    clear b1 HT
    go_wp2
    go_ret
    exact ⟨_, rfl, World.ownsRow_nil _ _ _ _, unhide B1⟩
  | true =>
    rw [hz] at HT
    have HAD := hide hadr
    clear hadr hz
    go_enter Tryz.func172, Tryz.ntmps172
    go_wp2_with fail
    refine (unhide HT).mono ?_
    rintro e w1 ⟨rfl, b1⟩
    have B1 := hide b1
    clear b1 HT
    go_wp2
    go_loopw [5, 17] (fun v i wr => ∃ k : Nat, k ≤ ss.length ∧ i = .int .i64 k ∧ OT wr w.heap.size v (nearP ptr (ss.take k)) ∧ Below w.heap.size w wr) (fun _ i _ => ss.length - (intOf i).toNat)
    case atStart => exact ⟨0, Nat.zero_le _, rfl, World.ownsRow_nil _ _ _ _, unhide B1⟩
    case round =>
      obtain ⟨k, hk, rfl, hown, hb⟩ := hrel
      by_cases hlt : k < ss.length
      · have hc0 := unhide HC k hlt
        have hxb : xb < w.heap.size := World.block_lt_of_cell? _ _ hc0
        obtain rfl := unhide HAD (by omega)
        have hst := nearP_step (p := ptr) hlt
        have hol := nearP_len ptr (ss.take k)
        have hol2 : (ss.take k).length ≤ k := by rw [List.length_take]; omega
        generalize hs : ss.getD k ByteArray.empty = s at *
        have HST := hide hst
        have hc : wr.cell? ⟨xb, xo + k, none⟩ = some (.string s) := (hb.cell (p := ⟨xb, xo + k, none⟩) hxb).trans hc0
        have hgc : wr.cell? ⟨g, 1, none⟩ = some (.string ptr) := (hb.cell (p := ⟨g, 1, none⟩) hgl).trans hg
        have HM := hide (meet_walk ptr s wr)
        generalize nearP ptr (ss.take k) = p at *
        have hpl : p.length ≤ 1048577 := by omega
        have HB := hide hb
        have hwsz := hb.size
        clear hst hs hol hol2 hb HAD hg
        cases hl : leads ptr.data.toList s.data.toList with
        | false =>
          rw [hl] at HM HST
          clear hl
          go_wp2_with fail
          refine (unhide HM).mono ?_
          rintro e w2 ⟨rfl, rfl⟩
          clear HM
          have OO := hide hown
          clear hown
          go_wp2
          go_roundw
          case rel => exact ⟨k + 1, by omega, by go_num, by rw [unhide HST]; simpa using unhide OO, unhide HB⟩
          case measure => simp [intOf]; omega
        | true =>
          rw [hl] at HM HST
          clear hl
          go_wp2_with fail
          refine (unhide HM).mono ?_
          rintro e w2 ⟨rfl, rfl⟩
          have HQ := hide (ba_data s)
          clear HM
          go_wp2_with (at_builtin; (refine wpList_append_own _ rfl (.tmp 28) (.tmp 30) 51 rfl w.heap.size 9 i0 (.string ByteArray.empty) 1 16 Tryz.underlying51 hi hz0 hz1 hz2 rfl (by decide) _ _ _ rfl (hown.alloc _) ⟨wr.heap.size, 0, none⟩ 1 1 [.string s] rfl rfl (lit1 _ _ _) (one_tok _) (by unfold maxLen; omega) (by omega) (by simp; omega) ?_))
          intro v2 w3 hown2 hgrow2 _
          have B2 : Below w.heap.size w w3 := ((unhide HB).alloc hwsz _).grown hgrow2 (by simp; omega) (fun k hk => (hown.lt k hk).1)
          have own2 : OT w3 w.heap.size v2 (p ++ [s.data.toList]) := OT.step (t := s.data.toList) (by rw [show tokCell s.data.toList = .string s from congrArg Value.string (unhide HQ)]; exact hown2)
          have OO := hide own2
          have BB := hide B2
          clear hown2 hgrow2 hown own2 B2
          go_wp2
          go_roundw
          case rel => exact ⟨k + 1, by omega, by go_num, by rw [unhide HST]; exact unhide OO, unhide BB⟩
          case measure => simp [intOf]; omega
      · have e : ss.take k = ss := List.take_of_length_le (by omega)
        rw [e] at hown
        have OO := hide hown
        have BB := hide hb
        clear hown hb HAD
        go_wp2
        go_ret
        exact ⟨_, rfl, by simpa using unhide OO, unhide BB⟩
end Go.Proofs.YtlfonikfjibloaaGreatDoor

namespace Go.Proofs.YtlfonikfjibloaaGreatDoor
open Go.RowKit

theorem once_set {ps : List (List Value × List Nat)} (h : Once 0 (ps.flatMap (·.2))) {j : Nat} (hj : j < ps.length) {q : List Value × List Nat} (hq : Once 0 q.2) (hs : ∀ b ∈ q.2, b ∈ ps[j].2 ∨ b ∉ ps.flatMap (·.2)) : Once 0 ((ps.set j q).flatMap (·.2)) := by
  obtain ⟨h1, h2⟩ := once_flat.1 h
  rw [once_zero] at h
  have hap : ∀ (i : Nat) (hi : i < ps.length), i ≠ j → ∀ b ∈ ps[i].2, b ∉ q.2 := fun i hi hij b hb hq => by
    rcases hs b hq with h3 | h3
    · exact nodup_apart h (List.getElem?_eq_getElem hi) (List.getElem?_eq_getElem hj) hij b hb h3
    · exact h3 (List.mem_flatMap.2 ⟨_, List.getElem_mem hi, hb⟩)
  refine once_flat.2 ⟨fun p hp => ?_, ?_⟩
  · rcases List.mem_or_eq_of_mem_set hp with hp | rfl
    · exact h1 p hp
    · exact hq
  · rw [List.pairwise_iff_getElem]
    intro i k hi hk hik a ha b hb _ hab
    subst hab
    have hi' : i < ps.length := by simpa using hi
    have hk' : k < ps.length := by simpa using hk
    by_cases e1 : i = j
    · subst e1
      rw [List.getElem_set_self] at ha
      rw [List.getElem_set_ne (by omega)] at hb
      exact hap k hk' (by omega) a hb ha
    · rw [List.getElem_set_ne (by omega)] at ha
      by_cases e2 : k = j
      · subst e2
        rw [List.getElem_set_self] at hb
        exact hap i hi' e1 a ha hb
      · rw [List.getElem_set_ne (by omega)] at hb
        exact nodup_apart h (List.getElem?_eq_getElem hi') (List.getElem?_eq_getElem hk') (by omega) a ha hb
/-- An element of a row is written anew, and its blocks stay apart. -/
theorem orow_putAll2 {α : Type} {e : Elem α} {ts : List TypeId} (he : ∀ {w vs x bl}, e.E w vs x bl → Tys ts w bl) (hts : e.T ∉ ts) {w : World} {g n cap : Nat} {xs : List α} {cb : List Nat} (h : ORow e w (.slice (some ⟨g, 0, none⟩) n cap) xs (g :: cb)) {j : Nat} (hj : j < xs.length)
    {vs : List Value} {x : α} {ib : List Nat} (hE : e.E w vs x ib) : ∃ cb', ORow e (putN w g (j * e.wd) vs) (.slice (some ⟨g, 0, none⟩) n cap) (xs.set j x) (g :: cb') ∧ (∀ b ∈ cb', b ∈ cb ∨ b ∈ ib) ∧ (Once 0 cb → Once 0 ib → (∀ b ∈ ib, b ∉ cb) → Once 0 cb') := by
  have hty := orow_inner_ty he (cb := cb) h rfl
  have htyi := he hE
  obtain ⟨ps, hl, hE0, ho, hb⟩ := h
  have hn : n = xs.length := by
    rcases ho.2 with ⟨hv, h0⟩ | ⟨g', cap', cur, hv, _⟩
    · cases hv
    · injection hv
  subst hn
  have hcb : cb = ps.flatMap (·.2) := by
    simp [Value.ownBlock] at hb; exact hb
  have hwd := orow_wd hl hE0
  have hnot : ∀ p ∈ ps, g ∉ p.2 := fun p hp hg => hty.not ho hts (g := g) rfl (by rw [hcb]; exact List.mem_flatMap.2 ⟨p, hp, hg⟩)
  have hnoti : g ∉ ib := fun hg => htyi.not ho hts (g := g) rfl hg
  have hk : ∀ bl : List Nat, g ∉ bl → Kp bl w (putN w g (j * e.wd) vs) := fun bl hg b hb => putN_other (k := b) (g := g) (fun e => hg (by rw [← e]; exact hb)) _ _
  refine ⟨(ps.set j (vs, ib)).flatMap (·.2), ⟨ps.set j (vs, ib), by simp [hl], ?_, ?_, by simp [Value.ownBlock]⟩, fun b hb => ?_, fun h1 h2 h3 => ?_⟩
  · intro i p y hp hy
    by_cases hij : i = j
    · subst hij
      rw [List.getElem?_set_self (by omega)] at hp hy
      cases hp; cases hy
      exact e.keep hE (hk _ hnoti)
    · rw [List.getElem?_set_ne (by omega)] at hp hy
      exact e.keep (hE0 i p y hp hy) (hk _ (hnot p (List.mem_of_getElem? hp)))
  · rw [List.length_set, flat_setN hwd (by omega) vs (e.len hE) ib]
    exact putN_own ho vs (j * e.wd)
  · obtain ⟨p, hp, hb⟩ := List.mem_flatMap.1 hb
    rcases List.mem_or_eq_of_mem_set hp with hp | rfl
    · left; rw [hcb]; exact List.mem_flatMap.2 ⟨p, hp, hb⟩
    · exact .inr hb
  · rw [hcb] at h1 h3
    exact once_set h1 (by omega) (q := (vs, ib)) h2 fun b hb => .inr (h3 b hb)

def msg0 : Msg := ⟨0, [], false⟩
theorem RingIs.popped {α : Type} {ms : List α} {f c : Nat} {m z : α} {q : List α} (h : RingIs ms f c (m :: q)) : RingIs (ms.set f z) ((f + 1) % ms.length) (c - 1) q ∧ f < ms.length ∧ ms[f]? = some m ∧ c = q.length + 1 := by
  have hc := h.cnt
  have hle := h.le
  rw [List.length_cons] at hc
  have hf : f < ms.length := by rcases h.lt with h1 | h1; exact h1; rw [h1] at hle; simp at hle; omega
  have h0 := h.at_ 0 m rfl
  rw [Nat.add_zero, Nat.mod_eq_of_lt hf] at h0
  refine ⟨⟨by omega, by rw [List.length_set]; omega, .inl (by rw [List.length_set]; exact Nat.mod_lt _ (by omega)), fun i x hx => ?_⟩, hf, h0, hc⟩
  have hi := (List.getElem?_eq_some_iff.1 hx).1
  have h1 := h.at_ (i + 1) x (by simpa using hx)
  have he : ((f + 1) % ms.length + i) % ms.length = (f + (i + 1)) % ms.length := by
    rw [Nat.mod_add_mod]; congr 1; omega
  have hne : (f + (i + 1)) % ms.length ≠ f := fun e => by
    have h2 : f + (i + 1) = ms.length * ((f + (i + 1)) / ms.length) + f := by
      have := Nat.div_add_mod (f + (i + 1)) ms.length
      omega
    have h3 : i + 1 = ms.length * ((f + (i + 1)) / ms.length) := by omega
    have h4 : 0 < (f + (i + 1)) / ms.length := by
      rcases Nat.eq_zero_or_pos ((f + (i + 1)) / ms.length) with h5 | h5
      · rw [h5] at h3; omega
      · exact h5
    have h6 : ms.length * 1 ≤ ms.length * ((f + (i + 1)) / ms.length) := Nat.mul_le_mul_left _ h4
    omega
  rw [List.length_set, he, List.getElem?_set_ne (Ne.symm hne)]
  exact h1
end Go.Proofs.YtlfonikfjibloaaGreatDoor
