import Derived.Test.YtbcfkkicmmhhcaaPublish
import Derived.Test.YtbcfkkicmmhhcaaShelfD
import Derived.Lib.OwnBridge
namespace Go.Proofs.Ytbcfkkicmmhhcaa
open Go.RowKit

theorem wtr_ptrs {w : World} {ws : List Wat} {ps : List (List Value × List Nat)} (hl : ps.length = ws.length) (hE : ∀ (j : Nat) (p : List Value × List Nat) (x : Wat), ps[j]? = some p → ws[j]? = some x → wtrE.E w p.1 x p.2) :
    ∃ al : List (Option Addr), al.length = ps.length ∧ ps.flatMap (·.1) = al.map Value.pointer ∧ ∀ (j : Nat) (a : Option Addr) (p : List Value × List Nat), al[j]? = some a → ps[j]? = some p → p.1 = [.pointer a] := by
  induction ps generalizing ws with
  | nil => exact ⟨[], rfl, rfl, fun j a p h => by simp at h⟩
  | cons q r ih =>
    cases ws with
    | nil => simp at hl
    | cons x xs =>
      obtain ⟨al, h1, h2, h3⟩ := ih (ws := xs) (by simpa using hl) (fun j p y hp hy => hE (j + 1) p y (by simpa using hp) (by simpa using hy))
      obtain ⟨g, _, _, _, _, _, hv, _⟩ := hE 0 q x rfl rfl
      refine ⟨some ⟨g, 0, none⟩ :: al, by simp [h1], by rw [List.flatMap_cons, h2, hv]; rfl, fun j a p ha hp => ?_⟩
      cases j with
      | zero => simp at ha hp; subst ha; subst hp; exact hv
      | succ j => exact h3 j a p (by simpa using ha) (by simpa using hp)
theorem flat_of {ps : List (List Value × List Nat)} {al : List (Option Addr)} (h1 : al.length = ps.length) (h : ∀ (j : Nat) (a : Option Addr) (p : List Value × List Nat), al[j]? = some a → ps[j]? = some p → p.1 = [.pointer a]) : ps.flatMap (·.1) = al.map Value.pointer := by
  induction ps generalizing al with
  | nil => cases al with
    | nil => rfl
    | cons a r => simp at h1
  | cons q r ih =>
    cases al with
    | nil => simp at h1
    | cons a al =>
      rw [List.flatMap_cons, h 0 a q rfl rfl, List.map_cons, ih (by simpa using h1) (fun j b p hb hp => h (j + 1) b p (by simpa using hb) (by simpa using hp))]; rfl
theorem put_other {α : Type} [Inhabited α] (enc : α → Value) (w : World) (q g k : Nat) (d : Array α) (hk : k ≠ g) : (Sort.putRow enc (Sort.ahead w q) g 0 d).heap[k]? = w.heap[k]? := by
  simp [Sort.putRow, Sort.mapBlock, Sort.ahead, Array.getElem?_modify, Ne.symm hk]
/-- slices.Delete of one watcher. -/
theorem delWtr_walk (g n cap : Nat) (ws : List Wat) (bw : List Nat) (j : Nat) (w : World) (h : ORow wtrE w (.slice (some ⟨g, 0, none⟩) n cap) ws bw) (hj : j < ws.length) :
    Calls Try.prog 62 #[.slice (some ⟨g, 0, none⟩) n cap, .int .i64 j, .int .i64 (j + 1 : Nat)] w fun e w' => e = .returned (.slice (some ⟨g, 0, none⟩) (n - 1) cap) ∧ (∃ bw', ORow wtrE w' (.slice (some ⟨g, 0, none⟩) (n - 1) cap) (ws.eraseIdx j) bw') ∧ Fr [g] w w' := by
  have hty := orow_ty (e := wtrE) wtr_ty h
  have hlt := h.lt
  obtain ⟨cb, hsp⟩ := h.split
  have hin := orow_inner_ty wtr_ty h hsp
  obtain ⟨ps, hl, hE, ho, hb⟩ := h
  have hn : n = ws.length := by
    rcases ho.2 with ⟨hv, h0⟩ | ⟨g', cap', cur, hv, _⟩
    · cases hv
    · injection hv
  subst hn
  obtain ⟨al, ha1, ha2, ha3⟩ := wtr_ptrs hl hE
  have hown : w.ownsRow 0 90 1 (.slice (some ⟨g, 0, none⟩) ws.length cap) ws.length (al.map Value.pointer) := by rw [← ha2]; exact ho
  obtain ⟨g', cap', hv, _, _, hc1, hc2, hc3, hH⟩ := Lib.holds_of_ownsRow hown (by simp)
  injection hv with hv1 _ hv3
  injection hv1 with hv1
  injection hv1 with hv1
  subst hv1; subst hv3
  obtain ⟨i0, hi, hz0, hz1, hz2⟩ := info_parts infoWtr
  have hcon := AnyE.slices_Delete Try.laysDel Value.pointer (fun _ => rfl) none (fun w => Try.zeroValue90 w) i0 hi hz1 g 0 cap j (j + 1) al.toArray w hH (by simp; omega) (by unfold maxLen at hc2; omega) (by omega) (by simp; omega)
  have hsz : al.toArray.size = ws.length := by simp [hc3]
  rw [hsz] at hcon
  change Calls Try.prog 62 _ _ _ at hcon
  refine hcon.mono ?_
  rintro e w' ⟨rfl, q, rfl⟩
  have hys : (al.take j ++ al.drop (j + 1) ++ List.replicate (j + 1 - j) none).length = ws.length := by
    simp; omega
  have hown' := Lib.ownsRow_putRow (q := q) (k := ws.length - 1) hown hys (by omega)
  have htk : (al.take j ++ al.drop (j + 1) ++ List.replicate (j + 1 - j) (none : Option Addr)).take (ws.length - 1) = al.eraseIdx j := by
    rw [List.eraseIdx_eq_take_drop_succ, List.take_append_of_le_length (by simp; omega), List.take_of_length_le (by simp; omega)]
  rw [htk] at hown'
  have hgn : g ∉ ps.flatMap (·.2) := fun hm => by
    have hcb : cb = ps.flatMap (·.2) := by rw [hsp] at hb; exact List.append_cancel_left hb
    exact hin.not ho (by decide) (g := g) rfl (by rw [hcb]; exact hm)
  have hk : ∀ p ∈ ps, Kp p.2 w (Sort.putRow Value.pointer (Sort.ahead w q) g 0 (al.take j ++ al.drop (j + 1) ++ List.replicate (j + 1 - j) none).toArray) := fun p hp b hb => put_other _ _ _ _ _ _ fun e => hgn (List.mem_flatMap.2 ⟨p, hp, by rw [← e]; exact hb⟩)
  refine ⟨by rw [show ws.length - (j + 1 - j) = ws.length - 1 from by omega], ⟨_, ps.eraseIdx j, ?_, ?_, ?_, rfl⟩, ⟨rfl, rfl, rfl, ?_, fun k _ hn => put_other _ _ _ _ _ _ (by simpa using hn)⟩⟩
  · rw [List.length_eraseIdx, List.length_eraseIdx, hl]
  · intro i p x hp hx
    rw [List.getElem?_eraseIdx] at hp hx
    by_cases hij : i < j
    · rw [if_pos hij] at hp hx
      exact wtrE.keep (hE i p x hp hx) (hk p (List.mem_of_getElem? hp))
    · rw [if_neg hij] at hp hx
      exact wtrE.keep (hE (i + 1) p x hp hx) (hk p (List.mem_of_getElem? hp))
  · have hfl : (ps.eraseIdx j).flatMap (·.1) = (al.eraseIdx j).map Value.pointer := flat_of (by rw [List.length_eraseIdx, List.length_eraseIdx, ha1]) fun i a p ha hp => by
      rw [List.getElem?_eraseIdx] at ha hp
      by_cases hij : i < j
      · rw [if_pos hij] at ha hp; exact ha3 i a p ha hp
      · rw [if_neg hij] at ha hp; exact ha3 (i + 1) a p ha hp
    rw [hfl, List.length_eraseIdx, if_pos hj]
    exact hown'
  · simp [Sort.putRow, Sort.mapBlock, Sort.ahead]
end Go.Proofs.Ytbcfkkicmmhhcaa
