import Derived.Lib.Builder
import Derived.Handy
import Derived.Test.YtcjajchfjoffnaaGreatDoorBto4
import Derived.Test.YtcjajchfjoffnaaGreatDoorBto3
import Derived.Test.YtcjajchfjoffnaaGreatDoorBto1
namespace Go.Proofs.YtcjajchfjoffnaaGreatDoor
open Go.RowKit

set_option maxHeartbeats 400000 in
theorem toStr_walk (v : Value) (ss : List ByteArray) (w : World) (hr : RRow sRE w v ss) (hm : ss.length ≤ 1048576) :
    Calls Tryz.prog 126 #[v] w fun e w' => ∃ v' bl, e = .returned v' ∧ OStr w' v' ss bl ∧ Fsh w.heap.size bl ∧ Below w.heap.size w w' := by
  obtain ⟨xa, xb, xo, xc, rfl, h, _, _⟩ := RStr.ss hr
  obtain ⟨i0, hi, hz0, hz1, hz2⟩ := info_parts infoStr
  have hadr := h.ad
  have HC := hide h.cell
  clear h hr
  go_enter Tryz.func126, Tryz.ntmps126
  go_wp2_with (at_make; refine wpList_make_full _ rfl _ _ 45 rfl w.heap.size 9 i0 (.string ByteArray.empty) 1 Tryz.underlying45 hi hz0 hz1 .i64 .i64 _ _ ss.length rfl rfl rfl rfl (by rw [hz2]; omega) (by unfold maxLen; omega) (Nat.le_refl _) ?_)
  intro w1 hown hgrow
  have hbel : Below w.heap.size w w1 := (Below.refl _ _).grown hgrow (Nat.le_refl _) (by intro k hk; cases hk)
  clear hgrow hi hz0 hz1 hz2
  go_wp2
  go_loopw [4] (fun i wr => ∃ k : Nat, k ≤ ss.length ∧ i = .int .i64 k ∧ Below w.heap.size w wr ∧ ∃ xs, wr.ownsRow w.heap.size 9 1 (.slice (some ⟨w.heap.size, 0, none⟩) ss.length ss.length) ss.length xs ∧ ∀ j, j < k → xs[j]? = some (.string (ss.getD j ByteArray.empty))) (fun i _ => ss.length - (intOf i).toNat)
  case atStart => exact ⟨0, Nat.zero_le _, rfl, hbel, _, hown, fun j hj => by omega⟩
  case round =>
    obtain ⟨k, hk, rfl, hb, xs, hown, hxs⟩ := hrel
    by_cases hlt : k < ss.length
    · have hc0 := unhide HC k hlt
      have hxl := hown.1
      have hc := (hb.cell (p := ⟨xb, xo + k, none⟩) (World.block_lt_of_cell? _ _ hc0)).trans hc0
      have hfz := hown.frozenAt k
      have hce := hown.cellAt k (by omega)
      have hst := hown.stored k (.string (ss.getD k ByteArray.empty))
      obtain ⟨old, hold⟩ : ∃ old, xs[k]? = some old := ⟨xs[k]'(by omega), by simp⟩
      rw [hold] at hce
      have HST := hide hst
      have HX := hide hxs
      have HL := hide hxl
      have HB := hide hb
      obtain rfl := hadr (by omega)
      clear hc0 hst hxs hown hold hadr hxl hb
      generalize hs : ss.getD k ByteArray.empty = s at *
      have HS := hide hs
      clear hs
      go_wp2
      go_roundw
      case rel =>
        refine ⟨k + 1, by omega, by go_num, (unhide HB).setCell (Nat.le_refl _) _, _, (unhide HST).1, ?_⟩
        intro j hj
        have hxl := unhide HL
        by_cases e : j = k
        · subst e; rw [unhide HS]; rw [List.getElem?_set_self (by omega)]
        · rw [List.getElem?_set_ne (by omega)]; exact unhide HX j (by omega)
      case measure => simp [intOf]; omega
    · have hk' : k = ss.length := by omega
      subst hk'
      clear hadr HC
      go_wp2
      go_ret
      have hxl := hown.1
      have hxe : xs = ss.map .string := by
        apply List.ext_getElem?
        intro j
        by_cases hj : j < ss.length
        · rw [hxs j hj, List.getElem?_map, List.getElem?_eq_getElem hj]; simp [List.getD, hj]
        · rw [List.getElem?_eq_none (by omega), List.getElem?_eq_none (by rw [List.length_map]; omega)]
      subst hxe
      exact ⟨_, [w.heap.size], rfl, ostr_iff.2 ⟨own_mono hown (Nat.zero_le _), rfl⟩, ⟨by simp, fun b hb => by simp at hb; omega⟩, hb⟩

theorem ORow.other {α : Type} {e : Elem α} {w : World} {v : Value} {xs : List α} {bl : List Nat} (h : ORow e w v xs bl) {g : Nat} (hg : g ∉ bl) (o : Nat) (u : Value) : ORow e (w.setCell ⟨g, o, none⟩ u) v xs bl :=
  h.keep fun b hb => Below.heap_setCell _ _ _ _ fun he => hg (by subst he; exact hb)
theorem Fsh.not {B g : Nat} {bl : List Nat} (h : Fsh B bl) (hg : g < B) : g ∉ bl := fun hm => by have := h.2 g hm; omega
/-- Three new blocks. -/
structure New3 (w : World) (a b c : Obj) (w' : World) : Prop where
  bel : Below w.heap.size w w'
  size : w'.heap.size = w.heap.size + 1 + 1 + 1
  k0 : w'.heap[w.heap.size]? = some a
  k1 : w'.heap[w.heap.size + 1]? = some b
  k2 : w'.heap[w.heap.size + 1 + 1]? = some c
theorem new3 (w : World) (a b c : Obj) : New3 w a b c (((w.alloc a).alloc b).alloc c) := by
  refine ⟨below_next (below_next (alloc_b w _) (alloc_b _ _)) (alloc_b _ _), by simp, ?_, ?_, ?_⟩
  · exact ((alloc_b _ c).block _ (by simp; omega)).trans (((alloc_b _ b).block _ (by simp)).trans (heap_alloc_new w a))
  · have := heap_alloc_new (w.alloc a) b
    rw [show (w.alloc a).heap.size = w.heap.size + 1 from by simp] at this
    exact ((alloc_b _ c).block _ (by simp)).trans this
  · have := heap_alloc_new ((w.alloc a).alloc b) c
    simpa using this
theorem ORow.putN {α : Type} {e : Elem α} {w : World} {v : Value} {xs : List α} {bl : List Nat} (h : ORow e w v xs bl) {g : Nat} (hg : g ∉ bl) (vs : List Value) (o : Nat) : ORow e (putN w g o vs) v xs bl :=
  h.keep fun b hb => putN_other (fun he => hg (by subst he; exact hb)) _ _
end Go.Proofs.YtcjajchfjoffnaaGreatDoor
