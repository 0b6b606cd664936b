import Derived.Test.YtadefcohbkgbfaaStr
namespace Go.Proofs.Ytadefcohbkgbfaa
open Go.RowKit

theorem infoStr : (Try.prog.info? 9).map (fun i => (i.zero, i.size, i.bytes)) = some (some (.string ByteArray.empty), 1, 16) := by kernel_rfl

set_option maxHeartbeats 400000 in
theorem to_walk (xa : Option Addr) (xb xo xc : Nat) (ss : List ByteArray) (w : World) (h : SS w xa xb xo ss) (hm : ss.length ≤ 1048576) :
    Calls Try.prog 6 #[.slice xa ss.length xc] w fun e w' => e = .returned (.slice (some ⟨w.heap.size, 0, none⟩) ss.length ss.length) ∧ SS w' (some ⟨w.heap.size, 0, none⟩) w.heap.size 0 ss ∧ Below w.heap.size w w' ∧ w.heap.size < w'.heap.size := by
  obtain ⟨i0, hi, hz0, hz1, hz2⟩ := info_parts infoStr
  have hadr := h.ad
  have HC := hide h.cell
  clear h
  go_enter Try.func6, Try.ntmps6
  go_wp2_with (at_make; refine wpList_make_full _ rfl _ _ 22 rfl w.heap.size 9 i0 (.string ByteArray.empty) 1 Try.underlying22 hi hz0 hz1 .i64 .i64 _ _ ss.length rfl rfl rfl rfl (by rw [hz2]; omega) (by unfold maxLen; omega) (Nat.le_refl _) ?_)
  intro w1 hown hgrow
  have hbel : Below w.heap.size w w1 := (Below.refl _ _).grown hgrow (Nat.le_refl _) (by intro k hk; cases hk)
  clear hgrow hi hz0 hz1 hz2
  go_wp2
  go_loopw [4] (fun i wr => ∃ k : Nat, k ≤ ss.length ∧ i = .int .i64 k ∧ Below w.heap.size w wr ∧ ∃ xs, wr.ownsRow w.heap.size 9 1 (.slice (some ⟨w.heap.size, 0, none⟩) ss.length ss.length) ss.length xs ∧ ∀ j, j < k → xs[j]? = some (.string (ss.getD j ByteArray.empty))) (fun i _ => ss.length - (intOf i).toNat)
  case atStart => exact ⟨0, Nat.zero_le _, rfl, hbel, _, hown, fun j hj => by omega⟩
  case round =>
    obtain ⟨k, hk, rfl, hb, xs, hown, hxs⟩ := hrel
    by_cases hlt : k < ss.length
    · have hc0 := unhide HC k hlt
      have hxl := hown.1
      have hc := (hb.cell (p := ⟨xb, xo + k, none⟩) (World.block_lt_of_cell? _ _ hc0)).trans hc0
      have hfz := hown.frozenAt k
      have hce := hown.cellAt k (by omega)
      have hst := hown.stored k (.string (ss.getD k ByteArray.empty))
      obtain ⟨old, hold⟩ : ∃ old, xs[k]? = some old := ⟨xs[k]'(by omega), by simp⟩
      rw [hold] at hce
      have HST := hide hst
      have HX := hide hxs
      have HL := hide hxl
      have HB := hide hb
      obtain rfl := hadr (by omega)
      clear hc0 hst hxs hown hold hadr hxl hb
      generalize hs : ss.getD k ByteArray.empty = s at *
      have HS := hide hs
      clear hs
      go_wp2
      go_roundw
      case rel =>
        refine ⟨k + 1, by omega, by go_num, (unhide HB).setCell (Nat.le_refl _) _, _, (unhide HST).1, ?_⟩
        intro j hj
        have hxl := unhide HL
        by_cases e : j = k
        · subst e; rw [unhide HS]; rw [List.getElem?_set_self (by omega)]
        · rw [List.getElem?_set_ne (by omega)]; exact unhide HX j (by omega)
      case measure => simp [intOf]; omega
    · have hk' : k = ss.length := by omega
      subst hk'
      clear hadr HC
      go_wp2
      go_ret
      refine ⟨rfl, ⟨fun _ => rfl, fun j hj => ?_⟩, hb, ?_⟩
      · rw [Nat.zero_add, hown.cellAt j (by omega)]; exact hxs j hj
      · rcases hown.2 with ⟨h', _⟩ | ⟨g', cap', cur, h', _, hg, _⟩
        · simp at h'
        · simp only [Value.slice.injEq, Option.some.injEq, Addr.mk.injEq, and_true, true_and] at h'
          obtain ⟨rfl, rfl⟩ := h'
          exact (Array.getElem?_eq_some_iff.1 hg).1
end Go.Proofs.Ytadefcohbkgbfaa
