import Derived.Test.YtbcfkkicmmhhcaaDoorBd37
import Derived.Test.YtbcfkkicmmhhcaaDoorBd41
namespace Go.Proofs.YtbcfkkicmmhhcaaDoor
open Go.RowKit

/-- The texts of a list that lie above or under another one. -/
def nearQ (p : ByteArray) (ss : List ByteArray) : List (List UInt8) := (ss.filter fun s => meet s.data.toList p.data.toList).map (·.data.toList)
theorem nearQ_step {p : ByteArray} {ss : List ByteArray} {k : Nat} (h : k < ss.length) : nearQ p (ss.take (k + 1)) = nearQ p (ss.take k) ++ (if meet (ss.getD k ByteArray.empty).data.toList p.data.toList then [(ss.getD k ByteArray.empty).data.toList] else []) := by
  rw [take_snoc h]
  generalize ss.getD k ByteArray.empty = s
  unfold nearQ
  rw [List.filter_append, List.map_append]
  congr 1
  cases hl : meet s.data.toList p.data.toList <;> simp [hl]
theorem nearQ_len (p : ByteArray) (ss : List ByteArray) : (nearQ p ss).length ≤ ss.length := by
  unfold nearQ; rw [List.length_map]; exact List.length_filter_le _ _

set_option maxHeartbeats 1000000 in
set_option maxRecDepth 100000 in
theorem l5Near_walk (ptr : ByteArray) (xa : Option Addr) (xb xo xc : Nat) (ss : List ByteArray) (w : World) (hp : ptr.size ≤ 1048576) (h : SS w xa xb xo ss) (hs : ∀ j, (ss.getD j ByteArray.empty).size ≤ 1048576) (hm : ss.length ≤ 1048577) :
    Calls Tryd.prog 79 #[.slice xa ss.length xc, .string ptr] w fun e w' => ∃ v, e = .returned v ∧ OT w' w.heap.size v (nearQ ptr ss) ∧ Below w.heap.size w w' := by
  obtain ⟨i0, hi, hz0, hz1, hz2⟩ := info_parts infoString
  have HAD := hide h.ad
  have HC := hide h.cell
  have HSZ := hide hs
  have hown0 := World.ownsRow_lit (base := w.heap.size) (e := 9) (size := 1) w #[] 0 (Nat.le_refl _) (by unfold maxLen; omega) rfl
  have hbel0 : Below w.heap.size w (w.alloc (.cells #[] 9)) := (Below.refl _ _).alloc (Nat.le_refl _) _
  have HW0 := hide hown0
  have HB0 := hide hbel0
  clear h hs hown0 hbel0
  go_enter Tryd.func79, Tryd.ntmps79
  go_wp2
  generalize (w.alloc (.cells #[] 9)) = wA at *
  go_loopw [5, 6] (fun v i wr => ∃ k : Nat, k ≤ ss.length ∧ i = .int .i64 k ∧ OT wr w.heap.size v (nearQ ptr (ss.take k)) ∧ Below w.heap.size w wr) (fun _ i _ => ss.length - (intOf i).toNat)
  case atStart => exact ⟨0, Nat.zero_le _, rfl, unhide HW0, unhide HB0⟩
  case round =>
    obtain ⟨k, hk, rfl, hown, hb⟩ := hrel
    by_cases hlt : k < ss.length
    · have hc0 := unhide HC k hlt
      have hxb : xb < w.heap.size := World.block_lt_of_cell? _ _ hc0
      obtain rfl := unhide HAD (by omega)
      have hst := nearQ_step (p := ptr) hlt
      have hol := nearQ_len ptr (ss.take k)
      have hol2 : (ss.take k).length ≤ k := by rw [List.length_take]; omega
      have hsk := unhide HSZ k
      generalize hs : ss.getD k ByteArray.empty = s at *
      have HST := hide hst
      have hc : wr.cell? ⟨xb, xo + k, none⟩ = some (.string s) := (hb.cell (p := ⟨xb, xo + k, none⟩) hxb).trans hc0
      have HM := hide (specWithin_walk s ptr wr hsk hp)
      generalize nearQ ptr (ss.take k) = p at *
      have hpl : p.length ≤ 1048577 := by omega
      have hmw := meet_w s.data.toList ptr.data.toList
      have HB := hide hb
      have hwsz := hb.size
      clear hst hs hol hol2 hb HAD HW0 HB0 HSZ hsk
      cases hl : meet s.data.toList ptr.data.toList with
      | false =>
        rw [hl] at HST hmw
        have hn : ¬ 0 < wSpec (ptoks s.data.toList) (ptoks ptr.data.toList) := by simpa using hmw.symm
        clear hl hmw
        generalize wSpec (ptoks s.data.toList) (ptoks ptr.data.toList) = z at *
        go_wp2_with fail
        refine (unhide HM).mono ?_
        rintro e w2 ⟨rfl, b2⟩
        have OO := hide (own_below hown b2)
        have BB := hide (below_next (unhide HB) b2)
        clear HM hown b2 HB
        go_wp2
        go_roundw
        case rel => exact ⟨k + 1, by omega, by go_num, by rw [unhide HST]; simpa using unhide OO, unhide BB⟩
        case measure => simp [intOf]; omega
      | true =>
        rw [hl] at HST hmw
        have hn : 0 < wSpec (ptoks s.data.toList) (ptoks ptr.data.toList) := by simpa using hmw.symm
        clear hl hmw
        generalize wSpec (ptoks s.data.toList) (ptoks ptr.data.toList) = z at *
        go_wp2_with fail
        refine (unhide HM).mono ?_
        rintro e w2 ⟨rfl, b2⟩
        have hown2 := own_below hown b2
        have B2 := below_next (unhide HB) b2
        have hw2 := B2.size
        have hc2 : w2.cell? ⟨xb, xo + k, none⟩ = some (.string s) := (b2.cell (World.block_lt_of_cell? _ _ hc)).trans hc
        have HQ := hide (ba_data s)
        have HB2 := hide B2
        clear HM hown b2 B2 HB hc hc0
        go_wp2_with (at_builtin; (refine wpList_append_own _ rfl (.tmp 21) (.tmp 26) 49 rfl w.heap.size 9 i0 (.string ByteArray.empty) 1 16 Tryd.underlying49 hi hz0 hz1 hz2 rfl (by decide) _ _ _ rfl (hown2.alloc _) ⟨w2.heap.size, 0, none⟩ 1 1 [.string s] rfl rfl (lit1 _ _ _) (one_tok _) (by unfold maxLen; omega) (by omega) (by simp; omega) ?_))
        intro v3 w3 hown3 hgrow3 _
        have B3 : Below w.heap.size w w3 := ((unhide HB2).alloc hw2 _).grown hgrow3 (by simp; omega) (fun k hk => (hown2.lt k hk).1)
        have own3 : OT w3 w.heap.size v3 (p ++ [s.data.toList]) := OT.step (t := s.data.toList) (by rw [show tokCell s.data.toList = .string s from congrArg Value.string (unhide HQ)]; exact hown3)
        have OO := hide own3
        have BB := hide B3
        clear hown3 hgrow3 hown2 own3 B3 hc2
        go_wp2
        go_roundw
        case rel => exact ⟨k + 1, by omega, by go_num, by rw [unhide HST]; exact unhide OO, unhide BB⟩
        case measure => simp [intOf]; omega
    · have e : ss.take k = ss := List.take_of_length_le (by omega)
      rw [e] at hown
      have OO := hide hown
      have BB := hide hb
      clear hown hb HAD
      go_wp2
      go_ret
      exact ⟨_, rfl, unhide OO, unhide BB⟩

theorem nearW_only (m : Wat) (ss : List ByteArray) : nearW m (ss.filter fun s => (ptoks s.data.toList).isSome) = ss.filter fun s => meet s.data.toList m.ptr.data.toList := by
  unfold nearW
  cases hp : (ptoks m.ptr.data.toList).isSome with
  | false =>
    rw [if_neg (by simp)]
    symm
    rw [List.filter_eq_nil_iff]
    intro s _
    simp [meet, hp]
  | true =>
    rw [if_pos rfl, List.filter_filter]
    refine List.filter_congr fun s _ => ?_
    unfold meet leads
    rw [hp, Bool.and_true, Bool.and_comm, Bool.or_comm]
theorem onlyP_map (ss : List ByteArray) : onlyP ss = (ss.filter fun s => (ptoks s.data.toList).isSome).map (·.data.toList) := rfl
theorem nearQ_map (p : ByteArray) (ss : List ByteArray) : nearQ p ss = (ss.filter fun s => meet s.data.toList p.data.toList).map (·.data.toList) := rfl
/-- A row of texts as the tokens' rows have it. -/
theorem ot_ostr {w : World} {B : Nat} {v : Value} {ss : List ByteArray} (h : OT w B v (ss.map (·.data.toList))) : OStr w v ss v.ownBlock.toList ∧ ∀ g, v.ownBlock = some g → B ≤ g := by
  refine ⟨ostr_iff.2 ⟨?_, rfl⟩, fun g hg => (World.ownsRow.lt h g hg).1⟩
  have h1 := own_mono h (Nat.zero_le B)
  rw [List.length_map, List.map_map] at h1
  have e2 : (tokCell ∘ fun x : ByteArray => x.data.toList) = Value.string := by
    funext x
    exact congrArg Value.string (ba_data x)
  rw [e2] at h1
  exact h1
/-- What Dispatch leaves of a hub, and whether there was news. -/
def dispW (n : Nws) (ws : List Wat) : List Wat := (ws.take 100).map (fun m => tellW m n.ver (n.ptrs.filter fun s => (ptoks s.data.toList).isSome)) ++ ws.drop 100
def dispH (h : Hb) : Hb := match h.waiting with
  | [] => h
  | n :: q => ⟨dispW n h.watches, q⟩
def dispOk (h : Hb) : Bool := !h.waiting.isEmpty
end Go.Proofs.YtbcfkkicmmhhcaaDoor
