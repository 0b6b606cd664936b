import Derived.Lib.RuneBytes
import Derived.Test.YtadefcohbkgbfabGreatDoorBn1
import Derived.Test.YtadefcohbkgbfabGreatDoorBn19
import Derived.Laws.BitsLemmas
import Derived.Lib.RuneCount
import Derived.Test.YtadefcohbkgbfabGreatDoorBn2
namespace Go.Proofs.YtadefcohbkgbfabGreatDoor
open Go.RowKit

set_option maxHeartbeats 2000000 in
set_option maxRecDepth 100000 in
theorem writeRune_k (B b : Nat) (bs : List Value) (r : Int) (hr0 : -2147483648 ≤ r) (hr1 : r ≤ 2147483647) (w : World) (h : Lib.IsBuilder 81 5 B b bs w) (hlen : bs.length + 4 ≤ 140737488355328) (hBw : B ≤ w.heap.size) :
    Calls Tryz.prog 51 #[.pointer (some ⟨b, 0, none⟩), .int .i32 r] w fun e w' => (∃ n : Int, e = .returned (.tuple #[.int .i64 n, .nilIface])) ∧ (Lib.BuilderAt 81 5 B b (.pointer (some ⟨b, 0, none⟩)) (bs ++ Lib.runeCells r) w' ∧ Below B w w' ∧ Lib.OthersKept 5 (some b) w w') := by
  go_enter Tryz.func51, Tryz.ntmps51
  go_wp2_with (go_at_call 69; refine (check_k B b bs _ h).mono ?_)
  rintro e w1 ⟨rfl, h1, hb1, hk1⟩
  obtain ⟨hB, v, hbk, hown, hne⟩ := h1
  have c0 : w1.cell? ⟨b, 0, none⟩ = some (.pointer (some ⟨b, 0, none⟩)) := by rw [Lib.cell_of_heap hbk]; rfl
  have c1 : w1.cell? ⟨b, 1, none⟩ = some v := by rw [Lib.cell_of_heap hbk]; rfl
  obtain ⟨va, vn, vc, rfl⟩ : ∃ ao n' cap, v = .slice ao n' cap := by
    rcases hown.2 with ⟨hv, _⟩ | ⟨g, cap, cur, hv, _⟩
    · exact ⟨_, _, _, hv⟩
    · exact ⟨_, _, _, hv⟩
  have hBw1 : B ≤ w1.heap.size := by have := hb1.size; omega
  have HA := hide (Tryz.utf8_AppendRune_plain B (.slice va vn vc) bs.length bs r hr0 hr1 w1 hown hlen hBw1)
  go_wp2_with fail
  refine (unhide HA).mono ?_
  rintro e w2 ⟨v', rfl, hown', o, hgrow⟩
  have hlt : b < w1.heap.size := by
    rcases Nat.lt_or_ge b w1.heap.size with h' | h'
    · exact h'
    · simp [Array.getElem?_eq_none h'] at hbk
  have hb2 : w2.heap[b]? = some (.cells #[.pointer (some ⟨b, 0, none⟩), .slice va vn vc] 81 (0, 0)) := by
    rw [hgrow.block b (by simp; omega) (fun e => hne e.symm), Lib.alloc_old w1 _ b hlt]
    exact hbk
  have d0 : w2.cell? ⟨b, 0, none⟩ = some (.pointer (some ⟨b, 0, none⟩)) := by rw [Lib.cell_of_heap hb2]; rfl
  have d1 : w2.cell? ⟨b, 1, none⟩ = some (.slice va vn vc) := by rw [Lib.cell_of_heap hb2]; rfl
  have f1 : w2.frozen? ⟨b, 1, none⟩ = false := Lib.frozen_of_heap hb2 1
  obtain ⟨ao, n', cap, rfl⟩ : ∃ ao n' cap, v' = .slice ao n' cap := by
    rcases hown'.2 with ⟨hv, _⟩ | ⟨g, cap, cur, hv, _⟩
    · exact ⟨_, _, _, hv⟩
    · exact ⟨_, _, _, hv⟩
  have P1 : Hid (Lib.BuilderAt 81 5 B b (.pointer (some ⟨b, 0, none⟩)) (bs ++ Lib.runeCells r) (w2.setCell ⟨b, 1, none⟩ (.slice ao n' cap))) := Lib.BuilderAt.put (T := 81) (e := 5) hB hb2 (bs' := bs ++ Lib.runeCells r) (by simpa using hown') (by decide)
  have P2 : Hid (Below B w (w2.setCell ⟨b, 1, none⟩ (.slice ao n' cap))) := ((hb1.alloc hBw1 _).grown hgrow (by simp; omega) (fun k hk => (hown.lt k hk).1)).setCell (p := ⟨b, 1, none⟩) hB _
  have P3 : Hid (Lib.OthersKept 5 (some b) w (w2.setCell ⟨b, 1, none⟩ (.slice ao n' cap))) := ((hk1.alloc o).grown hgrow (own_kind (hown.alloc _))).setCell ⟨b, 1, none⟩ rfl _
  have e1 : (w2.setCell ⟨b, 1, none⟩ (.slice ao n' cap)).cell? ⟨b, 1, none⟩ = some (.slice ao n' cap) := by
    have := heap_setCell_same w2 b 1 #[.pointer (some ⟨b, 0, none⟩), .slice va vn vc] 81 (.slice ao n' cap) hb2
    rw [Lib.cell_of_heap this]; rfl
  clear HA hown' hgrow hown hbk hb2 hb1 hk1
  go_wp2
  go_ret2
  exact ⟨⟨_, rfl⟩, unhide P1, unhide P2, unhide P3⟩

end Go.Proofs.YtadefcohbkgbfabGreatDoor


namespace Go.Proofs.YtadefcohbkgbfabGreatDoor
open Go.RowKit

/-- What is written for a rune. -/
def pc (r : Nat) : List UInt8 := if r < 128 then qB (UInt8.ofNat r) else Lib.encodeRune r
theorem pc_le (r : Nat) : (pc r).length ≤ 6 := by
  unfold pc; split
  · exact qB_le _
  · have := Lib.encodeRuneZ_length r; simp [Lib.encodeRune]; omega
theorem pc_lo {r : Nat} (h : r < 128) : pc r = qB (UInt8.ofNat r) := by unfold pc; rw [if_pos h]
theorem ofNat_n {r : Nat} (h : r < 256) : (UInt8.ofNat r).toNat = r := by rw [UInt8.toNat_ofNat']; omega

abbrev OK5 (b : Nat) (w w' : World) : Prop := Lib.OthersKept 5 (some b) w w'

theorem and15F : ∀ r : Fin 32, bits BinOp.and IntKind.i32 ((r.val : Nat) : Int) 15 = ((r.val % 16 : Nat) : Int) := by decide +kernel
theorem and15 {r : Nat} (h : r < 32) : bits BinOp.and IntKind.i32 (r : Int) 15 = ((r % 16 : Nat) : Int) := and15F ⟨r, h⟩

set_option maxHeartbeats 2000000 in
set_option maxRecDepth 100000 in
theorem piece_walk (B b : Nat) (l : List UInt8) (r : Nat) (w : World) (h : IsB B b l w) (hB : B ≤ w.heap.size) (hr : r ≤ 1114111) (hl : l.length ≤ 100000000) :
    Calls Tryz.prog 170 #[.pointer (some ⟨b, 0, none⟩), .int .i32 r] w fun e w' => e = .returned (.tuple #[]) ∧ IsB B b (l ++ pc r) w' ∧ Below B w w' ∧ OK5 b w w' := by
  have hq : (Lib.byteCells l).length ≤ 100000000 := by rw [Lib.byteCells_length]; exact hl
  by_cases h32 : 32 ≤ r
  · by_cases e : r = 34
    · have HP : Hid (pc r = [92, 34]) := by
        show _ = _; rw [pc_lo (by omega), q_esc (by rw [ofNat_n (by omega)]; omega)]; subst e; rfl
      have t34 : ((r : Int) == 34) = true := by rw [beq_iff_eq]; omega
      clear e
      go_enter Tryz.func170, Tryz.ntmps170
      go_wp2_with fail
      refine (writeString_k B b _ _ _ h (by show _ + 2 ≤ _; omega) hB).mono ?_
      rintro e w1 ⟨rfl, h1, b1, k1⟩
      have h1' := IsB.str (m := [92, 34]) rfl h1
      clear h1
      go_wp2
      go_end0
      exact ⟨rfl, by rw [unhide HP]; exact h1', b1, k1⟩
    · by_cases e' : r = 92
      · have e := e'
        clear e'
        have HP : Hid (pc r = [92, 92]) := by
          show _ = _; rw [pc_lo (by omega), q_esc (by rw [ofNat_n (by omega)]; omega)]; subst e; rfl
        have t34 : ((r : Int) == 34) = false := by rw [beq_eq_false_iff_ne]; omega
        have t92 : ((r : Int) == 92) = true := by rw [beq_iff_eq]; omega
        clear e
        go_enter Tryz.func170, Tryz.ntmps170
        go_wp2_with fail
        refine (writeString_k B b _ _ _ h (by show _ + 2 ≤ _; omega) hB).mono ?_
        rintro e w1 ⟨rfl, h1, b1, k1⟩
        have h1' := IsB.str (m := [92, 92]) rfl h1
        clear h1
        go_wp2
        go_end0
        exact ⟨rfl, by rw [unhide HP]; exact h1', b1, k1⟩
      · have HP : Hid (Lib.runeCells r = Lib.byteCells (pc r)) := by
          show _ = _
          by_cases h7 : r < 128
          · rw [pc_lo h7, q_lit (by rw [ofNat_n (by omega)]; exact e) (by rw [ofNat_n (by omega)]; exact e') (by rw [ofNat_n (by omega)]; exact h32)]
            unfold Lib.runeCells
            rw [Lib.encodeRuneZ_one (by omega) (by omega)]
            simp only [List.map_cons, List.map_nil, Lib.byteCells, ofNat_n (show r < 256 by omega)]
          · unfold pc; rw [if_neg h7, Lib.byteCells_encodeRune]
        have t34 : ((r : Int) == 34) = false := by rw [beq_eq_false_iff_ne]; omega
        have t92 : ((r : Int) == 92) = false := by rw [beq_eq_false_iff_ne]; omega
        have t8 : ((r : Int) == 8) = false := by rw [beq_eq_false_iff_ne]; omega
        have t9 : ((r : Int) == 9) = false := by rw [beq_eq_false_iff_ne]; omega
        have t10 : ((r : Int) == 10) = false := by rw [beq_eq_false_iff_ne]; omega
        have t12 : ((r : Int) == 12) = false := by rw [beq_eq_false_iff_ne]; omega
        have t13 : ((r : Int) == 13) = false := by rw [beq_eq_false_iff_ne]; omega
        have t32 : (32 : Int) ≤ (r : Int) := by omega
        clear e e'
        go_enter Tryz.func170, Tryz.ntmps170
        go_wp2_with fail
        refine (writeRune_k B b _ (r : Int) (by omega) (by omega) _ h (by omega) hB).mono ?_
        rintro e w1 ⟨⟨n, rfl⟩, h1, b1, k1⟩
        have h1' := IsB.cells (unhide HP) h1
        clear h1
        go_wp2
        try simp only [Exit.inBlock, Exit.then]
        refine bodyPost_ret (results_none rfl _ _ _) rfl ?_
        exact ⟨rfl, h1', b1, k1⟩
  · by_cases hc : Ctl r
    · have HP : Hid (pc r = [92, 117, 48, 48, hexs.getD (r / 16) 0, hexs.getD (r % 16) 0]) := by
        show _ = _; rw [pc_lo (by omega), q_ctl (by rw [ofNat_n (by omega)]; exact hc), ofNat_n (by omega)]
      obtain ⟨g1, g2, g3, g4, g5, g6⟩ := hc
      have t34 : ((r : Int) == 34) = false := by rw [beq_eq_false_iff_ne]; omega
      have t92 : ((r : Int) == 92) = false := by rw [beq_eq_false_iff_ne]; omega
      have t8 : ((r : Int) == 8) = false := by rw [beq_eq_false_iff_ne]; omega
      have t9 : ((r : Int) == 9) = false := by rw [beq_eq_false_iff_ne]; omega
      have t10 : ((r : Int) == 10) = false := by rw [beq_eq_false_iff_ne]; omega
      have t12 : ((r : Int) == 12) = false := by rw [beq_eq_false_iff_ne]; omega
      have t13 : ((r : Int) == 13) = false := by rw [beq_eq_false_iff_ne]; omega
      have t32 : ¬ (32 : Int) ≤ (r : Int) := by omega
      obtain ⟨q, hq16⟩ : ∃ q : Nat, q = r % 16 := ⟨_, rfl⟩
      have hand : bits BinOp.and IntKind.i32 (r : Int) 15 = (q : Int) := by rw [hq16]; exact and15 (by omega)
      have hqlt : q < 16 := by omega
      have hqlt' : (q : Int) < 16 := by omega
      have hq0 : (0 : Int) ≤ (q : Int) := by omega
      rw [← hq16] at HP
      clear hq16
      go_enter Tryz.func170, Tryz.ntmps170
      go_wp2_with fail
      refine (writeString_k B b _ _ _ h (by show _ + 4 ≤ _; omega) hB).mono ?_
      rintro e w1 ⟨rfl, h1, b1, k1⟩
      have h1' := IsB.str (m := [92, 117, 48, 48]) rfl h1
      have hw1 : B ≤ w1.heap.size := by have := b1.size; omega
      clear h1
      go_wp2_with fail
      refine (writeByte_k B b _ _ _ h1' (by rw [Lib.byteCells_length]; simp; omega) hw1).mono ?_
      rintro e w2 ⟨rfl, h2, b2, k2⟩
      have h2' := IsB.byte (c := hexs.getD (r / 16) 0) (congrArg (fun c : UInt8 => (c.toNat : Int)) (hex_at (r / 16) (by omega))) h2
      have hw2 : B ≤ w2.heap.size := by have := b2.size; omega
      clear h2 h1'
      go_wp2_with fail
      refine (writeByte_k B b _ _ _ h2' (by rw [Lib.byteCells_length]; simp; omega) hw2).mono ?_
      rintro e w3 ⟨rfl, h3, b3, k3⟩
      have h3' := IsB.byte (c := hexs.getD q 0) (congrArg (fun c : UInt8 => (c.toNat : Int)) (hex_at q hqlt)) h3
      have B3 := (b1.trans b2).trans b3
      have K3 := (k1.trans k2).trans k3
      clear h3 h2'
      go_wp2
      go_end0
      exact ⟨rfl, by rw [unhide HP]; simpa using h3', B3, K3⟩
    · rcases (show r = 8 ∨ r = 9 ∨ r = 10 ∨ r = 12 ∨ r = 13 from by unfold Ctl at hc; omega) with e | e | e | e | e
      · have HP : Hid (pc r = [92, 98]) := by
          show _ = _; rw [pc_lo (by omega), q_8 (by rw [ofNat_n (by omega)]; omega)]
        have t34 : ((r : Int) == 34) = false := by rw [beq_eq_false_iff_ne]; omega
        have t92 : ((r : Int) == 92) = false := by rw [beq_eq_false_iff_ne]; omega
        have t8 : ((r : Int) == 8) = true := by rw [beq_iff_eq]; omega
        clear e
        go_enter Tryz.func170, Tryz.ntmps170
        go_wp2_with fail
        refine (writeString_k B b _ _ _ h (by show _ + 2 ≤ _; omega) hB).mono ?_
        rintro e w1 ⟨rfl, h1, b1, k1⟩
        have h1' := IsB.str (m := [92, 98]) rfl h1
        clear h1
        go_wp2
        go_end0
        exact ⟨rfl, by rw [unhide HP]; exact h1', b1, k1⟩
      · have HP : Hid (pc r = [92, 116]) := by
          show _ = _; rw [pc_lo (by omega), q_9 (by rw [ofNat_n (by omega)]; omega)]
        have t34 : ((r : Int) == 34) = false := by rw [beq_eq_false_iff_ne]; omega
        have t92 : ((r : Int) == 92) = false := by rw [beq_eq_false_iff_ne]; omega
        have t8 : ((r : Int) == 8) = false := by rw [beq_eq_false_iff_ne]; omega
        have t9 : ((r : Int) == 9) = true := by rw [beq_iff_eq]; omega
        clear e
        go_enter Tryz.func170, Tryz.ntmps170
        go_wp2_with fail
        refine (writeString_k B b _ _ _ h (by show _ + 2 ≤ _; omega) hB).mono ?_
        rintro e w1 ⟨rfl, h1, b1, k1⟩
        have h1' := IsB.str (m := [92, 116]) rfl h1
        clear h1
        go_wp2
        go_end0
        exact ⟨rfl, by rw [unhide HP]; exact h1', b1, k1⟩
      · have HP : Hid (pc r = [92, 110]) := by
          show _ = _; rw [pc_lo (by omega), q_10 (by rw [ofNat_n (by omega)]; omega)]
        have t34 : ((r : Int) == 34) = false := by rw [beq_eq_false_iff_ne]; omega
        have t92 : ((r : Int) == 92) = false := by rw [beq_eq_false_iff_ne]; omega
        have t8 : ((r : Int) == 8) = false := by rw [beq_eq_false_iff_ne]; omega
        have t9 : ((r : Int) == 9) = false := by rw [beq_eq_false_iff_ne]; omega
        have t10 : ((r : Int) == 10) = true := by rw [beq_iff_eq]; omega
        clear e
        go_enter Tryz.func170, Tryz.ntmps170
        go_wp2_with fail
        refine (writeString_k B b _ _ _ h (by show _ + 2 ≤ _; omega) hB).mono ?_
        rintro e w1 ⟨rfl, h1, b1, k1⟩
        have h1' := IsB.str (m := [92, 110]) rfl h1
        clear h1
        go_wp2
        go_end0
        exact ⟨rfl, by rw [unhide HP]; exact h1', b1, k1⟩
      · have HP : Hid (pc r = [92, 102]) := by
          show _ = _; rw [pc_lo (by omega), q_12 (by rw [ofNat_n (by omega)]; omega)]
        have t34 : ((r : Int) == 34) = false := by rw [beq_eq_false_iff_ne]; omega
        have t92 : ((r : Int) == 92) = false := by rw [beq_eq_false_iff_ne]; omega
        have t8 : ((r : Int) == 8) = false := by rw [beq_eq_false_iff_ne]; omega
        have t9 : ((r : Int) == 9) = false := by rw [beq_eq_false_iff_ne]; omega
        have t10 : ((r : Int) == 10) = false := by rw [beq_eq_false_iff_ne]; omega
        have t12 : ((r : Int) == 12) = true := by rw [beq_iff_eq]; omega
        clear e
        go_enter Tryz.func170, Tryz.ntmps170
        go_wp2_with fail
        refine (writeString_k B b _ _ _ h (by show _ + 2 ≤ _; omega) hB).mono ?_
        rintro e w1 ⟨rfl, h1, b1, k1⟩
        have h1' := IsB.str (m := [92, 102]) rfl h1
        clear h1
        go_wp2
        go_end0
        exact ⟨rfl, by rw [unhide HP]; exact h1', b1, k1⟩
      · have HP : Hid (pc r = [92, 114]) := by
          show _ = _; rw [pc_lo (by omega), q_13 (by rw [ofNat_n (by omega)]; omega)]
        have t34 : ((r : Int) == 34) = false := by rw [beq_eq_false_iff_ne]; omega
        have t92 : ((r : Int) == 92) = false := by rw [beq_eq_false_iff_ne]; omega
        have t8 : ((r : Int) == 8) = false := by rw [beq_eq_false_iff_ne]; omega
        have t9 : ((r : Int) == 9) = false := by rw [beq_eq_false_iff_ne]; omega
        have t10 : ((r : Int) == 10) = false := by rw [beq_eq_false_iff_ne]; omega
        have t12 : ((r : Int) == 12) = false := by rw [beq_eq_false_iff_ne]; omega
        have t13 : ((r : Int) == 13) = true := by rw [beq_iff_eq]; omega
        clear e
        go_enter Tryz.func170, Tryz.ntmps170
        go_wp2_with fail
        refine (writeString_k B b _ _ _ h (by show _ + 2 ≤ _; omega) hB).mono ?_
        rintro e w1 ⟨rfl, h1, b1, k1⟩
        have h1' := IsB.str (m := [92, 114]) rfl h1
        clear h1
        go_wp2
        go_end0
        exact ⟨rfl, by rw [unhide HP]; exact h1', b1, k1⟩
end Go.Proofs.YtadefcohbkgbfabGreatDoor


namespace Go.Proofs.YtadefcohbkgbfabGreatDoor
open Go.RowKit

theorem bat_iter {T e : TypeId} {B b : Nat} {p : Value} {bs : List Value} {w : World} (h : Lib.BuilderAt T e B b p bs w) {k : Nat} {s : ByteArray} {pos : Nat} (hk : w.heap[k]? = some (.stringIter s pos)) (pos' : Nat) : Lib.BuilderAt T e B b p bs (w.iterAt k s pos') := by
  obtain ⟨hB, v, hb, hown, hne⟩ := h
  have hkb : b ≠ k := by
    intro e1
    rw [e1, hk] at hb
    cases hb
  refine ⟨hB, v, (Lib.iterAt_other w k b s pos' hkb).trans hb, ⟨hown.1, ?_⟩, hne⟩
  rcases hown.2 with hn | ⟨g, cap, cur, hv, hbg, hg, rest⟩
  · exact .inl hn
  · have hkg : g ≠ k := by
      intro e1
      rw [e1, hk] at hg
      cases hg
    exact .inr ⟨g, cap, cur, hv, hbg, (Lib.iterAt_other w k g s pos' hkg).trans hg, rest⟩
theorem IsB.iterAt {B b : Nat} {l : List UInt8} {w : World} (h : IsB B b l w) {k : Nat} {s : ByteArray} {pos : Nat} (hk : w.heap[k]? = some (.stringIter s pos)) (pos' : Nat) : IsB B b l (w.iterAt k s pos') :=
  h.elim (fun x => .inl (bat_iter x hk pos')) (fun x => .inr (bat_iter x hk pos'))
theorem IsB.alloc {B b : Nat} {l : List UInt8} {w : World} (h : IsB B b l w) (o : Obj) : IsB B b l (w.alloc o) := by
  have g : ∀ p, Lib.BuilderAt 81 5 B b p (Lib.byteCells l) w → Lib.BuilderAt 81 5 B b p (Lib.byteCells l) (w.alloc o) := by
    rintro p ⟨hB, v, hb, hown, hne⟩
    exact ⟨hB, v, (Lib.alloc_old w o b (Array.getElem?_eq_some_iff.1 hb).1).trans hb, hown.alloc o, hne⟩
  exact h.elim (fun x => .inl (g _ x)) (fun x => .inr (g _ x))
theorem IsB.lt {B b : Nat} {l : List UInt8} {w : World} (h : IsB B b l w) : b < w.heap.size := h.elim (fun x => x.lt) (fun x => x.lt)

/-- What is written of a string from a place on. -/
def rsFrom (s : ByteArray) : Nat → Nat → List UInt8
  | 0, _ => []
  | f + 1, pos => if pos < s.size then pc (Utf8.decode s pos).1 ++ rsFrom s f (pos + (Utf8.decode s pos).2) else []
def rs (s : ByteArray) : List UInt8 := rsFrom s s.size 0
theorem rsFrom_end (s : ByteArray) (f pos : Nat) (h : ¬ pos < s.size) : rsFrom s f pos = [] := by
  cases f with
  | zero => rfl
  | succ f => simp [rsFrom, h]
theorem dec_le (s : ByteArray) (pos : Nat) : (Utf8.decode s pos).1 ≤ 1114111 := by
  rw [dec]; exact Lib.decodeN_rune_le _ _ _ _ _ (bt_lt s pos)

theorem ok5_iter {b k : Nat} {a w : World} (h : OK5 b a w) (hk : a.heap.size ≤ k) (s : ByteArray) (pos : Nat) : OK5 b a (w.iterAt k s pos) := fun i o hi hb ho => by
  have hlt : i < a.heap.size := (Array.getElem?_eq_some_iff.1 hi).1
  have hbl := Lib.below_iterAt (Below.refl k w) (k := k) (Nat.le_refl _) s pos
  rw [hbl.block i (by omega)]
  exact h i o hi hb ho

set_option maxHeartbeats 2000000 in
set_option maxRecDepth 1000000 in
theorem strWrite_walk (B b : Nat) (l : List UInt8) (s : ByteArray) (w : World) (h : IsB B b l w) (hB : B ≤ w.heap.size) (hl : l.length ≤ 10000000) (hs : s.size ≤ 10000000) :
    Calls Tryz.prog 169 #[.string s, .pointer (some ⟨b, 0, none⟩)] w fun e w' => e = .returned (.tuple #[]) ∧ IsB B b (l ++ 34 :: (rs s ++ [34])) w' ∧ Below B w w' ∧ OK5 b w w' := by
  have hq : (Lib.byteCells l).length ≤ 10000000 := by rw [Lib.byteCells_length]; exact hl
  have hbB : B ≤ b := h.elim (fun x => x.1) (fun x => x.1)
  have hblt := h.lt
  go_enter Tryz.func169, Tryz.ntmps169
  go_wp2_with fail
  refine (writeByte_k B b _ 34 _ h (by omega) hB).mono ?_
  rintro e w1 ⟨rfl, h1, b1, k1⟩
  have hs1 := b1.size
  have H1 : Hid (IsB B b (l ++ [34]) (w1.alloc (.stringIter s 0))) := (IsB.byte (c := 34) rfl h1).alloc _
  have hblt1 : b < w1.heap.size := Lib.BuilderAt.lt h1
  have K1 : Hid (OK5 b w (w1.alloc (.stringIter s 0))) := Lib.OthersKept.alloc k1 _
  clear h1 k1 h
  go_wp2
  go_loopw [] (fun wr => ∃ (pos fuel : Nat) (acc : List UInt8), IsB B b acc wr ∧ wr.heap[w1.heap.size]? = some (.stringIter s pos) ∧ Below B w wr ∧ OK5 b w wr ∧ acc ++ rsFrom s fuel pos = l ++ 34 :: rs s ∧ s.size ≤ pos + fuel ∧ acc.length ≤ l.length + 1 + 6 * pos) (fun wr => s.size - wr.iterPos w1.heap.size)
  case atStart =>
    refine ⟨0, s.size, l ++ [34], unhide H1, ?_, b1.alloc (by omega) _, unhide K1, by simp [rs], by omega, by simp⟩
    exact heap_alloc_new w1 _
  case round =>
    obtain ⟨pos, fuel, acc, hI, hit, hbw, hok, hacc, hfu, hal⟩ := hrel
    have hsz : w1.heap.size < wr.heap.size := (Array.getElem?_eq_some_iff.1 hit).1
    clear H1 K1
    have HOK := hide hok
    clear hok
    by_cases hp : pos < s.size
    · have hnx : ∀ ty, (Instr.next (.pointer (some ⟨w1.heap.size, 0, none⟩)) true ty).run Tryz.prog wr = _ := fun ty => Lib.run_next_any_at wr w1.heap.size s pos ty hit hp
      have hwd := Lib.decode_width_pos s pos hp
      have hd1 := dec_le s pos
      have hpc := pc_le (Utf8.decode s pos).1
      have hI2 := hI.iterAt hit (pos + (Utf8.decode s pos).2)
      have hit2 := Lib.iterAt_heap wr w1.heap.size s pos (pos + (Utf8.decode s pos).2) hit
      have hbw2 := Lib.below_iterAt hbw (k := w1.heap.size) (by omega) s (pos + (Utf8.decode s pos).2)
      have hsz2 : B ≤ (wr.iterAt w1.heap.size s (pos + (Utf8.decode s pos).2)).heap.size := by rw [Lib.iterAt_size]; omega
      obtain ⟨f, rfl⟩ : ∃ f, fuel = f + 1 := ⟨fuel - 1, by omega⟩
      have HA : Hid ((acc ++ pc (Utf8.decode s pos).1) ++ rsFrom s f (pos + (Utf8.decode s pos).2) = l ++ 34 :: rs s) := by
        show _ = _; rw [← hacc]; simp [rsFrom, hp]
      have HC := hide (piece_walk B b acc (Utf8.decode s pos).1 (wr.iterAt w1.heap.size s (pos + (Utf8.decode s pos).2)) hI2 hsz2 hd1 (by omega))
      have HIT2 := hide hit2
      have HIT := hide hit
      have HBW2 := hide hbw2
      clear hacc hI hI2 hit2 hbw2 hsz2
      go_wp2_with fail
      refine (unhide HC).mono ?_
      rintro e W1 ⟨rfl, h1, b2, k2⟩
      go_wp2
      go_roundw
      case rel => exact ⟨pos + (Utf8.decode s pos).2, f, acc ++ pc (Utf8.decode s pos).1, h1, k2.iter (unhide HIT2) (by omega), (unhide HBW2).trans b2, (ok5_iter (unhide HOK) (by omega) _ _).trans k2, unhide HA, by omega, by rw [List.length_append]; omega⟩
      case measure =>
        simp only [World.iterPos, k2.iter (unhide HIT2) (by omega), unhide HIT]
        omega
    · have hnx : ∀ ty, (Instr.next (.pointer (some ⟨w1.heap.size, 0, none⟩)) true ty).run Tryz.prog wr = _ := fun ty => Lib.run_next_end_at wr w1.heap.size s pos ty hit hp
      rw [rsFrom_end s fuel pos hp, List.append_nil] at hacc
      have HA := hide hacc
      have hal2 : (Lib.byteCells acc).length ≤ 100000000 := by
        rw [Lib.byteCells_length, hacc]
        have hf : ∀ f pos, (rsFrom s f pos).length ≤ 6 * f := by
          intro f
          induction f with
          | zero => intro pos; simp [rsFrom]
          | succ f ih =>
            intro pos
            rw [rsFrom]; split
            · rw [List.length_append]; have := ih (pos + (Utf8.decode s pos).2); have := pc_le (Utf8.decode s pos).1; omega
            · simp
        have := hf s.size 0
        simp [rs]; omega
      clear hacc
      go_wp2_with fail
      refine (writeByte_k B b _ 34 _ hI (by omega) (by omega)).mono ?_
      rintro e W1 ⟨rfl, h1, b2, k2⟩
      have h1' := IsB.byte (c := 34) rfl h1
      go_wp2
      go_end0
      refine ⟨rfl, ?_, hbw.trans b2, (unhide HOK).trans k2⟩
      rw [unhide HA] at h1'
      simpa using h1'
end Go.Proofs.YtadefcohbkgbfabGreatDoor


namespace Go.Proofs.YtadefcohbkgbfabGreatDoor
open Go.RowKit Go.Shelf


end Go.Proofs.YtadefcohbkgbfabGreatDoor


namespace Go.Proofs.YtadefcohbkgbfabGreatDoor
open Go.RowKit

/-- What of the pieces is read. -/
def MpAt (qs : List (List UInt8)) (k : Nat) (done : List (List UInt8)) : Prop := qs.mapM unesc = ((qs.drop k).mapM unesc).map (done ++ ·)
theorem mapM_cons' (p : List UInt8) (ps : List (List UInt8)) : (p :: ps).mapM unesc = (unesc p).bind fun t => (ps.mapM unesc).map (t :: ·) := by
  rw [List.mapM_cons]
  cases unesc p with
  | none => rfl
  | some t => cases List.mapM unesc ps <;> rfl
theorem MpAt.step {qs done : List (List UInt8)} {k : Nat} {t : List UInt8} (h : MpAt qs k done) (hk : k < qs.length) (hu : unesc qs[k] = some t) : MpAt qs (k + 1) (done ++ [t]) := by
  unfold MpAt at *
  rw [h, List.drop_eq_getElem_cons hk, mapM_cons', hu]
  show Option.map (done ++ ·) (Option.map (t :: ·) _) = _
  rw [Option.map_map]; congr 1; funext x; simp
theorem MpAt.bad {qs done : List (List UInt8)} {k : Nat} (h : MpAt qs k done) (hk : k < qs.length) (hu : unesc qs[k] = none) : qs.mapM unesc = none := by
  unfold MpAt at h
  rw [h, List.drop_eq_getElem_cons hk, mapM_cons', hu]; rfl
theorem MpAt.fin {qs done : List (List UInt8)} {k : Nat} (h : MpAt qs k done) (hk : qs.length ≤ k) : qs.mapM unesc = some done := by
  unfold MpAt at h
  rw [h, List.drop_eq_nil_of_le hk]; simp

end Go.Proofs.YtadefcohbkgbfabGreatDoor

