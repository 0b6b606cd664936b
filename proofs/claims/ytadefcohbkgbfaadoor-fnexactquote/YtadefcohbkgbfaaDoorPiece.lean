import Derived.Test.YtadefcohbkgbfaaDoorBldK
import Derived.Test.YtadefcohbkgbfaaDoorBldB
import Derived.Test.YtadefcohbkgbfaaDoorQtPlain
import Derived.Laws.BitsLemmas
namespace Go.Proofs.YtadefcohbkgbfaaDoor
open Go.RowKit

/-- What is written for a rune. -/
def pc (r : Nat) : List UInt8 := if r < 128 then qB (UInt8.ofNat r) else Lib.encodeRune r
theorem pc_le (r : Nat) : (pc r).length ≤ 6 := by
  unfold pc; split
  · exact qB_le _
  · have := Lib.encodeRuneZ_length r; simp [Lib.encodeRune]; omega
theorem pc_lo {r : Nat} (h : r < 128) : pc r = qB (UInt8.ofNat r) := by unfold pc; rw [if_pos h]
theorem ofNat_n {r : Nat} (h : r < 256) : (UInt8.ofNat r).toNat = r := by rw [UInt8.toNat_ofNat']; omega

abbrev OK5 (b : Nat) (w w' : World) : Prop := Lib.OthersKept 5 (some b) w w'

theorem and15F : ∀ r : Fin 32, bits BinOp.and IntKind.i32 ((r.val : Nat) : Int) 15 = ((r.val % 16 : Nat) : Int) := by decide +kernel
theorem and15 {r : Nat} (h : r < 32) : bits BinOp.and IntKind.i32 (r : Int) 15 = ((r % 16 : Nat) : Int) := and15F ⟨r, h⟩

set_option maxHeartbeats 2000000 in
set_option maxRecDepth 100000 in
theorem piece_walk (B b : Nat) (l : List UInt8) (r : Nat) (w : World) (h : IsB B b l w) (hB : B ≤ w.heap.size) (hr : r ≤ 1114111) (hl : l.length ≤ 100000000) :
    Calls Tryd.prog 102 #[.pointer (some ⟨b, 0, none⟩), .int .i32 r] w fun e w' => e = .returned (.tuple #[]) ∧ IsB B b (l ++ pc r) w' ∧ Below B w w' ∧ OK5 b w w' := by
  have hq : (Lib.byteCells l).length ≤ 100000000 := by rw [Lib.byteCells_length]; exact hl
  by_cases h32 : 32 ≤ r
  · by_cases e : r = 34
    · have HP : Hid (pc r = [92, 34]) := by
        show _ = _; rw [pc_lo (by omega), q_esc (by rw [ofNat_n (by omega)]; omega)]; subst e; rfl
      have t34 : ((r : Int) == 34) = true := by rw [beq_iff_eq]; omega
      clear e
      go_enter Tryd.func102, Tryd.ntmps102
      go_wp2_with fail
      refine (writeString_k B b _ _ _ h (by show _ + 2 ≤ _; omega) hB).mono ?_
      rintro e w1 ⟨rfl, h1, b1, k1⟩
      have h1' := IsB.str (m := [92, 34]) rfl h1
      clear h1
      go_wp2
      go_end0
      exact ⟨rfl, by rw [unhide HP]; exact h1', b1, k1⟩
    · by_cases e' : r = 92
      · have e := e'
        clear e'
        have HP : Hid (pc r = [92, 92]) := by
          show _ = _; rw [pc_lo (by omega), q_esc (by rw [ofNat_n (by omega)]; omega)]; subst e; rfl
        have t34 : ((r : Int) == 34) = false := by rw [beq_eq_false_iff_ne]; omega
        have t92 : ((r : Int) == 92) = true := by rw [beq_iff_eq]; omega
        clear e
        go_enter Tryd.func102, Tryd.ntmps102
        go_wp2_with fail
        refine (writeString_k B b _ _ _ h (by show _ + 2 ≤ _; omega) hB).mono ?_
        rintro e w1 ⟨rfl, h1, b1, k1⟩
        have h1' := IsB.str (m := [92, 92]) rfl h1
        clear h1
        go_wp2
        go_end0
        exact ⟨rfl, by rw [unhide HP]; exact h1', b1, k1⟩
      · have HP : Hid (Lib.runeCells r = Lib.byteCells (pc r)) := by
          show _ = _
          by_cases h7 : r < 128
          · rw [pc_lo h7, q_lit (by rw [ofNat_n (by omega)]; exact e) (by rw [ofNat_n (by omega)]; exact e') (by rw [ofNat_n (by omega)]; exact h32)]
            unfold Lib.runeCells
            rw [Lib.encodeRuneZ_one (by omega) (by omega)]
            simp only [List.map_cons, List.map_nil, Lib.byteCells, ofNat_n (show r < 256 by omega)]
          · unfold pc; rw [if_neg h7, Lib.byteCells_encodeRune]
        have t34 : ((r : Int) == 34) = false := by rw [beq_eq_false_iff_ne]; omega
        have t92 : ((r : Int) == 92) = false := by rw [beq_eq_false_iff_ne]; omega
        have t8 : ((r : Int) == 8) = false := by rw [beq_eq_false_iff_ne]; omega
        have t9 : ((r : Int) == 9) = false := by rw [beq_eq_false_iff_ne]; omega
        have t10 : ((r : Int) == 10) = false := by rw [beq_eq_false_iff_ne]; omega
        have t12 : ((r : Int) == 12) = false := by rw [beq_eq_false_iff_ne]; omega
        have t13 : ((r : Int) == 13) = false := by rw [beq_eq_false_iff_ne]; omega
        have t32 : (32 : Int) ≤ (r : Int) := by omega
        clear e e'
        go_enter Tryd.func102, Tryd.ntmps102
        go_wp2_with fail
        refine (writeRune_k B b _ (r : Int) (by omega) (by omega) _ h (by omega) hB).mono ?_
        rintro e w1 ⟨⟨n, rfl⟩, h1, b1, k1⟩
        have h1' := IsB.cells (unhide HP) h1
        clear h1
        go_wp2
        try simp only [Exit.inBlock, Exit.then]
        refine bodyPost_ret (results_none rfl _ _ _) rfl ?_
        exact ⟨rfl, h1', b1, k1⟩
  · by_cases hc : Ctl r
    · have HP : Hid (pc r = [92, 117, 48, 48, hexs.getD (r / 16) 0, hexs.getD (r % 16) 0]) := by
        show _ = _; rw [pc_lo (by omega), q_ctl (by rw [ofNat_n (by omega)]; exact hc), ofNat_n (by omega)]
      obtain ⟨g1, g2, g3, g4, g5, g6⟩ := hc
      have t34 : ((r : Int) == 34) = false := by rw [beq_eq_false_iff_ne]; omega
      have t92 : ((r : Int) == 92) = false := by rw [beq_eq_false_iff_ne]; omega
      have t8 : ((r : Int) == 8) = false := by rw [beq_eq_false_iff_ne]; omega
      have t9 : ((r : Int) == 9) = false := by rw [beq_eq_false_iff_ne]; omega
      have t10 : ((r : Int) == 10) = false := by rw [beq_eq_false_iff_ne]; omega
      have t12 : ((r : Int) == 12) = false := by rw [beq_eq_false_iff_ne]; omega
      have t13 : ((r : Int) == 13) = false := by rw [beq_eq_false_iff_ne]; omega
      have t32 : ¬ (32 : Int) ≤ (r : Int) := by omega
      obtain ⟨q, hq16⟩ : ∃ q : Nat, q = r % 16 := ⟨_, rfl⟩
      have hand : bits BinOp.and IntKind.i32 (r : Int) 15 = (q : Int) := by rw [hq16]; exact and15 (by omega)
      have hqlt : q < 16 := by omega
      have hqlt' : (q : Int) < 16 := by omega
      have hq0 : (0 : Int) ≤ (q : Int) := by omega
      rw [← hq16] at HP
      clear hq16
      go_enter Tryd.func102, Tryd.ntmps102
      go_wp2_with fail
      refine (writeString_k B b _ _ _ h (by show _ + 4 ≤ _; omega) hB).mono ?_
      rintro e w1 ⟨rfl, h1, b1, k1⟩
      have h1' := IsB.str (m := [92, 117, 48, 48]) rfl h1
      have hw1 : B ≤ w1.heap.size := by have := b1.size; omega
      clear h1
      go_wp2_with fail
      refine (writeByte_k B b _ _ _ h1' (by rw [Lib.byteCells_length]; simp; omega) hw1).mono ?_
      rintro e w2 ⟨rfl, h2, b2, k2⟩
      have h2' := IsB.byte (c := hexs.getD (r / 16) 0) (congrArg (fun c : UInt8 => (c.toNat : Int)) (hex_at (r / 16) (by omega))) h2
      have hw2 : B ≤ w2.heap.size := by have := b2.size; omega
      clear h2 h1'
      go_wp2_with fail
      refine (writeByte_k B b _ _ _ h2' (by rw [Lib.byteCells_length]; simp; omega) hw2).mono ?_
      rintro e w3 ⟨rfl, h3, b3, k3⟩
      have h3' := IsB.byte (c := hexs.getD q 0) (congrArg (fun c : UInt8 => (c.toNat : Int)) (hex_at q hqlt)) h3
      have B3 := (b1.trans b2).trans b3
      have K3 := (k1.trans k2).trans k3
      clear h3 h2'
      go_wp2
      go_end0
      exact ⟨rfl, by rw [unhide HP]; simpa using h3', B3, K3⟩
    · rcases (show r = 8 ∨ r = 9 ∨ r = 10 ∨ r = 12 ∨ r = 13 from by unfold Ctl at hc; omega) with e | e | e | e | e
      · have HP : Hid (pc r = [92, 98]) := by
          show _ = _; rw [pc_lo (by omega), q_8 (by rw [ofNat_n (by omega)]; omega)]
        have t34 : ((r : Int) == 34) = false := by rw [beq_eq_false_iff_ne]; omega
        have t92 : ((r : Int) == 92) = false := by rw [beq_eq_false_iff_ne]; omega
        have t8 : ((r : Int) == 8) = true := by rw [beq_iff_eq]; omega
        clear e
        go_enter Tryd.func102, Tryd.ntmps102
        go_wp2_with fail
        refine (writeString_k B b _ _ _ h (by show _ + 2 ≤ _; omega) hB).mono ?_
        rintro e w1 ⟨rfl, h1, b1, k1⟩
        have h1' := IsB.str (m := [92, 98]) rfl h1
        clear h1
        go_wp2
        go_end0
        exact ⟨rfl, by rw [unhide HP]; exact h1', b1, k1⟩
      · have HP : Hid (pc r = [92, 116]) := by
          show _ = _; rw [pc_lo (by omega), q_9 (by rw [ofNat_n (by omega)]; omega)]
        have t34 : ((r : Int) == 34) = false := by rw [beq_eq_false_iff_ne]; omega
        have t92 : ((r : Int) == 92) = false := by rw [beq_eq_false_iff_ne]; omega
        have t8 : ((r : Int) == 8) = false := by rw [beq_eq_false_iff_ne]; omega
        have t9 : ((r : Int) == 9) = true := by rw [beq_iff_eq]; omega
        clear e
        go_enter Tryd.func102, Tryd.ntmps102
        go_wp2_with fail
        refine (writeString_k B b _ _ _ h (by show _ + 2 ≤ _; omega) hB).mono ?_
        rintro e w1 ⟨rfl, h1, b1, k1⟩
        have h1' := IsB.str (m := [92, 116]) rfl h1
        clear h1
        go_wp2
        go_end0
        exact ⟨rfl, by rw [unhide HP]; exact h1', b1, k1⟩
      · have HP : Hid (pc r = [92, 110]) := by
          show _ = _; rw [pc_lo (by omega), q_10 (by rw [ofNat_n (by omega)]; omega)]
        have t34 : ((r : Int) == 34) = false := by rw [beq_eq_false_iff_ne]; omega
        have t92 : ((r : Int) == 92) = false := by rw [beq_eq_false_iff_ne]; omega
        have t8 : ((r : Int) == 8) = false := by rw [beq_eq_false_iff_ne]; omega
        have t9 : ((r : Int) == 9) = false := by rw [beq_eq_false_iff_ne]; omega
        have t10 : ((r : Int) == 10) = true := by rw [beq_iff_eq]; omega
        clear e
        go_enter Tryd.func102, Tryd.ntmps102
        go_wp2_with fail
        refine (writeString_k B b _ _ _ h (by show _ + 2 ≤ _; omega) hB).mono ?_
        rintro e w1 ⟨rfl, h1, b1, k1⟩
        have h1' := IsB.str (m := [92, 110]) rfl h1
        clear h1
        go_wp2
        go_end0
        exact ⟨rfl, by rw [unhide HP]; exact h1', b1, k1⟩
      · have HP : Hid (pc r = [92, 102]) := by
          show _ = _; rw [pc_lo (by omega), q_12 (by rw [ofNat_n (by omega)]; omega)]
        have t34 : ((r : Int) == 34) = false := by rw [beq_eq_false_iff_ne]; omega
        have t92 : ((r : Int) == 92) = false := by rw [beq_eq_false_iff_ne]; omega
        have t8 : ((r : Int) == 8) = false := by rw [beq_eq_false_iff_ne]; omega
        have t9 : ((r : Int) == 9) = false := by rw [beq_eq_false_iff_ne]; omega
        have t10 : ((r : Int) == 10) = false := by rw [beq_eq_false_iff_ne]; omega
        have t12 : ((r : Int) == 12) = true := by rw [beq_iff_eq]; omega
        clear e
        go_enter Tryd.func102, Tryd.ntmps102
        go_wp2_with fail
        refine (writeString_k B b _ _ _ h (by show _ + 2 ≤ _; omega) hB).mono ?_
        rintro e w1 ⟨rfl, h1, b1, k1⟩
        have h1' := IsB.str (m := [92, 102]) rfl h1
        clear h1
        go_wp2
        go_end0
        exact ⟨rfl, by rw [unhide HP]; exact h1', b1, k1⟩
      · have HP : Hid (pc r = [92, 114]) := by
          show _ = _; rw [pc_lo (by omega), q_13 (by rw [ofNat_n (by omega)]; omega)]
        have t34 : ((r : Int) == 34) = false := by rw [beq_eq_false_iff_ne]; omega
        have t92 : ((r : Int) == 92) = false := by rw [beq_eq_false_iff_ne]; omega
        have t8 : ((r : Int) == 8) = false := by rw [beq_eq_false_iff_ne]; omega
        have t9 : ((r : Int) == 9) = false := by rw [beq_eq_false_iff_ne]; omega
        have t10 : ((r : Int) == 10) = false := by rw [beq_eq_false_iff_ne]; omega
        have t12 : ((r : Int) == 12) = false := by rw [beq_eq_false_iff_ne]; omega
        have t13 : ((r : Int) == 13) = true := by rw [beq_iff_eq]; omega
        clear e
        go_enter Tryd.func102, Tryd.ntmps102
        go_wp2_with fail
        refine (writeString_k B b _ _ _ h (by show _ + 2 ≤ _; omega) hB).mono ?_
        rintro e w1 ⟨rfl, h1, b1, k1⟩
        have h1' := IsB.str (m := [92, 114]) rfl h1
        clear h1
        go_wp2
        go_end0
        exact ⟨rfl, by rw [unhide HP]; exact h1', b1, k1⟩
end Go.Proofs.YtadefcohbkgbfaaDoor
