import Derived.Test.YtocnekbedcnmgaaGreatDoorBq4
import Derived.Test.YtocnekbedcnmgaaGreatDoorBq9
import Derived.Test.YtocnekbedcnmgaaGreatDoorBq1
import Derived.Test.YtocnekbedcnmgaaGreatDoorBq12
import Derived.Test.YtocnekbedcnmgaaGreatDoorBq8
import Derived.Test.YtocnekbedcnmgaaGreatDoorBq2
namespace Go.Proofs.YtocnekbedcnmgaaGreatDoor
open Go.RowKit

theorem tok_getD {ts : List (List UInt8)} {j : Nat} (h : j < ts.length) : (ts.map baT).getD j ByteArray.empty = baT (ts.getD j []) := by simp [h]
/-- What the look for a key answers. -/
def FindP (ps : List Part) (key : List UInt8) (e : Ending) : Prop := (e = .returned (.int .i64 (-1)) ∧ ∀ j (hj : j < ps.length), ps[j].1 ≠ key) ∨ ∃ (j : Nat) (hj : j < ps.length), e = .returned (.int .i64 (j : Int)) ∧ ps[j].1 = key
theorem FindP.no {ps : List Part} {key : List UInt8} {e : Ending} (h : e = .returned (.int .i64 (-1))) (k : ∀ j (hj : j < ps.length), ps[j].1 ≠ key) : FindP ps key e := Or.inl ⟨h, k⟩
/-- What the look for a part answers. -/
def ChildP (v : JV) (t : List UInt8) (e : Ending) : Prop := (e = .returned (.int .i64 (-1)) ∧ childV v t = none) ∨ ∃ (j : Nat) (hj : j < (partsV v).length) (u : JV), e = .returned (.int .i64 (j : Int)) ∧ childV v t = some u ∧ (partsV v)[j].2 = ct u ∧ (partsV v)[j].1 = t
theorem ChildP.no {v : JV} {t : List UInt8} {e : Ending} (h : e = .returned (.int .i64 (-1))) (k : childV v t = none) : ChildP v t e := Or.inl ⟨h, k⟩
end Go.Proofs.YtocnekbedcnmgaaGreatDoor


namespace Go.Proofs.YtocnekbedcnmgaaGreatDoor
open Go.RowKit

/-- A row of hits that the call owns. -/
def HR (w : World) (B : Nat) (v : Value) (hs : List Part) : Prop := w.ownsRow B 291 2 v hs.length (hs.flatMap partC)
theorem HR.below {w w' : World} {B : Nat} {v : Value} {hs : List Part} (h : HR w B v hs) (hb : Below w.heap.size w w') : HR w' B v hs := own_below h hb
theorem HR.cells {w : World} {B : Nat} {v : Value} {ps : List Part} (h : HR w B v ps) (j : Nat) (hj : j < ps.length) :
    ∃ g cap, v = .slice (some ⟨g, 0, none⟩) ps.length cap ∧ B ≤ g ∧ g < w.heap.size ∧ w.cell? ⟨g, j * 2, none⟩ = some (.string (strOf ps[j].1)) ∧ w.cell? ⟨g, j * 2 + 1, none⟩ = some (.string (strOf ps[j].2)) := by
  obtain ⟨hl, h0 | ⟨g, cap, cur, hv, hB, hg, hn, hc, hsz, ht⟩⟩ := h
  · omega
  · have hc0 := part_at ps j hj
    refine ⟨g, cap, hv, hB, (Array.getElem?_eq_some_iff.1 hg).1, ?_, ?_⟩
    · rw [Lib.cell_of_heap hg, ← Array.getElem?_toList, ← hc0.1, ← ht, List.getElem?_take_of_lt (by omega)]
    · rw [Lib.cell_of_heap hg, ← Array.getElem?_toList, ← hc0.2, ← ht, List.getElem?_take_of_lt (by omega)]
end Go.Proofs.YtocnekbedcnmgaaGreatDoor


namespace Go.Proofs.YtocnekbedcnmgaaGreatDoor
open Go.RowKit

theorem odd_at : ∀ j : Nat, j < 20 → ∃ t : List UInt8, t.length ≤ 20 ∧ (#[Value.string ⟨#[34]⟩, Value.string ⟨#[92]⟩, Value.string ⟨#[48, 49]⟩, Value.string ⟨#[45]⟩, Value.string ⟨#[44]⟩, Value.string ⟨#[58]⟩, Value.string ⟨#[91]⟩, Value.string ⟨#[93]⟩, Value.string ⟨#[123]⟩, Value.string ⟨#[125]⟩, Value.string ⟨#[32]⟩, Value.string ⟨#[128]⟩, Value.string ⟨#[92, 117, 100, 56, 48, 48]⟩, Value.string ⟨#[49, 46, 53]⟩, Value.string ⟨#[101]⟩, Value.string ⟨#[31]⟩, Value.string ⟨#[110, 117, 108]⟩, Value.string ⟨#[57, 57, 57, 57, 57, 57, 57, 57, 57, 57, 57, 57, 57, 57, 57, 57, 57, 57, 57, 57]⟩, Value.string ⟨#[237, 160, 128]⟩, Value.string ⟨#[192, 128]⟩] : Array Value)[j]? = some (.string (strOf t))
  | 0, _ => ⟨[34], by decide, rfl⟩
  | 1, _ => ⟨[92], by decide, rfl⟩
  | 2, _ => ⟨[48, 49], by decide, rfl⟩
  | 3, _ => ⟨[45], by decide, rfl⟩
  | 4, _ => ⟨[44], by decide, rfl⟩
  | 5, _ => ⟨[58], by decide, rfl⟩
  | 6, _ => ⟨[91], by decide, rfl⟩
  | 7, _ => ⟨[93], by decide, rfl⟩
  | 8, _ => ⟨[123], by decide, rfl⟩
  | 9, _ => ⟨[125], by decide, rfl⟩
  | 10, _ => ⟨[32], by decide, rfl⟩
  | 11, _ => ⟨[128], by decide, rfl⟩
  | 12, _ => ⟨[92, 117, 100, 56, 48, 48], by decide, rfl⟩
  | 13, _ => ⟨[49, 46, 53], by decide, rfl⟩
  | 14, _ => ⟨[101], by decide, rfl⟩
  | 15, _ => ⟨[31], by decide, rfl⟩
  | 16, _ => ⟨[110, 117, 108], by decide, rfl⟩
  | 17, _ => ⟨[57, 57, 57, 57, 57, 57, 57, 57, 57, 57, 57, 57, 57, 57, 57, 57, 57, 57, 57, 57], by decide, rfl⟩
  | 18, _ => ⟨[237, 160, 128], by decide, rfl⟩
  | 19, _ => ⟨[192, 128], by decide, rfl⟩
  | j + 20, h => absurd h (by omega)
set_option maxRecDepth 100000 in
set_option maxHeartbeats 2000000 in
theorem odd_walk (k : Nat) (w : World) (hk : k ≤ 255) :
    Calls Tryz.prog 103 #[.int .i64 k] w fun e w' => ∃ t : List UInt8, t.length ≤ 20 ∧ e = .returned (.string (strOf t)) ∧ Below w.heap.size w w' := by
  obtain ⟨t, ht, hc⟩ := odd_at (k % 20) (by omega)
  have hcell : (w.alloc (.cells #[Value.string ⟨#[34]⟩, Value.string ⟨#[92]⟩, Value.string ⟨#[48, 49]⟩, Value.string ⟨#[45]⟩, Value.string ⟨#[44]⟩, Value.string ⟨#[58]⟩, Value.string ⟨#[91]⟩, Value.string ⟨#[93]⟩, Value.string ⟨#[123]⟩, Value.string ⟨#[125]⟩, Value.string ⟨#[32]⟩, Value.string ⟨#[128]⟩, Value.string ⟨#[92, 117, 100, 56, 48, 48]⟩, Value.string ⟨#[49, 46, 53]⟩, Value.string ⟨#[101]⟩, Value.string ⟨#[31]⟩, Value.string ⟨#[110, 117, 108]⟩, Value.string ⟨#[57, 57, 57, 57, 57, 57, 57, 57, 57, 57, 57, 57, 57, 57, 57, 57, 57, 57, 57, 57]⟩, Value.string ⟨#[237, 160, 128]⟩, Value.string ⟨#[192, 128]⟩] 9)).cell? ⟨w.heap.size, k % 20, none⟩ = some (.string (strOf t)) := (Lib.cell_of_heap (heap_alloc_new w (.cells #[Value.string ⟨#[34]⟩, Value.string ⟨#[92]⟩, Value.string ⟨#[48, 49]⟩, Value.string ⟨#[45]⟩, Value.string ⟨#[44]⟩, Value.string ⟨#[58]⟩, Value.string ⟨#[91]⟩, Value.string ⟨#[93]⟩, Value.string ⟨#[123]⟩, Value.string ⟨#[125]⟩, Value.string ⟨#[32]⟩, Value.string ⟨#[128]⟩, Value.string ⟨#[92, 117, 100, 56, 48, 48]⟩, Value.string ⟨#[49, 46, 53]⟩, Value.string ⟨#[101]⟩, Value.string ⟨#[31]⟩, Value.string ⟨#[110, 117, 108]⟩, Value.string ⟨#[57, 57, 57, 57, 57, 57, 57, 57, 57, 57, 57, 57, 57, 57, 57, 57, 57, 57, 57, 57]⟩, Value.string ⟨#[237, 160, 128]⟩, Value.string ⟨#[192, 128]⟩] 9)) (k % 20)).trans hc
  clear hc
  go_enter Tryz.func103, Tryz.ntmps103
  go_wp2
  go_ret
  exact ⟨t, ht, rfl, (Below.refl _ _).alloc (Nat.le_refl _) _⟩

theorem strOf_data (b : ByteArray) : strOf b.data.toList = b := by obtain ⟨⟨l⟩⟩ := b; rfl
theorem dp_str {B rb N : Nat} {w w1 : World} {b : ByteArray} (hb : b.size ≤ N) (hr : RdIs w1 B rb) (hg : w.grownBy w1 (some rb)) : DP B rb N w (.returned (.string b)) w1 :=
  ⟨b.data.toList, by rw [data_len]; exact hb, by rw [strOf_data], hr, hg⟩
set_option maxRecDepth 100000 in
set_option maxHeartbeats 2000000 in
theorem change_walk (B rb : Nat) (s : ByteArray) (w : World) (h : RdIs w B rb) (hs : s.size ≤ 400000) :
    Calls Tryz.prog 106 #[.pointer (some ⟨rb, 0, none⟩), .string s] w (DP B rb (s.size + 20) w) := by
  have HX := hide (next_walk B rb w h)
  clear h
  go_enter Tryz.func106, Tryz.ntmps106
  go_wp2_with fail
  refine (unhide HX).mono ?_
  rintro e w1 ⟨x, hx, rfl, r1, g1⟩
  have HX1 := hide (next_walk B rb w1 r1)
  have HG1 := hide g1
  clear HX r1 g1
  go_wp2_with fail
  refine (unhide HX1).mono ?_
  rintro e w2 ⟨y, hy, rfl, r2, g2⟩
  have HX2 := hide (next_walk B rb w2 r2)
  have HG2 := hide (grownBy_trans (unhide HG1) g2)
  clear HX1 r2 g2 HG1
  go_wp2_with fail
  refine (unhide HX2).mono ?_
  rintro e w3 ⟨z, hz, rfl, r3, g3⟩
  have HR := hide r3
  have HG := hide (grownBy_trans (unhide HG2) g3)
  clear HX2 r3 g3 HG2
  by_cases h0 : s.size = 0
  · have hz0 : ((s.size : Int) == 0) = true := by simp [h0]
    clear h0
    go_wp2
    go_ret
    exact dp_below (t := [45]) (unhide HR) (unhide HG) (by simp) (Below.refl _ _)
  · have hz0 : ((s.size : Int) == 0) = false := by
      simp only [beq_eq_false_iff_ne, ne_eq]; omega
    have hpn : (y : Int) * 256 + (z : Int) = ((y * 256 + z : Nat) : Int) := by omega
    have hpb : y * 256 + z ≤ 65535 := by omega
    generalize y * 256 + z = pn at *
    have hq : (pn : Int) % (s.size : Int) = ((pn % s.size : Nat) : Int) := by simp
    have hql : pn % s.size < s.size := Nat.mod_lt _ (by omega)
    generalize pn % s.size = q at *
    have hqI : (q : Int) < (s.size : Int) := by omega
    have hsn : (s.size : Int) ≠ 0 := by omega
    have hx4 : (x : Int) / 4 = ((x / 4 : Nat) : Int) := by omega
    have HOD : Hid (∀ w, Calls Tryz.prog 103 #[.int .i64 ((x / 4 : Nat) : Int)] w fun e w' => ∃ t : List UInt8, t.length ≤ 20 ∧ e = .returned (.string (strOf t)) ∧ Below w.heap.size w w') := fun w => odd_walk (x / 4) w (by omega)
    have hxb : x / 4 ≤ 255 := by omega
    by_cases h4 : x % 4 = 0
    · have e : (x : Int) % 4 = 0 := by omega
      clear h4 h0 HOD hx4 hxb
      go_wp2
      go_quiet (fail)
      go_wp2
      go_ret
      refine dp_str ?_ ((unhide HR).grown (grown_draws w3 _ none) (by simp) (fun _ e => by cases e)) (grownBy_trans (unhide HG) (grown_draws w3 _ _))
      simp; omega
    · by_cases h5 : x % 4 = 1
      · have e : (x : Int) % 4 = 1 := by omega
        clear h4 h0 h5 HOD hx4 hxb
        go_wp2
        go_quiet (fail)
        go_wp2
        go_ret
        refine dp_str ?_ ((unhide HR).grown (grown_draws w3 _ none) (by simp) (fun _ e => by cases e)) (grownBy_trans (unhide HG) (grown_draws w3 _ _))
        simp; omega
      · have e1 : ((x : Int) % 4 == 0) = false := by simp only [beq_eq_false_iff_ne, ne_eq]; omega
        have e2 : ((x : Int) % 4 == 1) = false := by simp only [beq_eq_false_iff_ne, ne_eq]; omega
        generalize x / 4 = xq at *
        have hq2 : q ≤ s.size := by omega
        have hwr : IntKind.i64.wrap (xq : Int) = (xq : Int) := by rw [IntKind.wrap_i64]; omega
        clear h4 h0 h5
        go_wp2_with fail
        go_region_law (go_simp; refine (unhide HOD _).mono ?_; rintro e w4 ⟨t, ht, rfl, b4⟩; have hts : (strOf t).size ≤ 20 := (by rw [strOf_size]; exact ht); have c1 : (9223372036854775807 < q + (strOf t).size) = False := eq_false (by omega); have c2 : (9223372036854775807 < q + (strOf t).size + (s.size - q)) = False := eq_false (by omega))
        all_goals (
          clear c1 c2
          generalize strOf t = o at *
          have HRF : Hid (RdIs w4 B rb) := (unhide HR).grown (grownBy_below (r := none) (w1 := w4) ⟨b4.os, b4.tape, b4.output, b4.size, b4.block⟩) (by simp) (fun _ e => by cases e)
          have HGF : Hid (w.grownBy w4 (some rb)) := grownBy_trans (unhide HG) ⟨b4.os, b4.tape, b4.output, b4.size, fun k hk _ => b4.block k hk⟩
          clear b4
          go_wp2
          go_ret
          refine dp_str ?_ (unhide HRF) (unhide HGF)
          simp; omega)

end Go.Proofs.YtocnekbedcnmgaaGreatDoor


namespace Go.Proofs.YtocnekbedcnmgaaGreatDoor
open Go.RowKit

theorem conv_any (w : World) (b : ByteArray) : ∃ cap W, (convert 9 37 (.string b)).run Tryz.prog w = .ok (.slice (some ⟨w.heap.size, 0, none⟩) b.data.toList.length cap) W ∧
    (∀ j u, (Lib.byteCells b.data.toList)[j]? = some u → W.cell? ((⟨w.heap.size, 0, none⟩ : Addr).add j) = some u) ∧ Below w.heap.size w W ∧ (∀ (B e : Nat) v n xs, w.ownsRow B e 1 v n xs → W.ownsRow B e 1 v n xs) ∧ w.heap.size ≤ W.heap.size := by
  have := conv_bytes w b.data.toList
  rwa [strOf_data] at this
set_option maxRecDepth 100000 in
set_option maxHeartbeats 2000000 in
/-- A text again and again: its length alone. -/
theorem repeat_walk (l : List UInt8) (n : Nat) (w : World) (hl : l.length ≤ 100) (hn : n ≤ 30000) :
    Calls Tryz.prog 67 #[.string (strOf l), .int .i64 n] w fun e w' => ∃ t : List UInt8, t.length = n * l.length ∧ e = .returned (.string (strOf t)) ∧ Below w.heap.size w w' := by
  obtain ⟨i0, hi0, hz0, hz1, hz2⟩ := info_parts infoU8
  have HN : Hid (∀ j, j < n → (j + 1) * l.length ≤ 3000000 ∧ j * l.length ≤ 3000000) := fun j hj => by
    have h1 : (j + 1) * l.length ≤ n * l.length := Nat.mul_le_mul_right _ hj
    have h2 : n * l.length ≤ 30000 * 100 := Nat.mul_le_mul hn hl
    have h3 : j * l.length ≤ (j + 1) * l.length := Nat.mul_le_mul_right _ (by omega)
    omega
  go_enter Tryz.func67, Tryz.ntmps67
  go_wp2
  go_loopw [5, 6] (fun r k wr => ∃ (j : Nat) (acc : List UInt8), k = .int .i64 (j : Int) ∧ j ≤ n ∧ acc.length = j * l.length ∧ wr.ownsRow w.heap.size 5 1 r (Lib.byteCells acc).length (Lib.byteCells acc) ∧ Below w.heap.size w wr) (fun _ k _ => n - (intOf k).toNat)
  case atStart =>
    exact ⟨0, [], rfl, Nat.zero_le _, by simp, World.ownsRow_lit w #[] 0 (Nat.le_refl _) (by unfold maxLen; omega) rfl, (Below.refl _ _).alloc (Nat.le_refl _) _⟩
  case round =>
    obtain ⟨j, acc, rfl, hj, hacc, hown, hb⟩ := hrel
    have HA := hide hacc
    have HB := hide hb
    have hwsz := hb.size
    clear hacc hb
    by_cases hin : j < n
    · have t1 : ((j : Int) < (n : Int)) = True := eq_true (by omega)
      obtain ⟨q1, q2⟩ := unhide HN j hin
      have hal : acc.length ≤ 3000000 := by rw [unhide HA]; exact q2
      have HQ : Hid ((acc ++ l).length = (j + 1) * l.length) := by
        show _ = _
        rw [List.length_append, unhide HA, Nat.succ_mul]
      clear q1 q2
      obtain ⟨cap3, W3, hcv, hcell, b3, hk3, hs3⟩ := conv_bytes wr l
      have own3 := hk3 _ _ _ _ _ hown
      have B3 := (unhide HB).trans (b3.mono hwsz)
      have HCELL := hide hcell
      clear hcell hk3 hown
      go_wp2_with (at_builtin; refine wpList_append_own _ rfl (.tmp 13) (.tmp 15) 37 rfl w.heap.size 5 i0 (.int .u8 0) 1 1 Tryz.underlying37 hi0 hz0 hz1 hz2 rfl (by decide) _ _ _ rfl own3 ⟨wr.heap.size, 0, none⟩ l.length cap3 (Lib.byteCells l) rfl (by rw [Lib.byteCells_length]; omega) (by exact unhide HCELL) (one_bytes _) (by rw [Lib.byteCells_length]; unfold maxLen; omega) (by rw [Lib.byteCells_length]; omega) (by omega) ?_; intro v4 w4 own4 hg4 _; have B4 : Below w.heap.size w w4 := B3.grown hg4 (by omega) (fun k hk => (own3.lt k hk).1))
      have own4' := own_step (m := l) own4 rfl rfl
      clear own4 hg4 own3 HCELL B3 hcv b3 HB
      go_wp2
      go_roundw
      all_goals first
        | exact ⟨j + 1, acc ++ l, by go_num, by omega, unhide HQ, own4', B4⟩
        | (simp [intOf]; omega)
    · have t1 : ((j : Int) < (n : Int)) = False := eq_false (by omega)
      have hjn : j = n := by omega
      have HQ : Hid (acc.length = n * l.length) := by show _ = _; rw [← hjn]; exact unhide HA
      have hcv := convert_own hown
      have HOW := hide hown
      clear hjn hown
      go_wp2
      go_ret
      exact ⟨acc, unhide HQ, rfl, unhide HB⟩
end Go.Proofs.YtocnekbedcnmgaaGreatDoor


namespace Go.Proofs.YtocnekbedcnmgaaGreatDoor
open Go.RowKit

set_option maxRecDepth 100000 in
set_option maxHeartbeats 2000000 in
theorem limit_walk (k m : Nat) (w : World) (hk : k ≤ 255) (hm : m ≤ 255) :
    Calls Tryz.prog 102 #[.int .i64 k, .int .i64 m] w fun e w' => ∃ t : List UInt8, t.length ≤ 30000 ∧ e = .returned (.string (strOf t)) ∧ Below w.heap.size w w' := by
  have hm3 : (m : Int) % 3 = ((m % 3 : Nat) : Int) := by omega
  have hmb : m % 3 ≤ 2 := by omega
  have HRP : Hid (∀ (l : List UInt8) (n : Nat) (w : World), l.length ≤ 100 → n ≤ 30000 → Calls Tryz.prog 67 #[.string (strOf l), .int .i64 n] w fun e w' => ∃ t : List UInt8, t.length = n * l.length ∧ e = .returned (.string (strOf t)) ∧ Below w.heap.size w w') := fun l n w h1 h2 => repeat_walk l n w h1 h2
  have HOD : Hid (∀ w, Calls Tryz.prog 103 #[.int .i64 (m : Int)] w fun e w' => ∃ t : List UInt8, t.length ≤ 20 ∧ e = .returned (.string (strOf t)) ∧ Below w.heap.size w w') := fun w => odd_walk m w hm
  generalize m % 3 = q at *
  rcases (show k % 4 = 0 ∨ k % 4 = 1 ∨ k % 4 = 2 ∨ k % 4 = 3 from by omega) with h | h | h | h
  · have e0 : (k : Int) % 4 = 0 := by omega
    have hq : (100 : Int) + (q : Int) - 1 = ((99 + q : Nat) : Int) := by omega
    have HR1 : Hid (∀ w, Calls Tryz.prog 67 #[.string ⟨#[91]⟩, .int .i64 ((99 + q : Nat) : Int)] w fun e w' => ∃ t : List UInt8, t.length = (99 + q) * 1 ∧ e = .returned (.string (strOf t)) ∧ Below w.heap.size w w') := fun w => unhide HRP [91] (99 + q) w (by simp) (by omega)
    have HR2 : Hid (∀ w, Calls Tryz.prog 67 #[.string ⟨#[93]⟩, .int .i64 ((99 + q : Nat) : Int)] w fun e w' => ∃ t : List UInt8, t.length = (99 + q) * 1 ∧ e = .returned (.string (strOf t)) ∧ Below w.heap.size w w') := fun w => unhide HRP [93] (99 + q) w (by simp) (by omega)
    have hnq : 99 + q ≤ 101 := by omega
    generalize 99 + q = nq at *
    clear HRP HOD h hmb
    go_enter Tryz.func102, Tryz.ntmps102
    go_wp2_with fail
    refine (unhide HR1 _).mono ?_
    rintro e w1 ⟨t1, h1, rfl, b1⟩
    have HB1 := hide b1
    clear HR1 b1
    go_wp2_with fail
    refine (unhide HR2 _).mono ?_
    rintro e w2 ⟨t2, h2, rfl, b2⟩
    have HB2 := hide (below_next (unhide HB1) b2)
    have c1 : (9223372036854775807 < (strOf t1).size + (strOf t2).size) = False := eq_false (by rw [strOf_size, strOf_size]; omega)
    have hcat : strOf t1 ++ strOf t2 = strOf (t1 ++ t2) := strOf_app _ _
    have HLN : Hid ((t1 ++ t2).length ≤ 30000) := by show _ ≤ _; rw [List.length_append]; omega
    clear HR2 b2 h1 h2
    go_wp2
    go_ret
    exact ⟨t1 ++ t2, unhide HLN, by rw [← hcat]; rfl, unhide HB2⟩
  · have e0 : (k : Int) % 4 = 1 := by omega
    have hq : (2997 : Int) + (q : Int) = ((2997 + q : Nat) : Int) := by omega
    have HR1 : Hid (∀ w, Calls Tryz.prog 67 #[.string ⟨#[49, 44]⟩, .int .i64 ((2997 + q : Nat) : Int)] w fun e w' => ∃ t : List UInt8, t.length = (2997 + q) * 2 ∧ e = .returned (.string (strOf t)) ∧ Below w.heap.size w w') := fun w => unhide HRP [49, 44] (2997 + q) w (by simp) (by omega)
    have hnq : 2997 + q ≤ 2999 := by omega
    generalize 2997 + q = nq at *
    clear HRP HOD h hmb
    go_enter Tryz.func102, Tryz.ntmps102
    go_wp2_with fail
    refine (unhide HR1 _).mono ?_
    rintro e w1 ⟨t1, h1, rfl, b1⟩
    have HB1 := hide b1
    have hts : (strOf t1).size ≤ 6000 := by rw [strOf_size]; omega
    have c1 : (9223372036854775807 < 1 + (strOf t1).size) = False := eq_false (by omega)
    have c2 : (9223372036854775807 < 1 + (strOf t1).size + 2) = False := eq_false (by omega)
    clear HR1 b1 h1
    generalize strOf t1 = o at *
    go_wp2
    go_ret
    refine ⟨_, ?_, (by rw [strOf_data]; rfl), unhide HB1⟩
    rw [data_len]; have q0 : (⟨#[91]⟩ : ByteArray).size = 1 := rfl; have q1 : (⟨#[50, 93]⟩ : ByteArray).size = 2 := rfl; have q2 : (⟨#[91, 93]⟩ : ByteArray).size = 2 := rfl; have q3 : (⟨#[125]⟩ : ByteArray).size = 1 := rfl; have q4 : (⟨#[123, 34, 97, 34, 58, 49, 44, 34, 98, 34, 58, 123, 34, 92, 117, 48, 48, 54, 49, 34, 58, 50, 44, 34, 97, 34, 58, 51, 125, 44, 34, 99, 34, 58]⟩ : ByteArray).size = 34 := rfl; simp only [ByteArray.size_append]; omega
  · have e0 : (k : Int) % 4 = 2 := by omega
    have hq : (19997 : Int) + (q : Int) = ((19997 + q : Nat) : Int) := by omega
    have HR1 : Hid (∀ w, Calls Tryz.prog 67 #[.string ⟨#[32]⟩, .int .i64 ((19997 + q : Nat) : Int)] w fun e w' => ∃ t : List UInt8, t.length = (19997 + q) * 1 ∧ e = .returned (.string (strOf t)) ∧ Below w.heap.size w w') := fun w => unhide HRP [32] (19997 + q) w (by simp) (by omega)
    have hnq : 19997 + q ≤ 19999 := by omega
    generalize 19997 + q = nq at *
    clear HRP HOD h hmb
    go_enter Tryz.func102, Tryz.ntmps102
    go_wp2_with fail
    refine (unhide HR1 _).mono ?_
    rintro e w1 ⟨t1, h1, rfl, b1⟩
    have HB1 := hide b1
    have hts : (strOf t1).size ≤ 20000 := by rw [strOf_size]; omega
    have c1 : (9223372036854775807 < (strOf t1).size + 2) = False := eq_false (by omega)
    clear HR1 b1 h1
    generalize strOf t1 = o at *
    go_wp2
    go_ret
    refine ⟨_, ?_, (by rw [strOf_data]; rfl), unhide HB1⟩
    rw [data_len]; have q0 : (⟨#[91]⟩ : ByteArray).size = 1 := rfl; have q1 : (⟨#[50, 93]⟩ : ByteArray).size = 2 := rfl; have q2 : (⟨#[91, 93]⟩ : ByteArray).size = 2 := rfl; have q3 : (⟨#[125]⟩ : ByteArray).size = 1 := rfl; have q4 : (⟨#[123, 34, 97, 34, 58, 49, 44, 34, 98, 34, 58, 123, 34, 92, 117, 48, 48, 54, 49, 34, 58, 50, 44, 34, 97, 34, 58, 51, 125, 44, 34, 99, 34, 58]⟩ : ByteArray).size = 34 := rfl; simp only [ByteArray.size_append]; omega
  · have e0 : ((k : Int) % 4 == 0) = false := by simp only [beq_eq_false_iff_ne, ne_eq]; omega
    have e1 : ((k : Int) % 4 == 1) = false := by simp only [beq_eq_false_iff_ne, ne_eq]; omega
    have e2 : ((k : Int) % 4 == 2) = false := by simp only [beq_eq_false_iff_ne, ne_eq]; omega
    clear HRP h hmb
    go_enter Tryz.func102, Tryz.ntmps102
    go_wp2_with fail
    refine (unhide HOD _).mono ?_
    rintro e w1 ⟨t1, h1, rfl, b1⟩
    have HB1 := hide b1
    have hts : (strOf t1).size ≤ 20 := by rw [strOf_size]; omega
    have c1 : (9223372036854775807 < 34 + (strOf t1).size) = False := eq_false (by omega)
    have c2 : (9223372036854775807 < 34 + (strOf t1).size + 1) = False := eq_false (by omega)
    clear HOD b1 h1
    generalize strOf t1 = o at *
    go_wp2
    go_ret
    refine ⟨_, ?_, (by rw [strOf_data]; rfl), unhide HB1⟩
    rw [data_len]; have q0 : (⟨#[91]⟩ : ByteArray).size = 1 := rfl; have q1 : (⟨#[50, 93]⟩ : ByteArray).size = 2 := rfl; have q2 : (⟨#[91, 93]⟩ : ByteArray).size = 2 := rfl; have q3 : (⟨#[125]⟩ : ByteArray).size = 1 := rfl; have q4 : (⟨#[123, 34, 97, 34, 58, 49, 44, 34, 98, 34, 58, 123, 34, 92, 117, 48, 48, 54, 49, 34, 58, 50, 44, 34, 97, 34, 58, 51, 125, 44, 34, 99, 34, 58]⟩ : ByteArray).size = 34 := rfl; simp only [ByteArray.size_append]; change 34 + o.size + 1 ≤ 30000; omega
end Go.Proofs.YtocnekbedcnmgaaGreatDoor


namespace Go.Proofs.YtocnekbedcnmgaaGreatDoor
open Go.RowKit

set_option maxRecDepth 100000 in
set_option maxHeartbeats 4000000 in
/-- Blanks put in: the length alone. -/
theorem blanks_walk (B rb : Nat) (s : ByteArray) (w : World) (h : RdIs w B rb) (hs : s.size ≤ 45000) :
    Calls Tryz.prog 105 #[.pointer (some ⟨rb, 0, none⟩), .string s] w (DP B rb (8 * s.size) w) := by
  obtain ⟨i0, hi0, hz0, hz1, hz2⟩ := info_parts infoU8
  have hrb := h.lt
  have HB0 : Hid (B ≤ rb) := by obtain ⟨_, _, _, _, _, _, _, h1, _⟩ := h; exact h1
  have HN : Hid (∀ w, RdIs w B rb → Calls Tryz.prog 65 #[.pointer (some ⟨rb, 0, none⟩)] w fun e w' => ∃ x : Nat, x ≤ 255 ∧ e = .returned (.int .i64 x) ∧ RdIs w' B rb ∧ w.grownBy w' (some rb)) := fun w h => next_walk B rb w h
  have HSTR : Hid (∀ (j : Nat) w, j ≤ s.size → Calls Tryz.prog 75 #[.string s, .int .i64 j] w (SPost s w (strQ s j))) := fun j w hj => l1String_walk s j w (by omega) (by omega)
  have HR0 : Hid (RdIs (w.alloc (.cells #[] 5)) B rb) := h.grown (World.grownBy_alloc w _ none) (by simp) (fun k e => by cases e)
  have HG0 : Hid (w.grownBy (w.alloc (.cells #[] 5)) (some rb)) := World.grownBy_alloc w _ _
  clear h
  go_enter Tryz.func105, Tryz.ntmps105
  go_wp2
  go_loopw [5, 6] (fun r k wr => ∃ (j : Nat) (acc : List UInt8), k = .int .i64 (j : Int) ∧ j ≤ s.size ∧ acc.length ≤ 8 * j ∧ wr.ownsRow w.heap.size 5 1 r (Lib.byteCells acc).length (Lib.byteCells acc) ∧ RdIs wr B rb ∧ w.grownBy wr (some rb)) (fun _ k _ => s.size - (intOf k).toNat)
  case atStart =>
    exact ⟨0, [], rfl, Nat.zero_le _, by simp, World.ownsRow_lit w #[] 0 (Nat.le_refl _) (by unfold maxLen; omega) rfl, unhide HR0, unhide HG0⟩
  case round =>
    obtain ⟨j, acc, rfl, hj, hacc, hown, hr, hg⟩ := hrel
    clear HR0 HG0
    have HA := hide hacc
    have HR := hide hr
    have HG := hide hg
    have hwsz := hg.size
    have hal : acc.length ≤ 360000 := by omega
    clear hacc hr hg
    by_cases hin : j < s.size
    · have t1 : ((j : Int) < (s.size : Int)) = True := eq_true (by omega)
      have i1 : (0 : Int) ≤ (j : Int) := by omega
      have i2 : (j : Int) < (s.size : Int) := by omega
      have hb := bt_at s j hin
      by_cases c34 : bt s j = 34
      · have HSJ := hide (unhide HSTR j wr (by omega))
        have f34 : ((s[j].toNat : Int) == 34) = true := by rw [beq_iff_eq]; omega
        cases hq : strQ s j with
        | none =>
          rw [hq] at HSJ
          clear hq hb c34 HN HSTR
          go_wp2_with fail
          refine (unhide HSJ).mono ?_
          rintro e w2 ⟨b2, tt, kk, _, _, rfl⟩
          have HRF : Hid (RdIs w2 B rb) := (unhide HR).grown (grownBy_below (r := none) (w1 := w2) ⟨b2.os, b2.tape, b2.output, b2.size, b2.block⟩) (by simp) (fun _ e => by cases e)
          have HGF : Hid (w.grownBy w2 (some rb)) := grownBy_trans (unhide HG) ⟨b2.os, b2.tape, b2.output, b2.size, fun k hk _ => b2.block k hk⟩
          clear HSJ b2
          go_wp2
          go_ret
          exact dp_str (by omega) (unhide HRF) (unhide HGF)
        | some p =>
          obtain ⟨sl, n⟩ := p
          obtain ⟨n1, n2⟩ := strQ_ok hq
          rw [hq] at HSJ
          clear hq hb c34 HN HSTR
          have nI : (n : Int) ≤ (s.size : Int) := by omega
          have njI : (j : Int) ≤ (n : Int) := by omega
          go_wp2_with fail
          refine (unhide HSJ).mono ?_
          rintro e w2 ⟨b2, rfl⟩
          have HRF : Hid (RdIs w2 B rb) := (unhide HR).grown (grownBy_below (r := none) (w1 := w2) ⟨b2.os, b2.tape, b2.output, b2.size, b2.block⟩) (by simp) (fun _ e => by cases e)
          have HGF : Hid (w.grownBy w2 (some rb)) := grownBy_trans (unhide HG) ⟨b2.os, b2.tape, b2.output, b2.size, fun k hk _ => b2.block k hk⟩
          have own2 := own_below hown b2
          have hz2w := (unhide HGF).size
          have hel : (s.extract j n).data.toList.length = n - j := by rw [data_len]; simp; omega
          obtain ⟨cap3, W3, hcv, hcell, b3, hk3, hs3⟩ := conv_any w2 (s.extract j n)
          have own3 := hk3 _ _ _ _ _ own2
          have HCELL := hide hcell
          have HG3 := hide (grownBy_trans (unhide HGF) (grownBy_below (r := some rb) (w1 := W3) ⟨b3.os, b3.tape, b3.output, b3.size, b3.block⟩))
          have HR3 : Hid (RdIs W3 B rb) := (unhide HRF).grown (grownBy_below (r := none) (w1 := W3) ⟨b3.os, b3.tape, b3.output, b3.size, b3.block⟩) (by simp) (fun _ e => by cases e)
          clear HSJ b2 hown own2 hcell hk3 HRF HGF HR HG b3
          generalize (s.extract j n).data.toList = el at *
          have HEL := hide hel
          have hell : el.length ≤ 45000 := by omega
          clear hel
          go_wp2_with (at_builtin; refine wpList_append_own _ rfl (.tmp 31) (.tmp 36) 37 rfl w.heap.size 5 i0 (.int .u8 0) 1 1 Tryz.underlying37 hi0 hz0 hz1 hz2 rfl (by decide) _ _ _ rfl own3 ⟨w2.heap.size, 0, none⟩ el.length cap3 (Lib.byteCells el) rfl (by rw [Lib.byteCells_length]; omega) (by exact unhide HCELL) (one_bytes _) (by rw [Lib.byteCells_length]; unfold maxLen; omega) (by rw [Lib.byteCells_length]; omega) (by omega) ?_)
          intro v4 w4 own4 hg4 _
          have own4' := own_step (m := el) own4 rfl rfl
          have HG4 : Hid (w.grownBy w4 (some rb)) := ⟨hg4.os.trans (unhide HG3).os, hg4.tape.trans (unhide HG3).tape, hg4.output.trans (unhide HG3).output, Nat.le_trans (unhide HG3).size hg4.size, fun k hk hne => (hg4.block k (Nat.lt_of_lt_of_le hk (unhide HG3).size) (fun e => by have := (own3.lt k e.symm).1; omega)).trans ((unhide HG3).block k hk hne)⟩
          have HR4 : Hid (RdIs w4 B rb) := (unhide HR3).grown hg4 (fun e => by have := (own3.lt rb e.symm).1; omega) (fun k e => by have := (own3.lt k e).1; have := unhide HB0; omega)
          have HQ : Hid ((acc ++ el).length ≤ 8 * n) := by show _ ≤ _; rw [List.length_append, unhide HEL]; have := unhide HA; omega
          clear own4 hg4 own3 HCELL hcv HG3 HR3 HEL
          go_wp2
          go_roundw
          all_goals first
            | exact ⟨n, acc ++ el, by go_num, by omega, unhide HQ, own4', unhide HR4, unhide HG4⟩
            | (simp [intOf]; omega)
      · have f34 : ((s[j].toNat : Int) == 34) = false := by rw [beq_eq_false_iff_ne]; omega
        have HNX := hide (unhide HN wr (unhide HR))
        clear HN HSTR
        obtain ⟨c, hcc⟩ : ∃ c, s[j].toNat = c := ⟨_, rfl⟩
        have hc256 : c < 256 := by rw [← hcc]; exact UInt8.toNat_lt _
        rw [hcc] at f34
        go_wp2_with fail
        refine (unhide HNX).mono ?_
        rintro e w2 ⟨x, hx, rfl, r2, g2⟩
        have hx7 : (x : Int) % 7 = ((x % 7 : Nat) : Int) := by omega
        have hx6 : x % 7 ≤ 6 := by omega
        have hx6I : ((x % 7 : Nat) : Int) ≤ 6 := by omega
        have HR2 := hide r2
        have HG2 := hide (grownBy_trans (unhide HG) g2)
        have own2 : w2.ownsRow w.heap.size 5 1 u5 (Lib.byteCells acc).length (Lib.byteCells acc) := hown.kept g2 (.inr (fun e => by have := (hown.lt rb e).1; omega))
        generalize x % 7 = y at *
        clear hb c34 hcc
        by_cases hbr : c = 91 ∨ c = 93 ∨ c = 123 ∨ c = 125 ∨ c = 44 ∨ c = 58
        · rcases hbr with h | h | h | h | h | h
          · have f91 : ((c : Int) == 91) = true := by rw [beq_iff_eq]; omega
            clear h
            obtain ⟨cap3, W3, hcv, hcell, b3, hk3, hs3⟩ := conv_any w2 ((⟨#[10, 9, 32, 13, 32, 32]⟩ : ByteArray).extract 0 y)
            have own3 := hk3 _ _ _ _ _ own2
            have hel : ((⟨#[10, 9, 32, 13, 32, 32]⟩ : ByteArray).extract 0 y).data.toList.length ≤ 6 := by
              have z6 : (⟨#[10, 9, 32, 13, 32, 32]⟩ : ByteArray).size = 6 := rfl
              rw [data_len]; simp; omega
            have HCELL := hide hcell
            have HG3 := hide (grownBy_trans (unhide HG2) (grownBy_below (r := some rb) (w1 := W3) ⟨b3.os, b3.tape, b3.output, b3.size, b3.block⟩))
            have HR3 : Hid (RdIs W3 B rb) := (unhide HR2).grown (grownBy_below (r := none) (w1 := W3) ⟨b3.os, b3.tape, b3.output, b3.size, b3.block⟩) (by simp) (fun _ e => by cases e)
            have hz2w := (unhide HG2).size
            clear hcell hk3 b3 HNX own2 HR2 HG2 r2 g2 HR HG
            generalize ((⟨#[10, 9, 32, 13, 32, 32]⟩ : ByteArray).extract 0 y).data.toList = el at *
            go_wp2_with (at_builtin; refine wpList_append_own _ rfl (.tmp 68) (.tmp 70) 37 rfl w.heap.size 5 i0 (.int .u8 0) 1 1 Tryz.underlying37 hi0 hz0 hz1 hz2 rfl (by decide) _ _ _ rfl own3 ⟨w2.heap.size, 0, none⟩ el.length cap3 (Lib.byteCells el) rfl (by rw [Lib.byteCells_length]; omega) (by exact unhide HCELL) (one_bytes _) (by rw [Lib.byteCells_length]; unfold maxLen; omega) (by rw [Lib.byteCells_length]; omega) (by omega) ?_)
            intro v4 w4 own4 hg4 _
            have own4' := own_step (m := el) own4 rfl rfl
            have HG4 : Hid (w.grownBy w4 (some rb)) := ⟨hg4.os.trans (unhide HG3).os, hg4.tape.trans (unhide HG3).tape, hg4.output.trans (unhide HG3).output, Nat.le_trans (unhide HG3).size hg4.size, fun k hk hne => (hg4.block k (Nat.lt_of_lt_of_le hk (unhide HG3).size) (fun e => by have := (own3.lt k e.symm).1; omega)).trans ((unhide HG3).block k hk hne)⟩
            have HR4 : Hid (RdIs w4 B rb) := (unhide HR3).grown hg4 (fun e => by have := (own3.lt rb e.symm).1; omega) (fun k e => by have := (own3.lt k e).1; have := unhide HB0; omega)
            have hz4w := (unhide HG4).size
            have hal4 : (acc ++ el).length ≤ 360010 := by rw [List.length_append]; omega
            have HAL : Hid ((acc ++ el).length ≤ 8 * j + 6) := by show _ ≤ _; rw [List.length_append]; have := unhide HA; omega
            clear own4 hg4 own3 HCELL hcv HG3 HR3
            generalize acc ++ el = acc4 at *
            have HG5 : Hid (w.grownBy (w4.alloc (.cells #[.int .u8 (c : Int), .int .u8 32] 5)) (some rb)) := grownBy_trans (unhide HG4) (World.grownBy_alloc w4 _ _)
            have HR5 : Hid (RdIs (w4.alloc (.cells #[.int .u8 (c : Int), .int .u8 32] 5)) B rb) := (unhide HR4).grown (World.grownBy_alloc w4 _ none) (by simp) (fun _ e => by cases e)
            have own5 := own4'.alloc (.cells #[.int .u8 (c : Int), .int .u8 32] 5)
            go_wp2_with (at_builtin; refine wpList_append_own _ rfl (.tmp 72) (.tmp 74) 37 rfl w.heap.size 5 i0 (.int .u8 0) 1 1 Tryz.underlying37 hi0 hz0 hz1 hz2 rfl (by decide) _ _ _ rfl own5 ⟨w4.heap.size, 0, none⟩ 2 2 [.int .u8 (c : Int), .int .u8 32] rfl rfl (lit2 _ _ _ _) (one2 _ _ _) (by rw [Lib.byteCells_length]; unfold maxLen; omega) (by rw [Lib.byteCells_length]; omega) (by simp; omega) ?_)
            intro v6 w6 own6 hg6 _
            have own6' := own_step (m := [UInt8.ofNat c, 32]) own6 (by simp [Lib.byteCells, Nat.mod_eq_of_lt hc256]) rfl
            have HG6 : Hid (w.grownBy w6 (some rb)) := ⟨hg6.os.trans (unhide HG5).os, hg6.tape.trans (unhide HG5).tape, hg6.output.trans (unhide HG5).output, Nat.le_trans (unhide HG5).size hg6.size, fun k hk hne => (hg6.block k (Nat.lt_of_lt_of_le hk (unhide HG5).size) (fun e => by have := (own5.lt k e.symm).1; omega)).trans ((unhide HG5).block k hk hne)⟩
            have HR6 : Hid (RdIs w6 B rb) := (unhide HR5).grown hg6 (fun e => by have := (own5.lt rb e.symm).1; omega) (fun k e => by have := (own5.lt k e).1; have := unhide HB0; omega)
            have HQ : Hid ((acc4 ++ [UInt8.ofNat c, 32]).length ≤ 8 * (j + 1)) := by show _ ≤ _; rw [List.length_append]; have := unhide HAL; simp; omega
            clear own6 hg6 own5 own4' HG5 HR5 HG4 HR4
            go_wp2
            go_roundw
            all_goals first
              | exact ⟨j + 1, acc4 ++ [UInt8.ofNat c, 32], by go_num, by omega, unhide HQ, own6', unhide HR6, unhide HG6⟩
              | (simp [intOf]; omega)
          · have f91 : ((c : Int) == 91) = false := by rw [beq_eq_false_iff_ne]; omega
            have f93 : ((c : Int) == 93) = true := by rw [beq_iff_eq]; omega
            clear h
            obtain ⟨cap3, W3, hcv, hcell, b3, hk3, hs3⟩ := conv_any w2 ((⟨#[10, 9, 32, 13, 32, 32]⟩ : ByteArray).extract 0 y)
            have own3 := hk3 _ _ _ _ _ own2
            have hel : ((⟨#[10, 9, 32, 13, 32, 32]⟩ : ByteArray).extract 0 y).data.toList.length ≤ 6 := by
              have z6 : (⟨#[10, 9, 32, 13, 32, 32]⟩ : ByteArray).size = 6 := rfl
              rw [data_len]; simp; omega
            have HCELL := hide hcell
            have HG3 := hide (grownBy_trans (unhide HG2) (grownBy_below (r := some rb) (w1 := W3) ⟨b3.os, b3.tape, b3.output, b3.size, b3.block⟩))
            have HR3 : Hid (RdIs W3 B rb) := (unhide HR2).grown (grownBy_below (r := none) (w1 := W3) ⟨b3.os, b3.tape, b3.output, b3.size, b3.block⟩) (by simp) (fun _ e => by cases e)
            have hz2w := (unhide HG2).size
            clear hcell hk3 b3 HNX own2 HR2 HG2 r2 g2 HR HG
            generalize ((⟨#[10, 9, 32, 13, 32, 32]⟩ : ByteArray).extract 0 y).data.toList = el at *
            go_wp2_with (at_builtin; refine wpList_append_own _ rfl (.tmp 68) (.tmp 70) 37 rfl w.heap.size 5 i0 (.int .u8 0) 1 1 Tryz.underlying37 hi0 hz0 hz1 hz2 rfl (by decide) _ _ _ rfl own3 ⟨w2.heap.size, 0, none⟩ el.length cap3 (Lib.byteCells el) rfl (by rw [Lib.byteCells_length]; omega) (by exact unhide HCELL) (one_bytes _) (by rw [Lib.byteCells_length]; unfold maxLen; omega) (by rw [Lib.byteCells_length]; omega) (by omega) ?_)
            intro v4 w4 own4 hg4 _
            have own4' := own_step (m := el) own4 rfl rfl
            have HG4 : Hid (w.grownBy w4 (some rb)) := ⟨hg4.os.trans (unhide HG3).os, hg4.tape.trans (unhide HG3).tape, hg4.output.trans (unhide HG3).output, Nat.le_trans (unhide HG3).size hg4.size, fun k hk hne => (hg4.block k (Nat.lt_of_lt_of_le hk (unhide HG3).size) (fun e => by have := (own3.lt k e.symm).1; omega)).trans ((unhide HG3).block k hk hne)⟩
            have HR4 : Hid (RdIs w4 B rb) := (unhide HR3).grown hg4 (fun e => by have := (own3.lt rb e.symm).1; omega) (fun k e => by have := (own3.lt k e).1; have := unhide HB0; omega)
            have hz4w := (unhide HG4).size
            have hal4 : (acc ++ el).length ≤ 360010 := by rw [List.length_append]; omega
            have HAL : Hid ((acc ++ el).length ≤ 8 * j + 6) := by show _ ≤ _; rw [List.length_append]; have := unhide HA; omega
            clear own4 hg4 own3 HCELL hcv HG3 HR3
            generalize acc ++ el = acc4 at *
            have HG5 : Hid (w.grownBy (w4.alloc (.cells #[.int .u8 (c : Int), .int .u8 32] 5)) (some rb)) := grownBy_trans (unhide HG4) (World.grownBy_alloc w4 _ _)
            have HR5 : Hid (RdIs (w4.alloc (.cells #[.int .u8 (c : Int), .int .u8 32] 5)) B rb) := (unhide HR4).grown (World.grownBy_alloc w4 _ none) (by simp) (fun _ e => by cases e)
            have own5 := own4'.alloc (.cells #[.int .u8 (c : Int), .int .u8 32] 5)
            go_wp2_with (at_builtin; refine wpList_append_own _ rfl (.tmp 72) (.tmp 74) 37 rfl w.heap.size 5 i0 (.int .u8 0) 1 1 Tryz.underlying37 hi0 hz0 hz1 hz2 rfl (by decide) _ _ _ rfl own5 ⟨w4.heap.size, 0, none⟩ 2 2 [.int .u8 (c : Int), .int .u8 32] rfl rfl (lit2 _ _ _ _) (one2 _ _ _) (by rw [Lib.byteCells_length]; unfold maxLen; omega) (by rw [Lib.byteCells_length]; omega) (by simp; omega) ?_)
            intro v6 w6 own6 hg6 _
            have own6' := own_step (m := [UInt8.ofNat c, 32]) own6 (by simp [Lib.byteCells, Nat.mod_eq_of_lt hc256]) rfl
            have HG6 : Hid (w.grownBy w6 (some rb)) := ⟨hg6.os.trans (unhide HG5).os, hg6.tape.trans (unhide HG5).tape, hg6.output.trans (unhide HG5).output, Nat.le_trans (unhide HG5).size hg6.size, fun k hk hne => (hg6.block k (Nat.lt_of_lt_of_le hk (unhide HG5).size) (fun e => by have := (own5.lt k e.symm).1; omega)).trans ((unhide HG5).block k hk hne)⟩
            have HR6 : Hid (RdIs w6 B rb) := (unhide HR5).grown hg6 (fun e => by have := (own5.lt rb e.symm).1; omega) (fun k e => by have := (own5.lt k e).1; have := unhide HB0; omega)
            have HQ : Hid ((acc4 ++ [UInt8.ofNat c, 32]).length ≤ 8 * (j + 1)) := by show _ ≤ _; rw [List.length_append]; have := unhide HAL; simp; omega
            clear own6 hg6 own5 own4' HG5 HR5 HG4 HR4
            go_wp2
            go_roundw
            all_goals first
              | exact ⟨j + 1, acc4 ++ [UInt8.ofNat c, 32], by go_num, by omega, unhide HQ, own6', unhide HR6, unhide HG6⟩
              | (simp [intOf]; omega)
          · have f91 : ((c : Int) == 91) = false := by rw [beq_eq_false_iff_ne]; omega
            have f93 : ((c : Int) == 93) = false := by rw [beq_eq_false_iff_ne]; omega
            have f123 : ((c : Int) == 123) = true := by rw [beq_iff_eq]; omega
            clear h
            obtain ⟨cap3, W3, hcv, hcell, b3, hk3, hs3⟩ := conv_any w2 ((⟨#[10, 9, 32, 13, 32, 32]⟩ : ByteArray).extract 0 y)
            have own3 := hk3 _ _ _ _ _ own2
            have hel : ((⟨#[10, 9, 32, 13, 32, 32]⟩ : ByteArray).extract 0 y).data.toList.length ≤ 6 := by
              have z6 : (⟨#[10, 9, 32, 13, 32, 32]⟩ : ByteArray).size = 6 := rfl
              rw [data_len]; simp; omega
            have HCELL := hide hcell
            have HG3 := hide (grownBy_trans (unhide HG2) (grownBy_below (r := some rb) (w1 := W3) ⟨b3.os, b3.tape, b3.output, b3.size, b3.block⟩))
            have HR3 : Hid (RdIs W3 B rb) := (unhide HR2).grown (grownBy_below (r := none) (w1 := W3) ⟨b3.os, b3.tape, b3.output, b3.size, b3.block⟩) (by simp) (fun _ e => by cases e)
            have hz2w := (unhide HG2).size
            clear hcell hk3 b3 HNX own2 HR2 HG2 r2 g2 HR HG
            generalize ((⟨#[10, 9, 32, 13, 32, 32]⟩ : ByteArray).extract 0 y).data.toList = el at *
            go_wp2_with (at_builtin; refine wpList_append_own _ rfl (.tmp 68) (.tmp 70) 37 rfl w.heap.size 5 i0 (.int .u8 0) 1 1 Tryz.underlying37 hi0 hz0 hz1 hz2 rfl (by decide) _ _ _ rfl own3 ⟨w2.heap.size, 0, none⟩ el.length cap3 (Lib.byteCells el) rfl (by rw [Lib.byteCells_length]; omega) (by exact unhide HCELL) (one_bytes _) (by rw [Lib.byteCells_length]; unfold maxLen; omega) (by rw [Lib.byteCells_length]; omega) (by omega) ?_)
            intro v4 w4 own4 hg4 _
            have own4' := own_step (m := el) own4 rfl rfl
            have HG4 : Hid (w.grownBy w4 (some rb)) := ⟨hg4.os.trans (unhide HG3).os, hg4.tape.trans (unhide HG3).tape, hg4.output.trans (unhide HG3).output, Nat.le_trans (unhide HG3).size hg4.size, fun k hk hne => (hg4.block k (Nat.lt_of_lt_of_le hk (unhide HG3).size) (fun e => by have := (own3.lt k e.symm).1; omega)).trans ((unhide HG3).block k hk hne)⟩
            have HR4 : Hid (RdIs w4 B rb) := (unhide HR3).grown hg4 (fun e => by have := (own3.lt rb e.symm).1; omega) (fun k e => by have := (own3.lt k e).1; have := unhide HB0; omega)
            have hz4w := (unhide HG4).size
            have hal4 : (acc ++ el).length ≤ 360010 := by rw [List.length_append]; omega
            have HAL : Hid ((acc ++ el).length ≤ 8 * j + 6) := by show _ ≤ _; rw [List.length_append]; have := unhide HA; omega
            clear own4 hg4 own3 HCELL hcv HG3 HR3
            generalize acc ++ el = acc4 at *
            have HG5 : Hid (w.grownBy (w4.alloc (.cells #[.int .u8 (c : Int), .int .u8 32] 5)) (some rb)) := grownBy_trans (unhide HG4) (World.grownBy_alloc w4 _ _)
            have HR5 : Hid (RdIs (w4.alloc (.cells #[.int .u8 (c : Int), .int .u8 32] 5)) B rb) := (unhide HR4).grown (World.grownBy_alloc w4 _ none) (by simp) (fun _ e => by cases e)
            have own5 := own4'.alloc (.cells #[.int .u8 (c : Int), .int .u8 32] 5)
            go_wp2_with (at_builtin; refine wpList_append_own _ rfl (.tmp 72) (.tmp 74) 37 rfl w.heap.size 5 i0 (.int .u8 0) 1 1 Tryz.underlying37 hi0 hz0 hz1 hz2 rfl (by decide) _ _ _ rfl own5 ⟨w4.heap.size, 0, none⟩ 2 2 [.int .u8 (c : Int), .int .u8 32] rfl rfl (lit2 _ _ _ _) (one2 _ _ _) (by rw [Lib.byteCells_length]; unfold maxLen; omega) (by rw [Lib.byteCells_length]; omega) (by simp; omega) ?_)
            intro v6 w6 own6 hg6 _
            have own6' := own_step (m := [UInt8.ofNat c, 32]) own6 (by simp [Lib.byteCells, Nat.mod_eq_of_lt hc256]) rfl
            have HG6 : Hid (w.grownBy w6 (some rb)) := ⟨hg6.os.trans (unhide HG5).os, hg6.tape.trans (unhide HG5).tape, hg6.output.trans (unhide HG5).output, Nat.le_trans (unhide HG5).size hg6.size, fun k hk hne => (hg6.block k (Nat.lt_of_lt_of_le hk (unhide HG5).size) (fun e => by have := (own5.lt k e.symm).1; omega)).trans ((unhide HG5).block k hk hne)⟩
            have HR6 : Hid (RdIs w6 B rb) := (unhide HR5).grown hg6 (fun e => by have := (own5.lt rb e.symm).1; omega) (fun k e => by have := (own5.lt k e).1; have := unhide HB0; omega)
            have HQ : Hid ((acc4 ++ [UInt8.ofNat c, 32]).length ≤ 8 * (j + 1)) := by show _ ≤ _; rw [List.length_append]; have := unhide HAL; simp; omega
            clear own6 hg6 own5 own4' HG5 HR5 HG4 HR4
            go_wp2
            go_roundw
            all_goals first
              | exact ⟨j + 1, acc4 ++ [UInt8.ofNat c, 32], by go_num, by omega, unhide HQ, own6', unhide HR6, unhide HG6⟩
              | (simp [intOf]; omega)
          · have f91 : ((c : Int) == 91) = false := by rw [beq_eq_false_iff_ne]; omega
            have f93 : ((c : Int) == 93) = false := by rw [beq_eq_false_iff_ne]; omega
            have f123 : ((c : Int) == 123) = false := by rw [beq_eq_false_iff_ne]; omega
            have f125 : ((c : Int) == 125) = true := by rw [beq_iff_eq]; omega
            clear h
            obtain ⟨cap3, W3, hcv, hcell, b3, hk3, hs3⟩ := conv_any w2 ((⟨#[10, 9, 32, 13, 32, 32]⟩ : ByteArray).extract 0 y)
            have own3 := hk3 _ _ _ _ _ own2
            have hel : ((⟨#[10, 9, 32, 13, 32, 32]⟩ : ByteArray).extract 0 y).data.toList.length ≤ 6 := by
              have z6 : (⟨#[10, 9, 32, 13, 32, 32]⟩ : ByteArray).size = 6 := rfl
              rw [data_len]; simp; omega
            have HCELL := hide hcell
            have HG3 := hide (grownBy_trans (unhide HG2) (grownBy_below (r := some rb) (w1 := W3) ⟨b3.os, b3.tape, b3.output, b3.size, b3.block⟩))
            have HR3 : Hid (RdIs W3 B rb) := (unhide HR2).grown (grownBy_below (r := none) (w1 := W3) ⟨b3.os, b3.tape, b3.output, b3.size, b3.block⟩) (by simp) (fun _ e => by cases e)
            have hz2w := (unhide HG2).size
            clear hcell hk3 b3 HNX own2 HR2 HG2 r2 g2 HR HG
            generalize ((⟨#[10, 9, 32, 13, 32, 32]⟩ : ByteArray).extract 0 y).data.toList = el at *
            go_wp2_with (at_builtin; refine wpList_append_own _ rfl (.tmp 68) (.tmp 70) 37 rfl w.heap.size 5 i0 (.int .u8 0) 1 1 Tryz.underlying37 hi0 hz0 hz1 hz2 rfl (by decide) _ _ _ rfl own3 ⟨w2.heap.size, 0, none⟩ el.length cap3 (Lib.byteCells el) rfl (by rw [Lib.byteCells_length]; omega) (by exact unhide HCELL) (one_bytes _) (by rw [Lib.byteCells_length]; unfold maxLen; omega) (by rw [Lib.byteCells_length]; omega) (by omega) ?_)
            intro v4 w4 own4 hg4 _
            have own4' := own_step (m := el) own4 rfl rfl
            have HG4 : Hid (w.grownBy w4 (some rb)) := ⟨hg4.os.trans (unhide HG3).os, hg4.tape.trans (unhide HG3).tape, hg4.output.trans (unhide HG3).output, Nat.le_trans (unhide HG3).size hg4.size, fun k hk hne => (hg4.block k (Nat.lt_of_lt_of_le hk (unhide HG3).size) (fun e => by have := (own3.lt k e.symm).1; omega)).trans ((unhide HG3).block k hk hne)⟩
            have HR4 : Hid (RdIs w4 B rb) := (unhide HR3).grown hg4 (fun e => by have := (own3.lt rb e.symm).1; omega) (fun k e => by have := (own3.lt k e).1; have := unhide HB0; omega)
            have hz4w := (unhide HG4).size
            have hal4 : (acc ++ el).length ≤ 360010 := by rw [List.length_append]; omega
            have HAL : Hid ((acc ++ el).length ≤ 8 * j + 6) := by show _ ≤ _; rw [List.length_append]; have := unhide HA; omega
            clear own4 hg4 own3 HCELL hcv HG3 HR3
            generalize acc ++ el = acc4 at *
            have HG5 : Hid (w.grownBy (w4.alloc (.cells #[.int .u8 (c : Int), .int .u8 32] 5)) (some rb)) := grownBy_trans (unhide HG4) (World.grownBy_alloc w4 _ _)
            have HR5 : Hid (RdIs (w4.alloc (.cells #[.int .u8 (c : Int), .int .u8 32] 5)) B rb) := (unhide HR4).grown (World.grownBy_alloc w4 _ none) (by simp) (fun _ e => by cases e)
            have own5 := own4'.alloc (.cells #[.int .u8 (c : Int), .int .u8 32] 5)
            go_wp2_with (at_builtin; refine wpList_append_own _ rfl (.tmp 72) (.tmp 74) 37 rfl w.heap.size 5 i0 (.int .u8 0) 1 1 Tryz.underlying37 hi0 hz0 hz1 hz2 rfl (by decide) _ _ _ rfl own5 ⟨w4.heap.size, 0, none⟩ 2 2 [.int .u8 (c : Int), .int .u8 32] rfl rfl (lit2 _ _ _ _) (one2 _ _ _) (by rw [Lib.byteCells_length]; unfold maxLen; omega) (by rw [Lib.byteCells_length]; omega) (by simp; omega) ?_)
            intro v6 w6 own6 hg6 _
            have own6' := own_step (m := [UInt8.ofNat c, 32]) own6 (by simp [Lib.byteCells, Nat.mod_eq_of_lt hc256]) rfl
            have HG6 : Hid (w.grownBy w6 (some rb)) := ⟨hg6.os.trans (unhide HG5).os, hg6.tape.trans (unhide HG5).tape, hg6.output.trans (unhide HG5).output, Nat.le_trans (unhide HG5).size hg6.size, fun k hk hne => (hg6.block k (Nat.lt_of_lt_of_le hk (unhide HG5).size) (fun e => by have := (own5.lt k e.symm).1; omega)).trans ((unhide HG5).block k hk hne)⟩
            have HR6 : Hid (RdIs w6 B rb) := (unhide HR5).grown hg6 (fun e => by have := (own5.lt rb e.symm).1; omega) (fun k e => by have := (own5.lt k e).1; have := unhide HB0; omega)
            have HQ : Hid ((acc4 ++ [UInt8.ofNat c, 32]).length ≤ 8 * (j + 1)) := by show _ ≤ _; rw [List.length_append]; have := unhide HAL; simp; omega
            clear own6 hg6 own5 own4' HG5 HR5 HG4 HR4
            go_wp2
            go_roundw
            all_goals first
              | exact ⟨j + 1, acc4 ++ [UInt8.ofNat c, 32], by go_num, by omega, unhide HQ, own6', unhide HR6, unhide HG6⟩
              | (simp [intOf]; omega)
          · have f91 : ((c : Int) == 91) = false := by rw [beq_eq_false_iff_ne]; omega
            have f93 : ((c : Int) == 93) = false := by rw [beq_eq_false_iff_ne]; omega
            have f123 : ((c : Int) == 123) = false := by rw [beq_eq_false_iff_ne]; omega
            have f125 : ((c : Int) == 125) = false := by rw [beq_eq_false_iff_ne]; omega
            have f44 : ((c : Int) == 44) = true := by rw [beq_iff_eq]; omega
            clear h
            obtain ⟨cap3, W3, hcv, hcell, b3, hk3, hs3⟩ := conv_any w2 ((⟨#[10, 9, 32, 13, 32, 32]⟩ : ByteArray).extract 0 y)
            have own3 := hk3 _ _ _ _ _ own2
            have hel : ((⟨#[10, 9, 32, 13, 32, 32]⟩ : ByteArray).extract 0 y).data.toList.length ≤ 6 := by
              have z6 : (⟨#[10, 9, 32, 13, 32, 32]⟩ : ByteArray).size = 6 := rfl
              rw [data_len]; simp; omega
            have HCELL := hide hcell
            have HG3 := hide (grownBy_trans (unhide HG2) (grownBy_below (r := some rb) (w1 := W3) ⟨b3.os, b3.tape, b3.output, b3.size, b3.block⟩))
            have HR3 : Hid (RdIs W3 B rb) := (unhide HR2).grown (grownBy_below (r := none) (w1 := W3) ⟨b3.os, b3.tape, b3.output, b3.size, b3.block⟩) (by simp) (fun _ e => by cases e)
            have hz2w := (unhide HG2).size
            clear hcell hk3 b3 HNX own2 HR2 HG2 r2 g2 HR HG
            generalize ((⟨#[10, 9, 32, 13, 32, 32]⟩ : ByteArray).extract 0 y).data.toList = el at *
            go_wp2_with (at_builtin; refine wpList_append_own _ rfl (.tmp 68) (.tmp 70) 37 rfl w.heap.size 5 i0 (.int .u8 0) 1 1 Tryz.underlying37 hi0 hz0 hz1 hz2 rfl (by decide) _ _ _ rfl own3 ⟨w2.heap.size, 0, none⟩ el.length cap3 (Lib.byteCells el) rfl (by rw [Lib.byteCells_length]; omega) (by exact unhide HCELL) (one_bytes _) (by rw [Lib.byteCells_length]; unfold maxLen; omega) (by rw [Lib.byteCells_length]; omega) (by omega) ?_)
            intro v4 w4 own4 hg4 _
            have own4' := own_step (m := el) own4 rfl rfl
            have HG4 : Hid (w.grownBy w4 (some rb)) := ⟨hg4.os.trans (unhide HG3).os, hg4.tape.trans (unhide HG3).tape, hg4.output.trans (unhide HG3).output, Nat.le_trans (unhide HG3).size hg4.size, fun k hk hne => (hg4.block k (Nat.lt_of_lt_of_le hk (unhide HG3).size) (fun e => by have := (own3.lt k e.symm).1; omega)).trans ((unhide HG3).block k hk hne)⟩
            have HR4 : Hid (RdIs w4 B rb) := (unhide HR3).grown hg4 (fun e => by have := (own3.lt rb e.symm).1; omega) (fun k e => by have := (own3.lt k e).1; have := unhide HB0; omega)
            have hz4w := (unhide HG4).size
            have hal4 : (acc ++ el).length ≤ 360010 := by rw [List.length_append]; omega
            have HAL : Hid ((acc ++ el).length ≤ 8 * j + 6) := by show _ ≤ _; rw [List.length_append]; have := unhide HA; omega
            clear own4 hg4 own3 HCELL hcv HG3 HR3
            generalize acc ++ el = acc4 at *
            have HG5 : Hid (w.grownBy (w4.alloc (.cells #[.int .u8 (c : Int), .int .u8 32] 5)) (some rb)) := grownBy_trans (unhide HG4) (World.grownBy_alloc w4 _ _)
            have HR5 : Hid (RdIs (w4.alloc (.cells #[.int .u8 (c : Int), .int .u8 32] 5)) B rb) := (unhide HR4).grown (World.grownBy_alloc w4 _ none) (by simp) (fun _ e => by cases e)
            have own5 := own4'.alloc (.cells #[.int .u8 (c : Int), .int .u8 32] 5)
            go_wp2_with (at_builtin; refine wpList_append_own _ rfl (.tmp 72) (.tmp 74) 37 rfl w.heap.size 5 i0 (.int .u8 0) 1 1 Tryz.underlying37 hi0 hz0 hz1 hz2 rfl (by decide) _ _ _ rfl own5 ⟨w4.heap.size, 0, none⟩ 2 2 [.int .u8 (c : Int), .int .u8 32] rfl rfl (lit2 _ _ _ _) (one2 _ _ _) (by rw [Lib.byteCells_length]; unfold maxLen; omega) (by rw [Lib.byteCells_length]; omega) (by simp; omega) ?_)
            intro v6 w6 own6 hg6 _
            have own6' := own_step (m := [UInt8.ofNat c, 32]) own6 (by simp [Lib.byteCells, Nat.mod_eq_of_lt hc256]) rfl
            have HG6 : Hid (w.grownBy w6 (some rb)) := ⟨hg6.os.trans (unhide HG5).os, hg6.tape.trans (unhide HG5).tape, hg6.output.trans (unhide HG5).output, Nat.le_trans (unhide HG5).size hg6.size, fun k hk hne => (hg6.block k (Nat.lt_of_lt_of_le hk (unhide HG5).size) (fun e => by have := (own5.lt k e.symm).1; omega)).trans ((unhide HG5).block k hk hne)⟩
            have HR6 : Hid (RdIs w6 B rb) := (unhide HR5).grown hg6 (fun e => by have := (own5.lt rb e.symm).1; omega) (fun k e => by have := (own5.lt k e).1; have := unhide HB0; omega)
            have HQ : Hid ((acc4 ++ [UInt8.ofNat c, 32]).length ≤ 8 * (j + 1)) := by show _ ≤ _; rw [List.length_append]; have := unhide HAL; simp; omega
            clear own6 hg6 own5 own4' HG5 HR5 HG4 HR4
            go_wp2
            go_roundw
            all_goals first
              | exact ⟨j + 1, acc4 ++ [UInt8.ofNat c, 32], by go_num, by omega, unhide HQ, own6', unhide HR6, unhide HG6⟩
              | (simp [intOf]; omega)
          · have f91 : ((c : Int) == 91) = false := by rw [beq_eq_false_iff_ne]; omega
            have f93 : ((c : Int) == 93) = false := by rw [beq_eq_false_iff_ne]; omega
            have f123 : ((c : Int) == 123) = false := by rw [beq_eq_false_iff_ne]; omega
            have f125 : ((c : Int) == 125) = false := by rw [beq_eq_false_iff_ne]; omega
            have f44 : ((c : Int) == 44) = false := by rw [beq_eq_false_iff_ne]; omega
            have f58 : ((c : Int) == 58) = true := by rw [beq_iff_eq]; omega
            clear h
            obtain ⟨cap3, W3, hcv, hcell, b3, hk3, hs3⟩ := conv_any w2 ((⟨#[10, 9, 32, 13, 32, 32]⟩ : ByteArray).extract 0 y)
            have own3 := hk3 _ _ _ _ _ own2
            have hel : ((⟨#[10, 9, 32, 13, 32, 32]⟩ : ByteArray).extract 0 y).data.toList.length ≤ 6 := by
              have z6 : (⟨#[10, 9, 32, 13, 32, 32]⟩ : ByteArray).size = 6 := rfl
              rw [data_len]; simp; omega
            have HCELL := hide hcell
            have HG3 := hide (grownBy_trans (unhide HG2) (grownBy_below (r := some rb) (w1 := W3) ⟨b3.os, b3.tape, b3.output, b3.size, b3.block⟩))
            have HR3 : Hid (RdIs W3 B rb) := (unhide HR2).grown (grownBy_below (r := none) (w1 := W3) ⟨b3.os, b3.tape, b3.output, b3.size, b3.block⟩) (by simp) (fun _ e => by cases e)
            have hz2w := (unhide HG2).size
            clear hcell hk3 b3 HNX own2 HR2 HG2 r2 g2 HR HG
            generalize ((⟨#[10, 9, 32, 13, 32, 32]⟩ : ByteArray).extract 0 y).data.toList = el at *
            go_wp2_with (at_builtin; refine wpList_append_own _ rfl (.tmp 68) (.tmp 70) 37 rfl w.heap.size 5 i0 (.int .u8 0) 1 1 Tryz.underlying37 hi0 hz0 hz1 hz2 rfl (by decide) _ _ _ rfl own3 ⟨w2.heap.size, 0, none⟩ el.length cap3 (Lib.byteCells el) rfl (by rw [Lib.byteCells_length]; omega) (by exact unhide HCELL) (one_bytes _) (by rw [Lib.byteCells_length]; unfold maxLen; omega) (by rw [Lib.byteCells_length]; omega) (by omega) ?_)
            intro v4 w4 own4 hg4 _
            have own4' := own_step (m := el) own4 rfl rfl
            have HG4 : Hid (w.grownBy w4 (some rb)) := ⟨hg4.os.trans (unhide HG3).os, hg4.tape.trans (unhide HG3).tape, hg4.output.trans (unhide HG3).output, Nat.le_trans (unhide HG3).size hg4.size, fun k hk hne => (hg4.block k (Nat.lt_of_lt_of_le hk (unhide HG3).size) (fun e => by have := (own3.lt k e.symm).1; omega)).trans ((unhide HG3).block k hk hne)⟩
            have HR4 : Hid (RdIs w4 B rb) := (unhide HR3).grown hg4 (fun e => by have := (own3.lt rb e.symm).1; omega) (fun k e => by have := (own3.lt k e).1; have := unhide HB0; omega)
            have hz4w := (unhide HG4).size
            have hal4 : (acc ++ el).length ≤ 360010 := by rw [List.length_append]; omega
            have HAL : Hid ((acc ++ el).length ≤ 8 * j + 6) := by show _ ≤ _; rw [List.length_append]; have := unhide HA; omega
            clear own4 hg4 own3 HCELL hcv HG3 HR3
            generalize acc ++ el = acc4 at *
            have HG5 : Hid (w.grownBy (w4.alloc (.cells #[.int .u8 (c : Int), .int .u8 32] 5)) (some rb)) := grownBy_trans (unhide HG4) (World.grownBy_alloc w4 _ _)
            have HR5 : Hid (RdIs (w4.alloc (.cells #[.int .u8 (c : Int), .int .u8 32] 5)) B rb) := (unhide HR4).grown (World.grownBy_alloc w4 _ none) (by simp) (fun _ e => by cases e)
            have own5 := own4'.alloc (.cells #[.int .u8 (c : Int), .int .u8 32] 5)
            go_wp2_with (at_builtin; refine wpList_append_own _ rfl (.tmp 72) (.tmp 74) 37 rfl w.heap.size 5 i0 (.int .u8 0) 1 1 Tryz.underlying37 hi0 hz0 hz1 hz2 rfl (by decide) _ _ _ rfl own5 ⟨w4.heap.size, 0, none⟩ 2 2 [.int .u8 (c : Int), .int .u8 32] rfl rfl (lit2 _ _ _ _) (one2 _ _ _) (by rw [Lib.byteCells_length]; unfold maxLen; omega) (by rw [Lib.byteCells_length]; omega) (by simp; omega) ?_)
            intro v6 w6 own6 hg6 _
            have own6' := own_step (m := [UInt8.ofNat c, 32]) own6 (by simp [Lib.byteCells, Nat.mod_eq_of_lt hc256]) rfl
            have HG6 : Hid (w.grownBy w6 (some rb)) := ⟨hg6.os.trans (unhide HG5).os, hg6.tape.trans (unhide HG5).tape, hg6.output.trans (unhide HG5).output, Nat.le_trans (unhide HG5).size hg6.size, fun k hk hne => (hg6.block k (Nat.lt_of_lt_of_le hk (unhide HG5).size) (fun e => by have := (own5.lt k e.symm).1; omega)).trans ((unhide HG5).block k hk hne)⟩
            have HR6 : Hid (RdIs w6 B rb) := (unhide HR5).grown hg6 (fun e => by have := (own5.lt rb e.symm).1; omega) (fun k e => by have := (own5.lt k e).1; have := unhide HB0; omega)
            have HQ : Hid ((acc4 ++ [UInt8.ofNat c, 32]).length ≤ 8 * (j + 1)) := by show _ ≤ _; rw [List.length_append]; have := unhide HAL; simp; omega
            clear own6 hg6 own5 own4' HG5 HR5 HG4 HR4
            go_wp2
            go_roundw
            all_goals first
              | exact ⟨j + 1, acc4 ++ [UInt8.ofNat c, 32], by go_num, by omega, unhide HQ, own6', unhide HR6, unhide HG6⟩
              | (simp [intOf]; omega)
        · have f91 : ((c : Int) == 91) = false := by rw [beq_eq_false_iff_ne]; omega
          have f93 : ((c : Int) == 93) = false := by rw [beq_eq_false_iff_ne]; omega
          have f123 : ((c : Int) == 123) = false := by rw [beq_eq_false_iff_ne]; omega
          have f125 : ((c : Int) == 125) = false := by rw [beq_eq_false_iff_ne]; omega
          have f44 : ((c : Int) == 44) = false := by rw [beq_eq_false_iff_ne]; omega
          have f58 : ((c : Int) == 58) = false := by rw [beq_eq_false_iff_ne]; omega
          clear hbr
          have HG5 : Hid (w.grownBy (w2.alloc (.cells #[.int .u8 (c : Int)] 5)) (some rb)) := grownBy_trans (unhide HG2) (World.grownBy_alloc w2 _ _)
          have HR5 : Hid (RdIs (w2.alloc (.cells #[.int .u8 (c : Int)] 5)) B rb) := (unhide HR2).grown (World.grownBy_alloc w2 _ none) (by simp) (fun _ e => by cases e)
          have own5 := own2.alloc (.cells #[.int .u8 (c : Int)] 5)
          have hz2w := (unhide HG2).size
          clear HNX HR2 HG2 r2 g2 HR HG
          go_wp2_with (at_builtin; refine wpList_append_own _ rfl (.tmp 76) (.tmp 78) 37 rfl w.heap.size 5 i0 (.int .u8 0) 1 1 Tryz.underlying37 hi0 hz0 hz1 hz2 rfl (by decide) _ _ _ rfl own5 ⟨w2.heap.size, 0, none⟩ 1 1 [.int .u8 (c : Int)] rfl rfl (lit1 _ _ _) (one1 _ _) (by rw [Lib.byteCells_length]; unfold maxLen; omega) (by rw [Lib.byteCells_length]; omega) (by simp; omega) ?_)
          intro v6 w6 own6 hg6 _
          have own6' := own_step (m := [UInt8.ofNat c]) own6 (by simp [Lib.byteCells, Nat.mod_eq_of_lt hc256]) rfl
          have HG6 : Hid (w.grownBy w6 (some rb)) := ⟨hg6.os.trans (unhide HG5).os, hg6.tape.trans (unhide HG5).tape, hg6.output.trans (unhide HG5).output, Nat.le_trans (unhide HG5).size hg6.size, fun k hk hne => (hg6.block k (Nat.lt_of_lt_of_le hk (unhide HG5).size) (fun e => by have := (own5.lt k e.symm).1; omega)).trans ((unhide HG5).block k hk hne)⟩
          have HR6 : Hid (RdIs w6 B rb) := (unhide HR5).grown hg6 (fun e => by have := (own5.lt rb e.symm).1; omega) (fun k e => by have := (own5.lt k e).1; have := unhide HB0; omega)
          have HQ : Hid ((acc ++ [UInt8.ofNat c]).length ≤ 8 * (j + 1)) := by show _ ≤ _; rw [List.length_append]; have := unhide HA; simp; omega
          clear own6 hg6 own5 own2 HG5 HR5
          go_wp2
          go_roundw
          all_goals first
            | exact ⟨j + 1, acc ++ [UInt8.ofNat c], by go_num, by omega, unhide HQ, own6', unhide HR6, unhide HG6⟩
            | (simp [intOf]; omega)
    · have t1 : ((j : Int) < (s.size : Int)) = False := eq_false (by omega)
      have HQ : Hid (acc.length ≤ 8 * s.size) := by have := unhide HA; show _ ≤ _; omega
      have hcv := convert_own hown
      clear hown
      go_wp2
      go_ret
      exact ⟨acc, unhide HQ, rfl, unhide HR, unhide HG⟩
end Go.Proofs.YtocnekbedcnmgaaGreatDoor


namespace Go.Proofs.YtocnekbedcnmgaaGreatDoor
open Go.RowKit

theorem grown_setC (w : World) (rb i : Nat) (z : Value) : w.grownBy (w.setCell ⟨rb, i, none⟩ z) (some rb) :=
  ⟨rfl, rfl, rfl, by simp [World.setCell], fun k _ hne => Below.heap_setCell w ⟨rb, i, none⟩ z k (fun e => hne (by rw [e]))⟩
theorem RdIs.setP {w : World} {B rb : Nat} (h : RdIs w B rb) (z : Nat) (hz : z ≤ 300) : RdIs (w.setCell ⟨rb, 1, none⟩ (.int .i64 (z : Int))) B rb := by
  obtain ⟨a, c, p, l, bb, bo, hh, h1, h2, h3, h4, h5⟩ := h
  exact ⟨a, c, z, l, bb, bo, heap_set _ rb _ _ _ _ hh, h1, by omega, h3, h4.grown (grown_setC w rb 1 _) (fun h0 e => by have := h5 h0; injection e with e; omega), h5⟩
theorem RdIs.p1 {w : World} {B rb : Nat} (h : RdIs w B rb) : (∃ p : Int, w.cell? ⟨rb, 1, none⟩ = some (.int .i64 p)) ∧ w.frozen? ⟨rb, 1, none⟩ = false := by
  obtain ⟨a, c, p, l, bb, bo, hh, _⟩ := h
  exact ⟨⟨p, by rw [Lib.cell_of_heap hh]; rfl⟩, Lib.frozen_of_heap hh 1⟩
theorem dp_more {B rb N M : Nat} {w w' : World} {e : Ending} (h : DP B rb N w e w') (hN : N ≤ M) : DP B rb M w e w' := by
  obtain ⟨t, h1, h2⟩ := h
  exact ⟨t, by omega, h2⟩
set_option maxRecDepth 100000 in
set_option maxHeartbeats 4000000 in
theorem drawText_walk (B rb : Nat) (w : World) (h : RdIs w B rb) :
    Calls Tryz.prog 54 #[.pointer (some ⟨rb, 0, none⟩)] w (DP B rb 200000 w) := by
  have HX := hide (next_walk B rb w h)
  clear h
  go_enter Tryz.func54, Tryz.ntmps54
  go_wp2_with fail
  refine (unhide HX).mono ?_
  rintro e w1 ⟨x, hx, rfl, r1, g1⟩
  have HY := hide (next_walk B rb w1 r1)
  have HG1 := hide g1
  clear HX r1 g1
  go_wp2_with fail
  refine (unhide HY).mono ?_
  rintro e w2 ⟨y, hy, rfl, r2, g2⟩
  have HR2 := hide r2
  have HG2 := hide (grownBy_trans (unhide HG1) g2)
  clear HY r2 g2 HG1
  by_cases h19 : x % 20 = 19
  · have e : (x : Int) % 20 = 19 := by omega
    have hq : (x : Int) / 20 = ((x / 20 : Nat) : Int) := by omega
    have HL := hide (limit_walk (x / 20) y w2 (by omega) hy)
    have hqb : x / 20 ≤ 12 := by omega
    generalize x / 20 = q at *
    clear h19
    go_wp2_with fail
    refine (unhide HL).mono ?_
    rintro e w3 ⟨t, ht, rfl, b3⟩
    clear HL
    go_wp2
    go_ret
    exact dp_below (unhide HR2) (unhide HG2) (by omega) b3
  · have e19 : ((x : Int) % 20 == 19) = false := by simp only [beq_eq_false_iff_ne, ne_eq]; omega
    by_cases h38 : x % 40 = 38
    · have e : (x : Int) % 40 = 38 := by omega
      have hm : (y : Int) % 16 = ((y % 16 : Nat) : Int) := by omega
      have HO := hide (odd_walk (y % 16) w2 (by omega))
      have hmb : y % 16 ≤ 15 := by omega
      generalize y % 16 = m at *
      clear h19 h38
      go_wp2_with fail
      refine (unhide HO).mono ?_
      rintro e w3 ⟨t, ht, rfl, b3⟩
      have hts : (strOf t).size ≤ 20 := by rw [strOf_size]; exact ht
      have c1 : (9223372036854775807 < 20 + (strOf t).size) = False := eq_false (by omega)
      have c2 : (9223372036854775807 < 20 + (strOf t).size + 2) = False := eq_false (by omega)
      have HRF : Hid (RdIs w3 B rb) := (unhide HR2).grown (grownBy_below (r := none) (w1 := w3) ⟨b3.os, b3.tape, b3.output, b3.size, b3.block⟩) (by simp) (fun _ e => by cases e)
      have HGF : Hid (w.grownBy w3 (some rb)) := grownBy_trans (unhide HG2) ⟨b3.os, b3.tape, b3.output, b3.size, fun k hk _ => b3.block k hk⟩
      clear HO b3 ht
      generalize strOf t = o at *
      go_wp2
      go_ret
      refine dp_str ?_ (unhide HRF) (unhide HGF)
      simp only [ByteArray.size_append]
      change 20 + o.size + 2 ≤ 200000
      omega
    · have e38 : ((x : Int) % 40 == 38) = false := by simp only [beq_eq_false_iff_ne, ne_eq]; omega
      by_cases h18 : x % 40 = 18
      · have e : (x : Int) % 40 = 18 := by omega
        have hm : (y : Int) % 9 = ((y % 9 : Nat) : Int) := by omega
        have HO : Hid (Calls Tryz.prog 67 #[.string ⟨#[98]⟩, .int .i64 ((y % 9 : Nat) : Int)] w2 fun e w' => ∃ t : List UInt8, t.length = (y % 9) * 1 ∧ e = .returned (.string (strOf t)) ∧ Below w2.heap.size w2 w') := repeat_walk [98] (y % 9) w2 (by simp) (by omega)
        have hmb : y % 9 ≤ 8 := by omega
        generalize y % 9 = m at *
        clear h19 h38 h18
        go_wp2_with fail
        refine (unhide HO).mono ?_
        rintro e w3 ⟨t, ht, rfl, b3⟩
        have hts : (strOf t).size ≤ 8 := by rw [strOf_size]; omega
        have c1 : (9223372036854775807 < 7 + (strOf t).size) = False := eq_false (by omega)
        have c2 : (9223372036854775807 < 7 + (strOf t).size + 2) = False := eq_false (by omega)
        have HRF : Hid (RdIs w3 B rb) := (unhide HR2).grown (grownBy_below (r := none) (w1 := w3) ⟨b3.os, b3.tape, b3.output, b3.size, b3.block⟩) (by simp) (fun _ e => by cases e)
        have HGF : Hid (w.grownBy w3 (some rb)) := grownBy_trans (unhide HG2) ⟨b3.os, b3.tape, b3.output, b3.size, fun k hk _ => b3.block k hk⟩
        clear HO b3 ht
        generalize strOf t = o at *
        go_wp2
        go_ret
        refine dp_str ?_ (unhide HRF) (unhide HGF)
        simp only [ByteArray.size_append]
        change 7 + o.size + 2 ≤ 200000
        omega
      · have e18 : ((x : Int) % 40 == 18) = false := by simp only [beq_eq_false_iff_ne, ne_eq]; omega
        have HD := hide (genDoc_walk B rb w2 (unhide HR2))
        clear h19 h38 h18
        go_wp2_with fail
        refine (unhide HD).mono ?_
        rintro e w3 ⟨t, ht, rfl, r3, g3⟩
        have HG3 := hide (grownBy_trans (unhide HG2) g3)
        have hts : (strOf t).size ≤ 22000 := by rw [strOf_size]; exact ht
        have HR3 := hide r3
        clear HD HR2 HG2 g3 r3 ht
        generalize strOf t = s at *
        have h5 : (x : Int) % 5 = ((x % 5 : Nat) : Int) := by omega
        have h7 : (x : Int) % 7 = ((x % 7 : Nat) : Int) := by omega
        have h5b : x % 5 ≤ 300 := by omega
        have h7b : x % 7 ≤ 300 := by omega
        have HTAIL : Hid (∀ (u : ByteArray) (wu : World), u.size ≤ 180000 → RdIs wu B rb → w.grownBy wu (some rb) → Calls Tryz.prog 106 #[.pointer (some ⟨rb, 0, none⟩), .string u] (wu.setCell ⟨rb, 1, none⟩ (.int .i64 ((x % 7 : Nat) : Int))) (DP B rb 180020 (wu.setCell ⟨rb, 1, none⟩ (.int .i64 ((x % 7 : Nat) : Int)))) ∧ w.grownBy (wu.setCell ⟨rb, 1, none⟩ (.int .i64 ((x % 7 : Nat) : Int))) (some rb)) := fun u wu hu hr hg =>
          ⟨(change_walk B rb u _ (hr.setP _ h7b) (by omega)).mono fun e w' hd => dp_more hd (by omega), grownBy_trans hg (grown_setC _ _ _ _)⟩
        by_cases hm : y % 3 = 2
        · have em : (y : Int) % 3 = 2 := by omega
          obtain ⟨⟨p3, c3⟩, f3⟩ := (unhide HR3).p1
          have HBL := hide (blanks_walk B rb s _ ((unhide HR3).setP _ h5b) (by omega))
          have HGS := hide (grownBy_trans (unhide HG3) (grown_setC w3 rb 1 (.int .i64 ((x % 5 : Nat) : Int))))
          obtain ⟨z5, hz5⟩ : ∃ z5, x % 5 = z5 := ⟨_, rfl⟩
          rw [hz5] at h5 HBL HGS
          clear hm HR3 HG3
          go_wp2_with fail
          refine (unhide HBL).mono ?_
          rintro e w4 ⟨t4, ht4, rfl, r4, g4⟩
          have HG4 := hide (grownBy_trans (unhide HGS) g4)
          have hts4 : (strOf t4).size ≤ 180000 := by rw [strOf_size]; omega
          obtain ⟨⟨p4, c4⟩, f4⟩ := r4.p1
          have HTL := hide (unhide HTAIL (strOf t4) w4 hts4 r4 (unhide HG4))
          have HR4 := hide r4
          clear HBL HTAIL r4 g4 ht4 HGS c3 f3
          generalize strOf t4 = s4 at *
          by_cases h3 : z5 = 3
          · have e3 : (z5 : Int) = 3 := by omega
            obtain ⟨z7, hz7⟩ : ∃ z7, x % 7 = z7 := ⟨_, rfl⟩
            rw [hz7] at h7 HTL
            clear h3 hz5 hz7
            go_wp2_with fail
            refine (unhide HTL).1.mono ?_
            rintro e w5 ⟨t5, ht5, rfl, r5, g5⟩
            have HG5 := hide (grownBy_trans (unhide HTL).2 g5)
            clear HTL g5
            go_wp2
            go_ret
            exact ⟨t5, by omega, rfl, r5, unhide HG5⟩
          · have e3 : ((z5 : Int) == 3) = false := by simp only [beq_eq_false_iff_ne, ne_eq]; omega
            clear h3 hz5 HTL
            go_wp2
            go_ret
            exact dp_str (by omega) (unhide HR4) (unhide HG4)
        · have em : ((y : Int) % 3 == 2) = false := by simp only [beq_eq_false_iff_ne, ne_eq]; omega
          obtain ⟨⟨p4, c4⟩, f4⟩ := (unhide HR3).p1
          have HTL := hide (unhide HTAIL s w3 (by omega) (unhide HR3) (unhide HG3))
          obtain ⟨z5, hz5⟩ : ∃ z5, x % 5 = z5 := ⟨_, rfl⟩
          rw [hz5] at h5
          clear HTAIL hm
          by_cases h3 : z5 = 3
          · have e3 : (z5 : Int) = 3 := by omega
            obtain ⟨z7, hz7⟩ : ∃ z7, x % 7 = z7 := ⟨_, rfl⟩
            rw [hz7] at h7 HTL
            clear h3 hz5 hz7
            go_wp2_with fail
            refine (unhide HTL).1.mono ?_
            rintro e w5 ⟨t5, ht5, rfl, r5, g5⟩
            have HG5 := hide (grownBy_trans (unhide HTL).2 g5)
            clear HTL g5
            go_wp2
            go_ret
            exact ⟨t5, by omega, rfl, r5, unhide HG5⟩
          · have e3 : ((z5 : Int) == 3) = false := by simp only [beq_eq_false_iff_ne, ne_eq]; omega
            clear h3 hz5 HTL
            go_wp2
            go_ret
            exact dp_str (by omega) (unhide HR3) (unhide HG3)
set_option maxHeartbeats 800000 in
theorem drawPlaces_walk (xa : Option Addr) (xb xo xc : Nat) (l : List UInt8) (w : World) (h : BS w xa xb xo l) (hl : l.length ≤ 1048576) (hc : l.length ≤ xc) :
    Calls Tryz.prog 20 #[.slice xa l.length xc] w fun e w' => ∃ t : ByteArray, t.size ≤ 200000 ∧ e = .returned (.string t) ∧ Below w.heap.size w w' := by
  have HO := hide (open_walk xa xb xo xc l w h hl hc)
  have HD : Hid (∀ w1, RdIs w1 w.heap.size w.heap.size → Calls Tryz.prog 54 #[.pointer (some ⟨w.heap.size, 0, none⟩)] w1 (DP w.heap.size w.heap.size 200000 w1)) := fun w1 h => drawText_walk _ _ w1 h
  clear h hl hc
  go_enter Tryz.func20, Tryz.ntmps20
  go_wp2_with fail
  refine (unhide HO).mono ?_
  rintro e w1 ⟨rfl, r1, b1, z1⟩
  have HD1 := hide (unhide HD w1 r1)
  have HB1 := hide b1
  have HZ1 := hide z1
  clear HO HD r1 b1 z1
  go_wp2_with fail
  refine (unhide HD1).mono ?_
  rintro e w2 ⟨t, ht, rfl, r2, g2⟩
  have HB2 : Hid (Below w.heap.size w w2) := (unhide HB1).grown g2 (by have := unhide HZ1; omega) (fun k hk => by injection hk with hk; omega)
  clear HD1 r2 g2 HB1 HZ1
  go_wp2
  go_ret
  exact ⟨strOf t, by rw [strOf_size]; exact ht, rfl, unhide HB2⟩
end Go.Proofs.YtocnekbedcnmgaaGreatDoor


namespace Go.Proofs.YtocnekbedcnmgaaGreatDoor
open Go.RowKit

/-- The answer of Resolve. -/
def resV (s t : ByteArray) : Value := match readR s with
  | .inl _ => .tuple #[.string ⟨#[]⟩, .int .i64 1]
  | .inr v => match ptoks t.data.toList with
    | none => .tuple #[.string ⟨#[]⟩, .int .i64 2]
    | some ts => match getV v ts with
      | none => .tuple #[.string ⟨#[]⟩, .int .i64 3]
      | some u => .tuple #[.string (strOf (ct u)), .int .i64 0]
theorem mapM_mem {ps : List (List UInt8)} : ∀ {ts : List (List UInt8)}, ps.mapM unesc = some ts → ∀ t ∈ ts, ∃ p ∈ ps, unesc p = some t := by
  induction ps with
  | nil => intro ts h t ht; simp at h; subst h; simp at ht
  | cons p ps ih =>
    intro ts h t ht
    rw [mapM_cons'] at h
    cases hu : unesc p with
    | none => rw [hu] at h; simp at h
    | some q =>
      cases hm : List.mapM unesc ps with
      | none => rw [hu, hm] at h; simp at h
      | some us =>
        rw [hu, hm] at h
        simp at h
        subst h
        rcases List.mem_cons.1 ht with rfl | ht
        · exact ⟨p, List.mem_cons_self, hu⟩
        · obtain ⟨p', h1, h2⟩ := ih hm t ht
          exact ⟨p', List.mem_cons_of_mem _ h1, h2⟩
theorem unesc_len : ∀ (n : Nat) (p t : List UInt8), p.length ≤ n → unesc p = some t → t.length ≤ p.length := by
  intro n
  induction n with
  | zero => intro p t hl h; obtain rfl := List.eq_nil_of_length_eq_zero (Nat.le_zero.1 hl); simp [unesc] at h; subst h; simp
  | succ n ih =>
    intro p t hl h
    cases p with
    | nil => simp [unesc] at h; subst h; simp
    | cons c r =>
      have fin : ∀ (r' : List UInt8) (x : List UInt8), r'.length ≤ r.length → x.length = 1 → (unesc r').map (x ++ ·) = some t → t.length ≤ (c :: r).length := fun r' x hr hx hm => by
        cases hu : unesc r' with
        | none => rw [hu] at hm; simp at hm
        | some u =>
          rw [hu] at hm
          simp at hm
          have := ih r' u (by simp at hl; omega) hu
          rw [← hm]; simp; omega
      by_cases h1 : (c.toNat : Int) = 126
      · cases r with
        | nil => rw [unesc_end h1] at h; cases h
        | cons d r =>
          by_cases h2 : (d.toNat : Int) = 48
          · rw [unesc_0 r h1 h2] at h; exact fin r [126] (by simp) rfl h
          · by_cases h3 : (d.toNat : Int) = 49
            · rw [unesc_1 r h1 h3] at h; exact fin r [47] (by simp) rfl h
            · rw [unesc_bad r h1 h2 h3] at h; cases h
      · rw [unesc_lit r h1] at h; exact fin r [c] (Nat.le_refl _) rfl h
theorem ptoks_small {l : List UInt8} {ts : List (List UInt8)} (h : ptoks l = some ts) : ∀ t ∈ ts, t.length ≤ l.length := by
  intro t ht
  cases l with
  | nil => simp [ptoks] at h; subst h; simp at ht
  | cons c r =>
    rw [ptoks] at h
    split at h
    · unfold toks at h
      obtain ⟨p, hp, hu⟩ := mapM_mem h t ht
      have h1 := unesc_len _ p t (Nat.le_refl _) hu
      have h2 := pieces_size r p hp
      simp; omega
    · cases h

end Go.Proofs.YtocnekbedcnmgaaGreatDoor

