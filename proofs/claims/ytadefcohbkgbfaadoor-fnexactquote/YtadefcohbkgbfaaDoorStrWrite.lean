import Derived.Test.YtadefcohbkgbfaaDoorPiece
import Derived.Test.YtadefcohbkgbfaaDoorSpecUtf8
import Derived.Lib.RuneCount
namespace Go.Proofs.YtadefcohbkgbfaaDoor
open Go.RowKit

theorem bat_iter {T e : TypeId} {B b : Nat} {p : Value} {bs : List Value} {w : World} (h : Lib.BuilderAt T e B b p bs w) {k : Nat} {s : ByteArray} {pos : Nat} (hk : w.heap[k]? = some (.stringIter s pos)) (pos' : Nat) : Lib.BuilderAt T e B b p bs (w.iterAt k s pos') := by
  obtain ⟨hB, v, hb, hown, hne⟩ := h
  have hkb : b ≠ k := by
    intro e1
    rw [e1, hk] at hb
    cases hb
  refine ⟨hB, v, (Lib.iterAt_other w k b s pos' hkb).trans hb, ⟨hown.1, ?_⟩, hne⟩
  rcases hown.2 with hn | ⟨g, cap, cur, hv, hbg, hg, rest⟩
  · exact .inl hn
  · have hkg : g ≠ k := by
      intro e1
      rw [e1, hk] at hg
      cases hg
    exact .inr ⟨g, cap, cur, hv, hbg, (Lib.iterAt_other w k g s pos' hkg).trans hg, rest⟩
theorem IsB.iterAt {B b : Nat} {l : List UInt8} {w : World} (h : IsB B b l w) {k : Nat} {s : ByteArray} {pos : Nat} (hk : w.heap[k]? = some (.stringIter s pos)) (pos' : Nat) : IsB B b l (w.iterAt k s pos') :=
  h.elim (fun x => .inl (bat_iter x hk pos')) (fun x => .inr (bat_iter x hk pos'))
theorem IsB.alloc {B b : Nat} {l : List UInt8} {w : World} (h : IsB B b l w) (o : Obj) : IsB B b l (w.alloc o) := by
  have g : ∀ p, Lib.BuilderAt 46 5 B b p (Lib.byteCells l) w → Lib.BuilderAt 46 5 B b p (Lib.byteCells l) (w.alloc o) := by
    rintro p ⟨hB, v, hb, hown, hne⟩
    exact ⟨hB, v, (Lib.alloc_old w o b (Array.getElem?_eq_some_iff.1 hb).1).trans hb, hown.alloc o, hne⟩
  exact h.elim (fun x => .inl (g _ x)) (fun x => .inr (g _ x))
theorem IsB.lt {B b : Nat} {l : List UInt8} {w : World} (h : IsB B b l w) : b < w.heap.size := h.elim (fun x => x.lt) (fun x => x.lt)

/-- What is written of a string from a place on. -/
def rsFrom (s : ByteArray) : Nat → Nat → List UInt8
  | 0, _ => []
  | f + 1, pos => if pos < s.size then pc (Utf8.decode s pos).1 ++ rsFrom s f (pos + (Utf8.decode s pos).2) else []
def rs (s : ByteArray) : List UInt8 := rsFrom s s.size 0
theorem rsFrom_end (s : ByteArray) (f pos : Nat) (h : ¬ pos < s.size) : rsFrom s f pos = [] := by
  cases f with
  | zero => rfl
  | succ f => simp [rsFrom, h]
theorem dec_le (s : ByteArray) (pos : Nat) : (Utf8.decode s pos).1 ≤ 1114111 := by
  rw [dec]; exact Lib.decodeN_rune_le _ _ _ _ _ (bt_lt s pos)

theorem ok5_iter {b k : Nat} {a w : World} (h : OK5 b a w) (hk : a.heap.size ≤ k) (s : ByteArray) (pos : Nat) : OK5 b a (w.iterAt k s pos) := fun i o hi hb ho => by
  have hlt : i < a.heap.size := (Array.getElem?_eq_some_iff.1 hi).1
  have hbl := Lib.below_iterAt (Below.refl k w) (k := k) (Nat.le_refl _) s pos
  rw [hbl.block i (by omega)]
  exact h i o hi hb ho

set_option maxHeartbeats 2000000 in
set_option maxRecDepth 1000000 in
theorem strWrite_walk (B b : Nat) (l : List UInt8) (s : ByteArray) (w : World) (h : IsB B b l w) (hB : B ≤ w.heap.size) (hl : l.length ≤ 10000000) (hs : s.size ≤ 10000000) :
    Calls Tryd.prog 101 #[.string s, .pointer (some ⟨b, 0, none⟩)] w fun e w' => e = .returned (.tuple #[]) ∧ IsB B b (l ++ 34 :: (rs s ++ [34])) w' ∧ Below B w w' ∧ OK5 b w w' := by
  have hq : (Lib.byteCells l).length ≤ 10000000 := by rw [Lib.byteCells_length]; exact hl
  have hbB : B ≤ b := h.elim (fun x => x.1) (fun x => x.1)
  have hblt := h.lt
  go_enter Tryd.func101, Tryd.ntmps101
  go_wp2_with fail
  refine (writeByte_k B b _ 34 _ h (by omega) hB).mono ?_
  rintro e w1 ⟨rfl, h1, b1, k1⟩
  have hs1 := b1.size
  have H1 : Hid (IsB B b (l ++ [34]) (w1.alloc (.stringIter s 0))) := (IsB.byte (c := 34) rfl h1).alloc _
  have hblt1 : b < w1.heap.size := Lib.BuilderAt.lt h1
  have K1 : Hid (OK5 b w (w1.alloc (.stringIter s 0))) := Lib.OthersKept.alloc k1 _
  clear h1 k1 h
  go_wp2
  go_loopw [] (fun wr => ∃ (pos fuel : Nat) (acc : List UInt8), IsB B b acc wr ∧ wr.heap[w1.heap.size]? = some (.stringIter s pos) ∧ Below B w wr ∧ OK5 b w wr ∧ acc ++ rsFrom s fuel pos = l ++ 34 :: rs s ∧ s.size ≤ pos + fuel ∧ acc.length ≤ l.length + 1 + 6 * pos) (fun wr => s.size - wr.iterPos w1.heap.size)
  case atStart =>
    refine ⟨0, s.size, l ++ [34], unhide H1, ?_, b1.alloc (by omega) _, unhide K1, by simp [rs], by omega, by simp⟩
    exact heap_alloc_new w1 _
  case round =>
    obtain ⟨pos, fuel, acc, hI, hit, hbw, hok, hacc, hfu, hal⟩ := hrel
    have hsz : w1.heap.size < wr.heap.size := (Array.getElem?_eq_some_iff.1 hit).1
    clear H1 K1
    have HOK := hide hok
    clear hok
    by_cases hp : pos < s.size
    · have hnx : ∀ ty, (Instr.next (.pointer (some ⟨w1.heap.size, 0, none⟩)) true ty).run Tryd.prog wr = _ := fun ty => Lib.run_next_any_at wr w1.heap.size s pos ty hit hp
      have hwd := Lib.decode_width_pos s pos hp
      have hd1 := dec_le s pos
      have hpc := pc_le (Utf8.decode s pos).1
      have hI2 := hI.iterAt hit (pos + (Utf8.decode s pos).2)
      have hit2 := Lib.iterAt_heap wr w1.heap.size s pos (pos + (Utf8.decode s pos).2) hit
      have hbw2 := Lib.below_iterAt hbw (k := w1.heap.size) (by omega) s (pos + (Utf8.decode s pos).2)
      have hsz2 : B ≤ (wr.iterAt w1.heap.size s (pos + (Utf8.decode s pos).2)).heap.size := by rw [Lib.iterAt_size]; omega
      obtain ⟨f, rfl⟩ : ∃ f, fuel = f + 1 := ⟨fuel - 1, by omega⟩
      have HA : Hid ((acc ++ pc (Utf8.decode s pos).1) ++ rsFrom s f (pos + (Utf8.decode s pos).2) = l ++ 34 :: rs s) := by
        show _ = _; rw [← hacc]; simp [rsFrom, hp]
      have HC := hide (piece_walk B b acc (Utf8.decode s pos).1 (wr.iterAt w1.heap.size s (pos + (Utf8.decode s pos).2)) hI2 hsz2 hd1 (by omega))
      have HIT2 := hide hit2
      have HIT := hide hit
      have HBW2 := hide hbw2
      clear hacc hI hI2 hit2 hbw2 hsz2
      go_wp2_with fail
      refine (unhide HC).mono ?_
      rintro e W1 ⟨rfl, h1, b2, k2⟩
      go_wp2
      go_roundw
      case rel => exact ⟨pos + (Utf8.decode s pos).2, f, acc ++ pc (Utf8.decode s pos).1, h1, k2.iter (unhide HIT2) (by omega), (unhide HBW2).trans b2, (ok5_iter (unhide HOK) (by omega) _ _).trans k2, unhide HA, by omega, by rw [List.length_append]; omega⟩
      case measure =>
        simp only [World.iterPos, k2.iter (unhide HIT2) (by omega), unhide HIT]
        omega
    · have hnx : ∀ ty, (Instr.next (.pointer (some ⟨w1.heap.size, 0, none⟩)) true ty).run Tryd.prog wr = _ := fun ty => Lib.run_next_end_at wr w1.heap.size s pos ty hit hp
      rw [rsFrom_end s fuel pos hp, List.append_nil] at hacc
      have HA := hide hacc
      have hal2 : (Lib.byteCells acc).length ≤ 100000000 := by
        rw [Lib.byteCells_length, hacc]
        have hf : ∀ f pos, (rsFrom s f pos).length ≤ 6 * f := by
          intro f
          induction f with
          | zero => intro pos; simp [rsFrom]
          | succ f ih =>
            intro pos
            rw [rsFrom]; split
            · rw [List.length_append]; have := ih (pos + (Utf8.decode s pos).2); have := pc_le (Utf8.decode s pos).1; omega
            · simp
        have := hf s.size 0
        simp [rs]; omega
      clear hacc
      go_wp2_with fail
      refine (writeByte_k B b _ 34 _ hI (by omega) (by omega)).mono ?_
      rintro e W1 ⟨rfl, h1, b2, k2⟩
      have h1' := IsB.byte (c := 34) rfl h1
      go_wp2
      go_end0
      refine ⟨rfl, ?_, hbw.trans b2, (unhide HOK).trans k2⟩
      rw [unhide HA] at h1'
      simpa using h1'
end Go.Proofs.YtadefcohbkgbfaaDoor
