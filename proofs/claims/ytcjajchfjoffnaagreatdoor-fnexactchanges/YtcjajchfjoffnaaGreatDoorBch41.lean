import Derived.Test.YtcjajchfjoffnaaGreatDoorBch27
import Derived.Test.YtcjajchfjoffnaaGreatDoorBch14
import Derived.Test.YtcjajchfjoffnaaGreatDoorBch4
namespace Go.Proofs.YtcjajchfjoffnaaGreatDoor
open Go.RowKit

abbrev rtW (s : ByteArray) (w : World) : World := ((w.alloc (.cells #[.string s, .int .i64 0, .bool false, .bool false] 183)).alloc (.cells #[.pointer (some ⟨w.heap.size, 0, none⟩)] 179)).alloc (.cells #[.nilIface] 92)
theorem rtW_size (s : ByteArray) (w : World) : (rtW s w).heap.size = w.heap.size + 3 := by simp
theorem rtW_rdr (s : ByteArray) (w : World) (o : Obj) : Rdr w.heap.size s 0 false false ((rtW s w).alloc o) := by
  unfold Rdr
  rw [Lib.alloc_old _ o _ (by simp; omega), Lib.alloc_old _ _ _ (by simp; omega), Lib.alloc_old _ _ _ (by simp)]
  exact heap_alloc_new w _
theorem rtW_ptr (s : ByteArray) (w : World) (o : Obj) : Var (w.heap.size + 1) 179 (.pointer (some ⟨w.heap.size, 0, none⟩)) ((rtW s w).alloc o) := by
  unfold Var
  rw [Lib.alloc_old _ o _ (by simp), Lib.alloc_old _ _ _ (by simp)]
  have := heap_alloc_new (w.alloc (.cells #[.string s, .int .i64 0, .bool false, .bool false] 183)) (.cells #[.pointer (some ⟨w.heap.size, 0, none⟩)] 179)
  simpa using this
theorem rtW_root (s : ByteArray) (w : World) (o : Obj) : Var (w.heap.size + 1 + 1) 92 .nilIface ((rtW s w).alloc o) := by
  unfold Var
  rw [Lib.alloc_old _ o _ (by simp)]
  have := heap_alloc_new ((w.alloc (.cells #[.string s, .int .i64 0, .bool false, .bool false] 183)).alloc (.cells #[.pointer (some ⟨w.heap.size, 0, none⟩)] 179)) (.cells #[.nilIface] 92)
  simpa using this
theorem rtW_below (s : ByteArray) (w : World) (o : Obj) : Below w.heap.size w ((rtW s w).alloc o) :=
  ((((Below.refl _ _).alloc (Nat.le_refl _) _).alloc (by simp) _).alloc (by simp; omega) _).alloc (by simp; omega) _
theorem enters_text : ∀ args (w : World), (callFunc 112 args).run Tryz.prog w = .ok (.enter 112 args) w := enters_of Tryz.func112 (by kernel_rfl) rfl
theorem Var.below {b : Nat} {t : TypeId} {v : Value} {w w' : World} (h : Var b t v w) (hb : Below w.heap.size w w') : Var b t v w' := (hb.block b h.lt).trans h
theorem Rdr.big {rb : Nat} {s : ByteArray} {i : Nat} {tb kt : Bool} {w : World} (h : Rdr rb s i tb kt w) : w.cell? ⟨rb, 2, none⟩ = some (.bool tb) := by rw [Lib.cell_of_heap h]; rfl
theorem Rdr.twice {rb : Nat} {s : ByteArray} {i : Nat} {tb kt : Bool} {w : World} (h : Rdr rb s i tb kt w) : w.cell? ⟨rb, 3, none⟩ = some (.bool kt) := by rw [Lib.cell_of_heap h]; rfl

theorem fitsText_str (s : ByteArray) (w : World) (hs : s.size ≤ 1048576) (hT : Tabs w) (l : List UInt8) (j : Nat) (hq : strQ s (sk s 0) = some (l, j)) (hj : j ≤ s.size) (hj' : sk s j = s.size) :
    Calls Tryz.prog 111 #[.func (.func 112) #[] #[.pointer (some ⟨w.heap.size + 1, 0, none⟩), .pointer (some ⟨w.heap.size + 1 + 1, 0, none⟩)]] (rtW s w) fun e w' => e = .returned (.bool true) ∧ Var (w.heap.size + 1 + 1) 92 (.iface 149 (.string (strOf l))) w' ∧ Var (w.heap.size + 1) 179 (.pointer (some ⟨w.heap.size, 0, none⟩)) w' ∧ Rdr w.heap.size s (sk s j) false false w' ∧ Below w.heap.size w w' := by
  have hsz := rtW_size s w
  have hb := rtW_below s w (.cells #[.bool false] 4)
  have hp := rtW_ptr s w (.cells #[.bool false] 4)
  have c := text1_str w.heap.size (w.heap.size + 1) (w.heap.size + 1 + 1) s .nilIface false false ((rtW s w).alloc (.cells #[.bool false] 4)) (rtW_rdr s w _) hp (rtW_root s w _) (by omega) (by omega) (by omega) hs w.heap.size ((TabsB.of hT).next hb (Nat.le_refl _)) (Nat.le_refl _) l j hq hj hj'
  have hsz4 : ((rtW s w).alloc (.cells #[.bool false] 4)).heap.size = w.heap.size + 4 := by simp
  refine (fits_ok 112 _ (rtW s w) (fun w1 => Var (w.heap.size + 1 + 1) 92 (.iface 149 (.string (strOf l))) w1 ∧ Var (w.heap.size + 1) 179 (.pointer (some ⟨w.heap.size, 0, none⟩)) w1 ∧ Rdr w.heap.size s (sk s j) false false w1 ∧ Below w.heap.size w w1) enters_text (c.mono ?_)).mono ?_
  · rintro e w1 ⟨rfl, k, v, r⟩
    exact ⟨rfl, (k.block (rtW s w).heap.size (by omega) (by omega) (by omega)).trans (ok_new (rtW s w)), v, (k.block (w.heap.size + 1) (by omega) (by omega) (by omega)).trans hp, r, hb.trans (k.below (by omega) (by omega) (by omega))⟩
  · rintro e w' ⟨rfl, w1, ⟨v, p, r, b⟩, rfl⟩
    exact ⟨rfl, v.other (p := ⟨(rtW s w).heap.size, 0, none⟩) (by show _ ≠ (rtW s w).heap.size; omega) _, p.other (p := ⟨(rtW s w).heap.size, 0, none⟩) (by show _ ≠ (rtW s w).heap.size; omega) _, r.other (p := ⟨(rtW s w).heap.size, 0, none⟩) (by show _ ≠ (rtW s w).heap.size; omega) _, b.setCell (p := ⟨(rtW s w).heap.size, 0, none⟩) (by show _ ≤ (rtW s w).heap.size; omega) _⟩

end Go.Proofs.YtcjajchfjoffnaaGreatDoor
