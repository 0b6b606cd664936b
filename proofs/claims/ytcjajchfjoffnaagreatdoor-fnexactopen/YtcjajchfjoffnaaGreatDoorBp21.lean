import Derived.Test.YtcjajchfjoffnaaGreatDoorBp19
import Derived.Test.YtcjajchfjoffnaaGreatDoorBp20
import Derived.Test.YtcjajchfjoffnaaGreatDoorBp11
namespace Go.Proofs.YtcjajchfjoffnaaGreatDoor
open Go.RowKit

/-- All old blocks but two are as they were. -/
structure KB2 (rb sc : Nat) (w w' : World) : Prop where
  os : w'.os = w.os
  tape : w'.tape = w.tape
  output : w'.output = w.output
  size : w.heap.size ≤ w'.heap.size
  block : ∀ k, k < w.heap.size → k ≠ rb → k ≠ sc → w'.heap[k]? = w.heap[k]?
theorem KB.two {rb : Nat} {w w' : World} (h : KB rb w w') (sc : Nat) : KB2 rb sc w w' := ⟨h.os, h.tape, h.output, h.size, fun k hk h1 _ => h.block k hk h1⟩
theorem KB2.trans {rb sc : Nat} {a b c : World} (h : KB2 rb sc a b) (k : KB2 rb sc b c) : KB2 rb sc a c :=
  ⟨k.os.trans h.os, k.tape.trans h.tape, k.output.trans h.output, Nat.le_trans h.size k.size, fun i hi h1 h2 => (k.block i (Nat.lt_of_lt_of_le hi h.size) h1 h2).trans (h.block i hi h1 h2)⟩
theorem KB2.set {rb sc : Nat} {a w : World} (h : KB2 rb sc a w) (j : Nat) (v : Value) : KB2 rb sc a (w.setCell ⟨sc, j, none⟩ v) :=
  h.trans ⟨rfl, rfl, rfl, by simp [World.setCell], fun k _ _ hn => Below.heap_setCell _ _ _ _ hn⟩

/-- The bytes of a text that is one string. -/
def uOk (s : ByteArray) : Option (List UInt8) := (strQ s 0).bind fun q => if q.2 = s.size then some q.1 else none
def uRes (s : ByteArray) : Value := if s.size ≤ 20000 then (uOk s).elim (.tuple #[.string ⟨#[]⟩, .bool false]) (fun l => .tuple #[.string (strOf l), .bool true]) else .tuple #[.string ⟨#[]⟩, .bool false]

theorem uOk_none {s : ByteArray} (h : strQ s 0 = none) : uOk s = none := by unfold uOk; rw [h]; rfl
theorem uOk_some {s : ByteArray} {l : List UInt8} {j : Nat} (h : strQ s 0 = some (l, j)) : uOk s = if j = s.size then some l else none := by unfold uOk; rw [h]; rfl

/-- A variable that holds one value. -/
def Var (b : Nat) (t : TypeId) (v : Value) (w : World) : Prop := w.heap[b]? = some (.cells #[v] t (0, 0))
theorem Var.cell {b : Nat} {t : TypeId} {v : Value} {w : World} (h : Var b t v w) : w.cell? ⟨b, 0, none⟩ = some v := by rw [Lib.cell_of_heap h]; rfl
theorem Var.frozen {b : Nat} {t : TypeId} {v : Value} {w : World} (h : Var b t v w) : w.frozen? ⟨b, 0, none⟩ = false := Lib.frozen_of_heap h 0
theorem Var.lt {b : Nat} {t : TypeId} {v : Value} {w : World} (h : Var b t v w) : b < w.heap.size := (Array.getElem?_eq_some_iff.1 h).1
theorem Var.kb {b rb : Nat} {t : TypeId} {v : Value} {w w' : World} (h : Var b t v w) (k : KB rb w w') (hn : b ≠ rb) : Var b t v w' := (k.block b h.lt hn).trans h
theorem Var.set {b : Nat} {t : TypeId} {v : Value} {w : World} (h : Var b t v w) (v' : Value) : Var b t v' (w.setCell ⟨b, 0, none⟩ v') := heap_setCell_same w b 0 _ t v' h
theorem Var.other {b : Nat} {t : TypeId} {v : Value} {w : World} (h : Var b t v w) {p : Addr} (hp : b ≠ p.block) (v' : Value) : Var b t v (w.setCell p v') := (Below.heap_setCell w p v' b hp).trans h
theorem Rdr.other {rb : Nat} {s : ByteArray} {i : Nat} {tb kt : Bool} {w : World} (h : Rdr rb s i tb kt w) {p : Addr} (hp : rb ≠ p.block) (v' : Value) : Rdr rb s i tb kt (w.setCell p v') := (Below.heap_setCell w p v' rb hp).trans h

abbrev rdW (s : ByteArray) (w : World) : World := ((w.alloc (.cells #[.string s, .int .i64 0, .bool false, .bool false] 183)).alloc (.cells #[.pointer (some ⟨w.heap.size, 0, none⟩)] 179)).alloc (.cells #[.string ⟨#[]⟩] 9)
theorem rdW_size (s : ByteArray) (w : World) : (rdW s w).heap.size = w.heap.size + 3 := by simp
theorem rdW_rdr (s : ByteArray) (w : World) (o : Obj) : Rdr w.heap.size s 0 false false ((rdW s w).alloc o) := by
  unfold Rdr
  rw [Lib.alloc_old _ o _ (by simp; omega), Lib.alloc_old _ _ _ (by simp; omega), Lib.alloc_old _ _ _ (by simp)]
  exact heap_alloc_new w _
theorem rdW_ptr (s : ByteArray) (w : World) (o : Obj) : Var (w.heap.size + 1) 179 (.pointer (some ⟨w.heap.size, 0, none⟩)) ((rdW s w).alloc o) := by
  unfold Var
  rw [Lib.alloc_old _ o _ (by simp), Lib.alloc_old _ _ _ (by simp)]
  have := heap_alloc_new (w.alloc (.cells #[.string s, .int .i64 0, .bool false, .bool false] 183)) (.cells #[.pointer (some ⟨w.heap.size, 0, none⟩)] 179)
  simpa using this
theorem rdW_str (s : ByteArray) (w : World) (o : Obj) : Var (w.heap.size + 1 + 1) 9 (.string ⟨#[]⟩) ((rdW s w).alloc o) := by
  unfold Var
  rw [Lib.alloc_old _ o _ (by simp)]
  have := heap_alloc_new ((w.alloc (.cells #[.string s, .int .i64 0, .bool false, .bool false] 183)).alloc (.cells #[.pointer (some ⟨w.heap.size, 0, none⟩)] 179)) (.cells #[.string ⟨#[]⟩] 9)
  simpa using this
theorem rdW_below (s : ByteArray) (w : World) (o : Obj) : Below w.heap.size w ((rdW s w).alloc o) :=
  ((((Below.refl _ _).alloc (Nat.le_refl _) _).alloc (by simp) _).alloc (by simp; omega) _).alloc (by simp; omega) _
theorem ok_new (w : World) : OkCell w.heap.size (w.alloc (.cells #[.bool false] 4)) := heap_alloc_new w _
theorem KB2.below {rb sc B : Nat} {w w' : World} (h : KB2 rb sc w w') (h1 : B ≤ rb) (h2 : B ≤ sc) (hs : B ≤ w.heap.size) : Below B w w' := ⟨h.os, h.tape, h.output, h.size, fun k hk => h.block k (by omega) (by omega) (by omega)⟩

end Go.Proofs.YtcjajchfjoffnaaGreatDoor

namespace Go.Proofs.YtcjajchfjoffnaaGreatDoor
open Go.RowKit

set_option maxHeartbeats 1600000 in
theorem bare_str (rb : Nat) (s : ByteArray) (i : Nat) (tb kt : Bool) (w : World) (h : Rdr rb s i tb kt w) (hs : s.size ≤ 1048576) (hi : i ≤ s.size) (B : Nat) (hT : TabsB B w) (hB : B ≤ rb) (l : List UInt8) (j : Nat) (hq : strQ s i = some (l, j)) :
    Calls Tryz.prog 152 #[.pointer (some ⟨rb, 0, none⟩)] w fun e w' => e = .returned (.iface 149 (.string (strOf l))) ∧ Rdr rb s j tb kt w' ∧ KB rb w w' := by
  have h34 : bt s i = 34 := by
    unfold strQ at hq
    by_cases g : bt s i = 34
    · exact g
    · rw [if_neg g] at hq; cases hq
  have hlt := h.lt
  have HP := hide (peek_walk rb s i tb kt w h hi)
  rw [h34] at HP
  have HS : Hid (∀ w1, Rdr rb s i tb kt w1 → KB rb w w1 → Calls Tryz.prog 180 #[.pointer (some ⟨rb, 0, none⟩)] w1 (Post rb s tb kt w1 (some (.string (strOf l), j)))) := fun w1 h1 k1 => by
    have := readString_walk rb s i tb kt w1 h1 hs hi B (hT.next (k1.below hB (by omega)) (Nat.le_refl _)) hB
    rw [hq] at this
    exact this
  generalize strOf l = sl at *
  clear h hq h34 hT
  go_enter Tryz.func152, Tryz.ntmps152
  go_wp2_with fail
  refine (unhide HP).mono ?_
  rintro e w1 ⟨rfl, r1, k1⟩
  have R1 := hide r1
  clear HP r1
  go_wp2_with fail
  refine (unhide HS _ (unhide R1) k1).mono ?_
  rintro e w2 ⟨k2, rfl, r2⟩
  have R2 := hide r2
  clear HS r2 R1
  go_wp2
  go_ret
  exact ⟨rfl, unhide R2, k1.trans k2⟩

set_option maxHeartbeats 1600000 in
theorem value_str (rb : Nat) (s : ByteArray) (i : Nat) (tb kt : Bool) (w : World) (h : Rdr rb s i tb kt w) (hs : s.size ≤ 1048576) (hi : i ≤ s.size) (B : Nat) (hT : TabsB B w) (hB : B ≤ rb) (l : List UInt8) (j : Nat) (hq : strQ s (sk s i) = some (l, j)) (hj : j ≤ s.size) :
    Calls Tryz.prog 113 #[.pointer (some ⟨rb, 0, none⟩)] w fun e w' => e = .returned (.iface 149 (.string (strOf l))) ∧ Rdr rb s (sk s j) tb kt w' ∧ KB rb w w' := by
  have hlt := h.lt
  have HB := hide (skipBlanks_walk rb s i tb kt w h hs hi)
  have HS : Hid (∀ w1, Rdr rb s (sk s i) tb kt w1 → KB rb w w1 → Calls Tryz.prog 152 #[.pointer (some ⟨rb, 0, none⟩)] w1 fun e w' => e = .returned (.iface 149 (.string (strOf l))) ∧ Rdr rb s j tb kt w' ∧ KB rb w1 w') := fun w1 h1 k1 =>
    bare_str rb s (sk s i) tb kt w1 h1 hs (sk_le hi).2 B (hT.next (k1.below hB (by omega)) (Nat.le_refl _)) hB l j hq
  have HE : Hid (∀ w1, Rdr rb s j tb kt w1 → Calls Tryz.prog 151 #[.pointer (some ⟨rb, 0, none⟩)] w1 fun e w' => e = .returned (.tuple #[]) ∧ Rdr rb s (sk s j) tb kt w' ∧ KB rb w1 w') := fun w1 h1 => skipBlanks_walk rb s j tb kt w1 h1 hs hj
  generalize strOf l = sl at *
  clear h hq hT
  go_enter Tryz.func113, Tryz.ntmps113
  go_wp2_with fail
  refine (unhide HB).mono ?_
  rintro e w1 ⟨rfl, r1, k1⟩
  have R1 := hide r1
  clear HB r1
  go_wp2_with fail
  refine (unhide HS _ (unhide R1) k1).mono ?_
  rintro e w2 ⟨rfl, r2, k2⟩
  have R2 := hide r2
  clear HS r2 R1
  go_wp2_with fail
  refine (unhide HE _ (unhide R2)).mono ?_
  rintro e w3 ⟨rfl, r3, k3⟩
  have R3 := hide r3
  clear HE r3 R2
  go_wp2
  go_ret
  exact ⟨rfl, unhide R3, (k1.trans k2).trans k3⟩

set_option maxHeartbeats 800000 in
theorem text1_str (rb pc sc : Nat) (s : ByteArray) (x : Value) (tb kt : Bool) (w : World) (h : Rdr rb s 0 tb kt w) (hp : Var pc 179 (.pointer (some ⟨rb, 0, none⟩)) w) (hx : Var sc 92 x w) (h1 : pc ≠ rb) (h2 : sc ≠ rb) (h3 : pc ≠ sc) (hs : s.size ≤ 1048576) (B : Nat) (hT : TabsB B w) (hB : B ≤ rb) (l : List UInt8) (j : Nat) (hq : strQ s (sk s 0) = some (l, j)) (hj : j ≤ s.size) (hj' : sk s j = s.size) :
    Calls Tryz.prog 112 #[.pointer (some ⟨pc, 0, none⟩), .pointer (some ⟨sc, 0, none⟩)] w fun e w' => e = .returned (.tuple #[]) ∧ KB2 rb sc w w' ∧ Var sc 92 (.iface 149 (.string (strOf l))) w' ∧ Rdr rb s (sk s j) tb kt w' := by
  have HS := hide (value_str rb s 0 tb kt w h hs (by omega) B hT hB l j hq hj)
  have cp := hp.cell
  have HP := hide hp
  have HX := hide hx
  generalize hv : Value.iface 149 (.string (strOf l)) = vl at *
  subst hv
  generalize strOf l = sl at *
  clear hp hx h hq hT
  go_enter Tryz.func112, Tryz.ntmps112
  go_wp2_with fail
  refine (unhide HS).mono ?_
  rintro e w1 ⟨rfl, r1, k1⟩
  have x1 := (unhide HX).kb k1 h2
  have cx := x1.cell
  have fx := x1.frozen
  have x2 := x1.set (.iface 149 (.string sl))
  have p2 := ((unhide HP).kb k1 h1).other (p := ⟨sc, 0, none⟩) h3 (.iface 149 (.string sl))
  have cp2 := p2.cell
  have r2 := r1.other (p := ⟨sc, 0, none⟩) (fun e => h2 e.symm) (.iface 149 (.string sl))
  have HE := hide (readEnd_at rb s (sk s j) tb kt _ r2 hj')
  have X2 := hide x2
  clear HS r1 r2 x1 x2 p2 HP HX cp
  go_wp2_with fail
  refine (unhide HE).mono ?_
  rintro e w2 ⟨rfl, r3, k3⟩
  have X3 := hide ((unhide X2).kb k3 h2)
  have R3 := hide r3
  have K3 := ((k1.two sc).set 0 (.iface 149 (.string sl))).trans (k3.two sc)
  clear HE X2 r3 cx fx cp2
  go_wp2
  go_end0
  exact ⟨rfl, K3, unhide X3, unhide R3⟩

end Go.Proofs.YtcjajchfjoffnaaGreatDoor
