import Derived.Test.YtmjlkbdjalokeabGreatDoorImplUnq
import Derived.Test.YtmjlkbdjalokeabGreatDoorBlanks
namespace Go.Proofs.YtmjlkbdjalokeabGreatDoor
open Go.RowKit

set_option maxHeartbeats 1600000 in
theorem bare_str (rb : Nat) (s : ByteArray) (i : Nat) (tb kt : Bool) (w : World) (h : Rdr rb s i tb kt w) (hs : s.size ≤ 1048576) (hi : i ≤ s.size) (B : Nat) (hT : TabsB B w) (hB : B ≤ rb) (l : List UInt8) (j : Nat) (hq : strQ s i = some (l, j)) :
    Calls Tryz.prog 61 #[.pointer (some ⟨rb, 0, none⟩)] w fun e w' => e = .returned (.iface 40 (.string (strOf l))) ∧ Rdr rb s j tb kt w' ∧ KB rb w w' := by
  have h34 : bt s i = 34 := by
    unfold strQ at hq
    by_cases g : bt s i = 34
    · exact g
    · rw [if_neg g] at hq; cases hq
  have hlt := h.lt
  have HP := hide (peek_walk rb s i tb kt w h hi)
  rw [h34] at HP
  have HS : Hid (∀ w1, Rdr rb s i tb kt w1 → KB rb w w1 → Calls Tryz.prog 26 #[.pointer (some ⟨rb, 0, none⟩)] w1 (Post rb s tb kt w1 (some (.string (strOf l), j)))) := fun w1 h1 k1 => by
    have := readString_walk rb s i tb kt w1 h1 hs hi B (hT.next (k1.below hB (by omega)) (Nat.le_refl _)) hB
    rw [hq] at this
    exact this
  generalize strOf l = sl at *
  clear h hq h34 hT
  go_enter Tryz.func61, Tryz.ntmps61
  go_wp2_with fail
  refine (unhide HP).mono ?_
  rintro e w1 ⟨rfl, r1, k1⟩
  have R1 := hide r1
  clear HP r1
  go_wp2_with fail
  refine (unhide HS _ (unhide R1) k1).mono ?_
  rintro e w2 ⟨k2, rfl, r2⟩
  have R2 := hide r2
  clear HS r2 R1
  go_wp2
  go_ret
  exact ⟨rfl, unhide R2, k1.trans k2⟩

set_option maxHeartbeats 1600000 in
theorem value_str (rb : Nat) (s : ByteArray) (i : Nat) (tb kt : Bool) (w : World) (h : Rdr rb s i tb kt w) (hs : s.size ≤ 1048576) (hi : i ≤ s.size) (B : Nat) (hT : TabsB B w) (hB : B ≤ rb) (l : List UInt8) (j : Nat) (hq : strQ s (sk s i) = some (l, j)) (hj : j ≤ s.size) :
    Calls Tryz.prog 45 #[.pointer (some ⟨rb, 0, none⟩)] w fun e w' => e = .returned (.iface 40 (.string (strOf l))) ∧ Rdr rb s (sk s j) tb kt w' ∧ KB rb w w' := by
  have hlt := h.lt
  have HB := hide (skipBlanks_walk rb s i tb kt w h hs hi)
  have HS : Hid (∀ w1, Rdr rb s (sk s i) tb kt w1 → KB rb w w1 → Calls Tryz.prog 61 #[.pointer (some ⟨rb, 0, none⟩)] w1 fun e w' => e = .returned (.iface 40 (.string (strOf l))) ∧ Rdr rb s j tb kt w' ∧ KB rb w1 w') := fun w1 h1 k1 =>
    bare_str rb s (sk s i) tb kt w1 h1 hs (sk_le hi).2 B (hT.next (k1.below hB (by omega)) (Nat.le_refl _)) hB l j hq
  have HE : Hid (∀ w1, Rdr rb s j tb kt w1 → Calls Tryz.prog 60 #[.pointer (some ⟨rb, 0, none⟩)] w1 fun e w' => e = .returned (.tuple #[]) ∧ Rdr rb s (sk s j) tb kt w' ∧ KB rb w1 w') := fun w1 h1 => skipBlanks_walk rb s j tb kt w1 h1 hs hj
  generalize strOf l = sl at *
  clear h hq hT
  go_enter Tryz.func45, Tryz.ntmps45
  go_wp2_with fail
  refine (unhide HB).mono ?_
  rintro e w1 ⟨rfl, r1, k1⟩
  have R1 := hide r1
  clear HB r1
  go_wp2_with fail
  refine (unhide HS _ (unhide R1) k1).mono ?_
  rintro e w2 ⟨rfl, r2, k2⟩
  have R2 := hide r2
  clear HS r2 R1
  go_wp2_with fail
  refine (unhide HE _ (unhide R2)).mono ?_
  rintro e w3 ⟨rfl, r3, k3⟩
  have R3 := hide r3
  clear HE r3 R2
  go_wp2
  go_ret
  exact ⟨rfl, unhide R3, (k1.trans k2).trans k3⟩

set_option maxHeartbeats 800000 in
theorem text1_str (rb pc sc : Nat) (s : ByteArray) (x : Value) (tb kt : Bool) (w : World) (h : Rdr rb s 0 tb kt w) (hp : Var pc 41 (.pointer (some ⟨rb, 0, none⟩)) w) (hx : Var sc 47 x w) (h1 : pc ≠ rb) (h2 : sc ≠ rb) (h3 : pc ≠ sc) (hs : s.size ≤ 1048576) (B : Nat) (hT : TabsB B w) (hB : B ≤ rb) (l : List UInt8) (j : Nat) (hq : strQ s (sk s 0) = some (l, j)) (hj : j ≤ s.size) (hj' : sk s j = s.size) :
    Calls Tryz.prog 44 #[.pointer (some ⟨pc, 0, none⟩), .pointer (some ⟨sc, 0, none⟩)] w fun e w' => e = .returned (.tuple #[]) ∧ KB2 rb sc w w' ∧ Var sc 47 (.iface 40 (.string (strOf l))) w' ∧ Rdr rb s (sk s j) tb kt w' := by
  have HS := hide (value_str rb s 0 tb kt w h hs (by omega) B hT hB l j hq hj)
  have cp := hp.cell
  have HP := hide hp
  have HX := hide hx
  generalize hv : Value.iface 40 (.string (strOf l)) = vl at *
  subst hv
  generalize strOf l = sl at *
  clear hp hx h hq hT
  go_enter Tryz.func44, Tryz.ntmps44
  go_wp2_with fail
  refine (unhide HS).mono ?_
  rintro e w1 ⟨rfl, r1, k1⟩
  have x1 := (unhide HX).kb k1 h2
  have cx := x1.cell
  have fx := x1.frozen
  have x2 := x1.set (.iface 40 (.string sl))
  have p2 := ((unhide HP).kb k1 h1).other (p := ⟨sc, 0, none⟩) h3 (.iface 40 (.string sl))
  have cp2 := p2.cell
  have r2 := r1.other (p := ⟨sc, 0, none⟩) (fun e => h2 e.symm) (.iface 40 (.string sl))
  have HE := hide (readEnd_at rb s (sk s j) tb kt _ r2 hj')
  have X2 := hide x2
  clear HS r1 r2 x1 x2 p2 HP HX cp
  go_wp2_with fail
  refine (unhide HE).mono ?_
  rintro e w2 ⟨rfl, r3, k3⟩
  have X3 := hide ((unhide X2).kb k3 h2)
  have R3 := hide r3
  have K3 := ((k1.two sc).set 0 (.iface 40 (.string sl))).trans (k3.two sc)
  clear HE X2 r3 cx fx cp2
  go_wp2
  go_end0
  exact ⟨rfl, K3, unhide X3, unhide R3⟩

set_option maxRecDepth 100000 in
set_option maxHeartbeats 800000 in
theorem parts_str (s : ByteArray) (w : World) :
    Calls Tryz.prog 53 #[.iface 40 (.string s)] w fun e w' => e = .returned (.slice none 0 0) ∧ Below w.heap.size w w' := by
  have h1 : ∀ w : World, (Instr.typeAssert (.iface 40 (.string s)) 47 103 true).run Tryz.prog w = .ok (.tuple #[.pointer none, .bool false]) w := fun _ => by kernel_rfl
  have h2 : ∀ w : World, (Instr.typeAssert (.iface 40 (.string s)) 47 107 true).run Tryz.prog w = .ok (.tuple #[.pointer none, .bool false]) w := fun _ => by kernel_rfl
  go_enter Tryz.func53, Tryz.ntmps53
  go_wp2
  go_ret
  exact ⟨rfl, Below.refl _ _⟩

set_option maxRecDepth 100000 in
set_option maxHeartbeats 800000 in
theorem measure_str (s : ByteArray) (w : World) :
    Calls Tryz.prog 33 #[.iface 40 (.string s)] w fun e w' => e = .returned (.tuple #[.int .i64 1, .int .i64 1]) ∧ Below w.heap.size w w' := by
  have HP := hide (parts_str s w)
  go_enter Tryz.func33, Tryz.ntmps33
  go_wp2_with fail
  refine (unhide HP).mono ?_
  rintro e w1 ⟨rfl, b1⟩
  clear HP
  go_wp2_with fail
  go_loopw [2, 3, 11] (fun d c i wr => d = .int .i64 0 ∧ c = .int .i64 1 ∧ i = .int .i64 0 ∧ wr = w1) (fun _ _ _ _ => 0)
  case atStart => exact ⟨rfl, rfl, rfl, rfl⟩
  case round =>
    obtain ⟨rfl, rfl, rfl, rfl⟩ := hrel
    go_wp2
    go_ret2
    exact ⟨rfl, b1⟩
end Go.Proofs.YtmjlkbdjalokeabGreatDoor
