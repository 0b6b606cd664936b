import Derived.Test.YtadefcohbkgbfaaDoorRdrStr
import Derived.Test.YtadefcohbkgbfaaDoorFits2
namespace Go.Proofs.YtadefcohbkgbfaaDoor
open Go.RowKit

/-- All old blocks but two are as they were. -/
structure KB2 (rb sc : Nat) (w w' : World) : Prop where
  os : w'.os = w.os
  tape : w'.tape = w.tape
  output : w'.output = w.output
  size : w.heap.size ≤ w'.heap.size
  block : ∀ k, k < w.heap.size → k ≠ rb → k ≠ sc → w'.heap[k]? = w.heap[k]?
theorem KB.two {rb : Nat} {w w' : World} (h : KB rb w w') (sc : Nat) : KB2 rb sc w w' := ⟨h.os, h.tape, h.output, h.size, fun k hk h1 _ => h.block k hk h1⟩
theorem KB2.trans {rb sc : Nat} {a b c : World} (h : KB2 rb sc a b) (k : KB2 rb sc b c) : KB2 rb sc a c :=
  ⟨k.os.trans h.os, k.tape.trans h.tape, k.output.trans h.output, Nat.le_trans h.size k.size, fun i hi h1 h2 => (k.block i (Nat.lt_of_lt_of_le hi h.size) h1 h2).trans (h.block i hi h1 h2)⟩
theorem KB2.set {rb sc : Nat} {a w : World} (h : KB2 rb sc a w) (j : Nat) (v : Value) : KB2 rb sc a (w.setCell ⟨sc, j, none⟩ v) :=
  h.trans ⟨rfl, rfl, rfl, by simp [World.setCell], fun k _ _ hn => Below.heap_setCell _ _ _ _ hn⟩

/-- The bytes of a text that is one string. -/
def uOk (s : ByteArray) : Option (List UInt8) := (strQ s 0).bind fun q => if q.2 = s.size then some q.1 else none
def uRes (s : ByteArray) : Value := if s.size ≤ 20000 then (uOk s).elim (.tuple #[.string ⟨#[]⟩, .bool false]) (fun l => .tuple #[.string (strOf l), .bool true]) else .tuple #[.string ⟨#[]⟩, .bool false]

theorem uOk_none {s : ByteArray} (h : strQ s 0 = none) : uOk s = none := by unfold uOk; rw [h]; rfl
theorem uOk_some {s : ByteArray} {l : List UInt8} {j : Nat} (h : strQ s 0 = some (l, j)) : uOk s = if j = s.size then some l else none := by unfold uOk; rw [h]; rfl

/-- A variable that holds one value. -/
def Var (b : Nat) (t : TypeId) (v : Value) (w : World) : Prop := w.heap[b]? = some (.cells #[v] t (0, 0))
theorem Var.cell {b : Nat} {t : TypeId} {v : Value} {w : World} (h : Var b t v w) : w.cell? ⟨b, 0, none⟩ = some v := by rw [Lib.cell_of_heap h]; rfl
theorem Var.frozen {b : Nat} {t : TypeId} {v : Value} {w : World} (h : Var b t v w) : w.frozen? ⟨b, 0, none⟩ = false := Lib.frozen_of_heap h 0
theorem Var.lt {b : Nat} {t : TypeId} {v : Value} {w : World} (h : Var b t v w) : b < w.heap.size := (Array.getElem?_eq_some_iff.1 h).1
theorem Var.kb {b rb : Nat} {t : TypeId} {v : Value} {w w' : World} (h : Var b t v w) (k : KB rb w w') (hn : b ≠ rb) : Var b t v w' := (k.block b h.lt hn).trans h
theorem Var.set {b : Nat} {t : TypeId} {v : Value} {w : World} (h : Var b t v w) (v' : Value) : Var b t v' (w.setCell ⟨b, 0, none⟩ v') := heap_setCell_same w b 0 _ t v' h
theorem Var.other {b : Nat} {t : TypeId} {v : Value} {w : World} (h : Var b t v w) {p : Addr} (hp : b ≠ p.block) (v' : Value) : Var b t v (w.setCell p v') := (Below.heap_setCell w p v' b hp).trans h
theorem Rdr.other {rb : Nat} {s : ByteArray} {i : Nat} {tb kt : Bool} {w : World} (h : Rdr rb s i tb kt w) {p : Addr} (hp : rb ≠ p.block) (v' : Value) : Rdr rb s i tb kt (w.setCell p v') := (Below.heap_setCell w p v' rb hp).trans h

set_option maxHeartbeats 800000 in
theorem unq_ok (rb pc sc : Nat) (s x : ByteArray) (tb kt : Bool) (w : World) (h : Rdr rb s 0 tb kt w) (hp : Var pc 51 (.pointer (some ⟨rb, 0, none⟩)) w) (hx : Var sc 9 (.string x) w) (h1 : pc ≠ rb) (h2 : sc ≠ rb) (h3 : pc ≠ sc) (hs : s.size ≤ 1048576) (B : Nat) (hT : TabsB B w) (hB : B ≤ rb) (l : List UInt8) (hl : uOk s = some l) :
    Calls Tryd.prog 39 #[.pointer (some ⟨pc, 0, none⟩), .pointer (some ⟨sc, 0, none⟩)] w fun e w' => e = .returned (.tuple #[]) ∧ KB2 rb sc w w' ∧ Var sc 9 (.string (strOf l)) w' := by
  have HS := hide (readString_walk rb s 0 tb kt w h hs (by omega) B hT hB)
  obtain ⟨q, hq⟩ : ∃ q, strQ s 0 = some q := by
    cases e : strQ s 0 with
    | none => rw [uOk_none e] at hl; cases hl
    | some q => exact ⟨q, rfl⟩
  obtain ⟨l', j⟩ := q
  rw [uOk_some hq] at hl
  have hj : j = s.size := by
    by_cases g : j = s.size
    · exact g
    · rw [if_neg g] at hl; cases hl
  rw [if_pos hj] at hl
  injection hl with hl
  rw [hq, hl] at HS
  have cp := hp.cell
  have HP := hide hp
  have HX := hide hx
  clear hp hx h hq hT
  go_enter Tryd.func39, Tryd.ntmps39
  go_wp2_with fail
  refine (unhide HS).mono ?_
  rintro e w1 ⟨k1, rfl, r1⟩
  have x1 := (unhide HX).kb k1 h2
  have cx := x1.cell
  have fx := x1.frozen
  have x2 := x1.set (.string (strOf l))
  have p2 := ((unhide HP).kb k1 h1).other (p := ⟨sc, 0, none⟩) h3 (.string (strOf l))
  have cp2 := p2.cell
  have r2 := r1.other (p := ⟨sc, 0, none⟩) (fun e => h2 e.symm) (.string (strOf l))
  have HE := hide (readEnd_at rb s j tb kt _ r2 hj)
  have X2 := hide x2
  clear HS r1 r2 x1 x2 p2 HP HX cp
  go_wp2_with fail
  refine (unhide HE).mono ?_
  rintro e w2 ⟨rfl, r3, k3⟩
  have X3 := hide ((unhide X2).kb k3 h2)
  have K3 := ((k1.two sc).set 0 (.string (strOf l))).trans (k3.two sc)
  clear HE X2 r3 cx fx cp2
  go_wp2
  go_end0
  exact ⟨rfl, K3, unhide X3⟩

set_option maxHeartbeats 800000 in
theorem unq_bad (rb pc sc : Nat) (s x : ByteArray) (tb kt : Bool) (w : World) (h : Rdr rb s 0 tb kt w) (hp : Var pc 51 (.pointer (some ⟨rb, 0, none⟩)) w) (hx : Var sc 9 (.string x) w) (h1 : pc ≠ rb) (h2 : sc ≠ rb) (h3 : pc ≠ sc) (hs : s.size ≤ 1048576) (B : Nat) (hT : TabsB B w) (hB : B ≤ rb) (hl : uOk s = none) :
    Calls Tryd.prog 39 #[.pointer (some ⟨pc, 0, none⟩), .pointer (some ⟨sc, 0, none⟩)] w fun e w' => e = mis ∧ KB2 rb sc w w' := by
  have HS := hide (readString_walk rb s 0 tb kt w h hs (by omega) B hT hB)
  have cp := hp.cell
  have HP := hide hp
  have HX := hide hx
  cases hq : strQ s 0 with
  | none =>
    rw [hq] at HS
    clear hp hx h hq hT hl
    go_enter Tryd.func39, Tryd.ntmps39
    go_wp2_with fail
    refine (unhide HS).mono ?_
    rintro e w1 ⟨k1, rfl⟩
    exact ⟨rfl, rfl, k1.two sc⟩
  | some q =>
    obtain ⟨l, j⟩ := q
    rw [uOk_some hq] at hl
    have hj : j ≠ s.size := fun g => by rw [if_pos g] at hl; cases hl
    rw [hq] at HS
    clear hp hx h hq hT hl
    go_enter Tryd.func39, Tryd.ntmps39
    go_wp2_with fail
    refine (unhide HS).mono ?_
    rintro e w1 ⟨k1, rfl, r1⟩
    have x1 := (unhide HX).kb k1 h2
    have cx := x1.cell
    have fx := x1.frozen
    have p2 := ((unhide HP).kb k1 h1).other (p := ⟨sc, 0, none⟩) h3 (.string (strOf l))
    have cp2 := p2.cell
    have r2 := r1.other (p := ⟨sc, 0, none⟩) (fun e => h2 e.symm) (.string (strOf l))
    have HE := hide (readEnd_not rb s j tb kt _ r2 hj)
    clear HS r1 r2 x1 p2 HP HX cp
    go_wp2_with fail
    refine (unhide HE).mono ?_
    rintro e w2 ⟨rfl, k3⟩
    have K3 := ((k1.two sc).set 0 (.string (strOf l))).trans (k3.two sc)
    exact ⟨rfl, rfl, K3⟩

abbrev rdW (s : ByteArray) (w : World) : World := ((w.alloc (.cells #[.string s, .int .i64 0, .bool false, .bool false] 55)).alloc (.cells #[.pointer (some ⟨w.heap.size, 0, none⟩)] 51)).alloc (.cells #[.string ⟨#[]⟩] 9)
theorem rdW_size (s : ByteArray) (w : World) : (rdW s w).heap.size = w.heap.size + 3 := by simp
theorem rdW_rdr (s : ByteArray) (w : World) (o : Obj) : Rdr w.heap.size s 0 false false ((rdW s w).alloc o) := by
  unfold Rdr
  rw [Lib.alloc_old _ o _ (by simp; omega), Lib.alloc_old _ _ _ (by simp; omega), Lib.alloc_old _ _ _ (by simp)]
  exact heap_alloc_new w _
theorem rdW_ptr (s : ByteArray) (w : World) (o : Obj) : Var (w.heap.size + 1) 51 (.pointer (some ⟨w.heap.size, 0, none⟩)) ((rdW s w).alloc o) := by
  unfold Var
  rw [Lib.alloc_old _ o _ (by simp), Lib.alloc_old _ _ _ (by simp)]
  have := heap_alloc_new (w.alloc (.cells #[.string s, .int .i64 0, .bool false, .bool false] 55)) (.cells #[.pointer (some ⟨w.heap.size, 0, none⟩)] 51)
  simpa using this
theorem rdW_str (s : ByteArray) (w : World) (o : Obj) : Var (w.heap.size + 1 + 1) 9 (.string ⟨#[]⟩) ((rdW s w).alloc o) := by
  unfold Var
  rw [Lib.alloc_old _ o _ (by simp)]
  have := heap_alloc_new ((w.alloc (.cells #[.string s, .int .i64 0, .bool false, .bool false] 55)).alloc (.cells #[.pointer (some ⟨w.heap.size, 0, none⟩)] 51)) (.cells #[.string ⟨#[]⟩] 9)
  simpa using this
theorem rdW_below (s : ByteArray) (w : World) (o : Obj) : Below w.heap.size w ((rdW s w).alloc o) :=
  ((((Below.refl _ _).alloc (Nat.le_refl _) _).alloc (by simp) _).alloc (by simp; omega) _).alloc (by simp; omega) _
theorem ok_new (w : World) : OkCell w.heap.size (w.alloc (.cells #[.bool false] 4)) := heap_alloc_new w _
theorem enters_unq : ∀ args (w : World), (callFunc 39 args).run Tryd.prog w = .ok (.enter 39 args) w := enters_of Tryd.func39 (by kernel_rfl) rfl

theorem KB2.below {rb sc B : Nat} {w w' : World} (h : KB2 rb sc w w') (h1 : B ≤ rb) (h2 : B ≤ sc) (hs : B ≤ w.heap.size) : Below B w w' := ⟨h.os, h.tape, h.output, h.size, fun k hk => h.block k (by omega) (by omega) (by omega)⟩

theorem fitsUnq_ok (s : ByteArray) (w : World) (hs : s.size ≤ 1048576) (hT : Tabs w) (l : List UInt8) (hu : uOk s = some l) :
    Calls Tryd.prog 38 #[.func (.func 39) #[] #[.pointer (some ⟨w.heap.size + 1, 0, none⟩), .pointer (some ⟨w.heap.size + 1 + 1, 0, none⟩)]] (rdW s w) fun e w' => e = .returned (.bool true) ∧ Var (w.heap.size + 1 + 1) 9 (.string (strOf l)) w' ∧ Below w.heap.size w w' := by
  have hsz := rdW_size s w
  have hb := rdW_below s w (.cells #[.bool false] 4)
  have c := unq_ok w.heap.size (w.heap.size + 1) (w.heap.size + 1 + 1) s ⟨#[]⟩ false false ((rdW s w).alloc (.cells #[.bool false] 4)) (rdW_rdr s w _) (rdW_ptr s w _) (rdW_str s w _) (by omega) (by omega) (by omega) hs w.heap.size ((TabsB.of hT).next hb (Nat.le_refl _)) (Nat.le_refl _) l hu
  have hsz4 : ((rdW s w).alloc (.cells #[.bool false] 4)).heap.size = w.heap.size + 4 := by simp
  refine (fits_ok 39 _ (rdW s w) (fun w1 => Var (w.heap.size + 1 + 1) 9 (.string (strOf l)) w1 ∧ Below w.heap.size w w1) enters_unq (c.mono ?_)).mono ?_
  · rintro e w1 ⟨rfl, k, v⟩
    exact ⟨rfl, (k.block (rdW s w).heap.size (by omega) (by omega) (by omega)).trans (ok_new (rdW s w)), v, hb.trans (k.below (by omega) (by omega) (by omega))⟩
  · rintro e w' ⟨rfl, w1, ⟨v, b⟩, rfl⟩
    exact ⟨rfl, v.other (p := ⟨(rdW s w).heap.size, 0, none⟩) (by show _ ≠ (rdW s w).heap.size; omega) _, b.setCell (p := ⟨(rdW s w).heap.size, 0, none⟩) (by show _ ≤ (rdW s w).heap.size; omega) _⟩
theorem fitsUnq_bad (s : ByteArray) (w : World) (hs : s.size ≤ 1048576) (hT : Tabs w) (hu : uOk s = none) :
    Calls Tryd.prog 38 #[.func (.func 39) #[] #[.pointer (some ⟨w.heap.size + 1, 0, none⟩), .pointer (some ⟨w.heap.size + 1 + 1, 0, none⟩)]] (rdW s w) fun e w' => e = .returned (.bool false) ∧ Below w.heap.size w w' := by
  have hsz := rdW_size s w
  have hb := rdW_below s w (.cells #[.bool false] 4)
  have c := unq_bad w.heap.size (w.heap.size + 1) (w.heap.size + 1 + 1) s ⟨#[]⟩ false false ((rdW s w).alloc (.cells #[.bool false] 4)) (rdW_rdr s w _) (rdW_ptr s w _) (rdW_str s w _) (by omega) (by omega) (by omega) hs w.heap.size ((TabsB.of hT).next hb (Nat.le_refl _)) (Nat.le_refl _) hu
  have hsz4 : ((rdW s w).alloc (.cells #[.bool false] 4)).heap.size = w.heap.size + 4 := by simp
  refine (fits_mis 39 _ (rdW s w) (fun w1 => Below w.heap.size w w1) enters_unq (c.mono ?_)).mono ?_
  · rintro e w1 ⟨rfl, k⟩
    exact ⟨rfl, (k.block (rdW s w).heap.size (by omega) (by omega) (by omega)).trans (ok_new (rdW s w)), hb.trans (k.below (by omega) (by omega) (by omega))⟩
  · rintro e w' ⟨rfl, w1, b, rfl⟩
    exact ⟨rfl, (b.alloc b.size _).setCell (p := ⟨(rdW s w).heap.size, 0, none⟩) (by show _ ≤ (rdW s w).heap.size; omega) _⟩

set_option maxHeartbeats 800000 in
theorem implUnquote_walk (s : ByteArray) (w : World) (hs : s.size ≤ 1048576) (hT : Tabs w) :
    Calls Tryd.prog 21 #[.string s] w fun e w' => e = .returned (uRes s) ∧ Below w.heap.size w w' := by
  by_cases hl : s.size ≤ 20000
  · have tl : ¬ (20000 : Int) < (s.size : Int) := by omega
    have hmf : ∀ (fn : Fn) (first cap : Array Value) (w : World), (Instr.makeFunc fn first cap).run Tryd.prog w = .ok (.func fn first cap) w := fun _ _ _ _ => rfl
    cases hu : uOk s with
    | some l =>
      have HR : Hid (uRes s = .tuple #[.string (strOf l), .bool true]) := by show _ = _; unfold uRes; rw [if_pos hl, hu]; rfl
      have HF := hide (fitsUnq_ok s w hs hT l hu)
      generalize strOf l = sl at *
      clear hT hu
      go_enter Tryd.func21, Tryd.ntmps21
      go_wp2_with fail
      refine (unhide HF).mono ?_
      rintro e w1 ⟨rfl, v1, b1⟩
      have c1 := v1.cell
      clear HF v1
      go_wp2
      go_ret2
      exact ⟨by rw [unhide HR]; rfl, b1⟩
    | none =>
      have HR : Hid (uRes s = .tuple #[.string ⟨#[]⟩, .bool false]) := by show _ = _; unfold uRes; rw [if_pos hl, hu]; rfl
      have HF := hide (fitsUnq_bad s w hs hT hu)
      clear hT hu
      go_enter Tryd.func21, Tryd.ntmps21
      go_wp2_with fail
      refine (unhide HF).mono ?_
      rintro e w1 ⟨rfl, b1⟩
      clear HF
      go_wp2
      go_ret2
      exact ⟨by rw [unhide HR]; rfl, b1⟩
  · have tl : (20000 : Int) < (s.size : Int) := by omega
    have HR : Hid (uRes s = .tuple #[.string ⟨#[]⟩, .bool false]) := by show _ = _; unfold uRes; rw [if_neg hl]
    go_enter Tryd.func21, Tryd.ntmps21
    go_wp2
    go_ret2
    exact ⟨by rw [unhide HR]; rfl, Below.refl _ _⟩
end Go.Proofs.YtadefcohbkgbfaaDoor
