import Derived.Test.YtadefcohbkgbfabGreatDoorBn24
import Derived.Test.YtadefcohbkgbfabGreatDoorBn25
import Derived.Deep.RegionLaw
import Derived.Deep.CutRange
import Derived.Lib.AtoiErrMem
import Derived.Deep.LoopGhost
import Derived.Test.YtadefcohbkgbfabGreatDoorBn19
import Derived.Test.YtadefcohbkgbfabGreatDoorBn1
import Derived.Test.YtadefcohbkgbfabGreatDoorBn10
import Derived.Test.YtadefcohbkgbfabGreatDoorBn5
import Derived.Test.YtadefcohbkgbfabGreatDoorBn7
namespace Go.Proofs.YtadefcohbkgbfabGreatDoor
open Go.RowKit

/-- All old blocks but two are as they were. -/
structure KB2 (rb sc : Nat) (w w' : World) : Prop where
  os : w'.os = w.os
  tape : w'.tape = w.tape
  output : w'.output = w.output
  size : w.heap.size ≤ w'.heap.size
  block : ∀ k, k < w.heap.size → k ≠ rb → k ≠ sc → w'.heap[k]? = w.heap[k]?
theorem KB.two {rb : Nat} {w w' : World} (h : KB rb w w') (sc : Nat) : KB2 rb sc w w' := ⟨h.os, h.tape, h.output, h.size, fun k hk h1 _ => h.block k hk h1⟩
theorem KB2.trans {rb sc : Nat} {a b c : World} (h : KB2 rb sc a b) (k : KB2 rb sc b c) : KB2 rb sc a c :=
  ⟨k.os.trans h.os, k.tape.trans h.tape, k.output.trans h.output, Nat.le_trans h.size k.size, fun i hi h1 h2 => (k.block i (Nat.lt_of_lt_of_le hi h.size) h1 h2).trans (h.block i hi h1 h2)⟩
theorem KB2.set {rb sc : Nat} {a w : World} (h : KB2 rb sc a w) (j : Nat) (v : Value) : KB2 rb sc a (w.setCell ⟨sc, j, none⟩ v) :=
  h.trans ⟨rfl, rfl, rfl, by simp [World.setCell], fun k _ _ hn => Below.heap_setCell _ _ _ _ hn⟩

/-- The bytes of a text that is one string. -/
def uOk (s : ByteArray) : Option (List UInt8) := (strQ s 0).bind fun q => if q.2 = s.size then some q.1 else none
def uRes (s : ByteArray) : Value := if s.size ≤ 20000 then (uOk s).elim (.tuple #[.string ⟨#[]⟩, .bool false]) (fun l => .tuple #[.string (strOf l), .bool true]) else .tuple #[.string ⟨#[]⟩, .bool false]

theorem uOk_none {s : ByteArray} (h : strQ s 0 = none) : uOk s = none := by unfold uOk; rw [h]; rfl
theorem uOk_some {s : ByteArray} {l : List UInt8} {j : Nat} (h : strQ s 0 = some (l, j)) : uOk s = if j = s.size then some l else none := by unfold uOk; rw [h]; rfl

/-- A variable that holds one value. -/
def Var (b : Nat) (t : TypeId) (v : Value) (w : World) : Prop := w.heap[b]? = some (.cells #[v] t (0, 0))
theorem Var.cell {b : Nat} {t : TypeId} {v : Value} {w : World} (h : Var b t v w) : w.cell? ⟨b, 0, none⟩ = some v := by rw [Lib.cell_of_heap h]; rfl
theorem Var.frozen {b : Nat} {t : TypeId} {v : Value} {w : World} (h : Var b t v w) : w.frozen? ⟨b, 0, none⟩ = false := Lib.frozen_of_heap h 0
theorem Var.lt {b : Nat} {t : TypeId} {v : Value} {w : World} (h : Var b t v w) : b < w.heap.size := (Array.getElem?_eq_some_iff.1 h).1
theorem Var.kb {b rb : Nat} {t : TypeId} {v : Value} {w w' : World} (h : Var b t v w) (k : KB rb w w') (hn : b ≠ rb) : Var b t v w' := (k.block b h.lt hn).trans h
theorem Var.set {b : Nat} {t : TypeId} {v : Value} {w : World} (h : Var b t v w) (v' : Value) : Var b t v' (w.setCell ⟨b, 0, none⟩ v') := heap_setCell_same w b 0 _ t v' h
theorem Var.other {b : Nat} {t : TypeId} {v : Value} {w : World} (h : Var b t v w) {p : Addr} (hp : b ≠ p.block) (v' : Value) : Var b t v (w.setCell p v') := (Below.heap_setCell w p v' b hp).trans h
theorem Rdr.other {rb : Nat} {s : ByteArray} {i : Nat} {tb kt : Bool} {w : World} (h : Rdr rb s i tb kt w) {p : Addr} (hp : rb ≠ p.block) (v' : Value) : Rdr rb s i tb kt (w.setCell p v') := (Below.heap_setCell w p v' rb hp).trans h

set_option maxHeartbeats 800000 in
theorem unq_ok (rb pc sc : Nat) (s x : ByteArray) (tb kt : Bool) (w : World) (h : Rdr rb s 0 tb kt w) (hp : Var pc 46 (.pointer (some ⟨rb, 0, none⟩)) w) (hx : Var sc 9 (.string x) w) (h1 : pc ≠ rb) (h2 : sc ≠ rb) (h3 : pc ≠ sc) (hs : s.size ≤ 1048576) (B : Nat) (hT : TabsB B w) (hB : B ≤ rb) (l : List UInt8) (hl : uOk s = some l) :
    Calls Tryz.prog 31 #[.pointer (some ⟨pc, 0, none⟩), .pointer (some ⟨sc, 0, none⟩)] w fun e w' => e = .returned (.tuple #[]) ∧ KB2 rb sc w w' ∧ Var sc 9 (.string (strOf l)) w' := by
  have HS := hide (readString_walk rb s 0 tb kt w h hs (by omega) B hT hB)
  obtain ⟨q, hq⟩ : ∃ q, strQ s 0 = some q := by
    cases e : strQ s 0 with
    | none => rw [uOk_none e] at hl; cases hl
    | some q => exact ⟨q, rfl⟩
  obtain ⟨l', j⟩ := q
  rw [uOk_some hq] at hl
  have hj : j = s.size := by
    by_cases g : j = s.size
    · exact g
    · rw [if_neg g] at hl; cases hl
  rw [if_pos hj] at hl
  injection hl with hl
  rw [hq, hl] at HS
  have cp := hp.cell
  have HP := hide hp
  have HX := hide hx
  clear hp hx h hq hT
  go_enter Tryz.func31, Tryz.ntmps31
  go_wp2_with fail
  refine (unhide HS).mono ?_
  rintro e w1 ⟨k1, rfl, r1⟩
  have x1 := (unhide HX).kb k1 h2
  have cx := x1.cell
  have fx := x1.frozen
  have x2 := x1.set (.string (strOf l))
  have p2 := ((unhide HP).kb k1 h1).other (p := ⟨sc, 0, none⟩) h3 (.string (strOf l))
  have cp2 := p2.cell
  have r2 := r1.other (p := ⟨sc, 0, none⟩) (fun e => h2 e.symm) (.string (strOf l))
  have HE := hide (readEnd_at rb s j tb kt _ r2 hj)
  have X2 := hide x2
  clear HS r1 r2 x1 x2 p2 HP HX cp
  go_wp2_with fail
  refine (unhide HE).mono ?_
  rintro e w2 ⟨rfl, r3, k3⟩
  have X3 := hide ((unhide X2).kb k3 h2)
  have K3 := ((k1.two sc).set 0 (.string (strOf l))).trans (k3.two sc)
  clear HE X2 r3 cx fx cp2
  go_wp2
  go_end0
  exact ⟨rfl, K3, unhide X3⟩

set_option maxHeartbeats 800000 in
theorem unq_bad (rb pc sc : Nat) (s x : ByteArray) (tb kt : Bool) (w : World) (h : Rdr rb s 0 tb kt w) (hp : Var pc 46 (.pointer (some ⟨rb, 0, none⟩)) w) (hx : Var sc 9 (.string x) w) (h1 : pc ≠ rb) (h2 : sc ≠ rb) (h3 : pc ≠ sc) (hs : s.size ≤ 1048576) (B : Nat) (hT : TabsB B w) (hB : B ≤ rb) (hl : uOk s = none) :
    Calls Tryz.prog 31 #[.pointer (some ⟨pc, 0, none⟩), .pointer (some ⟨sc, 0, none⟩)] w fun e w' => e = mis ∧ KB2 rb sc w w' := by
  have HS := hide (readString_walk rb s 0 tb kt w h hs (by omega) B hT hB)
  have cp := hp.cell
  have HP := hide hp
  have HX := hide hx
  cases hq : strQ s 0 with
  | none =>
    rw [hq] at HS
    clear hp hx h hq hT hl
    go_enter Tryz.func31, Tryz.ntmps31
    go_wp2_with fail
    refine (unhide HS).mono ?_
    rintro e w1 ⟨k1, rfl⟩
    exact ⟨rfl, rfl, k1.two sc⟩
  | some q =>
    obtain ⟨l, j⟩ := q
    rw [uOk_some hq] at hl
    have hj : j ≠ s.size := fun g => by rw [if_pos g] at hl; cases hl
    rw [hq] at HS
    clear hp hx h hq hT hl
    go_enter Tryz.func31, Tryz.ntmps31
    go_wp2_with fail
    refine (unhide HS).mono ?_
    rintro e w1 ⟨k1, rfl, r1⟩
    have x1 := (unhide HX).kb k1 h2
    have cx := x1.cell
    have fx := x1.frozen
    have p2 := ((unhide HP).kb k1 h1).other (p := ⟨sc, 0, none⟩) h3 (.string (strOf l))
    have cp2 := p2.cell
    have r2 := r1.other (p := ⟨sc, 0, none⟩) (fun e => h2 e.symm) (.string (strOf l))
    have HE := hide (readEnd_not rb s j tb kt _ r2 hj)
    clear HS r1 r2 x1 p2 HP HX cp
    go_wp2_with fail
    refine (unhide HE).mono ?_
    rintro e w2 ⟨rfl, k3⟩
    have K3 := ((k1.two sc).set 0 (.string (strOf l))).trans (k3.two sc)
    exact ⟨rfl, rfl, K3⟩

abbrev rdW (s : ByteArray) (w : World) : World := ((w.alloc (.cells #[.string s, .int .i64 0, .bool false, .bool false] 50)).alloc (.cells #[.pointer (some ⟨w.heap.size, 0, none⟩)] 46)).alloc (.cells #[.string ⟨#[]⟩] 9)
theorem rdW_size (s : ByteArray) (w : World) : (rdW s w).heap.size = w.heap.size + 3 := by simp
theorem rdW_rdr (s : ByteArray) (w : World) (o : Obj) : Rdr w.heap.size s 0 false false ((rdW s w).alloc o) := by
  unfold Rdr
  rw [Lib.alloc_old _ o _ (by simp; omega), Lib.alloc_old _ _ _ (by simp; omega), Lib.alloc_old _ _ _ (by simp)]
  exact heap_alloc_new w _
theorem rdW_ptr (s : ByteArray) (w : World) (o : Obj) : Var (w.heap.size + 1) 46 (.pointer (some ⟨w.heap.size, 0, none⟩)) ((rdW s w).alloc o) := by
  unfold Var
  rw [Lib.alloc_old _ o _ (by simp), Lib.alloc_old _ _ _ (by simp)]
  have := heap_alloc_new (w.alloc (.cells #[.string s, .int .i64 0, .bool false, .bool false] 50)) (.cells #[.pointer (some ⟨w.heap.size, 0, none⟩)] 46)
  simpa using this
theorem rdW_str (s : ByteArray) (w : World) (o : Obj) : Var (w.heap.size + 1 + 1) 9 (.string ⟨#[]⟩) ((rdW s w).alloc o) := by
  unfold Var
  rw [Lib.alloc_old _ o _ (by simp)]
  have := heap_alloc_new ((w.alloc (.cells #[.string s, .int .i64 0, .bool false, .bool false] 50)).alloc (.cells #[.pointer (some ⟨w.heap.size, 0, none⟩)] 46)) (.cells #[.string ⟨#[]⟩] 9)
  simpa using this
theorem rdW_below (s : ByteArray) (w : World) (o : Obj) : Below w.heap.size w ((rdW s w).alloc o) :=
  ((((Below.refl _ _).alloc (Nat.le_refl _) _).alloc (by simp) _).alloc (by simp; omega) _).alloc (by simp; omega) _
theorem ok_new (w : World) : OkCell w.heap.size (w.alloc (.cells #[.bool false] 4)) := heap_alloc_new w _
theorem enters_unq : ∀ args (w : World), (callFunc 31 args).run Tryz.prog w = .ok (.enter 31 args) w := enters_of Tryz.func31 (by kernel_rfl) rfl

theorem KB2.below {rb sc B : Nat} {w w' : World} (h : KB2 rb sc w w') (h1 : B ≤ rb) (h2 : B ≤ sc) (hs : B ≤ w.heap.size) : Below B w w' := ⟨h.os, h.tape, h.output, h.size, fun k hk => h.block k (by omega) (by omega) (by omega)⟩

theorem fitsUnq_ok (s : ByteArray) (w : World) (hs : s.size ≤ 1048576) (hT : Tabs w) (l : List UInt8) (hu : uOk s = some l) :
    Calls Tryz.prog 30 #[.func (.func 31) #[] #[.pointer (some ⟨w.heap.size + 1, 0, none⟩), .pointer (some ⟨w.heap.size + 1 + 1, 0, none⟩)]] (rdW s w) fun e w' => e = .returned (.bool true) ∧ Var (w.heap.size + 1 + 1) 9 (.string (strOf l)) w' ∧ Below w.heap.size w w' := by
  have hsz := rdW_size s w
  have hb := rdW_below s w (.cells #[.bool false] 4)
  have c := unq_ok w.heap.size (w.heap.size + 1) (w.heap.size + 1 + 1) s ⟨#[]⟩ false false ((rdW s w).alloc (.cells #[.bool false] 4)) (rdW_rdr s w _) (rdW_ptr s w _) (rdW_str s w _) (by omega) (by omega) (by omega) hs w.heap.size ((TabsB.of hT).next hb (Nat.le_refl _)) (Nat.le_refl _) l hu
  have hsz4 : ((rdW s w).alloc (.cells #[.bool false] 4)).heap.size = w.heap.size + 4 := by simp
  refine (fits_ok 31 _ (rdW s w) (fun w1 => Var (w.heap.size + 1 + 1) 9 (.string (strOf l)) w1 ∧ Below w.heap.size w w1) enters_unq (c.mono ?_)).mono ?_
  · rintro e w1 ⟨rfl, k, v⟩
    exact ⟨rfl, (k.block (rdW s w).heap.size (by omega) (by omega) (by omega)).trans (ok_new (rdW s w)), v, hb.trans (k.below (by omega) (by omega) (by omega))⟩
  · rintro e w' ⟨rfl, w1, ⟨v, b⟩, rfl⟩
    exact ⟨rfl, v.other (p := ⟨(rdW s w).heap.size, 0, none⟩) (by show _ ≠ (rdW s w).heap.size; omega) _, b.setCell (p := ⟨(rdW s w).heap.size, 0, none⟩) (by show _ ≤ (rdW s w).heap.size; omega) _⟩
theorem fitsUnq_bad (s : ByteArray) (w : World) (hs : s.size ≤ 1048576) (hT : Tabs w) (hu : uOk s = none) :
    Calls Tryz.prog 30 #[.func (.func 31) #[] #[.pointer (some ⟨w.heap.size + 1, 0, none⟩), .pointer (some ⟨w.heap.size + 1 + 1, 0, none⟩)]] (rdW s w) fun e w' => e = .returned (.bool false) ∧ Below w.heap.size w w' := by
  have hsz := rdW_size s w
  have hb := rdW_below s w (.cells #[.bool false] 4)
  have c := unq_bad w.heap.size (w.heap.size + 1) (w.heap.size + 1 + 1) s ⟨#[]⟩ false false ((rdW s w).alloc (.cells #[.bool false] 4)) (rdW_rdr s w _) (rdW_ptr s w _) (rdW_str s w _) (by omega) (by omega) (by omega) hs w.heap.size ((TabsB.of hT).next hb (Nat.le_refl _)) (Nat.le_refl _) hu
  have hsz4 : ((rdW s w).alloc (.cells #[.bool false] 4)).heap.size = w.heap.size + 4 := by simp
  refine (fits_mis 31 _ (rdW s w) (fun w1 => Below w.heap.size w w1) enters_unq (c.mono ?_)).mono ?_
  · rintro e w1 ⟨rfl, k⟩
    exact ⟨rfl, (k.block (rdW s w).heap.size (by omega) (by omega) (by omega)).trans (ok_new (rdW s w)), hb.trans (k.below (by omega) (by omega) (by omega))⟩
  · rintro e w' ⟨rfl, w1, b, rfl⟩
    exact ⟨rfl, (b.alloc b.size _).setCell (p := ⟨(rdW s w).heap.size, 0, none⟩) (by show _ ≤ (rdW s w).heap.size; omega) _⟩

set_option maxHeartbeats 800000 in
theorem implUnquote_walk (s : ByteArray) (w : World) (hs : s.size ≤ 1048576) (hT : Tabs w) :
    Calls Tryz.prog 10 #[.string s] w fun e w' => e = .returned (uRes s) ∧ Below w.heap.size w w' := by
  by_cases hl : s.size ≤ 20000
  · have tl : ¬ (20000 : Int) < (s.size : Int) := by omega
    have hmf : ∀ (fn : Fn) (first cap : Array Value) (w : World), (Instr.makeFunc fn first cap).run Tryz.prog w = .ok (.func fn first cap) w := fun _ _ _ _ => rfl
    cases hu : uOk s with
    | some l =>
      have HR : Hid (uRes s = .tuple #[.string (strOf l), .bool true]) := by show _ = _; unfold uRes; rw [if_pos hl, hu]; rfl
      have HF := hide (fitsUnq_ok s w hs hT l hu)
      generalize strOf l = sl at *
      clear hT hu
      go_enter Tryz.func10, Tryz.ntmps10
      go_wp2_with fail
      refine (unhide HF).mono ?_
      rintro e w1 ⟨rfl, v1, b1⟩
      have c1 := v1.cell
      clear HF v1
      go_wp2
      go_ret2
      exact ⟨by rw [unhide HR]; rfl, b1⟩
    | none =>
      have HR : Hid (uRes s = .tuple #[.string ⟨#[]⟩, .bool false]) := by show _ = _; unfold uRes; rw [if_pos hl, hu]; rfl
      have HF := hide (fitsUnq_bad s w hs hT hu)
      clear hT hu
      go_enter Tryz.func10, Tryz.ntmps10
      go_wp2_with fail
      refine (unhide HF).mono ?_
      rintro e w1 ⟨rfl, b1⟩
      clear HF
      go_wp2
      go_ret2
      exact ⟨by rw [unhide HR]; rfl, b1⟩
  · have tl : (20000 : Int) < (s.size : Int) := by omega
    have HR : Hid (uRes s = .tuple #[.string ⟨#[]⟩, .bool false]) := by show _ = _; unfold uRes; rw [if_neg hl]
    go_enter Tryz.func10, Tryz.ntmps10
    go_wp2
    go_ret2
    exact ⟨by rw [unhide HR]; rfl, Below.refl _ _⟩
end Go.Proofs.YtadefcohbkgbfabGreatDoor


namespace Go.Proofs.YtadefcohbkgbfabGreatDoor
open Go.RowKit

/-- The variable strconv.ErrRange, below block B. -/
def ErrB (B : Nat) (w : World) : Prop := 4 < B ∧ ∃ te pe, w.cell? ⟨4, 0, none⟩ = some (.iface te pe)
theorem ErrB.next {B B' : Nat} {w w' : World} (h : ErrB B w) (hb : Below B' w w') (hB : B ≤ B') : ErrB B w' := by
  obtain ⟨h1, te, pe, h2⟩ := h
  exact ⟨h1, te, pe, (hb.cell (p := ⟨4, 0, none⟩) (Nat.lt_of_lt_of_le h1 hB)).trans h2⟩
theorem parse_ok (l : List UInt8) (z : Int) (w : World) (hl : l.length ≤ 100000) (h : Lib.parseIntB 64 l = .ok z) :
    Calls Tryz.prog 105 #[.string (strOf l), .int .i64 10, .int .i64 64] w fun e w' => e = .returned (.tuple #[.int .i64 z, .nilIface]) ∧ Below w.heap.size w w' := by
  refine (Tryz.strconv_ParseInt_10_at64_ok (strOf l) (by rw [strOf_size]; omega) z (by rw [strOf_toList]; exact h) w).mono ?_
  rintro e w' ⟨rfl, rfl | ⟨t, rfl⟩⟩
  · exact ⟨rfl, Below.refl _ _⟩
  · exact ⟨rfl, Lib.bytesWorld_below w _ t⟩
theorem parse_range (l : List UInt8) (B : Nat) (w : World) (hl : l.length ≤ 100000) (hE : ErrB B w) (h : Lib.parseIntB 64 l = .range) :
    Calls Tryz.prog 105 #[.string (strOf l), .int .i64 10, .int .i64 64] w fun e w' => ∃ (z : Int) (t : TypeId) (p : Value), e = .returned (.tuple #[.int .i64 z, .iface t p]) ∧ Below w.heap.size w w' := by
  obtain ⟨_, te, pe, hc⟩ := hE
  refine (Tryz.strconv_ParseInt_10_at64_range (strOf l) (by rw [strOf_size]; omega) (by rw [strOf_toList]; exact h) (.iface te pe) w hc (.inr ⟨te, pe, rfl⟩)).mono ?_
  rintro e w' ⟨N, rfl, _, _, b⟩
  exact ⟨_, _, _, rfl, b⟩

theorem Rdr.bigc {rb : Nat} {s : ByteArray} {i : Nat} {tb kt : Bool} {w : World} (h : Rdr rb s i tb kt w) : w.cell? ⟨rb, 2, none⟩ = some (.bool tb) := by rw [Lib.cell_of_heap h]; rfl
theorem Rdr.fz {rb : Nat} {s : ByteArray} {i : Nat} {tb kt : Bool} {w : World} (h : Rdr rb s i tb kt w) (k : Nat) : w.frozen? ⟨rb, k, none⟩ = false := Lib.frozen_of_heap h k
theorem Rdr.setBig {rb : Nat} {s : ByteArray} {i : Nat} {tb kt : Bool} {w : World} (h : Rdr rb s i tb kt w) : Rdr rb s i true kt (w.setCell ⟨rb, 2, none⟩ (.bool true)) := heap_setCell_same w rb 2 _ 50 (.bool true) h
/-- A number, as the reader reads it. -/
def NPost (rb : Nat) (s : ByteArray) (tb kt : Bool) (w : World) (o : Option (List UInt8 × Nat)) (e : Ending) (w' : World) : Prop :=
  KB rb w w' ∧ o.elim (e = mis) fun q => ∃ z : Int, e = .returned (.iface 147 (.int .i64 z)) ∧ Rdr rb s q.2 (tb || tooBig q.1) kt w' ∧ (tooBig q.1 = false → Lib.itoa z = q.1 ∧ -9223372036854775808 ≤ z ∧ z ≤ 9223372036854775807)

set_option maxRecDepth 100000 in
set_option maxHeartbeats 4000000 in
theorem readNumber_walk (rb : Nat) (s : ByteArray) (i : Nat) (tb kt : Bool) (w : World) (h : Rdr rb s i tb kt w) (hs : s.size ≤ 100000) (hi : i ≤ s.size) (B : Nat) (hE : ErrB B w) (hB : B ≤ rb) :
    Calls Tryz.prog 94 #[.pointer (some ⟨rb, 0, none⟩)] w (NPost rb s tb kt w (nm s i)) := by
  have ca := h.at
  have hlt := h.lt
  have H := hide h
  have HE := hide hE
  have hd1 : i ≤ nmD s i := by unfold nmD; split <;> omega
  have hd2 : nmD s i ≤ s.size := by
    unfold nmD; split
    · have := bt_in (s := s) (i := i) (by omega); omega
    · exact hi
  have HSK : Hid (∀ w1, Rdr rb s i tb kt w1 → Calls Tryz.prog 50 #[.pointer (some ⟨rb, 0, none⟩), .int .u8 45] w1 fun e w' => (∃ b, e = .returned (.bool b)) ∧ Rdr rb s (nmD s i) tb kt w' ∧ KB rb w1 w') := fun w1 h1 => by
    by_cases g : bt s i = 45
    · have := skip_yes rb s i tb kt w1 h1 (by omega) 45 g (bt_in (by omega))
      rw [show nmD s i = i + 1 by unfold nmD; rw [if_pos g]]
      exact this.mono fun e w' ⟨he, r⟩ => ⟨⟨_, he⟩, r⟩
    · have := skip_no rb s i tb kt w1 h1 hi 45 (.inl g)
      rw [show nmD s i = i by unfold nmD; rw [if_neg g]]
      exact this.mono fun e w' ⟨he, r⟩ => ⟨⟨_, he⟩, r⟩
  have HND : Hid (nm s i = if isDg (bt s (nmD s i)) = true then some (norm0 (cutB s i (nmE s i)), nmE s i) else none) := rfl
  have HNE : Hid (nmE s i = if bt s (nmD s i) = 48 then nmD s i + 1 else dg s (nmD s i)) := rfl
  have HPA : Hid (∀ l j, nm s i = some (l, j) → (tooBig l = false → ∃ z : Int, Lib.parseIntB 64 (cutB s i j) = .ok z ∧ Lib.itoa z = l ∧ -9223372036854775808 ≤ z ∧ z ≤ 9223372036854775807) ∧ (tooBig l = true → Lib.parseIntB 64 (cutB s i j) = .range)) := fun l j h => nm_parse h
  clear h hE
  generalize hde : nmD s i = d at *
  go_enter Tryz.func94, Tryz.ntmps94
  go_wp2_with fail
  refine (unhide HSK _ (unhide H)).mono ?_
  rintro e w1 ⟨⟨b0, rfl⟩, r1, k1⟩
  have HPK := hide (peek_walk rb s d tb kt w1 r1 hd2)
  clear ca HSK r1
  go_wp2_with fail
  refine (unhide HPK).mono ?_
  rintro e w2 ⟨rfl, r2, k2⟩
  have R2 := hide r2
  have K2 := hide (k1.trans k2)
  have HDG := hide (isDigit_walk (bt s d) w2 (bt_lt s d))
  clear HPK r2 k1 k2
  go_wp2_with fail
  refine (unhide HDG).mono ?_
  rintro e w3 ⟨rfl, rfl⟩
  cases hdg : isDg (bt s d) with
  | false =>
    have HN : Hid (nm s i = none) := by
      show _ = _
      rw [unhide HND, if_neg (by rw [hdg]; simp)]
    clear hdg
    go_wp2
    exact ⟨rfl, unhide K2, by rw [unhide HN]; rfl⟩
  | true =>
    have hdI := isDg_iff.1 hdg
    have hdlt : d < s.size := bt_in (by omega)
    have HN : Hid (nm s i = some (norm0 (cutB s i (nmE s i)), nmE s i)) := by
      show _ = _
      rw [unhide HND, if_pos hdg]
    by_cases h48 : bt s d = 48
    · have hEe : nmE s i = d + 1 := by rw [unhide HNE, if_pos h48]
      have HS0 := hide (skip_yes rb s d tb kt w2 (unhide R2) (by omega) 48 h48 hdlt)
      clear h48 hdg hdI
      go_wp2_with fail
      refine (unhide HS0).mono ?_
      rintro e w4 ⟨rfl, r4, k4⟩
      have R4 := hide r4
      have K4 := hide ((unhide K2).trans k4)
      clear HS0 r4 k4 R2 K2
      have hsrc := strOf_cut s i (d + 1)
      have hcl : (cutB s i (d + 1)).length ≤ 100000 := by unfold cutB; rw [List.length_take, List.length_drop, data_len]; omega
      have hcz : (s.extract i (d + 1)).size ≤ 100000 := by rw [hsrc, strOf_size]; exact hcl
      have c0 : w4.drew.cell? ⟨rb, 0, none⟩ = some (.string s) := (unhide R4).text
      have c1 : w4.drew.cell? ⟨rb, 1, none⟩ = some (.int .i64 ((d : Int) + 1)) := by
        have := (unhide R4).at
        exact this
      have i1 : (i : Int) ≤ ((d : Int) + 1) := by omega
      have i2 : ((d : Int) + 1) ≤ (s.size : Int) := by omega
      have i3 : (0 : Int) ≤ (i : Int) := by omega
      have hrl := (unhide R4).lt
      have hsz := (unhide K4).size
      have HEB : Hid (ErrB B w4.drew) := (unhide HE).next ((unhide K4).below hB (by omega)).drew (Nat.le_refl _)
      have HNN : Hid (nm s i = some (norm0 (cutB s i (d + 1)), d + 1)) := by show _ = _; rw [unhide HN, hEe]
      have HP := unhide HPA _ _ (unhide HNN)
      cases htb : tooBig (norm0 (cutB s i (d + 1))) with
      | false =>
        obtain ⟨z, hz1, hz2, hz3, hz4⟩ := HP.1 htb
        have HPI : Hid (Calls Tryz.prog 105 #[.string (s.extract i (d + 1)), .int .i64 10, .int .i64 64] w4.drew fun e w' => e = .returned (.tuple #[.int .i64 z, .nilIface]) ∧ Below w4.drew.heap.size w4.drew w') := by
          rw [hsrc]; exact parse_ok _ z _ hcl hz1
        have HZ : Hid (Lib.itoa z = norm0 (cutB s i (d + 1)) ∧ -9223372036854775808 ≤ z ∧ z ≤ 9223372036854775807) := ⟨hz2, hz3, hz4⟩
        clear HP hz1 hz2 hz3 hz4 hsrc hcl
        go_wp2_with fail
        go_region_law (go_simp; refine (unhide HPI).mono ?_; rintro e w9 ⟨rfl, b9⟩)
        all_goals
          have b9' : Below w4.heap.size w4 w9 := ⟨b9.os, b9.tape, b9.output, b9.size, b9.block⟩
          have R9 := hide ((unhide R4).below' (w' := w9) (B := w4.heap.size) b9' hrl)
          have K9 : KB rb w w9 := (unhide K4).then_below (b9'.mono hsz)
          clear HPI b9 b9' c0 c1
          go_wp2
          go_ret
          refine ⟨K9, ?_⟩
          rw [unhide HNN]
          exact ⟨z, rfl, by rw [htb, Bool.or_false]; exact unhide R9, fun _ => unhide HZ⟩
      | true =>
        have HPI : Hid (Calls Tryz.prog 105 #[.string (s.extract i (d + 1)), .int .i64 10, .int .i64 64] w4.drew fun e w' => ∃ (z : Int) (t : TypeId) (p : Value), e = .returned (.tuple #[.int .i64 z, .iface t p]) ∧ Below w4.drew.heap.size w4.drew w') := by
          rw [hsrc]; exact parse_range _ B _ hcl (unhide HEB) (HP.2 htb)
        clear HP hsrc hcl
        go_wp2_with fail
        go_region_law (go_simp; refine (unhide HPI).mono ?_; rintro e w9 ⟨z, t, p, rfl, b9⟩)
        all_goals
          have b9' : Below w4.heap.size w4 w9 := ⟨b9.os, b9.tape, b9.output, b9.size, b9.block⟩
          have R9 := (unhide R4).below' (w' := w9) (B := w4.heap.size) b9' hrl
          have K9 : KB rb w w9 := (unhide K4).then_below (b9'.mono hsz)
          have c2 := R9.bigc
          have f2 := R9.fz 2
          have RR := hide R9.setBig
          clear HPI b9 b9' c0 c1 R9
          go_wp2
          go_ret
          refine ⟨K9.set 2 _, ?_⟩
          rw [unhide HNN]
          exact ⟨z, rfl, by rw [htb, Bool.or_true]; exact unhide RR, fun h => by rw [htb] at h; cases h⟩
    · have hEe0 : nmE s i = dg s d := by rw [unhide HNE, if_neg h48]
      have HS0 := hide (skip_no rb s d tb kt w2 (unhide R2) hd2 48 (.inl h48))
      clear h48
      go_wp2_with fail
      refine (unhide HS0).mono ?_
      rintro e w4 ⟨rfl, r4, k4⟩
      have R4 := hide r4
      have K4 := hide ((unhide K2).trans k4)
      clear HS0 r4 k4 R2 K2
      go_wp2_with fail
      go_loopg [] (s.size - d) (fun g wr => ∃ j : Nat, g = s.size - j ∧ d ≤ j ∧ j ≤ s.size ∧ Rdr rb s j tb kt wr ∧ KB rb w wr ∧ dg s d = dg s j ∧ (d < j ∨ j = d))
      case atStart => exact ⟨d, rfl, Nat.le_refl _, hd2, unhide R4, unhide K4, rfl, .inr rfl⟩
      case round =>
        obtain ⟨j, hg, hj1, hj2, hr, hk, hst, hj3⟩ := hrel
        have HPK := hide (peek_walk rb s j tb kt wr hr hj2)
        have HK := hide hk
        have HST := hide hst
        clear hr hk hst R4 K4
        go_wp2_with fail
        refine (unhide HPK).mono ?_
        rintro e w5 ⟨rfl, r5, k5⟩
        have R5 := hide r5
        have K5 := hide ((unhide HK).trans k5)
        have HDG := hide (isDigit_walk (bt s j) w5 (bt_lt s j))
        clear HPK r5 k5 HK
        go_wp2_with fail
        refine (unhide HDG).mono ?_
        rintro e w6 ⟨rfl, rfl⟩
        cases hjd : isDg (bt s j) with
        | true =>
          have hjlt : j < s.size := bt_in (by have := isDg_iff.1 hjd; omega)
          have HX : Hid (dg s d = dg s (j + 1)) := by show _ = _; rw [unhide HST, dg_on hjd]
          have c1 := (unhide R5).at
          have f1 := (unhide R5).frozen
          have R6 := hide ((unhide R5).set ((j : Int) + 1) (j + 1) (by omega))
          clear hjd HDG
          go_wp2
          go_roundg (s.size - (j + 1))
          case rel => exact ⟨j + 1, rfl, by omega, by omega, unhide R6, (unhide K5).set 1 _, unhide HX, .inl (by omega)⟩
          case measure => omega
        | false =>
          have hEe : nmE s i = j := by rw [hEe0, unhide HST, dg_off (by rw [hjd]; simp)]
          have hij : i ≤ j := by omega
          clear hjd HDG hj3
          have hsrc := strOf_cut s i (j)
          have hcl : (cutB s i (j)).length ≤ 100000 := by unfold cutB; rw [List.length_take, List.length_drop, data_len]; omega
          have hcz : (s.extract i (j)).size ≤ 100000 := by rw [hsrc, strOf_size]; exact hcl
          have c0 : w5.drew.cell? ⟨rb, 0, none⟩ = some (.string s) := (unhide R5).text
          have c1 : w5.drew.cell? ⟨rb, 1, none⟩ = some (.int .i64 (j : Int)) := by
            have := (unhide R5).at
            exact this
          have i1 : (i : Int) ≤ (j : Int) := by omega
          have i2 : (j : Int) ≤ (s.size : Int) := by omega
          have i3 : (0 : Int) ≤ (i : Int) := by omega
          have hrl := (unhide R5).lt
          have hsz := (unhide K5).size
          have HEB : Hid (ErrB B w5.drew) := (unhide HE).next ((unhide K5).below hB (by omega)).drew (Nat.le_refl _)
          have HNN : Hid (nm s i = some (norm0 (cutB s i (j)), j)) := by show _ = _; rw [unhide HN, hEe]
          have HP := unhide HPA _ _ (unhide HNN)
          cases htb : tooBig (norm0 (cutB s i (j))) with
          | false =>
            obtain ⟨z, hz1, hz2, hz3, hz4⟩ := HP.1 htb
            have HPI : Hid (Calls Tryz.prog 105 #[.string (s.extract i (j)), .int .i64 10, .int .i64 64] w5.drew fun e w' => e = .returned (.tuple #[.int .i64 z, .nilIface]) ∧ Below w5.drew.heap.size w5.drew w') := by
              rw [hsrc]; exact parse_ok _ z _ hcl hz1
            have HZ : Hid (Lib.itoa z = norm0 (cutB s i (j)) ∧ -9223372036854775808 ≤ z ∧ z ≤ 9223372036854775807) := ⟨hz2, hz3, hz4⟩
            clear HP hz1 hz2 hz3 hz4 hsrc hcl
            go_wp2_with fail
            go_region_law (go_simp; refine (unhide HPI).mono ?_; rintro e w9 ⟨rfl, b9⟩)
            all_goals
              have b9' : Below w5.heap.size w5 w9 := ⟨b9.os, b9.tape, b9.output, b9.size, b9.block⟩
              have R9 := hide ((unhide R5).below' (w' := w9) (B := w5.heap.size) b9' hrl)
              have K9 : KB rb w w9 := (unhide K5).then_below (b9'.mono hsz)
              clear HPI b9 b9' c0 c1
              go_wp2
              go_ret
              refine ⟨K9, ?_⟩
              rw [unhide HNN]
              exact ⟨z, rfl, by rw [htb, Bool.or_false]; exact unhide R9, fun _ => unhide HZ⟩
          | true =>
            have HPI : Hid (Calls Tryz.prog 105 #[.string (s.extract i (j)), .int .i64 10, .int .i64 64] w5.drew fun e w' => ∃ (z : Int) (t : TypeId) (p : Value), e = .returned (.tuple #[.int .i64 z, .iface t p]) ∧ Below w5.drew.heap.size w5.drew w') := by
              rw [hsrc]; exact parse_range _ B _ hcl (unhide HEB) (HP.2 htb)
            clear HP hsrc hcl
            go_wp2_with fail
            go_region_law (go_simp; refine (unhide HPI).mono ?_; rintro e w9 ⟨z, t, p, rfl, b9⟩)
            all_goals
              have b9' : Below w5.heap.size w5 w9 := ⟨b9.os, b9.tape, b9.output, b9.size, b9.block⟩
              have R9 := (unhide R5).below' (w' := w9) (B := w5.heap.size) b9' hrl
              have K9 : KB rb w w9 := (unhide K5).then_below (b9'.mono hsz)
              have c2 := R9.bigc
              have f2 := R9.fz 2
              have RR := hide R9.setBig
              clear HPI b9 b9' c0 c1 R9
              go_wp2
              go_ret
              refine ⟨K9.set 2 _, ?_⟩
              rw [unhide HNN]
              exact ⟨z, rfl, by rw [htb, Bool.or_true]; exact unhide RR, fun h => by rw [htb] at h; cases h⟩
end Go.Proofs.YtadefcohbkgbfabGreatDoor


namespace Go.Proofs.YtadefcohbkgbfabGreatDoor
open Go.RowKit

end Go.Proofs.YtadefcohbkgbfabGreatDoor

