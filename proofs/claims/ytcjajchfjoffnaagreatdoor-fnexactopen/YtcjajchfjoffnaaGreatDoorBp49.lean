import Derived.Test.YtcjajchfjoffnaaGreatDoorBp8
import Derived.Test.YtcjajchfjoffnaaGreatDoorBp7
import Derived.Test.YtcjajchfjoffnaaGreatDoorBp41
import Derived.Test.YtcjajchfjoffnaaGreatDoorBp47
import Derived.Test.YtcjajchfjoffnaaGreatDoorBp48
namespace Go.Proofs.YtcjajchfjoffnaaGreatDoor
open Go.RowKit Go.Sort

/-- What Open answers: the versions, and the code. -/
def openL (s : ByteArray) : List Ver := match readR s with
  | .inl _ => []
  | .inr v => [⟨0, strOf (ct v), []⟩]
def openC (s : ByteArray) : Int := match readR s with
  | .inl c => (c : Int)
  | .inr _ => 0
def OpenP (s : ByteArray) (w : World) (e : Ending) (w' : World) : Prop := ∃ v bl, e = .returned (.tuple #[v, .int .i64 (openC s)]) ∧ OSto w' v (openL s) bl ∧ Fsh w.heap.size bl ∧ Below w.heap.size w w'
/-- What openHead answers. -/
def HeadP (s : ByteArray) (w : World) (e : Ending) (w' : World) : Prop := Below w.heap.size w w' ∧ match readR s with
  | .inl c => e = .returned (.tuple #[.pointer none, .int .i64 (c : Int)])
  | .inr v => ∃ g rt, e = .returned (.tuple #[.pointer (some ⟨g, 0, none⟩), .int .i64 0]) ∧ w'.heap[g]? = some (revB (strOf (ct v)) rt)
theorem TabsB.more {B B' : Nat} {w : World} (h : TabsB B w) (hB : B ≤ B') : TabsB B' w := by
  obtain ⟨w0, h1, h2⟩ := h
  exact ⟨w0, Nat.le_trans h1 hB, h2⟩
theorem ErrB.more {B B' : Nat} {w : World} (h : ErrB B w) (hB : B ≤ B') : ErrB B' w := ⟨Nat.lt_of_lt_of_le h.1 hB, h.2⟩
theorem tabsUp {w w' : World} (h : TabsB w.heap.size w) (hb : Below w.heap.size w w') : TabsB w'.heap.size w' := TabsB.more (TabsB.next h hb (Nat.le_refl _)) hb.size
theorem errUp {w w' : World} (h : ErrB w.heap.size w) (hb : Below w.heap.size w w') : ErrB w'.heap.size w' := ErrB.more (ErrB.next h hb (Nat.le_refl _)) hb.size
theorem powUp {w w' : World} (h : PowB w.heap.size w) (hb : Below w.heap.size w w') : PowB w'.heap.size w' := (h.next hb (Nat.le_refl _)).more hb.size
/-- A version that is new: its row of pointers is empty. -/
def verW (w : World) (d : ByteArray) : World := (w.alloc (.cells #[] 9)).alloc (.cells #[.int .i64 0, .string d, .slice (some ⟨w.heap.size, 0, none⟩) 0 0] 58)
theorem ver_new (w : World) (d : ByteArray) : ORow verE (verW w d) (.slice (some ⟨w.heap.size + 1, 0, none⟩) 1 1) [⟨0, d, []⟩] [w.heap.size + 1, w.heap.size] := by
  have hz : (w.alloc (.cells #[] 9)).heap.size = w.heap.size + 1 := by simp
  have k0 : (verW w d).heap[w.heap.size]? = some (.cells #[] 9 (0, 0)) := ((alloc_b (w.alloc (.cells #[] 9)) _).block w.heap.size (by omega)).trans (heap_alloc_new w _)
  have k1 : (verW w d).heap[w.heap.size + 1]? = some (.cells #[.int .i64 0, .string d, .slice (some ⟨w.heap.size, 0, none⟩) 0 0] 58 (0, 0)) := by
    have := heap_alloc_new (w.alloc (.cells #[] 9)) (.cells #[.int .i64 0, .string d, .slice (some ⟨w.heap.size, 0, none⟩) 0 0] 58)
    rw [hz] at this
    exact this
  have o0 : OStr (verW w d) (.slice (some ⟨w.heap.size, 0, none⟩) 0 0) [] [w.heap.size] := ⟨[], rfl, fun _ _ _ h => by simp at h, ⟨rfl, .inr ⟨_, 0, #[], rfl, Nat.zero_le _, k0, Nat.le_refl _, Nat.zero_le _, rfl, rfl⟩⟩, rfl⟩
  refine ⟨[([.int .i64 0, .string d, .slice (some ⟨w.heap.size, 0, none⟩) 0 0], [w.heap.size])], rfl, fun j p y hp hy => ?_, ⟨rfl, .inr ⟨_, 1, _, rfl, Nat.zero_le _, k1, Nat.le_refl _, by decide, rfl, rfl⟩⟩, rfl⟩
  cases j with
  | zero =>
    simp at hp hy
    subst hp; subst hy
    exact ⟨_, rfl, o0⟩
  | succ j => simp at hp
theorem stoA (w : World) : Below w.heap.size w (w.alloc (.cells #[.slice none 0 0] 24)) := alloc_b _ _
set_option maxRecDepth 100000 in
set_option maxHeartbeats 1600000 in
theorem specOpen_walk (s : ByteArray) (w : World) (hz : s.size ≤ 1048576) :
    Calls Tryz.prog 9 #[.string s] w (OpenP s w) := by
  have hA := stoA w
  have kA := heap_alloc_new w (.cells #[.slice none 0 0] 24)
  have zA : (w.alloc (.cells #[.slice none 0 0] 24)).heap.size = w.heap.size + 1 := by simp
  have HC := hide (specCanon_walk s (w.alloc (.cells #[.slice none 0 0] 24)) hz)
  have HA := hide hA
  have HKA := hide kA
  clear hA kA
  unfold OpenP openC openL
  unfold canonV at HC
  cases hr : readR s with
  | inl c =>
    obtain ⟨c1, c2⟩ := read_code hr
    rw [hr] at HC
    have t1 : ((c : Int) == 0) = false := by simp; omega
    have t2 : ((c : Int) != 0) = true := by simp; omega
    have t3 : ¬ (c : Int) = 0 := by omega
    have t4 : ¬ c = 0 := by omega
    clear hr
    go_enter Tryz.func9, Tryz.ntmps9
    go_wp2_with fail
    generalize (w.alloc (.cells #[.slice none 0 0] 24)) = wA at *
    refine (unhide HC).mono ?_
    rintro e w2 ⟨rfl, b1⟩
    have k2 := (b1.block w.heap.size (by omega)).trans (unhide HKA)
    have c0 : w2.cell? ⟨w.heap.size, 0, none⟩ = some (.slice none 0 0) := Lib.cell_of_heap k2 0
    have f0 := Lib.frozen_of_heap k2
    have HB2 := hide b1
    have HK2 := hide k2
    clear HC b1 k2
    go_wp2
    refine bodyPost_ret (results_cell_tmp rfl _ _ w.heap.size 24 #[_] (0, 0) _ _ rfl rfl (putN_full (unhide HK2) [_] rfl) Tryz.underlying24 rfl (by kernel_rfl)) rfl ?_
    exact ⟨_, [], rfl, ⟨_, rfl, ORow.nil _ _⟩, Fsh.nil _, putN_below (below_next (unhide HA) (unhide HB2)) (Nat.le_refl _) [_] 0⟩
  | inr v =>
    rw [hr] at HC
    clear hr
    have HC' : Hid (Calls Tryz.prog 34 #[.string s] (w.alloc (.cells #[.slice none 0 0] 24)) fun e w' => e = .returned (.tuple #[.string (strOf (ct v)), .int .i64 0]) ∧ Below (w.alloc (.cells #[.slice none 0 0] 24)).heap.size (w.alloc (.cells #[.slice none 0 0] 24)) w') := unhide HC
    clear HC
    go_enter Tryz.func9, Tryz.ntmps9
    go_wp2_with fail
    generalize (w.alloc (.cells #[.slice none 0 0] 24)) = wA at *
    refine (unhide HC').mono ?_
    rintro e w2 ⟨rfl, b1⟩
    have b4 : Below w2.heap.size w2 (verW w2 (strOf (ct v))) := below_next (alloc_b w2 _) (alloc_b _ _)
    have hz2 := b1.size
    have k4 := (b4.block w.heap.size (by omega)).trans ((b1.block w.heap.size (by omega)).trans (unhide HKA))
    have c0 : (verW w2 (strOf (ct v))).cell? ⟨w.heap.size, 0, none⟩ = some (.slice none 0 0) := Lib.cell_of_heap k4 0
    have f0 : (verW w2 (strOf (ct v))).frozen? ⟨w.heap.size, 0, none⟩ = false := Lib.frozen_of_heap k4 0
    have HO := hide (ver_new w2 (strOf (ct v)))
    have HB2 := hide (below_next b1 b4)
    have HK2 := hide k4
    have HFN : Hid (w.heap.size ∉ [w2.heap.size + 1, w2.heap.size]) := by show ¬ _; simp; omega
    have HFS : Hid (Fsh w.heap.size [w2.heap.size + 1, w2.heap.size]) := ⟨by simp, fun b hb => by simp at hb; omega⟩
    unfold verW at *
    clear HC' b1 b4 k4
    go_wp2
    refine bodyPost_ret (results_cell_tmp rfl _ _ w.heap.size 24 #[_] (0, 0) _ _ rfl rfl (putN_full (unhide HK2) [_] rfl) Tryz.underlying24 rfl (by kernel_rfl)) rfl ?_
    exact ⟨_, _, rfl, ⟨_, rfl, (unhide HO).putN (unhide HFN) [_] 0⟩, unhide HFS, putN_below (below_next (unhide HA) (unhide HB2)) (Nat.le_refl _) [_] 0⟩
end Go.Proofs.YtcjajchfjoffnaaGreatDoor

namespace Go.Proofs.YtcjajchfjoffnaaGreatDoor
open Go.RowKit

theorem OSto.fr {w w' : World} {v : Value} {h : List Ver} {bl fl : List Nat} (ho : OSto w v h bl) (f : Fr fl w w') (hd : ∀ b ∈ bl, b ∉ fl) : OSto w' v h bl := by
  obtain ⟨p, rfl, o⟩ := ho
  exact ⟨p, rfl, o.keep (f.kp o.lt hd)⟩
theorem OSto.lt {w : World} {v : Value} {h : List Ver} {bl : List Nat} (ho : OSto w v h bl) : ∀ b ∈ bl, b < w.heap.size := by
  obtain ⟨p, rfl, o⟩ := ho
  exact o.lt
theorem open_small (s : ByteArray) : szVers (openL s) ≤ 20000000 ∧ cntR cntVer (openL s) ≤ 2 := by
  unfold openL
  cases hr : readR s with
  | inl c => simp [szVers, cntR]
  | inr v =>
    obtain ⟨hs, hd, _⟩ := read_facts hr
    have := (doc_facts hd).2.2
    simp [szVers, cntR, szVer, szStr, tot, cntVer, strOf_size]
    omega
/-- What the row's condition says of the tables. -/
def VarsOk (w : World) : Prop := Tabs w ∧ ErrB w.heap.size w ∧ PowB w.heap.size w
theorem tables_of {W : World} (hL : laidMetH Tryz.prog Rows.fnExactOpenRow.laid W) : VarsOk W := by
  have h : laidMet Tryz.prog laidAll W := hL
  exact ⟨tabs_at h, err_at h, pow_at h⟩
end Go.Proofs.YtcjajchfjoffnaaGreatDoor
