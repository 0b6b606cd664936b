import Derived.Test.YtcjajchfjoffnaaGreatDoorBst46
import Derived.Test.YtcjajchfjoffnaaGreatDoorBst20
import Derived.Test.YtcjajchfjoffnaaGreatDoorBst8
import Derived.Test.YtcjajchfjoffnaaGreatDoorBst7
import Derived.Test.YtcjajchfjoffnaaGreatDoorBst19
import Derived.Test.YtcjajchfjoffnaaGreatDoorBst24
import Derived.Test.YtcjajchfjoffnaaGreatDoorBst26
import Derived.Test.YtcjajchfjoffnaaGreatDoorBst22
import Derived.Test.YtcjajchfjoffnaaGreatDoorBst47
namespace Go.Proofs.YtcjajchfjoffnaaGreatDoor
open Go.RowKit Go.Sort

/-- What readCanonText answers. -/
def RCPost (s : ByteArray) (w : World) (e : Ending) (w' : World) : Prop :=
  Below w.heap.size w w' ∧ (goodT s = false → e = .returned (.tuple #[.nilIface, .bool false])) ∧
  (goodT s = true → ∃ (v : JV) (t : TypeId) (p : Value), readR s = .inr v ∧ strOf (ct v) = s ∧ e = .returned (.tuple #[.iface t p, .bool true]) ∧ Rep w' (fun k => w.heap.size ≤ k ∧ k < w'.heap.size) v (.iface t p))
theorem goodT_no {s : ByteArray} {v : JV} (h : readR s = .inr v) (hb : goodT s = false) : ((strOf (ct v)).toList == s.toList) = false := by
  unfold goodT at hb
  rw [h] at hb
  exact hb
set_option maxRecDepth 100000 in
set_option maxHeartbeats 1600000 in
theorem readCanon_walk (s : ByteArray) (w : World) (hT : TabsB w.heap.size w) (hE : ErrB w.heap.size w) (hP : PowB w.heap.size w) (hz : s.size ≤ 9223372036854775807) :
    Calls Tryz.prog 83 #[.string s] w (RCPost s w) := by
  have HF := hide (readText_walk s w hT hE hP hz)
  have HP := hide hP
  clear hT hE hP
  cases hr : readR s with
  | inl c =>
    obtain ⟨c1, c2⟩ := read_code hr
    have hg : goodT s = false := by unfold goodT; rw [hr]
    rw [hr] at HF
    have t1 : ((c : Int) == 0) = false := by simp; omega
    have t2 : ((c : Int) != 0) = true := by simp; omega
    have t3 : ¬ (c : Int) = 0 := by omega
    have t4 : ¬ c = 0 := by omega
    have HG := hide hg
    clear hr hg
    go_enter Tryz.func83, Tryz.ntmps83
    go_wp2_with fail
    refine (unhide HF).mono ?_
    rintro e w1 ⟨b1, rfl⟩
    clear HF
    go_wp2
    go_ret2
    exact ⟨b1, fun _ => rfl, fun h => by rw [unhide HG] at h; cases h⟩
  | inr v =>
    obtain ⟨hs, hd, htw, _, _, _⟩ := read_facts hr
    obtain ⟨hok, hcn, hln⟩ := doc_facts hd
    have HR := hide hr
    rw [hr] at HF
    clear hr hd
    go_enter Tryz.func83, Tryz.ntmps83
    go_wp2_with fail
    refine (unhide HF).mono ?_
    rintro e w1 ⟨b1, t, p, rfl, rep⟩
    have HREP := hide rep
    have HC := hide (canonText_walk v hok htw t p w1 _ rep (fun k hk => hk.2) (((unhide HP).next b1 (Nat.le_refl _)).more b1.size) (by omega))
    clear HF rep hok htw
    have HB1 := hide b1
    clear b1
    cases hg : goodT s with
    | true =>
      have HG := hide hg
      obtain ⟨v', e1, e2⟩ := goodT_iff.1 hg
      rw [unhide HR] at e1
      injection e1 with e1
      subst e1
      rw [e2] at HC
      have HE := hide e2
      clear hg e2
      go_wp2_with fail
      refine (unhide HC).mono ?_
      rintro e w2 ⟨rfl, b2⟩
      have HB2 := hide b2
      clear HC b2
      go_wp2
      go_ret2
      refine ⟨below_next (unhide HB1) (unhide HB2), fun h => (by rw [unhide HG] at h; cases h), fun _ => ⟨v, t, p, unhide HR, unhide HE, rfl, ?_⟩⟩
      exact Rep.keep (fun k hk => (unhide HB2).block k hk.2) (fun k hk => ⟨hk.1, Nat.lt_of_lt_of_le hk.2 (unhide HB2).size⟩) _ _ (unhide HREP)
    | false =>
      have HG := hide hg
      have tne := goodT_no (unhide HR) hg
      generalize strOf (ct v) = cv at *
      clear hg
      go_wp2_with fail
      refine (unhide HC).mono ?_
      rintro e w2 ⟨rfl, b2⟩
      have HB2 := hide b2
      clear HC b2
      go_wp2
      go_ret2
      exact ⟨below_next (unhide HB1) (unhide HB2), fun _ => rfl, fun h => by rw [unhide HG] at h; cases h⟩
end Go.Proofs.YtcjajchfjoffnaaGreatDoor

namespace Go.Proofs.YtcjajchfjoffnaaGreatDoor
open Go.RowKit Go.Sort

/-- What Open answers: the versions, and the code. -/
def openL (s : ByteArray) : List Ver := match readR s with
  | .inl _ => []
  | .inr v => [⟨0, strOf (ct v), []⟩]
def openC (s : ByteArray) : Int := match readR s with
  | .inl c => (c : Int)
  | .inr _ => 0
def OpenP (s : ByteArray) (w : World) (e : Ending) (w' : World) : Prop := ∃ v bl, e = .returned (.tuple #[v, .int .i64 (openC s)]) ∧ OSto w' v (openL s) bl ∧ Fsh w.heap.size bl ∧ Below w.heap.size w w'
/-- What openHead answers. -/
def HeadP (s : ByteArray) (w : World) (e : Ending) (w' : World) : Prop := Below w.heap.size w w' ∧ match readR s with
  | .inl c => e = .returned (.tuple #[.pointer none, .int .i64 (c : Int)])
  | .inr v => ∃ g rt, e = .returned (.tuple #[.pointer (some ⟨g, 0, none⟩), .int .i64 0]) ∧ w'.heap[g]? = some (revB (strOf (ct v)) rt)
set_option maxRecDepth 100000 in
set_option maxHeartbeats 1600000 in
theorem openHead_walk (s : ByteArray) (w : World) (hT : TabsB w.heap.size w) (hE : ErrB w.heap.size w) (hP : PowB w.heap.size w) (hz : s.size ≤ 9223372036854775807) :
    Calls Tryz.prog 35 #[.string s] w (HeadP s w) := by
  have HF := hide (readText_walk s w hT hE hP hz)
  have HP := hide hP
  clear hT hE hP
  unfold HeadP
  cases hr : readR s with
  | inl c =>
    obtain ⟨c1, c2⟩ := read_code hr
    rw [hr] at HF
    have t1 : ((c : Int) == 0) = false := by simp; omega
    have t2 : ((c : Int) != 0) = true := by simp; omega
    have t3 : ¬ (c : Int) = 0 := by omega
    have t4 : ¬ c = 0 := by omega
    clear hr
    go_enter Tryz.func35, Tryz.ntmps35
    go_wp2_with fail
    refine (unhide HF).mono ?_
    rintro e w1 ⟨b1, rfl⟩
    clear HF
    go_wp2
    go_ret2
    exact ⟨b1, rfl⟩
  | inr v =>
    obtain ⟨hs, hd, htw, _, _, _⟩ := read_facts hr
    obtain ⟨hok, hcn, hln⟩ := doc_facts hd
    rw [hr] at HF
    clear hr hd
    go_enter Tryz.func35, Tryz.ntmps35
    go_wp2_with fail
    refine (unhide HF).mono ?_
    rintro e w1 ⟨b1, t, p, rfl, rep⟩
    have HC := hide (canonText_walk v hok htw t p w1 _ rep (fun k hk => hk.2) (((unhide HP).next b1 (Nat.le_refl _)).more b1.size) (by omega))
    clear HF rep hok htw
    obtain ⟨cv, hcv⟩ : ∃ cv, strOf (ct v) = cv := ⟨_, rfl⟩
    rw [hcv] at HC
    have HCV := hide hcv
    clear hcv
    go_wp2_with fail
    refine (unhide HC).mono ?_
    rintro e w2 ⟨rfl, b2⟩
    have B2 := below_next b1 b2
    clear HC
    go_wp2
    go_ret2
    exact ⟨below_next B2 (alloc_b _ _), _, _, rfl, by rw [unhide HCV]; exact heap_alloc_new _ _⟩
theorem TabsB.more {B B' : Nat} {w : World} (h : TabsB B w) (hB : B ≤ B') : TabsB B' w := by
  obtain ⟨w0, h1, h2⟩ := h
  exact ⟨w0, Nat.le_trans h1 hB, h2⟩
theorem ErrB.more {B B' : Nat} {w : World} (h : ErrB B w) (hB : B ≤ B') : ErrB B' w := ⟨Nat.lt_of_lt_of_le h.1 hB, h.2⟩
theorem tabsUp {w w' : World} (h : TabsB w.heap.size w) (hb : Below w.heap.size w w') : TabsB w'.heap.size w' := TabsB.more (TabsB.next h hb (Nat.le_refl _)) hb.size
theorem errUp {w w' : World} (h : ErrB w.heap.size w) (hb : Below w.heap.size w w') : ErrB w'.heap.size w' := ErrB.more (ErrB.next h hb (Nat.le_refl _)) hb.size
theorem powUp {w w' : World} (h : PowB w.heap.size w) (hb : Below w.heap.size w w') : PowB w'.heap.size w' := (h.next hb (Nat.le_refl _)).more hb.size
/-- A version that is new: its row of pointers is empty. -/
def verW (w : World) (d : ByteArray) : World := (w.alloc (.cells #[] 9)).alloc (.cells #[.int .i64 0, .string d, .slice (some ⟨w.heap.size, 0, none⟩) 0 0] 58)
theorem ver_new (w : World) (d : ByteArray) : ORow verE (verW w d) (.slice (some ⟨w.heap.size + 1, 0, none⟩) 1 1) [⟨0, d, []⟩] [w.heap.size + 1, w.heap.size] := by
  have hz : (w.alloc (.cells #[] 9)).heap.size = w.heap.size + 1 := by simp
  have k0 : (verW w d).heap[w.heap.size]? = some (.cells #[] 9 (0, 0)) := ((alloc_b (w.alloc (.cells #[] 9)) _).block w.heap.size (by omega)).trans (heap_alloc_new w _)
  have k1 : (verW w d).heap[w.heap.size + 1]? = some (.cells #[.int .i64 0, .string d, .slice (some ⟨w.heap.size, 0, none⟩) 0 0] 58 (0, 0)) := by
    have := heap_alloc_new (w.alloc (.cells #[] 9)) (.cells #[.int .i64 0, .string d, .slice (some ⟨w.heap.size, 0, none⟩) 0 0] 58)
    rw [hz] at this
    exact this
  have o0 : OStr (verW w d) (.slice (some ⟨w.heap.size, 0, none⟩) 0 0) [] [w.heap.size] := ⟨[], rfl, fun _ _ _ h => by simp at h, ⟨rfl, .inr ⟨_, 0, #[], rfl, Nat.zero_le _, k0, Nat.le_refl _, Nat.zero_le _, rfl, rfl⟩⟩, rfl⟩
  refine ⟨[([.int .i64 0, .string d, .slice (some ⟨w.heap.size, 0, none⟩) 0 0], [w.heap.size])], rfl, fun j p y hp hy => ?_, ⟨rfl, .inr ⟨_, 1, _, rfl, Nat.zero_le _, k1, Nat.le_refl _, by decide, rfl, rfl⟩⟩, rfl⟩
  cases j with
  | zero =>
    simp at hp hy
    subst hp; subst hy
    exact ⟨_, rfl, o0⟩
  | succ j => simp at hp
theorem stoA (w : World) : Below w.heap.size w (w.alloc (.cells #[.slice none 0 0] 24)) := alloc_b _ _
set_option maxRecDepth 100000 in
set_option maxHeartbeats 1600000 in
theorem implOpen_walk (s : ByteArray) (w : World) (hT : TabsB w.heap.size w) (hE : ErrB w.heap.size w) (hP : PowB w.heap.size w) (hz : s.size ≤ 9223372036854775807) :
    Calls Tryz.prog 10 #[.string s] w (OpenP s w) := by
  have hA := stoA w
  have kA := heap_alloc_new w (.cells #[.slice none 0 0] 24)
  have zA : (w.alloc (.cells #[.slice none 0 0] 24)).heap.size = w.heap.size + 1 := by simp
  have HF := hide (openHead_walk s (w.alloc (.cells #[.slice none 0 0] 24)) (tabsUp hT hA) (errUp hE hA) (powUp hP hA) hz)
  clear hT hE hP
  unfold OpenP openC openL
  unfold HeadP at HF
  cases hr : readR s with
  | inl c =>
    rw [hr] at HF
    clear hr
    have HA := hide hA
    have HKA := hide kA
    clear hA kA
    go_enter Tryz.func10, Tryz.ntmps10
    go_wp2_with fail
    generalize (w.alloc (.cells #[.slice none 0 0] 24)) = wA at *
    refine (unhide HF).mono ?_
    rintro e w1 ⟨b1, rfl⟩
    have HT := hide (tell0_walk w1)
    have HB1 := hide b1
    clear HF b1
    go_wp2_with fail
    refine (unhide HT).mono ?_
    rintro e w2 ⟨p, bl, rfl, o2, f2, b2⟩
    obtain ⟨xa, xc, rfl, _, _⟩ := o2.form
    have hz1 := (unhide HB1).size
    have B12 := below_next (unhide HB1) b2
    have k2 := (B12.block w.heap.size (by omega)).trans (unhide HKA)
    have c0 : w2.cell? ⟨w.heap.size, 0, none⟩ = some (.slice none 0 0) := Lib.cell_of_heap k2 0
    have f0 := Lib.frozen_of_heap k2
    have HO := hide o2
    have HFF := hide f2
    have HB2 := hide B12
    have HK2 := hide k2
    clear HT o2 f2 b2 B12 k2
    go_wp2
    refine bodyPost_ret (results_cell_tmp rfl _ _ w.heap.size 24 #[_] (0, 0) _ _ rfl rfl (putN_full (unhide HK2) [_] rfl) Tryz.underlying24 rfl (by kernel_rfl)) rfl ?_
    exact ⟨_, bl, rfl, ⟨_, rfl, (unhide HO).putN ((unhide HFF).not (by omega)) [_] 0⟩, (unhide HFF).mono (by omega), putN_below (below_next (unhide HA) (unhide HB2)) (Nat.le_refl _) [_] 0⟩
  | inr v =>
    rw [hr] at HF
    clear hr
    have HA := hide hA
    have HKA := hide kA
    clear hA kA
    go_enter Tryz.func10, Tryz.ntmps10
    go_wp2_with fail
    generalize (w.alloc (.cells #[.slice none 0 0] 24)) = wA at *
    refine (unhide HF).mono ?_
    rintro e w1 ⟨b1, g, rt, rfl, hg⟩
    have HT := hide (tell1_walk g _ rt w1 hg)
    have HB1 := hide b1
    clear HF b1 hg
    go_wp2_with fail
    refine (unhide HT).mono ?_
    rintro e w2 ⟨p, bl, rfl, o2, f2, b2⟩
    obtain ⟨xa, xc, rfl, _, _⟩ := o2.form
    have hz1 := (unhide HB1).size
    have B12 := below_next (unhide HB1) b2
    have k2 := (B12.block w.heap.size (by omega)).trans (unhide HKA)
    have c0 : w2.cell? ⟨w.heap.size, 0, none⟩ = some (.slice none 0 0) := Lib.cell_of_heap k2 0
    have f0 := Lib.frozen_of_heap k2
    have HO := hide o2
    have HFF := hide f2
    have HB2 := hide B12
    have HK2 := hide k2
    clear HT o2 f2 b2 B12 k2
    go_wp2
    refine bodyPost_ret (results_cell_tmp rfl _ _ w.heap.size 24 #[_] (0, 0) _ _ rfl rfl (putN_full (unhide HK2) [_] rfl) Tryz.underlying24 rfl (by kernel_rfl)) rfl ?_
    exact ⟨_, bl, rfl, ⟨_, rfl, (unhide HO).putN ((unhide HFF).not (by omega)) [_] 0⟩, (unhide HFF).mono (by omega), putN_below (below_next (unhide HA) (unhide HB2)) (Nat.le_refl _) [_] 0⟩
set_option maxRecDepth 100000 in
set_option maxHeartbeats 1600000 in
theorem specOpen_walk (s : ByteArray) (w : World) (hz : s.size ≤ 1048576) :
    Calls Tryz.prog 9 #[.string s] w (OpenP s w) := by
  have hA := stoA w
  have kA := heap_alloc_new w (.cells #[.slice none 0 0] 24)
  have zA : (w.alloc (.cells #[.slice none 0 0] 24)).heap.size = w.heap.size + 1 := by simp
  have HC := hide (specCanon_walk s (w.alloc (.cells #[.slice none 0 0] 24)) hz)
  have HA := hide hA
  have HKA := hide kA
  clear hA kA
  unfold OpenP openC openL
  unfold canonV at HC
  cases hr : readR s with
  | inl c =>
    obtain ⟨c1, c2⟩ := read_code hr
    rw [hr] at HC
    have t1 : ((c : Int) == 0) = false := by simp; omega
    have t2 : ((c : Int) != 0) = true := by simp; omega
    have t3 : ¬ (c : Int) = 0 := by omega
    have t4 : ¬ c = 0 := by omega
    clear hr
    go_enter Tryz.func9, Tryz.ntmps9
    go_wp2_with fail
    generalize (w.alloc (.cells #[.slice none 0 0] 24)) = wA at *
    refine (unhide HC).mono ?_
    rintro e w2 ⟨rfl, b1⟩
    have k2 := (b1.block w.heap.size (by omega)).trans (unhide HKA)
    have c0 : w2.cell? ⟨w.heap.size, 0, none⟩ = some (.slice none 0 0) := Lib.cell_of_heap k2 0
    have f0 := Lib.frozen_of_heap k2
    have HB2 := hide b1
    have HK2 := hide k2
    clear HC b1 k2
    go_wp2
    refine bodyPost_ret (results_cell_tmp rfl _ _ w.heap.size 24 #[_] (0, 0) _ _ rfl rfl (putN_full (unhide HK2) [_] rfl) Tryz.underlying24 rfl (by kernel_rfl)) rfl ?_
    exact ⟨_, [], rfl, ⟨_, rfl, ORow.nil _ _⟩, Fsh.nil _, putN_below (below_next (unhide HA) (unhide HB2)) (Nat.le_refl _) [_] 0⟩
  | inr v =>
    rw [hr] at HC
    clear hr
    have HC' : Hid (Calls Tryz.prog 34 #[.string s] (w.alloc (.cells #[.slice none 0 0] 24)) fun e w' => e = .returned (.tuple #[.string (strOf (ct v)), .int .i64 0]) ∧ Below (w.alloc (.cells #[.slice none 0 0] 24)).heap.size (w.alloc (.cells #[.slice none 0 0] 24)) w') := unhide HC
    clear HC
    go_enter Tryz.func9, Tryz.ntmps9
    go_wp2_with fail
    generalize (w.alloc (.cells #[.slice none 0 0] 24)) = wA at *
    refine (unhide HC').mono ?_
    rintro e w2 ⟨rfl, b1⟩
    have b4 : Below w2.heap.size w2 (verW w2 (strOf (ct v))) := below_next (alloc_b w2 _) (alloc_b _ _)
    have hz2 := b1.size
    have k4 := (b4.block w.heap.size (by omega)).trans ((b1.block w.heap.size (by omega)).trans (unhide HKA))
    have c0 : (verW w2 (strOf (ct v))).cell? ⟨w.heap.size, 0, none⟩ = some (.slice none 0 0) := Lib.cell_of_heap k4 0
    have f0 : (verW w2 (strOf (ct v))).frozen? ⟨w.heap.size, 0, none⟩ = false := Lib.frozen_of_heap k4 0
    have HO := hide (ver_new w2 (strOf (ct v)))
    have HB2 := hide (below_next b1 b4)
    have HK2 := hide k4
    have HFN : Hid (w.heap.size ∉ [w2.heap.size + 1, w2.heap.size]) := by show ¬ _; simp; omega
    have HFS : Hid (Fsh w.heap.size [w2.heap.size + 1, w2.heap.size]) := ⟨by simp, fun b hb => by simp at hb; omega⟩
    unfold verW at *
    clear HC' b1 b4 k4
    go_wp2
    refine bodyPost_ret (results_cell_tmp rfl _ _ w.heap.size 24 #[_] (0, 0) _ _ rfl rfl (putN_full (unhide HK2) [_] rfl) Tryz.underlying24 rfl (by kernel_rfl)) rfl ?_
    exact ⟨_, _, rfl, ⟨_, rfl, (unhide HO).putN (unhide HFN) [_] 0⟩, unhide HFS, putN_below (below_next (unhide HA) (unhide HB2)) (Nat.le_refl _) [_] 0⟩
end Go.Proofs.YtcjajchfjoffnaaGreatDoor

namespace Go.Proofs.YtcjajchfjoffnaaGreatDoor
open Go.RowKit

def tkOf (s : ByteArray) : List (List UInt8) := (ptoks s.data.toList).getD []
/-- An operation in the form in which it is done, in memory. -/
def opB (k : Int) (pv fv vv : Value) : Obj := .cells #[.string (wordB k), .int .i64 k, .bool (hasF k), .bool (hasV k), .bool (shF k), .bool (shP k), verbF k, pv, fv, vv] 148 (0, 0)
structure OpAt (w : World) (B : Nat) (m : POp) (g : Nat) (pv fv vv : Value) (v : JV) : Prop where
  blk : w.heap[g]? = some (opB m.kind pv fv vv)
  ge : B ≤ g
  path : OT w B pv (tkOf m.path)
  src : OT w B fv (tkOf m.src)
  val : hasV m.kind = true → readR m.val = .inr v ∧ strOf (ct v) = m.val ∧ ∃ t p, vv = .iface t p ∧ Rep w (fun k => B ≤ k ∧ k < w.heap.size) v vv
def ROk (m : POp) (w : World) (e : Ending) (w' : World) : Prop := ∃ g pv fv vv v, e = .returned (.tuple #[.pointer (some ⟨g, 0, none⟩), .bool true]) ∧ OpAt w' w.heap.size m g pv fv vv v ∧ Below w.heap.size w w'
/-- What the world must hold for the reader. -/
structure RdW (w : World) : Prop where
  tab : TabsB w.heap.size w
  err : ErrB w.heap.size w
  pow : PowB w.heap.size w
  ml : ML w
theorem RdW.up {w w' : World} (h : RdW w) (hb : Below w.heap.size w w') : RdW w' := ⟨tabsUp h.tab hb, errUp h.err hb, powUp h.pow hb, h.ml.below hb⟩
theorem verbF_fid (k : Int) : ∃ fid, verbF k = .func (Fn.func fid) #[] #[] := by
  unfold verbF
  repeat' split
  all_goals exact ⟨_, rfl⟩
theorem opOk_parts {m : POp} (h : opOk m = true) : 1 ≤ m.kind ∧ m.kind ≤ 6 ∧ (ptoks m.path.data.toList).isSome = true ∧ (ptoks m.src.data.toList).isSome = true ∧ (hasF m.kind = false → m.src.toList = []) ∧ (hasV m.kind = true → goodT m.val = true) ∧ (hasV m.kind = false → m.val.toList = []) := by
  unfold opOk at h
  simp only [Bool.and_eq_true, decide_eq_true_eq] at h
  obtain ⟨⟨⟨⟨h1, h2⟩, h3⟩, h4⟩, h5⟩ := h
  refine ⟨h1, h2, h3, ?_, ?_, ?_, ?_⟩
  · cases hf : hasF m.kind with
    | true => rw [hf] at h4; exact h4
    | false =>
      rw [hf] at h4
      have e : m.src.toList = [] := by simpa using h4
      rw [ByteArray.toList_eq] at e
      rw [e]; rfl
  · intro hf; rw [hf] at h4; simpa using h4
  · intro hv; rw [hv] at h5; exact h5
  · intro hv; rw [hv] at h5; simpa using h5
set_option maxRecDepth 100000 in
set_option maxHeartbeats 4000000 in
theorem readOp_good (m : POp) (w : World) (h : opOk m = true) (hw : RdW w) (hz1 : m.path.size ≤ 1048576) (hz2 : m.src.size ≤ 1048576) (hz3 : m.val.size ≤ 1048576) :
    Calls Tryz.prog 60 #[.agg #[.int .i64 m.kind, .string m.path, .string m.src, .string m.val]] w (ROk m w) := by
  obtain ⟨k1, k6, hp, hs, hsf, hvg, hvn⟩ := opOk_parts h
  have hA := alloc_b w (opObj m)
  have kA := heap_alloc_new w (opObj m)
  have zA : (w.alloc (opObj m)).heap.size = w.heap.size + 1 := by simp
  have HFV := hide (findVerb_yes w.heap.size m (w.alloc (opObj m)) kA k1 k6)
  have HTP : Hid (∀ wx, Below w.heap.size w wx → Calls Tryz.prog 100 #[.string m.path] wx fun e w' => ∃ v, e = .returned (.tuple #[v, .bool true]) ∧ OT w' wx.heap.size v (tkOf m.path) ∧ Below wx.heap.size wx w') := fun wx hx => by
    have := implToks_walk m.path wx (hw.up hx).ml hz1
    rw [hp] at this
    exact this
  have HTS : Hid (∀ wx, Below w.heap.size w wx → Calls Tryz.prog 100 #[.string m.src] wx fun e w' => ∃ v, e = .returned (.tuple #[v, .bool true]) ∧ OT w' wx.heap.size v (tkOf m.src) ∧ Below wx.heap.size wx w') := fun wx hx => by
    have := implToks_walk m.src wx (hw.up hx).ml hz2
    rw [hs] at this
    exact this
  have HRC : Hid (∀ wx, Below w.heap.size w wx → hasV m.kind = true → Calls Tryz.prog 83 #[.string m.val] wx fun e w' => ∃ (v : JV) (t : TypeId) (p : Value), readR m.val = .inr v ∧ strOf (ct v) = m.val ∧ e = .returned (.tuple #[.iface t p, .bool true]) ∧ Rep w' (fun k => wx.heap.size ≤ k ∧ k < w'.heap.size) v (.iface t p) ∧ Below wx.heap.size wx w') := fun wx hx hv => by
    have hwx := hw.up hx
    refine (readCanon_walk m.val wx hwx.tab hwx.err hwx.pow (by omega)).mono ?_
    rintro e w' ⟨b, _, hg⟩
    obtain ⟨v, t, p, r1, r2, r3, r4⟩ := hg (hvg hv)
    exact ⟨v, t, p, r1, r2, r3, r4, b⟩
  obtain ⟨fid, hfid⟩ := verbF_fid m.kind
  have HF := hide hfid
  obtain ⟨wb, hwb⟩ : ∃ wb, wordB m.kind = wb := ⟨_, rfl⟩
  obtain ⟨sf, hsfq⟩ : ∃ sf, shF m.kind = sf := ⟨_, rfl⟩
  obtain ⟨sp, hspq⟩ : ∃ sp, shP m.kind = sp := ⟨_, rfl⟩
  unfold verbV at HFV
  rw [hfid, hwb, hsfq, hspq] at HFV
  have HQ : Hid (wordB m.kind = wb ∧ shF m.kind = sf ∧ shP m.kind = sp) := ⟨hwb, hsfq, hspq⟩
  have HA := hide hA
  have HKA := hide kA
  have HZA := hide zA
  unfold opObj at *
  clear h hw hp hs hvg hfid hwb hsfq hspq hA kA zA k1 k6
  cases hv : hasV m.kind with
  | false =>
    have ev := hvn hv
    rw [hv] at HFV
    have HV := hide hv
    clear hvn hv HRC
    cases hf : hasF m.kind with
    | false =>
      have es := hsf hf
      rw [hf] at HFV
      have HFF := hide hf
      clear hsf hf
      go_enter Tryz.func60, Tryz.ntmps60
      go_wp2_with fail
      generalize (w.alloc (.cells #[.int .i64 m.kind, .string m.path, .string m.src, .string m.val] 76)) = wA at *
      refine (unhide HFV).mono ?_
      rintro e w1 ⟨rfl, b1⟩
      have hB := alloc_b w1 (.cells #[.string wb, .int .i64 m.kind, .bool false, .bool false, .bool sf, .bool sp, .func (Fn.func fid) #[] #[]] 146)
      have kB := heap_alloc_new w1 (.cells #[.string wb, .int .i64 m.kind, .bool false, .bool false, .bool sf, .bool sp, .func (Fn.func fid) #[] #[]] 146)
      have zB : (w1.alloc (.cells #[.string wb, .int .i64 m.kind, .bool false, .bool false, .bool sf, .bool sp, .func (Fn.func fid) #[] #[]] 146)).heap.size = w1.heap.size + 1 := by simp
      have b2 := below_next b1 hB
      have hz1 := b1.size
      have k2 := (b2.block w.heap.size (by have := unhide HZA; omega)).trans (unhide HKA)
      have c1 : (w1.alloc (.cells #[.string wb, .int .i64 m.kind, .bool false, .bool false, .bool sf, .bool sp, .func (Fn.func fid) #[] #[]] 146)).cell? ⟨w.heap.size, 1, none⟩ = some (.string m.path) := Lib.cell_of_heap k2 1
      have c2 : (w1.alloc (.cells #[.string wb, .int .i64 m.kind, .bool false, .bool false, .bool sf, .bool sp, .func (Fn.func fid) #[] #[]] 146)).cell? ⟨w.heap.size, 2, none⟩ = some (.string m.src) := Lib.cell_of_heap k2 2
      have c3 : (w1.alloc (.cells #[.string wb, .int .i64 m.kind, .bool false, .bool false, .bool sf, .bool sp, .func (Fn.func fid) #[] #[]] 146)).cell? ⟨w.heap.size, 3, none⟩ = some (.string m.val) := Lib.cell_of_heap k2 3
      have HT := hide (unhide HTP _ (below_next (unhide HA) b2))
      have HB2 := hide b2
      have HK2 := hide k2
      have HKB := hide kB
      have HZ1 := hide hz1
      have HZB := hide zB
      clear HFV b1 hB kB b2 hz1 k2 HKA zB HTP
      go_wp2_with fail
      generalize (w1.alloc (.cells #[.string wb, .int .i64 m.kind, .bool false, .bool false, .bool sf, .bool sp, .func (Fn.func fid) #[] #[]] 146)) = w2 at *
      generalize w1.heap.size = V0 at *
      refine (unhide HT).mono ?_
      rintro e w3 ⟨pv, rfl, op, b3⟩
      obtain ⟨pa, pg, pc, rfl, _, _⟩ := op.shape
      have zB := unhide HZB
      have zA := unhide HZA
      have hz1 := unhide HZ1
      have k3 := (b3.block w.heap.size (by omega)).trans (unhide HK2)
      have d2 : w3.cell? ⟨w.heap.size, 2, none⟩ = some (.string m.src) := Lib.cell_of_heap k3 2
      have b23 := below_next (unhide HB2) b3
      have HT2 := hide (unhide HTS _ (below_next (unhide HA) b23))
      have HOP := hide op
      have HB3 := hide b3
      have HK3 := hide k3
      have HKB3 := hide ((b3.block V0 (by omega)).trans (unhide HKB))
      have HZ3 := hide b3.size
      have HB23 := hide b23
      clear HT op b3 k3 b23 HK2 HKB HB2 c1 c2 c3 zA zB hz1 HTS
      go_wp2_with fail
      refine (unhide HT2).mono ?_
      rintro e w4 ⟨fv, rfl, of, b4⟩
      obtain ⟨fa, fg, fc, rfl, _, _⟩ := of.shape
      have zB := unhide HZB
      have zA := unhide HZA
      have hz1 := unhide HZ1
      have hz3 := unhide HZ3
      have kv := (b4.block V0 (by omega)).trans (unhide HKB3)
      have v0 : w4.cell? ⟨V0, 0, none⟩ = some (.string wb) := Lib.cell_of_heap kv 0
      have v1 : w4.cell? ⟨V0, 1, none⟩ = some (.int .i64 m.kind) := Lib.cell_of_heap kv 1
      have v2 : w4.cell? ⟨V0, 2, none⟩ = some (.bool false) := Lib.cell_of_heap kv 2
      have v3 : w4.cell? ⟨V0, 3, none⟩ = some (.bool false) := Lib.cell_of_heap kv 3
      have v4 : w4.cell? ⟨V0, 4, none⟩ = some (.bool sf) := Lib.cell_of_heap kv 4
      have v5 : w4.cell? ⟨V0, 5, none⟩ = some (.bool sp) := Lib.cell_of_heap kv 5
      have v6 : w4.cell? ⟨V0, 6, none⟩ = some (.func (Fn.func fid) #[] #[]) := Lib.cell_of_heap kv 6
      have hlt4 : V0 < w4.heap.size := (Array.getElem?_eq_some_iff.1 kv).1
      have k4 := (b4.block w.heap.size (by omega)).trans (unhide HK3)
      have d3 : w4.cell? ⟨w.heap.size, 3, none⟩ = some (.string m.val) := Lib.cell_of_heap k4 3
      have b24 := below_next (unhide HB23) b4
      have OPX := hide (own_below (unhide HOP) b4)
      have OFX := hide of
      have HZ4 := hide b4.size
      have HB4 := hide b4
      have HB24 := hide b24
      have HK4 := hide k4
      have HKV := hide kv
      have HL4 := hide hlt4
      clear HT2 of b4 b24 k4 kv HOP HB3 HK3 HKB3 HB23 d2 zA zB hz1 hz3 hlt4
      have hC := alloc_b w4 (.cells #[.string wb, .int .i64 m.kind, .bool false, .bool false, .bool sf, .bool sp, .func (Fn.func fid) #[] #[], .slice pa (tkOf m.path).length pc, .slice fa (tkOf m.src).length fc, .nilIface] 148)
      have kC := heap_alloc_new w4 (.cells #[.string wb, .int .i64 m.kind, .bool false, .bool false, .bool sf, .bool sp, .func (Fn.func fid) #[] #[], .slice pa (tkOf m.path).length pc, .slice fa (tkOf m.src).length fc, .nilIface] 148)
      have zC : (w4.alloc (.cells #[.string wb, .int .i64 m.kind, .bool false, .bool false, .bool sf, .bool sp, .func (Fn.func fid) #[] #[], .slice pa (tkOf m.path).length pc, .slice fa (tkOf m.src).length fc, .nilIface] 148)).heap.size = w4.heap.size + 1 := by simp
      have e3 : (w4.alloc (.cells #[.string wb, .int .i64 m.kind, .bool false, .bool false, .bool sf, .bool sp, .func (Fn.func fid) #[] #[], .slice pa (tkOf m.path).length pc, .slice fa (tkOf m.src).length fc, .nilIface] 148)).cell? ⟨V0, 3, none⟩ = some (.bool false) := Lib.cell_of_heap ((hC.block V0 (unhide HL4)).trans (unhide HKV)) 3
      have OPY := hide (own_below (unhide OPX) hC)
      have OFY := hide (own_below (unhide OFX) hC)
      have HB5 := hide (below_next (unhide HB24) hC)
      have HKC := hide kC
      clear hC kC zC OPX OFX HB24 HKV HK4 d3
      go_wp2
      go_ret2
      have zB := unhide HZB
      have zA := unhide HZA
      have hz1 := unhide HZ1
      have hz3 := unhide HZ3
      have hz4 := unhide HZ4
      refine ⟨w4.heap.size, _, _, .nilIface, .nul, rfl, ⟨?_, by omega, own_mono (unhide OPY) (by omega), own_mono (unhide OFY) (by omega), fun h => ?_⟩, below_next (unhide HA) (unhide HB5)⟩
      · unfold opB
        rw [unhide HF, (unhide HQ).1, (unhide HQ).2.1, (unhide HQ).2.2, unhide HV, unhide HFF]
        exact unhide HKC
      · rw [unhide HV] at h; cases h
    | true =>
      rw [hf] at HFV
      have HFF := hide hf
      clear hsf hf
      go_enter Tryz.func60, Tryz.ntmps60
      go_wp2_with fail
      generalize (w.alloc (.cells #[.int .i64 m.kind, .string m.path, .string m.src, .string m.val] 76)) = wA at *
      refine (unhide HFV).mono ?_
      rintro e w1 ⟨rfl, b1⟩
      have hB := alloc_b w1 (.cells #[.string wb, .int .i64 m.kind, .bool true, .bool false, .bool sf, .bool sp, .func (Fn.func fid) #[] #[]] 146)
      have kB := heap_alloc_new w1 (.cells #[.string wb, .int .i64 m.kind, .bool true, .bool false, .bool sf, .bool sp, .func (Fn.func fid) #[] #[]] 146)
      have zB : (w1.alloc (.cells #[.string wb, .int .i64 m.kind, .bool true, .bool false, .bool sf, .bool sp, .func (Fn.func fid) #[] #[]] 146)).heap.size = w1.heap.size + 1 := by simp
      have b2 := below_next b1 hB
      have hz1 := b1.size
      have k2 := (b2.block w.heap.size (by have := unhide HZA; omega)).trans (unhide HKA)
      have c1 : (w1.alloc (.cells #[.string wb, .int .i64 m.kind, .bool true, .bool false, .bool sf, .bool sp, .func (Fn.func fid) #[] #[]] 146)).cell? ⟨w.heap.size, 1, none⟩ = some (.string m.path) := Lib.cell_of_heap k2 1
      have c2 : (w1.alloc (.cells #[.string wb, .int .i64 m.kind, .bool true, .bool false, .bool sf, .bool sp, .func (Fn.func fid) #[] #[]] 146)).cell? ⟨w.heap.size, 2, none⟩ = some (.string m.src) := Lib.cell_of_heap k2 2
      have c3 : (w1.alloc (.cells #[.string wb, .int .i64 m.kind, .bool true, .bool false, .bool sf, .bool sp, .func (Fn.func fid) #[] #[]] 146)).cell? ⟨w.heap.size, 3, none⟩ = some (.string m.val) := Lib.cell_of_heap k2 3
      have HT := hide (unhide HTP _ (below_next (unhide HA) b2))
      have HB2 := hide b2
      have HK2 := hide k2
      have HKB := hide kB
      have HZ1 := hide hz1
      have HZB := hide zB
      clear HFV b1 hB kB b2 hz1 k2 HKA zB HTP
      go_wp2_with fail
      generalize (w1.alloc (.cells #[.string wb, .int .i64 m.kind, .bool true, .bool false, .bool sf, .bool sp, .func (Fn.func fid) #[] #[]] 146)) = w2 at *
      generalize w1.heap.size = V0 at *
      refine (unhide HT).mono ?_
      rintro e w3 ⟨pv, rfl, op, b3⟩
      obtain ⟨pa, pg, pc, rfl, _, _⟩ := op.shape
      have zB := unhide HZB
      have zA := unhide HZA
      have hz1 := unhide HZ1
      have k3 := (b3.block w.heap.size (by omega)).trans (unhide HK2)
      have d2 : w3.cell? ⟨w.heap.size, 2, none⟩ = some (.string m.src) := Lib.cell_of_heap k3 2
      have b23 := below_next (unhide HB2) b3
      have HT2 := hide (unhide HTS _ (below_next (unhide HA) b23))
      have HOP := hide op
      have HB3 := hide b3
      have HK3 := hide k3
      have HKB3 := hide ((b3.block V0 (by omega)).trans (unhide HKB))
      have HZ3 := hide b3.size
      have HB23 := hide b23
      clear HT op b3 k3 b23 HK2 HKB HB2 c1 c2 c3 zA zB hz1 HTS
      go_wp2_with fail
      refine (unhide HT2).mono ?_
      rintro e w4 ⟨fv, rfl, of, b4⟩
      obtain ⟨fa, fg, fc, rfl, _, _⟩ := of.shape
      have zB := unhide HZB
      have zA := unhide HZA
      have hz1 := unhide HZ1
      have hz3 := unhide HZ3
      have kv := (b4.block V0 (by omega)).trans (unhide HKB3)
      have v0 : w4.cell? ⟨V0, 0, none⟩ = some (.string wb) := Lib.cell_of_heap kv 0
      have v1 : w4.cell? ⟨V0, 1, none⟩ = some (.int .i64 m.kind) := Lib.cell_of_heap kv 1
      have v2 : w4.cell? ⟨V0, 2, none⟩ = some (.bool true) := Lib.cell_of_heap kv 2
      have v3 : w4.cell? ⟨V0, 3, none⟩ = some (.bool false) := Lib.cell_of_heap kv 3
      have v4 : w4.cell? ⟨V0, 4, none⟩ = some (.bool sf) := Lib.cell_of_heap kv 4
      have v5 : w4.cell? ⟨V0, 5, none⟩ = some (.bool sp) := Lib.cell_of_heap kv 5
      have v6 : w4.cell? ⟨V0, 6, none⟩ = some (.func (Fn.func fid) #[] #[]) := Lib.cell_of_heap kv 6
      have hlt4 : V0 < w4.heap.size := (Array.getElem?_eq_some_iff.1 kv).1
      have k4 := (b4.block w.heap.size (by omega)).trans (unhide HK3)
      have d3 : w4.cell? ⟨w.heap.size, 3, none⟩ = some (.string m.val) := Lib.cell_of_heap k4 3
      have b24 := below_next (unhide HB23) b4
      have OPX := hide (own_below (unhide HOP) b4)
      have OFX := hide of
      have HZ4 := hide b4.size
      have HB4 := hide b4
      have HB24 := hide b24
      have HK4 := hide k4
      have HKV := hide kv
      have HL4 := hide hlt4
      clear HT2 of b4 b24 k4 kv HOP HB3 HK3 HKB3 HB23 d2 zA zB hz1 hz3 hlt4
      have hC := alloc_b w4 (.cells #[.string wb, .int .i64 m.kind, .bool true, .bool false, .bool sf, .bool sp, .func (Fn.func fid) #[] #[], .slice pa (tkOf m.path).length pc, .slice fa (tkOf m.src).length fc, .nilIface] 148)
      have kC := heap_alloc_new w4 (.cells #[.string wb, .int .i64 m.kind, .bool true, .bool false, .bool sf, .bool sp, .func (Fn.func fid) #[] #[], .slice pa (tkOf m.path).length pc, .slice fa (tkOf m.src).length fc, .nilIface] 148)
      have zC : (w4.alloc (.cells #[.string wb, .int .i64 m.kind, .bool true, .bool false, .bool sf, .bool sp, .func (Fn.func fid) #[] #[], .slice pa (tkOf m.path).length pc, .slice fa (tkOf m.src).length fc, .nilIface] 148)).heap.size = w4.heap.size + 1 := by simp
      have e3 : (w4.alloc (.cells #[.string wb, .int .i64 m.kind, .bool true, .bool false, .bool sf, .bool sp, .func (Fn.func fid) #[] #[], .slice pa (tkOf m.path).length pc, .slice fa (tkOf m.src).length fc, .nilIface] 148)).cell? ⟨V0, 3, none⟩ = some (.bool false) := Lib.cell_of_heap ((hC.block V0 (unhide HL4)).trans (unhide HKV)) 3
      have OPY := hide (own_below (unhide OPX) hC)
      have OFY := hide (own_below (unhide OFX) hC)
      have HB5 := hide (below_next (unhide HB24) hC)
      have HKC := hide kC
      clear hC kC zC OPX OFX HB24 HKV HK4 d3
      go_wp2
      go_ret2
      have zB := unhide HZB
      have zA := unhide HZA
      have hz1 := unhide HZ1
      have hz3 := unhide HZ3
      have hz4 := unhide HZ4
      refine ⟨w4.heap.size, _, _, .nilIface, .nul, rfl, ⟨?_, by omega, own_mono (unhide OPY) (by omega), own_mono (unhide OFY) (by omega), fun h => ?_⟩, below_next (unhide HA) (unhide HB5)⟩
      · unfold opB
        rw [unhide HF, (unhide HQ).1, (unhide HQ).2.1, (unhide HQ).2.2, unhide HV, unhide HFF]
        exact unhide HKC
      · rw [unhide HV] at h; cases h
  | true =>
    rw [hv] at HFV
    have HV := hide hv
    have HRC1 := hide (fun wx hx => unhide HRC wx hx hv)
    clear hvn hv HRC
    cases hf : hasF m.kind with
    | false =>
      have es := hsf hf
      rw [hf] at HFV
      have HFF := hide hf
      clear hsf hf
      go_enter Tryz.func60, Tryz.ntmps60
      go_wp2_with fail
      generalize (w.alloc (.cells #[.int .i64 m.kind, .string m.path, .string m.src, .string m.val] 76)) = wA at *
      refine (unhide HFV).mono ?_
      rintro e w1 ⟨rfl, b1⟩
      have hB := alloc_b w1 (.cells #[.string wb, .int .i64 m.kind, .bool false, .bool true, .bool sf, .bool sp, .func (Fn.func fid) #[] #[]] 146)
      have kB := heap_alloc_new w1 (.cells #[.string wb, .int .i64 m.kind, .bool false, .bool true, .bool sf, .bool sp, .func (Fn.func fid) #[] #[]] 146)
      have zB : (w1.alloc (.cells #[.string wb, .int .i64 m.kind, .bool false, .bool true, .bool sf, .bool sp, .func (Fn.func fid) #[] #[]] 146)).heap.size = w1.heap.size + 1 := by simp
      have b2 := below_next b1 hB
      have hz1 := b1.size
      have k2 := (b2.block w.heap.size (by have := unhide HZA; omega)).trans (unhide HKA)
      have c1 : (w1.alloc (.cells #[.string wb, .int .i64 m.kind, .bool false, .bool true, .bool sf, .bool sp, .func (Fn.func fid) #[] #[]] 146)).cell? ⟨w.heap.size, 1, none⟩ = some (.string m.path) := Lib.cell_of_heap k2 1
      have c2 : (w1.alloc (.cells #[.string wb, .int .i64 m.kind, .bool false, .bool true, .bool sf, .bool sp, .func (Fn.func fid) #[] #[]] 146)).cell? ⟨w.heap.size, 2, none⟩ = some (.string m.src) := Lib.cell_of_heap k2 2
      have c3 : (w1.alloc (.cells #[.string wb, .int .i64 m.kind, .bool false, .bool true, .bool sf, .bool sp, .func (Fn.func fid) #[] #[]] 146)).cell? ⟨w.heap.size, 3, none⟩ = some (.string m.val) := Lib.cell_of_heap k2 3
      have HT := hide (unhide HTP _ (below_next (unhide HA) b2))
      have HB2 := hide b2
      have HK2 := hide k2
      have HKB := hide kB
      have HZ1 := hide hz1
      have HZB := hide zB
      clear HFV b1 hB kB b2 hz1 k2 HKA zB HTP
      go_wp2_with fail
      generalize (w1.alloc (.cells #[.string wb, .int .i64 m.kind, .bool false, .bool true, .bool sf, .bool sp, .func (Fn.func fid) #[] #[]] 146)) = w2 at *
      generalize w1.heap.size = V0 at *
      refine (unhide HT).mono ?_
      rintro e w3 ⟨pv, rfl, op, b3⟩
      obtain ⟨pa, pg, pc, rfl, _, _⟩ := op.shape
      have zB := unhide HZB
      have zA := unhide HZA
      have hz1 := unhide HZ1
      have k3 := (b3.block w.heap.size (by omega)).trans (unhide HK2)
      have d2 : w3.cell? ⟨w.heap.size, 2, none⟩ = some (.string m.src) := Lib.cell_of_heap k3 2
      have b23 := below_next (unhide HB2) b3
      have HT2 := hide (unhide HTS _ (below_next (unhide HA) b23))
      have HOP := hide op
      have HB3 := hide b3
      have HK3 := hide k3
      have HKB3 := hide ((b3.block V0 (by omega)).trans (unhide HKB))
      have HZ3 := hide b3.size
      have HB23 := hide b23
      clear HT op b3 k3 b23 HK2 HKB HB2 c1 c2 c3 zA zB hz1 HTS
      go_wp2_with fail
      refine (unhide HT2).mono ?_
      rintro e w4 ⟨fv, rfl, of, b4⟩
      obtain ⟨fa, fg, fc, rfl, _, _⟩ := of.shape
      have zB := unhide HZB
      have zA := unhide HZA
      have hz1 := unhide HZ1
      have hz3 := unhide HZ3
      have kv := (b4.block V0 (by omega)).trans (unhide HKB3)
      have v0 : w4.cell? ⟨V0, 0, none⟩ = some (.string wb) := Lib.cell_of_heap kv 0
      have v1 : w4.cell? ⟨V0, 1, none⟩ = some (.int .i64 m.kind) := Lib.cell_of_heap kv 1
      have v2 : w4.cell? ⟨V0, 2, none⟩ = some (.bool false) := Lib.cell_of_heap kv 2
      have v3 : w4.cell? ⟨V0, 3, none⟩ = some (.bool true) := Lib.cell_of_heap kv 3
      have v4 : w4.cell? ⟨V0, 4, none⟩ = some (.bool sf) := Lib.cell_of_heap kv 4
      have v5 : w4.cell? ⟨V0, 5, none⟩ = some (.bool sp) := Lib.cell_of_heap kv 5
      have v6 : w4.cell? ⟨V0, 6, none⟩ = some (.func (Fn.func fid) #[] #[]) := Lib.cell_of_heap kv 6
      have hlt4 : V0 < w4.heap.size := (Array.getElem?_eq_some_iff.1 kv).1
      have k4 := (b4.block w.heap.size (by omega)).trans (unhide HK3)
      have d3 : w4.cell? ⟨w.heap.size, 3, none⟩ = some (.string m.val) := Lib.cell_of_heap k4 3
      have b24 := below_next (unhide HB23) b4
      have OPX := hide (own_below (unhide HOP) b4)
      have OFX := hide of
      have HZ4 := hide b4.size
      have HB4 := hide b4
      have HB24 := hide b24
      have HK4 := hide k4
      have HKV := hide kv
      have HL4 := hide hlt4
      clear HT2 of b4 b24 k4 kv HOP HB3 HK3 HKB3 HB23 d2 zA zB hz1 hz3 hlt4
      have hC := alloc_b w4 (.cells #[.string wb, .int .i64 m.kind, .bool false, .bool true, .bool sf, .bool sp, .func (Fn.func fid) #[] #[], .slice pa (tkOf m.path).length pc, .slice fa (tkOf m.src).length fc, .nilIface] 148)
      have kC := heap_alloc_new w4 (.cells #[.string wb, .int .i64 m.kind, .bool false, .bool true, .bool sf, .bool sp, .func (Fn.func fid) #[] #[], .slice pa (tkOf m.path).length pc, .slice fa (tkOf m.src).length fc, .nilIface] 148)
      have zC : (w4.alloc (.cells #[.string wb, .int .i64 m.kind, .bool false, .bool true, .bool sf, .bool sp, .func (Fn.func fid) #[] #[], .slice pa (tkOf m.path).length pc, .slice fa (tkOf m.src).length fc, .nilIface] 148)).heap.size = w4.heap.size + 1 := by simp
      have e3 : (w4.alloc (.cells #[.string wb, .int .i64 m.kind, .bool false, .bool true, .bool sf, .bool sp, .func (Fn.func fid) #[] #[], .slice pa (tkOf m.path).length pc, .slice fa (tkOf m.src).length fc, .nilIface] 148)).cell? ⟨V0, 3, none⟩ = some (.bool true) := Lib.cell_of_heap ((hC.block V0 (unhide HL4)).trans (unhide HKV)) 3
      have f3 : (w4.alloc (.cells #[.string wb, .int .i64 m.kind, .bool false, .bool true, .bool sf, .bool sp, .func (Fn.func fid) #[] #[], .slice pa (tkOf m.path).length pc, .slice fa (tkOf m.src).length fc, .nilIface] 148)).cell? ⟨w.heap.size, 3, none⟩ = some (.string m.val) := by
        have zB := unhide HZB
        have zA := unhide HZA
        have hz1 := unhide HZ1
        have hz3 := unhide HZ3
        have hz4 := unhide HZ4
        exact Lib.cell_of_heap ((hC.block w.heap.size (by omega)).trans (unhide HK4)) 3
      have b25 := below_next (unhide HB24) hC
      have HR := hide (unhide HRC1 _ (below_next (unhide HA) b25))
      have HB5 := hide (below_next (unhide HA) b25)
      have HKC := hide kC
      have HZC := hide zC
      have HCC := hide hC
      clear hC kC zC HB24 HKV HK4 d3 HRC1 b25
      go_wp2_with fail
      generalize (w4.alloc (.cells #[.string wb, .int .i64 m.kind, .bool false, .bool true, .bool sf, .bool sp, .func (Fn.func fid) #[] #[], .slice pa (tkOf m.path).length pc, .slice fa (tkOf m.src).length fc, .nilIface] 148)) = w5 at *
      generalize hG : w4.heap.size = G0 at *
      have HGE := hide hG
      clear hG
      refine (unhide HR).mono ?_
      rintro e w6 ⟨v, t, p, r1, r2, rfl, rep, b6⟩
      have zC := unhide HZC
      have k6 := (b6.block G0 (by omega)).trans (unhide HKC)
      have g9 : w6.cell? ⟨G0, 9, none⟩ = some .nilIface := Lib.cell_of_heap k6 9
      have f9 := Lib.frozen_of_heap k6 9
      have k7 := heap_setCell_same w6 G0 9 _ _ (.iface t p) k6
      have HR1 := hide r1
      have HR2 := hide r2
      have HREP := hide rep
      have HK7 := hide k7
      have HB6 := hide b6
      clear HR r1 r2 rep b6 k6 k7 zC HKC
      go_wp2
      go_ret2
      have zB := unhide HZB
      have zA := unhide HZA
      have hz1 := unhide HZ1
      have hz3 := unhide HZ3
      have hz4 := unhide HZ4
      have zC := unhide HZC
      have B47 : Below w4.heap.size w4 (w6.setCell ⟨G0, 9, none⟩ (.iface t p)) := by
        rw [unhide HGE]
        exact ((unhide HCC).trans ((unhide HB6).mono (by omega))).setCell (p := ⟨G0, 9, none⟩) (Nat.le_refl _) _
      have z7 : (w6.setCell ⟨G0, 9, none⟩ (.iface t p)).heap.size = w6.heap.size := by simp [World.setCell]
      refine ⟨G0, _, _, .iface t p, v, rfl, ⟨?_, by omega, own_mono (own_below (unhide OPX) B47) (by omega), own_mono (own_below (unhide OFX) B47) (by omega), fun _ => ⟨unhide HR1, unhide HR2, t, p, rfl, ?_⟩⟩, ((unhide HB5).trans ((unhide HB6).mono (by omega))).setCell (p := ⟨G0, 9, none⟩) (by show w.heap.size ≤ G0; omega) _⟩
      · unfold opB
        rw [unhide HF, (unhide HQ).1, (unhide HQ).2.1, (unhide HQ).2.2, unhide HV, unhide HFF]
        exact unhide HK7
      · exact Rep.keep (fun k hk => Below.heap_setCell w6 ⟨G0, 9, none⟩ _ k (fun e => by have : k = G0 := e; omega)) (fun k hk => ⟨by omega, by rw [z7]; exact hk.2⟩) _ _ (unhide HREP)
    | true =>
      rw [hf] at HFV
      have HFF := hide hf
      clear hsf hf
      go_enter Tryz.func60, Tryz.ntmps60
      go_wp2_with fail
      generalize (w.alloc (.cells #[.int .i64 m.kind, .string m.path, .string m.src, .string m.val] 76)) = wA at *
      refine (unhide HFV).mono ?_
      rintro e w1 ⟨rfl, b1⟩
      have hB := alloc_b w1 (.cells #[.string wb, .int .i64 m.kind, .bool true, .bool true, .bool sf, .bool sp, .func (Fn.func fid) #[] #[]] 146)
      have kB := heap_alloc_new w1 (.cells #[.string wb, .int .i64 m.kind, .bool true, .bool true, .bool sf, .bool sp, .func (Fn.func fid) #[] #[]] 146)
      have zB : (w1.alloc (.cells #[.string wb, .int .i64 m.kind, .bool true, .bool true, .bool sf, .bool sp, .func (Fn.func fid) #[] #[]] 146)).heap.size = w1.heap.size + 1 := by simp
      have b2 := below_next b1 hB
      have hz1 := b1.size
      have k2 := (b2.block w.heap.size (by have := unhide HZA; omega)).trans (unhide HKA)
      have c1 : (w1.alloc (.cells #[.string wb, .int .i64 m.kind, .bool true, .bool true, .bool sf, .bool sp, .func (Fn.func fid) #[] #[]] 146)).cell? ⟨w.heap.size, 1, none⟩ = some (.string m.path) := Lib.cell_of_heap k2 1
      have c2 : (w1.alloc (.cells #[.string wb, .int .i64 m.kind, .bool true, .bool true, .bool sf, .bool sp, .func (Fn.func fid) #[] #[]] 146)).cell? ⟨w.heap.size, 2, none⟩ = some (.string m.src) := Lib.cell_of_heap k2 2
      have c3 : (w1.alloc (.cells #[.string wb, .int .i64 m.kind, .bool true, .bool true, .bool sf, .bool sp, .func (Fn.func fid) #[] #[]] 146)).cell? ⟨w.heap.size, 3, none⟩ = some (.string m.val) := Lib.cell_of_heap k2 3
      have HT := hide (unhide HTP _ (below_next (unhide HA) b2))
      have HB2 := hide b2
      have HK2 := hide k2
      have HKB := hide kB
      have HZ1 := hide hz1
      have HZB := hide zB
      clear HFV b1 hB kB b2 hz1 k2 HKA zB HTP
      go_wp2_with fail
      generalize (w1.alloc (.cells #[.string wb, .int .i64 m.kind, .bool true, .bool true, .bool sf, .bool sp, .func (Fn.func fid) #[] #[]] 146)) = w2 at *
      generalize w1.heap.size = V0 at *
      refine (unhide HT).mono ?_
      rintro e w3 ⟨pv, rfl, op, b3⟩
      obtain ⟨pa, pg, pc, rfl, _, _⟩ := op.shape
      have zB := unhide HZB
      have zA := unhide HZA
      have hz1 := unhide HZ1
      have k3 := (b3.block w.heap.size (by omega)).trans (unhide HK2)
      have d2 : w3.cell? ⟨w.heap.size, 2, none⟩ = some (.string m.src) := Lib.cell_of_heap k3 2
      have b23 := below_next (unhide HB2) b3
      have HT2 := hide (unhide HTS _ (below_next (unhide HA) b23))
      have HOP := hide op
      have HB3 := hide b3
      have HK3 := hide k3
      have HKB3 := hide ((b3.block V0 (by omega)).trans (unhide HKB))
      have HZ3 := hide b3.size
      have HB23 := hide b23
      clear HT op b3 k3 b23 HK2 HKB HB2 c1 c2 c3 zA zB hz1 HTS
      go_wp2_with fail
      refine (unhide HT2).mono ?_
      rintro e w4 ⟨fv, rfl, of, b4⟩
      obtain ⟨fa, fg, fc, rfl, _, _⟩ := of.shape
      have zB := unhide HZB
      have zA := unhide HZA
      have hz1 := unhide HZ1
      have hz3 := unhide HZ3
      have kv := (b4.block V0 (by omega)).trans (unhide HKB3)
      have v0 : w4.cell? ⟨V0, 0, none⟩ = some (.string wb) := Lib.cell_of_heap kv 0
      have v1 : w4.cell? ⟨V0, 1, none⟩ = some (.int .i64 m.kind) := Lib.cell_of_heap kv 1
      have v2 : w4.cell? ⟨V0, 2, none⟩ = some (.bool true) := Lib.cell_of_heap kv 2
      have v3 : w4.cell? ⟨V0, 3, none⟩ = some (.bool true) := Lib.cell_of_heap kv 3
      have v4 : w4.cell? ⟨V0, 4, none⟩ = some (.bool sf) := Lib.cell_of_heap kv 4
      have v5 : w4.cell? ⟨V0, 5, none⟩ = some (.bool sp) := Lib.cell_of_heap kv 5
      have v6 : w4.cell? ⟨V0, 6, none⟩ = some (.func (Fn.func fid) #[] #[]) := Lib.cell_of_heap kv 6
      have hlt4 : V0 < w4.heap.size := (Array.getElem?_eq_some_iff.1 kv).1
      have k4 := (b4.block w.heap.size (by omega)).trans (unhide HK3)
      have d3 : w4.cell? ⟨w.heap.size, 3, none⟩ = some (.string m.val) := Lib.cell_of_heap k4 3
      have b24 := below_next (unhide HB23) b4
      have OPX := hide (own_below (unhide HOP) b4)
      have OFX := hide of
      have HZ4 := hide b4.size
      have HB4 := hide b4
      have HB24 := hide b24
      have HK4 := hide k4
      have HKV := hide kv
      have HL4 := hide hlt4
      clear HT2 of b4 b24 k4 kv HOP HB3 HK3 HKB3 HB23 d2 zA zB hz1 hz3 hlt4
      have hC := alloc_b w4 (.cells #[.string wb, .int .i64 m.kind, .bool true, .bool true, .bool sf, .bool sp, .func (Fn.func fid) #[] #[], .slice pa (tkOf m.path).length pc, .slice fa (tkOf m.src).length fc, .nilIface] 148)
      have kC := heap_alloc_new w4 (.cells #[.string wb, .int .i64 m.kind, .bool true, .bool true, .bool sf, .bool sp, .func (Fn.func fid) #[] #[], .slice pa (tkOf m.path).length pc, .slice fa (tkOf m.src).length fc, .nilIface] 148)
      have zC : (w4.alloc (.cells #[.string wb, .int .i64 m.kind, .bool true, .bool true, .bool sf, .bool sp, .func (Fn.func fid) #[] #[], .slice pa (tkOf m.path).length pc, .slice fa (tkOf m.src).length fc, .nilIface] 148)).heap.size = w4.heap.size + 1 := by simp
      have e3 : (w4.alloc (.cells #[.string wb, .int .i64 m.kind, .bool true, .bool true, .bool sf, .bool sp, .func (Fn.func fid) #[] #[], .slice pa (tkOf m.path).length pc, .slice fa (tkOf m.src).length fc, .nilIface] 148)).cell? ⟨V0, 3, none⟩ = some (.bool true) := Lib.cell_of_heap ((hC.block V0 (unhide HL4)).trans (unhide HKV)) 3
      have f3 : (w4.alloc (.cells #[.string wb, .int .i64 m.kind, .bool true, .bool true, .bool sf, .bool sp, .func (Fn.func fid) #[] #[], .slice pa (tkOf m.path).length pc, .slice fa (tkOf m.src).length fc, .nilIface] 148)).cell? ⟨w.heap.size, 3, none⟩ = some (.string m.val) := by
        have zB := unhide HZB
        have zA := unhide HZA
        have hz1 := unhide HZ1
        have hz3 := unhide HZ3
        have hz4 := unhide HZ4
        exact Lib.cell_of_heap ((hC.block w.heap.size (by omega)).trans (unhide HK4)) 3
      have b25 := below_next (unhide HB24) hC
      have HR := hide (unhide HRC1 _ (below_next (unhide HA) b25))
      have HB5 := hide (below_next (unhide HA) b25)
      have HKC := hide kC
      have HZC := hide zC
      have HCC := hide hC
      clear hC kC zC HB24 HKV HK4 d3 HRC1 b25
      go_wp2_with fail
      generalize (w4.alloc (.cells #[.string wb, .int .i64 m.kind, .bool true, .bool true, .bool sf, .bool sp, .func (Fn.func fid) #[] #[], .slice pa (tkOf m.path).length pc, .slice fa (tkOf m.src).length fc, .nilIface] 148)) = w5 at *
      generalize hG : w4.heap.size = G0 at *
      have HGE := hide hG
      clear hG
      refine (unhide HR).mono ?_
      rintro e w6 ⟨v, t, p, r1, r2, rfl, rep, b6⟩
      have zC := unhide HZC
      have k6 := (b6.block G0 (by omega)).trans (unhide HKC)
      have g9 : w6.cell? ⟨G0, 9, none⟩ = some .nilIface := Lib.cell_of_heap k6 9
      have f9 := Lib.frozen_of_heap k6 9
      have k7 := heap_setCell_same w6 G0 9 _ _ (.iface t p) k6
      have HR1 := hide r1
      have HR2 := hide r2
      have HREP := hide rep
      have HK7 := hide k7
      have HB6 := hide b6
      clear HR r1 r2 rep b6 k6 k7 zC HKC
      go_wp2
      go_ret2
      have zB := unhide HZB
      have zA := unhide HZA
      have hz1 := unhide HZ1
      have hz3 := unhide HZ3
      have hz4 := unhide HZ4
      have zC := unhide HZC
      have B47 : Below w4.heap.size w4 (w6.setCell ⟨G0, 9, none⟩ (.iface t p)) := by
        rw [unhide HGE]
        exact ((unhide HCC).trans ((unhide HB6).mono (by omega))).setCell (p := ⟨G0, 9, none⟩) (Nat.le_refl _) _
      have z7 : (w6.setCell ⟨G0, 9, none⟩ (.iface t p)).heap.size = w6.heap.size := by simp [World.setCell]
      refine ⟨G0, _, _, .iface t p, v, rfl, ⟨?_, by omega, own_mono (own_below (unhide OPX) B47) (by omega), own_mono (own_below (unhide OFX) B47) (by omega), fun _ => ⟨unhide HR1, unhide HR2, t, p, rfl, ?_⟩⟩, ((unhide HB5).trans ((unhide HB6).mono (by omega))).setCell (p := ⟨G0, 9, none⟩) (by show w.heap.size ≤ G0; omega) _⟩
      · unfold opB
        rw [unhide HF, (unhide HQ).1, (unhide HQ).2.1, (unhide HQ).2.2, unhide HV, unhide HFF]
        exact unhide HK7
      · exact Rep.keep (fun k hk => Below.heap_setCell w6 ⟨G0, 9, none⟩ _ k (fun e => by have : k = G0 := e; omega)) (fun k hk => ⟨by omega, by rw [z7]; exact hk.2⟩) _ _ (unhide HREP)
end Go.Proofs.YtcjajchfjoffnaaGreatDoor

namespace Go.Proofs.YtcjajchfjoffnaaGreatDoor
open Go.RowKit

/-- A revision and those before it, the newest first. -/
def Chain (w : World) (N : Nat) : List Ver → Value → Prop
  | [], v => v = .pointer none
  | m :: r, v => ∃ (b : Nat) (q : Value) (t : TypeId) (p v' : Value) (bl : List Nat) (jv : JV), v = .pointer (some ⟨b, 0, none⟩) ∧ b < N ∧ w.heap[b]? = some (.cells #[.int .i64 m.no, .string m.doc, q, .iface t p, v'] 125 (0, 0)) ∧
    OStr w q m.touched bl ∧ readR m.doc = .inr jv ∧ strOf (ct jv) = m.doc ∧ Rep w (fun k => k < N) jv (.iface t p) ∧ Chain w N r v'
theorem Chain.up {w w' : World} {N N' : Nat} (hb : Below w.heap.size w w') (hN : N ≤ w.heap.size) (hN' : N ≤ N') : ∀ {l : List Ver} {v : Value}, Chain w N l v → Chain w' N' l v
  | [], _, h => h
  | m :: r, v, h => by
    obtain ⟨b, q, t, p, v', bl, jv, h1, h2, h3, h4, h5, h6, h7, h8⟩ := h
    exact ⟨b, q, t, p, v', bl, jv, h1, by omega, (hb.block b (by omega)).trans h3, h4.below hb, h5, h6, Rep.keep (fun k hk => hb.block k (Nat.lt_of_lt_of_le hk hN)) (fun k hk => Nat.lt_of_lt_of_le hk hN') _ _ h7, Chain.up hb hN hN' h8⟩
/-- Whether a version may follow those before it. -/
def folOk : List Ver → Int → Bool
  | [], no => decide (0 ≤ no) && decide (no ≤ 1000000)
  | m :: _, no => no == m.no + 1
theorem follow_walk (v : Value) (l : List Ver) (N : Nat) (no : Int) (w : World) (h : Chain w N l v) (hr : ∀ m, l.head? = some m → 0 ≤ m.no ∧ m.no ≤ 2000000) :
    Calls Tryz.prog 84 #[v, .int .i64 no] w fun e w' => e = .returned (.bool (folOk l no)) ∧ Below w.heap.size w w' := by
  match l, h with
  | [], h =>
    rw [Chain] at h
    subst h
    exact mayFollow0_walk no w
  | m :: r, h =>
    rw [Chain] at h
    obtain ⟨b, q, t, p, v', bl, jv, rfl, _, h3, _⟩ := h
    obtain ⟨h0, h1⟩ := hr m rfl
    exact mayFollow1_walk b m.no no w (Lib.cell_of_heap h3 0) h0 h1
theorem Chain.ptr {w : World} {N : Nat} {l : List Ver} {v : Value} (h : Chain w N l v) : ∃ a, v = .pointer a := by
  match l, h with
  | [], h => exact ⟨_, h⟩
  | m :: r, h => obtain ⟨b, q, t, p, v', bl, jv, h1, _⟩ := h; exact ⟨_, h1⟩
theorem rev_head {vs : List Ver} {k : Nat} (hk : 0 < k) (h : k ≤ vs.length) : ∃ r, (vs.take k).reverse = vs[k - 1] :: r := by
  obtain ⟨j, rfl⟩ : ∃ j, k = j + 1 := ⟨k - 1, by omega⟩
  rw [List.take_succ_eq_append_getElem (by omega), List.reverse_append]
  exact ⟨_, rfl⟩
theorem fol_at {vs : List Ver} {k : Nat} (h0 : 0 < vs.length) (hk : k < vs.length) (hall : ∀ j (h : j < vs.length), j < k → verOk vs[0].no j vs[j] = true) :
    folOk (vs.take k).reverse vs[k].no = true ↔ vs[k].no = vs[0].no + k ∧ (k = 0 → 0 ≤ vs[0].no ∧ vs[0].no ≤ 1000000) := by
  by_cases e : k = 0
  · subst e
    simp [folOk]
  · obtain ⟨r, hr⟩ := rev_head (k := k) (by omega) (by omega : k ≤ vs.length)
    have h1 := (verOk_iff.1 (hall (k - 1) (by omega) (by omega))).1
    rw [hr, folOk, beq_iff_eq, h1]
    constructor
    · intro h; exact ⟨by omega, fun h => absurd h e⟩
    · rintro ⟨h, _⟩; omega
theorem head_no {vs : List Ver} {k : Nat} (h0 : 0 < vs.length) (hk : k < vs.length) (hall : ∀ j (h : j < vs.length), j < k → verOk vs[0].no j vs[j] = true) (hbad : goodT vs[k].doc = false ∨ folOk (vs.take k).reverse vs[k].no = false ∨ touchOk vs[k].touched = false) : storeOk vs = false := by
  refine storeOk_no ?_
  rintro ⟨_, _, h1, h2, h3⟩
  obtain ⟨a, b, c⟩ := verOk_iff.1 (h3 k hk)
  rcases hbad with h | h | h
  · rw [b] at h; cases h
  · rw [(fol_at h0 hk hall).2 ⟨a, fun _ => ⟨h1, h2⟩⟩] at h; cases h
  · rw [c] at h; cases h
/-- What headOf answers. -/
def HdP (vs : List Ver) (w : World) (e : Ending) (w' : World) : Prop := Below w.heap.size w w' ∧ (storeOk vs = false → e = .returned (.tuple #[.pointer none, .bool false])) ∧
  (storeOk vs = true → ∃ v, e = .returned (.tuple #[v, .bool true]) ∧ Chain w' w'.heap.size vs.reverse v)
set_option maxRecDepth 100000 in
set_option maxHeartbeats 4000000 in
theorem headOf_walk (p : Value) (vs : List Ver) (bl : List Nat) (w : World) (h : ORow verE w p vs bl) (hs : szVers vs ≤ 1048576) (hw : RdW w) :
    Calls Tryz.prog 43 #[.agg #[p]] w (HdP vs w) := by
  obtain ⟨xa, xc, rfl, -, hxa⟩ := h.form
  have hln : vs.length ≤ 9223372036854775807 := by have := h.len; unfold maxLen at this; omega
  have hA := alloc_b w (.cells #[.slice xa vs.length xc] 24)
  have kA := heap_alloc_new w (.cells #[.slice xa vs.length xc] 24)
  have HO := hide (h.below hA)
  have HA := hide hA
  have HI := hide (versIn hs)
  have HXA := hide hxa
  have HW := hide (hw.up hA)
  clear h hs hA hw hxa
  by_cases hn8 : 8 < vs.length
  · have HZ : Hid (storeOk vs = false) := storeOk_no (by rintro ⟨_, h, _⟩; omega)
    clear kA
    go_enter Tryz.func43, Tryz.ntmps43
    go_wp2
    go_ret2
    exact ⟨unhide HA, fun _ => rfl, fun h => by rw [unhide HZ] at h; cases h⟩
  · go_enter Tryz.func43, Tryz.ntmps43
    go_wp2
    clear kA
    generalize (w.alloc (.cells #[.slice xa vs.length xc] 24)) = wA at *
    go_loopw [4, 16] (fun hd i wr => ∃ k : Nat, k ≤ vs.length ∧ i = .int .i64 k ∧ Below wA.heap.size wA wr ∧ Chain wr wr.heap.size (vs.take k).reverse hd ∧ (∀ (h0 : 0 < vs.length), (∀ j (h : j < vs.length), j < k → verOk vs[0].no j vs[j] = true) ∧ (0 < k → 0 ≤ vs[0].no ∧ vs[0].no ≤ 1000000))) (fun _ i _ => vs.length - (intOf i).toNat)
    case atStart => exact ⟨0, Nat.zero_le _, rfl, Below.refl _ _, rfl, fun _ => ⟨fun j _ h => by omega, fun h => by omega⟩⟩
    case round =>
      obtain ⟨k, hk, rfl, hb, hch, hall⟩ := hrel
      have HCH := hide hch
      have HBR := hide hb
      have HALL := hide hall
      obtain ⟨ha, rfl⟩ := hch.ptr
      by_cases hlt : k < vs.length
      · have h0 : 0 < vs.length := by omega
        obtain ⟨hall1, hall2⟩ := hall h0
        have HNO : Hid (goodT vs[k].doc = false ∨ folOk (vs.take k).reverse vs[k].no = false ∨ touchOk vs[k].touched = false → storeOk vs = false) := head_no h0 hlt hall1
        have HYES : Hid (goodT vs[k].doc = true → folOk (vs.take k).reverse vs[k].no = true → touchOk vs[k].touched = true → ∀ (h0 : 0 < vs.length), (∀ j (h : j < vs.length), j < k + 1 → verOk vs[0].no j vs[j] = true) ∧ (0 < k + 1 → 0 ≤ vs[0].no ∧ vs[0].no ≤ 1000000)) := fun a1 a2 a3 _ => by
          obtain ⟨b1, b2⟩ := (fol_at h0 hlt hall1).1 a2
          refine ⟨fun j h hj => ?_, fun _ => ?_⟩
          · by_cases e : j = k
            · subst e; exact verOk_iff.2 ⟨b1, a1, a3⟩
            · exact hall1 j h (by omega)
          · by_cases e : k = 0
            · exact b2 e
            · exact hall2 (by omega)
        have hrg : ∀ m, (vs.take k).reverse.head? = some m → 0 ≤ m.no ∧ m.no ≤ 2000000 := fun m hm => by
          by_cases e : k = 0
          · subst e; simp at hm
          · obtain ⟨r, hr⟩ := rev_head (vs := vs) (k := k) (by omega) (by omega)
            rw [hr] at hm
            injection hm with hm
            subst hm
            have h1 := (verOk_iff.1 (hall1 (k - 1) (by omega) (by omega))).1
            obtain ⟨h2, h3⟩ := hall2 (by omega)
            omega
        have HRG := hide hrg
        have HREV : Hid ((vs.take (k + 1)).reverse = vs[k] :: (vs.take k).reverse) := by
          show _ = _
          rw [List.take_succ_eq_append_getElem hlt, List.reverse_append]; rfl
        obtain ⟨g, rfl⟩ := unhide HXA h0
        obtain ⟨hd1, hp1, hl1⟩ := unhide HI k hlt
        obtain ⟨cs, ib, hE, hc, -⟩ := ((unhide HO).below hb).at (List.getElem?_eq_getElem hlt)
        obtain ⟨q, rfl, hq⟩ := hE
        obtain ⟨ta, tc, rfl, -, -⟩ := hq.form
        have c0 : wr.cell? ⟨g, k * 3, none⟩ = some (.int .i64 vs[k].no) := (hc 0 _ rfl).1
        have c1 : wr.cell? ⟨g, k * 3 + 1, none⟩ = some (.string vs[k].doc) := (hc 1 _ rfl).1
        have c2 : wr.cell? ⟨g, k * 3 + 2, none⟩ = some (.slice ta vs[k].touched.length tc) := (hc 2 _ rfl).1
        have HQ := hide hq
        clear hc hq hrg hall1 hall2 hall hch hb
        generalize (vs.take k).reverse = l at *
        generalize vs[k] = m at *
        obtain ⟨no, doc, tch⟩ := m
        simp only at c0 c1 c2 hd1 hp1 hl1
        have hV := alloc_b wr (.cells #[.int .i64 no, .string doc, .slice ta tch.length tc] 58)
        have kV := heap_alloc_new wr (.cells #[.int .i64 no, .string doc, .slice ta tch.length tc] 58)
        have zV : (wr.alloc (.cells #[.int .i64 no, .string doc, .slice ta tch.length tc] 58)).heap.size = wr.heap.size + 1 := by simp
        have hwV := (unhide HW).up (below_next (unhide HBR) hV)
        have HR := hide (readCanon_walk doc _ hwV.tab hwV.err hwV.pow (by omega))
        have HML := hide hwV.ml
        have HKV := hide kV
        have HZV := hide zV
        have HV := hide hV
        have HP1 := hide hp1
        clear hV kV zV hwV hp1
        go_wp2_with fail
        generalize (wr.alloc (.cells #[.int .i64 no, .string doc, .slice ta tch.length tc] 58)) = wV at *
        refine (unhide HR).mono ?_
        rintro e w2 ⟨b2, hno, hyes⟩
        have HB2 := hide b2
        have k2 := (b2.block wr.heap.size (by have := unhide HZV; omega)).trans (unhide HKV)
        cases hg : goodT doc with
        | false =>
          obtain rfl := hno hg
          have HZ := hide (unhide HNO (.inl hg))
          clear hno hyes b2 k2 hg c0 c1 c2
          go_wp2
          go_ret2
          exact ⟨below_next (unhide HA) (below_next (unhide HBR) (below_next (unhide HV) (unhide HB2))), fun _ => rfl, fun h => by rw [unhide HZ] at h; cases h⟩
        | true =>
          obtain ⟨jv, t, p, hr, hct, rfl, rep⟩ := hyes hg
          have HRR := hide hr
          have HCT := hide hct
          have HREP := hide rep
          have HG := hide hg
          have b02 := below_next (unhide HV) b2
          have HCH2 := hide (Chain.up b02 (Nat.le_refl _) b02.size (unhide HCH))
          have HF := hide (follow_walk _ l _ no w2 (unhide HCH2) (unhide HRG))
          have v0 : w2.cell? ⟨wr.heap.size, 0, none⟩ = some (.int .i64 no) := Lib.cell_of_heap k2 0
          have HB02 := hide b02
          have HK2 := hide k2
          have hsz := b02.size
          have hs1 : wr.heap.size < w2.heap.size := by have := unhide HZV; have := b2.size; omega
          clear hno hyes b2 k2 hg rep hr hct b02 c0 c1 c2 HR HCH
          obtain ⟨fo, hfo⟩ : ∃ fo, folOk l no = fo := ⟨_, rfl⟩
          rw [hfo] at HF
          have HFO := hide hfo
          clear hfo
          go_wp2_with fail
          refine (unhide HF).mono ?_
          rintro e w3 ⟨rfl, b3⟩
          have k3 := (b3.block wr.heap.size hs1).trans (unhide HK2)
          have v2 : w3.cell? ⟨wr.heap.size, 2, none⟩ = some (.slice ta tch.length tc) := Lib.cell_of_heap k3 2
          have HB3 := hide (below_next (unhide HB02) b3)
          have hs3 := b3.size
          cases fo with
          | false =>
            have HZ := hide (unhide HNO (.inr (.inl (unhide HFO))))
            clear b3 k3 v0 v2 HF
            go_wp2
            go_ret2
            exact ⟨below_next (unhide HA) (below_next (unhide HBR) (unhide HB3)), fun _ => rfl, fun h => by rw [unhide HZ] at h; cases h⟩
          | true =>
            have HT := hide (goodTouched_walk _ tch ib w3 ((unhide HQ).below (unhide HB3)) ((unhide HML).below (below_next (unhide HB2) b3)) (unhide HP1))
            have HCH3 := hide (Chain.up b3 (Nat.le_refl _) b3.size (unhide HCH2))
            have HREP3 := hide (Rep.keep (S' := fun k => k < w3.heap.size) (fun k hk => b3.block k hk.2) (fun k hk => Nat.lt_of_lt_of_le hk.2 b3.size) _ _ (unhide HREP))
            have HK3 := hide k3
            clear b3 k3 v0 HF HCH2 HREP
            obtain ⟨tq, htq⟩ : ∃ tq, touchOk tch = tq := ⟨_, rfl⟩
            rw [htq] at HT
            have HTQ := hide htq
            clear htq
            go_wp2_with fail
            refine (unhide HT).mono ?_
            rintro e w4 ⟨rfl, b4⟩
            have HB4 := hide (below_next (unhide HB3) b4)
            cases tq with
            | false =>
              have HZ := hide (unhide HNO (.inr (.inr (unhide HTQ))))
              clear b4 v2 HT
              go_wp2
              go_ret2
              exact ⟨below_next (unhide HA) (below_next (unhide HBR) (unhide HB4)), fun _ => rfl, fun h => by rw [unhide HZ] at h; cases h⟩
            | true =>
              have k4 := (b4.block wr.heap.size (by omega)).trans (unhide HK3)
              have x0 : w4.cell? ⟨wr.heap.size, 0, none⟩ = some (.int .i64 no) := Lib.cell_of_heap k4 0
              have x1 : w4.cell? ⟨wr.heap.size, 1, none⟩ = some (.string doc) := Lib.cell_of_heap k4 1
              have x2 : w4.cell? ⟨wr.heap.size, 2, none⟩ = some (.slice ta tch.length tc) := Lib.cell_of_heap k4 2
              have hR := alloc_b w4 (.cells #[.int .i64 no, .string doc, .slice ta tch.length tc, .iface t p, .pointer ha] 125)
              have kR := heap_alloc_new w4 (.cells #[.int .i64 no, .string doc, .slice ta tch.length tc, .iface t p, .pointer ha] 125)
              have zR : (w4.alloc (.cells #[.int .i64 no, .string doc, .slice ta tch.length tc, .iface t p, .pointer ha] 125)).heap.size = w4.heap.size + 1 := by simp
              have b34 := below_next b4 hR
              have hs4 := b4.size
              have HNEW : Hid (Chain (w4.alloc (.cells #[.int .i64 no, .string doc, .slice ta tch.length tc, .iface t p, .pointer ha] 125)) (w4.alloc (.cells #[.int .i64 no, .string doc, .slice ta tch.length tc, .iface t p, .pointer ha] 125)).heap.size (⟨no, doc, tch⟩ :: l) (.pointer (some ⟨w4.heap.size, 0, none⟩))) :=
                ⟨w4.heap.size, _, t, p, _, ib, jv, rfl, by omega, kR, (unhide HQ).below (below_next (unhide HB3) b34), unhide HRR, unhide HCT, Rep.keep (fun k hk => b34.block k hk) (fun k hk => Nat.lt_of_lt_of_le hk b34.size) _ _ (unhide HREP3), Chain.up b34 (Nat.le_refl _) b34.size (unhide HCH3)⟩
              have HBN := hide (below_next (unhide HBR) (below_next (unhide HB3) b34))
              have HY := hide (unhide HYES (unhide HG) (unhide HFO) (unhide HTQ))
              clear b4 v2 HT k4 hR kR zR b34 hs4 HCH3 HREP3 HK3
              go_wp2
              go_roundw
              case rel => exact ⟨k + 1, by omega, by go_num, unhide HBN, by rw [unhide HREV]; exact unhide HNEW, unhide HY⟩
              case measure => simp [intOf]; omega
      · have hkn : k = vs.length := by omega
        subst hkn
        rw [List.take_length] at HCH
        by_cases h0 : 0 < vs.length
        · have HZ : Hid (storeOk vs = true) := storeOk_iff.2 ⟨h0, by omega, ((hall h0).2 h0).1, ((hall h0).2 h0).2, fun j hj => (hall h0).1 j hj hj⟩
          obtain ⟨b, hbp⟩ : ∃ b, ha = some ⟨b, 0, none⟩ := by
            have hc := unhide HCH
            cases hv : vs.reverse with
            | nil => rw [List.reverse_eq_nil_iff] at hv; rw [hv] at h0; simp at h0
            | cons m r =>
              rw [hv, Chain] at hc
              obtain ⟨b, q, t, p, v', bl', jv, h1, _⟩ := hc
              injection h1 with h1
              exact ⟨b, h1⟩
          subst hbp
          clear hall hb hch
          go_wp2
          go_ret2
          exact ⟨below_next (unhide HA) (unhide HBR), fun h => (by rw [unhide HZ] at h; cases h), fun _ => ⟨_, rfl, unhide HCH⟩⟩
        · have e : vs = [] := List.eq_nil_of_length_eq_zero (by omega)
          subst e
          have hc := unhide HCH
          simp only [List.reverse_nil] at hc
          rw [Chain] at hc
          injection hc with hc
          subst hc
          clear hall hb hch
          go_wp2
          go_ret2
          exact ⟨below_next (unhide HA) (unhide HBR), fun _ => rfl, fun h => by cases h⟩
/-- StoreOk of the program. -/
theorem implStore_walk (p : Value) (vs : List Ver) (bl : List Nat) (w : World) (h : ORow verE w p vs bl) (hs : szVers vs ≤ 1048576) (hw : RdW w) :
    Calls Tryz.prog 17 #[.agg #[p]] w fun e w' => e = .returned (.bool (storeOk vs)) ∧ Below w.heap.size w w' := by
  obtain ⟨xa, xc, rfl, -, -⟩ := h.form
  have hA := alloc_b w (.cells #[.slice xa vs.length xc] 24)
  have HH := hide (headOf_walk _ vs bl _ (h.below hA) hs (hw.up hA))
  have HA := hide hA
  clear h hs hw hA
  go_enter Tryz.func17, Tryz.ntmps17
  go_wp2_with fail
  refine (unhide HH).mono ?_
  rintro e w2 ⟨b2, hno, hyes⟩
  have HB := hide (below_next (unhide HA) b2)
  cases hz : storeOk vs with
  | false =>
    obtain rfl := hno hz
    have HZ := hide hz
    clear hno hyes b2 HH hz
    go_wp2
    go_ret
    exact ⟨by rw [unhide HZ]; rfl, unhide HB⟩
  | true =>
    obtain ⟨v, rfl, _⟩ := hyes hz
    have HZ := hide hz
    clear hno hyes b2 HH hz
    go_wp2
    go_ret
    exact ⟨by rw [unhide HZ]; rfl, unhide HB⟩
end Go.Proofs.YtcjajchfjoffnaaGreatDoor

namespace Go.Proofs.YtcjajchfjoffnaaGreatDoor
open Go.RowKit

set_option maxRecDepth 100000 in
set_option maxHeartbeats 4000000 in
theorem storeLaw_in (v : Value) (ms : List Ver) (w : World) (hr : RSto w v ms) (hw : RdW w) :
    Calls Tryz.prog 4 #[v] w fun e w' => e = .returned (.bool true) ∧ Below w.heap.size w w' := by
  obtain ⟨p, rfl, hr1⟩ := hr
  have HR : Hid (RSto w (.agg #[p]) ms) := ⟨p, rfl, hr1⟩
  clear hr1
  have hA := alloc_b w (Obj.cells #[p] 32)
  have kA := heap_alloc_new w (Obj.cells #[p] 32)
  have hAs : (w.alloc (Obj.cells #[p] 32)).heap.size = w.heap.size + 1 := by simp
  have HRA := hide ((unhide HR).below hA)
  have HCELL : Hid (∀ wi, Below (w.alloc (Obj.cells #[p] 32)).heap.size (w.alloc (Obj.cells #[p] 32)) wi → wi.cell? ⟨w.heap.size, 0, none⟩ = some p) := fun wi hb => (hb.cell (p := ⟨w.heap.size, 0, none⟩) (by rw [hAs]; show w.heap.size < _; omega)).trans (Lib.cell_of_heap kA 0)
  have HS := hide (szSto_walk _ ms _ (unhide HRA))
  have HA := hide hA
  have hwA := hw.up hA
  clear hA kA hAs HR
  by_cases hsz : szVers ms ≤ 1048576
  · rw [szI_ok hsz] at HS
    have hle : 1048576 - szVers ms ≤ 1048576 := by omega
    generalize 1048576 - szVers ms = L at *
    go_enter Tryz.func4, Tryz.ntmps4
    go_wp2_with fail
    generalize (w.alloc (Obj.cells #[p] 32)) = wA at *
    have HT : Hid (∀ wx, Below wA.heap.size wA wx → Calls Tryz.prog 16 #[.agg #[p]] wx fun e w' => ∃ p bl, e = .returned (.agg #[p]) ∧ ORow verE w' p ms bl ∧ Fsh wx.heap.size bl ∧ Below wx.heap.size wx w') := fun wx hx => toSto_walk _ ms wx ((unhide HRA).below hx) hsz
    refine (unhide HS).mono ?_
    rintro e w1 ⟨rfl, b1⟩
    have c1 := unhide HCELL w1 b1
    have HT1 := hide (unhide HT w1 b1)
    have HB1 := hide b1
    clear HS b1
    go_wp2_with fail
    refine (unhide HT1).mono ?_
    rintro e w2 ⟨v2, bl2, rfl, o2, _, b2⟩
    have HE := hide (specStore_walk v2 ms bl2 w2 o2 hsz)
    have HB2 := hide (below_next (unhide HB1) b2)
    clear HT1 o2 b2 HB1 c1
    go_wp2_with fail
    refine (unhide HE).mono ?_
    rintro e w3 ⟨rfl, b3⟩
    have b03 := below_next (unhide HB2) b3
    have c3 := unhide HCELL w3 b03
    have HT3 := hide (unhide HT w3 b03)
    have HB3 := hide b03
    clear HE b3 b03 HB2
    go_wp2_with fail
    refine (unhide HT3).mono ?_
    rintro e w4 ⟨v4, bl4, rfl, o4, _, b4⟩
    obtain ⟨xa, xc, rfl, -, -⟩ := o4.form
    have b04 := below_next (unhide HB3) b4
    have hA4 := alloc_b w4 (.cells #[.slice xa ms.length xc] 24)
    have k4 := heap_alloc_new w4 (.cells #[.slice xa ms.length xc] 24)
    have z4 : (w4.alloc (.cells #[.slice xa ms.length xc] 24)).heap.size = w4.heap.size + 1 := by simp
    have bA4 := below_next b04 hA4
    have HI := hide (implStore_walk _ ms bl4 _ (o4.below hA4) hsz (hwA.up bA4))
    have HO4 := hide (o4.below hA4)
    have HC4 : Hid (∀ wi, Below (w4.alloc (.cells #[.slice xa ms.length xc] 24)).heap.size (w4.alloc (.cells #[.slice xa ms.length xc] 24)) wi → wi.cell? ⟨w4.heap.size, 0, none⟩ = some (.slice xa ms.length xc)) := fun wi hb => (hb.cell (p := ⟨w4.heap.size, 0, none⟩) (by rw [z4]; show w4.heap.size < _; omega)).trans (Lib.cell_of_heap k4 0)
    have HB4 := hide bA4
    clear HT3 o4 b4 b04 HB3 hA4 k4 z4 bA4 c3
    generalize storeOk ms = zr at *
    go_wp2_with fail
    generalize (w4.alloc (.cells #[.slice xa ms.length xc] 24)) = w4' at *
    refine (unhide HI).mono ?_
    rintro e w5 ⟨rfl, b5⟩
    have b05 := below_next (unhide HB4) b5
    have HO5 := hide ((unhide HO4).below b5)
    have HB5 := hide b05
    have c5 := unhide HCELL w5 b05
    have d5 := unhide HC4 w5 b5
    have hdr : Below w5.heap.size w5 w5.drew := (Below.refl _ _).drew
    have HT5 := hide (unhide HT w5.drew (below_next b05 hdr))
    have HC5 : Hid (∀ wi, Below w5.heap.size w5 wi → wi.cell? ⟨w4.heap.size, 0, none⟩ = some (.slice xa ms.length xc)) := fun wi hb => unhide HC4 wi (below_next b5 hb)
    clear HI b5 b05 HB4 HO4 HC4 hdr
    go_wp2_with fail
    go_region_law (first
      | (go_simp; refine (unhide HQ).mono ?_; rintro e w7 ⟨rfl, b7⟩)
      | (go_simp; refine (unhide HT5).mono ?_; rintro e w6 ⟨v6, bl6, rfl, o6, -, b6⟩
         have b6' : Below w5.heap.size w5 w6 := ⟨b6.os, b6.tape, b6.output, b6.size, b6.block⟩
         have d6 := unhide HC5 w6 b6'
         have HQ := hide (eqSto_walk (.agg #[.slice xa ms.length xc]) (.agg #[v6]) ms bl4 bl6 w6 ⟨_, rfl, (unhide HO5).below b6'⟩ ⟨_, rfl, o6⟩)))
    all_goals (
      have HB7 := hide (below_next (unhide HA) (below_next (below_next (unhide HB5) b6') b7))
      clear HQ HT5 o6 b6 b6' b7 d6 HB5 HO5 c5 d5 HC5
      go_wp2
      go_ret
      exact ⟨rfl, unhide HB7⟩)
  · rw [szI_no (by omega)] at HS
    go_enter Tryz.func4, Tryz.ntmps4
    go_wp2_with fail
    generalize (w.alloc (Obj.cells #[p] 32)) = wA at *
    refine (unhide HS).mono ?_
    rintro e w1 ⟨rfl, b1⟩
    have HB1 := hide (below_next (unhide HA) b1)
    clear HS b1
    go_wp2
    go_ret
    exact ⟨rfl, unhide HB1⟩
/-- What the row's condition says of the tables. -/
def VarsOk (w : World) : Prop := Tabs w ∧ ErrB w.heap.size w ∧ PowB w.heap.size w
theorem tables_of {W : World} (hL : laidMetH Tryz.prog Rows.fnExactStoreOkRow.laid W) : VarsOk W := by
  have h : laidMet Tryz.prog laidAll W := hL
  exact ⟨tabs_at h, err_at h, pow_at h⟩
theorem storeLaw_walk (v : Value) (ms : List Ver) (w : World) (hr : RSto w v ms) (hm : ML w) (h : VarsOk w) :
    Calls Tryz.prog 4 #[v] w fun e w' => e = .returned (.bool true) ∧ Below w.heap.size w w' := storeLaw_in v ms w hr ⟨TabsB.of h.1, h.2.1, h.2.2, hm⟩
end Go.Proofs.YtcjajchfjoffnaaGreatDoor
