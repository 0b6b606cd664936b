import Derived.Test.YtcjajchfjoffnaaGreatDoorBto42
import Derived.Test.YtcjajchfjoffnaaGreatDoorBto18
import Derived.Test.YtcjajchfjoffnaaGreatDoorBto7
import Derived.Test.YtcjajchfjoffnaaGreatDoorBto17
import Derived.Test.YtcjajchfjoffnaaGreatDoorBto22
import Derived.Test.YtcjajchfjoffnaaGreatDoorBto43
import Derived.Test.YtcjajchfjoffnaaGreatDoorBto6
import Derived.BigQuiet
namespace Go.Proofs.YtcjajchfjoffnaaGreatDoor
open Go.RowKit Go.Sort

/-- What readCanonText answers. -/
def RCPost (s : ByteArray) (w : World) (e : Ending) (w' : World) : Prop :=
  Below w.heap.size w w' ∧ (goodT s = false → e = .returned (.tuple #[.nilIface, .bool false])) ∧
  (goodT s = true → ∃ (v : JV) (t : TypeId) (p : Value), readR s = .inr v ∧ strOf (ct v) = s ∧ e = .returned (.tuple #[.iface t p, .bool true]) ∧ Rep w' (fun k => w.heap.size ≤ k ∧ k < w'.heap.size) v (.iface t p))
theorem goodT_no {s : ByteArray} {v : JV} (h : readR s = .inr v) (hb : goodT s = false) : ((strOf (ct v)).toList == s.toList) = false := by
  unfold goodT at hb
  rw [h] at hb
  exact hb
set_option maxRecDepth 100000 in
set_option maxHeartbeats 1600000 in
theorem readCanon_walk (s : ByteArray) (w : World) (hT : TabsB w.heap.size w) (hE : ErrB w.heap.size w) (hP : PowB w.heap.size w) (hz : s.size ≤ 9223372036854775807) :
    Calls Tryz.prog 83 #[.string s] w (RCPost s w) := by
  have HF := hide (readText_walk s w hT hE hP hz)
  have HP := hide hP
  clear hT hE hP
  cases hr : readR s with
  | inl c =>
    obtain ⟨c1, c2⟩ := read_code hr
    have hg : goodT s = false := by unfold goodT; rw [hr]
    rw [hr] at HF
    have t1 : ((c : Int) == 0) = false := by simp; omega
    have t2 : ((c : Int) != 0) = true := by simp; omega
    have t3 : ¬ (c : Int) = 0 := by omega
    have t4 : ¬ c = 0 := by omega
    have HG := hide hg
    clear hr hg
    go_enter Tryz.func83, Tryz.ntmps83
    go_wp2_with fail
    refine (unhide HF).mono ?_
    rintro e w1 ⟨b1, rfl⟩
    clear HF
    go_wp2
    go_ret2
    exact ⟨b1, fun _ => rfl, fun h => by rw [unhide HG] at h; cases h⟩
  | inr v =>
    obtain ⟨hs, hd, htw, _, _, _⟩ := read_facts hr
    obtain ⟨hok, hcn, hln⟩ := doc_facts hd
    have HR := hide hr
    rw [hr] at HF
    clear hr hd
    go_enter Tryz.func83, Tryz.ntmps83
    go_wp2_with fail
    refine (unhide HF).mono ?_
    rintro e w1 ⟨b1, t, p, rfl, rep⟩
    have HREP := hide rep
    have HC := hide (canonText_walk v hok htw t p w1 _ rep (fun k hk => hk.2) (((unhide HP).next b1 (Nat.le_refl _)).more b1.size) (by omega))
    clear HF rep hok htw
    have HB1 := hide b1
    clear b1
    cases hg : goodT s with
    | true =>
      have HG := hide hg
      obtain ⟨v', e1, e2⟩ := goodT_iff.1 hg
      rw [unhide HR] at e1
      injection e1 with e1
      subst e1
      rw [e2] at HC
      have HE := hide e2
      clear hg e2
      go_wp2_with fail
      refine (unhide HC).mono ?_
      rintro e w2 ⟨rfl, b2⟩
      have HB2 := hide b2
      clear HC b2
      go_wp2
      go_ret2
      refine ⟨below_next (unhide HB1) (unhide HB2), fun h => (by rw [unhide HG] at h; cases h), fun _ => ⟨v, t, p, unhide HR, unhide HE, rfl, ?_⟩⟩
      exact Rep.keep (fun k hk => (unhide HB2).block k hk.2) (fun k hk => ⟨hk.1, Nat.lt_of_lt_of_le hk.2 (unhide HB2).size⟩) _ _ (unhide HREP)
    | false =>
      have HG := hide hg
      have tne := goodT_no (unhide HR) hg
      generalize strOf (ct v) = cv at *
      clear hg
      go_wp2_with fail
      refine (unhide HC).mono ?_
      rintro e w2 ⟨rfl, b2⟩
      have HB2 := hide b2
      clear HC b2
      go_wp2
      go_ret2
      exact ⟨below_next (unhide HB1) (unhide HB2), fun _ => rfl, fun h => by rw [unhide HG] at h; cases h⟩
end Go.Proofs.YtcjajchfjoffnaaGreatDoor

namespace Go.Proofs.YtcjajchfjoffnaaGreatDoor
open Go.RowKit Go.Sort

/-- What Open answers: the versions, and the code. -/
def openL (s : ByteArray) : List Ver := match readR s with
  | .inl _ => []
  | .inr v => [⟨0, strOf (ct v), []⟩]
def openC (s : ByteArray) : Int := match readR s with
  | .inl c => (c : Int)
  | .inr _ => 0
def OpenP (s : ByteArray) (w : World) (e : Ending) (w' : World) : Prop := ∃ v bl, e = .returned (.tuple #[v, .int .i64 (openC s)]) ∧ OSto w' v (openL s) bl ∧ Fsh w.heap.size bl ∧ Below w.heap.size w w'
/-- What openHead answers. -/
def HeadP (s : ByteArray) (w : World) (e : Ending) (w' : World) : Prop := Below w.heap.size w w' ∧ match readR s with
  | .inl c => e = .returned (.tuple #[.pointer none, .int .i64 (c : Int)])
  | .inr v => ∃ g rt, e = .returned (.tuple #[.pointer (some ⟨g, 0, none⟩), .int .i64 0]) ∧ w'.heap[g]? = some (revB (strOf (ct v)) rt)
set_option maxRecDepth 100000 in
set_option maxHeartbeats 1600000 in
theorem openHead_walk (s : ByteArray) (w : World) (hT : TabsB w.heap.size w) (hE : ErrB w.heap.size w) (hP : PowB w.heap.size w) (hz : s.size ≤ 9223372036854775807) :
    Calls Tryz.prog 35 #[.string s] w (HeadP s w) := by
  have HF := hide (readText_walk s w hT hE hP hz)
  have HP := hide hP
  clear hT hE hP
  unfold HeadP
  cases hr : readR s with
  | inl c =>
    obtain ⟨c1, c2⟩ := read_code hr
    rw [hr] at HF
    have t1 : ((c : Int) == 0) = false := by simp; omega
    have t2 : ((c : Int) != 0) = true := by simp; omega
    have t3 : ¬ (c : Int) = 0 := by omega
    have t4 : ¬ c = 0 := by omega
    clear hr
    go_enter Tryz.func35, Tryz.ntmps35
    go_wp2_with fail
    refine (unhide HF).mono ?_
    rintro e w1 ⟨b1, rfl⟩
    clear HF
    go_wp2
    go_ret2
    exact ⟨b1, rfl⟩
  | inr v =>
    obtain ⟨hs, hd, htw, _, _, _⟩ := read_facts hr
    obtain ⟨hok, hcn, hln⟩ := doc_facts hd
    rw [hr] at HF
    clear hr hd
    go_enter Tryz.func35, Tryz.ntmps35
    go_wp2_with fail
    refine (unhide HF).mono ?_
    rintro e w1 ⟨b1, t, p, rfl, rep⟩
    have HC := hide (canonText_walk v hok htw t p w1 _ rep (fun k hk => hk.2) (((unhide HP).next b1 (Nat.le_refl _)).more b1.size) (by omega))
    clear HF rep hok htw
    obtain ⟨cv, hcv⟩ : ∃ cv, strOf (ct v) = cv := ⟨_, rfl⟩
    rw [hcv] at HC
    have HCV := hide hcv
    clear hcv
    go_wp2_with fail
    refine (unhide HC).mono ?_
    rintro e w2 ⟨rfl, b2⟩
    have B2 := below_next b1 b2
    clear HC
    go_wp2
    go_ret2
    exact ⟨below_next B2 (alloc_b _ _), _, _, rfl, by rw [unhide HCV]; exact heap_alloc_new _ _⟩
theorem TabsB.more {B B' : Nat} {w : World} (h : TabsB B w) (hB : B ≤ B') : TabsB B' w := by
  obtain ⟨w0, h1, h2⟩ := h
  exact ⟨w0, Nat.le_trans h1 hB, h2⟩
theorem ErrB.more {B B' : Nat} {w : World} (h : ErrB B w) (hB : B ≤ B') : ErrB B' w := ⟨Nat.lt_of_lt_of_le h.1 hB, h.2⟩
theorem tabsUp {w w' : World} (h : TabsB w.heap.size w) (hb : Below w.heap.size w w') : TabsB w'.heap.size w' := TabsB.more (TabsB.next h hb (Nat.le_refl _)) hb.size
theorem errUp {w w' : World} (h : ErrB w.heap.size w) (hb : Below w.heap.size w w') : ErrB w'.heap.size w' := ErrB.more (ErrB.next h hb (Nat.le_refl _)) hb.size
theorem powUp {w w' : World} (h : PowB w.heap.size w) (hb : Below w.heap.size w w') : PowB w'.heap.size w' := (h.next hb (Nat.le_refl _)).more hb.size
/-- A version that is new: its row of pointers is empty. -/
def verW (w : World) (d : ByteArray) : World := (w.alloc (.cells #[] 9)).alloc (.cells #[.int .i64 0, .string d, .slice (some ⟨w.heap.size, 0, none⟩) 0 0] 58)
theorem ver_new (w : World) (d : ByteArray) : ORow verE (verW w d) (.slice (some ⟨w.heap.size + 1, 0, none⟩) 1 1) [⟨0, d, []⟩] [w.heap.size + 1, w.heap.size] := by
  have hz : (w.alloc (.cells #[] 9)).heap.size = w.heap.size + 1 := by simp
  have k0 : (verW w d).heap[w.heap.size]? = some (.cells #[] 9 (0, 0)) := ((alloc_b (w.alloc (.cells #[] 9)) _).block w.heap.size (by omega)).trans (heap_alloc_new w _)
  have k1 : (verW w d).heap[w.heap.size + 1]? = some (.cells #[.int .i64 0, .string d, .slice (some ⟨w.heap.size, 0, none⟩) 0 0] 58 (0, 0)) := by
    have := heap_alloc_new (w.alloc (.cells #[] 9)) (.cells #[.int .i64 0, .string d, .slice (some ⟨w.heap.size, 0, none⟩) 0 0] 58)
    rw [hz] at this
    exact this
  have o0 : OStr (verW w d) (.slice (some ⟨w.heap.size, 0, none⟩) 0 0) [] [w.heap.size] := ⟨[], rfl, fun _ _ _ h => by simp at h, ⟨rfl, .inr ⟨_, 0, #[], rfl, Nat.zero_le _, k0, Nat.le_refl _, Nat.zero_le _, rfl, rfl⟩⟩, rfl⟩
  refine ⟨[([.int .i64 0, .string d, .slice (some ⟨w.heap.size, 0, none⟩) 0 0], [w.heap.size])], rfl, fun j p y hp hy => ?_, ⟨rfl, .inr ⟨_, 1, _, rfl, Nat.zero_le _, k1, Nat.le_refl _, by decide, rfl, rfl⟩⟩, rfl⟩
  cases j with
  | zero =>
    simp at hp hy
    subst hp; subst hy
    exact ⟨_, rfl, o0⟩
  | succ j => simp at hp
theorem stoA (w : World) : Below w.heap.size w (w.alloc (.cells #[.slice none 0 0] 24)) := alloc_b _ _
set_option maxRecDepth 100000 in
set_option maxHeartbeats 1600000 in
theorem implOpen_walk (s : ByteArray) (w : World) (hT : TabsB w.heap.size w) (hE : ErrB w.heap.size w) (hP : PowB w.heap.size w) (hz : s.size ≤ 9223372036854775807) :
    Calls Tryz.prog 10 #[.string s] w (OpenP s w) := by
  have hA := stoA w
  have kA := heap_alloc_new w (.cells #[.slice none 0 0] 24)
  have zA : (w.alloc (.cells #[.slice none 0 0] 24)).heap.size = w.heap.size + 1 := by simp
  have HF := hide (openHead_walk s (w.alloc (.cells #[.slice none 0 0] 24)) (tabsUp hT hA) (errUp hE hA) (powUp hP hA) hz)
  clear hT hE hP
  unfold OpenP openC openL
  unfold HeadP at HF
  cases hr : readR s with
  | inl c =>
    rw [hr] at HF
    clear hr
    have HA := hide hA
    have HKA := hide kA
    clear hA kA
    go_enter Tryz.func10, Tryz.ntmps10
    go_wp2_with fail
    generalize (w.alloc (.cells #[.slice none 0 0] 24)) = wA at *
    refine (unhide HF).mono ?_
    rintro e w1 ⟨b1, rfl⟩
    have HT := hide (tell0_walk w1)
    have HB1 := hide b1
    clear HF b1
    go_wp2_with fail
    refine (unhide HT).mono ?_
    rintro e w2 ⟨p, bl, rfl, o2, f2, b2⟩
    obtain ⟨xa, xc, rfl, _, _⟩ := o2.form
    have hz1 := (unhide HB1).size
    have B12 := below_next (unhide HB1) b2
    have k2 := (B12.block w.heap.size (by omega)).trans (unhide HKA)
    have c0 : w2.cell? ⟨w.heap.size, 0, none⟩ = some (.slice none 0 0) := Lib.cell_of_heap k2 0
    have f0 := Lib.frozen_of_heap k2
    have HO := hide o2
    have HFF := hide f2
    have HB2 := hide B12
    have HK2 := hide k2
    clear HT o2 f2 b2 B12 k2
    go_wp2
    refine bodyPost_ret (results_cell_tmp rfl _ _ w.heap.size 24 #[_] (0, 0) _ _ rfl rfl (putN_full (unhide HK2) [_] rfl) Tryz.underlying24 rfl (by kernel_rfl)) rfl ?_
    exact ⟨_, bl, rfl, ⟨_, rfl, (unhide HO).putN ((unhide HFF).not (by omega)) [_] 0⟩, (unhide HFF).mono (by omega), putN_below (below_next (unhide HA) (unhide HB2)) (Nat.le_refl _) [_] 0⟩
  | inr v =>
    rw [hr] at HF
    clear hr
    have HA := hide hA
    have HKA := hide kA
    clear hA kA
    go_enter Tryz.func10, Tryz.ntmps10
    go_wp2_with fail
    generalize (w.alloc (.cells #[.slice none 0 0] 24)) = wA at *
    refine (unhide HF).mono ?_
    rintro e w1 ⟨b1, g, rt, rfl, hg⟩
    have HT := hide (tell1_walk g _ rt w1 hg)
    have HB1 := hide b1
    clear HF b1 hg
    go_wp2_with fail
    refine (unhide HT).mono ?_
    rintro e w2 ⟨p, bl, rfl, o2, f2, b2⟩
    obtain ⟨xa, xc, rfl, _, _⟩ := o2.form
    have hz1 := (unhide HB1).size
    have B12 := below_next (unhide HB1) b2
    have k2 := (B12.block w.heap.size (by omega)).trans (unhide HKA)
    have c0 : w2.cell? ⟨w.heap.size, 0, none⟩ = some (.slice none 0 0) := Lib.cell_of_heap k2 0
    have f0 := Lib.frozen_of_heap k2
    have HO := hide o2
    have HFF := hide f2
    have HB2 := hide B12
    have HK2 := hide k2
    clear HT o2 f2 b2 B12 k2
    go_wp2
    refine bodyPost_ret (results_cell_tmp rfl _ _ w.heap.size 24 #[_] (0, 0) _ _ rfl rfl (putN_full (unhide HK2) [_] rfl) Tryz.underlying24 rfl (by kernel_rfl)) rfl ?_
    exact ⟨_, bl, rfl, ⟨_, rfl, (unhide HO).putN ((unhide HFF).not (by omega)) [_] 0⟩, (unhide HFF).mono (by omega), putN_below (below_next (unhide HA) (unhide HB2)) (Nat.le_refl _) [_] 0⟩
set_option maxRecDepth 100000 in
set_option maxHeartbeats 1600000 in
theorem specOpen_walk (s : ByteArray) (w : World) (hz : s.size ≤ 1048576) :
    Calls Tryz.prog 9 #[.string s] w (OpenP s w) := by
  have hA := stoA w
  have kA := heap_alloc_new w (.cells #[.slice none 0 0] 24)
  have zA : (w.alloc (.cells #[.slice none 0 0] 24)).heap.size = w.heap.size + 1 := by simp
  have HC := hide (specCanon_walk s (w.alloc (.cells #[.slice none 0 0] 24)) hz)
  have HA := hide hA
  have HKA := hide kA
  clear hA kA
  unfold OpenP openC openL
  unfold canonV at HC
  cases hr : readR s with
  | inl c =>
    obtain ⟨c1, c2⟩ := read_code hr
    rw [hr] at HC
    have t1 : ((c : Int) == 0) = false := by simp; omega
    have t2 : ((c : Int) != 0) = true := by simp; omega
    have t3 : ¬ (c : Int) = 0 := by omega
    have t4 : ¬ c = 0 := by omega
    clear hr
    go_enter Tryz.func9, Tryz.ntmps9
    go_wp2_with fail
    generalize (w.alloc (.cells #[.slice none 0 0] 24)) = wA at *
    refine (unhide HC).mono ?_
    rintro e w2 ⟨rfl, b1⟩
    have k2 := (b1.block w.heap.size (by omega)).trans (unhide HKA)
    have c0 : w2.cell? ⟨w.heap.size, 0, none⟩ = some (.slice none 0 0) := Lib.cell_of_heap k2 0
    have f0 := Lib.frozen_of_heap k2
    have HB2 := hide b1
    have HK2 := hide k2
    clear HC b1 k2
    go_wp2
    refine bodyPost_ret (results_cell_tmp rfl _ _ w.heap.size 24 #[_] (0, 0) _ _ rfl rfl (putN_full (unhide HK2) [_] rfl) Tryz.underlying24 rfl (by kernel_rfl)) rfl ?_
    exact ⟨_, [], rfl, ⟨_, rfl, ORow.nil _ _⟩, Fsh.nil _, putN_below (below_next (unhide HA) (unhide HB2)) (Nat.le_refl _) [_] 0⟩
  | inr v =>
    rw [hr] at HC
    clear hr
    have HC' : Hid (Calls Tryz.prog 34 #[.string s] (w.alloc (.cells #[.slice none 0 0] 24)) fun e w' => e = .returned (.tuple #[.string (strOf (ct v)), .int .i64 0]) ∧ Below (w.alloc (.cells #[.slice none 0 0] 24)).heap.size (w.alloc (.cells #[.slice none 0 0] 24)) w') := unhide HC
    clear HC
    go_enter Tryz.func9, Tryz.ntmps9
    go_wp2_with fail
    generalize (w.alloc (.cells #[.slice none 0 0] 24)) = wA at *
    refine (unhide HC').mono ?_
    rintro e w2 ⟨rfl, b1⟩
    have b4 : Below w2.heap.size w2 (verW w2 (strOf (ct v))) := below_next (alloc_b w2 _) (alloc_b _ _)
    have hz2 := b1.size
    have k4 := (b4.block w.heap.size (by omega)).trans ((b1.block w.heap.size (by omega)).trans (unhide HKA))
    have c0 : (verW w2 (strOf (ct v))).cell? ⟨w.heap.size, 0, none⟩ = some (.slice none 0 0) := Lib.cell_of_heap k4 0
    have f0 : (verW w2 (strOf (ct v))).frozen? ⟨w.heap.size, 0, none⟩ = false := Lib.frozen_of_heap k4 0
    have HO := hide (ver_new w2 (strOf (ct v)))
    have HB2 := hide (below_next b1 b4)
    have HK2 := hide k4
    have HFN : Hid (w.heap.size ∉ [w2.heap.size + 1, w2.heap.size]) := by show ¬ _; simp; omega
    have HFS : Hid (Fsh w.heap.size [w2.heap.size + 1, w2.heap.size]) := ⟨by simp, fun b hb => by simp at hb; omega⟩
    unfold verW at *
    clear HC' b1 b4 k4
    go_wp2
    refine bodyPost_ret (results_cell_tmp rfl _ _ w.heap.size 24 #[_] (0, 0) _ _ rfl rfl (putN_full (unhide HK2) [_] rfl) Tryz.underlying24 rfl (by kernel_rfl)) rfl ?_
    exact ⟨_, _, rfl, ⟨_, rfl, (unhide HO).putN (unhide HFN) [_] 0⟩, unhide HFS, putN_below (below_next (unhide HA) (unhide HB2)) (Nat.le_refl _) [_] 0⟩
end Go.Proofs.YtcjajchfjoffnaaGreatDoor

namespace Go.Proofs.YtcjajchfjoffnaaGreatDoor
open Go.RowKit

def tkOf (s : ByteArray) : List (List UInt8) := (ptoks s.data.toList).getD []
/-- An operation in the form in which it is done, in memory. -/
def opB (k : Int) (pv fv vv : Value) : Obj := .cells #[.string (wordB k), .int .i64 k, .bool (hasF k), .bool (hasV k), .bool (shF k), .bool (shP k), verbF k, pv, fv, vv] 148 (0, 0)
structure OpAt (w : World) (B : Nat) (m : POp) (g : Nat) (pv fv vv : Value) (v : JV) : Prop where
  blk : w.heap[g]? = some (opB m.kind pv fv vv)
  ge : B ≤ g
  path : OT w B pv (tkOf m.path)
  src : OT w B fv (tkOf m.src)
  val : hasV m.kind = true → readR m.val = .inr v ∧ strOf (ct v) = m.val ∧ ∃ t p, vv = .iface t p ∧ Rep w (fun k => B ≤ k ∧ k < w.heap.size) v vv
def ROk (m : POp) (w : World) (e : Ending) (w' : World) : Prop := ∃ g pv fv vv v, e = .returned (.tuple #[.pointer (some ⟨g, 0, none⟩), .bool true]) ∧ OpAt w' w.heap.size m g pv fv vv v ∧ Below w.heap.size w w'
/-- What the world must hold for the reader. -/
structure RdW (w : World) : Prop where
  tab : TabsB w.heap.size w
  err : ErrB w.heap.size w
  pow : PowB w.heap.size w
  ml : ML w
theorem RdW.up {w w' : World} (h : RdW w) (hb : Below w.heap.size w w') : RdW w' := ⟨tabsUp h.tab hb, errUp h.err hb, powUp h.pow hb, h.ml.below hb⟩
theorem verbF_fid (k : Int) : ∃ fid, verbF k = .func (Fn.func fid) #[] #[] := by
  unfold verbF
  repeat' split
  all_goals exact ⟨_, rfl⟩
theorem opOk_parts {m : POp} (h : opOk m = true) : 1 ≤ m.kind ∧ m.kind ≤ 6 ∧ (ptoks m.path.data.toList).isSome = true ∧ (ptoks m.src.data.toList).isSome = true ∧ (hasF m.kind = false → m.src.toList = []) ∧ (hasV m.kind = true → goodT m.val = true) ∧ (hasV m.kind = false → m.val.toList = []) := by
  unfold opOk at h
  simp only [Bool.and_eq_true, decide_eq_true_eq] at h
  obtain ⟨⟨⟨⟨h1, h2⟩, h3⟩, h4⟩, h5⟩ := h
  refine ⟨h1, h2, h3, ?_, ?_, ?_, ?_⟩
  · cases hf : hasF m.kind with
    | true => rw [hf] at h4; exact h4
    | false =>
      rw [hf] at h4
      have e : m.src.toList = [] := by simpa using h4
      rw [ByteArray.toList_eq] at e
      rw [e]; rfl
  · intro hf; rw [hf] at h4; simpa using h4
  · intro hv; rw [hv] at h5; exact h5
  · intro hv; rw [hv] at h5; simpa using h5
set_option maxRecDepth 100000 in
set_option maxHeartbeats 4000000 in
theorem readOp_good (m : POp) (w : World) (h : opOk m = true) (hw : RdW w) (hz1 : m.path.size ≤ 1048576) (hz2 : m.src.size ≤ 1048576) (hz3 : m.val.size ≤ 1048576) :
    Calls Tryz.prog 60 #[.agg #[.int .i64 m.kind, .string m.path, .string m.src, .string m.val]] w (ROk m w) := by
  obtain ⟨k1, k6, hp, hs, hsf, hvg, hvn⟩ := opOk_parts h
  have hA := alloc_b w (opObj m)
  have kA := heap_alloc_new w (opObj m)
  have zA : (w.alloc (opObj m)).heap.size = w.heap.size + 1 := by simp
  have HFV := hide (findVerb_yes w.heap.size m (w.alloc (opObj m)) kA k1 k6)
  have HTP : Hid (∀ wx, Below w.heap.size w wx → Calls Tryz.prog 100 #[.string m.path] wx fun e w' => ∃ v, e = .returned (.tuple #[v, .bool true]) ∧ OT w' wx.heap.size v (tkOf m.path) ∧ Below wx.heap.size wx w') := fun wx hx => by
    have := implToks_walk m.path wx (hw.up hx).ml hz1
    rw [hp] at this
    exact this
  have HTS : Hid (∀ wx, Below w.heap.size w wx → Calls Tryz.prog 100 #[.string m.src] wx fun e w' => ∃ v, e = .returned (.tuple #[v, .bool true]) ∧ OT w' wx.heap.size v (tkOf m.src) ∧ Below wx.heap.size wx w') := fun wx hx => by
    have := implToks_walk m.src wx (hw.up hx).ml hz2
    rw [hs] at this
    exact this
  have HRC : Hid (∀ wx, Below w.heap.size w wx → hasV m.kind = true → Calls Tryz.prog 83 #[.string m.val] wx fun e w' => ∃ (v : JV) (t : TypeId) (p : Value), readR m.val = .inr v ∧ strOf (ct v) = m.val ∧ e = .returned (.tuple #[.iface t p, .bool true]) ∧ Rep w' (fun k => wx.heap.size ≤ k ∧ k < w'.heap.size) v (.iface t p) ∧ Below wx.heap.size wx w') := fun wx hx hv => by
    have hwx := hw.up hx
    refine (readCanon_walk m.val wx hwx.tab hwx.err hwx.pow (by omega)).mono ?_
    rintro e w' ⟨b, _, hg⟩
    obtain ⟨v, t, p, r1, r2, r3, r4⟩ := hg (hvg hv)
    exact ⟨v, t, p, r1, r2, r3, r4, b⟩
  obtain ⟨fid, hfid⟩ := verbF_fid m.kind
  have HF := hide hfid
  obtain ⟨wb, hwb⟩ : ∃ wb, wordB m.kind = wb := ⟨_, rfl⟩
  obtain ⟨sf, hsfq⟩ : ∃ sf, shF m.kind = sf := ⟨_, rfl⟩
  obtain ⟨sp, hspq⟩ : ∃ sp, shP m.kind = sp := ⟨_, rfl⟩
  unfold verbV at HFV
  rw [hfid, hwb, hsfq, hspq] at HFV
  have HQ : Hid (wordB m.kind = wb ∧ shF m.kind = sf ∧ shP m.kind = sp) := ⟨hwb, hsfq, hspq⟩
  have HA := hide hA
  have HKA := hide kA
  have HZA := hide zA
  unfold opObj at *
  clear h hw hp hs hvg hfid hwb hsfq hspq hA kA zA k1 k6
  cases hv : hasV m.kind with
  | false =>
    have ev := hvn hv
    rw [hv] at HFV
    have HV := hide hv
    clear hvn hv HRC
    cases hf : hasF m.kind with
    | false =>
      have es := hsf hf
      rw [hf] at HFV
      have HFF := hide hf
      clear hsf hf
      go_enter Tryz.func60, Tryz.ntmps60
      go_wp2_with fail
      generalize (w.alloc (.cells #[.int .i64 m.kind, .string m.path, .string m.src, .string m.val] 76)) = wA at *
      refine (unhide HFV).mono ?_
      rintro e w1 ⟨rfl, b1⟩
      have hB := alloc_b w1 (.cells #[.string wb, .int .i64 m.kind, .bool false, .bool false, .bool sf, .bool sp, .func (Fn.func fid) #[] #[]] 146)
      have kB := heap_alloc_new w1 (.cells #[.string wb, .int .i64 m.kind, .bool false, .bool false, .bool sf, .bool sp, .func (Fn.func fid) #[] #[]] 146)
      have zB : (w1.alloc (.cells #[.string wb, .int .i64 m.kind, .bool false, .bool false, .bool sf, .bool sp, .func (Fn.func fid) #[] #[]] 146)).heap.size = w1.heap.size + 1 := by simp
      have b2 := below_next b1 hB
      have hz1 := b1.size
      have k2 := (b2.block w.heap.size (by have := unhide HZA; omega)).trans (unhide HKA)
      have c1 : (w1.alloc (.cells #[.string wb, .int .i64 m.kind, .bool false, .bool false, .bool sf, .bool sp, .func (Fn.func fid) #[] #[]] 146)).cell? ⟨w.heap.size, 1, none⟩ = some (.string m.path) := Lib.cell_of_heap k2 1
      have c2 : (w1.alloc (.cells #[.string wb, .int .i64 m.kind, .bool false, .bool false, .bool sf, .bool sp, .func (Fn.func fid) #[] #[]] 146)).cell? ⟨w.heap.size, 2, none⟩ = some (.string m.src) := Lib.cell_of_heap k2 2
      have c3 : (w1.alloc (.cells #[.string wb, .int .i64 m.kind, .bool false, .bool false, .bool sf, .bool sp, .func (Fn.func fid) #[] #[]] 146)).cell? ⟨w.heap.size, 3, none⟩ = some (.string m.val) := Lib.cell_of_heap k2 3
      have HT := hide (unhide HTP _ (below_next (unhide HA) b2))
      have HB2 := hide b2
      have HK2 := hide k2
      have HKB := hide kB
      have HZ1 := hide hz1
      have HZB := hide zB
      clear HFV b1 hB kB b2 hz1 k2 HKA zB HTP
      go_wp2_with fail
      generalize (w1.alloc (.cells #[.string wb, .int .i64 m.kind, .bool false, .bool false, .bool sf, .bool sp, .func (Fn.func fid) #[] #[]] 146)) = w2 at *
      generalize w1.heap.size = V0 at *
      refine (unhide HT).mono ?_
      rintro e w3 ⟨pv, rfl, op, b3⟩
      obtain ⟨pa, pg, pc, rfl, _, _⟩ := op.shape
      have zB := unhide HZB
      have zA := unhide HZA
      have hz1 := unhide HZ1
      have k3 := (b3.block w.heap.size (by omega)).trans (unhide HK2)
      have d2 : w3.cell? ⟨w.heap.size, 2, none⟩ = some (.string m.src) := Lib.cell_of_heap k3 2
      have b23 := below_next (unhide HB2) b3
      have HT2 := hide (unhide HTS _ (below_next (unhide HA) b23))
      have HOP := hide op
      have HB3 := hide b3
      have HK3 := hide k3
      have HKB3 := hide ((b3.block V0 (by omega)).trans (unhide HKB))
      have HZ3 := hide b3.size
      have HB23 := hide b23
      clear HT op b3 k3 b23 HK2 HKB HB2 c1 c2 c3 zA zB hz1 HTS
      go_wp2_with fail
      refine (unhide HT2).mono ?_
      rintro e w4 ⟨fv, rfl, of, b4⟩
      obtain ⟨fa, fg, fc, rfl, _, _⟩ := of.shape
      have zB := unhide HZB
      have zA := unhide HZA
      have hz1 := unhide HZ1
      have hz3 := unhide HZ3
      have kv := (b4.block V0 (by omega)).trans (unhide HKB3)
      have v0 : w4.cell? ⟨V0, 0, none⟩ = some (.string wb) := Lib.cell_of_heap kv 0
      have v1 : w4.cell? ⟨V0, 1, none⟩ = some (.int .i64 m.kind) := Lib.cell_of_heap kv 1
      have v2 : w4.cell? ⟨V0, 2, none⟩ = some (.bool false) := Lib.cell_of_heap kv 2
      have v3 : w4.cell? ⟨V0, 3, none⟩ = some (.bool false) := Lib.cell_of_heap kv 3
      have v4 : w4.cell? ⟨V0, 4, none⟩ = some (.bool sf) := Lib.cell_of_heap kv 4
      have v5 : w4.cell? ⟨V0, 5, none⟩ = some (.bool sp) := Lib.cell_of_heap kv 5
      have v6 : w4.cell? ⟨V0, 6, none⟩ = some (.func (Fn.func fid) #[] #[]) := Lib.cell_of_heap kv 6
      have hlt4 : V0 < w4.heap.size := (Array.getElem?_eq_some_iff.1 kv).1
      have k4 := (b4.block w.heap.size (by omega)).trans (unhide HK3)
      have d3 : w4.cell? ⟨w.heap.size, 3, none⟩ = some (.string m.val) := Lib.cell_of_heap k4 3
      have b24 := below_next (unhide HB23) b4
      have OPX := hide (own_below (unhide HOP) b4)
      have OFX := hide of
      have HZ4 := hide b4.size
      have HB4 := hide b4
      have HB24 := hide b24
      have HK4 := hide k4
      have HKV := hide kv
      have HL4 := hide hlt4
      clear HT2 of b4 b24 k4 kv HOP HB3 HK3 HKB3 HB23 d2 zA zB hz1 hz3 hlt4
      have hC := alloc_b w4 (.cells #[.string wb, .int .i64 m.kind, .bool false, .bool false, .bool sf, .bool sp, .func (Fn.func fid) #[] #[], .slice pa (tkOf m.path).length pc, .slice fa (tkOf m.src).length fc, .nilIface] 148)
      have kC := heap_alloc_new w4 (.cells #[.string wb, .int .i64 m.kind, .bool false, .bool false, .bool sf, .bool sp, .func (Fn.func fid) #[] #[], .slice pa (tkOf m.path).length pc, .slice fa (tkOf m.src).length fc, .nilIface] 148)
      have zC : (w4.alloc (.cells #[.string wb, .int .i64 m.kind, .bool false, .bool false, .bool sf, .bool sp, .func (Fn.func fid) #[] #[], .slice pa (tkOf m.path).length pc, .slice fa (tkOf m.src).length fc, .nilIface] 148)).heap.size = w4.heap.size + 1 := by simp
      have e3 : (w4.alloc (.cells #[.string wb, .int .i64 m.kind, .bool false, .bool false, .bool sf, .bool sp, .func (Fn.func fid) #[] #[], .slice pa (tkOf m.path).length pc, .slice fa (tkOf m.src).length fc, .nilIface] 148)).cell? ⟨V0, 3, none⟩ = some (.bool false) := Lib.cell_of_heap ((hC.block V0 (unhide HL4)).trans (unhide HKV)) 3
      have OPY := hide (own_below (unhide OPX) hC)
      have OFY := hide (own_below (unhide OFX) hC)
      have HB5 := hide (below_next (unhide HB24) hC)
      have HKC := hide kC
      clear hC kC zC OPX OFX HB24 HKV HK4 d3
      go_wp2
      go_ret2
      have zB := unhide HZB
      have zA := unhide HZA
      have hz1 := unhide HZ1
      have hz3 := unhide HZ3
      have hz4 := unhide HZ4
      refine ⟨w4.heap.size, _, _, .nilIface, .nul, rfl, ⟨?_, by omega, own_mono (unhide OPY) (by omega), own_mono (unhide OFY) (by omega), fun h => ?_⟩, below_next (unhide HA) (unhide HB5)⟩
      · unfold opB
        rw [unhide HF, (unhide HQ).1, (unhide HQ).2.1, (unhide HQ).2.2, unhide HV, unhide HFF]
        exact unhide HKC
      · rw [unhide HV] at h; cases h
    | true =>
      rw [hf] at HFV
      have HFF := hide hf
      clear hsf hf
      go_enter Tryz.func60, Tryz.ntmps60
      go_wp2_with fail
      generalize (w.alloc (.cells #[.int .i64 m.kind, .string m.path, .string m.src, .string m.val] 76)) = wA at *
      refine (unhide HFV).mono ?_
      rintro e w1 ⟨rfl, b1⟩
      have hB := alloc_b w1 (.cells #[.string wb, .int .i64 m.kind, .bool true, .bool false, .bool sf, .bool sp, .func (Fn.func fid) #[] #[]] 146)
      have kB := heap_alloc_new w1 (.cells #[.string wb, .int .i64 m.kind, .bool true, .bool false, .bool sf, .bool sp, .func (Fn.func fid) #[] #[]] 146)
      have zB : (w1.alloc (.cells #[.string wb, .int .i64 m.kind, .bool true, .bool false, .bool sf, .bool sp, .func (Fn.func fid) #[] #[]] 146)).heap.size = w1.heap.size + 1 := by simp
      have b2 := below_next b1 hB
      have hz1 := b1.size
      have k2 := (b2.block w.heap.size (by have := unhide HZA; omega)).trans (unhide HKA)
      have c1 : (w1.alloc (.cells #[.string wb, .int .i64 m.kind, .bool true, .bool false, .bool sf, .bool sp, .func (Fn.func fid) #[] #[]] 146)).cell? ⟨w.heap.size, 1, none⟩ = some (.string m.path) := Lib.cell_of_heap k2 1
      have c2 : (w1.alloc (.cells #[.string wb, .int .i64 m.kind, .bool true, .bool false, .bool sf, .bool sp, .func (Fn.func fid) #[] #[]] 146)).cell? ⟨w.heap.size, 2, none⟩ = some (.string m.src) := Lib.cell_of_heap k2 2
      have c3 : (w1.alloc (.cells #[.string wb, .int .i64 m.kind, .bool true, .bool false, .bool sf, .bool sp, .func (Fn.func fid) #[] #[]] 146)).cell? ⟨w.heap.size, 3, none⟩ = some (.string m.val) := Lib.cell_of_heap k2 3
      have HT := hide (unhide HTP _ (below_next (unhide HA) b2))
      have HB2 := hide b2
      have HK2 := hide k2
      have HKB := hide kB
      have HZ1 := hide hz1
      have HZB := hide zB
      clear HFV b1 hB kB b2 hz1 k2 HKA zB HTP
      go_wp2_with fail
      generalize (w1.alloc (.cells #[.string wb, .int .i64 m.kind, .bool true, .bool false, .bool sf, .bool sp, .func (Fn.func fid) #[] #[]] 146)) = w2 at *
      generalize w1.heap.size = V0 at *
      refine (unhide HT).mono ?_
      rintro e w3 ⟨pv, rfl, op, b3⟩
      obtain ⟨pa, pg, pc, rfl, _, _⟩ := op.shape
      have zB := unhide HZB
      have zA := unhide HZA
      have hz1 := unhide HZ1
      have k3 := (b3.block w.heap.size (by omega)).trans (unhide HK2)
      have d2 : w3.cell? ⟨w.heap.size, 2, none⟩ = some (.string m.src) := Lib.cell_of_heap k3 2
      have b23 := below_next (unhide HB2) b3
      have HT2 := hide (unhide HTS _ (below_next (unhide HA) b23))
      have HOP := hide op
      have HB3 := hide b3
      have HK3 := hide k3
      have HKB3 := hide ((b3.block V0 (by omega)).trans (unhide HKB))
      have HZ3 := hide b3.size
      have HB23 := hide b23
      clear HT op b3 k3 b23 HK2 HKB HB2 c1 c2 c3 zA zB hz1 HTS
      go_wp2_with fail
      refine (unhide HT2).mono ?_
      rintro e w4 ⟨fv, rfl, of, b4⟩
      obtain ⟨fa, fg, fc, rfl, _, _⟩ := of.shape
      have zB := unhide HZB
      have zA := unhide HZA
      have hz1 := unhide HZ1
      have hz3 := unhide HZ3
      have kv := (b4.block V0 (by omega)).trans (unhide HKB3)
      have v0 : w4.cell? ⟨V0, 0, none⟩ = some (.string wb) := Lib.cell_of_heap kv 0
      have v1 : w4.cell? ⟨V0, 1, none⟩ = some (.int .i64 m.kind) := Lib.cell_of_heap kv 1
      have v2 : w4.cell? ⟨V0, 2, none⟩ = some (.bool true) := Lib.cell_of_heap kv 2
      have v3 : w4.cell? ⟨V0, 3, none⟩ = some (.bool false) := Lib.cell_of_heap kv 3
      have v4 : w4.cell? ⟨V0, 4, none⟩ = some (.bool sf) := Lib.cell_of_heap kv 4
      have v5 : w4.cell? ⟨V0, 5, none⟩ = some (.bool sp) := Lib.cell_of_heap kv 5
      have v6 : w4.cell? ⟨V0, 6, none⟩ = some (.func (Fn.func fid) #[] #[]) := Lib.cell_of_heap kv 6
      have hlt4 : V0 < w4.heap.size := (Array.getElem?_eq_some_iff.1 kv).1
      have k4 := (b4.block w.heap.size (by omega)).trans (unhide HK3)
      have d3 : w4.cell? ⟨w.heap.size, 3, none⟩ = some (.string m.val) := Lib.cell_of_heap k4 3
      have b24 := below_next (unhide HB23) b4
      have OPX := hide (own_below (unhide HOP) b4)
      have OFX := hide of
      have HZ4 := hide b4.size
      have HB4 := hide b4
      have HB24 := hide b24
      have HK4 := hide k4
      have HKV := hide kv
      have HL4 := hide hlt4
      clear HT2 of b4 b24 k4 kv HOP HB3 HK3 HKB3 HB23 d2 zA zB hz1 hz3 hlt4
      have hC := alloc_b w4 (.cells #[.string wb, .int .i64 m.kind, .bool true, .bool false, .bool sf, .bool sp, .func (Fn.func fid) #[] #[], .slice pa (tkOf m.path).length pc, .slice fa (tkOf m.src).length fc, .nilIface] 148)
      have kC := heap_alloc_new w4 (.cells #[.string wb, .int .i64 m.kind, .bool true, .bool false, .bool sf, .bool sp, .func (Fn.func fid) #[] #[], .slice pa (tkOf m.path).length pc, .slice fa (tkOf m.src).length fc, .nilIface] 148)
      have zC : (w4.alloc (.cells #[.string wb, .int .i64 m.kind, .bool true, .bool false, .bool sf, .bool sp, .func (Fn.func fid) #[] #[], .slice pa (tkOf m.path).length pc, .slice fa (tkOf m.src).length fc, .nilIface] 148)).heap.size = w4.heap.size + 1 := by simp
      have e3 : (w4.alloc (.cells #[.string wb, .int .i64 m.kind, .bool true, .bool false, .bool sf, .bool sp, .func (Fn.func fid) #[] #[], .slice pa (tkOf m.path).length pc, .slice fa (tkOf m.src).length fc, .nilIface] 148)).cell? ⟨V0, 3, none⟩ = some (.bool false) := Lib.cell_of_heap ((hC.block V0 (unhide HL4)).trans (unhide HKV)) 3
      have OPY := hide (own_below (unhide OPX) hC)
      have OFY := hide (own_below (unhide OFX) hC)
      have HB5 := hide (below_next (unhide HB24) hC)
      have HKC := hide kC
      clear hC kC zC OPX OFX HB24 HKV HK4 d3
      go_wp2
      go_ret2
      have zB := unhide HZB
      have zA := unhide HZA
      have hz1 := unhide HZ1
      have hz3 := unhide HZ3
      have hz4 := unhide HZ4
      refine ⟨w4.heap.size, _, _, .nilIface, .nul, rfl, ⟨?_, by omega, own_mono (unhide OPY) (by omega), own_mono (unhide OFY) (by omega), fun h => ?_⟩, below_next (unhide HA) (unhide HB5)⟩
      · unfold opB
        rw [unhide HF, (unhide HQ).1, (unhide HQ).2.1, (unhide HQ).2.2, unhide HV, unhide HFF]
        exact unhide HKC
      · rw [unhide HV] at h; cases h
  | true =>
    rw [hv] at HFV
    have HV := hide hv
    have HRC1 := hide (fun wx hx => unhide HRC wx hx hv)
    clear hvn hv HRC
    cases hf : hasF m.kind with
    | false =>
      have es := hsf hf
      rw [hf] at HFV
      have HFF := hide hf
      clear hsf hf
      go_enter Tryz.func60, Tryz.ntmps60
      go_wp2_with fail
      generalize (w.alloc (.cells #[.int .i64 m.kind, .string m.path, .string m.src, .string m.val] 76)) = wA at *
      refine (unhide HFV).mono ?_
      rintro e w1 ⟨rfl, b1⟩
      have hB := alloc_b w1 (.cells #[.string wb, .int .i64 m.kind, .bool false, .bool true, .bool sf, .bool sp, .func (Fn.func fid) #[] #[]] 146)
      have kB := heap_alloc_new w1 (.cells #[.string wb, .int .i64 m.kind, .bool false, .bool true, .bool sf, .bool sp, .func (Fn.func fid) #[] #[]] 146)
      have zB : (w1.alloc (.cells #[.string wb, .int .i64 m.kind, .bool false, .bool true, .bool sf, .bool sp, .func (Fn.func fid) #[] #[]] 146)).heap.size = w1.heap.size + 1 := by simp
      have b2 := below_next b1 hB
      have hz1 := b1.size
      have k2 := (b2.block w.heap.size (by have := unhide HZA; omega)).trans (unhide HKA)
      have c1 : (w1.alloc (.cells #[.string wb, .int .i64 m.kind, .bool false, .bool true, .bool sf, .bool sp, .func (Fn.func fid) #[] #[]] 146)).cell? ⟨w.heap.size, 1, none⟩ = some (.string m.path) := Lib.cell_of_heap k2 1
      have c2 : (w1.alloc (.cells #[.string wb, .int .i64 m.kind, .bool false, .bool true, .bool sf, .bool sp, .func (Fn.func fid) #[] #[]] 146)).cell? ⟨w.heap.size, 2, none⟩ = some (.string m.src) := Lib.cell_of_heap k2 2
      have c3 : (w1.alloc (.cells #[.string wb, .int .i64 m.kind, .bool false, .bool true, .bool sf, .bool sp, .func (Fn.func fid) #[] #[]] 146)).cell? ⟨w.heap.size, 3, none⟩ = some (.string m.val) := Lib.cell_of_heap k2 3
      have HT := hide (unhide HTP _ (below_next (unhide HA) b2))
      have HB2 := hide b2
      have HK2 := hide k2
      have HKB := hide kB
      have HZ1 := hide hz1
      have HZB := hide zB
      clear HFV b1 hB kB b2 hz1 k2 HKA zB HTP
      go_wp2_with fail
      generalize (w1.alloc (.cells #[.string wb, .int .i64 m.kind, .bool false, .bool true, .bool sf, .bool sp, .func (Fn.func fid) #[] #[]] 146)) = w2 at *
      generalize w1.heap.size = V0 at *
      refine (unhide HT).mono ?_
      rintro e w3 ⟨pv, rfl, op, b3⟩
      obtain ⟨pa, pg, pc, rfl, _, _⟩ := op.shape
      have zB := unhide HZB
      have zA := unhide HZA
      have hz1 := unhide HZ1
      have k3 := (b3.block w.heap.size (by omega)).trans (unhide HK2)
      have d2 : w3.cell? ⟨w.heap.size, 2, none⟩ = some (.string m.src) := Lib.cell_of_heap k3 2
      have b23 := below_next (unhide HB2) b3
      have HT2 := hide (unhide HTS _ (below_next (unhide HA) b23))
      have HOP := hide op
      have HB3 := hide b3
      have HK3 := hide k3
      have HKB3 := hide ((b3.block V0 (by omega)).trans (unhide HKB))
      have HZ3 := hide b3.size
      have HB23 := hide b23
      clear HT op b3 k3 b23 HK2 HKB HB2 c1 c2 c3 zA zB hz1 HTS
      go_wp2_with fail
      refine (unhide HT2).mono ?_
      rintro e w4 ⟨fv, rfl, of, b4⟩
      obtain ⟨fa, fg, fc, rfl, _, _⟩ := of.shape
      have zB := unhide HZB
      have zA := unhide HZA
      have hz1 := unhide HZ1
      have hz3 := unhide HZ3
      have kv := (b4.block V0 (by omega)).trans (unhide HKB3)
      have v0 : w4.cell? ⟨V0, 0, none⟩ = some (.string wb) := Lib.cell_of_heap kv 0
      have v1 : w4.cell? ⟨V0, 1, none⟩ = some (.int .i64 m.kind) := Lib.cell_of_heap kv 1
      have v2 : w4.cell? ⟨V0, 2, none⟩ = some (.bool false) := Lib.cell_of_heap kv 2
      have v3 : w4.cell? ⟨V0, 3, none⟩ = some (.bool true) := Lib.cell_of_heap kv 3
      have v4 : w4.cell? ⟨V0, 4, none⟩ = some (.bool sf) := Lib.cell_of_heap kv 4
      have v5 : w4.cell? ⟨V0, 5, none⟩ = some (.bool sp) := Lib.cell_of_heap kv 5
      have v6 : w4.cell? ⟨V0, 6, none⟩ = some (.func (Fn.func fid) #[] #[]) := Lib.cell_of_heap kv 6
      have hlt4 : V0 < w4.heap.size := (Array.getElem?_eq_some_iff.1 kv).1
      have k4 := (b4.block w.heap.size (by omega)).trans (unhide HK3)
      have d3 : w4.cell? ⟨w.heap.size, 3, none⟩ = some (.string m.val) := Lib.cell_of_heap k4 3
      have b24 := below_next (unhide HB23) b4
      have OPX := hide (own_below (unhide HOP) b4)
      have OFX := hide of
      have HZ4 := hide b4.size
      have HB4 := hide b4
      have HB24 := hide b24
      have HK4 := hide k4
      have HKV := hide kv
      have HL4 := hide hlt4
      clear HT2 of b4 b24 k4 kv HOP HB3 HK3 HKB3 HB23 d2 zA zB hz1 hz3 hlt4
      have hC := alloc_b w4 (.cells #[.string wb, .int .i64 m.kind, .bool false, .bool true, .bool sf, .bool sp, .func (Fn.func fid) #[] #[], .slice pa (tkOf m.path).length pc, .slice fa (tkOf m.src).length fc, .nilIface] 148)
      have kC := heap_alloc_new w4 (.cells #[.string wb, .int .i64 m.kind, .bool false, .bool true, .bool sf, .bool sp, .func (Fn.func fid) #[] #[], .slice pa (tkOf m.path).length pc, .slice fa (tkOf m.src).length fc, .nilIface] 148)
      have zC : (w4.alloc (.cells #[.string wb, .int .i64 m.kind, .bool false, .bool true, .bool sf, .bool sp, .func (Fn.func fid) #[] #[], .slice pa (tkOf m.path).length pc, .slice fa (tkOf m.src).length fc, .nilIface] 148)).heap.size = w4.heap.size + 1 := by simp
      have e3 : (w4.alloc (.cells #[.string wb, .int .i64 m.kind, .bool false, .bool true, .bool sf, .bool sp, .func (Fn.func fid) #[] #[], .slice pa (tkOf m.path).length pc, .slice fa (tkOf m.src).length fc, .nilIface] 148)).cell? ⟨V0, 3, none⟩ = some (.bool true) := Lib.cell_of_heap ((hC.block V0 (unhide HL4)).trans (unhide HKV)) 3
      have f3 : (w4.alloc (.cells #[.string wb, .int .i64 m.kind, .bool false, .bool true, .bool sf, .bool sp, .func (Fn.func fid) #[] #[], .slice pa (tkOf m.path).length pc, .slice fa (tkOf m.src).length fc, .nilIface] 148)).cell? ⟨w.heap.size, 3, none⟩ = some (.string m.val) := by
        have zB := unhide HZB
        have zA := unhide HZA
        have hz1 := unhide HZ1
        have hz3 := unhide HZ3
        have hz4 := unhide HZ4
        exact Lib.cell_of_heap ((hC.block w.heap.size (by omega)).trans (unhide HK4)) 3
      have b25 := below_next (unhide HB24) hC
      have HR := hide (unhide HRC1 _ (below_next (unhide HA) b25))
      have HB5 := hide (below_next (unhide HA) b25)
      have HKC := hide kC
      have HZC := hide zC
      have HCC := hide hC
      clear hC kC zC HB24 HKV HK4 d3 HRC1 b25
      go_wp2_with fail
      generalize (w4.alloc (.cells #[.string wb, .int .i64 m.kind, .bool false, .bool true, .bool sf, .bool sp, .func (Fn.func fid) #[] #[], .slice pa (tkOf m.path).length pc, .slice fa (tkOf m.src).length fc, .nilIface] 148)) = w5 at *
      generalize hG : w4.heap.size = G0 at *
      have HGE := hide hG
      clear hG
      refine (unhide HR).mono ?_
      rintro e w6 ⟨v, t, p, r1, r2, rfl, rep, b6⟩
      have zC := unhide HZC
      have k6 := (b6.block G0 (by omega)).trans (unhide HKC)
      have g9 : w6.cell? ⟨G0, 9, none⟩ = some .nilIface := Lib.cell_of_heap k6 9
      have f9 := Lib.frozen_of_heap k6 9
      have k7 := heap_setCell_same w6 G0 9 _ _ (.iface t p) k6
      have HR1 := hide r1
      have HR2 := hide r2
      have HREP := hide rep
      have HK7 := hide k7
      have HB6 := hide b6
      clear HR r1 r2 rep b6 k6 k7 zC HKC
      go_wp2
      go_ret2
      have zB := unhide HZB
      have zA := unhide HZA
      have hz1 := unhide HZ1
      have hz3 := unhide HZ3
      have hz4 := unhide HZ4
      have zC := unhide HZC
      have B47 : Below w4.heap.size w4 (w6.setCell ⟨G0, 9, none⟩ (.iface t p)) := by
        rw [unhide HGE]
        exact ((unhide HCC).trans ((unhide HB6).mono (by omega))).setCell (p := ⟨G0, 9, none⟩) (Nat.le_refl _) _
      have z7 : (w6.setCell ⟨G0, 9, none⟩ (.iface t p)).heap.size = w6.heap.size := by simp [World.setCell]
      refine ⟨G0, _, _, .iface t p, v, rfl, ⟨?_, by omega, own_mono (own_below (unhide OPX) B47) (by omega), own_mono (own_below (unhide OFX) B47) (by omega), fun _ => ⟨unhide HR1, unhide HR2, t, p, rfl, ?_⟩⟩, ((unhide HB5).trans ((unhide HB6).mono (by omega))).setCell (p := ⟨G0, 9, none⟩) (by show w.heap.size ≤ G0; omega) _⟩
      · unfold opB
        rw [unhide HF, (unhide HQ).1, (unhide HQ).2.1, (unhide HQ).2.2, unhide HV, unhide HFF]
        exact unhide HK7
      · exact Rep.keep (fun k hk => Below.heap_setCell w6 ⟨G0, 9, none⟩ _ k (fun e => by have : k = G0 := e; omega)) (fun k hk => ⟨by omega, by rw [z7]; exact hk.2⟩) _ _ (unhide HREP)
    | true =>
      rw [hf] at HFV
      have HFF := hide hf
      clear hsf hf
      go_enter Tryz.func60, Tryz.ntmps60
      go_wp2_with fail
      generalize (w.alloc (.cells #[.int .i64 m.kind, .string m.path, .string m.src, .string m.val] 76)) = wA at *
      refine (unhide HFV).mono ?_
      rintro e w1 ⟨rfl, b1⟩
      have hB := alloc_b w1 (.cells #[.string wb, .int .i64 m.kind, .bool true, .bool true, .bool sf, .bool sp, .func (Fn.func fid) #[] #[]] 146)
      have kB := heap_alloc_new w1 (.cells #[.string wb, .int .i64 m.kind, .bool true, .bool true, .bool sf, .bool sp, .func (Fn.func fid) #[] #[]] 146)
      have zB : (w1.alloc (.cells #[.string wb, .int .i64 m.kind, .bool true, .bool true, .bool sf, .bool sp, .func (Fn.func fid) #[] #[]] 146)).heap.size = w1.heap.size + 1 := by simp
      have b2 := below_next b1 hB
      have hz1 := b1.size
      have k2 := (b2.block w.heap.size (by have := unhide HZA; omega)).trans (unhide HKA)
      have c1 : (w1.alloc (.cells #[.string wb, .int .i64 m.kind, .bool true, .bool true, .bool sf, .bool sp, .func (Fn.func fid) #[] #[]] 146)).cell? ⟨w.heap.size, 1, none⟩ = some (.string m.path) := Lib.cell_of_heap k2 1
      have c2 : (w1.alloc (.cells #[.string wb, .int .i64 m.kind, .bool true, .bool true, .bool sf, .bool sp, .func (Fn.func fid) #[] #[]] 146)).cell? ⟨w.heap.size, 2, none⟩ = some (.string m.src) := Lib.cell_of_heap k2 2
      have c3 : (w1.alloc (.cells #[.string wb, .int .i64 m.kind, .bool true, .bool true, .bool sf, .bool sp, .func (Fn.func fid) #[] #[]] 146)).cell? ⟨w.heap.size, 3, none⟩ = some (.string m.val) := Lib.cell_of_heap k2 3
      have HT := hide (unhide HTP _ (below_next (unhide HA) b2))
      have HB2 := hide b2
      have HK2 := hide k2
      have HKB := hide kB
      have HZ1 := hide hz1
      have HZB := hide zB
      clear HFV b1 hB kB b2 hz1 k2 HKA zB HTP
      go_wp2_with fail
      generalize (w1.alloc (.cells #[.string wb, .int .i64 m.kind, .bool true, .bool true, .bool sf, .bool sp, .func (Fn.func fid) #[] #[]] 146)) = w2 at *
      generalize w1.heap.size = V0 at *
      refine (unhide HT).mono ?_
      rintro e w3 ⟨pv, rfl, op, b3⟩
      obtain ⟨pa, pg, pc, rfl, _, _⟩ := op.shape
      have zB := unhide HZB
      have zA := unhide HZA
      have hz1 := unhide HZ1
      have k3 := (b3.block w.heap.size (by omega)).trans (unhide HK2)
      have d2 : w3.cell? ⟨w.heap.size, 2, none⟩ = some (.string m.src) := Lib.cell_of_heap k3 2
      have b23 := below_next (unhide HB2) b3
      have HT2 := hide (unhide HTS _ (below_next (unhide HA) b23))
      have HOP := hide op
      have HB3 := hide b3
      have HK3 := hide k3
      have HKB3 := hide ((b3.block V0 (by omega)).trans (unhide HKB))
      have HZ3 := hide b3.size
      have HB23 := hide b23
      clear HT op b3 k3 b23 HK2 HKB HB2 c1 c2 c3 zA zB hz1 HTS
      go_wp2_with fail
      refine (unhide HT2).mono ?_
      rintro e w4 ⟨fv, rfl, of, b4⟩
      obtain ⟨fa, fg, fc, rfl, _, _⟩ := of.shape
      have zB := unhide HZB
      have zA := unhide HZA
      have hz1 := unhide HZ1
      have hz3 := unhide HZ3
      have kv := (b4.block V0 (by omega)).trans (unhide HKB3)
      have v0 : w4.cell? ⟨V0, 0, none⟩ = some (.string wb) := Lib.cell_of_heap kv 0
      have v1 : w4.cell? ⟨V0, 1, none⟩ = some (.int .i64 m.kind) := Lib.cell_of_heap kv 1
      have v2 : w4.cell? ⟨V0, 2, none⟩ = some (.bool true) := Lib.cell_of_heap kv 2
      have v3 : w4.cell? ⟨V0, 3, none⟩ = some (.bool true) := Lib.cell_of_heap kv 3
      have v4 : w4.cell? ⟨V0, 4, none⟩ = some (.bool sf) := Lib.cell_of_heap kv 4
      have v5 : w4.cell? ⟨V0, 5, none⟩ = some (.bool sp) := Lib.cell_of_heap kv 5
      have v6 : w4.cell? ⟨V0, 6, none⟩ = some (.func (Fn.func fid) #[] #[]) := Lib.cell_of_heap kv 6
      have hlt4 : V0 < w4.heap.size := (Array.getElem?_eq_some_iff.1 kv).1
      have k4 := (b4.block w.heap.size (by omega)).trans (unhide HK3)
      have d3 : w4.cell? ⟨w.heap.size, 3, none⟩ = some (.string m.val) := Lib.cell_of_heap k4 3
      have b24 := below_next (unhide HB23) b4
      have OPX := hide (own_below (unhide HOP) b4)
      have OFX := hide of
      have HZ4 := hide b4.size
      have HB4 := hide b4
      have HB24 := hide b24
      have HK4 := hide k4
      have HKV := hide kv
      have HL4 := hide hlt4
      clear HT2 of b4 b24 k4 kv HOP HB3 HK3 HKB3 HB23 d2 zA zB hz1 hz3 hlt4
      have hC := alloc_b w4 (.cells #[.string wb, .int .i64 m.kind, .bool true, .bool true, .bool sf, .bool sp, .func (Fn.func fid) #[] #[], .slice pa (tkOf m.path).length pc, .slice fa (tkOf m.src).length fc, .nilIface] 148)
      have kC := heap_alloc_new w4 (.cells #[.string wb, .int .i64 m.kind, .bool true, .bool true, .bool sf, .bool sp, .func (Fn.func fid) #[] #[], .slice pa (tkOf m.path).length pc, .slice fa (tkOf m.src).length fc, .nilIface] 148)
      have zC : (w4.alloc (.cells #[.string wb, .int .i64 m.kind, .bool true, .bool true, .bool sf, .bool sp, .func (Fn.func fid) #[] #[], .slice pa (tkOf m.path).length pc, .slice fa (tkOf m.src).length fc, .nilIface] 148)).heap.size = w4.heap.size + 1 := by simp
      have e3 : (w4.alloc (.cells #[.string wb, .int .i64 m.kind, .bool true, .bool true, .bool sf, .bool sp, .func (Fn.func fid) #[] #[], .slice pa (tkOf m.path).length pc, .slice fa (tkOf m.src).length fc, .nilIface] 148)).cell? ⟨V0, 3, none⟩ = some (.bool true) := Lib.cell_of_heap ((hC.block V0 (unhide HL4)).trans (unhide HKV)) 3
      have f3 : (w4.alloc (.cells #[.string wb, .int .i64 m.kind, .bool true, .bool true, .bool sf, .bool sp, .func (Fn.func fid) #[] #[], .slice pa (tkOf m.path).length pc, .slice fa (tkOf m.src).length fc, .nilIface] 148)).cell? ⟨w.heap.size, 3, none⟩ = some (.string m.val) := by
        have zB := unhide HZB
        have zA := unhide HZA
        have hz1 := unhide HZ1
        have hz3 := unhide HZ3
        have hz4 := unhide HZ4
        exact Lib.cell_of_heap ((hC.block w.heap.size (by omega)).trans (unhide HK4)) 3
      have b25 := below_next (unhide HB24) hC
      have HR := hide (unhide HRC1 _ (below_next (unhide HA) b25))
      have HB5 := hide (below_next (unhide HA) b25)
      have HKC := hide kC
      have HZC := hide zC
      have HCC := hide hC
      clear hC kC zC HB24 HKV HK4 d3 HRC1 b25
      go_wp2_with fail
      generalize (w4.alloc (.cells #[.string wb, .int .i64 m.kind, .bool true, .bool true, .bool sf, .bool sp, .func (Fn.func fid) #[] #[], .slice pa (tkOf m.path).length pc, .slice fa (tkOf m.src).length fc, .nilIface] 148)) = w5 at *
      generalize hG : w4.heap.size = G0 at *
      have HGE := hide hG
      clear hG
      refine (unhide HR).mono ?_
      rintro e w6 ⟨v, t, p, r1, r2, rfl, rep, b6⟩
      have zC := unhide HZC
      have k6 := (b6.block G0 (by omega)).trans (unhide HKC)
      have g9 : w6.cell? ⟨G0, 9, none⟩ = some .nilIface := Lib.cell_of_heap k6 9
      have f9 := Lib.frozen_of_heap k6 9
      have k7 := heap_setCell_same w6 G0 9 _ _ (.iface t p) k6
      have HR1 := hide r1
      have HR2 := hide r2
      have HREP := hide rep
      have HK7 := hide k7
      have HB6 := hide b6
      clear HR r1 r2 rep b6 k6 k7 zC HKC
      go_wp2
      go_ret2
      have zB := unhide HZB
      have zA := unhide HZA
      have hz1 := unhide HZ1
      have hz3 := unhide HZ3
      have hz4 := unhide HZ4
      have zC := unhide HZC
      have B47 : Below w4.heap.size w4 (w6.setCell ⟨G0, 9, none⟩ (.iface t p)) := by
        rw [unhide HGE]
        exact ((unhide HCC).trans ((unhide HB6).mono (by omega))).setCell (p := ⟨G0, 9, none⟩) (Nat.le_refl _) _
      have z7 : (w6.setCell ⟨G0, 9, none⟩ (.iface t p)).heap.size = w6.heap.size := by simp [World.setCell]
      refine ⟨G0, _, _, .iface t p, v, rfl, ⟨?_, by omega, own_mono (own_below (unhide OPX) B47) (by omega), own_mono (own_below (unhide OFX) B47) (by omega), fun _ => ⟨unhide HR1, unhide HR2, t, p, rfl, ?_⟩⟩, ((unhide HB5).trans ((unhide HB6).mono (by omega))).setCell (p := ⟨G0, 9, none⟩) (by show w.heap.size ≤ G0; omega) _⟩
      · unfold opB
        rw [unhide HF, (unhide HQ).1, (unhide HQ).2.1, (unhide HQ).2.2, unhide HV, unhide HFF]
        exact unhide HK7
      · exact Rep.keep (fun k hk => Below.heap_setCell w6 ⟨G0, 9, none⟩ _ k (fun e => by have : k = G0 := e; omega)) (fun k hk => ⟨by omega, by rw [z7]; exact hk.2⟩) _ _ (unhide HREP)
end Go.Proofs.YtcjajchfjoffnaaGreatDoor

namespace Go.Proofs.YtcjajchfjoffnaaGreatDoor
open Go.RowKit

/-- Whether a token may be an index. -/
def mayIdx (t : List UInt8) : Bool := (t != [] && t.all fun c => isDg c.toNat) || t == [45]
/-- The tokens of a pointer, shortened where the last one may be an index. -/
def shortL (ts : List (List UInt8)) : List (List UInt8) := if ts ≠ [] ∧ mayIdx (ts.getLastD []) = true then ts.dropLast else ts
theorem shortL_nil : shortL [] = [] := rfl
theorem shortL_yes {ts : List (List UInt8)} {t : List UInt8} (h : mayIdx t = true) : shortL (ts ++ [t]) = ts := by
  unfold shortL
  rw [if_pos ⟨by simp, by simpa using h⟩]
  simp
theorem shortL_no {ts : List (List UInt8)} {t : List UInt8} (h : mayIdx t = false) : shortL (ts ++ [t]) = ts ++ [t] := by
  unfold shortL
  rw [if_neg (by rintro ⟨_, h2⟩; simp [h] at h2)]
theorem escB_ge (c : UInt8) : 1 ≤ (escB c).length := by unfold escB; split <;> (try split) <;> simp
theorem esc_ge : ∀ (l : List UInt8), l.length ≤ (esc l).length
  | [] => Nat.zero_le _
  | c :: r => by
    have h1 := escB_ge c
    have h2 := esc_ge r
    simp only [esc, List.flatMap_cons, List.length_append, List.length_cons] at *
    omega
theorem ptrT_ge : ∀ (ts : List (List UInt8)), ts.length + totT ts ≤ (ptrT ts).length
  | [] => Nat.zero_le _
  | t :: r => by
    have h1 := esc_ge t
    have h2 := ptrT_ge r
    simp only [ptrT, totT, List.flatMap_cons, List.length_append, List.length_cons, List.map_cons, List.sum_cons] at *
    omega
theorem shortL_le (ts : List (List UInt8)) : (shortL ts).length + totT (shortL ts) ≤ ts.length + totT ts := by
  rcases List.eq_nil_or_concat ts with rfl | ⟨r, t, rfl⟩
  · exact Nat.le_refl _
  · rw [List.concat_eq_append]
    cases h : mayIdx t with
    | true => rw [shortL_yes h, totT_snoc]; simp; omega
    | false => rw [shortL_no h]; exact Nat.le_refl _
theorem tkOf_le {s : ByteArray} (h : (ptoks s.data.toList).isSome = true) : (tkOf s).length + totT (tkOf s) ≤ s.size := by
  obtain ⟨ts, hts⟩ := Option.isSome_iff_exists.1 h
  have h1 := text_ptoks hts
  have h2 := ptrT_ge ts
  rw [← baT_text, h1, data_len] at h2
  unfold tkOf
  rw [hts]
  exact h2
/-- What an operation touches. -/
def tpPath (m : POp) : List (List UInt8) := if shP m.kind then shortL (tkOf m.path) else tkOf m.path
def tpSrc (m : POp) : List (List UInt8) := if shF m.kind then shortL (tkOf m.src) else tkOf m.src
def touchP (m : POp) : List (List UInt8) := ptrT (tpPath m) :: (if hasF m.kind then [ptrT (tpSrc m)] else [])
def touchO (m : POp) : List (List UInt8) := if opOk m then touchP m else []
def touchAll (ms : List POp) : List (List UInt8) := ms.flatMap touchO
def touchT (ms : List POp) : List (List UInt8) := if 100 < ms.length then [] else onceL (touchAll ms)
theorem touchO_len (m : POp) : (touchO m).length ≤ 2 := by unfold touchO touchP; split <;> (try split) <;> simp
theorem touchAll_len : ∀ (ms : List POp), (touchAll ms).length ≤ 2 * ms.length
  | [] => Nat.zero_le _
  | m :: r => by
    have h1 := touchO_len m
    have h2 := touchAll_len r
    simp only [touchAll, List.flatMap_cons, List.length_append, List.length_cons] at *
    omega
theorem touchAll_snoc {ms : List POp} {k : Nat} (h : k < ms.length) : touchAll (ms.take (k + 1)) = touchAll (ms.take k) ++ touchO ms[k] := by
  unfold touchAll
  rw [List.take_succ_eq_append_getElem h, List.flatMap_append, List.flatMap_singleton]
end Go.Proofs.YtcjajchfjoffnaaGreatDoor

namespace Go.Proofs.YtcjajchfjoffnaaGreatDoor
open Go.RowKit

theorem ss_take {w : World} {xa : Option Addr} {xb xo n : Nat} {ss : List ByteArray} (h : SS w xa xb xo ss) : SS w xa xb xo (ss.take n) := by
  refine ⟨fun h0 => h.ad (by rw [List.length_take] at h0; omega), fun j hj => ?_⟩
  rw [List.length_take] at hj
  rw [h.cell j (by omega)]
  congr 2
  simp only [List.getD_eq_getElem?_getD]
  rw [List.getElem?_take_of_lt (by omega)]
/-- PtrText of the tokens but the last. -/
theorem textL_walk (xa : Option Addr) (xb xc : Nat) (r : List (List UInt8)) (t : List UInt8) (w : World) (h : SS w xa xb 0 ((r ++ [t]).map baT)) (hm : r.length + 1 + totT (r ++ [t]) ≤ 1048576) :
    (Calls Tryz.prog 57 #[.slice xa r.length xc] w fun e w' => e = .returned (.string (strOf (ptrT r))) ∧ Below w.heap.size w w') ∧
    (Calls Tryz.prog 57 #[.slice xa (r.length + 1) xc] w fun e w' => e = .returned (.string (strOf (ptrT (r ++ [t])))) ∧ Below w.heap.size w w') := by
  rw [totT_snoc] at hm
  constructor
  · have h1 := ss_take (n := r.length) h
    rw [← List.map_take, List.take_left] at h1
    have := specText_walk xa xb 0 xc (r.map baT) w h1 (by rw [baT_tot, List.length_map]; omega)
    rw [List.length_map, baT_text] at this
    exact this
  · have := specText_walk xa xb 0 xc ((r ++ [t]).map baT) w h (by rw [baT_tot, List.length_map, totT_snoc, List.length_append]; simp; omega)
    rw [List.length_map, baT_text, List.length_append] at this
    exact this
set_option maxRecDepth 100000 in
set_option maxHeartbeats 2000000 in
theorem short_walk {B : Nat} (v : Value) (ts : List (List UInt8)) (w : World) (h : OT w B v ts) (hm : ts.length + totT ts ≤ 1048576) :
    Calls Tryz.prog 58 #[v] w fun e w' => e = .returned (.string (strOf (ptrT (shortL ts)))) ∧ Below w.heap.size w w' := by
  obtain ⟨a, g, cap, rfl, hs, -⟩ := h.shape
  rcases List.eq_nil_or_concat ts with rfl | ⟨r, t, rfl⟩
  · clear h hs hm
    go_enter Tryz.func58, Tryz.ntmps58
    go_wp2
    go_ret
    exact ⟨rfl, Below.refl _ _⟩
  · rw [List.concat_eq_append] at *
    rw [List.length_append, List.length_singleton] at hm
    obtain ⟨s, rfl⟩ : ∃ s : ByteArray, t = s.data.toList := ⟨strOf t, by simp [strOf]⟩
    have HT : Hid (∀ wx, Below w.heap.size w wx → _) := fun wx hx => textL_walk a g cap r s.data.toList wx (hs.below hx) hm
    obtain rfl := hs.ad (by simp)
    have c0 := hs.cell r.length (by simp)
    rw [show ((r ++ [s.data.toList]).map baT).getD r.length ByteArray.empty = s by simp [List.getD_eq_getElem?_getD, baT], Nat.zero_add] at c0
    have hl : (r ++ [s.data.toList]).length = r.length + 1 := by simp
    have hcp : r.length ≤ cap := by
      rcases h.2 with ⟨hv, h0⟩ | ⟨g', cap', cur, hv, _, _, h1, _⟩
      · simp at h0
      · injection hv with _ _ hv; rw [hv]; rw [hl] at h1; omega
    have hcpI : (r.length : Int) ≤ (cap : Int) := by omega
    rw [hl]
    have hrl : r.length ≤ 1048576 := by omega
    have htl : s.size ≤ 1048576 := by rw [totT_snoc, data_len] at hm; omega
    have HSY : Hid (mayIdx s.data.toList = true → shortL (r ++ [s.data.toList]) = r) := shortL_yes
    have HSN : Hid (mayIdx s.data.toList = false → shortL (r ++ [s.data.toList]) = r ++ [s.data.toList]) := shortL_no
    have HNE : Hid ((!s.toList.isEmpty) = (s.data.toList != [])) := by show _ = _; rw [ByteArray.toList_eq]; cases s.data.toList <;> rfl
    clear h hs hm hl
    generalize hR : r.length = n at *
    generalize shortL (r ++ [s.data.toList]) = sh at *
    have HD : Hid (∀ (k : Nat) (hk : k < s.size) (w : World), Calls Tryz.prog 97 #[.int .u8 (s[k].toNat : Int)] w fun e w' => e = .returned (.bool (isDg s[k].toNat)) ∧ w = w') := fun k hk w => digit_walk s[k].toNat w
    go_enter Tryz.func58, Tryz.ntmps58
    go_wp2
    go_loopw [5, 6] (fun d i wr => ∃ k : Nat, k ≤ s.size ∧ i = .int .i64 k ∧ d = .bool (s.data.toList != [] && (s.data.toList.take k).all fun c => isDg c.toNat) ∧ Below w.heap.size w wr) (fun _ i _ => s.size - (intOf i).toNat)
    case atStart => exact ⟨0, Nat.zero_le _, rfl, by simpa using unhide HNE, Below.refl _ _⟩
    case round =>
      obtain ⟨k, hk, rfl, rfl, hb⟩ := hrel
      by_cases hlt : k < s.size
      · have hltI : (k : Int) < (s.size : Int) := by omega
        have hsn := bytes_snoc s k hlt
        have HD1 := hide (unhide HD k hlt)
        have HB := hide hb
        cases hdg : (s.data.toList != [] && (s.data.toList.take k).all fun c => isDg c.toNat) with
        | true =>
          have HST : Hid ((s.data.toList != [] && (s.data.toList.take (k + 1)).all fun c => isDg c.toNat) = isDg s[k].toNat) := by
            show _ = _
            rw [hsn, List.all_append, ← Bool.and_assoc, hdg]; simp
          generalize isDg s[k].toNat = z at *
          clear hdg hsn hb
          go_wp2_with fail
          refine (unhide HD1 _).mono ?_
          rintro e w2 ⟨rfl, rfl⟩
          go_wp2
          go_roundw
          case rel => exact ⟨k + 1, by omega, by go_num, by rw [unhide HST], unhide HB⟩
          case measure => simp [intOf]; omega
        | false =>
          have HST : Hid ((s.data.toList != [] && (s.data.toList.take (k + 1)).all fun c => isDg c.toNat) = false) := by
            show _ = _
            rw [hsn, List.all_append, ← Bool.and_assoc, hdg]; simp
          clear hdg hsn hb
          go_wp2
          go_roundw
          case rel => exact ⟨k + 1, by omega, by go_num, by rw [unhide HST], unhide HB⟩
          case measure => simp [intOf]; omega
      · have hkn : k = s.size := by omega
        subst hkn
        rw [bytes_all]
        have HB := hide hb
        obtain ⟨t1, t2⟩ := unhide HT wr hb
        have HT1 := hide t1
        have HT2 := hide t2
        clear HT t1 t2 HD HNE hb
        have hmx : mayIdx s.data.toList = ((s.data.toList != [] && s.data.toList.all fun c => isDg c.toNat) || s.data.toList == [45]) := rfl
        have h45 : (s.toList == [45]) = (s.data.toList == [45]) := by rw [ByteArray.toList_eq]
        rw [hmx] at HSY HSN
        clear hmx
        generalize (s.data.toList != [] && s.data.toList.all fun c => isDg c.toNat) = dg at *
        generalize (s.data.toList == [45]) = hy at *
        cases dg with
        | true =>
          obtain rfl := unhide HSY rfl
          clear HSY HSN HT2
          go_wp2_with fail
          refine (unhide HT1).mono ?_
          rintro e w2 ⟨rfl, b2⟩
          have HB2 := hide (below_next (unhide HB) b2)
          clear b2 HT1
          go_wp2
          go_ret
          exact ⟨rfl, unhide HB2⟩
        | false =>
          cases hy with
          | true =>
            obtain rfl := unhide HSY rfl
            clear HSY HSN HT2
            go_wp2_with fail
            refine (unhide HT1).mono ?_
            rintro e w2 ⟨rfl, b2⟩
            have HB2 := hide (below_next (unhide HB) b2)
            clear b2 HT1
            go_wp2
            go_ret
            exact ⟨rfl, unhide HB2⟩
          | false =>
            obtain rfl := unhide HSN rfl
            clear HSY HSN HT1
            go_wp2_with fail
            refine (unhide HT2).mono ?_
            rintro e w2 ⟨rfl, b2⟩
            have HB2 := hide (below_next (unhide HB) b2)
            clear b2 HT2
            go_wp2
            go_ret
            exact ⟨rfl, unhide HB2⟩
end Go.Proofs.YtcjajchfjoffnaaGreatDoor

namespace Go.Proofs.YtcjajchfjoffnaaGreatDoor
open Go.RowKit

theorem own_keepB {w w' : World} {B e size n : Nat} {v : Value} {xs : List Value} (h : w.ownsRow B e size v n xs) (hk : ∀ b, v.ownBlock = some b → w'.heap[b]? = w.heap[b]?) : w'.ownsRow B e size v n xs := by
  refine ⟨h.1, ?_⟩
  rcases h.2 with h0 | ⟨g, cap, cur, hv, hB, hg, r⟩
  · exact .inl h0
  · exact .inr ⟨g, cap, cur, hv, hB, (hk g (by rw [hv]; rfl)).trans hg, r⟩
/-- One more text at the end of a row of texts that the call owns. -/
theorem wpList_append_tok {w : World} {ops : Array Oper} {rest : List Oper} {o : Oper} {a : Act} {Q : Exit → Act → World → Prop} (hg : o.guard = none) (s x : Operand)
    (ho : o.op = .call { callee := .builtin .append, args := #[s, x], argTypes := #[45, 45] }) {B : Nat} {v : Value} {ts : List (List UInt8)} (hs : a.eval s = v)
    (h : OT w B v ts) {t : List UInt8} {g : Nat} (hx : a.eval x = .slice (some ⟨g, 0, none⟩) 1 1) (hcell : w.cell? ⟨g, 0, none⟩ = some (.string (strOf t))) (hB : B ≤ w.heap.size) (hl : ts.length ≤ 1000000)
    (hK : ∀ v' w', OT w' B v' (ts ++ [t]) → w.grownBy w' v.ownBlock → (v'.ownBlock = v.ownBlock ∨ v'.ownBlock = some w.heap.size) → wpList Tryz.prog ops Q rest (a.put o.dst v') w') : wpList Tryz.prog ops Q (o :: rest) a w := by
  refine wpList_append_one Tryz.underlying45 infoString rfl (by decide) hg s x ho hs h (y := .string (strOf t)) rfl hx hcell hB (by omega) ?_
  intro v' w' h1 h2 h3
  refine hK v' w' ?_ h2 h3
  unfold OT
  rw [List.length_append, List.map_append]
  exact h1
set_option maxRecDepth 100000 in
set_option maxHeartbeats 4000000 in
theorem specTouched_walk (v : Value) (ms : List POp) (bl : List Nat) (w : World) (h : ORow opE w v ms bl) (hs : szOps ms ≤ 1048576) :
    Calls Tryz.prog 23 #[v] w fun e w' => ∃ r, e = .returned r ∧ OT w' w.heap.size r (touchT ms) ∧ Below w.heap.size w w' := by
  have hin := opsIn hs
  obtain ⟨xa, xc, rfl, -, hxa⟩ := h.form
  have hln : ms.length ≤ 1048576 := by unfold szOps at hs; omega
  have H := hide h
  have HXA := hide hxa
  have HIN := hide hin
  have HO0 : Hid (OT (w.alloc (.cells #[] 9)) w.heap.size (.slice (some ⟨w.heap.size, 0, none⟩) 0 0) []) := World.ownsRow_lit w #[] 0 (Nat.le_refl _) (by unfold maxLen; omega) rfl
  have HB0 : Hid (Below w.heap.size w (w.alloc (.cells #[] 9))) := (Below.refl _ _).alloc (Nat.le_refl _) _
  clear h hxa hs hin
  by_cases h100 : 100 < ms.length
  · have t100 : (100 : Int) < (ms.length : Int) := by omega
    have HZ : Hid (touchT ms = []) := by show _ = _; unfold touchT; rw [if_pos h100]
    go_enter Tryz.func23, Tryz.ntmps23
    go_wp2
    go_ret
    exact ⟨_, rfl, by rw [unhide HZ]; exact unhide HO0, unhide HB0⟩
  · have t100 : ¬ (100 : Int) < (ms.length : Int) := by omega
    have HZ : Hid (touchT ms = onceL (touchAll ms)) := by show _ = _; unfold touchT; rw [if_neg h100]
    go_enter Tryz.func23, Tryz.ntmps23
    go_wp2
    go_loopw [3, 4] (fun lv i wr => ∃ k : Nat, k ≤ ms.length ∧ i = .int .i64 k ∧ OT wr w.heap.size lv (touchAll (ms.take k)) ∧ Below w.heap.size w wr) (fun _ i _ => ms.length - (intOf i).toNat)
    case atStart => exact ⟨0, Nat.zero_le _, rfl, unhide HO0, unhide HB0⟩
    case round =>
      obtain ⟨k, hk, rfl, ho, hb⟩ := hrel
      have hal : (touchAll (ms.take k)).length ≤ 1000 := by
        have := touchAll_len (ms.take k)
        rw [List.length_take] at this
        omega
      have HAL := hide ho
      have HBR := hide hb
      have hbz := hb.size
      by_cases hlt : k < ms.length
      · have HST : Hid (touchAll (ms.take (k + 1)) = touchAll (ms.take k) ++ touchO ms[k]) := touchAll_snoc hlt
        obtain ⟨g, rfl⟩ := unhide HXA (by omega)
        obtain ⟨cs, ib, hE, hc, -⟩ := ((unhide H).below hb).at (List.getElem?_eq_getElem hlt)
        obtain ⟨rfl, -⟩ := hE
        obtain ⟨i1, i2, i3⟩ := unhide HIN ms[k] (List.getElem_mem hlt)
        have c0 : wr.cell? ⟨g, k * 4, none⟩ = some (.int .i64 ms[k].kind) := (hc 0 _ rfl).1
        have c1 : wr.cell? ⟨g, k * 4 + 1, none⟩ = some (.string ms[k].path) := (hc 1 _ rfl).1
        have c2 : wr.cell? ⟨g, k * 4 + 2, none⟩ = some (.string ms[k].src) := (hc 2 _ rfl).1
        have c3 : wr.cell? ⟨g, k * 4 + 3, none⟩ = some (.string ms[k].val) := (hc 3 _ rfl).1
        clear hc ho hb
        generalize ms[k] = m at *
        generalize touchAll (ms.take k) = A at *
        have hA := alloc_b wr (.cells #[.int .i64 m.kind, .string m.path, .string m.src, .string m.val] 76)
        have kA := heap_alloc_new wr (.cells #[.int .i64 m.kind, .string m.path, .string m.src, .string m.val] 76)
        have zA : (wr.alloc (.cells #[.int .i64 m.kind, .string m.path, .string m.src, .string m.val] 76)).heap.size = wr.heap.size + 1 := by simp
        have HOK := hide (opOk_walk m (wr.alloc (.cells #[.int .i64 m.kind, .string m.path, .string m.src, .string m.val] 76)) i1 i2 i3)
        have HA := hide hA
        have HKA := hide kA
        have HZA := hide zA
        clear hA kA zA
        go_wp2_with fail
        generalize (wr.alloc (.cells #[.int .i64 m.kind, .string m.path, .string m.src, .string m.val] 76)) = wA at *
        refine (unhide HOK).mono ?_
        rintro e w2 ⟨rfl, b2⟩
        have b02 := below_next (unhide HA) b2
        have k2 := (b2.block wr.heap.size (by have := unhide HZA; omega)).trans (unhide HKA)
        have HS2 : Hid (wr.heap.size < w2.heap.size) := by show _ < _; have := unhide HZA; have := b2.size; omega
        have HB2 := hide b02
        have HK2 := hide k2
        have d1 : w2.cell? ⟨wr.heap.size, 1, none⟩ = some (.string m.path) := Lib.cell_of_heap k2 1
        clear c0 c1 c2 c3 b2 k2 b02 HA HKA HZA HOK
        cases hok : opOk m with
        | false =>
          have HT : Hid (touchO m = []) := by show _ = _; unfold touchO; rw [hok]; rfl
          have HBN := hide (below_next (unhide HBR) (unhide HB2))
          have HON := hide (own_below (unhide HAL) (unhide HB2))
          clear hok
          go_wp2
          go_roundw
          case rel => exact ⟨k + 1, by omega, by go_num, by rw [unhide HST, unhide HT, List.append_nil]; exact unhide HON, unhide HBN⟩
          case measure => simp [intOf]; omega
        | true =>
          obtain ⟨q1, q6, qp, qs, -, -, -⟩ := opOk_parts hok
          have HTP : Hid (touchO m = touchP m) := by show _ = _; unfold touchO; rw [hok]; rfl
          have lp := tkOf_le qp
          have ls := tkOf_le qs
          have lps := shortL_le (tkOf m.path)
          have lss := shortL_le (tkOf m.src)
          have LEN : Hid ((tkOf m.path).length + totT (tkOf m.path) ≤ 1048576 ∧ (tkOf m.src).length + totT (tkOf m.src) ≤ 1048576) := ⟨by omega, by omega⟩
          have HP3 := hide (specToks_walk m.path w2 i1)
          have HP4 : Hid (∀ wx, Calls Tryz.prog 56 #[.string m.src] wx fun e w' => ∃ v, e = .returned (.tuple #[v, .bool (ptoks m.src.data.toList).isSome]) ∧ OT w' wx.heap.size v (tkOf m.src) ∧ Below wx.heap.size wx w') := fun wx => specToks_walk m.src wx i2
          rw [qp] at HP3
          rw [qs] at HP4
          clear hok lp ls lps lss qp qs i1 i2 i3
          go_wp2_with fail
          refine (unhide HP3).mono ?_
          rintro e w3 ⟨pv, rfl, op3, b3⟩
          have k3 := (b3.block wr.heap.size (unhide HS2)).trans (unhide HK2)
          have d2 : w3.cell? ⟨wr.heap.size, 2, none⟩ = some (.string m.src) := Lib.cell_of_heap k3 2
          have HB3 := hide (below_next (unhide HB2) b3)
          have HS3 : Hid (wr.heap.size < w3.heap.size) := Nat.lt_of_lt_of_le (unhide HS2) b3.size
          have HO3 : Hid (OT w3 w2.heap.size pv (tkOf m.path)) := op3
          have HK3 := hide k3
          have HP4' := hide (unhide HP4 w3)
          clear HP3 HP4 op3 b3 k3 d1 HB2 HK2
          go_wp2_with fail
          refine (unhide HP4').mono ?_
          rintro e w4 ⟨fv, rfl, of4, b4⟩
          have k4 := (b4.block wr.heap.size (unhide HS3)).trans (unhide HK3)
          have e0 : w4.cell? ⟨wr.heap.size, 0, none⟩ = some (.int .i64 m.kind) := Lib.cell_of_heap k4 0
          have HB4 := hide (below_next (unhide HB3) b4)
          have HS4 : Hid (wr.heap.size < w4.heap.size) := Nat.lt_of_lt_of_le (unhide HS3) b4.size
          have HP4 := hide (own_below (unhide HO3) b4)
          have HF4 : Hid (OT w4 w3.heap.size fv (tkOf m.src)) := of4
          have HK4 := hide k4
          clear HP4' of4 b4 k4 d2 HB3 HK3 HO3 HS2
          obtain ⟨kind, path, src, val⟩ := m
          simp only at q1 q6 e0
          have hkk : kind = 1 ∨ kind = 2 ∨ kind = 3 ∨ kind = 4 ∨ kind = 5 ∨ kind = 6 := by omega
          clear q1 q6
          rcases hkk with rfl | rfl | rfl | rfl | rfl | rfl
          · have HTT : Hid (touchO ⟨1, path, src, val⟩ = [ptrT (shortL (tkOf path))]) := unhide HTP
            have HC := hide (short_walk pv _ w4 (unhide HP4) (unhide LEN).1)
            generalize ptrT (shortL (tkOf path)) = x1 at *
            clear HTP
            go_wp2_with fail
            refine (unhide HC).mono ?_
            rintro e w5 ⟨rfl, b5⟩
            have hC := alloc_b w5 (.cells #[.string (strOf x1)] 9)
            have b4C := below_next b5 hC
            have cC : (w5.alloc (.cells #[.string (strOf x1)] 9)).cell? ⟨w5.heap.size, 0, none⟩ = some (.string (strOf x1)) := Lib.cell_of_heap (heap_alloc_new w5 (.cells #[.string (strOf x1)] 9)) 0
            have HCC := hide cC
            have HOC := hide (own_below (unhide HAL) (below_next (unhide HB4) b4C))
            have HBC := hide (below_next (unhide HB4) b4C)
            have HKC := hide ((b4C.block wr.heap.size (unhide HS4)).trans (unhide HK4))
            have HFC := hide (own_below (unhide HF4) b4C)
            have HSC : Hid (w4.heap.size ≤ (w5.alloc (.cells #[.string (strOf x1)] 9)).heap.size) := b4C.size
            have HS5 : Hid (w4.heap.size ≤ w5.heap.size) := b5.size
            clear hC b4C cC b5 HC e0
            go_wp2_with (at_builtin; refine wpList_append_tok rfl (.tmp 53) (.tmp 56) rfl (B := w.heap.size) rfl (unhide HOC) rfl (unhide HCC) (by have h1 := (unhide HBC).size; omega) (by omega) ?_)
            generalize (w5.alloc (.cells #[.string (strOf x1)] 9)) = wC at *
            intro l6 w6 o6 g6 wh6
            have hne : ∀ b, wr.heap.size ≤ b → ¬ some b = u3.ownBlock := fun b hb e => by have h1 := ((unhide HAL).lt b e.symm).2; omega
            have hzC := unhide HSC
            have hz4 := unhide HS4
            have k6 := (g6.block wr.heap.size (by omega) (hne _ (Nat.le_refl _))).trans (unhide HKC)
            have HB6 := hide ((below_next (unhide HBR) (unhide HBC)).grown g6 (by have := (unhide HBC).size; omega) (fun b hb => ((unhide HAL).lt b hb).1))
            have e6 : w6.cell? ⟨wr.heap.size, 0, none⟩ = some (.int .i64 1) := Lib.cell_of_heap k6 0
            have HO6 := hide o6
            have HNE6 : Hid (¬ some wr.heap.size = l6.ownBlock) := fun e => by
              rcases wh6 with h | h
              · exact hne _ (Nat.le_refl _) (e.trans h)
              · rw [h] at e; injection e with e; have := unhide HS5; omega
            clear k6 g6 o6 wh6 HOC HCC HBC HKC HFC HSC hzC hz4 hne HF4 HP4 HK4 HB4
            go_wp2
            go_roundw
            case rel => exact ⟨k + 1, by omega, by go_num, by rw [unhide HST, unhide HTT]; exact unhide HO6, unhide HB6⟩
            case measure => simp [intOf]; omega
          · have HTT : Hid (touchO ⟨2, path, src, val⟩ = [ptrT (shortL (tkOf path))]) := unhide HTP
            have HC := hide (short_walk pv _ w4 (unhide HP4) (unhide LEN).1)
            generalize ptrT (shortL (tkOf path)) = x1 at *
            clear HTP
            go_wp2_with fail
            refine (unhide HC).mono ?_
            rintro e w5 ⟨rfl, b5⟩
            have hC := alloc_b w5 (.cells #[.string (strOf x1)] 9)
            have b4C := below_next b5 hC
            have cC : (w5.alloc (.cells #[.string (strOf x1)] 9)).cell? ⟨w5.heap.size, 0, none⟩ = some (.string (strOf x1)) := Lib.cell_of_heap (heap_alloc_new w5 (.cells #[.string (strOf x1)] 9)) 0
            have HCC := hide cC
            have HOC := hide (own_below (unhide HAL) (below_next (unhide HB4) b4C))
            have HBC := hide (below_next (unhide HB4) b4C)
            have HKC := hide ((b4C.block wr.heap.size (unhide HS4)).trans (unhide HK4))
            have HFC := hide (own_below (unhide HF4) b4C)
            have HSC : Hid (w4.heap.size ≤ (w5.alloc (.cells #[.string (strOf x1)] 9)).heap.size) := b4C.size
            have HS5 : Hid (w4.heap.size ≤ w5.heap.size) := b5.size
            clear hC b4C cC b5 HC e0
            go_wp2_with (at_builtin; refine wpList_append_tok rfl (.tmp 53) (.tmp 56) rfl (B := w.heap.size) rfl (unhide HOC) rfl (unhide HCC) (by have h1 := (unhide HBC).size; omega) (by omega) ?_)
            generalize (w5.alloc (.cells #[.string (strOf x1)] 9)) = wC at *
            intro l6 w6 o6 g6 wh6
            have hne : ∀ b, wr.heap.size ≤ b → ¬ some b = u3.ownBlock := fun b hb e => by have h1 := ((unhide HAL).lt b e.symm).2; omega
            have hzC := unhide HSC
            have hz4 := unhide HS4
            have k6 := (g6.block wr.heap.size (by omega) (hne _ (Nat.le_refl _))).trans (unhide HKC)
            have HB6 := hide ((below_next (unhide HBR) (unhide HBC)).grown g6 (by have := (unhide HBC).size; omega) (fun b hb => ((unhide HAL).lt b hb).1))
            have e6 : w6.cell? ⟨wr.heap.size, 0, none⟩ = some (.int .i64 2) := Lib.cell_of_heap k6 0
            have HO6 := hide o6
            have HNE6 : Hid (¬ some wr.heap.size = l6.ownBlock) := fun e => by
              rcases wh6 with h | h
              · exact hne _ (Nat.le_refl _) (e.trans h)
              · rw [h] at e; injection e with e; have := unhide HS5; omega
            clear k6 g6 o6 wh6 HOC HCC HBC HKC HFC HSC hzC hz4 hne HF4 HP4 HK4 HB4
            go_wp2
            go_roundw
            case rel => exact ⟨k + 1, by omega, by go_num, by rw [unhide HST, unhide HTT]; exact unhide HO6, unhide HB6⟩
            case measure => simp [intOf]; omega
          · have HTT : Hid (touchO ⟨3, path, src, val⟩ = [ptrT (tkOf path)]) := unhide HTP
            have HC := hide (textO_walk pv _ w4 (unhide HP4) (unhide LEN).1)
            generalize ptrT (tkOf path) = x1 at *
            clear HTP
            go_wp2_with fail
            refine (unhide HC).mono ?_
            rintro e w5 ⟨rfl, b5⟩
            have hC := alloc_b w5 (.cells #[.string (strOf x1)] 9)
            have b4C := below_next b5 hC
            have cC : (w5.alloc (.cells #[.string (strOf x1)] 9)).cell? ⟨w5.heap.size, 0, none⟩ = some (.string (strOf x1)) := Lib.cell_of_heap (heap_alloc_new w5 (.cells #[.string (strOf x1)] 9)) 0
            have HCC := hide cC
            have HOC := hide (own_below (unhide HAL) (below_next (unhide HB4) b4C))
            have HBC := hide (below_next (unhide HB4) b4C)
            have HKC := hide ((b4C.block wr.heap.size (unhide HS4)).trans (unhide HK4))
            have HFC := hide (own_below (unhide HF4) b4C)
            have HSC : Hid (w4.heap.size ≤ (w5.alloc (.cells #[.string (strOf x1)] 9)).heap.size) := b4C.size
            have HS5 : Hid (w4.heap.size ≤ w5.heap.size) := b5.size
            clear hC b4C cC b5 HC e0
            go_wp2_with (at_builtin; refine wpList_append_tok rfl (.tmp 48) (.tmp 51) rfl (B := w.heap.size) rfl (unhide HOC) rfl (unhide HCC) (by have h1 := (unhide HBC).size; omega) (by omega) ?_)
            generalize (w5.alloc (.cells #[.string (strOf x1)] 9)) = wC at *
            intro l6 w6 o6 g6 wh6
            have hne : ∀ b, wr.heap.size ≤ b → ¬ some b = u3.ownBlock := fun b hb e => by have h1 := ((unhide HAL).lt b e.symm).2; omega
            have hzC := unhide HSC
            have hz4 := unhide HS4
            have k6 := (g6.block wr.heap.size (by omega) (hne _ (Nat.le_refl _))).trans (unhide HKC)
            have HB6 := hide ((below_next (unhide HBR) (unhide HBC)).grown g6 (by have := (unhide HBC).size; omega) (fun b hb => ((unhide HAL).lt b hb).1))
            have e6 : w6.cell? ⟨wr.heap.size, 0, none⟩ = some (.int .i64 3) := Lib.cell_of_heap k6 0
            have HO6 := hide o6
            have HNE6 : Hid (¬ some wr.heap.size = l6.ownBlock) := fun e => by
              rcases wh6 with h | h
              · exact hne _ (Nat.le_refl _) (e.trans h)
              · rw [h] at e; injection e with e; have := unhide HS5; omega
            clear k6 g6 o6 wh6 HOC HCC HBC HKC HFC HSC hzC hz4 hne HF4 HP4 HK4 HB4
            go_wp2
            go_roundw
            case rel => exact ⟨k + 1, by omega, by go_num, by rw [unhide HST, unhide HTT]; exact unhide HO6, unhide HB6⟩
            case measure => simp [intOf]; omega
          · have HTT : Hid (touchO ⟨4, path, src, val⟩ = [ptrT (shortL (tkOf path)), ptrT (shortL (tkOf src))]) := unhide HTP
            have HC := hide (short_walk pv _ w4 (unhide HP4) (unhide LEN).1)
            generalize ptrT (shortL (tkOf path)) = x1 at *
            clear HTP
            go_wp2_with fail
            refine (unhide HC).mono ?_
            rintro e w5 ⟨rfl, b5⟩
            have hC := alloc_b w5 (.cells #[.string (strOf x1)] 9)
            have b4C := below_next b5 hC
            have cC : (w5.alloc (.cells #[.string (strOf x1)] 9)).cell? ⟨w5.heap.size, 0, none⟩ = some (.string (strOf x1)) := Lib.cell_of_heap (heap_alloc_new w5 (.cells #[.string (strOf x1)] 9)) 0
            have HCC := hide cC
            have HOC := hide (own_below (unhide HAL) (below_next (unhide HB4) b4C))
            have HBC := hide (below_next (unhide HB4) b4C)
            have HKC := hide ((b4C.block wr.heap.size (unhide HS4)).trans (unhide HK4))
            have HFC := hide (own_below (unhide HF4) b4C)
            have HSC : Hid (w4.heap.size ≤ (w5.alloc (.cells #[.string (strOf x1)] 9)).heap.size) := b4C.size
            have HS5 : Hid (w4.heap.size ≤ w5.heap.size) := b5.size
            clear hC b4C cC b5 HC e0
            go_wp2_with (at_builtin; refine wpList_append_tok rfl (.tmp 53) (.tmp 56) rfl (B := w.heap.size) rfl (unhide HOC) rfl (unhide HCC) (by have h1 := (unhide HBC).size; omega) (by omega) ?_)
            generalize (w5.alloc (.cells #[.string (strOf x1)] 9)) = wC at *
            intro l6 w6 o6 g6 wh6
            have hne : ∀ b, wr.heap.size ≤ b → ¬ some b = u3.ownBlock := fun b hb e => by have h1 := ((unhide HAL).lt b e.symm).2; omega
            have hzC := unhide HSC
            have hz4 := unhide HS4
            have k6 := (g6.block wr.heap.size (by omega) (hne _ (Nat.le_refl _))).trans (unhide HKC)
            have HB6 := hide ((below_next (unhide HBR) (unhide HBC)).grown g6 (by have := (unhide HBC).size; omega) (fun b hb => ((unhide HAL).lt b hb).1))
            have e6 : w6.cell? ⟨wr.heap.size, 0, none⟩ = some (.int .i64 4) := Lib.cell_of_heap k6 0
            have HO6 := hide o6
            have HNE6 : Hid (¬ some wr.heap.size = l6.ownBlock) := fun e => by
              rcases wh6 with h | h
              · exact hne _ (Nat.le_refl _) (e.trans h)
              · rw [h] at e; injection e with e; have := unhide HS5; omega
            have HF6 := hide (own_keepB (unhide HFC) (fun b hb => g6.block b ((unhide HFC).lt b hb).2 (hne b (by have h1 := ((unhide HFC).lt b hb).1; have h2 := unhide HS3; omega))))
            have HK6 := hide k6
            have HC7 := hide (short_walk fv _ w6 (unhide HF6) (unhide LEN).2)
            generalize ptrT (shortL (tkOf src)) = x2 at *
            clear k6 g6 o6 wh6 HOC HCC HBC HKC HFC HSC hzC hz4 hne HF4 HP4 HK4 HB4
            go_wp2_with fail
            refine (unhide HC7).mono ?_
            rintro e w7 ⟨rfl, b7⟩
            have hC := alloc_b w7 (.cells #[.string (strOf x2)] 9)
            have b6C := below_next b7 hC
            have cC : (w7.alloc (.cells #[.string (strOf x2)] 9)).cell? ⟨w7.heap.size, 0, none⟩ = some (.string (strOf x2)) := Lib.cell_of_heap (heap_alloc_new w7 (.cells #[.string (strOf x2)] 9)) 0
            have HCC := hide cC
            have HOC := hide (own_below (unhide HO6) b6C)
            have HBC := hide (below_next (unhide HB6) b6C)
            have e7 : w7.cell? ⟨wr.heap.size, 0, none⟩ = some (.int .i64 4) := (b7.cell (p := ⟨wr.heap.size, 0, none⟩) (World.block_lt_of_cell? _ _ e6)).trans e6
            have HKD := hide ((b6C.block wr.heap.size (World.block_lt_of_cell? _ _ e6)).trans (unhide HK6))
            have HSD : Hid (wr.heap.size < (w7.alloc (.cells #[.string (strOf x2)] 9)).heap.size) := Nat.lt_of_lt_of_le (World.block_lt_of_cell? _ _ e6) b6C.size
            clear hC b6C cC HC7 b7 e6
            have hl6 : (A ++ [x1]).length ≤ 1000000 := by rw [List.length_append, List.length_singleton]; omega
            go_wp2_with (at_builtin; refine wpList_append_tok rfl (.tmp 61) (.tmp 64) rfl (B := w.heap.size) rfl (unhide HOC) rfl (unhide HCC) (by have h1 := (unhide HBC).size; omega) hl6 ?_)
            generalize (w7.alloc (.cells #[.string (strOf x2)] 9)) = wD at *
            intro l8 w8 o8 g8 wh8
            clear wh8
            have HB8 := hide ((unhide HBC).grown g8 (by have := (unhide HBC).size; omega) (fun b hb => ((unhide HO6).lt b hb).1))
            have HO8 := hide o8
            have k8 := (g8.block wr.heap.size (unhide HSD) (unhide HNE6)).trans (unhide HKD)
            have e8 : w8.cell? ⟨wr.heap.size, 0, none⟩ = some (.int .i64 4) := Lib.cell_of_heap k8 0
            clear k8 g8 o8 e7 HOC HCC HBC HKD HSD hl6
            go_wp2
            go_roundw
            case rel => exact ⟨k + 1, by omega, by go_num, by rw [unhide HST, unhide HTT]; exact unhide HO8, unhide HB8⟩
            case measure => simp [intOf]; omega
          · have HTT : Hid (touchO ⟨5, path, src, val⟩ = [ptrT (shortL (tkOf path)), ptrT (tkOf src)]) := unhide HTP
            have HC := hide (short_walk pv _ w4 (unhide HP4) (unhide LEN).1)
            generalize ptrT (shortL (tkOf path)) = x1 at *
            clear HTP
            go_wp2_with fail
            refine (unhide HC).mono ?_
            rintro e w5 ⟨rfl, b5⟩
            have hC := alloc_b w5 (.cells #[.string (strOf x1)] 9)
            have b4C := below_next b5 hC
            have cC : (w5.alloc (.cells #[.string (strOf x1)] 9)).cell? ⟨w5.heap.size, 0, none⟩ = some (.string (strOf x1)) := Lib.cell_of_heap (heap_alloc_new w5 (.cells #[.string (strOf x1)] 9)) 0
            have HCC := hide cC
            have HOC := hide (own_below (unhide HAL) (below_next (unhide HB4) b4C))
            have HBC := hide (below_next (unhide HB4) b4C)
            have HKC := hide ((b4C.block wr.heap.size (unhide HS4)).trans (unhide HK4))
            have HFC := hide (own_below (unhide HF4) b4C)
            have HSC : Hid (w4.heap.size ≤ (w5.alloc (.cells #[.string (strOf x1)] 9)).heap.size) := b4C.size
            have HS5 : Hid (w4.heap.size ≤ w5.heap.size) := b5.size
            clear hC b4C cC b5 HC e0
            go_wp2_with (at_builtin; refine wpList_append_tok rfl (.tmp 53) (.tmp 56) rfl (B := w.heap.size) rfl (unhide HOC) rfl (unhide HCC) (by have h1 := (unhide HBC).size; omega) (by omega) ?_)
            generalize (w5.alloc (.cells #[.string (strOf x1)] 9)) = wC at *
            intro l6 w6 o6 g6 wh6
            have hne : ∀ b, wr.heap.size ≤ b → ¬ some b = u3.ownBlock := fun b hb e => by have h1 := ((unhide HAL).lt b e.symm).2; omega
            have hzC := unhide HSC
            have hz4 := unhide HS4
            have k6 := (g6.block wr.heap.size (by omega) (hne _ (Nat.le_refl _))).trans (unhide HKC)
            have HB6 := hide ((below_next (unhide HBR) (unhide HBC)).grown g6 (by have := (unhide HBC).size; omega) (fun b hb => ((unhide HAL).lt b hb).1))
            have e6 : w6.cell? ⟨wr.heap.size, 0, none⟩ = some (.int .i64 5) := Lib.cell_of_heap k6 0
            have HO6 := hide o6
            have HNE6 : Hid (¬ some wr.heap.size = l6.ownBlock) := fun e => by
              rcases wh6 with h | h
              · exact hne _ (Nat.le_refl _) (e.trans h)
              · rw [h] at e; injection e with e; have := unhide HS5; omega
            have HF6 := hide (own_keepB (unhide HFC) (fun b hb => g6.block b ((unhide HFC).lt b hb).2 (hne b (by have h1 := ((unhide HFC).lt b hb).1; have h2 := unhide HS3; omega))))
            have HK6 := hide k6
            have HC7 := hide (textO_walk fv _ w6 (unhide HF6) (unhide LEN).2)
            generalize ptrT (tkOf src) = x2 at *
            clear k6 g6 o6 wh6 HOC HCC HBC HKC HFC HSC hzC hz4 hne HF4 HP4 HK4 HB4
            go_wp2_with fail
            refine (unhide HC7).mono ?_
            rintro e w7 ⟨rfl, b7⟩
            have hC := alloc_b w7 (.cells #[.string (strOf x2)] 9)
            have b6C := below_next b7 hC
            have cC : (w7.alloc (.cells #[.string (strOf x2)] 9)).cell? ⟨w7.heap.size, 0, none⟩ = some (.string (strOf x2)) := Lib.cell_of_heap (heap_alloc_new w7 (.cells #[.string (strOf x2)] 9)) 0
            have HCC := hide cC
            have HOC := hide (own_below (unhide HO6) b6C)
            have HBC := hide (below_next (unhide HB6) b6C)
            have e7 : w7.cell? ⟨wr.heap.size, 0, none⟩ = some (.int .i64 5) := (b7.cell (p := ⟨wr.heap.size, 0, none⟩) (World.block_lt_of_cell? _ _ e6)).trans e6
            have HKD := hide ((b6C.block wr.heap.size (World.block_lt_of_cell? _ _ e6)).trans (unhide HK6))
            have HSD : Hid (wr.heap.size < (w7.alloc (.cells #[.string (strOf x2)] 9)).heap.size) := Nat.lt_of_lt_of_le (World.block_lt_of_cell? _ _ e6) b6C.size
            clear hC b6C cC HC7 b7 e6
            have hl6 : (A ++ [x1]).length ≤ 1000000 := by rw [List.length_append, List.length_singleton]; omega
            go_wp2_with (at_builtin; refine wpList_append_tok rfl (.tmp 69) (.tmp 72) rfl (B := w.heap.size) rfl (unhide HOC) rfl (unhide HCC) (by have h1 := (unhide HBC).size; omega) hl6 ?_)
            generalize (w7.alloc (.cells #[.string (strOf x2)] 9)) = wD at *
            intro l8 w8 o8 g8 wh8
            clear wh8
            have HB8 := hide ((unhide HBC).grown g8 (by have := (unhide HBC).size; omega) (fun b hb => ((unhide HO6).lt b hb).1))
            have HO8 := hide o8
            have k8 := (g8.block wr.heap.size (unhide HSD) (unhide HNE6)).trans (unhide HKD)
            have e8 : w8.cell? ⟨wr.heap.size, 0, none⟩ = some (.int .i64 5) := Lib.cell_of_heap k8 0
            clear k8 g8 o8 e7 HOC HCC HBC HKD HSD hl6
            go_wp2
            go_roundw
            case rel => exact ⟨k + 1, by omega, by go_num, by rw [unhide HST, unhide HTT]; exact unhide HO8, unhide HB8⟩
            case measure => simp [intOf]; omega
          · have HTT : Hid (touchO ⟨6, path, src, val⟩ = [ptrT (tkOf path)]) := unhide HTP
            have HC := hide (textO_walk pv _ w4 (unhide HP4) (unhide LEN).1)
            generalize ptrT (tkOf path) = x1 at *
            clear HTP
            go_wp2_with fail
            refine (unhide HC).mono ?_
            rintro e w5 ⟨rfl, b5⟩
            have hC := alloc_b w5 (.cells #[.string (strOf x1)] 9)
            have b4C := below_next b5 hC
            have cC : (w5.alloc (.cells #[.string (strOf x1)] 9)).cell? ⟨w5.heap.size, 0, none⟩ = some (.string (strOf x1)) := Lib.cell_of_heap (heap_alloc_new w5 (.cells #[.string (strOf x1)] 9)) 0
            have HCC := hide cC
            have HOC := hide (own_below (unhide HAL) (below_next (unhide HB4) b4C))
            have HBC := hide (below_next (unhide HB4) b4C)
            have HKC := hide ((b4C.block wr.heap.size (unhide HS4)).trans (unhide HK4))
            have HFC := hide (own_below (unhide HF4) b4C)
            have HSC : Hid (w4.heap.size ≤ (w5.alloc (.cells #[.string (strOf x1)] 9)).heap.size) := b4C.size
            have HS5 : Hid (w4.heap.size ≤ w5.heap.size) := b5.size
            clear hC b4C cC b5 HC e0
            go_wp2_with (at_builtin; refine wpList_append_tok rfl (.tmp 48) (.tmp 51) rfl (B := w.heap.size) rfl (unhide HOC) rfl (unhide HCC) (by have h1 := (unhide HBC).size; omega) (by omega) ?_)
            generalize (w5.alloc (.cells #[.string (strOf x1)] 9)) = wC at *
            intro l6 w6 o6 g6 wh6
            have hne : ∀ b, wr.heap.size ≤ b → ¬ some b = u3.ownBlock := fun b hb e => by have h1 := ((unhide HAL).lt b e.symm).2; omega
            have hzC := unhide HSC
            have hz4 := unhide HS4
            have k6 := (g6.block wr.heap.size (by omega) (hne _ (Nat.le_refl _))).trans (unhide HKC)
            have HB6 := hide ((below_next (unhide HBR) (unhide HBC)).grown g6 (by have := (unhide HBC).size; omega) (fun b hb => ((unhide HAL).lt b hb).1))
            have e6 : w6.cell? ⟨wr.heap.size, 0, none⟩ = some (.int .i64 6) := Lib.cell_of_heap k6 0
            have HO6 := hide o6
            have HNE6 : Hid (¬ some wr.heap.size = l6.ownBlock) := fun e => by
              rcases wh6 with h | h
              · exact hne _ (Nat.le_refl _) (e.trans h)
              · rw [h] at e; injection e with e; have := unhide HS5; omega
            clear k6 g6 o6 wh6 HOC HCC HBC HKC HFC HSC hzC hz4 hne HF4 HP4 HK4 HB4
            go_wp2
            go_roundw
            case rel => exact ⟨k + 1, by omega, by go_num, by rw [unhide HST, unhide HTT]; exact unhide HO6, unhide HB6⟩
            case measure => simp [intOf]; omega
      · have hkn : k = ms.length := by omega
        subst hkn
        rw [List.take_length] at HAL hal
        have HC := hide (once_walk _ _ wr (unhide HAL) (by omega))
        clear ho hb
        go_wp2_with fail
        refine (unhide HC).mono ?_
        rintro e w2 ⟨r, rfl, o2, b2⟩
        have HO2 := hide (own_mono o2 hbz)
        have HB2 := hide (below_next (unhide HBR) b2)
        clear HC o2 b2
        go_wp2
        go_ret
        exact ⟨r, rfl, by rw [unhide HZ]; exact unhide HO2, unhide HB2⟩
end Go.Proofs.YtcjajchfjoffnaaGreatDoor
