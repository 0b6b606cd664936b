import Derived.Test.YtcjajchfjoffnaaGreatDoorBp8
import Derived.Test.YtcjajchfjoffnaaGreatDoorBp7
import Derived.Test.YtcjajchfjoffnaaGreatDoorBp41
import Derived.Test.YtcjajchfjoffnaaGreatDoorBp47
import Derived.Test.YtcjajchfjoffnaaGreatDoorBp48
namespace Go.Proofs.YtcjajchfjoffnaaGreatDoor
open Go.RowKit Go.Sort

/-- What Open answers: the versions, and the code. -/
def openL (s : ByteArray) : List Ver := match readR s with
  | .inl _ => []
  | .inr v => [⟨0, strOf (ct v), []⟩]
def openC (s : ByteArray) : Int := match readR s with
  | .inl c => (c : Int)
  | .inr _ => 0
def OpenP (s : ByteArray) (w : World) (e : Ending) (w' : World) : Prop := ∃ v bl, e = .returned (.tuple #[v, .int .i64 (openC s)]) ∧ OSto w' v (openL s) bl ∧ Fsh w.heap.size bl ∧ Below w.heap.size w w'
/-- What openHead answers. -/
def HeadP (s : ByteArray) (w : World) (e : Ending) (w' : World) : Prop := Below w.heap.size w w' ∧ match readR s with
  | .inl c => e = .returned (.tuple #[.pointer none, .int .i64 (c : Int)])
  | .inr v => ∃ g rt, e = .returned (.tuple #[.pointer (some ⟨g, 0, none⟩), .int .i64 0]) ∧ w'.heap[g]? = some (revB (strOf (ct v)) rt)
set_option maxRecDepth 100000 in
set_option maxHeartbeats 1600000 in
theorem openHead_walk (s : ByteArray) (w : World) (hT : TabsB w.heap.size w) (hE : ErrB w.heap.size w) (hP : PowB w.heap.size w) (hz : s.size ≤ 9223372036854775807) :
    Calls Tryz.prog 35 #[.string s] w (HeadP s w) := by
  have HF := hide (readText_walk s w hT hE hP hz)
  have HP := hide hP
  clear hT hE hP
  unfold HeadP
  cases hr : readR s with
  | inl c =>
    obtain ⟨c1, c2⟩ := read_code hr
    rw [hr] at HF
    have t1 : ((c : Int) == 0) = false := by simp; omega
    have t2 : ((c : Int) != 0) = true := by simp; omega
    have t3 : ¬ (c : Int) = 0 := by omega
    have t4 : ¬ c = 0 := by omega
    clear hr
    go_enter Tryz.func35, Tryz.ntmps35
    go_wp2_with fail
    refine (unhide HF).mono ?_
    rintro e w1 ⟨b1, rfl⟩
    clear HF
    go_wp2
    go_ret2
    exact ⟨b1, rfl⟩
  | inr v =>
    obtain ⟨hs, hd, htw, _, _, _⟩ := read_facts hr
    obtain ⟨hok, hcn, hln⟩ := doc_facts hd
    rw [hr] at HF
    clear hr hd
    go_enter Tryz.func35, Tryz.ntmps35
    go_wp2_with fail
    refine (unhide HF).mono ?_
    rintro e w1 ⟨b1, t, p, rfl, rep⟩
    have HC := hide (canonText_walk v hok htw t p w1 _ rep (fun k hk => hk.2) (((unhide HP).next b1 (Nat.le_refl _)).more b1.size) (by omega))
    clear HF rep hok htw
    obtain ⟨cv, hcv⟩ : ∃ cv, strOf (ct v) = cv := ⟨_, rfl⟩
    rw [hcv] at HC
    have HCV := hide hcv
    clear hcv
    go_wp2_with fail
    refine (unhide HC).mono ?_
    rintro e w2 ⟨rfl, b2⟩
    have B2 := below_next b1 b2
    clear HC
    go_wp2
    go_ret2
    exact ⟨below_next B2 (alloc_b _ _), _, _, rfl, by rw [unhide HCV]; exact heap_alloc_new _ _⟩
theorem TabsB.more {B B' : Nat} {w : World} (h : TabsB B w) (hB : B ≤ B') : TabsB B' w := by
  obtain ⟨w0, h1, h2⟩ := h
  exact ⟨w0, Nat.le_trans h1 hB, h2⟩
theorem ErrB.more {B B' : Nat} {w : World} (h : ErrB B w) (hB : B ≤ B') : ErrB B' w := ⟨Nat.lt_of_lt_of_le h.1 hB, h.2⟩
theorem tabsUp {w w' : World} (h : TabsB w.heap.size w) (hb : Below w.heap.size w w') : TabsB w'.heap.size w' := TabsB.more (TabsB.next h hb (Nat.le_refl _)) hb.size
theorem errUp {w w' : World} (h : ErrB w.heap.size w) (hb : Below w.heap.size w w') : ErrB w'.heap.size w' := ErrB.more (ErrB.next h hb (Nat.le_refl _)) hb.size
theorem powUp {w w' : World} (h : PowB w.heap.size w) (hb : Below w.heap.size w w') : PowB w'.heap.size w' := (h.next hb (Nat.le_refl _)).more hb.size
/-- A version that is new: its row of pointers is empty. -/
def verW (w : World) (d : ByteArray) : World := (w.alloc (.cells #[] 9)).alloc (.cells #[.int .i64 0, .string d, .slice (some ⟨w.heap.size, 0, none⟩) 0 0] 58)
theorem ver_new (w : World) (d : ByteArray) : ORow verE (verW w d) (.slice (some ⟨w.heap.size + 1, 0, none⟩) 1 1) [⟨0, d, []⟩] [w.heap.size + 1, w.heap.size] := by
  have hz : (w.alloc (.cells #[] 9)).heap.size = w.heap.size + 1 := by simp
  have k0 : (verW w d).heap[w.heap.size]? = some (.cells #[] 9 (0, 0)) := ((alloc_b (w.alloc (.cells #[] 9)) _).block w.heap.size (by omega)).trans (heap_alloc_new w _)
  have k1 : (verW w d).heap[w.heap.size + 1]? = some (.cells #[.int .i64 0, .string d, .slice (some ⟨w.heap.size, 0, none⟩) 0 0] 58 (0, 0)) := by
    have := heap_alloc_new (w.alloc (.cells #[] 9)) (.cells #[.int .i64 0, .string d, .slice (some ⟨w.heap.size, 0, none⟩) 0 0] 58)
    rw [hz] at this
    exact this
  have o0 : OStr (verW w d) (.slice (some ⟨w.heap.size, 0, none⟩) 0 0) [] [w.heap.size] := ⟨[], rfl, fun _ _ _ h => by simp at h, ⟨rfl, .inr ⟨_, 0, #[], rfl, Nat.zero_le _, k0, Nat.le_refl _, Nat.zero_le _, rfl, rfl⟩⟩, rfl⟩
  refine ⟨[([.int .i64 0, .string d, .slice (some ⟨w.heap.size, 0, none⟩) 0 0], [w.heap.size])], rfl, fun j p y hp hy => ?_, ⟨rfl, .inr ⟨_, 1, _, rfl, Nat.zero_le _, k1, Nat.le_refl _, by decide, rfl, rfl⟩⟩, rfl⟩
  cases j with
  | zero =>
    simp at hp hy
    subst hp; subst hy
    exact ⟨_, rfl, o0⟩
  | succ j => simp at hp
theorem stoA (w : World) : Below w.heap.size w (w.alloc (.cells #[.slice none 0 0] 24)) := alloc_b _ _
set_option maxRecDepth 100000 in
set_option maxHeartbeats 1600000 in
theorem implOpen_walk (s : ByteArray) (w : World) (hT : TabsB w.heap.size w) (hE : ErrB w.heap.size w) (hP : PowB w.heap.size w) (hz : s.size ≤ 9223372036854775807) :
    Calls Tryz.prog 10 #[.string s] w (OpenP s w) := by
  have hA := stoA w
  have kA := heap_alloc_new w (.cells #[.slice none 0 0] 24)
  have zA : (w.alloc (.cells #[.slice none 0 0] 24)).heap.size = w.heap.size + 1 := by simp
  have HF := hide (openHead_walk s (w.alloc (.cells #[.slice none 0 0] 24)) (tabsUp hT hA) (errUp hE hA) (powUp hP hA) hz)
  clear hT hE hP
  unfold OpenP openC openL
  unfold HeadP at HF
  cases hr : readR s with
  | inl c =>
    rw [hr] at HF
    clear hr
    have HA := hide hA
    have HKA := hide kA
    clear hA kA
    go_enter Tryz.func10, Tryz.ntmps10
    go_wp2_with fail
    generalize (w.alloc (.cells #[.slice none 0 0] 24)) = wA at *
    refine (unhide HF).mono ?_
    rintro e w1 ⟨b1, rfl⟩
    have HT := hide (tell0_walk w1)
    have HB1 := hide b1
    clear HF b1
    go_wp2_with fail
    refine (unhide HT).mono ?_
    rintro e w2 ⟨p, bl, rfl, o2, f2, b2⟩
    obtain ⟨xa, xc, rfl, _, _⟩ := o2.form
    have hz1 := (unhide HB1).size
    have B12 := below_next (unhide HB1) b2
    have k2 := (B12.block w.heap.size (by omega)).trans (unhide HKA)
    have c0 : w2.cell? ⟨w.heap.size, 0, none⟩ = some (.slice none 0 0) := Lib.cell_of_heap k2 0
    have f0 := Lib.frozen_of_heap k2
    have HO := hide o2
    have HFF := hide f2
    have HB2 := hide B12
    have HK2 := hide k2
    clear HT o2 f2 b2 B12 k2
    go_wp2
    refine bodyPost_ret (results_cell_tmp rfl _ _ w.heap.size 24 #[_] (0, 0) _ _ rfl rfl (putN_full (unhide HK2) [_] rfl) Tryz.underlying24 rfl (by kernel_rfl)) rfl ?_
    exact ⟨_, bl, rfl, ⟨_, rfl, (unhide HO).putN ((unhide HFF).not (by omega)) [_] 0⟩, (unhide HFF).mono (by omega), putN_below (below_next (unhide HA) (unhide HB2)) (Nat.le_refl _) [_] 0⟩
  | inr v =>
    rw [hr] at HF
    clear hr
    have HA := hide hA
    have HKA := hide kA
    clear hA kA
    go_enter Tryz.func10, Tryz.ntmps10
    go_wp2_with fail
    generalize (w.alloc (.cells #[.slice none 0 0] 24)) = wA at *
    refine (unhide HF).mono ?_
    rintro e w1 ⟨b1, g, rt, rfl, hg⟩
    have HT := hide (tell1_walk g _ rt w1 hg)
    have HB1 := hide b1
    clear HF b1 hg
    go_wp2_with fail
    refine (unhide HT).mono ?_
    rintro e w2 ⟨p, bl, rfl, o2, f2, b2⟩
    obtain ⟨xa, xc, rfl, _, _⟩ := o2.form
    have hz1 := (unhide HB1).size
    have B12 := below_next (unhide HB1) b2
    have k2 := (B12.block w.heap.size (by omega)).trans (unhide HKA)
    have c0 : w2.cell? ⟨w.heap.size, 0, none⟩ = some (.slice none 0 0) := Lib.cell_of_heap k2 0
    have f0 := Lib.frozen_of_heap k2
    have HO := hide o2
    have HFF := hide f2
    have HB2 := hide B12
    have HK2 := hide k2
    clear HT o2 f2 b2 B12 k2
    go_wp2
    refine bodyPost_ret (results_cell_tmp rfl _ _ w.heap.size 24 #[_] (0, 0) _ _ rfl rfl (putN_full (unhide HK2) [_] rfl) Tryz.underlying24 rfl (by kernel_rfl)) rfl ?_
    exact ⟨_, bl, rfl, ⟨_, rfl, (unhide HO).putN ((unhide HFF).not (by omega)) [_] 0⟩, (unhide HFF).mono (by omega), putN_below (below_next (unhide HA) (unhide HB2)) (Nat.le_refl _) [_] 0⟩
set_option maxRecDepth 100000 in
set_option maxHeartbeats 1600000 in
theorem specOpen_walk (s : ByteArray) (w : World) (hz : s.size ≤ 1048576) :
    Calls Tryz.prog 9 #[.string s] w (OpenP s w) := by
  have hA := stoA w
  have kA := heap_alloc_new w (.cells #[.slice none 0 0] 24)
  have zA : (w.alloc (.cells #[.slice none 0 0] 24)).heap.size = w.heap.size + 1 := by simp
  have HC := hide (specCanon_walk s (w.alloc (.cells #[.slice none 0 0] 24)) hz)
  have HA := hide hA
  have HKA := hide kA
  clear hA kA
  unfold OpenP openC openL
  unfold canonV at HC
  cases hr : readR s with
  | inl c =>
    obtain ⟨c1, c2⟩ := read_code hr
    rw [hr] at HC
    have t1 : ((c : Int) == 0) = false := by simp; omega
    have t2 : ((c : Int) != 0) = true := by simp; omega
    have t3 : ¬ (c : Int) = 0 := by omega
    have t4 : ¬ c = 0 := by omega
    clear hr
    go_enter Tryz.func9, Tryz.ntmps9
    go_wp2_with fail
    generalize (w.alloc (.cells #[.slice none 0 0] 24)) = wA at *
    refine (unhide HC).mono ?_
    rintro e w2 ⟨rfl, b1⟩
    have k2 := (b1.block w.heap.size (by omega)).trans (unhide HKA)
    have c0 : w2.cell? ⟨w.heap.size, 0, none⟩ = some (.slice none 0 0) := Lib.cell_of_heap k2 0
    have f0 := Lib.frozen_of_heap k2
    have HB2 := hide b1
    have HK2 := hide k2
    clear HC b1 k2
    go_wp2
    refine bodyPost_ret (results_cell_tmp rfl _ _ w.heap.size 24 #[_] (0, 0) _ _ rfl rfl (putN_full (unhide HK2) [_] rfl) Tryz.underlying24 rfl (by kernel_rfl)) rfl ?_
    exact ⟨_, [], rfl, ⟨_, rfl, ORow.nil _ _⟩, Fsh.nil _, putN_below (below_next (unhide HA) (unhide HB2)) (Nat.le_refl _) [_] 0⟩
  | inr v =>
    rw [hr] at HC
    clear hr
    have HC' : Hid (Calls Tryz.prog 34 #[.string s] (w.alloc (.cells #[.slice none 0 0] 24)) fun e w' => e = .returned (.tuple #[.string (strOf (ct v)), .int .i64 0]) ∧ Below (w.alloc (.cells #[.slice none 0 0] 24)).heap.size (w.alloc (.cells #[.slice none 0 0] 24)) w') := unhide HC
    clear HC
    go_enter Tryz.func9, Tryz.ntmps9
    go_wp2_with fail
    generalize (w.alloc (.cells #[.slice none 0 0] 24)) = wA at *
    refine (unhide HC').mono ?_
    rintro e w2 ⟨rfl, b1⟩
    have b4 : Below w2.heap.size w2 (verW w2 (strOf (ct v))) := below_next (alloc_b w2 _) (alloc_b _ _)
    have hz2 := b1.size
    have k4 := (b4.block w.heap.size (by omega)).trans ((b1.block w.heap.size (by omega)).trans (unhide HKA))
    have c0 : (verW w2 (strOf (ct v))).cell? ⟨w.heap.size, 0, none⟩ = some (.slice none 0 0) := Lib.cell_of_heap k4 0
    have f0 : (verW w2 (strOf (ct v))).frozen? ⟨w.heap.size, 0, none⟩ = false := Lib.frozen_of_heap k4 0
    have HO := hide (ver_new w2 (strOf (ct v)))
    have HB2 := hide (below_next b1 b4)
    have HK2 := hide k4
    have HFN : Hid (w.heap.size ∉ [w2.heap.size + 1, w2.heap.size]) := by show ¬ _; simp; omega
    have HFS : Hid (Fsh w.heap.size [w2.heap.size + 1, w2.heap.size]) := ⟨by simp, fun b hb => by simp at hb; omega⟩
    unfold verW at *
    clear HC' b1 b4 k4
    go_wp2
    refine bodyPost_ret (results_cell_tmp rfl _ _ w.heap.size 24 #[_] (0, 0) _ _ rfl rfl (putN_full (unhide HK2) [_] rfl) Tryz.underlying24 rfl (by kernel_rfl)) rfl ?_
    exact ⟨_, _, rfl, ⟨_, rfl, (unhide HO).putN (unhide HFN) [_] 0⟩, unhide HFS, putN_below (below_next (unhide HA) (unhide HB2)) (Nat.le_refl _) [_] 0⟩
end Go.Proofs.YtcjajchfjoffnaaGreatDoor

namespace Go.Proofs.YtcjajchfjoffnaaGreatDoor
open Go.RowKit

theorem OSto.fr {w w' : World} {v : Value} {h : List Ver} {bl fl : List Nat} (ho : OSto w v h bl) (f : Fr fl w w') (hd : ∀ b ∈ bl, b ∉ fl) : OSto w' v h bl := by
  obtain ⟨p, rfl, o⟩ := ho
  exact ⟨p, rfl, o.keep (f.kp o.lt hd)⟩
theorem OSto.lt {w : World} {v : Value} {h : List Ver} {bl : List Nat} (ho : OSto w v h bl) : ∀ b ∈ bl, b < w.heap.size := by
  obtain ⟨p, rfl, o⟩ := ho
  exact o.lt
theorem open_small (s : ByteArray) : szVers (openL s) ≤ 20000000 ∧ cntR cntVer (openL s) ≤ 2 := by
  unfold openL
  cases hr : readR s with
  | inl c => simp [szVers, cntR]
  | inr v =>
    obtain ⟨hs, hd, _⟩ := read_facts hr
    have := (doc_facts hd).2.2
    simp [szVers, cntR, szVer, szStr, tot, cntVer, strOf_size]
    omega
set_option maxRecDepth 100000 in
set_option maxHeartbeats 4000000 in
theorem openLaw_in (s : ByteArray) (w : World) (hT : TabsB w.heap.size w) (hE : ErrB w.heap.size w) (hP : PowB w.heap.size w) :
    Calls Tryz.prog 3 #[.string s] w fun e w' => e = .returned (.bool true) ∧ Below w.heap.size w w' := by
  by_cases h0 : 1048576 < s.size
  · have tl : (1048576 : Int) < (s.size : Int) := by omega
    go_enter Tryz.func3, Tryz.ntmps3
    go_wp2
    go_ret
    exact ⟨rfl, Below.refl _ _⟩
  · have tl : ¬ (1048576 : Int) < (s.size : Int) := by omega
    have HS := hide (specOpen_walk s w (by omega))
    have HI : Hid (∀ wx, Below w.heap.size w wx → Calls Tryz.prog 10 #[.string s] wx (OpenP s wx)) := fun wx hx => implOpen_walk s wx (tabsUp hT hx) (errUp hE hx) (powUp hP hx) (by omega)
    obtain ⟨hs1, hs2⟩ := open_small s
    unfold OpenP at HS HI
    generalize openL s = L at *
    generalize openC s = C at *
    clear hT hE hP h0
    go_enter Tryz.func3, Tryz.ntmps3
    go_wp2_with fail
    refine (unhide HS).mono ?_
    rintro e w1 ⟨v1, bw, rfl, o1, f1, b1⟩
    obtain ⟨p1, rfl, o1'⟩ := o1
    obtain ⟨a1, d1, rfl, _, _⟩ := o1'.form
    have hA1 := alloc_b w1 (.cells #[.slice a1 L.length d1] 24)
    have O2 : Hid (OSto (w1.alloc (.cells #[.slice a1 L.length d1] 24)) (.agg #[.slice a1 L.length d1]) L bw) := OSto.below ⟨_, rfl, o1'⟩ hA1
    have LW := hide (heap_alloc_new w1 (.cells #[.slice a1 L.length d1] 24))
    have B2 := hide (below_next b1 hA1)
    have z2 : (w1.alloc (.cells #[.slice a1 L.length d1] 24)).heap.size = w1.heap.size + 1 := by simp
    have HWL := hide o1'.lt
    have hz1 := b1.size
    have HI2 := hide (unhide HI _ (unhide B2))
    clear HS o1' f1 b1 hA1
    go_wp2_with fail
    generalize (w1.alloc (.cells #[.slice a1 L.length d1] 24)) = w2 at *
    generalize w1.heap.size = W0 at *
    refine (unhide HI2).mono ?_
    rintro e w3 ⟨v3, bg, rfl, o3, f3, b3⟩
    obtain ⟨p3, rfl, o3'⟩ := o3
    obtain ⟨a3, d3, rfl, _, _⟩ := o3'.form
    have hA3 := alloc_b w3 (.cells #[.slice a3 L.length d3] 24)
    have hB34 := below_next b3 hA3
    have G4 : Hid (OSto (w3.alloc (.cells #[.slice a3 L.length d3] 24)) (.agg #[.slice a3 L.length d3]) L bg) := OSto.below ⟨_, rfl, o3'⟩ hA3
    have LG := hide (heap_alloc_new w3 (.cells #[.slice a3 L.length d3] 24))
    have B4 := hide (below_next (unhide B2) hB34)
    have z4 : (w3.alloc (.cells #[.slice a3 L.length d3] 24)).heap.size = w3.heap.size + 1 := by simp
    have HGL := hide o3'.lt
    have HGF := hide f3
    have hz3 := b3.size
    have O4 := hide ((unhide O2).below hB34)
    have lw4 := (hB34.block W0 (by omega)).trans (unhide LW)
    have cw0 : (w3.alloc (.cells #[.slice a3 L.length d3] 24)).cell? ⟨W0, 0, none⟩ = some (.slice a1 L.length d1) := Lib.cell_of_heap lw4 0
    have LW4 := hide lw4
    have HE := hide (eqSto_walk _ _ L _ _ _ (unhide G4) (unhide O4))
    clear HI2 o3' f3 b3 hA3 hB34 O2 LW B2 lw4
    go_wp2_with fail
    generalize (w3.alloc (.cells #[.slice a3 L.length d3] 24)) = w4 at *
    generalize w3.heap.size = G0 at *
    refine (unhide HE).mono ?_
    rintro e w5 ⟨rfl, b5⟩
    have hz5 := b5.size
    have G5 := (unhide G4).below b5
    have O5 := hide ((unhide O4).below b5)
    have lg5 := (b5.block G0 (by omega)).trans (unhide LG)
    have cg0 : w5.cell? ⟨G0, 0, none⟩ = some (.slice a3 L.length d3) := Lib.cell_of_heap lg5 0
    have LG5 := hide lg5
    have LW5 := hide ((b5.block W0 (by omega)).trans (unhide LW4))
    have B5 := hide (below_next (unhide B4) b5)
    have HM := hide (markSto_walk _ L bg w5 G5 (unhide HGF).1 (by omega) 1 (by omega))
    clear HE b5 G5 lg5 G4 O4 LG LW4 B4 cw0
    go_wp2_with fail
    refine (unhide HM).mono ?_
    rintro e w6 ⟨rfl, g6, fr6⟩
    have hz6 := fr6.size
    have O6 := hide ((unhide O5).fr fr6 fun b hb hm => by have := unhide HWL b hb; have := (unhide HGF).2 b hm; omega)
    have lg6 := (fr6.block G0 (by omega) fun hm => by have := unhide HGL _ hm; omega).trans (unhide LG5)
    have LW6 := hide ((fr6.block W0 (by omega) fun hm => by have := (unhide HGF).2 _ hm; omega).trans (unhide LW5))
    have B6 := hide ((unhide B5).trans (fr6.below (fun b hb => by have := (unhide HGF).2 b hb; omega) (by omega)))
    have cg6 : w6.cell? ⟨G0, 0, none⟩ = some (.slice a3 L.length d3) := Lib.cell_of_heap lg6 0
    have LG6 := hide lg6
    have G6 := hide g6
    have HH := hide (heldSto_walk _ L bg w6 1 g6 (by omega) (by omega))
    have HHELD : Hid (∀ wi bl, OSto wi (.agg #[.slice a3 L.length d3]) (mkRow mkVer cntVer 1 L) bl → Calls Tryz.prog 13 #[.agg #[.slice a3 L.length d3], .int .i64 (1 : Nat)] wi fun e w' => e = .returned (.int .i64 (1 + cntR cntVer L : Nat)) ∧ Below wi.heap.size wi w') := fun wi bl ho => heldSto_walk _ L bl wi 1 ho (by omega) (by omega)
    have hK : 1 + cntR cntVer L ≤ 10 := by omega
    generalize 1 + cntR cntVer L = K at *
    clear HM fr6 g6 lg6 O5 LG5 LW5 B5 cg0
    go_wp2_with fail
    refine (unhide HH).mono ?_
    rintro e w7 ⟨rfl, b7⟩
    have hz7 := b7.size
    have G7 := hide ((unhide G6).below b7)
    have O7 := hide ((unhide O6).below b7)
    have LG7 := hide ((b7.block G0 (by omega)).trans (unhide LG6))
    have LW7 := hide ((b7.block W0 (by omega)).trans (unhide LW6))
    have B7 := hide (below_next (unhide B6) b7)
    have HI8 := hide (unhide HI _ (unhide B7))
    clear HH b7 G6 O6 LG6 LW6 B6 cg6
    go_wp2_with fail
    refine (unhide HI8).mono ?_
    rintro e w8 ⟨v8, bh, rfl, o8, f8, b8⟩
    obtain ⟨p8, rfl, o8'⟩ := o8
    obtain ⟨a8, d8, rfl, _, _⟩ := o8'.form
    have hA8 := alloc_b w8 (.cells #[.slice a8 L.length d8] 24)
    have hB89 := below_next b8 hA8
    have H9 : Hid (OSto (w8.alloc (.cells #[.slice a8 L.length d8] 24)) (.agg #[.slice a8 L.length d8]) L bh) := OSto.below ⟨_, rfl, o8'⟩ hA8
    have hz8 := b8.size
    have z9 : (w8.alloc (.cells #[.slice a8 L.length d8] 24)).heap.size = w8.heap.size + 1 := by simp
    have G9 := hide ((unhide G7).below hB89)
    have O9 := hide ((unhide O7).below hB89)
    have LG9 := hide ((hB89.block G0 (by omega)).trans (unhide LG7))
    have lw9 := (hB89.block W0 (by omega)).trans (unhide LW7)
    have cw9 : (w8.alloc (.cells #[.slice a8 L.length d8] 24)).cell? ⟨W0, 0, none⟩ = some (.slice a1 L.length d1) := Lib.cell_of_heap lw9 0
    have B9 := hide (below_next (unhide B7) hB89)
    have HE9 := hide (eqSto_walk _ _ L _ _ _ (unhide H9) (unhide O9))
    clear HI8 o8' f8 b8 hA8 hB89 G7 O7 LG7 LW7 B7 lw9 HI
    go_wp2_with fail
    generalize (w8.alloc (.cells #[.slice a8 L.length d8] 24)) = w9 at *
    refine (unhide HE9).mono ?_
    rintro e w10 ⟨rfl, b10⟩
    have lg10 := (b10.block G0 (by omega)).trans (unhide LG9)
    have cg10 : w10.cell? ⟨G0, 0, none⟩ = some (.slice a3 L.length d3) := Lib.cell_of_heap lg10 0
    have HH10 := hide (unhide HHELD w10 bg ((unhide G9).below b10))
    have B10 := hide (below_next (unhide B9) b10)
    clear HE9 b10 lg10 G9 O9 LG9 B9 H9 HHELD cw9
    go_wp2_with fail
    refine (unhide HH10).mono ?_
    rintro e w11 ⟨rfl, b11⟩
    have B11 := hide (below_next (unhide B10) b11)
    clear HH10 b11 B10 cg10
    go_wp2
    go_ret
    exact ⟨rfl, unhide B11⟩
/-- What the row's condition says of the tables. -/
def VarsOk (w : World) : Prop := Tabs w ∧ ErrB w.heap.size w ∧ PowB w.heap.size w
theorem tables_of {W : World} (hL : laidMetH Tryz.prog Rows.fnExactOpenRow.laid W) : VarsOk W := by
  have h : laidMet Tryz.prog laidAll W := hL
  exact ⟨tabs_at h, err_at h, pow_at h⟩
theorem openLaw_walk (s : ByteArray) (w : World) (h : VarsOk w) :
    Calls Tryz.prog 3 #[.string s] w fun e w' => e = .returned (.bool true) ∧ Below w.heap.size w w' := openLaw_in s w (TabsB.of h.1) h.2.1 h.2.2
end Go.Proofs.YtcjajchfjoffnaaGreatDoor
