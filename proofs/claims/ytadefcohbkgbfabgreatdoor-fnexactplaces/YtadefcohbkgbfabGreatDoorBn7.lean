import Derived.Test.YtadefcohbkgbfabGreatDoorBn6
import Derived.Test.YtadefcohbkgbfabGreatDoorBn5
import Derived.Handy
import Derived.Deep.LoopGhost
namespace Go.Proofs.YtadefcohbkgbfabGreatDoor
open Go.RowKit

theorem ex_toList (s : ByteArray) (i j : Nat) : (s.extract i j).toList = cutB s i j := by
  rw [ByteArray.toList_eq, Lib.extract_data]; rfl
theorem strOf_cut (s : ByteArray) (i j : Nat) : s.extract i j = strOf (cutB s i j) := by
  have h : (s.extract i j).data.toList = cutB s i j := by rw [Lib.extract_data]; rfl
  rw [← h]
  cases s.extract i j; simp [strOf]
theorem cut_tail (c : UInt8) (r : List UInt8) : cutB (strOf (c :: r)) 1 (r.length + 1) = r := by
  unfold cutB; rw [strOf_toList]; simp

set_option maxHeartbeats 800000 in
theorem tooBig_walk (l : List UInt8) (w : World) (h0 : l ≠ []) (hl : l.length ≤ 1048576) :
    Calls Tryz.prog 80 #[.string (strOf l)] w fun e w' => e = .returned (.bool (tooBig l)) ∧ w = w' := by
  obtain ⟨c, r, rfl⟩ : ∃ c r, l = c :: r := by cases l with | nil => exact absurd rfl h0 | cons c r => exact ⟨c, r, rfl⟩
  have hz : (strOf (c :: r)).size = r.length + 1 := by rw [strOf_size]; rfl
  have hpos : 0 < (strOf (c :: r)).size := by omega
  have hc : (strOf (c :: r))[0].toNat = c.toNat := rfl
  by_cases h45 : c = 45
  · subst h45
    have HT : Hid (tooBig (45 :: r) = over r lim1) := by show _ = _; rw [tooBig, if_pos rfl]
    have HE : Hid (((strOf (45 :: r)).extract 1 (r.length + 1)).toList = r) := by show _ = _; rw [ex_toList, cut_tail]
    have t1 : ((strOf (45 :: r))[0].toNat : Int) = 45 := by rw [hc]; rfl
    by_cases h19 : r.length = 19
    · have t2 : ((r.length : Int) != 19) = false := by rw [bne_eq_false_iff_eq]; omega
      have HT2 : Hid (tooBig (45 :: r) = (!Op.bytesLess r lim1 && !(r == lim1))) := by show _ = _; rw [unhide HT]; unfold over; rw [if_neg (by omega)]
      clear h19 hc h0
      go_enter Tryz.func80, Tryz.ntmps80
      go_wp2
      go_ret
      refine ⟨?_, rfl⟩
      rw [unhide HE, unhide HT2]; rfl
    · have t2 : ((r.length : Int) != 19) = true := by rw [bne_iff_ne]; omega
      have HT2 : Hid (tooBig (45 :: r) = decide (19 < (r.length : Int))) := by
        show _ = _; rw [unhide HT]; unfold over; rw [if_pos h19]; simp; omega
      clear h19 hc h0
      go_enter Tryz.func80, Tryz.ntmps80
      go_wp2
      go_ret
      refine ⟨?_, rfl⟩
      rw [unhide HT2]; rfl
  · have HT : Hid (tooBig (c :: r) = over (c :: r) lim0) := by show _ = _; rw [tooBig, if_neg h45]
    have HE : Hid ((strOf (c :: r)).toList = c :: r) := by show _ = _; rw [ByteArray.toList_eq, strOf_toList]
    have t1 : (((strOf (c :: r))[0].toNat : Int) == 45) = false := by
      rw [beq_eq_false_iff_ne, hc]
      intro e
      exact h45 (UInt8.toNat_inj.1 (by show c.toNat = 45; omega))
    by_cases h19 : r.length = 18
    · have t2 : ((r.length + 1 : Int) != 19) = false := by rw [bne_eq_false_iff_eq]; omega
      have HT2 : Hid (tooBig (c :: r) = (!Op.bytesLess (c :: r) lim0 && !((c :: r) == lim0))) := by show _ = _; rw [unhide HT]; unfold over; rw [if_neg (by simp; omega)]
      clear h19 hc h0
      go_enter Tryz.func80, Tryz.ntmps80
      go_wp2
      go_ret
      refine ⟨?_, rfl⟩
      rw [unhide HE, unhide HT2]; rfl
    · have t2 : ((r.length + 1 : Int) != 19) = true := by rw [bne_iff_ne]; omega
      have HT2 : Hid (tooBig (c :: r) = decide (19 < (r.length + 1 : Int))) := by
        show _ = _; rw [unhide HT]; unfold over; rw [if_pos (by simp; omega)]; simp; omega
      clear h19 hc h0
      go_enter Tryz.func80, Tryz.ntmps80
      go_wp2
      go_ret
      refine ⟨?_, rfl⟩
      rw [unhide HT2]; rfl
end Go.Proofs.YtadefcohbkgbfabGreatDoor


namespace Go.Proofs.YtadefcohbkgbfabGreatDoor
open Go.RowKit

/-- A number, or -1. -/
def optI (o : Option Nat) : Int := o.elim (-1) fun n => (n : Int)

set_option maxHeartbeats 800000 in
theorem l1Hex_walk (b : Nat) (hb : b < 256) (w : World) :
    Calls Tryz.prog 106 #[.int .u8 b] w fun e w' => w = w' ∧ e = .returned (.int .i64 (optI (hx b))) := by
  by_cases h1 : 48 ≤ b ∧ b ≤ 57
  · have HH : Hid (hx b = some (b - 48)) := by show _ = _; unfold hx; rw [if_pos h1]
    have a1 : (48 : Int) ≤ (b : Int) := by omega
    have a2 : (b : Int) ≤ 57 := by omega
    clear h1
    go_enter Tryz.func106, Tryz.ntmps106
    go_wp2
    go_ret
    refine ⟨rfl, ?_⟩
    rw [unhide HH]
    exact ret_int (show _ = ((b - 48 : Nat) : Int) by go_num)
  · by_cases h2 : 97 ≤ b ∧ b ≤ 102
    · have HH : Hid (hx b = some (b - 87)) := by show _ = _; unfold hx; rw [if_neg h1, if_pos h2]
      have a1 : (97 : Int) ≤ (b : Int) := by omega
      have a2 : (b : Int) ≤ 102 := by omega
      clear h1 h2
      go_enter Tryz.func106, Tryz.ntmps106
      go_wp2
      go_ret
      refine ⟨rfl, ?_⟩
      rw [unhide HH]
      exact ret_int (show _ = ((b - 87 : Nat) : Int) by go_num)
    · by_cases h3 : 65 ≤ b ∧ b ≤ 70
      · have HH : Hid (hx b = some (b - 55)) := by show _ = _; unfold hx; rw [if_neg h1, if_neg h2, if_pos h3]
        have a1 : (65 : Int) ≤ (b : Int) := by omega
        have a2 : (b : Int) ≤ 70 := by omega
        clear h1 h2 h3
        go_enter Tryz.func106, Tryz.ntmps106
        go_wp2
        go_ret
        refine ⟨rfl, ?_⟩
        rw [unhide HH]
        exact ret_int (show _ = ((b - 55 : Nat) : Int) by go_num)
      · have HH : Hid (hx b = none) := by show _ = _; unfold hx; rw [if_neg h1, if_neg h2, if_neg h3]
        rcases (show b < 48 ∨ (57 < b ∧ b < 65) ∨ (70 < b ∧ b < 97) ∨ 102 < b from by omega) with g | g | g | g
        · have a0 : (b : Int) < 48 := by omega
          clear h1 h2 h3 g
          go_enter Tryz.func106, Tryz.ntmps106
          go_wp2
          go_ret
          exact ⟨rfl, by rw [unhide HH]; rfl⟩
        · have a0 : (57 : Int) < (b : Int) := by omega
          have a1 : (b : Int) < 65 := by omega
          clear h1 h2 h3 g
          go_enter Tryz.func106, Tryz.ntmps106
          go_wp2
          go_ret
          exact ⟨rfl, by rw [unhide HH]; rfl⟩
        · have a0 : (70 : Int) < (b : Int) := by omega
          have a1 : (b : Int) < 97 := by omega
          clear h1 h2 h3 g
          go_enter Tryz.func106, Tryz.ntmps106
          go_wp2
          go_ret
          exact ⟨rfl, by rw [unhide HH]; rfl⟩
        · have a0 : (102 : Int) < (b : Int) := by omega
          clear h1 h2 h3 g
          go_enter Tryz.func106, Tryz.ntmps106
          go_wp2
          go_ret
          exact ⟨rfl, by rw [unhide HH]; rfl⟩

def simRel (c : Nat) (k : Value) : Prop := ∃ j : Nat, j ≤ 8 ∧ k = .int .i64 j ∧ (0 < j → c ≠ 34) ∧ (1 < j → c ≠ 92) ∧ (2 < j → c ≠ 47) ∧ (3 < j → c ≠ 98) ∧ (4 < j → c ≠ 102) ∧ (5 < j → c ≠ 110) ∧ (6 < j → c ≠ 114) ∧ (7 < j → c ≠ 116)
abbrev simW (w : World) : World := w.alloc (.cells #[.int .u8 34, .int .u8 92, .int .u8 47, .int .u8 8, .int .u8 12, .int .u8 10, .int .u8 13, .int .u8 9] 5)

set_option maxHeartbeats 4000000 in
set_option maxRecDepth 100000 in
theorem l1Simple_walk (c : Nat) (hc : c < 256) (w : World) :
    Calls Tryz.prog 95 #[.int .u8 c] w fun e w' => e = .returned (.int .i64 (optI (smp c))) ∧ Below w.heap.size w w' := by
  go_enter Tryz.func95, Tryz.ntmps95
  go_wp2
  go_loopw [5] (fun k wr => simRel c k ∧ simW w = wr) (fun k _ => 8 - (intOf k).toNat)
  case atStart => exact ⟨⟨0, by omega, rfl, by omega, by omega, by omega, by omega, by omega, by omega, by omega, by omega⟩, rfl⟩
  case round =>
    obtain ⟨⟨j, hj, rfl, n0, n1, n2, n3, n4, n5, n6, n7⟩, rfl⟩ := hrel
    have HN : Hid ((0 < j → c ≠ 34) ∧ (1 < j → c ≠ 92) ∧ (2 < j → c ≠ 47) ∧ (3 < j → c ≠ 98) ∧ (4 < j → c ≠ 102) ∧ (5 < j → c ≠ 110) ∧ (6 < j → c ≠ 114) ∧ (7 < j → c ≠ 116)) := ⟨n0, n1, n2, n3, n4, n5, n6, n7⟩
    clear n0 n1 n2 n3 n4 n5 n6 n7
    rcases (show j = 0 ∨ j = 1 ∨ j = 2 ∨ j = 3 ∨ j = 4 ∨ j = 5 ∨ j = 6 ∨ j = 7 ∨ j = 8 from by omega) with rfl | rfl | rfl | rfl | rfl | rfl | rfl | rfl | rfl
    · have g : ((⟨#[34, 92, 47, 98, 102, 110, 114, 116]⟩ : ByteArray)[0]'(by decide)).toNat = 34 := rfl
      by_cases e : c = 34
      · subst e
        clear HN
        go_wp2
        go_ret
        exact ⟨rfl, (Below.refl _ _).alloc (Nat.le_refl _) _⟩
      · have t : ((34 : Int) == (c : Int)) = false := by rw [beq_eq_false_iff_ne]; omega
        have HE := hide e
        clear e
        go_wp2
        go_roundw
        case rel =>
          obtain ⟨n0, n1, n2, n3, n4, n5, n6, n7⟩ := unhide HN
          have e := unhide HE
          exact ⟨⟨1, by omega, by go_num, fun _ => e, by omega, by omega, by omega, by omega, by omega, by omega, by omega⟩, trivial⟩
        case measure => simp [intOf]
    · have g : ((⟨#[34, 92, 47, 98, 102, 110, 114, 116]⟩ : ByteArray)[1]'(by decide)).toNat = 92 := rfl
      by_cases e : c = 92
      · subst e
        clear HN
        go_wp2
        go_ret
        exact ⟨rfl, (Below.refl _ _).alloc (Nat.le_refl _) _⟩
      · have t : ((92 : Int) == (c : Int)) = false := by rw [beq_eq_false_iff_ne]; omega
        have HE := hide e
        clear e
        go_wp2
        go_roundw
        case rel =>
          obtain ⟨n0, n1, n2, n3, n4, n5, n6, n7⟩ := unhide HN
          have e := unhide HE
          exact ⟨⟨2, by omega, by go_num, fun _ => n0 (by omega), fun _ => e, by omega, by omega, by omega, by omega, by omega, by omega⟩, trivial⟩
        case measure => simp [intOf]
    · have g : ((⟨#[34, 92, 47, 98, 102, 110, 114, 116]⟩ : ByteArray)[2]'(by decide)).toNat = 47 := rfl
      by_cases e : c = 47
      · subst e
        clear HN
        go_wp2
        go_ret
        exact ⟨rfl, (Below.refl _ _).alloc (Nat.le_refl _) _⟩
      · have t : ((47 : Int) == (c : Int)) = false := by rw [beq_eq_false_iff_ne]; omega
        have HE := hide e
        clear e
        go_wp2
        go_roundw
        case rel =>
          obtain ⟨n0, n1, n2, n3, n4, n5, n6, n7⟩ := unhide HN
          have e := unhide HE
          exact ⟨⟨3, by omega, by go_num, fun _ => n0 (by omega), fun _ => n1 (by omega), fun _ => e, by omega, by omega, by omega, by omega, by omega⟩, trivial⟩
        case measure => simp [intOf]
    · have g : ((⟨#[34, 92, 47, 98, 102, 110, 114, 116]⟩ : ByteArray)[3]'(by decide)).toNat = 98 := rfl
      by_cases e : c = 98
      · subst e
        clear HN
        go_wp2
        go_ret
        exact ⟨rfl, (Below.refl _ _).alloc (Nat.le_refl _) _⟩
      · have t : ((98 : Int) == (c : Int)) = false := by rw [beq_eq_false_iff_ne]; omega
        have HE := hide e
        clear e
        go_wp2
        go_roundw
        case rel =>
          obtain ⟨n0, n1, n2, n3, n4, n5, n6, n7⟩ := unhide HN
          have e := unhide HE
          exact ⟨⟨4, by omega, by go_num, fun _ => n0 (by omega), fun _ => n1 (by omega), fun _ => n2 (by omega), fun _ => e, by omega, by omega, by omega, by omega⟩, trivial⟩
        case measure => simp [intOf]
    · have g : ((⟨#[34, 92, 47, 98, 102, 110, 114, 116]⟩ : ByteArray)[4]'(by decide)).toNat = 102 := rfl
      by_cases e : c = 102
      · subst e
        clear HN
        go_wp2
        go_ret
        exact ⟨rfl, (Below.refl _ _).alloc (Nat.le_refl _) _⟩
      · have t : ((102 : Int) == (c : Int)) = false := by rw [beq_eq_false_iff_ne]; omega
        have HE := hide e
        clear e
        go_wp2
        go_roundw
        case rel =>
          obtain ⟨n0, n1, n2, n3, n4, n5, n6, n7⟩ := unhide HN
          have e := unhide HE
          exact ⟨⟨5, by omega, by go_num, fun _ => n0 (by omega), fun _ => n1 (by omega), fun _ => n2 (by omega), fun _ => n3 (by omega), fun _ => e, by omega, by omega, by omega⟩, trivial⟩
        case measure => simp [intOf]
    · have g : ((⟨#[34, 92, 47, 98, 102, 110, 114, 116]⟩ : ByteArray)[5]'(by decide)).toNat = 110 := rfl
      by_cases e : c = 110
      · subst e
        clear HN
        go_wp2
        go_ret
        exact ⟨rfl, (Below.refl _ _).alloc (Nat.le_refl _) _⟩
      · have t : ((110 : Int) == (c : Int)) = false := by rw [beq_eq_false_iff_ne]; omega
        have HE := hide e
        clear e
        go_wp2
        go_roundw
        case rel =>
          obtain ⟨n0, n1, n2, n3, n4, n5, n6, n7⟩ := unhide HN
          have e := unhide HE
          exact ⟨⟨6, by omega, by go_num, fun _ => n0 (by omega), fun _ => n1 (by omega), fun _ => n2 (by omega), fun _ => n3 (by omega), fun _ => n4 (by omega), fun _ => e, by omega, by omega⟩, trivial⟩
        case measure => simp [intOf]
    · have g : ((⟨#[34, 92, 47, 98, 102, 110, 114, 116]⟩ : ByteArray)[6]'(by decide)).toNat = 114 := rfl
      by_cases e : c = 114
      · subst e
        clear HN
        go_wp2
        go_ret
        exact ⟨rfl, (Below.refl _ _).alloc (Nat.le_refl _) _⟩
      · have t : ((114 : Int) == (c : Int)) = false := by rw [beq_eq_false_iff_ne]; omega
        have HE := hide e
        clear e
        go_wp2
        go_roundw
        case rel =>
          obtain ⟨n0, n1, n2, n3, n4, n5, n6, n7⟩ := unhide HN
          have e := unhide HE
          exact ⟨⟨7, by omega, by go_num, fun _ => n0 (by omega), fun _ => n1 (by omega), fun _ => n2 (by omega), fun _ => n3 (by omega), fun _ => n4 (by omega), fun _ => n5 (by omega), fun _ => e, by omega⟩, trivial⟩
        case measure => simp [intOf]
    · have g : ((⟨#[34, 92, 47, 98, 102, 110, 114, 116]⟩ : ByteArray)[7]'(by decide)).toNat = 116 := rfl
      by_cases e : c = 116
      · subst e
        clear HN
        go_wp2
        go_ret
        exact ⟨rfl, (Below.refl _ _).alloc (Nat.le_refl _) _⟩
      · have t : ((116 : Int) == (c : Int)) = false := by rw [beq_eq_false_iff_ne]; omega
        have HE := hide e
        clear e
        go_wp2
        go_roundw
        case rel =>
          obtain ⟨n0, n1, n2, n3, n4, n5, n6, n7⟩ := unhide HN
          have e := unhide HE
          exact ⟨⟨8, by omega, by go_num, fun _ => n0 (by omega), fun _ => n1 (by omega), fun _ => n2 (by omega), fun _ => n3 (by omega), fun _ => n4 (by omega), fun _ => n5 (by omega), fun _ => n6 (by omega), fun _ => e⟩, trivial⟩
        case measure => simp [intOf]
    · have HS : Hid (smp c = none) := by
        obtain ⟨n0, n1, n2, n3, n4, n5, n6, n7⟩ := unhide HN
        show _ = _
        unfold smp
        rw [if_neg (n0 (by omega)), if_neg (n1 (by omega)), if_neg (n2 (by omega)), if_neg (n3 (by omega)), if_neg (n4 (by omega)), if_neg (n5 (by omega)), if_neg (n6 (by omega)), if_neg (n7 (by omega))]
      clear HN
      go_wp2
      go_ret
      exact ⟨by rw [unhide HS]; rfl, (Below.refl _ _).alloc (Nat.le_refl _) _⟩
end Go.Proofs.YtadefcohbkgbfabGreatDoor


namespace Go.Proofs.YtadefcohbkgbfabGreatDoor
open Go.RowKit

def gotV (t : ByteArray) (n : Nat) (ok b tw : Bool) : Value := .agg #[.string t, .int .i64 (n : Int), .bool ok, .bool b, .bool tw]
/-- A value of JSON, as the model reads it. -/
def GP (w : World) (o : Option (JV × Nat)) (e : Ending) (w' : World) : Prop :=
  Below w.heap.size w w' ∧ o.elim (∃ (t : ByteArray) (n : Nat) (b tw : Bool), e = .returned (gotV t n false b tw)) fun q => e = .returned (gotV (strOf (ct q.1)) q.2 true (bigV q.1) (twV q.1))
theorem GP.bad {w w' : World} {o : Option (JV × Nat)} (h : o = none) (b : Below w.heap.size w w') : GP w o (.returned (.agg #[.string ⟨#[]⟩, .int .i64 0, .bool false, .bool false, .bool false])) w' := by
  subst h; exact ⟨b, _, 0, _, _, rfl⟩

set_option maxHeartbeats 400000 in
theorem digit_walk (b : Nat) (w : World) :
    Calls Tryz.prog 79 #[.int .u8 b] w fun e w' => e = .returned (.bool (isDg b)) ∧ w = w' := by
  by_cases h : 48 ≤ b
  · have HD : Hid (isDg b = decide ((b : Int) ≤ 57)) := by
      show _ = _
      unfold isDg
      rw [decide_eq_true h, Bool.true_and]
      apply decide_eq_decide.2; omega
    have h1 : (48 : Int) ≤ (b : Int) := by omega
    go_enter Tryz.func79, Tryz.ntmps79
    go_wp2
    go_ret
    exact ⟨by rw [unhide HD]; rfl, rfl⟩
  · have HD : Hid (isDg b = false) := by
      show _ = _
      unfold isDg
      rw [decide_eq_false h, Bool.false_and]
    have h1 : ¬ (48 : Int) ≤ (b : Int) := by omega
    go_enter Tryz.func79, Tryz.ntmps79
    go_wp2
    go_ret
    exact ⟨by rw [unhide HD]; rfl, rfl⟩
theorem alloc_below (w : World) (o : Obj) : Below w.heap.size w (w.alloc o) := (Below.refl _ _).alloc (Nat.le_refl _) _


set_option maxRecDepth 100000 in
set_option maxHeartbeats 4000000 in
theorem num_neg (s : ByteArray) (i : Nat) (w : World) (hs : s.size ≤ 1048576) (hi : i ≤ s.size + 1) (h45 : bt s i = 45) :
    Calls Tryz.prog 60 #[.string s, .int .i64 i] w (GP w ((nm s i).map fun q => (.num q.1, q.2))) := by
  have HA : Hid (∀ w, Calls Tryz.prog 55 #[.string s, .int .i64 i, .int .u8 45] w fun e w' => e = .returned (.bool true) ∧ w = w') := fun w => by
    have h := at_walk s (i : Int) i rfl 45 w
    rw [show atB s i 45 = true from by
      have hlt : i < s.size := bt_in (by omega)
      rw [atB_in hlt, beq_iff_eq, ← bt_at s i hlt, h45]; rfl] at h
    exact h
  have hD : nmD s i = i + 1 := by unfold nmD; rw [if_pos h45]
  by_cases hin : i + 1 < s.size
  · have t1 : ((s.size : Int) ≤ (i : Int) + 1) = False := eq_false (by omega)
    have t1' : ((i : Int) + 1 < (s.size : Int)) = True := eq_true (by omega)
    have hbd := bt_at s (i + 1) hin
    have HG : Hid (∀ w, Calls Tryz.prog 79 #[.int .u8 (s[i + 1].toNat : Int)] w fun e w' => e = .returned (.bool (isDg (bt s (i + 1)))) ∧ w = w') := fun w => by
      rw [hbd]; exact digit_walk _ w
    cases hdg : isDg (bt s (i + 1)) with
    | false =>
      have HR : Hid (((nm s i).map fun q => (JV.num q.1, q.2)) = none) := by
        show _ = _
        unfold nm
        rw [hD, if_neg (by rw [hdg]; simp)]; rfl
      rw [hdg] at HG
      clear hdg hbd
      go_enter Tryz.func60, Tryz.ntmps60
      go_wp2_with fail
      refine (unhide HA _).mono ?_
      rintro e w1 ⟨rfl, rfl⟩
      go_wp2_with fail
      refine (unhide HG _).mono ?_
      rintro e w2 ⟨rfl, rfl⟩
      go_wp2
      go_returns
      exact GP.bad (unhide HR) (alloc_below w _)
    | true =>
      rw [hdg] at HG
      by_cases h48 : bt s (i + 1) = 48
      · have t2 : ((s[i + 1].toNat : Int) == 48) = true := by rw [beq_iff_eq]; omega
        have hE : nmE s i = i + 1 + 1 := by unfold nmE; rw [hD, if_pos h48]
        have i1 : (i : Int) ≤ (i : Int) + 1 + 1 := by omega
        have i2 : (i : Int) + 1 + 1 ≤ (s.size : Int) := by omega
        have i3 : (0 : Int) ≤ (i : Int) := by omega
        go_enter Tryz.func60, Tryz.ntmps60
        go_wp2_with fail
        refine (unhide HA _).mono ?_
        rintro e w1 ⟨rfl, rfl⟩
        go_wp2_with fail
        refine (unhide HG _).mono ?_
        rintro e w2 ⟨rfl, rfl⟩
        clear HA HG
        have HB : Hid (∀ w, Calls Tryz.prog 80 #[.string (s.extract i (i + 1 + 1))] w fun e' w' => e' = .returned (.bool (tooBig (cutB s i (i + 1 + 1)))) ∧ w = w') := fun w => by
          rw [strOf_cut]
          exact tooBig_walk (cutB s i (i + 1 + 1)) w (by
            intro h
            have := congrArg List.length h
            unfold cutB at this
            rw [List.length_take, List.length_drop, data_len, List.length_nil] at this
            omega) (by unfold cutB; rw [List.length_take, List.length_drop, data_len]; omega)
        by_cases hz : cutB s i (i + 1 + 1) = [45, 48]
        · have z1 : ((s.extract i (i + 1 + 1)).toList == [45, 48]) = true := by rw [ex_toList, hz]; rfl
          have HB0 : Hid (∀ w, Calls Tryz.prog 80 #[.string ⟨#[48]⟩] w fun e' w' => e' = .returned (.bool (tooBig [48])) ∧ w = w') := fun w => tooBig_walk [48] w (by simp) (by simp)
          have HR : Hid (nm s i = some ([48], i + 1 + 1)) := by
            show _ = _
            unfold nm
            rw [if_pos (by rw [hD]; exact hdg), hE]
            unfold norm0
            rw [if_pos hz]
          clear HB hz
          go_wp2_with fail
          refine (unhide HB0 _).mono ?_
          rintro e' w3 ⟨rfl, rfl⟩
          go_wp2
          go_returns
          rw [unhide HR]
          exact ⟨alloc_below w _, rfl⟩
        · have z1 : ((s.extract i (i + 1 + 1)).toList == [45, 48]) = false := by rw [ex_toList, beq_eq_false_iff_ne]; exact hz
          have HR : Hid (nm s i = some (cutB s i (i + 1 + 1), i + 1 + 1)) := by
            show _ = _
            unfold nm
            rw [if_pos (by rw [hD]; exact hdg), hE]
            unfold norm0
            rw [if_neg hz]
          have HX := hide (strOf_cut s i (i + 1 + 1))
          clear hz
          go_wp2_with fail
          refine (unhide HB _).mono ?_
          rintro e' w3 ⟨rfl, rfl⟩
          go_wp2
          go_returns
          rw [unhide HR, unhide HX]
          exact ⟨alloc_below w _, rfl⟩
      · have t2 : ((s[i + 1].toNat : Int) == 48) = false := by rw [beq_eq_false_iff_ne]; omega
        have hE : nmE s i = dg s (i + 1) := by unfold nmE; rw [hD, if_neg h48]
        have HGG : Hid (∀ (j : Nat) (hj : j < s.size) w, Calls Tryz.prog 79 #[.int .u8 (s[j].toNat : Int)] w fun e w' => e = .returned (.bool (isDg (bt s j))) ∧ w = w') := fun j hj w => by
          rw [bt_at s j hj]; exact digit_walk _ w
        clear h48 hbd
        go_enter Tryz.func60, Tryz.ntmps60
        go_wp2_with fail
        refine (unhide HA _).mono ?_
        rintro e w1 ⟨rfl, rfl⟩
        go_wp2_with fail
        refine (unhide HG _).mono ?_
        rintro e w2 ⟨rfl, rfl⟩
        clear HA HG
        go_wp2_with fail
        go_loopw [1] (fun k wr => wr = w.alloc (.cells #[.string ⟨#[]⟩, .int .i64 0, .bool false, .bool false, .bool false] 58) ∧ ∃ j : Nat, k = .int .i64 (j : Int) ∧ i + 1 ≤ j ∧ j ≤ s.size ∧ dg s (i + 1) = dg s j ∧ (i + 1 < j ∨ j = i + 1)) (fun k _ => s.size - (intOf k).toNat)
        case atStart => exact ⟨rfl, i + 1, by go_num, Nat.le_refl _, by omega, rfl, .inr rfl⟩
        case round =>
          obtain ⟨rfl, j, rfl, hj1, hj2, hst, hj3⟩ := hrel
          have HST := hide hst
          clear hst
          by_cases hjin : j < s.size
          · have u1 : ((j : Int) < (s.size : Int)) = True := eq_true (by omega)
            have HJ := hide (fun w => unhide HGG j hjin w)
            cases hjd : isDg (bt s j) with
            | true =>
              have HX : Hid (dg s (i + 1) = dg s (j + 1)) := by show _ = _; rw [unhide HST, dg_on hjd]
              rw [hjd] at HJ
              clear hjd
              go_wp2_with fail
              refine (unhide HJ _).mono ?_
              rintro e w3 ⟨rfl, rfl⟩
              clear HJ
              go_wp2
              go_roundw
              case rel => exact ⟨trivial, j + 1, by go_num, by omega, by omega, unhide HX, .inl (by omega)⟩
              case measure => simp [intOf]; omega
            | false =>
              have HX : dg s (i + 1) = j := by rw [unhide HST, dg_off (by rw [hjd]; simp)]
              rw [hjd] at HJ
              have hne : i + 1 < j := by
                rcases hj3 with h | h
                · exact h
                · subst h; rw [hdg] at hjd; cases hjd
              rw [HX] at hE
              clear hjd HX hj3
              have i1 : (i : Int) ≤ (j : Int) := by omega
              have i2 : (j : Int) ≤ (s.size : Int) := by omega
              have i3 : (0 : Int) ≤ (i : Int) := by omega
              go_wp2_with fail
              refine (unhide HJ _).mono ?_
              rintro e w3 ⟨rfl, rfl⟩
              clear HJ HGG
              have HB : Hid (∀ w, Calls Tryz.prog 80 #[.string (s.extract i (j))] w fun e' w' => e' = .returned (.bool (tooBig (cutB s i (j)))) ∧ w = w') := fun w => by
                rw [strOf_cut]
                exact tooBig_walk (cutB s i (j)) w (by
                  intro h
                  have := congrArg List.length h
                  unfold cutB at this
                  rw [List.length_take, List.length_drop, data_len, List.length_nil] at this
                  omega) (by unfold cutB; rw [List.length_take, List.length_drop, data_len]; omega)
              by_cases hz : cutB s i (j) = [45, 48]
              · have z1 : ((s.extract i (j)).toList == [45, 48]) = true := by rw [ex_toList, hz]; rfl
                have HB0 : Hid (∀ w, Calls Tryz.prog 80 #[.string ⟨#[48]⟩] w fun e' w' => e' = .returned (.bool (tooBig [48])) ∧ w = w') := fun w => tooBig_walk [48] w (by simp) (by simp)
                have HR : Hid (nm s i = some ([48], j)) := by
                  show _ = _
                  unfold nm
                  rw [if_pos (by rw [hD]; exact hdg), hE]
                  unfold norm0
                  rw [if_pos hz]
                clear HB hz
                go_wp2_with fail
                refine (unhide HB0 _).mono ?_
                rintro e' w3 ⟨rfl, rfl⟩
                go_wp2
                go_returns
                rw [unhide HR]
                exact ⟨alloc_below w _, rfl⟩
              · have z1 : ((s.extract i (j)).toList == [45, 48]) = false := by rw [ex_toList, beq_eq_false_iff_ne]; exact hz
                have HR : Hid (nm s i = some (cutB s i (j), j)) := by
                  show _ = _
                  unfold nm
                  rw [if_pos (by rw [hD]; exact hdg), hE]
                  unfold norm0
                  rw [if_neg hz]
                have HX := hide (strOf_cut s i (j))
                clear hz
                go_wp2_with fail
                refine (unhide HB _).mono ?_
                rintro e' w3 ⟨rfl, rfl⟩
                go_wp2
                go_returns
                rw [unhide HR, unhide HX]
                exact ⟨alloc_below w _, rfl⟩
          · have u1 : ((j : Int) < (s.size : Int)) = False := eq_false (by omega)
            have hjz : s.size ≤ j := by omega
            have HX : dg s (i + 1) = j := by rw [unhide HST, dg_off (by rw [bt_out s j (by omega)]; simp [isDg])]
            rw [HX] at hE
            clear HX hj3 HGG hjz
            have i1 : (i : Int) ≤ (j : Int) := by omega
            have i2 : (j : Int) ≤ (s.size : Int) := by omega
            have i3 : (0 : Int) ≤ (i : Int) := by omega
            have HB : Hid (∀ w, Calls Tryz.prog 80 #[.string (s.extract i (j))] w fun e' w' => e' = .returned (.bool (tooBig (cutB s i (j)))) ∧ w = w') := fun w => by
              rw [strOf_cut]
              exact tooBig_walk (cutB s i (j)) w (by
                intro h
                have := congrArg List.length h
                unfold cutB at this
                rw [List.length_take, List.length_drop, data_len, List.length_nil] at this
                omega) (by unfold cutB; rw [List.length_take, List.length_drop, data_len]; omega)
            by_cases hz : cutB s i (j) = [45, 48]
            · have z1 : ((s.extract i (j)).toList == [45, 48]) = true := by rw [ex_toList, hz]; rfl
              have HB0 : Hid (∀ w, Calls Tryz.prog 80 #[.string ⟨#[48]⟩] w fun e' w' => e' = .returned (.bool (tooBig [48])) ∧ w = w') := fun w => tooBig_walk [48] w (by simp) (by simp)
              have HR : Hid (nm s i = some ([48], j)) := by
                show _ = _
                unfold nm
                rw [if_pos (by rw [hD]; exact hdg), hE]
                unfold norm0
                rw [if_pos hz]
              clear HB hz
              go_wp2_with fail
              refine (unhide HB0 _).mono ?_
              rintro e' w3 ⟨rfl, rfl⟩
              go_wp2
              go_returns
              rw [unhide HR]
              exact ⟨alloc_below w _, rfl⟩
            · have z1 : ((s.extract i (j)).toList == [45, 48]) = false := by rw [ex_toList, beq_eq_false_iff_ne]; exact hz
              have HR : Hid (nm s i = some (cutB s i (j), j)) := by
                show _ = _
                unfold nm
                rw [if_pos (by rw [hD]; exact hdg), hE]
                unfold norm0
                rw [if_neg hz]
              have HX := hide (strOf_cut s i (j))
              clear hz
              go_wp2_with fail
              refine (unhide HB _).mono ?_
              rintro e' w3 ⟨rfl, rfl⟩
              go_wp2
              go_returns
              rw [unhide HR, unhide HX]
              exact ⟨alloc_below w _, rfl⟩
  · have t1 : ((s.size : Int) ≤ (i : Int) + 1) = True := eq_true (by omega)
    have HR : Hid (((nm s i).map fun q => (JV.num q.1, q.2)) = none) := by
      show _ = _
      unfold nm
      rw [hD, if_neg (by rw [bt_out s (i + 1) (by omega)]; simp [isDg])]; rfl
    go_enter Tryz.func60, Tryz.ntmps60
    go_wp2_with fail
    refine (unhide HA _).mono ?_
    rintro e w1 ⟨rfl, rfl⟩
    go_wp2
    go_returns
    exact GP.bad (unhide HR) (alloc_below w _)

set_option maxRecDepth 100000 in
set_option maxHeartbeats 4000000 in
theorem num_pos (s : ByteArray) (i : Nat) (w : World) (hs : s.size ≤ 1048576) (hi : i ≤ s.size + 1) (h45 : bt s i ≠ 45) :
    Calls Tryz.prog 60 #[.string s, .int .i64 i] w (GP w ((nm s i).map fun q => (.num q.1, q.2))) := by
  have HA : Hid (∀ w, Calls Tryz.prog 55 #[.string s, .int .i64 i, .int .u8 45] w fun e w' => e = .returned (.bool false) ∧ w = w') := fun w => by
    have h := at_walk s (i : Int) i rfl 45 w
    rw [show atB s i 45 = false from by
      by_cases hlt : i < s.size
      · rw [atB_in hlt, beq_eq_false_iff_ne, ← bt_at s i hlt]; omega
      · exact atB_out hlt] at h
    exact h
  have hD : nmD s i = i := by unfold nmD; rw [if_neg h45]
  by_cases hin : i < s.size
  · have t1 : ((s.size : Int) ≤ (i : Int)) = False := eq_false (by omega)
    have t1' : ((i : Int) < (s.size : Int)) = True := eq_true (by omega)
    have hbd := bt_at s (i) hin
    have HG : Hid (∀ w, Calls Tryz.prog 79 #[.int .u8 (s[i].toNat : Int)] w fun e w' => e = .returned (.bool (isDg (bt s (i)))) ∧ w = w') := fun w => by
      rw [hbd]; exact digit_walk _ w
    cases hdg : isDg (bt s (i)) with
    | false =>
      have HR : Hid (((nm s i).map fun q => (JV.num q.1, q.2)) = none) := by
        show _ = _
        unfold nm
        rw [hD, if_neg (by rw [hdg]; simp)]; rfl
      rw [hdg] at HG
      clear hdg hbd
      go_enter Tryz.func60, Tryz.ntmps60
      go_wp2_with fail
      refine (unhide HA _).mono ?_
      rintro e w1 ⟨rfl, rfl⟩
      go_wp2_with fail
      refine (unhide HG _).mono ?_
      rintro e w2 ⟨rfl, rfl⟩
      go_wp2
      go_returns
      exact GP.bad (unhide HR) (alloc_below w _)
    | true =>
      rw [hdg] at HG
      by_cases h48 : bt s (i) = 48
      · have t2 : ((s[i].toNat : Int) == 48) = true := by rw [beq_iff_eq]; omega
        have hE : nmE s i = i + 1 := by unfold nmE; rw [hD, if_pos h48]
        have i1 : (i : Int) ≤ (i : Int) + 1 := by omega
        have i2 : (i : Int) + 1 ≤ (s.size : Int) := by omega
        have i3 : (0 : Int) ≤ (i : Int) := by omega
        go_enter Tryz.func60, Tryz.ntmps60
        go_wp2_with fail
        refine (unhide HA _).mono ?_
        rintro e w1 ⟨rfl, rfl⟩
        go_wp2_with fail
        refine (unhide HG _).mono ?_
        rintro e w2 ⟨rfl, rfl⟩
        clear HA HG
        have HB : Hid (∀ w, Calls Tryz.prog 80 #[.string (s.extract i (i + 1))] w fun e' w' => e' = .returned (.bool (tooBig (cutB s i (i + 1)))) ∧ w = w') := fun w => by
          rw [strOf_cut]
          exact tooBig_walk (cutB s i (i + 1)) w (by
            intro h
            have := congrArg List.length h
            unfold cutB at this
            rw [List.length_take, List.length_drop, data_len, List.length_nil] at this
            omega) (by unfold cutB; rw [List.length_take, List.length_drop, data_len]; omega)
        by_cases hz : cutB s i (i + 1) = [45, 48]
        · have z1 : ((s.extract i (i + 1)).toList == [45, 48]) = true := by rw [ex_toList, hz]; rfl
          have HB0 : Hid (∀ w, Calls Tryz.prog 80 #[.string ⟨#[48]⟩] w fun e' w' => e' = .returned (.bool (tooBig [48])) ∧ w = w') := fun w => tooBig_walk [48] w (by simp) (by simp)
          have HR : Hid (nm s i = some ([48], i + 1)) := by
            show _ = _
            unfold nm
            rw [if_pos (by rw [hD]; exact hdg), hE]
            unfold norm0
            rw [if_pos hz]
          clear HB hz
          go_wp2_with fail
          refine (unhide HB0 _).mono ?_
          rintro e' w3 ⟨rfl, rfl⟩
          go_wp2
          go_returns
          rw [unhide HR]
          exact ⟨alloc_below w _, rfl⟩
        · have z1 : ((s.extract i (i + 1)).toList == [45, 48]) = false := by rw [ex_toList, beq_eq_false_iff_ne]; exact hz
          have HR : Hid (nm s i = some (cutB s i (i + 1), i + 1)) := by
            show _ = _
            unfold nm
            rw [if_pos (by rw [hD]; exact hdg), hE]
            unfold norm0
            rw [if_neg hz]
          have HX := hide (strOf_cut s i (i + 1))
          clear hz
          go_wp2_with fail
          refine (unhide HB _).mono ?_
          rintro e' w3 ⟨rfl, rfl⟩
          go_wp2
          go_returns
          rw [unhide HR, unhide HX]
          exact ⟨alloc_below w _, rfl⟩
      · have t2 : ((s[i].toNat : Int) == 48) = false := by rw [beq_eq_false_iff_ne]; omega
        have hE : nmE s i = dg s (i) := by unfold nmE; rw [hD, if_neg h48]
        have HGG : Hid (∀ (j : Nat) (hj : j < s.size) w, Calls Tryz.prog 79 #[.int .u8 (s[j].toNat : Int)] w fun e w' => e = .returned (.bool (isDg (bt s j))) ∧ w = w') := fun j hj w => by
          rw [bt_at s j hj]; exact digit_walk _ w
        clear h48 hbd
        go_enter Tryz.func60, Tryz.ntmps60
        go_wp2_with fail
        refine (unhide HA _).mono ?_
        rintro e w1 ⟨rfl, rfl⟩
        go_wp2_with fail
        refine (unhide HG _).mono ?_
        rintro e w2 ⟨rfl, rfl⟩
        clear HA HG
        go_wp2_with fail
        go_loopw [1] (fun k wr => wr = w.alloc (.cells #[.string ⟨#[]⟩, .int .i64 0, .bool false, .bool false, .bool false] 58) ∧ ∃ j : Nat, k = .int .i64 (j : Int) ∧ i ≤ j ∧ j ≤ s.size ∧ dg s (i) = dg s j ∧ (i < j ∨ j = i)) (fun k _ => s.size - (intOf k).toNat)
        case atStart => exact ⟨rfl, i, by go_num, Nat.le_refl _, by omega, rfl, .inr rfl⟩
        case round =>
          obtain ⟨rfl, j, rfl, hj1, hj2, hst, hj3⟩ := hrel
          have HST := hide hst
          clear hst
          by_cases hjin : j < s.size
          · have u1 : ((j : Int) < (s.size : Int)) = True := eq_true (by omega)
            have HJ := hide (fun w => unhide HGG j hjin w)
            cases hjd : isDg (bt s j) with
            | true =>
              have HX : Hid (dg s (i) = dg s (j + 1)) := by show _ = _; rw [unhide HST, dg_on hjd]
              rw [hjd] at HJ
              clear hjd
              go_wp2_with fail
              refine (unhide HJ _).mono ?_
              rintro e w3 ⟨rfl, rfl⟩
              clear HJ
              go_wp2
              go_roundw
              case rel => exact ⟨trivial, j + 1, by go_num, by omega, by omega, unhide HX, .inl (by omega)⟩
              case measure => simp [intOf]; omega
            | false =>
              have HX : dg s (i) = j := by rw [unhide HST, dg_off (by rw [hjd]; simp)]
              rw [hjd] at HJ
              have hne : i < j := by
                rcases hj3 with h | h
                · exact h
                · subst h; rw [hdg] at hjd; cases hjd
              rw [HX] at hE
              clear hjd HX hj3
              have i1 : (i : Int) ≤ (j : Int) := by omega
              have i2 : (j : Int) ≤ (s.size : Int) := by omega
              have i3 : (0 : Int) ≤ (i : Int) := by omega
              go_wp2_with fail
              refine (unhide HJ _).mono ?_
              rintro e w3 ⟨rfl, rfl⟩
              clear HJ HGG
              have HB : Hid (∀ w, Calls Tryz.prog 80 #[.string (s.extract i (j))] w fun e' w' => e' = .returned (.bool (tooBig (cutB s i (j)))) ∧ w = w') := fun w => by
                rw [strOf_cut]
                exact tooBig_walk (cutB s i (j)) w (by
                  intro h
                  have := congrArg List.length h
                  unfold cutB at this
                  rw [List.length_take, List.length_drop, data_len, List.length_nil] at this
                  omega) (by unfold cutB; rw [List.length_take, List.length_drop, data_len]; omega)
              by_cases hz : cutB s i (j) = [45, 48]
              · have z1 : ((s.extract i (j)).toList == [45, 48]) = true := by rw [ex_toList, hz]; rfl
                have HB0 : Hid (∀ w, Calls Tryz.prog 80 #[.string ⟨#[48]⟩] w fun e' w' => e' = .returned (.bool (tooBig [48])) ∧ w = w') := fun w => tooBig_walk [48] w (by simp) (by simp)
                have HR : Hid (nm s i = some ([48], j)) := by
                  show _ = _
                  unfold nm
                  rw [if_pos (by rw [hD]; exact hdg), hE]
                  unfold norm0
                  rw [if_pos hz]
                clear HB hz
                go_wp2_with fail
                refine (unhide HB0 _).mono ?_
                rintro e' w3 ⟨rfl, rfl⟩
                go_wp2
                go_returns
                rw [unhide HR]
                exact ⟨alloc_below w _, rfl⟩
              · have z1 : ((s.extract i (j)).toList == [45, 48]) = false := by rw [ex_toList, beq_eq_false_iff_ne]; exact hz
                have HR : Hid (nm s i = some (cutB s i (j), j)) := by
                  show _ = _
                  unfold nm
                  rw [if_pos (by rw [hD]; exact hdg), hE]
                  unfold norm0
                  rw [if_neg hz]
                have HX := hide (strOf_cut s i (j))
                clear hz
                go_wp2_with fail
                refine (unhide HB _).mono ?_
                rintro e' w3 ⟨rfl, rfl⟩
                go_wp2
                go_returns
                rw [unhide HR, unhide HX]
                exact ⟨alloc_below w _, rfl⟩
          · have u1 : ((j : Int) < (s.size : Int)) = False := eq_false (by omega)
            have hjz : s.size ≤ j := by omega
            have HX : dg s (i) = j := by rw [unhide HST, dg_off (by rw [bt_out s j (by omega)]; simp [isDg])]
            rw [HX] at hE
            clear HX hj3 HGG hjz
            have i1 : (i : Int) ≤ (j : Int) := by omega
            have i2 : (j : Int) ≤ (s.size : Int) := by omega
            have i3 : (0 : Int) ≤ (i : Int) := by omega
            have HB : Hid (∀ w, Calls Tryz.prog 80 #[.string (s.extract i (j))] w fun e' w' => e' = .returned (.bool (tooBig (cutB s i (j)))) ∧ w = w') := fun w => by
              rw [strOf_cut]
              exact tooBig_walk (cutB s i (j)) w (by
                intro h
                have := congrArg List.length h
                unfold cutB at this
                rw [List.length_take, List.length_drop, data_len, List.length_nil] at this
                omega) (by unfold cutB; rw [List.length_take, List.length_drop, data_len]; omega)
            by_cases hz : cutB s i (j) = [45, 48]
            · have z1 : ((s.extract i (j)).toList == [45, 48]) = true := by rw [ex_toList, hz]; rfl
              have HB0 : Hid (∀ w, Calls Tryz.prog 80 #[.string ⟨#[48]⟩] w fun e' w' => e' = .returned (.bool (tooBig [48])) ∧ w = w') := fun w => tooBig_walk [48] w (by simp) (by simp)
              have HR : Hid (nm s i = some ([48], j)) := by
                show _ = _
                unfold nm
                rw [if_pos (by rw [hD]; exact hdg), hE]
                unfold norm0
                rw [if_pos hz]
              clear HB hz
              go_wp2_with fail
              refine (unhide HB0 _).mono ?_
              rintro e' w3 ⟨rfl, rfl⟩
              go_wp2
              go_returns
              rw [unhide HR]
              exact ⟨alloc_below w _, rfl⟩
            · have z1 : ((s.extract i (j)).toList == [45, 48]) = false := by rw [ex_toList, beq_eq_false_iff_ne]; exact hz
              have HR : Hid (nm s i = some (cutB s i (j), j)) := by
                show _ = _
                unfold nm
                rw [if_pos (by rw [hD]; exact hdg), hE]
                unfold norm0
                rw [if_neg hz]
              have HX := hide (strOf_cut s i (j))
              clear hz
              go_wp2_with fail
              refine (unhide HB _).mono ?_
              rintro e' w3 ⟨rfl, rfl⟩
              go_wp2
              go_returns
              rw [unhide HR, unhide HX]
              exact ⟨alloc_below w _, rfl⟩
  · have t1 : ((s.size : Int) ≤ (i : Int)) = True := eq_true (by omega)
    have HR : Hid (((nm s i).map fun q => (JV.num q.1, q.2)) = none) := by
      show _ = _
      unfold nm
      rw [hD, if_neg (by rw [bt_out s (i) (by omega)]; simp [isDg])]; rfl
    go_enter Tryz.func60, Tryz.ntmps60
    go_wp2_with fail
    refine (unhide HA _).mono ?_
    rintro e w1 ⟨rfl, rfl⟩
    go_wp2
    go_returns
    exact GP.bad (unhide HR) (alloc_below w _)

theorem num_walk (s : ByteArray) (i : Nat) (w : World) (hs : s.size ≤ 1048576) (hi : i ≤ s.size + 1) :
    Calls Tryz.prog 60 #[.string s, .int .i64 i] w (GP w ((nm s i).map fun q => (.num q.1, q.2))) := by
  by_cases h : bt s i = 45
  · exact num_neg s i w hs hi h
  · exact num_pos s i w hs hi h
end Go.Proofs.YtadefcohbkgbfabGreatDoor


namespace Go.Proofs.YtadefcohbkgbfabGreatDoor
open Go.RowKit

/-- The text of items, a comma behind each. -/
def preA : JL → List UInt8
  | .nil => []
  | .cons v r => ct v ++ 44 :: preA r
theorem preA_snoc : ∀ (a : JL) (v : JV), preA (a.app (.cons v .nil)) = preA a ++ (ct v ++ [44])
  | .nil, v => by simp [JL.app, preA]
  | .cons u r, v => by simp [JL.app, preA, preA_snoc r v]
theorem joinT_pre : ∀ (a : JL) (v : JV), 44 :: (preA a ++ ct v) = joinT (ctL (a.app (.cons v .nil)))
  | .nil, v => by simp [JL.app, preA, ctL, joinT]
  | .cons u r, v => by
    have := joinT_pre r v
    simp [JL.app, preA, ctL, joinT, ← this]
theorem joinC_pre (a : JL) (v : JV) : preA a ++ ct v = joinC (ctL (a.app (.cons v .nil))) := by
  cases a with
  | nil => simp [JL.app, preA, ctL, joinC, joinT]
  | cons u r =>
    have := joinT_pre r v
    simp [JL.app, preA, ctL, joinC, ← this]

abbrev gotB (t : ByteArray) (n : Nat) (ok b tw : Bool) : Obj := .cells #[.string t, .int .i64 (n : Int), .bool ok, .bool b, .bool tw] 58 (0, 0)
/-- A block that holds what was read. -/
def Got (g : Nat) (t : ByteArray) (n : Nat) (ok b tw : Bool) (w : World) : Prop := w.heap[g]? = some (gotB t n ok b tw)
theorem Got.c0 {g n : Nat} {t : ByteArray} {ok b tw : Bool} {w : World} (h : Got g t n ok b tw w) : w.cell? ⟨g, 0, none⟩ = some (.string t) := by rw [Lib.cell_of_heap h]; rfl
theorem Got.c1 {g n : Nat} {t : ByteArray} {ok b tw : Bool} {w : World} (h : Got g t n ok b tw w) : w.cell? ⟨g, 1, none⟩ = some (.int .i64 (n : Int)) := by rw [Lib.cell_of_heap h]; rfl
theorem Got.c2 {g n : Nat} {t : ByteArray} {ok b tw : Bool} {w : World} (h : Got g t n ok b tw w) : w.cell? ⟨g, 2, none⟩ = some (.bool ok) := by rw [Lib.cell_of_heap h]; rfl
theorem Got.c3 {g n : Nat} {t : ByteArray} {ok b tw : Bool} {w : World} (h : Got g t n ok b tw w) : w.cell? ⟨g, 3, none⟩ = some (.bool b) := by rw [Lib.cell_of_heap h]; rfl
theorem Got.c4 {g n : Nat} {t : ByteArray} {ok b tw : Bool} {w : World} (h : Got g t n ok b tw w) : w.cell? ⟨g, 4, none⟩ = some (.bool tw) := by rw [Lib.cell_of_heap h]; rfl
theorem Got.fz {g n : Nat} {t : ByteArray} {ok b tw : Bool} {w : World} (h : Got g t n ok b tw w) (k : Nat) : w.frozen? ⟨g, k, none⟩ = false := Lib.frozen_of_heap h k
theorem Got.lt {g n : Nat} {t : ByteArray} {ok b tw : Bool} {w : World} (h : Got g t n ok b tw w) : g < w.heap.size := (Array.getElem?_eq_some_iff.1 h).1
theorem Got.below {g n : Nat} {t : ByteArray} {ok b tw : Bool} {w w' : World} (h : Got g t n ok b tw w) (hb : Below w.heap.size w w') : Got g t n ok b tw w' := (hb.block g h.lt).trans h
theorem Got.alloc {g n : Nat} {t : ByteArray} {ok b tw : Bool} {w : World} (h : Got g t n ok b tw w) (o : Obj) : Got g t n ok b tw (w.alloc o) := h.below (alloc_below w o)
theorem Got.other {g n : Nat} {t : ByteArray} {ok b tw : Bool} {w : World} (h : Got g t n ok b tw w) {p : Addr} (hp : g ≠ p.block) (v : Value) : Got g t n ok b tw (w.setCell p v) := (Below.heap_setCell w p v g hp).trans h
theorem Got.set0 {g n : Nat} {t : ByteArray} {ok b tw : Bool} {w : World} (h : Got g t n ok b tw w) (t' : ByteArray) : Got g t' n ok b tw (w.setCell ⟨g, 0, none⟩ (.string t')) := heap_setCell_same w g 0 _ 58 (.string t') h
theorem Got.set1 {g n : Nat} {t : ByteArray} {ok b tw : Bool} {w : World} (h : Got g t n ok b tw w) (z : Int) (n' : Nat) (hz : z = (n' : Int)) : Got g t n' ok b tw (w.setCell ⟨g, 1, none⟩ (.int .i64 z)) := by
  subst hz; exact heap_setCell_same w g 1 _ 58 (.int .i64 (n' : Int)) h
theorem Got.set3 {g n : Nat} {t : ByteArray} {ok b tw : Bool} {w : World} (h : Got g t n ok b tw w) (b' : Bool) : Got g t n ok b' tw (w.setCell ⟨g, 3, none⟩ (.bool b')) := heap_setCell_same w g 3 _ 58 (.bool b') h
theorem Got.set4 {g n : Nat} {t : ByteArray} {ok b tw : Bool} {w : World} (h : Got g t n ok b tw w) (b' : Bool) : Got g t n ok b b' (w.setCell ⟨g, 4, none⟩ (.bool b')) := heap_setCell_same w g 4 _ 58 (.bool b') h
theorem Got.set2 {g n : Nat} {t : ByteArray} {ok b tw : Bool} {w : World} (h : Got g t n ok b tw w) (b' : Bool) : Got g t n b' b tw (w.setCell ⟨g, 2, none⟩ (.bool b')) := heap_setCell_same w g 2 _ 58 (.bool b') h
theorem Got.put {g n : Nat} {t : ByteArray} {ok b tw : Bool} {w : World} (h : Got g t n ok b tw w) (t' : ByteArray) (z : Int) (n' : Nat) (hz : z = (n' : Int)) (ok' b' tw' : Bool) :
    Got g t' n' ok' b' tw' (((((w.setCell ⟨g, 0, none⟩ (.string t')).setCell ⟨g, 1, none⟩ (.int .i64 z)).setCell ⟨g, 2, none⟩ (.bool ok')).setCell ⟨g, 3, none⟩ (.bool b')).setCell ⟨g, 4, none⟩ (.bool tw')) :=
  ((((h.set0 t').set1 z n' hz).set2 ok').set3 b').set4 tw'
theorem Got.copyTo {r g n n0 : Nat} {t t0 : ByteArray} {ok b tw ok0 b0 tw0 : Bool} {w : World} (h : Got r t0 n0 ok0 b0 tw0 w) (_ : Got g t n ok b tw w) (z : Int) (hz : z = (n : Int)) :
    Got r t n ok b tw (((((w.setCell ⟨r, 0, none⟩ (.string t)).setCell ⟨r, 1, none⟩ (.int .i64 z)).setCell ⟨r, 2, none⟩ (.bool ok)).setCell ⟨r, 3, none⟩ (.bool b)).setCell ⟨r, 4, none⟩ (.bool tw)) := h.put t z n hz ok b tw
theorem below_put {B g : Nat} {w w' : World} (h : Below B w w') (hg : B ≤ g) (a b c d e : Value) :
    Below B w (((((w'.setCell ⟨g, 0, none⟩ a).setCell ⟨g, 1, none⟩ b).setCell ⟨g, 2, none⟩ c).setCell ⟨g, 3, none⟩ d).setCell ⟨g, 4, none⟩ e) :=
  ((((h.setCell (p := ⟨g, 0, none⟩) hg _).setCell (p := ⟨g, 1, none⟩) hg _).setCell (p := ⟨g, 2, none⟩) hg _).setCell (p := ⟨g, 3, none⟩) hg _).setCell (p := ⟨g, 4, none⟩) hg _
theorem got_ret {fn : Func} (hres : fn.results = #[.cell 4 58]) {tmps : Array Value} {g n : Nat} {t : ByteArray} {ok b tw : Bool} {w : World} (hp : tmps.getD 4 undef = .pointer (some ⟨g, 0, none⟩)) (h : Got g t n ok b tw w) :
    (results fn tmps).run Tryz.prog w = .ok (gotV t n ok b tw) w :=
  results_cell_row hres tmps w g 58 _ (0, 0) _ hp h Tryz.underlying58 rfl (by kernel_rfl)
theorem or_cases : ∀ a b c : Bool, (a || b) = c → a = true ∧ c = true ∨ a = false ∧ b = c := by decide
/-- All cells of a block, for the walk. -/
def Cells5 (g : Nat) (a b c d e : Value) (w : World) : Prop := w.cell? ⟨g, 0, none⟩ = some a ∧ w.cell? ⟨g, 1, none⟩ = some b ∧ w.cell? ⟨g, 2, none⟩ = some c ∧ w.cell? ⟨g, 3, none⟩ = some d ∧ w.cell? ⟨g, 4, none⟩ = some e
theorem Got.cells {g n : Nat} {t : ByteArray} {ok b tw : Bool} {w : World} (h : Got g t n ok b tw w) : Cells5 g (.string t) (.int .i64 (n : Int)) (.bool ok) (.bool b) (.bool tw) w := ⟨h.c0, h.c1, h.c2, h.c3, h.c4⟩
theorem Got.fzs {g n : Nat} {t : ByteArray} {ok b tw : Bool} {w : World} (h : Got g t n ok b tw w) : w.frozen? ⟨g, 0, none⟩ = false ∧ w.frozen? ⟨g, 1, none⟩ = false ∧ w.frozen? ⟨g, 2, none⟩ = false ∧ w.frozen? ⟨g, 3, none⟩ = false ∧ w.frozen? ⟨g, 4, none⟩ = false := ⟨h.fz 0, h.fz 1, h.fz 2, h.fz 3, h.fz 4⟩
theorem strOf_app (a b : List UInt8) : strOf a ++ strOf b = strOf (a ++ b) := by
  apply Go.WideShapes.bytes_inj
  rw [ByteArray.data_append, Array.toList_append, strOf_toList, strOf_toList, strOf_toList]
/-- The model's small readers, at a text. -/
def Small1 (s : ByteArray) : Prop :=
  (∀ (z : Int) (j : Nat) w, z = (j : Int) → Calls Tryz.prog 36 #[.string s, .int .i64 z] w fun e w' => e = .returned (.int .i64 (sk s j)) ∧ w = w') ∧
  (∀ (c j : Nat) w, c ≠ 0 → Calls Tryz.prog 55 #[.string s, .int .i64 j, .int .u8 c] w fun e w' => e = .returned (.bool (decide (bt s j = c))) ∧ w = w')
theorem small1 (s : ByteArray) (hs : s.size ≤ 1048576) : Small1 s := by
  refine ⟨fun z j w hz => ?_, fun c j w hc => ?_⟩
  · subst hz; exact l1Skip_walk s j w hs
  · have h := at_walk s (j : Int) j rfl c w
    have e : atB s j (c : Int) = decide (bt s j = c) := by
      by_cases hlt : j < s.size
      · rw [atB_in hlt, ← bt_at s j hlt]
        by_cases g : bt s j = c
        · rw [g]; simp
        · rw [decide_eq_false g, beq_eq_false_iff_ne]; omega
      · rw [atB_out hlt, bt_out s j (by omega)]
        exact (decide_eq_false (fun g => hc g.symm)).symm
    rw [e] at h
    exact h
end Go.Proofs.YtadefcohbkgbfabGreatDoor

