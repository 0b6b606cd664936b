import Derived.Test.YtcjajchfjoffnaaGreatDoorBch35
import Derived.Test.YtcjajchfjoffnaaGreatDoorBch45
import Derived.Test.YtcjajchfjoffnaaGreatDoorBch2
import Derived.Test.YtcjajchfjoffnaaGreatDoorBch24
import Derived.Test.YtcjajchfjoffnaaGreatDoorBch44
import Derived.Test.YtcjajchfjoffnaaGreatDoorBch12
import Derived.Test.YtcjajchfjoffnaaGreatDoorBch1
import Derived.Test.YtcjajchfjoffnaaGreatDoorBch46
namespace Go.Proofs.YtcjajchfjoffnaaGreatDoor
open Go.RowKit

theorem ac_all : ∀ n, AC n
  | 0 => fun oa ob p ys lv v1 v2 w B S1 S2 ga gb hnn => by
    rcases hnn with h | h
    · obtain ⟨u, rfl⟩ := Option.ne_none_iff_exists'.1 h
      obtain ⟨_, _, d, _⟩ := ga
      have := (dep_cnt u).2
      omega
    · obtain ⟨u, rfl⟩ := Option.ne_none_iff_exists'.1 h
      obtain ⟨_, _, d, _⟩ := gb
      have := (dep_cnt u).2
      omega
  | n + 1 => ac_step n (items_walk n (ac_all n)) (members_walk n (ac_all n))
/-- What changesIn promises of two documents that have been read. -/
def CIn (f : FuncId) : Prop := ∀ (a b : JV) (v1 v2 : Value) (w : World) (S1 S2 : Nat → Prop) (n : Nat), okV a → okV b → twV a = false → twV b = false → depV a ≤ n → depV b ≤ n → (ct a).length ≤ 1000000 → (ct b).length ≤ 1000000 → cntV a + cntV b ≤ 1000000 →
  Rep w S1 a v1 → Rep w S2 b v2 → Two w w.heap.size S1 S2 →
  Calls Tryz.prog f #[v1, v2] w fun e w' => ∃ (r : Value) (zs : List Chg), e = .returned r ∧ CgR w' w.heap.size r zs ∧ ZM zs (chF n [] a b) ∧ Below w.heap.size w w'
set_option maxRecDepth 100000 in
set_option maxHeartbeats 2000000 in
theorem changesIn_walk : CIn 106 := by
  intro a b v1 v2 w S1 S2 n oka okb twa twb da db la lb hcn h1 h2 htw
  have HA := hide (ac_all n (some a) (some b) [] [] (.slice none 0 0) v1 v2 w w.heap.size S1 S2 ⟨oka, twa, da, la, by simp; omega⟩ ⟨okb, twb, db, lb, by simp; omega⟩ (.inl (by simp)) (by simp) (by simp only [cntO, List.length_nil]; omega) (World.ownsRow_nil w w.heap.size 175 3) h1 h2 htw)
  obtain ⟨t1, q1, rfl⟩ := rep_iface h1
  obtain ⟨t2, q2, rfl⟩ := rep_iface h2
  have HE : Hid (chO n [] (some a) (some b) = chF n [] a b) := rfl
  have he : strOf [] = ⟨#[]⟩ := rfl
  rw [he] at HA
  clear h1 h2 htw oka okb twa twb da db la lb hcn he
  generalize chO n [] (some a) (some b) = L1 at *
  generalize chF n [] a b = L2 at *
  go_enter Tryz.func106, Tryz.ntmps106
  go_wp2_with fail
  refine (unhide HA).mono ?_
  rintro e w2 ⟨r, zs, rfl, o2, z2, f2⟩
  have HO : Hid (CgR w2 w.heap.size r zs) := o2
  have HZ := hide z2
  have HB := hide f2.1
  clear HA o2 z2 f2
  go_wp2
  go_ret
  exact ⟨r, zs, rfl, unhide HO, by rw [← unhide HE]; exact unhide HZ, unhide HB⟩
end Go.Proofs.YtcjajchfjoffnaaGreatDoor

namespace Go.Proofs.YtcjajchfjoffnaaGreatDoor
open Go.RowKit

/-- What changesOf answers. -/
def COP (s t : ByteArray) (w : World) (e : Ending) (w' : World) : Prop := Below w.heap.size w w' ∧ (chgB s t = false → e = .returned (.tuple #[.slice none 0 0, .bool false])) ∧
  (chgB s t = true → ∃ (r : Value) (zs : List Chg) (B : Nat), e = .returned (.tuple #[r, .bool true]) ∧ CgR w' B r zs ∧ ZM zs (chgL s t))
set_option maxRecDepth 100000 in
set_option maxHeartbeats 2000000 in
theorem changesOf_walk (s t : ByteArray) (w : World) (hw : RdW w) (hs : s.size ≤ 1048576) (ht : t.size ≤ 1048576) :
    Calls Tryz.prog 66 #[.string s, .string t] w (COP s t w) := by
  have H1 := hide (readText_walk s w hw.tab hw.err hw.pow (by omega))
  have H2 : Hid (∀ wx, Below w.heap.size w wx → Calls Tryz.prog 70 #[.string t] wx (RPost wx (readR t))) := fun wx hx => readText_walk t wx (hw.up hx).tab (hw.up hx).err (hw.up hx).pow (by omega)
  have HPW : Hid (∀ wx, Below w.heap.size w wx → PowB wx.heap.size wx) := fun wx hx => (hw.up hx).pow
  clear hw hs ht
  have HB0 : Hid (∀ c, readR s = .inl c → chgB s t = false) := fun c h => by unfold chgB; rw [h]
  have HB1 : Hid (∀ c, readR t = .inl c → chgB s t = false) := fun c h => by unfold chgB; rw [h]; cases readR s <;> rfl
  cases hrs : readR s with
  | inl c =>
    obtain ⟨c1, c2⟩ := read_code hrs
    have HZ := hide (unhide HB0 c hrs)
    have t1 : ((c : Int) == 0) = false := by simp; omega
    have t2 : ((c : Int) != 0) = true := by simp; omega
    have t3 : ¬ (c : Int) = 0 := by omega
    have t4 : ¬ c = 0 := by omega
    rw [hrs] at H1
    clear hrs HB0 HB1
    cases hrt : readR t with
    | inl d =>
      rw [hrt] at H2
      clear hrt
      go_enter Tryz.func66, Tryz.ntmps66
      go_wp2_with fail
      refine (unhide H1).mono ?_
      rintro e w1 ⟨b1, rfl⟩
      have H3 := hide (unhide H2 w1 b1)
      have HBW := hide b1
      clear H1 H2 b1
      go_wp2_with fail
      refine (unhide H3).mono ?_
      rintro e w2 ⟨b2, rfl⟩
      have HB := hide (below_next (unhide HBW) b2)
      clear H3 b2
      go_wp2
      go_ret2
      exact ⟨unhide HB, fun _ => rfl, fun h => by rw [unhide HZ] at h; cases h⟩
    | inr b =>
      rw [hrt] at H2
      clear hrt
      go_enter Tryz.func66, Tryz.ntmps66
      go_wp2_with fail
      refine (unhide H1).mono ?_
      rintro e w1 ⟨b1, rfl⟩
      have H3 := hide (unhide H2 w1 b1)
      have HBW := hide b1
      clear H1 H2 b1
      go_wp2_with fail
      refine (unhide H3).mono ?_
      rintro e w2 ⟨b2, ty, q, rfl, -⟩
      have HB := hide (below_next (unhide HBW) b2)
      clear H3 b2
      go_wp2
      go_ret2
      exact ⟨unhide HB, fun _ => rfl, fun h => by rw [unhide HZ] at h; cases h⟩
  | inr a =>
    rw [hrs] at H1
    cases hrt : readR t with
    | inl d =>
      obtain ⟨c1, c2⟩ := read_code hrt
      have HZ := hide (unhide HB1 d hrt)
      have t1 : ((d : Int) == 0) = false := by simp; omega
      have t2 : ((d : Int) != 0) = true := by simp; omega
      have t3 : ¬ (d : Int) = 0 := by omega
      have t4 : ¬ d = 0 := by omega
      rw [hrt] at H2
      clear hrt hrs HB0 HB1
      go_enter Tryz.func66, Tryz.ntmps66
      go_wp2_with fail
      refine (unhide H1).mono ?_
      rintro e w1 ⟨b1, ty, q, rfl, -⟩
      have H3 := hide (unhide H2 w1 b1)
      have HBW := hide b1
      clear H1 H2 b1
      go_wp2_with fail
      refine (unhide H3).mono ?_
      rintro e w2 ⟨b2, rfl⟩
      have HB := hide (below_next (unhide HBW) b2)
      clear H3 b2
      go_wp2
      go_ret2
      exact ⟨unhide HB, fun _ => rfl, fun h => by rw [unhide HZ] at h; cases h⟩
    | inr b =>
      obtain ⟨_, hd, htw, _, _, hcn⟩ := read_facts hrs
      obtain ⟨hok, _, hln⟩ := doc_facts hd
      obtain ⟨_, hd', htw', _, _, hcn'⟩ := read_facts hrt
      obtain ⟨hok', _, hln'⟩ := doc_facts hd'
      have HZ : Hid (chgB s t = true) := by show _ = _; unfold chgB; rw [hrs, hrt]
      have HL : Hid (chgL s t = chF (max (depV a) (depV b)) [] a b) := by show _ = _; unfold chgL; rw [hrs, hrt]
      have HCI : Hid (∀ (v1 v2 : Value) (wx : World) (S1 S2 : Nat → Prop), Rep wx S1 a v1 → Rep wx S2 b v2 → Two wx wx.heap.size S1 S2 → Calls Tryz.prog 106 #[v1, v2] wx fun e w' => ∃ (r : Value) (zs : List Chg), e = .returned r ∧ CgR w' wx.heap.size r zs ∧ ZM zs (chF (max (depV a) (depV b)) [] a b) ∧ Below wx.heap.size wx w') := fun v1 v2 wx S1 S2 r1 r2 h2 => changesIn_walk a b v1 v2 wx S1 S2 _ hok hok' htw htw' (Nat.le_max_left _ _) (Nat.le_max_right _ _) (by omega) (by omega) (by omega) r1 r2 h2
      rw [hrt] at H2
      clear hrt hrs HB0 HB1 hd hd' htw htw' hcn hcn' hok hok' hln hln'
      go_enter Tryz.func66, Tryz.ntmps66
      go_wp2_with fail
      refine (unhide H1).mono ?_
      rintro e w1 ⟨b1, ty1, q1, rfl, rep1⟩
      have H3 := hide (unhide H2 w1 b1)
      have HBW := hide b1
      have HR1 := hide rep1
      clear H1 H2 b1 rep1
      go_wp2_with fail
      refine (unhide H3).mono ?_
      rintro e w2 ⟨b2, ty2, q2, rfl, rep2⟩
      have b02 := below_next (unhide HBW) b2
      have hz2 := b2.size
      have HC := hide (unhide HCI _ _ w2 (fun k => w.heap.size ≤ k ∧ k < w1.heap.size) _ (Rep.keep (fun k hk => b2.block k hk.2) (fun _ h => h) _ _ (unhide HR1)) rep2 ⟨fun k h1 h2 => by omega, fun k h1 => by omega, fun k h1 => h1.2, Nat.le_refl _, unhide HPW w2 b02⟩)
      have HB2 := hide b02
      clear H3 b2 rep2 HR1 HCI b02 hz2
      go_wp2_with fail
      refine (unhide HC).mono ?_
      rintro e w3 ⟨r, zs, rfl, o3, z3, b3⟩
      have HO := hide o3
      have HM := hide z3
      have HB := hide (below_next (unhide HB2) b3)
      clear HC o3 z3 b3
      go_wp2
      go_ret2
      exact ⟨unhide HB, fun h => (by rw [unhide HZ] at h; cases h), fun _ => ⟨r, zs, _, rfl, unhide HO, by rw [unhide HL]; exact unhide HM⟩⟩
set_option maxRecDepth 100000 in
set_option maxHeartbeats 2000000 in
theorem implChanges_walk (s t : ByteArray) (w : World) (hw : RdW w) (hs : s.size ≤ 1048576) (ht : t.size ≤ 1048576) :
    Calls Tryz.prog 30 #[.string s, .string t] w fun e w' => ∃ v, e = .returned (.tuple #[v, .bool (chgB s t)]) ∧ OT w' w.heap.size v (chgL s t) ∧ Below w.heap.size w w' := by
  have H1 := hide (changesOf_walk s t w hw hs ht)
  have hlen := chg_len s t
  have HE : Hid (chgB s t = false → chgL s t = []) := fun h => by
    revert h
    unfold chgB chgL
    cases readR s <;> cases readR t <;> simp
  clear hw hs ht
  go_enter Tryz.func30, Tryz.ntmps30
  go_wp2_with fail
  refine (unhide H1).mono ?_
  rintro e w1 ⟨b1, hno, hyes⟩
  have HB1 := hide b1
  have hz1 := b1.size
  cases hz : chgB s t with
  | false =>
    obtain rfl := hno hz
    have HL := hide (unhide HE hz)
    have HZ := hide hz
    clear hno hyes H1 HE hz b1
    go_wp2
    go_ret2
    exact ⟨_, by rw [unhide HZ]; rfl, by rw [unhide HL]; exact World.ownsRow_nil w1 w.heap.size 9 1, unhide HB1⟩
  | true =>
    obtain ⟨r, zs, B, rfl, o, z⟩ := hyes hz
    have hzl : zs.length = (chgL s t).length := by rw [← z.1, List.length_map]
    have HP := hide (ptrsOf_walk r zs w1 o (by omega) z.2)
    rw [z.1] at HP
    have HZ := hide hz
    clear hno hyes H1 HE hz o z hzl b1
    go_wp2_with fail
    refine (unhide HP).mono ?_
    rintro e w2 ⟨r2, rfl, o2, b2⟩
    have HO := hide (own_mono o2 hz1)
    have HB := hide (below_next (unhide HB1) b2)
    clear HP o2 b2
    go_wp2
    go_ret2
    exact ⟨r2, by rw [unhide HZ]; rfl, unhide HO, unhide HB⟩
end Go.Proofs.YtcjajchfjoffnaaGreatDoor

namespace Go.Proofs.YtcjajchfjoffnaaGreatDoor
open Go.RowKit

set_option maxRecDepth 100000 in
set_option maxHeartbeats 4000000 in
theorem changesLaw_in (s t : ByteArray) (w : World) (hw : RdW w) :
    Calls Tryz.prog 7 #[.string s, .string t] w fun e w' => e = .returned (.bool true) ∧ Below w.heap.size w w' := by
  by_cases hsz : s.size ≤ 1048576
  · by_cases htz : t.size ≤ 1048576
    · have hs1 : ¬ (1048576 : Int) < (s.size : Int) := by omega
      have hs2 : ¬ (1048576 : Int) < (t.size : Int) := by omega
      have hlen := chg_len s t
      have HS := hide (specChanges_walk s t w hsz htz)
      have HI : Hid (∀ w1, Below w.heap.size w w1 → Calls Tryz.prog 30 #[.string s, .string t] w1 fun e w' => ∃ v, e = .returned (.tuple #[v, .bool (chgB s t)]) ∧ OT w' w1.heap.size v (chgL s t) ∧ Below w1.heap.size w1 w') := fun w1 hb => implChanges_walk s t w1 (hw.up hb) hsz htz
      generalize chgB s t = ok at *
      generalize chgL s t = ts at *
      clear hw
      go_enter Tryz.func7, Tryz.ntmps7
      go_wp2_with fail
      refine (unhide HS).mono ?_
      rintro e w1 ⟨v0, rfl, o1, b1⟩
      have HC2 := hide (unhide HI w1 b1)
      have O1 := hide o1
      clear HS o1
      go_wp2_with fail
      refine (unhide HC2).mono ?_
      rintro e w2 ⟨v1, rfl, o2, b2⟩
      have HE := hide (eqT_walk v1 v0 ts w2 o2 (own_below (unhide O1) b2) (by omega))
      have O2 := hide o2
      clear HC2 o2
      go_wp2_with fail
      refine (unhide HE).mono ?_
      rintro e w3 ⟨rfl, n3, rfl⟩
      have b3 : Below w1.heap.size w1 (w2.drewN n3) := b2.trans (below_draws _ _ _)
      have o3 : (w2.drewN n3).ownsRow w1.heap.size 9 1 v1 ts.length (ts.map tokCell) := unhide O2
      have HM := hide (markS_walk w1.heap.size v1 ts.length 1 _ (w2.drewN n3) o3 b3.size (by omega) (Nat.le_refl _) (by omega))
      clear HE O2 o3
      generalize w2.drewN n3 = w3 at *
      go_wp2_with fail
      refine (unhide HM).mono ?_
      rintro e w4 ⟨rfl, o4, b4⟩
      have b4' := b3.trans b4
      have HH := hide (heldS_walk w1.heap.size v1 ts.length 1 w4 o4 (by omega) (Nat.le_refl _) (by omega))
      have O4 := hide o4
      clear HM o4 b4 b3 b2
      go_wp2_with fail
      refine (unhide HH).mono ?_
      rintro e w5 ⟨rfl, b5⟩
      have O5 := hide (own_below (unhide O4) b5)
      have b5' := b4'.trans (b5.mono b4'.size)
      have B5 := b1.trans (b5'.mono b1.size)
      clear HH O4 b4' b5
      have HC6 := hide (unhide HI w5 B5)
      go_wp2_with fail
      refine (unhide HC6).mono ?_
      rintro e w6 ⟨v6, rfl, o6, b6⟩
      have b6' := b5'.trans (b6.mono b5'.size)
      have HE := hide (eqT_walk v6 v0 ts w6 o6 (own_below (unhide O1) b6') (by omega))
      have O6 := hide (own_below (unhide O5) b6)
      clear HC6 o6 O5
      go_wp2_with fail
      refine (unhide HE).mono ?_
      rintro e w7 ⟨rfl, n7, rfl⟩
      have o7 : (w6.drewN n7).ownsRow w1.heap.size 9 1 v1 ts.length (marks 1 ts.length) := unhide O6
      have B7 : Below w.heap.size w (w6.drewN n7) := (B5.trans (b6.mono B5.size)).trans (below_draws _ _ _)
      have HH := hide (heldS_walk w1.heap.size v1 ts.length 1 (w6.drewN n7) o7 (by omega) (Nat.le_refl _) (by omega))
      clear HE O6 o7
      generalize w6.drewN n7 = w7 at *
      go_wp2_with fail
      refine (unhide HH).mono ?_
      rintro e w8 ⟨rfl, b8⟩
      have B8 := B7.trans (b8.mono B7.size)
      go_wp2
      go_ret
      exact ⟨rfl, B8⟩
    · have hs1 : ¬ (1048576 : Int) < (s.size : Int) := by omega
      have hs2 : (1048576 : Int) < (t.size : Int) := by omega
      clear hw
      go_enter Tryz.func7, Tryz.ntmps7
      go_wp2
      go_ret
      exact ⟨rfl, Below.refl _ _⟩
  · have hsz' : (1048576 : Int) < (s.size : Int) := by omega
    clear hw
    go_enter Tryz.func7, Tryz.ntmps7
    go_wp2
    go_ret
    exact ⟨rfl, Below.refl _ _⟩
/-- What the row's condition says of the tables. -/
def VarsOk (w : World) : Prop := Tabs w ∧ ErrB w.heap.size w ∧ PowB w.heap.size w
theorem tables_of {W : World} (hL : laidMetH Tryz.prog Rows.fnExactChangesRow.laid W) : VarsOk W := by
  have h : laidMet Tryz.prog laidAll W := hL
  exact ⟨tabs_at h, err_at h, pow_at h⟩
theorem changesLaw_walk (s t : ByteArray) (w : World) (hm : ML w) (h : VarsOk w) :
    Calls Tryz.prog 7 #[.string s, .string t] w fun e w' => e = .returned (.bool true) ∧ Below w.heap.size w w' := changesLaw_in s t w ⟨TabsB.of h.1, h.2.1, h.2.2, hm⟩
end Go.Proofs.YtcjajchfjoffnaaGreatDoor
