import Derived.Test.YtocnekbedcnmgaaGreatDoorBf28
import Derived.Test.YtocnekbedcnmgaaGreatDoorBf35
import Derived.Test.YtocnekbedcnmgaaGreatDoorBf1
import Derived.Test.YtocnekbedcnmgaaGreatDoorBf23
import Derived.Test.YtocnekbedcnmgaaGreatDoorBf34
namespace Go.Proofs.YtocnekbedcnmgaaGreatDoor
open Go.RowKit

theorem ac_all : ∀ n, AC n
  | 0 => fun P oa ob p ys lv v1 v2 w B S1 S2 ga gb hnn => by
    rcases hnn with h | h
    · obtain ⟨u, rfl⟩ := Option.ne_none_iff_exists'.1 h
      obtain ⟨_, _, d, _⟩ := ga
      have := (dep_cnt u).2
      omega
    · obtain ⟨u, rfl⟩ := Option.ne_none_iff_exists'.1 h
      obtain ⟨_, _, d, _⟩ := gb
      have := (dep_cnt u).2
      omega
  | n + 1 => ac_step n (items_walk n (ac_all n)) (members_walk n (ac_all n))
/-- What changesIn promises of two documents that have been read. -/
def CIn (f : FuncId) : Prop := ∀ (P : Chg → Prop) (a b : JV) (v1 v2 : Value) (w : World) (S1 S2 : Nat → Prop) (n : Nat), okV a → okV b → twV a = false → twV b = false → depV a ≤ n → depV b ≤ n → (ct a).length ≤ 1000000 → (ct b).length ≤ 1000000 → cntV a + cntV b ≤ 1000000 →
  Rep w S1 a v1 → Rep w S2 b v2 → Two w w.heap.size S1 S2 → PW P w S1 S2 [] (some a) (some b) →
  Calls Tryz.prog f #[v1, v2] w fun e w' => ∃ (r : Value) (zs : List Chg), e = .returned r ∧ CgR w' w.heap.size r zs ∧ ZM P zs (chF n [] a b) ∧ Below w.heap.size w w'
set_option maxRecDepth 100000 in
set_option maxHeartbeats 2000000 in
theorem changesIn_walk : CIn 95 := by
  intro P a b v1 v2 w S1 S2 n oka okb twa twb da db la lb hcn h1 h2 htw hpw
  have HA := hide (ac_all n P (some a) (some b) [] [] (.slice none 0 0) v1 v2 w w.heap.size S1 S2 ⟨oka, twa, da, la, by simp; omega⟩ ⟨okb, twb, db, lb, by simp; omega⟩ (.inl (by simp)) (by simp) (by simp only [cntO, List.length_nil]; omega) (World.ownsRow_nil w w.heap.size 78 3) h1 h2 htw hpw)
  obtain ⟨t1, q1, rfl⟩ := rep_iface h1
  obtain ⟨t2, q2, rfl⟩ := rep_iface h2
  have HE : Hid (chO n [] (some a) (some b) = chF n [] a b) := rfl
  have he : strOf [] = ⟨#[]⟩ := rfl
  rw [he] at HA
  clear hpw h1 h2 htw oka okb twa twb da db la lb hcn he
  generalize chO n [] (some a) (some b) = L1 at *
  generalize chF n [] a b = L2 at *
  go_enter Tryz.func95, Tryz.ntmps95
  go_wp2_with fail
  refine (unhide HA).mono ?_
  rintro e w2 ⟨r, zs, rfl, o2, z2, f2⟩
  have HO : Hid (CgR w2 w.heap.size r zs) := o2
  have HZ := hide z2
  have HB := hide f2.1
  clear HA o2 z2 f2
  go_wp2
  go_ret
  exact ⟨r, zs, rfl, unhide HO, by rw [← unhide HE]; exact unhide HZ, unhide HB⟩
end Go.Proofs.YtocnekbedcnmgaaGreatDoor


namespace Go.Proofs.YtocnekbedcnmgaaGreatDoor
open Go.RowKit

/-- What a change holds: what lies at its place in the one value and in the other. -/
def DG (w : World) (a b : JV) (z : Chg) : Prop := ∃ ts, z.1 = addP [] ts ∧ RepO w (fun k => k < w.heap.size) (getV a ts) z.2.1 ∧ RepO w (fun k => k < w.heap.size) (getV b ts) z.2.2
theorem DG.up {w w' : World} {a b : JV} {z : Chg} (h : DG w a b z) (hb : Below w.heap.size w w') : DG w' a b z := by
  obtain ⟨ts, h1, h2, h3⟩ := h
  exact ⟨ts, h1, h2.keep (fun k hk => hb.block k hk) (fun k hk => Nat.lt_of_lt_of_le hk hb.size), h3.keep (fun k hk => hb.block k hk) (fun k hk => Nat.lt_of_lt_of_le hk hb.size)⟩
/-- What changesOf answers. -/
def COP (s t : ByteArray) (w : World) (e : Ending) (w' : World) : Prop := Below w.heap.size w w' ∧ (chgB s t = false → e = .returned (.tuple #[.slice none 0 0, .bool false])) ∧
  (chgB s t = true → ∃ (r : Value) (zs : List Chg) (B : Nat) (a b : JV), e = .returned (.tuple #[r, .bool true]) ∧ CgR w' B r zs ∧ readR s = .inr a ∧ readR t = .inr b ∧ ZM (DG w' a b) zs (chgL s t))
set_option maxRecDepth 100000 in
set_option maxHeartbeats 2000000 in
theorem changesOf_walk (s t : ByteArray) (w : World) (hw : RdW w) (hs : s.size ≤ 1048576) (ht : t.size ≤ 1048576) :
    Calls Tryz.prog 44 #[.string s, .string t] w (COP s t w) := by
  have H1 := hide (readText_walk s w hw.tab hw.err hw.pow (by omega))
  have H2 : Hid (∀ wx, Below w.heap.size w wx → Calls Tryz.prog 37 #[.string t] wx (RPost wx (readR t))) := fun wx hx => readText_walk t wx (hw.up hx).tab (hw.up hx).err (hw.up hx).pow (by omega)
  have HPW : Hid (∀ wx, Below w.heap.size w wx → PowB wx.heap.size wx) := fun wx hx => (hw.up hx).pow
  clear hw hs ht
  have HB0 : Hid (∀ c, readR s = .inl c → chgB s t = false) := fun c h => by unfold chgB; rw [h]
  have HB1 : Hid (∀ c, readR t = .inl c → chgB s t = false) := fun c h => by unfold chgB; rw [h]; cases readR s <;> rfl
  cases hrs : readR s with
  | inl c =>
    obtain ⟨c1, c2⟩ := read_code hrs
    have HZ := hide (unhide HB0 c hrs)
    have t1 : ((c : Int) == 0) = false := by simp; omega
    have t2 : ((c : Int) != 0) = true := by simp; omega
    have t3 : ¬ (c : Int) = 0 := by omega
    have t4 : ¬ c = 0 := by omega
    rw [hrs] at H1
    clear hrs HB0 HB1
    cases hrt : readR t with
    | inl d =>
      rw [hrt] at H2
      clear hrt
      go_enter Tryz.func44, Tryz.ntmps44
      go_wp2_with fail
      refine (unhide H1).mono ?_
      rintro e w1 ⟨b1, rfl⟩
      have H3 := hide (unhide H2 w1 b1)
      have HBW := hide b1
      clear H1 H2 b1
      go_wp2_with fail
      refine (unhide H3).mono ?_
      rintro e w2 ⟨b2, rfl⟩
      have HB := hide (below_next (unhide HBW) b2)
      clear H3 b2
      go_wp2
      go_ret2
      exact ⟨unhide HB, fun _ => rfl, fun h => by rw [unhide HZ] at h; cases h⟩
    | inr b =>
      rw [hrt] at H2
      clear hrt
      go_enter Tryz.func44, Tryz.ntmps44
      go_wp2_with fail
      refine (unhide H1).mono ?_
      rintro e w1 ⟨b1, rfl⟩
      have H3 := hide (unhide H2 w1 b1)
      have HBW := hide b1
      clear H1 H2 b1
      go_wp2_with fail
      refine (unhide H3).mono ?_
      rintro e w2 ⟨b2, ty, q, rfl, -⟩
      have HB := hide (below_next (unhide HBW) b2)
      clear H3 b2
      go_wp2
      go_ret2
      exact ⟨unhide HB, fun _ => rfl, fun h => by rw [unhide HZ] at h; cases h⟩
  | inr a =>
    rw [hrs] at H1
    cases hrt : readR t with
    | inl d =>
      obtain ⟨c1, c2⟩ := read_code hrt
      have HZ := hide (unhide HB1 d hrt)
      have t1 : ((d : Int) == 0) = false := by simp; omega
      have t2 : ((d : Int) != 0) = true := by simp; omega
      have t3 : ¬ (d : Int) = 0 := by omega
      have t4 : ¬ d = 0 := by omega
      rw [hrt] at H2
      clear hrt hrs HB0 HB1
      go_enter Tryz.func44, Tryz.ntmps44
      go_wp2_with fail
      refine (unhide H1).mono ?_
      rintro e w1 ⟨b1, ty, q, rfl, -⟩
      have H3 := hide (unhide H2 w1 b1)
      have HBW := hide b1
      clear H1 H2 b1
      go_wp2_with fail
      refine (unhide H3).mono ?_
      rintro e w2 ⟨b2, rfl⟩
      have HB := hide (below_next (unhide HBW) b2)
      clear H3 b2
      go_wp2
      go_ret2
      exact ⟨unhide HB, fun _ => rfl, fun h => by rw [unhide HZ] at h; cases h⟩
    | inr b =>
      obtain ⟨_, hd, htw, _, _, hcn⟩ := read_facts hrs
      obtain ⟨hok, _, hln⟩ := doc_facts hd
      obtain ⟨_, hd', htw', _, _, hcn'⟩ := read_facts hrt
      obtain ⟨hok', _, hln'⟩ := doc_facts hd'
      have HZ : Hid (chgB s t = true) := by show _ = _; unfold chgB; rw [hrs, hrt]
      have HL : Hid (chgL s t = chF (max (depV a) (depV b)) [] a b) := by show _ = _; unfold chgL; rw [hrs, hrt]
      have HCI : Hid (∀ (v1 v2 : Value) (wx : World) (S1 S2 : Nat → Prop), Rep wx S1 a v1 → Rep wx S2 b v2 → Two wx wx.heap.size S1 S2 → Calls Tryz.prog 95 #[v1, v2] wx fun e w' => ∃ (r : Value) (zs : List Chg), e = .returned r ∧ CgR w' wx.heap.size r zs ∧ ZM (DG wx a b) zs (chF (max (depV a) (depV b)) [] a b) ∧ Below wx.heap.size wx w') := fun v1 v2 wx S1 S2 r1 r2 h2 => changesIn_walk (DG wx a b) a b v1 v2 wx S1 S2 _ hok hok' htw htw' (Nat.le_max_left _ _) (Nat.le_max_right _ _) (by omega) (by omega) (by omega) r1 r2 h2 (fun ts v1 v2 q1 q2 => ⟨ts, rfl, RepO.keep (fun _ _ => rfl) (fun k hk => h2.lt1 k hk) q1, RepO.keep (fun _ _ => rfl) (fun k hk => h2.lt2 k hk) q2⟩)
      have HRS := hide hrs
      have HRT := hide hrt
      rw [hrt] at H2
      clear hrt hrs HB0 HB1 hd hd' htw htw' hcn hcn' hok hok' hln hln'
      go_enter Tryz.func44, Tryz.ntmps44
      go_wp2_with fail
      refine (unhide H1).mono ?_
      rintro e w1 ⟨b1, ty1, q1, rfl, rep1⟩
      have H3 := hide (unhide H2 w1 b1)
      have HBW := hide b1
      have HR1 := hide rep1
      clear H1 H2 b1 rep1
      go_wp2_with fail
      refine (unhide H3).mono ?_
      rintro e w2 ⟨b2, ty2, q2, rfl, rep2⟩
      have b02 := below_next (unhide HBW) b2
      have hz2 := b2.size
      have HC := hide (unhide HCI _ _ w2 (fun k => w.heap.size ≤ k ∧ k < w1.heap.size) _ (Rep.keep (fun k hk => b2.block k hk.2) (fun _ h => h) _ _ (unhide HR1)) rep2 ⟨fun k h1 h2 => by omega, fun k h1 => by omega, fun k h1 => h1.2, Nat.le_refl _, unhide HPW w2 b02⟩)
      have HB2 := hide b02
      clear H3 b2 rep2 HR1 HCI b02 hz2
      go_wp2_with fail
      refine (unhide HC).mono ?_
      rintro e w3 ⟨r, zs, rfl, o3, z3, b3⟩
      have HO := hide o3
      have HM := hide (z3.mono fun z hz => hz.up b3)
      have HB := hide (below_next (unhide HB2) b3)
      clear HC o3 z3 b3
      go_wp2
      go_ret2
      exact ⟨unhide HB, fun h => (by rw [unhide HZ] at h; cases h), fun _ => ⟨r, zs, _, a, b, rfl, unhide HO, unhide HRS, unhide HRT, by rw [unhide HL]; exact unhide HM⟩⟩
end Go.Proofs.YtocnekbedcnmgaaGreatDoor

