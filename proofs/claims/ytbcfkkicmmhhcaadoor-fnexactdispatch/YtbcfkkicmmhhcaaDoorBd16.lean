import Derived.Test.YtbcfkkicmmhhcaaDoorBd15
import Derived.Test.YtbcfkkicmmhhcaaDoorBd14
namespace Go.Proofs.YtbcfkkicmmhhcaaDoor
open Go.RowKit

/-- The texts that mark a row, from k on. -/
def mkS (k n : Nat) : List ByteArray := (List.range n).map fun j => mkText (k + j)
theorem mkS_len (k n : Nat) : (mkS k n).length = n := by simp [mkS]
theorem mkS_at {k n j : Nat} (h : j < n) : (mkS k n)[j]? = some (mkText (k + j)) := by simp [mkS, h]
/-- A row under way: its first j texts marked. -/
def mkAt (k : Nat) (ss : List ByteArray) (j : Nat) : List ByteArray := mkS k j ++ ss.drop j
theorem mkAt_len (k : Nat) (ss : List ByteArray) {j : Nat} (h : j ≤ ss.length) : (mkAt k ss j).length = ss.length := by unfold mkAt; rw [List.length_append, mkS_len, List.length_drop]; omega
theorem mkAt_set (k : Nat) (ss : List ByteArray) {j : Nat} (h : j < ss.length) : (mkAt k ss j).set j (mkText (k + j)) = mkAt k ss (j + 1) := by
  unfold mkAt
  rw [List.set_append_right _ _ (by rw [mkS_len]; omega), mkS_len, Nat.sub_self, List.drop_eq_getElem_cons h, List.set_cons_zero]
  unfold mkS
  rw [List.range_succ, List.map_append, List.append_assoc]; rfl
theorem mkAt_0 (k : Nat) (ss : List ByteArray) : mkAt k ss 0 = ss := by simp [mkAt, mkS]
theorem mkAt_all (k : Nat) (ss : List ByteArray) : mkAt k ss ss.length = mkS k ss.length := by simp [mkAt]

set_option maxHeartbeats 400000 in
theorem markStr_walk (v : Value) (ss : List ByteArray) (bl : List Nat) (k0 : Nat) (w : World) (hv : OStr w v ss bl) (hd : bl.Nodup) (hn : ss.length ≤ 268435456) (h1 : 1 ≤ k0) (h2 : k0 ≤ 1099200000000) :
    Calls Tryd.prog 76 #[v, .int .i64 k0] w fun e w' => e = .returned (.int .i64 (k0 + ss.length : Nat)) ∧ OStr w' v (mkS k0 ss.length) bl ∧ Fr bl w w' := by
  obtain ⟨a, cap, rfl, _, hsh⟩ := hv.form
  have HV := hide hv
  have HD := hide hd
  clear hv hd
  go_enter Tryd.func76, Tryd.ntmps76
  go_wp2
  go_loopw [1, 5] (fun q i wr => ∃ (j : Nat), j ≤ ss.length ∧ i = .int .i64 j ∧ q = .int .i64 (k0 + j : Nat) ∧ Fr bl w wr ∧ OStr wr (.slice a ss.length cap) (mkAt k0 ss j) bl) (fun _ i _ => ss.length - (intOf i).toNat)
  case atStart => exact ⟨0, Nat.zero_le _, rfl, rfl, Fr.refl _ _, by rw [mkAt_0]; exact unhide HV⟩
  case round =>
    obtain ⟨j, hj, rfl, rfl, hb, ho⟩ := hrel
    by_cases hlt : j < ss.length
    · obtain ⟨g, rfl⟩ := hsh (by omega)
      have HC := hide (mark_walk (k0 + j) wr (by omega) (by omega))
      have hl := mkAt_len k0 ss (Nat.le_of_lt hlt)
      have HS := hide (mkAt_set k0 ss hlt)
      have HO := hide ho
      have HF := hide hb
      have HL := hide hl
      clear ho hb hl
      go_wp2_with fail
      refine (unhide HC).mono ?_
      rintro e w1 ⟨rfl, b1⟩
      have ho := (unhide HO).below b1
      obtain ⟨vs, ib, hE, hc, _, hg, _⟩ := ho.at (List.getElem?_eq_getElem (show j < (mkAt k0 ss j).length by rw [unhide HL]; exact hlt))
      obtain ⟨rfl, rfl⟩ := hE
      have c0 := (hc 0 _ rfl).1
      have f0 := (hc 0 _ rfl).2
      rw [show j * strE.wd + 0 = j from by simp [strE]] at c0 f0
      have hp := ho.put (unhide HD) (List.getElem?_eq_getElem (show j < (mkAt k0 ss j).length by rw [unhide HL]; exact hlt)) 0 (by decide) (.string (mkText (k0 + j))) (mkText (k0 + j)) (fun w' vs ib h => ⟨by rw [h.1]; rfl, h.2⟩)
      rw [unhide HS] at hp
      have hp' : OStr (w1.setCell ⟨g, j, none⟩ (.string (mkText (k0 + j)))) (.slice (some ⟨g, 0, none⟩) ss.length cap) (mkAt k0 ss (j + 1)) bl := by
        rw [show j * strE.wd + 0 = j from by simp [strE]] at hp; exact hp
      have HP := hide hp'
      have HF1 := hide (((unhide HF).next b1).set hg j (.string (mkText (k0 + j))))
      clear hp hp' ho hc b1 HC HO HF hg
      go_wp2
      go_roundw
      case rel => exact ⟨j + 1, by omega, by go_num, by go_num, unhide HF1, unhide HP⟩
      case measure => simp [intOf]; omega
    · have hjn : j = ss.length := by omega
      subst hjn
      rw [mkAt_all] at ho
      go_wp2
      go_ret
      exact ⟨rfl, ho, hb⟩
theorem marks_mkS (k n : Nat) : (mkS k n).map Value.string = marks k n := by simp [mkS, marks]
theorem heldStr_walk (v : Value) (bl : List Nat) (n k0 : Nat) (w : World) (hv : OStr w v (mkS k0 n) bl) (hn : n ≤ 268435456) (h1 : 1 ≤ k0) (h2 : k0 ≤ 1099200000000) :
    Calls Tryd.prog 78 #[v, .int .i64 k0] w fun e w' => e = .returned (.int .i64 (k0 + n : Nat)) ∧ Below w.heap.size w w' := by
  have h := (ostr_iff.1 hv).1
  rw [mkS_len, marks_mkS] at h
  exact heldS_walk 0 v n k0 w h hn h1 h2

/-- Rows marked from k on, by what marks an element and how many marks it takes. -/
def mkRow {α : Type} (f : Nat → α → α) (c : α → Nat) : Nat → List α → List α
  | _, [] => []
  | k, x :: r => f k x :: mkRow f c (k + c x) r
def cntR {α : Type} (c : α → Nat) (l : List α) : Nat := (l.map c).sum
theorem mkRow_len {α : Type} (f : Nat → α → α) (c : α → Nat) : ∀ (l : List α) (k : Nat), (mkRow f c k l).length = l.length
  | [], _ => rfl
  | x :: r, k => by rw [mkRow, List.length_cons, mkRow_len f c r, List.length_cons]
theorem mkRow_snoc {α : Type} (f : Nat → α → α) (c : α → Nat) (x : α) : ∀ (l : List α) (k : Nat), mkRow f c k (l ++ [x]) = mkRow f c k l ++ [f (k + cntR c l) x]
  | [], k => by simp [mkRow, cntR]
  | y :: r, k => by
    rw [List.cons_append, mkRow, mkRow, mkRow_snoc f c x r, List.cons_append]
    unfold cntR
    rw [List.map_cons, List.sum_cons, Nat.add_assoc]
/-- A row under way. -/
def mkRowAt {α : Type} (f : Nat → α → α) (c : α → Nat) (k : Nat) (l : List α) (j : Nat) : List α := mkRow f c k (l.take j) ++ l.drop j
section
variable {α : Type} {f : Nat → α → α} {c : α → Nat} {k : Nat} {l : List α} {j : Nat}
theorem mkRowAt_0 : mkRowAt f c k l 0 = l := by simp [mkRowAt, mkRow]
theorem mkRowAt_all : mkRowAt f c k l l.length = mkRow f c k l := by simp [mkRowAt]
theorem mkRowAt_at (h : j < l.length) : (mkRowAt f c k l j)[j]? = some l[j] := by
  have hl : (mkRow f c k (l.take j)).length = j := by rw [mkRow_len, List.length_take]; omega
  unfold mkRowAt
  rw [List.getElem?_append_right (by omega), hl, Nat.sub_self, List.getElem?_drop]
  simp [h]
theorem mkRowAt_set (h : j < l.length) (x : α) : (mkRowAt f c k l j).set j x = mkRow f c k (l.take j) ++ x :: l.drop (j + 1) := by
  have hl : (mkRow f c k (l.take j)).length = j := by rw [mkRow_len, List.length_take]; omega
  unfold mkRowAt
  rw [List.set_append_right _ _ (by omega), hl, Nat.sub_self, List.drop_eq_getElem_cons h, List.set_cons_zero]
theorem mkRowAt_succ (h : j < l.length) : mkRow f c k (l.take j) ++ f (k + cntR c (l.take j)) l[j] :: l.drop (j + 1) = mkRowAt f c k l (j + 1) := by
  unfold mkRowAt
  rw [List.take_succ_eq_append_getElem h, mkRow_snoc, List.append_assoc]; rfl
theorem cnt_succ (h : j < l.length) : cntR c (l.take (j + 1)) = cntR c (l.take j) + c l[j] := by
  exact sum_take_snoc c l j l[j] (List.getElem?_eq_getElem h)
theorem cnt_le : cntR c (l.take j) ≤ cntR c l := by
  unfold cntR
  rw [List.map_take]; exact sum_take_le _ _
theorem mkRow_at (h : j < l.length) : (mkRow f c k l)[j]? = some (f (k + cntR c (l.take j)) l[j]) := by
  induction l generalizing j k with
  | nil => simp at h
  | cons x r ih =>
    cases j with
    | zero => simp [mkRow, cntR]
    | succ j =>
      rw [mkRow, List.getElem?_cons_succ, ih (by simpa using h), List.take_succ_cons, List.getElem_cons_succ]
      unfold cntR
      rw [List.map_cons, List.sum_cons, Nat.add_assoc]
theorem mid_at {A B : List α} {x : α} (h : A.length = j) : (A ++ x :: B)[j]? = some x := by
  rw [List.getElem?_append_right (by omega), h, Nat.sub_self]; rfl
theorem mid_set {A B : List α} {x : α} (h : A.length = j) (y : α) : (A ++ x :: B).set j y = A ++ y :: B := by
  rw [List.set_append_right _ _ (by omega), h, Nat.sub_self, List.set_cons_zero]
theorem cell_set_off (w : World) (g i j : Nat) (v : Value) (h : i ≠ j) : (w.setCell ⟨g, i, none⟩ v).cell? ⟨g, j, none⟩ = w.cell? ⟨g, j, none⟩ := World.cell?_setCell_other _ _ _ _ (by intro e; injection e with _ e; exact h e)
theorem mkRow_take_len (h : j < l.length) : (mkRow f c k (l.take j)).length = j := by rw [mkRow_len, List.length_take]; omega
end
def cntMsg (m : Msg) : Nat := m.ptrs.length + 2
def mkMsg (k : Nat) (m : Msg) : Msg := ⟨(k : Int), mkS (k + 1) m.ptrs.length, ((k : Int) + 1 + (m.ptrs.length : Int)) % 3 == 0⟩

set_option maxHeartbeats 800000 in
theorem markMsgs_walk (v : Value) (ms : List Msg) (bl : List Nat) (k0 : Nat) (w : World) (hv : ORow msgE w v ms bl) (hd : bl.Nodup) (hn : szMsgs ms ≤ 268435456) (h2 : k0 + cntR cntMsg ms ≤ 1099200000000) :
    Calls Tryd.prog 75 #[v, .int .i64 k0] w fun e w' => e = .returned (.int .i64 (k0 + cntR cntMsg ms : Nat)) ∧ ORow msgE w' v (mkRow mkMsg cntMsg k0 ms) bl ∧ Fr bl w w' := by
  have hln : ms.length ≤ 268435456 := by unfold szMsgs at hn; omega
  have hsz : ∀ k (hk : k < ms.length), ms[k].ptrs.length ≤ 268435456 := fun k hk => by
    have h1 := sum_take_snoc szMsg ms k ms[k] (List.getElem?_eq_getElem hk)
    have h2 := sum_take_le (ms.map szMsg) (k + 1)
    rw [← List.map_take] at h2
    unfold szMsgs at hn
    have h3 : ms[k].ptrs.length ≤ szMsg ms[k] := by unfold szMsg szStr; omega
    omega
  have HSZ := hide hsz
  obtain ⟨a, cap, rfl, hform, hsh⟩ := hv.form
  clear hform
  have HV := hide hv
  have HD := hide hd
  clear hv hd hn hsz
  go_enter Tryd.func75, Tryd.ntmps75
  go_wp2
  go_loopw [1, 5] (fun q i wr => ∃ (j : Nat), j ≤ ms.length ∧ i = .int .i64 j ∧ q = .int .i64 (k0 + cntR cntMsg (ms.take j) : Nat) ∧ Fr bl w wr ∧ ORow msgE wr (.slice a ms.length cap) (mkRowAt mkMsg cntMsg k0 ms j) bl) (fun _ i _ => ms.length - (intOf i).toNat)
  case atStart => exact ⟨0, Nat.zero_le _, rfl, by simp [cntR], Fr.refl _ _, by rw [mkRowAt_0]; exact unhide HV⟩
  case round =>
    obtain ⟨j, hj, rfl, rfl, hb, ho⟩ := hrel
    by_cases hlt : j < ms.length
    · obtain ⟨g, rfl⟩ := hsh (by omega)
      have hle := cnt_le (c := cntMsg) (l := ms) (j := j)
      have hle2 := cnt_le (c := cntMsg) (l := ms) (j := j + 1)
      rw [cnt_succ hlt] at hle2
      have hcm : cntMsg ms[j] = ms[j].ptrs.length + 2 := rfl
      have hpl := unhide HSZ j hlt
      have hs := cnt_succ (c := cntMsg) hlt
      have hnx := mkRowAt_succ (f := mkMsg) (c := cntMsg) (k := k0) hlt
      have hset := fun x => mkRowAt_set (f := mkMsg) (c := cntMsg) (k := k0) hlt x
      have hat := mkRowAt_at (f := mkMsg) (c := cntMsg) (k := k0) hlt
      generalize hK : k0 + cntR cntMsg (ms.take j) = K at *
      generalize ms[j] = m at *
      -- the version is marked
      obtain ⟨vs, ib, hE, hc, hx1, hg, hx2⟩ := ho.at hat
      clear hx1 hx2
      obtain ⟨q, rfl, hq⟩ := hE
      have c0 : wr.cell? ⟨g, j * 3, none⟩ = _ := (hc 0 _ rfl).1
      have f0 : wr.frozen? ⟨g, j * 3, none⟩ = _ := (hc 0 _ rfl).2
      have c1 : wr.cell? ⟨g, j * 3 + 1, none⟩ = _ := (hc 1 _ rfl).1
      have p1 : ORow msgE (wr.setCell ⟨g, j * 3, none⟩ (.int .i64 (K : Int))) _ _ bl := ho.put (unhide HD) hat 0 (by decide) (.int .i64 (K : Int)) ⟨(K : Int), m.ptrs, m.over⟩ (fun w' vs ib h => by obtain ⟨q, rfl, h⟩ := h; exact ⟨q, rfl, h⟩)
      rw [hset] at p1
      have fr1 := hb.set hg (j * 3) (.int .i64 (K : Int))
      have hA := mkRow_take_len (f := mkMsg) (c := cntMsg) (k := k0) hlt
      generalize mkRow mkMsg cntMsg k0 (ms.take j) = A at *
      generalize ms.drop (j + 1) = B at *
      -- the pointers
      obtain ⟨vs', jb, hE', hc', hjs, hx1, hjd, hclose⟩ := p1.inner (unhide HD) (mid_at hA)
      obtain ⟨q', rfl, hq'⟩ := hE'
      have c1' : (wr.setCell ⟨g, j * 3, none⟩ (.int .i64 (K : Int))).cell? ⟨g, j * 3 + 1, none⟩ = _ := (hc' 1 _ rfl).1
      have hqq : q' = q := by
        rw [cell_set_off _ _ _ _ _ (by omega)] at c1'
        rw [c1] at c1'; exact (Option.some.inj c1').symm
      subst hqq
      have HM := hide (markStr_walk q' m.ptrs jb (K + 1) (wr.setCell ⟨g, j * 3, none⟩ (.int .i64 (K : Int))) hq' hjd hpl (by omega) (by omega))
      have HFR := hide fr1
      have HCL := hide hclose
      have HJS := hide hjs
      have HHG := hide hg
      have HNX := hide hnx
      have HS := hide hs
      have HA := hide hA
      have HK := hide hK
      have HLE := hide hle2
      have hKb : K ≤ 1099200000000 := by omega
      clear ho hb hc hc' p1 fr1 hclose hq hq' hjs hjd c1' hset hat hg hnx hs hA hK hle hle2 hcm h2 hx1 hsh
      go_wp2_with fail
      refine (unhide HM).mono ?_
      rintro e w2 ⟨rfl, ho2, fr2⟩
      have o2 := unhide HCL w2 ⟨(K : Int), mkS (K + 1) m.ptrs.length, m.over⟩ fr2 ⟨q', rfl, ho2⟩
      rw [mid_set (unhide HA)] at o2
      obtain ⟨vs2, kb, hE2, hc2, _, hg, _⟩ := o2.at (mid_at (unhide HA))
      obtain ⟨q2, rfl, _⟩ := hE2
      have c2 : w2.cell? ⟨g, j * 3 + 2, none⟩ = _ := (hc2 2 _ rfl).1
      have f2 : w2.frozen? ⟨g, j * 3 + 2, none⟩ = _ := (hc2 2 _ rfl).2
      have p2 : ORow msgE (w2.setCell ⟨g, j * 3 + 2, none⟩ (.bool (((K : Int) + 1 + (m.ptrs.length : Int)) % 3 == 0))) _ _ bl := o2.put (unhide HD) (mid_at (unhide HA)) 2 (by decide) (.bool (((K : Int) + 1 + (m.ptrs.length : Int)) % 3 == 0)) (mkMsg K m) (fun w' vs ib h => by obtain ⟨q, rfl, h⟩ := h; exact ⟨q, rfl, h⟩)
      rw [mid_set (unhide HA), unhide HNX] at p2
      have HP2 := hide p2
      have HFR2 := hide (((unhide HFR).trans (fr2.mono (unhide HJS))).set hg (j * 3 + 2) (.bool (((K : Int) + 1 + (m.ptrs.length : Int)) % 3 == 0)))
      clear HM HCL HFR HJS ho2 fr2 o2 hc2 p2 hg c0 c1 f0
      go_wp2
      go_roundw
      case rel =>
        have hk1 := unhide HK
        have hk2 := unhide HS
        have hk3 : cntMsg m = m.ptrs.length + 2 := rfl
        exact ⟨j + 1, by omega, by go_num, by rw [hk2, hk3, ← hk1]; go_num, unhide HFR2, unhide HP2⟩
      case measure => simp [intOf]; omega
    · have hjn : j = ms.length := by omega
      subst hjn
      rw [mkRowAt_all] at ho
      rw [List.take_length]
      go_wp2
      go_ret
      exact ⟨rfl, ho, hb⟩
set_option maxHeartbeats 800000 in
theorem heldMsgs_walk (v : Value) (ms : List Msg) (bl : List Nat) (k0 : Nat) (w : World) (hv : ORow msgE w v (mkRow mkMsg cntMsg k0 ms) bl) (hn : szMsgs ms ≤ 268435456) (h2 : k0 + cntR cntMsg ms ≤ 1099200000000) :
    Calls Tryd.prog 77 #[v, .int .i64 k0] w fun e w' => e = .returned (.int .i64 (k0 + cntR cntMsg ms : Nat)) ∧ Below w.heap.size w w' := by
  have hln : ms.length ≤ 268435456 := by unfold szMsgs at hn; omega
  have hsz : ∀ k (hk : k < ms.length), ms[k].ptrs.length ≤ 268435456 := fun k hk => by
    have h1 := sum_take_snoc szMsg ms k ms[k] (List.getElem?_eq_getElem hk)
    have h2 := sum_take_le (ms.map szMsg) (k + 1)
    rw [← List.map_take] at h2
    unfold szMsgs at hn
    have h3 : ms[k].ptrs.length ≤ szMsg ms[k] := by unfold szMsg szStr; omega
    omega
  have HSZ := hide hsz
  obtain ⟨a, cap, rfl, hform, hsh⟩ := hv.form
  rw [mkRow_len] at hsh
  have HV := hide hv
  have HSH := hide hsh
  rw [mkRow_len] at HV ⊢
  clear hv hn hsz hform hsh
  go_enter Tryd.func77, Tryd.ntmps77
  go_wp2
  go_loopw [1, 5] (fun q i wr => ∃ (j : Nat), j ≤ ms.length ∧ i = .int .i64 j ∧ q = .int .i64 (k0 + cntR cntMsg (ms.take j) : Nat) ∧ Below w.heap.size w wr) (fun _ i _ => ms.length - (intOf i).toNat)
  case atStart => exact ⟨0, Nat.zero_le _, rfl, by simp [cntR], Below.refl _ _⟩
  case round =>
    obtain ⟨j, hj, rfl, rfl, hb⟩ := hrel
    by_cases hlt : j < ms.length
    · obtain ⟨g, rfl⟩ := unhide HSH (by omega)
      have hle2 := cnt_le (c := cntMsg) (l := ms) (j := j + 1)
      rw [cnt_succ hlt] at hle2
      have hcm : cntMsg ms[j] = ms[j].ptrs.length + 2 := rfl
      have hpl := unhide HSZ j hlt
      have hs := cnt_succ (c := cntMsg) hlt
      have hat := mkRow_at (f := mkMsg) (c := cntMsg) (k := k0) hlt
      generalize hK : k0 + cntR cntMsg (ms.take j) = K at *
      generalize ms[j] = m at *
      obtain ⟨vs, ib, hE, hc, hx1, hg, hx2⟩ := ((unhide HV).below hb).at hat
      obtain ⟨q, rfl, hq⟩ := hE
      have c0 : wr.cell? ⟨g, j * 3, none⟩ = some (.int .i64 (K : Int)) := (hc 0 _ rfl).1
      have c1 : wr.cell? ⟨g, j * 3 + 1, none⟩ = some q := (hc 1 _ rfl).1
      have c2 : wr.cell? ⟨g, j * 3 + 2, none⟩ = some (.bool (((K : Int) + 1 + (m.ptrs.length : Int)) % 3 == 0)) := (hc 2 _ rfl).1
      have HM : Hid (Calls _ _ _ _ _) := heldStr_walk q ib m.ptrs.length (K + 1) wr hq hpl (by omega) (by omega)
      have HB := hide hb
      have HS := hide hs
      have HK := hide hK
      have hKb : K ≤ 1099200000000 := by omega
      have hgr : g < wr.heap.size := World.block_lt_of_cell? _ _ c0
      clear hx1 hx2 hc hq hb hat hle2 hcm hs hK hg h2
      go_wp2_with fail
      refine (unhide HM).mono ?_
      rintro e w2 ⟨rfl, b2⟩
      have c2' : w2.cell? ⟨g, j * 3 + 2, none⟩ = some (.bool (((K : Int) + 1 + (m.ptrs.length : Int)) % 3 == 0)) := (b2.cell (p := ⟨g, j * 3 + 2, none⟩) hgr).trans c2
      have HB2 := hide (below_next (unhide HB) b2)
      clear HM HB b2 c0 c1 c2
      go_wp2
      go_roundw
      case rel =>
        have hk1 := unhide HK
        have hk2 := unhide HS
        have hk3 : cntMsg m = m.ptrs.length + 2 := rfl
        exact ⟨j + 1, by omega, by go_num, by rw [hk2, hk3, ← hk1]; go_num, unhide HB2⟩
      case measure => simp [intOf]; omega
    · have hjn : j = ms.length := by omega
      subst hjn
      rw [List.take_length]
      go_wp2
      go_ret
      exact ⟨rfl, hb⟩
end Go.Proofs.YtbcfkkicmmhhcaaDoor
