import Derived.Test.YtocnekbedcnmgaaGreatDoorBf36
import Derived.Test.YtocnekbedcnmgaaGreatDoorBf41
import Derived.Test.YtocnekbedcnmgaaGreatDoorBf42
import Derived.Test.YtocnekbedcnmgaaGreatDoorBf39
import Derived.Test.YtocnekbedcnmgaaGreatDoorBf43
namespace Go.Proofs.YtocnekbedcnmgaaGreatDoor
open Go.RowKit

theorem GdV.get : ∀ {ts : List (List UInt8)} {v u : JV}, GdV v → getV v ts = some u → GdV u
  | [], v, u, h, e => by
    simp [getV] at e
    subst e
    exact h
  | t :: ts, v, u, h, e => by
    rw [getV_cons] at e
    cases hc : childV v t with
    | none => rw [hc] at e; cases e
    | some x => rw [hc] at e; exact GdV.get (h.child hc) e
/-- The operation of a change whose values are trees. -/
def cOp (p : List UInt8) (oa ob : Option JV) : POp := match ob with
  | none => ⟨2, strOf p, ⟨#[]⟩, ⟨#[]⟩⟩
  | some v => match oa with
    | none => ⟨1, strOf p, ⟨#[]⟩, strOf (ct v)⟩
    | some _ => ⟨3, strOf p, ⟨#[]⟩, strOf (ct v)⟩
theorem cOp_d (a b : JV) (ts : List (List UInt8)) : cOp (addP [] ts) (getV a ts) (getV b ts) = dOp a b (addP [] ts) := by
  unfold dOp cOp
  rw [ptoks_addP]
  rfl
theorem one_op (w : World) (m : POp) : OPr (w.alloc (.cells (opCs m) 59)) w.heap.size (.slice (some ⟨w.heap.size, 0, none⟩) 1 1) [m] := World.ownsRow_lit w (opCs m) 1 (Nat.le_refl _) (by unfold maxLen; omega) rfl
set_option maxRecDepth 100000 in
set_option maxHeartbeats 4000000 in
theorem op_some (p : List UInt8) (v1 v2 : Value) (oa : Option JV) (b : JV) (w : World) (S : Nat → Prop) (h1 : RepO w S oa v1) (h2 : Rep w S b v2) (hS : ∀ k, S k → k < w.heap.size) (hg : okV b ∧ twV b = false ∧ (ct b).length ≤ 1000000) (hP : PowB w.heap.size w) :
    Calls Tryz.prog 45 #[.agg #[.string (strOf p), v1, v2]] w fun e w' => e = .returned (.agg (opCs (cOp p oa (some b)))) ∧ Below w.heap.size w w' := by
  obtain ⟨t2, q2, rfl⟩ := rep_iface h2
  obtain ⟨g1, g2, g3⟩ := hg
  have HCT : Hid (∀ wx, Below w.heap.size w wx → Calls Tryz.prog 53 #[.iface t2 q2] wx fun e w' => e = .returned (.string (strOf (ct b))) ∧ Below wx.heap.size wx w') := fun wx hx => canonText_walk b g1 g2 t2 q2 wx S (Rep.keep (fun k hk => hx.block k (hS k hk)) (fun _ h => h) _ _ h2) (fun k hk => Nat.lt_of_lt_of_le (hS k hk) hx.size) (powUp hP hx) (by omega)
  clear h2 hS g1 g2 g3 hP
  cases oa with
  | none =>
    have e1 : v1 = .nilIface := h1
    subst e1
    clear h1
    have HE : Hid (cOp p none (some b) = ⟨1, strOf p, ⟨#[]⟩, strOf (ct b)⟩) := rfl
    generalize cOp p none (some b) = M at *
    generalize strOf (ct b) = cb at *
    generalize strOf p = sp at *
    have kA := heap_alloc_new w (.cells #[.string sp, .nilIface, .iface t2 q2] 78)
    have bA := alloc_b w (.cells #[.string sp, .nilIface, .iface t2 q2] 78)
    have zA : (w.alloc (.cells #[.string sp, .nilIface, .iface t2 q2] 78)).heap.size = w.heap.size + 1 := by simp
    have bB := alloc_b (w.alloc (.cells #[.string sp, .nilIface, .iface t2 q2] 78)) (.cells #[.int .i64 0, .string ⟨#[]⟩, .string ⟨#[]⟩, .string ⟨#[]⟩] 59)
    have kB := heap_alloc_new (w.alloc (.cells #[.string sp, .nilIface, .iface t2 q2] 78)) (.cells #[.int .i64 0, .string ⟨#[]⟩, .string ⟨#[]⟩, .string ⟨#[]⟩] 59)
    rw [zA] at kB
    have kAB := (bB.block w.heap.size (by omega)).trans kA
    have HB := hide (below_next bA bB)
    have HKA := hide kAB
    have HKB := hide kB
    clear kA bA zA bB kB kAB
    go_enter Tryz.func45, Tryz.ntmps45
    have HB := HB
    generalize hwB : ((w.alloc (.cells #[.string sp, .nilIface, .iface t2 q2] 78)).alloc (.cells #[.int .i64 0, .string ⟨#[]⟩, .string ⟨#[]⟩, .string ⟨#[]⟩] 59)) = wB at *
    have c0 : wB.cell? ⟨w.heap.size, 0, none⟩ = some (.string sp) := Lib.cell_of_heap (unhide HKA) 0
    have c1 : wB.cell? ⟨w.heap.size, 1, none⟩ = some .nilIface := Lib.cell_of_heap (unhide HKA) 1
    have c2 : wB.cell? ⟨w.heap.size, 2, none⟩ = some (.iface t2 q2) := Lib.cell_of_heap (unhide HKA) 2
    have HC := hide (unhide HCT wB.drew (unhide HB).drew)
    have HOLD : Hid (∀ X, Below wB.drew.heap.size wB.drew X → X.cell? ⟨w.heap.size, 0, none⟩ = some (.string sp) ∧ X.cell? ⟨w.heap.size, 2, none⟩ = some (.iface t2 q2) ∧ (∀ j, X.frozen? ⟨w.heap.size + 1, j, none⟩ = false) ∧ X.cell? ⟨w.heap.size + 1, 0, none⟩ = some (.int .i64 0) ∧ X.cell? ⟨w.heap.size + 1, 1, none⟩ = some (.string ⟨#[]⟩) ∧ X.cell? ⟨w.heap.size + 1, 2, none⟩ = some (.string ⟨#[]⟩) ∧ X.cell? ⟨w.heap.size + 1, 3, none⟩ = some (.string ⟨#[]⟩)) := fun X hX => by
      have k1 := (hX.block w.heap.size (Array.getElem?_eq_some_iff.1 (unhide HKA)).1).trans (unhide HKA)
      have k2 := (hX.block (w.heap.size + 1) (Array.getElem?_eq_some_iff.1 (unhide HKB)).1).trans (unhide HKB)
      exact ⟨Lib.cell_of_heap k1 0, Lib.cell_of_heap k1 2, fun j => Lib.frozen_of_heap k2 j, Lib.cell_of_heap k2 0, Lib.cell_of_heap k2 1, Lib.cell_of_heap k2 2, Lib.cell_of_heap k2 3⟩
    have HOP : Hid (∀ X, Below wB.drew.heap.size wB.drew X → X.heap[w.heap.size + 1]? = some (.cells #[.int .i64 0, .string ⟨#[]⟩, .string ⟨#[]⟩, .string ⟨#[]⟩] 59 (0, 0))) := fun X hX => (hX.block (w.heap.size + 1) (Array.getElem?_eq_some_iff.1 (unhide HKB)).1).trans (unhide HKB)
    have HBL : Hid (∀ X, Below wB.drew.heap.size wB.drew X → Below w.heap.size w X) := fun X hX => below_next (unhide HB).drew hX
    go_wp2_with fail
    go_region_law (go_simp; refine (unhide HC).mono ?_; rintro e w4 ⟨rfl, b4⟩; have hd4 := unhide HOLD w4 b4; have d0 := hd4.1; have d1 := hd4.2.1; have f4 := hd4.2.2.1; have e0 := hd4.2.2.2.1; have e1 := hd4.2.2.2.2.1; have e2 := hd4.2.2.2.2.2.1; have e3 := hd4.2.2.2.2.2.2)
    all_goals (
      have HRB := hide (unhide HOP w4 b4)
      have HB4 := hide (unhide HBL w4 b4)
      clear b4 hd4
      go_wp2
      refine bodyPost_ret (results_cell_row rfl _ _ (w.heap.size + 1) 59 #[_, _, _, _] (0, 0) _ rfl (putN_full (unhide HRB) [_, _, _, _] rfl) Tryz.underlying59 rfl (by kernel_rfl)) rfl ?_
      exact ⟨by rw [unhide HE], putN_below (unhide HB4) (by omega) [_, _, _, _] 0⟩)
  | some a =>
    obtain ⟨t1, q1, rfl⟩ := rep_iface (show Rep w S a v1 from h1)
    clear h1
    have HE : Hid (cOp p (some a) (some b) = ⟨3, strOf p, ⟨#[]⟩, strOf (ct b)⟩) := rfl
    generalize cOp p (some a) (some b) = M at *
    generalize strOf (ct b) = cb at *
    generalize strOf p = sp at *
    have kA := heap_alloc_new w (.cells #[.string sp, .iface t1 q1, .iface t2 q2] 78)
    have bA := alloc_b w (.cells #[.string sp, .iface t1 q1, .iface t2 q2] 78)
    have zA : (w.alloc (.cells #[.string sp, .iface t1 q1, .iface t2 q2] 78)).heap.size = w.heap.size + 1 := by simp
    have bB := alloc_b (w.alloc (.cells #[.string sp, .iface t1 q1, .iface t2 q2] 78)) (.cells #[.int .i64 0, .string ⟨#[]⟩, .string ⟨#[]⟩, .string ⟨#[]⟩] 59)
    have kB := heap_alloc_new (w.alloc (.cells #[.string sp, .iface t1 q1, .iface t2 q2] 78)) (.cells #[.int .i64 0, .string ⟨#[]⟩, .string ⟨#[]⟩, .string ⟨#[]⟩] 59)
    rw [zA] at kB
    have kAB := (bB.block w.heap.size (by omega)).trans kA
    have HB := hide (below_next bA bB)
    have HKA := hide kAB
    have HKB := hide kB
    clear kA bA zA bB kB kAB
    go_enter Tryz.func45, Tryz.ntmps45
    have HB := HB
    generalize hwB : ((w.alloc (.cells #[.string sp, .iface t1 q1, .iface t2 q2] 78)).alloc (.cells #[.int .i64 0, .string ⟨#[]⟩, .string ⟨#[]⟩, .string ⟨#[]⟩] 59)) = wB at *
    have c0 : wB.cell? ⟨w.heap.size, 0, none⟩ = some (.string sp) := Lib.cell_of_heap (unhide HKA) 0
    have c1 : wB.cell? ⟨w.heap.size, 1, none⟩ = some (.iface t1 q1) := Lib.cell_of_heap (unhide HKA) 1
    have c2 : wB.cell? ⟨w.heap.size, 2, none⟩ = some (.iface t2 q2) := Lib.cell_of_heap (unhide HKA) 2
    have HC := hide (unhide HCT wB.drew (unhide HB).drew)
    have HOLD : Hid (∀ X, Below wB.drew.heap.size wB.drew X → X.cell? ⟨w.heap.size, 0, none⟩ = some (.string sp) ∧ X.cell? ⟨w.heap.size, 2, none⟩ = some (.iface t2 q2) ∧ (∀ j, X.frozen? ⟨w.heap.size + 1, j, none⟩ = false) ∧ X.cell? ⟨w.heap.size + 1, 0, none⟩ = some (.int .i64 0) ∧ X.cell? ⟨w.heap.size + 1, 1, none⟩ = some (.string ⟨#[]⟩) ∧ X.cell? ⟨w.heap.size + 1, 2, none⟩ = some (.string ⟨#[]⟩) ∧ X.cell? ⟨w.heap.size + 1, 3, none⟩ = some (.string ⟨#[]⟩)) := fun X hX => by
      have k1 := (hX.block w.heap.size (Array.getElem?_eq_some_iff.1 (unhide HKA)).1).trans (unhide HKA)
      have k2 := (hX.block (w.heap.size + 1) (Array.getElem?_eq_some_iff.1 (unhide HKB)).1).trans (unhide HKB)
      exact ⟨Lib.cell_of_heap k1 0, Lib.cell_of_heap k1 2, fun j => Lib.frozen_of_heap k2 j, Lib.cell_of_heap k2 0, Lib.cell_of_heap k2 1, Lib.cell_of_heap k2 2, Lib.cell_of_heap k2 3⟩
    have HOP : Hid (∀ X, Below wB.drew.heap.size wB.drew X → X.heap[w.heap.size + 1]? = some (.cells #[.int .i64 0, .string ⟨#[]⟩, .string ⟨#[]⟩, .string ⟨#[]⟩] 59 (0, 0))) := fun X hX => (hX.block (w.heap.size + 1) (Array.getElem?_eq_some_iff.1 (unhide HKB)).1).trans (unhide HKB)
    have HBL : Hid (∀ X, Below wB.drew.heap.size wB.drew X → Below w.heap.size w X) := fun X hX => below_next (unhide HB).drew hX
    go_wp2_with fail
    go_region_law (go_simp; refine (unhide HC).mono ?_; rintro e w4 ⟨rfl, b4⟩; have hd4 := unhide HOLD w4 b4; have d0 := hd4.1; have d1 := hd4.2.1; have f4 := hd4.2.2.1; have e0 := hd4.2.2.2.1; have e1 := hd4.2.2.2.2.1; have e2 := hd4.2.2.2.2.2.1; have e3 := hd4.2.2.2.2.2.2)
    all_goals (
      have HRB := hide (unhide HOP w4 b4)
      have HB4 := hide (unhide HBL w4 b4)
      clear b4 hd4
      go_wp2
      refine bodyPost_ret (results_cell_row rfl _ _ (w.heap.size + 1) 59 #[_, _, _, _] (0, 0) _ rfl (putN_full (unhide HRB) [_, _, _, _] rfl) Tryz.underlying59 rfl (by kernel_rfl)) rfl ?_
      exact ⟨by rw [unhide HE], putN_below (unhide HB4) (by omega) [_, _, _, _] 0⟩)
set_option maxRecDepth 100000 in
set_option maxHeartbeats 2000000 in
theorem op_none (p : List UInt8) (v1 : Value) (oa : Option JV) (w : World) (S : Nat → Prop) (h1 : RepO w S oa v1) :
    Calls Tryz.prog 45 #[.agg #[.string (strOf p), v1, .nilIface]] w fun e w' => e = .returned (.agg (opCs (cOp p oa none))) ∧ Below w.heap.size w w' := by
  have HE : Hid (cOp p oa none = ⟨2, strOf p, ⟨#[]⟩, ⟨#[]⟩⟩) := rfl
  obtain ⟨f1, hf1⟩ : ∃ f1 : Bool, (v1 = .nilIface ∨ ∃ t q, v1 = .iface t q) := ⟨true, by
    cases oa with
    | none => exact .inl h1
    | some a => obtain ⟨t, q, e⟩ := rep_iface (show Rep w S a v1 from h1); exact .inr ⟨t, q, e⟩⟩
  clear h1
  generalize cOp p oa none = M at *
  generalize strOf p = sp at *
  rcases hf1 with rfl | ⟨t1, q1, rfl⟩
  · have kA := heap_alloc_new w (.cells #[.string sp, .nilIface, .nilIface] 78)
    have bA := alloc_b w (.cells #[.string sp, .nilIface, .nilIface] 78)
    have zA : (w.alloc (.cells #[.string sp, .nilIface, .nilIface] 78)).heap.size = w.heap.size + 1 := by simp
    have bB := alloc_b (w.alloc (.cells #[.string sp, .nilIface, .nilIface] 78)) (.cells #[.int .i64 0, .string ⟨#[]⟩, .string ⟨#[]⟩, .string ⟨#[]⟩] 59)
    have kB := heap_alloc_new (w.alloc (.cells #[.string sp, .nilIface, .nilIface] 78)) (.cells #[.int .i64 0, .string ⟨#[]⟩, .string ⟨#[]⟩, .string ⟨#[]⟩] 59)
    rw [zA] at kB
    have kAB := (bB.block w.heap.size (by omega)).trans kA
    have HB := hide (below_next bA bB)
    have HKA := hide kAB
    have HKB := hide kB
    clear kA bA zA bB kB kAB
    go_enter Tryz.func45, Tryz.ntmps45
    generalize hwB : ((w.alloc (.cells #[.string sp, .nilIface, .nilIface] 78)).alloc (.cells #[.int .i64 0, .string ⟨#[]⟩, .string ⟨#[]⟩, .string ⟨#[]⟩] 59)) = wB at *
    have c0 : wB.cell? ⟨w.heap.size, 0, none⟩ = some (.string sp) := Lib.cell_of_heap (unhide HKA) 0
    have c2 : wB.cell? ⟨w.heap.size, 2, none⟩ = some .nilIface := Lib.cell_of_heap (unhide HKA) 2
    have e0 : wB.cell? ⟨w.heap.size + 1, 0, none⟩ = some (.int .i64 0) := Lib.cell_of_heap (unhide HKB) 0
    have e1 : wB.cell? ⟨w.heap.size + 1, 1, none⟩ = some (.string ⟨#[]⟩) := Lib.cell_of_heap (unhide HKB) 1
    have e2 : wB.cell? ⟨w.heap.size + 1, 2, none⟩ = some (.string ⟨#[]⟩) := Lib.cell_of_heap (unhide HKB) 2
    have e3 : wB.cell? ⟨w.heap.size + 1, 3, none⟩ = some (.string ⟨#[]⟩) := Lib.cell_of_heap (unhide HKB) 3
    have f4 : ∀ j, wB.frozen? ⟨w.heap.size + 1, j, none⟩ = false := fun j => Lib.frozen_of_heap (unhide HKB) j
    go_wp2
    refine bodyPost_ret (results_cell_row rfl _ _ (w.heap.size + 1) 59 #[_, _, _, _] (0, 0) _ rfl (putN_full (unhide HKB) [_, _, _, _] rfl) Tryz.underlying59 rfl (by kernel_rfl)) rfl ?_
    exact ⟨by rw [unhide HE], putN_below (unhide HB) (by omega) [_, _, _, _] 0⟩
  · have kA := heap_alloc_new w (.cells #[.string sp, .iface t1 q1, .nilIface] 78)
    have bA := alloc_b w (.cells #[.string sp, .iface t1 q1, .nilIface] 78)
    have zA : (w.alloc (.cells #[.string sp, .iface t1 q1, .nilIface] 78)).heap.size = w.heap.size + 1 := by simp
    have bB := alloc_b (w.alloc (.cells #[.string sp, .iface t1 q1, .nilIface] 78)) (.cells #[.int .i64 0, .string ⟨#[]⟩, .string ⟨#[]⟩, .string ⟨#[]⟩] 59)
    have kB := heap_alloc_new (w.alloc (.cells #[.string sp, .iface t1 q1, .nilIface] 78)) (.cells #[.int .i64 0, .string ⟨#[]⟩, .string ⟨#[]⟩, .string ⟨#[]⟩] 59)
    rw [zA] at kB
    have kAB := (bB.block w.heap.size (by omega)).trans kA
    have HB := hide (below_next bA bB)
    have HKA := hide kAB
    have HKB := hide kB
    clear kA bA zA bB kB kAB
    go_enter Tryz.func45, Tryz.ntmps45
    generalize hwB : ((w.alloc (.cells #[.string sp, .iface t1 q1, .nilIface] 78)).alloc (.cells #[.int .i64 0, .string ⟨#[]⟩, .string ⟨#[]⟩, .string ⟨#[]⟩] 59)) = wB at *
    have c0 : wB.cell? ⟨w.heap.size, 0, none⟩ = some (.string sp) := Lib.cell_of_heap (unhide HKA) 0
    have c2 : wB.cell? ⟨w.heap.size, 2, none⟩ = some .nilIface := Lib.cell_of_heap (unhide HKA) 2
    have e0 : wB.cell? ⟨w.heap.size + 1, 0, none⟩ = some (.int .i64 0) := Lib.cell_of_heap (unhide HKB) 0
    have e1 : wB.cell? ⟨w.heap.size + 1, 1, none⟩ = some (.string ⟨#[]⟩) := Lib.cell_of_heap (unhide HKB) 1
    have e2 : wB.cell? ⟨w.heap.size + 1, 2, none⟩ = some (.string ⟨#[]⟩) := Lib.cell_of_heap (unhide HKB) 2
    have e3 : wB.cell? ⟨w.heap.size + 1, 3, none⟩ = some (.string ⟨#[]⟩) := Lib.cell_of_heap (unhide HKB) 3
    have f4 : ∀ j, wB.frozen? ⟨w.heap.size + 1, j, none⟩ = false := fun j => Lib.frozen_of_heap (unhide HKB) j
    go_wp2
    refine bodyPost_ret (results_cell_row rfl _ _ (w.heap.size + 1) 59 #[_, _, _, _] (0, 0) _ rfl (putN_full (unhide HKB) [_, _, _, _] rfl) Tryz.underlying59 rfl (by kernel_rfl)) rfl ?_
    exact ⟨by rw [unhide HE], putN_below (unhide HB) (by omega) [_, _, _, _] 0⟩
end Go.Proofs.YtocnekbedcnmgaaGreatDoor


namespace Go.Proofs.YtocnekbedcnmgaaGreatDoor
open Go.RowKit

set_option maxRecDepth 100000 in
set_option maxHeartbeats 4000000 in
theorem implDiff_walk (s t : ByteArray) (w : World) (hw : RdW w) (hs : s.size ≤ 1048576) (ht : t.size ≤ 1048576) :
    Calls Tryz.prog 15 #[.string s, .string t] w fun e w' => ∃ v, e = .returned (.tuple #[v, .bool (chgB s t)]) ∧ OPr w' w.heap.size v (difL s t) ∧ Below w.heap.size w w' := by
  obtain ⟨i0, hi, hz0, hz1, hz2⟩ := info_parts infoPOp
  have H1 := hide (changesOf_walk s t w hw hs ht)
  have hlen := chg_len s t
  have HW := hide hw
  clear hw
  cases hz : chgB s t with
  | false =>
    have HN := hide (dif_no hz)
    have HZ := hide hz
    clear hs ht hz
    go_enter Tryz.func15, Tryz.ntmps15
    go_wp2_with fail
    refine (unhide H1).mono ?_
    rintro e w1 ⟨b1, hno, -⟩
    obtain rfl := hno (unhide HZ)
    have HB1 := hide b1
    clear hno H1 b1
    go_wp2
    go_ret2
    exact ⟨_, rfl, by rw [unhide HN]; exact World.ownsRow_nil w1 w.heap.size 59 4, unhide HB1⟩
  | true =>
    obtain ⟨a', b', hra, hrb, hbig, hsml⟩ := dif_yes hz
    have HCN : Hid (∀ wx, RdW wx → Calls Tryz.prog 23 #[.string t] wx fun e w' => e = .returned (.tuple #[.string (strOf (ct b')), .int .i64 0]) ∧ Below wx.heap.size wx w') := fun wx hx => by
      have := implCanon_walk t wx hx.tab hx.err hx.pow (by omega)
      unfold canonV at this
      rw [hrb] at this
      exact this
    have HBIG := hide hbig
    have HSML := hide hsml
    have HRA := hide hra
    have HRB := hide hrb
    have HZ := hide hz
    clear hs ht hbig hsml hra hrb hz
    go_enter Tryz.func15, Tryz.ntmps15
    go_wp2_with fail
    refine (unhide H1).mono ?_
    rintro e w1 ⟨b1, -, hyes⟩
    obtain ⟨r, zs, B, a, b, rfl, o, ra, rb, z⟩ := hyes (unhide HZ)
    obtain rfl : a = a' := by have := unhide HRA; rw [ra] at this; injection this
    obtain rfl : b = b' := by have := unhide HRB; rw [rb] at this; injection this
    have hW1 := (unhide HW).up b1
    have hga := GdV.of ra
    have hgb := GdV.of rb
    have hzl : zs.length = (chgL s t).length := by rw [← z.1, List.length_map]
    obtain ⟨xa, xc, rfl, hcell⟩ := o.form
    have HCELL := hide hcell
    have HOP : Hid (∀ k (hk : k < zs.length) (wx : World), Below w1.heap.size w1 wx → Calls Tryz.prog 45 #[.agg #[.string (strOf zs[k].1), zs[k].2.1, zs[k].2.2]] wx fun e w' => e = .returned (.agg (opCs (dOp a b zs[k].1))) ∧ Below wx.heap.size wx w') := fun k hk wx hx => by
      obtain ⟨_, _, ts, e1, r1, r2⟩ := z.2 zs[k] (List.getElem_mem hk)
      have r1' := r1.keep (w' := wx) (S' := fun k => k < wx.heap.size) (fun k hk => hx.block k hk) (fun k hk => Nat.lt_of_lt_of_le hk hx.size)
      have r2' := r2.keep (w' := wx) (S' := fun k => k < wx.heap.size) (fun k hk => hx.block k hk) (fun k hk => Nat.lt_of_lt_of_le hk hx.size)
      have e2 : dOp a b zs[k].1 = cOp zs[k].1 (getV a ts) (getV b ts) := by rw [e1, cOp_d]
      rw [e2]
      cases hvb : getV b ts with
      | none =>
        rw [hvb] at r2'
        have e3 : zs[k].2.2 = .nilIface := r2'
        rw [e3]
        exact op_none zs[k].1 _ (getV a ts) wx _ r1'
      | some v =>
        rw [hvb] at r2'
        have hgv := hgb.get hvb
        exact op_some zs[k].1 _ _ (getV a ts) v wx _ r1' r2' (fun k hk => hk) ⟨hgv.ok, hgv.tw, by have := hgv.len; omega⟩ (hW1.up hx).pow
    have HFO : Hid (∀ k (hk : k < zs.length), FO zs[k].2.1 ∧ FO zs[k].2.2) := fun k hk => ⟨(z.2 zs[k] (List.getElem_mem hk)).1, (z.2 zs[k] (List.getElem_mem hk)).2.1⟩
    have HMAP : Hid (zs.map (fun y => dOp a b y.1) = (chgL s t).map (dOp a b)) := by
      show _ = _
      rw [← z.1, List.map_map]; rfl
    have HB1 := hide b1
    have hz1w := b1.size
    have HW1 := hide hW1
    clear H1 hyes o ra rb z hga hgb hW1 HW b1 hcell
    by_cases h100 : 100 < zs.length
    · have t1 : (100 : Int) < (zs.length : Int) := by omega
      have HR := hide (unhide HBIG (by omega))
      have HC1 := hide (unhide HCN w1 (unhide HW1))
      generalize strOf (ct b) = cB at *
      clear HBIG HSML HCN h100 HOP HFO HMAP HCELL HW1
      go_wp2_with fail
      refine (unhide HC1).mono ?_
      rintro e w3 ⟨rfl, b3⟩
      have HB3 := hide (below_next (below_next (unhide HB1) b3) (alloc_b w3 (.cells (opCs ⟨3, ⟨#[]⟩, ⟨#[]⟩, cB⟩) 59)))
      have HO3 : Hid (OPr (w3.alloc (.cells (opCs ⟨3, ⟨#[]⟩, ⟨#[]⟩, cB⟩) 59)) w.heap.size (.slice (some ⟨w3.heap.size, 0, none⟩) 1 1) [⟨3, ⟨#[]⟩, ⟨#[]⟩, cB⟩]) := own_mono (one_op w3 _) (below_next (unhide HB1) b3).size
      clear HC1 b3 HB1
      go_wp2
      go_ret2
      exact ⟨_, rfl, by rw [unhide HR]; exact unhide HO3, unhide HB3⟩
    · have t1 : ¬ (100 : Int) < (zs.length : Int) := by omega
      have hx100 : zs.length ≤ 100 := by omega
      have HR : Hid (difL s t = zs.map (fun y => dOp a b y.1)) := by show _ = _; rw [unhide HSML (by omega), unhide HMAP]
      clear HBIG HSML HCN h100 HMAP HW1 hzl
      generalize dOp a b = D at *
      go_wp2_with (at_make; refine wpList_make_own _ rfl _ _ 22 rfl w1.heap.size 59 i0 (.agg #[.int .i64 0, .string ByteArray.empty, .string ByteArray.empty, .string ByteArray.empty]) 4 Tryz.underlying22 hi hz0 hz1 .i64 .i64 _ zs.length rfl rfl rfl (by rw [hz2]; omega) (by unfold maxLen; omega) (Nat.le_refl _) ?_)
      intro w3 hown3 hgrow3
      have HB3 : Hid (Below w1.heap.size w1 w3) := (Below.refl _ _).grown hgrow3 (Nat.le_refl _) (by intro k hk; cases hk)
      have HO3 : Hid (OPr w3 w1.heap.size _ []) := hown3
      clear hown3 hgrow3
      go_wp2
      go_loopw [10, 37] (fun lv i wr => ∃ k : Nat, k ≤ zs.length ∧ i = .int .i64 k ∧ OPr wr w1.heap.size lv ((zs.take k).map fun y => D y.1) ∧ Below w1.heap.size w1 wr) (fun _ i _ => zs.length - (intOf i).toNat)
      case atStart => exact ⟨0, Nat.zero_le _, rfl, unhide HO3, unhide HB3⟩
      case round =>
        obtain ⟨k, hk, rfl, ho, hb⟩ := hrel
        have HO := hide ho
        have HBR := hide hb
        have hbz := hb.size
        clear HO3 HB3
        by_cases hlt : k < zs.length
        · have hltI : (k : Int) < (zs.length : Int) := by omega
          obtain ⟨g, rfl, hgl, hcc⟩ := unhide HCELL k hlt
          obtain ⟨c0, c1, c2⟩ := hcc wr (hb.block g hgl)
          obtain ⟨f1, f2⟩ := unhide HFO k hlt
          have HOPK := hide (unhide HOP k hlt)
          have HST : Hid ((zs.take (k + 1)).map (fun y => D y.1) = (zs.take k).map (fun y => D y.1) ++ [D zs[k].1]) := by
            show _ = _
            rw [List.take_succ_eq_append_getElem hlt, List.map_append]; rfl
          have hal : ((zs.take k).map fun y => D y.1).length ≤ 100 := by rw [List.length_map, List.length_take]; omega
          clear ho hb hcc HOP HFO HCELL
          generalize ((zs.take k).map fun y => D y.1) = A at *
          generalize zs[k] = y at *
          obtain ⟨x, v1, v2⟩ := y
          simp only at c0 c1 c2 f1 f2 HOPK HST
          generalize D x = mo at *
          generalize strOf x = sx at *
          rcases f1 with rfl | ⟨t1, q1, rfl⟩ <;> rcases f2 with rfl | ⟨t2, q2, rfl⟩
          · have hA := alloc_b wr (.cells #[.string sx, .nilIface, .nilIface] 78)
            have kA := heap_alloc_new wr (.cells #[.string sx, .nilIface, .nilIface] 78)
            have d0 : (wr.alloc (.cells #[.string sx, .nilIface, .nilIface] 78)).cell? ⟨wr.heap.size, 0, none⟩ = some (.string sx) := Lib.cell_of_heap kA 0
            have d1 : (wr.alloc (.cells #[.string sx, .nilIface, .nilIface] 78)).cell? ⟨wr.heap.size, 1, none⟩ = some (.nilIface) := Lib.cell_of_heap kA 1
            have d2 : (wr.alloc (.cells #[.string sx, .nilIface, .nilIface] 78)).cell? ⟨wr.heap.size, 2, none⟩ = some (.nilIface) := Lib.cell_of_heap kA 2
            have HCALL := hide (unhide HOPK (wr.alloc (.cells #[.string sx, .nilIface, .nilIface] 78)) (below_next (unhide HBR) hA))
            have HAB := hide hA
            clear hA kA HOPK
            go_wp2_with fail
            generalize (wr.alloc (.cells #[.string sx, .nilIface, .nilIface] 78)) = wA at *
            refine (unhide HCALL).mono ?_
            rintro e w5 ⟨rfl, b5⟩
            have b15 := below_next (unhide HAB) b5
            have bM := alloc_b w5 (.cells (opCs mo) 59)
            have lM := lit4 w5 mo
            have HOM : Hid (OPr (w5.alloc (.cells (opCs mo) 59)) w1.heap.size u10 A) := own_below (unhide HO) (below_next b15 bM)
            have HBM := hide (below_next (unhide HBR) (below_next b15 bM))
            have HLM := hide lM
            clear HCALL b5 b15 bM lM HAB d0 d1 d2 c0 c1 c2
            go_wp2_with (at_builtin; refine wpList_append_own _ rfl (.tmp 41) (.tmp 44) 22 rfl w1.heap.size 59 i0 (.agg #[.int .i64 0, .string ByteArray.empty, .string ByteArray.empty, .string ByteArray.empty]) 4 56 Tryz.underlying22 hi hz0 hz1 hz2 rfl (by decide) _ _ _ rfl (unhide HOM) ⟨w5.heap.size, 0, none⟩ 1 1 (opV mo) rfl rfl (unhide HLM) (one4 mo) (by unfold maxLen; omega) (by omega) (unhide HBM).size ?_)
            generalize (w5.alloc (.cells (opCs mo) 59)) = wM at *
            intro l6 w6 o6 g6 gx6
            clear gx6
            have HO6 : Hid (OPr w6 w1.heap.size l6 (A ++ [mo])) := OPr.step o6
            have HB6 := hide ((unhide HBM).grown g6 (unhide HBM).size (fun b hb => ((unhide HOM).lt b hb).1))
            clear o6 g6 HOM HBM HLM
            go_wp2
            go_roundw
            case rel => exact ⟨k + 1, by omega, by go_num, by rw [unhide HST]; exact unhide HO6, unhide HB6⟩
            case measure => simp [intOf]; omega
          · have hA := alloc_b wr (.cells #[.string sx, .nilIface, .iface t2 q2] 78)
            have kA := heap_alloc_new wr (.cells #[.string sx, .nilIface, .iface t2 q2] 78)
            have d0 : (wr.alloc (.cells #[.string sx, .nilIface, .iface t2 q2] 78)).cell? ⟨wr.heap.size, 0, none⟩ = some (.string sx) := Lib.cell_of_heap kA 0
            have d1 : (wr.alloc (.cells #[.string sx, .nilIface, .iface t2 q2] 78)).cell? ⟨wr.heap.size, 1, none⟩ = some (.nilIface) := Lib.cell_of_heap kA 1
            have d2 : (wr.alloc (.cells #[.string sx, .nilIface, .iface t2 q2] 78)).cell? ⟨wr.heap.size, 2, none⟩ = some (.iface t2 q2) := Lib.cell_of_heap kA 2
            have HCALL := hide (unhide HOPK (wr.alloc (.cells #[.string sx, .nilIface, .iface t2 q2] 78)) (below_next (unhide HBR) hA))
            have HAB := hide hA
            clear hA kA HOPK
            go_wp2_with fail
            generalize (wr.alloc (.cells #[.string sx, .nilIface, .iface t2 q2] 78)) = wA at *
            refine (unhide HCALL).mono ?_
            rintro e w5 ⟨rfl, b5⟩
            have b15 := below_next (unhide HAB) b5
            have bM := alloc_b w5 (.cells (opCs mo) 59)
            have lM := lit4 w5 mo
            have HOM : Hid (OPr (w5.alloc (.cells (opCs mo) 59)) w1.heap.size u10 A) := own_below (unhide HO) (below_next b15 bM)
            have HBM := hide (below_next (unhide HBR) (below_next b15 bM))
            have HLM := hide lM
            clear HCALL b5 b15 bM lM HAB d0 d1 d2 c0 c1 c2
            go_wp2_with (at_builtin; refine wpList_append_own _ rfl (.tmp 41) (.tmp 44) 22 rfl w1.heap.size 59 i0 (.agg #[.int .i64 0, .string ByteArray.empty, .string ByteArray.empty, .string ByteArray.empty]) 4 56 Tryz.underlying22 hi hz0 hz1 hz2 rfl (by decide) _ _ _ rfl (unhide HOM) ⟨w5.heap.size, 0, none⟩ 1 1 (opV mo) rfl rfl (unhide HLM) (one4 mo) (by unfold maxLen; omega) (by omega) (unhide HBM).size ?_)
            generalize (w5.alloc (.cells (opCs mo) 59)) = wM at *
            intro l6 w6 o6 g6 gx6
            clear gx6
            have HO6 : Hid (OPr w6 w1.heap.size l6 (A ++ [mo])) := OPr.step o6
            have HB6 := hide ((unhide HBM).grown g6 (unhide HBM).size (fun b hb => ((unhide HOM).lt b hb).1))
            clear o6 g6 HOM HBM HLM
            go_wp2
            go_roundw
            case rel => exact ⟨k + 1, by omega, by go_num, by rw [unhide HST]; exact unhide HO6, unhide HB6⟩
            case measure => simp [intOf]; omega
          · have hA := alloc_b wr (.cells #[.string sx, .iface t1 q1, .nilIface] 78)
            have kA := heap_alloc_new wr (.cells #[.string sx, .iface t1 q1, .nilIface] 78)
            have d0 : (wr.alloc (.cells #[.string sx, .iface t1 q1, .nilIface] 78)).cell? ⟨wr.heap.size, 0, none⟩ = some (.string sx) := Lib.cell_of_heap kA 0
            have d1 : (wr.alloc (.cells #[.string sx, .iface t1 q1, .nilIface] 78)).cell? ⟨wr.heap.size, 1, none⟩ = some (.iface t1 q1) := Lib.cell_of_heap kA 1
            have d2 : (wr.alloc (.cells #[.string sx, .iface t1 q1, .nilIface] 78)).cell? ⟨wr.heap.size, 2, none⟩ = some (.nilIface) := Lib.cell_of_heap kA 2
            have HCALL := hide (unhide HOPK (wr.alloc (.cells #[.string sx, .iface t1 q1, .nilIface] 78)) (below_next (unhide HBR) hA))
            have HAB := hide hA
            clear hA kA HOPK
            go_wp2_with fail
            generalize (wr.alloc (.cells #[.string sx, .iface t1 q1, .nilIface] 78)) = wA at *
            refine (unhide HCALL).mono ?_
            rintro e w5 ⟨rfl, b5⟩
            have b15 := below_next (unhide HAB) b5
            have bM := alloc_b w5 (.cells (opCs mo) 59)
            have lM := lit4 w5 mo
            have HOM : Hid (OPr (w5.alloc (.cells (opCs mo) 59)) w1.heap.size u10 A) := own_below (unhide HO) (below_next b15 bM)
            have HBM := hide (below_next (unhide HBR) (below_next b15 bM))
            have HLM := hide lM
            clear HCALL b5 b15 bM lM HAB d0 d1 d2 c0 c1 c2
            go_wp2_with (at_builtin; refine wpList_append_own _ rfl (.tmp 41) (.tmp 44) 22 rfl w1.heap.size 59 i0 (.agg #[.int .i64 0, .string ByteArray.empty, .string ByteArray.empty, .string ByteArray.empty]) 4 56 Tryz.underlying22 hi hz0 hz1 hz2 rfl (by decide) _ _ _ rfl (unhide HOM) ⟨w5.heap.size, 0, none⟩ 1 1 (opV mo) rfl rfl (unhide HLM) (one4 mo) (by unfold maxLen; omega) (by omega) (unhide HBM).size ?_)
            generalize (w5.alloc (.cells (opCs mo) 59)) = wM at *
            intro l6 w6 o6 g6 gx6
            clear gx6
            have HO6 : Hid (OPr w6 w1.heap.size l6 (A ++ [mo])) := OPr.step o6
            have HB6 := hide ((unhide HBM).grown g6 (unhide HBM).size (fun b hb => ((unhide HOM).lt b hb).1))
            clear o6 g6 HOM HBM HLM
            go_wp2
            go_roundw
            case rel => exact ⟨k + 1, by omega, by go_num, by rw [unhide HST]; exact unhide HO6, unhide HB6⟩
            case measure => simp [intOf]; omega
          · have hA := alloc_b wr (.cells #[.string sx, .iface t1 q1, .iface t2 q2] 78)
            have kA := heap_alloc_new wr (.cells #[.string sx, .iface t1 q1, .iface t2 q2] 78)
            have d0 : (wr.alloc (.cells #[.string sx, .iface t1 q1, .iface t2 q2] 78)).cell? ⟨wr.heap.size, 0, none⟩ = some (.string sx) := Lib.cell_of_heap kA 0
            have d1 : (wr.alloc (.cells #[.string sx, .iface t1 q1, .iface t2 q2] 78)).cell? ⟨wr.heap.size, 1, none⟩ = some (.iface t1 q1) := Lib.cell_of_heap kA 1
            have d2 : (wr.alloc (.cells #[.string sx, .iface t1 q1, .iface t2 q2] 78)).cell? ⟨wr.heap.size, 2, none⟩ = some (.iface t2 q2) := Lib.cell_of_heap kA 2
            have HCALL := hide (unhide HOPK (wr.alloc (.cells #[.string sx, .iface t1 q1, .iface t2 q2] 78)) (below_next (unhide HBR) hA))
            have HAB := hide hA
            clear hA kA HOPK
            go_wp2_with fail
            generalize (wr.alloc (.cells #[.string sx, .iface t1 q1, .iface t2 q2] 78)) = wA at *
            refine (unhide HCALL).mono ?_
            rintro e w5 ⟨rfl, b5⟩
            have b15 := below_next (unhide HAB) b5
            have bM := alloc_b w5 (.cells (opCs mo) 59)
            have lM := lit4 w5 mo
            have HOM : Hid (OPr (w5.alloc (.cells (opCs mo) 59)) w1.heap.size u10 A) := own_below (unhide HO) (below_next b15 bM)
            have HBM := hide (below_next (unhide HBR) (below_next b15 bM))
            have HLM := hide lM
            clear HCALL b5 b15 bM lM HAB d0 d1 d2 c0 c1 c2
            go_wp2_with (at_builtin; refine wpList_append_own _ rfl (.tmp 41) (.tmp 44) 22 rfl w1.heap.size 59 i0 (.agg #[.int .i64 0, .string ByteArray.empty, .string ByteArray.empty, .string ByteArray.empty]) 4 56 Tryz.underlying22 hi hz0 hz1 hz2 rfl (by decide) _ _ _ rfl (unhide HOM) ⟨w5.heap.size, 0, none⟩ 1 1 (opV mo) rfl rfl (unhide HLM) (one4 mo) (by unfold maxLen; omega) (by omega) (unhide HBM).size ?_)
            generalize (w5.alloc (.cells (opCs mo) 59)) = wM at *
            intro l6 w6 o6 g6 gx6
            clear gx6
            have HO6 : Hid (OPr w6 w1.heap.size l6 (A ++ [mo])) := OPr.step o6
            have HB6 := hide ((unhide HBM).grown g6 (unhide HBM).size (fun b hb => ((unhide HOM).lt b hb).1))
            clear o6 g6 HOM HBM HLM
            go_wp2
            go_roundw
            case rel => exact ⟨k + 1, by omega, by go_num, by rw [unhide HST]; exact unhide HO6, unhide HB6⟩
            case measure => simp [intOf]; omega
        · have hkn : k = zs.length := by omega
          subst hkn
          rw [List.take_length] at HO
          have HO6 : Hid (OPr wr w.heap.size u10 (zs.map fun y => D y.1)) := own_mono (unhide HO) hz1w
          have HB6 := hide (below_next (unhide HB1) (unhide HBR))
          clear ho hb
          go_wp2
          go_ret2
          exact ⟨_, rfl, by rw [unhide HR]; exact unhide HO6, unhide HB6⟩
end Go.Proofs.YtocnekbedcnmgaaGreatDoor


namespace Go.Proofs.YtocnekbedcnmgaaGreatDoor
open Go.RowKit

set_option maxRecDepth 100000 in
set_option maxHeartbeats 4000000 in
theorem diffLaw_in (s t : ByteArray) (w : World) (hw : RdW w) :
    Calls Tryz.prog 4 #[.string s, .string t] w fun e w' => e = .returned (.bool true) ∧ Below w.heap.size w w' := by
  by_cases hsz : s.size ≤ 1048576
  · by_cases htz : t.size ≤ 1048576
    · have hs1 : ¬ (1048576 : Int) < (s.size : Int) := by omega
      have hs2 : ¬ (1048576 : Int) < (t.size : Int) := by omega
      have hlen := dif_len s t
      have HS := hide (specDiff_walk s t w hsz htz)
      have HI : Hid (∀ w1, Below w.heap.size w w1 → Calls Tryz.prog 15 #[.string s, .string t] w1 fun e w' => ∃ v, e = .returned (.tuple #[v, .bool (chgB s t)]) ∧ OPr w' w1.heap.size v (difL s t) ∧ Below w1.heap.size w1 w') := fun w1 hb => implDiff_walk s t w1 (hw.up hb) hsz htz
      generalize chgB s t = ok at *
      generalize difL s t = ms at *
      clear hw
      go_enter Tryz.func4, Tryz.ntmps4
      go_wp2_with fail
      refine (unhide HS).mono ?_
      rintro e w1 ⟨v0, rfl, o1, b1⟩
      have HC2 := hide (unhide HI w1 b1)
      have O1 := hide o1
      have HL1 := hide o1.lt
      have HB1 := hide b1
      clear HS o1 b1
      go_wp2_with fail
      refine (unhide HC2).mono ?_
      rintro e w2 ⟨v1, rfl, o2, b2⟩
      obtain ⟨r2, f2⟩ := o2.orow
      have x2 : OPr w2 w.heap.size v0 ms := own_below (unhide O1) b2
      have HE := hide (eqOps_walk v1 v0 ms _ _ w2 r2 x2.orow.1)
      have HR2 := hide r2
      have HF2 := hide f2
      have HX2 := hide x2
      have HB2 := hide b2
      clear HC2 o2 r2 f2 x2 b2 O1
      generalize v1.ownBlock.toList = bl at *
      go_wp2_with fail
      refine (unhide HE).mono ?_
      rintro e w3 ⟨rfl, b3⟩
      have HR3 := hide ((unhide HR2).below b3)
      have HX3 : Hid (OPr w3 w.heap.size v0 ms) := own_below (unhide HX2) b3
      have b13 := below_next (unhide HB2) b3
      have HB3 := hide b13
      have HM := hide (markOps_walk v1 ms bl 1 w3 (unhide HR3) (unhide HF2).1 (by omega) (by rw [cntOps]; omega))
      have HL3 := hide (unhide HR3).lt
      rw [cntOps] at HM
      clear HE b3 HR2 HX2 HB2 HR3 b13
      go_wp2_with fail
      refine (unhide HM).mono ?_
      rintro e w4 ⟨rfl, r4, f4⟩
      have b14 := (unhide HB3).trans (f4.below (fun b hb => (unhide HF2).2 b hb) (unhide HB3).size)
      have HB4 := hide b14
      have HX4 : Hid (OPr w4 w.heap.size v0 ms) := own_keep (unhide HX3) (fun b hb => f4.block b ((unhide HX3).lt b (by simpa using hb)).2 (fun hm => by have h1 := ((unhide HL1) b (by simpa using hb)).2; have h2 := (unhide HF2).2 b hm; omega))
      have HH := hide (heldOps_walk v1 ms bl 1 w4 r4 (by omega) (by rw [cntOps]; omega))
      rw [cntOps] at HH
      have HR4 := hide r4
      clear HM HX3 HB3 r4 f4 b14 HL3
      go_wp2_with fail
      refine (unhide HH).mono ?_
      rintro e w5 ⟨rfl, b5⟩
      have HR5 := hide ((unhide HR4).below b5)
      have HX5 : Hid (OPr w5 w.heap.size v0 ms) := own_below (unhide HX4) b5
      have b05 := below_next ((unhide HB1).trans ((unhide HB4).mono (unhide HB1).size)) b5
      have HB5 := hide b05
      have HC6 := hide (unhide HI w5 b05)
      clear HH HR4 HX4 HB4 b5 b05
      go_wp2_with fail
      refine (unhide HC6).mono ?_
      rintro e w6 ⟨v6, rfl, o6, b6⟩
      have x6 : OPr w6 w.heap.size v0 ms := own_below (unhide HX5) b6
      have HE := hide (eqOps_walk v6 v0 ms _ _ w6 o6.orow.1 x6.orow.1)
      have HR6 := hide ((unhide HR5).below b6)
      have HB6 := hide (below_next (unhide HB5) b6)
      clear HC6 o6 x6 b6 HR5 HX5 HB5
      go_wp2_with fail
      refine (unhide HE).mono ?_
      rintro e w7 ⟨rfl, b7⟩
      have HH := hide (heldOps_walk v1 ms bl 1 w7 ((unhide HR6).below b7) (by omega) (by rw [cntOps]; omega))
      rw [cntOps] at HH
      have HB7 := hide (below_next (unhide HB6) b7)
      clear HE b7 HR6 HB6
      go_wp2_with fail
      refine (unhide HH).mono ?_
      rintro e w8 ⟨rfl, b8⟩
      have HB8 := hide (below_next (unhide HB7) b8)
      clear HH b8 HB7
      go_wp2
      go_ret
      exact ⟨rfl, unhide HB8⟩
    · have htz' : (1048576 : Int) < (t.size : Int) := by omega
      have hs1 : ¬ (1048576 : Int) < (s.size : Int) := by omega
      clear hw
      go_enter Tryz.func4, Tryz.ntmps4
      go_wp2
      go_ret
      exact ⟨rfl, Below.refl _ _⟩
  · have hsz' : (1048576 : Int) < (s.size : Int) := by omega
    clear hw
    go_enter Tryz.func4, Tryz.ntmps4
    go_wp2
    go_ret
    exact ⟨rfl, Below.refl _ _⟩
/-- What the row's condition says of the tables. -/
def VarsOk (w : World) : Prop := Tabs w ∧ ErrB w.heap.size w ∧ PowB w.heap.size w
theorem tables_of {W : World} (hL : laidMetH Tryz.prog Rows.fnExactDiffRow.laid W) : VarsOk W := by
  have h : laidMet Tryz.prog laidAll W := hL
  exact ⟨tabs_at h, err_at h, pow_at h⟩
theorem diffLaw_walk (s t : ByteArray) (w : World) (hm : ML w) (h : VarsOk w) :
    Calls Tryz.prog 4 #[.string s, .string t] w fun e w' => e = .returned (.bool true) ∧ Below w.heap.size w w' := diffLaw_in s t w ⟨TabsB.of h.1, h.2.1, h.2.2, hm⟩
end Go.Proofs.YtocnekbedcnmgaaGreatDoor

