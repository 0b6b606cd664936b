import Derived.Lib.ItoaMem
import Derived.Test.YtocnekbedcnmgaaGreatDoorBf4
import Derived.Test.YtocnekbedcnmgaaGreatDoorBf16
import Derived.Test.YtocnekbedcnmgaaGreatDoorBf21
import Derived.Test.YtocnekbedcnmgaaGreatDoorBf13
import Derived.Test.YtocnekbedcnmgaaGreatDoorBf22
import Derived.Deep.RegionLaw
import Derived.Test.YtocnekbedcnmgaaGreatDoorBf1
import Derived.Test.YtocnekbedcnmgaaGreatDoorBf3
namespace Go.Proofs.YtocnekbedcnmgaaGreatDoor
open Go.RowKit Go.Sort

theorem dec_same : ∀ n : Nat, Lib.decDigits n = decT n := by
  intro n
  induction n using Nat.strongRecOn with
  | _ n ih =>
    rw [Lib.decDigits]
    split
    · rename_i h; rw [decT_lo h]
    · rename_i h; rw [decT_hi h, ih (n / 10) (by omega), decT_lo (n := n % 10) (by omega)]
/-- The cells of the program's parts. -/
def ptC (y : List UInt8 × Value) : List Value := [.string (strOf y.1), y.2]
def PtR (w : World) (B : Nat) (r : Value) (ys : List (List UInt8 × Value)) : Prop := w.ownsRow B 187 2 r ys.length (ys.flatMap ptC)
theorem pt_at (ps : List (List UInt8 × Value)) (j : Nat) (h : j < ps.length) : (ps.flatMap ptC)[j * 2]? = some (.string (strOf ps[j].1)) ∧ (ps.flatMap ptC)[j * 2 + 1]? = some ps[j].2 := by
  induction ps generalizing j with
  | nil => simp at h
  | cons p r ih =>
    cases j with
    | zero => exact ⟨rfl, rfl⟩
    | succ j =>
      have := ih j (by simpa using h)
      rw [List.flatMap_cons, show (j + 1) * 2 = j * 2 + 2 from by omega]
      exact this
theorem PtR.cells {w : World} {B : Nat} {v : Value} {ps : List (List UInt8 × Value)} (h : PtR w B v ps) (j : Nat) (hj : j < ps.length) :
    ∃ g cap, v = .slice (some ⟨g, 0, none⟩) ps.length cap ∧ B ≤ g ∧ g < w.heap.size ∧ w.cell? ⟨g, j * 2, none⟩ = some (.string (strOf ps[j].1)) ∧ w.cell? ⟨g, j * 2 + 1, none⟩ = some ps[j].2 := by
  obtain ⟨hl, h0 | ⟨g, cap, cur, hv, hB, hg, hn, hc, hsz, ht⟩⟩ := h
  · omega
  · have hc0 := pt_at ps j hj
    refine ⟨g, cap, hv, hB, (Array.getElem?_eq_some_iff.1 hg).1, ?_, ?_⟩
    · rw [Lib.cell_of_heap hg, ← Array.getElem?_toList, ← hc0.1, ← ht, List.getElem?_take_of_lt (by omega)]
    · rw [Lib.cell_of_heap hg, ← Array.getElem?_toList, ← hc0.2, ← ht, List.getElem?_take_of_lt (by omega)]
theorem PtR.shape {w : World} {B : Nat} {v : Value} {ps : List (List UInt8 × Value)} (h : PtR w B v ps) : ∃ x cap, v = .slice x ps.length cap := by
  rcases h.2 with ⟨hv, h0⟩ | ⟨g, cap, cur, hv, _⟩
  · exact ⟨none, 0, by rw [hv, h0]⟩
  · exact ⟨_, _, hv⟩
theorem PtR.step {w : World} {B : Nat} {v : Value} {ps : List (List UInt8 × Value)} {y : List UInt8 × Value} (h : w.ownsRow B 187 2 v (ps.length + 1) (ps.flatMap ptC ++ ptC y)) : PtR w B v (ps ++ [y]) := by
  unfold PtR
  rw [List.length_append, List.flatMap_append]
  simpa using h
theorem itoa_at (k : Nat) (w : World) (hk : k ≤ 1000000) (hP : PowB w.heap.size w) : Calls Tryz.prog 150 #[.int .i64 (k : Int)] w fun e w' => e = .returned (.string (strOf (decT k))) ∧ Below w.heap.size w w' := by
  refine (Tryz.strconv_Itoa (k : Int) (by omega) (by omega) w hP.2).mono ?_
  rintro e w' ⟨rfl, n, os, rfl⟩
  refine ⟨?_, below_grow _ _ _⟩
  rw [Lib.itoa_nonneg, dec_same]; rfl
end Go.Proofs.YtocnekbedcnmgaaGreatDoor


namespace Go.Proofs.YtocnekbedcnmgaaGreatDoor
open Go.RowKit Go.Sort

theorem keysJ (m : JM) : (isort (ctM m)).map (·.1) = (isortJ m.toL).map (·.1) := by
  have e : ctM m = m.toL.map kt := ctM_map m
  rw [e, ← isortJ_kt, List.map_map]
  rfl

end Go.Proofs.YtocnekbedcnmgaaGreatDoor


namespace Go.Proofs.YtocnekbedcnmgaaGreatDoor
open Go.RowKit

abbrev Chg := List UInt8 × Value × Value
def cgC (y : Chg) : List Value := [.string (strOf y.1), y.2.1, y.2.2]
/-- A row of changes that the call owns. -/
def CgR (w : World) (B : Nat) (v : Value) (ys : List Chg) : Prop := w.ownsRow B 78 3 v ys.length (ys.flatMap cgC)
theorem infoCg : (Tryz.prog.info? 78).map (fun i => (i.zero, i.size, i.bytes)) = some (some (.agg #[.string ByteArray.empty, .nilIface, .nilIface]), 3, 48) := by kernel_rfl
theorem CgR.step {w : World} {B : Nat} {v : Value} {ys : List Chg} {y : Chg} (h : w.ownsRow B 78 3 v (ys.length + 1) (ys.flatMap cgC ++ cgC y)) : CgR w B v (ys ++ [y]) := by
  unfold CgR
  rw [List.length_append, List.flatMap_append]
  simpa using h
theorem lit3 (w : World) (t : TypeId) (x y z : Value) : ∀ j u, [x, y, z][j]? = some u → (w.alloc (.cells #[x, y, z] t)).cell? ((⟨w.heap.size, 0, none⟩ : Addr).add j) = some u := by
  intro j u h
  match j with
  | 0 => simp at h; subst h; simp [Addr.add]
  | 1 => simp at h; subst h; simp [Addr.add]
  | 2 => simp at h; subst h; simp [Addr.add]
  | j + 3 => simp at h
theorem lit3B (w : World) (o : Obj) (t : TypeId) (x y z : Value) : ∀ j u, [x, y, z][j]? = some u → ((w.alloc o).alloc (.cells #[x, y, z] t)).cell? ((⟨w.heap.size + 1, 0, none⟩ : Addr).add j) = some u := by
  have h := lit3 (w.alloc o) t x y z
  rwa [show (w.alloc o).heap.size = w.heap.size + 1 from by simp] at h
/-- Old blocks under B and all blocks but those of changes are kept. -/
def CF (B : Nat) (w w' : World) : Prop := Below B w w' ∧ ∀ (g : Nat) (cs : Array Value) (t : TypeId), t ≠ 78 → w.heap[g]? = some (.cells cs t (0, 0)) → w'.heap[g]? = some (.cells cs t (0, 0))
theorem CF.refl (B : Nat) (w : World) : CF B w w := ⟨Below.refl _ _, fun _ _ _ _ h => h⟩
theorem CF.trans {B : Nat} {a b c : World} (h : CF B a b) (k : CF B b c) : CF B a c := ⟨h.1.trans k.1, fun g cs t ht hg => k.2 g cs t ht (h.2 g cs t ht hg)⟩
theorem CF.of_below {B : Nat} {w w' : World} (h : Below w.heap.size w w') (hB : B ≤ w.heap.size) : CF B w w' := ⟨h.mono hB, fun g _ _ _ hg => (h.block g (Array.getElem?_eq_some_iff.1 hg).1).trans hg⟩
theorem CF.grown {B n : Nat} {w w' : World} {v : Value} {xs : List Value} (h : w.ownsRow B 78 3 v n xs) (hg : w.grownBy w' v.ownBlock) (hB : B ≤ w.heap.size) : CF B w w' := by
  refine ⟨(Below.refl B w).grown hg hB (fun k hk => (h.lt k hk).1), fun g cs t ht hgc => ?_⟩
  refine (hg.block g (Array.getElem?_eq_some_iff.1 hgc).1 (fun e => ?_)).trans hgc
  rcases h.2 with ⟨hv, _⟩ | ⟨g', cap, cur, hv, _, hg', _⟩
  · subst hv; cases e
  · subst hv
    injection e with e
    simp only at e
    subst e
    rw [hgc] at hg'
    injection hg' with e
    injection e with _ e
    exact ht e
theorem OT.cf {B B' : Nat} {w w' : World} {r : Value} {ts : List (List UInt8)} (h : OT w B' r ts) (f : CF B w w') : OT w' B' r ts := by
  refine ⟨h.1, ?_⟩
  rcases h.2 with hn | ⟨g, cap, cur, hv, hb, hg, rest⟩
  · exact .inl hn
  · exact .inr ⟨g, cap, cur, hv, hb, f.2 g _ _ (by decide) hg, rest⟩
def chO (n : Nat) (p : List UInt8) : Option JV → Option JV → List (List UInt8)
  | some u, some v => chF n p u v
  | _, _ => [p]
theorem chK_O (n : Nat) (p : List UInt8) (a b : JV) (key : List UInt8) : chK n p a b key = chO n (ptrN p key) (findK (kidsV a) key) (findK (kidsV b) key) := by
  unfold chK
  cases findK (kidsV a) key <;> cases findK (kidsV b) key <;> rfl
def GoodO (n : Nat) (p : List UInt8) : Option JV → Prop
  | none => True
  | some u => okV u ∧ twV u = false ∧ depV u ≤ n ∧ (ct u).length ≤ 1000000 ∧ p.length + 2 * (ct u).length ≤ 4000000
/-- What is asked of two values' memory. -/
structure Two (w : World) (B : Nat) (S1 S2 : Nat → Prop) : Prop where
  apart : ∀ k, S1 k → ¬ S2 k
  lt1 : ∀ k, S1 k → k < B
  lt2 : ∀ k, S2 k → k < B
  size : B ≤ w.heap.size
  pow : PowB B w
theorem Two.next {w w' : World} {B : Nat} {S1 S2 : Nat → Prop} (h : Two w B S1 S2) (hb : Below B w w') : Two w' B S1 S2 := ⟨h.apart, h.lt1, h.lt2, Nat.le_trans h.size hb.size, h.pow.next hb (Nat.le_refl _)⟩
/-- The form of a value that a change holds. -/
def FO (v : Value) : Prop := v = .nilIface ∨ ∃ t q, v = .iface t q
/-- P holds of whatever lies in two values at the same place. -/
def PW (P : Chg → Prop) (w : World) (S1 S2 : Nat → Prop) (p : List UInt8) (oa ob : Option JV) : Prop := ∀ ts v1 v2, RepO w S1 (getO oa ts) v1 → RepO w S2 (getO ob ts) v2 → P (addP p ts, v1, v2)
theorem PW.here {P : Chg → Prop} {w : World} {S1 S2 : Nat → Prop} {p : List UInt8} {oa ob : Option JV} (h : PW P w S1 S2 p oa ob) {v1 v2 : Value} (h1 : RepO w S1 oa v1) (h2 : RepO w S2 ob v2) : P (p, v1, v2) := h [] v1 v2 (by rw [getO_nil]; exact h1) (by rw [getO_nil]; exact h2)
theorem PW.back {P : Chg → Prop} {w W : World} {S1 S2 : Nat → Prop} {p : List UInt8} {oa ob : Option JV} (h : PW P w S1 S2 p oa ob) (h1 : ∀ k, S1 k → W.heap[k]? = w.heap[k]?) (h2 : ∀ k, S2 k → W.heap[k]? = w.heap[k]?) : PW P W S1 S2 p oa ob :=
  fun ts v1 v2 r1 r2 => h ts v1 v2 (r1.keep (fun k hk => (h1 k hk).symm) (fun _ h => h)) (r2.keep (fun k hk => (h2 k hk).symm) (fun _ h => h))
theorem PW.kid {P : Chg → Prop} {w : World} {S1 S2 : Nat → Prop} {p : List UInt8} {a b : JV} (h : PW P w S1 S2 p (some a) (some b)) (ta : twV a = false) (tb : twV b = false) (ca : cntV a ≤ 1000000) (cb : cntV b ≤ 1000000) (key : List UInt8) : PW P w S1 S2 (ptrN p key) (findK (kidsV a) key) (findK (kidsV b) key) :=
  fun ts v1 v2 r1 r2 => h (key :: ts) v1 v2 (by rw [getO_kid ta ca]; exact r1) (by rw [getO_kid tb cb]; exact r2)
/-- The pointers of changes, that their values have their form, and what holds of each. -/
def ZM (P : Chg → Prop) (zs : List Chg) (L : List (List UInt8)) : Prop := zs.map (·.1) = L ∧ ∀ z ∈ zs, FO z.2.1 ∧ FO z.2.2 ∧ P z
theorem zm0 {P : Chg → Prop} {L : List (List UInt8)} (h : ([] : List Chg).map (·.1) = L) : ZM P [] L := ⟨h, fun _ hz => by cases hz⟩
theorem zm1 {P : Chg → Prop} {p : List UInt8} {v1 v2 : Value} {L : List (List UInt8)} (h : [((p, v1, v2) : Chg)].map (·.1) = L) (h1 : FO v1) (h2 : FO v2) (h3 : P (p, v1, v2)) : ZM P [(p, v1, v2)] L := ⟨h, fun z hz => by rw [List.mem_singleton] at hz; subst hz; exact ⟨h1, h2, h3⟩⟩
theorem zm_app {P : Chg → Prop} {zs ys : List Chg} {L M : List (List UInt8)} (h : ZM P zs L) (k : ZM P ys M) : ZM P (zs ++ ys) (L ++ M) := ⟨by rw [List.map_append, h.1, k.1], fun z hz => (List.mem_append.1 hz).elim (h.2 z) (k.2 z)⟩
theorem ZM.mono {P Q : Chg → Prop} {zs : List Chg} {L : List (List UInt8)} (h : ZM P zs L) (hq : ∀ z, P z → Q z) : ZM Q zs L := ⟨h.1, fun z hz => ⟨(h.2 z hz).1, (h.2 z hz).2.1, hq z (h.2 z hz).2.2⟩⟩
/-- What appendChanges promises. -/
def AC (n : Nat) : Prop := ∀ (P : Chg → Prop) (oa ob : Option JV) (p : List UInt8) (ys : List Chg) (lv v1 v2 : Value) (w : World) (B : Nat) (S1 S2 : Nat → Prop), GoodO n p oa → GoodO n p ob → (oa ≠ none ∨ ob ≠ none) → p.length ≤ 4000000 → ys.length + cntO oa + cntO ob ≤ 1000000 →
  CgR w B lv ys → RepO w S1 oa v1 → RepO w S2 ob v2 → Two w B S1 S2 → PW P w S1 S2 p oa ob →
  Calls Tryz.prog 138 #[lv, .agg #[.string (strOf p), v1, v2]] w fun e w' => ∃ (r : Value) (zs : List Chg), e = .returned r ∧ CgR w' B r (ys ++ zs) ∧ ZM P zs (chO n p oa ob) ∧ CF B w w'
/-- What its helpers promise. -/
def HC (f : FuncId) (n : Nat) (a b : JV) : Prop := ∀ (P : Chg → Prop) (p : List UInt8) (ys : List Chg) (lv : Value) (t1 t2 : TypeId) (g1 g2 : Addr) (w : World) (B : Nat) (S1 S2 : Nat → Prop), p.length + 2 * (ct a).length ≤ 4000000 → p.length + 2 * (ct b).length ≤ 4000000 → ys.length + cntV a + cntV b ≤ 1000000 →
  CgR w B lv ys → Rep w S1 a (.iface t1 (.pointer (some g1))) → Rep w S2 b (.iface t2 (.pointer (some g2))) → Two w B S1 S2 → PW P w S1 S2 p (some a) (some b) →
  Calls Tryz.prog f #[lv, .string (strOf p), .pointer (some g1), .pointer (some g2)] w fun e w' => ∃ (r : Value) (zs : List Chg), e = .returned r ∧ CgR w' B r (ys ++ zs) ∧ ZM P zs ((keys2 a b).flatMap (chK n p a b)) ∧ CF B w w'
theorem asrt_arr {w : World} {S : Nat → Prop} {a : JV} {v : Value} (h : Rep w S a v) (hn : kd a ≠ 5) : ∀ X : World, (Instr.typeAssert v 65 117 true).run Tryz.prog X = .ok (.tuple #[.pointer none, .bool false]) X := by
  intro X
  cases a with
  | nul => rw [Rep] at h; subst h; kernel_rfl
  | tt => rw [Rep] at h; subst h; kernel_rfl
  | ff => rw [Rep] at h; subst h; kernel_rfl
  | num l => rw [Rep] at h; obtain ⟨z, h, _⟩ := h; subst h; kernel_rfl
  | str l => rw [Rep] at h; subst h; kernel_rfl
  | arr l => exact absurd rfl hn
  | obj m => rw [Rep] at h; obtain ⟨ob, b, nn, xs, h, _⟩ := h; subst h; kernel_rfl
theorem asrt_obj {w : World} {S : Nat → Prop} {a : JV} {v : Value} (h : Rep w S a v) (hn : kd a ≠ 6) : ∀ X : World, (Instr.typeAssert v 65 179 true).run Tryz.prog X = .ok (.tuple #[.pointer none, .bool false]) X := by
  intro X
  cases a with
  | nul => rw [Rep] at h; subst h; kernel_rfl
  | tt => rw [Rep] at h; subst h; kernel_rfl
  | ff => rw [Rep] at h; subst h; kernel_rfl
  | num l => rw [Rep] at h; obtain ⟨z, h, _⟩ := h; subst h; kernel_rfl
  | str l => rw [Rep] at h; subst h; kernel_rfl
  | arr l => rw [Rep] at h; obtain ⟨ab, sv, xs, h, _⟩ := h; subst h; kernel_rfl
  | obj m => exact absurd rfl hn
theorem nil_arr (X : World) : (Instr.typeAssert .nilIface 65 117 true).run Tryz.prog X = .ok (.tuple #[.pointer none, .bool false]) X := by kernel_rfl
theorem nil_obj (X : World) : (Instr.typeAssert .nilIface 65 179 true).run Tryz.prog X = .ok (.tuple #[.pointer none, .bool false]) X := by kernel_rfl
theorem is_arr (g : Addr) (X : World) : (Instr.typeAssert (.iface 117 (.pointer (some g))) 65 117 true).run Tryz.prog X = .ok (.tuple #[.pointer (some g), .bool true]) X := by kernel_rfl
theorem is_obj (g : Addr) (X : World) : (Instr.typeAssert (.iface 179 (.pointer (some g))) 65 179 true).run Tryz.prog X = .ok (.tuple #[.pointer (some g), .bool true]) X := by kernel_rfl
theorem obj_no_arr (g : Addr) (X : World) : (Instr.typeAssert (.iface 179 (.pointer (some g))) 65 117 true).run Tryz.prog X = .ok (.tuple #[.pointer none, .bool false]) X := by kernel_rfl
end Go.Proofs.YtocnekbedcnmgaaGreatDoor


namespace Go.Proofs.YtocnekbedcnmgaaGreatDoor
open Go.RowKit

set_option maxRecDepth 100000 in
set_option maxHeartbeats 4000000 in
/-- Two values of which one is not there. -/
theorem chg_none (P : Chg → Prop) (oa ob : Option JV) (p : List UInt8) (ys : List Chg) (lv v1 v2 : Value) (w : World) (B : Nat) (S1 S2 : Nat → Prop) (hnn : oa ≠ none ∨ ob ≠ none) (hone : oa = none ∨ ob = none) (hl : p.length ≤ 4000000) (hy : ys.length ≤ 1000000)
    (hr : CgR w B lv ys) (h1 : RepO w S1 oa v1) (h2 : RepO w S2 ob v2) (htw : Two w B S1 S2) (HP0 : Hid (P (p, v1, v2))) :
    Calls Tryz.prog 138 #[lv, .agg #[.string (strOf p), v1, v2]] w fun e w' => ∃ (r : Value) (zs : List Chg), e = .returned r ∧ CgR w' B r (ys ++ zs) ∧ ZM P zs ([p]) ∧ CF B w w' := by
  obtain ⟨i0, hi0, hz0, hz1, hz2⟩ := info_parts infoCg
  have he : eqO oa ob = false := by
    rcases hone with rfl | rfl
    · rfl
    · cases oa <;> rfl
  obtain ⟨R, hch⟩ : ∃ R, R = [p] := ⟨_, rfl⟩
  rw [← hch]
  have ga := hl
  have gb := hl
  cases oa with
  | none =>
    cases ob with
    | none => rcases hnn with h | h <;> exact absurd rfl h
    | some b =>
      obtain ⟨t2, q2, rfl⟩ := rep_iface h2
      have e1 : v1 = .nilIface := h1
      subst e1
      have a1 := nil_arr
      have a2 := nil_obj
      have hXs : (w.alloc (.cells #[.string (strOf p), .nilIface, .iface t2 q2] 78)).heap.size = w.heap.size + 1 := by simp
      have k0 : (w.alloc (.cells #[.string (strOf p), .nilIface, .iface t2 q2] 78)).cell? ⟨w.heap.size, 0, none⟩ = some (.string (strOf p)) := lit3 w 78 (.string (strOf p)) (.nilIface) (.iface t2 q2) 0 _ rfl
      have k1 : (w.alloc (.cells #[.string (strOf p), .nilIface, .iface t2 q2] 78)).cell? ⟨w.heap.size, 1, none⟩ = some (.nilIface) := lit3 w 78 (.string (strOf p)) (.nilIface) (.iface t2 q2) 1 _ rfl
      have k2 : (w.alloc (.cells #[.string (strOf p), .nilIface, .iface t2 q2] 78)).cell? ⟨w.heap.size, 2, none⟩ = some (.iface t2 q2) := lit3 w 78 (.string (strOf p)) (.nilIface) (.iface t2 q2) 2 _ rfl
      have own1 : (w.alloc (.cells #[.string (strOf p), .nilIface, .iface t2 q2] 78)).ownsRow B 78 3 lv ys.length (ys.flatMap cgC) := own_below hr ((Below.refl _ _).alloc (Nat.le_refl _) _)
      have FW : Hid (CF B w (w.alloc (.cells #[.string (strOf p), .nilIface, .iface t2 q2] 78))) := CF.of_below ((Below.refl _ _).alloc (Nat.le_refl _) _) htw.size
      have heq0 := eqlO_run htw.apart (h1.keep (w' := w.alloc (.cells #[.string (strOf p), .nilIface, .iface t2 q2] 78)) (S' := S1) (fun k hk => Below.heap_alloc _ _ k (by have := htw.lt1 k hk; have := htw.size; omega)) (fun _ h => h)) (h2.keep (w' := w.alloc (.cells #[.string (strOf p), .nilIface, .iface t2 q2] 78)) (S' := S2) (fun k hk => Below.heap_alloc _ _ k (by have := htw.lt2 k hk; have := htw.size; omega)) (fun _ h => h)) hnn
      have hBs := htw.size
      rw [he] at heq0
      have heq := heq0
      clear heq0
      have HCH := hide hch
      clear hch hr h1 h2 htw hnn ga gb he
      go_enter Tryz.func138, Tryz.ntmps138
      have hWB : B ≤ (w.alloc (.cells #[.string (strOf p), .nilIface, .iface t2 q2] 78)).heap.size := by omega
      go_wp2_with (at_builtin; refine wpList_append_own _ rfl (.tmp 64) (.tmp 66) 74 rfl B 78 i0 (.agg #[.string ByteArray.empty, .nilIface, .nilIface]) 3 48 Tryz.underlying74 hi0 hz0 hz1 hz2 rfl (by decide) _ _ _ rfl (own1.alloc _) ⟨w.heap.size + 1, 0, none⟩ 1 1 [.string (strOf p), .nilIface, .iface t2 q2] rfl rfl (lit3B _ _ _ _ _ _) (by intro u hu; simp at hu; rcases hu with rfl | rfl | rfl <;> rfl) (by unfold maxLen; omega) (by omega) (by simp; omega) ?_)
      intro v3 w3 own3 hg3 _
      have R3 : Hid (CgR w3 B v3 (ys ++ [(p, .nilIface, .iface t2 q2)])) := CgR.step own3
      have F3 : Hid (CF B w w3) := ((unhide FW).trans (CF.of_below ((Below.refl _ _).alloc (Nat.le_refl _) _) hWB)).trans (CF.grown (own1.alloc _) hg3 (by simp; omega))
      clear own3 hg3 own1 FW
      go_wp2
      go_ret
      exact ⟨_, [(p, .nilIface, .iface t2 q2)], rfl, unhide R3, zm1 (unhide HCH).symm (by first | exact .inl rfl | exact .inr ⟨_, _, rfl⟩) (by first | exact .inl rfl | exact .inr ⟨_, _, rfl⟩) (unhide HP0), unhide F3⟩
  | some a =>
    have hob : ob = none := by rcases hone with h | h; cases h; exact h
    subst hob
    have e2 : v2 = .nilIface := h2
    subst e2
    by_cases k5 : kd a = 5
    · obtain ⟨l, rfl⟩ : ∃ l, a = .arr l := by cases a <;> first | exact ⟨_, rfl⟩ | (simp [kd] at k5)
      obtain ⟨ab, e1⟩ : ∃ ab, v1 = .iface 117 (.pointer (some ⟨ab, 0, none⟩)) := by
        have h1' : Rep w S1 (.arr l) v1 := h1
        rw [Rep] at h1'
        obtain ⟨ab, sv, xs, h, _⟩ := h1'
        exact ⟨ab, h⟩
      subst e1
      have a1 := is_arr ⟨ab, 0, none⟩
      have a2 := nil_arr
      clear k5
      have hXs : (w.alloc (.cells #[.string (strOf p), .iface 117 (.pointer (some ⟨ab, 0, none⟩)), .nilIface] 78)).heap.size = w.heap.size + 1 := by simp
      have k0 : (w.alloc (.cells #[.string (strOf p), .iface 117 (.pointer (some ⟨ab, 0, none⟩)), .nilIface] 78)).cell? ⟨w.heap.size, 0, none⟩ = some (.string (strOf p)) := lit3 w 78 (.string (strOf p)) (.iface 117 (.pointer (some ⟨ab, 0, none⟩))) (.nilIface) 0 _ rfl
      have k1 : (w.alloc (.cells #[.string (strOf p), .iface 117 (.pointer (some ⟨ab, 0, none⟩)), .nilIface] 78)).cell? ⟨w.heap.size, 1, none⟩ = some (.iface 117 (.pointer (some ⟨ab, 0, none⟩))) := lit3 w 78 (.string (strOf p)) (.iface 117 (.pointer (some ⟨ab, 0, none⟩))) (.nilIface) 1 _ rfl
      have k2 : (w.alloc (.cells #[.string (strOf p), .iface 117 (.pointer (some ⟨ab, 0, none⟩)), .nilIface] 78)).cell? ⟨w.heap.size, 2, none⟩ = some (.nilIface) := lit3 w 78 (.string (strOf p)) (.iface 117 (.pointer (some ⟨ab, 0, none⟩))) (.nilIface) 2 _ rfl
      have bX : Below w.heap.size w (w.alloc (.cells #[.string (strOf p), .iface 117 (.pointer (some ⟨ab, 0, none⟩)), .nilIface] 78)) := (Below.refl _ _).alloc (Nat.le_refl _) _
      have HB := hide bX
      have HTW := hide htw
      have HR1 := hide h1
      have HR2 := hide h2
      have HNN := hide hnn
      have HCH := hide hch
      have HE := hide he
      have HR := hide hr
      have hBs := htw.size
      clear bX hch hr h1 h2 htw hnn ga gb he
      go_enter Tryz.func138, Tryz.ntmps138
      go_wp2_with fail
      go_quiet (fail)
      have BX : Hid (Below w.heap.size w ((w.alloc (.cells #[.string (strOf p), .iface 117 (.pointer (some ⟨ab, 0, none⟩)), .nilIface] 78)).drewN nq)) := below_drewN (unhide HB) _
      have hXW : ((w.alloc (.cells #[.string (strOf p), .iface 117 (.pointer (some ⟨ab, 0, none⟩)), .nilIface] 78)).drewN nq).heap.size = w.heap.size + 1 := hXs
      have q0 : ((w.alloc (.cells #[.string (strOf p), .iface 117 (.pointer (some ⟨ab, 0, none⟩)), .nilIface] 78)).drewN nq).cell? ⟨w.heap.size, 0, none⟩ = some (.string (strOf p)) := k0
      have q1 : ((w.alloc (.cells #[.string (strOf p), .iface 117 (.pointer (some ⟨ab, 0, none⟩)), .nilIface] 78)).drewN nq).cell? ⟨w.heap.size, 1, none⟩ = some (.iface 117 (.pointer (some ⟨ab, 0, none⟩))) := k1
      have q2 : ((w.alloc (.cells #[.string (strOf p), .iface 117 (.pointer (some ⟨ab, 0, none⟩)), .nilIface] 78)).drewN nq).cell? ⟨w.heap.size, 2, none⟩ = some (.nilIface) := k2
      clear k0 k1 k2 HB hXs
      generalize (w.alloc (.cells #[.string (strOf p), .iface 117 (.pointer (some ⟨ab, 0, none⟩)), .nilIface] 78)).drewN nq = W at *
      have q3 : ∀ j u, [Value.string (strOf p), .iface 117 (.pointer (some ⟨ab, 0, none⟩)), .nilIface][j]? = some u → W.cell? ⟨w.heap.size, j, none⟩ = some u := fun j u h => by
        match j with
        | 0 => simp at h; subst h; exact q0
        | 1 => simp at h; subst h; exact q1
        | 2 => simp at h; subst h; exact q2
        | j + 3 => simp at h
      have hWB : B ≤ W.heap.size := by omega
      have heq := eqlO_run (unhide HTW).apart ((unhide HR1).keep (w' := W) (S' := S1) (fun k hk => (unhide BX).block k (by have := (unhide HTW).lt1 k hk; omega)) (fun _ h => h)) ((unhide HR2).keep (w' := W) (S' := S2) (fun k hk => (unhide BX).block k (by have := (unhide HTW).lt2 k hk; omega)) (fun _ h => h)) (unhide HNN)
      rw [unhide HE] at heq
      have own1 : W.ownsRow B 78 3 lv ys.length (ys.flatMap cgC) := own_below (unhide HR) (unhide BX)
      have FW : Hid (CF B w W) := CF.of_below (unhide BX) hBs
      clear HTW HR1 HR2 HNN HE HR BX q3 hXW
      go_wp2_with (at_builtin; refine wpList_append_own _ rfl (.tmp 64) (.tmp 66) 74 rfl B 78 i0 (.agg #[.string ByteArray.empty, .nilIface, .nilIface]) 3 48 Tryz.underlying74 hi0 hz0 hz1 hz2 rfl (by decide) _ _ _ rfl (own1.alloc _) ⟨W.heap.size, 0, none⟩ 1 1 [.string (strOf p), .iface 117 (.pointer (some ⟨ab, 0, none⟩)), .nilIface] rfl rfl (lit3 _ _ _ _ _) (by intro u hu; simp at hu; rcases hu with rfl | rfl | rfl <;> rfl) (by unfold maxLen; omega) (by omega) (by simp; omega) ?_)
      intro v3 w3 own3 hg3 _
      have R3 : Hid (CgR w3 B v3 (ys ++ [(p, .iface 117 (.pointer (some ⟨ab, 0, none⟩)), .nilIface)])) := CgR.step own3
      have F3 : Hid (CF B w w3) := ((unhide FW).trans (CF.of_below ((Below.refl _ _).alloc (Nat.le_refl _) _) hWB)).trans (CF.grown (own1.alloc _) hg3 (by simp; omega))
      clear own3 hg3 own1 FW
      go_wp2
      go_ret
      exact ⟨_, [(p, .iface 117 (.pointer (some ⟨ab, 0, none⟩)), .nilIface)], rfl, unhide R3, zm1 (unhide HCH).symm (by first | exact .inl rfl | exact .inr ⟨_, _, rfl⟩) (by first | exact .inl rfl | exact .inr ⟨_, _, rfl⟩) (unhide HP0), unhide F3⟩
    · by_cases k6 : kd a = 6
      · obtain ⟨m, rfl⟩ : ∃ m, a = .obj m := by cases a <;> first | exact ⟨_, rfl⟩ | (simp [kd] at k6)
        obtain ⟨ob1, e1⟩ : ∃ ob1, v1 = .iface 179 (.pointer (some ⟨ob1, 0, none⟩)) := by
          have h1' : Rep w S1 (.obj m) v1 := h1
          rw [Rep] at h1'
          obtain ⟨ob, b, nn, xs, h, _⟩ := h1'
          exact ⟨ob, h⟩
        subst e1
        have a1 := obj_no_arr ⟨ob1, 0, none⟩
        have a2 := is_obj ⟨ob1, 0, none⟩
        have a3 := nil_obj
        clear k5 k6
        have hXs : (w.alloc (.cells #[.string (strOf p), .iface 179 (.pointer (some ⟨ob1, 0, none⟩)), .nilIface] 78)).heap.size = w.heap.size + 1 := by simp
        have k0 : (w.alloc (.cells #[.string (strOf p), .iface 179 (.pointer (some ⟨ob1, 0, none⟩)), .nilIface] 78)).cell? ⟨w.heap.size, 0, none⟩ = some (.string (strOf p)) := lit3 w 78 (.string (strOf p)) (.iface 179 (.pointer (some ⟨ob1, 0, none⟩))) (.nilIface) 0 _ rfl
        have k1 : (w.alloc (.cells #[.string (strOf p), .iface 179 (.pointer (some ⟨ob1, 0, none⟩)), .nilIface] 78)).cell? ⟨w.heap.size, 1, none⟩ = some (.iface 179 (.pointer (some ⟨ob1, 0, none⟩))) := lit3 w 78 (.string (strOf p)) (.iface 179 (.pointer (some ⟨ob1, 0, none⟩))) (.nilIface) 1 _ rfl
        have k2 : (w.alloc (.cells #[.string (strOf p), .iface 179 (.pointer (some ⟨ob1, 0, none⟩)), .nilIface] 78)).cell? ⟨w.heap.size, 2, none⟩ = some (.nilIface) := lit3 w 78 (.string (strOf p)) (.iface 179 (.pointer (some ⟨ob1, 0, none⟩))) (.nilIface) 2 _ rfl
        have own1 : (w.alloc (.cells #[.string (strOf p), .iface 179 (.pointer (some ⟨ob1, 0, none⟩)), .nilIface] 78)).ownsRow B 78 3 lv ys.length (ys.flatMap cgC) := own_below hr ((Below.refl _ _).alloc (Nat.le_refl _) _)
        have FW : Hid (CF B w (w.alloc (.cells #[.string (strOf p), .iface 179 (.pointer (some ⟨ob1, 0, none⟩)), .nilIface] 78))) := CF.of_below ((Below.refl _ _).alloc (Nat.le_refl _) _) htw.size
        have heq0 := eqlO_run htw.apart (h1.keep (w' := w.alloc (.cells #[.string (strOf p), .iface 179 (.pointer (some ⟨ob1, 0, none⟩)), .nilIface] 78)) (S' := S1) (fun k hk => Below.heap_alloc _ _ k (by have := htw.lt1 k hk; have := htw.size; omega)) (fun _ h => h)) (h2.keep (w' := w.alloc (.cells #[.string (strOf p), .iface 179 (.pointer (some ⟨ob1, 0, none⟩)), .nilIface] 78)) (S' := S2) (fun k hk => Below.heap_alloc _ _ k (by have := htw.lt2 k hk; have := htw.size; omega)) (fun _ h => h)) hnn
        have hBs := htw.size
        rw [he] at heq0
        have heq := heq0
        clear heq0
        have HCH := hide hch
        clear hch hr h1 h2 htw hnn ga gb he
        go_enter Tryz.func138, Tryz.ntmps138
        have hWB : B ≤ (w.alloc (.cells #[.string (strOf p), .iface 179 (.pointer (some ⟨ob1, 0, none⟩)), .nilIface] 78)).heap.size := by omega
        go_wp2_with (at_builtin; refine wpList_append_own _ rfl (.tmp 64) (.tmp 66) 74 rfl B 78 i0 (.agg #[.string ByteArray.empty, .nilIface, .nilIface]) 3 48 Tryz.underlying74 hi0 hz0 hz1 hz2 rfl (by decide) _ _ _ rfl (own1.alloc _) ⟨w.heap.size + 1, 0, none⟩ 1 1 [.string (strOf p), .iface 179 (.pointer (some ⟨ob1, 0, none⟩)), .nilIface] rfl rfl (lit3B _ _ _ _ _ _) (by intro u hu; simp at hu; rcases hu with rfl | rfl | rfl <;> rfl) (by unfold maxLen; omega) (by omega) (by simp; omega) ?_)
        intro v3 w3 own3 hg3 _
        have R3 : Hid (CgR w3 B v3 (ys ++ [(p, .iface 179 (.pointer (some ⟨ob1, 0, none⟩)), .nilIface)])) := CgR.step own3
        have F3 : Hid (CF B w w3) := ((unhide FW).trans (CF.of_below ((Below.refl _ _).alloc (Nat.le_refl _) _) hWB)).trans (CF.grown (own1.alloc _) hg3 (by simp; omega))
        clear own3 hg3 own1 FW
        go_wp2
        go_ret
        exact ⟨_, [(p, .iface 179 (.pointer (some ⟨ob1, 0, none⟩)), .nilIface)], rfl, unhide R3, zm1 (unhide HCH).symm (by first | exact .inl rfl | exact .inr ⟨_, _, rfl⟩) (by first | exact .inl rfl | exact .inr ⟨_, _, rfl⟩) (unhide HP0), unhide F3⟩
      · have a1 := asrt_arr (show Rep w S1 a v1 from h1) k5
        have a2 := asrt_obj (show Rep w S1 a v1 from h1) k6
        obtain ⟨t1, q1, rfl⟩ := rep_iface (show Rep w S1 a v1 from h1)
        clear k5 k6
        have hXs : (w.alloc (.cells #[.string (strOf p), .iface t1 q1, .nilIface] 78)).heap.size = w.heap.size + 1 := by simp
        have k0 : (w.alloc (.cells #[.string (strOf p), .iface t1 q1, .nilIface] 78)).cell? ⟨w.heap.size, 0, none⟩ = some (.string (strOf p)) := lit3 w 78 (.string (strOf p)) (.iface t1 q1) (.nilIface) 0 _ rfl
        have k1 : (w.alloc (.cells #[.string (strOf p), .iface t1 q1, .nilIface] 78)).cell? ⟨w.heap.size, 1, none⟩ = some (.iface t1 q1) := lit3 w 78 (.string (strOf p)) (.iface t1 q1) (.nilIface) 1 _ rfl
        have k2 : (w.alloc (.cells #[.string (strOf p), .iface t1 q1, .nilIface] 78)).cell? ⟨w.heap.size, 2, none⟩ = some (.nilIface) := lit3 w 78 (.string (strOf p)) (.iface t1 q1) (.nilIface) 2 _ rfl
        have own1 : (w.alloc (.cells #[.string (strOf p), .iface t1 q1, .nilIface] 78)).ownsRow B 78 3 lv ys.length (ys.flatMap cgC) := own_below hr ((Below.refl _ _).alloc (Nat.le_refl _) _)
        have FW : Hid (CF B w (w.alloc (.cells #[.string (strOf p), .iface t1 q1, .nilIface] 78))) := CF.of_below ((Below.refl _ _).alloc (Nat.le_refl _) _) htw.size
        have heq0 := eqlO_run htw.apart (h1.keep (w' := w.alloc (.cells #[.string (strOf p), .iface t1 q1, .nilIface] 78)) (S' := S1) (fun k hk => Below.heap_alloc _ _ k (by have := htw.lt1 k hk; have := htw.size; omega)) (fun _ h => h)) (h2.keep (w' := w.alloc (.cells #[.string (strOf p), .iface t1 q1, .nilIface] 78)) (S' := S2) (fun k hk => Below.heap_alloc _ _ k (by have := htw.lt2 k hk; have := htw.size; omega)) (fun _ h => h)) hnn
        have hBs := htw.size
        rw [he] at heq0
        have heq := heq0
        clear heq0
        have HCH := hide hch
        clear hch hr h1 h2 htw hnn ga gb he
        go_enter Tryz.func138, Tryz.ntmps138
        have hWB : B ≤ (w.alloc (.cells #[.string (strOf p), .iface t1 q1, .nilIface] 78)).heap.size := by omega
        go_wp2_with (at_builtin; refine wpList_append_own _ rfl (.tmp 64) (.tmp 66) 74 rfl B 78 i0 (.agg #[.string ByteArray.empty, .nilIface, .nilIface]) 3 48 Tryz.underlying74 hi0 hz0 hz1 hz2 rfl (by decide) _ _ _ rfl (own1.alloc _) ⟨w.heap.size + 1, 0, none⟩ 1 1 [.string (strOf p), .iface t1 q1, .nilIface] rfl rfl (lit3B _ _ _ _ _ _) (by intro u hu; simp at hu; rcases hu with rfl | rfl | rfl <;> rfl) (by unfold maxLen; omega) (by omega) (by simp; omega) ?_)
        intro v3 w3 own3 hg3 _
        have R3 : Hid (CgR w3 B v3 (ys ++ [(p, .iface t1 q1, .nilIface)])) := CgR.step own3
        have F3 : Hid (CF B w w3) := ((unhide FW).trans (CF.of_below ((Below.refl _ _).alloc (Nat.le_refl _) _) hWB)).trans (CF.grown (own1.alloc _) hg3 (by simp; omega))
        clear own3 hg3 own1 FW
        go_wp2
        go_ret
        exact ⟨_, [(p, .iface t1 q1, .nilIface)], rfl, unhide R3, zm1 (unhide HCH).symm (by first | exact .inl rfl | exact .inr ⟨_, _, rfl⟩) (by first | exact .inl rfl | exact .inr ⟨_, _, rfl⟩) (unhide HP0), unhide F3⟩
end Go.Proofs.YtocnekbedcnmgaaGreatDoor


namespace Go.Proofs.YtocnekbedcnmgaaGreatDoor
open Go.RowKit

theorem comp_cases0 {a b : JV} (h : comp a b = true) : (∃ l m, a = .arr l ∧ b = .arr m ∧ l.toL.length = m.toL.length) ∨ ∃ l m, a = .obj l ∧ b = .obj m := by
  cases a <;> cases b <;> first | exact .inr ⟨_, _, rfl, rfl⟩ | (simp [comp] at h; done) | skip
  rename_i l m
  exact .inl ⟨l, m, rfl, rfl, by simpa [comp] using h⟩

set_option maxRecDepth 100000 in
set_option maxHeartbeats 8000000 in
theorem ac_step (n : Nat) (hI : ∀ a b : JV, kd a = 5 → comp a b = true → okV a → okV b → twV a = false → twV b = false → depV a ≤ n + 1 → depV b ≤ n + 1 → (ct a).length ≤ 1000000 → (ct b).length ≤ 1000000 → HC 178 n a b)
    (hM : ∀ a b : JV, kd a = 6 → comp a b = true → okV a → okV b → twV a = false → twV b = false → depV a ≤ n + 1 → depV b ≤ n + 1 → (ct a).length ≤ 1000000 → (ct b).length ≤ 1000000 → HC 179 n a b) : AC (n + 1) := by
  intro P oa ob p ys lv v1 v2 w B S1 S2 ga gb hnn hl hcn hr h1 h2 htw hpw
  have HP0 := hide (hpw.here h1 h2)
  have HPW := hide hpw
  clear hpw
  obtain ⟨i0, hi0, hz0, hz1, hz2⟩ := info_parts infoCg
  by_cases hone : oa = none ∨ ob = none
  · have e : chO (n + 1) p oa ob = [p] := by
      rcases hone with rfl | rfl
      · rfl
      · cases oa <;> rfl
    rw [e]
    exact chg_none P oa ob p ys lv v1 v2 w B S1 S2 hnn hone hl (by omega) hr h1 h2 htw HP0
  · cases oa with
    | none => exact absurd (.inl rfl) hone
    | some a =>
      cases ob with
      | none => exact absurd (.inr rfl) hone
      | some b =>
        obtain ⟨oka, twa, da, la, lpa⟩ := ga
        obtain ⟨okb, twb, db, lb, lpb⟩ := gb
        simp only [cntO] at hcn
        have h1' : Rep w S1 a v1 := h1
        have h2' : Rep w S2 b v2 := h2
        have hy : ys.length ≤ 1000000 := by omega
        have eR : chO (n + 1) p (some a) (some b) = chF (n + 1) p a b := rfl
        rw [eR]
        clear hone eR
        by_cases hc : comp a b = true
        · rw [chF_comp hc]
          rcases comp_cases0 hc with ⟨l, m, rfl, rfl, hlen⟩ | ⟨l, m, rfl, rfl⟩
          · have HH := hide (hI _ _ rfl hc oka okb twa twb da db la lb)
            obtain ⟨ab, sv, xs, e1, s1, g1, r1, rl1⟩ := (by have := h1'; rwa [Rep] at this : ∃ ab sv xs, v1 = .iface 117 (.pointer (some ⟨ab, 0, none⟩)) ∧ S1 ab ∧ w.heap[ab]? = some (.cells #[sv] 119 (0, 0)) ∧ RowIs w S1 sv xs ∧ RepL w S1 l xs)
            obtain ⟨ab2, sv2, xs2, e2, s2, g2, r2, rl2⟩ := (by have := h2'; rwa [Rep] at this : ∃ ab sv xs, v2 = .iface 117 (.pointer (some ⟨ab, 0, none⟩)) ∧ S2 ab ∧ w.heap[ab]? = some (.cells #[sv] 119 (0, 0)) ∧ RowIs w S2 sv xs ∧ RepL w S2 m xs)
            obtain ⟨x1, _, c1, rfl, _, _⟩ := row_shape r1
            obtain ⟨x2, _, c2, rfl, _, _⟩ := row_shape r2
            have n1 := (repL_at l xs rl1).1
            have n2 := (repL_at m xs2 rl2).1
            subst e1; subst e2
            have a1 := is_arr ⟨ab, 0, none⟩
            have a2 := is_arr ⟨ab2, 0, none⟩
            have hablt : ab < w.heap.size := by have := htw.lt1 _ s1; have := htw.size; omega
            have hablt2 : ab2 < w.heap.size := by have := htw.lt2 _ s2; have := htw.size; omega
            have y1 : (w.alloc (.cells #[.string (strOf p), .iface 117 (.pointer (some ⟨ab, 0, none⟩)), .iface 117 (.pointer (some ⟨ab2, 0, none⟩))] 78)).cell? ⟨ab, 0, none⟩ = some (.slice x1 xs.length c1) := by
              rw [((Below.refl w.heap.size w).alloc (Nat.le_refl _) _).cell (p := ⟨ab, 0, none⟩) hablt, Lib.cell_of_heap g1]; rfl
            have y2 : (w.alloc (.cells #[.string (strOf p), .iface 117 (.pointer (some ⟨ab, 0, none⟩)), .iface 117 (.pointer (some ⟨ab2, 0, none⟩))] 78)).cell? ⟨ab2, 0, none⟩ = some (.slice x2 xs2.length c2) := by
              rw [((Below.refl w.heap.size w).alloc (Nat.le_refl _) _).cell (p := ⟨ab2, 0, none⟩) hablt2, Lib.cell_of_heap g2]; rfl
            have k0 : (w.alloc (.cells #[.string (strOf p), .iface 117 (.pointer (some ⟨ab, 0, none⟩)), .iface 117 (.pointer (some ⟨ab2, 0, none⟩))] 78)).cell? ⟨w.heap.size, 0, none⟩ = some (.string (strOf p)) := lit3 w 78 (.string (strOf p)) (.iface 117 (.pointer (some ⟨ab, 0, none⟩))) (.iface 117 (.pointer (some ⟨ab2, 0, none⟩))) 0 _ rfl
            have k1 : (w.alloc (.cells #[.string (strOf p), .iface 117 (.pointer (some ⟨ab, 0, none⟩)), .iface 117 (.pointer (some ⟨ab2, 0, none⟩))] 78)).cell? ⟨w.heap.size, 1, none⟩ = some (.iface 117 (.pointer (some ⟨ab, 0, none⟩))) := lit3 w 78 (.string (strOf p)) (.iface 117 (.pointer (some ⟨ab, 0, none⟩))) (.iface 117 (.pointer (some ⟨ab2, 0, none⟩))) 1 _ rfl
            have k2 : (w.alloc (.cells #[.string (strOf p), .iface 117 (.pointer (some ⟨ab, 0, none⟩)), .iface 117 (.pointer (some ⟨ab2, 0, none⟩))] 78)).cell? ⟨w.heap.size, 2, none⟩ = some (.iface 117 (.pointer (some ⟨ab2, 0, none⟩))) := lit3 w 78 (.string (strOf p)) (.iface 117 (.pointer (some ⟨ab, 0, none⟩))) (.iface 117 (.pointer (some ⟨ab2, 0, none⟩))) 2 _ rfl
            have bX : Below w.heap.size w (w.alloc (.cells #[.string (strOf p), .iface 117 (.pointer (some ⟨ab, 0, none⟩)), .iface 117 (.pointer (some ⟨ab2, 0, none⟩))] 78)) := (Below.refl _ _).alloc (Nat.le_refl _) _
            have tl : ((xs.length : Int) == (xs2.length : Int)) = true := by rw [beq_iff_eq]; omega
            have HIT : Hid (∀ W : World, Below w.heap.size w W → Calls Tryz.prog 178 #[lv, .string (strOf p), .pointer (some ⟨ab, 0, none⟩), .pointer (some ⟨ab2, 0, none⟩)] W fun e w' => ∃ (r : Value) (zs : List Chg), e = .returned r ∧ CgR w' B r (ys ++ zs) ∧ ZM P zs ((keys2 (.arr l) (.arr m)).flatMap (chK n p (.arr l) (.arr m))) ∧ CF B W w') := fun W hW =>
              (unhide HH) P p ys lv _ _ _ _ W B S1 S2 lpa lpb (by omega) (own_below hr hW) (Rep.keep (fun k hk => hW.block k (by have := htw.lt1 k hk; have := htw.size; omega)) (fun _ h => h) _ _ h1') (Rep.keep (fun k hk => hW.block k (by have := htw.lt2 k hk; have := htw.size; omega)) (fun _ h => h) _ _ h2') (htw.next (hW.mono htw.size)) ((unhide HPW).back (fun k hk => hW.block k (by have := htw.lt1 k hk; have := htw.size; omega)) (fun k hk => hW.block k (by have := htw.lt2 k hk; have := htw.size; omega)))
            have HB := hide bX
            have hBs := htw.size
            have heqA := eql_run htw.apart (Rep.keep (S' := S1) (fun k hk => bX.block k (by have := htw.lt1 k hk; have := htw.size; omega)) (fun _ h => h) _ _ h1') (Rep.keep (S' := S2) (fun k hk => bX.block k (by have := htw.lt2 k hk; have := htw.size; omega)) (fun _ h => h) _ _ h2')
            rw [show leafEq (.arr l) (.arr m) = false from rfl] at heqA
            clear HH hI hM lpa lpb la lb da db twa twb oka okb hc h1' h2' h1 h2 htw hr r1 r2 rl1 rl2 g1 g2 bX hnn n1 n2 hlen s1 s2
            generalize (keys2 (.arr l) (.arr m)).flatMap (chK n p (.arr l) (.arr m)) = R at *
            go_enter Tryz.func138, Tryz.ntmps138
            go_wp2_with fail
            go_quiet (fail)
            have BX : Hid (Below w.heap.size w ((w.alloc (.cells #[.string (strOf p), .iface 117 (.pointer (some ⟨ab, 0, none⟩)), .iface 117 (.pointer (some ⟨ab2, 0, none⟩))] 78)).drewN nq)) := below_drewN (unhide HB) _
            have HI2 := hide (unhide HIT _ (unhide BX))
            have q0 : ((w.alloc (.cells #[.string (strOf p), .iface 117 (.pointer (some ⟨ab, 0, none⟩)), .iface 117 (.pointer (some ⟨ab2, 0, none⟩))] 78)).drewN nq).cell? ⟨w.heap.size, 0, none⟩ = some (.string (strOf p)) := k0
            clear k0 k1 k2 HB HIT y1 y2
            generalize (w.alloc (.cells #[.string (strOf p), .iface 117 (.pointer (some ⟨ab, 0, none⟩)), .iface 117 (.pointer (some ⟨ab2, 0, none⟩))] 78)).drewN nq = W at *
            go_wp2_with fail
            refine (unhide HI2).mono ?_
            rintro e w3 ⟨r3, zs, rfl, o3, z3, f3⟩
            have O3 := hide o3
            have Z3 := hide z3
            have F3 := hide ((CF.of_below (unhide BX) hBs).trans f3)
            clear HI2 o3 z3 f3
            go_wp2
            go_ret
            exact ⟨_, zs, rfl, unhide O3, unhide Z3, unhide F3⟩
          · have HH := hide (hM _ _ rfl hc oka okb twa twb da db la lb)
            obtain ⟨ob1, mb1, nn1, xs, e1, s1, _⟩ := (by have := h1'; rwa [Rep] at this : ∃ ob b nn xs, v1 = .iface 179 (.pointer (some ⟨ob, 0, none⟩)) ∧ S1 ob ∧ S1 b ∧ w.heap[ob]? = some (.cells #[.map (some b)] 182 (0, 0)) ∧ w.ownsMap Tryz.prog 9 RH b nn (putAll xs) ∧ nn ≤ xs.length ∧ RepM w S1 l xs)
            obtain ⟨ob2, mb2, nn2, xs2, e2, s2, _⟩ := (by have := h2'; rwa [Rep] at this : ∃ ob b nn xs, v2 = .iface 179 (.pointer (some ⟨ob, 0, none⟩)) ∧ S2 ob ∧ S2 b ∧ w.heap[ob]? = some (.cells #[.map (some b)] 182 (0, 0)) ∧ w.ownsMap Tryz.prog 9 RH b nn (putAll xs) ∧ nn ≤ xs.length ∧ RepM w S2 m xs)
            subst e1; subst e2
            have a1 := obj_no_arr ⟨ob1, 0, none⟩
            have a2 := is_obj ⟨ob1, 0, none⟩
            have a3 := is_obj ⟨ob2, 0, none⟩
            have k0 : (w.alloc (.cells #[.string (strOf p), .iface 179 (.pointer (some ⟨ob1, 0, none⟩)), .iface 179 (.pointer (some ⟨ob2, 0, none⟩))] 78)).cell? ⟨w.heap.size, 0, none⟩ = some (.string (strOf p)) := lit3 w 78 (.string (strOf p)) (.iface 179 (.pointer (some ⟨ob1, 0, none⟩))) (.iface 179 (.pointer (some ⟨ob2, 0, none⟩))) 0 _ rfl
            have k1 : (w.alloc (.cells #[.string (strOf p), .iface 179 (.pointer (some ⟨ob1, 0, none⟩)), .iface 179 (.pointer (some ⟨ob2, 0, none⟩))] 78)).cell? ⟨w.heap.size, 1, none⟩ = some (.iface 179 (.pointer (some ⟨ob1, 0, none⟩))) := lit3 w 78 (.string (strOf p)) (.iface 179 (.pointer (some ⟨ob1, 0, none⟩))) (.iface 179 (.pointer (some ⟨ob2, 0, none⟩))) 1 _ rfl
            have k2 : (w.alloc (.cells #[.string (strOf p), .iface 179 (.pointer (some ⟨ob1, 0, none⟩)), .iface 179 (.pointer (some ⟨ob2, 0, none⟩))] 78)).cell? ⟨w.heap.size, 2, none⟩ = some (.iface 179 (.pointer (some ⟨ob2, 0, none⟩))) := lit3 w 78 (.string (strOf p)) (.iface 179 (.pointer (some ⟨ob1, 0, none⟩))) (.iface 179 (.pointer (some ⟨ob2, 0, none⟩))) 2 _ rfl
            have bX : Below w.heap.size w (w.alloc (.cells #[.string (strOf p), .iface 179 (.pointer (some ⟨ob1, 0, none⟩)), .iface 179 (.pointer (some ⟨ob2, 0, none⟩))] 78)) := (Below.refl _ _).alloc (Nat.le_refl _) _
            have HIT : Hid (∀ W : World, Below w.heap.size w W → Calls Tryz.prog 179 #[lv, .string (strOf p), .pointer (some ⟨ob1, 0, none⟩), .pointer (some ⟨ob2, 0, none⟩)] W fun e w' => ∃ (r : Value) (zs : List Chg), e = .returned r ∧ CgR w' B r (ys ++ zs) ∧ ZM P zs ((keys2 (.obj l) (.obj m)).flatMap (chK n p (.obj l) (.obj m))) ∧ CF B W w') := fun W hW =>
              (unhide HH) P p ys lv _ _ _ _ W B S1 S2 lpa lpb (by omega) (own_below hr hW) (Rep.keep (fun k hk => hW.block k (by have := htw.lt1 k hk; have := htw.size; omega)) (fun _ h => h) _ _ h1') (Rep.keep (fun k hk => hW.block k (by have := htw.lt2 k hk; have := htw.size; omega)) (fun _ h => h) _ _ h2') (htw.next (hW.mono htw.size)) ((unhide HPW).back (fun k hk => hW.block k (by have := htw.lt1 k hk; have := htw.size; omega)) (fun k hk => hW.block k (by have := htw.lt2 k hk; have := htw.size; omega)))
            have HI2 := hide (unhide HIT _ bX)
            have BX := hide bX
            have hBs := htw.size
            have heqA := eql_run htw.apart (Rep.keep (S' := S1) (fun k hk => bX.block k (by have := htw.lt1 k hk; have := htw.size; omega)) (fun _ h => h) _ _ h1') (Rep.keep (S' := S2) (fun k hk => bX.block k (by have := htw.lt2 k hk; have := htw.size; omega)) (fun _ h => h) _ _ h2')
            rw [show leafEq (.obj l) (.obj m) = false from rfl] at heqA
            clear HIT HH hI hM lpa lpb la lb da db twa twb oka okb hc h1' h2' h1 h2 htw hr bX hnn s1 s2
            generalize (keys2 (.obj l) (.obj m)).flatMap (chK n p (.obj l) (.obj m)) = R at *
            go_enter Tryz.func138, Tryz.ntmps138
            go_wp2_with fail
            refine (unhide HI2).mono ?_
            rintro e w3 ⟨r3, zs, rfl, o3, z3, f3⟩
            have O3 := hide o3
            have Z3 := hide z3
            have F3 := hide ((CF.of_below (unhide BX) hBs).trans f3)
            clear HI2 o3 z3 f3
            go_wp2
            go_ret
            exact ⟨_, zs, rfl, unhide O3, unhide Z3, unhide F3⟩
        · have hc' : comp a b = false := by simpa using hc
          by_cases hle : leafEq a b = true
          · have he : eqO (some a) (some b) = true := hle
            have hch : chF (n + 1) p a b = [] := by rw [chF, if_neg hc, if_pos hle]
            have k5 : kd a ≠ 5 := by intro h; cases a <;> simp [kd, leafEq] at h hle
            have k6 : kd a ≠ 6 := by intro h; cases a <;> simp [kd, leafEq] at h hle
            generalize chF (n + 1) p a b = R at *
            clear hI hM lpa lpb la lb da db twa twb oka okb hc hc' hle
            have a1 := asrt_arr h1' k5
            have a2 := asrt_obj h1' k6
            obtain ⟨t1, q1, rfl⟩ := rep_iface h1'
            obtain ⟨t2, q2, rfl⟩ := rep_iface h2'
            have hXs : (w.alloc (.cells #[.string (strOf p), .iface t1 q1, .iface t2 q2] 78)).heap.size = w.heap.size + 1 := by simp
            have k0 : (w.alloc (.cells #[.string (strOf p), .iface t1 q1, .iface t2 q2] 78)).cell? ⟨w.heap.size, 0, none⟩ = some (.string (strOf p)) := lit3 w 78 (.string (strOf p)) (.iface t1 q1) (.iface t2 q2) 0 _ rfl
            have k1 : (w.alloc (.cells #[.string (strOf p), .iface t1 q1, .iface t2 q2] 78)).cell? ⟨w.heap.size, 1, none⟩ = some (.iface t1 q1) := lit3 w 78 (.string (strOf p)) (.iface t1 q1) (.iface t2 q2) 1 _ rfl
            have k2 : (w.alloc (.cells #[.string (strOf p), .iface t1 q1, .iface t2 q2] 78)).cell? ⟨w.heap.size, 2, none⟩ = some (.iface t2 q2) := lit3 w 78 (.string (strOf p)) (.iface t1 q1) (.iface t2 q2) 2 _ rfl
            have own1 : (w.alloc (.cells #[.string (strOf p), .iface t1 q1, .iface t2 q2] 78)).ownsRow B 78 3 lv ys.length (ys.flatMap cgC) := own_below hr ((Below.refl _ _).alloc (Nat.le_refl _) _)
            have FW : Hid (CF B w (w.alloc (.cells #[.string (strOf p), .iface t1 q1, .iface t2 q2] 78))) := CF.of_below ((Below.refl _ _).alloc (Nat.le_refl _) _) htw.size
            have heq0 := eqlO_run htw.apart (h1.keep (w' := w.alloc (.cells #[.string (strOf p), .iface t1 q1, .iface t2 q2] 78)) (S' := S1) (fun k hk => Below.heap_alloc _ _ k (by have := htw.lt1 k hk; have := htw.size; omega)) (fun _ h => h)) (h2.keep (w' := w.alloc (.cells #[.string (strOf p), .iface t1 q1, .iface t2 q2] 78)) (S' := S2) (fun k hk => Below.heap_alloc _ _ k (by have := htw.lt2 k hk; have := htw.size; omega)) (fun _ h => h)) hnn
            have hBs := htw.size
            rw [he] at heq0
            have heq := heq0
            have HCH := hide hch
            have OW := hide own1
            clear heq0 hch hr h1 h2 h1' h2' htw hnn he own1 k5 k6
            go_enter Tryz.func138, Tryz.ntmps138
            go_wp2
            go_ret
            exact ⟨_, [], rfl, by rw [List.append_nil]; exact unhide OW, zm0 (unhide HCH).symm, unhide FW⟩
          · have he : eqO (some a) (some b) = false := by show leafEq a b = false; simpa using hle
            have hch : chF (n + 1) p a b = [p] := by rw [chF, if_neg hc, if_neg hle]
            have ga := hl
            have gb := hl
            generalize chF (n + 1) p a b = R at *
            clear hI hM lpa lpb la lb da db twa twb oka okb hc hle
            by_cases k5 : kd a = 5
            · obtain ⟨l, rfl⟩ : ∃ l, a = .arr l := by cases a <;> first | exact ⟨_, rfl⟩ | (simp [kd] at k5)
              by_cases j5 : kd b = 5
              · obtain ⟨m, rfl⟩ : ∃ m, b = .arr m := by cases b <;> first | exact ⟨_, rfl⟩ | (simp [kd] at j5)
                obtain ⟨ab, sv, xs, e1, s1, g1, r1, rl1⟩ := (by have := h1'; rwa [Rep] at this : ∃ ab sv xs, v1 = .iface 117 (.pointer (some ⟨ab, 0, none⟩)) ∧ S1 ab ∧ w.heap[ab]? = some (.cells #[sv] 119 (0, 0)) ∧ RowIs w S1 sv xs ∧ RepL w S1 l xs)
                obtain ⟨ab2, sv2, xs2, e2, s2, g2, r2, rl2⟩ := (by have := h2'; rwa [Rep] at this : ∃ ab sv xs, v2 = .iface 117 (.pointer (some ⟨ab, 0, none⟩)) ∧ S2 ab ∧ w.heap[ab]? = some (.cells #[sv] 119 (0, 0)) ∧ RowIs w S2 sv xs ∧ RepL w S2 m xs)
                obtain ⟨x1, _, c1, rfl, _, _⟩ := row_shape r1
                obtain ⟨x2, _, c2, rfl, _, _⟩ := row_shape r2
                have n1 := (repL_at l xs rl1).1
                have n2 := (repL_at m xs2 rl2).1
                subst e1; subst e2
                have a1 := is_arr ⟨ab, 0, none⟩
                have a2 := is_arr ⟨ab2, 0, none⟩
                have hablt : ab < w.heap.size := by have := htw.lt1 _ s1; have := htw.size; omega
                have hablt2 : ab2 < w.heap.size := by have := htw.lt2 _ s2; have := htw.size; omega
                have y1 : (w.alloc (.cells #[.string (strOf p), .iface 117 (.pointer (some ⟨ab, 0, none⟩)), .iface 117 (.pointer (some ⟨ab2, 0, none⟩))] 78)).cell? ⟨ab, 0, none⟩ = some (.slice x1 xs.length c1) := by
                  rw [((Below.refl w.heap.size w).alloc (Nat.le_refl _) _).cell (p := ⟨ab, 0, none⟩) hablt, Lib.cell_of_heap g1]; rfl
                have y2 : (w.alloc (.cells #[.string (strOf p), .iface 117 (.pointer (some ⟨ab, 0, none⟩)), .iface 117 (.pointer (some ⟨ab2, 0, none⟩))] 78)).cell? ⟨ab2, 0, none⟩ = some (.slice x2 xs2.length c2) := by
                  rw [((Below.refl w.heap.size w).alloc (Nat.le_refl _) _).cell (p := ⟨ab2, 0, none⟩) hablt2, Lib.cell_of_heap g2]; rfl
                have hll : l.toL.length ≠ m.toL.length := by simpa [comp] using hc'
                have tl : ((xs.length : Int) == (xs2.length : Int)) = false := by rw [beq_eq_false_iff_ne]; omega
                clear r1 r2 rl1 rl2 g1 g2 n1 n2 s1 s2 hc' k5 j5 hll h1' h2' hablt hablt2
                have hXs : (w.alloc (.cells #[.string (strOf p), .iface 117 (.pointer (some ⟨ab, 0, none⟩)), .iface 117 (.pointer (some ⟨ab2, 0, none⟩))] 78)).heap.size = w.heap.size + 1 := by simp
                have k0 : (w.alloc (.cells #[.string (strOf p), .iface 117 (.pointer (some ⟨ab, 0, none⟩)), .iface 117 (.pointer (some ⟨ab2, 0, none⟩))] 78)).cell? ⟨w.heap.size, 0, none⟩ = some (.string (strOf p)) := lit3 w 78 (.string (strOf p)) (.iface 117 (.pointer (some ⟨ab, 0, none⟩))) (.iface 117 (.pointer (some ⟨ab2, 0, none⟩))) 0 _ rfl
                have k1 : (w.alloc (.cells #[.string (strOf p), .iface 117 (.pointer (some ⟨ab, 0, none⟩)), .iface 117 (.pointer (some ⟨ab2, 0, none⟩))] 78)).cell? ⟨w.heap.size, 1, none⟩ = some (.iface 117 (.pointer (some ⟨ab, 0, none⟩))) := lit3 w 78 (.string (strOf p)) (.iface 117 (.pointer (some ⟨ab, 0, none⟩))) (.iface 117 (.pointer (some ⟨ab2, 0, none⟩))) 1 _ rfl
                have k2 : (w.alloc (.cells #[.string (strOf p), .iface 117 (.pointer (some ⟨ab, 0, none⟩)), .iface 117 (.pointer (some ⟨ab2, 0, none⟩))] 78)).cell? ⟨w.heap.size, 2, none⟩ = some (.iface 117 (.pointer (some ⟨ab2, 0, none⟩))) := lit3 w 78 (.string (strOf p)) (.iface 117 (.pointer (some ⟨ab, 0, none⟩))) (.iface 117 (.pointer (some ⟨ab2, 0, none⟩))) 2 _ rfl
                have bX : Below w.heap.size w (w.alloc (.cells #[.string (strOf p), .iface 117 (.pointer (some ⟨ab, 0, none⟩)), .iface 117 (.pointer (some ⟨ab2, 0, none⟩))] 78)) := (Below.refl _ _).alloc (Nat.le_refl _) _
                have HB := hide bX
                have HTW := hide htw
                have HR1 := hide h1
                have HR2 := hide h2
                have HNN := hide hnn
                have HCH := hide hch
                have HE := hide he
                have HR := hide hr
                have hBs := htw.size
                have heqA := eqlO_run htw.apart (h1.keep (S' := S1) (fun k hk => bX.block k (by have := htw.lt1 k hk; have := htw.size; omega)) (fun _ h => h)) (h2.keep (S' := S2) (fun k hk => bX.block k (by have := htw.lt2 k hk; have := htw.size; omega)) (fun _ h => h)) hnn
                rw [he] at heqA
                clear bX hch hr h1 h2 htw hnn ga gb he
                go_enter Tryz.func138, Tryz.ntmps138
                go_wp2_with fail
                go_quiet (fail)
                have BX : Hid (Below w.heap.size w ((w.alloc (.cells #[.string (strOf p), .iface 117 (.pointer (some ⟨ab, 0, none⟩)), .iface 117 (.pointer (some ⟨ab2, 0, none⟩))] 78)).drewN nq)) := below_drewN (unhide HB) _
                have hXW : ((w.alloc (.cells #[.string (strOf p), .iface 117 (.pointer (some ⟨ab, 0, none⟩)), .iface 117 (.pointer (some ⟨ab2, 0, none⟩))] 78)).drewN nq).heap.size = w.heap.size + 1 := hXs
                have q0 : ((w.alloc (.cells #[.string (strOf p), .iface 117 (.pointer (some ⟨ab, 0, none⟩)), .iface 117 (.pointer (some ⟨ab2, 0, none⟩))] 78)).drewN nq).cell? ⟨w.heap.size, 0, none⟩ = some (.string (strOf p)) := k0
                have q1 : ((w.alloc (.cells #[.string (strOf p), .iface 117 (.pointer (some ⟨ab, 0, none⟩)), .iface 117 (.pointer (some ⟨ab2, 0, none⟩))] 78)).drewN nq).cell? ⟨w.heap.size, 1, none⟩ = some (.iface 117 (.pointer (some ⟨ab, 0, none⟩))) := k1
                have q2 : ((w.alloc (.cells #[.string (strOf p), .iface 117 (.pointer (some ⟨ab, 0, none⟩)), .iface 117 (.pointer (some ⟨ab2, 0, none⟩))] 78)).drewN nq).cell? ⟨w.heap.size, 2, none⟩ = some (.iface 117 (.pointer (some ⟨ab2, 0, none⟩))) := k2
                clear k0 k1 k2 HB hXs y1 y2
                generalize (w.alloc (.cells #[.string (strOf p), .iface 117 (.pointer (some ⟨ab, 0, none⟩)), .iface 117 (.pointer (some ⟨ab2, 0, none⟩))] 78)).drewN nq = W at *
                have q3 : ∀ j u, [Value.string (strOf p), .iface 117 (.pointer (some ⟨ab, 0, none⟩)), .iface 117 (.pointer (some ⟨ab2, 0, none⟩))][j]? = some u → W.cell? ⟨w.heap.size, j, none⟩ = some u := fun j u h => by
                  match j with
                  | 0 => simp at h; subst h; exact q0
                  | 1 => simp at h; subst h; exact q1
                  | 2 => simp at h; subst h; exact q2
                  | j + 3 => simp at h
                have hWB : B ≤ W.heap.size := by omega
                have heq := eqlO_run (unhide HTW).apart ((unhide HR1).keep (w' := W) (S' := S1) (fun k hk => (unhide BX).block k (by have := (unhide HTW).lt1 k hk; omega)) (fun _ h => h)) ((unhide HR2).keep (w' := W) (S' := S2) (fun k hk => (unhide BX).block k (by have := (unhide HTW).lt2 k hk; omega)) (fun _ h => h)) (unhide HNN)
                rw [unhide HE] at heq
                have own1 : W.ownsRow B 78 3 lv ys.length (ys.flatMap cgC) := own_below (unhide HR) (unhide BX)
                have FW : Hid (CF B w W) := CF.of_below (unhide BX) hBs
                clear HTW HR1 HR2 HNN HE HR BX q3 hXW
                go_wp2_with (at_builtin; refine wpList_append_own _ rfl (.tmp 64) (.tmp 66) 74 rfl B 78 i0 (.agg #[.string ByteArray.empty, .nilIface, .nilIface]) 3 48 Tryz.underlying74 hi0 hz0 hz1 hz2 rfl (by decide) _ _ _ rfl (own1.alloc _) ⟨W.heap.size, 0, none⟩ 1 1 [.string (strOf p), .iface 117 (.pointer (some ⟨ab, 0, none⟩)), .iface 117 (.pointer (some ⟨ab2, 0, none⟩))] rfl rfl (lit3 _ _ _ _ _) (by intro u hu; simp at hu; rcases hu with rfl | rfl | rfl <;> rfl) (by unfold maxLen; omega) (by omega) (by simp; omega) ?_)
                intro v3 w3 own3 hg3 _
                have R3 : Hid (CgR w3 B v3 (ys ++ [(p, .iface 117 (.pointer (some ⟨ab, 0, none⟩)), .iface 117 (.pointer (some ⟨ab2, 0, none⟩)))])) := CgR.step own3
                have F3 : Hid (CF B w w3) := ((unhide FW).trans (CF.of_below ((Below.refl _ _).alloc (Nat.le_refl _) _) hWB)).trans (CF.grown (own1.alloc _) hg3 (by simp; omega))
                clear own3 hg3 own1 FW
                go_wp2
                go_ret
                exact ⟨_, [(p, .iface 117 (.pointer (some ⟨ab, 0, none⟩)), .iface 117 (.pointer (some ⟨ab2, 0, none⟩)))], rfl, unhide R3, zm1 (unhide HCH).symm (by first | exact .inl rfl | exact .inr ⟨_, _, rfl⟩) (by first | exact .inl rfl | exact .inr ⟨_, _, rfl⟩) (unhide HP0), unhide F3⟩
              · obtain ⟨ab, sv, xs, e1, _⟩ := (by have := h1'; rwa [Rep] at this : ∃ ab sv xs, v1 = .iface 117 (.pointer (some ⟨ab, 0, none⟩)) ∧ S1 ab ∧ w.heap[ab]? = some (.cells #[sv] 119 (0, 0)) ∧ RowIs w S1 sv xs ∧ RepL w S1 l xs)
                subst e1
                have a1 := is_arr ⟨ab, 0, none⟩
                have a2 := asrt_arr h2' j5
                obtain ⟨t2, p2, rfl⟩ := rep_iface h2'
                clear k5 j5 hc' h1' h2'
                have hXs : (w.alloc (.cells #[.string (strOf p), .iface 117 (.pointer (some ⟨ab, 0, none⟩)), .iface t2 p2] 78)).heap.size = w.heap.size + 1 := by simp
                have k0 : (w.alloc (.cells #[.string (strOf p), .iface 117 (.pointer (some ⟨ab, 0, none⟩)), .iface t2 p2] 78)).cell? ⟨w.heap.size, 0, none⟩ = some (.string (strOf p)) := lit3 w 78 (.string (strOf p)) (.iface 117 (.pointer (some ⟨ab, 0, none⟩))) (.iface t2 p2) 0 _ rfl
                have k1 : (w.alloc (.cells #[.string (strOf p), .iface 117 (.pointer (some ⟨ab, 0, none⟩)), .iface t2 p2] 78)).cell? ⟨w.heap.size, 1, none⟩ = some (.iface 117 (.pointer (some ⟨ab, 0, none⟩))) := lit3 w 78 (.string (strOf p)) (.iface 117 (.pointer (some ⟨ab, 0, none⟩))) (.iface t2 p2) 1 _ rfl
                have k2 : (w.alloc (.cells #[.string (strOf p), .iface 117 (.pointer (some ⟨ab, 0, none⟩)), .iface t2 p2] 78)).cell? ⟨w.heap.size, 2, none⟩ = some (.iface t2 p2) := lit3 w 78 (.string (strOf p)) (.iface 117 (.pointer (some ⟨ab, 0, none⟩))) (.iface t2 p2) 2 _ rfl
                have bX : Below w.heap.size w (w.alloc (.cells #[.string (strOf p), .iface 117 (.pointer (some ⟨ab, 0, none⟩)), .iface t2 p2] 78)) := (Below.refl _ _).alloc (Nat.le_refl _) _
                have HB := hide bX
                have HTW := hide htw
                have HR1 := hide h1
                have HR2 := hide h2
                have HNN := hide hnn
                have HCH := hide hch
                have HE := hide he
                have HR := hide hr
                have hBs := htw.size
                have heqA := eqlO_run htw.apart (h1.keep (S' := S1) (fun k hk => bX.block k (by have := htw.lt1 k hk; have := htw.size; omega)) (fun _ h => h)) (h2.keep (S' := S2) (fun k hk => bX.block k (by have := htw.lt2 k hk; have := htw.size; omega)) (fun _ h => h)) hnn
                rw [he] at heqA
                clear bX hch hr h1 h2 htw hnn ga gb he
                go_enter Tryz.func138, Tryz.ntmps138
                go_wp2_with fail
                go_quiet (fail)
                have BX : Hid (Below w.heap.size w ((w.alloc (.cells #[.string (strOf p), .iface 117 (.pointer (some ⟨ab, 0, none⟩)), .iface t2 p2] 78)).drewN nq)) := below_drewN (unhide HB) _
                have hXW : ((w.alloc (.cells #[.string (strOf p), .iface 117 (.pointer (some ⟨ab, 0, none⟩)), .iface t2 p2] 78)).drewN nq).heap.size = w.heap.size + 1 := hXs
                have q0 : ((w.alloc (.cells #[.string (strOf p), .iface 117 (.pointer (some ⟨ab, 0, none⟩)), .iface t2 p2] 78)).drewN nq).cell? ⟨w.heap.size, 0, none⟩ = some (.string (strOf p)) := k0
                have q1 : ((w.alloc (.cells #[.string (strOf p), .iface 117 (.pointer (some ⟨ab, 0, none⟩)), .iface t2 p2] 78)).drewN nq).cell? ⟨w.heap.size, 1, none⟩ = some (.iface 117 (.pointer (some ⟨ab, 0, none⟩))) := k1
                have q2 : ((w.alloc (.cells #[.string (strOf p), .iface 117 (.pointer (some ⟨ab, 0, none⟩)), .iface t2 p2] 78)).drewN nq).cell? ⟨w.heap.size, 2, none⟩ = some (.iface t2 p2) := k2
                clear k0 k1 k2 HB hXs
                generalize (w.alloc (.cells #[.string (strOf p), .iface 117 (.pointer (some ⟨ab, 0, none⟩)), .iface t2 p2] 78)).drewN nq = W at *
                have q3 : ∀ j u, [Value.string (strOf p), .iface 117 (.pointer (some ⟨ab, 0, none⟩)), .iface t2 p2][j]? = some u → W.cell? ⟨w.heap.size, j, none⟩ = some u := fun j u h => by
                  match j with
                  | 0 => simp at h; subst h; exact q0
                  | 1 => simp at h; subst h; exact q1
                  | 2 => simp at h; subst h; exact q2
                  | j + 3 => simp at h
                have hWB : B ≤ W.heap.size := by omega
                have heq := eqlO_run (unhide HTW).apart ((unhide HR1).keep (w' := W) (S' := S1) (fun k hk => (unhide BX).block k (by have := (unhide HTW).lt1 k hk; omega)) (fun _ h => h)) ((unhide HR2).keep (w' := W) (S' := S2) (fun k hk => (unhide BX).block k (by have := (unhide HTW).lt2 k hk; omega)) (fun _ h => h)) (unhide HNN)
                rw [unhide HE] at heq
                have own1 : W.ownsRow B 78 3 lv ys.length (ys.flatMap cgC) := own_below (unhide HR) (unhide BX)
                have FW : Hid (CF B w W) := CF.of_below (unhide BX) hBs
                clear HTW HR1 HR2 HNN HE HR BX q3 hXW
                go_wp2_with (at_builtin; refine wpList_append_own _ rfl (.tmp 64) (.tmp 66) 74 rfl B 78 i0 (.agg #[.string ByteArray.empty, .nilIface, .nilIface]) 3 48 Tryz.underlying74 hi0 hz0 hz1 hz2 rfl (by decide) _ _ _ rfl (own1.alloc _) ⟨W.heap.size, 0, none⟩ 1 1 [.string (strOf p), .iface 117 (.pointer (some ⟨ab, 0, none⟩)), .iface t2 p2] rfl rfl (lit3 _ _ _ _ _) (by intro u hu; simp at hu; rcases hu with rfl | rfl | rfl <;> rfl) (by unfold maxLen; omega) (by omega) (by simp; omega) ?_)
                intro v3 w3 own3 hg3 _
                have R3 : Hid (CgR w3 B v3 (ys ++ [(p, .iface 117 (.pointer (some ⟨ab, 0, none⟩)), .iface t2 p2)])) := CgR.step own3
                have F3 : Hid (CF B w w3) := ((unhide FW).trans (CF.of_below ((Below.refl _ _).alloc (Nat.le_refl _) _) hWB)).trans (CF.grown (own1.alloc _) hg3 (by simp; omega))
                clear own3 hg3 own1 FW
                go_wp2
                go_ret
                exact ⟨_, [(p, .iface 117 (.pointer (some ⟨ab, 0, none⟩)), .iface t2 p2)], rfl, unhide R3, zm1 (unhide HCH).symm (by first | exact .inl rfl | exact .inr ⟨_, _, rfl⟩) (by first | exact .inl rfl | exact .inr ⟨_, _, rfl⟩) (unhide HP0), unhide F3⟩
            · by_cases k6 : kd a = 6
              · obtain ⟨l, rfl⟩ : ∃ m, a = .obj m := by cases a <;> first | exact ⟨_, rfl⟩ | (simp [kd] at k6)
                have j6 : kd b ≠ 6 := by intro h; cases b <;> simp [kd, comp] at h hc'
                obtain ⟨ob1, mb1, nn1, xs, e1, s1, _⟩ := (by have := h1'; rwa [Rep] at this : ∃ ob b nn xs, v1 = .iface 179 (.pointer (some ⟨ob, 0, none⟩)) ∧ S1 ob ∧ S1 b ∧ w.heap[ob]? = some (.cells #[.map (some b)] 182 (0, 0)) ∧ w.ownsMap Tryz.prog 9 RH b nn (putAll xs) ∧ nn ≤ xs.length ∧ RepM w S1 l xs)
                subst e1
                have a1 := obj_no_arr ⟨ob1, 0, none⟩
                have a2 := is_obj ⟨ob1, 0, none⟩
                have a3 := asrt_obj h2' j6
                obtain ⟨t2, p2, rfl⟩ := rep_iface h2'
                clear k5 k6 j6 hc' h1' h2' s1
                have hXs : (w.alloc (.cells #[.string (strOf p), .iface 179 (.pointer (some ⟨ob1, 0, none⟩)), .iface t2 p2] 78)).heap.size = w.heap.size + 1 := by simp
                have k0 : (w.alloc (.cells #[.string (strOf p), .iface 179 (.pointer (some ⟨ob1, 0, none⟩)), .iface t2 p2] 78)).cell? ⟨w.heap.size, 0, none⟩ = some (.string (strOf p)) := lit3 w 78 (.string (strOf p)) (.iface 179 (.pointer (some ⟨ob1, 0, none⟩))) (.iface t2 p2) 0 _ rfl
                have k1 : (w.alloc (.cells #[.string (strOf p), .iface 179 (.pointer (some ⟨ob1, 0, none⟩)), .iface t2 p2] 78)).cell? ⟨w.heap.size, 1, none⟩ = some (.iface 179 (.pointer (some ⟨ob1, 0, none⟩))) := lit3 w 78 (.string (strOf p)) (.iface 179 (.pointer (some ⟨ob1, 0, none⟩))) (.iface t2 p2) 1 _ rfl
                have k2 : (w.alloc (.cells #[.string (strOf p), .iface 179 (.pointer (some ⟨ob1, 0, none⟩)), .iface t2 p2] 78)).cell? ⟨w.heap.size, 2, none⟩ = some (.iface t2 p2) := lit3 w 78 (.string (strOf p)) (.iface 179 (.pointer (some ⟨ob1, 0, none⟩))) (.iface t2 p2) 2 _ rfl
                have own1 : (w.alloc (.cells #[.string (strOf p), .iface 179 (.pointer (some ⟨ob1, 0, none⟩)), .iface t2 p2] 78)).ownsRow B 78 3 lv ys.length (ys.flatMap cgC) := own_below hr ((Below.refl _ _).alloc (Nat.le_refl _) _)
                have FW : Hid (CF B w (w.alloc (.cells #[.string (strOf p), .iface 179 (.pointer (some ⟨ob1, 0, none⟩)), .iface t2 p2] 78))) := CF.of_below ((Below.refl _ _).alloc (Nat.le_refl _) _) htw.size
                have heq0 := eqlO_run htw.apart (h1.keep (w' := w.alloc (.cells #[.string (strOf p), .iface 179 (.pointer (some ⟨ob1, 0, none⟩)), .iface t2 p2] 78)) (S' := S1) (fun k hk => Below.heap_alloc _ _ k (by have := htw.lt1 k hk; have := htw.size; omega)) (fun _ h => h)) (h2.keep (w' := w.alloc (.cells #[.string (strOf p), .iface 179 (.pointer (some ⟨ob1, 0, none⟩)), .iface t2 p2] 78)) (S' := S2) (fun k hk => Below.heap_alloc _ _ k (by have := htw.lt2 k hk; have := htw.size; omega)) (fun _ h => h)) hnn
                have hBs := htw.size
                rw [he] at heq0
                have heq := heq0
                clear heq0
                have HCH := hide hch
                clear hch hr h1 h2 htw hnn ga gb he
                go_enter Tryz.func138, Tryz.ntmps138
                have hWB : B ≤ (w.alloc (.cells #[.string (strOf p), .iface 179 (.pointer (some ⟨ob1, 0, none⟩)), .iface t2 p2] 78)).heap.size := by omega
                go_wp2_with (at_builtin; refine wpList_append_own _ rfl (.tmp 64) (.tmp 66) 74 rfl B 78 i0 (.agg #[.string ByteArray.empty, .nilIface, .nilIface]) 3 48 Tryz.underlying74 hi0 hz0 hz1 hz2 rfl (by decide) _ _ _ rfl (own1.alloc _) ⟨w.heap.size + 1, 0, none⟩ 1 1 [.string (strOf p), .iface 179 (.pointer (some ⟨ob1, 0, none⟩)), .iface t2 p2] rfl rfl (lit3B _ _ _ _ _ _) (by intro u hu; simp at hu; rcases hu with rfl | rfl | rfl <;> rfl) (by unfold maxLen; omega) (by omega) (by simp; omega) ?_)
                intro v3 w3 own3 hg3 _
                have R3 : Hid (CgR w3 B v3 (ys ++ [(p, .iface 179 (.pointer (some ⟨ob1, 0, none⟩)), .iface t2 p2)])) := CgR.step own3
                have F3 : Hid (CF B w w3) := ((unhide FW).trans (CF.of_below ((Below.refl _ _).alloc (Nat.le_refl _) _) hWB)).trans (CF.grown (own1.alloc _) hg3 (by simp; omega))
                clear own3 hg3 own1 FW
                go_wp2
                go_ret
                exact ⟨_, [(p, .iface 179 (.pointer (some ⟨ob1, 0, none⟩)), .iface t2 p2)], rfl, unhide R3, zm1 (unhide HCH).symm (by first | exact .inl rfl | exact .inr ⟨_, _, rfl⟩) (by first | exact .inl rfl | exact .inr ⟨_, _, rfl⟩) (unhide HP0), unhide F3⟩
              · have a1 := asrt_arr h1' k5
                have a2 := asrt_obj h1' k6
                obtain ⟨t1, p1, rfl⟩ := rep_iface h1'
                obtain ⟨t2, p2, rfl⟩ := rep_iface h2'
                clear k5 k6 hc' h1' h2'
                have hXs : (w.alloc (.cells #[.string (strOf p), .iface t1 p1, .iface t2 p2] 78)).heap.size = w.heap.size + 1 := by simp
                have k0 : (w.alloc (.cells #[.string (strOf p), .iface t1 p1, .iface t2 p2] 78)).cell? ⟨w.heap.size, 0, none⟩ = some (.string (strOf p)) := lit3 w 78 (.string (strOf p)) (.iface t1 p1) (.iface t2 p2) 0 _ rfl
                have k1 : (w.alloc (.cells #[.string (strOf p), .iface t1 p1, .iface t2 p2] 78)).cell? ⟨w.heap.size, 1, none⟩ = some (.iface t1 p1) := lit3 w 78 (.string (strOf p)) (.iface t1 p1) (.iface t2 p2) 1 _ rfl
                have k2 : (w.alloc (.cells #[.string (strOf p), .iface t1 p1, .iface t2 p2] 78)).cell? ⟨w.heap.size, 2, none⟩ = some (.iface t2 p2) := lit3 w 78 (.string (strOf p)) (.iface t1 p1) (.iface t2 p2) 2 _ rfl
                have own1 : (w.alloc (.cells #[.string (strOf p), .iface t1 p1, .iface t2 p2] 78)).ownsRow B 78 3 lv ys.length (ys.flatMap cgC) := own_below hr ((Below.refl _ _).alloc (Nat.le_refl _) _)
                have FW : Hid (CF B w (w.alloc (.cells #[.string (strOf p), .iface t1 p1, .iface t2 p2] 78))) := CF.of_below ((Below.refl _ _).alloc (Nat.le_refl _) _) htw.size
                have heq0 := eqlO_run htw.apart (h1.keep (w' := w.alloc (.cells #[.string (strOf p), .iface t1 p1, .iface t2 p2] 78)) (S' := S1) (fun k hk => Below.heap_alloc _ _ k (by have := htw.lt1 k hk; have := htw.size; omega)) (fun _ h => h)) (h2.keep (w' := w.alloc (.cells #[.string (strOf p), .iface t1 p1, .iface t2 p2] 78)) (S' := S2) (fun k hk => Below.heap_alloc _ _ k (by have := htw.lt2 k hk; have := htw.size; omega)) (fun _ h => h)) hnn
                have hBs := htw.size
                rw [he] at heq0
                have heq := heq0
                clear heq0
                have HCH := hide hch
                clear hch hr h1 h2 htw hnn ga gb he
                go_enter Tryz.func138, Tryz.ntmps138
                have hWB : B ≤ (w.alloc (.cells #[.string (strOf p), .iface t1 p1, .iface t2 p2] 78)).heap.size := by omega
                go_wp2_with (at_builtin; refine wpList_append_own _ rfl (.tmp 64) (.tmp 66) 74 rfl B 78 i0 (.agg #[.string ByteArray.empty, .nilIface, .nilIface]) 3 48 Tryz.underlying74 hi0 hz0 hz1 hz2 rfl (by decide) _ _ _ rfl (own1.alloc _) ⟨w.heap.size + 1, 0, none⟩ 1 1 [.string (strOf p), .iface t1 p1, .iface t2 p2] rfl rfl (lit3B _ _ _ _ _ _) (by intro u hu; simp at hu; rcases hu with rfl | rfl | rfl <;> rfl) (by unfold maxLen; omega) (by omega) (by simp; omega) ?_)
                intro v3 w3 own3 hg3 _
                have R3 : Hid (CgR w3 B v3 (ys ++ [(p, .iface t1 p1, .iface t2 p2)])) := CgR.step own3
                have F3 : Hid (CF B w w3) := ((unhide FW).trans (CF.of_below ((Below.refl _ _).alloc (Nat.le_refl _) _) hWB)).trans (CF.grown (own1.alloc _) hg3 (by simp; omega))
                clear own3 hg3 own1 FW
                go_wp2
                go_ret
                exact ⟨_, [(p, .iface t1 p1, .iface t2 p2)], rfl, unhide R3, zm1 (unhide HCH).symm (by first | exact .inl rfl | exact .inr ⟨_, _, rfl⟩) (by first | exact .inl rfl | exact .inr ⟨_, _, rfl⟩) (unhide HP0), unhide F3⟩
end Go.Proofs.YtocnekbedcnmgaaGreatDoor


namespace Go.Proofs.YtocnekbedcnmgaaGreatDoor
open Go.RowKit Go.Sort

theorem one_textI (k : List UInt8) (w : World) (hk : k.length ≤ 1000000) (g : Nat) (c : w.cell? ⟨g, 0, none⟩ = some (.string (strOf k))) :
    Calls Tryz.prog 116 #[.slice (some ⟨g, 0, none⟩) 1 1] w fun e w' => e = .returned (.string (strOf (47 :: esc k))) ∧ Below w.heap.size w w' := by
  have h : SS w (some ⟨g, 0, none⟩) g 0 [strOf k] := ⟨fun _ => rfl, fun j hj => by
    have : j = 0 := by simp at hj; omega
    subst this; exact c⟩
  have ht : [strOf k].length + tot [strOf k] ≤ 1048576 := by simp [tot, strOf_size]; omega
  have e : ptrText [strOf k] = 47 :: esc k := by simp [ptrText, strOf_toList]
  have := implText_walk (some ⟨g, 0, none⟩) g 0 1 [strOf k] w h ht
  rw [e] at this
  exact this
/-- Old blocks under B and all blocks of parts are kept. -/
def PF (B : Nat) (w w' : World) : Prop := Below B w w' ∧ ∀ (g : Nat) (cs : Array Value), w.heap[g]? = some (.cells cs 187 (0, 0)) → w'.heap[g]? = some (.cells cs 187 (0, 0))
theorem PF.refl (B : Nat) (w : World) : PF B w w := ⟨Below.refl _ _, fun _ _ h => h⟩
theorem PF.trans {B : Nat} {a b c : World} (h : PF B a b) (k : PF B b c) : PF B a c := ⟨h.1.trans k.1, fun g cs hg => k.2 g cs (h.2 g cs hg)⟩
theorem PF.of_below {B : Nat} {w w' : World} (h : Below w.heap.size w w') (hB : B ≤ w.heap.size) : PF B w w' := ⟨h.mono hB, fun g _ hg => (h.block g (Array.getElem?_eq_some_iff.1 hg).1).trans hg⟩
theorem PF.grown {B n : Nat} {w w' : World} {v : Value} {xs : List Value} (h : w.ownsRow B 9 1 v n xs) (hg : w.grownBy w' v.ownBlock) (hB : B ≤ w.heap.size) : PF B w w' := by
  refine ⟨(Below.refl B w).grown hg hB (fun k hk => (h.lt k hk).1), fun g cs hgc => ?_⟩
  refine (hg.block g (Array.getElem?_eq_some_iff.1 hgc).1 (fun e => ?_)).trans hgc
  rcases h.2 with ⟨hv, _⟩ | ⟨g', cap, cur, hv, _, hg', _⟩
  · subst hv; cases e
  · subst hv
    injection e with e
    simp only at e
    subst e
    rw [hgc] at hg'
    injection hg' with e
    injection e with _ e
    exact absurd e (by decide)
end Go.Proofs.YtocnekbedcnmgaaGreatDoor


namespace Go.Proofs.YtocnekbedcnmgaaGreatDoor
open Go.RowKit

theorem sum_kidE {K : List (List UInt8 × JV)} {q : List UInt8 × JV} (h : q ∈ K) : cntV q.2 ≤ (K.map fun q => cntV q.2).sum := sumf_at (fun q => cntV q.2) h
theorem findK_idx (l : JL) (k : Nat) (h : k < l.toL.length) : findK (kidsV (.arr l)) (decT k) = some l.toL[k] := by
  have : ∀ (vs : List JV) (b j : Nat) (hj : j < vs.length), findK (idxJ b vs) (decT (b + j)) = some vs[j] := by
    intro vs
    induction vs with
    | nil => intro b j hj; simp at hj
    | cons v r ih =>
      intro b j hj
      unfold findK at *
      rw [idxJ, List.find?_cons]
      cases j with
      | zero => simp
      | succ j =>
        have hne : (decT b == decT (b + (j + 1))) = false := by
          rw [beq_eq_false_iff_ne]; intro e; have := decT_inj e; omega
        rw [show ((decT b, v).1 == decT (b + (j + 1))) = false from hne]
        have := ih (b + 1) j (by simpa using hj)
        rw [show b + 1 + j = b + (j + 1) by omega] at this
        simpa using this
  have := this l.toL 0 k h
  rwa [Nat.zero_add] at this
theorem chK_le {n : Nat} {p : List UInt8} {a b : JV} (ha : okV a) (hb : okV b) (ta : twV a = false) (tb : twV b = false) (hc : comp a b = true) {key : List UInt8} (hk : key ∈ keys2 a b) : (chK n p a b key).length ≤ cw a b key := by
  unfold chK cw
  cases hu : findK (kidsV a) key with
  | none =>
    cases hv : findK (kidsV b) key with
    | none =>
      rcases keys2_in hc hk with h | h
      · exact absurd h (findK_none.1 hu)
      · exact absurd h (findK_none.1 hv)
    | some v => have := dep_cnt v; simp [cntO]; omega
  | some u =>
    have hcu := dep_cnt u
    cases hv : findK (kidsV b) key with
    | none => simp [cntO]; omega
    | some v =>
      obtain ⟨o1, o2, _, _⟩ := kids_ok ha ta (findK_mem hu)
      obtain ⟨o3, o4, _, _⟩ := kids_ok hb tb (findK_mem hv)
      have := chF_len n (ptrN p key) u v o1 o3 o2 o4
      simp only [cntO]; omega
theorem chK_room {n : Nat} {p : List UInt8} {a b : JV} (ha : okV a) (hb : okV b) (ta : twV a = false) (tb : twV b = false) (hc : comp a b = true) (k : Nat) (hk : k < (keys2 a b).length) : (((keys2 a b).take k).flatMap (chK n p a b)).length + cw a b (keys2 a b)[k] ≤ cntV a + cntV b := by
  have h1 := flat_le (chK n p a b) (cw a b) ((keys2 a b).take k) (fun key h => chK_le ha hb ta tb hc (List.mem_of_mem_take h))
  have e : ((keys2 a b).map (cw a b)).sum = ((keys2 a b).map fun k => cntO (findK (kidsV a) k)).sum + ((keys2 a b).map fun k => cntO (findK (kidsV b) k)).sum := sum_two _ _ _
  have s1 := sum_find (kidsV a) _ (keys2_nodup (a := a) (b := b) ta)
  have s2 := sum_find (kidsV b) _ (keys2_nodup (a := a) (b := b) ta)
  have k1 := kids_cnt a
  have k2 := kids_cnt b
  have e2 : (((keys2 a b).take (k + 1)).map (cw a b)).sum ≤ ((keys2 a b).map (cw a b)).sum := by
    have e3 : keys2 a b = (keys2 a b).take (k + 1) ++ (keys2 a b).drop (k + 1) := (List.take_append_drop _ _).symm
    conv => rhs; rw [e3]
    rw [List.map_append, List.sum_append]; omega
  rw [List.take_succ_eq_append_getElem hk, List.map_append, List.sum_append] at e2
  simp only [List.map_cons, List.map_nil, List.sum_cons, List.sum_nil] at e2
  omega
/-- What a part asks of memory and size. -/
theorem part_good {n : Nat} {p : List UInt8} {a : JV} {key : List UInt8} {u : JV} (ha : okV a) (ta : twV a = false) (da : depV a ≤ n + 1) (la : (ct a).length ≤ 1000000) (lp : p.length + 2 * (ct a).length ≤ 4000000) (h : findK (kidsV a) key = some u) : GoodO n (ptrN p key) (some u) ∧ cntV u + 1 ≤ cntV a ∧ (ptrN p key).length ≤ 4000000 ∧ key.length ≤ 1000000 := by
  obtain ⟨o1, o2, o3, o4⟩ := kids_ok ha ta (findK_mem h)
  simp only at o1 o2 o3 o4
  have e1 := ptrN_len p key
  have e2 := kids_cnt a
  have e3 : cntV u ≤ _ := sum_kidE (findK_mem h)
  exact ⟨⟨o1, o2, by omega, by omega, by omega⟩, by omega, by omega, by omega⟩

set_option maxRecDepth 100000 in
set_option maxHeartbeats 8000000 in
theorem items_walk (n : Nat) (hA : AC n) (a b : JV) (k5 : kd a = 5) (hc : comp a b = true) (oka : okV a) (okb : okV b) (twa : twV a = false) (twb : twV b = false) (da : depV a ≤ n + 1) (db : depV b ≤ n + 1) (la : (ct a).length ≤ 1000000) (lb : (ct b).length ≤ 1000000) : HC 178 n a b := by
  intro P p ys lv t1 t2 ad1 ad2 w B S1 S2 lpa lpb hcn hr h1 h2 htw hpw
  obtain ⟨l, rfl⟩ : ∃ l, a = .arr l := by cases a <;> first | exact ⟨_, rfl⟩ | (simp [kd] at k5)
  obtain ⟨m, rfl⟩ : ∃ m, b = .arr m := by cases b <;> first | exact ⟨_, rfl⟩ | (simp [comp] at hc)
  have hlen : l.toL.length = m.toL.length := by simpa [comp] using hc
  have h1' := h1
  have h2' := h2
  rw [Rep] at h1' h2'
  obtain ⟨ab, sv, xs, e1, s1, g1, r1, rl1⟩ := h1'
  obtain ⟨ab2, sv2, xs2, e2, s2, g2, r2, rl2⟩ := h2'
  injection e1 with _ e1; injection e1 with e1; injection e1 with e1; subst e1
  injection e2 with _ e2; injection e2 with e2; injection e2 with e2; subst e2
  obtain ⟨x1, gr1, c1, rfl, hadr1, hcell1⟩ := row_shape r1
  obtain ⟨x2, gr2, c2, rfl, hadr2, hcell2⟩ := row_shape r2
  obtain ⟨n1, rep1⟩ := repL_at l xs rl1
  obtain ⟨n2, rep2⟩ := repL_at m xs2 rl2
  have hBs := htw.size
  have hxn : xs.length ≤ 1000000 := by
    have h3 := kids_cnt (.arr l)
    have h4 : (kidsV (.arr l)).length ≤ ((kidsV (.arr l)).map fun q => cntV q.2).sum := by
      have : ∀ l : List (List UInt8 × JV), l.length ≤ (l.map fun q => cntV q.2).sum := by
        intro l
        induction l with
        | nil => simp
        | cons q r ih => have h3 := (dep_cnt q.2); rw [List.map_cons, List.sum_cons, List.length_cons]; omega
      exact this _
    have h5 : (kidsV (.arr l)).length = l.toL.length := by show (idxJ 0 l.toL).length = _; rw [idxJ_len]
    omega
  have C1 : Hid (∀ X : World, Below B w X → X.cell? ⟨ab, 0, none⟩ = some (.slice x1 xs.length c1)) := fun X hX => by
    rw [hX.cell (p := ⟨ab, 0, none⟩) (htw.lt1 _ s1), Lib.cell_of_heap g1]; rfl
  have C2 : Hid (∀ X : World, Below B w X → X.cell? ⟨ab2, 0, none⟩ = some (.slice x2 xs2.length c2)) := fun X hX => by
    rw [hX.cell (p := ⟨ab2, 0, none⟩) (htw.lt2 _ s2), Lib.cell_of_heap g2]; rfl
  have HX : Hid (∀ k (hk : k < xs.length) (hk2 : k < xs2.length), ∃ t q t' q', (x1 = some ⟨gr1, 0, none⟩ ∧ x2 = some ⟨gr2, 0, none⟩) ∧ (∀ X : World, Below B w X → X.cell? ⟨gr1, k, none⟩ = some (.iface t q)) ∧ (∀ X : World, Below B w X → X.cell? ⟨gr2, k, none⟩ = some (.iface t' q')) ∧ (ptrN p (decT k)).length ≤ 4000000 ∧ (decT k).length ≤ 1000000 ∧
      ∀ (wr : World) (u : Value) (zs : List Chg), CF B w wr → CgR wr B u (ys ++ zs) → ZM P zs (((keys2 (.arr l) (.arr m)).take k).flatMap (chK n p (.arr l) (.arr m))) → Calls Tryz.prog 138 #[u, .agg #[.string (strOf (ptrN p (decT k))), .iface t q, .iface t' q']] wr fun e w' => ∃ (r : Value) (zs' : List Chg), e = .returned r ∧ CgR w' B r (ys ++ zs') ∧ ZM P zs' (((keys2 (.arr l) (.arr m)).take (k + 1)).flatMap (chK n p (.arr l) (.arr m))) ∧ CF B wr w') := fun k hk hk2 => by
    obtain ⟨t, q, he⟩ := rep_iface (rep1 k hk (by omega))
    obtain ⟨t', q', he'⟩ := rep_iface (rep2 k hk2 (by omega))
    have f1 := findK_idx l k (by omega)
    have f2 := findK_idx m k (by omega)
    obtain ⟨ga, ca, pa, ka⟩ := part_good oka twa da la lpa f1
    obtain ⟨gb, cb, pb, kb⟩ := part_good okb twb db lb lpb f2
    refine ⟨t, q, t', q', ⟨(hadr1 (by omega)).1, (hadr2 (by omega)).1⟩, fun X hX => ?_, fun X hX => ?_, pa, ka, fun wr u zs f hu hz => ?_⟩
    · rw [← he]; exact (hX.cell (p := ⟨gr1, k, none⟩) (htw.lt1 _ (hadr1 (by omega)).2)).trans (hcell1 k hk)
    · rw [← he']; exact (hX.cell (p := ⟨gr2, k, none⟩) (htw.lt2 _ (hadr2 (by omega)).2)).trans (hcell2 k hk2)
    · have hkl : k < (keys2 (.arr l) (.arr m)).length := by show k < ((idxJ 0 l.toL).map (·.1)).length; rw [List.length_map, idxJ_len]; omega
      have hke : (keys2 (.arr l) (.arr m))[k] = decT k := by
        have e : (keys2 (.arr l) (.arr m))[k]? = some (decT k) := by
          show ((idxJ 0 l.toL).map (·.1))[k]? = _
          rw [List.getElem?_map, List.getElem?_eq_getElem (by rw [idxJ_len]; omega), idxJ_at, Nat.zero_add]; rfl
        rw [List.getElem?_eq_getElem hkl] at e
        injection e
      have hroom := chK_room (n := n) (p := p) oka okb twa twb hc k hkl
      rw [hke] at hroom
      unfold cw at hroom
      rw [f1, f2] at hroom
      simp only [cntO] at hroom
      have hzl : zs.length = (((keys2 (.arr l) (.arr m)).take k).flatMap (chK n p (.arr l) (.arr m))).length := by
        have := congrArg List.length hz.1
        rwa [List.length_map] at this
      have hpk := hpw.kid twa twb (by omega) (by omega) (decT k)
      rw [f1, f2] at hpk
      refine (hA P (some l.toL[k]) (some m.toL[k]) (ptrN p (decT k)) (ys ++ zs) u _ _ wr B S1 S2 ga gb (.inl (by simp)) pa (by simp only [cntO, List.length_append]; omega) hu (by rw [← he]; exact Rep.keep (fun j hj => f.1.block j (htw.lt1 j hj)) (fun _ h => h) _ _ (rep1 k hk (by omega))) (by rw [← he']; exact Rep.keep (fun j hj => f.1.block j (htw.lt2 j hj)) (fun _ h => h) _ _ (rep2 k hk2 (by omega))) (htw.next f.1) (hpk.back (fun j hj => f.1.block j (htw.lt1 j hj)) (fun j hj => f.1.block j (htw.lt2 j hj)))).mono ?_
      rintro e w' ⟨r, zs', rfl, o, z, c⟩
      refine ⟨r, zs ++ zs', rfl, by rw [← List.append_assoc]; exact o, ?_, c⟩
      have h9 := zm_app hz z
      rwa [show chO n (ptrN p (decT k)) (some l.toL[k]) (some m.toL[k]) = chK n p (.arr l) (.arr m) (decT k) by rw [chK_O, f1, f2], ← hke, ← flat_take _ _ k hkl] at h9
  have HEND : Hid (∀ zs : List Chg, ZM P zs (((keys2 (.arr l) (.arr m)).take xs.length).flatMap (chK n p (.arr l) (.arr m))) → ZM P zs ((keys2 (.arr l) (.arr m)).flatMap (chK n p (.arr l) (.arr m)))) := fun zs h => by
    refine ⟨?_, h.2⟩
    rw [h.1, List.take_of_length_le]
    show ((idxJ 0 l.toL).map (·.1)).length ≤ _
    rw [List.length_map, idxJ_len]; omega
  have hxe : xs.length = xs2.length := by omega
  have HXE := hide hxe
  have HPW := hide htw.pow
  have hpl : p.length ≤ 4000000 := by omega
  clear rep1 rep2 hcell1 hcell2 hadr1 hadr2 rl1 rl2 r1 r2 g1 g2 h1 h2 htw s1 s2 hA hc k5 oka okb twa twb da db la lb lpa lpb hcn n1 n2 hlen hxe hpw
  have O0 : Hid (CgR w B lv (ys ++ [])) := by rw [List.append_nil]; exact hr
  have y1 := unhide C1 w (Below.refl _ _)
  generalize keys2 (.arr l) (.arr m) = keys at *
  generalize chK n p (.arr l) (.arr m) = C at *
  go_enter Tryz.func178, Tryz.ntmps178
  go_wp2_with fail
  go_loopw [0, 16] (fun u i wr => ∃ (k : Nat) (zs : List Chg), k ≤ xs.length ∧ i = .int .i64 (k : Int) ∧ CgR wr B u (ys ++ zs) ∧ ZM P zs ((keys.take k).flatMap C) ∧ CF B w wr) (fun _ i _ => xs.length - (intOf i).toNat)
  case atStart => exact ⟨0, [], Nat.zero_le _, rfl, unhide O0, zm0 (by simp), CF.refl _ _⟩
  case round =>
    obtain ⟨k, zs, hk, rfl, ho, hz, hf⟩ := hrel
    clear O0 y1
    by_cases hlt : k < xs.length
    · have hltI : (k : Int) < (xs.length : Int) := by omega
      have hlt2 : k < xs2.length := by have := unhide HXE; omega
      have hltI2 : (k : Int) < (xs2.length : Int) := by omega
      obtain ⟨t, q, t', q', ⟨rfl, rfl⟩, hc1, hc2, l1, l2, hcall⟩ := unhide HX k hlt hlt2
      have HC2X : Hid (∀ X : World, Below B w X → X.cell? ⟨gr2, k, none⟩ = some (.iface t' q')) := hc2
      have y1 := hc1 wr hf.1
      have d2 := unhide C2 wr hf.1
      have e2 := hc2 wr hf.1
      have HCALL := hide hcall
      have HO := hide ho
      have HZ := hide hz
      have HF := hide hf
      have hwB : B ≤ wr.heap.size := by have := hf.1.size; omega
      have HIT := hide (itoa_at k wr.drew (by omega) ((((unhide HPW).next hf.1 (Nat.le_refl _)).more hwB)))
      have hcat : strOf p ++ strOf (47 :: esc (decT k)) = strOf (ptrN p (decT k)) := strOf_app _ _
      have hzz : (9223372036854775807 < (strOf p).size + (strOf (47 :: esc (decT k))).size) = False := eq_false (by
        rw [strOf_size, strOf_size]
        have := esc_le (decT k)
        simp only [List.length_cons]; omega)
      have HT : Hid (∀ (w : World) (g : Nat), w.cell? ⟨g, 0, none⟩ = some (.string (strOf (decT k))) → Calls Tryz.prog 116 #[.slice (some ⟨g, 0, none⟩) 1 1] w fun e w' => e = .returned (.string (strOf (47 :: esc (decT k)))) ∧ Below w.heap.size w w') := fun w g c => one_textI (decT k) w l2 g c
      clear hcall ho hz hf hc1 hc2 HX HEND
      generalize strOf (ptrN p (decT k)) = np at *
      generalize strOf (47 :: esc (decT k)) = tk at *
      generalize strOf (decT k) = key at *
      go_wp2_with fail
      go_region_law (first
          | (have hb6 := b6'; go_simp; refine (unhide HCALL _ u0 zs F6 O6 (unhide HZ)).mono ?_; rintro e w7 ⟨r7, zs7, rfl, o7, z7, f7⟩)
          | (have hb4 := b4; go_simp; refine (unhide HTA).mono ?_; rintro e w6 ⟨rfl, b6⟩
             have b6' := below_next bA b6
             have F6 : CF B w w6 := (unhide HF).trans (CF.of_below b6' hwB)
             have O6 : CgR w6 B u0 (ys ++ zs) := own_below (unhide HO) b6'
             have m2 := unhide C2 w6 F6.1
             have n2 := unhide HC2X w6 F6.1)
          | (go_simp; refine (unhide HIT).mono ?_; rintro e w4 ⟨rfl, b4⟩
             have b4' : Below wr.heap.size wr w4 := below_next ((Below.refl _ _).drew) b4
             have bA : Below wr.heap.size wr (w4.alloc (.cells #[.string key] 9)) := b4'.alloc b4'.size _
             have F4 : CF B w w4 := (unhide HF).trans (CF.of_below b4' hwB)
             have FA : CF B w (w4.alloc (.cells #[.string key] 9)) := (unhide HF).trans (CF.of_below bA hwB)
             have p2 := unhide C2 w4 F4.1
             have r2 := unhide HC2X w4 F4.1
             have pA := unhide C2 _ FA.1
             have rA := unhide HC2X _ FA.1
             have aT : (w4.alloc (.cells #[.string key] 9)).cell? ⟨w4.heap.size, 0, none⟩ = some (.string key) := lit1 w4 9 (.string key) 0 _ rfl
             have HTA := hide (unhide HT _ _ aT)))
      all_goals
        have O7 := hide o7
        have Z7 := hide z7
        have F7 := hide (F6.trans f7)
        clear o7 z7 f7 O6 F6 m2 n2 p2 r2 pA rA F4 FA bA b4 b4' b6 b6' aT HTA HCALL HIT HT HO HZ HF HC2X y1 d2 e2
        go_wp2
        go_roundw
      all_goals first
        | exact ⟨k + 1, zs7, by omega, by go_num, unhide O7, unhide Z7, unhide F7⟩
        | (simp [intOf]; omega)
    · have hk' : k = xs.length := by omega
      subst hk'
      have HZ := hide (unhide HEND zs hz)
      have HO := hide ho
      have HF := hide hf
      clear ho hz hf HX HEND
      go_wp2
      go_ret
      exact ⟨_, zs, rfl, unhide HO, unhide HZ, unhide HF⟩
end Go.Proofs.YtocnekbedcnmgaaGreatDoor


namespace Go.Proofs.YtocnekbedcnmgaaGreatDoor
open Go.RowKit Go.Sort

set_option maxRecDepth 100000 in
theorem map_none {w : World} {b n : Nat} {xs : List (List UInt8 × Value)} (h : w.ownsMap Tryz.prog 9 RH b n (putAll xs)) (key : List UInt8) (hk : key.length ≤ 10000000) (hv : lastV xs key = none) :
    (Instr.lookup 180 (.map (some b)) (.string (strOf key)) false).run Tryz.prog w = .ok .nilIface w := by
  obtain ⟨es, clock, hb, F, _, hD⟩ := h
  have hkey : keyOf Tryz.prog 9 (.string (strOf key)) = some (.string key) := by
    have := WideMaps.keyOf_string_mk Tryz.underlying9 (s := strOf key) (by rw [strOf_size]; unfold maxLen; omega)
    rwa [strOf_toList] at this
  have hz : (zeroValue 65).run Tryz.prog w = .ok .nilIface w := by kernel_rfl
  have hat := fun z => putAll_at key z xs
  rw [hD] at hat
  rcases Maps.fit_look false (Maps.string_keyed Tryz.underlying9) Tryz.underlying180 hz hb F hkey with ⟨hrun, _, h2⟩ | ⟨e0, y, _, _, hrun, hR, h2, _⟩
  · exact hrun
  · injection hR with hR
    subst hR
    have e1 := (h2 (.held .nilIface)).symm.trans (hat (.held .nilIface))
    have e2 := (h2 (.held (.bool true))).symm.trans (hat (.held (.bool true)))
    rw [hv] at e1 e2
    exact absurd (e1.symm.trans e2) (by intro e; injection e with e; cases e)
/-- An object in memory: its keys in order, and its members. -/
theorem obj_at {w : World} {S : Nat → Prop} {B : Nat} {l : JM} {t : TypeId} {ad : Addr} (h : Rep w S (.obj l) (.iface t (.pointer (some ad)))) (htw : twV (.obj l) = false) (hl : (ct (.obj l)).length ≤ 1000000) (hS : ∀ k, S k → k < B) :
    ∃ ob mb, ad = ⟨ob, 0, none⟩ ∧ (∀ X : World, Below B w X → X.cell? ⟨ob, 0, none⟩ = some (.map (some mb))) ∧
      (∀ X : World, Below B w X → Calls Tryz.prog 151 #[.pointer (some ⟨ob, 0, none⟩)] X fun e w' => ∃ v, e = .returned v ∧ OT w' X.heap.size v ((kidsV (.obj l)).map (·.1)) ∧ Below X.heap.size X w') ∧
      (∀ key : List UInt8, key.length ≤ 1000000 → ∃ v, (∀ X : World, Below B w X → (Instr.lookup 180 (.map (some mb)) (.string (strOf key)) false).run Tryz.prog X = .ok v X) ∧ RepO w S (findK (kidsV (.obj l)) key) v) := by
  rw [Rep] at h
  obtain ⟨ob, mb, nn, xs, h, hSob, hSmb, hob, hown, _, hrm⟩ := h
  injection h with _ h
  injection h with h
  injection h with h
  obtain ⟨hkeys, hrep⟩ := repM_at l xs hrm
  rw [twV] at htw
  have hnd := (twM_nodup l [] htw).1
  have hnd' : (xs.map (·.1)).Nodup := by rw [hkeys]; exact hnd
  have hperm := keys_perm hown hnd'
  have hmx : l.toL.length = xs.length := by
    have a1 := congrArg List.length hkeys
    rw [keysM_map] at a1
    simp only [List.length_map] at a1
    omega
  have hpl : (isortJ l.toL).length = xs.length := by rw [(isortJ_perm _).length_eq, hmx]
  have hxn : xs.length ≤ 1000000 := by
    have h1 := ctObj_len l
    unfold hold at h1
    have h2 : l.toL.length ≤ (l.toL.map memN).sum := by
      have : ∀ l : List (List UInt8 × JV), l.length ≤ (l.map memN).sum := by
        intro l
        induction l with
        | nil => simp
        | cons q r ih => have h3 : 1 ≤ memN q := (by unfold memN; omega); rw [List.map_cons, List.sum_cons, List.length_cons]; omega
      exact this _
    omega
  have hc0 : w.cell? ⟨ob, 0, none⟩ = some (.map (some mb)) := by rw [Lib.cell_of_heap hob]; rfl
  have hsz : Maps.size (putAll xs) = xs.length := by rw [size_keys hperm, List.length_map]
  have C0 : ∀ X : World, Below B w X → X.cell? ⟨ob, 0, none⟩ = some (.map (some mb)) := fun X hX => (hX.cell (p := ⟨ob, 0, none⟩) (hS _ hSob)).trans hc0
  refine ⟨ob, mb, h, C0, fun X hX => ?_, fun key hkl => ?_⟩
  · refine (sortedKeys_walk ob mb nn (putAll xs) RH X (C0 X hX) (ownsMap_keep hown (hX.block mb (hS _ hSmb))) (by rw [hsz]; unfold maxLen; omega) (by rw [hsz]; omega)).mono ?_
    rintro e w' ⟨v, ss, rfl, hss, hrow, _, hb⟩
    have hks : ss.Perm ((ctM l).map (·.1)) := by
      rw [ctM_keys, ← hkeys]; exact hss.trans hperm.symm
    have hl2 : ss.length = xs.length := by rw [hks.length_eq, ctM_keys, ← hkeys, List.length_map]
    rw [isort_keys hks, hl2, keysJ] at hrow
    refine ⟨v, rfl, ?_, hb⟩
    show w'.ownsRow _ _ 1 v ((isortJ l.toL).map (·.1)).length (((isortJ l.toL).map (·.1)).map tokCell)
    rw [List.length_map, hpl]
    exact hrow
  · have hhas := lastV_has key xs
    have hkk : (kidsV (.obj l)).map (·.1) = (isortJ l.toL).map (·.1) := rfl
    cases hf : findK (kidsV (.obj l)) key with
    | none =>
      have hno : lastV xs key = none := by
        rw [findK_none, hkk] at hf
        have : (lastV xs key).isSome = false := by
          rw [hhas, List.contains_eq_mem, decide_eq_false_iff_not, hkeys, keysM_map]
          intro hm
          obtain ⟨q, hq, e⟩ := List.mem_map.1 hm
          exact hf (List.mem_map.2 ⟨q, (isortJ_perm _).symm.subset hq, e⟩)
        simpa using this
      exact ⟨.nilIface, fun X hX => map_none (ownsMap_keep hown (hX.block mb (hS _ hSmb))) key (by omega) hno, rfl⟩
    | some u =>
      have hmem : (key, u) ∈ l.toL := (isortJ_perm _).subset (findK_mem hf)
      obtain ⟨x, hx, hr⟩ := hrep key u hmem
      have hlast := lastV_of xs hnd' hx
      exact ⟨x, fun X hX => map_get (ownsMap_keep hown (hX.block mb (hS _ hSmb))) key (by omega) _ hlast, hr⟩
end Go.Proofs.YtocnekbedcnmgaaGreatDoor


namespace Go.Proofs.YtocnekbedcnmgaaGreatDoor
open Go.RowKit

/-- A row of changes that is read: its cells. -/
theorem CgR.form {w : World} {B : Nat} {v : Value} {ys : List Chg} (h : CgR w B v ys) : ∃ a cap, v = .slice a ys.length cap ∧ (∀ (j : Nat) (hj : j < ys.length), ∃ g, a = some ⟨g, 0, none⟩ ∧ g < w.heap.size ∧ ∀ X : World, X.heap[g]? = w.heap[g]? → X.cell? ⟨g, j * 3, none⟩ = some (.string (strOf ys[j].1)) ∧ X.cell? ⟨g, j * 3 + 1, none⟩ = some ys[j].2.1 ∧ X.cell? ⟨g, j * 3 + 2, none⟩ = some ys[j].2.2) := by
  rcases h.2 with ⟨hv, h0⟩ | ⟨g, cap, cur, hv, hB, hg, h1, h2, h3, h4⟩
  · exact ⟨none, 0, by rw [hv, h0], fun j hj => by omega⟩
  · refine ⟨some ⟨g, 0, none⟩, cap, hv, fun j hj => ⟨g, rfl, (Array.getElem?_eq_some_iff.1 hg).1, fun X hX => ?_⟩⟩
    have hX' : X.ownsRow B 78 3 (.slice (some ⟨g, 0, none⟩) ys.length cap) ys.length (ys.flatMap cgC) := ⟨h.1, .inr ⟨g, cap, cur, rfl, hB, hX.trans hg, h1, h2, h3, h4⟩⟩
    have hlen : ∀ (l : List Chg), (l.flatMap cgC).length = l.length * 3 := by
      intro l
      induction l with
      | nil => rfl
      | cons y r ih => rw [List.flatMap_cons, List.length_append, ih, List.length_cons]; simp [cgC]; omega
    have hat : ∀ (l : List Chg) (j : Nat) (hj : j < l.length) (i : Nat) (u : Value), (cgC l[j])[i]? = some u → (l.flatMap cgC)[j * 3 + i]? = some u := by
      intro l
      induction l with
      | nil => intro j hj; simp at hj
      | cons y r ih =>
        intro j hj i u hu
        have h3 : (cgC y).length = 3 := rfl
        cases j with
        | zero =>
          rw [List.flatMap_cons, Nat.zero_mul, Nat.zero_add, List.getElem?_append_left (by rw [h3]; exact (by have := (List.getElem?_eq_some_iff.1 hu).1; simpa [cgC] using this))]
          exact hu
        | succ j =>
          rw [List.flatMap_cons, List.getElem?_append_right (by rw [h3]; omega), h3, show (j + 1) * 3 + i - 3 = j * 3 + i by omega]
          exact ih j (by simpa using hj) i u hu
    have hc : ∀ i u, (ys.flatMap cgC)[i]? = some u → X.cell? ⟨g, i, none⟩ = some u := fun i u hu => by
      have h9 := World.ownsRow.cells hX' rfl i u hu
      rwa [show ((⟨(⟨g, 0, none⟩ : Addr).block, 0, none⟩ : Addr).add i) = ⟨g, i, none⟩ by simp [Addr.add]; omega] at h9
    exact ⟨hc _ _ (hat ys j hj 0 _ rfl), hc _ _ (hat ys j hj 1 _ rfl), hc _ _ (hat ys j hj 2 _ rfl)⟩
end Go.Proofs.YtocnekbedcnmgaaGreatDoor

