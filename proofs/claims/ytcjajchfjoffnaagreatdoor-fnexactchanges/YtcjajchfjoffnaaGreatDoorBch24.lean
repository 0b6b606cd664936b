import Derived.Deep.RegionLaw
import Derived.Test.YtcjajchfjoffnaaGreatDoorBch1
import Derived.Test.YtcjajchfjoffnaaGreatDoorBch20
import Derived.Test.YtcjajchfjoffnaaGreatDoorBch23
import Derived.Test.YtcjajchfjoffnaaGreatDoorBch8
import Derived.Test.YtcjajchfjoffnaaGreatDoorBch2
import Derived.Test.YtcjajchfjoffnaaGreatDoorBch7
namespace Go.Proofs.YtcjajchfjoffnaaGreatDoor
open Go.RowKit

abbrev Chg := List UInt8 × Value × Value
def cgC (y : Chg) : List Value := [.string (strOf y.1), y.2.1, y.2.2]
/-- A row of changes that the call owns. -/
def CgR (w : World) (B : Nat) (v : Value) (ys : List Chg) : Prop := w.ownsRow B 175 3 v ys.length (ys.flatMap cgC)
theorem infoCg : (Tryz.prog.info? 175).map (fun i => (i.zero, i.size, i.bytes)) = some (some (.agg #[.string ByteArray.empty, .nilIface, .nilIface]), 3, 48) := by kernel_rfl
theorem CgR.step {w : World} {B : Nat} {v : Value} {ys : List Chg} {y : Chg} (h : w.ownsRow B 175 3 v (ys.length + 1) (ys.flatMap cgC ++ cgC y)) : CgR w B v (ys ++ [y]) := by
  unfold CgR
  rw [List.length_append, List.flatMap_append]
  simpa using h
theorem lit3 (w : World) (t : TypeId) (x y z : Value) : ∀ j u, [x, y, z][j]? = some u → (w.alloc (.cells #[x, y, z] t)).cell? ((⟨w.heap.size, 0, none⟩ : Addr).add j) = some u := by
  intro j u h
  match j with
  | 0 => simp at h; subst h; simp [Addr.add]
  | 1 => simp at h; subst h; simp [Addr.add]
  | 2 => simp at h; subst h; simp [Addr.add]
  | j + 3 => simp at h
theorem lit3B (w : World) (o : Obj) (t : TypeId) (x y z : Value) : ∀ j u, [x, y, z][j]? = some u → ((w.alloc o).alloc (.cells #[x, y, z] t)).cell? ((⟨w.heap.size + 1, 0, none⟩ : Addr).add j) = some u := by
  have h := lit3 (w.alloc o) t x y z
  rwa [show (w.alloc o).heap.size = w.heap.size + 1 from by simp] at h
/-- Old blocks under B and all blocks but those of changes are kept. -/
def CF (B : Nat) (w w' : World) : Prop := Below B w w' ∧ ∀ (g : Nat) (cs : Array Value) (t : TypeId), t ≠ 175 → w.heap[g]? = some (.cells cs t (0, 0)) → w'.heap[g]? = some (.cells cs t (0, 0))
theorem CF.refl (B : Nat) (w : World) : CF B w w := ⟨Below.refl _ _, fun _ _ _ _ h => h⟩
theorem CF.trans {B : Nat} {a b c : World} (h : CF B a b) (k : CF B b c) : CF B a c := ⟨h.1.trans k.1, fun g cs t ht hg => k.2 g cs t ht (h.2 g cs t ht hg)⟩
theorem CF.of_below {B : Nat} {w w' : World} (h : Below w.heap.size w w') (hB : B ≤ w.heap.size) : CF B w w' := ⟨h.mono hB, fun g _ _ _ hg => (h.block g (Array.getElem?_eq_some_iff.1 hg).1).trans hg⟩
theorem CF.grown {B n : Nat} {w w' : World} {v : Value} {xs : List Value} (h : w.ownsRow B 175 3 v n xs) (hg : w.grownBy w' v.ownBlock) (hB : B ≤ w.heap.size) : CF B w w' := by
  refine ⟨(Below.refl B w).grown hg hB (fun k hk => (h.lt k hk).1), fun g cs t ht hgc => ?_⟩
  refine (hg.block g (Array.getElem?_eq_some_iff.1 hgc).1 (fun e => ?_)).trans hgc
  rcases h.2 with ⟨hv, _⟩ | ⟨g', cap, cur, hv, _, hg', _⟩
  · subst hv; cases e
  · subst hv
    injection e with e
    simp only at e
    subst e
    rw [hgc] at hg'
    injection hg' with e
    injection e with _ e
    exact ht e
theorem OT.cf {B B' : Nat} {w w' : World} {r : Value} {ts : List (List UInt8)} (h : OT w B' r ts) (f : CF B w w') : OT w' B' r ts := by
  refine ⟨h.1, ?_⟩
  rcases h.2 with hn | ⟨g, cap, cur, hv, hb, hg, rest⟩
  · exact .inl hn
  · exact .inr ⟨g, cap, cur, hv, hb, f.2 g _ _ (by decide) hg, rest⟩
def chO (n : Nat) (p : List UInt8) : Option JV → Option JV → List (List UInt8)
  | some u, some v => chF n p u v
  | _, _ => [p]
theorem chK_O (n : Nat) (p : List UInt8) (a b : JV) (key : List UInt8) : chK n p a b key = chO n (ptrN p key) (findK (kidsV a) key) (findK (kidsV b) key) := by
  unfold chK
  cases findK (kidsV a) key <;> cases findK (kidsV b) key <;> rfl
def GoodO (n : Nat) (p : List UInt8) : Option JV → Prop
  | none => True
  | some u => okV u ∧ twV u = false ∧ depV u ≤ n ∧ (ct u).length ≤ 1000000 ∧ p.length + 2 * (ct u).length ≤ 4000000
/-- What is asked of two values' memory. -/
structure Two (w : World) (B : Nat) (S1 S2 : Nat → Prop) : Prop where
  apart : ∀ k, S1 k → ¬ S2 k
  lt1 : ∀ k, S1 k → k < B
  lt2 : ∀ k, S2 k → k < B
  size : B ≤ w.heap.size
  pow : PowB B w
theorem Two.next {w w' : World} {B : Nat} {S1 S2 : Nat → Prop} (h : Two w B S1 S2) (hb : Below B w w') : Two w' B S1 S2 := ⟨h.apart, h.lt1, h.lt2, Nat.le_trans h.size hb.size, h.pow.next hb (Nat.le_refl _)⟩
/-- The form of a value that a change holds. -/
def FO (v : Value) : Prop := v = .nilIface ∨ ∃ t q, v = .iface t q
/-- The pointers of changes, and that their values have their form. -/
def ZM (zs : List Chg) (L : List (List UInt8)) : Prop := zs.map (·.1) = L ∧ ∀ z ∈ zs, FO z.2.1 ∧ FO z.2.2
theorem zm0 {L : List (List UInt8)} (h : ([] : List Chg).map (·.1) = L) : ZM [] L := ⟨h, fun _ hz => by cases hz⟩
theorem zm1 {p : List UInt8} {v1 v2 : Value} {L : List (List UInt8)} (h : [((p, v1, v2) : Chg)].map (·.1) = L) (h1 : FO v1) (h2 : FO v2) : ZM [(p, v1, v2)] L := ⟨h, fun z hz => by rw [List.mem_singleton] at hz; subst hz; exact ⟨h1, h2⟩⟩
theorem zm_app {zs ys : List Chg} {L M : List (List UInt8)} (h : ZM zs L) (k : ZM ys M) : ZM (zs ++ ys) (L ++ M) := ⟨by rw [List.map_append, h.1, k.1], fun z hz => (List.mem_append.1 hz).elim (h.2 z) (k.2 z)⟩
/-- What appendChanges promises. -/
def AC (n : Nat) : Prop := ∀ (oa ob : Option JV) (p : List UInt8) (ys : List Chg) (lv v1 v2 : Value) (w : World) (B : Nat) (S1 S2 : Nat → Prop), GoodO n p oa → GoodO n p ob → (oa ≠ none ∨ ob ≠ none) → p.length ≤ 4000000 → ys.length + cntO oa + cntO ob ≤ 1000000 →
  CgR w B lv ys → RepO w S1 oa v1 → RepO w S2 ob v2 → Two w B S1 S2 →
  Calls Tryz.prog 148 #[lv, .agg #[.string (strOf p), v1, v2]] w fun e w' => ∃ (r : Value) (zs : List Chg), e = .returned r ∧ CgR w' B r (ys ++ zs) ∧ ZM zs (chO n p oa ob) ∧ CF B w w'
/-- What its helpers promise. -/
def HC (f : FuncId) (n : Nat) (a b : JV) : Prop := ∀ (p : List UInt8) (ys : List Chg) (lv : Value) (t1 t2 : TypeId) (g1 g2 : Addr) (w : World) (B : Nat) (S1 S2 : Nat → Prop), p.length + 2 * (ct a).length ≤ 4000000 → p.length + 2 * (ct b).length ≤ 4000000 → ys.length + cntV a + cntV b ≤ 1000000 →
  CgR w B lv ys → Rep w S1 a (.iface t1 (.pointer (some g1))) → Rep w S2 b (.iface t2 (.pointer (some g2))) → Two w B S1 S2 →
  Calls Tryz.prog f #[lv, .string (strOf p), .pointer (some g1), .pointer (some g2)] w fun e w' => ∃ (r : Value) (zs : List Chg), e = .returned r ∧ CgR w' B r (ys ++ zs) ∧ ZM zs ((keys2 a b).flatMap (chK n p a b)) ∧ CF B w w'
theorem asrt_arr {w : World} {S : Nat → Prop} {a : JV} {v : Value} (h : Rep w S a v) (hn : kd a ≠ 5) : ∀ X : World, (Instr.typeAssert v 92 86 true).run Tryz.prog X = .ok (.tuple #[.pointer none, .bool false]) X := by
  intro X
  cases a with
  | nul => rw [Rep] at h; subst h; kernel_rfl
  | tt => rw [Rep] at h; subst h; kernel_rfl
  | ff => rw [Rep] at h; subst h; kernel_rfl
  | num l => rw [Rep] at h; obtain ⟨z, h, _⟩ := h; subst h; kernel_rfl
  | str l => rw [Rep] at h; subst h; kernel_rfl
  | arr l => exact absurd rfl hn
  | obj m => rw [Rep] at h; obtain ⟨ob, b, nn, xs, h, _⟩ := h; subst h; kernel_rfl
theorem asrt_obj {w : World} {S : Nat → Prop} {a : JV} {v : Value} (h : Rep w S a v) (hn : kd a ≠ 6) : ∀ X : World, (Instr.typeAssert v 92 151 true).run Tryz.prog X = .ok (.tuple #[.pointer none, .bool false]) X := by
  intro X
  cases a with
  | nul => rw [Rep] at h; subst h; kernel_rfl
  | tt => rw [Rep] at h; subst h; kernel_rfl
  | ff => rw [Rep] at h; subst h; kernel_rfl
  | num l => rw [Rep] at h; obtain ⟨z, h, _⟩ := h; subst h; kernel_rfl
  | str l => rw [Rep] at h; subst h; kernel_rfl
  | arr l => rw [Rep] at h; obtain ⟨ab, sv, xs, h, _⟩ := h; subst h; kernel_rfl
  | obj m => exact absurd rfl hn
theorem nil_arr (X : World) : (Instr.typeAssert .nilIface 92 86 true).run Tryz.prog X = .ok (.tuple #[.pointer none, .bool false]) X := by kernel_rfl
theorem nil_obj (X : World) : (Instr.typeAssert .nilIface 92 151 true).run Tryz.prog X = .ok (.tuple #[.pointer none, .bool false]) X := by kernel_rfl
theorem is_arr (g : Addr) (X : World) : (Instr.typeAssert (.iface 86 (.pointer (some g))) 92 86 true).run Tryz.prog X = .ok (.tuple #[.pointer (some g), .bool true]) X := by kernel_rfl
theorem is_obj (g : Addr) (X : World) : (Instr.typeAssert (.iface 151 (.pointer (some g))) 92 151 true).run Tryz.prog X = .ok (.tuple #[.pointer (some g), .bool true]) X := by kernel_rfl
theorem obj_no_arr (g : Addr) (X : World) : (Instr.typeAssert (.iface 151 (.pointer (some g))) 92 86 true).run Tryz.prog X = .ok (.tuple #[.pointer none, .bool false]) X := by kernel_rfl
end Go.Proofs.YtcjajchfjoffnaaGreatDoor

namespace Go.Proofs.YtcjajchfjoffnaaGreatDoor
open Go.RowKit

set_option maxRecDepth 100000 in
set_option maxHeartbeats 4000000 in
/-- Two values of which one is not there. -/
theorem chg_none (oa ob : Option JV) (p : List UInt8) (ys : List Chg) (lv v1 v2 : Value) (w : World) (B : Nat) (S1 S2 : Nat → Prop) (hnn : oa ≠ none ∨ ob ≠ none) (hone : oa = none ∨ ob = none) (hl : p.length ≤ 4000000) (hy : ys.length ≤ 1000000)
    (hr : CgR w B lv ys) (h1 : RepO w S1 oa v1) (h2 : RepO w S2 ob v2) (htw : Two w B S1 S2) :
    Calls Tryz.prog 148 #[lv, .agg #[.string (strOf p), v1, v2]] w fun e w' => ∃ (r : Value) (zs : List Chg), e = .returned r ∧ CgR w' B r (ys ++ zs) ∧ ZM zs ([p]) ∧ CF B w w' := by
  obtain ⟨i0, hi0, hz0, hz1, hz2⟩ := info_parts infoCg
  have he : eqO oa ob = false := by
    rcases hone with rfl | rfl
    · rfl
    · cases oa <;> rfl
  obtain ⟨R, hch⟩ : ∃ R, R = [p] := ⟨_, rfl⟩
  rw [← hch]
  have ga := hl
  have gb := hl
  cases oa with
  | none =>
    cases ob with
    | none => rcases hnn with h | h <;> exact absurd rfl h
    | some b =>
      obtain ⟨t2, q2, rfl⟩ := rep_iface h2
      have e1 : v1 = .nilIface := h1
      subst e1
      have a1 := nil_arr
      have a2 := nil_obj
      have hXs : (w.alloc (.cells #[.string (strOf p), .nilIface, .iface t2 q2] 175)).heap.size = w.heap.size + 1 := by simp
      have k0 : (w.alloc (.cells #[.string (strOf p), .nilIface, .iface t2 q2] 175)).cell? ⟨w.heap.size, 0, none⟩ = some (.string (strOf p)) := lit3 w 175 (.string (strOf p)) (.nilIface) (.iface t2 q2) 0 _ rfl
      have k1 : (w.alloc (.cells #[.string (strOf p), .nilIface, .iface t2 q2] 175)).cell? ⟨w.heap.size, 1, none⟩ = some (.nilIface) := lit3 w 175 (.string (strOf p)) (.nilIface) (.iface t2 q2) 1 _ rfl
      have k2 : (w.alloc (.cells #[.string (strOf p), .nilIface, .iface t2 q2] 175)).cell? ⟨w.heap.size, 2, none⟩ = some (.iface t2 q2) := lit3 w 175 (.string (strOf p)) (.nilIface) (.iface t2 q2) 2 _ rfl
      have own1 : (w.alloc (.cells #[.string (strOf p), .nilIface, .iface t2 q2] 175)).ownsRow B 175 3 lv ys.length (ys.flatMap cgC) := own_below hr ((Below.refl _ _).alloc (Nat.le_refl _) _)
      have FW : Hid (CF B w (w.alloc (.cells #[.string (strOf p), .nilIface, .iface t2 q2] 175))) := CF.of_below ((Below.refl _ _).alloc (Nat.le_refl _) _) htw.size
      have heq0 := eqlO_run htw.apart (h1.keep (w' := w.alloc (.cells #[.string (strOf p), .nilIface, .iface t2 q2] 175)) (S' := S1) (fun k hk => Below.heap_alloc _ _ k (by have := htw.lt1 k hk; have := htw.size; omega)) (fun _ h => h)) (h2.keep (w' := w.alloc (.cells #[.string (strOf p), .nilIface, .iface t2 q2] 175)) (S' := S2) (fun k hk => Below.heap_alloc _ _ k (by have := htw.lt2 k hk; have := htw.size; omega)) (fun _ h => h)) hnn
      have hBs := htw.size
      rw [he] at heq0
      have heq := heq0
      clear heq0
      have HCH := hide hch
      clear hch hr h1 h2 htw hnn ga gb he
      go_enter Tryz.func148, Tryz.ntmps148
      have hWB : B ≤ (w.alloc (.cells #[.string (strOf p), .nilIface, .iface t2 q2] 175)).heap.size := by omega
      go_wp2_with (at_builtin; refine wpList_append_own _ rfl (.tmp 64) (.tmp 66) 108 rfl B 175 i0 (.agg #[.string ByteArray.empty, .nilIface, .nilIface]) 3 48 Tryz.underlying108 hi0 hz0 hz1 hz2 rfl (by decide) _ _ _ rfl (own1.alloc _) ⟨w.heap.size + 1, 0, none⟩ 1 1 [.string (strOf p), .nilIface, .iface t2 q2] rfl rfl (lit3B _ _ _ _ _ _) (by intro u hu; simp at hu; rcases hu with rfl | rfl | rfl <;> rfl) (by unfold maxLen; omega) (by omega) (by simp; omega) ?_)
      intro v3 w3 own3 hg3 _
      have R3 : Hid (CgR w3 B v3 (ys ++ [(p, .nilIface, .iface t2 q2)])) := CgR.step own3
      have F3 : Hid (CF B w w3) := ((unhide FW).trans (CF.of_below ((Below.refl _ _).alloc (Nat.le_refl _) _) hWB)).trans (CF.grown (own1.alloc _) hg3 (by simp; omega))
      clear own3 hg3 own1 FW
      go_wp2
      go_ret
      exact ⟨_, [(p, .nilIface, .iface t2 q2)], rfl, unhide R3, zm1 (unhide HCH).symm (by first | exact .inl rfl | exact .inr ⟨_, _, rfl⟩) (by first | exact .inl rfl | exact .inr ⟨_, _, rfl⟩), unhide F3⟩
  | some a =>
    have hob : ob = none := by rcases hone with h | h; cases h; exact h
    subst hob
    have e2 : v2 = .nilIface := h2
    subst e2
    by_cases k5 : kd a = 5
    · obtain ⟨l, rfl⟩ : ∃ l, a = .arr l := by cases a <;> first | exact ⟨_, rfl⟩ | (simp [kd] at k5)
      obtain ⟨ab, e1⟩ : ∃ ab, v1 = .iface 86 (.pointer (some ⟨ab, 0, none⟩)) := by
        have h1' : Rep w S1 (.arr l) v1 := h1
        rw [Rep] at h1'
        obtain ⟨ab, sv, xs, h, _⟩ := h1'
        exact ⟨ab, h⟩
      subst e1
      have a1 := is_arr ⟨ab, 0, none⟩
      have a2 := nil_arr
      clear k5
      have hXs : (w.alloc (.cells #[.string (strOf p), .iface 86 (.pointer (some ⟨ab, 0, none⟩)), .nilIface] 175)).heap.size = w.heap.size + 1 := by simp
      have k0 : (w.alloc (.cells #[.string (strOf p), .iface 86 (.pointer (some ⟨ab, 0, none⟩)), .nilIface] 175)).cell? ⟨w.heap.size, 0, none⟩ = some (.string (strOf p)) := lit3 w 175 (.string (strOf p)) (.iface 86 (.pointer (some ⟨ab, 0, none⟩))) (.nilIface) 0 _ rfl
      have k1 : (w.alloc (.cells #[.string (strOf p), .iface 86 (.pointer (some ⟨ab, 0, none⟩)), .nilIface] 175)).cell? ⟨w.heap.size, 1, none⟩ = some (.iface 86 (.pointer (some ⟨ab, 0, none⟩))) := lit3 w 175 (.string (strOf p)) (.iface 86 (.pointer (some ⟨ab, 0, none⟩))) (.nilIface) 1 _ rfl
      have k2 : (w.alloc (.cells #[.string (strOf p), .iface 86 (.pointer (some ⟨ab, 0, none⟩)), .nilIface] 175)).cell? ⟨w.heap.size, 2, none⟩ = some (.nilIface) := lit3 w 175 (.string (strOf p)) (.iface 86 (.pointer (some ⟨ab, 0, none⟩))) (.nilIface) 2 _ rfl
      have bX : Below w.heap.size w (w.alloc (.cells #[.string (strOf p), .iface 86 (.pointer (some ⟨ab, 0, none⟩)), .nilIface] 175)) := (Below.refl _ _).alloc (Nat.le_refl _) _
      have HB := hide bX
      have HTW := hide htw
      have HR1 := hide h1
      have HR2 := hide h2
      have HNN := hide hnn
      have HCH := hide hch
      have HE := hide he
      have HR := hide hr
      have hBs := htw.size
      clear bX hch hr h1 h2 htw hnn ga gb he
      go_enter Tryz.func148, Tryz.ntmps148
      go_wp2_with fail
      go_quiet (fail)
      have BX : Hid (Below w.heap.size w ((w.alloc (.cells #[.string (strOf p), .iface 86 (.pointer (some ⟨ab, 0, none⟩)), .nilIface] 175)).drewN nq)) := below_drewN (unhide HB) _
      have hXW : ((w.alloc (.cells #[.string (strOf p), .iface 86 (.pointer (some ⟨ab, 0, none⟩)), .nilIface] 175)).drewN nq).heap.size = w.heap.size + 1 := hXs
      have q0 : ((w.alloc (.cells #[.string (strOf p), .iface 86 (.pointer (some ⟨ab, 0, none⟩)), .nilIface] 175)).drewN nq).cell? ⟨w.heap.size, 0, none⟩ = some (.string (strOf p)) := k0
      have q1 : ((w.alloc (.cells #[.string (strOf p), .iface 86 (.pointer (some ⟨ab, 0, none⟩)), .nilIface] 175)).drewN nq).cell? ⟨w.heap.size, 1, none⟩ = some (.iface 86 (.pointer (some ⟨ab, 0, none⟩))) := k1
      have q2 : ((w.alloc (.cells #[.string (strOf p), .iface 86 (.pointer (some ⟨ab, 0, none⟩)), .nilIface] 175)).drewN nq).cell? ⟨w.heap.size, 2, none⟩ = some (.nilIface) := k2
      clear k0 k1 k2 HB hXs
      generalize (w.alloc (.cells #[.string (strOf p), .iface 86 (.pointer (some ⟨ab, 0, none⟩)), .nilIface] 175)).drewN nq = W at *
      have q3 : ∀ j u, [Value.string (strOf p), .iface 86 (.pointer (some ⟨ab, 0, none⟩)), .nilIface][j]? = some u → W.cell? ⟨w.heap.size, j, none⟩ = some u := fun j u h => by
        match j with
        | 0 => simp at h; subst h; exact q0
        | 1 => simp at h; subst h; exact q1
        | 2 => simp at h; subst h; exact q2
        | j + 3 => simp at h
      have hWB : B ≤ W.heap.size := by omega
      have heq := eqlO_run (unhide HTW).apart ((unhide HR1).keep (w' := W) (S' := S1) (fun k hk => (unhide BX).block k (by have := (unhide HTW).lt1 k hk; omega)) (fun _ h => h)) ((unhide HR2).keep (w' := W) (S' := S2) (fun k hk => (unhide BX).block k (by have := (unhide HTW).lt2 k hk; omega)) (fun _ h => h)) (unhide HNN)
      rw [unhide HE] at heq
      have own1 : W.ownsRow B 175 3 lv ys.length (ys.flatMap cgC) := own_below (unhide HR) (unhide BX)
      have FW : Hid (CF B w W) := CF.of_below (unhide BX) hBs
      clear HTW HR1 HR2 HNN HE HR BX q3 hXW
      go_wp2_with (at_builtin; refine wpList_append_own _ rfl (.tmp 64) (.tmp 66) 108 rfl B 175 i0 (.agg #[.string ByteArray.empty, .nilIface, .nilIface]) 3 48 Tryz.underlying108 hi0 hz0 hz1 hz2 rfl (by decide) _ _ _ rfl (own1.alloc _) ⟨W.heap.size, 0, none⟩ 1 1 [.string (strOf p), .iface 86 (.pointer (some ⟨ab, 0, none⟩)), .nilIface] rfl rfl (lit3 _ _ _ _ _) (by intro u hu; simp at hu; rcases hu with rfl | rfl | rfl <;> rfl) (by unfold maxLen; omega) (by omega) (by simp; omega) ?_)
      intro v3 w3 own3 hg3 _
      have R3 : Hid (CgR w3 B v3 (ys ++ [(p, .iface 86 (.pointer (some ⟨ab, 0, none⟩)), .nilIface)])) := CgR.step own3
      have F3 : Hid (CF B w w3) := ((unhide FW).trans (CF.of_below ((Below.refl _ _).alloc (Nat.le_refl _) _) hWB)).trans (CF.grown (own1.alloc _) hg3 (by simp; omega))
      clear own3 hg3 own1 FW
      go_wp2
      go_ret
      exact ⟨_, [(p, .iface 86 (.pointer (some ⟨ab, 0, none⟩)), .nilIface)], rfl, unhide R3, zm1 (unhide HCH).symm (by first | exact .inl rfl | exact .inr ⟨_, _, rfl⟩) (by first | exact .inl rfl | exact .inr ⟨_, _, rfl⟩), unhide F3⟩
    · by_cases k6 : kd a = 6
      · obtain ⟨m, rfl⟩ : ∃ m, a = .obj m := by cases a <;> first | exact ⟨_, rfl⟩ | (simp [kd] at k6)
        obtain ⟨ob1, e1⟩ : ∃ ob1, v1 = .iface 151 (.pointer (some ⟨ob1, 0, none⟩)) := by
          have h1' : Rep w S1 (.obj m) v1 := h1
          rw [Rep] at h1'
          obtain ⟨ob, b, nn, xs, h, _⟩ := h1'
          exact ⟨ob, h⟩
        subst e1
        have a1 := obj_no_arr ⟨ob1, 0, none⟩
        have a2 := is_obj ⟨ob1, 0, none⟩
        have a3 := nil_obj
        clear k5 k6
        have hXs : (w.alloc (.cells #[.string (strOf p), .iface 151 (.pointer (some ⟨ob1, 0, none⟩)), .nilIface] 175)).heap.size = w.heap.size + 1 := by simp
        have k0 : (w.alloc (.cells #[.string (strOf p), .iface 151 (.pointer (some ⟨ob1, 0, none⟩)), .nilIface] 175)).cell? ⟨w.heap.size, 0, none⟩ = some (.string (strOf p)) := lit3 w 175 (.string (strOf p)) (.iface 151 (.pointer (some ⟨ob1, 0, none⟩))) (.nilIface) 0 _ rfl
        have k1 : (w.alloc (.cells #[.string (strOf p), .iface 151 (.pointer (some ⟨ob1, 0, none⟩)), .nilIface] 175)).cell? ⟨w.heap.size, 1, none⟩ = some (.iface 151 (.pointer (some ⟨ob1, 0, none⟩))) := lit3 w 175 (.string (strOf p)) (.iface 151 (.pointer (some ⟨ob1, 0, none⟩))) (.nilIface) 1 _ rfl
        have k2 : (w.alloc (.cells #[.string (strOf p), .iface 151 (.pointer (some ⟨ob1, 0, none⟩)), .nilIface] 175)).cell? ⟨w.heap.size, 2, none⟩ = some (.nilIface) := lit3 w 175 (.string (strOf p)) (.iface 151 (.pointer (some ⟨ob1, 0, none⟩))) (.nilIface) 2 _ rfl
        have own1 : (w.alloc (.cells #[.string (strOf p), .iface 151 (.pointer (some ⟨ob1, 0, none⟩)), .nilIface] 175)).ownsRow B 175 3 lv ys.length (ys.flatMap cgC) := own_below hr ((Below.refl _ _).alloc (Nat.le_refl _) _)
        have FW : Hid (CF B w (w.alloc (.cells #[.string (strOf p), .iface 151 (.pointer (some ⟨ob1, 0, none⟩)), .nilIface] 175))) := CF.of_below ((Below.refl _ _).alloc (Nat.le_refl _) _) htw.size
        have heq0 := eqlO_run htw.apart (h1.keep (w' := w.alloc (.cells #[.string (strOf p), .iface 151 (.pointer (some ⟨ob1, 0, none⟩)), .nilIface] 175)) (S' := S1) (fun k hk => Below.heap_alloc _ _ k (by have := htw.lt1 k hk; have := htw.size; omega)) (fun _ h => h)) (h2.keep (w' := w.alloc (.cells #[.string (strOf p), .iface 151 (.pointer (some ⟨ob1, 0, none⟩)), .nilIface] 175)) (S' := S2) (fun k hk => Below.heap_alloc _ _ k (by have := htw.lt2 k hk; have := htw.size; omega)) (fun _ h => h)) hnn
        have hBs := htw.size
        rw [he] at heq0
        have heq := heq0
        clear heq0
        have HCH := hide hch
        clear hch hr h1 h2 htw hnn ga gb he
        go_enter Tryz.func148, Tryz.ntmps148
        have hWB : B ≤ (w.alloc (.cells #[.string (strOf p), .iface 151 (.pointer (some ⟨ob1, 0, none⟩)), .nilIface] 175)).heap.size := by omega
        go_wp2_with (at_builtin; refine wpList_append_own _ rfl (.tmp 64) (.tmp 66) 108 rfl B 175 i0 (.agg #[.string ByteArray.empty, .nilIface, .nilIface]) 3 48 Tryz.underlying108 hi0 hz0 hz1 hz2 rfl (by decide) _ _ _ rfl (own1.alloc _) ⟨w.heap.size + 1, 0, none⟩ 1 1 [.string (strOf p), .iface 151 (.pointer (some ⟨ob1, 0, none⟩)), .nilIface] rfl rfl (lit3B _ _ _ _ _ _) (by intro u hu; simp at hu; rcases hu with rfl | rfl | rfl <;> rfl) (by unfold maxLen; omega) (by omega) (by simp; omega) ?_)
        intro v3 w3 own3 hg3 _
        have R3 : Hid (CgR w3 B v3 (ys ++ [(p, .iface 151 (.pointer (some ⟨ob1, 0, none⟩)), .nilIface)])) := CgR.step own3
        have F3 : Hid (CF B w w3) := ((unhide FW).trans (CF.of_below ((Below.refl _ _).alloc (Nat.le_refl _) _) hWB)).trans (CF.grown (own1.alloc _) hg3 (by simp; omega))
        clear own3 hg3 own1 FW
        go_wp2
        go_ret
        exact ⟨_, [(p, .iface 151 (.pointer (some ⟨ob1, 0, none⟩)), .nilIface)], rfl, unhide R3, zm1 (unhide HCH).symm (by first | exact .inl rfl | exact .inr ⟨_, _, rfl⟩) (by first | exact .inl rfl | exact .inr ⟨_, _, rfl⟩), unhide F3⟩
      · have a1 := asrt_arr (show Rep w S1 a v1 from h1) k5
        have a2 := asrt_obj (show Rep w S1 a v1 from h1) k6
        obtain ⟨t1, q1, rfl⟩ := rep_iface (show Rep w S1 a v1 from h1)
        clear k5 k6
        have hXs : (w.alloc (.cells #[.string (strOf p), .iface t1 q1, .nilIface] 175)).heap.size = w.heap.size + 1 := by simp
        have k0 : (w.alloc (.cells #[.string (strOf p), .iface t1 q1, .nilIface] 175)).cell? ⟨w.heap.size, 0, none⟩ = some (.string (strOf p)) := lit3 w 175 (.string (strOf p)) (.iface t1 q1) (.nilIface) 0 _ rfl
        have k1 : (w.alloc (.cells #[.string (strOf p), .iface t1 q1, .nilIface] 175)).cell? ⟨w.heap.size, 1, none⟩ = some (.iface t1 q1) := lit3 w 175 (.string (strOf p)) (.iface t1 q1) (.nilIface) 1 _ rfl
        have k2 : (w.alloc (.cells #[.string (strOf p), .iface t1 q1, .nilIface] 175)).cell? ⟨w.heap.size, 2, none⟩ = some (.nilIface) := lit3 w 175 (.string (strOf p)) (.iface t1 q1) (.nilIface) 2 _ rfl
        have own1 : (w.alloc (.cells #[.string (strOf p), .iface t1 q1, .nilIface] 175)).ownsRow B 175 3 lv ys.length (ys.flatMap cgC) := own_below hr ((Below.refl _ _).alloc (Nat.le_refl _) _)
        have FW : Hid (CF B w (w.alloc (.cells #[.string (strOf p), .iface t1 q1, .nilIface] 175))) := CF.of_below ((Below.refl _ _).alloc (Nat.le_refl _) _) htw.size
        have heq0 := eqlO_run htw.apart (h1.keep (w' := w.alloc (.cells #[.string (strOf p), .iface t1 q1, .nilIface] 175)) (S' := S1) (fun k hk => Below.heap_alloc _ _ k (by have := htw.lt1 k hk; have := htw.size; omega)) (fun _ h => h)) (h2.keep (w' := w.alloc (.cells #[.string (strOf p), .iface t1 q1, .nilIface] 175)) (S' := S2) (fun k hk => Below.heap_alloc _ _ k (by have := htw.lt2 k hk; have := htw.size; omega)) (fun _ h => h)) hnn
        have hBs := htw.size
        rw [he] at heq0
        have heq := heq0
        clear heq0
        have HCH := hide hch
        clear hch hr h1 h2 htw hnn ga gb he
        go_enter Tryz.func148, Tryz.ntmps148
        have hWB : B ≤ (w.alloc (.cells #[.string (strOf p), .iface t1 q1, .nilIface] 175)).heap.size := by omega
        go_wp2_with (at_builtin; refine wpList_append_own _ rfl (.tmp 64) (.tmp 66) 108 rfl B 175 i0 (.agg #[.string ByteArray.empty, .nilIface, .nilIface]) 3 48 Tryz.underlying108 hi0 hz0 hz1 hz2 rfl (by decide) _ _ _ rfl (own1.alloc _) ⟨w.heap.size + 1, 0, none⟩ 1 1 [.string (strOf p), .iface t1 q1, .nilIface] rfl rfl (lit3B _ _ _ _ _ _) (by intro u hu; simp at hu; rcases hu with rfl | rfl | rfl <;> rfl) (by unfold maxLen; omega) (by omega) (by simp; omega) ?_)
        intro v3 w3 own3 hg3 _
        have R3 : Hid (CgR w3 B v3 (ys ++ [(p, .iface t1 q1, .nilIface)])) := CgR.step own3
        have F3 : Hid (CF B w w3) := ((unhide FW).trans (CF.of_below ((Below.refl _ _).alloc (Nat.le_refl _) _) hWB)).trans (CF.grown (own1.alloc _) hg3 (by simp; omega))
        clear own3 hg3 own1 FW
        go_wp2
        go_ret
        exact ⟨_, [(p, .iface t1 q1, .nilIface)], rfl, unhide R3, zm1 (unhide HCH).symm (by first | exact .inl rfl | exact .inr ⟨_, _, rfl⟩) (by first | exact .inl rfl | exact .inr ⟨_, _, rfl⟩), unhide F3⟩
end Go.Proofs.YtcjajchfjoffnaaGreatDoor

namespace Go.Proofs.YtcjajchfjoffnaaGreatDoor
open Go.RowKit

theorem comp_cases0 {a b : JV} (h : comp a b = true) : (∃ l m, a = .arr l ∧ b = .arr m ∧ l.toL.length = m.toL.length) ∨ ∃ l m, a = .obj l ∧ b = .obj m := by
  cases a <;> cases b <;> first | exact .inr ⟨_, _, rfl, rfl⟩ | (simp [comp] at h; done) | skip
  rename_i l m
  exact .inl ⟨l, m, rfl, rfl, by simpa [comp] using h⟩

set_option maxRecDepth 100000 in
set_option maxHeartbeats 8000000 in
theorem ac_step (n : Nat) (hI : ∀ a b : JV, kd a = 5 → comp a b = true → okV a → okV b → twV a = false → twV b = false → depV a ≤ n + 1 → depV b ≤ n + 1 → (ct a).length ≤ 1000000 → (ct b).length ≤ 1000000 → HC 171 n a b)
    (hM : ∀ a b : JV, kd a = 6 → comp a b = true → okV a → okV b → twV a = false → twV b = false → depV a ≤ n + 1 → depV b ≤ n + 1 → (ct a).length ≤ 1000000 → (ct b).length ≤ 1000000 → HC 172 n a b) : AC (n + 1) := by
  intro oa ob p ys lv v1 v2 w B S1 S2 ga gb hnn hl hcn hr h1 h2 htw
  obtain ⟨i0, hi0, hz0, hz1, hz2⟩ := info_parts infoCg
  by_cases hone : oa = none ∨ ob = none
  · have e : chO (n + 1) p oa ob = [p] := by
      rcases hone with rfl | rfl
      · rfl
      · cases oa <;> rfl
    rw [e]
    exact chg_none oa ob p ys lv v1 v2 w B S1 S2 hnn hone hl (by omega) hr h1 h2 htw
  · cases oa with
    | none => exact absurd (.inl rfl) hone
    | some a =>
      cases ob with
      | none => exact absurd (.inr rfl) hone
      | some b =>
        obtain ⟨oka, twa, da, la, lpa⟩ := ga
        obtain ⟨okb, twb, db, lb, lpb⟩ := gb
        simp only [cntO] at hcn
        have h1' : Rep w S1 a v1 := h1
        have h2' : Rep w S2 b v2 := h2
        have hy : ys.length ≤ 1000000 := by omega
        have eR : chO (n + 1) p (some a) (some b) = chF (n + 1) p a b := rfl
        rw [eR]
        clear hone eR
        by_cases hc : comp a b = true
        · rw [chF_comp hc]
          rcases comp_cases0 hc with ⟨l, m, rfl, rfl, hlen⟩ | ⟨l, m, rfl, rfl⟩
          · have HH := hide (hI _ _ rfl hc oka okb twa twb da db la lb)
            obtain ⟨ab, sv, xs, e1, s1, g1, r1, rl1⟩ := (by have := h1'; rwa [Rep] at this : ∃ ab sv xs, v1 = .iface 86 (.pointer (some ⟨ab, 0, none⟩)) ∧ S1 ab ∧ w.heap[ab]? = some (.cells #[sv] 89 (0, 0)) ∧ RowIs w S1 sv xs ∧ RepL w S1 l xs)
            obtain ⟨ab2, sv2, xs2, e2, s2, g2, r2, rl2⟩ := (by have := h2'; rwa [Rep] at this : ∃ ab sv xs, v2 = .iface 86 (.pointer (some ⟨ab, 0, none⟩)) ∧ S2 ab ∧ w.heap[ab]? = some (.cells #[sv] 89 (0, 0)) ∧ RowIs w S2 sv xs ∧ RepL w S2 m xs)
            obtain ⟨x1, _, c1, rfl, _, _⟩ := row_shape r1
            obtain ⟨x2, _, c2, rfl, _, _⟩ := row_shape r2
            have n1 := (repL_at l xs rl1).1
            have n2 := (repL_at m xs2 rl2).1
            subst e1; subst e2
            have a1 := is_arr ⟨ab, 0, none⟩
            have a2 := is_arr ⟨ab2, 0, none⟩
            have hablt : ab < w.heap.size := by have := htw.lt1 _ s1; have := htw.size; omega
            have hablt2 : ab2 < w.heap.size := by have := htw.lt2 _ s2; have := htw.size; omega
            have y1 : (w.alloc (.cells #[.string (strOf p), .iface 86 (.pointer (some ⟨ab, 0, none⟩)), .iface 86 (.pointer (some ⟨ab2, 0, none⟩))] 175)).cell? ⟨ab, 0, none⟩ = some (.slice x1 xs.length c1) := by
              rw [((Below.refl w.heap.size w).alloc (Nat.le_refl _) _).cell (p := ⟨ab, 0, none⟩) hablt, Lib.cell_of_heap g1]; rfl
            have y2 : (w.alloc (.cells #[.string (strOf p), .iface 86 (.pointer (some ⟨ab, 0, none⟩)), .iface 86 (.pointer (some ⟨ab2, 0, none⟩))] 175)).cell? ⟨ab2, 0, none⟩ = some (.slice x2 xs2.length c2) := by
              rw [((Below.refl w.heap.size w).alloc (Nat.le_refl _) _).cell (p := ⟨ab2, 0, none⟩) hablt2, Lib.cell_of_heap g2]; rfl
            have k0 : (w.alloc (.cells #[.string (strOf p), .iface 86 (.pointer (some ⟨ab, 0, none⟩)), .iface 86 (.pointer (some ⟨ab2, 0, none⟩))] 175)).cell? ⟨w.heap.size, 0, none⟩ = some (.string (strOf p)) := lit3 w 175 (.string (strOf p)) (.iface 86 (.pointer (some ⟨ab, 0, none⟩))) (.iface 86 (.pointer (some ⟨ab2, 0, none⟩))) 0 _ rfl
            have k1 : (w.alloc (.cells #[.string (strOf p), .iface 86 (.pointer (some ⟨ab, 0, none⟩)), .iface 86 (.pointer (some ⟨ab2, 0, none⟩))] 175)).cell? ⟨w.heap.size, 1, none⟩ = some (.iface 86 (.pointer (some ⟨ab, 0, none⟩))) := lit3 w 175 (.string (strOf p)) (.iface 86 (.pointer (some ⟨ab, 0, none⟩))) (.iface 86 (.pointer (some ⟨ab2, 0, none⟩))) 1 _ rfl
            have k2 : (w.alloc (.cells #[.string (strOf p), .iface 86 (.pointer (some ⟨ab, 0, none⟩)), .iface 86 (.pointer (some ⟨ab2, 0, none⟩))] 175)).cell? ⟨w.heap.size, 2, none⟩ = some (.iface 86 (.pointer (some ⟨ab2, 0, none⟩))) := lit3 w 175 (.string (strOf p)) (.iface 86 (.pointer (some ⟨ab, 0, none⟩))) (.iface 86 (.pointer (some ⟨ab2, 0, none⟩))) 2 _ rfl
            have bX : Below w.heap.size w (w.alloc (.cells #[.string (strOf p), .iface 86 (.pointer (some ⟨ab, 0, none⟩)), .iface 86 (.pointer (some ⟨ab2, 0, none⟩))] 175)) := (Below.refl _ _).alloc (Nat.le_refl _) _
            have tl : ((xs.length : Int) == (xs2.length : Int)) = true := by rw [beq_iff_eq]; omega
            have HIT : Hid (∀ W : World, Below w.heap.size w W → Calls Tryz.prog 171 #[lv, .string (strOf p), .pointer (some ⟨ab, 0, none⟩), .pointer (some ⟨ab2, 0, none⟩)] W fun e w' => ∃ (r : Value) (zs : List Chg), e = .returned r ∧ CgR w' B r (ys ++ zs) ∧ ZM zs ((keys2 (.arr l) (.arr m)).flatMap (chK n p (.arr l) (.arr m))) ∧ CF B W w') := fun W hW =>
              (unhide HH) p ys lv _ _ _ _ W B S1 S2 lpa lpb (by omega) (own_below hr hW) (Rep.keep (fun k hk => hW.block k (by have := htw.lt1 k hk; have := htw.size; omega)) (fun _ h => h) _ _ h1') (Rep.keep (fun k hk => hW.block k (by have := htw.lt2 k hk; have := htw.size; omega)) (fun _ h => h) _ _ h2') (htw.next (hW.mono htw.size))
            have HB := hide bX
            have hBs := htw.size
            have heqA := eql_run htw.apart (Rep.keep (S' := S1) (fun k hk => bX.block k (by have := htw.lt1 k hk; have := htw.size; omega)) (fun _ h => h) _ _ h1') (Rep.keep (S' := S2) (fun k hk => bX.block k (by have := htw.lt2 k hk; have := htw.size; omega)) (fun _ h => h) _ _ h2')
            rw [show leafEq (.arr l) (.arr m) = false from rfl] at heqA
            clear HH hI hM lpa lpb la lb da db twa twb oka okb hc h1' h2' h1 h2 htw hr r1 r2 rl1 rl2 g1 g2 bX hnn n1 n2 hlen s1 s2
            generalize (keys2 (.arr l) (.arr m)).flatMap (chK n p (.arr l) (.arr m)) = R at *
            go_enter Tryz.func148, Tryz.ntmps148
            go_wp2_with fail
            go_quiet (fail)
            have BX : Hid (Below w.heap.size w ((w.alloc (.cells #[.string (strOf p), .iface 86 (.pointer (some ⟨ab, 0, none⟩)), .iface 86 (.pointer (some ⟨ab2, 0, none⟩))] 175)).drewN nq)) := below_drewN (unhide HB) _
            have HI2 := hide (unhide HIT _ (unhide BX))
            have q0 : ((w.alloc (.cells #[.string (strOf p), .iface 86 (.pointer (some ⟨ab, 0, none⟩)), .iface 86 (.pointer (some ⟨ab2, 0, none⟩))] 175)).drewN nq).cell? ⟨w.heap.size, 0, none⟩ = some (.string (strOf p)) := k0
            clear k0 k1 k2 HB HIT y1 y2
            generalize (w.alloc (.cells #[.string (strOf p), .iface 86 (.pointer (some ⟨ab, 0, none⟩)), .iface 86 (.pointer (some ⟨ab2, 0, none⟩))] 175)).drewN nq = W at *
            go_wp2_with fail
            refine (unhide HI2).mono ?_
            rintro e w3 ⟨r3, zs, rfl, o3, z3, f3⟩
            have O3 := hide o3
            have Z3 := hide z3
            have F3 := hide ((CF.of_below (unhide BX) hBs).trans f3)
            clear HI2 o3 z3 f3
            go_wp2
            go_ret
            exact ⟨_, zs, rfl, unhide O3, unhide Z3, unhide F3⟩
          · have HH := hide (hM _ _ rfl hc oka okb twa twb da db la lb)
            obtain ⟨ob1, mb1, nn1, xs, e1, s1, _⟩ := (by have := h1'; rwa [Rep] at this : ∃ ob b nn xs, v1 = .iface 151 (.pointer (some ⟨ob, 0, none⟩)) ∧ S1 ob ∧ S1 b ∧ w.heap[ob]? = some (.cells #[.map (some b)] 153 (0, 0)) ∧ w.ownsMap Tryz.prog 9 RH b nn (putAll xs) ∧ nn ≤ xs.length ∧ RepM w S1 l xs)
            obtain ⟨ob2, mb2, nn2, xs2, e2, s2, _⟩ := (by have := h2'; rwa [Rep] at this : ∃ ob b nn xs, v2 = .iface 151 (.pointer (some ⟨ob, 0, none⟩)) ∧ S2 ob ∧ S2 b ∧ w.heap[ob]? = some (.cells #[.map (some b)] 153 (0, 0)) ∧ w.ownsMap Tryz.prog 9 RH b nn (putAll xs) ∧ nn ≤ xs.length ∧ RepM w S2 m xs)
            subst e1; subst e2
            have a1 := obj_no_arr ⟨ob1, 0, none⟩
            have a2 := is_obj ⟨ob1, 0, none⟩
            have a3 := is_obj ⟨ob2, 0, none⟩
            have k0 : (w.alloc (.cells #[.string (strOf p), .iface 151 (.pointer (some ⟨ob1, 0, none⟩)), .iface 151 (.pointer (some ⟨ob2, 0, none⟩))] 175)).cell? ⟨w.heap.size, 0, none⟩ = some (.string (strOf p)) := lit3 w 175 (.string (strOf p)) (.iface 151 (.pointer (some ⟨ob1, 0, none⟩))) (.iface 151 (.pointer (some ⟨ob2, 0, none⟩))) 0 _ rfl
            have k1 : (w.alloc (.cells #[.string (strOf p), .iface 151 (.pointer (some ⟨ob1, 0, none⟩)), .iface 151 (.pointer (some ⟨ob2, 0, none⟩))] 175)).cell? ⟨w.heap.size, 1, none⟩ = some (.iface 151 (.pointer (some ⟨ob1, 0, none⟩))) := lit3 w 175 (.string (strOf p)) (.iface 151 (.pointer (some ⟨ob1, 0, none⟩))) (.iface 151 (.pointer (some ⟨ob2, 0, none⟩))) 1 _ rfl
            have k2 : (w.alloc (.cells #[.string (strOf p), .iface 151 (.pointer (some ⟨ob1, 0, none⟩)), .iface 151 (.pointer (some ⟨ob2, 0, none⟩))] 175)).cell? ⟨w.heap.size, 2, none⟩ = some (.iface 151 (.pointer (some ⟨ob2, 0, none⟩))) := lit3 w 175 (.string (strOf p)) (.iface 151 (.pointer (some ⟨ob1, 0, none⟩))) (.iface 151 (.pointer (some ⟨ob2, 0, none⟩))) 2 _ rfl
            have bX : Below w.heap.size w (w.alloc (.cells #[.string (strOf p), .iface 151 (.pointer (some ⟨ob1, 0, none⟩)), .iface 151 (.pointer (some ⟨ob2, 0, none⟩))] 175)) := (Below.refl _ _).alloc (Nat.le_refl _) _
            have HIT : Hid (∀ W : World, Below w.heap.size w W → Calls Tryz.prog 172 #[lv, .string (strOf p), .pointer (some ⟨ob1, 0, none⟩), .pointer (some ⟨ob2, 0, none⟩)] W fun e w' => ∃ (r : Value) (zs : List Chg), e = .returned r ∧ CgR w' B r (ys ++ zs) ∧ ZM zs ((keys2 (.obj l) (.obj m)).flatMap (chK n p (.obj l) (.obj m))) ∧ CF B W w') := fun W hW =>
              (unhide HH) p ys lv _ _ _ _ W B S1 S2 lpa lpb (by omega) (own_below hr hW) (Rep.keep (fun k hk => hW.block k (by have := htw.lt1 k hk; have := htw.size; omega)) (fun _ h => h) _ _ h1') (Rep.keep (fun k hk => hW.block k (by have := htw.lt2 k hk; have := htw.size; omega)) (fun _ h => h) _ _ h2') (htw.next (hW.mono htw.size))
            have HI2 := hide (unhide HIT _ bX)
            have BX := hide bX
            have hBs := htw.size
            have heqA := eql_run htw.apart (Rep.keep (S' := S1) (fun k hk => bX.block k (by have := htw.lt1 k hk; have := htw.size; omega)) (fun _ h => h) _ _ h1') (Rep.keep (S' := S2) (fun k hk => bX.block k (by have := htw.lt2 k hk; have := htw.size; omega)) (fun _ h => h) _ _ h2')
            rw [show leafEq (.obj l) (.obj m) = false from rfl] at heqA
            clear HIT HH hI hM lpa lpb la lb da db twa twb oka okb hc h1' h2' h1 h2 htw hr bX hnn s1 s2
            generalize (keys2 (.obj l) (.obj m)).flatMap (chK n p (.obj l) (.obj m)) = R at *
            go_enter Tryz.func148, Tryz.ntmps148
            go_wp2_with fail
            refine (unhide HI2).mono ?_
            rintro e w3 ⟨r3, zs, rfl, o3, z3, f3⟩
            have O3 := hide o3
            have Z3 := hide z3
            have F3 := hide ((CF.of_below (unhide BX) hBs).trans f3)
            clear HI2 o3 z3 f3
            go_wp2
            go_ret
            exact ⟨_, zs, rfl, unhide O3, unhide Z3, unhide F3⟩
        · have hc' : comp a b = false := by simpa using hc
          by_cases hle : leafEq a b = true
          · have he : eqO (some a) (some b) = true := hle
            have hch : chF (n + 1) p a b = [] := by rw [chF, if_neg hc, if_pos hle]
            have k5 : kd a ≠ 5 := by intro h; cases a <;> simp [kd, leafEq] at h hle
            have k6 : kd a ≠ 6 := by intro h; cases a <;> simp [kd, leafEq] at h hle
            generalize chF (n + 1) p a b = R at *
            clear hI hM lpa lpb la lb da db twa twb oka okb hc hc' hle
            have a1 := asrt_arr h1' k5
            have a2 := asrt_obj h1' k6
            obtain ⟨t1, q1, rfl⟩ := rep_iface h1'
            obtain ⟨t2, q2, rfl⟩ := rep_iface h2'
            have hXs : (w.alloc (.cells #[.string (strOf p), .iface t1 q1, .iface t2 q2] 175)).heap.size = w.heap.size + 1 := by simp
            have k0 : (w.alloc (.cells #[.string (strOf p), .iface t1 q1, .iface t2 q2] 175)).cell? ⟨w.heap.size, 0, none⟩ = some (.string (strOf p)) := lit3 w 175 (.string (strOf p)) (.iface t1 q1) (.iface t2 q2) 0 _ rfl
            have k1 : (w.alloc (.cells #[.string (strOf p), .iface t1 q1, .iface t2 q2] 175)).cell? ⟨w.heap.size, 1, none⟩ = some (.iface t1 q1) := lit3 w 175 (.string (strOf p)) (.iface t1 q1) (.iface t2 q2) 1 _ rfl
            have k2 : (w.alloc (.cells #[.string (strOf p), .iface t1 q1, .iface t2 q2] 175)).cell? ⟨w.heap.size, 2, none⟩ = some (.iface t2 q2) := lit3 w 175 (.string (strOf p)) (.iface t1 q1) (.iface t2 q2) 2 _ rfl
            have own1 : (w.alloc (.cells #[.string (strOf p), .iface t1 q1, .iface t2 q2] 175)).ownsRow B 175 3 lv ys.length (ys.flatMap cgC) := own_below hr ((Below.refl _ _).alloc (Nat.le_refl _) _)
            have FW : Hid (CF B w (w.alloc (.cells #[.string (strOf p), .iface t1 q1, .iface t2 q2] 175))) := CF.of_below ((Below.refl _ _).alloc (Nat.le_refl _) _) htw.size
            have heq0 := eqlO_run htw.apart (h1.keep (w' := w.alloc (.cells #[.string (strOf p), .iface t1 q1, .iface t2 q2] 175)) (S' := S1) (fun k hk => Below.heap_alloc _ _ k (by have := htw.lt1 k hk; have := htw.size; omega)) (fun _ h => h)) (h2.keep (w' := w.alloc (.cells #[.string (strOf p), .iface t1 q1, .iface t2 q2] 175)) (S' := S2) (fun k hk => Below.heap_alloc _ _ k (by have := htw.lt2 k hk; have := htw.size; omega)) (fun _ h => h)) hnn
            have hBs := htw.size
            rw [he] at heq0
            have heq := heq0
            have HCH := hide hch
            have OW := hide own1
            clear heq0 hch hr h1 h2 h1' h2' htw hnn he own1 k5 k6
            go_enter Tryz.func148, Tryz.ntmps148
            go_wp2
            go_ret
            exact ⟨_, [], rfl, by rw [List.append_nil]; exact unhide OW, zm0 (unhide HCH).symm, unhide FW⟩
          · have he : eqO (some a) (some b) = false := by show leafEq a b = false; simpa using hle
            have hch : chF (n + 1) p a b = [p] := by rw [chF, if_neg hc, if_neg hle]
            have ga := hl
            have gb := hl
            generalize chF (n + 1) p a b = R at *
            clear hI hM lpa lpb la lb da db twa twb oka okb hc hle
            by_cases k5 : kd a = 5
            · obtain ⟨l, rfl⟩ : ∃ l, a = .arr l := by cases a <;> first | exact ⟨_, rfl⟩ | (simp [kd] at k5)
              by_cases j5 : kd b = 5
              · obtain ⟨m, rfl⟩ : ∃ m, b = .arr m := by cases b <;> first | exact ⟨_, rfl⟩ | (simp [kd] at j5)
                obtain ⟨ab, sv, xs, e1, s1, g1, r1, rl1⟩ := (by have := h1'; rwa [Rep] at this : ∃ ab sv xs, v1 = .iface 86 (.pointer (some ⟨ab, 0, none⟩)) ∧ S1 ab ∧ w.heap[ab]? = some (.cells #[sv] 89 (0, 0)) ∧ RowIs w S1 sv xs ∧ RepL w S1 l xs)
                obtain ⟨ab2, sv2, xs2, e2, s2, g2, r2, rl2⟩ := (by have := h2'; rwa [Rep] at this : ∃ ab sv xs, v2 = .iface 86 (.pointer (some ⟨ab, 0, none⟩)) ∧ S2 ab ∧ w.heap[ab]? = some (.cells #[sv] 89 (0, 0)) ∧ RowIs w S2 sv xs ∧ RepL w S2 m xs)
                obtain ⟨x1, _, c1, rfl, _, _⟩ := row_shape r1
                obtain ⟨x2, _, c2, rfl, _, _⟩ := row_shape r2
                have n1 := (repL_at l xs rl1).1
                have n2 := (repL_at m xs2 rl2).1
                subst e1; subst e2
                have a1 := is_arr ⟨ab, 0, none⟩
                have a2 := is_arr ⟨ab2, 0, none⟩
                have hablt : ab < w.heap.size := by have := htw.lt1 _ s1; have := htw.size; omega
                have hablt2 : ab2 < w.heap.size := by have := htw.lt2 _ s2; have := htw.size; omega
                have y1 : (w.alloc (.cells #[.string (strOf p), .iface 86 (.pointer (some ⟨ab, 0, none⟩)), .iface 86 (.pointer (some ⟨ab2, 0, none⟩))] 175)).cell? ⟨ab, 0, none⟩ = some (.slice x1 xs.length c1) := by
                  rw [((Below.refl w.heap.size w).alloc (Nat.le_refl _) _).cell (p := ⟨ab, 0, none⟩) hablt, Lib.cell_of_heap g1]; rfl
                have y2 : (w.alloc (.cells #[.string (strOf p), .iface 86 (.pointer (some ⟨ab, 0, none⟩)), .iface 86 (.pointer (some ⟨ab2, 0, none⟩))] 175)).cell? ⟨ab2, 0, none⟩ = some (.slice x2 xs2.length c2) := by
                  rw [((Below.refl w.heap.size w).alloc (Nat.le_refl _) _).cell (p := ⟨ab2, 0, none⟩) hablt2, Lib.cell_of_heap g2]; rfl
                have hll : l.toL.length ≠ m.toL.length := by simpa [comp] using hc'
                have tl : ((xs.length : Int) == (xs2.length : Int)) = false := by rw [beq_eq_false_iff_ne]; omega
                clear r1 r2 rl1 rl2 g1 g2 n1 n2 s1 s2 hc' k5 j5 hll h1' h2' hablt hablt2
                have hXs : (w.alloc (.cells #[.string (strOf p), .iface 86 (.pointer (some ⟨ab, 0, none⟩)), .iface 86 (.pointer (some ⟨ab2, 0, none⟩))] 175)).heap.size = w.heap.size + 1 := by simp
                have k0 : (w.alloc (.cells #[.string (strOf p), .iface 86 (.pointer (some ⟨ab, 0, none⟩)), .iface 86 (.pointer (some ⟨ab2, 0, none⟩))] 175)).cell? ⟨w.heap.size, 0, none⟩ = some (.string (strOf p)) := lit3 w 175 (.string (strOf p)) (.iface 86 (.pointer (some ⟨ab, 0, none⟩))) (.iface 86 (.pointer (some ⟨ab2, 0, none⟩))) 0 _ rfl
                have k1 : (w.alloc (.cells #[.string (strOf p), .iface 86 (.pointer (some ⟨ab, 0, none⟩)), .iface 86 (.pointer (some ⟨ab2, 0, none⟩))] 175)).cell? ⟨w.heap.size, 1, none⟩ = some (.iface 86 (.pointer (some ⟨ab, 0, none⟩))) := lit3 w 175 (.string (strOf p)) (.iface 86 (.pointer (some ⟨ab, 0, none⟩))) (.iface 86 (.pointer (some ⟨ab2, 0, none⟩))) 1 _ rfl
                have k2 : (w.alloc (.cells #[.string (strOf p), .iface 86 (.pointer (some ⟨ab, 0, none⟩)), .iface 86 (.pointer (some ⟨ab2, 0, none⟩))] 175)).cell? ⟨w.heap.size, 2, none⟩ = some (.iface 86 (.pointer (some ⟨ab2, 0, none⟩))) := lit3 w 175 (.string (strOf p)) (.iface 86 (.pointer (some ⟨ab, 0, none⟩))) (.iface 86 (.pointer (some ⟨ab2, 0, none⟩))) 2 _ rfl
                have bX : Below w.heap.size w (w.alloc (.cells #[.string (strOf p), .iface 86 (.pointer (some ⟨ab, 0, none⟩)), .iface 86 (.pointer (some ⟨ab2, 0, none⟩))] 175)) := (Below.refl _ _).alloc (Nat.le_refl _) _
                have HB := hide bX
                have HTW := hide htw
                have HR1 := hide h1
                have HR2 := hide h2
                have HNN := hide hnn
                have HCH := hide hch
                have HE := hide he
                have HR := hide hr
                have hBs := htw.size
                have heqA := eqlO_run htw.apart (h1.keep (S' := S1) (fun k hk => bX.block k (by have := htw.lt1 k hk; have := htw.size; omega)) (fun _ h => h)) (h2.keep (S' := S2) (fun k hk => bX.block k (by have := htw.lt2 k hk; have := htw.size; omega)) (fun _ h => h)) hnn
                rw [he] at heqA
                clear bX hch hr h1 h2 htw hnn ga gb he
                go_enter Tryz.func148, Tryz.ntmps148
                go_wp2_with fail
                go_quiet (fail)
                have BX : Hid (Below w.heap.size w ((w.alloc (.cells #[.string (strOf p), .iface 86 (.pointer (some ⟨ab, 0, none⟩)), .iface 86 (.pointer (some ⟨ab2, 0, none⟩))] 175)).drewN nq)) := below_drewN (unhide HB) _
                have hXW : ((w.alloc (.cells #[.string (strOf p), .iface 86 (.pointer (some ⟨ab, 0, none⟩)), .iface 86 (.pointer (some ⟨ab2, 0, none⟩))] 175)).drewN nq).heap.size = w.heap.size + 1 := hXs
                have q0 : ((w.alloc (.cells #[.string (strOf p), .iface 86 (.pointer (some ⟨ab, 0, none⟩)), .iface 86 (.pointer (some ⟨ab2, 0, none⟩))] 175)).drewN nq).cell? ⟨w.heap.size, 0, none⟩ = some (.string (strOf p)) := k0
                have q1 : ((w.alloc (.cells #[.string (strOf p), .iface 86 (.pointer (some ⟨ab, 0, none⟩)), .iface 86 (.pointer (some ⟨ab2, 0, none⟩))] 175)).drewN nq).cell? ⟨w.heap.size, 1, none⟩ = some (.iface 86 (.pointer (some ⟨ab, 0, none⟩))) := k1
                have q2 : ((w.alloc (.cells #[.string (strOf p), .iface 86 (.pointer (some ⟨ab, 0, none⟩)), .iface 86 (.pointer (some ⟨ab2, 0, none⟩))] 175)).drewN nq).cell? ⟨w.heap.size, 2, none⟩ = some (.iface 86 (.pointer (some ⟨ab2, 0, none⟩))) := k2
                clear k0 k1 k2 HB hXs y1 y2
                generalize (w.alloc (.cells #[.string (strOf p), .iface 86 (.pointer (some ⟨ab, 0, none⟩)), .iface 86 (.pointer (some ⟨ab2, 0, none⟩))] 175)).drewN nq = W at *
                have q3 : ∀ j u, [Value.string (strOf p), .iface 86 (.pointer (some ⟨ab, 0, none⟩)), .iface 86 (.pointer (some ⟨ab2, 0, none⟩))][j]? = some u → W.cell? ⟨w.heap.size, j, none⟩ = some u := fun j u h => by
                  match j with
                  | 0 => simp at h; subst h; exact q0
                  | 1 => simp at h; subst h; exact q1
                  | 2 => simp at h; subst h; exact q2
                  | j + 3 => simp at h
                have hWB : B ≤ W.heap.size := by omega
                have heq := eqlO_run (unhide HTW).apart ((unhide HR1).keep (w' := W) (S' := S1) (fun k hk => (unhide BX).block k (by have := (unhide HTW).lt1 k hk; omega)) (fun _ h => h)) ((unhide HR2).keep (w' := W) (S' := S2) (fun k hk => (unhide BX).block k (by have := (unhide HTW).lt2 k hk; omega)) (fun _ h => h)) (unhide HNN)
                rw [unhide HE] at heq
                have own1 : W.ownsRow B 175 3 lv ys.length (ys.flatMap cgC) := own_below (unhide HR) (unhide BX)
                have FW : Hid (CF B w W) := CF.of_below (unhide BX) hBs
                clear HTW HR1 HR2 HNN HE HR BX q3 hXW
                go_wp2_with (at_builtin; refine wpList_append_own _ rfl (.tmp 64) (.tmp 66) 108 rfl B 175 i0 (.agg #[.string ByteArray.empty, .nilIface, .nilIface]) 3 48 Tryz.underlying108 hi0 hz0 hz1 hz2 rfl (by decide) _ _ _ rfl (own1.alloc _) ⟨W.heap.size, 0, none⟩ 1 1 [.string (strOf p), .iface 86 (.pointer (some ⟨ab, 0, none⟩)), .iface 86 (.pointer (some ⟨ab2, 0, none⟩))] rfl rfl (lit3 _ _ _ _ _) (by intro u hu; simp at hu; rcases hu with rfl | rfl | rfl <;> rfl) (by unfold maxLen; omega) (by omega) (by simp; omega) ?_)
                intro v3 w3 own3 hg3 _
                have R3 : Hid (CgR w3 B v3 (ys ++ [(p, .iface 86 (.pointer (some ⟨ab, 0, none⟩)), .iface 86 (.pointer (some ⟨ab2, 0, none⟩)))])) := CgR.step own3
                have F3 : Hid (CF B w w3) := ((unhide FW).trans (CF.of_below ((Below.refl _ _).alloc (Nat.le_refl _) _) hWB)).trans (CF.grown (own1.alloc _) hg3 (by simp; omega))
                clear own3 hg3 own1 FW
                go_wp2
                go_ret
                exact ⟨_, [(p, .iface 86 (.pointer (some ⟨ab, 0, none⟩)), .iface 86 (.pointer (some ⟨ab2, 0, none⟩)))], rfl, unhide R3, zm1 (unhide HCH).symm (by first | exact .inl rfl | exact .inr ⟨_, _, rfl⟩) (by first | exact .inl rfl | exact .inr ⟨_, _, rfl⟩), unhide F3⟩
              · obtain ⟨ab, sv, xs, e1, _⟩ := (by have := h1'; rwa [Rep] at this : ∃ ab sv xs, v1 = .iface 86 (.pointer (some ⟨ab, 0, none⟩)) ∧ S1 ab ∧ w.heap[ab]? = some (.cells #[sv] 89 (0, 0)) ∧ RowIs w S1 sv xs ∧ RepL w S1 l xs)
                subst e1
                have a1 := is_arr ⟨ab, 0, none⟩
                have a2 := asrt_arr h2' j5
                obtain ⟨t2, p2, rfl⟩ := rep_iface h2'
                clear k5 j5 hc' h1' h2'
                have hXs : (w.alloc (.cells #[.string (strOf p), .iface 86 (.pointer (some ⟨ab, 0, none⟩)), .iface t2 p2] 175)).heap.size = w.heap.size + 1 := by simp
                have k0 : (w.alloc (.cells #[.string (strOf p), .iface 86 (.pointer (some ⟨ab, 0, none⟩)), .iface t2 p2] 175)).cell? ⟨w.heap.size, 0, none⟩ = some (.string (strOf p)) := lit3 w 175 (.string (strOf p)) (.iface 86 (.pointer (some ⟨ab, 0, none⟩))) (.iface t2 p2) 0 _ rfl
                have k1 : (w.alloc (.cells #[.string (strOf p), .iface 86 (.pointer (some ⟨ab, 0, none⟩)), .iface t2 p2] 175)).cell? ⟨w.heap.size, 1, none⟩ = some (.iface 86 (.pointer (some ⟨ab, 0, none⟩))) := lit3 w 175 (.string (strOf p)) (.iface 86 (.pointer (some ⟨ab, 0, none⟩))) (.iface t2 p2) 1 _ rfl
                have k2 : (w.alloc (.cells #[.string (strOf p), .iface 86 (.pointer (some ⟨ab, 0, none⟩)), .iface t2 p2] 175)).cell? ⟨w.heap.size, 2, none⟩ = some (.iface t2 p2) := lit3 w 175 (.string (strOf p)) (.iface 86 (.pointer (some ⟨ab, 0, none⟩))) (.iface t2 p2) 2 _ rfl
                have bX : Below w.heap.size w (w.alloc (.cells #[.string (strOf p), .iface 86 (.pointer (some ⟨ab, 0, none⟩)), .iface t2 p2] 175)) := (Below.refl _ _).alloc (Nat.le_refl _) _
                have HB := hide bX
                have HTW := hide htw
                have HR1 := hide h1
                have HR2 := hide h2
                have HNN := hide hnn
                have HCH := hide hch
                have HE := hide he
                have HR := hide hr
                have hBs := htw.size
                have heqA := eqlO_run htw.apart (h1.keep (S' := S1) (fun k hk => bX.block k (by have := htw.lt1 k hk; have := htw.size; omega)) (fun _ h => h)) (h2.keep (S' := S2) (fun k hk => bX.block k (by have := htw.lt2 k hk; have := htw.size; omega)) (fun _ h => h)) hnn
                rw [he] at heqA
                clear bX hch hr h1 h2 htw hnn ga gb he
                go_enter Tryz.func148, Tryz.ntmps148
                go_wp2_with fail
                go_quiet (fail)
                have BX : Hid (Below w.heap.size w ((w.alloc (.cells #[.string (strOf p), .iface 86 (.pointer (some ⟨ab, 0, none⟩)), .iface t2 p2] 175)).drewN nq)) := below_drewN (unhide HB) _
                have hXW : ((w.alloc (.cells #[.string (strOf p), .iface 86 (.pointer (some ⟨ab, 0, none⟩)), .iface t2 p2] 175)).drewN nq).heap.size = w.heap.size + 1 := hXs
                have q0 : ((w.alloc (.cells #[.string (strOf p), .iface 86 (.pointer (some ⟨ab, 0, none⟩)), .iface t2 p2] 175)).drewN nq).cell? ⟨w.heap.size, 0, none⟩ = some (.string (strOf p)) := k0
                have q1 : ((w.alloc (.cells #[.string (strOf p), .iface 86 (.pointer (some ⟨ab, 0, none⟩)), .iface t2 p2] 175)).drewN nq).cell? ⟨w.heap.size, 1, none⟩ = some (.iface 86 (.pointer (some ⟨ab, 0, none⟩))) := k1
                have q2 : ((w.alloc (.cells #[.string (strOf p), .iface 86 (.pointer (some ⟨ab, 0, none⟩)), .iface t2 p2] 175)).drewN nq).cell? ⟨w.heap.size, 2, none⟩ = some (.iface t2 p2) := k2
                clear k0 k1 k2 HB hXs
                generalize (w.alloc (.cells #[.string (strOf p), .iface 86 (.pointer (some ⟨ab, 0, none⟩)), .iface t2 p2] 175)).drewN nq = W at *
                have q3 : ∀ j u, [Value.string (strOf p), .iface 86 (.pointer (some ⟨ab, 0, none⟩)), .iface t2 p2][j]? = some u → W.cell? ⟨w.heap.size, j, none⟩ = some u := fun j u h => by
                  match j with
                  | 0 => simp at h; subst h; exact q0
                  | 1 => simp at h; subst h; exact q1
                  | 2 => simp at h; subst h; exact q2
                  | j + 3 => simp at h
                have hWB : B ≤ W.heap.size := by omega
                have heq := eqlO_run (unhide HTW).apart ((unhide HR1).keep (w' := W) (S' := S1) (fun k hk => (unhide BX).block k (by have := (unhide HTW).lt1 k hk; omega)) (fun _ h => h)) ((unhide HR2).keep (w' := W) (S' := S2) (fun k hk => (unhide BX).block k (by have := (unhide HTW).lt2 k hk; omega)) (fun _ h => h)) (unhide HNN)
                rw [unhide HE] at heq
                have own1 : W.ownsRow B 175 3 lv ys.length (ys.flatMap cgC) := own_below (unhide HR) (unhide BX)
                have FW : Hid (CF B w W) := CF.of_below (unhide BX) hBs
                clear HTW HR1 HR2 HNN HE HR BX q3 hXW
                go_wp2_with (at_builtin; refine wpList_append_own _ rfl (.tmp 64) (.tmp 66) 108 rfl B 175 i0 (.agg #[.string ByteArray.empty, .nilIface, .nilIface]) 3 48 Tryz.underlying108 hi0 hz0 hz1 hz2 rfl (by decide) _ _ _ rfl (own1.alloc _) ⟨W.heap.size, 0, none⟩ 1 1 [.string (strOf p), .iface 86 (.pointer (some ⟨ab, 0, none⟩)), .iface t2 p2] rfl rfl (lit3 _ _ _ _ _) (by intro u hu; simp at hu; rcases hu with rfl | rfl | rfl <;> rfl) (by unfold maxLen; omega) (by omega) (by simp; omega) ?_)
                intro v3 w3 own3 hg3 _
                have R3 : Hid (CgR w3 B v3 (ys ++ [(p, .iface 86 (.pointer (some ⟨ab, 0, none⟩)), .iface t2 p2)])) := CgR.step own3
                have F3 : Hid (CF B w w3) := ((unhide FW).trans (CF.of_below ((Below.refl _ _).alloc (Nat.le_refl _) _) hWB)).trans (CF.grown (own1.alloc _) hg3 (by simp; omega))
                clear own3 hg3 own1 FW
                go_wp2
                go_ret
                exact ⟨_, [(p, .iface 86 (.pointer (some ⟨ab, 0, none⟩)), .iface t2 p2)], rfl, unhide R3, zm1 (unhide HCH).symm (by first | exact .inl rfl | exact .inr ⟨_, _, rfl⟩) (by first | exact .inl rfl | exact .inr ⟨_, _, rfl⟩), unhide F3⟩
            · by_cases k6 : kd a = 6
              · obtain ⟨l, rfl⟩ : ∃ m, a = .obj m := by cases a <;> first | exact ⟨_, rfl⟩ | (simp [kd] at k6)
                have j6 : kd b ≠ 6 := by intro h; cases b <;> simp [kd, comp] at h hc'
                obtain ⟨ob1, mb1, nn1, xs, e1, s1, _⟩ := (by have := h1'; rwa [Rep] at this : ∃ ob b nn xs, v1 = .iface 151 (.pointer (some ⟨ob, 0, none⟩)) ∧ S1 ob ∧ S1 b ∧ w.heap[ob]? = some (.cells #[.map (some b)] 153 (0, 0)) ∧ w.ownsMap Tryz.prog 9 RH b nn (putAll xs) ∧ nn ≤ xs.length ∧ RepM w S1 l xs)
                subst e1
                have a1 := obj_no_arr ⟨ob1, 0, none⟩
                have a2 := is_obj ⟨ob1, 0, none⟩
                have a3 := asrt_obj h2' j6
                obtain ⟨t2, p2, rfl⟩ := rep_iface h2'
                clear k5 k6 j6 hc' h1' h2' s1
                have hXs : (w.alloc (.cells #[.string (strOf p), .iface 151 (.pointer (some ⟨ob1, 0, none⟩)), .iface t2 p2] 175)).heap.size = w.heap.size + 1 := by simp
                have k0 : (w.alloc (.cells #[.string (strOf p), .iface 151 (.pointer (some ⟨ob1, 0, none⟩)), .iface t2 p2] 175)).cell? ⟨w.heap.size, 0, none⟩ = some (.string (strOf p)) := lit3 w 175 (.string (strOf p)) (.iface 151 (.pointer (some ⟨ob1, 0, none⟩))) (.iface t2 p2) 0 _ rfl
                have k1 : (w.alloc (.cells #[.string (strOf p), .iface 151 (.pointer (some ⟨ob1, 0, none⟩)), .iface t2 p2] 175)).cell? ⟨w.heap.size, 1, none⟩ = some (.iface 151 (.pointer (some ⟨ob1, 0, none⟩))) := lit3 w 175 (.string (strOf p)) (.iface 151 (.pointer (some ⟨ob1, 0, none⟩))) (.iface t2 p2) 1 _ rfl
                have k2 : (w.alloc (.cells #[.string (strOf p), .iface 151 (.pointer (some ⟨ob1, 0, none⟩)), .iface t2 p2] 175)).cell? ⟨w.heap.size, 2, none⟩ = some (.iface t2 p2) := lit3 w 175 (.string (strOf p)) (.iface 151 (.pointer (some ⟨ob1, 0, none⟩))) (.iface t2 p2) 2 _ rfl
                have own1 : (w.alloc (.cells #[.string (strOf p), .iface 151 (.pointer (some ⟨ob1, 0, none⟩)), .iface t2 p2] 175)).ownsRow B 175 3 lv ys.length (ys.flatMap cgC) := own_below hr ((Below.refl _ _).alloc (Nat.le_refl _) _)
                have FW : Hid (CF B w (w.alloc (.cells #[.string (strOf p), .iface 151 (.pointer (some ⟨ob1, 0, none⟩)), .iface t2 p2] 175))) := CF.of_below ((Below.refl _ _).alloc (Nat.le_refl _) _) htw.size
                have heq0 := eqlO_run htw.apart (h1.keep (w' := w.alloc (.cells #[.string (strOf p), .iface 151 (.pointer (some ⟨ob1, 0, none⟩)), .iface t2 p2] 175)) (S' := S1) (fun k hk => Below.heap_alloc _ _ k (by have := htw.lt1 k hk; have := htw.size; omega)) (fun _ h => h)) (h2.keep (w' := w.alloc (.cells #[.string (strOf p), .iface 151 (.pointer (some ⟨ob1, 0, none⟩)), .iface t2 p2] 175)) (S' := S2) (fun k hk => Below.heap_alloc _ _ k (by have := htw.lt2 k hk; have := htw.size; omega)) (fun _ h => h)) hnn
                have hBs := htw.size
                rw [he] at heq0
                have heq := heq0
                clear heq0
                have HCH := hide hch
                clear hch hr h1 h2 htw hnn ga gb he
                go_enter Tryz.func148, Tryz.ntmps148
                have hWB : B ≤ (w.alloc (.cells #[.string (strOf p), .iface 151 (.pointer (some ⟨ob1, 0, none⟩)), .iface t2 p2] 175)).heap.size := by omega
                go_wp2_with (at_builtin; refine wpList_append_own _ rfl (.tmp 64) (.tmp 66) 108 rfl B 175 i0 (.agg #[.string ByteArray.empty, .nilIface, .nilIface]) 3 48 Tryz.underlying108 hi0 hz0 hz1 hz2 rfl (by decide) _ _ _ rfl (own1.alloc _) ⟨w.heap.size + 1, 0, none⟩ 1 1 [.string (strOf p), .iface 151 (.pointer (some ⟨ob1, 0, none⟩)), .iface t2 p2] rfl rfl (lit3B _ _ _ _ _ _) (by intro u hu; simp at hu; rcases hu with rfl | rfl | rfl <;> rfl) (by unfold maxLen; omega) (by omega) (by simp; omega) ?_)
                intro v3 w3 own3 hg3 _
                have R3 : Hid (CgR w3 B v3 (ys ++ [(p, .iface 151 (.pointer (some ⟨ob1, 0, none⟩)), .iface t2 p2)])) := CgR.step own3
                have F3 : Hid (CF B w w3) := ((unhide FW).trans (CF.of_below ((Below.refl _ _).alloc (Nat.le_refl _) _) hWB)).trans (CF.grown (own1.alloc _) hg3 (by simp; omega))
                clear own3 hg3 own1 FW
                go_wp2
                go_ret
                exact ⟨_, [(p, .iface 151 (.pointer (some ⟨ob1, 0, none⟩)), .iface t2 p2)], rfl, unhide R3, zm1 (unhide HCH).symm (by first | exact .inl rfl | exact .inr ⟨_, _, rfl⟩) (by first | exact .inl rfl | exact .inr ⟨_, _, rfl⟩), unhide F3⟩
              · have a1 := asrt_arr h1' k5
                have a2 := asrt_obj h1' k6
                obtain ⟨t1, p1, rfl⟩ := rep_iface h1'
                obtain ⟨t2, p2, rfl⟩ := rep_iface h2'
                clear k5 k6 hc' h1' h2'
                have hXs : (w.alloc (.cells #[.string (strOf p), .iface t1 p1, .iface t2 p2] 175)).heap.size = w.heap.size + 1 := by simp
                have k0 : (w.alloc (.cells #[.string (strOf p), .iface t1 p1, .iface t2 p2] 175)).cell? ⟨w.heap.size, 0, none⟩ = some (.string (strOf p)) := lit3 w 175 (.string (strOf p)) (.iface t1 p1) (.iface t2 p2) 0 _ rfl
                have k1 : (w.alloc (.cells #[.string (strOf p), .iface t1 p1, .iface t2 p2] 175)).cell? ⟨w.heap.size, 1, none⟩ = some (.iface t1 p1) := lit3 w 175 (.string (strOf p)) (.iface t1 p1) (.iface t2 p2) 1 _ rfl
                have k2 : (w.alloc (.cells #[.string (strOf p), .iface t1 p1, .iface t2 p2] 175)).cell? ⟨w.heap.size, 2, none⟩ = some (.iface t2 p2) := lit3 w 175 (.string (strOf p)) (.iface t1 p1) (.iface t2 p2) 2 _ rfl
                have own1 : (w.alloc (.cells #[.string (strOf p), .iface t1 p1, .iface t2 p2] 175)).ownsRow B 175 3 lv ys.length (ys.flatMap cgC) := own_below hr ((Below.refl _ _).alloc (Nat.le_refl _) _)
                have FW : Hid (CF B w (w.alloc (.cells #[.string (strOf p), .iface t1 p1, .iface t2 p2] 175))) := CF.of_below ((Below.refl _ _).alloc (Nat.le_refl _) _) htw.size
                have heq0 := eqlO_run htw.apart (h1.keep (w' := w.alloc (.cells #[.string (strOf p), .iface t1 p1, .iface t2 p2] 175)) (S' := S1) (fun k hk => Below.heap_alloc _ _ k (by have := htw.lt1 k hk; have := htw.size; omega)) (fun _ h => h)) (h2.keep (w' := w.alloc (.cells #[.string (strOf p), .iface t1 p1, .iface t2 p2] 175)) (S' := S2) (fun k hk => Below.heap_alloc _ _ k (by have := htw.lt2 k hk; have := htw.size; omega)) (fun _ h => h)) hnn
                have hBs := htw.size
                rw [he] at heq0
                have heq := heq0
                clear heq0
                have HCH := hide hch
                clear hch hr h1 h2 htw hnn ga gb he
                go_enter Tryz.func148, Tryz.ntmps148
                have hWB : B ≤ (w.alloc (.cells #[.string (strOf p), .iface t1 p1, .iface t2 p2] 175)).heap.size := by omega
                go_wp2_with (at_builtin; refine wpList_append_own _ rfl (.tmp 64) (.tmp 66) 108 rfl B 175 i0 (.agg #[.string ByteArray.empty, .nilIface, .nilIface]) 3 48 Tryz.underlying108 hi0 hz0 hz1 hz2 rfl (by decide) _ _ _ rfl (own1.alloc _) ⟨w.heap.size + 1, 0, none⟩ 1 1 [.string (strOf p), .iface t1 p1, .iface t2 p2] rfl rfl (lit3B _ _ _ _ _ _) (by intro u hu; simp at hu; rcases hu with rfl | rfl | rfl <;> rfl) (by unfold maxLen; omega) (by omega) (by simp; omega) ?_)
                intro v3 w3 own3 hg3 _
                have R3 : Hid (CgR w3 B v3 (ys ++ [(p, .iface t1 p1, .iface t2 p2)])) := CgR.step own3
                have F3 : Hid (CF B w w3) := ((unhide FW).trans (CF.of_below ((Below.refl _ _).alloc (Nat.le_refl _) _) hWB)).trans (CF.grown (own1.alloc _) hg3 (by simp; omega))
                clear own3 hg3 own1 FW
                go_wp2
                go_ret
                exact ⟨_, [(p, .iface t1 p1, .iface t2 p2)], rfl, unhide R3, zm1 (unhide HCH).symm (by first | exact .inl rfl | exact .inr ⟨_, _, rfl⟩) (by first | exact .inl rfl | exact .inr ⟨_, _, rfl⟩), unhide F3⟩
end Go.Proofs.YtcjajchfjoffnaaGreatDoor

namespace Go.Proofs.YtcjajchfjoffnaaGreatDoor
open Go.RowKit Go.Sort

set_option maxRecDepth 100000 in
theorem map_none {w : World} {b n : Nat} {xs : List (List UInt8 × Value)} (h : w.ownsMap Tryz.prog 9 RH b n (putAll xs)) (key : List UInt8) (hk : key.length ≤ 10000000) (hv : lastV xs key = none) :
    (Instr.lookup 150 (.map (some b)) (.string (strOf key)) false).run Tryz.prog w = .ok .nilIface w := by
  obtain ⟨es, clock, hb, F, _, hD⟩ := h
  have hkey : keyOf Tryz.prog 9 (.string (strOf key)) = some (.string key) := by
    have := WideMaps.keyOf_string_mk Tryz.underlying9 (s := strOf key) (by rw [strOf_size]; unfold maxLen; omega)
    rwa [strOf_toList] at this
  have hz : (zeroValue 92).run Tryz.prog w = .ok .nilIface w := by kernel_rfl
  have hat := fun z => putAll_at key z xs
  rw [hD] at hat
  rcases Maps.fit_look false (Maps.string_keyed Tryz.underlying9) Tryz.underlying150 hz hb F hkey with ⟨hrun, _, h2⟩ | ⟨e0, y, _, _, hrun, hR, h2, _⟩
  · exact hrun
  · injection hR with hR
    subst hR
    have e1 := (h2 (.held .nilIface)).symm.trans (hat (.held .nilIface))
    have e2 := (h2 (.held (.bool true))).symm.trans (hat (.held (.bool true)))
    rw [hv] at e1 e2
    exact absurd (e1.symm.trans e2) (by intro e; injection e with e; cases e)
/-- An object in memory: its keys in order, and its members. -/
theorem obj_at {w : World} {S : Nat → Prop} {B : Nat} {l : JM} {t : TypeId} {ad : Addr} (h : Rep w S (.obj l) (.iface t (.pointer (some ad)))) (htw : twV (.obj l) = false) (hl : (ct (.obj l)).length ≤ 1000000) (hS : ∀ k, S k → k < B) :
    ∃ ob mb, ad = ⟨ob, 0, none⟩ ∧ (∀ X : World, Below B w X → X.cell? ⟨ob, 0, none⟩ = some (.map (some mb))) ∧
      (∀ X : World, Below B w X → Calls Tryz.prog 203 #[.pointer (some ⟨ob, 0, none⟩)] X fun e w' => ∃ v, e = .returned v ∧ OT w' X.heap.size v ((kidsV (.obj l)).map (·.1)) ∧ Below X.heap.size X w') ∧
      (∀ key : List UInt8, key.length ≤ 1000000 → ∃ v, (∀ X : World, Below B w X → (Instr.lookup 150 (.map (some mb)) (.string (strOf key)) false).run Tryz.prog X = .ok v X) ∧ RepO w S (findK (kidsV (.obj l)) key) v) := by
  rw [Rep] at h
  obtain ⟨ob, mb, nn, xs, h, hSob, hSmb, hob, hown, _, hrm⟩ := h
  injection h with _ h
  injection h with h
  injection h with h
  obtain ⟨hkeys, hrep⟩ := repM_at l xs hrm
  rw [twV] at htw
  have hnd := (twM_nodup l [] htw).1
  have hnd' : (xs.map (·.1)).Nodup := by rw [hkeys]; exact hnd
  have hperm := keys_perm hown hnd'
  have hmx : l.toL.length = xs.length := by
    have a1 := congrArg List.length hkeys
    rw [keysM_map] at a1
    simp only [List.length_map] at a1
    omega
  have hpl : (isortJ l.toL).length = xs.length := by rw [(isortJ_perm _).length_eq, hmx]
  have hxn : xs.length ≤ 1000000 := by
    have h1 := ctObj_len l
    unfold hold at h1
    have h2 : l.toL.length ≤ (l.toL.map memN).sum := by
      have : ∀ l : List (List UInt8 × JV), l.length ≤ (l.map memN).sum := by
        intro l
        induction l with
        | nil => simp
        | cons q r ih => have h3 : 1 ≤ memN q := (by unfold memN; omega); rw [List.map_cons, List.sum_cons, List.length_cons]; omega
      exact this _
    omega
  have hc0 : w.cell? ⟨ob, 0, none⟩ = some (.map (some mb)) := by rw [Lib.cell_of_heap hob]; rfl
  have hsz : Maps.size (putAll xs) = xs.length := by rw [size_keys hperm, List.length_map]
  have C0 : ∀ X : World, Below B w X → X.cell? ⟨ob, 0, none⟩ = some (.map (some mb)) := fun X hX => (hX.cell (p := ⟨ob, 0, none⟩) (hS _ hSob)).trans hc0
  refine ⟨ob, mb, h, C0, fun X hX => ?_, fun key hkl => ?_⟩
  · refine (sortedKeys_walk ob mb nn (putAll xs) RH X (C0 X hX) (ownsMap_keep hown (hX.block mb (hS _ hSmb))) (by rw [hsz]; unfold maxLen; omega) (by rw [hsz]; omega)).mono ?_
    rintro e w' ⟨v, ss, rfl, hss, hrow, _, hb⟩
    have hks : ss.Perm ((ctM l).map (·.1)) := by
      rw [ctM_keys, ← hkeys]; exact hss.trans hperm.symm
    have hl2 : ss.length = xs.length := by rw [hks.length_eq, ctM_keys, ← hkeys, List.length_map]
    rw [isort_keys hks, hl2, keysJ] at hrow
    refine ⟨v, rfl, ?_, hb⟩
    show w'.ownsRow _ _ 1 v ((isortJ l.toL).map (·.1)).length (((isortJ l.toL).map (·.1)).map tokCell)
    rw [List.length_map, hpl]
    exact hrow
  · have hhas := lastV_has key xs
    have hkk : (kidsV (.obj l)).map (·.1) = (isortJ l.toL).map (·.1) := rfl
    cases hf : findK (kidsV (.obj l)) key with
    | none =>
      have hno : lastV xs key = none := by
        rw [findK_none, hkk] at hf
        have : (lastV xs key).isSome = false := by
          rw [hhas, List.contains_eq_mem, decide_eq_false_iff_not, hkeys, keysM_map]
          intro hm
          obtain ⟨q, hq, e⟩ := List.mem_map.1 hm
          exact hf (List.mem_map.2 ⟨q, (isortJ_perm _).symm.subset hq, e⟩)
        simpa using this
      exact ⟨.nilIface, fun X hX => map_none (ownsMap_keep hown (hX.block mb (hS _ hSmb))) key (by omega) hno, rfl⟩
    | some u =>
      have hmem : (key, u) ∈ l.toL := (isortJ_perm _).subset (findK_mem hf)
      obtain ⟨x, hx, hr⟩ := hrep key u hmem
      have hlast := lastV_of xs hnd' hx
      exact ⟨x, fun X hX => map_get (ownsMap_keep hown (hX.block mb (hS _ hSmb))) key (by omega) _ hlast, hr⟩
end Go.Proofs.YtcjajchfjoffnaaGreatDoor

namespace Go.Proofs.YtcjajchfjoffnaaGreatDoor
open Go.RowKit

/-- A row of changes that is read: its cells. -/
theorem CgR.form {w : World} {B : Nat} {v : Value} {ys : List Chg} (h : CgR w B v ys) : ∃ a cap, v = .slice a ys.length cap ∧ (∀ (j : Nat) (hj : j < ys.length), ∃ g, a = some ⟨g, 0, none⟩ ∧ g < w.heap.size ∧ ∀ X : World, X.heap[g]? = w.heap[g]? → X.cell? ⟨g, j * 3, none⟩ = some (.string (strOf ys[j].1)) ∧ X.cell? ⟨g, j * 3 + 1, none⟩ = some ys[j].2.1 ∧ X.cell? ⟨g, j * 3 + 2, none⟩ = some ys[j].2.2) := by
  rcases h.2 with ⟨hv, h0⟩ | ⟨g, cap, cur, hv, hB, hg, h1, h2, h3, h4⟩
  · exact ⟨none, 0, by rw [hv, h0], fun j hj => by omega⟩
  · refine ⟨some ⟨g, 0, none⟩, cap, hv, fun j hj => ⟨g, rfl, (Array.getElem?_eq_some_iff.1 hg).1, fun X hX => ?_⟩⟩
    have hX' : X.ownsRow B 175 3 (.slice (some ⟨g, 0, none⟩) ys.length cap) ys.length (ys.flatMap cgC) := ⟨h.1, .inr ⟨g, cap, cur, rfl, hB, hX.trans hg, h1, h2, h3, h4⟩⟩
    have hlen : ∀ (l : List Chg), (l.flatMap cgC).length = l.length * 3 := by
      intro l
      induction l with
      | nil => rfl
      | cons y r ih => rw [List.flatMap_cons, List.length_append, ih, List.length_cons]; simp [cgC]; omega
    have hat : ∀ (l : List Chg) (j : Nat) (hj : j < l.length) (i : Nat) (u : Value), (cgC l[j])[i]? = some u → (l.flatMap cgC)[j * 3 + i]? = some u := by
      intro l
      induction l with
      | nil => intro j hj; simp at hj
      | cons y r ih =>
        intro j hj i u hu
        have h3 : (cgC y).length = 3 := rfl
        cases j with
        | zero =>
          rw [List.flatMap_cons, Nat.zero_mul, Nat.zero_add, List.getElem?_append_left (by rw [h3]; exact (by have := (List.getElem?_eq_some_iff.1 hu).1; simpa [cgC] using this))]
          exact hu
        | succ j =>
          rw [List.flatMap_cons, List.getElem?_append_right (by rw [h3]; omega), h3, show (j + 1) * 3 + i - 3 = j * 3 + i by omega]
          exact ih j (by simpa using hj) i u hu
    have hc : ∀ i u, (ys.flatMap cgC)[i]? = some u → X.cell? ⟨g, i, none⟩ = some u := fun i u hu => by
      have h9 := World.ownsRow.cells hX' rfl i u hu
      rwa [show ((⟨(⟨g, 0, none⟩ : Addr).block, 0, none⟩ : Addr).add i) = ⟨g, i, none⟩ by simp [Addr.add]; omega] at h9
    exact ⟨hc _ _ (hat ys j hj 0 _ rfl), hc _ _ (hat ys j hj 1 _ rfl), hc _ _ (hat ys j hj 2 _ rfl)⟩
set_option maxRecDepth 100000 in
set_option maxHeartbeats 2000000 in
theorem ptrsOf_walk {B : Nat} (v : Value) (ys : List Chg) (w : World) (h : CgR w B v ys) (hl : ys.length ≤ 1000000) (hf : ∀ y ∈ ys, FO y.2.1 ∧ FO y.2.2) :
    Calls Tryz.prog 67 #[v] w fun e w' => ∃ r, e = .returned r ∧ OT w' w.heap.size r (ys.map (·.1)) ∧ Below w.heap.size w w' := by
  obtain ⟨i0, hi, hz0, hz1, hz2⟩ := info_parts infoString
  obtain ⟨a, cap, rfl, hc⟩ := h.form
  have HC := hide hc
  have HFO := hide hf
  clear h hc hf
  go_enter Tryz.func67, Tryz.ntmps67
  go_wp2_with (at_make; refine wpList_make_own _ rfl _ _ 45 rfl w.heap.size 9 i0 (.string ByteArray.empty) 1 Tryz.underlying45 hi hz0 hz1 .i64 .i64 _ ys.length rfl rfl rfl (by rw [hz2]; omega) (by unfold maxLen; omega) (Nat.le_refl _) ?_)
  intro w1 hown1 hgrow1
  have HB1 : Hid (Below w.heap.size w w1) := (Below.refl _ _).grown hgrow1 (Nat.le_refl _) (by intro k hk; cases hk)
  have HO1 : Hid (OT w1 w.heap.size _ []) := hown1
  clear hown1 hgrow1
  go_wp2
  go_loopw [3, 11] (fun lv i wr => ∃ k : Nat, k ≤ ys.length ∧ i = .int .i64 k ∧ OT wr w.heap.size lv ((ys.take k).map (·.1)) ∧ Below w.heap.size w wr) (fun _ i _ => ys.length - (intOf i).toNat)
  case atStart => exact ⟨0, Nat.zero_le _, rfl, unhide HO1, unhide HB1⟩
  case round =>
    obtain ⟨k, hk, rfl, ho, hb⟩ := hrel
    clear HO1 HB1
    by_cases hlt : k < ys.length
    · have hltI : (k : Int) < (ys.length : Int) := by omega
      obtain ⟨g, rfl, hg, hcc⟩ := unhide HC k hlt
      obtain ⟨c0, c1, c2⟩ := hcc wr (hb.block g hg)
      obtain ⟨f1, f2⟩ := unhide HFO ys[k] (List.getElem_mem hlt)
      have HST : Hid ((ys.take (k + 1)).map (·.1) = (ys.take k).map (·.1) ++ [ys[k].1]) := by
        show _ = _
        rw [List.take_succ_eq_append_getElem hlt, List.map_append]; rfl
      have hal : ((ys.take k).map (·.1)).length ≤ 1000000 := by rw [List.length_map, List.length_take]; omega
      have HO := hide ho
      have HB := hide hb
      have hbz := hb.size
      clear hcc ho hb
      generalize (ys.take k).map (·.1) = A at *
      generalize ys[k] = y at *
      obtain ⟨x, v1, v2⟩ := y
      simp only at c0 c1 c2 f1 f2
      rcases f1 with rfl | ⟨t1, q1, rfl⟩
      · rcases f2 with rfl | ⟨t2, q2, rfl⟩
        · have hA := alloc_below wr (.cells #[.string (strOf x), .nilIface, .nilIface] 175)
          have hC := alloc_below (wr.alloc (.cells #[.string (strOf x), .nilIface, .nilIface] 175)) (.cells #[.string (strOf x)] 9)
          have kC := heap_alloc_new (wr.alloc (.cells #[.string (strOf x), .nilIface, .nilIface] 175)) (.cells #[.string (strOf x)] 9)
          have zA : (wr.alloc (.cells #[.string (strOf x), .nilIface, .nilIface] 175)).heap.size = wr.heap.size + 1 := by simp
          rw [zA] at kC
          have bC := below_next hA hC
          have HOC := hide (own_below (unhide HO) bC)
          have HCC : Hid (((wr.alloc (.cells #[.string (strOf x), .nilIface, .nilIface] 175)).alloc (.cells #[.string (strOf x)] 9)).cell? ⟨wr.heap.size + 1, 0, none⟩ = some (.string (strOf x))) := Lib.cell_of_heap kC 0
          have HBC := hide (below_next (unhide HB) bC)
          clear hA hC kC zA bC
          go_wp2_with (at_builtin; refine wpList_append_tok rfl (.tmp 15) (.tmp 18) rfl (B := w.heap.size) rfl (unhide HOC) (t := x) rfl (unhide HCC) (unhide HBC).size hal ?_)
          generalize ((wr.alloc (.cells #[.string (strOf x), .nilIface, .nilIface] 175)).alloc (.cells #[.string (strOf x)] 9)) = wC at *
          intro l4 w4 o4 g4 wh4
          clear wh4
          have HB4 := hide ((unhide HBC).grown g4 (unhide HBC).size (fun b hb => ((unhide HO).lt b hb).1))
          have HO4 := hide o4
          clear o4 g4 c0 c1 c2
          go_wp2
          go_roundw
          case rel => exact ⟨k + 1, by omega, by go_num, by rw [unhide HST]; exact unhide HO4, unhide HB4⟩
          case measure => simp [intOf]; omega
        · have hA := alloc_below wr (.cells #[.string (strOf x), .nilIface, .iface t2 q2] 175)
          have hC := alloc_below (wr.alloc (.cells #[.string (strOf x), .nilIface, .iface t2 q2] 175)) (.cells #[.string (strOf x)] 9)
          have kC := heap_alloc_new (wr.alloc (.cells #[.string (strOf x), .nilIface, .iface t2 q2] 175)) (.cells #[.string (strOf x)] 9)
          have zA : (wr.alloc (.cells #[.string (strOf x), .nilIface, .iface t2 q2] 175)).heap.size = wr.heap.size + 1 := by simp
          rw [zA] at kC
          have bC := below_next hA hC
          have HOC := hide (own_below (unhide HO) bC)
          have HCC : Hid (((wr.alloc (.cells #[.string (strOf x), .nilIface, .iface t2 q2] 175)).alloc (.cells #[.string (strOf x)] 9)).cell? ⟨wr.heap.size + 1, 0, none⟩ = some (.string (strOf x))) := Lib.cell_of_heap kC 0
          have HBC := hide (below_next (unhide HB) bC)
          clear hA hC kC zA bC
          go_wp2_with (at_builtin; refine wpList_append_tok rfl (.tmp 15) (.tmp 18) rfl (B := w.heap.size) rfl (unhide HOC) (t := x) rfl (unhide HCC) (unhide HBC).size hal ?_)
          generalize ((wr.alloc (.cells #[.string (strOf x), .nilIface, .iface t2 q2] 175)).alloc (.cells #[.string (strOf x)] 9)) = wC at *
          intro l4 w4 o4 g4 wh4
          clear wh4
          have HB4 := hide ((unhide HBC).grown g4 (unhide HBC).size (fun b hb => ((unhide HO).lt b hb).1))
          have HO4 := hide o4
          clear o4 g4 c0 c1 c2
          go_wp2
          go_roundw
          case rel => exact ⟨k + 1, by omega, by go_num, by rw [unhide HST]; exact unhide HO4, unhide HB4⟩
          case measure => simp [intOf]; omega
      · rcases f2 with rfl | ⟨t2, q2, rfl⟩
        · have hA := alloc_below wr (.cells #[.string (strOf x), .iface t1 q1, .nilIface] 175)
          have hC := alloc_below (wr.alloc (.cells #[.string (strOf x), .iface t1 q1, .nilIface] 175)) (.cells #[.string (strOf x)] 9)
          have kC := heap_alloc_new (wr.alloc (.cells #[.string (strOf x), .iface t1 q1, .nilIface] 175)) (.cells #[.string (strOf x)] 9)
          have zA : (wr.alloc (.cells #[.string (strOf x), .iface t1 q1, .nilIface] 175)).heap.size = wr.heap.size + 1 := by simp
          rw [zA] at kC
          have bC := below_next hA hC
          have HOC := hide (own_below (unhide HO) bC)
          have HCC : Hid (((wr.alloc (.cells #[.string (strOf x), .iface t1 q1, .nilIface] 175)).alloc (.cells #[.string (strOf x)] 9)).cell? ⟨wr.heap.size + 1, 0, none⟩ = some (.string (strOf x))) := Lib.cell_of_heap kC 0
          have HBC := hide (below_next (unhide HB) bC)
          clear hA hC kC zA bC
          go_wp2_with (at_builtin; refine wpList_append_tok rfl (.tmp 15) (.tmp 18) rfl (B := w.heap.size) rfl (unhide HOC) (t := x) rfl (unhide HCC) (unhide HBC).size hal ?_)
          generalize ((wr.alloc (.cells #[.string (strOf x), .iface t1 q1, .nilIface] 175)).alloc (.cells #[.string (strOf x)] 9)) = wC at *
          intro l4 w4 o4 g4 wh4
          clear wh4
          have HB4 := hide ((unhide HBC).grown g4 (unhide HBC).size (fun b hb => ((unhide HO).lt b hb).1))
          have HO4 := hide o4
          clear o4 g4 c0 c1 c2
          go_wp2
          go_roundw
          case rel => exact ⟨k + 1, by omega, by go_num, by rw [unhide HST]; exact unhide HO4, unhide HB4⟩
          case measure => simp [intOf]; omega
        · have hA := alloc_below wr (.cells #[.string (strOf x), .iface t1 q1, .iface t2 q2] 175)
          have hC := alloc_below (wr.alloc (.cells #[.string (strOf x), .iface t1 q1, .iface t2 q2] 175)) (.cells #[.string (strOf x)] 9)
          have kC := heap_alloc_new (wr.alloc (.cells #[.string (strOf x), .iface t1 q1, .iface t2 q2] 175)) (.cells #[.string (strOf x)] 9)
          have zA : (wr.alloc (.cells #[.string (strOf x), .iface t1 q1, .iface t2 q2] 175)).heap.size = wr.heap.size + 1 := by simp
          rw [zA] at kC
          have bC := below_next hA hC
          have HOC := hide (own_below (unhide HO) bC)
          have HCC : Hid (((wr.alloc (.cells #[.string (strOf x), .iface t1 q1, .iface t2 q2] 175)).alloc (.cells #[.string (strOf x)] 9)).cell? ⟨wr.heap.size + 1, 0, none⟩ = some (.string (strOf x))) := Lib.cell_of_heap kC 0
          have HBC := hide (below_next (unhide HB) bC)
          clear hA hC kC zA bC
          go_wp2_with (at_builtin; refine wpList_append_tok rfl (.tmp 15) (.tmp 18) rfl (B := w.heap.size) rfl (unhide HOC) (t := x) rfl (unhide HCC) (unhide HBC).size hal ?_)
          generalize ((wr.alloc (.cells #[.string (strOf x), .iface t1 q1, .iface t2 q2] 175)).alloc (.cells #[.string (strOf x)] 9)) = wC at *
          intro l4 w4 o4 g4 wh4
          clear wh4
          have HB4 := hide ((unhide HBC).grown g4 (unhide HBC).size (fun b hb => ((unhide HO).lt b hb).1))
          have HO4 := hide o4
          clear o4 g4 c0 c1 c2
          go_wp2
          go_roundw
          case rel => exact ⟨k + 1, by omega, by go_num, by rw [unhide HST]; exact unhide HO4, unhide HB4⟩
          case measure => simp [intOf]; omega
    · have hkn : k = ys.length := by omega
      subst hkn
      rw [List.take_length] at ho
      have HO := hide ho
      have HB := hide hb
      clear ho hb
      go_wp2
      go_ret
      exact ⟨_, rfl, unhide HO, unhide HB⟩
end Go.Proofs.YtcjajchfjoffnaaGreatDoor
