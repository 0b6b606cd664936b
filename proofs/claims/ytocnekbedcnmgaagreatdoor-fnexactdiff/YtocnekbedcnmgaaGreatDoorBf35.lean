import Derived.Test.YtocnekbedcnmgaaGreatDoorBf26
import Derived.Test.YtocnekbedcnmgaaGreatDoorBf25
import Derived.Test.YtocnekbedcnmgaaGreatDoorBf34
namespace Go.Proofs.YtocnekbedcnmgaaGreatDoor
open Go.RowKit

/-- What Changes answers. -/
def chgL (s t : ByteArray) : List (List UInt8) := match readR s, readR t with
  | .inr a, .inr b => chF (max (depV a) (depV b)) [] a b
  | _, _ => []
def chgB (s t : ByteArray) : Bool := match readR s, readR t with
  | .inr _, .inr _ => true
  | _, _ => false
theorem chg_len (s t : ByteArray) : (chgL s t).length ≤ 6000 := by
  unfold chgL
  cases hs : readR s with
  | inl c => simp
  | inr a =>
    cases ht : readR t with
    | inl c => simp
    | inr b =>
      obtain ⟨_, hd, htw, _, _, hc⟩ := read_facts hs
      obtain ⟨hok, _, _⟩ := doc_facts hd
      obtain ⟨_, hd', htw', _, _, hc'⟩ := read_facts ht
      obtain ⟨hok', _, _⟩ := doc_facts hd'
      have := chF_len (max (depV a) (depV b)) [] a b hok hok' htw htw'
      simp only
      omega

set_option maxRecDepth 100000 in
set_option maxHeartbeats 4000000 in
theorem specChanges_walk (s t : ByteArray) (w : World) (hs : s.size ≤ 1048576) (ht : t.size ≤ 1048576) :
    Calls Tryz.prog 42 #[.string s, .string t] w fun e w' => ∃ v, e = .returned (.tuple #[v, .bool (chgB s t)]) ∧ OT w' w.heap.size v (chgL s t) ∧ Below w.heap.size w w' := by
  have HS : Hid (∀ w, Calls Tryz.prog 21 #[.string s] w fun e w' => e = .returned (canonV s) ∧ Below w.heap.size w w') := fun w => specCanon_walk s w hs
  have HT : Hid (∀ w, Calls Tryz.prog 21 #[.string t] w fun e w' => e = .returned (canonV t) ∧ Below w.heap.size w w') := fun w => specCanon_walk t w ht
  have bad : chgB s t = false → chgL s t = [] → (∃ x y : ByteArray, ∃ c d : Nat, canonV s = .tuple #[.string x, .int .i64 (c : Int)] ∧ canonV t = .tuple #[.string y, .int .i64 (d : Int)] ∧ (c ≠ 0 ∨ (c = 0 ∧ d ≠ 0))) →
      Calls Tryz.prog 42 #[.string s, .string t] w fun e w' => ∃ v, e = .returned (.tuple #[v, .bool (chgB s t)]) ∧ OT w' w.heap.size v (chgL s t) ∧ Below w.heap.size w w' := by
    rintro hB hL ⟨x, y, c, d, e1, e2, hcd⟩
    rw [e1] at HS
    rw [e2] at HT
    rw [hB, hL]
    clear hB hL e1 e2
    rcases hcd with h | ⟨rfl, h⟩
    · have t2 : ((c : Int) != 0) = true := by simp; omega
      have t3 : ¬ c = 0 := h
      clear h
      go_enter Tryz.func42, Tryz.ntmps42
      go_wp2_with fail
      refine (unhide HS _).mono ?_
      rintro e w1 ⟨rfl, b1⟩
      clear HS
      go_wp2_with fail
      refine (unhide HT _).mono ?_
      rintro e w2 ⟨rfl, b2⟩
      have B2 := hide (below_next b1 b2)
      have hw := (unhide B2).size
      clear HT b1 b2
      go_wp2
      go_ret2
      exact ⟨_, rfl, World.ownsRow_lit w2 #[] 0 hw (by unfold maxLen; omega) rfl, (unhide B2).alloc hw _⟩
    · have t2 : ((d : Int) != 0) = true := by simp; omega
      have t3 : ¬ d = 0 := h
      clear h
      go_enter Tryz.func42, Tryz.ntmps42
      go_wp2_with fail
      refine (unhide HS _).mono ?_
      rintro e w1 ⟨rfl, b1⟩
      clear HS
      go_wp2_with fail
      refine (unhide HT _).mono ?_
      rintro e w2 ⟨rfl, b2⟩
      have B2 := hide (below_next b1 b2)
      have hw := (unhide B2).size
      clear HT b1 b2
      go_wp2
      go_ret2
      exact ⟨_, rfl, World.ownsRow_lit w2 #[] 0 hw (by unfold maxLen; omega) rfl, (unhide B2).alloc hw _⟩
  cases hr : readR s with
  | inl c =>
    obtain ⟨c1, c2⟩ := read_code hr
    cases hq : readR t with
    | inl d => exact bad (by unfold chgB; rw [hr]) (by unfold chgL; rw [hr]) ⟨_, _, c, d, by unfold canonV; rw [hr], by unfold canonV; rw [hq], .inl (by omega)⟩
    | inr b => exact bad (by unfold chgB; rw [hr]) (by unfold chgL; rw [hr]) ⟨_, _, c, 0, by unfold canonV; rw [hr], by unfold canonV; rw [hq]; rfl, .inl (by omega)⟩
  | inr a =>
    cases hq : readR t with
    | inl d =>
      obtain ⟨d1, d2⟩ := read_code hq
      exact bad (by unfold chgB; rw [hr, hq]) (by unfold chgL; rw [hr, hq]) ⟨_, _, 0, d, by unfold canonV; rw [hr]; rfl, by unfold canonV; rw [hq], .inr ⟨rfl, by omega⟩⟩
    | inr b =>
      clear bad
      obtain ⟨hss, hd, htw, _, hdp, hcn⟩ := read_facts hr
      obtain ⟨hok, _, hln⟩ := doc_facts hd
      obtain ⟨hss', hd', htw', _, hdp', hcn'⟩ := read_facts hq
      obtain ⟨hok', _, hln'⟩ := doc_facts hd'
      have e1 : canonV s = .tuple #[.string (strOf (ct a)), .int .i64 0] := by unfold canonV; rw [hr]
      have e2 : canonV t = .tuple #[.string (strOf (ct b)), .int .i64 0] := by unfold canonV; rw [hq]
      rw [e1] at HS
      rw [e2] at HT
      have eB : chgB s t = true := by unfold chgB; rw [hr, hq]
      have eL : chgL s t = chF (max (depV a) (depV b)) [] a b := by unfold chgL; rw [hr, hq]
      rw [eB, eL]
      have HC : Hid (∀ (w : World) (B : Nat) (r : Value), OT w B r [] → Calls Tryz.prog 92 #[.string (strOf (ct a)), .string (strOf (ct b)), r] w fun e w' => ∃ v, e = .returned v ∧ OTs w' w.heap.size v (chF (max (depV a) (depV b)) (ptrT []) a b) ∧ Below w.heap.size w w') := fun w B r h =>
        chg_walk _ a b [] r w B hok hok' htw htw' (by omega) (by omega) h (by simp [totT]; omega) (by simp [totT]; omega) (by omega)
      have eP : ptrT [] = [] := rfl
      rw [eP] at HC
      generalize chF (max (depV a) (depV b)) [] a b = R at *
      generalize strOf (ct a) = sa at *
      generalize strOf (ct b) = sb at *
      clear hr hq e1 e2 eB eL eP hd hd' htw htw' hok hok' hln hln' hdp hdp' hcn hcn' hss hss'
      go_enter Tryz.func42, Tryz.ntmps42
      go_wp2_with fail
      refine (unhide HS _).mono ?_
      rintro e w1 ⟨rfl, b1⟩
      clear HS
      go_wp2_with fail
      refine (unhide HT _).mono ?_
      rintro e w2 ⟨rfl, b2⟩
      have B2 := hide (below_next b1 b2)
      have hw := (unhide B2).size
      have O2 : OT (w2.alloc (.cells #[] 9)) w2.heap.size (.slice (some ⟨w2.heap.size, 0, none⟩) 0 0) [] := World.ownsRow_lit w2 #[] 0 (Nat.le_refl _) (by unfold maxLen; omega) rfl
      have HC2 := hide (unhide HC _ _ _ O2)
      have B2' := hide ((unhide B2).alloc hw (.cells #[] 9))
      clear HT b1 b2 O2 HC
      go_wp2_with fail
      refine (unhide HC2).mono ?_
      rintro e w3 ⟨r3, rfl, o3, b3⟩
      have O3 := hide (own_mono o3.1 (unhide B2').size)
      have B3 := hide (below_next (unhide B2') b3)
      clear HC2 o3 b3
      go_wp2
      go_ret2
      exact ⟨_, rfl, unhide O3, unhide B3⟩
end Go.Proofs.YtocnekbedcnmgaaGreatDoor

