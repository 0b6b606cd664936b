import Derived.Test.YtbcfkkicmmhhcaaHeldWat
namespace Go.Proofs.Ytbcfkkicmmhhcaa
open Go.RowKit

set_option maxHeartbeats 400000 in
theorem markMsg_walk (a0 a1 a2 : Value) (m : Msg) (ib : List Nat) (k0 : Nat) (w : World) (h : msgE.E w [a0, a1, a2] m ib) (hd : ib.Nodup) (hn : m.ptrs.length ≤ 1048577) (h1 : 1 ≤ k0) (h2 : k0 ≤ 1099510000000) :
    Calls Try.prog 22 #[.agg #[a0, a1, a2], .int .i64 k0] w fun e w' => e = .returned (.int .i64 (k0 + m.ptrs.length : Nat)) ∧ msgE.E w' [a0, a1, a2] ⟨m.ver, mkS k0 m.ptrs.length, m.over⟩ ib ∧ Fr ib w w' := by
  obtain ⟨q, hq, ho⟩ := h
  injection hq with e0 hq; injection hq with e1 hq; injection hq with e2 hq
  subst e0; subst e1; subst e2
  have HO := hide ho
  have HD := hide hd
  clear ho hd hq
  go_enter Try.func22, Try.ntmps22
  go_wp2_with fail
  refine (markStr_walk a1 m.ptrs ib k0 _ ((unhide HO).below (alloc_b w _)) (unhide HD) hn h1 h2).mono ?_
  rintro e w1 ⟨rfl, o1, f1⟩
  have HR : Hid (msgE.E w1 [.int .i64 m.ver, a1, .bool m.over] ⟨m.ver, mkS k0 m.ptrs.length, m.over⟩ ib) := ⟨_, rfl, o1⟩
  have HF := hide ((Fr.of_below (bl := ib) (alloc_b w _)).trans f1)
  clear o1 f1 HO HD
  go_wp2
  go_ret
  exact ⟨rfl, unhide HR, unhide HF⟩
set_option maxHeartbeats 400000 in
theorem heldMsg_walk (a0 a1 a2 : Value) (m : Msg) (ib : List Nat) (k0 : Nat) (w : World) (h : msgE.E w [a0, a1, a2] ⟨m.ver, mkS k0 m.ptrs.length, m.over⟩ ib) (hn : m.ptrs.length ≤ 1048577) (h1 : 1 ≤ k0) (h2 : k0 ≤ 1099510000000) :
    Calls Try.prog 23 #[.agg #[a0, a1, a2], .int .i64 k0] w fun e w' => e = .returned (.int .i64 (k0 + m.ptrs.length : Nat)) ∧ Below w.heap.size w w' := by
  obtain ⟨q, hq, ho⟩ := h
  injection hq with e0 hq; injection hq with e1 hq; injection hq with e2 hq
  subst e0; subst e1; subst e2
  have HO := hide ho
  clear ho hq
  go_enter Try.func23, Try.ntmps23
  go_wp2_with fail
  refine (heldStr_walk a1 ib m.ptrs.length k0 _ ((unhide HO).below (alloc_b w _)) hn h1 h2).mono ?_
  rintro e w1 ⟨rfl, b1⟩
  have HB := hide (below_next (alloc_b w _) b1)
  clear b1 HO
  go_wp2
  go_ret
  exact ⟨rfl, unhide HB⟩
end Go.Proofs.Ytbcfkkicmmhhcaa
