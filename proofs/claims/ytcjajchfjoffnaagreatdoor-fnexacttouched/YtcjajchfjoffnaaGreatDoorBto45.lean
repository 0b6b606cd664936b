import Derived.Test.YtcjajchfjoffnaaGreatDoorBto44
import Derived.Test.YtcjajchfjoffnaaGreatDoorBto7
import Derived.Test.YtcjajchfjoffnaaGreatDoorBto18
namespace Go.Proofs.YtcjajchfjoffnaaGreatDoor
open Go.RowKit

def RNo (w : World) (e : Ending) (w' : World) : Prop := e = .returned (.tuple #[.pointer none, .bool false]) ∧ Below w.heap.size w w'
/-- Where an operation is not well formed. -/
theorem opOk_not {m : POp} (h : opOk m = false) : ¬ (1 ≤ m.kind ∧ m.kind ≤ 6) ∨ (hasF m.kind = false ∧ ¬ m.src.toList = []) ∨ (hasV m.kind = false ∧ ¬ m.val.toList = []) ∨ ((ptoks m.path.data.toList).isSome = false ∨ (ptoks m.src.data.toList).isSome = false) ∨ (hasV m.kind = true ∧ goodT m.val = false) := by
  by_cases h1 : 1 ≤ m.kind ∧ m.kind ≤ 6
  · right
    unfold opOk at h
    rw [decide_eq_true h1.1, decide_eq_true h1.2] at h
    cases hp : (ptoks m.path.data.toList).isSome with
    | false => exact .inr (.inr (.inl (.inl rfl)))
    | true =>
      rw [hp] at h
      cases hf : hasF m.kind with
      | true =>
        rw [hf] at h
        cases hq : (ptoks m.src.data.toList).isSome with
        | false => exact .inr (.inr (.inl (.inr rfl)))
        | true =>
          rw [hq] at h
          cases hv : hasV m.kind with
          | true => rw [hv] at h; exact .inr (.inr (.inr ⟨rfl, by simpa using h⟩))
          | false => rw [hv] at h; exact .inr (.inl ⟨rfl, by simpa using h⟩)
      | false =>
        rw [hf] at h
        by_cases hs : m.src.toList = []
        · rw [hs] at h
          cases hv : hasV m.kind with
          | true => rw [hv] at h; exact .inr (.inr (.inr ⟨rfl, by simpa using h⟩))
          | false => rw [hv] at h; exact .inr (.inl ⟨rfl, by simpa using h⟩)
        · exact .inl ⟨rfl, hs⟩
  · exact .inl h1
set_option maxRecDepth 100000 in
set_option maxHeartbeats 4000000 in
theorem readOp_kind (m : POp) (w : World) (hno : ¬ (1 ≤ m.kind ∧ m.kind ≤ 6)) :
    Calls Tryz.prog 60 #[.agg #[.int .i64 m.kind, .string m.path, .string m.src, .string m.val]] w (RNo w) := by
  have hA := alloc_b w (opObj m)
  have kA := heap_alloc_new w (opObj m)
  have zA : (w.alloc (opObj m)).heap.size = w.heap.size + 1 := by simp
  have HFV := hide (findVerb_no w.heap.size m (w.alloc (opObj m)) kA hno)
  have HA := hide hA
  unfold opObj verb0 at *
  clear hA kA zA hno
  go_enter Tryz.func60, Tryz.ntmps60
  go_wp2_with fail
  generalize (w.alloc (.cells #[.int .i64 m.kind, .string m.path, .string m.src, .string m.val] 76)) = wA at *
  refine (unhide HFV).mono ?_
  rintro e w1 ⟨rfl, b1⟩
  have HB2 := hide (below_next (unhide HA) (below_next b1 (alloc_b w1 (.cells #[.string ⟨#[]⟩, .int .i64 0, .bool false, .bool false, .bool false, .bool false, .nilFunc] 146))))
  clear HFV b1
  go_wp2
  go_ret2
  exact ⟨rfl, unhide HB2⟩
set_option maxRecDepth 100000 in
set_option maxHeartbeats 4000000 in
theorem readOp_src (m : POp) (w : World) (k1 : 1 ≤ m.kind) (k6 : m.kind ≤ 6) (hf : hasF m.kind = false) (hs : ¬ m.src.toList = []) :
    Calls Tryz.prog 60 #[.agg #[.int .i64 m.kind, .string m.path, .string m.src, .string m.val]] w (RNo w) := by
  have hA := alloc_b w (opObj m)
  have kA := heap_alloc_new w (opObj m)
  have zA : (w.alloc (opObj m)).heap.size = w.heap.size + 1 := by simp
  have HFV := hide (findVerb_yes w.heap.size m (w.alloc (opObj m)) kA k1 k6)
  obtain ⟨fid, hfid⟩ := verbF_fid m.kind
  obtain ⟨wb, hwb⟩ : ∃ wb, wordB m.kind = wb := ⟨_, rfl⟩
  obtain ⟨sf, hsfq⟩ : ∃ sf, shF m.kind = sf := ⟨_, rfl⟩
  obtain ⟨sp, hspq⟩ : ∃ sp, shP m.kind = sp := ⟨_, rfl⟩
  unfold verbV at HFV
  rw [hfid, hwb, hsfq, hspq] at HFV
  have HA := hide hA
  have HKA := hide kA
  have HZA := hide zA
  unfold opObj at *
  clear hfid hwb hsfq hspq hA kA zA k1 k6
  rw [hf] at HFV
  clear hf
  cases hv : hasV m.kind with
  | false =>
    rw [hv] at HFV
    clear hv
    go_enter Tryz.func60, Tryz.ntmps60
    go_wp2_with fail
    generalize (w.alloc (.cells #[.int .i64 m.kind, .string m.path, .string m.src, .string m.val] 76)) = wA at *
    refine (unhide HFV).mono ?_
    rintro e w1 ⟨rfl, b1⟩
    have hB := alloc_b w1 (.cells #[.string wb, .int .i64 m.kind, .bool false, .bool false, .bool sf, .bool sp, .func (Fn.func fid) #[] #[]] 146)
    have b2 := below_next b1 hB
    have k2 := (b2.block w.heap.size (by have := unhide HZA; omega)).trans (unhide HKA)
    have c1 : (w1.alloc (.cells #[.string wb, .int .i64 m.kind, .bool false, .bool false, .bool sf, .bool sp, .func (Fn.func fid) #[] #[]] 146)).cell? ⟨w.heap.size, 1, none⟩ = some (.string m.path) := Lib.cell_of_heap k2 1
    have c2 : (w1.alloc (.cells #[.string wb, .int .i64 m.kind, .bool false, .bool false, .bool sf, .bool sp, .func (Fn.func fid) #[] #[]] 146)).cell? ⟨w.heap.size, 2, none⟩ = some (.string m.src) := Lib.cell_of_heap k2 2
    have c3 : (w1.alloc (.cells #[.string wb, .int .i64 m.kind, .bool false, .bool false, .bool sf, .bool sp, .func (Fn.func fid) #[] #[]] 146)).cell? ⟨w.heap.size, 3, none⟩ = some (.string m.val) := Lib.cell_of_heap k2 3
    have HB2 := hide (below_next (unhide HA) b2)
    clear HFV b1 hB b2 k2 HKA
    go_wp2
    go_ret2
    exact ⟨rfl, unhide HB2⟩
  | true =>
    rw [hv] at HFV
    clear hv
    go_enter Tryz.func60, Tryz.ntmps60
    go_wp2_with fail
    generalize (w.alloc (.cells #[.int .i64 m.kind, .string m.path, .string m.src, .string m.val] 76)) = wA at *
    refine (unhide HFV).mono ?_
    rintro e w1 ⟨rfl, b1⟩
    have hB := alloc_b w1 (.cells #[.string wb, .int .i64 m.kind, .bool false, .bool true, .bool sf, .bool sp, .func (Fn.func fid) #[] #[]] 146)
    have b2 := below_next b1 hB
    have k2 := (b2.block w.heap.size (by have := unhide HZA; omega)).trans (unhide HKA)
    have c1 : (w1.alloc (.cells #[.string wb, .int .i64 m.kind, .bool false, .bool true, .bool sf, .bool sp, .func (Fn.func fid) #[] #[]] 146)).cell? ⟨w.heap.size, 1, none⟩ = some (.string m.path) := Lib.cell_of_heap k2 1
    have c2 : (w1.alloc (.cells #[.string wb, .int .i64 m.kind, .bool false, .bool true, .bool sf, .bool sp, .func (Fn.func fid) #[] #[]] 146)).cell? ⟨w.heap.size, 2, none⟩ = some (.string m.src) := Lib.cell_of_heap k2 2
    have c3 : (w1.alloc (.cells #[.string wb, .int .i64 m.kind, .bool false, .bool true, .bool sf, .bool sp, .func (Fn.func fid) #[] #[]] 146)).cell? ⟨w.heap.size, 3, none⟩ = some (.string m.val) := Lib.cell_of_heap k2 3
    have HB2 := hide (below_next (unhide HA) b2)
    clear HFV b1 hB b2 k2 HKA
    go_wp2
    go_ret2
    exact ⟨rfl, unhide HB2⟩
set_option maxRecDepth 100000 in
set_option maxHeartbeats 4000000 in
theorem readOp_val (m : POp) (w : World) (k1 : 1 ≤ m.kind) (k6 : m.kind ≤ 6) (hsf : hasF m.kind = false → m.src.toList = []) (hv : hasV m.kind = false) (hs : ¬ m.val.toList = []) :
    Calls Tryz.prog 60 #[.agg #[.int .i64 m.kind, .string m.path, .string m.src, .string m.val]] w (RNo w) := by
  have hA := alloc_b w (opObj m)
  have kA := heap_alloc_new w (opObj m)
  have zA : (w.alloc (opObj m)).heap.size = w.heap.size + 1 := by simp
  have HFV := hide (findVerb_yes w.heap.size m (w.alloc (opObj m)) kA k1 k6)
  obtain ⟨fid, hfid⟩ := verbF_fid m.kind
  obtain ⟨wb, hwb⟩ : ∃ wb, wordB m.kind = wb := ⟨_, rfl⟩
  obtain ⟨sf, hsfq⟩ : ∃ sf, shF m.kind = sf := ⟨_, rfl⟩
  obtain ⟨sp, hspq⟩ : ∃ sp, shP m.kind = sp := ⟨_, rfl⟩
  unfold verbV at HFV
  rw [hfid, hwb, hsfq, hspq] at HFV
  have HA := hide hA
  have HKA := hide kA
  have HZA := hide zA
  unfold opObj at *
  clear hfid hwb hsfq hspq hA kA zA k1 k6
  rw [hv] at HFV
  have hi : m.val.toList.isEmpty = false := by rw [← Bool.not_eq_true, List.isEmpty_iff]; exact hs
  clear hv hs
  cases hf : hasF m.kind with
  | false =>
    have es := hsf hf
    rw [hf] at HFV
    clear hf hsf
    go_enter Tryz.func60, Tryz.ntmps60
    go_wp2_with fail
    generalize (w.alloc (.cells #[.int .i64 m.kind, .string m.path, .string m.src, .string m.val] 76)) = wA at *
    refine (unhide HFV).mono ?_
    rintro e w1 ⟨rfl, b1⟩
    have hB := alloc_b w1 (.cells #[.string wb, .int .i64 m.kind, .bool false, .bool false, .bool sf, .bool sp, .func (Fn.func fid) #[] #[]] 146)
    have b2 := below_next b1 hB
    have k2 := (b2.block w.heap.size (by have := unhide HZA; omega)).trans (unhide HKA)
    have c1 : (w1.alloc (.cells #[.string wb, .int .i64 m.kind, .bool false, .bool false, .bool sf, .bool sp, .func (Fn.func fid) #[] #[]] 146)).cell? ⟨w.heap.size, 1, none⟩ = some (.string m.path) := Lib.cell_of_heap k2 1
    have c2 : (w1.alloc (.cells #[.string wb, .int .i64 m.kind, .bool false, .bool false, .bool sf, .bool sp, .func (Fn.func fid) #[] #[]] 146)).cell? ⟨w.heap.size, 2, none⟩ = some (.string m.src) := Lib.cell_of_heap k2 2
    have c3 : (w1.alloc (.cells #[.string wb, .int .i64 m.kind, .bool false, .bool false, .bool sf, .bool sp, .func (Fn.func fid) #[] #[]] 146)).cell? ⟨w.heap.size, 3, none⟩ = some (.string m.val) := Lib.cell_of_heap k2 3
    have HB2 := hide (below_next (unhide HA) b2)
    clear HFV b1 hB b2 k2 HKA
    go_wp2
    go_ret2
    exact ⟨rfl, unhide HB2⟩
  | true =>
    rw [hf] at HFV
    clear hf hsf
    go_enter Tryz.func60, Tryz.ntmps60
    go_wp2_with fail
    generalize (w.alloc (.cells #[.int .i64 m.kind, .string m.path, .string m.src, .string m.val] 76)) = wA at *
    refine (unhide HFV).mono ?_
    rintro e w1 ⟨rfl, b1⟩
    have hB := alloc_b w1 (.cells #[.string wb, .int .i64 m.kind, .bool true, .bool false, .bool sf, .bool sp, .func (Fn.func fid) #[] #[]] 146)
    have b2 := below_next b1 hB
    have k2 := (b2.block w.heap.size (by have := unhide HZA; omega)).trans (unhide HKA)
    have c1 : (w1.alloc (.cells #[.string wb, .int .i64 m.kind, .bool true, .bool false, .bool sf, .bool sp, .func (Fn.func fid) #[] #[]] 146)).cell? ⟨w.heap.size, 1, none⟩ = some (.string m.path) := Lib.cell_of_heap k2 1
    have c2 : (w1.alloc (.cells #[.string wb, .int .i64 m.kind, .bool true, .bool false, .bool sf, .bool sp, .func (Fn.func fid) #[] #[]] 146)).cell? ⟨w.heap.size, 2, none⟩ = some (.string m.src) := Lib.cell_of_heap k2 2
    have c3 : (w1.alloc (.cells #[.string wb, .int .i64 m.kind, .bool true, .bool false, .bool sf, .bool sp, .func (Fn.func fid) #[] #[]] 146)).cell? ⟨w.heap.size, 3, none⟩ = some (.string m.val) := Lib.cell_of_heap k2 3
    have HB2 := hide (below_next (unhide HA) b2)
    clear HFV b1 hB b2 k2 HKA
    go_wp2
    go_ret2
    exact ⟨rfl, unhide HB2⟩
set_option maxRecDepth 100000 in
set_option maxHeartbeats 4000000 in
theorem readOp_tok (m : POp) (w : World) (k1 : 1 ≤ m.kind) (k6 : m.kind ≤ 6) (hw : RdW w) (hz1 : m.path.size ≤ 1048576) (hz2 : m.src.size ≤ 1048576) (hsf : hasF m.kind = false → m.src.toList = []) (hvn : hasV m.kind = false → m.val.toList = []) (hpq : (ptoks m.path.data.toList).isSome = false ∨ (ptoks m.src.data.toList).isSome = false) :
    Calls Tryz.prog 60 #[.agg #[.int .i64 m.kind, .string m.path, .string m.src, .string m.val]] w (RNo w) := by
  have hA := alloc_b w (opObj m)
  have kA := heap_alloc_new w (opObj m)
  have zA : (w.alloc (opObj m)).heap.size = w.heap.size + 1 := by simp
  have HFV := hide (findVerb_yes w.heap.size m (w.alloc (opObj m)) kA k1 k6)
  obtain ⟨fid, hfid⟩ := verbF_fid m.kind
  obtain ⟨wb, hwb⟩ : ∃ wb, wordB m.kind = wb := ⟨_, rfl⟩
  obtain ⟨sf, hsfq⟩ : ∃ sf, shF m.kind = sf := ⟨_, rfl⟩
  obtain ⟨sp, hspq⟩ : ∃ sp, shP m.kind = sp := ⟨_, rfl⟩
  unfold verbV at HFV
  rw [hfid, hwb, hsfq, hspq] at HFV
  have HA := hide hA
  have HKA := hide kA
  have HZA := hide zA
  unfold opObj at *
  clear hfid hwb hsfq hspq hA kA zA k1 k6
  have HTP : Hid (∀ wx, Below w.heap.size w wx → Calls Tryz.prog 100 #[.string m.path] wx fun e w' => ∃ v, e = .returned (.tuple #[v, .bool (ptoks m.path.data.toList).isSome]) ∧ OT w' wx.heap.size v (tkOf m.path) ∧ Below wx.heap.size wx w') := fun wx hx => implToks_walk m.path wx (hw.up hx).ml hz1
  have HTS : Hid (∀ wx, Below w.heap.size w wx → Calls Tryz.prog 100 #[.string m.src] wx fun e w' => ∃ v, e = .returned (.tuple #[v, .bool (ptoks m.src.data.toList).isSome]) ∧ OT w' wx.heap.size v (tkOf m.src) ∧ Below wx.heap.size wx w') := fun wx hx => implToks_walk m.src wx (hw.up hx).ml hz2
  generalize (ptoks m.path.data.toList).isSome = zp at *
  generalize (ptoks m.src.data.toList).isSome = zq at *
  clear hw
  cases hv : hasV m.kind with
  | false =>
    have ev := hvn hv
    rw [hv] at HFV
    clear hv hvn
    cases hf : hasF m.kind with
    | false =>
      have es := hsf hf
      rw [hf] at HFV
      clear hf hsf
      go_enter Tryz.func60, Tryz.ntmps60
      go_wp2_with fail
      generalize (w.alloc (.cells #[.int .i64 m.kind, .string m.path, .string m.src, .string m.val] 76)) = wA at *
      refine (unhide HFV).mono ?_
      rintro e w1 ⟨rfl, b1⟩
      have hB := alloc_b w1 (.cells #[.string wb, .int .i64 m.kind, .bool false, .bool false, .bool sf, .bool sp, .func (Fn.func fid) #[] #[]] 146)
      have b2 := below_next b1 hB
      have k2 := (b2.block w.heap.size (by have := unhide HZA; omega)).trans (unhide HKA)
      have c1 : (w1.alloc (.cells #[.string wb, .int .i64 m.kind, .bool false, .bool false, .bool sf, .bool sp, .func (Fn.func fid) #[] #[]] 146)).cell? ⟨w.heap.size, 1, none⟩ = some (.string m.path) := Lib.cell_of_heap k2 1
      have c2 : (w1.alloc (.cells #[.string wb, .int .i64 m.kind, .bool false, .bool false, .bool sf, .bool sp, .func (Fn.func fid) #[] #[]] 146)).cell? ⟨w.heap.size, 2, none⟩ = some (.string m.src) := Lib.cell_of_heap k2 2
      have c3 : (w1.alloc (.cells #[.string wb, .int .i64 m.kind, .bool false, .bool false, .bool sf, .bool sp, .func (Fn.func fid) #[] #[]] 146)).cell? ⟨w.heap.size, 3, none⟩ = some (.string m.val) := Lib.cell_of_heap k2 3
      have kB := heap_alloc_new w1 (.cells #[.string wb, .int .i64 m.kind, .bool false, .bool false, .bool sf, .bool sp, .func (Fn.func fid) #[] #[]] 146)
      have zB : (w1.alloc (.cells #[.string wb, .int .i64 m.kind, .bool false, .bool false, .bool sf, .bool sp, .func (Fn.func fid) #[] #[]] 146)).heap.size = w1.heap.size + 1 := by simp
      have hz1 := b1.size
      have HT := hide (unhide HTP _ (below_next (unhide HA) b2))
      have HB2 := hide b2
      have HK2 := hide k2
      have HKB := hide kB
      have HZ1 := hide hz1
      have HZB := hide zB
      clear HFV b1 hB kB b2 hz1 k2 HKA zB HTP
      go_wp2_with fail
      generalize (w1.alloc (.cells #[.string wb, .int .i64 m.kind, .bool false, .bool false, .bool sf, .bool sp, .func (Fn.func fid) #[] #[]] 146)) = w2 at *
      generalize w1.heap.size = V0 at *
      refine (unhide HT).mono ?_
      rintro e w3 ⟨pv, rfl, op, b3⟩
      obtain ⟨pa, pg, pc, rfl, _, _⟩ := op.shape
      have zB := unhide HZB
      have zA := unhide HZA
      have hz1 := unhide HZ1
      have k3 := (b3.block w.heap.size (by omega)).trans (unhide HK2)
      have d2 : w3.cell? ⟨w.heap.size, 2, none⟩ = some (.string m.src) := Lib.cell_of_heap k3 2
      have b23 := below_next (unhide HB2) b3
      have HT2 := hide (unhide HTS _ (below_next (unhide HA) b23))
      have HB3 := hide b3
      have HK3 := hide k3
      have HKB3 := hide ((b3.block V0 (by omega)).trans (unhide HKB))
      have HZ3 := hide b3.size
      have HB23 := hide b23
      clear HT op b3 k3 b23 HK2 HKB HB2 c1 c2 c3 zA zB hz1 HTS
      go_wp2_with fail
      refine (unhide HT2).mono ?_
      rintro e w4 ⟨fv, rfl, of, b4⟩
      obtain ⟨fa, fg, fc, rfl, _, _⟩ := of.shape
      have HB4 := hide (below_next (unhide HA) (below_next (unhide HB23) b4))
      clear HT2 of b4 HB3 HK3 HKB3 HB23 d2
      rcases hpq with hp | hq
      · subst hp
        go_wp2
        go_ret2
        exact ⟨rfl, unhide HB4⟩
      · subst hq
        cases zp with
        | true =>
          go_wp2
          go_ret2
          exact ⟨rfl, unhide HB4⟩
        | false =>
          go_wp2
          go_ret2
          exact ⟨rfl, unhide HB4⟩
    | true =>
      rw [hf] at HFV
      clear hf hsf
      go_enter Tryz.func60, Tryz.ntmps60
      go_wp2_with fail
      generalize (w.alloc (.cells #[.int .i64 m.kind, .string m.path, .string m.src, .string m.val] 76)) = wA at *
      refine (unhide HFV).mono ?_
      rintro e w1 ⟨rfl, b1⟩
      have hB := alloc_b w1 (.cells #[.string wb, .int .i64 m.kind, .bool true, .bool false, .bool sf, .bool sp, .func (Fn.func fid) #[] #[]] 146)
      have b2 := below_next b1 hB
      have k2 := (b2.block w.heap.size (by have := unhide HZA; omega)).trans (unhide HKA)
      have c1 : (w1.alloc (.cells #[.string wb, .int .i64 m.kind, .bool true, .bool false, .bool sf, .bool sp, .func (Fn.func fid) #[] #[]] 146)).cell? ⟨w.heap.size, 1, none⟩ = some (.string m.path) := Lib.cell_of_heap k2 1
      have c2 : (w1.alloc (.cells #[.string wb, .int .i64 m.kind, .bool true, .bool false, .bool sf, .bool sp, .func (Fn.func fid) #[] #[]] 146)).cell? ⟨w.heap.size, 2, none⟩ = some (.string m.src) := Lib.cell_of_heap k2 2
      have c3 : (w1.alloc (.cells #[.string wb, .int .i64 m.kind, .bool true, .bool false, .bool sf, .bool sp, .func (Fn.func fid) #[] #[]] 146)).cell? ⟨w.heap.size, 3, none⟩ = some (.string m.val) := Lib.cell_of_heap k2 3
      have kB := heap_alloc_new w1 (.cells #[.string wb, .int .i64 m.kind, .bool true, .bool false, .bool sf, .bool sp, .func (Fn.func fid) #[] #[]] 146)
      have zB : (w1.alloc (.cells #[.string wb, .int .i64 m.kind, .bool true, .bool false, .bool sf, .bool sp, .func (Fn.func fid) #[] #[]] 146)).heap.size = w1.heap.size + 1 := by simp
      have hz1 := b1.size
      have HT := hide (unhide HTP _ (below_next (unhide HA) b2))
      have HB2 := hide b2
      have HK2 := hide k2
      have HKB := hide kB
      have HZ1 := hide hz1
      have HZB := hide zB
      clear HFV b1 hB kB b2 hz1 k2 HKA zB HTP
      go_wp2_with fail
      generalize (w1.alloc (.cells #[.string wb, .int .i64 m.kind, .bool true, .bool false, .bool sf, .bool sp, .func (Fn.func fid) #[] #[]] 146)) = w2 at *
      generalize w1.heap.size = V0 at *
      refine (unhide HT).mono ?_
      rintro e w3 ⟨pv, rfl, op, b3⟩
      obtain ⟨pa, pg, pc, rfl, _, _⟩ := op.shape
      have zB := unhide HZB
      have zA := unhide HZA
      have hz1 := unhide HZ1
      have k3 := (b3.block w.heap.size (by omega)).trans (unhide HK2)
      have d2 : w3.cell? ⟨w.heap.size, 2, none⟩ = some (.string m.src) := Lib.cell_of_heap k3 2
      have b23 := below_next (unhide HB2) b3
      have HT2 := hide (unhide HTS _ (below_next (unhide HA) b23))
      have HB3 := hide b3
      have HK3 := hide k3
      have HKB3 := hide ((b3.block V0 (by omega)).trans (unhide HKB))
      have HZ3 := hide b3.size
      have HB23 := hide b23
      clear HT op b3 k3 b23 HK2 HKB HB2 c1 c2 c3 zA zB hz1 HTS
      go_wp2_with fail
      refine (unhide HT2).mono ?_
      rintro e w4 ⟨fv, rfl, of, b4⟩
      obtain ⟨fa, fg, fc, rfl, _, _⟩ := of.shape
      have HB4 := hide (below_next (unhide HA) (below_next (unhide HB23) b4))
      clear HT2 of b4 HB3 HK3 HKB3 HB23 d2
      rcases hpq with hp | hq
      · subst hp
        go_wp2
        go_ret2
        exact ⟨rfl, unhide HB4⟩
      · subst hq
        cases zp with
        | true =>
          go_wp2
          go_ret2
          exact ⟨rfl, unhide HB4⟩
        | false =>
          go_wp2
          go_ret2
          exact ⟨rfl, unhide HB4⟩
  | true =>
    rw [hv] at HFV
    clear hv hvn
    cases hf : hasF m.kind with
    | false =>
      have es := hsf hf
      rw [hf] at HFV
      clear hf hsf
      go_enter Tryz.func60, Tryz.ntmps60
      go_wp2_with fail
      generalize (w.alloc (.cells #[.int .i64 m.kind, .string m.path, .string m.src, .string m.val] 76)) = wA at *
      refine (unhide HFV).mono ?_
      rintro e w1 ⟨rfl, b1⟩
      have hB := alloc_b w1 (.cells #[.string wb, .int .i64 m.kind, .bool false, .bool true, .bool sf, .bool sp, .func (Fn.func fid) #[] #[]] 146)
      have b2 := below_next b1 hB
      have k2 := (b2.block w.heap.size (by have := unhide HZA; omega)).trans (unhide HKA)
      have c1 : (w1.alloc (.cells #[.string wb, .int .i64 m.kind, .bool false, .bool true, .bool sf, .bool sp, .func (Fn.func fid) #[] #[]] 146)).cell? ⟨w.heap.size, 1, none⟩ = some (.string m.path) := Lib.cell_of_heap k2 1
      have c2 : (w1.alloc (.cells #[.string wb, .int .i64 m.kind, .bool false, .bool true, .bool sf, .bool sp, .func (Fn.func fid) #[] #[]] 146)).cell? ⟨w.heap.size, 2, none⟩ = some (.string m.src) := Lib.cell_of_heap k2 2
      have c3 : (w1.alloc (.cells #[.string wb, .int .i64 m.kind, .bool false, .bool true, .bool sf, .bool sp, .func (Fn.func fid) #[] #[]] 146)).cell? ⟨w.heap.size, 3, none⟩ = some (.string m.val) := Lib.cell_of_heap k2 3
      have kB := heap_alloc_new w1 (.cells #[.string wb, .int .i64 m.kind, .bool false, .bool true, .bool sf, .bool sp, .func (Fn.func fid) #[] #[]] 146)
      have zB : (w1.alloc (.cells #[.string wb, .int .i64 m.kind, .bool false, .bool true, .bool sf, .bool sp, .func (Fn.func fid) #[] #[]] 146)).heap.size = w1.heap.size + 1 := by simp
      have hz1 := b1.size
      have HT := hide (unhide HTP _ (below_next (unhide HA) b2))
      have HB2 := hide b2
      have HK2 := hide k2
      have HKB := hide kB
      have HZ1 := hide hz1
      have HZB := hide zB
      clear HFV b1 hB kB b2 hz1 k2 HKA zB HTP
      go_wp2_with fail
      generalize (w1.alloc (.cells #[.string wb, .int .i64 m.kind, .bool false, .bool true, .bool sf, .bool sp, .func (Fn.func fid) #[] #[]] 146)) = w2 at *
      generalize w1.heap.size = V0 at *
      refine (unhide HT).mono ?_
      rintro e w3 ⟨pv, rfl, op, b3⟩
      obtain ⟨pa, pg, pc, rfl, _, _⟩ := op.shape
      have zB := unhide HZB
      have zA := unhide HZA
      have hz1 := unhide HZ1
      have k3 := (b3.block w.heap.size (by omega)).trans (unhide HK2)
      have d2 : w3.cell? ⟨w.heap.size, 2, none⟩ = some (.string m.src) := Lib.cell_of_heap k3 2
      have b23 := below_next (unhide HB2) b3
      have HT2 := hide (unhide HTS _ (below_next (unhide HA) b23))
      have HB3 := hide b3
      have HK3 := hide k3
      have HKB3 := hide ((b3.block V0 (by omega)).trans (unhide HKB))
      have HZ3 := hide b3.size
      have HB23 := hide b23
      clear HT op b3 k3 b23 HK2 HKB HB2 c1 c2 c3 zA zB hz1 HTS
      go_wp2_with fail
      refine (unhide HT2).mono ?_
      rintro e w4 ⟨fv, rfl, of, b4⟩
      obtain ⟨fa, fg, fc, rfl, _, _⟩ := of.shape
      have HB4 := hide (below_next (unhide HA) (below_next (unhide HB23) b4))
      clear HT2 of b4 HB3 HK3 HKB3 HB23 d2
      rcases hpq with hp | hq
      · subst hp
        go_wp2
        go_ret2
        exact ⟨rfl, unhide HB4⟩
      · subst hq
        cases zp with
        | true =>
          go_wp2
          go_ret2
          exact ⟨rfl, unhide HB4⟩
        | false =>
          go_wp2
          go_ret2
          exact ⟨rfl, unhide HB4⟩
    | true =>
      rw [hf] at HFV
      clear hf hsf
      go_enter Tryz.func60, Tryz.ntmps60
      go_wp2_with fail
      generalize (w.alloc (.cells #[.int .i64 m.kind, .string m.path, .string m.src, .string m.val] 76)) = wA at *
      refine (unhide HFV).mono ?_
      rintro e w1 ⟨rfl, b1⟩
      have hB := alloc_b w1 (.cells #[.string wb, .int .i64 m.kind, .bool true, .bool true, .bool sf, .bool sp, .func (Fn.func fid) #[] #[]] 146)
      have b2 := below_next b1 hB
      have k2 := (b2.block w.heap.size (by have := unhide HZA; omega)).trans (unhide HKA)
      have c1 : (w1.alloc (.cells #[.string wb, .int .i64 m.kind, .bool true, .bool true, .bool sf, .bool sp, .func (Fn.func fid) #[] #[]] 146)).cell? ⟨w.heap.size, 1, none⟩ = some (.string m.path) := Lib.cell_of_heap k2 1
      have c2 : (w1.alloc (.cells #[.string wb, .int .i64 m.kind, .bool true, .bool true, .bool sf, .bool sp, .func (Fn.func fid) #[] #[]] 146)).cell? ⟨w.heap.size, 2, none⟩ = some (.string m.src) := Lib.cell_of_heap k2 2
      have c3 : (w1.alloc (.cells #[.string wb, .int .i64 m.kind, .bool true, .bool true, .bool sf, .bool sp, .func (Fn.func fid) #[] #[]] 146)).cell? ⟨w.heap.size, 3, none⟩ = some (.string m.val) := Lib.cell_of_heap k2 3
      have kB := heap_alloc_new w1 (.cells #[.string wb, .int .i64 m.kind, .bool true, .bool true, .bool sf, .bool sp, .func (Fn.func fid) #[] #[]] 146)
      have zB : (w1.alloc (.cells #[.string wb, .int .i64 m.kind, .bool true, .bool true, .bool sf, .bool sp, .func (Fn.func fid) #[] #[]] 146)).heap.size = w1.heap.size + 1 := by simp
      have hz1 := b1.size
      have HT := hide (unhide HTP _ (below_next (unhide HA) b2))
      have HB2 := hide b2
      have HK2 := hide k2
      have HKB := hide kB
      have HZ1 := hide hz1
      have HZB := hide zB
      clear HFV b1 hB kB b2 hz1 k2 HKA zB HTP
      go_wp2_with fail
      generalize (w1.alloc (.cells #[.string wb, .int .i64 m.kind, .bool true, .bool true, .bool sf, .bool sp, .func (Fn.func fid) #[] #[]] 146)) = w2 at *
      generalize w1.heap.size = V0 at *
      refine (unhide HT).mono ?_
      rintro e w3 ⟨pv, rfl, op, b3⟩
      obtain ⟨pa, pg, pc, rfl, _, _⟩ := op.shape
      have zB := unhide HZB
      have zA := unhide HZA
      have hz1 := unhide HZ1
      have k3 := (b3.block w.heap.size (by omega)).trans (unhide HK2)
      have d2 : w3.cell? ⟨w.heap.size, 2, none⟩ = some (.string m.src) := Lib.cell_of_heap k3 2
      have b23 := below_next (unhide HB2) b3
      have HT2 := hide (unhide HTS _ (below_next (unhide HA) b23))
      have HB3 := hide b3
      have HK3 := hide k3
      have HKB3 := hide ((b3.block V0 (by omega)).trans (unhide HKB))
      have HZ3 := hide b3.size
      have HB23 := hide b23
      clear HT op b3 k3 b23 HK2 HKB HB2 c1 c2 c3 zA zB hz1 HTS
      go_wp2_with fail
      refine (unhide HT2).mono ?_
      rintro e w4 ⟨fv, rfl, of, b4⟩
      obtain ⟨fa, fg, fc, rfl, _, _⟩ := of.shape
      have HB4 := hide (below_next (unhide HA) (below_next (unhide HB23) b4))
      clear HT2 of b4 HB3 HK3 HKB3 HB23 d2
      rcases hpq with hp | hq
      · subst hp
        go_wp2
        go_ret2
        exact ⟨rfl, unhide HB4⟩
      · subst hq
        cases zp with
        | true =>
          go_wp2
          go_ret2
          exact ⟨rfl, unhide HB4⟩
        | false =>
          go_wp2
          go_ret2
          exact ⟨rfl, unhide HB4⟩
set_option maxRecDepth 100000 in
set_option maxHeartbeats 4000000 in
theorem readOp_can (m : POp) (w : World) (k1 : 1 ≤ m.kind) (k6 : m.kind ≤ 6) (hw : RdW w) (hz1 : m.path.size ≤ 1048576) (hz2 : m.src.size ≤ 1048576) (hz3 : m.val.size ≤ 1048576) (hsf : hasF m.kind = false → m.src.toList = []) (hp : (ptoks m.path.data.toList).isSome = true) (hq : (ptoks m.src.data.toList).isSome = true) (hv : hasV m.kind = true) (hg : goodT m.val = false) :
    Calls Tryz.prog 60 #[.agg #[.int .i64 m.kind, .string m.path, .string m.src, .string m.val]] w (RNo w) := by
  have hA := alloc_b w (opObj m)
  have kA := heap_alloc_new w (opObj m)
  have zA : (w.alloc (opObj m)).heap.size = w.heap.size + 1 := by simp
  have HFV := hide (findVerb_yes w.heap.size m (w.alloc (opObj m)) kA k1 k6)
  obtain ⟨fid, hfid⟩ := verbF_fid m.kind
  obtain ⟨wb, hwb⟩ : ∃ wb, wordB m.kind = wb := ⟨_, rfl⟩
  obtain ⟨sf, hsfq⟩ : ∃ sf, shF m.kind = sf := ⟨_, rfl⟩
  obtain ⟨sp, hspq⟩ : ∃ sp, shP m.kind = sp := ⟨_, rfl⟩
  unfold verbV at HFV
  rw [hfid, hwb, hsfq, hspq] at HFV
  have HA := hide hA
  have HKA := hide kA
  have HZA := hide zA
  unfold opObj at *
  clear hfid hwb hsfq hspq hA kA zA k1 k6
  have HTP : Hid (∀ wx, Below w.heap.size w wx → Calls Tryz.prog 100 #[.string m.path] wx fun e w' => ∃ v, e = .returned (.tuple #[v, .bool (ptoks m.path.data.toList).isSome]) ∧ OT w' wx.heap.size v (tkOf m.path) ∧ Below wx.heap.size wx w') := fun wx hx => implToks_walk m.path wx (hw.up hx).ml hz1
  have HTS : Hid (∀ wx, Below w.heap.size w wx → Calls Tryz.prog 100 #[.string m.src] wx fun e w' => ∃ v, e = .returned (.tuple #[v, .bool (ptoks m.src.data.toList).isSome]) ∧ OT w' wx.heap.size v (tkOf m.src) ∧ Below wx.heap.size wx w') := fun wx hx => implToks_walk m.src wx (hw.up hx).ml hz2
  rw [hp] at HTP
  rw [hq] at HTS
  have HRC : Hid (∀ wx, Below w.heap.size w wx → Calls Tryz.prog 83 #[.string m.val] wx fun e w' => e = .returned (.tuple #[.nilIface, .bool false]) ∧ Below wx.heap.size wx w') := fun wx hx => by
    have hwx := hw.up hx
    refine (readCanon_walk m.val wx hwx.tab hwx.err hwx.pow (by omega)).mono ?_
    rintro e w' ⟨b, hb, _⟩
    exact ⟨hb hg, b⟩
  rw [hv] at HFV
  clear hv hw hg hp hq
  cases hf : hasF m.kind with
  | false =>
    have es := hsf hf
    rw [hf] at HFV
    clear hf hsf
    go_enter Tryz.func60, Tryz.ntmps60
    go_wp2_with fail
    generalize (w.alloc (.cells #[.int .i64 m.kind, .string m.path, .string m.src, .string m.val] 76)) = wA at *
    refine (unhide HFV).mono ?_
    rintro e w1 ⟨rfl, b1⟩
    have hB := alloc_b w1 (.cells #[.string wb, .int .i64 m.kind, .bool false, .bool true, .bool sf, .bool sp, .func (Fn.func fid) #[] #[]] 146)
    have b2 := below_next b1 hB
    have k2 := (b2.block w.heap.size (by have := unhide HZA; omega)).trans (unhide HKA)
    have c1 : (w1.alloc (.cells #[.string wb, .int .i64 m.kind, .bool false, .bool true, .bool sf, .bool sp, .func (Fn.func fid) #[] #[]] 146)).cell? ⟨w.heap.size, 1, none⟩ = some (.string m.path) := Lib.cell_of_heap k2 1
    have c2 : (w1.alloc (.cells #[.string wb, .int .i64 m.kind, .bool false, .bool true, .bool sf, .bool sp, .func (Fn.func fid) #[] #[]] 146)).cell? ⟨w.heap.size, 2, none⟩ = some (.string m.src) := Lib.cell_of_heap k2 2
    have c3 : (w1.alloc (.cells #[.string wb, .int .i64 m.kind, .bool false, .bool true, .bool sf, .bool sp, .func (Fn.func fid) #[] #[]] 146)).cell? ⟨w.heap.size, 3, none⟩ = some (.string m.val) := Lib.cell_of_heap k2 3
    have kB := heap_alloc_new w1 (.cells #[.string wb, .int .i64 m.kind, .bool false, .bool true, .bool sf, .bool sp, .func (Fn.func fid) #[] #[]] 146)
    have zB : (w1.alloc (.cells #[.string wb, .int .i64 m.kind, .bool false, .bool true, .bool sf, .bool sp, .func (Fn.func fid) #[] #[]] 146)).heap.size = w1.heap.size + 1 := by simp
    have hz1 := b1.size
    have HT := hide (unhide HTP _ (below_next (unhide HA) b2))
    have HB2 := hide b2
    have HK2 := hide k2
    have HKB := hide kB
    have HZ1 := hide hz1
    have HZB := hide zB
    clear HFV b1 hB kB b2 hz1 k2 HKA zB HTP
    go_wp2_with fail
    generalize (w1.alloc (.cells #[.string wb, .int .i64 m.kind, .bool false, .bool true, .bool sf, .bool sp, .func (Fn.func fid) #[] #[]] 146)) = w2 at *
    generalize w1.heap.size = V0 at *
    refine (unhide HT).mono ?_
    rintro e w3 ⟨pv, rfl, op, b3⟩
    obtain ⟨pa, pg, pc, rfl, _, _⟩ := op.shape
    have zB := unhide HZB
    have zA := unhide HZA
    have hz1 := unhide HZ1
    have k3 := (b3.block w.heap.size (by omega)).trans (unhide HK2)
    have d2 : w3.cell? ⟨w.heap.size, 2, none⟩ = some (.string m.src) := Lib.cell_of_heap k3 2
    have b23 := below_next (unhide HB2) b3
    have HT2 := hide (unhide HTS _ (below_next (unhide HA) b23))
    have HB3 := hide b3
    have HK3 := hide k3
    have HKB3 := hide ((b3.block V0 (by omega)).trans (unhide HKB))
    have HZ3 := hide b3.size
    have HB23 := hide b23
    clear HT op b3 k3 b23 HK2 HKB HB2 c1 c2 c3 zA zB hz1 HTS
    go_wp2_with fail
    refine (unhide HT2).mono ?_
    rintro e w4 ⟨fv, rfl, of, b4⟩
    obtain ⟨fa, fg, fc, rfl, _, _⟩ := of.shape
    have zB := unhide HZB
    have zA := unhide HZA
    have hz1 := unhide HZ1
    have hz3 := unhide HZ3
    have kv := (b4.block V0 (by omega)).trans (unhide HKB3)
    have v0 : w4.cell? ⟨V0, 0, none⟩ = some (.string wb) := Lib.cell_of_heap kv 0
    have v1 : w4.cell? ⟨V0, 1, none⟩ = some (.int .i64 m.kind) := Lib.cell_of_heap kv 1
    have v2 : w4.cell? ⟨V0, 2, none⟩ = some (.bool false) := Lib.cell_of_heap kv 2
    have v3 : w4.cell? ⟨V0, 3, none⟩ = some (.bool true) := Lib.cell_of_heap kv 3
    have v4 : w4.cell? ⟨V0, 4, none⟩ = some (.bool sf) := Lib.cell_of_heap kv 4
    have v5 : w4.cell? ⟨V0, 5, none⟩ = some (.bool sp) := Lib.cell_of_heap kv 5
    have v6 : w4.cell? ⟨V0, 6, none⟩ = some (.func (Fn.func fid) #[] #[]) := Lib.cell_of_heap kv 6
    have hlt4 : V0 < w4.heap.size := (Array.getElem?_eq_some_iff.1 kv).1
    have k4 := (b4.block w.heap.size (by omega)).trans (unhide HK3)
    have hC := alloc_b w4 (.cells #[.string wb, .int .i64 m.kind, .bool false, .bool true, .bool sf, .bool sp, .func (Fn.func fid) #[] #[], .slice pa (tkOf m.path).length pc, .slice fa (tkOf m.src).length fc, .nilIface] 148)
    have kC := heap_alloc_new w4 (.cells #[.string wb, .int .i64 m.kind, .bool false, .bool true, .bool sf, .bool sp, .func (Fn.func fid) #[] #[], .slice pa (tkOf m.path).length pc, .slice fa (tkOf m.src).length fc, .nilIface] 148)
    have zC : (w4.alloc (.cells #[.string wb, .int .i64 m.kind, .bool false, .bool true, .bool sf, .bool sp, .func (Fn.func fid) #[] #[], .slice pa (tkOf m.path).length pc, .slice fa (tkOf m.src).length fc, .nilIface] 148)).heap.size = w4.heap.size + 1 := by simp
    have e3 : (w4.alloc (.cells #[.string wb, .int .i64 m.kind, .bool false, .bool true, .bool sf, .bool sp, .func (Fn.func fid) #[] #[], .slice pa (tkOf m.path).length pc, .slice fa (tkOf m.src).length fc, .nilIface] 148)).cell? ⟨V0, 3, none⟩ = some (.bool true) := Lib.cell_of_heap ((hC.block V0 hlt4).trans kv) 3
    have hz4 := b4.size
    have f3 : (w4.alloc (.cells #[.string wb, .int .i64 m.kind, .bool false, .bool true, .bool sf, .bool sp, .func (Fn.func fid) #[] #[], .slice pa (tkOf m.path).length pc, .slice fa (tkOf m.src).length fc, .nilIface] 148)).cell? ⟨w.heap.size, 3, none⟩ = some (.string m.val) := Lib.cell_of_heap ((hC.block w.heap.size (by omega)).trans k4) 3
    have b25 := below_next (below_next (unhide HB23) b4) hC
    have HR := hide (unhide HRC _ (below_next (unhide HA) b25))
    have HB5 := hide (below_next (unhide HA) b25)
    have HKC := hide kC
    have HZC := hide zC
    have HZ4 := hide hz4
    clear HT2 of b4 HB3 HK3 HKB3 HB23 d2 zA zB hz1 hz3 kv k4 hC kC zC b25 HRC hlt4 hz4
    go_wp2_with fail
    generalize (w4.alloc (.cells #[.string wb, .int .i64 m.kind, .bool false, .bool true, .bool sf, .bool sp, .func (Fn.func fid) #[] #[], .slice pa (tkOf m.path).length pc, .slice fa (tkOf m.src).length fc, .nilIface] 148)) = w5 at *
    generalize w4.heap.size = G0 at *
    refine (unhide HR).mono ?_
    rintro e w6 ⟨rfl, b6⟩
    have zC := unhide HZC
    have k6 := (b6.block G0 (by omega)).trans (unhide HKC)
    have g9 : w6.cell? ⟨G0, 9, none⟩ = some .nilIface := Lib.cell_of_heap k6 9
    have f9 := Lib.frozen_of_heap k6 9
    have HB6 := hide b6
    clear HR b6 k6 zC HKC
    go_wp2
    go_ret2
    have zB := unhide HZB
    have zA := unhide HZA
    have hz1 := unhide HZ1
    have hz3 := unhide HZ3
    have hz4 := unhide HZ4
    have zC := unhide HZC
    have hz5 := (unhide HB5).size
    refine ⟨rfl, ((unhide HB5).trans ((unhide HB6).mono (by omega))).setCell (p := ⟨G0, 9, none⟩) (by show w.heap.size ≤ G0; omega) _⟩
  | true =>
    rw [hf] at HFV
    clear hf hsf
    go_enter Tryz.func60, Tryz.ntmps60
    go_wp2_with fail
    generalize (w.alloc (.cells #[.int .i64 m.kind, .string m.path, .string m.src, .string m.val] 76)) = wA at *
    refine (unhide HFV).mono ?_
    rintro e w1 ⟨rfl, b1⟩
    have hB := alloc_b w1 (.cells #[.string wb, .int .i64 m.kind, .bool true, .bool true, .bool sf, .bool sp, .func (Fn.func fid) #[] #[]] 146)
    have b2 := below_next b1 hB
    have k2 := (b2.block w.heap.size (by have := unhide HZA; omega)).trans (unhide HKA)
    have c1 : (w1.alloc (.cells #[.string wb, .int .i64 m.kind, .bool true, .bool true, .bool sf, .bool sp, .func (Fn.func fid) #[] #[]] 146)).cell? ⟨w.heap.size, 1, none⟩ = some (.string m.path) := Lib.cell_of_heap k2 1
    have c2 : (w1.alloc (.cells #[.string wb, .int .i64 m.kind, .bool true, .bool true, .bool sf, .bool sp, .func (Fn.func fid) #[] #[]] 146)).cell? ⟨w.heap.size, 2, none⟩ = some (.string m.src) := Lib.cell_of_heap k2 2
    have c3 : (w1.alloc (.cells #[.string wb, .int .i64 m.kind, .bool true, .bool true, .bool sf, .bool sp, .func (Fn.func fid) #[] #[]] 146)).cell? ⟨w.heap.size, 3, none⟩ = some (.string m.val) := Lib.cell_of_heap k2 3
    have kB := heap_alloc_new w1 (.cells #[.string wb, .int .i64 m.kind, .bool true, .bool true, .bool sf, .bool sp, .func (Fn.func fid) #[] #[]] 146)
    have zB : (w1.alloc (.cells #[.string wb, .int .i64 m.kind, .bool true, .bool true, .bool sf, .bool sp, .func (Fn.func fid) #[] #[]] 146)).heap.size = w1.heap.size + 1 := by simp
    have hz1 := b1.size
    have HT := hide (unhide HTP _ (below_next (unhide HA) b2))
    have HB2 := hide b2
    have HK2 := hide k2
    have HKB := hide kB
    have HZ1 := hide hz1
    have HZB := hide zB
    clear HFV b1 hB kB b2 hz1 k2 HKA zB HTP
    go_wp2_with fail
    generalize (w1.alloc (.cells #[.string wb, .int .i64 m.kind, .bool true, .bool true, .bool sf, .bool sp, .func (Fn.func fid) #[] #[]] 146)) = w2 at *
    generalize w1.heap.size = V0 at *
    refine (unhide HT).mono ?_
    rintro e w3 ⟨pv, rfl, op, b3⟩
    obtain ⟨pa, pg, pc, rfl, _, _⟩ := op.shape
    have zB := unhide HZB
    have zA := unhide HZA
    have hz1 := unhide HZ1
    have k3 := (b3.block w.heap.size (by omega)).trans (unhide HK2)
    have d2 : w3.cell? ⟨w.heap.size, 2, none⟩ = some (.string m.src) := Lib.cell_of_heap k3 2
    have b23 := below_next (unhide HB2) b3
    have HT2 := hide (unhide HTS _ (below_next (unhide HA) b23))
    have HB3 := hide b3
    have HK3 := hide k3
    have HKB3 := hide ((b3.block V0 (by omega)).trans (unhide HKB))
    have HZ3 := hide b3.size
    have HB23 := hide b23
    clear HT op b3 k3 b23 HK2 HKB HB2 c1 c2 c3 zA zB hz1 HTS
    go_wp2_with fail
    refine (unhide HT2).mono ?_
    rintro e w4 ⟨fv, rfl, of, b4⟩
    obtain ⟨fa, fg, fc, rfl, _, _⟩ := of.shape
    have zB := unhide HZB
    have zA := unhide HZA
    have hz1 := unhide HZ1
    have hz3 := unhide HZ3
    have kv := (b4.block V0 (by omega)).trans (unhide HKB3)
    have v0 : w4.cell? ⟨V0, 0, none⟩ = some (.string wb) := Lib.cell_of_heap kv 0
    have v1 : w4.cell? ⟨V0, 1, none⟩ = some (.int .i64 m.kind) := Lib.cell_of_heap kv 1
    have v2 : w4.cell? ⟨V0, 2, none⟩ = some (.bool true) := Lib.cell_of_heap kv 2
    have v3 : w4.cell? ⟨V0, 3, none⟩ = some (.bool true) := Lib.cell_of_heap kv 3
    have v4 : w4.cell? ⟨V0, 4, none⟩ = some (.bool sf) := Lib.cell_of_heap kv 4
    have v5 : w4.cell? ⟨V0, 5, none⟩ = some (.bool sp) := Lib.cell_of_heap kv 5
    have v6 : w4.cell? ⟨V0, 6, none⟩ = some (.func (Fn.func fid) #[] #[]) := Lib.cell_of_heap kv 6
    have hlt4 : V0 < w4.heap.size := (Array.getElem?_eq_some_iff.1 kv).1
    have k4 := (b4.block w.heap.size (by omega)).trans (unhide HK3)
    have hC := alloc_b w4 (.cells #[.string wb, .int .i64 m.kind, .bool true, .bool true, .bool sf, .bool sp, .func (Fn.func fid) #[] #[], .slice pa (tkOf m.path).length pc, .slice fa (tkOf m.src).length fc, .nilIface] 148)
    have kC := heap_alloc_new w4 (.cells #[.string wb, .int .i64 m.kind, .bool true, .bool true, .bool sf, .bool sp, .func (Fn.func fid) #[] #[], .slice pa (tkOf m.path).length pc, .slice fa (tkOf m.src).length fc, .nilIface] 148)
    have zC : (w4.alloc (.cells #[.string wb, .int .i64 m.kind, .bool true, .bool true, .bool sf, .bool sp, .func (Fn.func fid) #[] #[], .slice pa (tkOf m.path).length pc, .slice fa (tkOf m.src).length fc, .nilIface] 148)).heap.size = w4.heap.size + 1 := by simp
    have e3 : (w4.alloc (.cells #[.string wb, .int .i64 m.kind, .bool true, .bool true, .bool sf, .bool sp, .func (Fn.func fid) #[] #[], .slice pa (tkOf m.path).length pc, .slice fa (tkOf m.src).length fc, .nilIface] 148)).cell? ⟨V0, 3, none⟩ = some (.bool true) := Lib.cell_of_heap ((hC.block V0 hlt4).trans kv) 3
    have hz4 := b4.size
    have f3 : (w4.alloc (.cells #[.string wb, .int .i64 m.kind, .bool true, .bool true, .bool sf, .bool sp, .func (Fn.func fid) #[] #[], .slice pa (tkOf m.path).length pc, .slice fa (tkOf m.src).length fc, .nilIface] 148)).cell? ⟨w.heap.size, 3, none⟩ = some (.string m.val) := Lib.cell_of_heap ((hC.block w.heap.size (by omega)).trans k4) 3
    have b25 := below_next (below_next (unhide HB23) b4) hC
    have HR := hide (unhide HRC _ (below_next (unhide HA) b25))
    have HB5 := hide (below_next (unhide HA) b25)
    have HKC := hide kC
    have HZC := hide zC
    have HZ4 := hide hz4
    clear HT2 of b4 HB3 HK3 HKB3 HB23 d2 zA zB hz1 hz3 kv k4 hC kC zC b25 HRC hlt4 hz4
    go_wp2_with fail
    generalize (w4.alloc (.cells #[.string wb, .int .i64 m.kind, .bool true, .bool true, .bool sf, .bool sp, .func (Fn.func fid) #[] #[], .slice pa (tkOf m.path).length pc, .slice fa (tkOf m.src).length fc, .nilIface] 148)) = w5 at *
    generalize w4.heap.size = G0 at *
    refine (unhide HR).mono ?_
    rintro e w6 ⟨rfl, b6⟩
    have zC := unhide HZC
    have k6 := (b6.block G0 (by omega)).trans (unhide HKC)
    have g9 : w6.cell? ⟨G0, 9, none⟩ = some .nilIface := Lib.cell_of_heap k6 9
    have f9 := Lib.frozen_of_heap k6 9
    have HB6 := hide b6
    clear HR b6 k6 zC HKC
    go_wp2
    go_ret2
    have zB := unhide HZB
    have zA := unhide HZA
    have hz1 := unhide HZ1
    have hz3 := unhide HZ3
    have hz4 := unhide HZ4
    have zC := unhide HZC
    have hz5 := (unhide HB5).size
    refine ⟨rfl, ((unhide HB5).trans ((unhide HB6).mono (by omega))).setCell (p := ⟨G0, 9, none⟩) (by show w.heap.size ≤ G0; omega) _⟩
theorem readOp_bad (m : POp) (w : World) (h : opOk m = false) (hw : RdW w) (hz1 : m.path.size ≤ 1048576) (hz2 : m.src.size ≤ 1048576) (hz3 : m.val.size ≤ 1048576) :
    Calls Tryz.prog 60 #[.agg #[.int .i64 m.kind, .string m.path, .string m.src, .string m.val]] w (RNo w) := by
  by_cases hk : 1 ≤ m.kind ∧ m.kind ≤ 6
  · by_cases hs : hasF m.kind = false ∧ ¬ m.src.toList = []
    · exact readOp_src m w hk.1 hk.2 hs.1 hs.2
    · have hsf : hasF m.kind = false → m.src.toList = [] := fun h1 => Classical.byContradiction fun h2 => hs ⟨h1, h2⟩
      by_cases hv : hasV m.kind = false ∧ ¬ m.val.toList = []
      · exact readOp_val m w hk.1 hk.2 hsf hv.1 hv.2
      · have hvn : hasV m.kind = false → m.val.toList = [] := fun h1 => Classical.byContradiction fun h2 => hv ⟨h1, h2⟩
        by_cases hpq : (ptoks m.path.data.toList).isSome = false ∨ (ptoks m.src.data.toList).isSome = false
        · exact readOp_tok m w hk.1 hk.2 hw hz1 hz2 hsf hvn hpq
        · rcases opOk_not h with h | h | h | h | h
          · exact absurd hk h
          · exact absurd h hs
          · exact absurd h hv
          · exact absurd h hpq
          · have hp : (ptoks m.path.data.toList).isSome = true := by cases hc : (ptoks m.path.data.toList).isSome <;> simp_all
            have hq : (ptoks m.src.data.toList).isSome = true := by cases hc : (ptoks m.src.data.toList).isSome <;> simp_all
            exact readOp_can m w hk.1 hk.2 hw hz1 hz2 hz3 hsf hp hq h.1 h.2
  · exact readOp_kind m w hk
end Go.Proofs.YtcjajchfjoffnaaGreatDoor

namespace Go.Proofs.YtcjajchfjoffnaaGreatDoor
open Go.RowKit

/-- Where an operation in the form in which it is done lies. -/
structure OpQ where
  g : Nat
  pv : Value
  fv : Value
  vv : Value
  v : JV
structure OpS (w : World) (S : Nat → Prop) (m : POp) (q : OpQ) : Prop where
  blk : w.heap[q.g]? = some (opB m.kind q.pv q.fv q.vv)
  sg : S q.g
  path : OT w 0 q.pv (tkOf m.path)
  sp : ∀ b, q.pv.ownBlock = some b → S b
  src : OT w 0 q.fv (tkOf m.src)
  ss : ∀ b, q.fv.ownBlock = some b → S b
  val : hasV m.kind = true → readR m.val = .inr q.v ∧ strOf (ct q.v) = m.val ∧ ∃ t p, q.vv = .iface t p ∧ Rep w S q.v q.vv
theorem own_keepb {w w' : World} {e size n : Nat} {v : Value} {xs : List Value} (h : w.ownsRow 0 e size v n xs) (hk : ∀ b, v.ownBlock = some b → w'.heap[b]? = w.heap[b]?) : w'.ownsRow 0 e size v n xs := by
  refine ⟨h.1, ?_⟩
  rcases h.2 with h0 | ⟨g, cap, cur, hv, hB, hg, r⟩
  · exact .inl h0
  · exact .inr ⟨g, cap, cur, hv, hB, (hk g (by rw [hv]; rfl)).trans hg, r⟩
theorem OpS.keep {w w' : World} {S S' : Nat → Prop} {m : POp} {q : OpQ} (h : OpS w S m q) (hk : ∀ k, S k → w'.heap[k]? = w.heap[k]?) (hS : ∀ k, S k → S' k) : OpS w' S' m q :=
  ⟨(hk _ h.sg).trans h.blk, hS _ h.sg, own_keepb h.path fun b hb => hk b (h.sp b hb), fun b hb => hS b (h.sp b hb), own_keepb h.src fun b hb => hk b (h.ss b hb), fun b hb => hS b (h.ss b hb),
   fun hv => by obtain ⟨h1, h2, t, p, h3, h4⟩ := h.val hv; exact ⟨h1, h2, t, p, h3, Rep.keep hk hS _ _ h4⟩⟩
theorem OpAt.toS {w : World} {B : Nat} {m : POp} {g : Nat} {pv fv vv : Value} {v : JV} (h : OpAt w B m g pv fv vv v) : OpS w (fun k => B ≤ k ∧ k < w.heap.size) m ⟨g, pv, fv, vv, v⟩ :=
  ⟨h.blk, ⟨h.ge, (Array.getElem?_eq_some_iff.1 h.blk).1⟩, own_mono h.path (Nat.zero_le _), fun b hb => h.path.lt b hb, own_mono h.src (Nat.zero_le _), fun b hb => h.src.lt b hb, h.val⟩
def ptrV (q : OpQ) : Value := .pointer (some ⟨q.g, 0, none⟩)
/-- The operations that were read, as a row of pointers. -/
structure OpsL (w : World) (B : Nat) (S : Nat → Prop) (lv : Value) (ms : List POp) (qs : List OpQ) : Prop where
  len : qs.length = ms.length
  row : w.ownsRow B 90 1 lv qs.length (qs.map ptrV)
  ops : ∀ (j : Nat) m q, ms[j]? = some m → qs[j]? = some q → OpS w S m q
  off : ∀ k, S k → lv.ownBlock ≠ some k
/-- What the blocks of the operations are. -/
def SOps (w0 : Nat) (w : World) (lv : Value) (k : Nat) : Prop := w0 ≤ k ∧ k < w.heap.size ∧ lv.ownBlock ≠ some k
theorem OpsL.snoc {wr w2 w3 w4 : World} {B Wb : Nat} {lv lv' : Value} {ms : List POp} {qs : List OpQ} {m : POp} {q : OpQ} (hL : OpsL wr B (SOps B wr lv) lv ms qs) (hb2 : Below wr.heap.size wr w2) (hat : OpAt w2 Wb m q.g q.pv q.fv q.vv q.v) (hW : wr.heap.size ≤ Wb) (hB : B ≤ wr.heap.size)
    (hb3 : Below w2.heap.size w2 w3) (hrow : w4.ownsRow B 90 1 lv' (qs.length + 1) (qs.map ptrV ++ [ptrV q])) (hg : w3.grownBy w4 lv.ownBlock) (hwh : lv'.ownBlock = lv.ownBlock ∨ lv'.ownBlock = some w3.heap.size) :
    OpsL w4 B (SOps B w4 lv') lv' (ms ++ [m]) (qs ++ [q]) := by
  have z2 := hb2.size
  have z3 := hb3.size
  have z4 := hg.size
  have hkeep : ∀ k, k < w3.heap.size → lv.ownBlock ≠ some k → w4.heap[k]? = w3.heap[k]? := fun k h1 h2 => hg.block k h1 (fun e => h2 e.symm)
  have hsub : ∀ k, B ≤ k → k < w3.heap.size → lv.ownBlock ≠ some k → SOps B w4 lv' k := fun k h1 h2 h3 => ⟨h1, by omega, fun e => by
    rcases hwh with h | h
    · exact h3 (h ▸ e)
    · rw [h] at e; injection e with e; omega⟩
  refine ⟨by simp [hL.len], by simpa using hrow, fun j m' q' hm hq => ?_, fun k hk => hk.2.2⟩
  by_cases hj : j < ms.length
  · rw [List.getElem?_append_left hj] at hm
    rw [List.getElem?_append_left (by rw [hL.len]; exact hj)] at hq
    refine (hL.ops j m' q' hm hq).keep (fun k hk => ?_) (fun k hk => hsub k hk.1 (by have := hk.2.1; omega) hk.2.2)
    have := hk.2.1
    rw [hkeep k (by omega) hk.2.2, hb3.block k (by omega), hb2.block k (by omega)]
  · have hjl := (List.getElem?_eq_some_iff.1 hm).1
    rw [List.length_append, List.length_singleton] at hjl
    obtain rfl : j = ms.length := by omega
    rw [List.getElem?_append_right (Nat.le_refl _)] at hm
    rw [List.getElem?_append_right (by rw [hL.len]; exact Nat.le_refl _), hL.len] at hq
    simp at hm hq
    subst hm; subst hq
    have hoff : ∀ k, Wb ≤ k → lv.ownBlock ≠ some k := fun k h1 e => by
      have := (hL.row.lt k e).2
      omega
    refine hat.toS.keep (fun k hk => ?_) (fun k hk => hsub k (by omega) (by omega) (hoff k hk.1))
    rw [hkeep k (by omega) (hoff k hk.1), hb3.block k hk.2]
theorem infoOpP : (Tryz.prog.info? 90).map (fun i => (i.zero, i.size, i.bytes)) = some (some (.pointer none), 1, 8) := by kernel_rfl
/-- What readOps answers. -/
def ROsP (ms : List POp) (w : World) (e : Ending) (w' : World) : Prop := Below w.heap.size w w' ∧
  (0 ≤ badI ms → ∃ t p, e = .returned (.tuple #[.slice none 0 0, .iface t p])) ∧
  (badI ms < 0 → ∃ lv qs, e = .returned (.tuple #[lv, .nilIface]) ∧ OpsL w' w.heap.size (SOps w.heap.size w' lv) lv ms qs)
set_option maxRecDepth 100000 in
set_option maxHeartbeats 2000000 in
theorem readOps_walk (v : Value) (ms : List POp) (bl : List Nat) (w : World) (h : ORow opE w v ms bl) (hs : szOps ms ≤ 1048576) (hw : RdW w) :
    Calls Tryz.prog 50 #[v] w (ROsP ms w) := by
  have hin := opsIn hs
  obtain ⟨xa, xc, rfl, h1, hxa⟩ := h.form
  have H := hide h
  have HXA := hide hxa
  have HIN := hide hin
  have hln : ms.length ≤ 1048576 := by unfold szOps at hs; omega
  clear h h1 hxa hs hin
  by_cases h100 : 100 < ms.length
  · have hb : badI ms = 100 := by unfold badI; rw [if_pos h100]
    have HB := hide hb
    clear hb
    go_enter Tryz.func50, Tryz.ntmps50
    go_wp2
    go_ret2
    exact ⟨below_next (alloc_b w _) (alloc_b _ _), fun _ => ⟨_, _, rfl⟩, fun h => by rw [unhide HB] at h; omega⟩
  · have t100 : ¬ (100 : Int) < (ms.length : Int) := by omega
    obtain ⟨i0, hi, hz0, hz1, hz2⟩ := info_parts infoOpP
    go_enter Tryz.func50, Tryz.ntmps50
    go_wp2_with (at_make; refine wpList_make_own _ rfl _ _ 81 rfl w.heap.size 90 i0 (.pointer none) 1 Tryz.underlying81 hi hz0 hz1 .i64 .i64 _ ms.length rfl rfl rfl (by rw [hz2]; omega) (by unfold maxLen; omega) (Nat.le_refl _) ?_)
    intro w1 hown1 hgrow1
    have hb1 : Below w.heap.size w w1 := (Below.refl _ _).grown hgrow1 (Nat.le_refl _) (by intro k hk; cases hk)
    have HB1 := hide hb1
    have HO1 := hide hown1
    clear hb1 hown1 hgrow1
    go_wp2
    go_loopw [4, 23] (fun lv i wr => ∃ (k : Nat) (qs : List OpQ), k ≤ ms.length ∧ i = .int .i64 k ∧ Below w.heap.size w wr ∧ OpsL wr w.heap.size (SOps w.heap.size wr lv) lv (ms.take k) qs ∧ ∀ j (h : j < ms.length), j < k → opOk ms[j] = true) (fun _ i _ => ms.length - (intOf i).toNat)
    case atStart => exact ⟨0, [], Nat.zero_le _, rfl, unhide HB1, ⟨by simp, unhide HO1, fun j m q hm _ => by simp at hm, fun k hk => hk.2.2⟩, fun j h hj => by omega⟩
    case round =>
      obtain ⟨k, qs, hk, rfl, hb, hL, hgd⟩ := hrel
      have hlen : qs.length = k := by rw [hL.len, List.length_take]; omega
      obtain ⟨la, lc, rfl, hlf⟩ : ∃ la lc, u4 = .slice la k lc ∧ True := by
        rcases hL.row.2 with ⟨hv, hn⟩ | ⟨g, cap, cur, hv, _⟩
        · exact ⟨none, 0, by rw [hv, ← hlen, hn], trivial⟩
        · exact ⟨some ⟨g, 0, none⟩, cap, by rw [hv, hlen], trivial⟩
      by_cases hlt : k < ms.length
      · obtain ⟨g, rfl⟩ := unhide HXA (by omega)
        obtain ⟨vs, ib, hE, hc, _⟩ := ((unhide H).below hb).at (List.getElem?_eq_getElem hlt)
        obtain ⟨rfl, _⟩ := hE
        have c0 : wr.cell? ⟨g, k * 4, none⟩ = some (.int .i64 ms[k].kind) := (hc 0 _ rfl).1
        have c1 : wr.cell? ⟨g, k * 4 + 1, none⟩ = some (.string ms[k].path) := (hc 1 _ rfl).1
        have c2 : wr.cell? ⟨g, k * 4 + 2, none⟩ = some (.string ms[k].src) := (hc 2 _ rfl).1
        have c3 : wr.cell? ⟨g, k * 4 + 3, none⟩ = some (.string ms[k].val) := (hc 3 _ rfl).1
        have HL := hide hL
        have HGD := hide hgd
        have HBR := hide hb
        clear hc hL hgd hb hlf
        have hA := alloc_b wr (.cells #[.int .i64 ms[k].kind, .string ms[k].path, .string ms[k].src, .string ms[k].val] 76)
        have zA : (wr.alloc (.cells #[.int .i64 ms[k].kind, .string ms[k].path, .string ms[k].src, .string ms[k].val] 76)).heap.size = wr.heap.size + 1 := by simp
        obtain ⟨i1, i2, i3⟩ := unhide HIN ms[k] (List.getElem_mem hlt)
        have hwA := hw.up (below_next (unhide HBR) hA)
        have HA := hide hA
        have HZA := hide zA
        cases hok : opOk ms[k] with
        | false =>
          have HM := hide (readOp_bad ms[k] _ hok hwA i1 i2 i3)
          have HBAD : Hid (badI ms = (k : Int)) := badI_some (by omega) hlt hok (unhide HGD)
          clear hok hwA hA zA i1 i2 i3
          go_wp2_with fail
          generalize (wr.alloc (.cells #[.int .i64 ms[k].kind, .string ms[k].path, .string ms[k].src, .string ms[k].val] 76)) = wA at *
          refine (unhide HM).mono ?_
          rintro e w2 ⟨rfl, b2⟩
          have HB2 := hide (below_next (below_next (unhide HBR) (unhide HA)) b2)
          clear HM b2
          go_wp2
          go_ret2
          exact ⟨below_next (below_next (unhide HB2) (alloc_b _ _)) (alloc_b _ _), fun _ => ⟨_, _, rfl⟩, fun h => by rw [unhide HBAD] at h; omega⟩
        | true =>
          have HM := hide (readOp_good ms[k] _ hok hwA i1 i2 i3)
          have HGD2 : Hid (∀ j (h : j < ms.length), j < k + 1 → opOk ms[j] = true) := fun j h hj => by
            by_cases e : j = k
            · subst e; exact hok
            · exact unhide HGD j h (by omega)
          clear hok hwA hA zA i1 i2 i3
          go_wp2_with fail
          generalize (wr.alloc (.cells #[.int .i64 ms[k].kind, .string ms[k].path, .string ms[k].src, .string ms[k].val] 76)) = wA at *
          refine (unhide HM).mono ?_
          rintro e w2 ⟨gq, pv, fv, vv, v, rfl, hat, b2⟩
          have b02 := below_next (unhide HA) b2
          have hA3 := alloc_b w2 (.cells #[.pointer (some ⟨gq, 0, none⟩)] 90)
          have k3 := heap_alloc_new w2 (.cells #[.pointer (some ⟨gq, 0, none⟩)] 90)
          have z02 := b02.size
          have z3 : (w2.alloc (.cells #[.pointer (some ⟨gq, 0, none⟩)] 90)).heap.size = w2.heap.size + 1 := by simp
          have hwr := (unhide HBR).size
          have row3 := own_below (own_below (unhide HL).row b02) hA3
          rw [hlen] at row3
          have HAT := hide hat
          have HB02 := hide b02
          have HA3 := hide hA3
          have HZ3 := hide z3
          have cx : (w2.alloc (.cells #[.pointer (some ⟨gq, 0, none⟩)] 90)).cell? ⟨w2.heap.size, 0, none⟩ = some (.pointer (some ⟨gq, 0, none⟩)) := Lib.cell_of_heap k3 0
          have HR3 := hide row3
          have HCX := hide cx
          clear HM hat b2 b02 hA3 k3 z3 row3 cx
          go_wp2_with (at_builtin; refine wpList_append_one Tryz.underlying81 infoOpP rfl (by decide) rfl (.tmp 42) (.tmp 44) rfl (B := w.heap.size) rfl (unhide HR3) (y := .pointer (some ⟨gq, 0, none⟩)) rfl rfl (unhide HCX) (by have := unhide HZ3; omega) (by omega) ?_)
          intro lv' w4 hrow4 hg4 hwh4
          obtain ⟨la', lc', rfl⟩ : ∃ la lc, lv' = .slice la (k + 1) lc := by
            rcases hrow4.2 with ⟨_, hn⟩ | ⟨g, cap, cur, hv, _⟩
            · omega
            · exact ⟨_, _, hv⟩
          have hL4 := OpsL.snoc (q := ⟨gq, pv, fv, vv, v⟩) (unhide HL) (unhide HB02) (unhide HAT) (by have := unhide HZA; omega) hwr (unhide HA3) (by rw [hlen]; exact hrow4) hg4 (by rw [unhide HZ3]; exact hwh4)
          rw [← List.take_succ_eq_append_getElem hlt] at hL4
          have HL4 := hide hL4
          have HB4 := hide ((below_next (below_next (unhide HBR) (unhide HB02)) (unhide HA3)).grown hg4 (by have := unhide HZ3; omega) (fun b hb => ((unhide HL).row.lt b hb).1))
          clear hL4 hrow4 hg4 hwh4 HL HAT HB02 HA3 HZ3 HR3 HCX HBR HA HZA c0 c1 c2 c3
          go_wp2
          go_roundw
          case rel => exact ⟨k + 1, _, by omega, by go_num, unhide HB4, unhide HL4, unhide HGD2⟩
          case measure => simp [intOf]; omega
      · have hk' : k = ms.length := by omega
        subst hk'
        rw [List.take_length] at hL
        have HBAD : Hid (badI ms = -1) := badI_none (by omega) (fun j h => hgd j h h)
        have HL := hide hL
        have HBR := hide hb
        clear hL hb hgd hlf
        go_wp2
        go_ret2
        exact ⟨unhide HBR, fun h => (by rw [unhide HBAD] at h; omega), fun _ => ⟨_, qs, rfl, unhide HL⟩⟩
end Go.Proofs.YtcjajchfjoffnaaGreatDoor
