import Derived.Test.YtiolpmhodbefoaaOpenHub
import Derived.Test.YtiolpmhodbefoaaSegRep
namespace Go.Proofs.Ytiolpmhodbefoaa
open Go.ChangeShapes Go.WideShapes Go.ChangeAt Go.RowKit Go.Deep

section
variable {H : Type} {enc : TypeId × Value → H} {w : World} {sp : Nat → Bool} {held : Bool}
theorem lst5 {α : Type} {l : List α} (h : l.length = 5) : ∃ a b c d e, l = [a, b, c, d, e] := by
  match l, h with
  | [a, b, c, d, e], _ => exact ⟨a, b, c, d, e, rfl⟩
theorem lst9 {α : Type} {l : List α} (h : l.length = 9) : ∃ a b c d e f g i j, l = [a, b, c, d, e, f, g, i, j] := by
  match l, h with
  | [a, b, c, d, e, f, g, i, j], _ => exact ⟨a, b, c, d, e, f, g, i, j, rfl⟩
instance : Inhabited PStep := ⟨⟨false, ByteArray.empty, 0⟩⟩
instance : Inhabited PFOp := ⟨⟨0, 0, ByteArray.empty, false, []⟩⟩
instance : Inhabited PSel := ⟨⟨0, ByteArray.empty, false, false, false, 0, 0, 0, []⟩⟩
instance : Inhabited PSeg := ⟨⟨false, []⟩⟩
theorem open_step {n : Nat} {cs : List Value} {y : DataW H × List MemPlace} (h : DataW.trod enc Try.prog w 0 sp held n 154 cs = some y) : ∃ m, stepR.R w cs m := by
  obtain ⟨xs, k, _, _, hl, hxl, hf⟩ := DataW.trod_struct Try.underlying154 h
  have hl0 : cs.length = 3 := hl.trans (by kernel_rfl)
  obtain ⟨a0, a1, a2, rfl⟩ := lst3 hl0
  obtain ⟨y0, y1, y2, rfl⟩ := lst3 hxl
  have h0 : DataW.trod enc Try.prog w 0 sp held k 4 (List.take (Try.prog.cellsOf 4) [a0, a1, a2]) = some y0 := hf 0 _ rfl
  have h1 : DataW.trod enc Try.prog w 0 sp held k 9 (List.take (Try.prog.cellsOf 9) [a1, a2]) = some y1 := hf 1 _ rfl
  have h2 : DataW.trod enc Try.prog w 0 sp held k 3 (List.take (Try.prog.cellsOf 3) [a2]) = some y2 := hf 2 _ rfl
  rw [show Try.prog.cellsOf 4 = 1 from by kernel_rfl] at h0
  rw [show Try.prog.cellsOf 9 = 1 from by kernel_rfl] at h1
  rw [show Try.prog.cellsOf 3 = 1 from by kernel_rfl] at h2
  obtain ⟨z0, e0⟩ := leaf_bool Try.underlying4 (h0 : DataW.trod enc Try.prog w 0 sp held k 4 [a0] = some y0)
  obtain ⟨z1, e1, s1⟩ := leaf_str Try.underlying9 (h1 : DataW.trod enc Try.prog w 0 sp held k 9 [a1] = some y1)
  obtain ⟨z2, e2⟩ := leaf_int Try.underlying3 (h2 : DataW.trod enc Try.prog w 0 sp held k 3 [a2] = some y2)
  cases e0; cases e1; cases e2
  exact ⟨⟨z0, z1, z2⟩, rfl, s1⟩
theorem open_steps {fuel : Nat} {cs : List Value} {x : DataW H × List MemPlace} (h : DataW.trod enc Try.prog w 0 sp held fuel 129 cs = some x) : ∃ v xs, cs = [v] ∧ RRow stepR w v xs :=
  open_rrow stepR Try.underlying129 (by kernel_rfl) (by decide) (fun _ _ _ h => open_step h) h
theorem open_fop {n : Nat} {cs : List Value} {y : DataW H × List MemPlace} (h : DataW.trod enc Try.prog w 0 sp held n 131 cs = some y) : ∃ m, fopR.R w cs m := by
  obtain ⟨xs, k, _, _, hl, hxl, hf⟩ := DataW.trod_struct Try.underlying131 h
  have hl0 : cs.length = 5 := hl.trans (by kernel_rfl)
  obtain ⟨a0, a1, a2, a3, a4, rfl⟩ := lst5 hl0
  obtain ⟨y0, y1, y2, y3, y4, rfl⟩ := lst5 hxl
  have h0 : DataW.trod enc Try.prog w 0 sp held k 3 (List.take (Try.prog.cellsOf 3) [a0, a1, a2, a3, a4]) = some y0 := hf 0 _ rfl
  have h1 : DataW.trod enc Try.prog w 0 sp held k 3 (List.take (Try.prog.cellsOf 3) [a1, a2, a3, a4]) = some y1 := hf 1 _ rfl
  have h2 : DataW.trod enc Try.prog w 0 sp held k 9 (List.take (Try.prog.cellsOf 9) [a2, a3, a4]) = some y2 := hf 2 _ rfl
  have h3 : DataW.trod enc Try.prog w 0 sp held k 4 (List.take (Try.prog.cellsOf 4) [a3, a4]) = some y3 := hf 3 _ rfl
  have h4 : DataW.trod enc Try.prog w 0 sp held k 129 (List.take (Try.prog.cellsOf 129) [a4]) = some y4 := hf 4 _ rfl
  rw [show Try.prog.cellsOf 3 = 1 from by kernel_rfl] at h0 h1
  rw [show Try.prog.cellsOf 9 = 1 from by kernel_rfl] at h2
  rw [show Try.prog.cellsOf 4 = 1 from by kernel_rfl] at h3
  rw [show Try.prog.cellsOf 129 = 1 from by kernel_rfl] at h4
  obtain ⟨z0, e0⟩ := leaf_int Try.underlying3 (h0 : DataW.trod enc Try.prog w 0 sp held k 3 [a0] = some y0)
  obtain ⟨z1, e1⟩ := leaf_int Try.underlying3 (h1 : DataW.trod enc Try.prog w 0 sp held k 3 [a1] = some y1)
  obtain ⟨z2, e2, s2⟩ := leaf_str Try.underlying9 (h2 : DataW.trod enc Try.prog w 0 sp held k 9 [a2] = some y2)
  obtain ⟨z3, e3⟩ := leaf_bool Try.underlying4 (h3 : DataW.trod enc Try.prog w 0 sp held k 4 [a3] = some y3)
  obtain ⟨q4, z4, e4, r4⟩ := open_steps (h4 : DataW.trod enc Try.prog w 0 sp held k 129 [a4] = some y4)
  cases e0; cases e1; cases e2; cases e3; cases e4
  exact ⟨⟨z0, z1, z2, z3, z4⟩, _, rfl, s2, r4⟩
theorem open_fops {fuel : Nat} {cs : List Value} {x : DataW H × List MemPlace} (h : DataW.trod enc Try.prog w 0 sp held fuel 89 cs = some x) : ∃ v xs, cs = [v] ∧ RRow fopR w v xs :=
  open_rrow fopR Try.underlying89 (by kernel_rfl) (by decide) (fun _ _ _ h => open_fop h) h
theorem open_sel {n : Nat} {cs : List Value} {y : DataW H × List MemPlace} (h : DataW.trod enc Try.prog w 0 sp held n 91 cs = some y) : ∃ m, selR.R w cs m := by
  obtain ⟨xs, k, _, _, hl, hxl, hf⟩ := DataW.trod_struct Try.underlying91 h
  have hl0 : cs.length = 9 := hl.trans (by kernel_rfl)
  obtain ⟨a0, a1, a2, a3, a4, a5, a6, a7, a8, rfl⟩ := lst9 hl0
  obtain ⟨y0, y1, y2, y3, y4, y5, y6, y7, y8, rfl⟩ := lst9 hxl
  have h0 : DataW.trod enc Try.prog w 0 sp held k 3 (List.take (Try.prog.cellsOf 3) [a0, a1, a2, a3, a4, a5, a6, a7, a8]) = some y0 := hf 0 _ rfl
  have h1 : DataW.trod enc Try.prog w 0 sp held k 9 (List.take (Try.prog.cellsOf 9) [a1, a2, a3, a4, a5, a6, a7, a8]) = some y1 := hf 1 _ rfl
  have h2 : DataW.trod enc Try.prog w 0 sp held k 4 (List.take (Try.prog.cellsOf 4) [a2, a3, a4, a5, a6, a7, a8]) = some y2 := hf 2 _ rfl
  have h3 : DataW.trod enc Try.prog w 0 sp held k 4 (List.take (Try.prog.cellsOf 4) [a3, a4, a5, a6, a7, a8]) = some y3 := hf 3 _ rfl
  have h4 : DataW.trod enc Try.prog w 0 sp held k 4 (List.take (Try.prog.cellsOf 4) [a4, a5, a6, a7, a8]) = some y4 := hf 4 _ rfl
  have h5 : DataW.trod enc Try.prog w 0 sp held k 3 (List.take (Try.prog.cellsOf 3) [a5, a6, a7, a8]) = some y5 := hf 5 _ rfl
  have h6 : DataW.trod enc Try.prog w 0 sp held k 3 (List.take (Try.prog.cellsOf 3) [a6, a7, a8]) = some y6 := hf 6 _ rfl
  have h7 : DataW.trod enc Try.prog w 0 sp held k 3 (List.take (Try.prog.cellsOf 3) [a7, a8]) = some y7 := hf 7 _ rfl
  have h8 : DataW.trod enc Try.prog w 0 sp held k 89 (List.take (Try.prog.cellsOf 89) [a8]) = some y8 := hf 8 _ rfl
  rw [show Try.prog.cellsOf 3 = 1 from by kernel_rfl] at h0 h5 h6 h7
  rw [show Try.prog.cellsOf 9 = 1 from by kernel_rfl] at h1
  rw [show Try.prog.cellsOf 4 = 1 from by kernel_rfl] at h2 h3 h4
  rw [show Try.prog.cellsOf 89 = 1 from by kernel_rfl] at h8
  obtain ⟨z0, e0⟩ := leaf_int Try.underlying3 (h0 : DataW.trod enc Try.prog w 0 sp held k 3 [a0] = some y0)
  obtain ⟨z1, e1, s1⟩ := leaf_str Try.underlying9 (h1 : DataW.trod enc Try.prog w 0 sp held k 9 [a1] = some y1)
  obtain ⟨z2, e2⟩ := leaf_bool Try.underlying4 (h2 : DataW.trod enc Try.prog w 0 sp held k 4 [a2] = some y2)
  obtain ⟨z3, e3⟩ := leaf_bool Try.underlying4 (h3 : DataW.trod enc Try.prog w 0 sp held k 4 [a3] = some y3)
  obtain ⟨z4, e4⟩ := leaf_bool Try.underlying4 (h4 : DataW.trod enc Try.prog w 0 sp held k 4 [a4] = some y4)
  obtain ⟨z5, e5⟩ := leaf_int Try.underlying3 (h5 : DataW.trod enc Try.prog w 0 sp held k 3 [a5] = some y5)
  obtain ⟨z6, e6⟩ := leaf_int Try.underlying3 (h6 : DataW.trod enc Try.prog w 0 sp held k 3 [a6] = some y6)
  obtain ⟨z7, e7⟩ := leaf_int Try.underlying3 (h7 : DataW.trod enc Try.prog w 0 sp held k 3 [a7] = some y7)
  obtain ⟨q8, z8, e8, r8⟩ := open_fops (h8 : DataW.trod enc Try.prog w 0 sp held k 89 [a8] = some y8)
  cases e0; cases e1; cases e2; cases e3; cases e4; cases e5; cases e6; cases e7; cases e8
  exact ⟨⟨z0, z1, z2, z3, z4, z5, z6, z7, z8⟩, _, rfl, s1, r8⟩
theorem open_sels {fuel : Nat} {cs : List Value} {x : DataW H × List MemPlace} (h : DataW.trod enc Try.prog w 0 sp held fuel 34 cs = some x) : ∃ v xs, cs = [v] ∧ RRow selR w v xs :=
  open_rrow selR Try.underlying34 (by kernel_rfl) (by decide) (fun _ _ _ h => open_sel h) h
theorem open_seg {n : Nat} {cs : List Value} {y : DataW H × List MemPlace} (h : DataW.trod enc Try.prog w 0 sp held n 36 cs = some y) : ∃ m, segR.R w cs m := by
  obtain ⟨xs, k, _, _, hl, hxl, hf⟩ := DataW.trod_struct Try.underlying36 h
  have hl0 : cs.length = 2 := hl.trans (by kernel_rfl)
  obtain ⟨a0, a1, rfl⟩ := lst2 hl0
  obtain ⟨y0, y1, rfl⟩ := lst2 hxl
  have h0 : DataW.trod enc Try.prog w 0 sp held k 4 (List.take (Try.prog.cellsOf 4) [a0, a1]) = some y0 := hf 0 _ rfl
  have h1 : DataW.trod enc Try.prog w 0 sp held k 34 (List.take (Try.prog.cellsOf 34) [a1]) = some y1 := hf 1 _ rfl
  rw [show Try.prog.cellsOf 4 = 1 from by kernel_rfl] at h0
  rw [show Try.prog.cellsOf 34 = 1 from by kernel_rfl] at h1
  obtain ⟨z0, e0⟩ := leaf_bool Try.underlying4 (h0 : DataW.trod enc Try.prog w 0 sp held k 4 [a0] = some y0)
  obtain ⟨q1, z1, e1, r1⟩ := open_sels (h1 : DataW.trod enc Try.prog w 0 sp held k 34 [a1] = some y1)
  cases e0; cases e1
  exact ⟨⟨z0, z1⟩, _, rfl, r1⟩
theorem open_segs {fuel : Nat} {cs : List Value} {x : DataW H × List MemPlace} (h : DataW.trod enc Try.prog w 0 sp held fuel 22 cs = some x) : ∃ v xs, cs = [v] ∧ RRow segR w v xs :=
  open_rrow segR Try.underlying22 (by kernel_rfl) (by decide) (fun _ _ _ h => open_seg h) h
end
end Go.Proofs.Ytiolpmhodbefoaa
