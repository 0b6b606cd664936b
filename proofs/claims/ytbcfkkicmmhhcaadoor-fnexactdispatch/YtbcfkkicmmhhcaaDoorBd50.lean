import Derived.Deep.SlicePairs
import Derived.ProofKit
import Derived.Test.YtbcfkkicmmhhcaaDoorBd6
namespace Go.Proofs.YtbcfkkicmmhhcaaDoor
open Go.ChangeShapes Go.WideShapes Go.ChangeAt Go.RowKit Go.Deep

section
variable {H : Type} {enc : TypeId × Value → H} {P : Program} {w : World} {sp : Nat → Bool} {held : Bool}
theorem leaf_int {t : TypeId} (ht : P.underlying t = some (.int .i64)) {n : Nat} {cs : List Value} {y : DataW H × List MemPlace} (h : DataW.trod enc P w 0 sp held n t cs = some y) : ∃ z, cs = [.int .i64 z] := by
  cases n with
  | zero => simp [DataW.trod] at h
  | succ n =>
    unfold DataW.trod at h
    rw [ht] at h
    split at h <;> simp_all
theorem leaf_bool {t : TypeId} (ht : P.underlying t = some .bool) {n : Nat} {cs : List Value} {y : DataW H × List MemPlace} (h : DataW.trod enc P w 0 sp held n t cs = some y) : ∃ b, cs = [.bool b] := by
  cases n with
  | zero => simp [DataW.trod] at h
  | succ n =>
    unfold DataW.trod at h
    rw [ht] at h
    split at h <;> simp_all
theorem leaf_str {t : TypeId} (ht : P.underlying t = some .string) {n : Nat} {cs : List Value} {y : DataW H × List MemPlace} (h : DataW.trod enc P w 0 sp held n t cs = some y) : ∃ s, cs = [.string s] ∧ s.size ≤ maxLen := by
  cases n with
  | zero => simp [DataW.trod] at h
  | succ n =>
    unfold DataW.trod at h
    rw [ht] at h
    split at h <;> simp_all
theorem lst2 {α : Type} {l : List α} (h : l.length = 2) : ∃ a b, l = [a, b] := by
  match l, h with
  | [a, b], _ => exact ⟨a, b, rfl⟩
theorem lst3 {α : Type} {l : List α} (h : l.length = 3) : ∃ a b c, l = [a, b, c] := by
  match l, h with
  | [a, b, c], _ => exact ⟨a, b, c, rfl⟩
theorem lst6 {α : Type} {l : List α} (h : l.length = 6) : ∃ a b c d e f, l = [a, b, c, d, e, f] := by
  match l, h with
  | [a, b, c, d, e, f], _ => exact ⟨a, b, c, d, e, f, rfl⟩
/-- A slice whose elements are read by R. -/
theorem open_rrow {α : Type} [Inhabited α] (e : RElem α) {t et : TypeId} (ht : Tryd.prog.underlying t = some (.slice et)) (hwd : Tryd.prog.cellsOf et = e.wd) (hpos : 0 < e.wd)
    (hopen : ∀ (n : Nat) (cs : List Value) (y : DataW H × List MemPlace), DataW.trod enc Tryd.prog w 0 sp held n et cs = some y → ∃ x, e.R w cs x)
    {fuel : Nat} {cs : List Value} {x : DataW H × List MemPlace} (h : DataW.trod enc Tryd.prog w 0 sp held fuel t cs = some x) : ∃ v xs, cs = [v] ∧ RRow e w v xs := by
  rcases open_slice ht h with ⟨h0, _⟩ | ⟨a, len, cap, m, n, D, Pl, rfl, _, hl, hm, hmm, _, hx⟩
  · exact ⟨_, [], h0, by simp, none, 0, rfl, fun j y hy => by simp at hy⟩
  · have hlm : len ≤ m := by rw [hmm]; split <;> omega
    obtain ⟨X, hX⟩ := choose_lt (n := len) (p := fun i y => ∃ cs', w.cells? 0 (a.add (i * e.wd)) e.wd = some cs' ∧ e.R w cs' y) fun i hi => by
      obtain ⟨cs', h1, h2⟩ := hx i (by omega)
      obtain ⟨y, hy⟩ := hopen _ _ _ h2
      rw [hwd] at h1
      exact ⟨y, cs', h1, hy⟩
    refine ⟨_, (List.range len).map X, rfl, by simp; omega, some a, cap, by simp, fun j y hy => ?_⟩
    have hj : j < len := by have := (List.getElem?_eq_some_iff.1 hy).1; simpa using this
    rw [List.getElem?_map, List.getElem?_range hj] at hy
    cases hy
    obtain ⟨cs', h1, h2⟩ := hX j hj
    obtain ⟨_, hlen, hcell⟩ := World.cells?_some h1
    obtain ⟨b, o, spot⟩ := a
    have hsp : spot = none := by
      obtain ⟨cs0, g1, _⟩ := hX 0 (by omega)
      obtain ⟨_, hlen0, hcell0⟩ := World.cells?_some g1
      have hc0 := hcell0 0 hpos
      rw [List.getElem?_eq_getElem (by omega)] at hc0
      simpa [Addr.add] using World.cell?_spot hc0
    subst hsp
    refine ⟨b, o, rfl, cs', h2, fun k u hu => ?_⟩
    have hk : k < e.wd := by have := (List.getElem?_eq_some_iff.1 hu).1; omega
    have := hcell k hk
    rw [hu] at this
    rw [← this]
    rw [Go.WideShapes.add_plain, Go.WideShapes.add_plain, Nat.add_assoc]
instance : Inhabited Msg := ⟨⟨0, [], false⟩⟩
instance : Inhabited Nws := ⟨⟨0, []⟩⟩
instance : Inhabited Wat := ⟨⟨0, ByteArray.empty, 0, 0, false, []⟩⟩
instance : Inhabited ByteArray := ⟨ByteArray.empty⟩
theorem open_strR {fuel : Nat} {cs : List Value} {x : DataW H × List MemPlace} (h : DataW.trod enc Tryd.prog w 0 sp held fuel 49 cs = some x) : ∃ v xs, cs = [v] ∧ RRow strR w v xs :=
  open_rrow strR Tryd.underlying49 (by kernel_rfl) (by decide) (fun n cs y h => by
    obtain ⟨s, hs, hz⟩ := leaf_str Tryd.underlying9 h
    exact ⟨s, hs, hz⟩) h
theorem open_msg {n : Nat} {cs : List Value} {y : DataW H × List MemPlace} (h : DataW.trod enc Tryd.prog w 0 sp held n 161 cs = some y) : ∃ m, msgR.R w cs m := by
  obtain ⟨xs, k, _, _, hl, hxl, hf⟩ := DataW.trod_struct Tryd.underlying161 h
  have hl3 : cs.length = 3 := hl.trans (by kernel_rfl)
  obtain ⟨a0, a1, a2, rfl⟩ := lst3 hl3
  obtain ⟨y0, y1, y2, rfl⟩ := lst3 hxl
  have h0 : DataW.trod enc Tryd.prog w 0 sp held k 3 (List.take (Tryd.prog.cellsOf 3) [a0, a1, a2]) = some y0 := hf 0 _ rfl
  have h1 : DataW.trod enc Tryd.prog w 0 sp held k 49 (List.take (Tryd.prog.cellsOf 49) [a1, a2]) = some y1 := hf 1 _ rfl
  have h2 : DataW.trod enc Tryd.prog w 0 sp held k 4 (List.take (Tryd.prog.cellsOf 4) [a2]) = some y2 := hf 2 _ rfl
  rw [show Tryd.prog.cellsOf 3 = 1 from by kernel_rfl] at h0
  rw [show Tryd.prog.cellsOf 49 = 1 from by kernel_rfl] at h1
  rw [show Tryd.prog.cellsOf 4 = 1 from by kernel_rfl] at h2
  obtain ⟨z, hz⟩ := leaf_int Tryd.underlying3 (h0 : DataW.trod enc Tryd.prog w 0 sp held k 3 [a0] = some y0)
  obtain ⟨q, ss, hq, hr⟩ := open_strR (h1 : DataW.trod enc Tryd.prog w 0 sp held k 49 [a1] = some y1)
  obtain ⟨b, hb⟩ := leaf_bool Tryd.underlying4 (h2 : DataW.trod enc Tryd.prog w 0 sp held k 4 [a2] = some y2)
  cases hz; cases hq; cases hb
  exact ⟨⟨z, ss, b⟩, _, rfl, hr⟩
theorem open_nws {n : Nat} {cs : List Value} {y : DataW H × List MemPlace} (h : DataW.trod enc Tryd.prog w 0 sp held n 98 cs = some y) : ∃ m, nwsR.R w cs m := by
  obtain ⟨xs, k, _, _, hl, hxl, hf⟩ := DataW.trod_struct Tryd.underlying98 h
  have hl3 : cs.length = 2 := hl.trans (by kernel_rfl)
  obtain ⟨a0, a1, rfl⟩ := lst2 hl3
  obtain ⟨y0, y1, rfl⟩ := lst2 hxl
  have h0 : DataW.trod enc Tryd.prog w 0 sp held k 3 (List.take (Tryd.prog.cellsOf 3) [a0, a1]) = some y0 := hf 0 _ rfl
  have h1 : DataW.trod enc Tryd.prog w 0 sp held k 49 (List.take (Tryd.prog.cellsOf 49) [a1]) = some y1 := hf 1 _ rfl
  rw [show Tryd.prog.cellsOf 3 = 1 from by kernel_rfl] at h0
  rw [show Tryd.prog.cellsOf 49 = 1 from by kernel_rfl] at h1
  obtain ⟨z, hz⟩ := leaf_int Tryd.underlying3 (h0 : DataW.trod enc Tryd.prog w 0 sp held k 3 [a0] = some y0)
  obtain ⟨q, ss, hq, hr⟩ := open_strR (h1 : DataW.trod enc Tryd.prog w 0 sp held k 49 [a1] = some y1)
  cases hz; cases hq
  exact ⟨⟨z, ss⟩, _, rfl, hr⟩
theorem open_msgs {fuel : Nat} {cs : List Value} {x : DataW H × List MemPlace} (h : DataW.trod enc Tryd.prog w 0 sp held fuel 94 cs = some x) : ∃ v xs, cs = [v] ∧ RRow msgR w v xs :=
  open_rrow msgR Tryd.underlying94 (by kernel_rfl) (by decide) (fun _ _ _ h => open_msg h) h
theorem open_nwss {fuel : Nat} {cs : List Value} {x : DataW H × List MemPlace} (h : DataW.trod enc Tryd.prog w 0 sp held fuel 32 cs = some x) : ∃ v xs, cs = [v] ∧ RRow nwsR w v xs :=
  open_rrow nwsR Tryd.underlying32 (by kernel_rfl) (by decide) (fun _ _ _ h => open_nws h) h
theorem open_wat {n : Nat} {cs : List Value} {y : DataW H × List MemPlace} (h : DataW.trod enc Tryd.prog w 0 sp held n 96 cs = some y) : ∃ m, watR.R w cs m := by
  obtain ⟨xs, k, _, _, hl, hxl, hf⟩ := DataW.trod_struct Tryd.underlying96 h
  have hl3 : cs.length = 6 := hl.trans (by kernel_rfl)
  obtain ⟨a0, a1, a2, a3, a4, a5, rfl⟩ := lst6 hl3
  obtain ⟨y0, y1, y2, y3, y4, y5, rfl⟩ := lst6 hxl
  have h0 : DataW.trod enc Tryd.prog w 0 sp held k 3 (List.take (Tryd.prog.cellsOf 3) [a0, a1, a2, a3, a4, a5]) = some y0 := hf 0 _ rfl
  have h1 : DataW.trod enc Tryd.prog w 0 sp held k 9 (List.take (Tryd.prog.cellsOf 9) [a1, a2, a3, a4, a5]) = some y1 := hf 1 _ rfl
  have h2 : DataW.trod enc Tryd.prog w 0 sp held k 3 (List.take (Tryd.prog.cellsOf 3) [a2, a3, a4, a5]) = some y2 := hf 2 _ rfl
  have h3 : DataW.trod enc Tryd.prog w 0 sp held k 3 (List.take (Tryd.prog.cellsOf 3) [a3, a4, a5]) = some y3 := hf 3 _ rfl
  have h4 : DataW.trod enc Tryd.prog w 0 sp held k 4 (List.take (Tryd.prog.cellsOf 4) [a4, a5]) = some y4 := hf 4 _ rfl
  have h5 : DataW.trod enc Tryd.prog w 0 sp held k 94 (List.take (Tryd.prog.cellsOf 94) [a5]) = some y5 := hf 5 _ rfl
  rw [show Tryd.prog.cellsOf 3 = 1 from by kernel_rfl] at h0 h2 h3
  rw [show Tryd.prog.cellsOf 9 = 1 from by kernel_rfl] at h1
  rw [show Tryd.prog.cellsOf 4 = 1 from by kernel_rfl] at h4
  rw [show Tryd.prog.cellsOf 94 = 1 from by kernel_rfl] at h5
  obtain ⟨z0, e0⟩ := leaf_int Tryd.underlying3 (h0 : DataW.trod enc Tryd.prog w 0 sp held k 3 [a0] = some y0)
  obtain ⟨s1, e1, es⟩ := leaf_str Tryd.underlying9 (h1 : DataW.trod enc Tryd.prog w 0 sp held k 9 [a1] = some y1)
  obtain ⟨z2, e2⟩ := leaf_int Tryd.underlying3 (h2 : DataW.trod enc Tryd.prog w 0 sp held k 3 [a2] = some y2)
  obtain ⟨z3, e3⟩ := leaf_int Tryd.underlying3 (h3 : DataW.trod enc Tryd.prog w 0 sp held k 3 [a3] = some y3)
  obtain ⟨b4, e4⟩ := leaf_bool Tryd.underlying4 (h4 : DataW.trod enc Tryd.prog w 0 sp held k 4 [a4] = some y4)
  obtain ⟨q, ms, e5, hr⟩ := open_msgs (h5 : DataW.trod enc Tryd.prog w 0 sp held k 94 [a5] = some y5)
  cases e0; cases e1; cases e2; cases e3; cases e4; cases e5
  exact ⟨⟨z0, s1, z2, z3, b4, ms⟩, _, rfl, es, hr⟩
theorem open_wats {fuel : Nat} {cs : List Value} {x : DataW H × List MemPlace} (h : DataW.trod enc Tryd.prog w 0 sp held fuel 31 cs = some x) : ∃ v xs, cs = [v] ∧ RRow watR w v xs :=
  open_rrow watR Tryd.underlying31 (by kernel_rfl) (by decide) (fun _ _ _ h => open_wat h) h
theorem open_hub {n : Nat} {cs : List Value} {y : DataW H × List MemPlace} (h : DataW.trod enc Tryd.prog w 0 sp held n 34 cs = some y) : ∃ a b hb, cs = [a, b] ∧ RHub w (.agg #[a, b]) hb := by
  obtain ⟨xs, k, _, _, hl, hxl, hf⟩ := DataW.trod_struct Tryd.underlying34 h
  have hl3 : cs.length = 2 := hl.trans (by kernel_rfl)
  obtain ⟨a0, a1, rfl⟩ := lst2 hl3
  obtain ⟨y0, y1, rfl⟩ := lst2 hxl
  have h0 : DataW.trod enc Tryd.prog w 0 sp held k 31 (List.take (Tryd.prog.cellsOf 31) [a0, a1]) = some y0 := hf 0 _ rfl
  have h1 : DataW.trod enc Tryd.prog w 0 sp held k 32 (List.take (Tryd.prog.cellsOf 32) [a1]) = some y1 := hf 1 _ rfl
  rw [show Tryd.prog.cellsOf 31 = 1 from by kernel_rfl] at h0
  rw [show Tryd.prog.cellsOf 32 = 1 from by kernel_rfl] at h1
  obtain ⟨p, ws, e0, r0⟩ := open_wats (h0 : DataW.trod enc Tryd.prog w 0 sp held k 31 [a0] = some y0)
  obtain ⟨q, ns, e1, r1⟩ := open_nwss (h1 : DataW.trod enc Tryd.prog w 0 sp held k 32 [a1] = some y1)
  cases e0; cases e1
  exact ⟨_, _, ⟨ws, ns⟩, rfl, _, _, rfl, r0, r1⟩
end
end Go.Proofs.YtbcfkkicmmhhcaaDoor
