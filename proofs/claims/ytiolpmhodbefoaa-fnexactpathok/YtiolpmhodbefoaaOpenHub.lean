import Derived.Test.YtiolpmhodbefoaaHubRep
import Derived.Deep.SlicePairs
import Derived.ProofKit
namespace Go.Proofs.Ytiolpmhodbefoaa
open Go.ChangeShapes Go.WideShapes Go.ChangeAt Go.RowKit Go.Deep

section
variable {H : Type} {enc : TypeId × Value → H} {P : Program} {w : World} {sp : Nat → Bool} {held : Bool}
theorem leaf_int {t : TypeId} (ht : P.underlying t = some (.int .i64)) {n : Nat} {cs : List Value} {y : DataW H × List MemPlace} (h : DataW.trod enc P w 0 sp held n t cs = some y) : ∃ z, cs = [.int .i64 z] := by
  cases n with
  | zero => simp [DataW.trod] at h
  | succ n =>
    unfold DataW.trod at h
    rw [ht] at h
    split at h <;> simp_all
theorem leaf_bool {t : TypeId} (ht : P.underlying t = some .bool) {n : Nat} {cs : List Value} {y : DataW H × List MemPlace} (h : DataW.trod enc P w 0 sp held n t cs = some y) : ∃ b, cs = [.bool b] := by
  cases n with
  | zero => simp [DataW.trod] at h
  | succ n =>
    unfold DataW.trod at h
    rw [ht] at h
    split at h <;> simp_all
theorem leaf_str {t : TypeId} (ht : P.underlying t = some .string) {n : Nat} {cs : List Value} {y : DataW H × List MemPlace} (h : DataW.trod enc P w 0 sp held n t cs = some y) : ∃ s, cs = [.string s] ∧ s.size ≤ maxLen := by
  cases n with
  | zero => simp [DataW.trod] at h
  | succ n =>
    unfold DataW.trod at h
    rw [ht] at h
    split at h <;> simp_all
theorem lst2 {α : Type} {l : List α} (h : l.length = 2) : ∃ a b, l = [a, b] := by
  match l, h with
  | [a, b], _ => exact ⟨a, b, rfl⟩
theorem lst3 {α : Type} {l : List α} (h : l.length = 3) : ∃ a b c, l = [a, b, c] := by
  match l, h with
  | [a, b, c], _ => exact ⟨a, b, c, rfl⟩
theorem lst6 {α : Type} {l : List α} (h : l.length = 6) : ∃ a b c d e f, l = [a, b, c, d, e, f] := by
  match l, h with
  | [a, b, c, d, e, f], _ => exact ⟨a, b, c, d, e, f, rfl⟩
/-- A slice whose elements are read by R. -/
theorem open_rrow {α : Type} [Inhabited α] (e : RElem α) {t et : TypeId} (ht : Try.prog.underlying t = some (.slice et)) (hwd : Try.prog.cellsOf et = e.wd) (hpos : 0 < e.wd)
    (hopen : ∀ (n : Nat) (cs : List Value) (y : DataW H × List MemPlace), DataW.trod enc Try.prog w 0 sp held n et cs = some y → ∃ x, e.R w cs x)
    {fuel : Nat} {cs : List Value} {x : DataW H × List MemPlace} (h : DataW.trod enc Try.prog w 0 sp held fuel t cs = some x) : ∃ v xs, cs = [v] ∧ RRow e w v xs := by
  rcases open_slice ht h with ⟨h0, _⟩ | ⟨a, len, cap, m, n, D, Pl, rfl, _, hl, hm, hmm, _, hx⟩
  · exact ⟨_, [], h0, by simp, none, 0, rfl, fun j y hy => by simp at hy⟩
  · have hlm : len ≤ m := by rw [hmm]; split <;> omega
    obtain ⟨X, hX⟩ := choose_lt (n := len) (p := fun i y => ∃ cs', w.cells? 0 (a.add (i * e.wd)) e.wd = some cs' ∧ e.R w cs' y) fun i hi => by
      obtain ⟨cs', h1, h2⟩ := hx i (by omega)
      obtain ⟨y, hy⟩ := hopen _ _ _ h2
      rw [hwd] at h1
      exact ⟨y, cs', h1, hy⟩
    refine ⟨_, (List.range len).map X, rfl, by simp; omega, some a, cap, by simp, fun j y hy => ?_⟩
    have hj : j < len := by have := (List.getElem?_eq_some_iff.1 hy).1; simpa using this
    rw [List.getElem?_map, List.getElem?_range hj] at hy
    cases hy
    obtain ⟨cs', h1, h2⟩ := hX j hj
    obtain ⟨_, hlen, hcell⟩ := World.cells?_some h1
    obtain ⟨b, o, spot⟩ := a
    have hsp : spot = none := by
      obtain ⟨cs0, g1, _⟩ := hX 0 (by omega)
      obtain ⟨_, hlen0, hcell0⟩ := World.cells?_some g1
      have hc0 := hcell0 0 hpos
      rw [List.getElem?_eq_getElem (by omega)] at hc0
      simpa [Addr.add] using World.cell?_spot hc0
    subst hsp
    refine ⟨b, o, rfl, cs', h2, fun k u hu => ?_⟩
    have hk : k < e.wd := by have := (List.getElem?_eq_some_iff.1 hu).1; omega
    have := hcell k hk
    rw [hu] at this
    rw [← this]
    rw [Go.WideShapes.add_plain, Go.WideShapes.add_plain, Nat.add_assoc]
instance : Inhabited Msg := ⟨⟨0, [], false⟩⟩
instance : Inhabited Nws := ⟨⟨0, []⟩⟩
instance : Inhabited Wat := ⟨⟨0, ByteArray.empty, 0, 0, false, []⟩⟩
instance : Inhabited ByteArray := ⟨ByteArray.empty⟩
theorem open_strR {fuel : Nat} {cs : List Value} {x : DataW H × List MemPlace} (h : DataW.trod enc Try.prog w 0 sp held fuel 76 cs = some x) : ∃ v xs, cs = [v] ∧ RRow sRE w v xs :=
  open_rrow sRE Try.underlying76 (by kernel_rfl) (by decide) (fun n cs y h => by
    obtain ⟨s, hs, hz⟩ := leaf_str Try.underlying9 h
    exact ⟨s, hs, hz⟩) h
end
end Go.Proofs.Ytiolpmhodbefoaa
