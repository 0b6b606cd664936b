import Derived.Test.YtadefcohbkgbfaaDoorTokPlain
import Derived.Test.YtadefcohbkgbfaaDoorOwnB
namespace Go.Proofs.YtadefcohbkgbfaaDoor
open Go.RowKit

theorem infoString : (Tryd.prog.info? 9).map (fun i => (i.zero, i.size, i.bytes)) = some (some (.string ByteArray.empty), 1, 16) := by kernel_rfl

def tokCell (t : List UInt8) : Value := .string ⟨t.toArray⟩
abbrev OT (w : World) (B : Nat) (v : Value) (ts : List (List UInt8)) : Prop := w.ownsRow B 9 1 v ts.length (ts.map tokCell)
def baT (t : List UInt8) : ByteArray := ⟨t.toArray⟩

theorem OT.shape {w : World} {B : Nat} {v : Value} {ts : List (List UInt8)} (h : OT w B v ts) : ∃ a g cap, v = .slice a ts.length cap ∧ SS w a g 0 (ts.map baT) ∧ (0 < ts.length → B ≤ g) := by
  rcases h.2 with ⟨hv, h0⟩ | ⟨g, cap, cur, hv, hb, hg, _⟩
  · exact ⟨none, 0, 0, by rw [hv, h0], ⟨fun h => by rw [List.length_map] at h; omega, fun j hj => by rw [List.length_map] at hj; omega⟩, fun h => by omega⟩
  · refine ⟨some ⟨g, 0, none⟩, g, cap, hv, ⟨fun _ => rfl, fun j hj => ?_⟩, fun _ => hb⟩
    subst hv
    rw [List.length_map] at hj
    rw [Nat.zero_add, h.cellAt j (by omega)]
    simp [tokCell, baT, hj]

theorem one_tok (s : ByteArray) : ∀ u ∈ [Value.string s], u.oneCell' = true := by intro u hu; simp at hu; subst hu; rfl
theorem OT.step {w : World} {B : Nat} {v : Value} {ts : List (List UInt8)} {t : List UInt8} (h : w.ownsRow B 9 1 v (ts.length + 1) (ts.map tokCell ++ [tokCell t])) : OT w B v (ts ++ [t]) := by
  unfold OT; rw [List.length_append, List.map_append]; exact h

theorem tokRes_some (t : List UInt8) : tokRes (some t) = .tuple #[.string (baT t), .bool true] := rfl
theorem tokRes_none : tokRes none = .tuple #[.string ⟨#[]⟩, .bool false] := rfl

/-- No slash from place f up to place k. -/
def NoSl (l : List UInt8) (f k : Nat) : Prop := ∀ m, f ≤ m → m < k → ∀ c, l[m]? = some c → ¬ c.toNat = 47
theorem pieces_app {p : List UInt8} (hp : ∀ c ∈ p, ¬ c.toNat = 47) {c : UInt8} (hc : c.toNat = 47) (r : List UInt8) : pieces (p ++ c :: r) = p :: pieces r := by
  induction p with
  | nil => exact pieces_cut r hc
  | cons a p ih =>
    have := ih (fun c hc => hp c (List.mem_cons_of_mem _ hc))
    exact pieces_go (hp a List.mem_cons_self) this
theorem pieces_one {p : List UInt8} (hp : ∀ c ∈ p, ¬ c.toNat = 47) : pieces p = [p] := by
  induction p with
  | nil => rfl
  | cons a p ih =>
    have := ih (fun c hc => hp c (List.mem_cons_of_mem _ hc))
    exact pieces_go (hp a List.mem_cons_self) this
theorem NoSl.piece {l : List UInt8} {f k : Nat} (h : NoSl l f k) : ∀ c ∈ (l.drop f).take (k - f), ¬ c.toNat = 47 := by
  intro c hc
  obtain ⟨i, hi, rfl⟩ := List.mem_iff_getElem.1 hc
  rw [List.length_take, List.length_drop] at hi
  refine h (f + i) (by omega) (by omega) _ ?_
  rw [List.getElem_take, List.getElem_drop, List.getElem?_eq_getElem (by omega)]
theorem NoSl.cut {l : List UInt8} {f k : Nat} (h : NoSl l f k) (hfk : f ≤ k) (hk : k < l.length) (hc : l[k].toNat = 47) : pieces (l.drop f) = (l.drop f).take (k - f) :: pieces (l.drop (k + 1)) := by
  have e : l.drop f = (l.drop f).take (k - f) ++ l[k] :: l.drop (k + 1) := by
    have h1 := (List.take_append_drop (k - f) (l.drop f)).symm
    rw [List.drop_drop, show f + (k - f) = k from by omega, List.drop_eq_getElem_cons hk] at h1
    exact h1
  have h2 := pieces_app h.piece hc (l.drop (k + 1))
  rw [← e] at h2
  exact h2
theorem NoSl.last {l : List UInt8} {f : Nat} (h : NoSl l f l.length) : pieces (l.drop f) = [l.drop f] := by
  have hp := h.piece
  rw [List.take_of_length_le (by rw [List.length_drop]; omega)] at hp
  exact pieces_one hp
theorem NoSl.snoc {l : List UInt8} {f k : Nat} (h : NoSl l f k) (hk : k < l.length) (hc : ¬ l[k].toNat = 47) : NoSl l f (k + 1) := by
  intro m h1 h2 c hm
  by_cases e : m = k
  · subst e; rw [List.getElem?_eq_getElem hk] at hm; simp at hm; subst hm; exact hc
  · exact h m h1 (by omega) c hm
theorem NoSl.none (l : List UInt8) (k : Nat) : NoSl l k k := fun m h1 h2 => by omega

theorem toks_cons {l p : List UInt8} {ps : List (List UInt8)} (h : pieces l = p :: ps) : toks l = (unesc p).bind fun t => (ps.mapM unesc).map (t :: ·) := by
  unfold toks; rw [h, List.mapM_cons]
  cases unesc p with
  | none => rfl
  | some t => cases List.mapM unesc ps <;> rfl

/-- The tokens behind place f, with those that are read already. -/
def TkAt (l : List UInt8) (f : Nat) (done : List (List UInt8)) : Prop := toks (l.drop 1) = (toks (l.drop f)).map (done ++ ·)
theorem TkAt.cut {l : List UInt8} {f k : Nat} {done : List (List UInt8)} {t : List UInt8} (h : TkAt l f done) (hn : NoSl l f k) (hfk : f ≤ k) (hk : k < l.length) (hc : l[k].toNat = 47) (hu : unesc ((l.drop f).take (k - f)) = some t) : TkAt l (k + 1) (done ++ [t]) := by
  unfold TkAt at *
  rw [h, toks_cons (hn.cut hfk hk hc), hu]
  show Option.map (done ++ ·) (Option.map (t :: ·) (toks (l.drop (k + 1)))) = _
  rw [Option.map_map]; congr 1; funext x; simp
theorem TkAt.cutBad {l : List UInt8} {f k : Nat} {done : List (List UInt8)} (h : TkAt l f done) (hn : NoSl l f k) (hfk : f ≤ k) (hk : k < l.length) (hc : l[k].toNat = 47) (hu : unesc ((l.drop f).take (k - f)) = none) : toks (l.drop 1) = none := by
  unfold TkAt at h; rw [h, toks_cons (hn.cut hfk hk hc), hu]; rfl
theorem TkAt.last {l : List UInt8} {f : Nat} {done : List (List UInt8)} {t : List UInt8} (h : TkAt l f done) (hn : NoSl l f l.length) (hu : unesc ((l.drop f).take (l.length - f)) = some t) : toks (l.drop 1) = some (done ++ [t]) := by
  rw [List.take_of_length_le (by rw [List.length_drop]; omega)] at hu
  unfold TkAt at h; rw [h, toks_cons hn.last, hu]; rfl
theorem TkAt.lastBad {l : List UInt8} {f : Nat} {done : List (List UInt8)} (h : TkAt l f done) (hn : NoSl l f l.length) (hu : unesc ((l.drop f).take (l.length - f)) = none) : toks (l.drop 1) = none := by
  rw [List.take_of_length_le (by rw [List.length_drop]; omega)] at hu
  unfold TkAt at h; rw [h, toks_cons hn.last, hu]; rfl

theorem ptoks_cons {l : List UInt8} (h0 : 0 < l.length) (hc : l[0].toNat = 47) : ptoks l = toks (l.drop 1) := by
  cases l with
  | nil => simp at h0
  | cons c r => simp only [List.getElem_cons_zero] at hc; rw [ptoks, if_pos hc]; rfl
theorem ptoks_bad {l : List UInt8} (h0 : 0 < l.length) (hc : ¬ l[0].toNat = 47) : ptoks l = none := by
  cases l with
  | nil => simp at h0
  | cons c r => simp only [List.getElem_cons_zero] at hc; rw [ptoks, if_neg hc]
theorem extract_toList (s : ByteArray) (f k : Nat) : (s.extract f k).data.toList = (s.data.toList.drop f).take (k - f) := by
  exact Lib.extract_data s f k
end Go.Proofs.YtadefcohbkgbfaaDoor
