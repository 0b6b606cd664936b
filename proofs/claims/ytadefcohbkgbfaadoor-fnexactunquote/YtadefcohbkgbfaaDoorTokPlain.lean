import Derived.Test.YtadefcohbkgbfaaDoorPtrPlain
import Derived.Lib.SplitLaws
namespace Go.Proofs.YtadefcohbkgbfaaDoor
open Go.RowKit

def unesc : List UInt8 → Option (List UInt8)
  | [] => some []
  | c :: r =>
    if c.toNat = 126 then
      match r with
      | [] => none
      | d :: r' => if d.toNat = 48 then (unesc r').map (126 :: ·) else if d.toNat = 49 then (unesc r').map (47 :: ·) else none
    else (unesc r).map (c :: ·)

theorem unesc_lit {c : UInt8} (r : List UInt8) (h : ¬ (c.toNat : Int) = 126) : unesc (c :: r) = (unesc r).map ([c] ++ ·) := by
  rw [unesc.eq_def]; simp only; rw [if_neg (by omega)]; rfl
theorem unesc_end {c : UInt8} (h : (c.toNat : Int) = 126) : unesc [c] = none := by
  rw [unesc.eq_def]; simp only; rw [if_pos (by omega)]
theorem unesc_0 {c d : UInt8} (r : List UInt8) (h : (c.toNat : Int) = 126) (h' : (d.toNat : Int) = 48) : unesc (c :: d :: r) = (unesc r).map ([126] ++ ·) := by
  rw [unesc.eq_def]; simp only; rw [if_pos (by omega), if_pos (by omega)]; rfl
theorem unesc_1 {c d : UInt8} (r : List UInt8) (h : (c.toNat : Int) = 126) (h' : (d.toNat : Int) = 49) : unesc (c :: d :: r) = (unesc r).map ([47] ++ ·) := by
  rw [unesc.eq_def]; simp only; rw [if_pos (by omega), if_neg (by omega), if_pos (by omega)]; rfl
theorem unesc_bad {c d : UInt8} (r : List UInt8) (h : (c.toNat : Int) = 126) (h' : ¬ (d.toNat : Int) = 48) (h'' : ¬ (d.toNat : Int) = 49) : unesc (c :: d :: r) = none := by
  rw [unesc.eq_def]; simp only; rw [if_pos (by omega), if_neg (by omega), if_neg (by omega)]

/-- What is read up to place j: acc; what is left gives the rest. -/
def UnAt (l : List UInt8) (j : Nat) (acc : List UInt8) : Prop := unesc l = (unesc (l.drop j)).map (acc ++ ·)
theorem UnAt.start (l : List UInt8) : UnAt l 0 [] := by simp [UnAt]
theorem UnAt.step {l : List UInt8} {j k : Nat} {acc m : List UInt8} (h : UnAt l j acc) (hs : unesc (l.drop j) = (unesc (l.drop k)).map (m ++ ·)) : UnAt l k (acc ++ m) := by
  unfold UnAt at *; rw [h, hs, Option.map_map]; congr 1; funext x; simp
theorem UnAt.bad {l : List UInt8} {j : Nat} {acc : List UInt8} (h : UnAt l j acc) (hs : unesc (l.drop j) = none) : unesc l = none := by
  unfold UnAt at h; rw [h, hs]; rfl
theorem UnAt.fin {l : List UInt8} {j : Nat} {acc : List UInt8} (h : UnAt l j acc) (hj : l.length ≤ j) : unesc l = some acc := by
  unfold UnAt at h; rw [h, List.drop_eq_nil_of_le hj]; simp [unesc]

theorem drop_at (s : ByteArray) (j : Nat) (h : j < s.size) : s.data.toList.drop j = s[j] :: s.data.toList.drop (j + 1) := by
  rw [List.drop_eq_getElem_cons (by rw [data_len]; exact h)]; rfl
theorem drop_end (s : ByteArray) (j : Nat) (h : ¬ j < s.size) : s.data.toList.drop j = [] := List.drop_eq_nil_of_le (by rw [data_len]; omega)

def tokRes (o : Option (List UInt8)) : Value := .tuple #[.string ⟨(o.getD []).toArray⟩, .bool o.isSome]

def pieces : List UInt8 → List (List UInt8)
  | [] => [[]]
  | c :: r => if c.toNat = 47 then [] :: pieces r else (match pieces r with | [] => [[c]] | p :: ps => (c :: p) :: ps)
theorem pieces_ne (l : List UInt8) : pieces l ≠ [] := by
  cases l with
  | nil => simp [pieces]
  | cons c r =>
    rw [pieces]; split
    · simp
    · split <;> simp
theorem pieces_cut {c : UInt8} (r : List UInt8) (h : c.toNat = 47) : pieces (c :: r) = [] :: pieces r := by rw [pieces, if_pos h]
theorem pieces_go {c : UInt8} {r p : List UInt8} {ps : List (List UInt8)} (h : ¬ c.toNat = 47) (hr : pieces r = p :: ps) : pieces (c :: r) = (c :: p) :: ps := by rw [pieces, if_neg h, hr]

theorem split_eq : ∀ l : List UInt8, Lib.splitK [47] 0 (Lib.count l [47]) l = pieces l
  | [] => by rw [Lib.count_miss (by simp [Lib.index])]; rfl
  | c :: r => by
    have ih := split_eq r
    by_cases h : c = 47
    · subst h
      have hix : Lib.index (47 :: r) [47] = ((0 : Nat) : Int) := by rw [Lib.index]; simp [List.isPrefixOf]
      rw [Lib.count_cons_eq, Nat.add_comm, Lib.splitK, hix]
      rw [pieces_cut r (by decide), ← ih]
      simp
    · have hp : ([47] : List UInt8).isPrefixOf (c :: r) = false := by simp [List.isPrefixOf, Ne.symm h]
      have hix : Lib.index (c :: r) [47] = if Lib.index r [47] == -1 then -1 else Lib.index r [47] + 1 := by rw [Lib.index, hp]; simp
      have hn : ¬ c.toNat = 47 := fun e => h (by have := UInt8.ofNat_toNat (x := c); rw [e] at this; exact this.symm)
      rw [Lib.count_cons_ne c 47 r h]
      by_cases hm : Lib.index r [47] = -1
      · rw [Lib.count_miss hm] at ih ⊢
        rw [Lib.splitK] at ih ⊢
        rw [pieces_go hn ih.symm]
      · have hge := Lib.index_ge r [47]
        obtain ⟨j, hj⟩ : ∃ j : Nat, Lib.index r [47] = j := ⟨(Lib.index r [47]).toNat, by omega⟩
        have hix' : Lib.index (c :: r) [47] = ((j + 1 : Nat) : Int) := by rw [hix, if_neg (fun e => hm (beq_iff_eq.1 e)), hj]; omega
        rw [Lib.count_hit (by simp) hj, Nat.add_comm] at ih ⊢
        rw [Lib.splitK, hj] at ih
        rw [Lib.splitK, hix']
        rw [if_neg (fun e => by have := beq_iff_eq.1 e; omega)] at ih ⊢
        simp only [Int.toNat_natCast, Nat.add_zero] at ih ⊢
        rw [pieces_go hn ih.symm]
        simp

theorem splitB_pieces (s : ByteArray) : (Lib.splitB ⟨#[47]⟩ 0 (Lib.countB s ⟨#[47]⟩) s).map (·.data.toList) = pieces s.data.toList := by
  rw [Lib.splitB_data]; exact split_eq _

/-- The tokens of a pointer. -/
def toks (l : List UInt8) : Option (List (List UInt8)) := (pieces l).mapM unesc
def ptoks : List UInt8 → Option (List (List UInt8))
  | [] => some []
  | c :: r => if c.toNat = 47 then toks r else none
end Go.Proofs.YtadefcohbkgbfaaDoor
