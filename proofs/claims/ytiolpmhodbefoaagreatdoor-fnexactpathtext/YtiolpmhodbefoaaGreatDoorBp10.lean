import Derived.WalkLawsBesides
import Derived.Deep.QuietTactic
import Derived.BigQuiet
import Derived.Lib.OthersKept
import Derived.Laws.Rows
import Derived.Test.YtiolpmhodbefoaaGreatDoorBp1
import Derived.Deep.LoopGhost
import Derived.Test.YtiolpmhodbefoaaGreatDoorBp5
import Derived.Laws.DeepStrings4
import Derived.Handy
namespace Go.Proofs.YtiolpmhodbefoaaGreatDoor
open Go.RowKit

/-- All old blocks but one are as they were. -/
structure KB (rb : Nat) (w w' : World) : Prop where
  os : w'.os = w.os
  tape : w'.tape = w.tape
  output : w'.output = w.output
  size : w.heap.size ≤ w'.heap.size
  block : ∀ k, k < w.heap.size → k ≠ rb → w'.heap[k]? = w.heap[k]?
theorem KB.refl (rb : Nat) (w : World) : KB rb w w := ⟨rfl, rfl, rfl, Nat.le_refl _, fun _ _ _ => rfl⟩
theorem KB.trans {rb : Nat} {a b c : World} (h : KB rb a b) (k : KB rb b c) : KB rb a c :=
  ⟨k.os.trans h.os, k.tape.trans h.tape, k.output.trans h.output, Nat.le_trans h.size k.size, fun i hi hn => (k.block i (Nat.lt_of_lt_of_le hi h.size) hn).trans (h.block i hi hn)⟩
theorem KB.drew {rb : Nat} {a w : World} (h : KB rb a w) : KB rb a w.drew := ⟨h.os, h.tape, h.output, h.size, h.block⟩
theorem KB.drewN {rb : Nat} {a w : World} (h : KB rb a w) (n : Nat) : KB rb a (w.drewN n) := ⟨h.os, h.tape, h.output, h.size, h.block⟩
theorem KB.set {rb : Nat} {a w : World} (h : KB rb a w) (j : Nat) (v : Value) : KB rb a (w.setCell ⟨rb, j, none⟩ v) :=
  h.trans ⟨rfl, rfl, rfl, by simp [World.setCell], fun k _ hn => Below.heap_setCell _ _ _ _ hn⟩
theorem KB.of_below {rb : Nat} {w w' : World} (h : Below w.heap.size w w') : KB rb w w' := ⟨h.os, h.tape, h.output, h.size, fun k hk _ => h.block k hk⟩
theorem KB.below {rb B : Nat} {w w' : World} (h : KB rb w w') (hB : B ≤ rb) (hs : B ≤ w.heap.size) : Below B w w' := ⟨h.os, h.tape, h.output, h.size, fun k hk => h.block k (by omega) (by omega)⟩

end Go.Proofs.YtiolpmhodbefoaaGreatDoor


namespace Go.Proofs.YtiolpmhodbefoaaGreatDoor
open Go.RowKit

/-- The first place from i on that holds no blank. -/
def skF (s : ByteArray) : Nat → Nat → Nat
  | 0, i => i
  | f + 1, i => if bt s i = 32 ∨ bt s i = 9 ∨ bt s i = 10 ∨ bt s i = 13 then skF s f (i + 1) else i
def sk (s : ByteArray) (i : Nat) : Nat := skF s (s.size - i) i
end Go.Proofs.YtiolpmhodbefoaaGreatDoor


namespace Go.Proofs.YtiolpmhodbefoaaGreatDoor
open Go.RowKit

/-- The value of a hexadecimal digit. -/
def hx (b : Nat) : Option Nat := if 48 ≤ b ∧ b ≤ 57 then some (b - 48) else if 97 ≤ b ∧ b ≤ 102 then some (b - 87) else if 65 ≤ b ∧ b ≤ 70 then some (b - 55) else none
/-- The number of k hexadecimal digits from place i on. -/
def hexN (s : ByteArray) (i : Nat) : Nat → Option Nat
  | 0 => some 0
  | k + 1 => (hexN s i k).bind fun v => (hx (bt s (i + k))).map fun h => v * 16 + h
/-- What an escape of one byte stands for. -/
def smp (b : Nat) : Option Nat := if b = 34 then some 34 else if b = 92 then some 92 else if b = 47 then some 47 else if b = 98 then some 8 else if b = 102 then some 12 else if b = 110 then some 10 else if b = 114 then some 13 else if b = 116 then some 9 else none
/-- The number behind \u at place i. -/
def unit (s : ByteArray) (i : Nat) : Option Nat := if bt s i = 92 ∧ bt s (i + 1) = 117 then hexN s (i + 2) 4 else none
/-- The rune of an escape, its backslash at place i, and the escape's length. -/
def escU (s : ByteArray) (i u : Nat) : Option (Nat × Nat) :=
  if u < 55296 ∨ 57344 ≤ u then some (u, 6) else if 56320 ≤ u then none else
  (unit s (i + 6)).bind fun v => if 56320 ≤ v ∧ v < 57344 then some (65536 + (u - 55296) * 1024 + (v - 56320), 12) else none
def escP (s : ByteArray) (i : Nat) : Option (Nat × Nat) :=
  match smp (bt s (i + 1)) with
  | some v => some (v, 2)
  | none => (unit s i).bind (escU s i)
def piece (s : ByteArray) (i : Nat) : Option (Nat × Nat) :=
  if bt s i = 92 then escP s i else if bt s i < 32 then none else if bt s i < 128 then some (bt s i, 1)
  else if rl s i = 0 then none else some ((Utf8.decode s i).1, rl s i)

/-- The bytes of a piece. -/
def enc (r : Nat) : List UInt8 := Lib.encodeRune (r : Int)
/-- The rest of a string from place i on, behind its opening quote: its bytes, and the place behind it. -/
def strF (s : ByteArray) : Nat → Nat → Option (List UInt8 × Nat)
  | 0, _ => none
  | f + 1, i => if bt s i = 34 then some ([], i + 1) else (piece s i).bind fun p => (strF s f (i + p.2)).map fun q => (enc p.1 ++ q.1, q.2)
def strR (s : ByteArray) (i : Nat) : Option (List UInt8 × Nat) := strF s (s.size + 1 - i) i
/-- A string from its quote on. -/
def strQ (s : ByteArray) (i : Nat) : Option (List UInt8 × Nat) := if bt s i = 34 then strR s (i + 1) else none

def rune (p : Nat × Nat) : Value × Nat := (.int .i32 (p.1 : Int), p.2)
end Go.Proofs.YtiolpmhodbefoaaGreatDoor


namespace Go.Proofs.YtiolpmhodbefoaaGreatDoor
open Go.RowKit

mutual
/-- A value of JSON as it was read: numbers as their canonical texts, members in the text's order, a key twice where it came twice. -/
inductive JV where
  | nul | tt | ff
  | num (l : List UInt8)
  | str (l : List UInt8)
  | arr (l : JL)
  | obj (m : JM)
inductive JL where
  | nil
  | cons (v : JV) (r : JL)
inductive JM where
  | nil
  | cons (k : List UInt8) (v : JV) (r : JM)
end

/-- The first place from i on that holds no digit. -/
def dgF (s : ByteArray) : Nat → Nat → Nat
  | 0, i => i
  | f + 1, i => if isDg (bt s i) = true then dgF s f (i + 1) else i
def dg (s : ByteArray) (i : Nat) : Nat := dgF s (s.size - i) i
/-- The bytes from i to j. -/
def cutB (s : ByteArray) (i j : Nat) : List UInt8 := (s.data.toList.drop i).take (j - i)
/-- Where a number's digits begin and end. -/
def nmD (s : ByteArray) (i : Nat) : Nat := if bt s i = 45 then i + 1 else i
def nmE (s : ByteArray) (i : Nat) : Nat := if bt s (nmD s i) = 48 then nmD s i + 1 else dg s (nmD s i)
def norm0 (l : List UInt8) : List UInt8 := if l = [45, 48] then [48] else l
def nm (s : ByteArray) (i : Nat) : Option (List UInt8 × Nat) := if isDg (bt s (nmD s i)) = true then some (norm0 (cutB s i (nmE s i)), nmE s i) else none
def wNull (s : ByteArray) (i : Nat) : Bool := bt s i == 110 && bt s (i + 1) == 117 && bt s (i + 2) == 108 && bt s (i + 3) == 108
def wTrue (s : ByteArray) (i : Nat) : Bool := bt s i == 116 && bt s (i + 1) == 114 && bt s (i + 2) == 117 && bt s (i + 3) == 101
def wFalse (s : ByteArray) (i : Nat) : Bool := bt s i == 102 && bt s (i + 1) == 97 && bt s (i + 2) == 108 && bt s (i + 3) == 115 && bt s (i + 4) == 101

mutual
/-- A value whose first byte stands at place i, and the place behind it. -/
def pv (s : ByteArray) : Nat → Nat → Option (JV × Nat)
  | 0, _ => none
  | f + 1, i =>
    if bt s i = 91 then (if bt s (sk s (i + 1)) = 93 then some (.arr .nil, sk s (i + 1) + 1) else (pa s f (sk s (i + 1))).map fun q => (.arr q.1, q.2))
    else if bt s i = 123 then (if bt s (sk s (i + 1)) = 125 then some (.obj .nil, sk s (i + 1) + 1) else (po s f (sk s (i + 1))).map fun q => (.obj q.1, q.2))
    else if bt s i = 34 then (strQ s i).map fun q => (.str q.1, q.2)
    else if wNull s i = true then some (.nul, i + 4)
    else if wTrue s i = true then some (.tt, i + 4)
    else if wFalse s i = true then some (.ff, i + 5)
    else (nm s i).map fun q => (.num q.1, q.2)
/-- The items from place i on, up to the bracket that closes. -/
def pa (s : ByteArray) : Nat → Nat → Option (JL × Nat)
  | 0, _ => none
  | f + 1, i => (pv s f i).bind fun q =>
    if bt s (sk s q.2) = 93 then some (.cons q.1 .nil, sk s q.2 + 1)
    else if bt s (sk s q.2) = 44 then (pa s f (sk s (sk s q.2 + 1))).map fun r => (.cons q.1 r.1, r.2)
    else none
/-- The members from place i on, up to the bracket that closes. -/
def po (s : ByteArray) : Nat → Nat → Option (JM × Nat)
  | 0, _ => none
  | f + 1, i => (strQ s i).bind fun k =>
    if bt s (sk s k.2) = 58 then (pv s f (sk s (sk s k.2 + 1))).bind fun q =>
      if bt s (sk s q.2) = 125 then some (.cons k.1 q.1 .nil, sk s q.2 + 1)
      else if bt s (sk s q.2) = 44 then (po s f (sk s (sk s q.2 + 1))).map fun r => (.cons k.1 q.1 r.1, r.2)
      else none
    else none
end
end Go.Proofs.YtiolpmhodbefoaaGreatDoor


namespace Go.Proofs.YtiolpmhodbefoaaGreatDoor
open Go.RowKit

def val (s : ByteArray) (i : Nat) : Option (JV × Nat) := pv s (2 * (s.size - i) + 1) i
end Go.Proofs.YtiolpmhodbefoaaGreatDoor


namespace Go.Proofs.YtiolpmhodbefoaaGreatDoor
open Go.RowKit

end Go.Proofs.YtiolpmhodbefoaaGreatDoor


namespace Go.Proofs.YtiolpmhodbefoaaGreatDoor
open Go.RowKit

/-- A part put among those before it, from the end on. -/
def insR (p : List UInt8 × List UInt8) : List (List UInt8 × List UInt8) → List (List UInt8 × List UInt8)
  | [] => [p]
  | q :: r => if p.1 < q.1 then q :: insR p r else p :: q :: r
/-- Parts in order. -/
def isort (l : List (List UInt8 × List UInt8)) : List (List UInt8 × List UInt8) := (l.foldl (fun acc p => insR p acc) []).reverse
/-- The text of a part, and of an object of parts. -/
def memT (p : List UInt8 × List UInt8) : List UInt8 := quoted p.1 ++ 58 :: p.2
def joinT : List (List UInt8) → List UInt8
  | [] => []
  | t :: r => 44 :: (t ++ joinT r)
def joinC : List (List UInt8) → List UInt8
  | [] => []
  | t :: r => t ++ joinT r
def mkO (l : List (List UInt8 × List UInt8)) : List UInt8 := 123 :: (joinC (l.map memT) ++ [125])
def mkA (l : List (List UInt8)) : List UInt8 := 91 :: (joinC l ++ [93])
def over (d lim : List UInt8) : Bool := if d.length ≠ 19 then decide (19 < d.length) else (!Op.bytesLess d lim && !(d == lim))
mutual
/-- The canonical text. -/
def ct : JV → List UInt8
  | .nul => [110, 117, 108, 108]
  | .tt => [116, 114, 117, 101]
  | .ff => [102, 97, 108, 115, 101]
  | .num l => l
  | .str l => quoted l
  | .arr l => mkA (ctL l)
  | .obj m => mkO (isort (ctM m))
def ctL : JL → List (List UInt8)
  | .nil => []
  | .cons v r => ct v :: ctL r
def ctM : JM → List (List UInt8 × List UInt8)
  | .nil => []
  | .cons k v r => (k, ct v) :: ctM r
end
/-- Lists of items, one more at the end. -/
def JL.app : JL → JL → JL
  | .nil, b => b
  | .cons v r, b => .cons v (r.app b)
def JM.app : JM → JM → JM
  | .nil, b => b
  | .cons k v r, b => .cons k v (r.app b)
end Go.Proofs.YtiolpmhodbefoaaGreatDoor


namespace Go.Proofs.YtiolpmhodbefoaaGreatDoor
open Go.RowKit

end Go.Proofs.YtiolpmhodbefoaaGreatDoor


namespace Go.Proofs.YtiolpmhodbefoaaGreatDoor
open Go.RowKit

end Go.Proofs.YtiolpmhodbefoaaGreatDoor


namespace Go.Proofs.YtiolpmhodbefoaaGreatDoor
open Go.RowKit

end Go.Proofs.YtiolpmhodbefoaaGreatDoor


namespace Go.Proofs.YtiolpmhodbefoaaGreatDoor
open Go.RowKit

theorem strOf_app (a b : List UInt8) : strOf a ++ strOf b = strOf (a ++ b) := by
  apply Go.WideShapes.bytes_inj
  rw [ByteArray.data_append, Array.toList_append, strOf_toList, strOf_toList, strOf_toList]
end Go.Proofs.YtiolpmhodbefoaaGreatDoor


namespace Go.Proofs.YtiolpmhodbefoaaGreatDoor
open Go.RowKit

/-- The decimal text of a number, as the model writes it. -/
def decF : Nat → Nat → List UInt8
  | 0, _ => []
  | f + 1, n => if n < 10 then [UInt8.ofNat (48 + n)] else decF f (n / 10) ++ [UInt8.ofNat (48 + n % 10)]
def decT (n : Nat) : List UInt8 := decF (n + 1) n
theorem decF_same : ∀ (f g n : Nat), n < f → n < g → decF f n = decF g n
  | 0, _, _, h, _ => by omega
  | _ + 1, 0, _, _, h => by omega
  | f + 1, g + 1, n, hf, hg => by
    rw [decF, decF]
    by_cases h : n < 10
    · rw [if_pos h, if_pos h]
    · rw [if_neg h, if_neg h, decF_same f g (n / 10) (by omega) (by omega)]
theorem decT_lo {n : Nat} (h : n < 10) : decT n = [UInt8.ofNat (48 + n)] := by unfold decT; rw [decF, if_pos h]
theorem decT_hi {n : Nat} (h : ¬ n < 10) : decT n = decT (n / 10) ++ decT (n % 10) := by
  rw [decT_lo (n := n % 10) (by omega)]
  unfold decT
  rw [decF, if_neg h, decF_same n (n / 10 + 1) (n / 10) (by omega) (by omega)]
theorem decT_len : ∀ n : Nat, (decT n).length ≤ n + 1 := fun n => by
  have : ∀ f n, (decF f n).length ≤ f := by
    intro f
    induction f with
    | zero => intro n; simp [decF]
    | succ f ih =>
      intro n
      rw [decF]
      split
      · simp
      · have := ih (n / 10); simp; omega
  exact this (n + 1) n

set_option maxRecDepth 100000 in
set_option maxHeartbeats 1600000 in
theorem dec_walk : ∀ (b n : Nat) (w : World), n ≤ b → n ≤ 1000000000 → Calls Tryz.prog 62 #[.int .i64 (n : Int)] w fun e w' => e = .returned (.string (strOf (decT n))) ∧ Below w.heap.size w w' := by
  intro b
  induction b with
  | zero =>
    intro n w hn _
    obtain rfl : n = 0 := by omega
    have hcv := convert_bytes w (decT 0) #[.int .u8 48] 1 rfl rfl
    generalize decT 0 = u at *
    go_enter Tryz.func62, Tryz.ntmps62
    go_wp2
    go_ret
    exact ⟨rfl, (Below.refl _ _).alloc (Nat.le_refl _) _⟩
  | succ b ih =>
    intro n w hn hm
    by_cases h : n < 10
    · have hcv := convert_bytes w (decT n) #[.int .u8 (48 + (n : Int))] 1 (by rw [decT_lo h]; rfl) (by rw [decT_lo h]; simp [Lib.byteCells]; omega)
      have h1 : (n : Int) < 10 := by omega
      generalize decT n = u at *
      clear ih
      go_enter Tryz.func62, Tryz.ntmps62
      go_wp2
      go_ret
      exact ⟨rfl, (Below.refl _ _).alloc (Nat.le_refl _) _⟩
    · have h1 : ¬ (n : Int) < 10 := by omega
      have hd : (n : Int) / 10 = ((n / 10 : Nat) : Int) := by omega
      have hr : (n : Int) % 10 = ((n % 10 : Nat) : Int) := by omega
      have HA : Hid (∀ w, Calls Tryz.prog 62 #[.int .i64 ((n / 10 : Nat) : Int)] w fun e w' => e = .returned (.string (strOf (decT (n / 10)))) ∧ Below w.heap.size w w') := fun w => ih (n / 10) w (by omega) (by omega)
      have HB : Hid (∀ w, Calls Tryz.prog 62 #[.int .i64 ((n % 10 : Nat) : Int)] w fun e w' => e = .returned (.string (strOf (decT (n % 10)))) ∧ Below w.heap.size w w') := fun w => ih (n % 10) w (by omega) (by omega)
      have HE : Hid (strOf (decT (n / 10)) ++ strOf (decT (n % 10)) = strOf (decT n)) := by show _ = _; rw [strOf_app, ← decT_hi h]
      have z1 : (strOf (decT (n / 10))).size ≤ 1000000001 := by rw [strOf_size]; have := decT_len (n / 10); omega
      have z2 : (strOf (decT (n % 10))).size ≤ 1000000001 := by rw [strOf_size]; have := decT_len (n % 10); omega
      have z3 : (9223372036854775807 < (strOf (decT (n / 10))).size + (strOf (decT (n % 10))).size) = False := eq_false (by omega)
      generalize strOf (decT n) = u at *
      generalize strOf (decT (n / 10)) = u1 at *
      generalize strOf (decT (n % 10)) = u2 at *
      generalize n / 10 = q at *
      generalize n % 10 = r at *
      clear ih h
      go_enter Tryz.func62, Tryz.ntmps62
      go_wp2_with fail
      refine (unhide HA _).mono ?_
      rintro e w1 ⟨rfl, b1⟩
      go_wp2_with fail
      refine (unhide HB _).mono ?_
      rintro e w2 ⟨rfl, b2⟩
      have B2 := below_next b1 b2
      clear HA HB
      go_wp2
      go_ret
      exact ⟨by rw [← unhide HE]; rfl, B2⟩
end Go.Proofs.YtiolpmhodbefoaaGreatDoor

