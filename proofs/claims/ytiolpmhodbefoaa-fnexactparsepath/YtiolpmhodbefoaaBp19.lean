import Derived.WalkLawsBesides
import Derived.Deep.QuietTactic
import Derived.BigQuiet
import Derived.Lib.OthersKept
import Derived.Laws.Rows
import Derived.Test.YtiolpmhodbefoaaBp1
import Derived.Deep.LoopGhost
import Derived.Test.YtiolpmhodbefoaaBp14
import Derived.Laws.DeepStrings4
import Derived.Handy
namespace Go.Proofs.Ytiolpmhodbefoaa
open Go.RowKit

/-- All old blocks but one are as they were. -/
structure KB (rb : Nat) (w w' : World) : Prop where
  os : w'.os = w.os
  tape : w'.tape = w.tape
  output : w'.output = w.output
  size : w.heap.size ≤ w'.heap.size
  block : ∀ k, k < w.heap.size → k ≠ rb → w'.heap[k]? = w.heap[k]?
theorem KB.refl (rb : Nat) (w : World) : KB rb w w := ⟨rfl, rfl, rfl, Nat.le_refl _, fun _ _ _ => rfl⟩
theorem KB.trans {rb : Nat} {a b c : World} (h : KB rb a b) (k : KB rb b c) : KB rb a c :=
  ⟨k.os.trans h.os, k.tape.trans h.tape, k.output.trans h.output, Nat.le_trans h.size k.size, fun i hi hn => (k.block i (Nat.lt_of_lt_of_le hi h.size) hn).trans (h.block i hi hn)⟩
theorem KB.drew {rb : Nat} {a w : World} (h : KB rb a w) : KB rb a w.drew := ⟨h.os, h.tape, h.output, h.size, h.block⟩
theorem KB.drewN {rb : Nat} {a w : World} (h : KB rb a w) (n : Nat) : KB rb a (w.drewN n) := ⟨h.os, h.tape, h.output, h.size, h.block⟩
theorem KB.set {rb : Nat} {a w : World} (h : KB rb a w) (j : Nat) (v : Value) : KB rb a (w.setCell ⟨rb, j, none⟩ v) :=
  h.trans ⟨rfl, rfl, rfl, by simp [World.setCell], fun k _ hn => Below.heap_setCell _ _ _ _ hn⟩
theorem KB.of_below {rb : Nat} {w w' : World} (h : Below w.heap.size w w') : KB rb w w' := ⟨h.os, h.tape, h.output, h.size, fun k hk _ => h.block k hk⟩
theorem KB.below {rb B : Nat} {w w' : World} (h : KB rb w w') (hB : B ≤ rb) (hs : B ≤ w.heap.size) : Below B w w' := ⟨h.os, h.tape, h.output, h.size, fun k hk => h.block k (by omega) (by omega)⟩

/-- The panic of a reader. -/
def mis : Ending := .panicked [{ v := .iface 82 (.agg #[]), recovered := false }]

theorem bt_out (s : ByteArray) (i : Nat) (h : s.size ≤ i) : bt s i = 0 := by
  unfold bt
  rw [List.getD_eq_getElem?_getD, List.getElem?_eq_none (by rw [data_len]; exact h)]; rfl
theorem bt_in {s : ByteArray} {i : Nat} (h : bt s i ≠ 0) : i < s.size := by
  rcases Nat.lt_or_ge i s.size with g | g
  · exact g
  · exact absurd (bt_out s i g) h
end Go.Proofs.Ytiolpmhodbefoaa


namespace Go.Proofs.Ytiolpmhodbefoaa
open Go.RowKit

end Go.Proofs.Ytiolpmhodbefoaa


namespace Go.Proofs.Ytiolpmhodbefoaa
open Go.RowKit

/-- The first place from i on that holds no blank. -/
def skF (s : ByteArray) : Nat → Nat → Nat
  | 0, i => i
  | f + 1, i => if bt s i = 32 ∨ bt s i = 9 ∨ bt s i = 10 ∨ bt s i = 13 then skF s f (i + 1) else i
def sk (s : ByteArray) (i : Nat) : Nat := skF s (s.size - i) i
end Go.Proofs.Ytiolpmhodbefoaa


namespace Go.Proofs.Ytiolpmhodbefoaa
open Go.RowKit

/-- The value of a hexadecimal digit. -/
def hx (b : Nat) : Option Nat := if 48 ≤ b ∧ b ≤ 57 then some (b - 48) else if 97 ≤ b ∧ b ≤ 102 then some (b - 87) else if 65 ≤ b ∧ b ≤ 70 then some (b - 55) else none
/-- The number of k hexadecimal digits from place i on. -/
def hexN (s : ByteArray) (i : Nat) : Nat → Option Nat
  | 0 => some 0
  | k + 1 => (hexN s i k).bind fun v => (hx (bt s (i + k))).map fun h => v * 16 + h
/-- What an escape of one byte stands for. -/
def smp (b : Nat) : Option Nat := if b = 34 then some 34 else if b = 92 then some 92 else if b = 47 then some 47 else if b = 98 then some 8 else if b = 102 then some 12 else if b = 110 then some 10 else if b = 114 then some 13 else if b = 116 then some 9 else none
/-- The number behind \u at place i. -/
def unit (s : ByteArray) (i : Nat) : Option Nat := if bt s i = 92 ∧ bt s (i + 1) = 117 then hexN s (i + 2) 4 else none
/-- The rune of an escape, its backslash at place i, and the escape's length. -/
def escU (s : ByteArray) (i u : Nat) : Option (Nat × Nat) :=
  if u < 55296 ∨ 57344 ≤ u then some (u, 6) else if 56320 ≤ u then none else
  (unit s (i + 6)).bind fun v => if 56320 ≤ v ∧ v < 57344 then some (65536 + (u - 55296) * 1024 + (v - 56320), 12) else none
def escP (s : ByteArray) (i : Nat) : Option (Nat × Nat) :=
  match smp (bt s (i + 1)) with
  | some v => some (v, 2)
  | none => (unit s i).bind (escU s i)
def piece (s : ByteArray) (i : Nat) : Option (Nat × Nat) :=
  if bt s i = 92 then escP s i else if bt s i < 32 then none else if bt s i < 128 then some (bt s i, 1)
  else if rl s i = 0 then none else some ((Utf8.decode s i).1, rl s i)

/-- The bytes of a piece. -/
def enc (r : Nat) : List UInt8 := Lib.encodeRune (r : Int)
/-- The rest of a string from place i on, behind its opening quote: its bytes, and the place behind it. -/
def strF (s : ByteArray) : Nat → Nat → Option (List UInt8 × Nat)
  | 0, _ => none
  | f + 1, i => if bt s i = 34 then some ([], i + 1) else (piece s i).bind fun p => (strF s f (i + p.2)).map fun q => (enc p.1 ++ q.1, q.2)
def strR (s : ByteArray) (i : Nat) : Option (List UInt8 × Nat) := strF s (s.size + 1 - i) i
/-- A string from its quote on. -/
def strQ (s : ByteArray) (i : Nat) : Option (List UInt8 × Nat) := if bt s i = 34 then strR s (i + 1) else none

def rune (p : Nat × Nat) : Value × Nat := (.int .i32 (p.1 : Int), p.2)
end Go.Proofs.Ytiolpmhodbefoaa


namespace Go.Proofs.Ytiolpmhodbefoaa
open Go.RowKit

mutual
/-- A value of JSON as it was read: numbers as their canonical texts, members in the text's order, a key twice where it came twice. -/
inductive JV where
  | nul | tt | ff
  | num (l : List UInt8)
  | str (l : List UInt8)
  | arr (l : JL)
  | obj (m : JM)
inductive JL where
  | nil
  | cons (v : JV) (r : JL)
inductive JM where
  | nil
  | cons (k : List UInt8) (v : JV) (r : JM)
end

/-- The first place from i on that holds no digit. -/
def dgF (s : ByteArray) : Nat → Nat → Nat
  | 0, i => i
  | f + 1, i => if isDg (bt s i) = true then dgF s f (i + 1) else i
def dg (s : ByteArray) (i : Nat) : Nat := dgF s (s.size - i) i
/-- The bytes from i to j. -/
def cutB (s : ByteArray) (i j : Nat) : List UInt8 := (s.data.toList.drop i).take (j - i)
/-- Where a number's digits begin and end. -/
def nmD (s : ByteArray) (i : Nat) : Nat := if bt s i = 45 then i + 1 else i
def nmE (s : ByteArray) (i : Nat) : Nat := if bt s (nmD s i) = 48 then nmD s i + 1 else dg s (nmD s i)
def norm0 (l : List UInt8) : List UInt8 := if l = [45, 48] then [48] else l
def nm (s : ByteArray) (i : Nat) : Option (List UInt8 × Nat) := if isDg (bt s (nmD s i)) = true then some (norm0 (cutB s i (nmE s i)), nmE s i) else none
def wNull (s : ByteArray) (i : Nat) : Bool := bt s i == 110 && bt s (i + 1) == 117 && bt s (i + 2) == 108 && bt s (i + 3) == 108
def wTrue (s : ByteArray) (i : Nat) : Bool := bt s i == 116 && bt s (i + 1) == 114 && bt s (i + 2) == 117 && bt s (i + 3) == 101
def wFalse (s : ByteArray) (i : Nat) : Bool := bt s i == 102 && bt s (i + 1) == 97 && bt s (i + 2) == 108 && bt s (i + 3) == 115 && bt s (i + 4) == 101

mutual
/-- A value whose first byte stands at place i, and the place behind it. -/
def pv (s : ByteArray) : Nat → Nat → Option (JV × Nat)
  | 0, _ => none
  | f + 1, i =>
    if bt s i = 91 then (if bt s (sk s (i + 1)) = 93 then some (.arr .nil, sk s (i + 1) + 1) else (pa s f (sk s (i + 1))).map fun q => (.arr q.1, q.2))
    else if bt s i = 123 then (if bt s (sk s (i + 1)) = 125 then some (.obj .nil, sk s (i + 1) + 1) else (po s f (sk s (i + 1))).map fun q => (.obj q.1, q.2))
    else if bt s i = 34 then (strQ s i).map fun q => (.str q.1, q.2)
    else if wNull s i = true then some (.nul, i + 4)
    else if wTrue s i = true then some (.tt, i + 4)
    else if wFalse s i = true then some (.ff, i + 5)
    else (nm s i).map fun q => (.num q.1, q.2)
/-- The items from place i on, up to the bracket that closes. -/
def pa (s : ByteArray) : Nat → Nat → Option (JL × Nat)
  | 0, _ => none
  | f + 1, i => (pv s f i).bind fun q =>
    if bt s (sk s q.2) = 93 then some (.cons q.1 .nil, sk s q.2 + 1)
    else if bt s (sk s q.2) = 44 then (pa s f (sk s (sk s q.2 + 1))).map fun r => (.cons q.1 r.1, r.2)
    else none
/-- The members from place i on, up to the bracket that closes. -/
def po (s : ByteArray) : Nat → Nat → Option (JM × Nat)
  | 0, _ => none
  | f + 1, i => (strQ s i).bind fun k =>
    if bt s (sk s k.2) = 58 then (pv s f (sk s (sk s k.2 + 1))).bind fun q =>
      if bt s (sk s q.2) = 125 then some (.cons k.1 q.1 .nil, sk s q.2 + 1)
      else if bt s (sk s q.2) = 44 then (po s f (sk s (sk s q.2 + 1))).map fun r => (.cons k.1 q.1 r.1, r.2)
      else none
    else none
end
end Go.Proofs.Ytiolpmhodbefoaa


namespace Go.Proofs.Ytiolpmhodbefoaa
open Go.RowKit

def val (s : ByteArray) (i : Nat) : Option (JV × Nat) := pv s (2 * (s.size - i) + 1) i
end Go.Proofs.Ytiolpmhodbefoaa


namespace Go.Proofs.Ytiolpmhodbefoaa
open Go.RowKit

end Go.Proofs.Ytiolpmhodbefoaa


namespace Go.Proofs.Ytiolpmhodbefoaa
open Go.RowKit

/-- A part put among those before it, from the end on. -/
def insR (p : List UInt8 × List UInt8) : List (List UInt8 × List UInt8) → List (List UInt8 × List UInt8)
  | [] => [p]
  | q :: r => if p.1 < q.1 then q :: insR p r else p :: q :: r
/-- Parts in order. -/
def isort (l : List (List UInt8 × List UInt8)) : List (List UInt8 × List UInt8) := (l.foldl (fun acc p => insR p acc) []).reverse
/-- The text of a part, and of an object of parts. -/
def memT (p : List UInt8 × List UInt8) : List UInt8 := quoted p.1 ++ 58 :: p.2
def joinT : List (List UInt8) → List UInt8
  | [] => []
  | t :: r => 44 :: (t ++ joinT r)
def joinC : List (List UInt8) → List UInt8
  | [] => []
  | t :: r => t ++ joinT r
def mkO (l : List (List UInt8 × List UInt8)) : List UInt8 := 123 :: (joinC (l.map memT) ++ [125])
def mkA (l : List (List UInt8)) : List UInt8 := 91 :: (joinC l ++ [93])
/-- Whether a number's text is out of range. -/
def lim0 : List UInt8 := [57, 50, 50, 51, 51, 55, 50, 48, 51, 54, 56, 53, 52, 55, 55, 53, 56, 48, 55]
def lim1 : List UInt8 := [57, 50, 50, 51, 51, 55, 50, 48, 51, 54, 56, 53, 52, 55, 55, 53, 56, 48, 56]
def over (d lim : List UInt8) : Bool := if d.length ≠ 19 then decide (19 < d.length) else (!Op.bytesLess d lim && !(d == lim))
def tooBig : List UInt8 → Bool
  | [] => false
  | c :: r => if c = 45 then over r lim1 else over (c :: r) lim0

mutual
/-- The canonical text. -/
def ct : JV → List UInt8
  | .nul => [110, 117, 108, 108]
  | .tt => [116, 114, 117, 101]
  | .ff => [102, 97, 108, 115, 101]
  | .num l => l
  | .str l => quoted l
  | .arr l => mkA (ctL l)
  | .obj m => mkO (isort (ctM m))
def ctL : JL → List (List UInt8)
  | .nil => []
  | .cons v r => ct v :: ctL r
def ctM : JM → List (List UInt8 × List UInt8)
  | .nil => []
  | .cons k v r => (k, ct v) :: ctM r
end
mutual
/-- Whether a number is out of range. -/
def bigV : JV → Bool
  | .nul => false
  | .tt => false
  | .ff => false
  | .num l => tooBig l
  | .str _ => false
  | .arr l => bigL l
  | .obj m => bigM m
def bigL : JL → Bool
  | .nil => false
  | .cons v r => bigV v || bigL r
def bigM : JM → Bool
  | .nil => false
  | .cons _ v r => bigV v || bigM r
end
mutual
/-- Whether a key comes twice. -/
def twV : JV → Bool
  | .nul => false
  | .tt => false
  | .ff => false
  | .num _ => false
  | .str _ => false
  | .arr l => twL l
  | .obj m => twM [] m
def twL : JL → Bool
  | .nil => false
  | .cons v r => twV v || twL r
/-- .. among members, behind the keys that came before. -/
def twM : List (List UInt8) → JM → Bool
  | _, .nil => false
  | ks, .cons k v r => (twV v || ks.contains k) || twM (ks ++ [k]) r
end
/-- Lists of items, one more at the end. -/
def JL.app : JL → JL → JL
  | .nil, b => b
  | .cons v r, b => .cons v (r.app b)
def JM.app : JM → JM → JM
  | .nil, b => b
  | .cons k v r, b => .cons k v (r.app b)
end Go.Proofs.Ytiolpmhodbefoaa


namespace Go.Proofs.Ytiolpmhodbefoaa
open Go.RowKit

end Go.Proofs.Ytiolpmhodbefoaa


namespace Go.Proofs.Ytiolpmhodbefoaa
open Go.RowKit

end Go.Proofs.Ytiolpmhodbefoaa


namespace Go.Proofs.Ytiolpmhodbefoaa
open Go.RowKit

def gotV (t : ByteArray) (n : Nat) (ok b tw : Bool) : Value := .agg #[.string t, .int .i64 (n : Int), .bool ok, .bool b, .bool tw]
/-- A value of JSON, as the model reads it. -/
def GP (w : World) (o : Option (JV × Nat)) (e : Ending) (w' : World) : Prop :=
  Below w.heap.size w w' ∧ o.elim (∃ (t : ByteArray) (n : Nat) (b tw : Bool), e = .returned (gotV t n false b tw)) fun q => e = .returned (gotV (strOf (ct q.1)) q.2 true (bigV q.1) (twV q.1))
theorem GP.bad {w w' : World} {o : Option (JV × Nat)} (h : o = none) (b : Below w.heap.size w w') : GP w o (.returned (.agg #[.string ⟨#[]⟩, .int .i64 0, .bool false, .bool false, .bool false])) w' := by
  subst h; exact ⟨b, _, 0, _, _, rfl⟩

end Go.Proofs.Ytiolpmhodbefoaa


namespace Go.Proofs.Ytiolpmhodbefoaa
open Go.RowKit

end Go.Proofs.Ytiolpmhodbefoaa


namespace Go.Proofs.Ytiolpmhodbefoaa
open Go.RowKit

end Go.Proofs.Ytiolpmhodbefoaa


namespace Go.Proofs.Ytiolpmhodbefoaa
open Go.RowKit

/-- A reader of paths in block rb, at place i of the text s; d: the deepest nest so far. -/
def PRd (rb : Nat) (s : ByteArray) (i : Nat) (d : Int) (w : World) : Prop := w.heap[rb]? = some (.cells #[.string s, .int .i64 (i : Int), .int .i64 d] 56 (0, 0))
theorem PRd.text {rb : Nat} {s : ByteArray} {i : Nat} {d : Int} {w : World} (h : PRd rb s i d w) : w.cell? ⟨rb, 0, none⟩ = some (.string s) := by rw [Lib.cell_of_heap h]; rfl
theorem PRd.at {rb : Nat} {s : ByteArray} {i : Nat} {d : Int} {w : World} (h : PRd rb s i d w) : w.cell? ⟨rb, 1, none⟩ = some (.int .i64 (i : Int)) := by rw [Lib.cell_of_heap h]; rfl
theorem PRd.frozen {rb : Nat} {s : ByteArray} {i : Nat} {d : Int} {w : World} (h : PRd rb s i d w) : w.frozen? ⟨rb, 1, none⟩ = false := Lib.frozen_of_heap h 1
theorem PRd.lt {rb : Nat} {s : ByteArray} {i : Nat} {d : Int} {w : World} (h : PRd rb s i d w) : rb < w.heap.size := (Array.getElem?_eq_some_iff.1 h).1
theorem PRd.set {rb : Nat} {s : ByteArray} {i : Nat} {d : Int} {w : World} (h : PRd rb s i d w) (z : Int) (j : Nat) (hz : z = (j : Int)) : PRd rb s j d (w.setCell ⟨rb, 1, none⟩ (.int .i64 z)) := by
  subst hz
  have := heap_setCell_same w rb 1 _ 56 (.int .i64 (j : Int)) h
  exact this
theorem PRd.drewN {rb : Nat} {s : ByteArray} {i : Nat} {d : Int} {w : World} (h : PRd rb s i d w) (n : Nat) : PRd rb s i d (w.drewN n) := h
theorem PRd.below {rb : Nat} {s : ByteArray} {i : Nat} {d : Int} {w w' : World} (h : PRd rb s i d w) (hb : Below w.heap.size w w') : PRd rb s i d w' := (hb.block rb h.lt).trans h

set_option maxHeartbeats 800000 in
theorem pnext_in (rb : Nat) (s : ByteArray) (i : Nat) (d : Int) (w : World) (h : PRd rb s i d w) (hs : s.size ≤ 1048576) (hi : i < s.size) :
    Calls Try.prog 58 #[.pointer (some ⟨rb, 0, none⟩)] w fun e w' => e = .returned (.int .u8 (bt s i)) ∧ PRd rb s (i + 1) d w' ∧ KB rb w w' := by
  have c0 := h.text
  have c1 := h.at
  have f1 := h.frozen
  have hne : ((i : Int) == (s.size : Int)) = false := by rw [beq_eq_false_iff_ne]; omega
  have HB := hide (bt_at s i hi)
  have H := hide h
  clear h
  go_enter Try.func58, Try.ntmps58
  go_wp2_with fail
  go_quiet (fail)
  go_wp2_with fail
  go_quiet (fail)
  go_wp2
  go_ret
  exact ⟨by rw [unhide HB]; rfl, ((unhide H).drewN _).set _ _ (by omega), ((KB.refl rb w).drewN _).set 1 _⟩
set_option maxHeartbeats 800000 in
theorem pnext_out (rb : Nat) (s : ByteArray) (i : Nat) (d : Int) (w : World) (h : PRd rb s i d w) (hi : i = s.size) :
    Calls Try.prog 58 #[.pointer (some ⟨rb, 0, none⟩)] w fun e w' => e = mis ∧ KB rb w w' := by
  have c0 := h.text
  have c1 := h.at
  have f1 := h.frozen
  have hne : ((i : Int) == (s.size : Int)) = true := by rw [beq_iff_eq]; omega
  clear h
  go_enter Try.func58, Try.ntmps58
  go_wp2_with fail
  go_quiet (fail)
  go_wp2
  exact ⟨rfl, rfl, (KB.refl rb w).drewN _⟩

set_option maxHeartbeats 800000 in
theorem pexpect_yes (rb : Nat) (s : ByteArray) (i : Nat) (d : Int) (w : World) (h : PRd rb s i d w) (hs : s.size ≤ 1048576) (c : Nat) (hc : bt s i = c) (h0 : i < s.size) :
    Calls Try.prog 42 #[.pointer (some ⟨rb, 0, none⟩), .int .u8 c] w fun e w' => e = .returned (.tuple #[]) ∧ PRd rb s (i + 1) d w' ∧ KB rb w w' := by
  have HN := hide (pnext_in rb s i d w h hs h0)
  rw [hc] at HN
  clear h hc h0 hs
  go_enter Try.func42, Try.ntmps42
  go_wp2_with fail
  refine (unhide HN).mono ?_
  rintro e w1 ⟨rfl, r1, k1⟩
  have R1 := hide r1
  clear r1 HN
  go_wp2
  go_end0
  exact ⟨rfl, unhide R1, k1⟩
set_option maxHeartbeats 800000 in
theorem pexpect_no (rb : Nat) (s : ByteArray) (i : Nat) (d : Int) (w : World) (h : PRd rb s i d w) (hs : s.size ≤ 1048576) (hi : i ≤ s.size) (c : Nat) (hc : bt s i ≠ c ∨ i = s.size) :
    Calls Try.prog 42 #[.pointer (some ⟨rb, 0, none⟩), .int .u8 c] w fun e w' => e = mis ∧ KB rb w w' := by
  by_cases hi' : i = s.size
  · have HN := hide (pnext_out rb s i d w h hi')
    clear h hc hs
    go_enter Try.func42, Try.ntmps42
    go_wp2_with fail
    refine (unhide HN).mono ?_
    rintro e w1 ⟨rfl, k1⟩
    clear HN
    exact ⟨rfl, rfl, k1⟩
  · have HN := hide (pnext_in rb s i d w h hs (by omega))
    have hne : (((bt s i : Nat) : Int) != (c : Int)) = true := by rw [bne_iff_ne]; omega
    generalize bt s i = b at *
    clear h hc hs
    go_enter Try.func42, Try.ntmps42
    go_wp2_with fail
    refine (unhide HN).mono ?_
    rintro e w1 ⟨rfl, r1, k1⟩
    clear r1 HN
    go_wp2
    exact ⟨rfl, rfl, k1⟩

set_option maxHeartbeats 1600000 in
theorem pskip_yes (rb : Nat) (s : ByteArray) (i : Nat) (d : Int) (w : World) (h : PRd rb s i d w) (hs : s.size ≤ 1048576) (c : Nat) (hc : bt s i = c) (h0 : i < s.size) :
    Calls Try.prog 59 #[.pointer (some ⟨rb, 0, none⟩), .int .u8 c] w fun e w' => e = .returned (.bool true) ∧ PRd rb s (i + 1) d w' ∧ KB rb w w' := by
  have c0 := h.text
  have c1 := h.at
  have f1 := h.frozen
  have hne : ((i : Int) == (s.size : Int)) = false := by rw [beq_eq_false_iff_ne]; omega
  rw [bt_at s i h0] at hc
  subst hc
  have H := hide h
  clear h
  go_enter Try.func59, Try.ntmps59
  go_wp2_with fail
  go_quiet (fail)
  go_wp2
  go_ret
  exact ⟨rfl, ((unhide H).drewN _).set _ _ (by omega), ((KB.refl rb w).drewN _).set 1 _⟩
set_option maxHeartbeats 1600000 in
theorem pskip_no (rb : Nat) (s : ByteArray) (i : Nat) (d : Int) (w : World) (h : PRd rb s i d w) (hi : i ≤ s.size) (c : Nat) (hc : bt s i ≠ c ∨ i = s.size) :
    Calls Try.prog 59 #[.pointer (some ⟨rb, 0, none⟩), .int .u8 c] w fun e w' => e = .returned (.bool false) ∧ PRd rb s i d w' ∧ KB rb w w' := by
  have c0 := h.text
  have c1 := h.at
  have H := hide h
  clear h
  by_cases hi' : i = s.size
  · have hne : ((i : Int) == (s.size : Int)) = true := by rw [beq_iff_eq]; omega
    go_enter Try.func59, Try.ntmps59
    go_wp2_with fail
    go_quiet (fail)
    go_wp2
    go_ret
    exact ⟨rfl, (unhide H).drewN _, (KB.refl rb w).drewN _⟩
  · have h0 : i < s.size := by omega
    have hne : ((i : Int) == (s.size : Int)) = false := by rw [beq_eq_false_iff_ne]; omega
    have hnc : ((s[i].toNat : Int) != (c : Int)) = true := by
      rw [bne_iff_ne]; rw [bt_at s i h0] at hc; omega
    clear hc
    go_enter Try.func59, Try.ntmps59
    go_wp2_with fail
    go_quiet (fail)
    go_wp2
    go_ret
    exact ⟨rfl, (unhide H).drewN _, (KB.refl rb w).drewN _⟩
end Go.Proofs.Ytiolpmhodbefoaa

