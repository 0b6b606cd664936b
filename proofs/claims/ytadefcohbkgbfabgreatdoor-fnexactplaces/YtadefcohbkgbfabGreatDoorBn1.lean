import Derived.WalkKit
import Derived.Test.YtadefcohbkgbfabGreatDoorRows
import Derived.Lib.UnsafeStr
import Derived.Lib.SplitLaws
import Derived.Lib.TrimUEq
import Derived.Lib.ValidU
import Derived.Lib.RuneBytes
import Derived.Lib.DecodeN
import Derived.Laws.IdiomStrings
import Derived.Laws.BytesArg
import Derived.Laws.AppendOwn
import Derived.Shelf.Unicode.DecodeSlow
import Derived.Shelf.Strings.Builder1
import Derived.Lib.OthersKept
namespace Go.Proofs.YtadefcohbkgbfabGreatDoor
open Go.RowKit

structure SS (w : World) (xa : Option Addr) (xb xo : Nat) (ss : List ByteArray) : Prop where
  ad : 0 < ss.length → xa = some ⟨xb, xo, none⟩
  cell : ∀ j, j < ss.length → w.cell? ⟨xb, xo + j, none⟩ = some (.string (ss.getD j ByteArray.empty))

theorem SS.below {w w' : World} {xa : Option Addr} {xb xo : Nat} {ss : List ByteArray} (h : SS w xa xb xo ss) (hb : Below w.heap.size w w') : SS w' xa xb xo ss :=
  ⟨h.ad, fun j hj => (hb.cell (p := ⟨xb, xo + j, none⟩) (World.block_lt_of_cell? _ _ (h.cell j hj))).trans (h.cell j hj)⟩

theorem below_next {w w1 w2 : World} (h : Below w.heap.size w w1) (k : Below w1.heap.size w1 w2) : Below w.heap.size w w2 := h.trans (k.mono h.size)
def tot (ss : List ByteArray) : Nat := (ss.map ByteArray.size).sum
theorem take_snoc {ss : List ByteArray} {j : Nat} (hj : j < ss.length) : ss.take (j + 1) = ss.take j ++ [ss.getD j ByteArray.empty] := by
  rw [List.take_add_one, List.getElem?_eq_getElem hj]; simp [List.getD, hj]
theorem tot_snoc (ss : List ByteArray) (s : ByteArray) : tot (ss ++ [s]) = tot ss + s.size := by simp [tot]
theorem tot_take_le (ss : List ByteArray) (k : Nat) : tot (ss.take k) ≤ tot ss := by
  have h : tot ss = tot (ss.take k) + tot (ss.drop k) := by
    unfold tot; rw [← List.sum_append, ← List.map_append, List.take_append_drop]
  omega
theorem hide {p : Prop} (h : p) : Hid p := h
theorem unhide {p : Prop} (h : Hid p) : p := h
theorem ret_int {k : IntKind} {a b : Int} (h : a = b) : Ending.returned (.int k a) = .returned (.int k b) := by rw [h]

end Go.Proofs.YtadefcohbkgbfabGreatDoor


namespace Go.Proofs.YtadefcohbkgbfabGreatDoor
open Go.RowKit

def escB (c : UInt8) : List UInt8 := if c.toNat = 126 then [126, 48] else if c.toNat = 47 then [126, 49] else [c]
def esc (l : List UInt8) : List UInt8 := l.flatMap escB
def ptrText (ss : List ByteArray) : List UInt8 := ss.flatMap (fun s => 47 :: esc s.data.toList)

theorem escB_le (c : UInt8) : (escB c).length ≤ 2 := by unfold escB; split <;> (try split) <;> simp
theorem esc_le (l : List UInt8) : (esc l).length ≤ 2 * l.length := by
  induction l with
  | nil => simp [esc]
  | cons c l ih => have := escB_le c; simp only [esc, List.flatMap_cons, List.length_append, List.length_cons] at *; omega
theorem esc_snoc (l : List UInt8) (c : UInt8) : esc (l ++ [c]) = esc l ++ escB c := by simp [esc]
theorem ptrText_snoc (ss : List ByteArray) (s : ByteArray) : ptrText (ss ++ [s]) = ptrText ss ++ 47 :: esc s.data.toList := by simp [ptrText]
theorem data_len (s : ByteArray) : s.data.toList.length = s.size := Array.length_toList
theorem ptrText_le (ss : List ByteArray) : (ptrText ss).length ≤ ss.length + 2 * tot ss := by
  induction ss with
  | nil => simp [ptrText, tot]
  | cons s ss ih =>
    have := esc_le s.data.toList
    have e := data_len s
    simp only [ptrText, tot, List.flatMap_cons, List.length_append, List.length_cons, List.map_cons, List.sum_cons] at *
    omega
theorem bytes_snoc (s : ByteArray) (k : Nat) (h : k < s.size) : s.data.toList.take (k + 1) = s.data.toList.take k ++ [s[k]] := by
  rw [List.take_succ_eq_append_getElem (by simpa using h)]; rfl
theorem bytes_all (s : ByteArray) : s.data.toList.take s.size = s.data.toList := List.take_of_length_le (Nat.le_of_eq (data_len s))
theorem tot_ge {ss : List ByteArray} {j : Nat} (hj : j < ss.length) : tot (ss.take j) + (ss.getD j ByteArray.empty).size ≤ tot ss := by
  have := tot_take_le ss (j + 1)
  rw [take_snoc hj, tot_snoc] at this
  exact this
theorem escB_126 {c : UInt8} (h : (c.toNat : Int) = 126) : escB c = [126, 48] := by unfold escB; rw [if_pos (by omega)]
theorem escB_47 {c : UInt8} (h : (c.toNat : Int) = 47) : escB c = [126, 49] := by unfold escB; rw [if_neg (by omega), if_pos (by omega)]
theorem escB_other {c : UInt8} (h : ¬ (c.toNat : Int) = 126) (h' : ¬ (c.toNat : Int) = 47) : escB c = [c] := by unfold escB; rw [if_neg (by omega), if_neg (by omega)]
end Go.Proofs.YtadefcohbkgbfabGreatDoor


namespace Go.Proofs.YtadefcohbkgbfabGreatDoor
open Go.RowKit

def unesc : List UInt8 → Option (List UInt8)
  | [] => some []
  | c :: r =>
    if c.toNat = 126 then
      match r with
      | [] => none
      | d :: r' => if d.toNat = 48 then (unesc r').map (126 :: ·) else if d.toNat = 49 then (unesc r').map (47 :: ·) else none
    else (unesc r).map (c :: ·)

/-- What is read up to place j: acc; what is left gives the rest. -/
def UnAt (l : List UInt8) (j : Nat) (acc : List UInt8) : Prop := unesc l = (unesc (l.drop j)).map (acc ++ ·)
theorem UnAt.step {l : List UInt8} {j k : Nat} {acc m : List UInt8} (h : UnAt l j acc) (hs : unesc (l.drop j) = (unesc (l.drop k)).map (m ++ ·)) : UnAt l k (acc ++ m) := by
  unfold UnAt at *; rw [h, hs, Option.map_map]; congr 1; funext x; simp
theorem UnAt.bad {l : List UInt8} {j : Nat} {acc : List UInt8} (h : UnAt l j acc) (hs : unesc (l.drop j) = none) : unesc l = none := by
  unfold UnAt at h; rw [h, hs]; rfl
theorem UnAt.fin {l : List UInt8} {j : Nat} {acc : List UInt8} (h : UnAt l j acc) (hj : l.length ≤ j) : unesc l = some acc := by
  unfold UnAt at h; rw [h, List.drop_eq_nil_of_le hj]; simp [unesc]

theorem drop_at (s : ByteArray) (j : Nat) (h : j < s.size) : s.data.toList.drop j = s[j] :: s.data.toList.drop (j + 1) := by
  rw [List.drop_eq_getElem_cons (by rw [data_len]; exact h)]; rfl
theorem drop_end (s : ByteArray) (j : Nat) (h : ¬ j < s.size) : s.data.toList.drop j = [] := List.drop_eq_nil_of_le (by rw [data_len]; omega)

def pieces : List UInt8 → List (List UInt8)
  | [] => [[]]
  | c :: r => if c.toNat = 47 then [] :: pieces r else (match pieces r with | [] => [[c]] | p :: ps => (c :: p) :: ps)
theorem pieces_go {c : UInt8} {r p : List UInt8} {ps : List (List UInt8)} (h : ¬ c.toNat = 47) (hr : pieces r = p :: ps) : pieces (c :: r) = (c :: p) :: ps := by rw [pieces, if_neg h, hr]

/-- The tokens of a pointer. -/
def toks (l : List UInt8) : Option (List (List UInt8)) := (pieces l).mapM unesc
end Go.Proofs.YtadefcohbkgbfabGreatDoor


namespace Go.Proofs.YtadefcohbkgbfabGreatDoor
open Go.RowKit Go.Lib

/-- The byte at place i + k, as a number; 0 beyond the end. -/
def bt (s : ByteArray) (i : Nat) : Nat := (s.data.toList.getD i 0).toNat
theorem bt_lt (s : ByteArray) (i : Nat) : bt s i < 256 := UInt8.toNat_lt _
theorem bt_at (s : ByteArray) (i : Nat) (h : i < s.size) : bt s i = s[i].toNat := by
  unfold bt
  have : s.data.toList[i]? = some s[i] := by rw [List.getElem?_eq_getElem (by rw [data_len]; exact h)]; rfl
  rw [List.getD_eq_getElem?_getD, this]; rfl
theorem dec (s : ByteArray) (i : Nat) : Utf8.decode s i = decodeN (s.size - i) (bt s i) (bt s (i + 1)) (bt s (i + 2)) (bt s (i + 3)) := by
  rw [decode_N, data_len]; rfl

/-- The length of the rune at a place, 0 where there is none. -/
def rlN (n b0 b1 b2 b3 : Nat) : Nat := if b0 < 128 then 1 else if (decodeN n b0 b1 b2 b3).2 = 1 then 0 else (decodeN n b0 b1 b2 b3).2
def rl (s : ByteArray) (i : Nat) : Nat := rlN (s.size - i) (bt s i) (bt s (i + 1)) (bt s (i + 2)) (bt s (i + 3))

theorem rlN_one {n b0 b1 b2 b3 : Nat} (h : b0 < 128) : rlN n b0 b1 b2 b3 = 1 := by simp [rlN, h]
theorem rlN_cont {n b0 b1 b2 b3 : Nat} (h : 128 ≤ b0) (h' : b0 < 192) : rlN n b0 b1 b2 b3 = 0 := by
  unfold rlN decodeN
  rw [if_neg (by omega)]
  repeat' split
  all_goals first | rfl | (exfalso; omega) | (simp at *; done) | (exfalso; simp at *; omega)

/-- Two bytes. -/
theorem rlN_2 {n b0 b1 b2 b3 : Nat} (h : 192 ≤ b0) (h' : b0 < 224) (hb1 : b1 < 256) :
    rlN n b0 b1 b2 b3 = if 2 ≤ n ∧ 128 ≤ b1 ∧ b1 < 192 ∧ 128 ≤ (b0 - 192) * 64 + (b1 - 128) then 2 else 0 := by
  unfold rlN decodeN
  rw [if_neg (by omega)]
  repeat' split
  all_goals first | rfl | omega | (exfalso; omega) | (exfalso; simp at *; omega)
/-- Three bytes. -/
theorem rlN_3 {n b0 b1 b2 b3 : Nat} (h : 224 ≤ b0) (h' : b0 < 240) (hb1 : b1 < 256) (hb2 : b2 < 256) :
    rlN n b0 b1 b2 b3 = if 3 ≤ n ∧ 128 ≤ b1 ∧ b1 < 192 ∧ 128 ≤ b2 ∧ b2 < 192 ∧ 2048 ≤ (b0 - 224) * 4096 + (b1 - 128) * 64 + (b2 - 128) ∧ ((b0 - 224) * 4096 + (b1 - 128) * 64 + (b2 - 128) < 55296 ∨ 57344 ≤ (b0 - 224) * 4096 + (b1 - 128) * 64 + (b2 - 128)) then 3 else 0 := by
  unfold rlN decodeN
  rw [if_neg (by omega)]
  repeat' split
  all_goals first | rfl | omega | (exfalso; omega) | (exfalso; simp at *; omega)
/-- Four bytes. -/
theorem rlN_4 {n b0 b1 b2 b3 : Nat} (h : 240 ≤ b0) (h' : b0 < 256) (hb1 : b1 < 256) (hb2 : b2 < 256) (hb3 : b3 < 256) :
    rlN n b0 b1 b2 b3 = if 4 ≤ n ∧ 128 ≤ b1 ∧ b1 < 192 ∧ 128 ≤ b2 ∧ b2 < 192 ∧ 128 ≤ b3 ∧ b3 < 192 ∧ 65536 ≤ (b0 - 240) * 262144 + (b1 - 128) * 4096 + (b2 - 128) * 64 + (b3 - 128) ∧ (b0 - 240) * 262144 + (b1 - 128) * 4096 + (b2 - 128) * 64 + (b3 - 128) ≤ 1114111 then 4 else 0 := by
  unfold rlN decodeN
  rw [if_neg (by omega)]
  repeat' split
  all_goals first | rfl | omega | (exfalso; omega) | (exfalso; simp at *; omega)
end Go.Proofs.YtadefcohbkgbfabGreatDoor


namespace Go.Proofs.YtadefcohbkgbfabGreatDoor
open Go.RowKit

def isDg (b : Nat) : Bool := decide (48 ≤ b) && decide (b ≤ 57)
theorem isDg_iff {b : Nat} : isDg b = true ↔ 48 ≤ b ∧ b ≤ 57 := by simp [isDg]
/-- What digits stand for. -/
def digV (l : List UInt8) : Nat := l.foldl (fun v c => v * 10 + (c.toNat - 48)) 0
end Go.Proofs.YtadefcohbkgbfabGreatDoor


namespace Go.Proofs.YtadefcohbkgbfabGreatDoor
open Go.RowKit

theorem infoU8 : (Tryz.prog.info? 5).map (fun i => (i.zero, i.size, i.bytes)) = some (some (.int .u8 0), 1, 1) := by kernel_rfl
theorem byteCells_at {l : List UInt8} {j : Nat} (hj : j < l.length) : (Lib.byteCells l)[j]? = some (.int .u8 (l[j].toNat : Int)) := by simp [Lib.byteCells, hj]

theorem lit1 (w : World) (t : TypeId) (x : Value) : ∀ j u, [x][j]? = some u → (w.alloc (.cells #[x] t)).cell? ((⟨w.heap.size, 0, none⟩ : Addr).add j) = some u := by
  intro j u hj
  match j, hj with
  | 0, hj => simp at hj; subst hj; simp [Addr.add]
theorem lit2 (w : World) (t : TypeId) (x y : Value) : ∀ j u, [x, y][j]? = some u → (w.alloc (.cells #[x, y] t)).cell? ((⟨w.heap.size, 0, none⟩ : Addr).add j) = some u := by
  intro j u hj
  match j, hj with
  | 0, hj => simp at hj; subst hj; simp [Addr.add]
  | 1, hj => simp at hj; subst hj; simp [Addr.add]
theorem one1 (k : IntKind) (a : Int) : ∀ u ∈ [Value.int k a], u.oneCell' = true := by intro u hu; simp at hu; subst hu; rfl
theorem one2 (k : IntKind) (a b : Int) : ∀ u ∈ [Value.int k a, Value.int k b], u.oneCell' = true := by
  intro u hu; simp at hu; rcases hu with rfl | rfl <;> rfl

/-- Behind an append of some bytes: the row owns the longer list. -/
theorem own_step {w1 : World} {B e : Nat} {v' : Value} {l m : List UInt8} {news : List Value} {k : Nat} (h : w1.ownsRow B e 1 v' ((Lib.byteCells l).length + k) (Lib.byteCells l ++ news)) (hn : news = Lib.byteCells m) (hk : k = m.length) :
    w1.ownsRow B e 1 v' (Lib.byteCells (l ++ m)).length (Lib.byteCells (l ++ m)) := by
  subst hn; subst hk
  rw [Lib.byteCells_append]
  have : (Lib.byteCells l ++ Lib.byteCells m).length = (Lib.byteCells l).length + m.length := by simp [Lib.byteCells]
  rw [this]; exact h

theorem convert_own {w : World} {B : Nat} {v : Value} {l : List UInt8} (h : w.ownsRow B 5 1 v (Lib.byteCells l).length (Lib.byteCells l)) : (convert 22 9 v).run Tryz.prog w = .ok (.string ⟨l.toArray⟩) w := by
  have hl := Lib.byteCells_length l
  rcases h.2 with ⟨hv, h0⟩ | ⟨g, cap, cur, hv, _⟩
  · have e0 : l = [] := List.eq_nil_of_length_eq_zero (by omega)
    subst hv; subst e0
    exact run_convert_bytes_nil (P := Tryz.prog) w 22 5 Tryz.underlying22 Tryz.underlying5 0 0 9 Tryz.underlying9
  · subst hv
    rw [hl] at h ⊢
    exact run_convert_bytes_back (P := Tryz.prog) w 22 9 5 ⟨g, 0, none⟩ cap l Tryz.underlying22 Tryz.underlying5 Tryz.underlying9 (fun j hj => by
      rw [show ((⟨g, 0, none⟩ : Addr).add j) = ⟨g, j, none⟩ from by simp [Addr.add]; omega, h.cellAt j (by omega)]; exact byteCells_at hj)
end Go.Proofs.YtadefcohbkgbfabGreatDoor


namespace Go.Proofs.YtadefcohbkgbfabGreatDoor
open Go.RowKit

def utfZ (r : Nat) : List Nat :=
  if r < 128 then [r] else if r < 2048 then [192 + r / 64, 128 + r % 64]
  else if r < 65536 then [224 + r / 4096, 128 + r / 64 % 64, 128 + r % 64]
  else [240 + r / 262144, 128 + r / 4096 % 64, 128 + r / 64 % 64, 128 + r % 64]
def utf (r : Nat) : List UInt8 := (utfZ r).map UInt8.ofNat
def strOf (l : List UInt8) : ByteArray := ⟨l.toArray⟩
theorem strOf_toList (l : List UInt8) : (strOf l).data.toList = l := by simp [strOf]
theorem strOf_size (l : List UInt8) : (strOf l).size = l.length := by rw [← data_len, strOf_toList]

theorem convert_bytes (w : World) (l : List UInt8) (cs : Array Value) (n : Nat) (hn : n = l.length) (hcs : cs.toList = Lib.byteCells l) :
    (convert 22 9 (.slice (some ⟨w.heap.size, 0, none⟩) n n)).run Tryz.prog (w.alloc (.cells cs 5)) = .ok (.string (strOf l)) (w.alloc (.cells cs 5)) := by
  subst hn
  exact run_convert_bytes_back (P := Tryz.prog) _ 22 9 5 ⟨w.heap.size, 0, none⟩ l.length l Tryz.underlying22 Tryz.underlying5 Tryz.underlying9 (fun j hj => by
    rw [Go.WideShapes.add_plain, cell_of_row _ w.heap.size (0 + j) cs 5 (0, 0) (heap_alloc_new w _), Nat.zero_add]
    have h := byteCells_at hj
    rw [← hcs] at h; simpa using h)
set_option maxHeartbeats 800000 in
theorem utf8_walk (r : Nat) (w : World) (hr : r ≤ 1114111) :
    Calls Tryz.prog 67 #[.int .i64 r] w fun e w' => e = .returned (.string (strOf (utf r))) ∧ Below w.heap.size w w' := by
  by_cases h1 : r < 128
  · have hcv := convert_bytes w (utf r) #[.int .u8 (r : Int)] 1 (by simp [utf, utfZ, h1]) (by simp [utf, utfZ, h1, Lib.byteCells]; omega)
    have h1' : (r : Int) < 128 := by omega
    generalize utf r = u at *
    go_enter Tryz.func67, Tryz.ntmps67
    go_wp2
    go_ret
    exact ⟨rfl, (Below.refl _ _).alloc (Nat.le_refl _) _⟩
  · by_cases h2 : r < 2048
    · have hcv := convert_bytes w (utf r) #[.int .u8 (192 + (r : Int) / 64), .int .u8 (128 + (r : Int) % 64)] 2 (by simp [utf, utfZ, h1, h2]) (by simp [utf, utfZ, h1, h2, Lib.byteCells]; omega)
      have h1' : ¬ (r : Int) < 128 := by omega
      have h2' : (r : Int) < 2048 := by omega
      generalize utf r = u at *
      go_enter Tryz.func67, Tryz.ntmps67
      go_wp2
      go_ret
      exact ⟨rfl, (Below.refl _ _).alloc (Nat.le_refl _) _⟩
    · by_cases h3 : r < 65536
      · have hcv := convert_bytes w (utf r) #[.int .u8 (224 + (r : Int) / 4096), .int .u8 (128 + (r : Int) / 64 % 64), .int .u8 (128 + (r : Int) % 64)] 3 (by simp [utf, utfZ, h1, h2, h3]) (by simp [utf, utfZ, h1, h2, h3, Lib.byteCells]; omega)
        have h1' : ¬ (r : Int) < 128 := by omega
        have h2' : ¬ (r : Int) < 2048 := by omega
        have h3' : (r : Int) < 65536 := by omega
        generalize utf r = u at *
        go_enter Tryz.func67, Tryz.ntmps67
        go_wp2
        go_ret
        exact ⟨rfl, (Below.refl _ _).alloc (Nat.le_refl _) _⟩
      · have hcv := convert_bytes w (utf r) #[.int .u8 (240 + (r : Int) / 262144), .int .u8 (128 + (r : Int) / 4096 % 64), .int .u8 (128 + (r : Int) / 64 % 64), .int .u8 (128 + (r : Int) % 64)] 4 (by simp [utf, utfZ, h1, h2, h3]) (by simp [utf, utfZ, h1, h2, h3, Lib.byteCells]; omega)
        have h1' : ¬ (r : Int) < 128 := by omega
        have h2' : ¬ (r : Int) < 2048 := by omega
        have h3' : ¬ (r : Int) < 65536 := by omega
        generalize utf r = u at *
        go_enter Tryz.func67, Tryz.ntmps67
        go_wp2
        go_ret
        exact ⟨rfl, (Below.refl _ _).alloc (Nat.le_refl _) _⟩
end Go.Proofs.YtadefcohbkgbfabGreatDoor


namespace Go.Proofs.YtadefcohbkgbfabGreatDoor
open Go.RowKit

def hexs : List UInt8 := [48, 49, 50, 51, 52, 53, 54, 55, 56, 57, 97, 98, 99, 100, 101, 102]
def qB (c : UInt8) : List UInt8 :=
  if c.toNat = 34 ∨ c.toNat = 92 then [92, c] else if c.toNat = 8 then [92, 98] else if c.toNat = 9 then [92, 116] else if c.toNat = 10 then [92, 110]
  else if c.toNat = 12 then [92, 102] else if c.toNat = 13 then [92, 114] else if c.toNat < 32 then [92, 117, 48, 48, hexs.getD (c.toNat / 16) 0, hexs.getD (c.toNat % 16) 0] else [c]
theorem qB_le (c : UInt8) : (qB c).length ≤ 6 := by
  unfold qB
  repeat' split
  all_goals simp
def qs (l : List UInt8) : List UInt8 := l.flatMap qB
def quoted (l : List UInt8) : List UInt8 := 34 :: (qs l ++ [34])
theorem qs_snoc (l : List UInt8) (c : UInt8) : qs (l ++ [c]) = qs l ++ qB c := by simp [qs]
theorem qs_app (l m : List UInt8) : qs (l ++ m) = qs l ++ qs m := by simp [qs]
theorem qs_le (l : List UInt8) : (qs l).length ≤ 6 * l.length := by
  induction l with
  | nil => simp [qs]
  | cons c l ih => have := qB_le c; simp only [qs, List.flatMap_cons, List.length_append, List.length_cons] at *; omega
theorem q_esc {c : UInt8} (h : (c.toNat : Int) = 34 ∨ (c.toNat : Int) = 92) : qB c = [92, c] := by unfold qB; rw [if_pos (by omega)]
theorem q_8 {c : UInt8} (h : (c.toNat : Int) = 8) : qB c = [92, 98] := by unfold qB; rw [if_neg (by omega), if_pos (by omega)]
theorem q_9 {c : UInt8} (h : (c.toNat : Int) = 9) : qB c = [92, 116] := by unfold qB; rw [if_neg (by omega), if_neg (by omega), if_pos (by omega)]
theorem q_10 {c : UInt8} (h : (c.toNat : Int) = 10) : qB c = [92, 110] := by unfold qB; rw [if_neg (by omega), if_neg (by omega), if_neg (by omega), if_pos (by omega)]
theorem q_12 {c : UInt8} (h : (c.toNat : Int) = 12) : qB c = [92, 102] := by unfold qB; rw [if_neg (by omega), if_neg (by omega), if_neg (by omega), if_neg (by omega), if_pos (by omega)]
theorem q_13 {c : UInt8} (h : (c.toNat : Int) = 13) : qB c = [92, 114] := by unfold qB; rw [if_neg (by omega), if_neg (by omega), if_neg (by omega), if_neg (by omega), if_neg (by omega), if_pos (by omega)]
def Ctl (n : Nat) : Prop := n < 32 ∧ ¬ n = 8 ∧ ¬ n = 9 ∧ ¬ n = 10 ∧ ¬ n = 12 ∧ ¬ n = 13
theorem q_ctl {c : UInt8} (h : Ctl c.toNat) : qB c = [92, 117, 48, 48, hexs.getD (c.toNat / 16) 0, hexs.getD (c.toNat % 16) 0] := by
  obtain ⟨h1, h2, h3, h4, h5, h6⟩ := h
  unfold qB; rw [if_neg (by omega), if_neg h2, if_neg h3, if_neg h4, if_neg h5, if_neg h6, if_pos h1]
theorem q_lit {c : UInt8} (h : ¬ c.toNat = 34) (h' : ¬ c.toNat = 92) (h'' : 32 ≤ c.toNat) : qB c = [c] := by
  unfold qB; rw [if_neg (by omega), if_neg (by omega), if_neg (by omega), if_neg (by omega), if_neg (by omega), if_neg (by omega), if_neg (by omega)]
theorem hex_at (k : Nat) (h : k < 16) : (⟨hexs.toArray⟩ : ByteArray)[k]'(by show k < 16; exact h) = hexs.getD k 0 := by
  rcases (show k = 0 ∨ k = 1 ∨ k = 2 ∨ k = 3 ∨ k = 4 ∨ k = 5 ∨ k = 6 ∨ k = 7 ∨ k = 8 ∨ k = 9 ∨ k = 10 ∨ k = 11 ∨ k = 12 ∨ k = 13 ∨ k = 14 ∨ k = 15 from by omega) with rfl | rfl | rfl | rfl | rfl | rfl | rfl | rfl | rfl | rfl | rfl | rfl | rfl | rfl | rfl | rfl <;> rfl
theorem qs_high : ∀ l : List UInt8, (∀ c ∈ l, 128 ≤ c.toNat) → qs l = l
  | [], _ => rfl
  | c :: l, h => by
    have h1 := h c List.mem_cons_self
    have ih := qs_high l (fun d hd => h d (List.mem_cons_of_mem _ hd))
    show qB c ++ qs l = c :: l
    rw [q_lit (by omega) (by omega) (by omega), ih]; rfl
end Go.Proofs.YtadefcohbkgbfabGreatDoor


namespace Go.Proofs.YtadefcohbkgbfabGreatDoor
open Go.RowKit

def atB (s : ByteArray) (k : Nat) (c : Int) : Bool := match s.data.toList[k]? with
  | some x => (x.toNat : Int) == c
  | none => false
theorem getElem_data (s : ByteArray) (k : Nat) (h : k < s.size) : s.data.toList[k]? = some s[k] := by
  rw [List.getElem?_eq_getElem (by rw [data_len]; exact h)]; rfl
theorem atB_in {s : ByteArray} {k : Nat} {c : Int} (h : k < s.size) : atB s k c = ((s[k].toNat : Int) == c) := by
  unfold atB; rw [getElem_data s k h]
theorem atB_out {s : ByteArray} {k : Nat} {c : Int} (h : ¬ k < s.size) : atB s k c = false := by
  unfold atB; rw [List.getElem?_eq_none (by rw [data_len]; omega)]
theorem ret_bool {a b : Bool} (h : a = b) : Ending.returned (.bool a) = .returned (.bool b) := by rw [h]

set_option maxHeartbeats 400000 in
theorem at_walk (s : ByteArray) (i : Int) (k : Nat) (hik : i = (k : Int)) (c : Int) (w : World) :
    Calls Tryz.prog 55 #[.string s, .int .i64 i, .int .u8 c] w fun e w' => e = .returned (.bool (atB s k c)) ∧ w = w' := by
  subst hik
  by_cases h : k < s.size
  · have HB := hide (atB_in (c := c) h)
    have h' : (k : Int) < (s.size : Int) := by omega
    go_enter Tryz.func55, Tryz.ntmps55
    go_wp2
    go_ret
    exact ⟨ret_bool (by rw [unhide HB]), rfl⟩
  · have HB := hide (atB_out (c := c) h)
    have h' : decide ((k : Int) < (s.size : Int)) = false := by simp; omega
    go_enter Tryz.func55, Tryz.ntmps55
    go_wp2
    go_ret
    exact ⟨ret_bool (by rw [unhide HB]), rfl⟩
end Go.Proofs.YtadefcohbkgbfabGreatDoor


namespace Go.Proofs.YtadefcohbkgbfabGreatDoor
open Go.RowKit

theorem own_below {w w1 : World} {B e size n : Nat} {v : Value} {xs : List Value} (h : w.ownsRow B e size v n xs) (hb : Below w.heap.size w w1) : w1.ownsRow B e size v n xs := by
  refine ⟨h.1, ?_⟩
  rcases h.2 with h0 | ⟨g, cap, cur, hv, hB, hg, r⟩
  · exact .inl h0
  · exact .inr ⟨g, cap, cur, hv, hB, (hb.block g (Array.getElem?_eq_some_iff.1 hg).1).trans hg, r⟩
theorem own_mono {w : World} {B B' e size n : Nat} {v : Value} {xs : List Value} (h : w.ownsRow B e size v n xs) (hB : B' ≤ B) : w.ownsRow B' e size v n xs := by
  refine ⟨h.1, ?_⟩
  rcases h.2 with h0 | ⟨g, cap, cur, hv, hb, r⟩
  · exact .inl h0
  · exact .inr ⟨g, cap, cur, hv, Nat.le_trans hB hb, r⟩
end Go.Proofs.YtadefcohbkgbfabGreatDoor


namespace Go.Proofs.YtadefcohbkgbfabGreatDoor
open Go.RowKit

theorem one_bytes (l : List UInt8) : ∀ u ∈ Lib.byteCells l, u.oneCell' = true := by
  intro u hu
  simp only [Lib.byteCells, List.mem_map] at hu
  obtain ⟨b, _, rfl⟩ := hu
  rfl

/-- A string's bytes in a new row. -/
theorem conv_bytes (w : World) (l : List UInt8) : ∃ cap W, (convert 9 22 (.string (strOf l))).run Tryz.prog w = .ok (.slice (some ⟨w.heap.size, 0, none⟩) l.length cap) W ∧
    (∀ j u, (Lib.byteCells l)[j]? = some u → W.cell? ((⟨w.heap.size, 0, none⟩ : Addr).add j) = some u) ∧ Below w.heap.size w W ∧ (∀ (B e : Nat) v n xs, w.ownsRow B e 1 v n xs → W.ownsRow B e 1 v n xs) ∧ w.heap.size ≤ W.heap.size := by
  have h := run_bytes_of_string (P := Tryz.prog) w 9 22 5 (strOf l) Tryz.underlying9 Tryz.underlying22 Tryz.underlying5
  have hsz : (strOf l).size = l.length := strOf_size l
  refine ⟨_, _, (by rw [h, hsz]), ?_, ?_, ?_, ?_⟩
  · intro j u hj
    have hjl : j < l.length := by
      have := (List.getElem?_eq_some_iff.1 hj).1
      rwa [Lib.byteCells_length] at this
    have hd : (strOf l).data.size = l.length := by simp [strOf]
    have h1 := bytesRow_at (strOf l) (grownCap w (strOf l).size 0 5) j (by omega)
    rw [Go.WideShapes.add_plain, show (0 : Nat) + j = j from by omega]
    have hh : (w.drew.alloc (.cells (bytesRow (strOf l) (grownCap w (strOf l).size 0 5)) 5 ((bytesRow (strOf l) (grownCap w (strOf l).size 0 5)).size, (bytesRow (strOf l) (grownCap w (strOf l).size 0 5)).size + 1))).heap[w.heap.size]? = some (.cells (bytesRow (strOf l) (grownCap w (strOf l).size 0 5)) 5 ((bytesRow (strOf l) (grownCap w (strOf l).size 0 5)).size, (bytesRow (strOf l) (grownCap w (strOf l).size 0 5)).size + 1)) := heap_alloc_new w.drew _
    rw [hsz] at hh h1
    rw [cell_of_row _ w.heap.size j _ 5 _ hh, h1]
    rw [byteCells_at hjl] at hj
    rw [← hj]
    simp [strOf]
  · exact ((Below.refl _ _).drew).alloc (Nat.le_refl _) _
  · intro B e v n xs ho
    exact World.ownsRow.alloc (w := w.drew) ho _
  · show w.heap.size ≤ (w.heap.push _).size
    simp
end Go.Proofs.YtadefcohbkgbfabGreatDoor


namespace Go.Proofs.YtadefcohbkgbfabGreatDoor
open Go.RowKit

/-- The two tables of unicode/utf8. -/
def Tabs (w : World) : Prop := Lib.Utf8Tabs 0 1 w
theorem Tabs.below {w w' : World} (h : Tabs w) (hb : Below w.heap.size w w') : Tabs w' := by
  refine ⟨fun c hc => ?_, fun i hi => ?_⟩
  · have := h.1 c hc
    exact (hb.cell (World.block_lt_of_cell? _ _ this)).trans this
  · have h2 := h.2 i hi
    exact ⟨(hb.cell (World.block_lt_of_cell? _ _ h2.1)).trans h2.1, (hb.cell (World.block_lt_of_cell? _ _ h2.2)).trans h2.2⟩
/-- The tables, below block B. -/
def TabsB (B : Nat) (w : World) : Prop := ∃ w0 : World, w0.heap.size ≤ B ∧ Tabs w0 ∧ Below w0.heap.size w0 w
theorem TabsB.of {w : World} (h : Tabs w) : TabsB w.heap.size w := ⟨w, Nat.le_refl _, h, Below.refl _ _⟩
theorem TabsB.tabs {B : Nat} {w : World} (h : TabsB B w) : Tabs w := by
  obtain ⟨w0, _, t, b⟩ := h
  exact t.below b
theorem TabsB.next {B B' : Nat} {w w' : World} (h : TabsB B w) (hb : Below B' w w') (hB : B ≤ B') : TabsB B w' := by
  obtain ⟨w0, h0, t, b⟩ := h
  exact ⟨w0, h0, t, b.trans (hb.mono (by omega))⟩
end Go.Proofs.YtadefcohbkgbfabGreatDoor


namespace Go.Proofs.YtadefcohbkgbfabGreatDoor
open Go.RowKit

theorem infoBld : (Tryz.prog.info? 81).map (·.size) = some 2 := by kernel_rfl
theorem liesBld : liesAt Tryz.prog Tryz.prog.depth 81 (2 / Tryz.prog.cellsOf 81) 0 81 1 = true := by kernel_rfl
theorem infoByte : (Tryz.prog.info? 5).map (fun i => (i.zero, i.size, i.bytes)) = some (some (.int .u8 0), 1, 1) := by kernel_rfl

set_option maxHeartbeats 1000000 in
set_option maxRecDepth 100000 in
theorem check_used (b : Nat) (w : World) (h0 : w.cell? ⟨b, 0, none⟩ = some (.pointer (some ⟨b, 0, none⟩))) :
    Calls Tryz.prog 69 #[.pointer (some ⟨b, 0, none⟩)] w fun e w' => e = .returned (.tuple #[]) ∧ w' = w := by
  obtain ⟨j, hj, _⟩ := Option.map_eq_some_iff.1 infoBld
  go_enter Tryz.func69, Tryz.ntmps69
  go_wp2
  rw [Lib.run_neq_ptr_same w _ Tryz.underlying79 hj]
  go_wp2
  go_end0
  exact ⟨rfl, rfl⟩

set_option maxHeartbeats 1000000 in
set_option maxRecDepth 100000 in
theorem check_fresh (b : Nat) (w : World) (h0 : w.cell? ⟨b, 0, none⟩ = some (.pointer none)) (hsh : w.shape? b = some (81, 2)) (hfz : w.frozen? ⟨b, 0, none⟩ = false) :
    Calls Tryz.prog 69 #[.pointer (some ⟨b, 0, none⟩)] w fun e w' => e = .returned (.tuple #[]) ∧ w' = w.setCell ⟨b, 0, none⟩ (.pointer (some ⟨b, 0, none⟩)) := by
  obtain ⟨j, hj, hjs⟩ := Option.map_eq_some_iff.1 infoBld
  go_enter Tryz.func69, Tryz.ntmps69
  go_wp2
  rw [Lib.run_to_unsafe w ⟨b, 0, none⟩ Tryz.underlying79 Tryz.underlying131 hj (by rw [hjs]; decide) hsh (Nat.zero_lt_succ 1)]
  simp only [Result.andThen]
  rw [Oper.upon_value]
  go_wp2
  rw [run_callFunc_extern Tryz.func86 (by kernel_rfl) (by kernel_rfl) (by kernel_rfl) (e := Extern.AbiNoEscape.same) (by kernel_rfl)]
  rw [Lib.run_noEscape]
  simp only [Result.andThen]
  rw [Oper.upon_value]
  go_wp2
  rw [Lib.run_from_unsafe w ⟨b, 0, none⟩ Tryz.underlying131 Tryz.underlying79 hj hsh liesBld]
  simp only [Result.andThen]
  rw [Oper.upon_value]
  go_wp2
  go_end0
  exact ⟨rfl, rfl⟩

theorem check (B b : Nat) (bs : List Value) (w : World) (h : Lib.IsBuilder 81 5 B b bs w) :
    Calls Tryz.prog 69 #[.pointer (some ⟨b, 0, none⟩)] w fun e w' => e = .returned (.tuple #[]) ∧ (Lib.BuilderAt 81 5 B b (.pointer (some ⟨b, 0, none⟩)) bs w' ∧ Below B w w') := by
  rcases h with h | h
  · refine (check_fresh b w h.cell0 h.shape h.frozen0).mono ?_
    rintro e w' ⟨rfl, rfl⟩
    exact ⟨rfl, h.used _, (Below.refl B w).setCell (p := ⟨b, 0, none⟩) h.1 _⟩
  · refine (check_used b w h.cell0).mono ?_
    rintro e w' ⟨rfl, rfl⟩
    exact ⟨rfl, h, Below.refl B _⟩

set_option maxHeartbeats 2000000 in
set_option maxRecDepth 100000 in
theorem writeByte (B b : Nat) (bs : List Value) (c : Int) (w : World) (h : Lib.IsBuilder 81 5 B b bs w) (hlen : bs.length + 1 ≤ 140737488355328) (hBw : B ≤ w.heap.size) :
    Calls Tryz.prog 100 #[.pointer (some ⟨b, 0, none⟩), .int .u8 c] w fun e w' => e = .returned .nilIface ∧ (Lib.BuilderAt 81 5 B b (.pointer (some ⟨b, 0, none⟩)) (bs ++ [.int .u8 c]) w' ∧ Below B w w') := by
  obtain ⟨i0, hi, hz0, hz1, hz2⟩ := info_parts infoByte
  go_enter Tryz.func100, Tryz.ntmps100
  go_wp2_with (go_at_call 69; refine (check B b bs _ h).mono ?_)
  rintro e w1 ⟨rfl, h1, hb1⟩
  obtain ⟨hB, v, hbk, hown, hne⟩ := h1
  have c0 : w1.cell? ⟨b, 0, none⟩ = some (.pointer (some ⟨b, 0, none⟩)) := by rw [Lib.cell_of_heap hbk]; rfl
  have c1 : w1.cell? ⟨b, 1, none⟩ = some v := by rw [Lib.cell_of_heap hbk]; rfl
  go_wp2_with (at_builtin; refine wpList_append_own _ rfl _ _ 22 rfl B 5 i0 (.int .u8 0) 1 1 Tryz.underlying22 hi hz0 hz1 hz2 rfl (by decide) _ _ _ rfl (hown.alloc _) ⟨w1.heap.size, 0, none⟩ 1 1 [.int .u8 c] rfl rfl ?c1 ?c2 ?c3 ?c4 ?c5 ?_)
  case c1 =>
    intro j u hj
    match j, hj with
    | 0, hj => simp at hj; subst hj; simp [Addr.add]
  case c2 => intro u hu; simp at hu; subst hu; rfl
  case c3 => unfold maxLen; omega
  case c4 => omega
  case c5 => have := hb1.size; simp; omega
  intro v' w2 hown' hgrow _
  have hlt : b < w1.heap.size := by
    rcases Nat.lt_or_ge b w1.heap.size with h' | h'
    · exact h'
    · simp [Array.getElem?_eq_none h'] at hbk
  have hb2 : w2.heap[b]? = some (.cells #[.pointer (some ⟨b, 0, none⟩), v] 81 (0, 0)) := by
    rw [hgrow.block b (by simp; omega) (fun e => hne e.symm), Lib.alloc_old w1 _ b hlt]
    exact hbk
  have d0 : w2.cell? ⟨b, 0, none⟩ = some (.pointer (some ⟨b, 0, none⟩)) := by rw [Lib.cell_of_heap hb2]; rfl
  have d1 : w2.cell? ⟨b, 1, none⟩ = some v := by rw [Lib.cell_of_heap hb2]; rfl
  have f1 : w2.frozen? ⟨b, 1, none⟩ = false := Lib.frozen_of_heap hb2 1
  obtain ⟨g, cap, rfl⟩ : ∃ g cap, v' = .slice (some ⟨g, 0, none⟩) (bs.length + 1) cap := by
    rcases hown'.2 with ⟨_, h0⟩ | ⟨g, cap, cur, hv, _⟩
    · omega
    · exact ⟨g, cap, hv⟩
  go_wp2
  go_ret
  refine ⟨rfl, ?_, ?_⟩
  · exact Lib.BuilderAt.put (T := 81) (e := 5) hB hb2 (bs' := bs ++ [.int .u8 c]) (by simpa using hown') (by decide)
  · exact ((hb1.alloc (by have := hb1.size; omega) _).grown hgrow (by have := hb1.size; simp; omega) (fun k hk => (hown.lt k hk).1)).setCell (p := ⟨b, 1, none⟩) hB _

set_option maxHeartbeats 2000000 in
set_option maxRecDepth 100000 in
theorem writeString (B b : Nat) (bs : List Value) (s : ByteArray) (w : World) (h : Lib.IsBuilder 81 5 B b bs w) (hlen : bs.length + s.size ≤ 140737488355328) (hBw : B ≤ w.heap.size) :
    Calls Tryz.prog 101 #[.pointer (some ⟨b, 0, none⟩), .string s] w fun e w' => e = .returned (.tuple #[.int .i64 s.size, .nilIface]) ∧ (Lib.BuilderAt 81 5 B b (.pointer (some ⟨b, 0, none⟩)) (bs ++ Lib.strCells s) w' ∧ Below B w w') := by
  obtain ⟨i0, hi, hz0, hz1, hz2⟩ := info_parts infoByte
  go_enter Tryz.func101, Tryz.ntmps101
  go_wp2_with (go_at_call 69; refine (check B b bs _ h).mono ?_)
  rintro e w1 ⟨rfl, h1, hb1⟩
  obtain ⟨hB, v, hbk, hown, hne⟩ := h1
  have c0 : w1.cell? ⟨b, 0, none⟩ = some (.pointer (some ⟨b, 0, none⟩)) := by rw [Lib.cell_of_heap hbk]; rfl
  have c1 : w1.cell? ⟨b, 1, none⟩ = some v := by rw [Lib.cell_of_heap hbk]; rfl
  go_wp2_with (at_builtin; refine Lib.wpList_append_own_string _ rfl _ _ 22 9 rfl B 5 i0 Tryz.underlying22 Tryz.underlying9 hi hz0 hz1 hz2 _ _ _ rfl hown s rfl ?c3 ?c4 ?c5 ?_)
  case c3 => unfold maxLen; omega
  case c4 => omega
  case c5 => have := hb1.size; omega
  intro v' w2 hown' hgrow _
  have hlt : b < w1.heap.size := by
    rcases Nat.lt_or_ge b w1.heap.size with h' | h'
    · exact h'
    · simp [Array.getElem?_eq_none h'] at hbk
  have hb2 : w2.heap[b]? = some (.cells #[.pointer (some ⟨b, 0, none⟩), v] 81 (0, 0)) := by
    rw [hgrow.block b hlt (fun e => hne e.symm)]
    exact hbk
  have d0 : w2.cell? ⟨b, 0, none⟩ = some (.pointer (some ⟨b, 0, none⟩)) := by rw [Lib.cell_of_heap hb2]; rfl
  have d1 : w2.cell? ⟨b, 1, none⟩ = some v := by rw [Lib.cell_of_heap hb2]; rfl
  have f1 : w2.frozen? ⟨b, 1, none⟩ = false := Lib.frozen_of_heap hb2 1
  obtain ⟨ao, n', cap, rfl⟩ : ∃ ao n' cap, v' = .slice ao n' cap := by
    rcases hown'.2 with ⟨hv, _⟩ | ⟨g, cap, cur, hv, _⟩
    · exact ⟨_, _, _, hv⟩
    · exact ⟨_, _, _, hv⟩
  go_wp2
  go_ret2
  refine ⟨rfl, ?_, ?_⟩
  · exact Lib.BuilderAt.put (T := 81) (e := 5) hB hb2 (bs' := bs ++ Lib.strCells s) (by simpa [Lib.strCells_length] using hown') (by decide)
  · exact (hb1.grown hgrow (by have := hb1.size; omega) (fun k hk => (hown.lt k hk).1)).setCell (p := ⟨b, 1, none⟩) hB _

open Go.Shelf in

def ren169 : Go.Shelf.Ren := ⟨fun | 169 => 47 | n => n, fun | 70 => 79 | 9 => 9 | 0 => 0 | 72 => 81 | 37 => 22 | 127 => 119 | 3 => 3 | 5 => 5 | n => n, fun | n => n⟩
theorem lays169 : Go.Proofs.Lays.n169 Tryz.prog ren169 := {
  mixed := by kernel_rfl
  f169 := Tryz.func47.trans (congrArg some (by kernel_rfl))
  t0 := Tryz.underlying0
  a0 := Tryz.isAgg0
  z0 := Tryz.sizeOf0
  v0 := Tryz.zeroValue0
  t3 := Tryz.underlying3
  a3 := Tryz.isAgg3
  z3 := Tryz.sizeOf3
  v3 := Tryz.zeroValue3
  t9 := Tryz.underlying9
  a9 := Tryz.isAgg9
  z9 := Tryz.sizeOf9
  v9 := Tryz.zeroValue9
  t37 := Tryz.underlying22
  a37 := Tryz.isAgg22
  z37 := Tryz.sizeOf22
  v37 := Tryz.zeroValue22
  t70 := Tryz.underlying79
  a70 := Tryz.isAgg79
  z70 := Tryz.sizeOf79
  v70 := Tryz.zeroValue79
  t72 := Tryz.underlying81
  a72 := Tryz.isAgg81
  z72 := Tryz.sizeOf81
  v72 := Tryz.zeroValue81
  t127 := Tryz.underlying119
  a127 := Tryz.isAgg119
  z127 := Tryz.sizeOf119
  v127 := Tryz.zeroValue119 }
theorem extra169 : Builder.Extra Tryz.prog ren169 := {
  sizeBuilder := by kernel_rfl
  liesBuilder := by kernel_rfl
  t5 := Tryz.underlying5
  a5 := Tryz.isAgg5
  z5 := Tryz.sizeOf5
  v5 := Tryz.zeroValue5
  infoByte := by kernel_rfl
  cellsByte := by kernel_rfl
  sizeByte := by kernel_rfl
  neB5 := by decide }
theorem bldString (B b : Nat) (l : List UInt8) (w : World) (h : Lib.IsBuilder 81 5 B b (Lib.byteCells l) w) (hBw : B ≤ w.heap.size) :
    Calls Tryz.prog 47 #[.pointer (some ⟨b, 0, none⟩)] w fun e w' => e = .returned (.string ⟨l.toArray⟩) ∧ Below B w w' := Any.Builder_String_any lays169 extra169 B b l w h hBw
end Go.Proofs.YtadefcohbkgbfabGreatDoor


namespace Go.Proofs.YtadefcohbkgbfabGreatDoor
open Go.RowKit

theorem own_kind {w : World} {B e : Nat} {v : Value} {n : Nat} {xs : List Value} (h : w.ownsRow B e 1 v n xs) : ∀ k, v.ownBlock = some k → ∃ cs fz, w.heap[k]? = some (.cells cs e fz) := by
  intro k hk
  rcases h.2 with ⟨rfl, _⟩ | ⟨g, cap, cur, rfl, _, hg, _⟩
  · simp [Value.ownBlock] at hk
  · simp only [Value.ownBlock, Option.some.injEq] at hk
    subst hk; exact ⟨_, _, hg⟩

theorem check_k (B b : Nat) (bs : List Value) (w : World) (h : Lib.IsBuilder 81 5 B b bs w) :
    Calls Tryz.prog 69 #[.pointer (some ⟨b, 0, none⟩)] w fun e w' => e = .returned (.tuple #[]) ∧ (Lib.BuilderAt 81 5 B b (.pointer (some ⟨b, 0, none⟩)) bs w' ∧ Below B w w' ∧ Lib.OthersKept 5 (some b) w w') := by
  rcases h with h | h
  · refine (check_fresh b w h.cell0 h.shape h.frozen0).mono ?_
    rintro e w' ⟨rfl, rfl⟩
    exact ⟨rfl, h.used _, (Below.refl B w).setCell (p := ⟨b, 0, none⟩) h.1 _, (Lib.OthersKept.refl _ _ w).setCell ⟨b, 0, none⟩ rfl _⟩
  · refine (check_used b w h.cell0).mono ?_
    rintro e w' ⟨rfl, rfl⟩
    exact ⟨rfl, h, Below.refl B _, Lib.OthersKept.refl _ _ _⟩

set_option maxHeartbeats 2000000 in
set_option maxRecDepth 100000 in
theorem writeByte_k (B b : Nat) (bs : List Value) (c : Int) (w : World) (h : Lib.IsBuilder 81 5 B b bs w) (hlen : bs.length + 1 ≤ 140737488355328) (hBw : B ≤ w.heap.size) :
    Calls Tryz.prog 100 #[.pointer (some ⟨b, 0, none⟩), .int .u8 c] w fun e w' => e = .returned .nilIface ∧ (Lib.BuilderAt 81 5 B b (.pointer (some ⟨b, 0, none⟩)) (bs ++ [.int .u8 c]) w' ∧ Below B w w' ∧ Lib.OthersKept 5 (some b) w w') := by
  obtain ⟨i0, hi, hz0, hz1, hz2⟩ := info_parts infoByte
  go_enter Tryz.func100, Tryz.ntmps100
  go_wp2_with (go_at_call 69; refine (check_k B b bs _ h).mono ?_)
  rintro e w1 ⟨rfl, h1, hb1, hk1⟩
  obtain ⟨hB, v, hbk, hown, hne⟩ := h1
  have c0 : w1.cell? ⟨b, 0, none⟩ = some (.pointer (some ⟨b, 0, none⟩)) := by rw [Lib.cell_of_heap hbk]; rfl
  have c1 : w1.cell? ⟨b, 1, none⟩ = some v := by rw [Lib.cell_of_heap hbk]; rfl
  go_wp2_with (at_builtin; refine wpList_append_own _ rfl _ _ 22 rfl B 5 i0 (.int .u8 0) 1 1 Tryz.underlying22 hi hz0 hz1 hz2 rfl (by decide) _ _ _ rfl (hown.alloc _) ⟨w1.heap.size, 0, none⟩ 1 1 [.int .u8 c] rfl rfl ?c1 ?c2 ?c3 ?c4 ?c5 ?_)
  case c1 =>
    intro j u hj
    match j, hj with
    | 0, hj => simp at hj; subst hj; simp [Addr.add]
  case c2 => intro u hu; simp at hu; subst hu; rfl
  case c3 => unfold maxLen; omega
  case c4 => omega
  case c5 => have := hb1.size; simp; omega
  intro v' w2 hown' hgrow _
  have hlt : b < w1.heap.size := by
    rcases Nat.lt_or_ge b w1.heap.size with h' | h'
    · exact h'
    · simp [Array.getElem?_eq_none h'] at hbk
  have hb2 : w2.heap[b]? = some (.cells #[.pointer (some ⟨b, 0, none⟩), v] 81 (0, 0)) := by
    rw [hgrow.block b (by simp; omega) (fun e => hne e.symm), Lib.alloc_old w1 _ b hlt]
    exact hbk
  have d0 : w2.cell? ⟨b, 0, none⟩ = some (.pointer (some ⟨b, 0, none⟩)) := by rw [Lib.cell_of_heap hb2]; rfl
  have d1 : w2.cell? ⟨b, 1, none⟩ = some v := by rw [Lib.cell_of_heap hb2]; rfl
  have f1 : w2.frozen? ⟨b, 1, none⟩ = false := Lib.frozen_of_heap hb2 1
  obtain ⟨g, cap, rfl⟩ : ∃ g cap, v' = .slice (some ⟨g, 0, none⟩) (bs.length + 1) cap := by
    rcases hown'.2 with ⟨_, h0⟩ | ⟨g, cap, cur, hv, _⟩
    · omega
    · exact ⟨g, cap, hv⟩
  go_wp2
  go_ret
  refine ⟨rfl, ?_, ?_, ((hk1.alloc _).grown hgrow (own_kind (hown.alloc _))).setCell ⟨b, 1, none⟩ rfl _⟩
  · exact Lib.BuilderAt.put (T := 81) (e := 5) hB hb2 (bs' := bs ++ [.int .u8 c]) (by simpa using hown') (by decide)
  · exact ((hb1.alloc (by have := hb1.size; omega) _).grown hgrow (by have := hb1.size; simp; omega) (fun k hk => (hown.lt k hk).1)).setCell (p := ⟨b, 1, none⟩) hB _

set_option maxHeartbeats 2000000 in
set_option maxRecDepth 100000 in
theorem writeString_k (B b : Nat) (bs : List Value) (s : ByteArray) (w : World) (h : Lib.IsBuilder 81 5 B b bs w) (hlen : bs.length + s.size ≤ 140737488355328) (hBw : B ≤ w.heap.size) :
    Calls Tryz.prog 101 #[.pointer (some ⟨b, 0, none⟩), .string s] w fun e w' => e = .returned (.tuple #[.int .i64 s.size, .nilIface]) ∧ (Lib.BuilderAt 81 5 B b (.pointer (some ⟨b, 0, none⟩)) (bs ++ Lib.strCells s) w' ∧ Below B w w' ∧ Lib.OthersKept 5 (some b) w w') := by
  obtain ⟨i0, hi, hz0, hz1, hz2⟩ := info_parts infoByte
  go_enter Tryz.func101, Tryz.ntmps101
  go_wp2_with (go_at_call 69; refine (check_k B b bs _ h).mono ?_)
  rintro e w1 ⟨rfl, h1, hb1, hk1⟩
  obtain ⟨hB, v, hbk, hown, hne⟩ := h1
  have c0 : w1.cell? ⟨b, 0, none⟩ = some (.pointer (some ⟨b, 0, none⟩)) := by rw [Lib.cell_of_heap hbk]; rfl
  have c1 : w1.cell? ⟨b, 1, none⟩ = some v := by rw [Lib.cell_of_heap hbk]; rfl
  go_wp2_with (at_builtin; refine Lib.wpList_append_own_string _ rfl _ _ 22 9 rfl B 5 i0 Tryz.underlying22 Tryz.underlying9 hi hz0 hz1 hz2 _ _ _ rfl hown s rfl ?c3 ?c4 ?c5 ?_)
  case c3 => unfold maxLen; omega
  case c4 => omega
  case c5 => have := hb1.size; omega
  intro v' w2 hown' hgrow _
  have hlt : b < w1.heap.size := by
    rcases Nat.lt_or_ge b w1.heap.size with h' | h'
    · exact h'
    · simp [Array.getElem?_eq_none h'] at hbk
  have hb2 : w2.heap[b]? = some (.cells #[.pointer (some ⟨b, 0, none⟩), v] 81 (0, 0)) := by
    rw [hgrow.block b hlt (fun e => hne e.symm)]
    exact hbk
  have d0 : w2.cell? ⟨b, 0, none⟩ = some (.pointer (some ⟨b, 0, none⟩)) := by rw [Lib.cell_of_heap hb2]; rfl
  have d1 : w2.cell? ⟨b, 1, none⟩ = some v := by rw [Lib.cell_of_heap hb2]; rfl
  have f1 : w2.frozen? ⟨b, 1, none⟩ = false := Lib.frozen_of_heap hb2 1
  obtain ⟨ao, n', cap, rfl⟩ : ∃ ao n' cap, v' = .slice ao n' cap := by
    rcases hown'.2 with ⟨hv, _⟩ | ⟨g, cap, cur, hv, _⟩
    · exact ⟨_, _, _, hv⟩
    · exact ⟨_, _, _, hv⟩
  go_wp2
  go_ret2
  refine ⟨rfl, ?_, ?_, (hk1.grown hgrow (own_kind hown)).setCell ⟨b, 1, none⟩ rfl _⟩
  · exact Lib.BuilderAt.put (T := 81) (e := 5) hB hb2 (bs' := bs ++ Lib.strCells s) (by simpa [Lib.strCells_length] using hown') (by decide)
  · exact (hb1.grown hgrow (by have := hb1.size; omega) (fun k hk => (hown.lt k hk).1)).setCell (p := ⟨b, 1, none⟩) hB _

end Go.Proofs.YtadefcohbkgbfabGreatDoor


namespace Go.Proofs.YtadefcohbkgbfabGreatDoor
open Go.RowKit

abbrev IsB (B b : Nat) (l : List UInt8) (w : World) : Prop := Lib.IsBuilder 81 5 B b (Lib.byteCells l) w

theorem IsB.byte {B b : Nat} {l : List UInt8} {c : UInt8} {w : World} {n : Int} (hn : n = (c.toNat : Int)) (h : Lib.BuilderAt 81 5 B b (.pointer (some ⟨b, 0, none⟩)) (Lib.byteCells l ++ [.int .u8 n]) w) : IsB B b (l ++ [c]) w := by
  subst hn; exact Or.inr (by rw [Lib.byteCells_append]; exact h)
theorem IsB.str {B b : Nat} {l : List UInt8} {s : ByteArray} {m : List UInt8} {w : World} (hm : m = s.data.toList) (h : Lib.BuilderAt 81 5 B b (.pointer (some ⟨b, 0, none⟩)) (Lib.byteCells l ++ Lib.strCells s) w) : IsB B b (l ++ m) w := by
  subst hm; exact Or.inr (by rw [Lib.byteCells_append]; exact h)

theorem IsB.cells {B b : Nat} {l m : List UInt8} {xs : List Value} {w : World} (hx : xs = Lib.byteCells m) (h : Lib.BuilderAt 81 5 B b (.pointer (some ⟨b, 0, none⟩)) (Lib.byteCells l ++ xs) w) : IsB B b (l ++ m) w := by
  subst hx; exact Or.inr (by rw [Lib.byteCells_append]; exact h)
end Go.Proofs.YtadefcohbkgbfabGreatDoor


namespace Go.Proofs.YtadefcohbkgbfabGreatDoor
open Go.RowKit

set_option maxHeartbeats 400000 in
theorem isDigit_walk (b : Nat) (w : World) (hb : b < 256) :
    Calls Tryz.prog 104 #[.int .u8 b] w fun e w' => e = .returned (.bool (isDg b)) ∧ w = w' := by
  by_cases h : 48 ≤ b
  · have HD : Hid (isDg b = decide ((b : Int) ≤ 57)) := by
      show _ = _
      unfold isDg
      rw [decide_eq_true h, Bool.true_and]
      apply decide_eq_decide.2; omega
    have h1 : (48 : Int) ≤ (b : Int) := by omega
    go_enter Tryz.func104, Tryz.ntmps104
    go_wp2
    go_ret
    exact ⟨by rw [unhide HD]; rfl, rfl⟩
  · have HD : Hid (isDg b = false) := by
      show _ = _
      unfold isDg
      rw [decide_eq_false h, Bool.false_and]
    have h1 : ¬ (48 : Int) ≤ (b : Int) := by omega
    go_enter Tryz.func104, Tryz.ntmps104
    go_wp2
    go_ret
    exact ⟨by rw [unhide HD]; rfl, rfl⟩
end Go.Proofs.YtadefcohbkgbfabGreatDoor


namespace Go.Proofs.YtadefcohbkgbfabGreatDoor
open Go.RowKit

theorem infoString : (Tryz.prog.info? 9).map (fun i => (i.zero, i.size, i.bytes)) = some (some (.string ByteArray.empty), 1, 16) := by kernel_rfl

def tokCell (t : List UInt8) : Value := .string ⟨t.toArray⟩
abbrev OT (w : World) (B : Nat) (v : Value) (ts : List (List UInt8)) : Prop := w.ownsRow B 9 1 v ts.length (ts.map tokCell)
def baT (t : List UInt8) : ByteArray := ⟨t.toArray⟩

theorem OT.shape {w : World} {B : Nat} {v : Value} {ts : List (List UInt8)} (h : OT w B v ts) : ∃ a g cap, v = .slice a ts.length cap ∧ SS w a g 0 (ts.map baT) ∧ (0 < ts.length → B ≤ g) := by
  rcases h.2 with ⟨hv, h0⟩ | ⟨g, cap, cur, hv, hb, hg, _⟩
  · exact ⟨none, 0, 0, by rw [hv, h0], ⟨fun h => by rw [List.length_map] at h; omega, fun j hj => by rw [List.length_map] at hj; omega⟩, fun h => by omega⟩
  · refine ⟨some ⟨g, 0, none⟩, g, cap, hv, ⟨fun _ => rfl, fun j hj => ?_⟩, fun _ => hb⟩
    subst hv
    rw [List.length_map] at hj
    rw [Nat.zero_add, h.cellAt j (by omega)]
    simp [tokCell, baT, hj]

theorem one_tok (s : ByteArray) : ∀ u ∈ [Value.string s], u.oneCell' = true := by intro u hu; simp at hu; subst hu; rfl
theorem OT.step {w : World} {B : Nat} {v : Value} {ts : List (List UInt8)} {t : List UInt8} (h : w.ownsRow B 9 1 v (ts.length + 1) (ts.map tokCell ++ [tokCell t])) : OT w B v (ts ++ [t]) := by
  unfold OT; rw [List.length_append, List.map_append]; exact h

/-- No slash from place f up to place k. -/
def NoSl (l : List UInt8) (f k : Nat) : Prop := ∀ m, f ≤ m → m < k → ∀ c, l[m]? = some c → ¬ c.toNat = 47
theorem pieces_one {p : List UInt8} (hp : ∀ c ∈ p, ¬ c.toNat = 47) : pieces p = [p] := by
  induction p with
  | nil => rfl
  | cons a p ih =>
    have := ih (fun c hc => hp c (List.mem_cons_of_mem _ hc))
    exact pieces_go (hp a List.mem_cons_self) this
theorem NoSl.piece {l : List UInt8} {f k : Nat} (h : NoSl l f k) : ∀ c ∈ (l.drop f).take (k - f), ¬ c.toNat = 47 := by
  intro c hc
  obtain ⟨i, hi, rfl⟩ := List.mem_iff_getElem.1 hc
  rw [List.length_take, List.length_drop] at hi
  refine h (f + i) (by omega) (by omega) _ ?_
  rw [List.getElem_take, List.getElem_drop, List.getElem?_eq_getElem (by omega)]
theorem NoSl.last {l : List UInt8} {f : Nat} (h : NoSl l f l.length) : pieces (l.drop f) = [l.drop f] := by
  have hp := h.piece
  rw [List.take_of_length_le (by rw [List.length_drop]; omega)] at hp
  exact pieces_one hp
theorem NoSl.none (l : List UInt8) (k : Nat) : NoSl l k k := fun m h1 h2 => by omega

theorem toks_cons {l p : List UInt8} {ps : List (List UInt8)} (h : pieces l = p :: ps) : toks l = (unesc p).bind fun t => (ps.mapM unesc).map (t :: ·) := by
  unfold toks; rw [h, List.mapM_cons]
  cases unesc p with
  | none => rfl
  | some t => cases List.mapM unesc ps <;> rfl

/-- The tokens behind place f, with those that are read already. -/
def TkAt (l : List UInt8) (f : Nat) (done : List (List UInt8)) : Prop := toks (l.drop 1) = (toks (l.drop f)).map (done ++ ·)
theorem TkAt.last {l : List UInt8} {f : Nat} {done : List (List UInt8)} {t : List UInt8} (h : TkAt l f done) (hn : NoSl l f l.length) (hu : unesc ((l.drop f).take (l.length - f)) = some t) : toks (l.drop 1) = some (done ++ [t]) := by
  rw [List.take_of_length_le (by rw [List.length_drop]; omega)] at hu
  unfold TkAt at h; rw [h, toks_cons hn.last, hu]; rfl
end Go.Proofs.YtadefcohbkgbfabGreatDoor

