import Derived.Test.YtadefcohbkgbfaaDoorUtf
import Derived.Test.YtadefcohbkgbfaaDoorByteRow
namespace Go.Proofs.YtadefcohbkgbfaaDoor
open Go.RowKit

def utfZ (r : Nat) : List Nat :=
  if r < 128 then [r] else if r < 2048 then [192 + r / 64, 128 + r % 64]
  else if r < 65536 then [224 + r / 4096, 128 + r / 64 % 64, 128 + r % 64]
  else [240 + r / 262144, 128 + r / 4096 % 64, 128 + r / 64 % 64, 128 + r % 64]
def utf (r : Nat) : List UInt8 := (utfZ r).map UInt8.ofNat
def strOf (l : List UInt8) : ByteArray := ⟨l.toArray⟩
theorem strOf_toList (l : List UInt8) : (strOf l).data.toList = l := by simp [strOf]
theorem strOf_size (l : List UInt8) : (strOf l).size = l.length := by rw [← data_len, strOf_toList]

theorem convert_bytes (w : World) (l : List UInt8) (cs : Array Value) (n : Nat) (hn : n = l.length) (hcs : cs.toList = Lib.byteCells l) :
    (convert 32 9 (.slice (some ⟨w.heap.size, 0, none⟩) n n)).run Tryd.prog (w.alloc (.cells cs 5)) = .ok (.string (strOf l)) (w.alloc (.cells cs 5)) := by
  subst hn
  exact run_convert_bytes_back (P := Tryd.prog) _ 32 9 5 ⟨w.heap.size, 0, none⟩ l.length l Tryd.underlying32 Tryd.underlying5 Tryd.underlying9 (fun j hj => by
    rw [Go.WideShapes.add_plain, cell_of_row _ w.heap.size (0 + j) cs 5 (0, 0) (heap_alloc_new w _), Nat.zero_add]
    have h := byteCells_at hj
    rw [← hcs] at h; simpa using h)
theorem ofNat_int {n : Nat} (h : n < 256) : ((UInt8.ofNat n).toNat : Int) = (n : Int) := by rw [UInt8.toNat_ofNat']; omega

set_option maxHeartbeats 800000 in
theorem utf8_walk (r : Nat) (w : World) (hr : r ≤ 1114111) :
    Calls Tryd.prog 56 #[.int .i64 r] w fun e w' => e = .returned (.string (strOf (utf r))) ∧ Below w.heap.size w w' := by
  by_cases h1 : r < 128
  · have hcv := convert_bytes w (utf r) #[.int .u8 (r : Int)] 1 (by simp [utf, utfZ, h1]) (by simp [utf, utfZ, h1, Lib.byteCells]; omega)
    have h1' : (r : Int) < 128 := by omega
    generalize utf r = u at *
    go_enter Tryd.func56, Tryd.ntmps56
    go_wp2
    go_ret
    exact ⟨rfl, (Below.refl _ _).alloc (Nat.le_refl _) _⟩
  · by_cases h2 : r < 2048
    · have hcv := convert_bytes w (utf r) #[.int .u8 (192 + (r : Int) / 64), .int .u8 (128 + (r : Int) % 64)] 2 (by simp [utf, utfZ, h1, h2]) (by simp [utf, utfZ, h1, h2, Lib.byteCells]; omega)
      have h1' : ¬ (r : Int) < 128 := by omega
      have h2' : (r : Int) < 2048 := by omega
      generalize utf r = u at *
      go_enter Tryd.func56, Tryd.ntmps56
      go_wp2
      go_ret
      exact ⟨rfl, (Below.refl _ _).alloc (Nat.le_refl _) _⟩
    · by_cases h3 : r < 65536
      · have hcv := convert_bytes w (utf r) #[.int .u8 (224 + (r : Int) / 4096), .int .u8 (128 + (r : Int) / 64 % 64), .int .u8 (128 + (r : Int) % 64)] 3 (by simp [utf, utfZ, h1, h2, h3]) (by simp [utf, utfZ, h1, h2, h3, Lib.byteCells]; omega)
        have h1' : ¬ (r : Int) < 128 := by omega
        have h2' : ¬ (r : Int) < 2048 := by omega
        have h3' : (r : Int) < 65536 := by omega
        generalize utf r = u at *
        go_enter Tryd.func56, Tryd.ntmps56
        go_wp2
        go_ret
        exact ⟨rfl, (Below.refl _ _).alloc (Nat.le_refl _) _⟩
      · have hcv := convert_bytes w (utf r) #[.int .u8 (240 + (r : Int) / 262144), .int .u8 (128 + (r : Int) / 4096 % 64), .int .u8 (128 + (r : Int) / 64 % 64), .int .u8 (128 + (r : Int) % 64)] 4 (by simp [utf, utfZ, h1, h2, h3]) (by simp [utf, utfZ, h1, h2, h3, Lib.byteCells]; omega)
        have h1' : ¬ (r : Int) < 128 := by omega
        have h2' : ¬ (r : Int) < 2048 := by omega
        have h3' : ¬ (r : Int) < 65536 := by omega
        generalize utf r = u at *
        go_enter Tryd.func56, Tryd.ntmps56
        go_wp2
        go_ret
        exact ⟨rfl, (Below.refl _ _).alloc (Nat.le_refl _) _⟩
end Go.Proofs.YtadefcohbkgbfaaDoor
