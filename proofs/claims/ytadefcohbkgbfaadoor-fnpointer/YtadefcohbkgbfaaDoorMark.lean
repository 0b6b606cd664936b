import Derived.Test.YtadefcohbkgbfaaDoorByteRow
import Derived.Laws.Concat
namespace Go.Proofs.YtadefcohbkgbfaaDoor
open Go.RowKit

def dgM (k : Nat) : UInt8 := UInt8.ofNat (48 + k % 10)
def mkFrom : Nat → Nat → ByteArray → ByteArray
  | 0, _, acc => acc
  | f + 1, k, acc => if k = 0 then acc else mkFrom f (k / 10) (⟨#[dgM k]⟩ ++ acc)
def mkText (k : Nat) : ByteArray := ⟨#[109]⟩ ++ mkFrom k k ByteArray.empty

theorem dg_toNat (k : Nat) : ((dgM k).toNat : Int) = 48 + (k : Int) % 10 := by
  have : (dgM k).toNat = 48 + k % 10 := by unfold dgM; rw [UInt8.toNat_ofNat']; omega
  omega
theorem convert_one (w : World) (x : UInt8) (n : Int) (h : (x.toNat : Int) = n) : (convert 32 9 (.slice (some ⟨w.heap.size, 0, none⟩) 1 1)).run Tryd.prog (w.alloc (.cells #[.int .u8 n] 5)) = .ok (.string ⟨#[x]⟩) (w.alloc (.cells #[.int .u8 n] 5)) := by
  subst h
  exact run_convert_bytes_back (P := Tryd.prog) _ 32 9 5 ⟨w.heap.size, 0, none⟩ 1 [x] Tryd.underlying32 Tryd.underlying5 Tryd.underlying9 (fun j hj => by
    simp at hj; subst hj
    exact lit1 w 5 _ 0 _ rfl)
theorem mk_step (f k : Nat) (acc : ByteArray) (h : 0 < k) : mkFrom (f + 1) k acc = mkFrom f (k / 10) (⟨#[dgM k]⟩ ++ acc) := by
  rw [mkFrom, if_neg (by omega)]
theorem one_size (x : UInt8) : (⟨#[x]⟩ : ByteArray).size = 1 := rfl
theorem app_size (a b : ByteArray) : (a ++ b).size = a.size + b.size := ByteArray.size_append

set_option maxHeartbeats 400000 in
theorem mark_walk (k0 : Nat) (w : World) (h1 : 1 ≤ k0) (h2 : k0 ≤ 1099511627776) :
    Calls Tryd.prog 31 #[.int .i64 k0] w fun e w' => e = .returned (.string (mkText k0)) ∧ Below w.heap.size w w' := by
  go_enter Tryd.func31, Tryd.ntmps31
  go_wp2
  go_loopw [0, 3] (fun i o wr => ∃ (f k : Nat) (acc : ByteArray), k ≤ f ∧ k ≤ k0 ∧ i = .int .i64 k ∧ o = .string acc ∧ acc.size + f ≤ k0 ∧ mkFrom f k acc = mkFrom k0 k0 ByteArray.empty ∧ Below w.heap.size w wr) (fun i _ _ => (intOf i).toNat)
  case atStart => exact ⟨k0, k0, ByteArray.empty, Nat.le_refl _, Nat.le_refl _, rfl, rfl, by show 0 + k0 ≤ k0; omega, rfl, Below.refl _ _⟩
  case round =>
    obtain ⟨f, k, acc, hkf, hk0, rfl, rfl, hac, hmk, hb⟩ := hrel
    have HM := hide hmk
    clear hmk
    by_cases hk : 0 < k
    · have hk' : (0 : Int) < (k : Int) := by omega
      obtain ⟨f, rfl⟩ : ∃ f', f = f' + 1 := ⟨f - 1, by omega⟩
      have hcv := convert_one wr (dgM k) _ (dg_toNat k)
      have hadd := run_string_add_sum (P := Tryd.prog) (wr.alloc (.cells #[.int .u8 (48 + (k : Int) % 10)] 5)) ⟨#[dgM k]⟩ acc (by rw [one_size]; omega)
      have HB := hide (hb.alloc hb.size (.cells #[.int .u8 (48 + (k : Int) % 10)] 5))
      have HS : Hid ((⟨#[dgM k]⟩ ++ acc : ByteArray).size = 1 + acc.size) := app_size _ _
      rw [mk_step f k acc hk] at HM
      clear hb
      generalize (⟨#[dgM k]⟩ ++ acc : ByteArray) = acc2 at *
      go_wp2
      go_roundw
      case rel => exact ⟨f, k / 10, acc2, by omega, by omega, by go_num, rfl, by rw [unhide HS]; omega, unhide HM, unhide HB⟩
      case measure => simp [intOf]; omega
    · have HF : Hid (mkFrom k0 k0 ByteArray.empty = acc) := by
        have e := unhide HM
        have hk' : k = 0 := by omega
        subst hk'
        rw [← e]; cases f with
        | zero => rfl
        | succ f => rfl
      have hadd := run_string_add_sum (P := Tryd.prog) wr ⟨#[109]⟩ acc (by rw [one_size]; omega)
      have HE : Hid (mkText k0 = ⟨#[109]⟩ ++ acc) := by have e := unhide HF; show _ = _; unfold mkText; rw [e]
      clear HF HM
      generalize (⟨#[109]⟩ ++ acc : ByteArray) = acc2 at *
      go_wp2
      go_ret
      exact ⟨by rw [unhide HE]; rfl, hb⟩
end Go.Proofs.YtadefcohbkgbfaaDoor
