import Derived.Test.YtadefcohbkgbfabGreatDoorBn1
import Derived.Laws.Concat
import Derived.Deep.RegionWith
namespace Go.Proofs.YtadefcohbkgbfabGreatDoor
open Go.RowKit

set_option maxHeartbeats 1000000 in
set_option maxRecDepth 100000 in
theorem token_walk (B b : Nat) (l : List UInt8) (s : ByteArray) (w : World) (h : IsB B b l w) (hB : B ≤ w.heap.size) (hs : s.size ≤ 1048576) (hl : l.length ≤ 2097152) :
    Calls Tryz.prog 85 #[.pointer (some ⟨b, 0, none⟩), .string s] w fun e w' => e = .returned (.tuple #[]) ∧ IsB B b (l ++ 47 :: esc s.data.toList) w' ∧ Below B w w' := by
  have HL : Hid ((Lib.byteCells l).length = l.length) := Lib.byteCells_length l
  go_enter Tryz.func85, Tryz.ntmps85
  go_wp2_with (go_at_call 100; refine (writeByte B b _ 47 _ h (by rw [unhide HL]; omega) hB).mono ?_)
  rintro e w1 ⟨rfl, h1, hb1⟩
  have h1' := IsB.byte (c := 47) rfl h1
  clear h1 h
  go_wp2
  go_loopw [9] (fun i wr => ∃ j : Nat, j ≤ s.size ∧ i = .int .i64 j ∧ IsB B b (l ++ 47 :: esc (s.data.toList.take j)) wr ∧ Below B w wr) (fun i _ => s.size - (intOf i).toNat)
  case atStart => exact ⟨0, Nat.zero_le _, rfl, by simpa [esc] using h1', hb1⟩
  case round =>
    obtain ⟨j, hj, rfl, hI, hb⟩ := hrel
    have hwsz : B ≤ wr.heap.size := by have := hb.size; omega
    by_cases hjs : j < s.size
    · have hq : (Lib.byteCells (l ++ 47 :: esc (s.data.toList.take j))).length ≤ l.length + 1 + 2 * j := by
        have := esc_le (s.data.toList.take j)
        have h5 : (s.data.toList.take j).length = j := by rw [List.length_take, data_len]; omega
        rw [Lib.byteCells_length, List.length_append, List.length_cons]; omega
      have HQ : Hid (l ++ 47 :: esc (s.data.toList.take (j + 1)) = (l ++ 47 :: esc (s.data.toList.take j)) ++ escB s[j]) := by
        show _ = _
        rw [bytes_snoc s j hjs, esc_snoc]; simp
      generalize l ++ 47 :: esc (s.data.toList.take j) = q at *
      clear h1' hb1
      by_cases h126 : (s[j].toNat : Int) = 126
      · have t1 : ((s[j].toNat : Int) == 126) = true := by simpa using h126
        have HE := hide (escB_126 h126)
        clear h126
        go_wp2_with (go_at_call 101; refine (writeString B b _ _ _ hI (by show _ + 2 ≤ _; omega) hwsz).mono ?_)
        rintro e w2 ⟨rfl, h2, hb2⟩
        have h2' := IsB.str (m := [126, 48]) rfl h2
        clear h2 hI hq
        go_wp2
        go_roundw
        case rel => exact ⟨j + 1, by omega, by go_num, by rw [unhide HQ, unhide HE]; exact h2', hb.trans hb2⟩
        case measure => simp [intOf]; omega
      · have t1 : ((s[j].toNat : Int) == 126) = false := by simpa using h126
        by_cases h47 : (s[j].toNat : Int) = 47
        · have t2 : ((s[j].toNat : Int) == 47) = true := by simpa using h47
          have HE := hide (escB_47 h47)
          clear h126 h47
          go_wp2_with (go_at_call 101; refine (writeString B b _ _ _ hI (by show _ + 2 ≤ _; omega) hwsz).mono ?_)
          rintro e w2 ⟨rfl, h2, hb2⟩
          have h2' := IsB.str (m := [126, 49]) rfl h2
          clear h2 hI hq
          go_wp2
          go_roundw
          case rel => exact ⟨j + 1, by omega, by go_num, by rw [unhide HQ, unhide HE]; exact h2', hb.trans hb2⟩
          case measure => simp [intOf]; omega
        · have t2 : ((s[j].toNat : Int) == 47) = false := by simpa using h47
          have HE := hide (escB_other h126 h47)
          clear h126 h47
          go_wp2_with (go_at_call 100; refine (writeByte B b _ _ _ hI (by omega) hwsz).mono ?_)
          rintro e w2 ⟨rfl, h2, hb2⟩
          have h2' := IsB.byte (c := s[j]) rfl h2
          clear h2 hI hq
          go_wp2
          go_roundw
          case rel => exact ⟨j + 1, by omega, by go_num, by rw [unhide HQ, unhide HE]; exact h2', hb.trans hb2⟩
          case measure => simp [intOf]; omega
    · have hje : j = s.size := by omega
      subst hje
      rw [bytes_all] at hI
      clear h1' hb1
      go_wp2
      go_end0
      exact ⟨rfl, hI, hb⟩

set_option maxHeartbeats 1000000 in
set_option maxRecDepth 100000 in
theorem implText_walk (xa : Option Addr) (xb xo xc : Nat) (ss : List ByteArray) (w : World) (h : SS w xa xb xo ss) (hm : ss.length + tot ss ≤ 1048576) :
    Calls Tryz.prog 66 #[.slice xa ss.length xc] w fun e w' => e = .returned (.string ⟨(ptrText ss).toArray⟩) ∧ Below w.heap.size w w' := by
  have hadr := h.ad
  have HC := hide h.cell
  clear h
  have hlen : ss.length ≤ 1048576 := by omega
  have HM := hide hm
  clear hm
  go_enter Tryz.func66, Tryz.ntmps66
  go_wp2
  go_loopw [8] (fun i wr => ∃ k : Nat, k ≤ ss.length ∧ i = .int .i64 k ∧ IsB w.heap.size w.heap.size (ptrText (ss.take k)) wr ∧ Below w.heap.size w wr) (fun i _ => ss.length - (intOf i).toNat)
  case atStart => exact ⟨0, Nat.zero_le _, rfl, Lib.fresh_isBuilder _ _ w, (Below.refl _ _).alloc (Nat.le_refl _) _⟩
  case round =>
    obtain ⟨k, hk, rfl, hI, hb⟩ := hrel
    have hwsz := hb.size
    by_cases hlt : k < ss.length
    · have hc0 := unhide HC k hlt
      have hc := (hb.cell (p := ⟨xb, xo + k, none⟩) (World.block_lt_of_cell? _ _ hc0)).trans hc0
      obtain rfl := hadr (by omega)
      have hsz : (ss.getD k ByteArray.empty).size ≤ 1048576 := by have := tot_ge hlt; have := unhide HM; omega
      have hpl : (ptrText (ss.take k)).length ≤ 2097152 := by
        have h1 := ptrText_le (ss.take k); have h2 := tot_ge hlt; have h3 := unhide HM
        have h4 : (ss.take k).length = k := by rw [List.length_take]; omega
        omega
      have HP : Hid (ptrText (ss.take (k + 1)) = ptrText (ss.take k) ++ 47 :: esc (ss.getD k ByteArray.empty).data.toList) := by
        show _ = _; rw [take_snoc hlt, ptrText_snoc]
      clear hadr hc0
      generalize ss.getD k ByteArray.empty = s at *
      generalize ptrText (ss.take k) = p at *
      go_wp2_with (go_at_call 85; refine (token_walk w.heap.size w.heap.size p s _ hI hwsz hsz hpl).mono ?_)
      rintro e w2 ⟨rfl, h2, hb2⟩
      clear hI
      go_wp2
      go_roundw
      case rel => exact ⟨k + 1, by omega, by go_num, by rw [unhide HP]; exact h2, hb.trans hb2⟩
      case measure => simp [intOf]; omega
    · have e : ss.take k = ss := List.take_of_length_le (by omega)
      rw [e] at hI
      have E := hide e
      clear hadr e
      go_wp2_with (go_at_call 47; refine (bldString w.heap.size w.heap.size (ptrText ss) _ hI hwsz).mono ?_)
      rintro e w2 ⟨rfl, hb2⟩
      clear hI
      go_wp2
      go_ret
      exact ⟨rfl, hb.trans hb2⟩
end Go.Proofs.YtadefcohbkgbfabGreatDoor


namespace Go.Proofs.YtadefcohbkgbfabGreatDoor
open Go.RowKit

end Go.Proofs.YtadefcohbkgbfabGreatDoor


namespace Go.Proofs.YtadefcohbkgbfabGreatDoor
open Go.RowKit

end Go.Proofs.YtadefcohbkgbfabGreatDoor


namespace Go.Proofs.YtadefcohbkgbfabGreatDoor
open Go.RowKit

end Go.Proofs.YtadefcohbkgbfabGreatDoor


namespace Go.Proofs.YtadefcohbkgbfabGreatDoor
open Go.RowKit

def dgM (k : Nat) : UInt8 := UInt8.ofNat (48 + k % 10)
def mkFrom : Nat → Nat → ByteArray → ByteArray
  | 0, _, acc => acc
  | f + 1, k, acc => if k = 0 then acc else mkFrom f (k / 10) (⟨#[dgM k]⟩ ++ acc)
def mkText (k : Nat) : ByteArray := ⟨#[109]⟩ ++ mkFrom k k ByteArray.empty

theorem dg_toNat (k : Nat) : ((dgM k).toNat : Int) = 48 + (k : Int) % 10 := by
  have : (dgM k).toNat = 48 + k % 10 := by unfold dgM; rw [UInt8.toNat_ofNat']; omega
  omega
theorem convert_one (w : World) (x : UInt8) (n : Int) (h : (x.toNat : Int) = n) : (convert 22 9 (.slice (some ⟨w.heap.size, 0, none⟩) 1 1)).run Tryz.prog (w.alloc (.cells #[.int .u8 n] 5)) = .ok (.string ⟨#[x]⟩) (w.alloc (.cells #[.int .u8 n] 5)) := by
  subst h
  exact run_convert_bytes_back (P := Tryz.prog) _ 22 9 5 ⟨w.heap.size, 0, none⟩ 1 [x] Tryz.underlying22 Tryz.underlying5 Tryz.underlying9 (fun j hj => by
    simp at hj; subst hj
    exact lit1 w 5 _ 0 _ rfl)
theorem mk_step (f k : Nat) (acc : ByteArray) (h : 0 < k) : mkFrom (f + 1) k acc = mkFrom f (k / 10) (⟨#[dgM k]⟩ ++ acc) := by
  rw [mkFrom, if_neg (by omega)]
theorem one_size (x : UInt8) : (⟨#[x]⟩ : ByteArray).size = 1 := rfl
theorem app_size (a b : ByteArray) : (a ++ b).size = a.size + b.size := ByteArray.size_append

set_option maxHeartbeats 400000 in
theorem mark_walk (k0 : Nat) (w : World) (h1 : 1 ≤ k0) (h2 : k0 ≤ 1099511627776) :
    Calls Tryz.prog 42 #[.int .i64 k0] w fun e w' => e = .returned (.string (mkText k0)) ∧ Below w.heap.size w w' := by
  go_enter Tryz.func42, Tryz.ntmps42
  go_wp2
  go_loopw [0, 3] (fun i o wr => ∃ (f k : Nat) (acc : ByteArray), k ≤ f ∧ k ≤ k0 ∧ i = .int .i64 k ∧ o = .string acc ∧ acc.size + f ≤ k0 ∧ mkFrom f k acc = mkFrom k0 k0 ByteArray.empty ∧ Below w.heap.size w wr) (fun i _ _ => (intOf i).toNat)
  case atStart => exact ⟨k0, k0, ByteArray.empty, Nat.le_refl _, Nat.le_refl _, rfl, rfl, by show 0 + k0 ≤ k0; omega, rfl, Below.refl _ _⟩
  case round =>
    obtain ⟨f, k, acc, hkf, hk0, rfl, rfl, hac, hmk, hb⟩ := hrel
    have HM := hide hmk
    clear hmk
    by_cases hk : 0 < k
    · have hk' : (0 : Int) < (k : Int) := by omega
      obtain ⟨f, rfl⟩ : ∃ f', f = f' + 1 := ⟨f - 1, by omega⟩
      have hcv := convert_one wr (dgM k) _ (dg_toNat k)
      have hadd := run_string_add_sum (P := Tryz.prog) (wr.alloc (.cells #[.int .u8 (48 + (k : Int) % 10)] 5)) ⟨#[dgM k]⟩ acc (by rw [one_size]; omega)
      have HB := hide (hb.alloc hb.size (.cells #[.int .u8 (48 + (k : Int) % 10)] 5))
      have HS : Hid ((⟨#[dgM k]⟩ ++ acc : ByteArray).size = 1 + acc.size) := app_size _ _
      rw [mk_step f k acc hk] at HM
      clear hb
      generalize (⟨#[dgM k]⟩ ++ acc : ByteArray) = acc2 at *
      go_wp2
      go_roundw
      case rel => exact ⟨f, k / 10, acc2, by omega, by omega, by go_num, rfl, by rw [unhide HS]; omega, unhide HM, unhide HB⟩
      case measure => simp [intOf]; omega
    · have HF : Hid (mkFrom k0 k0 ByteArray.empty = acc) := by
        have e := unhide HM
        have hk' : k = 0 := by omega
        subst hk'
        rw [← e]; cases f with
        | zero => rfl
        | succ f => rfl
      have hadd := run_string_add_sum (P := Tryz.prog) wr ⟨#[109]⟩ acc (by rw [one_size]; omega)
      have HE : Hid (mkText k0 = ⟨#[109]⟩ ++ acc) := by have e := unhide HF; show _ = _; unfold mkText; rw [e]
      clear HF HM
      generalize (⟨#[109]⟩ ++ acc : ByteArray) = acc2 at *
      go_wp2
      go_ret
      exact ⟨by rw [unhide HE]; rfl, hb⟩
end Go.Proofs.YtadefcohbkgbfabGreatDoor


namespace Go.Proofs.YtadefcohbkgbfabGreatDoor
open Go.RowKit

/-- The row holds the marks from k on. -/
def marks (k n : Nat) : List Value := (List.range n).map fun j => .string (mkText (k + j))
theorem marks_at {k n j : Nat} (hj : j < n) : (marks k n)[j]? = some (.string (mkText (k + j))) := by simp [marks, hj]

set_option maxHeartbeats 400000 in
theorem markS_walk (B : Nat) (v : Value) (n k0 : Nat) (xs : List Value) (w : World) (hv : w.ownsRow B 9 1 v n xs) (hB : B ≤ w.heap.size) (hn : n ≤ 268435456) (h1 : 1 ≤ k0) (h2 : k0 ≤ 1099200000000) :
    Calls Tryz.prog 18 #[v, .int .i64 k0] w fun e w' => e = .returned (.int .i64 (k0 + n : Nat)) ∧ w'.ownsRow B 9 1 v n (marks k0 n) ∧ Below B w w' := by
  have hxl := hv.1
  obtain ⟨a, cap, rfl, hsh⟩ : ∃ a cap, v = .slice a n cap ∧ (0 < n → ∃ g, a = some ⟨g, 0, none⟩ ∧ B ≤ g) := by
    rcases hv.2 with ⟨h, h0⟩ | ⟨g, cap, cur, h, hb, _⟩
    · exact ⟨none, 0, by rw [h, h0], fun h => by omega⟩
    · exact ⟨some ⟨g, 0, none⟩, cap, h, fun _ => ⟨g, rfl, hb⟩⟩
  go_enter Tryz.func18, Tryz.ntmps18
  go_wp2
  go_loopw [1, 5] (fun q i wr => ∃ (j : Nat), j ≤ n ∧ i = .int .i64 j ∧ q = .int .i64 (k0 + j : Nat) ∧ Below B w wr ∧ ∃ ys : List Value, wr.ownsRow B 9 1 (.slice a n cap) n ys ∧ ∀ m, m < j → ys[m]? = some (.string (mkText (k0 + m)))) (fun _ i _ => n - (intOf i).toNat)
  case atStart => exact ⟨0, Nat.zero_le _, rfl, rfl, Below.refl _ _, xs, hv, fun m hm => by omega⟩
  case round =>
    obtain ⟨j, hj, rfl, rfl, hb, ys, hown, hys⟩ := hrel
    have HY := hide hys
    clear hys hv hxl
    have hwsz := hb.size
    by_cases hlt : j < n
    · obtain ⟨g, rfl, hg⟩ := hsh (by omega)
      have HC := hide (mark_walk (k0 + j) wr (by omega) (by omega))
      go_wp2_with fail
      refine (unhide HC).mono ?_
      rintro e w1 ⟨rfl, b1⟩
      have B1 := hb.trans (b1.mono (by omega))
      have own1 := own_below hown b1
      have hyl := own1.1
      have hce := own1.cellAt j (by omega)
      obtain ⟨old, hold⟩ : ∃ old, ys[j]? = some old := ⟨ys[j]'(by omega), by simp⟩
      rw [hold] at hce
      have hfz := own1.frozenAt j
      have HST := hide (own1.stored j (.string (mkText (k0 + j)))).1
      have HL := hide hyl
      have HB := hide B1
      clear hown b1 own1 HC hold hyl B1 hb
      go_wp2
      go_roundw
      case rel =>
        refine ⟨j + 1, by omega, by go_num, by go_num, (unhide HB).setCell hg _, _, unhide HST, ?_⟩
        intro m hm
        have hyl := unhide HL
        by_cases e : m = j
        · subst e; rw [List.getElem?_set_self (by omega)]
        · rw [List.getElem?_set_ne (by omega)]; exact unhide HY m (by omega)
      case measure => simp [intOf]; omega
    · have hjn : j = n := by omega
      subst hjn
      go_wp2
      go_ret
      refine ⟨rfl, ?_, hb⟩
      have hyl := hown.1
      have : ys = marks k0 j := by
        apply List.ext_getElem?
        intro m
        by_cases hm : m < j
        · rw [unhide HY m hm, marks_at hm]
        · rw [List.getElem?_eq_none (by omega), List.getElem?_eq_none (by simp [marks]; omega)]
      rw [← this]; exact hown

set_option maxHeartbeats 800000 in
theorem heldS_walk (B : Nat) (v : Value) (n k0 : Nat) (w : World) (hv : w.ownsRow B 9 1 v n (marks k0 n)) (hn : n ≤ 268435456) (h1 : 1 ≤ k0) (h2 : k0 ≤ 1099200000000) :
    Calls Tryz.prog 19 #[v, .int .i64 k0] w fun e w' => e = .returned (.int .i64 (k0 + n : Nat)) ∧ Below w.heap.size w w' := by
  obtain ⟨a, cap, rfl, hsh⟩ : ∃ a cap, v = .slice a n cap ∧ (0 < n → ∃ g, a = some ⟨g, 0, none⟩) := by
    rcases hv.2 with ⟨h, h0⟩ | ⟨g, cap, cur, h, hb, _⟩
    · exact ⟨none, 0, by rw [h, h0], fun h => by omega⟩
    · exact ⟨some ⟨g, 0, none⟩, cap, h, fun _ => ⟨g, rfl⟩⟩
  go_enter Tryz.func19, Tryz.ntmps19
  go_wp2
  go_loopw [1, 5] (fun q i wr => ∃ (j : Nat), j ≤ n ∧ i = .int .i64 j ∧ q = .int .i64 (k0 + j : Nat) ∧ Below w.heap.size w wr) (fun _ i _ => n - (intOf i).toNat)
  case atStart => exact ⟨0, Nat.zero_le _, rfl, rfl, Below.refl _ _⟩
  case round =>
    obtain ⟨j, hj, rfl, rfl, hb⟩ := hrel
    have hwsz := hb.size
    by_cases hlt : j < n
    · obtain ⟨g, rfl⟩ := hsh (by omega)
      have hce := hv.cellAt j (by omega)
      rw [marks_at hlt] at hce
      have hgw : g < w.heap.size := World.block_lt_of_cell? _ _ hce
      have hc : wr.cell? ⟨g, j, none⟩ = some (.string (mkText (k0 + j))) := (hb.cell (p := ⟨g, j, none⟩) hgw).trans hce
      have hlt' : (j : Int) < (n : Int) := by omega
      have HV := hide hv
      have HB := hide hb
      clear hv hce hb
      go_wp2
      go_region_with (go_at_call 42; refine (mark_walk (k0 + j) _ (by omega) (by omega)).mono ?_; rintro e w1 ⟨rfl, b1⟩; have hc1 := (b1.cell (p := ⟨g, j, none⟩) (by simp; omega)).trans hc)
      all_goals go_wp2
      all_goals go_roundw
      all_goals first
        | exact ⟨j + 1, by omega, by go_num, by go_num, (unhide HB).drew.trans (b1.mono (by simp; omega))⟩
        | (simp [intOf]; omega)
    · go_wp2
      go_ret
      have hjn : j = n := by omega
      subst hjn
      exact ⟨rfl, hb⟩
end Go.Proofs.YtadefcohbkgbfabGreatDoor


namespace Go.Proofs.YtadefcohbkgbfabGreatDoor
open Go.RowKit

set_option maxHeartbeats 1000000 in
set_option maxRecDepth 100000 in
theorem specText_walk (xa : Option Addr) (xb xo xc : Nat) (ss : List ByteArray) (w : World) (h : SS w xa xb xo ss) (hm : ss.length + tot ss ≤ 1048576) :
    Calls Tryz.prog 64 #[.slice xa ss.length xc] w fun e w' => e = .returned (.string ⟨(ptrText ss).toArray⟩) ∧ Below w.heap.size w w' := by
  obtain ⟨i0, hi, hz0, hz1, hz2⟩ := info_parts infoU8
  have hadr := h.ad
  have HC := hide h.cell
  clear h
  have hlen : ss.length ≤ 1048576 := by omega
  have HM := hide hm
  clear hm
  go_enter Tryz.func64, Tryz.ntmps64
  go_wp2
  go_loopw [3, 4] (fun v i wr => ∃ k : Nat, k ≤ ss.length ∧ i = .int .i64 k ∧ wr.ownsRow w.heap.size 5 1 v (Lib.byteCells (ptrText (ss.take k))).length (Lib.byteCells (ptrText (ss.take k))) ∧ Below w.heap.size w wr) (fun _ i _ => ss.length - (intOf i).toNat)
  case atStart => exact ⟨0, Nat.zero_le _, rfl, World.ownsRow_lit w #[] 0 (Nat.le_refl _) (by unfold maxLen; omega) rfl, (Below.refl _ _).alloc (Nat.le_refl _) _⟩
  case round =>
    obtain ⟨k, hk, rfl, hown, hb⟩ := hrel
    by_cases hlt : k < ss.length
    · have hc0 := unhide HC k hlt
      have hxb : xb < w.heap.size := World.block_lt_of_cell? _ _ hc0
      obtain rfl := hadr (by omega)
      have htk := take_snoc hlt
      have hsz : (ss.getD k ByteArray.empty).size ≤ 1048576 := by have := tot_ge hlt; have := unhide HM; omega
      have hpl : (ptrText (ss.take k)).length + 2 * (ss.getD k ByteArray.empty).size + 1 ≤ 2097152 := by
        have h1 := ptrText_le (ss.take k); have h2 := tot_ge hlt; have h3 := unhide HM
        have h4 : (ss.take k).length = k := by rw [List.length_take]; omega
        omega
      clear hadr
      generalize hs : ss.getD k ByteArray.empty = s at *
      have HTK := hide htk
      have HS := hide hs
      clear htk hs
      have HP : Hid (ptrText (ss.take (k + 1)) = ptrText (ss.take k) ++ 47 :: esc s.data.toList) := by
        have e := unhide HTK; show _ = _; rw [e, ptrText_snoc]
      generalize ptrText (ss.take k) = p at *
      clear HTK
      have HB := hide hb
      have hwsz := hb.size
      clear hb
      have hp1 : (Lib.byteCells p).length = p.length := Lib.byteCells_length p
      have HP1 := hide hp1
      clear hp1
      go_wp2_with (at_builtin; refine wpList_append_own _ rfl (.tmp 13) (.tmp 14) 22 rfl w.heap.size 5 i0 (.int .u8 0) 1 1 Tryz.underlying22 hi hz0 hz1 hz2 rfl (by decide) _ _ _ rfl (hown.alloc _) ⟨wr.heap.size, 0, none⟩ 1 1 [.int .u8 47] rfl rfl (lit1 _ _ _) (one1 _ _) (by rw [unhide HP1]; unfold maxLen; omega) (by rw [unhide HP1]; omega) (by simp; omega) ?_)
      intro v1 w1 hown1 hgrow1 _
      have hb1 : Below w.heap.size w w1 := ((unhide HB).alloc hwsz _).grown hgrow1 (by simp; omega) (fun k hk => (hown.lt k hk).1)
      have hown1' := own_step (m := [47]) hown1 (by simp [Lib.byteCells]) rfl
      clear hown1 hgrow1 hown HB HP1
      go_wp2
      go_loopw [3, 5] (fun v i wr => ∃ j : Nat, j ≤ s.size ∧ i = .int .i64 j ∧ wr.ownsRow w.heap.size 5 1 v (Lib.byteCells (p ++ 47 :: esc (s.data.toList.take j))).length (Lib.byteCells (p ++ 47 :: esc (s.data.toList.take j))) ∧ Below w.heap.size w wr) (fun _ i _ => s.size - (intOf i).toNat)
      case atStart => exact ⟨0, Nat.zero_le _, rfl, by simpa [esc] using hown1', hb1⟩
      case round =>
        obtain ⟨j, hj, rfl, hown, hb⟩ := hrel
        have hc : wr.cell? ⟨xb, xo + k, none⟩ = some (.string s) := (hb.cell (p := ⟨xb, xo + k, none⟩) hxb).trans hc0
        have hwsz := hb.size
        by_cases hjs : j < s.size
        · have hq : (Lib.byteCells (p ++ 47 :: esc (s.data.toList.take j))).length ≤ p.length + 1 + 2 * j := by
            have := esc_le (s.data.toList.take j)
            have h5 : (s.data.toList.take j).length = j := by rw [List.length_take, data_len]; omega
            rw [Lib.byteCells_length, List.length_append, List.length_cons]; omega
          have HQ : Hid (p ++ 47 :: esc (s.data.toList.take (j + 1)) = (p ++ 47 :: esc (s.data.toList.take j)) ++ escB s[j]) := by
            show _ = _
            rw [bytes_snoc s j hjs, esc_snoc]; simp
          generalize p ++ 47 :: esc (s.data.toList.take j) = q at *
          have HB := hide hb
          clear hb hown1' hb1
          by_cases h126 : (s[j].toNat : Int) = 126
          · have t1 : ((s[j].toNat : Int) == 126) = true := by simpa using h126
            have HE := hide (escB_126 h126)
            clear h126
            go_wp2_with (at_builtin; refine wpList_append_own _ rfl (.tmp 32) (.tmp 33) 22 rfl w.heap.size 5 i0 (.int .u8 0) 1 1 Tryz.underlying22 hi hz0 hz1 hz2 rfl (by decide) _ _ _ rfl (hown.alloc _) ⟨wr.heap.size, 0, none⟩ 2 2 [.int .u8 126, .int .u8 48] rfl rfl (lit2 _ _ _ _ ) (one2 _ _ _ ) (by unfold maxLen; omega) (by omega) (by simp; omega) ?_)
            intro v2 w2 hown2 hgrow2 _
            have hb2 : Below w.heap.size w w2 := ((unhide HB).alloc hwsz _).grown hgrow2 (by simp; omega) (fun k hk => (hown.lt k hk).1)
            have hown2' := own_step (m := [126, 48]) hown2 (by simp [Lib.byteCells]) rfl
            clear hown2 hgrow2 hown HB hq
            go_wp2
            go_roundw
            case rel => exact ⟨j + 1, by omega, by go_num, by rw [unhide HQ, unhide HE]; exact hown2', hb2⟩
            case measure => simp [intOf]; omega
          · have t1 : ((s[j].toNat : Int) == 126) = false := by simpa using h126
            by_cases h47 : (s[j].toNat : Int) = 47
            · have t2 : ((s[j].toNat : Int) == 47) = true := by simpa using h47
              have HE := hide (escB_47 h47)
              clear h126 h47
              go_wp2_with (at_builtin; refine wpList_append_own _ rfl (.tmp 42) (.tmp 43) 22 rfl w.heap.size 5 i0 (.int .u8 0) 1 1 Tryz.underlying22 hi hz0 hz1 hz2 rfl (by decide) _ _ _ rfl (hown.alloc _) ⟨wr.heap.size, 0, none⟩ 2 2 [.int .u8 126, .int .u8 49] rfl rfl (lit2 _ _ _ _ ) (one2 _ _ _ ) (by unfold maxLen; omega) (by omega) (by simp; omega) ?_)
              intro v2 w2 hown2 hgrow2 _
              have hb2 : Below w.heap.size w w2 := ((unhide HB).alloc hwsz _).grown hgrow2 (by simp; omega) (fun k hk => (hown.lt k hk).1)
              have hown2' := own_step (m := [126, 49]) hown2 (by simp [Lib.byteCells]) rfl
              clear hown2 hgrow2 hown HB hq
              go_wp2
              go_roundw
              case rel => exact ⟨j + 1, by omega, by go_num, by rw [unhide HQ, unhide HE]; exact hown2', hb2⟩
              case measure => simp [intOf]; omega
            · have t2 : ((s[j].toNat : Int) == 47) = false := by simpa using h47
              have HE := hide (escB_other h126 h47)
              clear h126 h47
              go_wp2_with (at_builtin; refine wpList_append_own _ rfl (.tmp 45) (.tmp 52) 22 rfl w.heap.size 5 i0 (.int .u8 0) 1 1 Tryz.underlying22 hi hz0 hz1 hz2 rfl (by decide) _ _ _ rfl (hown.alloc _) ⟨wr.heap.size, 0, none⟩ 1 1 [.int .u8 s[j].toNat] rfl rfl (lit1 _ _ _ ) (one1 _ _ ) (by unfold maxLen; omega) (by omega) (by simp; omega) ?_)
              intro v2 w2 hown2 hgrow2 _
              have hb2 : Below w.heap.size w w2 := ((unhide HB).alloc hwsz _).grown hgrow2 (by simp; omega) (fun k hk => (hown.lt k hk).1)
              have hown2' := own_step (m := [s[j]]) hown2 (by simp [Lib.byteCells]) rfl
              clear hown2 hgrow2 hown HB hq
              go_wp2
              go_roundw
              case rel => exact ⟨j + 1, by omega, by go_num, by rw [unhide HQ, unhide HE]; exact hown2', hb2⟩
              case measure => simp [intOf]; omega
        · have hje : j = s.size := by omega
          subst hje
          rw [bytes_all] at hown
          clear hown1' hb1
          go_wp2
          go_roundw
          case rel => exact ⟨k + 1, by omega, by go_num, by rw [unhide HP]; exact hown, hb⟩
          case measure => simp [intOf]; omega
    · have e : ss.take k = ss := List.take_of_length_le (by omega)
      rw [e] at hown
      clear hadr
      have hl := Lib.byteCells_length (ptrText ss)
      rcases hown.2 with ⟨hv, h0⟩ | ⟨g, cap, cur, hv, _⟩
      · have e0 : ptrText ss = [] := List.eq_nil_of_length_eq_zero (by omega)
        subst hv
        have hcv := run_convert_bytes_nil (P := Tryz.prog) wr 22 5 Tryz.underlying22 Tryz.underlying5 0 0 9 Tryz.underlying9
        have HE0 := hide e0
        clear e0 h0 hown hl
        go_wp2
        go_ret
        exact ⟨by rw [unhide HE0]; rfl, hb⟩
      · subst hv
        rw [hl] at hown ⊢
        have hcv := run_convert_bytes_back (P := Tryz.prog) wr 22 9 5 ⟨g, 0, none⟩ cap (ptrText ss) Tryz.underlying22 Tryz.underlying5 Tryz.underlying9 (fun j hj => by
          rw [show ((⟨g, 0, none⟩ : Addr).add j) = ⟨g, j, none⟩ from by simp [Addr.add]; omega, hown.cellAt j (by omega)]; exact byteCells_at hj)
        go_wp2
        go_ret
        exact ⟨rfl, hb⟩
end Go.Proofs.YtadefcohbkgbfabGreatDoor

