import Derived.Shelf.Strings.Builder1
import Derived.WalkKit
import Derived.Test.YtcjajchfjoffnaaGreatDoorRows
import Derived.Test.YtcjajchfjoffnaaGreatDoorBe1
namespace Go.Proofs.YtcjajchfjoffnaaGreatDoor
open Go.RowKit

theorem infoBld : (Tryz.prog.info? 159).map (·.size) = some 2 := by kernel_rfl
theorem liesBld : liesAt Tryz.prog Tryz.prog.depth 159 (2 / Tryz.prog.cellsOf 159) 0 159 1 = true := by kernel_rfl
theorem infoByte : (Tryz.prog.info? 5).map (fun i => (i.zero, i.size, i.bytes)) = some (some (.int .u8 0), 1, 1) := by kernel_rfl

set_option maxHeartbeats 1000000 in
set_option maxRecDepth 100000 in
theorem check_used (b : Nat) (w : World) (h0 : w.cell? ⟨b, 0, none⟩ = some (.pointer (some ⟨b, 0, none⟩))) :
    Calls Tryz.prog 185 #[.pointer (some ⟨b, 0, none⟩)] w fun e w' => e = .returned (.tuple #[]) ∧ w' = w := by
  obtain ⟨j, hj, _⟩ := Option.map_eq_some_iff.1 infoBld
  go_enter Tryz.func185, Tryz.ntmps185
  go_wp2
  rw [Lib.run_neq_ptr_same w _ Tryz.underlying157 hj]
  go_wp2
  go_end0
  exact ⟨rfl, rfl⟩

set_option maxHeartbeats 1000000 in
set_option maxRecDepth 100000 in
theorem check_fresh (b : Nat) (w : World) (h0 : w.cell? ⟨b, 0, none⟩ = some (.pointer none)) (hsh : w.shape? b = some (159, 2)) (hfz : w.frozen? ⟨b, 0, none⟩ = false) :
    Calls Tryz.prog 185 #[.pointer (some ⟨b, 0, none⟩)] w fun e w' => e = .returned (.tuple #[]) ∧ w' = w.setCell ⟨b, 0, none⟩ (.pointer (some ⟨b, 0, none⟩)) := by
  obtain ⟨j, hj, hjs⟩ := Option.map_eq_some_iff.1 infoBld
  go_enter Tryz.func185, Tryz.ntmps185
  go_wp2
  rw [Lib.run_to_unsafe w ⟨b, 0, none⟩ Tryz.underlying157 Tryz.underlying272 hj (by rw [hjs]; decide) hsh (Nat.zero_lt_succ 1)]
  simp only [Result.andThen]
  rw [Oper.upon_value]
  go_wp2
  rw [run_callFunc_extern Tryz.func211 (by kernel_rfl) (by kernel_rfl) (by kernel_rfl) (e := Extern.AbiNoEscape.same) (by kernel_rfl)]
  rw [Lib.run_noEscape]
  simp only [Result.andThen]
  rw [Oper.upon_value]
  go_wp2
  rw [Lib.run_from_unsafe w ⟨b, 0, none⟩ Tryz.underlying272 Tryz.underlying157 hj hsh liesBld]
  simp only [Result.andThen]
  rw [Oper.upon_value]
  go_wp2
  go_end0
  exact ⟨rfl, rfl⟩

theorem check (B b : Nat) (bs : List Value) (w : World) (h : Lib.IsBuilder 159 5 B b bs w) :
    Calls Tryz.prog 185 #[.pointer (some ⟨b, 0, none⟩)] w fun e w' => e = .returned (.tuple #[]) ∧ (Lib.BuilderAt 159 5 B b (.pointer (some ⟨b, 0, none⟩)) bs w' ∧ Below B w w') := by
  rcases h with h | h
  · refine (check_fresh b w h.cell0 h.shape h.frozen0).mono ?_
    rintro e w' ⟨rfl, rfl⟩
    exact ⟨rfl, h.used _, (Below.refl B w).setCell (p := ⟨b, 0, none⟩) h.1 _⟩
  · refine (check_used b w h.cell0).mono ?_
    rintro e w' ⟨rfl, rfl⟩
    exact ⟨rfl, h, Below.refl B _⟩

set_option maxHeartbeats 2000000 in
set_option maxRecDepth 100000 in
theorem writeByte (B b : Nat) (bs : List Value) (c : Int) (w : World) (h : Lib.IsBuilder 159 5 B b bs w) (hlen : bs.length + 1 ≤ 140737488355328) (hBw : B ≤ w.heap.size) :
    Calls Tryz.prog 155 #[.pointer (some ⟨b, 0, none⟩), .int .u8 c] w fun e w' => e = .returned .nilIface ∧ (Lib.BuilderAt 159 5 B b (.pointer (some ⟨b, 0, none⟩)) (bs ++ [.int .u8 c]) w' ∧ Below B w w') := by
  obtain ⟨i0, hi, hz0, hz1, hz2⟩ := info_parts infoByte
  go_enter Tryz.func155, Tryz.ntmps155
  go_wp2_with (go_at_call 185; refine (check B b bs _ h).mono ?_)
  rintro e w1 ⟨rfl, h1, hb1⟩
  obtain ⟨hB, v, hbk, hown, hne⟩ := h1
  have c0 : w1.cell? ⟨b, 0, none⟩ = some (.pointer (some ⟨b, 0, none⟩)) := by rw [Lib.cell_of_heap hbk]; rfl
  have c1 : w1.cell? ⟨b, 1, none⟩ = some v := by rw [Lib.cell_of_heap hbk]; rfl
  go_wp2_with (at_builtin; refine wpList_append_own _ rfl _ _ 137 rfl B 5 i0 (.int .u8 0) 1 1 Tryz.underlying137 hi hz0 hz1 hz2 rfl (by decide) _ _ _ rfl (hown.alloc _) ⟨w1.heap.size, 0, none⟩ 1 1 [.int .u8 c] rfl rfl ?c1 ?c2 ?c3 ?c4 ?c5 ?_)
  case c1 =>
    intro j u hj
    match j, hj with
    | 0, hj => simp at hj; subst hj; simp [Addr.add]
  case c2 => intro u hu; simp at hu; subst hu; rfl
  case c3 => unfold maxLen; omega
  case c4 => omega
  case c5 => have := hb1.size; simp; omega
  intro v' w2 hown' hgrow _
  have hlt : b < w1.heap.size := by
    rcases Nat.lt_or_ge b w1.heap.size with h' | h'
    · exact h'
    · simp [Array.getElem?_eq_none h'] at hbk
  have hb2 : w2.heap[b]? = some (.cells #[.pointer (some ⟨b, 0, none⟩), v] 159 (0, 0)) := by
    rw [hgrow.block b (by simp; omega) (fun e => hne e.symm), Lib.alloc_old w1 _ b hlt]
    exact hbk
  have d0 : w2.cell? ⟨b, 0, none⟩ = some (.pointer (some ⟨b, 0, none⟩)) := by rw [Lib.cell_of_heap hb2]; rfl
  have d1 : w2.cell? ⟨b, 1, none⟩ = some v := by rw [Lib.cell_of_heap hb2]; rfl
  have f1 : w2.frozen? ⟨b, 1, none⟩ = false := Lib.frozen_of_heap hb2 1
  obtain ⟨g, cap, rfl⟩ : ∃ g cap, v' = .slice (some ⟨g, 0, none⟩) (bs.length + 1) cap := by
    rcases hown'.2 with ⟨_, h0⟩ | ⟨g, cap, cur, hv, _⟩
    · omega
    · exact ⟨g, cap, hv⟩
  go_wp2
  go_ret
  refine ⟨rfl, ?_, ?_⟩
  · exact Lib.BuilderAt.put (T := 159) (e := 5) hB hb2 (bs' := bs ++ [.int .u8 c]) (by simpa using hown') (by decide)
  · exact ((hb1.alloc (by have := hb1.size; omega) _).grown hgrow (by have := hb1.size; simp; omega) (fun k hk => (hown.lt k hk).1)).setCell (p := ⟨b, 1, none⟩) hB _

set_option maxHeartbeats 2000000 in
set_option maxRecDepth 100000 in
theorem writeString (B b : Nat) (bs : List Value) (s : ByteArray) (w : World) (h : Lib.IsBuilder 159 5 B b bs w) (hlen : bs.length + s.size ≤ 140737488355328) (hBw : B ≤ w.heap.size) :
    Calls Tryz.prog 156 #[.pointer (some ⟨b, 0, none⟩), .string s] w fun e w' => e = .returned (.tuple #[.int .i64 s.size, .nilIface]) ∧ (Lib.BuilderAt 159 5 B b (.pointer (some ⟨b, 0, none⟩)) (bs ++ Lib.strCells s) w' ∧ Below B w w') := by
  obtain ⟨i0, hi, hz0, hz1, hz2⟩ := info_parts infoByte
  go_enter Tryz.func156, Tryz.ntmps156
  go_wp2_with (go_at_call 185; refine (check B b bs _ h).mono ?_)
  rintro e w1 ⟨rfl, h1, hb1⟩
  obtain ⟨hB, v, hbk, hown, hne⟩ := h1
  have c0 : w1.cell? ⟨b, 0, none⟩ = some (.pointer (some ⟨b, 0, none⟩)) := by rw [Lib.cell_of_heap hbk]; rfl
  have c1 : w1.cell? ⟨b, 1, none⟩ = some v := by rw [Lib.cell_of_heap hbk]; rfl
  go_wp2_with (at_builtin; refine Lib.wpList_append_own_string _ rfl _ _ 137 9 rfl B 5 i0 Tryz.underlying137 Tryz.underlying9 hi hz0 hz1 hz2 _ _ _ rfl hown s rfl ?c3 ?c4 ?c5 ?_)
  case c3 => unfold maxLen; omega
  case c4 => omega
  case c5 => have := hb1.size; omega
  intro v' w2 hown' hgrow _
  have hlt : b < w1.heap.size := by
    rcases Nat.lt_or_ge b w1.heap.size with h' | h'
    · exact h'
    · simp [Array.getElem?_eq_none h'] at hbk
  have hb2 : w2.heap[b]? = some (.cells #[.pointer (some ⟨b, 0, none⟩), v] 159 (0, 0)) := by
    rw [hgrow.block b hlt (fun e => hne e.symm)]
    exact hbk
  have d0 : w2.cell? ⟨b, 0, none⟩ = some (.pointer (some ⟨b, 0, none⟩)) := by rw [Lib.cell_of_heap hb2]; rfl
  have d1 : w2.cell? ⟨b, 1, none⟩ = some v := by rw [Lib.cell_of_heap hb2]; rfl
  have f1 : w2.frozen? ⟨b, 1, none⟩ = false := Lib.frozen_of_heap hb2 1
  obtain ⟨ao, n', cap, rfl⟩ : ∃ ao n' cap, v' = .slice ao n' cap := by
    rcases hown'.2 with ⟨hv, _⟩ | ⟨g, cap, cur, hv, _⟩
    · exact ⟨_, _, _, hv⟩
    · exact ⟨_, _, _, hv⟩
  go_wp2
  go_ret2
  refine ⟨rfl, ?_, ?_⟩
  · exact Lib.BuilderAt.put (T := 159) (e := 5) hB hb2 (bs' := bs ++ Lib.strCells s) (by simpa [Lib.strCells_length] using hown') (by decide)
  · exact (hb1.grown hgrow (by have := hb1.size; omega) (fun k hk => (hown.lt k hk).1)).setCell (p := ⟨b, 1, none⟩) hB _

open Go.Shelf in

def ren169 : Go.Shelf.Ren := ⟨fun | 169 => 95 | n => n, fun | 70 => 157 | 9 => 9 | 0 => 0 | 72 => 159 | 37 => 137 | 127 => 201 | 3 => 3 | 5 => 5 | n => n, fun | n => n⟩
theorem lays169 : Go.Proofs.Lays.n169 Tryz.prog ren169 := {
  mixed := by kernel_rfl
  f169 := Tryz.func95.trans (congrArg some (by kernel_rfl))
  t0 := Tryz.underlying0
  a0 := Tryz.isAgg0
  z0 := Tryz.sizeOf0
  v0 := Tryz.zeroValue0
  t3 := Tryz.underlying3
  a3 := Tryz.isAgg3
  z3 := Tryz.sizeOf3
  v3 := Tryz.zeroValue3
  t9 := Tryz.underlying9
  a9 := Tryz.isAgg9
  z9 := Tryz.sizeOf9
  v9 := Tryz.zeroValue9
  t37 := Tryz.underlying137
  a37 := Tryz.isAgg137
  z37 := Tryz.sizeOf137
  v37 := Tryz.zeroValue137
  t70 := Tryz.underlying157
  a70 := Tryz.isAgg157
  z70 := Tryz.sizeOf157
  v70 := Tryz.zeroValue157
  t72 := Tryz.underlying159
  a72 := Tryz.isAgg159
  z72 := Tryz.sizeOf159
  v72 := Tryz.zeroValue159
  t127 := Tryz.underlying201
  a127 := Tryz.isAgg201
  z127 := Tryz.sizeOf201
  v127 := Tryz.zeroValue201 }
theorem extra169 : Builder.Extra Tryz.prog ren169 := {
  sizeBuilder := by kernel_rfl
  liesBuilder := by kernel_rfl
  t5 := Tryz.underlying5
  a5 := Tryz.isAgg5
  z5 := Tryz.sizeOf5
  v5 := Tryz.zeroValue5
  infoByte := by kernel_rfl
  cellsByte := by kernel_rfl
  sizeByte := by kernel_rfl
  neB5 := by decide }
theorem bldString (B b : Nat) (l : List UInt8) (w : World) (h : Lib.IsBuilder 159 5 B b (Lib.byteCells l) w) (hBw : B ≤ w.heap.size) :
    Calls Tryz.prog 95 #[.pointer (some ⟨b, 0, none⟩)] w fun e w' => e = .returned (.string ⟨l.toArray⟩) ∧ Below B w w' := Any.Builder_String_any lays169 extra169 B b l w h hBw
end Go.Proofs.YtcjajchfjoffnaaGreatDoor

namespace Go.Proofs.YtcjajchfjoffnaaGreatDoor
open Go.RowKit

abbrev IsB (B b : Nat) (l : List UInt8) (w : World) : Prop := Lib.IsBuilder 159 5 B b (Lib.byteCells l) w

theorem IsB.byte {B b : Nat} {l : List UInt8} {c : UInt8} {w : World} {n : Int} (hn : n = (c.toNat : Int)) (h : Lib.BuilderAt 159 5 B b (.pointer (some ⟨b, 0, none⟩)) (Lib.byteCells l ++ [.int .u8 n]) w) : IsB B b (l ++ [c]) w := by
  subst hn; exact Or.inr (by rw [Lib.byteCells_append]; exact h)
theorem IsB.str {B b : Nat} {l : List UInt8} {s : ByteArray} {m : List UInt8} {w : World} (hm : m = s.data.toList) (h : Lib.BuilderAt 159 5 B b (.pointer (some ⟨b, 0, none⟩)) (Lib.byteCells l ++ Lib.strCells s) w) : IsB B b (l ++ m) w := by
  subst hm; exact Or.inr (by rw [Lib.byteCells_append]; exact h)

theorem IsB.cells {B b : Nat} {l m : List UInt8} {xs : List Value} {w : World} (hx : xs = Lib.byteCells m) (h : Lib.BuilderAt 159 5 B b (.pointer (some ⟨b, 0, none⟩)) (Lib.byteCells l ++ xs) w) : IsB B b (l ++ m) w := by
  subst hx; exact Or.inr (by rw [Lib.byteCells_append]; exact h)
end Go.Proofs.YtcjajchfjoffnaaGreatDoor

namespace Go.Proofs.YtcjajchfjoffnaaGreatDoor
open Go.RowKit

set_option maxHeartbeats 1000000 in
set_option maxRecDepth 100000 in
theorem implTok_walk (s : ByteArray) (w : World) (hs : s.size ≤ 1048576) :
    Calls Tryz.prog 135 #[.string s] w fun e w' => e = .returned (tokRes (unesc s.data.toList)) ∧ Below w.heap.size w w' := by
  go_enter Tryz.func135, Tryz.ntmps135
  go_wp2
  go_loopw [5] (fun i wr => ∃ (j : Nat) (acc : List UInt8), j ≤ s.size ∧ i = .int .i64 j ∧ IsB w.heap.size w.heap.size acc wr ∧ Below w.heap.size w wr ∧ (Lib.byteCells acc).length ≤ j ∧ UnAt s.data.toList j acc) (fun i _ => s.size - (intOf i).toNat)
  case atStart => exact ⟨0, [], Nat.zero_le _, rfl, Lib.fresh_isBuilder _ _ w, (Below.refl _ _).alloc (Nat.le_refl _) _, Nat.le_refl _, UnAt.start _⟩
  case round =>
    obtain ⟨j, acc, hj, rfl, hI, hb, hal, hun⟩ := hrel
    have hwsz := hb.size
    have HU := hide hun
    clear hun
    by_cases hjs : j < s.size
    · have hd := drop_at s j hjs
      by_cases h126 : (s[j].toNat : Int) = 126
      · have t1 : ((s[j].toNat : Int) != 126) = false := by simpa using h126
        by_cases h2 : j + 1 < s.size
        · have hd2 := drop_at s (j + 1) h2
          have t0 : ((j : Int) + 1 == (s.size : Int)) = false := by simp; omega
          by_cases h48 : (s[j + 1].toNat : Int) = 48
          · have t2 : ((s[j + 1].toNat : Int) == 48) = true := by simpa using h48
            have HS : Hid (unesc (s.data.toList.drop j) = (unesc (s.data.toList.drop (j + 2))).map ([126] ++ ·)) := by show _ = _; rw [hd, hd2, unesc_0 _ h126 h48]
            clear h126 h48 hd hd2
            go_wp2_with (go_at_call 155; refine (writeByte w.heap.size w.heap.size _ _ _ hI (by omega) hwsz).mono ?_)
            rintro e w2 ⟨rfl, h2, hb2⟩
            have h2' := IsB.byte (c := 126) rfl h2
            clear h2 hI
            go_wp2
            go_roundw
            case rel => exact ⟨j + 2, acc ++ [126], by omega, by go_num, h2', hb.trans hb2, by simp [Lib.byteCells] at hal ⊢; omega, (unhide HU).step (unhide HS)⟩
            case measure => simp [intOf]; omega
          · by_cases h49 : (s[j + 1].toNat : Int) = 49
            · have t2 : ((s[j + 1].toNat : Int) == 48) = false := by simpa using h48
              have t3 : ((s[j + 1].toNat : Int) == 49) = true := by simpa using h49
              have HS : Hid (unesc (s.data.toList.drop j) = (unesc (s.data.toList.drop (j + 2))).map ([47] ++ ·)) := by show _ = _; rw [hd, hd2, unesc_1 _ h126 h49]
              clear h126 h48 h49 hd hd2
              go_wp2_with (go_at_call 155; refine (writeByte w.heap.size w.heap.size _ _ _ hI (by omega) hwsz).mono ?_)
              rintro e w2 ⟨rfl, h2, hb2⟩
              have h2' := IsB.byte (c := 47) rfl h2
              clear h2 hI
              go_wp2
              go_roundw
              case rel => exact ⟨j + 2, acc ++ [47], by omega, by go_num, h2', hb.trans hb2, by simp [Lib.byteCells] at hal ⊢; omega, (unhide HU).step (unhide HS)⟩
              case measure => simp [intOf]; omega
            · have t2 : ((s[j + 1].toNat : Int) == 48) = false := by simpa using h48
              have t3 : ((s[j + 1].toNat : Int) == 49) = false := by simpa using h49
              have HF := hide ((unhide HU).bad (by rw [hd, hd2, unesc_bad _ h126 h48 h49]))
              clear h126 h48 h49 hd hd2 hI
              go_wp2
              go_ret2
              exact ⟨by rw [unhide HF]; rfl, hb⟩
        · have t0 : ((j : Int) + 1 == (s.size : Int)) = true := by simp; omega
          have HF := hide ((unhide HU).bad (by rw [hd, drop_end s (j + 1) h2, unesc_end h126]))
          clear h126 hd hI
          go_wp2
          go_ret2
          exact ⟨by rw [unhide HF]; rfl, hb⟩
      · have t1 : ((s[j].toNat : Int) != 126) = true := by simpa using h126
        have HS : Hid (unesc (s.data.toList.drop j) = (unesc (s.data.toList.drop (j + 1))).map ([s[j]] ++ ·)) := by show _ = _; rw [hd, unesc_lit _ h126]
        clear h126 hd
        go_wp2_with (go_at_call 155; refine (writeByte w.heap.size w.heap.size _ _ _ hI (by omega) hwsz).mono ?_)
        rintro e w2 ⟨rfl, h2, hb2⟩
        have h2' := IsB.byte (c := s[j]) rfl h2
        clear h2 hI
        go_wp2
        go_roundw
        case rel => exact ⟨j + 1, acc ++ [s[j]], by omega, by go_num, h2', hb.trans hb2, by simp [Lib.byteCells] at hal ⊢; omega, (unhide HU).step (unhide HS)⟩
        case measure => simp [intOf]; omega
    · have HF := hide ((unhide HU).fin (by rw [data_len]; omega))
      go_wp2_with (go_at_call 95; refine (bldString w.heap.size w.heap.size acc _ hI hwsz).mono ?_)
      rintro e w2 ⟨rfl, hb2⟩
      clear hI
      go_wp2
      go_ret2
      exact ⟨by rw [unhide HF]; rfl, hb.trans hb2⟩
end Go.Proofs.YtcjajchfjoffnaaGreatDoor

namespace Go.Proofs.YtcjajchfjoffnaaGreatDoor
open Go.RowKit

set_option maxHeartbeats 1000000 in
set_option maxRecDepth 100000 in
theorem token_walk (B b : Nat) (l : List UInt8) (s : ByteArray) (w : World) (h : IsB B b l w) (hB : B ≤ w.heap.size) (hs : s.size ≤ 1048576) (hl : l.length ≤ 2097152) :
    Calls Tryz.prog 128 #[.pointer (some ⟨b, 0, none⟩), .string s] w fun e w' => e = .returned (.tuple #[]) ∧ IsB B b (l ++ 47 :: esc s.data.toList) w' ∧ Below B w w' := by
  have HL : Hid ((Lib.byteCells l).length = l.length) := Lib.byteCells_length l
  go_enter Tryz.func128, Tryz.ntmps128
  go_wp2_with (go_at_call 155; refine (writeByte B b _ 47 _ h (by rw [unhide HL]; omega) hB).mono ?_)
  rintro e w1 ⟨rfl, h1, hb1⟩
  have h1' := IsB.byte (c := 47) rfl h1
  clear h1 h
  go_wp2
  go_loopw [9] (fun i wr => ∃ j : Nat, j ≤ s.size ∧ i = .int .i64 j ∧ IsB B b (l ++ 47 :: esc (s.data.toList.take j)) wr ∧ Below B w wr) (fun i _ => s.size - (intOf i).toNat)
  case atStart => exact ⟨0, Nat.zero_le _, rfl, by simpa [esc] using h1', hb1⟩
  case round =>
    obtain ⟨j, hj, rfl, hI, hb⟩ := hrel
    have hwsz : B ≤ wr.heap.size := by have := hb.size; omega
    by_cases hjs : j < s.size
    · have hq : (Lib.byteCells (l ++ 47 :: esc (s.data.toList.take j))).length ≤ l.length + 1 + 2 * j := by
        have := esc_le (s.data.toList.take j)
        have h5 : (s.data.toList.take j).length = j := by rw [List.length_take, data_len]; omega
        rw [Lib.byteCells_length, List.length_append, List.length_cons]; omega
      have HQ : Hid (l ++ 47 :: esc (s.data.toList.take (j + 1)) = (l ++ 47 :: esc (s.data.toList.take j)) ++ escB s[j]) := by
        show _ = _
        rw [bytes_snoc s j hjs, esc_snoc]; simp
      generalize l ++ 47 :: esc (s.data.toList.take j) = q at *
      clear h1' hb1
      by_cases h126 : (s[j].toNat : Int) = 126
      · have t1 : ((s[j].toNat : Int) == 126) = true := by simpa using h126
        have HE := hide (escB_126 h126)
        clear h126
        go_wp2_with (go_at_call 156; refine (writeString B b _ _ _ hI (by show _ + 2 ≤ _; omega) hwsz).mono ?_)
        rintro e w2 ⟨rfl, h2, hb2⟩
        have h2' := IsB.str (m := [126, 48]) rfl h2
        clear h2 hI hq
        go_wp2
        go_roundw
        case rel => exact ⟨j + 1, by omega, by go_num, by rw [unhide HQ, unhide HE]; exact h2', hb.trans hb2⟩
        case measure => simp [intOf]; omega
      · have t1 : ((s[j].toNat : Int) == 126) = false := by simpa using h126
        by_cases h47 : (s[j].toNat : Int) = 47
        · have t2 : ((s[j].toNat : Int) == 47) = true := by simpa using h47
          have HE := hide (escB_47 h47)
          clear h126 h47
          go_wp2_with (go_at_call 156; refine (writeString B b _ _ _ hI (by show _ + 2 ≤ _; omega) hwsz).mono ?_)
          rintro e w2 ⟨rfl, h2, hb2⟩
          have h2' := IsB.str (m := [126, 49]) rfl h2
          clear h2 hI hq
          go_wp2
          go_roundw
          case rel => exact ⟨j + 1, by omega, by go_num, by rw [unhide HQ, unhide HE]; exact h2', hb.trans hb2⟩
          case measure => simp [intOf]; omega
        · have t2 : ((s[j].toNat : Int) == 47) = false := by simpa using h47
          have HE := hide (escB_other h126 h47)
          clear h126 h47
          go_wp2_with (go_at_call 155; refine (writeByte B b _ _ _ hI (by omega) hwsz).mono ?_)
          rintro e w2 ⟨rfl, h2, hb2⟩
          have h2' := IsB.byte (c := s[j]) rfl h2
          clear h2 hI hq
          go_wp2
          go_roundw
          case rel => exact ⟨j + 1, by omega, by go_num, by rw [unhide HQ, unhide HE]; exact h2', hb.trans hb2⟩
          case measure => simp [intOf]; omega
    · have hje : j = s.size := by omega
      subst hje
      rw [bytes_all] at hI
      clear h1' hb1
      go_wp2
      go_end0
      exact ⟨rfl, hI, hb⟩

set_option maxHeartbeats 1000000 in
set_option maxRecDepth 100000 in
theorem implText_walk (xa : Option Addr) (xb xo xc : Nat) (ss : List ByteArray) (w : World) (h : SS w xa xb xo ss) (hm : ss.length + tot ss ≤ 1048576) :
    Calls Tryz.prog 92 #[.slice xa ss.length xc] w fun e w' => e = .returned (.string ⟨(ptrText ss).toArray⟩) ∧ Below w.heap.size w w' := by
  have hadr := h.ad
  have HC := hide h.cell
  clear h
  have hlen : ss.length ≤ 1048576 := by omega
  have HM := hide hm
  clear hm
  go_enter Tryz.func92, Tryz.ntmps92
  go_wp2
  go_loopw [8] (fun i wr => ∃ k : Nat, k ≤ ss.length ∧ i = .int .i64 k ∧ IsB w.heap.size w.heap.size (ptrText (ss.take k)) wr ∧ Below w.heap.size w wr) (fun i _ => ss.length - (intOf i).toNat)
  case atStart => exact ⟨0, Nat.zero_le _, rfl, Lib.fresh_isBuilder _ _ w, (Below.refl _ _).alloc (Nat.le_refl _) _⟩
  case round =>
    obtain ⟨k, hk, rfl, hI, hb⟩ := hrel
    have hwsz := hb.size
    by_cases hlt : k < ss.length
    · have hc0 := unhide HC k hlt
      have hc := (hb.cell (p := ⟨xb, xo + k, none⟩) (World.block_lt_of_cell? _ _ hc0)).trans hc0
      obtain rfl := hadr (by omega)
      have hsz : (ss.getD k ByteArray.empty).size ≤ 1048576 := by have := tot_ge hlt; have := unhide HM; omega
      have hpl : (ptrText (ss.take k)).length ≤ 2097152 := by
        have h1 := ptrText_le (ss.take k); have h2 := tot_ge hlt; have h3 := unhide HM
        have h4 : (ss.take k).length = k := by rw [List.length_take]; omega
        omega
      have HP : Hid (ptrText (ss.take (k + 1)) = ptrText (ss.take k) ++ 47 :: esc (ss.getD k ByteArray.empty).data.toList) := by
        show _ = _; rw [take_snoc hlt, ptrText_snoc]
      clear hadr hc0
      generalize ss.getD k ByteArray.empty = s at *
      generalize ptrText (ss.take k) = p at *
      go_wp2_with (go_at_call 128; refine (token_walk w.heap.size w.heap.size p s _ hI hwsz hsz hpl).mono ?_)
      rintro e w2 ⟨rfl, h2, hb2⟩
      clear hI
      go_wp2
      go_roundw
      case rel => exact ⟨k + 1, by omega, by go_num, by rw [unhide HP]; exact h2, hb.trans hb2⟩
      case measure => simp [intOf]; omega
    · have e : ss.take k = ss := List.take_of_length_le (by omega)
      rw [e] at hI
      have E := hide e
      clear hadr e
      go_wp2_with (go_at_call 95; refine (bldString w.heap.size w.heap.size (ptrText ss) _ hI hwsz).mono ?_)
      rintro e w2 ⟨rfl, hb2⟩
      clear hI
      go_wp2
      go_ret
      exact ⟨rfl, hb.trans hb2⟩
end Go.Proofs.YtcjajchfjoffnaaGreatDoor
