import Derived.Test.YtlfonikfjibloaaGreatDoorBt1
import Derived.Shelf.Strings.Builder1
import Derived.WalkKit
import Derived.Test.YtlfonikfjibloaaGreatDoorRows
import Derived.Laws.Concat
namespace Go.Proofs.YtlfonikfjibloaaGreatDoor
open Go.RowKit

theorem toks_none_or (o : Option (List (List UInt8))) : o = none ∨ ∃ ts, o = some ts := by cases o with
  | none => exact .inl rfl
  | some t => exact .inr ⟨t, rfl⟩

set_option maxHeartbeats 1000000 in
set_option maxRecDepth 100000 in
theorem specToks_walk (s : ByteArray) (w : World) (hs : s.size ≤ 1048576) :
    Calls Tryz.prog 114 #[.string s] w fun e w' => ∃ v, e = .returned (.tuple #[v, .bool (ptoks s.data.toList).isSome]) ∧ OT w' w.heap.size v ((ptoks s.data.toList).getD []) ∧ Below w.heap.size w w' := by
  obtain ⟨i0, hi, hz0, hz1, hz2⟩ := info_parts infoString
  have hown0 := World.ownsRow_lit (base := w.heap.size) (e := 9) (size := 1) w #[] 0 (Nat.le_refl _) (by unfold maxLen; omega) rfl
  have hbel0 : Below w.heap.size w (w.alloc (.cells #[] 9)) := (Below.refl _ _).alloc (Nat.le_refl _) _
  by_cases h0 : s.size = 0
  · have hse : s = ⟨#[]⟩ := by
      have : s.data.toList = [] := List.eq_nil_of_length_eq_zero (by rw [data_len]; exact h0)
      obtain ⟨⟨l⟩⟩ := s; simp at this; subst this; rfl
    subst hse
    have HO := hide hown0
    clear hown0 h0
    go_enter Tryz.func114, Tryz.ntmps114
    go_wp2
    go_ret2
    exact ⟨_, rfl, unhide HO, hbel0⟩
  · have hne : s.toList.isEmpty = false := by
      rw [Lib.toList_data, List.isEmpty_eq_false_iff]; intro e; exact h0 (by rw [← data_len, e]; rfl)
    have h0' : 0 < s.size := by omega
    have hdl := data_len s
    by_cases h47 : (s[0].toNat : Int) = 47
    · have t1 : ((s[0].toNat : Int) != 47) = false := by simpa using h47
      have HP : Hid (ptoks s.data.toList = toks (s.data.toList.drop 1)) := ptoks_cons (by omega) (by show s[0].toNat = 47; omega)
      have HO := hide hown0
      clear hown0 h47
      generalize hl : s.data.toList = l at *
      have HL := hide hl
      clear hl
      go_enter Tryz.func114, Tryz.ntmps114
      go_wp2
      go_loopw [4, 5, 6] (fun v fr i wr => ∃ (k f : Nat) (done : List (List UInt8)), 1 ≤ k ∧ k ≤ s.size + 1 ∧ 1 ≤ f ∧ f ≤ k ∧ i = .int .i64 k ∧ fr = .int .i64 f ∧ done.length ≤ k ∧ OT wr w.heap.size v done ∧ Below w.heap.size w wr ∧ (k ≤ s.size → NoSl l f k ∧ TkAt l f done) ∧ (k = s.size + 1 → toks (l.drop 1) = some done)) (fun _ _ i _ => s.size + 1 - (intOf i).toNat)
      case atStart => exact ⟨1, 1, [], by omega, by omega, by omega, by omega, rfl, rfl, by simp, unhide HO, hbel0, fun _ => ⟨NoSl.none _ _, by simp [TkAt]⟩, fun h => by omega⟩
      case round =>
        obtain ⟨k, f, done, hk1, hk2, hf1, hfk, rfl, rfl, hdl2, hown, hb, hA, hZ⟩ := hrel
        have hwsz := hb.size
        have HA := hide hA
        have HZ := hide hZ
        clear hA hZ HO
        by_cases hks : k ≤ s.size
        · by_cases hke : k = s.size
          · have hA := unhide HA hks
            have hkl : k = l.length := by omega
            have hlast : NoSl l f l.length := by rw [← hkl]; exact hA.1
            subst hke
            have t2 : ((s.size : Int) == (s.size : Int)) = true := by simp
            have hsz : (s.extract f s.size).size ≤ 1048576 := by rw [← data_len, extract_toList, List.length_take, List.length_drop, data_len]; omega
            have hex := extract_toList s f s.size
            rw [unhide HL] at hex
            have C := specTok_walk (s.extract f s.size) wr hsz
            rw [hex] at C
            cases ho : unesc ((l.drop f).take (s.size - f)) with
            | none =>
              rw [ho, tokRes_none] at C
              have HC := hide C
              have HF : Hid (toks (l.drop 1) = none) := by have := hA.2.lastBad hlast (by rw [← hkl]; exact ho); exact this
              clear C ho hex hA hlast hkl HA HZ
              go_wp2_with fail
              refine (unhide HC).mono ?_
              rintro e w1 ⟨rfl, hb1⟩
              have B1 := hb.trans (hb1.mono hwsz)
              have hown1 := World.ownsRow_lit (base := w.heap.size) (e := 9) (size := 1) w1 #[] 0 B1.size (by unfold maxLen; omega) rfl
              have HO1 := hide hown1
              clear hown hb1 HC hown1
              go_wp2
              go_ret2
              exact ⟨_, by rw [unhide HP, unhide HF]; rfl, by rw [unhide HP, unhide HF]; exact unhide HO1, B1.alloc B1.size _⟩
            | some t =>
              rw [ho, tokRes_some] at C
              have HC := hide C
              have HF : Hid (toks (l.drop 1) = some (done ++ [t])) := by have := hA.2.last hlast (by rw [← hkl]; exact ho); exact this
              clear hA hlast hkl HA HZ C ho hex
              go_wp2_with fail
              refine (unhide HC).mono ?_
              rintro e w1 ⟨rfl, hb1⟩
              have B1 := hb.trans (hb1.mono hwsz)
              have own1 := own_below hown hb1
              have hw1 := B1.size
              clear hown hb1 HC
              go_wp2_with (at_builtin; (refine wpList_append_own _ rfl (.tmp 44) (.tmp 46) 51 rfl w.heap.size 9 i0 (.string ByteArray.empty) 1 16 Tryz.underlying51 hi hz0 hz1 hz2 rfl (by decide) _ _ _ rfl (own1.alloc _) ⟨w1.heap.size, 0, none⟩ 1 1 [.string (baT t)] rfl rfl (lit1 _ _ _) (one_tok _) (by unfold maxLen; omega) (by omega) (by simp; omega) ?_))
              intro v2 w2 hown2 hgrow2 _
              have B2 : Below w.heap.size w w2 := (B1.alloc hw1 _).grown hgrow2 (by simp; omega) (fun k hk => (own1.lt k hk).1)
              have own2 := OT.step (t := t) hown2
              clear hown2 hgrow2 own1
              go_wp2
              go_roundw
              case rel => exact ⟨s.size + 1, s.size + 1, done ++ [t], by omega, by omega, by omega, by omega, by go_num, by go_num, by simp; omega, own2, B2, fun h => by omega, fun _ => unhide HF⟩
              case measure => simp [intOf]
          · have hlt : k < s.size := by omega
            have t2 : ((k : Int) == (s.size : Int)) = false := by simp; omega
            by_cases hc : (s[k].toNat : Int) = 47
            · have t3 : ((s[k].toNat : Int) == 47) = true := by simpa using hc
              have hA := unhide HA hks
              have hcl : k < l.length := by omega
              have hck : l[k].toNat = 47 := by have e : l[k].toNat = s[k].toNat := by (have e := unhide HL; subst e; rfl)
                                               omega
              have hsz : (s.extract f k).size ≤ 1048576 := by rw [← data_len, extract_toList, List.length_take, List.length_drop, data_len]; omega
              have hex := extract_toList s f k
              rw [unhide HL] at hex
              have C := specTok_walk (s.extract f k) wr hsz
              rw [hex] at C
              cases ho : unesc ((l.drop f).take (k - f)) with
              | none =>
                rw [ho, tokRes_none] at C
                have HC := hide C
                have HF : Hid (toks (l.drop 1) = none) := hA.2.cutBad hA.1 hfk hcl hck ho
                clear C ho hex
                go_wp2_with fail
                refine (unhide HC).mono ?_
                rintro e w1 ⟨rfl, hb1⟩
                have B1 := hb.trans (hb1.mono hwsz)
                have hown1 := World.ownsRow_lit (base := w.heap.size) (e := 9) (size := 1) w1 #[] 0 B1.size (by unfold maxLen; omega) rfl
                have HO1 := hide hown1
                clear hown hb1 HC hown1
                go_wp2
                go_ret2
                exact ⟨_, by rw [unhide HP, unhide HF]; rfl, by rw [unhide HP, unhide HF]; exact unhide HO1, B1.alloc B1.size _⟩
              | some t =>
                rw [ho, tokRes_some] at C
                have HC := hide C
                have HF := hide (hA.2.cut hA.1 hfk hcl hck ho)
                clear hA hcl hck hc HA HZ
                clear C ho hex
                go_wp2_with fail
                refine (unhide HC).mono ?_
                rintro e w1 ⟨rfl, hb1⟩
                have B1 := hb.trans (hb1.mono hwsz)
                have own1 := own_below hown hb1
                have hw1 := B1.size
                clear hown hb1 HC
                go_wp2_with (at_builtin; refine wpList_append_own _ rfl (.tmp 44) (.tmp 46) 51 rfl w.heap.size 9 i0 (.string ByteArray.empty) 1 16 Tryz.underlying51 hi hz0 hz1 hz2 rfl (by decide) _ _ _ rfl (own1.alloc _) ⟨w1.heap.size, 0, none⟩ 1 1 [.string (baT t)] rfl rfl (lit1 _ _ _) (one_tok _) (by unfold maxLen; omega) (by omega) (by simp; omega) ?_)
                intro v2 w2 hown2 hgrow2 _
                have B2 : Below w.heap.size w w2 := (B1.alloc hw1 _).grown hgrow2 (by simp; omega) (fun k hk => (own1.lt k hk).1)
                have own2 := OT.step (t := t) hown2
                clear hown2 hgrow2 own1
                go_wp2
                go_roundw
                case rel => exact ⟨k + 1, k + 1, done ++ [t], by omega, by omega, by omega, by omega, by go_num, by go_num, by simp; omega, own2, B2, fun _ => ⟨NoSl.none _ _, unhide HF⟩, fun h => by omega⟩
                case measure => simp [intOf]; omega
            · have t3 : ((s[k].toNat : Int) == 47) = false := by simpa using hc
              go_wp2
              go_roundw
              case rel =>
                have ⟨hn, ht⟩ := unhide HA hks
                have hcl : k < l.length := by omega
                have hck : l[k].toNat = s[k].toNat := by have e := unhide HL; subst e; rfl
                exact ⟨k + 1, f, done, by omega, by omega, hf1, by omega, by go_num, rfl, by omega, hown, hb, fun _ => ⟨hn.snoc hcl (by omega), ht⟩, fun h => by omega⟩
              case measure => simp [intOf]; omega
        · have HF := hide (unhide HZ (by omega))
          go_wp2
          go_ret2
          exact ⟨_, by rw [unhide HP, unhide HF]; rfl, by rw [unhide HP, unhide HF]; exact hown, hb⟩
    · have t1 : ((s[0].toNat : Int) != 47) = true := by simpa using h47
      have HP : Hid (ptoks s.data.toList = none) := ptoks_bad (by omega) (fun e => h47 (by show ((s[0].toNat : Int)) = 47; have : s.data.toList[0].toNat = s[0].toNat := rfl; omega))
      have HO := hide hown0
      clear hown0 h47
      go_enter Tryz.func114, Tryz.ntmps114
      go_wp2
      go_ret2
      exact ⟨_, by rw [unhide HP]; rfl, by rw [unhide HP]; exact unhide HO, hbel0⟩
end Go.Proofs.YtlfonikfjibloaaGreatDoor

namespace Go.Proofs.YtlfonikfjibloaaGreatDoor
open Go.RowKit

theorem infoBld : (Tryz.prog.info? 81).map (·.size) = some 2 := by kernel_rfl
theorem liesBld : liesAt Tryz.prog Tryz.prog.depth 81 (2 / Tryz.prog.cellsOf 81) 0 81 1 = true := by kernel_rfl
theorem infoByte : (Tryz.prog.info? 5).map (fun i => (i.zero, i.size, i.bytes)) = some (some (.int .u8 0), 1, 1) := by kernel_rfl

set_option maxHeartbeats 1000000 in
set_option maxRecDepth 100000 in
theorem check_used (b : Nat) (w : World) (h0 : w.cell? ⟨b, 0, none⟩ = some (.pointer (some ⟨b, 0, none⟩))) :
    Calls Tryz.prog 76 #[.pointer (some ⟨b, 0, none⟩)] w fun e w' => e = .returned (.tuple #[]) ∧ w' = w := by
  obtain ⟨j, hj, _⟩ := Option.map_eq_some_iff.1 infoBld
  go_enter Tryz.func76, Tryz.ntmps76
  go_wp2
  rw [Lib.run_neq_ptr_same w _ Tryz.underlying79 hj]
  go_wp2
  go_end0
  exact ⟨rfl, rfl⟩

set_option maxHeartbeats 1000000 in
set_option maxRecDepth 100000 in
theorem check_fresh (b : Nat) (w : World) (h0 : w.cell? ⟨b, 0, none⟩ = some (.pointer none)) (hsh : w.shape? b = some (81, 2)) (hfz : w.frozen? ⟨b, 0, none⟩ = false) :
    Calls Tryz.prog 76 #[.pointer (some ⟨b, 0, none⟩)] w fun e w' => e = .returned (.tuple #[]) ∧ w' = w.setCell ⟨b, 0, none⟩ (.pointer (some ⟨b, 0, none⟩)) := by
  obtain ⟨j, hj, hjs⟩ := Option.map_eq_some_iff.1 infoBld
  go_enter Tryz.func76, Tryz.ntmps76
  go_wp2
  rw [Lib.run_to_unsafe w ⟨b, 0, none⟩ Tryz.underlying79 Tryz.underlying253 hj (by rw [hjs]; decide) hsh (Nat.zero_lt_succ 1)]
  simp only [Result.andThen]
  rw [Oper.upon_value]
  go_wp2
  rw [run_callFunc_extern Tryz.func139 (by kernel_rfl) (by kernel_rfl) (by kernel_rfl) (e := Extern.AbiNoEscape.same) (by kernel_rfl)]
  rw [Lib.run_noEscape]
  simp only [Result.andThen]
  rw [Oper.upon_value]
  go_wp2
  rw [Lib.run_from_unsafe w ⟨b, 0, none⟩ Tryz.underlying253 Tryz.underlying79 hj hsh liesBld]
  simp only [Result.andThen]
  rw [Oper.upon_value]
  go_wp2
  go_end0
  exact ⟨rfl, rfl⟩

theorem check (B b : Nat) (bs : List Value) (w : World) (h : Lib.IsBuilder 81 5 B b bs w) :
    Calls Tryz.prog 76 #[.pointer (some ⟨b, 0, none⟩)] w fun e w' => e = .returned (.tuple #[]) ∧ (Lib.BuilderAt 81 5 B b (.pointer (some ⟨b, 0, none⟩)) bs w' ∧ Below B w w') := by
  rcases h with h | h
  · refine (check_fresh b w h.cell0 h.shape h.frozen0).mono ?_
    rintro e w' ⟨rfl, rfl⟩
    exact ⟨rfl, h.used _, (Below.refl B w).setCell (p := ⟨b, 0, none⟩) h.1 _⟩
  · refine (check_used b w h.cell0).mono ?_
    rintro e w' ⟨rfl, rfl⟩
    exact ⟨rfl, h, Below.refl B _⟩

set_option maxHeartbeats 2000000 in
set_option maxRecDepth 100000 in
theorem writeByte (B b : Nat) (bs : List Value) (c : Int) (w : World) (h : Lib.IsBuilder 81 5 B b bs w) (hlen : bs.length + 1 ≤ 140737488355328) (hBw : B ≤ w.heap.size) :
    Calls Tryz.prog 33 #[.pointer (some ⟨b, 0, none⟩), .int .u8 c] w fun e w' => e = .returned .nilIface ∧ (Lib.BuilderAt 81 5 B b (.pointer (some ⟨b, 0, none⟩)) (bs ++ [.int .u8 c]) w' ∧ Below B w w') := by
  obtain ⟨i0, hi, hz0, hz1, hz2⟩ := info_parts infoByte
  go_enter Tryz.func33, Tryz.ntmps33
  go_wp2_with (go_at_call 76; refine (check B b bs _ h).mono ?_)
  rintro e w1 ⟨rfl, h1, hb1⟩
  obtain ⟨hB, v, hbk, hown, hne⟩ := h1
  have c0 : w1.cell? ⟨b, 0, none⟩ = some (.pointer (some ⟨b, 0, none⟩)) := by rw [Lib.cell_of_heap hbk]; rfl
  have c1 : w1.cell? ⟨b, 1, none⟩ = some v := by rw [Lib.cell_of_heap hbk]; rfl
  go_wp2_with (at_builtin; refine wpList_append_own _ rfl _ _ 41 rfl B 5 i0 (.int .u8 0) 1 1 Tryz.underlying41 hi hz0 hz1 hz2 rfl (by decide) _ _ _ rfl (hown.alloc _) ⟨w1.heap.size, 0, none⟩ 1 1 [.int .u8 c] rfl rfl ?c1 ?c2 ?c3 ?c4 ?c5 ?_)
  case c1 =>
    intro j u hj
    match j, hj with
    | 0, hj => simp at hj; subst hj; simp [Addr.add]
  case c2 => intro u hu; simp at hu; subst hu; rfl
  case c3 => unfold maxLen; omega
  case c4 => omega
  case c5 => have := hb1.size; simp; omega
  intro v' w2 hown' hgrow _
  have hlt : b < w1.heap.size := by
    rcases Nat.lt_or_ge b w1.heap.size with h' | h'
    · exact h'
    · simp [Array.getElem?_eq_none h'] at hbk
  have hb2 : w2.heap[b]? = some (.cells #[.pointer (some ⟨b, 0, none⟩), v] 81 (0, 0)) := by
    rw [hgrow.block b (by simp; omega) (fun e => hne e.symm), Lib.alloc_old w1 _ b hlt]
    exact hbk
  have d0 : w2.cell? ⟨b, 0, none⟩ = some (.pointer (some ⟨b, 0, none⟩)) := by rw [Lib.cell_of_heap hb2]; rfl
  have d1 : w2.cell? ⟨b, 1, none⟩ = some v := by rw [Lib.cell_of_heap hb2]; rfl
  have f1 : w2.frozen? ⟨b, 1, none⟩ = false := Lib.frozen_of_heap hb2 1
  obtain ⟨g, cap, rfl⟩ : ∃ g cap, v' = .slice (some ⟨g, 0, none⟩) (bs.length + 1) cap := by
    rcases hown'.2 with ⟨_, h0⟩ | ⟨g, cap, cur, hv, _⟩
    · omega
    · exact ⟨g, cap, hv⟩
  go_wp2
  go_ret
  refine ⟨rfl, ?_, ?_⟩
  · exact Lib.BuilderAt.put (T := 81) (e := 5) hB hb2 (bs' := bs ++ [.int .u8 c]) (by simpa using hown') (by decide)
  · exact ((hb1.alloc (by have := hb1.size; omega) _).grown hgrow (by have := hb1.size; simp; omega) (fun k hk => (hown.lt k hk).1)).setCell (p := ⟨b, 1, none⟩) hB _

set_option maxHeartbeats 2000000 in
set_option maxRecDepth 100000 in
theorem writeString (B b : Nat) (bs : List Value) (s : ByteArray) (w : World) (h : Lib.IsBuilder 81 5 B b bs w) (hlen : bs.length + s.size ≤ 140737488355328) (hBw : B ≤ w.heap.size) :
    Calls Tryz.prog 77 #[.pointer (some ⟨b, 0, none⟩), .string s] w fun e w' => e = .returned (.tuple #[.int .i64 s.size, .nilIface]) ∧ (Lib.BuilderAt 81 5 B b (.pointer (some ⟨b, 0, none⟩)) (bs ++ Lib.strCells s) w' ∧ Below B w w') := by
  obtain ⟨i0, hi, hz0, hz1, hz2⟩ := info_parts infoByte
  go_enter Tryz.func77, Tryz.ntmps77
  go_wp2_with (go_at_call 76; refine (check B b bs _ h).mono ?_)
  rintro e w1 ⟨rfl, h1, hb1⟩
  obtain ⟨hB, v, hbk, hown, hne⟩ := h1
  have c0 : w1.cell? ⟨b, 0, none⟩ = some (.pointer (some ⟨b, 0, none⟩)) := by rw [Lib.cell_of_heap hbk]; rfl
  have c1 : w1.cell? ⟨b, 1, none⟩ = some v := by rw [Lib.cell_of_heap hbk]; rfl
  go_wp2_with (at_builtin; refine Lib.wpList_append_own_string _ rfl _ _ 41 9 rfl B 5 i0 Tryz.underlying41 Tryz.underlying9 hi hz0 hz1 hz2 _ _ _ rfl hown s rfl ?c3 ?c4 ?c5 ?_)
  case c3 => unfold maxLen; omega
  case c4 => omega
  case c5 => have := hb1.size; omega
  intro v' w2 hown' hgrow _
  have hlt : b < w1.heap.size := by
    rcases Nat.lt_or_ge b w1.heap.size with h' | h'
    · exact h'
    · simp [Array.getElem?_eq_none h'] at hbk
  have hb2 : w2.heap[b]? = some (.cells #[.pointer (some ⟨b, 0, none⟩), v] 81 (0, 0)) := by
    rw [hgrow.block b hlt (fun e => hne e.symm)]
    exact hbk
  have d0 : w2.cell? ⟨b, 0, none⟩ = some (.pointer (some ⟨b, 0, none⟩)) := by rw [Lib.cell_of_heap hb2]; rfl
  have d1 : w2.cell? ⟨b, 1, none⟩ = some v := by rw [Lib.cell_of_heap hb2]; rfl
  have f1 : w2.frozen? ⟨b, 1, none⟩ = false := Lib.frozen_of_heap hb2 1
  obtain ⟨ao, n', cap, rfl⟩ : ∃ ao n' cap, v' = .slice ao n' cap := by
    rcases hown'.2 with ⟨hv, _⟩ | ⟨g, cap, cur, hv, _⟩
    · exact ⟨_, _, _, hv⟩
    · exact ⟨_, _, _, hv⟩
  go_wp2
  go_ret2
  refine ⟨rfl, ?_, ?_⟩
  · exact Lib.BuilderAt.put (T := 81) (e := 5) hB hb2 (bs' := bs ++ Lib.strCells s) (by simpa [Lib.strCells_length] using hown') (by decide)
  · exact (hb1.grown hgrow (by have := hb1.size; omega) (fun k hk => (hown.lt k hk).1)).setCell (p := ⟨b, 1, none⟩) hB _

open Go.Shelf in

def ren169 : Go.Shelf.Ren := ⟨fun | 169 => 35 | n => n, fun | 70 => 79 | 9 => 9 | 0 => 0 | 72 => 81 | 37 => 41 | 127 => 159 | 3 => 3 | 5 => 5 | n => n, fun | n => n⟩
theorem lays169 : Go.Proofs.Lays.n169 Tryz.prog ren169 := {
  mixed := by kernel_rfl
  f169 := Tryz.func35.trans (congrArg some (by kernel_rfl))
  t0 := Tryz.underlying0
  a0 := Tryz.isAgg0
  z0 := Tryz.sizeOf0
  v0 := Tryz.zeroValue0
  t3 := Tryz.underlying3
  a3 := Tryz.isAgg3
  z3 := Tryz.sizeOf3
  v3 := Tryz.zeroValue3
  t9 := Tryz.underlying9
  a9 := Tryz.isAgg9
  z9 := Tryz.sizeOf9
  v9 := Tryz.zeroValue9
  t37 := Tryz.underlying41
  a37 := Tryz.isAgg41
  z37 := Tryz.sizeOf41
  v37 := Tryz.zeroValue41
  t70 := Tryz.underlying79
  a70 := Tryz.isAgg79
  z70 := Tryz.sizeOf79
  v70 := Tryz.zeroValue79
  t72 := Tryz.underlying81
  a72 := Tryz.isAgg81
  z72 := Tryz.sizeOf81
  v72 := Tryz.zeroValue81
  t127 := Tryz.underlying159
  a127 := Tryz.isAgg159
  z127 := Tryz.sizeOf159
  v127 := Tryz.zeroValue159 }
theorem extra169 : Builder.Extra Tryz.prog ren169 := {
  sizeBuilder := by kernel_rfl
  liesBuilder := by kernel_rfl
  t5 := Tryz.underlying5
  a5 := Tryz.isAgg5
  z5 := Tryz.sizeOf5
  v5 := Tryz.zeroValue5
  infoByte := by kernel_rfl
  cellsByte := by kernel_rfl
  sizeByte := by kernel_rfl
  neB5 := by decide }
theorem bldString (B b : Nat) (l : List UInt8) (w : World) (h : Lib.IsBuilder 81 5 B b (Lib.byteCells l) w) (hBw : B ≤ w.heap.size) :
    Calls Tryz.prog 35 #[.pointer (some ⟨b, 0, none⟩)] w fun e w' => e = .returned (.string ⟨l.toArray⟩) ∧ Below B w w' := Any.Builder_String_any lays169 extra169 B b l w h hBw
end Go.Proofs.YtlfonikfjibloaaGreatDoor

namespace Go.Proofs.YtlfonikfjibloaaGreatDoor
open Go.RowKit

abbrev IsB (B b : Nat) (l : List UInt8) (w : World) : Prop := Lib.IsBuilder 81 5 B b (Lib.byteCells l) w

theorem IsB.byte {B b : Nat} {l : List UInt8} {c : UInt8} {w : World} {n : Int} (hn : n = (c.toNat : Int)) (h : Lib.BuilderAt 81 5 B b (.pointer (some ⟨b, 0, none⟩)) (Lib.byteCells l ++ [.int .u8 n]) w) : IsB B b (l ++ [c]) w := by
  subst hn; exact Or.inr (by rw [Lib.byteCells_append]; exact h)
theorem IsB.str {B b : Nat} {l : List UInt8} {s : ByteArray} {m : List UInt8} {w : World} (hm : m = s.data.toList) (h : Lib.BuilderAt 81 5 B b (.pointer (some ⟨b, 0, none⟩)) (Lib.byteCells l ++ Lib.strCells s) w) : IsB B b (l ++ m) w := by
  subst hm; exact Or.inr (by rw [Lib.byteCells_append]; exact h)

theorem IsB.cells {B b : Nat} {l m : List UInt8} {xs : List Value} {w : World} (hx : xs = Lib.byteCells m) (h : Lib.BuilderAt 81 5 B b (.pointer (some ⟨b, 0, none⟩)) (Lib.byteCells l ++ xs) w) : IsB B b (l ++ m) w := by
  subst hx; exact Or.inr (by rw [Lib.byteCells_append]; exact h)
end Go.Proofs.YtlfonikfjibloaaGreatDoor

namespace Go.Proofs.YtlfonikfjibloaaGreatDoor
open Go.RowKit

set_option maxHeartbeats 1000000 in
set_option maxRecDepth 100000 in
theorem implTok_walk (s : ByteArray) (w : World) (hs : s.size ≤ 1048576) :
    Calls Tryz.prog 213 #[.string s] w fun e w' => e = .returned (tokRes (unesc s.data.toList)) ∧ Below w.heap.size w w' := by
  go_enter Tryz.func213, Tryz.ntmps213
  go_wp2
  go_loopw [5] (fun i wr => ∃ (j : Nat) (acc : List UInt8), j ≤ s.size ∧ i = .int .i64 j ∧ IsB w.heap.size w.heap.size acc wr ∧ Below w.heap.size w wr ∧ (Lib.byteCells acc).length ≤ j ∧ UnAt s.data.toList j acc) (fun i _ => s.size - (intOf i).toNat)
  case atStart => exact ⟨0, [], Nat.zero_le _, rfl, Lib.fresh_isBuilder _ _ w, (Below.refl _ _).alloc (Nat.le_refl _) _, Nat.le_refl _, UnAt.start _⟩
  case round =>
    obtain ⟨j, acc, hj, rfl, hI, hb, hal, hun⟩ := hrel
    have hwsz := hb.size
    have HU := hide hun
    clear hun
    by_cases hjs : j < s.size
    · have hd := drop_at s j hjs
      by_cases h126 : (s[j].toNat : Int) = 126
      · have t1 : ((s[j].toNat : Int) != 126) = false := by simpa using h126
        by_cases h2 : j + 1 < s.size
        · have hd2 := drop_at s (j + 1) h2
          have t0 : ((j : Int) + 1 == (s.size : Int)) = false := by simp; omega
          by_cases h48 : (s[j + 1].toNat : Int) = 48
          · have t2 : ((s[j + 1].toNat : Int) == 48) = true := by simpa using h48
            have HS : Hid (unesc (s.data.toList.drop j) = (unesc (s.data.toList.drop (j + 2))).map ([126] ++ ·)) := by show _ = _; rw [hd, hd2, unesc_0 _ h126 h48]
            clear h126 h48 hd hd2
            go_wp2_with (go_at_call 33; refine (writeByte w.heap.size w.heap.size _ _ _ hI (by omega) hwsz).mono ?_)
            rintro e w2 ⟨rfl, h2, hb2⟩
            have h2' := IsB.byte (c := 126) rfl h2
            clear h2 hI
            go_wp2
            go_roundw
            case rel => exact ⟨j + 2, acc ++ [126], by omega, by go_num, h2', hb.trans hb2, by simp [Lib.byteCells] at hal ⊢; omega, (unhide HU).step (unhide HS)⟩
            case measure => simp [intOf]; omega
          · by_cases h49 : (s[j + 1].toNat : Int) = 49
            · have t2 : ((s[j + 1].toNat : Int) == 48) = false := by simpa using h48
              have t3 : ((s[j + 1].toNat : Int) == 49) = true := by simpa using h49
              have HS : Hid (unesc (s.data.toList.drop j) = (unesc (s.data.toList.drop (j + 2))).map ([47] ++ ·)) := by show _ = _; rw [hd, hd2, unesc_1 _ h126 h49]
              clear h126 h48 h49 hd hd2
              go_wp2_with (go_at_call 33; refine (writeByte w.heap.size w.heap.size _ _ _ hI (by omega) hwsz).mono ?_)
              rintro e w2 ⟨rfl, h2, hb2⟩
              have h2' := IsB.byte (c := 47) rfl h2
              clear h2 hI
              go_wp2
              go_roundw
              case rel => exact ⟨j + 2, acc ++ [47], by omega, by go_num, h2', hb.trans hb2, by simp [Lib.byteCells] at hal ⊢; omega, (unhide HU).step (unhide HS)⟩
              case measure => simp [intOf]; omega
            · have t2 : ((s[j + 1].toNat : Int) == 48) = false := by simpa using h48
              have t3 : ((s[j + 1].toNat : Int) == 49) = false := by simpa using h49
              have HF := hide ((unhide HU).bad (by rw [hd, hd2, unesc_bad _ h126 h48 h49]))
              clear h126 h48 h49 hd hd2 hI
              go_wp2
              go_ret2
              exact ⟨by rw [unhide HF]; rfl, hb⟩
        · have t0 : ((j : Int) + 1 == (s.size : Int)) = true := by simp; omega
          have HF := hide ((unhide HU).bad (by rw [hd, drop_end s (j + 1) h2, unesc_end h126]))
          clear h126 hd hI
          go_wp2
          go_ret2
          exact ⟨by rw [unhide HF]; rfl, hb⟩
      · have t1 : ((s[j].toNat : Int) != 126) = true := by simpa using h126
        have HS : Hid (unesc (s.data.toList.drop j) = (unesc (s.data.toList.drop (j + 1))).map ([s[j]] ++ ·)) := by show _ = _; rw [hd, unesc_lit _ h126]
        clear h126 hd
        go_wp2_with (go_at_call 33; refine (writeByte w.heap.size w.heap.size _ _ _ hI (by omega) hwsz).mono ?_)
        rintro e w2 ⟨rfl, h2, hb2⟩
        have h2' := IsB.byte (c := s[j]) rfl h2
        clear h2 hI
        go_wp2
        go_roundw
        case rel => exact ⟨j + 1, acc ++ [s[j]], by omega, by go_num, h2', hb.trans hb2, by simp [Lib.byteCells] at hal ⊢; omega, (unhide HU).step (unhide HS)⟩
        case measure => simp [intOf]; omega
    · have HF := hide ((unhide HU).fin (by rw [data_len]; omega))
      go_wp2_with (go_at_call 35; refine (bldString w.heap.size w.heap.size acc _ hI hwsz).mono ?_)
      rintro e w2 ⟨rfl, hb2⟩
      clear hI
      go_wp2
      go_ret2
      exact ⟨by rw [unhide HF]; rfl, hb.trans hb2⟩
end Go.Proofs.YtlfonikfjibloaaGreatDoor

namespace Go.Proofs.YtlfonikfjibloaaGreatDoor
open Go.RowKit

def dgM (k : Nat) : UInt8 := UInt8.ofNat (48 + k % 10)
def mkFrom : Nat → Nat → ByteArray → ByteArray
  | 0, _, acc => acc
  | f + 1, k, acc => if k = 0 then acc else mkFrom f (k / 10) (⟨#[dgM k]⟩ ++ acc)
def mkText (k : Nat) : ByteArray := ⟨#[109]⟩ ++ mkFrom k k ByteArray.empty

theorem dg_toNat (k : Nat) : ((dgM k).toNat : Int) = 48 + (k : Int) % 10 := by
  have : (dgM k).toNat = 48 + k % 10 := by unfold dgM; rw [UInt8.toNat_ofNat']; omega
  omega
theorem convert_one (w : World) (x : UInt8) (n : Int) (h : (x.toNat : Int) = n) : (convert 41 9 (.slice (some ⟨w.heap.size, 0, none⟩) 1 1)).run Tryz.prog (w.alloc (.cells #[.int .u8 n] 5)) = .ok (.string ⟨#[x]⟩) (w.alloc (.cells #[.int .u8 n] 5)) := by
  subst h
  exact run_convert_bytes_back (P := Tryz.prog) _ 41 9 5 ⟨w.heap.size, 0, none⟩ 1 [x] Tryz.underlying41 Tryz.underlying5 Tryz.underlying9 (fun j hj => by
    simp at hj; subst hj
    exact lit1 w 5 _ 0 _ rfl)
theorem mk_step (f k : Nat) (acc : ByteArray) (h : 0 < k) : mkFrom (f + 1) k acc = mkFrom f (k / 10) (⟨#[dgM k]⟩ ++ acc) := by
  rw [mkFrom, if_neg (by omega)]
theorem one_size (x : UInt8) : (⟨#[x]⟩ : ByteArray).size = 1 := rfl
theorem app_size (a b : ByteArray) : (a ++ b).size = a.size + b.size := ByteArray.size_append

set_option maxHeartbeats 400000 in
theorem mark_walk (k0 : Nat) (w : World) (h1 : 1 ≤ k0) (h2 : k0 ≤ 1099511627776) :
    Calls Tryz.prog 44 #[.int .i64 k0] w fun e w' => e = .returned (.string (mkText k0)) ∧ Below w.heap.size w w' := by
  go_enter Tryz.func44, Tryz.ntmps44
  go_wp2
  go_loopw [0, 3] (fun i o wr => ∃ (f k : Nat) (acc : ByteArray), k ≤ f ∧ k ≤ k0 ∧ i = .int .i64 k ∧ o = .string acc ∧ acc.size + f ≤ k0 ∧ mkFrom f k acc = mkFrom k0 k0 ByteArray.empty ∧ Below w.heap.size w wr) (fun i _ _ => (intOf i).toNat)
  case atStart => exact ⟨k0, k0, ByteArray.empty, Nat.le_refl _, Nat.le_refl _, rfl, rfl, by show 0 + k0 ≤ k0; omega, rfl, Below.refl _ _⟩
  case round =>
    obtain ⟨f, k, acc, hkf, hk0, rfl, rfl, hac, hmk, hb⟩ := hrel
    have HM := hide hmk
    clear hmk
    by_cases hk : 0 < k
    · have hk' : (0 : Int) < (k : Int) := by omega
      obtain ⟨f, rfl⟩ : ∃ f', f = f' + 1 := ⟨f - 1, by omega⟩
      have hcv := convert_one wr (dgM k) _ (dg_toNat k)
      have hadd := run_string_add_sum (P := Tryz.prog) (wr.alloc (.cells #[.int .u8 (48 + (k : Int) % 10)] 5)) ⟨#[dgM k]⟩ acc (by rw [one_size]; omega)
      have HB := hide (hb.alloc hb.size (.cells #[.int .u8 (48 + (k : Int) % 10)] 5))
      have HS : Hid ((⟨#[dgM k]⟩ ++ acc : ByteArray).size = 1 + acc.size) := app_size _ _
      rw [mk_step f k acc hk] at HM
      clear hb
      generalize (⟨#[dgM k]⟩ ++ acc : ByteArray) = acc2 at *
      go_wp2
      go_roundw
      case rel => exact ⟨f, k / 10, acc2, by omega, by omega, by go_num, rfl, by rw [unhide HS]; omega, unhide HM, unhide HB⟩
      case measure => simp [intOf]; omega
    · have HF : Hid (mkFrom k0 k0 ByteArray.empty = acc) := by
        have e := unhide HM
        have hk' : k = 0 := by omega
        subst hk'
        rw [← e]; cases f with
        | zero => rfl
        | succ f => rfl
      have hadd := run_string_add_sum (P := Tryz.prog) wr ⟨#[109]⟩ acc (by rw [one_size]; omega)
      have HE : Hid (mkText k0 = ⟨#[109]⟩ ++ acc) := by have e := unhide HF; show _ = _; unfold mkText; rw [e]
      clear HF HM
      generalize (⟨#[109]⟩ ++ acc : ByteArray) = acc2 at *
      go_wp2
      go_ret
      exact ⟨by rw [unhide HE]; rfl, hb⟩
end Go.Proofs.YtlfonikfjibloaaGreatDoor

namespace Go.Proofs.YtlfonikfjibloaaGreatDoor
open Go.RowKit

set_option maxHeartbeats 1000000 in
set_option maxRecDepth 100000 in
theorem specText_walk (xa : Option Addr) (xb xo xc : Nat) (ss : List ByteArray) (w : World) (h : SS w xa xb xo ss) (hm : ss.length + tot ss ≤ 1048576) :
    Calls Tryz.prog 109 #[.slice xa ss.length xc] w fun e w' => e = .returned (.string ⟨(ptrText ss).toArray⟩) ∧ Below w.heap.size w w' := by
  obtain ⟨i0, hi, hz0, hz1, hz2⟩ := info_parts infoU8
  have hadr := h.ad
  have HC := hide h.cell
  clear h
  have hlen : ss.length ≤ 1048576 := by omega
  have HM := hide hm
  clear hm
  go_enter Tryz.func109, Tryz.ntmps109
  go_wp2
  go_loopw [3, 4] (fun v i wr => ∃ k : Nat, k ≤ ss.length ∧ i = .int .i64 k ∧ wr.ownsRow w.heap.size 5 1 v (Lib.byteCells (ptrText (ss.take k))).length (Lib.byteCells (ptrText (ss.take k))) ∧ Below w.heap.size w wr) (fun _ i _ => ss.length - (intOf i).toNat)
  case atStart => exact ⟨0, Nat.zero_le _, rfl, World.ownsRow_lit w #[] 0 (Nat.le_refl _) (by unfold maxLen; omega) rfl, (Below.refl _ _).alloc (Nat.le_refl _) _⟩
  case round =>
    obtain ⟨k, hk, rfl, hown, hb⟩ := hrel
    by_cases hlt : k < ss.length
    · have hc0 := unhide HC k hlt
      have hxb : xb < w.heap.size := World.block_lt_of_cell? _ _ hc0
      obtain rfl := hadr (by omega)
      have htk := take_snoc hlt
      have hsz : (ss.getD k ByteArray.empty).size ≤ 1048576 := by have := tot_ge hlt; have := unhide HM; omega
      have hpl : (ptrText (ss.take k)).length + 2 * (ss.getD k ByteArray.empty).size + 1 ≤ 2097152 := by
        have h1 := ptrText_le (ss.take k); have h2 := tot_ge hlt; have h3 := unhide HM
        have h4 : (ss.take k).length = k := by rw [List.length_take]; omega
        omega
      clear hadr
      generalize hs : ss.getD k ByteArray.empty = s at *
      have HTK := hide htk
      have HS := hide hs
      clear htk hs
      have HP : Hid (ptrText (ss.take (k + 1)) = ptrText (ss.take k) ++ 47 :: esc s.data.toList) := by
        have e := unhide HTK; show _ = _; rw [e, ptrText_snoc]
      generalize ptrText (ss.take k) = p at *
      clear HTK
      have HB := hide hb
      have hwsz := hb.size
      clear hb
      have hp1 : (Lib.byteCells p).length = p.length := Lib.byteCells_length p
      have HP1 := hide hp1
      clear hp1
      go_wp2_with (at_builtin; refine wpList_append_own _ rfl (.tmp 13) (.tmp 14) 41 rfl w.heap.size 5 i0 (.int .u8 0) 1 1 Tryz.underlying41 hi hz0 hz1 hz2 rfl (by decide) _ _ _ rfl (hown.alloc _) ⟨wr.heap.size, 0, none⟩ 1 1 [.int .u8 47] rfl rfl (lit1 _ _ _) (one1 _ _) (by rw [unhide HP1]; unfold maxLen; omega) (by rw [unhide HP1]; omega) (by simp; omega) ?_)
      intro v1 w1 hown1 hgrow1 _
      have hb1 : Below w.heap.size w w1 := ((unhide HB).alloc hwsz _).grown hgrow1 (by simp; omega) (fun k hk => (hown.lt k hk).1)
      have hown1' := own_step (m := [47]) hown1 (by simp [Lib.byteCells]) rfl
      clear hown1 hgrow1 hown HB HP1
      go_wp2
      go_loopw [3, 5] (fun v i wr => ∃ j : Nat, j ≤ s.size ∧ i = .int .i64 j ∧ wr.ownsRow w.heap.size 5 1 v (Lib.byteCells (p ++ 47 :: esc (s.data.toList.take j))).length (Lib.byteCells (p ++ 47 :: esc (s.data.toList.take j))) ∧ Below w.heap.size w wr) (fun _ i _ => s.size - (intOf i).toNat)
      case atStart => exact ⟨0, Nat.zero_le _, rfl, by simpa [esc] using hown1', hb1⟩
      case round =>
        obtain ⟨j, hj, rfl, hown, hb⟩ := hrel
        have hc : wr.cell? ⟨xb, xo + k, none⟩ = some (.string s) := (hb.cell (p := ⟨xb, xo + k, none⟩) hxb).trans hc0
        have hwsz := hb.size
        by_cases hjs : j < s.size
        · have hq : (Lib.byteCells (p ++ 47 :: esc (s.data.toList.take j))).length ≤ p.length + 1 + 2 * j := by
            have := esc_le (s.data.toList.take j)
            have h5 : (s.data.toList.take j).length = j := by rw [List.length_take, data_len]; omega
            rw [Lib.byteCells_length, List.length_append, List.length_cons]; omega
          have HQ : Hid (p ++ 47 :: esc (s.data.toList.take (j + 1)) = (p ++ 47 :: esc (s.data.toList.take j)) ++ escB s[j]) := by
            show _ = _
            rw [bytes_snoc s j hjs, esc_snoc]; simp
          generalize p ++ 47 :: esc (s.data.toList.take j) = q at *
          have HB := hide hb
          clear hb hown1' hb1
          by_cases h126 : (s[j].toNat : Int) = 126
          · have t1 : ((s[j].toNat : Int) == 126) = true := by simpa using h126
            have HE := hide (escB_126 h126)
            clear h126
            go_wp2_with (at_builtin; refine wpList_append_own _ rfl (.tmp 32) (.tmp 33) 41 rfl w.heap.size 5 i0 (.int .u8 0) 1 1 Tryz.underlying41 hi hz0 hz1 hz2 rfl (by decide) _ _ _ rfl (hown.alloc _) ⟨wr.heap.size, 0, none⟩ 2 2 [.int .u8 126, .int .u8 48] rfl rfl (lit2 _ _ _ _ ) (one2 _ _ _ ) (by unfold maxLen; omega) (by omega) (by simp; omega) ?_)
            intro v2 w2 hown2 hgrow2 _
            have hb2 : Below w.heap.size w w2 := ((unhide HB).alloc hwsz _).grown hgrow2 (by simp; omega) (fun k hk => (hown.lt k hk).1)
            have hown2' := own_step (m := [126, 48]) hown2 (by simp [Lib.byteCells]) rfl
            clear hown2 hgrow2 hown HB hq
            go_wp2
            go_roundw
            case rel => exact ⟨j + 1, by omega, by go_num, by rw [unhide HQ, unhide HE]; exact hown2', hb2⟩
            case measure => simp [intOf]; omega
          · have t1 : ((s[j].toNat : Int) == 126) = false := by simpa using h126
            by_cases h47 : (s[j].toNat : Int) = 47
            · have t2 : ((s[j].toNat : Int) == 47) = true := by simpa using h47
              have HE := hide (escB_47 h47)
              clear h126 h47
              go_wp2_with (at_builtin; refine wpList_append_own _ rfl (.tmp 42) (.tmp 43) 41 rfl w.heap.size 5 i0 (.int .u8 0) 1 1 Tryz.underlying41 hi hz0 hz1 hz2 rfl (by decide) _ _ _ rfl (hown.alloc _) ⟨wr.heap.size, 0, none⟩ 2 2 [.int .u8 126, .int .u8 49] rfl rfl (lit2 _ _ _ _ ) (one2 _ _ _ ) (by unfold maxLen; omega) (by omega) (by simp; omega) ?_)
              intro v2 w2 hown2 hgrow2 _
              have hb2 : Below w.heap.size w w2 := ((unhide HB).alloc hwsz _).grown hgrow2 (by simp; omega) (fun k hk => (hown.lt k hk).1)
              have hown2' := own_step (m := [126, 49]) hown2 (by simp [Lib.byteCells]) rfl
              clear hown2 hgrow2 hown HB hq
              go_wp2
              go_roundw
              case rel => exact ⟨j + 1, by omega, by go_num, by rw [unhide HQ, unhide HE]; exact hown2', hb2⟩
              case measure => simp [intOf]; omega
            · have t2 : ((s[j].toNat : Int) == 47) = false := by simpa using h47
              have HE := hide (escB_other h126 h47)
              clear h126 h47
              go_wp2_with (at_builtin; refine wpList_append_own _ rfl (.tmp 45) (.tmp 52) 41 rfl w.heap.size 5 i0 (.int .u8 0) 1 1 Tryz.underlying41 hi hz0 hz1 hz2 rfl (by decide) _ _ _ rfl (hown.alloc _) ⟨wr.heap.size, 0, none⟩ 1 1 [.int .u8 s[j].toNat] rfl rfl (lit1 _ _ _ ) (one1 _ _ ) (by unfold maxLen; omega) (by omega) (by simp; omega) ?_)
              intro v2 w2 hown2 hgrow2 _
              have hb2 : Below w.heap.size w w2 := ((unhide HB).alloc hwsz _).grown hgrow2 (by simp; omega) (fun k hk => (hown.lt k hk).1)
              have hown2' := own_step (m := [s[j]]) hown2 (by simp [Lib.byteCells]) rfl
              clear hown2 hgrow2 hown HB hq
              go_wp2
              go_roundw
              case rel => exact ⟨j + 1, by omega, by go_num, by rw [unhide HQ, unhide HE]; exact hown2', hb2⟩
              case measure => simp [intOf]; omega
        · have hje : j = s.size := by omega
          subst hje
          rw [bytes_all] at hown
          clear hown1' hb1
          go_wp2
          go_roundw
          case rel => exact ⟨k + 1, by omega, by go_num, by rw [unhide HP]; exact hown, hb⟩
          case measure => simp [intOf]; omega
    · have e : ss.take k = ss := List.take_of_length_le (by omega)
      rw [e] at hown
      clear hadr
      have hl := Lib.byteCells_length (ptrText ss)
      rcases hown.2 with ⟨hv, h0⟩ | ⟨g, cap, cur, hv, _⟩
      · have e0 : ptrText ss = [] := List.eq_nil_of_length_eq_zero (by omega)
        subst hv
        have hcv := run_convert_bytes_nil (P := Tryz.prog) wr 41 5 Tryz.underlying41 Tryz.underlying5 0 0 9 Tryz.underlying9
        have HE0 := hide e0
        clear e0 h0 hown hl
        go_wp2
        go_ret
        exact ⟨by rw [unhide HE0]; rfl, hb⟩
      · subst hv
        rw [hl] at hown ⊢
        have hcv := run_convert_bytes_back (P := Tryz.prog) wr 41 9 5 ⟨g, 0, none⟩ cap (ptrText ss) Tryz.underlying41 Tryz.underlying5 Tryz.underlying9 (fun j hj => by
          rw [show ((⟨g, 0, none⟩ : Addr).add j) = ⟨g, j, none⟩ from by simp [Addr.add]; omega, hown.cellAt j (by omega)]; exact byteCells_at hj)
        go_wp2
        go_ret
        exact ⟨rfl, hb⟩
end Go.Proofs.YtlfonikfjibloaaGreatDoor

namespace Go.Proofs.YtlfonikfjibloaaGreatDoor
open Go.RowKit

end Go.Proofs.YtlfonikfjibloaaGreatDoor

namespace Go.Proofs.YtlfonikfjibloaaGreatDoor
open Go.RowKit

theorem infoStr : (Tryz.prog.info? 9).map (fun i => (i.zero, i.size, i.bytes)) = some (some (.string ByteArray.empty), 1, 16) := by kernel_rfl

end Go.Proofs.YtlfonikfjibloaaGreatDoor
