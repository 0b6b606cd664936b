import Derived.Test.YtcjajchfjoffnaaGreatDoorBst1
import Derived.Shelf.Unicode.DecodeSlow
namespace Go.Proofs.YtcjajchfjoffnaaGreatDoor
open Go.RowKit

abbrev IsB (B b : Nat) (l : List UInt8) (w : World) : Prop := Lib.IsBuilder 159 5 B b (Lib.byteCells l) w

theorem IsB.byte {B b : Nat} {l : List UInt8} {c : UInt8} {w : World} {n : Int} (hn : n = (c.toNat : Int)) (h : Lib.BuilderAt 159 5 B b (.pointer (some ⟨b, 0, none⟩)) (Lib.byteCells l ++ [.int .u8 n]) w) : IsB B b (l ++ [c]) w := by
  subst hn; exact Or.inr (by rw [Lib.byteCells_append]; exact h)
theorem IsB.str {B b : Nat} {l : List UInt8} {s : ByteArray} {m : List UInt8} {w : World} (hm : m = s.data.toList) (h : Lib.BuilderAt 159 5 B b (.pointer (some ⟨b, 0, none⟩)) (Lib.byteCells l ++ Lib.strCells s) w) : IsB B b (l ++ m) w := by
  subst hm; exact Or.inr (by rw [Lib.byteCells_append]; exact h)

theorem IsB.cells {B b : Nat} {l m : List UInt8} {xs : List Value} {w : World} (hx : xs = Lib.byteCells m) (h : Lib.BuilderAt 159 5 B b (.pointer (some ⟨b, 0, none⟩)) (Lib.byteCells l ++ xs) w) : IsB B b (l ++ m) w := by
  subst hx; exact Or.inr (by rw [Lib.byteCells_append]; exact h)
end Go.Proofs.YtcjajchfjoffnaaGreatDoor

namespace Go.Proofs.YtcjajchfjoffnaaGreatDoor
open Go.RowKit

set_option maxHeartbeats 1000000 in
set_option maxRecDepth 100000 in
theorem implTok_walk (s : ByteArray) (w : World) (hs : s.size ≤ 1048576) :
    Calls Tryz.prog 135 #[.string s] w fun e w' => e = .returned (tokRes (unesc s.data.toList)) ∧ Below w.heap.size w w' := by
  go_enter Tryz.func135, Tryz.ntmps135
  go_wp2
  go_loopw [5] (fun i wr => ∃ (j : Nat) (acc : List UInt8), j ≤ s.size ∧ i = .int .i64 j ∧ IsB w.heap.size w.heap.size acc wr ∧ Below w.heap.size w wr ∧ (Lib.byteCells acc).length ≤ j ∧ UnAt s.data.toList j acc) (fun i _ => s.size - (intOf i).toNat)
  case atStart => exact ⟨0, [], Nat.zero_le _, rfl, Lib.fresh_isBuilder _ _ w, (Below.refl _ _).alloc (Nat.le_refl _) _, Nat.le_refl _, UnAt.start _⟩
  case round =>
    obtain ⟨j, acc, hj, rfl, hI, hb, hal, hun⟩ := hrel
    have hwsz := hb.size
    have HU := hide hun
    clear hun
    by_cases hjs : j < s.size
    · have hd := drop_at s j hjs
      by_cases h126 : (s[j].toNat : Int) = 126
      · have t1 : ((s[j].toNat : Int) != 126) = false := by simpa using h126
        by_cases h2 : j + 1 < s.size
        · have hd2 := drop_at s (j + 1) h2
          have t0 : ((j : Int) + 1 == (s.size : Int)) = false := by simp; omega
          by_cases h48 : (s[j + 1].toNat : Int) = 48
          · have t2 : ((s[j + 1].toNat : Int) == 48) = true := by simpa using h48
            have HS : Hid (unesc (s.data.toList.drop j) = (unesc (s.data.toList.drop (j + 2))).map ([126] ++ ·)) := by show _ = _; rw [hd, hd2, unesc_0 _ h126 h48]
            clear h126 h48 hd hd2
            go_wp2_with (go_at_call 155; refine (writeByte w.heap.size w.heap.size _ _ _ hI (by omega) hwsz).mono ?_)
            rintro e w2 ⟨rfl, h2, hb2⟩
            have h2' := IsB.byte (c := 126) rfl h2
            clear h2 hI
            go_wp2
            go_roundw
            case rel => exact ⟨j + 2, acc ++ [126], by omega, by go_num, h2', hb.trans hb2, by simp [Lib.byteCells] at hal ⊢; omega, (unhide HU).step (unhide HS)⟩
            case measure => simp [intOf]; omega
          · by_cases h49 : (s[j + 1].toNat : Int) = 49
            · have t2 : ((s[j + 1].toNat : Int) == 48) = false := by simpa using h48
              have t3 : ((s[j + 1].toNat : Int) == 49) = true := by simpa using h49
              have HS : Hid (unesc (s.data.toList.drop j) = (unesc (s.data.toList.drop (j + 2))).map ([47] ++ ·)) := by show _ = _; rw [hd, hd2, unesc_1 _ h126 h49]
              clear h126 h48 h49 hd hd2
              go_wp2_with (go_at_call 155; refine (writeByte w.heap.size w.heap.size _ _ _ hI (by omega) hwsz).mono ?_)
              rintro e w2 ⟨rfl, h2, hb2⟩
              have h2' := IsB.byte (c := 47) rfl h2
              clear h2 hI
              go_wp2
              go_roundw
              case rel => exact ⟨j + 2, acc ++ [47], by omega, by go_num, h2', hb.trans hb2, by simp [Lib.byteCells] at hal ⊢; omega, (unhide HU).step (unhide HS)⟩
              case measure => simp [intOf]; omega
            · have t2 : ((s[j + 1].toNat : Int) == 48) = false := by simpa using h48
              have t3 : ((s[j + 1].toNat : Int) == 49) = false := by simpa using h49
              have HF := hide ((unhide HU).bad (by rw [hd, hd2, unesc_bad _ h126 h48 h49]))
              clear h126 h48 h49 hd hd2 hI
              go_wp2
              go_ret2
              exact ⟨by rw [unhide HF]; rfl, hb⟩
        · have t0 : ((j : Int) + 1 == (s.size : Int)) = true := by simp; omega
          have HF := hide ((unhide HU).bad (by rw [hd, drop_end s (j + 1) h2, unesc_end h126]))
          clear h126 hd hI
          go_wp2
          go_ret2
          exact ⟨by rw [unhide HF]; rfl, hb⟩
      · have t1 : ((s[j].toNat : Int) != 126) = true := by simpa using h126
        have HS : Hid (unesc (s.data.toList.drop j) = (unesc (s.data.toList.drop (j + 1))).map ([s[j]] ++ ·)) := by show _ = _; rw [hd, unesc_lit _ h126]
        clear h126 hd
        go_wp2_with (go_at_call 155; refine (writeByte w.heap.size w.heap.size _ _ _ hI (by omega) hwsz).mono ?_)
        rintro e w2 ⟨rfl, h2, hb2⟩
        have h2' := IsB.byte (c := s[j]) rfl h2
        clear h2 hI
        go_wp2
        go_roundw
        case rel => exact ⟨j + 1, acc ++ [s[j]], by omega, by go_num, h2', hb.trans hb2, by simp [Lib.byteCells] at hal ⊢; omega, (unhide HU).step (unhide HS)⟩
        case measure => simp [intOf]; omega
    · have HF := hide ((unhide HU).fin (by rw [data_len]; omega))
      go_wp2_with (go_at_call 95; refine (bldString w.heap.size w.heap.size acc _ hI hwsz).mono ?_)
      rintro e w2 ⟨rfl, hb2⟩
      clear hI
      go_wp2
      go_ret2
      exact ⟨by rw [unhide HF]; rfl, hb.trans hb2⟩
end Go.Proofs.YtcjajchfjoffnaaGreatDoor

namespace Go.Proofs.YtcjajchfjoffnaaGreatDoor
open Go.RowKit

/-- The two tables of unicode/utf8. -/
def Tabs (w : World) : Prop := Lib.Utf8Tabs 0 1 w
theorem Tabs.below {w w' : World} (h : Tabs w) (hb : Below w.heap.size w w') : Tabs w' := by
  refine ⟨fun c hc => ?_, fun i hi => ?_⟩
  · have := h.1 c hc
    exact (hb.cell (World.block_lt_of_cell? _ _ this)).trans this
  · have h2 := h.2 i hi
    exact ⟨(hb.cell (World.block_lt_of_cell? _ _ h2.1)).trans h2.1, (hb.cell (World.block_lt_of_cell? _ _ h2.2)).trans h2.2⟩
/-- The tables, below block B. -/
def TabsB (B : Nat) (w : World) : Prop := ∃ w0 : World, w0.heap.size ≤ B ∧ Tabs w0 ∧ Below w0.heap.size w0 w
theorem TabsB.of {w : World} (h : Tabs w) : TabsB w.heap.size w := ⟨w, Nat.le_refl _, h, Below.refl _ _⟩
theorem TabsB.tabs {B : Nat} {w : World} (h : TabsB B w) : Tabs w := by
  obtain ⟨w0, _, t, b⟩ := h
  exact t.below b
theorem TabsB.next {B B' : Nat} {w w' : World} (h : TabsB B w) (hb : Below B' w w') (hB : B ≤ B') : TabsB B w' := by
  obtain ⟨w0, h0, t, b⟩ := h
  exact ⟨w0, h0, t, b.trans (hb.mono (by omega))⟩
end Go.Proofs.YtcjajchfjoffnaaGreatDoor
