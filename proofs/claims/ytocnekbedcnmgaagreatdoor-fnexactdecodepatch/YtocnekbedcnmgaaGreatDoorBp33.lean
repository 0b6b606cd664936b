import Derived.Test.YtocnekbedcnmgaaGreatDoorBp28
import Derived.Test.YtocnekbedcnmgaaGreatDoorBp32
import Derived.Test.YtocnekbedcnmgaaGreatDoorBp3
namespace Go.Proofs.YtocnekbedcnmgaaGreatDoor
open Go.RowKit

/-- A member from place i on: key, value, and the place behind it and its blanks. -/
def memR (s : ByteArray) (i : Nat) : Option ((List UInt8 × JV) × Nat) := (strQ s (sk s i)).bind fun k => if bt s (sk s k.2) = 58 then (val s (sk s (sk s k.2 + 1))).map fun q => ((k.1, q.1), sk s q.2) else none
/-- A member read into a map. -/
def MPost (rb b : Nat) (s : ByteArray) (tb kt : Bool) (xs : List (List UInt8 × Value)) (nn : Nat) (w : World) (o : Option ((List UInt8 × JV) × Nat)) (e : Ending) (w' : World) : Prop :=
  KB2 rb b w w' ∧ o.elim (e = mis) fun q => ∃ (t : TypeId) (p : Value), e = .returned (.tuple #[]) ∧ Rdr rb s q.2 (tb || bigV q.1.2) ((kt || twV q.1.2) || (xs.map (·.1)).contains q.1.1) w' ∧
    w'.ownsMap Tryz.prog 9 RH b (nn + 1) (putAll (xs ++ [(q.1.1, .iface t p)])) ∧ (bigV q.1.2 = false → twV q.1.2 = false → Rep w' (fun k => w.heap.size ≤ k ∧ k < w'.heap.size) q.1.2 (.iface t p))
theorem Rdr.setTwice {rb : Nat} {s : ByteArray} {i : Nat} {tb kt : Bool} {w : World} (h : Rdr rb s i tb kt w) : Rdr rb s i tb true (w.setCell ⟨rb, 3, none⟩ (.bool true)) := heap_setCell_same w rb 3 _ 134 (.bool true) h
theorem Rdr.twicec {rb : Nat} {s : ByteArray} {i : Nat} {tb kt : Bool} {w : World} (h : Rdr rb s i tb kt w) : w.cell? ⟨rb, 3, none⟩ = some (.bool kt) := by rw [Lib.cell_of_heap h]; rfl

theorem KB2.grown {rb sc : Nat} {a w w' : World} (h : KB2 rb sc a w) (g : w.grownBy w' (some sc)) : KB2 rb sc a w' :=
  ⟨g.os.trans h.os, g.tape.trans h.tape, g.output.trans h.output, Nat.le_trans h.size g.size, fun i hi h1 h2 => (g.block i (Nat.lt_of_lt_of_le hi h.size) (by intro e; injection e with e; exact h2 e)).trans (h.block i hi h1 h2)⟩
theorem key_of (key : List UInt8) (hk : key.length ≤ 1048576) : keyOf Tryz.prog 9 (.string (strOf key)) = some (.string key) := by
  have := WideMaps.keyOf_string_mk Tryz.underlying9 (s := strOf key) (by rw [strOf_size]; unfold maxLen; omega)
  rwa [strOf_toList] at this

set_option maxRecDepth 100000 in
set_option maxHeartbeats 4000000 in
theorem readMember_walk (rb : Nat) (s : ByteArray) (i : Nat) (tb kt : Bool) (w : World) (h : Rdr rb s i tb kt w) (hs : s.size ≤ 100000) (hi : i ≤ s.size) (B : Nat) (hT : TabsB B w) (hB : B ≤ rb)
    (b nn : Nat) (xs : List (List UInt8 × Value)) (hm : w.ownsMap Tryz.prog 9 RH b nn (putAll xs)) (hbr : rb < b) (hnn : nn ≤ 1048576)
    (HV : ∀ (j : Nat) (w1 : World), i < j → j ≤ s.size → Rdr rb s j tb kt w1 → KB rb w w1 → Calls Tryz.prog 85 #[.pointer (some ⟨rb, 0, none⟩)] w1 (VPost rb s tb kt w1 ((val s (sk s j)).map fun q => (q.1, sk s q.2)))) :
    Calls Tryz.prog 197 #[.pointer (some ⟨rb, 0, none⟩), .map (some b)] w (MPost rb b s tb kt xs nn w (memR s i)) := by
  have hlt := h.lt
  have hbl := hm.lt
  have HSK := hide (skipBlanks_walk rb s i tb kt w h (by omega) hi)
  have HT := hide hT
  have HM := hide hm
  have HHV := hide HV
  have k0 := sk_ge s i
  have k1' := (sk_le hi).2
  have HMR : Hid (memR s i = (strQ s (sk s i)).bind fun k => if bt s (sk s k.2) = 58 then (val s (sk s (sk s k.2 + 1))).map fun q => ((k.1, q.1), sk s q.2) else none) := rfl
  clear h hT hm HV
  go_enter Tryz.func197, Tryz.ntmps197
  go_wp2_with fail
  refine (unhide HSK).mono ?_
  rintro e w1 ⟨rfl, r1, k1⟩
  have HRS := hide (readString_walk rb s (sk s i) tb kt w1 r1 (by omega) k1' B ((unhide HT).next (k1.below hB (by omega)) (Nat.le_refl _)) hB)
  clear HSK r1
  cases hq : strQ s (sk s i) with
  | none =>
    rw [hq] at HRS
    have HN : Hid (memR s i = none) := by show _ = _; rw [unhide HMR, hq]; rfl
    clear hq
    go_wp2_with fail
    refine (unhide HRS).mono ?_
    rintro e w2 ⟨k2, rfl⟩
    exact ⟨rfl, (k1.trans k2).two b, by rw [unhide HN]; rfl⟩
  | some q =>
    obtain ⟨key, a⟩ := q
    have hqo := strQ_ok hq
    have hql := strQ_len hq
    have HN0 : Hid (memR s i = if bt s (sk s a) = 58 then (val s (sk s (sk s a + 1))).map fun q => ((key, q.1), sk s q.2) else none) := by show _ = _; rw [unhide HMR, hq]; rfl
    rw [hq] at HRS
    clear hq HMR
    go_wp2_with fail
    refine (unhide HRS).mono ?_
    rintro e w2 ⟨k2, rfl, r2⟩
    have HS2 := hide (skipBlanks_walk rb s a tb kt w2 r2 (by omega) hqo.2)
    have K2 := hide (k1.trans k2)
    have ka0 := sk_ge s a
    have ka1 := (sk_le hqo.2).2
    clear HRS r2 k1 k2
    go_wp2_with fail
    refine (unhide HS2).mono ?_
    rintro e w3 ⟨rfl, r3, k3⟩
    have K3 := hide ((unhide K2).trans k3)
    have R3 := hide r3
    clear HS2 r3 k3 K2
    generalize sk s a = ka at *
    by_cases h58 : bt s ka = 58
    · have hkl : ka < s.size := bt_in (by omega)
      have HEX := hide (expect_yes rb s ka tb kt w3 (unhide R3) (by omega) 58 h58 hkl)
      rw [if_pos h58] at HN0
      clear h58
      go_wp2_with fail
      refine (unhide HEX).mono ?_
      rintro e w4 ⟨rfl, r4, k4⟩
      have K4 := hide ((unhide K3).trans k4)
      have HC := hide (unhide HHV (ka + 1) w4 (by omega) (by omega) r4 (unhide K4))
      clear HEX r4 k4 K3 R3
      cases hv : val s (sk s (ka + 1)) with
      | none =>
        rw [hv] at HC
        have HN : Hid (memR s i = none) := by show _ = _; rw [unhide HN0, hv]; rfl
        clear hv
        go_wp2_with fail
        refine (unhide HC).mono ?_
        rintro e w5 ⟨k5, rfl⟩
        exact ⟨rfl, ((unhide K4).trans k5).two b, by rw [unhide HN]; rfl⟩
      | some q =>
        obtain ⟨v, n⟩ := q
        rw [hv] at HC
        have HN : Hid (memR s i = some ((key, v), sk s n)) := by show _ = _; rw [unhide HN0, hv]; rfl
        clear hv HN0
        go_wp2_with fail
        refine (unhide HC).mono ?_
        rintro e w5 ⟨k5, t, p, rfl, r5, hrep⟩
        have K5 := hide ((unhide K4).trans k5)
        have hs4 := (unhide K4).size
        have hs5 := k5.size
        have M5 := hide (ownsMap_keep (unhide HM) ((unhide K5).block b hbl (by omega)))
        obtain ⟨v0, hlk, _⟩ := map_look (unhide M5) key (by omega)
        have HREP := hide hrep
        have R5 := hide r5
        have c3 := r5.twicec
        have f3 := r5.fz 3
        have HH := hide (lastV_has key xs)
        clear HC r5 hrep K4 HM
        have HKEY := hide (key_of key (by omega))
        cases hl : (lastV xs key).isSome with
        | true =>
          rw [hl] at hlk
          have M6 := hide (ownsMap_keep (w' := w5.setCell ⟨rb, 3, none⟩ (.bool true)) (unhide M5) (Below.heap_setCell w5 ⟨rb, 3, none⟩ (.bool true) b (by show b ≠ rb; omega)))
          have R6 := hide (unhide R5).setTwice
          go_wp2_with (refine wpList_mapUpdate_own _ rfl (.tmp 30) (.tmp 31) (.tmp 32) 180 rfl 9 65 (Maps.string_keyed Tryz.underlying9) Tryz.underlying180 RH b nn (putAll xs) rfl (unhide M6) (by unfold maxLen; omega) _ _ (.string key) rfl rfl (unhide HKEY) (.held (.iface t p)) [] rfl ?_; intro w7 m7 g7)
          have hg7 := g7.size
          have R7 : Rdr rb s (sk s n) (tb || bigV v) ((kt || twV v) || (xs.map (·.1)).contains key) w7 := by
            rw [← unhide HH, hl]
            refine (g7.block rb ?_ (by intro e; injection e with e; omega)).trans ?_
            · show rb < (w5.setCell _ _).heap.size; simp [World.setCell]; omega
            · rw [Bool.or_true]; exact unhide R6
          have Q7 : bigV v = false → twV v = false → Rep w7 (fun k => w.heap.size ≤ k ∧ k < w7.heap.size) v (.iface t p) := fun a b' => by
            refine Rep.keep (w := w5) (S := fun k => w4.heap.size ≤ k ∧ k < w5.heap.size) (fun k hk => ?_) (fun k hk => ?_) v _ (unhide HREP a b')
            · exact (g7.block k (by simp [World.setCell]; omega) (by intro e; injection e with e; omega)).trans (Below.heap_setCell w5 ⟨rb, 3, none⟩ (.bool true) k (by show k ≠ rb; omega))
            · have h9 : (w5.setCell ⟨rb, 3, none⟩ (.bool true)).heap.size = w5.heap.size := by simp [World.setCell]
              exact ⟨by omega, by omega⟩
          rw [← putAll_snoc] at m7
          have M7 := hide m7
          have K7 := hide ((((unhide K5).set 3 (.bool true)).two b).grown g7)
          clear m7 g7
          go_end0
          refine ⟨unhide K7, ?_⟩
          rw [unhide HN]
          exact ⟨t, p, rfl, R7, unhide M7, Q7⟩
        | false =>
          rw [hl] at hlk
          go_wp2_with (refine wpList_mapUpdate_own _ rfl (.tmp 30) (.tmp 31) (.tmp 32) 180 rfl 9 65 (Maps.string_keyed Tryz.underlying9) Tryz.underlying180 RH b nn (putAll xs) rfl (unhide M5) (by unfold maxLen; omega) _ _ (.string key) rfl rfl (unhide HKEY) (.held (.iface t p)) [] rfl ?_; intro w7 m7 g7)
          have hg7 := g7.size
          have R7 : Rdr rb s (sk s n) (tb || bigV v) ((kt || twV v) || (xs.map (·.1)).contains key) w7 := by
            rw [← unhide HH, hl]
            refine (g7.block rb ?_ (by intro e; injection e with e; omega)).trans ?_
            · show rb < w5.heap.size; omega
            · rw [Bool.or_false]; exact unhide R5
          have Q7 : bigV v = false → twV v = false → Rep w7 (fun k => w.heap.size ≤ k ∧ k < w7.heap.size) v (.iface t p) := fun a b' => by
            refine Rep.keep (w := w5) (S := fun k => w4.heap.size ≤ k ∧ k < w5.heap.size) (fun k hk => ?_) (fun k hk => ?_) v _ (unhide HREP a b')
            · exact g7.block k (by omega) (by intro e; injection e with e; omega)
            · have h9 : True := trivial
              exact ⟨by omega, by omega⟩
          rw [← putAll_snoc] at m7
          have M7 := hide m7
          have K7 := hide (((unhide K5).two b).grown g7)
          clear m7 g7
          go_end0
          refine ⟨unhide K7, ?_⟩
          rw [unhide HN]
          exact ⟨t, p, rfl, R7, unhide M7, Q7⟩
    · have HEX := hide (expect_no rb s ka tb kt w3 (unhide R3) (by omega) ka1 58 (.inl h58))
      have HN : Hid (memR s i = none) := by show _ = _; rw [unhide HN0, if_neg h58]
      clear h58
      go_wp2_with fail
      refine (unhide HEX).mono ?_
      rintro e w4 ⟨rfl, k4⟩
      exact ⟨rfl, ((unhide K3).trans k4).two b, by rw [unhide HN]; rfl⟩
end Go.Proofs.YtocnekbedcnmgaaGreatDoor

