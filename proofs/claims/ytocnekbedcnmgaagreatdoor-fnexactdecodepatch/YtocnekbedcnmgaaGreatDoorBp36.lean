import Derived.Deep.LoopGhost
import Derived.Carry
import Derived.Test.YtocnekbedcnmgaaGreatDoorBp35
import Derived.Test.YtocnekbedcnmgaaGreatDoorBp34
namespace Go.Proofs.YtocnekbedcnmgaaGreatDoor
open Go.RowKit

theorem KB2.off {rb b : Nat} {w W0 w7 : World} (k7 : KB2 rb b W0 w7) (k : KB rb w W0) (hb : w.heap.size ≤ b) : KB rb w w7 :=
  ⟨k7.os.trans k.os, k7.tape.trans k.tape, k7.output.trans k.output, Nat.le_trans k.size k7.size, fun g hg hn => (k7.block g (Nat.lt_of_lt_of_le hg k.size) hn (by omega)).trans (k.block g hg hn)⟩

set_option maxRecDepth 100000 in
set_option maxHeartbeats 4000000 in
theorem readObject_walk (rb : Nat) (s : ByteArray) (i : Nat) (tb kt : Bool) (w : World) (h : Rdr rb s i tb kt w) (hs : s.size ≤ 100000) (h123 : bt s i = 123) (B : Nat) (hT : TabsB B w) (hB : B ≤ rb)
    (HV : ∀ (j : Nat) (tb' kt' : Bool) (w1 : World), i < j → j ≤ s.size → Rdr rb s j tb' kt' w1 → KB rb w w1 → Calls Tryz.prog 85 #[.pointer (some ⟨rb, 0, none⟩)] w1 (VPost rb s tb' kt' w1 ((val s (sk s j)).map fun q => (q.1, sk s q.2)))) :
    Calls Tryz.prog 169 #[.pointer (some ⟨rb, 0, none⟩)] w (VPost rb s tb kt w (val s i)) := by
  have hlt := h.lt
  have hi : i < s.size := bt_in (by omega)
  have HVV := hide (val_obj h123)
  have HHV := hide HV
  have HT := hide hT
  have k00 := sk_ge s (i + 1)
  have k01 := (sk_le (s := s) (i := i + 1) (by omega)).2
  have k02 := hide (sk_idem s (i + 1))
  have rA : Rdr rb s i tb kt ((w.alloc (.map #[] 0)).alloc (objB w.heap.size)) := (h.below (al_below w (.map #[] 0))).below (al_below (w.alloc (.map #[] 0)) (objB w.heap.size))
  have kA : KB rb w ((w.alloc (.map #[] 0)).alloc (objB w.heap.size)) := (KB.of_below (rb := rb) (al_below w (.map #[] 0))).trans (KB.of_below (rb := rb) (al_below (w.alloc (.map #[] 0)) (objB w.heap.size)))
  have hsA : ((w.alloc (.map #[] 0)).alloc (objB w.heap.size)).heap.size = w.heap.size + 2 := by simp
  have O0 : Hid (OSt rb s tb kt w (w.heap.size + 1) w.heap.size (w.heap.size + 2) i .nil [] ((w.alloc (.map #[] 0)).alloc (objB w.heap.size))) := by
    refine ⟨by simp only [bigM, twM, Bool.or_false]; exact rA, ?_, (World.ownsMap_made w Tryz.prog 9 RH).alloc _, kA, rfl, by omega, fun _ _ => by rw [RepM]⟩
    have := heap_alloc_new (w.alloc (.map #[] 0)) (objB w.heap.size)
    simpa using this
  have HEX := hide (expect_yes rb s i tb kt _ rA (by omega) 123 h123 hi)
  clear h HV h123 hT rA kA hsA
  have hmm := run_makeMap (P := Tryz.prog) 180 w
  generalize hk0 : sk s (i + 1) = k0 at *
  have HK0 := hide hk0
  clear hk0
  go_enter Tryz.func169, Tryz.ntmps169
  go_wp2_with fail
  clear hmm
  refine (unhide HEX).mono ?_
  rintro e w1 ⟨rfl, r1, k1⟩
  have HSK := hide (skipBlanks_walk rb s (i + 1) tb kt w1 r1 (by omega) (by omega))
  have O1 := hide ((unhide O0).next hlt (by omega) (by omega) (by omega) (by omega) k1 (by simp only [bigM, twM, Bool.or_false]; exact r1))
  clear HEX r1 k1 O0
  go_wp2_with fail
  refine (unhide HSK).mono ?_
  rintro e w2 ⟨rfl, r2, k2⟩
  rw [unhide HK0] at r2
  have O2 := hide ((unhide O1).next hlt (by omega) (by omega) (by omega) (by omega) k2 (by simp only [bigM, twM, Bool.or_false]; exact r2))
  have R2 := hide r2
  clear HSK r2 k2 O1 HK0
  by_cases h125 : bt s k0 = 125
  · have HS := hide (skip_yes rb s k0 tb kt w2 (unhide R2) (by omega) 125 h125 (bt_in (by omega)))
    have HR : Hid (val s i = some (.obj .nil, k0 + 1)) := by show _ = _; rw [unhide HVV, if_pos h125]
    clear h125
    go_wp2_with fail
    refine (unhide HS).mono ?_
    rintro e w3 ⟨rfl, r3, k3⟩
    have O3 := hide ((unhide O2).next hlt (by omega) (by omega) (by omega) (by omega) k3 (by simp only [bigM, twM, Bool.or_false]; exact r3))
    clear HS r3 k3 O2 R2
    go_wp2
    go_ret
    refine ⟨(unhide O3).kb, ?_⟩
    rw [unhide HR]
    have hsz := (unhide O3).size
    refine ⟨_, _, rfl, by simp only [bigV, twV]; exact (unhide O3).rdr, fun _ _ => ?_⟩
    rw [Rep]
    exact ⟨w.heap.size + 1, w.heap.size, 0, [], rfl, ⟨by omega, by omega⟩, ⟨by omega, by omega⟩, (unhide O3).blk, (unhide O3).own, Nat.le_refl _, by rw [RepM]⟩
  · have HS := hide (skip_no rb s k0 tb kt w2 (unhide R2) k01 125 (.inl h125))
    have HR : Hid (val s i = (mems s k0).map fun q => (.obj q.1, q.2)) := by show _ = _; rw [unhide HVV, if_neg h125]
    clear h125 HVV
    go_wp2_with fail
    refine (unhide HS).mono ?_
    rintro e w3 ⟨rfl, r3, k3⟩
    have O3 := hide ((unhide O2).next hlt (by omega) (by omega) (by omega) (by omega) k3 (by simp only [bigM, twM, Bool.or_false]; exact r3))
    clear HS r3 k3 O2 R2
    have hs3 := (unhide O3).size
    have HC := hide (readMember_walk rb s k0 _ _ w3 (unhide O3).rdr hs k01 B ((unhide HT).next ((unhide O3).kb.below hB (by omega)) (Nat.le_refl _)) hB w.heap.size _ _ (unhide O3).own hlt (by simp)
      (fun j w1 a b c d => unhide HHV j _ _ w1 (by omega) b c ((unhide O3).kb.trans d)))
    have HMT := hide (mems_tail s k0)
    rw [unhide k02] at HMT
    have c3 : w3.cell? ⟨w.heap.size + 1, 0, none⟩ = some (.map (some w.heap.size)) := Lib.cell_of_heap (unhide O3).blk 0
    cases hv : memR s k0 with
    | none =>
      rw [hv] at HC HMT
      have HN : Hid (val s i = none) := by show _ = _; rw [unhide HR, unhide HMT]; rfl
      clear hv
      go_wp2_with fail
      refine (unhide HC).mono ?_
      rintro e w4 ⟨k4, rfl⟩
      exact ⟨rfl, k4.off (unhide O3).kb (Nat.le_refl _), by rw [unhide HN]; rfl⟩
    | some q =>
      obtain ⟨⟨key, v⟩, n⟩ := q
      have hvo := memR_ok hv
      rw [hv] at HC HMT
      clear hv
      go_wp2_with fail
      refine (unhide HC).mono ?_
      rintro e w4 ⟨k4, t, p, rfl, r4, m4, rep4⟩
      have HA0 := hide ((unhide O3).step hlt (by omega) (by omega) (by omega) (by omega) (by omega) k4 r4 m4 rep4)
      clear HC O3 k4 r4 m4 rep4 c3
      go_wp2_with fail
      go_loopg [] (s.size + 1 - n) (fun g wr => ∃ (j : Nat) (acc : JM) (xs : List (List UInt8 × Value)), g = s.size + 1 - j ∧ j ≤ s.size ∧ k0 < j ∧ xs.length ≤ j ∧ OSt rb s tb kt w (w.heap.size + 1) w.heap.size (w.heap.size + 2) j acc xs wr ∧ mems s k0 = (tailM s j).map fun q => (acc.app q.1, q.2))
      case atStart => exact ⟨n, _, _, rfl, hvo.2, hvo.1, by simp; omega, unhide HA0, by rw [unhide HMT]; rfl⟩
      case round =>
        obtain ⟨j, acc, xs, hg, hj, hj0, hxl, host, hst⟩ := hrel
        have HST := hide hst
        have HAW := hide host
        have hsw := host.size
        clear hst host HA0 HMT hvo
        by_cases h44 : bt s j = 44
        · have hjl : j < s.size := bt_in (by omega)
          have HS := hide (skip_yes rb s j _ _ wr (unhide HAW).rdr (by omega) 44 h44 hjl)
          have HTE : Hid (mems s k0 = (mems s (sk s (j + 1))).map fun q => (acc.app q.1, q.2)) := by
            show _ = _
            rw [unhide HST, tailM, if_neg (by omega), if_pos h44]
          clear h44 HST
          go_wp2_with fail
          refine (unhide HS).mono ?_
          rintro e w7 ⟨rfl, r7, k7⟩
          have O7 := hide ((unhide HAW).next hlt (by omega) (by omega) (by omega) (by omega) k7 r7)
          have hs7 := (unhide O7).size
          clear HS k7 HAW r7
          have HC := hide (readMember_walk rb s (j + 1) _ _ w7 (unhide O7).rdr hs (by omega) B ((unhide HT).next ((unhide O7).kb.below hB (by omega)) (Nat.le_refl _)) hB w.heap.size _ _ (unhide O7).own hlt (by omega)
            (fun j w1 a b c d => unhide HHV j _ _ w1 (by omega) b c ((unhide O7).kb.trans d)))
          have HMT := hide (mems_tail s (j + 1))
          have c7 : w7.cell? ⟨w.heap.size + 1, 0, none⟩ = some (.map (some w.heap.size)) := Lib.cell_of_heap (unhide O7).blk 0
          cases hv : memR s (j + 1) with
          | none =>
            rw [hv] at HC HMT
            have HN : Hid (val s i = none) := by show _ = _; rw [unhide HR, unhide HTE, unhide HMT]; rfl
            clear hv
            go_wp2_with fail
            refine (unhide HC).mono ?_
            rintro e w4 ⟨k4, rfl⟩
            exact ⟨rfl, k4.off (unhide O7).kb (Nat.le_refl _), by rw [unhide HN]; rfl⟩
          | some q =>
            obtain ⟨⟨key2, v2⟩, n2⟩ := q
            have hvo := memR_ok hv
            rw [hv] at HC HMT
            clear hv
            go_wp2_with fail
            refine (unhide HC).mono ?_
            rintro e w8 ⟨k8, t8, p8, rfl, r8, m8, rep8⟩
            have HS5 := hide ((unhide O7).step hlt (by omega) (by omega) (by omega) (by omega) (by omega) k8 r8 m8 rep8)
            clear HC O7 k8 r8 m8 rep8 c7
            go_wp2
            go_roundg (s.size + 1 - n2)
            all_goals first
              | omega
              | exact ⟨n2, _, _, rfl, hvo.2, by omega, by rw [List.length_append]; simp only [List.length_cons, List.length_nil]; omega, unhide HS5, by rw [unhide HTE, unhide HMT, Option.bind_some, Option.map_map]; congr 1; funext q; simp [JM.app_assoc, JM.app]⟩
        · have HS := hide (skip_no rb s j _ _ wr (unhide HAW).rdr hj 44 (.inl h44))
          have HTE : Hid (mems s k0 = (if bt s j = 125 then some (JM.nil, j + 1) else none).map fun q => (acc.app q.1, q.2)) := by
            show _ = _
            rw [unhide HST, tailM]
            by_cases g : bt s j = 125
            · rw [if_pos g, if_pos g]
            · rw [if_neg g, if_neg h44, if_neg g]
          clear h44 HST
          go_wp2_with fail
          refine (unhide HS).mono ?_
          rintro e w7 ⟨rfl, r7, k7⟩
          have O7 := hide ((unhide HAW).next hlt (by omega) (by omega) (by omega) (by omega) k7 r7)
          clear HS HAW r7 k7
          by_cases h125 : bt s j = 125
          · have HE := hide (expect_yes rb s j _ _ w7 (unhide O7).rdr (by omega) 125 h125 (bt_in (by omega)))
            have HN : Hid (val s i = some (.obj acc, j + 1)) := by
              show _ = _
              rw [unhide HR, unhide HTE, if_pos h125]; simp [JM.app_nil]
            clear h125
            go_wp2_with fail
            refine (unhide HE).mono ?_
            rintro e w8 ⟨rfl, r8, k8⟩
            have O8 := hide ((unhide O7).next hlt (by omega) (by omega) (by omega) (by omega) k8 r8)
            have hs8 := (unhide O8).size
            clear HE r8 k8 O7
            go_wp2
            go_ret
            refine ⟨(unhide O8).kb, ?_⟩
            rw [unhide HN]
            refine ⟨_, _, rfl, by simp only [bigV, twV]; exact (unhide O8).rdr, fun a b => ?_⟩
            rw [Rep]
            simp only [bigV] at a
            simp only [twV] at b
            exact ⟨w.heap.size + 1, w.heap.size, xs.length, xs, rfl, ⟨by omega, by omega⟩, ⟨by omega, by omega⟩, (unhide O8).blk, (unhide O8).own, Nat.le_refl _, RepM.keep (fun _ _ => rfl) (fun b hb => ⟨by have := hb.1; omega, hb.2⟩) acc xs ((unhide O8).rep a b)⟩
          · have HE := hide (expect_no rb s j _ _ w7 (unhide O7).rdr (by omega) hj 125 (.inl h125))
            have HN : Hid (val s i = none) := by
              show _ = _
              rw [unhide HR, unhide HTE, if_neg h125]; rfl
            clear h125
            go_wp2_with fail
            refine (unhide HE).mono ?_
            rintro e w8 ⟨rfl, k8⟩
            exact ⟨rfl, (unhide O7).kb.trans k8, by rw [unhide HN]; rfl⟩
end Go.Proofs.YtocnekbedcnmgaaGreatDoor


namespace Go.Proofs.YtocnekbedcnmgaaGreatDoor
open Go.RowKit

/-- A value with the blanks before and behind it: the reader's recursion closed. -/
theorem readValue_walk (rb : Nat) (s : ByteArray) (hs : s.size ≤ 100000) (B : Nat) (hB : B ≤ rb) : ∀ (n i : Nat) (tb kt : Bool) (w : World), s.size - i ≤ n → Rdr rb s i tb kt w → i ≤ s.size → TabsB B w → ErrB B w →
    Calls Tryz.prog 85 #[.pointer (some ⟨rb, 0, none⟩)] w (VPost rb s tb kt w ((val s (sk s i)).map fun q => (q.1, sk s q.2))) := by
  intro n
  induction n with
  | zero =>
    intro i tb kt w hn h hi hT hE
    have hlt := h.lt
    have g := sk_ge s i
    refine value_of rb s i tb kt w h hs hi fun w1 r1 k1 => bare_walk rb s (sk s i) tb kt w1 r1 hs (sk_le hi).2 B (hT.next (k1.below hB (by omega)) (Nat.le_refl _)) (hE.next (k1.below hB (by omega)) (Nat.le_refl _)) hB ?_ ?_
    · intro w2 r2 k2 hb; have := bt_in (s := s) (i := sk s i) (by omega); omega
    · intro w2 r2 k2 hb; have := bt_in (s := s) (i := sk s i) (by omega); omega
  | succ n ih =>
    intro i tb kt w hn h hi hT hE
    have hlt := h.lt
    have g := sk_ge s i
    refine value_of rb s i tb kt w h hs hi fun w1 r1 k1 => ?_
    have T1 := hT.next (k1.below hB (by omega)) (Nat.le_refl _)
    have E1 := hE.next (k1.below hB (by omega)) (Nat.le_refl _)
    have hs1 := k1.size
    refine bare_walk rb s (sk s i) tb kt w1 r1 hs (sk_le hi).2 B T1 E1 hB ?_ ?_
    · intro w2 r2 k2 hb
      have hs2 := k2.size
      refine readArray_walk rb s (sk s i) tb kt w2 r2 hs hb fun j tb' kt' w3 hj hjs r3 k3 => ?_
      exact ih j tb' kt' w3 (by omega) r3 hjs (T1.next ((k2.trans k3).below hB (by omega)) (Nat.le_refl _)) (E1.next ((k2.trans k3).below hB (by omega)) (Nat.le_refl _))
    · intro w2 r2 k2 hb
      have hs2 := k2.size
      refine readObject_walk rb s (sk s i) tb kt w2 r2 hs hb B (T1.next (k2.below hB (by omega)) (Nat.le_refl _)) hB fun j tb' kt' w3 hj hjs r3 k3 => ?_
      exact ih j tb' kt' w3 (by omega) r3 hjs (T1.next ((k2.trans k3).below hB (by omega)) (Nat.le_refl _)) (E1.next ((k2.trans k3).below hB (by omega)) (Nat.le_refl _))
end Go.Proofs.YtocnekbedcnmgaaGreatDoor

