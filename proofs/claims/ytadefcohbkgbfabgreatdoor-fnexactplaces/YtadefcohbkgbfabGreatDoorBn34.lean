import Derived.Test.YtadefcohbkgbfabGreatDoorBn23
import Derived.Test.YtadefcohbkgbfabGreatDoorBn6
import Derived.Test.YtadefcohbkgbfabGreatDoorBn18
import Derived.Test.YtadefcohbkgbfabGreatDoorBn33
import Derived.Test.YtadefcohbkgbfabGreatDoorBn9
namespace Go.Proofs.YtadefcohbkgbfabGreatDoor
open Go.RowKit Go.Sort

set_option maxRecDepth 100000 in
/-- A key that is there, looked up. -/
theorem map_get {w : World} {b n : Nat} {xs : List (List UInt8 × Value)} (h : w.ownsMap Tryz.prog 9 RH b n (putAll xs)) (key : List UInt8) (hk : key.length ≤ 10000000) (v : Value) (hv : lastV xs key = some v) :
    (Instr.lookup 110 (.map (some b)) (.string (strOf key)) false).run Tryz.prog w = .ok v w := by
  obtain ⟨es, clock, hb, F, _, hD⟩ := h
  have hkey : keyOf Tryz.prog 9 (.string (strOf key)) = some (.string key) := by
    have := WideMaps.keyOf_string_mk Tryz.underlying9 (s := strOf key) (by rw [strOf_size]; unfold maxLen; omega)
    rwa [strOf_toList] at this
  have hz : (zeroValue 54).run Tryz.prog w = .ok .nilIface w := by kernel_rfl
  have hat := fun z => putAll_at key z xs
  rw [hD] at hat
  rcases Maps.fit_look false (Maps.string_keyed Tryz.underlying9) Tryz.underlying110 hz hb F hkey with ⟨hrun, _, h2⟩ | ⟨e0, y, _, _, hrun, hR, h2, _⟩
  · have e1 := (h2 (.held .nilIface)).symm.trans (hat (.held .nilIface))
    have e2 := (h2 (.held (.bool true))).symm.trans (hat (.held (.bool true)))
    rw [hv] at e1 e2
    exact absurd (e1.trans e2.symm) (by intro e; injection e with e; cases e)
  · injection hR with hR
    subst hR
    have e1 := (h2 (.held .nilIface)).symm.trans (hat (.held .nilIface))
    rw [hv] at e1
    injection e1 with e1
    subst e1
    exact hrun

theorem repM_at {w : World} {S : Nat → Prop} : ∀ (m : JM) (xs : List (List UInt8 × Value)), RepM w S m xs → xs.map (·.1) = keysM m ∧ ∀ k v, (k, v) ∈ m.toL → ∃ x, (k, x) ∈ xs ∧ Rep w S v x
  | .nil, xs, h => by rw [RepM] at h; subst h; exact ⟨rfl, fun k v h => by simp [JM.toL] at h⟩
  | .cons k v r, xs, h => by
    rw [RepM] at h
    obtain ⟨x, xs', rfl, h2, h3⟩ := h
    obtain ⟨i1, i2⟩ := repM_at r xs' h3
    refine ⟨by simp [keysM, i1], fun k' v' hm => ?_⟩
    rcases List.mem_cons.1 hm with e | hm
    · injection e with e1 e2
      subst e1; subst e2
      exact ⟨x, List.mem_cons_self, h2⟩
    · obtain ⟨x', hx, hr⟩ := i2 k' v' hm
      exact ⟨x', List.mem_cons_of_mem _ hx, hr⟩
theorem lastV_of {k : List UInt8} {x : Value} : ∀ xs : List (List UInt8 × Value), (xs.map (·.1)).Nodup → (k, x) ∈ xs → lastV xs k = some x := by
  refine snoc_rec (fun _ h => by simp at h) ?_
  rintro l ⟨k', x'⟩ ih hnd hm
  rw [lastV_snoc]
  rw [List.map_append, List.nodup_append] at hnd
  rcases List.mem_append.1 hm with hm | hm
  · have hne : ¬ k' = k := fun e => by
      subst e
      exact hnd.2.2 k' (List.mem_map.2 ⟨_, hm, rfl⟩) k' (by simp) rfl
    rw [if_neg hne]
    exact ih hnd.1 hm
  · simp at hm
    rw [if_pos hm.1.symm, hm.2]
theorem has_putAll (x : List UInt8) : ∀ xs : List (List UInt8 × Value), Maps.has (putAll xs) (.string x) = (xs.map (·.1)).contains x := by
  refine snoc_rec rfl ?_
  rintro l ⟨k, v⟩ ih
  rw [putAll_snoc]
  by_cases h : x = k
  · subst h
    rw [Maps.has_put_same (putAll_map l) (show WideAt.IsKeyLit (.string x) from trivial)]
    simp
  · rw [Maps.has_put_other (by intro e; injection e with e; exact h e), ih]
    simp only [List.map_append, List.map_cons, List.map_nil]
    rw [Bool.eq_iff_iff]
    simp
    intro e; exact absurd e h
/-- The keys of a map whose members came each once. -/
theorem keys_perm {w : World} {b n : Nat} {xs : List (List UInt8 × Value)} (h : w.ownsMap Tryz.prog 9 RH b n (putAll xs)) (hnd : (xs.map (·.1)).Nodup) : (xs.map (·.1)).Perm (strKeys (putAll xs)) := by
  obtain ⟨es, he, hp, _⟩ := h.entries (Maps.string_keyed Tryz.underlying9)
  obtain ⟨es', he', hk⟩ := World.ownsMap.keysOf h
  rw [he] at he'
  injection he' with he'
  subst he'
  have hm : ∀ x, x ∈ xs.map (·.1) ↔ Maps.has (.map es) (.string x) = true := fun x => by rw [← he, has_putAll]; simp
  rw [he]
  refine perm_strKeys hp (fun p hp' => ?_) hnd hm
  obtain ⟨key, hkey⟩ := hk p hp'
  obtain ⟨x, _, hx, _⟩ := Maps.keyOf_str Tryz.underlying9 hkey
  exact ⟨x, hx⟩
theorem size_keys {xs : List (List UInt8 × Value)} {ks : List (List UInt8)} (h : ks.Perm (strKeys (putAll xs))) : Maps.size (putAll xs) = ks.length := by
  obtain ⟨es, he⟩ := putAll_map xs
  rw [he] at h ⊢
  have := h.length_eq
  simp [strKeys] at this
  rw [this]; rfl
theorem row_kept {w w' : World} {B b n : Nat} {v : Value} {xs : List Value} (h : w.ownsRow B 9 1 v n xs) (hb : b < B) (hk : OK5 b w w') : w'.ownsRow B 9 1 v n xs := by
  refine ⟨h.1, ?_⟩
  rcases h.2 with h0 | ⟨g, cap, cur, hv, hB, hg, r⟩
  · exact .inl h0
  · exact .inr ⟨g, cap, cur, hv, hB, hk g _ hg (by intro e; injection e with e; omega) (fun c fz e => by injection e with _ e; cases e), r⟩
end Go.Proofs.YtadefcohbkgbfabGreatDoor


namespace Go.Proofs.YtadefcohbkgbfabGreatDoor
open Go.RowKit Go.Sort

set_option maxRecDepth 100000 in
set_option maxHeartbeats 8000000 in
theorem write_obj (m : JM) (hall : ∀ q ∈ m.toL, WriteC q.2) (hval : ∀ q ∈ m.toL, Lib.validD q.1 = true) (hnd : (keysM m).Nodup) : WriteC (.obj m) := by
  intro B b l0 w S t p h hS hI hB hP hlen
  rw [Rep] at h
  obtain ⟨ob, mb, nn, xs, h, hSob, hSmb, hob, hown, _, hrm⟩ := h
  injection h with h1 h2; subst h1; subst h2
  obtain ⟨hkeys, hrep⟩ := repM_at m xs hrm
  have hnd' : (xs.map (·.1)).Nodup := by rw [hkeys]; exact hnd
  have hperm := keys_perm hown hnd'
  have hct : ct (.obj m) = 123 :: (joinC ((isort (ctM m)).map memT) ++ [125]) := rfl
  have hpl : (isort (ctM m)).length = xs.length := by
    have a1 := congrArg List.length hkeys
    have a2 := congrArg List.length (ctM_keys m)
    simp only [List.length_map] at a1 a2
    rw [(isort_perm _).length_eq]; omega
  have hn := joinC_cnt ((isort (ctM m)).map memT)
  rw [List.length_map] at hn
  have hjt : l0.length + (joinC ((isort (ctM m)).map memT)).length + 2 ≤ 10000000 := by rw [hct] at hlen; simp at hlen; omega
  have hxn : xs.length ≤ 10000000 := by omega
  have hobB : ob < B := hS _ hSob
  have hbB : B ≤ b := hI.elim (fun x => x.1) (fun x => x.1)
  have hblt : b < w.heap.size := hI.lt
  have hc0 : w.cell? ⟨ob, 0, none⟩ = some (.map (some mb)) := by rw [Lib.cell_of_heap hob]; rfl
  have hsz : Maps.size (putAll xs) = xs.length := by rw [size_keys hperm, List.length_map]
  have HSK : Hid (∀ w1, Below B w w1 → Calls Tryz.prog 84 #[.pointer (some ⟨ob, 0, none⟩)] w1 fun e w' => ∃ v, e = .returned v ∧ w'.ownsRow w1.heap.size 9 1 v xs.length (((isort (ctM m)).map (·.1)).map encStr) ∧ Below w1.heap.size w1 w') := fun w1 hb1 => by
    have hc1 : w1.cell? ⟨ob, 0, none⟩ = some (.map (some mb)) := (hb1.cell (p := ⟨ob, 0, none⟩) hobB).trans hc0
    refine (sortedKeys_walk ob mb nn (putAll xs) RH w1 hc1 (ownsMap_keep hown (hb1.block mb (hS _ hSmb))) (by rw [hsz]; unfold maxLen; omega) (by rw [hsz]; omega)).mono ?_
    rintro e w' ⟨v, ss, rfl, hss, hrow, _, hb⟩
    have hks : ss.Perm ((ctM m).map (·.1)) := by
      rw [ctM_keys, ← hkeys]; exact hss.trans hperm.symm
    have hl : ss.length = xs.length := by rw [hks.length_eq, ctM_keys, ← hkeys, List.length_map]
    rw [isort_keys hks, hl] at hrow
    exact ⟨v, rfl, hrow, hb⟩
  have HMEM : Hid (∀ k, (hk : k < (isort (ctM m)).length) → Lib.validD (isort (ctM m))[k].1 = true ∧ ∃ t p f, WrAt t p f ∧ (∀ X : World, Below B w X → (isort (ctM m))[k].1.length ≤ 10000000 → (Instr.lookup 110 (.map (some mb)) (.string (strOf (isort (ctM m))[k].1)) false).run Tryz.prog X = .ok (.iface t p) X) ∧
      ∀ (acc : List UInt8) (wr : World), IsB B b acc wr → Below B w wr → acc.length + (isort (ctM m))[k].2.length ≤ 10000000 → Calls Tryz.prog f #[p, .pointer (some ⟨b, 0, none⟩)] wr fun e w' => e = .returned (.tuple #[]) ∧ IsB B b (acc ++ (isort (ctM m))[k].2) w' ∧ Below B wr w' ∧ OK5 b wr w') := by
    intro k hk
    have hmem : (isort (ctM m))[k] ∈ ctM m := (isort_perm _).subset (List.getElem_mem hk)
    obtain ⟨q, hq, he⟩ : ∃ q ∈ m.toL, (q.1, ct q.2) = (isort (ctM m))[k] := by
      have h2 := ctM_map m
      generalize (isort (ctM m))[k] = z at *
      rw [h2] at hmem
      exact List.mem_map.1 hmem
    have e1 : (isort (ctM m))[k].1 = q.1 := by rw [← he]
    have e2 : (isort (ctM m))[k].2 = ct q.2 := by rw [← he]
    rw [e1, e2]
    obtain ⟨x, hx, hr⟩ := hrep q.1 q.2 hq
    obtain ⟨t, p, rfl⟩ := rep_iface hr
    have hlast := lastV_of xs hnd' hx
    refine ⟨hval q hq, t, p, wf q.2, wrAt hr, fun X hX hkl => ?_, fun acc wr hI' hb' hl' => ?_⟩
    · exact map_get (ownsMap_keep hown (hX.block mb (hS _ hSmb))) q.1 hkl _ hlast
    · exact hall q hq B b acc wr S t p (Rep.keep (fun k hk => hb'.block k (hS k hk)) (fun _ h => h) _ _ hr) hS hI' (Nat.le_trans hB hb'.size) (hP.next hb' (Nat.le_refl _)) hl'
  have hl0 : (Lib.byteCells l0).length ≤ 10000000 := by rw [Lib.byteCells_length]; omega
  have HCT := hide hct
  generalize isort (ctM m) = ps at *
  have HJ : Hid (∀ k (hk : k < ps.length), joinC ((ps.map memT).take (k + 1)) = joinC ((ps.map memT).take k) ++ (if k = 0 then memT ps[k] else 44 :: memT ps[k])) := fun k hk => by
    have := joinC_one (ps.map memT) k (by rw [List.length_map]; exact hk)
    rw [this]; simp
  have HJL : Hid (∀ k, (joinC ((ps.map memT).take k)).length ≤ (joinC (ps.map memT)).length) := joinC_tk (ps.map memT)
  have HE : Hid ((ps.map memT).take xs.length = ps.map memT) := List.take_of_length_le (by rw [List.length_map]; omega)
  have HW1 : Hid (∀ (acc : List UInt8) (c : Int) (c' : UInt8) (wr : World), c = (c'.toNat : Int) → acc.length ≤ 10000000 → IsB B b acc wr → B ≤ wr.heap.size → Calls Tryz.prog 100 #[.pointer (some ⟨b, 0, none⟩), .int .u8 c] wr fun e w' => e = .returned .nilIface ∧ IsB B b (acc ++ [c']) w' ∧ Below B wr w' ∧ OK5 b wr w') := fun acc c c' wr hc ha hI' hB' => by
    refine (writeByte_k B b _ c wr hI' (by rw [Lib.byteCells_length]; omega) hB').mono ?_
    rintro e w' ⟨rfl, h1, b1, k1⟩
    exact ⟨rfl, IsB.byte hc h1, b1, k1⟩
  have HWS : Hid (∀ (acc : List UInt8) (key : List UInt8) (wr : World), Lib.validD key = true → acc.length + (quoted key).length ≤ 10000000 → IsB B b acc wr → B ≤ wr.heap.size → Calls Tryz.prog 169 #[.string (strOf key), .pointer (some ⟨b, 0, none⟩)] wr fun e w' => e = .returned (.tuple #[]) ∧ IsB B b (acc ++ quoted key) w' ∧ Below B wr w' ∧ OK5 b wr w') := fun acc key wr hv ha hI' hB' => by
    have hq := quoted_ge key
    refine (strWrite_walk B b acc (strOf key) wr hI' hB' (by omega) (by rw [strOf_size]; omega)).mono ?_
    rintro e w' ⟨rfl, h1, b1, k1⟩
    have e : quoted key = 34 :: (rs (strOf key) ++ [34]) := by rw [rs_eq (strOf key) (by rw [strOf_toList]; exact hv), strOf_toList]; rfl
    exact ⟨rfl, by rw [e]; exact h1, b1, k1⟩
  have HW0 := hide (unhide HW1 l0 123 123 w rfl (by omega) hI hB)
  have HB := hide hB
  have HC0 : Hid (∀ X : World, Below B w X → X.cell? ⟨ob, 0, none⟩ = some (.map (some mb))) := fun X hX => (hX.cell (p := ⟨ob, 0, none⟩) hobB).trans hc0
  clear hown hrm hrep hkeys hnd' hperm hS hP hob hct hall hval hnd hlen hn hI hB hSob hSmb hsz hc0 hobB
  show Calls Tryz.prog 173 _ _ _
  go_enter Tryz.func173, Tryz.ntmps173
  go_wp2_with fail
  refine (unhide HW0).mono ?_
  rintro e w1 ⟨rfl, i1, b1, k1⟩
  have HSK1 := hide (unhide HSK w1 b1)
  have I1 := hide i1
  have B1 := hide b1
  have K1 := hide k1
  have hw1 := b1.size
  clear HW0 i1 b1 k1 HSK
  go_wp2_with fail
  refine (unhide HSK1).mono ?_
  rintro e w2 ⟨v2, rfl, hrow, b2⟩
  have hw2 := b2.size
  have I2 := hide (isB_keep (unhide I1) b2)
  have B2 := hide ((unhide B1).trans (b2.mono (Nat.le_trans (unhide HB) hw1)))
  have K2 := hide (Lib.OthersKept.below (unhide K1) b2)
  obtain ⟨a2, g2, c2, rfl, hadr, hcell⟩ : ∃ a g c, v2 = .slice a xs.length c ∧ (0 < xs.length → a = some ⟨g, 0, none⟩) ∧ (∀ (wr : World), OK5 b w2 wr → ∀ j (hj : j < ps.length), wr.cell? ⟨g, j, none⟩ = some (.string (strOf ps[j].1))) := by
    rcases hrow.2 with ⟨hv, h0⟩ | ⟨g, cap, cur, hv, _⟩
    · exact ⟨none, 0, 0, by rw [hv, h0], fun h => by omega, fun wr hk j hj => by omega⟩
    · refine ⟨some ⟨g, 0, none⟩, g, cap, hv, fun _ => rfl, fun wr hk j hj => ?_⟩
      subst hv
      have := (row_kept hrow (by omega) hk).cellAt j (by omega)
      rw [this]
      simp [hj]
      rfl
  have HCELL := hide hcell
  clear hcell hrow HSK1 I1 B1 K1
  go_wp2_with fail
  go_loopw [11] (fun i wr => ∃ k : Nat, k ≤ xs.length ∧ i = .int .i64 k ∧ IsB B b (l0 ++ 123 :: joinC ((ps.map memT).take k)) wr ∧ Below B w wr ∧ OK5 b w2 wr) (fun i _ => xs.length - (intOf i).toNat)
  case atStart => exact ⟨0, Nat.zero_le _, rfl, by have := unhide I2; simpa [joinC] using this, unhide B2, Lib.OthersKept.refl _ _ _⟩
  case round =>
    obtain ⟨k, hk, rfl, hI, hb, hok⟩ := hrel
    have hBr : B ≤ wr.heap.size := Nat.le_trans (unhide HB) hb.size
    by_cases hlt : k < xs.length
    · have hltp : k < ps.length := by omega
      have hltI : (k : Int) < (xs.length : Int) := by omega
      obtain rfl := hadr (by omega)
      have hck := unhide HCELL wr hok k hltp
      obtain ⟨hkv, t, p, f, hw, hlook, hcall⟩ := unhide HMEM k hltp
      have HJk := hide (unhide HJ k hltp)
      have hj1 := unhide HJL (k + 1)
      rw [unhide HJk] at hj1
      have hj0 := unhide HJL k
      have hmp := memT_parts ps[k]
      have HMT : Hid (memT ps[k] = quoted ps[k].1 ++ 58 :: ps[k].2) := rfl
      have hqg := quoted_ge ps[k].1
      generalize joinC ((ps.map memT).take k) = jk at *
      generalize ps[k].1 = key at *
      generalize ps[k].2 = txt at *
      generalize memT ps[k] = mt at *
      have hmet := hw.meth
      have hen := hw.ent
      have HOK := hide hok
      have HBW := hide hb
      have HLOOK := hide hlook
      have HCALL := hide hcall
      clear hw hlook hcall hok hb HCELL HJ HJL HMEM
      by_cases hk0 : k = 0
      · rw [if_pos hk0] at HJk hj1
        have tk : (0 < k) = False := eq_false (by omega)
        have hj2 : jk.length + mt.length ≤ (joinC (ps.map memT)).length := by simpa using hj1
        have HS := hide (unhide HWS (l0 ++ 123 :: jk) key wr hkv (by simp; omega) hI hBr)
        clear hk0 hI hj1
        go_wp2_with fail
        refine (unhide HS).mono ?_
        rintro e w3 ⟨rfl, i3, b3, k3⟩
        have B3 := hide ((unhide HBW).trans b3)
        have K3 := hide ((unhide HOK).trans k3)
        have HC := hide (unhide HW1 _ 58 58 w3 rfl (by simp; omega) i3 (Nat.le_trans hBr b3.size))
        clear HS i3 b3 k3 hck
        go_wp2_with fail
        refine (unhide HC).mono ?_
        rintro e w4 ⟨rfl, i4, b4, k4⟩
        have B4 := hide ((unhide B3).trans b4)
        have K4 := hide ((unhide K3).trans k4)
        have hlk := unhide HLOOK w4 (unhide B4) (by omega)
        have hcm := unhide HC0 w4 (unhide B4)
        have HCA := hide (unhide HCALL _ w4 i4 (unhide B4) (by simp; omega))
        clear HC i4 b4 k4 HLOOK HCALL B3 K3
        go_wp2_with fail
        refine (unhide HCA).mono ?_
        rintro e w5 ⟨rfl, i5, b5, k5⟩
        clear HCA hlk hcm hmet hen
        go_wp2
        go_roundw
        case rel => exact ⟨k + 1, by omega, by go_num, by rw [unhide HJk, unhide HMT]; simpa using i5, (unhide B4).trans b5, (unhide K4).trans k5⟩
        case measure => simp [intOf]; omega
      · rw [if_neg hk0] at HJk hj1
        have tk : (0 < k) = True := eq_true (by omega)
        have hj2 : jk.length + 1 + mt.length ≤ (joinC (ps.map memT)).length := by simp at hj1; omega
        have HCM := hide (unhide HW1 (l0 ++ 123 :: jk) 44 44 wr rfl (by simp; omega) hI hBr)
        clear hk0 hI hj1
        go_wp2_with fail
        refine (unhide HCM).mono ?_
        rintro e w2' ⟨rfl, i2', b2', k2'⟩
        have B2' := hide ((unhide HBW).trans b2')
        have K2' := hide ((unhide HOK).trans k2')
        have HS := hide (unhide HWS _ key w2' hkv (by simp; omega) i2' (Nat.le_trans hBr b2'.size))
        have hBr2 := Nat.le_trans hBr b2'.size
        clear HCM i2' b2' k2' hck
        go_wp2_with fail
        refine (unhide HS).mono ?_
        rintro e w3 ⟨rfl, i3, b3, k3⟩
        have B3 := hide ((unhide B2').trans b3)
        have K3 := hide ((unhide K2').trans k3)
        have HC := hide (unhide HW1 _ 58 58 w3 rfl (by simp; omega) i3 (Nat.le_trans hBr2 b3.size))
        clear HS i3 b3 k3 B2' K2'
        go_wp2_with fail
        refine (unhide HC).mono ?_
        rintro e w4 ⟨rfl, i4, b4, k4⟩
        have B4 := hide ((unhide B3).trans b4)
        have K4 := hide ((unhide K3).trans k4)
        have hlk := unhide HLOOK w4 (unhide B4) (by omega)
        have hcm := unhide HC0 w4 (unhide B4)
        have HCA := hide (unhide HCALL _ w4 i4 (unhide B4) (by simp; omega))
        clear HC i4 b4 k4 HLOOK HCALL B3 K3
        go_wp2_with fail
        refine (unhide HCA).mono ?_
        rintro e w5 ⟨rfl, i5, b5, k5⟩
        clear HCA hlk hcm hmet hen
        go_wp2
        go_roundw
        case rel => exact ⟨k + 1, by omega, by go_num, by rw [unhide HJk, unhide HMT]; simpa using i5, (unhide B4).trans b5, (unhide K4).trans k5⟩
        case measure => simp [intOf]; omega
    · have hk' : k = xs.length := by omega
      subst hk'
      rw [unhide HE] at hI
      have HWE := hide (unhide HW1 (l0 ++ 123 :: joinC (ps.map memT)) 125 125 wr rfl (by simp; omega) hI hBr)
      have HB' := hide hb
      have HOK := hide hok
      clear hI hb hok HMEM HJ HJL HCELL HW1 HWS
      go_wp2_with fail
      refine (unhide HWE).mono ?_
      rintro e w3 ⟨rfl, i3, b3, k3⟩
      go_wp2
      go_end0
      exact ⟨rfl, by rw [unhide HCT]; simpa using i3, (unhide HB').trans b3, (unhide K2).trans ((unhide HOK).trans k3)⟩
end Go.Proofs.YtadefcohbkgbfabGreatDoor


namespace Go.Proofs.YtadefcohbkgbfabGreatDoor
open Go.RowKit Go.Sort

mutual
theorem writeV : ∀ v : JV, okV v → twV v = false → WriteC v
  | .nul, _, _ => write_nul
  | .tt, _, _ => write_tt
  | .ff, _, _ => write_ff
  | .num l, _, _ => write_num l
  | .str l, h, _ => write_str l (by rw [okV] at h; exact h)
  | .arr l, h, t => write_arr l (writeL l (by rw [okV] at h; exact h) (by rw [twV] at t; exact t))
  | .obj m, h, t => write_obj m (writeM m [] (by rw [okV] at h; exact h) (by rw [twV] at t; exact t)) (okM_keys m (by rw [okV] at h; exact h)) (twM_nodup m [] (by rw [twV] at t; exact t)).1
theorem writeL : ∀ l : JL, okL l → twL l = false → ∀ v ∈ l.toL, WriteC v
  | .nil, _, _, v, hv => by simp [JL.toL] at hv
  | .cons x r, h, t, v, hv => by
    rw [okL] at h
    rw [twL, Bool.or_eq_false_iff] at t
    rw [JL.toL] at hv
    rcases List.mem_cons.1 hv with e | hv
    · rw [e]; exact writeV x h.1 t.1
    · exact writeL r h.2 t.2 v hv
theorem writeM : ∀ (m : JM) (ks : List (List UInt8)), okM m → twM ks m = false → ∀ q ∈ m.toL, WriteC q.2
  | .nil, _, _, _, q, hq => by simp [JM.toL] at hq
  | .cons k x r, ks, h, t, q, hq => by
    rw [okM] at h
    rw [twM] at t
    simp only [Bool.or_eq_false_iff] at t
    rw [JM.toL] at hq
    rcases List.mem_cons.1 hq with e | hq
    · rw [e]; exact writeV x h.2.1 t.1.1
    · exact writeM r (ks ++ [k]) h.2.2 t.2 q hq
theorem okM_keys : ∀ m : JM, okM m → ∀ q ∈ m.toL, Lib.validD q.1 = true
  | .nil, _, q, hq => by simp [JM.toL] at hq
  | .cons k x r, h, q, hq => by
    rw [okM] at h
    rw [JM.toL] at hq
    rcases List.mem_cons.1 hq with e | hq
    · rw [e]; exact h.1
    · exact okM_keys r h.2.2 q hq
end

set_option maxRecDepth 100000 in
set_option maxHeartbeats 800000 in
/-- The canonical text of a tree. -/
theorem canonText_walk (v : JV) (hok : okV v) (htw : twV v = false) (t : TypeId) (p : Value) (w : World) (S : Nat → Prop) (h : Rep w S v (.iface t p)) (hS : ∀ k, S k → k < w.heap.size) (hP : PowB w.heap.size w) (hl : (ct v).length ≤ 10000000) :
    Calls Tryz.prog 29 #[.iface t p] w fun e w' => e = .returned (.string (strOf (ct v))) ∧ Below w.heap.size w w' := by
  have hA := wrAt h
  have b0 : Below w.heap.size w (w.alloc (.cells #[.pointer none, .slice none 0 0] 81)) := (Below.refl _ _).alloc (Nat.le_refl _) _
  have HC := hide (writeV v hok htw w.heap.size w.heap.size [] (w.alloc (.cells #[.pointer none, .slice none 0 0] 81)) S t p (Rep.keep (fun k hk => b0.block k (hS k hk)) (fun _ h => h) _ _ h) hS (Lib.fresh_isBuilder _ _ w) (by simp) (hP.next b0 (Nat.le_refl _)) (by simpa using hl))
  rw [List.nil_append] at HC
  have hm := hA.meth
  have hen := hA.ent
  clear h hS hP hA hok htw
  generalize wf v = f at *
  generalize ct v = cv at *
  go_enter Tryz.func29, Tryz.ntmps29
  go_wp2_with fail
  refine (unhide HC).mono ?_
  rintro e w1 ⟨rfl, h1, b1, _⟩
  have B1 : Below w.heap.size w w1 := b0.trans b1
  have hw1 := B1.size
  have HS := hide (bldString w.heap.size w.heap.size cv w1 h1 hw1)
  clear h1 b1 HC b0 hm hen
  go_wp2_with fail
  refine (unhide HS).mono ?_
  rintro e w2 ⟨rfl, b2⟩
  have B2 := B1.trans b2
  go_wp2
  go_ret
  exact ⟨rfl, B2⟩
end Go.Proofs.YtadefcohbkgbfabGreatDoor

