import Derived.Lib.ItoaMem
import Derived.Test.YtadefcohbkgbfabGreatDoorBn11
import Derived.Test.YtadefcohbkgbfabGreatDoorBn34
import Derived.Test.YtadefcohbkgbfabGreatDoorBn35
import Derived.Test.YtadefcohbkgbfabGreatDoorBn19
import Derived.Test.YtadefcohbkgbfabGreatDoorBn12
import Derived.Deep.RegionLaw
import Derived.Test.YtadefcohbkgbfabGreatDoorBn2
import Derived.Test.YtadefcohbkgbfabGreatDoorBn1
namespace Go.Proofs.YtadefcohbkgbfabGreatDoor
open Go.RowKit Go.Sort

theorem dec_same : ∀ n : Nat, Lib.decDigits n = decT n := by
  intro n
  induction n using Nat.strongRecOn with
  | _ n ih =>
    rw [Lib.decDigits]
    split
    · rename_i h; rw [decT_lo h]
    · rename_i h; rw [decT_hi h, ih (n / 10) (by omega), decT_lo (n := n % 10) (by omega)]
theorem infoPt : (Tryz.prog.info? 117).map (fun i => (i.zero, i.size, i.bytes)) = some (some (.agg #[.string ByteArray.empty, .nilIface]), 2, 32) := by kernel_rfl
/-- The cells of the program's parts. -/
def ptC (y : List UInt8 × Value) : List Value := [.string (strOf y.1), y.2]
def PtR (w : World) (B : Nat) (r : Value) (ys : List (List UInt8 × Value)) : Prop := w.ownsRow B 117 2 r ys.length (ys.flatMap ptC)
/-- A row of parts as the program tells them. -/
def KR (w : World) (S : Nat → Prop) (B : Nat) (r : Value) (qs : List (List UInt8 × JV)) : Prop :=
  ∃ ys : List (List UInt8 × Value), ys.length = qs.length ∧ PtR w B r ys ∧ ∀ j (h : j < ys.length) (h' : j < qs.length), ys[j].1 = qs[j].1 ∧ Rep w S qs[j].2 ys[j].2
theorem pt_at (ps : List (List UInt8 × Value)) (j : Nat) (h : j < ps.length) : (ps.flatMap ptC)[j * 2]? = some (.string (strOf ps[j].1)) ∧ (ps.flatMap ptC)[j * 2 + 1]? = some ps[j].2 := by
  induction ps generalizing j with
  | nil => simp at h
  | cons p r ih =>
    cases j with
    | zero => exact ⟨rfl, rfl⟩
    | succ j =>
      have := ih j (by simpa using h)
      rw [List.flatMap_cons, show (j + 1) * 2 = j * 2 + 2 from by omega]
      exact this
theorem PtR.cells {w : World} {B : Nat} {v : Value} {ps : List (List UInt8 × Value)} (h : PtR w B v ps) (j : Nat) (hj : j < ps.length) :
    ∃ g cap, v = .slice (some ⟨g, 0, none⟩) ps.length cap ∧ B ≤ g ∧ g < w.heap.size ∧ w.cell? ⟨g, j * 2, none⟩ = some (.string (strOf ps[j].1)) ∧ w.cell? ⟨g, j * 2 + 1, none⟩ = some ps[j].2 := by
  obtain ⟨hl, h0 | ⟨g, cap, cur, hv, hB, hg, hn, hc, hsz, ht⟩⟩ := h
  · omega
  · have hc0 := pt_at ps j hj
    refine ⟨g, cap, hv, hB, (Array.getElem?_eq_some_iff.1 hg).1, ?_, ?_⟩
    · rw [Lib.cell_of_heap hg, ← Array.getElem?_toList, ← hc0.1, ← ht, List.getElem?_take_of_lt (by omega)]
    · rw [Lib.cell_of_heap hg, ← Array.getElem?_toList, ← hc0.2, ← ht, List.getElem?_take_of_lt (by omega)]
theorem PtR.shape {w : World} {B : Nat} {v : Value} {ps : List (List UInt8 × Value)} (h : PtR w B v ps) : ∃ x cap, v = .slice x ps.length cap := by
  rcases h.2 with ⟨hv, h0⟩ | ⟨g, cap, cur, hv, _⟩
  · exact ⟨none, 0, by rw [hv, h0]⟩
  · exact ⟨_, _, hv⟩
theorem PtR.step {w : World} {B : Nat} {v : Value} {ps : List (List UInt8 × Value)} {y : List UInt8 × Value} (h : w.ownsRow B 117 2 v (ps.length + 1) (ps.flatMap ptC ++ ptC y)) : PtR w B v (ps ++ [y]) := by
  unfold PtR
  rw [List.length_append, List.flatMap_append]
  simpa using h
def idxW : Nat → List Value → List (List UInt8 × Value)
  | _, [] => []
  | b, v :: r => (decT b, v) :: idxW (b + 1) r
theorem idxW_len : ∀ (vs : List Value) (b : Nat), (idxW b vs).length = vs.length
  | [], _ => rfl
  | v :: r, b => by rw [idxW, List.length_cons, List.length_cons, idxW_len r]
theorem idxW_at : ∀ (vs : List Value) (b j : Nat) (h : j < (idxW b vs).length), (idxW b vs)[j] = (decT (b + j), vs[j]'(by rw [idxW_len] at h; exact h))
  | [], b, j, h => by simp [idxW] at h
  | t :: r, b, 0, h => rfl
  | t :: r, b, j + 1, h => by
    simp only [idxW, List.getElem_cons_succ]
    rw [idxW_at r (b + 1) j]
    rw [show b + 1 + j = b + (j + 1) by omega]
theorem itoa_at (k : Nat) (w : World) (hk : k ≤ 1000000) (hP : PowB w.heap.size w) : Calls Tryz.prog 83 #[.int .i64 (k : Int)] w fun e w' => e = .returned (.string (strOf (decT k))) ∧ Below w.heap.size w w' := by
  refine (Tryz.strconv_Itoa (k : Int) (by omega) (by omega) w hP.2).mono ?_
  rintro e w' ⟨rfl, n, os, rfl⟩
  refine ⟨?_, below_grow _ _ _⟩
  rw [Lib.itoa_nonneg, dec_same]; rfl
theorem one_iface (a : ByteArray) (t : TypeId) (q : Value) : ∀ u ∈ [Value.string a, .iface t q], u.oneCell' = true := by
  intro u hu; simp at hu; rcases hu with rfl | rfl <;> rfl

set_option maxRecDepth 100000 in
set_option maxHeartbeats 8000000 in
theorem partsOf_arr (l : JL) (ty : TypeId) (p : Value) (w : World) (S : Nat → Prop) (h : Rep w S (.arr l) (.iface ty p)) (hS : ∀ k, S k → k < w.heap.size) (hP : PowB w.heap.size w) (hl : (ct (.arr l)).length ≤ 1000000) :
    Calls Tryz.prog 65 #[.iface ty p] w fun e w' => ∃ r, e = .returned r ∧ KR w' S w.heap.size r (kidsV (.arr l)) ∧ Below w.heap.size w w' := by
  obtain ⟨i0, hi0, hz0, hz1, hz2⟩ := info_parts infoPt
  rw [Rep] at h
  obtain ⟨ab, sv, xs, h, hSab, hab, hrow, hrl⟩ := h
  injection h with h1 h2; subst h1; subst h2
  obtain ⟨a, g, cap, rfl, hadr, hcell⟩ := row_shape hrow
  obtain ⟨hxl, hrep⟩ := repL_at l xs hrl
  have hc0 : w.cell? ⟨ab, 0, none⟩ = some (.slice a xs.length cap) := by rw [Lib.cell_of_heap hab]; rfl
  have t1 : ∀ w : World, (Instr.typeAssert (.iface 103 (.pointer (some ⟨ab, 0, none⟩))) 54 103 true).run Tryz.prog w = .ok (.tuple #[.pointer (some ⟨ab, 0, none⟩), .bool true]) w := fun _ => by kernel_rfl
  have hn : xs.length ≤ 1000000 := by
    have h1 := joinC_cnt (ctL l)
    have h2 : (ctL l).length = xs.length := by rw [ctL_map, List.length_map, hxl]
    have h3 : (ct (.arr l)).length = (joinC (ctL l)).length + 2 := by show (mkA (ctL l)).length = _; simp [mkA]
    omega
  have HEND : Hid (∀ (wr : World) (r : Value), Below w.heap.size w wr → PtR wr w.heap.size r (idxW 0 xs) → KR wr S w.heap.size r (kidsV (.arr l))) := fun wr r hb hr => by
    refine ⟨idxW 0 xs, ?_, hr, fun j hj hj' => ?_⟩
    · show _ = (idxJ 0 l.toL).length
      rw [idxW_len, idxJ_len, hxl]
    · have hj'' : j < (idxJ 0 l.toL).length := hj'
      show (idxW 0 xs)[j].1 = (idxJ 0 l.toL)[j].1 ∧ Rep wr S (idxJ 0 l.toL)[j].2 (idxW 0 xs)[j].2
      rw [idxW_at, idxJ_at]
      refine ⟨rfl, Rep.keep (fun k hk => hb.block k (hS k hk)) (fun _ h => h) _ _ (hrep j (by rw [idxW_len] at hj; exact hj) (by rw [idxJ_len] at hj''; exact hj''))⟩
  have HX : Hid (∀ k (hk : k < xs.length), ∃ t q, xs[k] = .iface t q ∧ (∀ X : World, Below w.heap.size w X → X.cell? ⟨g, k, none⟩ = some (.iface t q)) ∧ (idxW 0 xs).take (k + 1) = (idxW 0 xs).take k ++ [(decT k, .iface t q)]) := fun k hk => by
    obtain ⟨t, q, he⟩ := rep_iface (hrep k hk (by omega))
    refine ⟨t, q, he, fun X hX => ?_, ?_⟩
    · rw [← he]
      exact (hX.cell (p := ⟨g, k, none⟩) (hS _ (hadr (by omega)).2)).trans (hcell k hk)
    · rw [List.take_succ_eq_append_getElem (by rw [idxW_len]; exact hk), idxW_at]
      simp only [Nat.zero_add, he]
  have HTK : Hid (∀ k, k ≤ xs.length → ((idxW 0 xs).take k).length = k) := fun k hk => by rw [List.length_take, idxW_len]; omega
  have HALL : Hid ((idxW 0 xs).take xs.length = idxW 0 xs) := List.take_of_length_le (by rw [idxW_len]; omega)
  have HI : Hid (∀ (k : Nat) (wr : World), k ≤ 1000000 → Below w.heap.size w wr → Calls Tryz.prog 83 #[.int .i64 (k : Int)] wr fun e w' => e = .returned (.string (strOf (decT k))) ∧ Below wr.heap.size wr w') := fun k wr hk hb => itoa_at k wr hk ((hP.next hb (Nat.le_refl _)).more hb.size)
  have hadr' : 0 < xs.length → a = some ⟨g, 0, none⟩ := fun h => (hadr h).1
  generalize idxW 0 xs = Y at *
  clear hrl hrow hrep hcell hadr hab hSab hS hP hl hxl
  go_enter Tryz.func65, Tryz.ntmps65
  go_wp2
  go_loopw [3, 19] (fun v i wr => ∃ k : Nat, k ≤ xs.length ∧ i = .int .i64 (k : Int) ∧ PtR wr w.heap.size v (Y.take k) ∧ Below w.heap.size w wr) (fun _ i _ => xs.length - (intOf i).toNat)
  case atStart => exact ⟨0, Nat.zero_le _, rfl, World.ownsRow_nil w w.heap.size 117 2, Below.refl _ _⟩
  case round =>
    obtain ⟨k, hk, rfl, hown, hb⟩ := hrel
    have hlen := unhide HTK k hk
    have hwsz := hb.size
    by_cases hlt : k < xs.length
    · have hltI : (k : Int) < (xs.length : Int) := by omega
      obtain rfl := hadr' (by omega)
      obtain ⟨t, q, he, hcl, hst⟩ := unhide HX k hlt
      have hck := hcl wr hb
      have HST := hide hst
      have HIk := hide (unhide HI k wr (by omega) hb)
      have HB := hide hb
      clear hcl hst he hb HX HTK HI HEND HALL hc0 t1
      generalize Y.take k = ps at *
      go_wp2_with fail
      refine (unhide HIk).mono ?_
      rintro e w2 ⟨rfl, b2⟩
      have own2 : w2.ownsRow w.heap.size 117 2 u3 ps.length (ps.flatMap ptC) := own_below hown b2
      have B2 := hide (below_next (unhide HB) b2)
      have hw2 := b2.size
      clear HIk b2 hown HB hck
      go_wp2_with (at_builtin; refine wpList_append_own _ rfl (.tmp 24) (.tmp 29) 114 rfl w.heap.size 117 i0 (.agg #[.string ByteArray.empty, .nilIface]) 2 32 Tryz.underlying114 hi0 hz0 hz1 hz2 rfl (by decide) _ _ _ rfl (own2.alloc _) ⟨w2.heap.size, 0, none⟩ 1 1 [.string (strOf (decT k)), .iface t q] rfl rfl (lit2s _ _ _ _) (one_iface _ _ _) (by unfold maxLen; omega) (by omega) (by simp; omega) ?_)
      intro v3 w3 own3 hg3 _
      have P3 : Hid (PtR w3 w.heap.size v3 (ps ++ [(decT k, .iface t q)])) := PtR.step (by rw [hlen]; exact own3)
      have B3 : Hid (Below w.heap.size w w3) := ((unhide B2).alloc (by omega) _).grown hg3 (by simp; omega) (fun k hk => (own2.lt k hk).1)
      clear own3 hg3 own2 B2
      go_wp2
      go_roundw
      case rel => exact ⟨k + 1, by omega, by go_num, by rw [unhide HST]; exact unhide P3, unhide B3⟩
      case measure => simp [intOf]; omega
    · have hk' : k = xs.length := by omega
      subst hk'
      rw [unhide HALL] at hown
      have HK := hide (unhide HEND wr _ hb hown)
      have HB := hide hb
      clear hown hb HX HTK HI HEND HALL hc0 t1
      go_wp2
      go_ret
      exact ⟨_, rfl, unhide HK, unhide HB⟩
end Go.Proofs.YtadefcohbkgbfabGreatDoor


namespace Go.Proofs.YtadefcohbkgbfabGreatDoor
open Go.RowKit Go.Sort

theorem keysJ (m : JM) : (isort (ctM m)).map (·.1) = (isortJ m.toL).map (·.1) := by
  have e : ctM m = m.toL.map kt := ctM_map m
  rw [e, ← isortJ_kt, List.map_map]
  rfl

set_option maxRecDepth 100000 in
set_option maxHeartbeats 8000000 in
theorem partsOf_obj (m : JM) (htw : twM [] m = false) (ty : TypeId) (p : Value) (w : World) (S : Nat → Prop) (h : Rep w S (.obj m) (.iface ty p)) (hS : ∀ k, S k → k < w.heap.size) (hl : (ct (.obj m)).length ≤ 1000000) :
    Calls Tryz.prog 65 #[.iface ty p] w fun e w' => ∃ r, e = .returned r ∧ KR w' S w.heap.size r (kidsV (.obj m)) ∧ Below w.heap.size w w' := by
  obtain ⟨i0, hi0, hz0, hz1, hz2⟩ := info_parts infoPt
  rw [Rep] at h
  obtain ⟨ob, mb, nn, xs, h, hSob, hSmb, hob, hown, _, hrm⟩ := h
  injection h with h1 h2; subst h1; subst h2
  obtain ⟨hkeys, hrep⟩ := repM_at m xs hrm
  have hnd := (twM_nodup m [] htw).1
  have hnd' : (xs.map (·.1)).Nodup := by rw [hkeys]; exact hnd
  have hperm := keys_perm hown hnd'
  have hmx : m.toL.length = xs.length := by
    have a1 := congrArg List.length hkeys
    rw [keysM_map] at a1
    simp only [List.length_map] at a1
    omega
  have hpl : (isortJ m.toL).length = xs.length := by rw [(isortJ_perm _).length_eq, hmx]
  have hxn : xs.length ≤ 1000000 := by
    have h1 := ctObj_len m
    unfold hold at h1
    have h2 : m.toL.length ≤ (m.toL.map memN).sum := by
      have : ∀ l : List (List UInt8 × JV), l.length ≤ (l.map memN).sum := by
        intro l
        induction l with
        | nil => simp
        | cons q r ih => have h3 : 1 ≤ memN q := (by unfold memN; omega); rw [List.map_cons, List.sum_cons, List.length_cons]; omega
      exact this _
    omega
  have hobB : ob < w.heap.size := hS _ hSob
  have hc0 : w.cell? ⟨ob, 0, none⟩ = some (.map (some mb)) := by rw [Lib.cell_of_heap hob]; rfl
  have hsz : Maps.size (putAll xs) = xs.length := by rw [size_keys hperm, List.length_map]
  have HSK : Hid (Calls Tryz.prog 84 #[.pointer (some ⟨ob, 0, none⟩)] w fun e w' => ∃ v, e = .returned v ∧ w'.ownsRow w.heap.size 9 1 v xs.length (((isortJ m.toL).map (·.1)).map encStr) ∧ Below w.heap.size w w') := by
    refine (sortedKeys_walk ob mb nn (putAll xs) RH w hc0 hown (by rw [hsz]; unfold maxLen; omega) (by rw [hsz]; omega)).mono ?_
    rintro e w' ⟨v, ss, rfl, hss, hrow, _, hb⟩
    have hks : ss.Perm ((ctM m).map (·.1)) := by
      rw [ctM_keys, ← hkeys]; exact hss.trans hperm.symm
    have hl : ss.length = xs.length := by rw [hks.length_eq, ctM_keys, ← hkeys, List.length_map]
    rw [isort_keys hks, hl, keysJ] at hrow
    exact ⟨v, rfl, hrow, hb⟩
  have HMEM : Hid (∀ k (hk : k < (isortJ m.toL).length), ∃ t q, lastV xs (isortJ m.toL)[k].1 = some (.iface t q) ∧ Rep w S (isortJ m.toL)[k].2 (.iface t q) ∧ (isortJ m.toL)[k].1.length ≤ 1000000 ∧ (∀ X : World, Below w.heap.size w X → (Instr.lookup 110 (.map (some mb)) (.string (strOf (isortJ m.toL)[k].1)) false).run Tryz.prog X = .ok (.iface t q) X)) := by
    intro k hk
    have hmem : (isortJ m.toL)[k] ∈ m.toL := (isortJ_perm _).subset (List.getElem_mem hk)
    generalize (isortJ m.toL)[k] = z at *
    obtain ⟨x, hx, hr⟩ := hrep z.1 z.2 hmem
    obtain ⟨t, q, rfl⟩ := rep_iface hr
    have hlast := lastV_of xs hnd' hx
    have hkl : z.1.length ≤ 1000000 := by
      have n1 := sumf_at memN hmem
      simp only [memN] at n1
      have n2 := quoted_ge z.1
      have n3 := ctObj_len m
      omega
    exact ⟨t, q, hlast, hr, hkl, fun X hX => map_get (ownsMap_keep hown (hX.block mb (hS _ hSmb))) z.1 (by omega) _ hlast⟩
  obtain ⟨Y, hY⟩ : ∃ Y : List (List UInt8 × Value), Y = (isortJ m.toL).map fun z => (z.1, (lastV xs z.1).getD .nilIface) := ⟨_, rfl⟩
  have hYl : Y.length = xs.length := by rw [hY, List.length_map, hpl]
  have HEND : Hid (∀ (wr : World) (r : Value), Below w.heap.size w wr → PtR wr w.heap.size r Y → KR wr S w.heap.size r (kidsV (.obj m))) := fun wr r hb hr => by
    refine ⟨Y, ?_, hr, fun j hj hj' => ?_⟩
    · show _ = (isortJ m.toL).length
      rw [hYl, hpl]
    · have hj'' : j < (isortJ m.toL).length := hj'
      show Y[j].1 = (isortJ m.toL)[j].1 ∧ Rep wr S (isortJ m.toL)[j].2 Y[j].2
      obtain ⟨t, q, h1, h2, _⟩ := unhide HMEM j hj''
      have e2 : Y[j] = ((isortJ m.toL)[j].1, .iface t q) := by simp only [hY, List.getElem_map, h1, Option.getD_some]
      rw [e2]
      exact ⟨rfl, Rep.keep (fun k hk => hb.block k (hS k hk)) (fun _ h => h) _ _ h2⟩
  have HX : Hid (∀ k (hk : k < (isortJ m.toL).length), ∃ t q, (∀ X : World, Below w.heap.size w X → (Instr.lookup 110 (.map (some mb)) (.string (strOf (isortJ m.toL)[k].1)) false).run Tryz.prog X = .ok (.iface t q) X) ∧ Y.take (k + 1) = Y.take k ++ [((isortJ m.toL)[k].1, .iface t q)]) := fun k hk => by
    obtain ⟨t, q, h1, _, _, h2⟩ := unhide HMEM k (by omega)
    refine ⟨t, q, h2, ?_⟩
    rw [List.take_succ_eq_append_getElem (by omega)]
    simp only [hY, List.getElem_map, h1, Option.getD_some]
  have HTK : Hid (∀ k, k ≤ xs.length → (Y.take k).length = k) := fun k hk => by rw [List.length_take]; omega
  have HALL : Hid (Y.take xs.length = Y) := List.take_of_length_le (by omega)
  have HC0 : Hid (∀ X : World, Below w.heap.size w X → X.cell? ⟨ob, 0, none⟩ = some (.map (some mb))) := fun X hX => (hX.cell (p := ⟨ob, 0, none⟩) hobB).trans hc0
  have t1 : ∀ w : World, (Instr.typeAssert (.iface 109 (.pointer (some ⟨ob, 0, none⟩))) 54 103 true).run Tryz.prog w = .ok (.tuple #[.pointer none, .bool false]) w := fun _ => by kernel_rfl
  have t2 : ∀ w : World, (Instr.typeAssert (.iface 109 (.pointer (some ⟨ob, 0, none⟩))) 54 109 true).run Tryz.prog w = .ok (.tuple #[.pointer (some ⟨ob, 0, none⟩), .bool true]) w := fun _ => by kernel_rfl
  generalize isortJ m.toL = K at *
  clear hY hown hrm hrep hkeys hnd hnd' hperm hS hob hl hSob hSmb hsz hc0 hobB HMEM htw hmx
  go_enter Tryz.func65, Tryz.ntmps65
  go_wp2_with fail
  refine (unhide HSK).mono ?_
  rintro e w2 ⟨v2, rfl, hrow, b2⟩
  have B2 := hide b2
  have HROW := hide hrow
  obtain ⟨a2, c2, rfl⟩ : ∃ a c, v2 = .slice a xs.length c := by
    rcases hrow.2 with ⟨hv, h0⟩ | ⟨g, cap, cur, hv, _⟩
    · exact ⟨none, 0, by rw [hv, h0]⟩
    · exact ⟨_, _, hv⟩
  have HCELL : Hid (∀ (wr : World), wr.ownsRow w.heap.size 9 1 (.slice a2 xs.length c2) xs.length ((K.map (·.1)).map encStr) → ∀ j (hj : j < K.length), ∃ g, a2 = some ⟨g, 0, none⟩ ∧ wr.cell? ⟨g, j, none⟩ = some (.string (strOf K[j].1))) := fun wr h j hj => by
    rcases h.2 with ⟨hv, h0⟩ | ⟨g, cap, cur, hv, _⟩
    · omega
    · injection hv with hv1 hv2 hv3
      subst hv1
      refine ⟨g, rfl, ?_⟩
      rw [h.cellAt j (by omega)]
      simp [hj]
      rfl
  clear hrow HSK b2 t1 t2
  go_wp2_with fail
  go_loopw [3, 38] (fun v i wr => ∃ k : Nat, k ≤ xs.length ∧ i = .int .i64 (k : Int) ∧ PtR wr w.heap.size v (Y.take k) ∧ wr.ownsRow w.heap.size 9 1 (.slice a2 xs.length c2) xs.length ((K.map (·.1)).map encStr) ∧ Below w.heap.size w wr) (fun _ i _ => xs.length - (intOf i).toNat)
  case atStart => exact ⟨0, Nat.zero_le _, rfl, World.ownsRow_nil w2 w.heap.size 117 2, unhide HROW, unhide B2⟩
  case round =>
    obtain ⟨k, hk, rfl, hown, hrow, hb⟩ := hrel
    have hlen := unhide HTK k hk
    have hwsz := hb.size
    have HR := hide hrow
    clear B2 HROW hrow
    by_cases hlt : k < xs.length
    · have hltI : (k : Int) < (xs.length : Int) := by omega
      have hltK : k < K.length := by omega
      obtain ⟨t, q, hlk, hst⟩ := unhide HX k hltK
      obtain ⟨g, rfl, hck⟩ := unhide HCELL wr (unhide HR) k hltK
      have hlk1 := hlk wr hb
      have hcm := unhide HC0 wr hb
      have HST := hide hst
      have HB := hide hb
      clear hlk hst hb HX HTK HEND HALL HC0 HCELL
      generalize K[k].1 = key at *
      generalize Y.take k = ps at *
      go_wp2_with (at_builtin; refine wpList_append_own _ rfl (.tmp 42) (.tmp 51) 114 rfl w.heap.size 117 i0 (.agg #[.string ByteArray.empty, .nilIface]) 2 32 Tryz.underlying114 hi0 hz0 hz1 hz2 rfl (by decide) _ _ _ rfl (hown.alloc _) ⟨wr.heap.size, 0, none⟩ 1 1 [.string (strOf key), .iface t q] rfl rfl (lit2s _ _ _ _) (one_iface _ _ _) (by unfold maxLen; omega) (by omega) (by simp; omega) ?_)
      intro v3 w3 own3 hg3 _
      have P3 : Hid (PtR w3 w.heap.size v3 (ps ++ [(key, .iface t q)])) := PtR.step (by rw [hlen]; exact own3)
      have B3 : Hid (Below w.heap.size w w3) := ((unhide HB).alloc (by omega) _).grown hg3 (by simp; omega) (fun k hk => (hown.lt k hk).1)
      have R3 : Hid (w3.ownsRow w.heap.size 9 1 (.slice (some ⟨g, 0, none⟩) xs.length c2) xs.length ((K.map (·.1)).map encStr)) := ((unhide HR).alloc _).kept hg3 (own_apart (unhide HR) hown (by decide))
      clear own3 hg3 hown HB HR hck hcm hlk1
      go_wp2
      go_roundw
      case rel => exact ⟨k + 1, by omega, by go_num, by rw [unhide HST]; exact unhide P3, unhide R3, unhide B3⟩
      case measure => simp [intOf]; omega
    · have hk' : k = xs.length := by omega
      subst hk'
      rw [unhide HALL] at hown
      have HK := hide (unhide HEND wr _ hb hown)
      have HB := hide hb
      clear hown hb HX HTK HEND HALL HC0 HCELL HR
      go_wp2
      go_ret
      exact ⟨_, rfl, unhide HK, unhide HB⟩

set_option maxRecDepth 100000 in
set_option maxHeartbeats 2000000 in
theorem partsOf_walk (v : JV) (htw : twV v = false) (ty : TypeId) (p : Value) (w : World) (S : Nat → Prop) (h : Rep w S v (.iface ty p)) (hS : ∀ k, S k → k < w.heap.size) (hP : PowB w.heap.size w) (hl : (ct v).length ≤ 1000000) :
    Calls Tryz.prog 65 #[.iface ty p] w fun e w' => ∃ r, e = .returned r ∧ KR w' S w.heap.size r (kidsV v) ∧ Below w.heap.size w w' := by
  have leaf : (∀ w : World, (Instr.typeAssert (.iface ty p) 54 103 true).run Tryz.prog w = .ok (.tuple #[.pointer none, .bool false]) w) → (∀ w : World, (Instr.typeAssert (.iface ty p) 54 109 true).run Tryz.prog w = .ok (.tuple #[.pointer none, .bool false]) w) → kidsV v = [] →
      Calls Tryz.prog 65 #[.iface ty p] w fun e w' => ∃ r, e = .returned r ∧ KR w' S w.heap.size r (kidsV v) ∧ Below w.heap.size w w' := fun h1 h2 hc => by
    rw [hc]
    clear hc h hl
    go_enter Tryz.func65, Tryz.ntmps65
    go_wp2
    go_ret
    exact ⟨_, rfl, ⟨[], rfl, World.ownsRow_nil w w.heap.size 117 2, fun j h => absurd h (by simp)⟩, Below.refl _ _⟩
  cases v with
  | nul => rw [Rep] at h; injection h with a b; subst a; subst b; exact leaf (fun _ => by kernel_rfl) (fun _ => by kernel_rfl) rfl
  | tt => rw [Rep] at h; injection h with a b; subst a; subst b; exact leaf (fun _ => by kernel_rfl) (fun _ => by kernel_rfl) rfl
  | ff => rw [Rep] at h; injection h with a b; subst a; subst b; exact leaf (fun _ => by kernel_rfl) (fun _ => by kernel_rfl) rfl
  | num l => rw [Rep] at h; obtain ⟨z, h, _⟩ := h; injection h with a b; subst a; subst b; exact leaf (fun _ => by kernel_rfl) (fun _ => by kernel_rfl) rfl
  | str l => rw [Rep] at h; injection h with a b; subst a; subst b; exact leaf (fun _ => by kernel_rfl) (fun _ => by kernel_rfl) rfl
  | arr l => exact partsOf_arr l ty p w S h hS hP hl
  | obj m => rw [twV] at htw; exact partsOf_obj m htw ty p w S h hS hl
end Go.Proofs.YtadefcohbkgbfabGreatDoor


namespace Go.Proofs.YtadefcohbkgbfabGreatDoor
open Go.RowKit Go.Sort

theorem one_textI (k : List UInt8) (w : World) (hk : k.length ≤ 1000000) (g : Nat) (c : w.cell? ⟨g, 0, none⟩ = some (.string (strOf k))) :
    Calls Tryz.prog 66 #[.slice (some ⟨g, 0, none⟩) 1 1] w fun e w' => e = .returned (.string (strOf (47 :: esc k))) ∧ Below w.heap.size w w' := by
  have h : SS w (some ⟨g, 0, none⟩) g 0 [strOf k] := ⟨fun _ => rfl, fun j hj => by
    have : j = 0 := by simp at hj; omega
    subst this; exact c⟩
  have ht : [strOf k].length + tot [strOf k] ≤ 1048576 := by simp [tot, strOf_size]; omega
  have e : ptrText [strOf k] = 47 :: esc k := by simp [ptrText, strOf_toList]
  have := implText_walk (some ⟨g, 0, none⟩) g 0 1 [strOf k] w h ht
  rw [e] at this
  exact this
/-- Old blocks under B and all blocks of parts are kept. -/
def PF (B : Nat) (w w' : World) : Prop := Below B w w' ∧ ∀ (g : Nat) (cs : Array Value), w.heap[g]? = some (.cells cs 117 (0, 0)) → w'.heap[g]? = some (.cells cs 117 (0, 0))
theorem PF.refl (B : Nat) (w : World) : PF B w w := ⟨Below.refl _ _, fun _ _ h => h⟩
theorem PF.trans {B : Nat} {a b c : World} (h : PF B a b) (k : PF B b c) : PF B a c := ⟨h.1.trans k.1, fun g cs hg => k.2 g cs (h.2 g cs hg)⟩
theorem PF.of_below {B : Nat} {w w' : World} (h : Below w.heap.size w w') (hB : B ≤ w.heap.size) : PF B w w' := ⟨h.mono hB, fun g _ hg => (h.block g (Array.getElem?_eq_some_iff.1 hg).1).trans hg⟩
theorem PF.grown {B n : Nat} {w w' : World} {v : Value} {xs : List Value} (h : w.ownsRow B 9 1 v n xs) (hg : w.grownBy w' v.ownBlock) (hB : B ≤ w.heap.size) : PF B w w' := by
  refine ⟨(Below.refl B w).grown hg hB (fun k hk => (h.lt k hk).1), fun g cs hgc => ?_⟩
  refine (hg.block g (Array.getElem?_eq_some_iff.1 hgc).1 (fun e => ?_)).trans hgc
  rcases h.2 with ⟨hv, _⟩ | ⟨g', cap, cur, hv, _, hg', _⟩
  · subst hv; cases e
  · subst hv
    injection e with e
    simp only at e
    subst e
    rw [hgc] at hg'
    injection hg' with e
    injection e with _ e
    exact absurd e (by decide)
theorem PtR.pf {B B' : Nat} {w w' : World} {r : Value} {ys : List (List UInt8 × Value)} (h : PtR w B' r ys) (f : PF B w w') : PtR w' B' r ys := by
  refine ⟨h.1, ?_⟩
  rcases h.2 with hn | ⟨g, cap, cur, hv, hb, hg, rest⟩
  · exact .inl hn
  · exact .inr ⟨g, cap, cur, hv, hb, f.2 g _ hg, rest⟩

set_option maxRecDepth 100000 in
set_option maxHeartbeats 2000000 in
/-- The program's places. -/
theorem places_walk : ∀ (n : Nat) (v : JV) (p : List UInt8) (acc : List (List UInt8)) (pv : Value) (w : World) (ty : TypeId) (q : Value) (B : Nat) (S : Nat → Prop), okV v → twV v = false → depV v ≤ n → (ct v).length ≤ 1000000 → p.length + 2 * (ct v).length ≤ 4000000 → acc.length + cntV v ≤ 1000000 →
    OT w B pv acc → Rep w S v (.iface ty q) → (∀ k, S k → k < B) → B ≤ w.heap.size → PowB B w →
    Calls Tryz.prog 41 #[pv, .string (strOf p), .iface ty q] w fun e w' => ∃ r, e = .returned r ∧ OT w' B r (acc ++ plF n p v) ∧ PF B w w' := by
  intro n
  induction n with
  | zero => intro v p acc pv w ty q B S _ _ h; have := (dep_cnt v).2; omega
  | succ n ih =>
    intro v p acc pv w ty q B S hok htw hd hl0 hl hc hown hrep hS hB hP
    obtain ⟨i0, hi, hz0, hz1, hz2⟩ := info_parts infoString
    have HPO : Hid (∀ w1, PF B w w1 → Calls Tryz.prog 65 #[.iface ty q] w1 fun e w' => ∃ r, e = .returned r ∧ KR w' S w1.heap.size r (kidsV v) ∧ Below w1.heap.size w1 w') := fun w1 f => by
      have hs := f.1.size
      refine partsOf_walk v htw ty q w1 S (Rep.keep (fun k hk => f.1.block k (hS k hk)) (fun _ h => h) _ _ hrep) (fun k hk => by have := hS k hk; omega) ((hP.next f.1 (Nat.le_refl _)).more (by omega)) (by omega)
    have HREC : Hid (∀ k (hk : k < (kidsV v).length) (wr : World) (u : Value) (acc' : List (List UInt8)) (t' : TypeId) (q' : Value), OT wr B u acc' → acc'.length + cntV (kidsV v)[k].2 ≤ 1000000 → Rep wr S (kidsV v)[k].2 (.iface t' q') → PF B w wr →
        Calls Tryz.prog 41 #[u, .string (strOf (ptrN p (kidsV v)[k].1)), .iface t' q'] wr fun e w' => ∃ r, e = .returned r ∧ OT w' B r (acc' ++ plF n (ptrN p (kidsV v)[k].1) (kidsV v)[k].2) ∧ PF B wr w') := fun k hk wr u acc' t' q' ho ha hr f => by
      obtain ⟨a, b, c, d⟩ := kids_ok hok htw (List.getElem_mem hk)
      have e1 := ptrN_len p (kidsV v)[k].1
      have hs := f.1.size
      exact ih _ _ acc' u wr t' q' B S a b (by omega) (by omega) (by omega) ha ho hr hS (by omega) (hP.next f.1 (Nat.le_refl _))
    have HLN : Hid (∀ k (hk : k < (kidsV v).length), (kidsV v)[k].1.length ≤ 1000000 ∧ (ptrN p (kidsV v)[k].1).length ≤ 4000000 ∧ acc.length + 1 + (((kidsV v).take k).flatMap fun q => plF n (ptrN p q.1) q.2).length + cntV (kidsV v)[k].2 ≤ 1000000) := fun k hk => by
      obtain ⟨a, b, c, d⟩ := kids_ok hok htw (List.getElem_mem hk)
      have e1 := ptrN_len p (kidsV v)[k].1
      refine ⟨by omega, by omega, ?_⟩
      rw [flatK_len _ (fun q => cntV q.2) _ (fun q hq => by
        obtain ⟨a, b, c, _⟩ := kids_ok hok htw (List.mem_of_mem_take hq)
        exact plF_len a b (by omega))]
      have := kids_take_cnt v (k + 1)
      rw [List.take_succ_eq_append_getElem hk, List.map_append, List.sum_append] at this
      simp only [List.map_cons, List.map_nil, List.sum_cons, List.sum_nil] at this
      omega
    have HF : Hid (∀ k (hk : k < (kidsV v).length), (((kidsV v).take (k + 1)).flatMap fun q => plF n (ptrN p q.1) q.2) = (((kidsV v).take k).flatMap fun q => plF n (ptrN p q.1) q.2) ++ plF n (ptrN p (kidsV v)[k].1) (kidsV v)[k].2) := fun k hk => flat_take (fun q : List UInt8 × JV => plF n (ptrN p q.1) q.2) (kidsV v) k hk
    have HE : Hid (plF (n + 1) p v = p :: (((kidsV v).take (kidsV v).length).flatMap fun q => plF n (ptrN p q.1) q.2)) := by
      show _ = _
      rw [plF_eq, List.take_of_length_le (Nat.le_refl _)]
    generalize plF (n + 1) p v = R at *
    have hkl : (kidsV v).length ≤ 1000000 := by
      have h2 : (kidsV v).length ≤ ((kidsV v).map fun q => cntV q.2).sum := by
        have : ∀ l : List (List UInt8 × JV), l.length ≤ (l.map fun q => cntV q.2).sum := by
          intro l
          induction l with
          | nil => simp
          | cons q r ih => have h3 := (dep_cnt q.2); rw [List.map_cons, List.sum_cons, List.length_cons]; omega
        exact this _
      have h4 := kids_cnt v
      omega
    generalize kidsV v = K at *
    have hal : acc.length ≤ 1000000 := by omega
    have hpl : p.length ≤ 4000000 := by omega
    have HS := hide hS
    clear hok htw hd ih hrep hS hP hl hc hl0
    go_enter Tryz.func41, Tryz.ntmps41
    go_wp2_with (at_builtin; refine wpList_append_own _ rfl (.tmp 9) (.tmp 11) 32 rfl B 9 i0 (.string ByteArray.empty) 1 16 Tryz.underlying32 hi hz0 hz1 hz2 rfl (by decide) _ _ _ rfl (hown.alloc _) ⟨w.heap.size, 0, none⟩ 1 1 [.string (strOf p)] rfl rfl (lit1 _ _ _) (one_tok _) (by unfold maxLen; omega) (by omega) (by simp; omega) ?_)
    intro v1 w1 own1 hg1 _
    have O1 : Hid (OT w1 B v1 (acc ++ [p])) := OT.step (t := p) own1
    have F1 : Hid (PF B w w1) := (PF.of_below ((Below.refl _ _).alloc (Nat.le_refl _) _) hB).trans (PF.grown (hown.alloc _) hg1 (by simp; omega))
    have HP1 := hide (unhide HPO w1 (unhide F1))
    clear own1 hg1 hown HPO
    go_wp2_with fail
    refine (unhide HP1).mono ?_
    rintro e w2 ⟨r2, rfl, ⟨ys, hyl, hyr, hyk⟩, b2⟩
    obtain ⟨x2, cap2, rfl⟩ := hyr.shape
    have hw1 := (unhide F1).1.size
    have F2 : Hid (PF B w w2) := (unhide F1).trans (PF.of_below b2 (by omega))
    have O2 : Hid (OT w2 B v1 (acc ++ [p])) := own_below (unhide O1) b2
    have HYR := hide hyr
    have HYK := hide hyk
    have HYL := hide hyl
    have hyn : ys.length ≤ 1000000 := by omega
    clear HP1 O1 F1 b2 hyr hyk hyl
    go_wp2_with fail
    go_loopw [0, 16] (fun u i wr => ∃ k : Nat, k ≤ ys.length ∧ i = .int .i64 (k : Int) ∧ OT wr B u (acc ++ [p] ++ ((K.take k).flatMap fun q => plF n (ptrN p q.1) q.2)) ∧ PF B w2 wr) (fun _ i _ => ys.length - (intOf i).toNat)
    case atStart => exact ⟨0, Nat.zero_le _, rfl, by simpa using unhide O2, PF.refl _ _⟩
    case round =>
      obtain ⟨k, hk, rfl, ho, hf⟩ := hrel
      clear O2
      by_cases hlt : k < ys.length
      · have hltI : (k : Int) < (ys.length : Int) := by omega
        have hltK : k < K.length := by have := unhide HYL; omega
        obtain ⟨g, cap', he, hgB, hgl, c0, c1⟩ := ((unhide HYR).pf hf).cells k hlt
        obtain ⟨y1, y2⟩ := unhide HYK k hlt hltK
        obtain ⟨t', q', hx⟩ := rep_iface y2
        injection he with he1 he2 he3
        subst he1; subst he3
        rw [hx] at c1 y2
        rw [y1] at c0
        obtain ⟨l1, l2, l3⟩ := unhide HLN k hltK
        have HFk := hide (unhide HF k hltK)
        have HRk : Hid (∀ (wr : World) (u : Value) (acc' : List (List UInt8)), OT wr B u acc' → acc'.length + cntV K[k].2 ≤ 1000000 → PF B w2 wr →
            Calls Tryz.prog 41 #[u, .string (strOf (ptrN p K[k].1)), .iface t' q'] wr fun e w' => ∃ r, e = .returned r ∧ OT w' B r (acc' ++ plF n (ptrN p K[k].1) K[k].2) ∧ PF B wr w') := fun wr u acc' ho ha f => unhide HREC k hltK wr u acc' t' q' ho ha (Rep.keep (fun j hj => f.1.block j (unhide HS j hj)) (fun _ h => h) _ _ y2) ((unhide F2).trans f)
        have hal2 : (acc ++ [p] ++ ((K.take k).flatMap fun q => plF n (ptrN p q.1) q.2)).length + cntV K[k].2 ≤ 1000000 := by
          simp only [List.length_append, List.length_cons, List.length_nil]; omega
        have HEK : Hid (acc ++ [p] ++ ((K.take (k + 1)).flatMap fun q => plF n (ptrN p q.1) q.2) = (acc ++ [p] ++ ((K.take k).flatMap fun q => plF n (ptrN p q.1) q.2)) ++ plF n (ptrN p K[k].1) K[k].2) := by
          show _ = _
          rw [unhide HFk]; simp
        have hcat : strOf p ++ strOf (47 :: esc K[k].1) = strOf (ptrN p K[k].1) := strOf_app _ _
        have hzz : (9223372036854775807 < (strOf p).size + (strOf (47 :: esc K[k].1)).size) = False := eq_false (by
          rw [strOf_size, strOf_size]
          have := esc_le K[k].1
          simp only [List.length_cons]; omega)
        have HT : Hid (∀ (w : World) (g : Nat), w.cell? ⟨g, 0, none⟩ = some (.string (strOf K[k].1)) → Calls Tryz.prog 66 #[.slice (some ⟨g, 0, none⟩) 1 1] w fun e w' => e = .returned (.string (strOf (47 :: esc K[k].1))) ∧ Below w.heap.size w w') := fun w g c => one_textI K[k].1 w l1 g c
        have HO := hide ho
        have HFF := hide hf
        clear y1 y2 hx HFk HREC HLN HF HE HYK l1 l2 l3 ho hf
        generalize acc ++ [p] ++ ((K.take k).flatMap fun q => plF n (ptrN p q.1) q.2) = A at *
        generalize plF n (ptrN p K[k].1) K[k].2 = Z at *
        generalize cntV K[k].2 = cz at *
        generalize strOf (ptrN p K[k].1) = np at *
        generalize strOf (47 :: esc K[k].1) = tk at *
        generalize strOf K[k].1 = key at *
        go_wp2_with fail
        have hXs : (wr.alloc (.cells #[.string key, .iface t' q'] 117)).heap.size = wr.heap.size + 1 := by simp
        have cx0 : (wr.alloc (.cells #[.string key, .iface t' q'] 117)).cell? ⟨wr.heap.size, 0, none⟩ = some (.string key) := lit2 wr 117 (.string key) (.iface t' q') 0 _ rfl
        have cx1 : (wr.alloc (.cells #[.string key, .iface t' q'] 117)).cell? ⟨wr.heap.size, 1, none⟩ = some (.iface t' q') := lit2 wr 117 (.string key) (.iface t' q') 1 _ rfl
        have OX : Hid (OT (wr.alloc (.cells #[.string key, .iface t' q'] 117)) B u0 A) := (unhide HO).alloc _
        have hBw : B ≤ wr.heap.size := by
          have a1 := (unhide F2).1.size
          have a2 := (unhide HFF).1.size
          omega
        have FX : Hid (PF B w2 (wr.alloc (.cells #[.string key, .iface t' q'] 117))) := (unhide HFF).trans (PF.of_below ((Below.refl _ _).alloc (Nat.le_refl _) _) hBw)
        generalize wr.alloc (.cells #[.string key, .iface t' q'] 117) = X at *
        generalize hh : wr.heap.size = h at *
        clear c0 c1 HO HFF hgl hgB he2 hh
        have hhX : h < X.heap.size := by omega
        have hhne : ¬ h = X.heap.size := by omega
        have bA0 : Below X.heap.size X (X.alloc (.cells #[.string key] 9)) := (Below.refl _ _).alloc (Nat.le_refl _) _
        have bA : Below X.heap.size X ((X.alloc (.cells #[.string key] 9)).drew) := bA0.drew
        have a0 : (X.alloc (.cells #[.string key] 9)).cell? ⟨h, 0, none⟩ = some (.string key) := (bA0.cell (p := ⟨h, 0, none⟩) hhX).trans cx0
        have a1 : (X.alloc (.cells #[.string key] 9)).cell? ⟨h, 1, none⟩ = some (.iface t' q') := (bA0.cell (p := ⟨h, 1, none⟩) hhX).trans cx1
        have aT : ((X.alloc (.cells #[.string key] 9)).drew).cell? ⟨X.heap.size, 0, none⟩ = some (.string key) := lit1 X 9 (.string key) 0 _ rfl
        have HBA := hide bA
        have HTA := hide (unhide HT _ _ aT)
        have HXS := hide hXs
        clear bA HT bA0 aT hXs
        go_region_law (first
            | (go_simp; refine (unhide HRk _ u0 A O4 hal2 F4).mono ?_; rintro e w5 ⟨r5, rfl, o5, f5⟩)
            | (go_simp; refine (unhide HTA).mono ?_; rintro e w4 ⟨rfl, b4⟩
               have b4' := below_next (unhide HBA) b4
               have k0 : w4.cell? ⟨h, 0, none⟩ = some (.string key) := (b4'.cell (p := ⟨h, 0, none⟩) hhX).trans cx0
               have k1 : w4.cell? ⟨h, 1, none⟩ = some (.iface t' q') := (b4'.cell (p := ⟨h, 1, none⟩) hhX).trans cx1
               have O4 := own_below (unhide OX) b4'
               have F4 := (unhide FX).trans (PF.of_below b4' (by omega))))
        all_goals
          have o5' : OT w5 B r5 (acc ++ [p] ++ ((K.take (k + 1)).flatMap fun q => plF n (ptrN p q.1) q.2)) := by rw [unhide HEK]; exact o5
          have F5 := F4.trans f5
          have O5 := hide o5'
          have FF5 := hide F5
          clear o5 f5 F5 o5' O4 F4 OX FX k0 k1 b4 b4' HBA HTA HRk cx0 cx1 a0 a1
          go_wp2
          go_roundw
        all_goals first
          | exact ⟨k + 1, by omega, by go_num, unhide O5, unhide FF5⟩
          | (simp [intOf]; omega)
      · have hk' : k = ys.length := by omega
        subst hk'
        have e : acc ++ [p] ++ ((K.take ys.length).flatMap fun q => plF n (ptrN p q.1) q.2) = acc ++ R := by
          rw [unhide HE, unhide HYL]; simp
        rw [e] at ho
        have HO := hide ho
        have HFE := hide ((unhide F2).trans hf)
        clear ho hf e HREC HLN HF HE HYK
        go_wp2
        go_ret
        exact ⟨_, rfl, unhide HO, unhide HFE⟩
end Go.Proofs.YtadefcohbkgbfabGreatDoor

