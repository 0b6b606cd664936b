import Derived.Test.YtocnekbedcnmgaaGreatDoorBf41
import Derived.Test.YtocnekbedcnmgaaGreatDoorBf35
import Derived.Test.YtocnekbedcnmgaaGreatDoorBf39
import Derived.Test.YtocnekbedcnmgaaGreatDoorBf26
import Derived.Test.YtocnekbedcnmgaaGreatDoorBf34
import Derived.Test.YtocnekbedcnmgaaGreatDoorBf10
import Derived.Test.YtocnekbedcnmgaaGreatDoorBf23
import Derived.Test.YtocnekbedcnmgaaGreatDoorBf40
namespace Go.Proofs.YtocnekbedcnmgaaGreatDoor
open Go.RowKit

theorem addP_ptrP : ∀ (us ts : List (List UInt8)), addP (ptrP ts) us = ptrP (ts ++ us)
  | [], ts => by simp [addP]
  | k :: r, ts => by rw [addP, ← ptrP_snoc, addP_ptrP r, List.append_assoc]; rfl
theorem ptoks_addP (ts : List (List UInt8)) : ptoks (addP [] ts) = some ts := by
  have := addP_ptrP ts []
  rw [show ptrP [] = [] from rfl] at this
  rw [this, List.nil_append]
  exact ptoks_text ts
/-- Where two values differ there is a place, and its pointer is not too long. -/
theorem chF_at : ∀ (n : Nat) (p : List UInt8) (a b : JV), okV a → okV b → twV a = false → twV b = false → ∀ q ∈ chF n p a b, ∃ ts, q = addP p ts ∧ q.length ≤ p.length + 2 * max (ct a).length (ct b).length
  | 0, p, a, b, _, _, _, _, q, h => by simp [chF] at h
  | n + 1, p, a, b, oa, ob, ta, tb, q, h => by
    by_cases hc : comp a b = true
    · rw [chF_comp hc] at h
      obtain ⟨key, hk, hq⟩ := List.mem_flatMap.1 h
      have hl := ptrN_len p key
      have hlen : key.length + 1 ≤ max (ct a).length (ct b).length := by
        rcases keys2_in hc hk with h1 | h1
        · obtain ⟨x, hx, rfl⟩ := List.mem_map.1 h1
          have := (kids_ok oa ta hx).2.2.2
          omega
        · obtain ⟨x, hx, rfl⟩ := List.mem_map.1 h1
          have := (kids_ok ob tb hx).2.2.2
          omega
      have hone : q = ptrN p key → ∃ ts, q = addP p ts ∧ q.length ≤ p.length + 2 * max (ct a).length (ct b).length := fun e => ⟨[key], by rw [e]; rfl, by rw [e]; omega⟩
      unfold chK at hq
      cases hu : findK (kidsV a) key with
      | none =>
        rw [hu] at hq
        exact hone (by simpa using hq)
      | some u =>
        cases hv : findK (kidsV b) key with
        | none =>
          rw [hu, hv] at hq
          exact hone (by simpa using hq)
        | some v =>
          rw [hu, hv] at hq
          obtain ⟨o1, o2, _, o4⟩ := kids_ok oa ta (findK_mem hu)
          obtain ⟨o5, o6, _, o8⟩ := kids_ok ob tb (findK_mem hv)
          obtain ⟨ts, e, hlq⟩ := chF_at n (ptrN p key) u v o1 o5 o2 o6 q hq
          simp only at o4 o8
          exact ⟨key :: ts, e, by omega⟩
    · rw [chF, if_neg hc] at h
      split at h
      · simp at h
      · obtain rfl : q = p := by simpa using h
        exact ⟨[], rfl, by omega⟩
/-- The operation for a change. -/
def dOp (a b : JV) (p : List UInt8) : POp := match getV b ((ptoks p).getD []) with
  | none => ⟨2, strOf p, ⟨#[]⟩, ⟨#[]⟩⟩
  | some v => match getV a ((ptoks p).getD []) with
    | none => ⟨1, strOf p, ⟨#[]⟩, strOf (ct v)⟩
    | some _ => ⟨3, strOf p, ⟨#[]⟩, strOf (ct v)⟩
/-- What Diff answers. -/
def difL (s t : ByteArray) : List POp := match readR s, readR t with
  | .inr a, .inr b => if 100 < (chgL s t).length then [⟨3, ⟨#[]⟩, ⟨#[]⟩, strOf (ct b)⟩] else (chgL s t).map (dOp a b)
  | _, _ => []
theorem dif_len (s t : ByteArray) : (difL s t).length ≤ 100 := by
  unfold difL
  split
  · split
    · simp
    · rw [List.length_map]; omega
  · simp
theorem dif_no {s t : ByteArray} (h : chgB s t = false) : difL s t = [] := by
  revert h
  unfold chgB difL
  cases readR s <;> cases readR t <;> simp
theorem dif_yes {s t : ByteArray} (h : chgB s t = true) : ∃ a b, readR s = .inr a ∧ readR t = .inr b ∧ (100 < (chgL s t).length → difL s t = [⟨3, ⟨#[]⟩, ⟨#[]⟩, strOf (ct b)⟩]) ∧ (¬ 100 < (chgL s t).length → difL s t = (chgL s t).map (dOp a b)) := by
  revert h
  unfold chgB
  cases hs : readR s with
  | inl c => cases readR t <;> simp
  | inr a =>
    cases ht : readR t with
    | inl c => simp
    | inr b =>
      intro _
      refine ⟨a, b, rfl, rfl, fun h => ?_, fun h => ?_⟩
      · unfold difL; rw [hs, ht]; simp only; rw [if_pos h]
      · unfold difL; rw [hs, ht]; simp only; rw [if_neg h]
/-- The pointers of the changes. -/
theorem chgL_at {s t : ByteArray} {p : List UInt8} (hp : p ∈ chgL s t) : ∃ ts, ptoks p = some ts ∧ p.length ≤ 40000 := by
  unfold chgL at hp
  cases hs : readR s with
  | inl c => rw [hs] at hp; simp at hp
  | inr a =>
    cases ht : readR t with
    | inl c => rw [hs, ht] at hp; simp at hp
    | inr b =>
      rw [hs, ht] at hp
      have ga := GdV.of hs
      have gb := GdV.of ht
      obtain ⟨ts, rfl, hl⟩ := chF_at _ _ _ _ ga.ok gb.ok ga.tw gb.tw p hp
      refine ⟨ts, ptoks_addP ts, ?_⟩
      have := ga.len
      have := gb.len
      simp at hl
      omega
/-- What spec.Resolve answers at a change's pointer. -/
theorem res_at {s : ByteArray} {a : JV} (h : readR s = .inr a) {p : List UInt8} {ts : List (List UInt8)} (hp : ptoks p = some ts) : resV s (strOf p) = match getV a ts with
    | none => .tuple #[.string ⟨#[]⟩, .int .i64 3]
    | some u => .tuple #[.string (strOf (ct u)), .int .i64 0] := by
  unfold resV
  rw [h]
  simp only
  rw [show (strOf p).data.toList = p from by simp [strOf], hp]
  rfl
end Go.Proofs.YtocnekbedcnmgaaGreatDoor


namespace Go.Proofs.YtocnekbedcnmgaaGreatDoor
open Go.RowKit

end Go.Proofs.YtocnekbedcnmgaaGreatDoor


namespace Go.Proofs.YtocnekbedcnmgaaGreatDoor
open Go.RowKit Go.Sort

end Go.Proofs.YtocnekbedcnmgaaGreatDoor


namespace Go.Proofs.YtocnekbedcnmgaaGreatDoor
open Go.RowKit

end Go.Proofs.YtocnekbedcnmgaaGreatDoor


namespace Go.Proofs.YtocnekbedcnmgaaGreatDoor
open Go.RowKit

set_option maxRecDepth 100000 in
set_option maxHeartbeats 4000000 in
theorem specDiff_walk (s t : ByteArray) (w : World) (hs : s.size ≤ 1048576) (ht : t.size ≤ 1048576) :
    Calls Tryz.prog 14 #[.string s, .string t] w fun e w' => ∃ v, e = .returned (.tuple #[v, .bool (chgB s t)]) ∧ OPr w' w.heap.size v (difL s t) ∧ Below w.heap.size w w' := by
  obtain ⟨i0, hi, hz0, hz1, hz2⟩ := info_parts infoPOp
  have hA := alloc_b w (.cells #[] 59)
  have HE0 : Hid (OPr (w.alloc (.cells #[] 59)) w.heap.size (.slice (some ⟨w.heap.size, 0, none⟩) 0 0) []) := empty_row w 59 4
  have HCH := hide (specChanges_walk s t (w.alloc (.cells #[] 59)) hs ht)
  have hlen := chg_len s t
  have HA := hide hA
  have zA : (w.alloc (.cells #[] 59)).heap.size = w.heap.size + 1 := by simp
  have HZA := hide zA
  clear hA zA
  cases hb : chgB s t with
  | false =>
    have HN := hide (dif_no hb)
    rw [hb] at HCH
    clear hb hlen
    go_enter Tryz.func14, Tryz.ntmps14
    go_wp2_with fail
    refine (unhide HCH).mono ?_
    rintro e w2 ⟨v2, rfl, -, b2⟩
    have HB2 := hide (below_next (unhide HA) b2)
    have HO2 : Hid (OPr w2 w.heap.size (.slice (some ⟨w.heap.size, 0, none⟩) 0 0) []) := own_below (unhide HE0) b2
    clear b2 HCH HE0
    go_wp2
    go_ret2
    exact ⟨_, rfl, by rw [unhide HN]; exact unhide HO2, unhide HB2⟩
  | true =>
    obtain ⟨a, b, hra, hrb, hbig, hsml⟩ := dif_yes hb
    rw [hb] at HCH
    have HCN : Hid (∀ wx, Calls Tryz.prog 21 #[.string t] wx fun e w' => e = .returned (.tuple #[.string (strOf (ct b)), .int .i64 0]) ∧ Below wx.heap.size wx w') := fun wx => by
      have := specCanon_walk t wx ht
      unfold canonV at this
      rw [hrb] at this
      exact this
    have HRS : Hid (∀ k (hk : k < (chgL s t).length), ∃ (xa xb : ByteArray) (ca cb : Int), (∀ wx, Calls Tryz.prog 43 #[.string s, .string (strOf (chgL s t)[k])] wx fun e w' => e = .returned (.tuple #[.string xa, .int .i64 ca]) ∧ Below wx.heap.size wx w') ∧ (∀ wx, Calls Tryz.prog 43 #[.string t, .string (strOf (chgL s t)[k])] wx fun e w' => e = .returned (.tuple #[.string xb, .int .i64 cb]) ∧ Below wx.heap.size wx w') ∧
        (cb ≠ 0 ∧ dOp a b (chgL s t)[k] = ⟨2, strOf (chgL s t)[k], ⟨#[]⟩, xb⟩ ∨ cb = 0 ∧ ca ≠ 0 ∧ dOp a b (chgL s t)[k] = ⟨1, strOf (chgL s t)[k], ⟨#[]⟩, xb⟩ ∨ cb = 0 ∧ ca = 0 ∧ dOp a b (chgL s t)[k] = ⟨3, strOf (chgL s t)[k], ⟨#[]⟩, xb⟩)) := fun k hk => by
      obtain ⟨ts, hts, hl⟩ := chgL_at (List.getElem_mem hk)
      have hsz : (strOf (chgL s t)[k]).size ≤ 1048576 := by rw [strOf_size]; omega
      have w1 := fun wx => specResolve_walk s (strOf (chgL s t)[k]) wx hs hsz
      have w2 := fun wx => specResolve_walk t (strOf (chgL s t)[k]) wx ht hsz
      rw [res_at hra hts] at w1
      rw [res_at hrb hts] at w2
      unfold dOp
      rw [hts]
      simp only [Option.getD_some]
      cases hva : getV a ts with
      | none =>
        rw [hva] at w1
        cases hvb : getV b ts with
        | none => rw [hvb] at w2; exact ⟨_, _, _, _, w1, w2, .inl ⟨by decide, rfl⟩⟩
        | some v => rw [hvb] at w2; exact ⟨_, _, _, _, w1, w2, .inr (.inl ⟨rfl, by decide, rfl⟩)⟩
      | some u =>
        rw [hva] at w1
        cases hvb : getV b ts with
        | none => rw [hvb] at w2; exact ⟨_, _, _, _, w1, w2, .inl ⟨by decide, rfl⟩⟩
        | some v => rw [hvb] at w2; exact ⟨_, _, _, _, w1, w2, .inr (.inr ⟨rfl, rfl, rfl⟩)⟩
    have HBIG := hide hbig
    have HSML := hide hsml
    clear hb hra hrb hbig hsml hs ht
    generalize chgL s t = L at *
    generalize difL s t = R at *
    generalize dOp a b = D at *
    generalize strOf (ct b) = cB at *
    go_enter Tryz.func14, Tryz.ntmps14
    go_wp2_with fail
    refine (unhide HCH).mono ?_
    rintro e w2 ⟨v2, rfl, o2, b2⟩
    have hz2w := b2.size
    have HB2 := hide (below_next (unhide HA) b2)
    have HO2 : Hid (OPr w2 w.heap.size (.slice (some ⟨w.heap.size, 0, none⟩) 0 0) []) := own_below (unhide HE0) b2
    obtain ⟨xa, xg, xc, rfl, -, -⟩ := OT.shape o2
    have HT2 := hide o2
    have hzA := unhide HZA
    rw [hzA] at HT2
    clear b2 HCH HE0 o2 HA hzA
    by_cases h100 : 100 < L.length
    · have t1 : (100 : Int) < (L.length : Int) := by omega
      have HR := hide (unhide HBIG h100)
      clear HBIG HSML HRS h100 HT2
      go_wp2_with fail
      refine (unhide HCN _).mono ?_
      rintro e w3 ⟨rfl, b3⟩
      have HB3 := hide (below_next (unhide HB2) b3)
      have HO3 : Hid (OPr w3 w.heap.size (.slice (some ⟨w.heap.size, 0, none⟩) 0 0) []) := own_below (unhide HO2) b3
      have bM := alloc_b w3 (.cells (opCs ⟨3, ⟨#[]⟩, ⟨#[]⟩, cB⟩) 59)
      have HOM : Hid (OPr (w3.alloc (.cells (opCs ⟨3, ⟨#[]⟩, ⟨#[]⟩, cB⟩) 59)) w.heap.size (.slice (some ⟨w.heap.size, 0, none⟩) 0 0) []) := own_below (unhide HO3) bM
      have HBM := hide (below_next (unhide HB3) bM)
      have HLM := hide (lit4 w3 ⟨3, ⟨#[]⟩, ⟨#[]⟩, cB⟩)
      clear HCN b3 bM HO2 HB2 HO3 HB3
      go_wp2_with (at_builtin; refine wpList_append_own _ rfl (.tmp 35) (.tmp 38) 22 rfl w.heap.size 59 i0 (.agg #[.int .i64 0, .string ByteArray.empty, .string ByteArray.empty, .string ByteArray.empty]) 4 56 Tryz.underlying22 hi hz0 hz1 hz2 rfl (by decide) _ _ _ rfl (unhide HOM) ⟨w3.heap.size, 0, none⟩ 1 1 (opV ⟨3, ⟨#[]⟩, ⟨#[]⟩, cB⟩) rfl rfl (unhide HLM) (one4 _) (by unfold maxLen; simp) (by simp) (unhide HBM).size ?_)
      generalize (w3.alloc (.cells (opCs ⟨3, ⟨#[]⟩, ⟨#[]⟩, cB⟩) 59)) = wM at *
      intro l6 w6 o6 g6 gx6
      clear gx6
      have HO6 : Hid (OPr w6 w.heap.size l6 ([] ++ [⟨3, ⟨#[]⟩, ⟨#[]⟩, cB⟩])) := OPr.step o6
      have HB6 := hide ((unhide HBM).grown g6 (unhide HBM).size (fun b hb => ((unhide HOM).lt b hb).1))
      clear o6 g6 HOM HBM HLM
      go_wp2
      go_ret2
      exact ⟨_, rfl, by rw [unhide HR]; exact unhide HO6, unhide HB6⟩
    · have t1 : ¬ (100 : Int) < (L.length : Int) := by omega
      have HR := hide (unhide HSML h100)
      have hx100 : L.length ≤ 100 := by omega
      clear HBIG HSML h100 HCN
      have HCL : Hid (∀ k (hk : k < L.length) (wx : World), OT wx (w.heap.size + 1) (.slice xa L.length xc) L → ∃ g, xa = some ⟨g, 0, none⟩ ∧ wx.cell? ⟨g, k, none⟩ = some (.string (strOf L[k]))) := fun k hk wx h => by
        rcases h.2 with ⟨hv, h0⟩ | ⟨g, cap, cur, hv, _⟩
        · omega
        · injection hv with hv1 hv2 hv3
          subst hv1
          refine ⟨g, rfl, ?_⟩
          rw [h.cellAt k (by omega)]
          simp [hk]
          rfl
      go_wp2
      go_loopw [6, 11] (fun lv i wr => ∃ k : Nat, k ≤ L.length ∧ i = .int .i64 k ∧ OPr wr w.heap.size lv ((L.take k).map D) ∧ Below w.heap.size w wr ∧ OT wr (w.heap.size + 1) (.slice xa L.length xc) L) (fun _ i _ => L.length - (intOf i).toNat)
      case atStart => exact ⟨0, Nat.zero_le _, rfl, unhide HO2, unhide HB2, unhide HT2⟩
      case round =>
        obtain ⟨k, hk, rfl, ho, hb, hot⟩ := hrel
        have HO := hide ho
        have HBR := hide hb
        have HOT := hide hot
        have hbz := hb.size
        clear HO2 HB2 HT2 ho hb hot
        by_cases hlt : k < L.length
        · have hltI : (k : Int) < (L.length : Int) := by omega
          obtain ⟨g, rfl, hc⟩ := unhide HCL k hlt wr (unhide HOT)
          obtain ⟨sA, sB, ca, cb, hr1, hr2, hcase⟩ := unhide HRS k hlt
          have HR1 := hide (hr1 wr)
          have HR2 := hide hr2
          have HCS := hide hcase
          have HST : Hid ((L.take (k + 1)).map D = (L.take k).map D ++ [D L[k]]) := by
            show _ = _
            rw [List.take_succ_eq_append_getElem hlt, List.map_append]; rfl
          have hal : ((L.take k).map D).length ≤ 100 := by rw [List.length_map, List.length_take]; omega
          clear hr1 hr2 hcase HRS
          have HCX : Hid (∀ wx : World, OT wx (w.heap.size + 1) (.slice (some ⟨g, 0, none⟩) L.length xc) L → ∃ g', some (⟨g, 0, none⟩ : Addr) = some ⟨g', 0, none⟩ ∧ wx.cell? ⟨g', k, none⟩ = some (.string (strOf L[k]))) := fun wx h => unhide HCL k hlt wx h
          clear HCL
          generalize (L.take k).map D = A at *
          generalize D L[k] = mo at *
          generalize strOf L[k] = sp at *
          have HCL2 : Hid (∀ wx : World, OT wx (w.heap.size + 1) (.slice (some ⟨g, 0, none⟩) L.length xc) L → wx.cell? ⟨g, k, none⟩ = some (.string sp)) := fun wx h => by
            obtain ⟨g', e, hx⟩ := unhide HCX wx h
            injection e with e
            injection e with e _ _
            subst e
            exact hx
          clear HCX
          rcases unhide HCS with ⟨hcb, hmo⟩ | ⟨hcb, hca, hmo⟩ | ⟨hcb, hca, hmo⟩ <;> subst hmo <;> clear HCS
          · have tb : (cb != 0) = true := by simp [hcb]
            go_wp2_with fail
            refine (unhide HR1).mono ?_
            rintro e w3 ⟨rfl, b3⟩
            have HT3 := hide (own_below (unhide HOT) b3)
            have hc3 : w3.cell? ⟨g, k, none⟩ = some (.string sp) := unhide HCL2 w3 (unhide HT3)
            have HB3 := hide b3
            clear HR1 b3
            go_wp2_with fail
            refine (unhide HR2 _).mono ?_
            rintro e w4 ⟨rfl, b4⟩
            have HT4 := hide (own_below (unhide HT3) b4)
            have hc4 : w4.cell? ⟨g, k, none⟩ = some (.string sp) := unhide HCL2 w4 (unhide HT4)
            have hB4 := below_next (unhide HB3) b4
            have k5 := heap_alloc_new w4 (.cells #[.int .i64 3, .string sp, .string ⟨#[]⟩, .string sB] 59)
            have b5 := alloc_b w4 (.cells #[.int .i64 3, .string sp, .string ⟨#[]⟩, .string sB] 59)
            have o5 : OpIn (w4.alloc (.cells #[.int .i64 3, .string sp, .string ⟨#[]⟩, .string sB] 59)) w4.heap.size ⟨3, sp, ⟨#[]⟩, sB⟩ := k5
            have f5 := o5.fz 0
            have hz5 : (w4.alloc (.cells #[.int .i64 3, .string sp, .string ⟨#[]⟩, .string sB] 59)).heap.size = w4.heap.size + 1 := by simp
            have o6 : OpIn (w4.alloc (.cells #[.int .i64 2, .string sp, .string ⟨#[]⟩, .string sB] 59)) w4.heap.size ⟨2, sp, ⟨#[]⟩, sB⟩ := heap_alloc_new w4 (.cells #[.int .i64 2, .string sp, .string ⟨#[]⟩, .string sB] 59)
            have b5n := alloc_b w4 (.cells #[.int .i64 2, .string sp, .string ⟨#[]⟩, .string sB] 59)
            have b6 := below_next hB4 b5n
            have HT6 := hide (own_below (unhide HT4) b5n)
            clear b5n
            have hz6 : (w4.alloc (.cells #[.int .i64 2, .string sp, .string ⟨#[]⟩, .string sB] 59)).heap.size = w4.heap.size + 1 := by simp
            obtain ⟨x0, x1, x2, x3⟩ := o6.c
            simp only at x0 x1 x2 x3
            have bM := alloc_b (w4.alloc (.cells #[.int .i64 2, .string sp, .string ⟨#[]⟩, .string sB] 59)) (.cells (opCs ⟨2, sp, ⟨#[]⟩, sB⟩) 59)
            have lM := lit4 (w4.alloc (.cells #[.int .i64 2, .string sp, .string ⟨#[]⟩, .string sB] 59)) ⟨2, sp, ⟨#[]⟩, sB⟩
            rw [hz6] at lM
            have HOM : Hid (OPr ((w4.alloc (.cells #[.int .i64 2, .string sp, .string ⟨#[]⟩, .string sB] 59)).alloc (.cells (opCs ⟨2, sp, ⟨#[]⟩, sB⟩) 59)) w.heap.size u6 A) := own_below (unhide HO) (below_next b6 bM)
            have HBM := hide (below_next (unhide HBR) (below_next b6 bM))
            have HTM := hide (own_below (unhide HT6) bM)
            have HLM := hide lM
            clear HR2 b4 b5 b6 bM lM hB4 HB3 HT3 HT4 HT6 hz5 hz6 k5 o5 o6 hc
            go_wp2_with (at_builtin; refine wpList_append_own _ rfl (.tmp 76) (.tmp 78) 22 rfl w.heap.size 59 i0 (.agg #[.int .i64 0, .string ByteArray.empty, .string ByteArray.empty, .string ByteArray.empty]) 4 56 Tryz.underlying22 hi hz0 hz1 hz2 rfl (by decide) _ _ _ rfl (unhide HOM) ⟨w4.heap.size + 1, 0, none⟩ 1 1 (opV ⟨2, sp, ⟨#[]⟩, sB⟩) rfl rfl (unhide HLM) (one4 _) (by unfold maxLen; omega) (by omega) (unhide HBM).size ?_)
            generalize ((w4.alloc (.cells #[.int .i64 2, .string sp, .string ⟨#[]⟩, .string sB] 59)).alloc (.cells (opCs ⟨2, sp, ⟨#[]⟩, sB⟩) 59)) = wM at *
            intro l6 w6 o6 g6 gx6
            clear gx6
            have HO6 : Hid (OPr w6 w.heap.size l6 (A ++ [⟨2, sp, ⟨#[]⟩, sB⟩])) := OPr.step o6
            have HB6 := hide ((unhide HBM).grown g6 (unhide HBM).size (fun b hb => ((unhide HOM).lt b hb).1))
            have HT7 : Hid (OT w6 (w.heap.size + 1) (.slice (some ⟨g, 0, none⟩) L.length xc) L) := World.ownsRow.kept (unhide HTM) g6 (own_apart (unhide HTM) (unhide HOM) (by decide))
            clear o6 g6 HOM HBM HLM HTM x0 x1 x2 x3 hc3 hc4 f5
            go_wp2
            go_roundw
            case rel => exact ⟨k + 1, by omega, by go_num, by rw [unhide HST]; exact unhide HO6, unhide HB6, unhide HT7⟩
            case measure => simp [intOf]; omega
          · subst hcb
            have ta : (ca != 0) = true := by simp [hca]
            go_wp2_with fail
            refine (unhide HR1).mono ?_
            rintro e w3 ⟨rfl, b3⟩
            have HT3 := hide (own_below (unhide HOT) b3)
            have hc3 : w3.cell? ⟨g, k, none⟩ = some (.string sp) := unhide HCL2 w3 (unhide HT3)
            have HB3 := hide b3
            clear HR1 b3
            go_wp2_with fail
            refine (unhide HR2 _).mono ?_
            rintro e w4 ⟨rfl, b4⟩
            have HT4 := hide (own_below (unhide HT3) b4)
            have hc4 : w4.cell? ⟨g, k, none⟩ = some (.string sp) := unhide HCL2 w4 (unhide HT4)
            have hB4 := below_next (unhide HB3) b4
            have k5 := heap_alloc_new w4 (.cells #[.int .i64 3, .string sp, .string ⟨#[]⟩, .string sB] 59)
            have b5 := alloc_b w4 (.cells #[.int .i64 3, .string sp, .string ⟨#[]⟩, .string sB] 59)
            have o5 : OpIn (w4.alloc (.cells #[.int .i64 3, .string sp, .string ⟨#[]⟩, .string sB] 59)) w4.heap.size ⟨3, sp, ⟨#[]⟩, sB⟩ := k5
            have f5 := o5.fz 0
            have hz5 : (w4.alloc (.cells #[.int .i64 3, .string sp, .string ⟨#[]⟩, .string sB] 59)).heap.size = w4.heap.size + 1 := by simp
            have o6 : OpIn (w4.alloc (.cells #[.int .i64 1, .string sp, .string ⟨#[]⟩, .string sB] 59)) w4.heap.size ⟨1, sp, ⟨#[]⟩, sB⟩ := heap_alloc_new w4 (.cells #[.int .i64 1, .string sp, .string ⟨#[]⟩, .string sB] 59)
            have b5n := alloc_b w4 (.cells #[.int .i64 1, .string sp, .string ⟨#[]⟩, .string sB] 59)
            have b6 := below_next hB4 b5n
            have HT6 := hide (own_below (unhide HT4) b5n)
            clear b5n
            have hz6 : (w4.alloc (.cells #[.int .i64 1, .string sp, .string ⟨#[]⟩, .string sB] 59)).heap.size = w4.heap.size + 1 := by simp
            obtain ⟨x0, x1, x2, x3⟩ := o6.c
            simp only at x0 x1 x2 x3
            have bM := alloc_b (w4.alloc (.cells #[.int .i64 1, .string sp, .string ⟨#[]⟩, .string sB] 59)) (.cells (opCs ⟨1, sp, ⟨#[]⟩, sB⟩) 59)
            have lM := lit4 (w4.alloc (.cells #[.int .i64 1, .string sp, .string ⟨#[]⟩, .string sB] 59)) ⟨1, sp, ⟨#[]⟩, sB⟩
            rw [hz6] at lM
            have HOM : Hid (OPr ((w4.alloc (.cells #[.int .i64 1, .string sp, .string ⟨#[]⟩, .string sB] 59)).alloc (.cells (opCs ⟨1, sp, ⟨#[]⟩, sB⟩) 59)) w.heap.size u6 A) := own_below (unhide HO) (below_next b6 bM)
            have HBM := hide (below_next (unhide HBR) (below_next b6 bM))
            have HTM := hide (own_below (unhide HT6) bM)
            have HLM := hide lM
            clear HR2 b4 b5 b6 bM lM hB4 HB3 HT3 HT4 HT6 hz5 hz6 k5 o5 o6 hc
            go_wp2_with (at_builtin; refine wpList_append_own _ rfl (.tmp 76) (.tmp 78) 22 rfl w.heap.size 59 i0 (.agg #[.int .i64 0, .string ByteArray.empty, .string ByteArray.empty, .string ByteArray.empty]) 4 56 Tryz.underlying22 hi hz0 hz1 hz2 rfl (by decide) _ _ _ rfl (unhide HOM) ⟨w4.heap.size + 1, 0, none⟩ 1 1 (opV ⟨1, sp, ⟨#[]⟩, sB⟩) rfl rfl (unhide HLM) (one4 _) (by unfold maxLen; omega) (by omega) (unhide HBM).size ?_)
            generalize ((w4.alloc (.cells #[.int .i64 1, .string sp, .string ⟨#[]⟩, .string sB] 59)).alloc (.cells (opCs ⟨1, sp, ⟨#[]⟩, sB⟩) 59)) = wM at *
            intro l6 w6 o6 g6 gx6
            clear gx6
            have HO6 : Hid (OPr w6 w.heap.size l6 (A ++ [⟨1, sp, ⟨#[]⟩, sB⟩])) := OPr.step o6
            have HB6 := hide ((unhide HBM).grown g6 (unhide HBM).size (fun b hb => ((unhide HOM).lt b hb).1))
            have HT7 : Hid (OT w6 (w.heap.size + 1) (.slice (some ⟨g, 0, none⟩) L.length xc) L) := World.ownsRow.kept (unhide HTM) g6 (own_apart (unhide HTM) (unhide HOM) (by decide))
            clear o6 g6 HOM HBM HLM HTM x0 x1 x2 x3 hc3 hc4 f5
            go_wp2
            go_roundw
            case rel => exact ⟨k + 1, by omega, by go_num, by rw [unhide HST]; exact unhide HO6, unhide HB6, unhide HT7⟩
            case measure => simp [intOf]; omega
          · subst hcb
            subst hca
            go_wp2_with fail
            refine (unhide HR1).mono ?_
            rintro e w3 ⟨rfl, b3⟩
            have HT3 := hide (own_below (unhide HOT) b3)
            have hc3 : w3.cell? ⟨g, k, none⟩ = some (.string sp) := unhide HCL2 w3 (unhide HT3)
            have HB3 := hide b3
            clear HR1 b3
            go_wp2_with fail
            refine (unhide HR2 _).mono ?_
            rintro e w4 ⟨rfl, b4⟩
            have HT4 := hide (own_below (unhide HT3) b4)
            have hc4 : w4.cell? ⟨g, k, none⟩ = some (.string sp) := unhide HCL2 w4 (unhide HT4)
            have hB4 := below_next (unhide HB3) b4
            have k5 := heap_alloc_new w4 (.cells #[.int .i64 3, .string sp, .string ⟨#[]⟩, .string sB] 59)
            have b5 := alloc_b w4 (.cells #[.int .i64 3, .string sp, .string ⟨#[]⟩, .string sB] 59)
            have o5 : OpIn (w4.alloc (.cells #[.int .i64 3, .string sp, .string ⟨#[]⟩, .string sB] 59)) w4.heap.size ⟨3, sp, ⟨#[]⟩, sB⟩ := k5
            have f5 := o5.fz 0
            have hz5 : (w4.alloc (.cells #[.int .i64 3, .string sp, .string ⟨#[]⟩, .string sB] 59)).heap.size = w4.heap.size + 1 := by simp
            have o6 := o5
            have b6 := below_next hB4 b5
            have HT6 := hide (own_below (unhide HT4) b5)
            have hz6 := hz5
            obtain ⟨x0, x1, x2, x3⟩ := o6.c
            simp only at x0 x1 x2 x3
            have bM := alloc_b (w4.alloc (.cells #[.int .i64 3, .string sp, .string ⟨#[]⟩, .string sB] 59)) (.cells (opCs ⟨3, sp, ⟨#[]⟩, sB⟩) 59)
            have lM := lit4 (w4.alloc (.cells #[.int .i64 3, .string sp, .string ⟨#[]⟩, .string sB] 59)) ⟨3, sp, ⟨#[]⟩, sB⟩
            rw [hz6] at lM
            have HOM : Hid (OPr ((w4.alloc (.cells #[.int .i64 3, .string sp, .string ⟨#[]⟩, .string sB] 59)).alloc (.cells (opCs ⟨3, sp, ⟨#[]⟩, sB⟩) 59)) w.heap.size u6 A) := own_below (unhide HO) (below_next b6 bM)
            have HBM := hide (below_next (unhide HBR) (below_next b6 bM))
            have HTM := hide (own_below (unhide HT6) bM)
            have HLM := hide lM
            clear HR2 b4 b5 b6 bM lM hB4 HB3 HT3 HT4 HT6 hz5 hz6 k5 o5 o6 hc
            go_wp2_with (at_builtin; refine wpList_append_own _ rfl (.tmp 76) (.tmp 78) 22 rfl w.heap.size 59 i0 (.agg #[.int .i64 0, .string ByteArray.empty, .string ByteArray.empty, .string ByteArray.empty]) 4 56 Tryz.underlying22 hi hz0 hz1 hz2 rfl (by decide) _ _ _ rfl (unhide HOM) ⟨w4.heap.size + 1, 0, none⟩ 1 1 (opV ⟨3, sp, ⟨#[]⟩, sB⟩) rfl rfl (unhide HLM) (one4 _) (by unfold maxLen; omega) (by omega) (unhide HBM).size ?_)
            generalize ((w4.alloc (.cells #[.int .i64 3, .string sp, .string ⟨#[]⟩, .string sB] 59)).alloc (.cells (opCs ⟨3, sp, ⟨#[]⟩, sB⟩) 59)) = wM at *
            intro l6 w6 o6 g6 gx6
            clear gx6
            have HO6 : Hid (OPr w6 w.heap.size l6 (A ++ [⟨3, sp, ⟨#[]⟩, sB⟩])) := OPr.step o6
            have HB6 := hide ((unhide HBM).grown g6 (unhide HBM).size (fun b hb => ((unhide HOM).lt b hb).1))
            have HT7 : Hid (OT w6 (w.heap.size + 1) (.slice (some ⟨g, 0, none⟩) L.length xc) L) := World.ownsRow.kept (unhide HTM) g6 (own_apart (unhide HTM) (unhide HOM) (by decide))
            clear o6 g6 HOM HBM HLM HTM x0 x1 x2 x3 hc3 hc4 f5
            go_wp2
            go_roundw
            case rel => exact ⟨k + 1, by omega, by go_num, by rw [unhide HST]; exact unhide HO6, unhide HB6, unhide HT7⟩
            case measure => simp [intOf]; omega
        · have hkn : k = L.length := by omega
          subst hkn
          rw [List.take_length] at HO
          go_wp2
          go_ret2
          exact ⟨_, rfl, by rw [unhide HR]; exact unhide HO, unhide HBR⟩
end Go.Proofs.YtocnekbedcnmgaaGreatDoor

