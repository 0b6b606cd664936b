import Derived.Test.YtocnekbedcnmgaaGreatDoorBq18
import Derived.Test.YtocnekbedcnmgaaGreatDoorBq13
import Derived.Test.YtocnekbedcnmgaaGreatDoorBq6
import Derived.Test.YtocnekbedcnmgaaGreatDoorBq37
import Derived.Test.YtocnekbedcnmgaaGreatDoorBq9
import Derived.Test.YtocnekbedcnmgaaGreatDoorBq38
import Derived.Test.YtocnekbedcnmgaaGreatDoorBq36
namespace Go.Proofs.YtocnekbedcnmgaaGreatDoor
open Go.RowKit

theorem canonV_in {s : ByteArray} {v : JV} (h : readR s = .inr v) : canonV s = .tuple #[.string (strOf (ct v)), .int .i64 0] := by unfold canonV; rw [h]
theorem canonV_no {s : ByteArray} {c : Nat} (h : readR s = .inl c) : canonV s = .tuple #[.string ⟨#[]⟩, .int .i64 (c : Int)] := by unfold canonV; rw [h]
theorem measV_in {s : ByteArray} {v : JV} (h : readR s = .inr v) : measV s = .tuple #[.int .i64 (depV v : Int), .int .i64 (cntV v : Int), .int .i64 0] := by unfold measV; rw [h]
theorem measV_no {s : ByteArray} {c : Nat} (h : readR s = .inl c) : measV s = .tuple #[.int .i64 0, .int .i64 0, .int .i64 (c : Int)] := by unfold measV; rw [h]
theorem resV_in {s : ByteArray} {v u : JV} (h : readR s = .inr v) {p : List UInt8} {ts : List (List UInt8)} (hp : ptoks p = some ts) (hu : getV v ts = some u) : resV s (strOf p) = .tuple #[.string (strOf (ct u)), .int .i64 0] := by
  unfold resV
  rw [h]
  simp only
  rw [strOf_toList, hp]
  simp only
  rw [hu]
theorem plF_short : ∀ (n : Nat) (p : List UInt8) (v : JV), okV v → twV v = false → ∀ q ∈ plF n p v, q.length ≤ p.length + 2 * (ct v).length
  | 0, p, v, _, _, q, h => by simp [plF, hitF] at h
  | n + 1, p, v, h1, h2, q, h => by
    rw [plF_eq, List.mem_cons] at h
    rcases h with rfl | h
    · omega
    · obtain ⟨x, hx, hq⟩ := List.mem_flatMap.1 h
      obtain ⟨a1, a2, _, a4⟩ := kids_ok h1 h2 hx
      have := plF_short n _ x.2 a1 a2 q hq
      have := ptrN_len p x.1
      omega
theorem plc_len {v : JV} (hg : GdV v) {q : List UInt8} (h : q ∈ plF (depV v) [] v) : q.length ≤ 40000 := by
  have h1 := plF_short _ _ v hg.ok hg.tw q h
  have := hg.len
  simp at h1
  omega
/-- What FnPlaces asks, of a text that is read. -/
structure PlcAll (s : ByteArray) (v : JV) : Prop where
  rd : readR s = .inr v
  len : (ct v).length ≤ s.size
  again : ∀ w, RdW w → Calls Tryz.prog 23 #[.string (strOf (ct v))] w fun e w' => e = .returned (.tuple #[.string (strOf (ct v)), .int .i64 0]) ∧ Below w.heap.size w w'
  cnt : (plF (depV v) [] v).length = cntV v
  once : ((onceL (plF (depV v) [] v)).length == (plF (depV v) [] v).length) = true
  at' : ∀ k (hk : k < (plF (depV v) [] v).length), ∃ (u : ByteArray) (y : ByteArray), (∀ w, RdW w → Calls Tryz.prog 27 #[.string s, .string (strOf (plF (depV v) [] v)[k])] w fun e w' => e = .returned (.tuple #[.string u, .int .i64 0]) ∧ Below w.heap.size w w') ∧ (∀ w, Calls Tryz.prog 21 #[.string u] w fun e w' => e = .returned (.tuple #[.string y, .int .i64 0]) ∧ Below w.heap.size w w') ∧ ((plF (depV v) [] v)[k] = [] → u = strOf (ct v))
theorem plcAll {s : ByteArray} {v : JV} (hs : s.size ≤ 1048576) (h : readR s = .inr v) : PlcAll s v := by
  obtain ⟨h1, h2, h3, h4, h5, h6⟩ := places_all h
  have hsz := (read_facts h).1
  refine ⟨h, h1, fun w hw => ?_, h4, by rw [h5, h4]; simp, fun k hk => ?_⟩
  · have := implCanon_walk (strOf (ct v)) w hw.tab hw.err hw.pow (by rw [strOf_size]; omega)
    rw [canonV_in h2, h3] at this
    exact this
  · obtain ⟨ts, u, hp, hu, ⟨u', hu'⟩, hroot⟩ := h6 _ (List.getElem_mem hk)
    have hg := GdV.of h
    have hlu : (strOf (ct u)).size ≤ 1048576 := by
      obtain ⟨_, hr, _⟩ := read_facts hu'
      have := (read_facts hu').1
      omega
    have hpl : (strOf (plF (depV v) [] v)[k]).size ≤ 1048576 := by
      rw [strOf_size]
      exact Nat.le_trans (plc_len hg (List.getElem_mem hk)) (by omega)
    refine ⟨strOf (ct u), strOf (ct u'), fun w hw => ?_, fun w => ?_, fun e => by rw [hroot e]⟩
    · have := implResolve_walk s (strOf (plF (depV v) [] v)[k]) w hw.tab hw.err hw.pow hw.ml hs hpl
      rw [resV_in h hp hu] at this
      exact this
    · have := specCanon_walk (strOf (ct u)) w hlu
      rw [canonV_in hu'] at this
      exact this
set_option maxRecDepth 100000 in
set_option maxHeartbeats 6000000 in
theorem plcLaw_in (xa : Option Addr) (xb xo xc : Nat) (l : List UInt8) (w : World) (hw : RdW w) (h : BS w xa xb xo l) (hc : l.length ≤ xc) :
    Calls Tryz.prog 6 #[.slice xa l.length xc] w fun e w' => e = .returned (.bool true) ∧ Below w.heap.size w w' := by
  by_cases hl : l.length ≤ 1048576
  · have tl : ((1048576 : Int) < (l.length : Int)) = False := eq_false (by omega)
    have HD := hide (drawPlaces_walk xa xb xo xc l w h hl hc)
    have HW := hide hw
    clear h hc hl hw
    go_enter Tryz.func6, Tryz.ntmps6
    go_wp2_with fail
    refine (unhide HD).mono ?_
    rintro e w1 ⟨s, hs, rfl, b1⟩
    have HW1 := hide ((unhide HW).up b1)
    have HSC := hide (specCanon_walk s w1 (by omega))
    have HSM : Hid (∀ w, Calls Tryz.prog 22 #[.string s] w fun e w' => e = .returned (measV s) ∧ Below w.heap.size w w') := fun w => specMeasure_walk s w (by omega)
    have HIC : Hid (∀ w, RdW w → Calls Tryz.prog 23 #[.string s] w fun e w' => e = .returned (canonV s) ∧ Below w.heap.size w w') := fun w h => implCanon_walk s w h.tab h.err h.pow (by omega)
    have HIM : Hid (∀ w, RdW w → Calls Tryz.prog 24 #[.string s] w fun e w' => e = .returned (measV s) ∧ Below w.heap.size w w') := fun w h => implMeasure_walk s w h.tab h.err h.pow (by omega)
    have HIP : Hid (∀ w, RdW w → Calls Tryz.prog 25 #[.string s] w fun e w' => ∃ v, e = .returned (.tuple #[v, .int .i64 (placesC s)]) ∧ OT w' w.heap.size v (placesL s) ∧ Below w.heap.size w w') := fun w h => implPlaces_walk s w h.tab h.err h.pow (by omega)
    have HB1 := hide b1
    clear HD b1 HW
    cases hr : readR s with
    | inl c =>
      have hc := read_code hr
      rw [canonV_no hr] at HSC HIC
      rw [measV_no hr] at HSM HIM
      have eC : placesC s = 1 := by unfold placesC; rw [hr]
      have eL : placesL s = [] := by unfold placesL; rw [hr]
      rw [eC, eL] at HIP
      have t1 : ((c : Int) == 0) = false := by simp; omega
      have t2 : ((c : Int) != 0) = true := by simp; omega
      have t3 : ¬ (c : Int) = 0 := by omega
      have t4 : ¬ c = 0 := by omega
      clear hr eC eL hc
      go_wp2_with fail
      refine (unhide HSC).mono ?_
      rintro e w2 ⟨rfl, b2⟩
      have HM2 := hide (unhide HSM w2)
      have HB2 := hide (below_next (unhide HB1) b2)
      have HW2 := hide ((unhide HW1).up b2)
      clear HSC HSM b2 HB1 HW1
      go_wp2_with fail
      refine (unhide HM2).mono ?_
      rintro e w3 ⟨rfl, b3⟩
      have HB3 := hide (below_next (unhide HB2) b3)
      have HW3 := hide ((unhide HW2).up b3)
      have HC3 := hide (unhide HIC w3 (unhide HW3))
      clear HM2 b3 HB2 HW2 HIC
      go_wp2_with fail
      refine (unhide HC3).mono ?_
      rintro e w4 ⟨rfl, b4⟩
      have HB4 := hide (below_next (unhide HB3) b4)
      have HW4 := hide ((unhide HW3).up b4)
      have HM4 := hide (unhide HIM w4 (unhide HW4))
      clear HC3 b4 HB3 HW3 HIM
      go_wp2_with fail
      refine (unhide HM4).mono ?_
      rintro e w5 ⟨rfl, b5⟩
      have HB5 := hide (below_next (unhide HB4) b5)
      have HW5 := hide ((unhide HW4).up b5)
      have HP5 := hide (unhide HIP w5 (unhide HW5))
      clear HM4 b5 HB4 HW4 HIP
      go_wp2_with fail
      refine (unhide HP5).mono ?_
      rintro e w6 ⟨v6, rfl, o6, b6⟩
      obtain ⟨xa6, -, xc6, rfl, -, -⟩ := OT.shape o6
      have HB6 := hide (below_next (unhide HB5) b6)
      clear HP5 o6 b6 HB5 HW5
      go_wp2
      go_ret
      exact ⟨rfl, unhide HB6⟩
    | inr v =>
      have hA := plcAll (by omega) hr
      rw [canonV_in hr] at HSC HIC
      rw [measV_in hr] at HSM HIM
      have eC : placesC s = 0 := by unfold placesC; rw [hr]
      have eL : placesL s = plF (depV v) [] v := by unfold placesL; rw [hr]
      rw [eC, eL] at HIP
      have hln := hA.len
      have HAG := hide hA.again
      have HCNT := hide hA.cnt
      have HON := hide hA.once
      have HAT := hide hA.at'
      have hcv : cntV v ≤ 3000 := (GdV.of hr).cnt
      have hlnI : ¬ (s.size : Int) < ((strOf (ct v)).size : Int) := by rw [strOf_size]; omega
      clear hr eC eL hA hln
      generalize plF (depV v) [] v = ps at *
      generalize depV v = dv at *
      have hpc := unhide HCNT
      generalize cntV v = n at *
      subst hpc
      clear HCNT
      generalize strOf (ct v) = T at *
      go_wp2_with fail
      refine (unhide HSC).mono ?_
      rintro e w2 ⟨rfl, b2⟩
      have HM2 := hide (unhide HSM w2)
      have HB2 := hide (below_next (unhide HB1) b2)
      have HW2 := hide ((unhide HW1).up b2)
      clear HSC HSM b2 HB1 HW1
      go_wp2_with fail
      refine (unhide HM2).mono ?_
      rintro e w3 ⟨rfl, b3⟩
      have HB3 := hide (below_next (unhide HB2) b3)
      have HW3 := hide ((unhide HW2).up b3)
      have HC3 := hide (unhide HIC w3 (unhide HW3))
      clear HM2 b3 HB2 HW2 HIC
      go_wp2_with fail
      refine (unhide HC3).mono ?_
      rintro e w4 ⟨rfl, b4⟩
      have HB4 := hide (below_next (unhide HB3) b4)
      have HW4 := hide ((unhide HW3).up b4)
      have HM4 := hide (unhide HIM w4 (unhide HW4))
      clear HC3 b4 HB3 HW3 HIM
      go_wp2_with fail
      refine (unhide HM4).mono ?_
      rintro e w5 ⟨rfl, b5⟩
      have HB5 := hide (below_next (unhide HB4) b5)
      have HW5 := hide ((unhide HW4).up b5)
      have HP5 := hide (unhide HIP w5 (unhide HW5))
      clear HM4 b5 HB4 HW4 HIP
      go_wp2_with fail
      refine (unhide HP5).mono ?_
      rintro e w6 ⟨v6, rfl, o6, b6⟩
      have HO6 := hide o6
      obtain ⟨xa6, -, xc6, rfl, -, -⟩ := OT.shape o6
      have HB6 := hide (below_next (unhide HB5) b6)
      have HW6 := hide ((unhide HW5).up b6)
      have HC6 := hide (unhide HAG w6 (unhide HW6))
      have hz6 := (unhide HB6).size
      clear HP5 o6 b6 HB5 HW5 HAG
      go_wp2_with fail
      refine (unhide HC6).mono ?_
      rintro e w7 ⟨rfl, b7⟩
      have HO7 := hide (own_below (unhide HO6) b7)
      have HB7 := hide (below_next (unhide HB6) b7)
      have HW7 := hide ((unhide HW6).up b7)
      clear HC6 HO6 b7 HB6 HW6
      by_cases h300 : 300 < ps.length
      · have t3 : (300 : Int) < (ps.length : Int) := by omega
        clear HON HAT HO7 HW7
        go_wp2
        go_ret
        exact ⟨rfl, unhide HB7⟩
      · have t3 : ¬ (300 : Int) < (ps.length : Int) := by omega
        have HOS := hide (onceSorted_walk _ ps w7 (unhide HO7) (by omega))
        rw [unhide HON] at HOS
        clear HON
        go_wp2_with fail
        refine (unhide HOS).mono ?_
        rintro e w8 ⟨rfl, b8⟩
        have HO8 := hide (own_below (unhide HO7) b8)
        have HB8 := hide (below_next (unhide HB7) b8)
        have HW8 := hide ((unhide HW7).up b8)
        have HCL : Hid (∀ k (hk : k < ps.length) (wx : World), Below w8.heap.size w8 wx → ∃ g, xa6 = some ⟨g, 0, none⟩ ∧ wx.cell? ⟨g, k, none⟩ = some (.string (strOf ps[k]))) := fun k hk wx hx => by
          have h := own_below (unhide HO8) hx
          rcases h.2 with ⟨hv, h0⟩ | ⟨g, cap, cur, hv, _⟩
          · omega
          · injection hv with hv1 hv2 hv3
            subst hv1
            refine ⟨g, rfl, ?_⟩
            rw [World.ownsRow.cellAt h k (by omega)]
            simp [hk]
            rfl
        clear HOS HO7 b8 HB7 HW7
        go_wp2
        go_loopw [18] (fun i wr => ∃ k : Nat, k ≤ ps.length ∧ i = .int .i64 k ∧ Below w8.heap.size w8 wr) (fun i _ => ps.length - (intOf i).toNat)
        case atStart => exact ⟨0, Nat.zero_le _, rfl, Below.refl _ _⟩
        case round =>
          obtain ⟨k, hk, rfl, hb⟩ := hrel
          have HBR := hide hb
          clear hb
          by_cases hlt : k < ps.length
          · have hltI : (k : Int) < (ps.length : Int) := by omega
            obtain ⟨u, y, hr1, hr2, hroot⟩ := unhide HAT k hlt
            obtain ⟨g, rfl, c0⟩ := unhide HCL k hlt wr (unhide HBR)
            have HR1 := hide (hr1 wr ((unhide HW8).up (unhide HBR)))
            have HR2 := hide hr2
            have HCK : Hid (∀ wx : World, Below w8.heap.size w8 wx → wx.cell? ⟨g, k, none⟩ = some (.string (strOf ps[k]))) := fun wx hx => by
              obtain ⟨g', e, hc⟩ := unhide HCL k hlt wx hx
              injection e with e
              injection e with e _ _
              subst e
              exact hc
            have HRT : Hid ((strOf ps[k]).size = 0 → u = T) := fun h => hroot (by
              rw [strOf_size] at h
              exact List.eq_nil_of_length_eq_zero h)
            clear hr1 hr2 hroot HAT HCL
            generalize strOf ps[k] = sp at *
            go_wp2_with fail
            refine (unhide HR1).mono ?_
            rintro e w9 ⟨rfl, b9⟩
            have HB9 := hide (below_next (unhide HBR) b9)
            have HR3 := hide (unhide HR2 w9)
            clear HR1 HR2 b9
            go_wp2_with fail
            refine (unhide HR3).mono ?_
            rintro e wA ⟨rfl, bA⟩
            have HBA := hide (below_next (unhide HB9) bA)
            have cA := unhide HCK wA (unhide HBA)
            clear HR3 bA HB9 HCK c0
            by_cases he : sp = ⟨#[]⟩
            · obtain rfl := unhide HRT (by rw [he]; rfl)
              subst he
              clear HRT
              go_wp2
              go_roundw
              case rel => exact ⟨k + 1, by omega, by go_num, unhide HBA⟩
              case measure => simp [intOf]; omega
            · have te : sp.toList.isEmpty = false := by
                rw [ByteArray.toList_eq]
                cases hd : sp.data.toList with
                | nil => exact absurd (by rw [← strOf_data sp, hd]; rfl) he
                | cons a b => rfl
              clear he HRT
              go_wp2
              go_roundw
              case rel => exact ⟨k + 1, by omega, by go_num, unhide HBA⟩
              case measure => simp [intOf]; omega
          · have hltI : ¬ (k : Int) < (ps.length : Int) := by omega
            have HBF := hide (below_next (unhide HB8) (unhide HBR))
            clear HAT HCL
            go_wp2
            go_ret
            exact ⟨rfl, unhide HBF⟩
  · have tl : ((1048576 : Int) < (l.length : Int)) = True := eq_true (by omega)
    clear hl h hc hw
    go_enter Tryz.func6, Tryz.ntmps6
    go_wp2
    go_ret
    exact ⟨rfl, Below.refl _ _⟩
/-- What the row's condition says of the tables. -/
def VarsOk (w : World) : Prop := Tabs w ∧ ErrB w.heap.size w ∧ PowB w.heap.size w
theorem tables_of {W : World} (hL : laidMetH Tryz.prog Rows.fnPlacesRow.laid W) : VarsOk W := by
  have h : laidMet Tryz.prog laidAll W := hL
  exact ⟨tabs_at h, err_at h, pow_at h⟩
theorem plcLaw_walk (xa : Option Addr) (xb xo xc : Nat) (l : List UInt8) (w : World) (h : BS w xa xb xo l) (hc : l.length ≤ xc) (hm : ML w) (hv : VarsOk w) :
    Calls Tryz.prog 6 #[.slice xa l.length xc] w fun e w' => e = .returned (.bool true) ∧ Below w.heap.size w w' := plcLaw_in xa xb xo xc l w ⟨TabsB.of hv.1, hv.2.1, hv.2.2, hm⟩ h hc
end Go.Proofs.YtocnekbedcnmgaaGreatDoor

