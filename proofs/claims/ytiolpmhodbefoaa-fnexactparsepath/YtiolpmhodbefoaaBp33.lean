import Derived.Test.YtiolpmhodbefoaaBp32
namespace Go.Proofs.Ytiolpmhodbefoaa
open Go.RowKit

/-- The bracket's test of a prim. -/
def parB (s : ByteArray) : Bool := decide (s.data.toList.head? = some 40 ∧ clo 0 0 s.data.toList = some s.data.toList.length ∧ (dr s 1).getLast? = some 41)
theorem getLast_dr {s : ByteArray} (h : 1 < s.size) : (dr s 1).getLast? = some s[s.size - 1] := by
  have e := dr_at (s := s) (i := 0) (by omega)
  rw [dr_zero] at e
  have h1 := last_at (s := s) (by omega)
  rw [e] at h1
  have : dr s 1 ≠ [] := dr_ne h
  cases hd : dr s 1 with
  | nil => exact absurd hd this
  | cons a b => rw [hd, List.getLast?_cons_cons] at h1; exact h1
theorem sPr_par {n : Nat} {s : ByteArray} (h0 : 0 < s.size) (h33 : ¬ s[0] = 33) : sPr (n + 1) s.data.toList = if parB s = true then (sCdOf (sPr n) (dr s 1).dropLast).map (fun p => (p.1, p.2 + 1)) else (sTest s.data.toList).map fun o => (o, 0) := by
  have e := dr_at h0
  rw [dr_zero] at e
  have e2 : s.data.toList.head? = some s[0] := by rw [e]; rfl
  unfold parB
  rw [e2]
  simp only [decide_eq_true_eq, Option.some.injEq]
  generalize s.data.toList = L at *
  rw [e, sPr_con, if_neg h33]
theorem sPr_leaf0 {n : Nat} : sPr (n + 1) [] = (sTest []).map fun o => (o, 0) := rfl
set_option maxRecDepth 100000 in
set_option maxHeartbeats 8000000 in
/-- A prim that is not a negation. -/
theorem prim_else {n m : Nat} (IH : CondOk m 0 (sCdOf (sPr n))) (s : ByteArray) (v : Value) (ops : List PFOp) (bl : List Nat) (B : Nat) (w : World) (hm : s.size < m + 1) (hs : s.size ≤ 1048576) (h : ORow fopE w v ops bl) (hF : Fsh B bl) (hB : B ≤ w.heap.size) (hN : ops.length + 3 * s.size + 3 ≤ 10000000)
    (hno : ∀ h0 : 0 < s.size, ¬ s[0] = 33) : Calls Try.prog 74 #[.string s, v] w (CRet w B ops bl (ops.length + 3 * s.size + 3) (sPr (n + 1) s.data.toList)) := by
  have HCL := hide (close_walk s w hs)
  have HNO := hide hno
  have HH := hide h
  have HF := hide hF
  obtain ⟨va, vc, rfl, -, -⟩ := h.form
  clear h hF hno
  go_enter Try.func74, Try.ntmps74
  go_upto_region 1 with fail
  go_cut [29] from 22 to 29 (fun x wx => x = .bool false ∧ w = wx)
  case first =>
    by_cases h0 : 0 < s.size
    · have b33 : (((s[0].toNat : Nat) : Int) == 33) = false := eq_f (d := 33) (unhide HNO h0)
      have h0I : (0 : Int) < (s.size : Int) := by omega
      go_wp2
      go_meet
      case rel => exact ⟨rfl, rfl⟩
    · have h0I : ¬ (0 : Int) < (s.size : Int) := by omega
      go_wp2
      go_meet
      case rel => exact ⟨rfl, rfl⟩
  obtain ⟨rfl, rfl⟩ := hcut
  go_upto_region 4 with fail
  go_cut [67] from 22 to 67 (fun x wx => x = .bool (parB s && decide (0 < s.size)) ∧ w = wx)
  case first =>
    by_cases h1 : 1 < s.size
    · have h1I : (1 : Int) < (s.size : Int) := by omega
      have e := dr_at (s := s) (i := 0) (by omega)
      rw [dr_zero] at e
      have hh : s.data.toList.head? = some s[0] := by rw [e]; rfl
      have hd : decide (0 < s.size) = true := by simp; omega
      clear e
      by_cases h40 : s[0] = 40
      · have b40 : (((s[0].toNat : Nat) : Int) == 40) = true := eq_t h40
        cases hc : clo 0 0 s.data.toList with
        | none =>
          have HV : Hid ((parB s && decide (0 < s.size)) = false) := by show _ = _; unfold parB; rw [hc]; simp
          have t1 : ((-1 : Int) == (s.size : Int)) = false := by rw [beq_eq_false_iff_ne]; omega
          rw [hc] at HCL
          have e1 : natO none = -1 := rfl
          rw [e1] at HCL
          clear hc h40 hh hd e1
          go_wp2_with fail
          refine (unhide HCL).mono ?_
          rintro e w1 ⟨rfl, rfl⟩
          go_wp2
          go_meet
          case rel => exact ⟨by rw [unhide HV], rfl⟩
        | some q =>
          rw [hc] at HCL
          have e1 : natO (some q) = (q : Int) := rfl
          rw [e1] at HCL
          clear e1
          by_cases hq : q = s.size
          · have t1 : ((q : Int) == (s.size : Int)) = true := by rw [beq_iff_eq]; omega
            have hl := getLast_dr h1
            have hx : s.size - 1 < s.size := by omega
            by_cases h41 : s[s.size - 1] = 41
            · have b41 : (((s[s.size - 1].toNat : Nat) : Int) == 41) = true := eq_t h41
              have HV : Hid ((parB s && decide (0 < s.size)) = true) := by show _ = _; unfold parB; rw [hc, hh, hl, h40, h41, hq, data_len, hd]; simp
              clear hc h40 hh hd hl h41 hq
              go_wp2_with fail
              refine (unhide HCL).mono ?_
              rintro e w1 ⟨rfl, rfl⟩
              go_wp2
              go_meet
              case rel => exact ⟨by rw [unhide HV], rfl⟩
            · have b41 : (((s[s.size - 1].toNat : Nat) : Int) == 41) = false := eq_f (d := 41) h41
              have HV : Hid ((parB s && decide (0 < s.size)) = false) := by show _ = _; unfold parB; rw [hl]; simp [h41]
              clear hc h40 hh hd hl h41 hq
              go_wp2_with fail
              refine (unhide HCL).mono ?_
              rintro e w1 ⟨rfl, rfl⟩
              go_wp2
              go_meet
              case rel => exact ⟨by rw [unhide HV], rfl⟩
          · have t1 : ((q : Int) == (s.size : Int)) = false := by rw [beq_eq_false_iff_ne]; omega
            have HV : Hid ((parB s && decide (0 < s.size)) = false) := by show _ = _; unfold parB; rw [hc, data_len]; simp [hq]
            clear hc h40 hh hd hq
            go_wp2_with fail
            refine (unhide HCL).mono ?_
            rintro e w1 ⟨rfl, rfl⟩
            go_wp2
            go_meet
            case rel => exact ⟨by rw [unhide HV], rfl⟩
      · have b40 : (((s[0].toNat : Nat) : Int) == 40) = false := eq_f (d := 40) h40
        have HV : Hid ((parB s && decide (0 < s.size)) = false) := by show _ = _; unfold parB; rw [hh]; simp [h40]
        clear h40 hh hd
        go_wp2
        go_meet
        case rel => exact ⟨by rw [unhide HV], rfl⟩
    · have h1I : ¬ (1 : Int) < (s.size : Int) := by omega
      have HV : Hid ((parB s && decide (0 < s.size)) = false) := by
        show _ = _
        have : dr s 1 = [] := dr_end (by omega)
        unfold parB; rw [this]; simp
      go_wp2
      go_meet
      case rel => exact ⟨by rw [unhide HV], rfl⟩
  obtain ⟨rfl, rfl⟩ := hcut
  clear HCL
  have HRR : Hid (sPr (n + 1) s.data.toList = if (parB s && decide (0 < s.size)) = true then (sCdOf (sPr n) (dr s 1).dropLast).map (fun p => (p.1, p.2 + 1)) else (sTest s.data.toList).map fun o => (o, 0)) := by
    show _ = _
    by_cases h0 : 0 < s.size
    · rw [sPr_par h0 (unhide HNO h0), decide_eq_true h0, Bool.and_true]
    · rw [decide_eq_false h0, Bool.and_false, if_neg (by decide)]
      have : s.data.toList = [] := List.eq_nil_of_length_eq_zero (by rw [data_len]; omega)
      rw [this]; exact sPr_leaf0
  have hpb : (parB s && decide (0 < s.size)) = true → 1 < s.size := fun hq => by
    apply Classical.byContradiction
    intro h1
    have : dr s 1 = [] := dr_end (by omega)
    unfold parB at hq; rw [this] at hq; simp at hq
  have HPB := hide hpb
  clear HNO hpb
  cases hq : (parB s && decide (0 < s.size)) with
  | true =>
    have h1 := unhide HPB hq
    have HR : Hid (sPr (n + 1) s.data.toList = (sCdOf (sPr n) (dr s 1).dropLast).map (fun p => (p.1, p.2 + 1))) := by show _ = _; rw [unhide HRR, if_pos hq]
    have HC := hide (IH (s.extract 1 (s.size - 1)) _ ops bl B w (by simp; omega) (by simp; omega) (unhide HH) (unhide HF) hB (by simp; omega))
    have hsz : (s.extract 1 (s.size - 1)).size = s.size - 2 := by simp; omega
    have hdt : (s.extract 1 (s.size - 1)).data.toList = (dr s 1).dropLast := by
      rw [Lib.extract_data, List.dropLast_eq_take, dr_len]; rfl
    rw [hdt, hsz] at HC
    have HL := hide (sCd_len (sPr_len n) (dr s 1).dropLast)
    have h1I : (1 : Int) ≤ (s.size : Int) - 1 := by omega
    clear hq HRR HPB hsz hdt IH
    go_wp2_with fail
    refine (unhide HC).mono ?_
    rintro e w1 ⟨b1, s1, v1, ok, d, rfl, hno, hyes⟩
    have HB1 := hide b1
    have HS1 := hide s1
    clear HC b1 s1
    cases hp : sCdOf (sPr n) (dr s 1).dropLast with
    | none =>
      obtain ⟨rfl, hany⟩ := hno hp
      have HR2 : Hid (sPr (n + 1) s.data.toList = none) := by show _ = _; rw [unhide HR, hp]; rfl
      have HA := hide hany
      obtain ⟨ya, yl, yc, rfl⟩ := hany.form
      clear hno hyes hp hany HL HR
      go_wp2
      go_ret3
      exact ⟨unhide HB1, unhide HS1, _, _, _, rfl, fun _ => ⟨rfl, (unhide HA).mono (by omega)⟩, fun x hx => by rw [unhide HR2] at hx; cases hx⟩
    | some x =>
      obtain ⟨rfl, rfl, hrest⟩ := hyes x hp
      have hxl := (unhide HL x hp).2
      rw [List.length_dropLast, dr_len] at hxl
      have HR2 : Hid (sPr (n + 1) s.data.toList = some (x.1, x.2 + 1)) := by show _ = _; rw [unhide HR, hp]; rfl
      have HRE := hide hrest
      obtain ⟨ya, yc, rfl, -, -⟩ := hrest.2.choose_spec.1.form
      rw [List.length_append] at HRE
      clear hno hyes hp hrest HL HR
      go_wp2
      go_ret3
      refine ⟨unhide HB1, unhide HS1, _, _, _, rfl, fun hx => (by rw [unhide HR2] at hx; cases hx), fun y hy => ?_⟩
      rw [unhide HR2] at hy
      injection hy with hy
      subst hy
      exact ⟨rfl, by go_num, unhide HRE⟩
  | false =>
    have HR : Hid (sPr (n + 1) s.data.toList = (sTest s.data.toList).map fun o => (o, 0)) := by show _ = _; rw [unhide HRR, if_neg (by rw [hq]; decide)]
    have HCW := hide (comp_walk s w hs)
    clear hq HRR HPB IH
    go_wp2_with fail
    refine (unhide HCW).mono ?_
    rintro e w1 ⟨rfl, b1⟩
    have hz1 := b1.size
    have HB1 := hide b1
    clear HCW b1
    cases hc : fCmp s.data.toList with
    | none =>
      have e1 : natO none = -1 := rfl
      rw [e1]
      have HT : Hid (sPr (n + 1) s.data.toList = (sRef s.data.toList).map fun x => ([opR' 8 x], 0)) := by
        show _ = _
        rw [unhide HR]
        unfold sTest
        rw [hc]
        show Option.map _ (Option.map _ _) = _
        rw [Option.map_map]; rfl
      have HRW := hide (ref_walk s w1 hs)
      clear hc HR e1
      go_wp2_with fail
      refine (unhide HRW).mono ?_
      rintro e w2 ⟨b2, o, q, bo, rfl, row, fsh, hx⟩
      obtain ⟨qa, qc, rfl, -, -⟩ := row.form
      have hz2 := b2.size
      have hal := al_b w2 (.cells #[.int .i64 o.k, .int .i64 o.n, .string o.s, .bool o.root, .slice qa o.steps.length qc] 65)
      have hz3 : (w2.alloc (.cells #[.int .i64 o.k, .int .i64 o.n, .string o.s, .bool o.root, .slice qa o.steps.length qc] 65)).heap.size = w2.heap.size + 1 := by simp
      have hal2 := al_b (w2.alloc (.cells #[.int .i64 o.k, .int .i64 o.n, .string o.s, .bool o.root, .slice qa o.steps.length qc] 65)) (.cells #[.int .i64 o.k, .int .i64 o.n, .string o.s, .bool o.root, .slice qa o.steps.length qc] 65)
      have hb4 := below_next hal hal2
      have hb5 := below_next (below_next (unhide HB1) b2) hb4
      have HB5 := hide hb5
      have ROW := hide ((unhide HH).below hb5)
      have EL := hide (show fopE.E ((w2.alloc (.cells #[.int .i64 o.k, .int .i64 o.n, .string o.s, .bool o.root, .slice qa o.steps.length qc] 65)).alloc (.cells #[.int .i64 o.k, .int .i64 o.n, .string o.s, .bool o.root, .slice qa o.steps.length qc] 65)) [.int .i64 o.k, .int .i64 o.n, .string o.s, .bool o.root, .slice qa o.steps.length qc] o bo from ⟨_, rfl, row.below hb4⟩)
      have FI := hide (fsh.mono (show B ≤ w1.heap.size by omega))
      have AP : Hid (∀ b ∈ bo, b ∉ bl) := fun b hb hbl => by have h1 := fsh.2 b hb; have h2 := (unhide HH).lt b hbl; omega
      have FS2 := hide fsh
      have HX := hide hx
      clear b2 row fsh hx hal hal2 hb4 hb5 HRW HB1
      go_wp2_with (at_builtin; refine wpl_app1 ekFOp rfl (.tmp 92) (.tmp 94) rfl rfl (unhide ROW) (unhide HF) (vs := [.int .i64 o.k, .int .i64 o.n, .string o.s, .bool o.root, .slice qa o.steps.length qc]) (y := o) (unhide EL) (unhide FI) (unhide AP) rfl (by rw [← hz3]; exact lit_cells _ [_, _, _, _, _] _) (fop_one _ _ _ _ _ _ _) (by simp; omega) (by omega) ?_)
      intro v2 w3 bl2 hA
      have HA := hide hA
      obtain ⟨za, zc, rfl, -, -⟩ := hA.row.form
      clear hA
      go_wp2
      go_ret3
      have hA := unhide HA
      have hfr : Fr bl w w3 := (Fr.of_below (unhide HB5)).trans (hA.fr (unhide ROW))
      refine ⟨hfr.below (unhide HF).2 hB, (Shp.of_below (unhide HB5)).trans hA.shp, _, _, _, rfl, fun hn => ?_, fun y hy => ?_⟩
      · rw [unhide HT] at hn
        cases hr : sRef s.data.toList with
        | none => exact ⟨rfl, (hA.row.any hA.fsh).mono (by rw [List.length_append, List.length_singleton]; omega)⟩
        | some z => rw [hr] at hn; cases hn
      · rw [unhide HT] at hy
        cases hr : sRef s.data.toList with
        | none => rw [hr] at hy; cases hy
        | some z =>
          rw [hr] at hy
          injection hy with hy
          subst hy
          have ho : o = opR' 8 z := unhide HX _ (by rw [hr]; rfl)
          refine ⟨rfl, rfl, hfr, bl2, ?_, hA.fsh, fun b hb => ?_⟩
          · show ORow fopE w3 _ (ops ++ [opR' 8 z]) bl2
            rw [← ho]
            exact hA.row
          · rcases hA.sub b hb with h1 | h1 | h1
            · exact .inl h1
            · right; have := (unhide FS2).2 b h1; omega
            · right; rw [h1]; simp; omega
    | some c =>
      obtain ⟨hcl, ⟨nn, u⟩, hpc⟩ := fCmp_pre hc
      rw [data_len] at hcl
      have hpc' : pCmp (dr s c) = some (nn, u) := hpc
      obtain ⟨-, -, -, -, hul, g, hgu⟩ := pCmp_hd hpc'
      have e1 : natO (some c) = (c : Int) := rfl
      rw [e1]
      obtain ⟨K, hK⟩ : ∃ K, (dr s c).length - u.length = K := ⟨_, rfl⟩
      have hgl : g.length = K := by rw [← hK, hgu]; simp
      have hKs : c + K ≤ s.size := by have := dr_len s c; rw [hgu, List.length_append] at this; omega
      have hu : dr s (c + K) = u := by rw [← dr_dr, hgu, ← hgl]; simp
      have HT : Hid (sPr (n + 1) s.data.toList = match sOpd (s.data.toList.take c), sOpd u with
          | some a, some b => some ([a, b, cmO nn], 0)
          | _, _ => none) := by
        show _ = _
        rw [unhide HR]
        unfold sTest
        rw [hc]
        simp only [hpc]
        cases sOpd (s.data.toList.take c) <;> cases sOpd u <;> rfl
      have HCA := hide (compAt_walk s c w1 hs (by omega))
      have eV : cmV (dr s c) (pCmp (dr s c)) = .tuple #[.int .i64 nn, .int .i64 (K : Int)] := by rw [hpc', ← hK]; rfl
      rw [eV] at HCA
      have HOA := hide fun w => operand_walk (s.extract 0 c) w (by simp; omega)
      have HOB := hide fun w => operand_walk (s.extract (c + K) s.size) w (by simp; omega)
      have eA : (s.extract 0 c).data.toList = s.data.toList.take c := by rw [Lib.extract_data]; simp
      rw [eA] at HOA
      rw [dr_ext, hu] at HOB
      have cI : ¬ (c : Int) < 0 := by omega
      have c2 : (c : Int) ≤ (s.size : Int) := by omega
      have c3 : (c : Int) + (K : Int) ≤ (s.size : Int) := by omega
      generalize sOpd (s.data.toList.take c) = RA at *
      generalize sOpd u = RB at *
      clear hc hpc hpc' hul hgu e1 hK hgl hu eV eA HR hcl u g
      go_wp2_with fail
      refine (unhide HCA).mono ?_
      rintro e w2 ⟨rfl, b2⟩
      have B2 := below_next (unhide HB1) b2
      have hz2 := b2.size
      clear HCA b2 HB1
      go_wp2_with fail
      refine (unhide HOA _).mono ?_
      rintro e w3 ⟨b3, oa, qa', boa, rfl, rowa, fsha, hxa⟩
      obtain ⟨qa, qc, rfl, -, -⟩ := rowa.form
      have hz3 := b3.size
      have hal := al_b w3 (.cells #[.int .i64 oa.k, .int .i64 oa.n, .string oa.s, .bool oa.root, .slice qa oa.steps.length qc] 65)
      have hza : (w3.alloc (.cells #[.int .i64 oa.k, .int .i64 oa.n, .string oa.s, .bool oa.root, .slice qa oa.steps.length qc] 65)).heap.size = w3.heap.size + 1 := by simp
      have B4 := below_next (below_next B2 b3) hal
      have rowa4 := rowa.below hal
      have kA : FB (w3.alloc (.cells #[.int .i64 oa.k, .int .i64 oa.n, .string oa.s, .bool oa.root, .slice qa oa.steps.length qc] 65)) w3.heap.size oa.k oa.n oa.s oa.root (.slice qa oa.steps.length qc) := heap_alloc_new w3 _
      have HKA := hide kA
      have HB4 := hide B4
      have HROA := hide rowa4
      have HFA := hide fsha
      have HXA := hide hxa
      have HOB2 := hide (unhide HOB (w3.alloc (.cells #[.int .i64 oa.k, .int .i64 oa.n, .string oa.s, .bool oa.root, .slice qa oa.steps.length qc] 65)))
      clear HOA HOB b3 B2 rowa fsha hxa hal B4 rowa4 kA
      go_wp2_with fail
      generalize (w3.alloc (.cells #[.int .i64 oa.k, .int .i64 oa.n, .string oa.s, .bool oa.root, .slice qa oa.steps.length qc] 65)) = w4 at *
      refine (unhide HOB2).mono ?_
      rintro e w5 ⟨b5, ob, qb', bob, rfl, rowb, fshb, hxb⟩
      obtain ⟨pa, pc, rfl, -, -⟩ := rowb.form
      have hz5 := b5.size
      have hal := al_b w5 (.cells #[.int .i64 ob.k, .int .i64 ob.n, .string ob.s, .bool ob.root, .slice pa ob.steps.length pc] 65)
      have hz6 : (w5.alloc (.cells #[.int .i64 ob.k, .int .i64 ob.n, .string ob.s, .bool ob.root, .slice pa ob.steps.length pc] 65)).heap.size = w5.heap.size + 1 := by simp
      have b6 := below_next b5 hal
      have B6 := below_next (unhide HB4) b6
      obtain ⟨ca0, ca1, ca2, ca3, ca4⟩ := ((unhide HKA).below b6).c
      have rowa6 := (unhide HROA).below b6
      have rowb6 := rowb.below hal
      have hrow6 := (unhide HH).below B6
      have kB : FB (w5.alloc (.cells #[.int .i64 ob.k, .int .i64 ob.n, .string ob.s, .bool ob.root, .slice pa ob.steps.length pc] 65)) w5.heap.size ob.k ob.n ob.s ob.root (.slice pa ob.steps.length pc) := heap_alloc_new w5 _
      have HFB := hide fshb
      have HXB := hide hxb
      have hbw : ∀ b ∈ boa, b < w4.heap.size := (unhide HROA).lt
      have HBW := hide hbw
      clear hbw b5 hal b6 rowb fshb hxb HOB2 HROA HKA HB4
      go_upto_region 14 with fail
      generalize (w5.alloc (.cells #[.int .i64 ob.k, .int .i64 ob.n, .string ob.s, .bool ob.root, .slice pa ob.steps.length pc] 65)) = w6 at *
      obtain ⟨cb0, cb1, cb2, cb3, cb4⟩ := kB.c
      have hal7 := al_b w6 (.cells #[.int .i64 oa.k, .int .i64 oa.n, .string oa.s, .bool oa.root, .slice qa oa.steps.length qc, .int .i64 ob.k, .int .i64 ob.n, .string ob.s, .bool ob.root, .slice pa ob.steps.length pc, .int .i64 9, .int .i64 nn, .string ⟨#[]⟩, .bool false, .slice none 0 0] 65)
      have B7 := hide (below_next B6 hal7)
      have RW7 := hide (hrow6.below hal7)
      have EL : Hid (∀ (j : Nat) (p : List Value × List Nat) (y : PFOp), [([.int .i64 oa.k, .int .i64 oa.n, .string oa.s, .bool oa.root, .slice qa oa.steps.length qc], boa), ([.int .i64 ob.k, .int .i64 ob.n, .string ob.s, .bool ob.root, .slice pa ob.steps.length pc], bob), ([.int .i64 9, .int .i64 nn, .string ⟨#[]⟩, .bool false, .slice none 0 0], ([] : List Nat))][j]? = some p → [oa, ob, cmO nn][j]? = some y → fopE.E (w6.alloc (.cells #[.int .i64 oa.k, .int .i64 oa.n, .string oa.s, .bool oa.root, .slice qa oa.steps.length qc, .int .i64 ob.k, .int .i64 ob.n, .string ob.s, .bool ob.root, .slice pa ob.steps.length pc, .int .i64 9, .int .i64 nn, .string ⟨#[]⟩, .bool false, .slice none 0 0] 65)) p.1 y p.2) := fun j p y h1 h2 => by
        match j, h1, h2 with
        | 0, h1, h2 => simp at h1 h2; subst h1; subst h2; exact ⟨_, rfl, rowa6.below hal7⟩
        | 1, h1, h2 => simp at h1 h2; subst h1; subst h2; exact ⟨_, rfl, rowb6.below hal7⟩
        | 2, h1, h2 => simp at h1 h2; subst h1; subst h2; exact fopE_lit _ _ _ _
        | j + 3, h1, h2 => simp at h1
      have hfl : ([([.int .i64 oa.k, .int .i64 oa.n, .string oa.s, .bool oa.root, .slice qa oa.steps.length qc], boa), ([.int .i64 ob.k, .int .i64 ob.n, .string ob.s, .bool ob.root, .slice pa ob.steps.length pc], bob), ([.int .i64 9, .int .i64 nn, .string ⟨#[]⟩, .bool false, .slice none 0 0], ([] : List Nat))] : List (List Value × List Nat)).flatMap (·.2) = boa ++ bob := by simp
      have HFL := hide hfl
      have FI : Hid (Fsh B (boa ++ bob)) := ((unhide HFA).mono (by omega)).app (unhide HBW) (unhide HFB) (by omega)
      have AP : Hid (∀ b ∈ boa ++ bob, b ∉ bl) := fun b hb hbl => by
        have h2 := (unhide HH).lt b hbl
        rcases List.mem_append.1 hb with hb | hb
        · have h1 := (unhide HFA).2 b hb; omega
        · have h1 := (unhide HFB).2 b hb; omega
      have ONE : Hid (∀ u ∈ ([([.int .i64 oa.k, .int .i64 oa.n, .string oa.s, .bool oa.root, .slice qa oa.steps.length qc], boa), ([.int .i64 ob.k, .int .i64 ob.n, .string ob.s, .bool ob.root, .slice pa ob.steps.length pc], bob), ([.int .i64 9, .int .i64 nn, .string ⟨#[]⟩, .bool false, .slice none 0 0], ([] : List Nat))] : List (List Value × List Nat)).flatMap (·.1), u.oneCell' = true) := by
        intro u hu
        simp at hu
        rcases hu with rfl | rfl | rfl | rfl | rfl | rfl | rfl | rfl | rfl | rfl | rfl | rfl | rfl | rfl | rfl <;> rfl
      have hB6 : B ≤ w6.heap.size := by omega
      have hW6 : w.heap.size ≤ w6.heap.size := by omega
      have hW4 : w.heap.size ≤ w4.heap.size := by omega
      clear hal7 rowa6 rowb6 hrow6 kB B6 hfl hz6 hza
      obtain ⟨fa, hfa⟩ : ∃ b, RA.isSome = b := ⟨_, rfl⟩
      obtain ⟨fb, hfb⟩ : ∃ b, RB.isSome = b := ⟨_, rfl⟩
      rw [hfa, hfb]
      have HFA2 := hide hfa
      have HFB2 := hide hfb
      clear hfa hfb
      cases fa
      all_goals
        go_wp2_with (at_builtin; refine wpl_apps ekFOp rfl (.tmp 119) (.tmp 124) rfl rfl (unhide RW7) (unhide HF) (qs := [([.int .i64 oa.k, .int .i64 oa.n, .string oa.s, .bool oa.root, .slice qa oa.steps.length qc], boa), ([.int .i64 ob.k, .int .i64 ob.n, .string ob.s, .bool ob.root, .slice pa ob.steps.length pc], bob), ([.int .i64 9, .int .i64 nn, .string ⟨#[]⟩, .bool false, .slice none 0 0], ([] : List Nat))]) (ys := [oa, ob, cmO nn]) rfl (by simp) (unhide EL) (by rw [unhide HFL]; exact unhide FI) (by rw [unhide HFL]; exact unhide AP) rfl (by exact lit_cells w6 [_, _, _, _, _, _, _, _, _, _, _, _, _, _, _] _) (unhide ONE) (by simp; omega) (by simp; omega) ?_)
        intro v2 w7 bl2 hA
        have HA := hide hA
        obtain ⟨za, zc, rfl, -, -⟩ := hA.row.form
        clear hA
        go_wp2
        go_ret3
        have hA := unhide HA
        have hfr : Fr bl w w7 := (Fr.of_below (unhide B7)).trans (hA.fr (unhide RW7))
        refine ⟨hfr.below (unhide HF).2 hB, (Shp.of_below (unhide B7)).trans hA.shp, _, _, _, rfl, fun hn => ?_, fun y hy => ?_⟩
        · rw [unhide HT] at hn
          refine ⟨?_, (hA.row.any hA.fsh).mono (by simp only [List.length_append, List.length_cons, List.length_nil]; omega)⟩
          have h1 := unhide HFA2
          have h2 := unhide HFB2
          cases RA with
          | none => first | rfl | cases h1
          | some a =>
            cases RB with
            | none => first | (cases h1; done) | exact h2.symm
            | some b => cases hn
        · rw [unhide HT] at hy
          have h1 := unhide HFA2
          have h2 := unhide HFB2
          cases RA with
          | none => cases hy
          | some a =>
            cases RB with
            | none => cases hy
            | some b =>
              injection hy with hy
              subst hy
              first
              | cases h1; done
              | (refine ⟨h2.symm, rfl, hfr, bl2, ?_, hA.fsh, fun b hb => ?_⟩
                 · show ORow fopE w7 _ (ops ++ [a, b, cmO nn]) bl2
                   rw [← unhide HXA a rfl, ← unhide HXB b rfl]
                   exact hA.row
                 · rcases hA.sub b hb with h3 | h3 | h3
                   · exact .inl h3
                   · right
                     rcases List.mem_append.1 h3 with h3 | h3
                     · have := (unhide HFA).2 b h3; omega
                     · have := (unhide HFB).2 b h3; omega
                   · right; rw [h3]; simp; omega)
end Go.Proofs.Ytiolpmhodbefoaa

