import Derived.Deep.CutRange
import Derived.Test.YtiolpmhodbefoaaBp29
namespace Go.Proofs.Ytiolpmhodbefoaa
open Go.RowKit

theorem step_one (b : Bool) (t : ByteArray) (i : Int) : ∀ u ∈ [Value.bool b, .string t, .int .i64 i], u.oneCell' = true := by
  intro u hu; simp at hu; rcases hu with rfl | rfl | rfl <;> rfl
theorem ref_map {s : ByteArray} {root : Bool} {R : Option (List PStep)} (h : sRef s.data.toList = R.map fun p => (root, p)) : (sRef s.data.toList).map (opR' 8) = R.map fun p => opR' 8 (root, p) := by
  rw [h]; cases R <;> rfl
theorem ne_t {c d : UInt8} (h : ¬ c = d) : (((c.toNat : Nat) : Int) != ((d.toNat : Nat) : Int)) = true := by rw [bne_iff_ne]; exact u8_not h
theorem ne_f {c d : UInt8} (h : c = d) : (((c.toNat : Nat) : Int) != ((d.toNat : Nat) : Int)) = false := by rw [h]; simp
theorem eq_t {c d : UInt8} (h : c = d) : (((c.toNat : Nat) : Int) == ((d.toNat : Nat) : Int)) = true := by rw [h]; simp
theorem eq_f {c d : UInt8} (h : ¬ c = d) : (((c.toNat : Nat) : Int) == ((d.toNat : Nat) : Int)) = false := beq_eq_false_iff_ne.2 (u8_not h)
set_option maxRecDepth 100000 in
set_option maxHeartbeats 8000000 in
theorem ref_walk (s : ByteArray) (w : World) (hs : s.size ≤ 1048576) : Calls Try.prog 87 #[.string s] w (FRet w ((sRef s.data.toList).map (opR' 8))) := by
  by_cases h0 : 0 < s.size
  · have h0I : (0 : Int) < (s.size : Int) := by omega
    have t1 : ¬ ((s.size : Nat) : Int) < 1 := by omega
    by_cases hc : s[0] = 36 ∨ s[0] = 64
    · obtain ⟨R, hU, hR⟩ := (RefUp.start h0).2 hc
      have HR := hide (ref_map hR)
      have HU := hide hU
      clear hR hU
      have b36 : (((s[0].toNat : Nat) : Int) == 36) = decide (s[0] = 36) := by
        by_cases h : s[0] = 36
        · rw [decide_eq_true h]; exact eq_t h
        · rw [decide_eq_false h]; exact eq_f h
      generalize decide (s[0] = 36) = root at *
      generalize (sRef s.data.toList).map (opR' 8) = RR at *
      have HIN : Hid (∀ (d : ByteArray) (w : World), d.size ≤ 1048576 → Calls Try.prog 40 #[.string d] w fun e w' => e = .returned (.bool (sName d.data.toList)) ∧ w = w') := fun d w hd => isName_walk d w hd
      have HCL : Hid (∀ (d : ByteArray) (w : World), d.size ≤ 1048576 → Calls Try.prog 35 #[.string d] w fun e w' => e = .returned (.int .i64 (natO (clo 0 0 d.data.toList))) ∧ w = w') := fun d w hd => close_walk d w hd
      go_enter Try.func87, Try.ntmps87
      go_upto_region 2 with fail
      go_cut [27] from 15 to 27 (fun x wx => x = .bool false ∧ wx = (w.alloc (.cells #[.int .i64 0, .int .i64 0, .string ⟨#[]⟩, .bool false, .slice none 0 0] 65)).alloc (.cells #[.int .i64 0, .int .i64 0, .string ⟨#[]⟩, .bool false, .slice none 0 0] 65))
      case first =>
        rcases hc with hc | hc
        · have n64 : (((s[0].toNat : Nat) : Int) != 64) = true := ne_t (d := 64) (by rw [hc]; decide)
          have n36 : (((s[0].toNat : Nat) : Int) != 36) = false := ne_f hc
          clear hc
          go_wp2
          go_meet
          case rel => exact ⟨rfl, rfl⟩
        · have n64 : (((s[0].toNat : Nat) : Int) != 64) = false := ne_f hc
          clear hc
          go_wp2
          go_meet
          case rel => exact ⟨rfl, rfl⟩
      obtain ⟨rfl, rfl⟩ := hcut
      go_wp2_with fail
      go_loopg [6] (s.size + 1 - 1) (fun g iv wr => ∃ (k : Nat) (acc : List PStep) (q : Value) (bl : List Nat), g = s.size + 1 - k ∧ iv = .int .i64 (k : Int) ∧ 1 ≤ k ∧ k ≤ s.size ∧ acc.length ≤ k ∧ Hid (RefUp s R k acc) ∧ Hid (RS w wr root acc q bl))
      case atStart => exact ⟨1, [], _, _, rfl, rfl, Nat.le_refl _, by omega, by simp, HU, RS.start w root⟩
      case round =>
        obtain ⟨k, acc, q, bl, hg, rfl, hk1, hk, hal, hu, hrs⟩ := hrel
        clear HU b36 t1 hc
        obtain ⟨qa, qc, rfl, -, -⟩ := (unhide hrs).row.form
        obtain ⟨c20, c21, c22, c23, c24⟩ := (unhide hrs).r2.c
        obtain ⟨f20, f21, f22, f23, f24⟩ := (unhide hrs).r2.fz
        by_cases hlt : k < s.size
        · have hltI : (k : Int) < (s.size : Int) := by omega
          have k0 : (0 : Int) ≤ (k : Int) := by omega
          by_cases h46 : s[k] = 46
          · have b46 : (((s[k].toNat : Nat) : Int) == 46) = true := eq_t h46
            go_wp2_with fail
            go_loopw [7] (fun jv w' => ∃ j : Nat, jv = .int .i64 (j : Int) ∧ Hid (NoStop s (k + 1) j) ∧ wr = w') (fun jv _ => s.size - (intOf jv).toNat)
            case atStart => exact ⟨k + 1, by go_num, ⟨Nat.le_refl _, by omega, fun m hm h1 h2 => by omega⟩, rfl⟩
            case round =>
              obtain ⟨j, rfl, hns, rfl⟩ := hrel
              have hj1 := (unhide hns).1
              have hj2 := (unhide hns).2.1
              go_upto_region 9 with fail
              go_cut [59] from 44 to 59 (fun x wx => (∃ b, x = .bool b ∧ (b = true → ∃ hj : j < s.size, isStop s[j] = false) ∧ (b = false → j = s.size ∨ ∃ hj : j < s.size, isStop s[j] = true)) ∧ wr = wx)
              case first =>
                by_cases hj : j < s.size
                · have jI : (j : Int) < (s.size : Int) := by omega
                  by_cases hc : s[j] = 46
                  · have n46 : (((s[j].toNat : Nat) : Int) != 46) = false := ne_f hc
                    have HC := hide (stop_is.2 (.inl hc))
                    clear hc
                    go_wp2
                    go_meet
                    case rel => exact ⟨⟨false, rfl, fun h => (by cases h), fun _ => .inr ⟨hj, unhide HC⟩⟩, rfl⟩
                  · have n46 : (((s[j].toNat : Nat) : Int) != 46) = true := ne_t (d := 46) hc
                    by_cases hd : s[j] = 91
                    · have n91 : (((s[j].toNat : Nat) : Int) != 91) = false := ne_f hd
                      have HC := hide (stop_is.2 (.inr hd))
                      clear hc hd
                      go_wp2
                      go_meet
                      case rel => exact ⟨⟨false, rfl, fun h => (by cases h), fun _ => .inr ⟨hj, unhide HC⟩⟩, rfl⟩
                    · have n91 : (((s[j].toNat : Nat) : Int) != 91) = true := ne_t (d := 91) hd
                      have HC : Hid (isStop s[j] = false) := by
                        show _ = _
                        cases h : isStop s[j] with
                        | false => rfl
                        | true => rcases stop_is.1 h with h | h; exact absurd h hc; exact absurd h hd
                      clear hc hd
                      go_wp2
                      go_meet
                      case rel => exact ⟨⟨true, rfl, fun _ => ⟨hj, unhide HC⟩, fun h => by cases h⟩, rfl⟩
                · have jI : ¬ (j : Int) < (s.size : Int) := by omega
                  go_wp2
                  go_meet
                  case rel => exact ⟨⟨false, rfl, fun h => (by cases h), fun _ => .inl (by omega)⟩, rfl⟩
              obtain ⟨⟨b, rfl, hyes, hno⟩, rfl⟩ := hcut
              cases b with
              | true =>
                obtain ⟨hj, hc⟩ := hyes rfl
                have HS := hide ((unhide hns).next hj hc)
                have jI : (j : Int) < (s.size : Int) := by omega
                clear hc b46 h46 hyes hno
                go_wp2
                go_roundw
                case rel => exact ⟨j + 1, by go_num, HS, trivial⟩
                case measure => simp [intOf]; omega
              | false =>
                obtain ⟨hd, hlen, hbs⟩ := (unhide hns).tw (hno rfl)
                have HD := hide hd
                have HL := hide hlen
                have HBS := hide hbs
                have i1 : (k : Int) + 1 ≤ (j : Int) := by omega
                have i2 : (j : Int) ≤ (s.size : Int) := by omega
                have i3 : (0 : Int) ≤ (k : Int) + 1 := by omega
                clear hd hlen hbs b46 hns hyes hno
                have HIN2 := hide (unhide HIN (s.extract (k + 1) j) wr (by simp; omega))
                rw [unhide HD] at HIN2
                go_wp2_with fail
                refine (unhide HIN2).mono ?_
                rintro e w1 ⟨rfl, rfl⟩
                clear HIN2
                cases hb : sName (twS s (k + 1)) with
                | false =>
                  have HF : Hid (RR = none) := by show _ = _; rw [unhide HR, (unhide hu).dotNo hlt h46 hb]; rfl
                  obtain ⟨c40, c41, c42, c43, c44⟩ := (unhide hrs).r4.c
                  clear hb h46
                  go_wp2
                  try simp only [Exit.inBlock, Exit.then]
                  refine bodyPost_ret (results_cell_tmp rfl _ _ w.heap.size 65 #[_, _, _, _, _] (0, 0) _ _ rfl rfl (putN_full (unhide hrs).r2 [_, _, _, _, _] rfl) Try.underlying65 rfl (by kernel_rfl)) rfl ?_
                  exact (unhide hrs).bad (unhide HF)
                | true =>
                  have HNX := hide ((unhide hu).dot hlt h46 hb)
                  clear hb h46
                  have c54 := (unhide hrs).r5.c.2.2.2.2
                  go_wp2
                  obtain ⟨k1, hk1e⟩ : ∃ k1, k + 1 = k1 := ⟨_, rfl⟩
                  have wk : IntKind.i64.wrap ((k : Int) + 1) = (k1 : Int) := by rw [IntKind.wrap_i64]; omega
                  have wk0 : (0 : Int) ≤ (k1 : Int) := by omega
                  have wk1 : (k1 : Int) ≤ (j : Int) := by omega
                  rw [hk1e] at HBS HNX HL
                  have hab : Below wr.heap.size wr (wr.drew.alloc (.cells #[.bool false, .string (s.extract k1 j), .int .i64 0] 94)) := ⟨rfl, rfl, rfl, by simp, fun b hb => Lib.alloc_old wr.drew _ b hb⟩
                  have RS2 := hide ((unhide hrs).below hab)
                  have hfz := (unhide hrs).r5.lt
                  go_region_law (
                    refine stp_app1 ekStep rfl (.tmp 71) (.tmp 78) rfl rfl (unhide RS2).row (unhide RS2).fsh (vs := [.bool false, .string (s.extract k1 j), .int .i64 0]) (y := stName (twS s k1)) ⟨by rw [unhide HBS]; rfl, rfl⟩ (Fsh.nil _) (by simp) rfl (by exact lit_cells wr.drew [_, _, _] _) (step_one _ _ _) (by simp; omega) (by omega) ?_
                    intro v2 w2 bl2 hA
                    have RS3 := hide ((unhide RS2).app hA)
                    obtain ⟨va, vc, rfl, -, -⟩ := hA.row.form
                    rw [List.length_append, List.length_singleton] at RS3
                    have RF := ((unhide RS2).r5.appd hA (unhide RS2).row (unhide RS2).n5).fz.2.2.2.2
                    have RC := ((unhide RS2).r5.appd hA (unhide RS2).row (unhide RS2).n5).c.2.2.2.2
                    clear hA)
                  all_goals
                    have HL2 : k1 + (twS s k1).length = j := unhide HL
                    rw [HL2] at HNX
                    go_wp2
                    go_roundg (s.size + 1 - j)
                    case rel => exact ⟨j, _, _, _, rfl, rfl, by omega, by omega, by simp; omega, HNX, RS3⟩
                    case measure => omega
          · have b46 : (((s[k].toNat : Nat) : Int) == 46) = false := eq_f (d := 46) h46
            by_cases h91 : s[k] = 91
            · have b91 : (((s[k].toNat : Nat) : Int) == 91) = true := eq_t h91
              have e0 : (s.extract k s.size).data.toList = dr s k := by
                rw [Lib.extract_data]; unfold dr; exact List.take_of_length_le (by rw [List.length_drop, data_len]; exact Nat.le_refl _)
              have HCL2 := hide (unhide HCL (s.extract k s.size) wr (by simp; omega))
              rw [e0] at HCL2
              clear e0
              have hkI : (k : Int) ≤ (s.size : Int) := by omega
              have HBN := hide fun h => (unhide hu).brNo hlt h91 h
              have HBR := hide fun q hq h2 => (unhide hu).br hlt h91 (q := q) hq h2
              clear h46 h91
              go_wp2_with fail
              refine (unhide HCL2).mono ?_
              rintro e w1 ⟨rfl, rfl⟩
              clear HCL2
              cases hcl : clo 0 0 (dr s k) with
              | none =>
                have HF : Hid (RR = none) := by show _ = _; rw [unhide HR, unhide HBN (by rw [hcl]; decide)]; rfl
                obtain ⟨c40, c41, c42, c43, c44⟩ := (unhide hrs).r4.c
                clear hcl HBN HBR
                have hnat : natO none = -1 := rfl
                rw [hnat]
                clear hnat
                go_wp2
                try simp only [Exit.inBlock, Exit.then]
                refine bodyPost_ret (results_cell_tmp rfl _ _ w.heap.size 65 #[_, _, _, _, _] (0, 0) _ _ rfl rfl (putN_full (unhide hrs).r2 [_, _, _, _, _] rfl) Try.underlying65 rfl (by kernel_rfl)) rfl ?_
                exact (unhide hrs).bad (unhide HF)
              | some m =>
                have hnat : natO (some m) = (m : Int) := rfl
                rw [hnat]
                clear hnat
                by_cases h2 : m < 2
                · have HF : Hid (RR = none) := by show _ = _; rw [unhide HR, unhide HBN (by rw [hcl]; show (m : Int) < 2; omega)]; rfl
                  have h2I : (m : Int) < 2 := by omega
                  obtain ⟨c40, c41, c42, c43, c44⟩ := (unhide hrs).r4.c
                  clear hcl HBN HBR
                  go_wp2
                  try simp only [Exit.inBlock, Exit.then]
                  refine bodyPost_ret (results_cell_tmp rfl _ _ w.heap.size 65 #[_, _, _, _, _] (0, 0) _ _ rfl rfl (putN_full (unhide hrs).r2 [_, _, _, _, _] rfl) Try.underlying65 rfl (by kernel_rfl)) rfl ?_
                  exact (unhide hrs).bad (unhide HF)
                · obtain ⟨hkq, hno1, hno2, hyes⟩ := unhide HBR m hcl (by omega)
                  have h2I : ¬ (m : Int) < 2 := by omega
                  obtain ⟨n, i, es, ei, hp, hn0, hn1⟩ := sIn_parts (inS s k m)
                  generalize (sStr (inS s k m)).isSome = bS at *
                  generalize (sInt (inS s k m)).isSome = bI at *
                  have hin : s.extract (k + 1) (k + m - 1) = bsT (inS s k m) := by
                    rw [ext_bs]
                    show _ = bsT (((s.data.toList.drop (k + 1))).take (m - 2))
                    congr 2
                    omega
                  have HST : Hid (∀ w, Calls Try.prog 56 #[.string (bsT (inS s k m))] w fun e w' => e = .returned (.tuple #[.string n, .bool bS]) ∧ Below w.heap.size w w') := fun w => by
                    have := str_walk (bsT (inS s k m)) w (by rw [← hin]; simp; omega)
                    rw [← es]; exact this
                  have HIT : Hid (∀ w, Calls Try.prog 57 #[.string (bsT (inS s k m))] w fun e w' => e = .returned (.tuple #[.int .i64 i, .bool bI]) ∧ w = w') := fun w => by
                    have := int_walk (bsT (inS s k m)) w (by rw [← hin]; simp; omega)
                    rw [← ei]; exact this
                  have HIN3 := hide hin
                  have H1 := hide hno1
                  have H2 := hide hno2
                  have H3 := hide hyes
                  have HP := hide hp
                  have H4 := hide hn0
                  have H5 := hide hn1
                  have hx : k + m - 1 < s.size := by omega
                  clear hin hno1 hno2 hyes hp hn0 hn1 es ei hcl HBN HBR HIN HCL
                  have hkm : (k : Int) + (m : Int) - 1 = ((k + m - 1 : Nat) : Int) := by omega
                  have j1 : (k : Int) + 1 ≤ (k : Int) + (m : Int) - 1 := by omega
                  have j2 : (k : Int) + (m : Int) - 1 ≤ (s.size : Int) := by omega
                  go_wp2_with fail
                  rw [unhide HIN3]
                  refine (unhide HST _).mono ?_
                  rintro e w1 ⟨rfl, b1⟩
                  have RS1 := hide ((unhide hrs).below b1)
                  clear HST b1 hrs c20 c21 c22 c23 c24 f20 f21 f22 f23 f24
                  go_wp2_with fail
                  refine (unhide HIT _).mono ?_
                  rintro e w2 ⟨rfl, rfl⟩
                  clear HIT
                  obtain ⟨c20, c21, c22, c23, c24⟩ := (unhide RS1).r2.c
                  obtain ⟨f20, f21, f22, f23, f24⟩ := (unhide RS1).r2.fz
                  go_upto_region 23 with fail
                  go_cut [125] from 111 to 125 (fun x wx => (∃ b, x = .bool b ∧ (b = true → RR = none) ∧ (b = false → ∃ p, sIn (inS s k m) = some p ∧ RefUp s R (k + m) (acc ++ [p]))) ∧ w1 = wx)
                  case first =>
                    have hmI : ((k + m - 1 : Nat) : Int) < (s.size : Int) := by omega
                    by_cases h93 : s[k + m - 1] = 93
                    · have n93 : (((s[k + m - 1].toNat : Nat) : Int) != 93) = false := ne_f h93
                      have H6 := hide fun p => unhide H3 p (fun _ => h93)
                      clear h93
                      cases bS with
                      | true =>
                        have H7 := hide (unhide H5 (.inl rfl))
                        go_wp2
                        go_meet
                        case rel =>
                          refine ⟨⟨false, rfl, fun h => (by cases h), fun _ => ?_⟩, rfl⟩
                          obtain ⟨p, hp⟩ := unhide H7
                          exact ⟨p, hp, unhide H6 p hp⟩
                      | false =>
                        cases bI with
                        | true =>
                          have H7 := hide (unhide H5 (.inr rfl))
                          go_wp2
                          go_meet
                          case rel =>
                            refine ⟨⟨false, rfl, fun h => (by cases h), fun _ => ?_⟩, rfl⟩
                            obtain ⟨p, hp⟩ := unhide H7
                            exact ⟨p, hp, unhide H6 p hp⟩
                        | false =>
                          have HF : Hid (RR = none) := by show _ = _; rw [unhide HR, unhide H2 (unhide H4 rfl rfl)]; rfl
                          go_wp2
                          go_meet
                          case rel => exact ⟨⟨true, rfl, fun _ => unhide HF, fun h => (by cases h)⟩, rfl⟩
                    · have n93 : (((s[k + m - 1].toNat : Nat) : Int) != 93) = true := ne_t (d := 93) h93
                      have HF : Hid (RR = none) := by show _ = _; rw [unhide HR, unhide H1 (fun _ => h93)]; rfl
                      clear h93
                      go_wp2
                      go_meet
                      case rel => exact ⟨⟨true, rfl, fun _ => unhide HF, fun h => (by cases h)⟩, rfl⟩
                  obtain ⟨⟨b, rfl, hb1, hb2⟩, rfl⟩ := hcut
                  cases b with
                  | true =>
                    have HF : Hid (RR = none) := hb1 rfl
                    obtain ⟨c40, c41, c42, c43, c44⟩ := (unhide RS1).r4.c
                    clear hb1 hb2
                    go_wp2
                    try simp only [Exit.inBlock, Exit.then]
                    refine bodyPost_ret (results_cell_tmp rfl _ _ w.heap.size 65 #[_, _, _, _, _] (0, 0) _ _ rfl rfl (putN_full (unhide RS1).r2 [_, _, _, _, _] rfl) Try.underlying65 rfl (by kernel_rfl)) rfl ?_
                    exact (unhide RS1).bad (unhide HF)
                  | false =>
                    obtain ⟨p, hsp, hup⟩ := hb2 rfl
                    have hpe := unhide HP p hsp
                    have HUP := hide hup
                    have HPE := hide hpe
                    have c54 := (unhide RS1).r5.c.2.2.2.2
                    have hfz := (unhide RS1).r5.lt
                    clear hb1 hb2 hsp hup hpe H1 H2 H3 H4 H5 HP
                    have RS2 := hide ((unhide RS1).below (al_b w1 (.cells #[.bool bI, .string n, .int .i64 i] 94)))
                    go_wp2_with (at_builtin; refine wpl_app1 ekStep rfl (.tmp 128) (.tmp 133) rfl rfl (unhide RS2).row (unhide RS2).fsh (vs := [.bool bI, .string n, .int .i64 i]) (y := p) ⟨by rw [unhide HPE], rfl⟩ (Fsh.nil _) (by simp) rfl (by exact lit_cells w1 [_, _, _] _) (step_one _ _ _) (by simp; omega) (by omega) ?_)
                    intro v2 w2 bl2 hA
                    have RS3 := hide ((unhide RS2).app hA)
                    obtain ⟨va, vc, rfl, -, -⟩ := hA.row.form
                    rw [List.length_append, List.length_singleton] at RS3
                    have RF := ((unhide RS2).r5.appd hA (unhide RS2).row (unhide RS2).n5).fz.2.2.2.2
                    have RC := ((unhide RS2).r5.appd hA (unhide RS2).row (unhide RS2).n5).c.2.2.2.2
                    clear hA
                    go_wp2
                    go_roundg (s.size + 1 - (k + m))
                    case rel => exact ⟨k + m, _, _, _, rfl, by go_num, by omega, by omega, by simp; omega, HUP, RS3⟩
                    case measure => omega
            · have b91 : (((s[k].toNat : Nat) : Int) == 91) = false := eq_f (d := 91) h91
              have HF : Hid (RR = none) := by show _ = _; rw [unhide HR, (unhide hu).other hlt h46 h91]; rfl
              obtain ⟨c40, c41, c42, c43, c44⟩ := (unhide hrs).r4.c
              clear h46 h91
              go_wp2
              try simp only [Exit.inBlock, Exit.then]
              refine bodyPost_ret (results_cell_tmp rfl _ _ w.heap.size 65 #[_, _, _, _, _] (0, 0) _ _ rfl rfl (putN_full (unhide hrs).r2 [_, _, _, _, _] rfl) Try.underlying65 rfl (by kernel_rfl)) rfl ?_
              exact (unhide hrs).bad (unhide HF)
        · have HF : Hid (RR = some (opR' 8 (root, acc))) := by show _ = _; rw [unhide HR, (unhide hu).fin (by omega)]; rfl
          have hltI : ¬ (k : Int) < (s.size : Int) := by omega
          obtain ⟨c50, c51, c52, c53, c54⟩ := (unhide hrs).r5.c
          go_wp2
          try simp only [Exit.inBlock, Exit.then]
          refine bodyPost_ret (results_cell_tmp rfl _ _ w.heap.size 65 #[_, _, _, _, _] (0, 0) _ _ rfl rfl (putN_full (unhide hrs).r2 [_, _, _, _, _] rfl) Try.underlying65 rfl (by kernel_rfl)) rfl ?_
          exact (unhide hrs).good (unhide HF)
    · have HN := hide ((RefUp.start h0).1 hc)
      have n64 : (((s[0].toNat : Nat) : Int) != 64) = true := ne_t (d := 64) fun h => hc (.inr h)
      have n36 : (((s[0].toNat : Nat) : Int) != 36) = true := ne_t (d := 36) fun h => hc (.inl h)
      clear hc
      go_enter Try.func87, Try.ntmps87
      go_wp2
      go_returns
      exact FRet.zero (below_next (al_b w _) (al_b _ _)) (by rw [unhide HN]; rfl)
  · have HN : Hid (sRef s.data.toList = none) := by
      show _ = _
      have : s.data.toList = [] := List.eq_nil_of_length_eq_zero (by rw [data_len]; omega)
      rw [this]; rfl
    have t1 : ((s.size : Nat) : Int) < 1 := by omega
    clear h0
    go_enter Try.func87, Try.ntmps87
    go_wp2
    go_returns
    exact FRet.zero (below_next (al_b w _) (al_b _ _)) (by rw [unhide HN]; rfl)
end Go.Proofs.Ytiolpmhodbefoaa

