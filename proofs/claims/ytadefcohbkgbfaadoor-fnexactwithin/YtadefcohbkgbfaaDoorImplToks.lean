import Derived.Test.YtadefcohbkgbfaaDoorSplit
import Derived.Test.YtadefcohbkgbfaaDoorByteRow
import Derived.Test.YtadefcohbkgbfaaDoorImplTok
namespace Go.Proofs.YtadefcohbkgbfaaDoor
open Go.RowKit

theorem pieces_head_ne {c : UInt8} {r : List UInt8} (h : ¬ c.toNat = 47) : ∃ p ps, pieces (c :: r) = (c :: p) :: ps := by
  cases hp : pieces r with
  | nil => exact absurd hp (pieces_ne r)
  | cons p ps => exact ⟨p, ps, pieces_go h hp⟩

theorem pieces_size : ∀ (l p : List UInt8), p ∈ pieces l → p.length ≤ l.length
  | [], p, h => by simp [pieces] at h; subst h; simp
  | c :: r, p, h => by
    have ih := pieces_size r
    by_cases hc : c.toNat = 47
    · rw [pieces_cut r hc] at h
      rcases List.mem_cons.1 h with rfl | h
      · simp
      · have := ih p h; simp; omega
    · cases hp : pieces r with
      | nil => exact absurd hp (pieces_ne r)
      | cons q qs =>
        rw [pieces_go hc hp] at h
        rcases List.mem_cons.1 h with rfl | h
        · have := ih q (by rw [hp]; exact List.mem_cons_self); simp; omega
        · have := ih p (by rw [hp]; exact List.mem_cons_of_mem _ h); simp; omega

/-- What of the pieces is read. -/
def MpAt (qs : List (List UInt8)) (k : Nat) (done : List (List UInt8)) : Prop := qs.mapM unesc = ((qs.drop k).mapM unesc).map (done ++ ·)
theorem MpAt.start (qs : List (List UInt8)) : MpAt qs 0 [] := by simp [MpAt]
theorem mapM_cons' (p : List UInt8) (ps : List (List UInt8)) : (p :: ps).mapM unesc = (unesc p).bind fun t => (ps.mapM unesc).map (t :: ·) := by
  rw [List.mapM_cons]
  cases unesc p with
  | none => rfl
  | some t => cases List.mapM unesc ps <;> rfl
theorem MpAt.step {qs done : List (List UInt8)} {k : Nat} {t : List UInt8} (h : MpAt qs k done) (hk : k < qs.length) (hu : unesc qs[k] = some t) : MpAt qs (k + 1) (done ++ [t]) := by
  unfold MpAt at *
  rw [h, List.drop_eq_getElem_cons hk, mapM_cons', hu]
  show Option.map (done ++ ·) (Option.map (t :: ·) _) = _
  rw [Option.map_map]; congr 1; funext x; simp
theorem MpAt.bad {qs done : List (List UInt8)} {k : Nat} (h : MpAt qs k done) (hk : k < qs.length) (hu : unesc qs[k] = none) : qs.mapM unesc = none := by
  unfold MpAt at h
  rw [h, List.drop_eq_getElem_cons hk, mapM_cons', hu]; rfl
theorem MpAt.fin {qs done : List (List UInt8)} {k : Nat} (h : MpAt qs k done) (hk : qs.length ≤ k) : qs.mapM unesc = some done := by
  unfold MpAt at h
  rw [h, List.drop_eq_nil_of_le hk]; simp

set_option maxHeartbeats 1000000 in
set_option maxRecDepth 100000 in
theorem implToks_walk (s : ByteArray) (w : World) (hML : ML w) (hs : s.size ≤ 1048576) :
    Calls Tryd.prog 13 #[.string s] w fun e w' => ∃ v, e = .returned (.tuple #[v, .bool (ptoks s.data.toList).isSome]) ∧ OT w' w.heap.size v ((ptoks s.data.toList).getD []) ∧ Below w.heap.size w w' := by
  obtain ⟨i0, hi, hz0, hz1, hz2⟩ := info_parts infoString
  by_cases h0 : s.size = 0
  · have hse : s = ⟨#[]⟩ := by
      have : s.data.toList = [] := List.eq_nil_of_length_eq_zero (by rw [data_len]; exact h0)
      obtain ⟨⟨l⟩⟩ := s; simp at this; subst this; rfl
    subst hse
    clear h0
    go_enter Tryd.func13, Tryd.ntmps13
    go_wp2
    go_ret2
    exact ⟨_, rfl, World.ownsRow_nil _ _ _ _, Below.refl _ _⟩
  · have hne : s.toList.isEmpty = false := by
      rw [Lib.toList_data, List.isEmpty_eq_false_iff]; intro e; exact h0 (by rw [← data_len, e]; rfl)
    have h0' : 0 < s.size := by omega
    have hdl := data_len s
    have C := hide (split_walk s w hML hs)
    have hcd := cuts_data s
    have hcl := cuts_le s
    have hll : s.data.toList = s[0] :: s.data.toList.drop 1 := by have := drop_at s 0 h0'; simpa using this
    obtain ⟨p0, ps, hps⟩ : ∃ p0 ps, cuts s = p0 :: ps := by
      cases h : cuts s with
      | nil => have := cuts_len s; rw [h] at this; simp at this
      | cons p0 ps => exact ⟨p0, ps, rfl⟩
    rw [hps] at hcd hcl
    rw [hps] at C
    by_cases h47 : s[0].toNat = 47
    · rw [hll, pieces_cut _ h47] at hcd
      simp only [List.map_cons, List.cons.injEq] at hcd
      have hp0 : p0 = ⟨#[]⟩ := by obtain ⟨⟨l⟩⟩ := p0; have := hcd.1; simp at this; subst this; rfl
      have HQ := hide hcd.2
      have HP : Hid (ptoks s.data.toList = toks (s.data.toList.drop 1)) := ptoks_cons (by omega) h47
      clear hcd hll h47 hdl
      subst hp0
      go_enter Tryd.func13, Tryd.ntmps13
      go_wp2_with fail
      refine (unhide C).mono ?_
      rintro e w1 ⟨rfl, s1, b1, z1⟩
      have c0 := s1.cell 0 (by simp)
      simp only [Nat.add_zero, List.getD_cons_zero] at c0
      have hpl : ps.length ≤ 1048576 := by simp at hcl; omega
      have hpe : ¬ ps = [] := by intro e; have h := unhide HQ; rw [e] at h; exact pieces_ne _ h.symm
      have hpp : 0 < ps.length := by cases ps with
        | nil => exact absurd rfl hpe
        | cons _ _ => simp
      have HS1 := hide s1
      have hw1 := b1.size
      clear s1 hcl C hps hne
      go_wp2_with (at_make; refine wpList_make_own _ rfl _ _ 27 rfl w1.heap.size 9 i0 (.string ByteArray.empty) 1 Tryd.underlying27 hi hz0 hz1 .i64 .i64 _ ps.length rfl rfl rfl (by rw [hz2]; omega) (by unfold maxLen; omega) (Nat.le_refl _) ?_)
      intro w2 hown2 hgrow2
      have HB2 : Hid (Below w1.heap.size w1 w2) := (Below.refl _ _).grown hgrow2 (Nat.le_refl _) (by intro k hk; cases hk)
      have HO2 := hide hown2
      clear hown2 hgrow2
      go_wp2
      go_loopw [5, 25] (fun v i wr => ∃ (k : Nat) (done : List (List UInt8)), k ≤ ps.length ∧ i = .int .i64 k ∧ done.length ≤ k ∧ OT wr w1.heap.size v done ∧ Below w1.heap.size w1 wr ∧ MpAt (ps.map (·.data.toList)) k done) (fun _ i _ => ps.length - (intOf i).toNat)
      case atStart => exact ⟨0, [], Nat.zero_le _, rfl, Nat.le_refl _, unhide HO2, unhide HB2, MpAt.start _⟩
      case round =>
        obtain ⟨k, done, hk, rfl, hdn, hown, hb, hmp⟩ := hrel
        have HM := hide hmp
        have hwsz := hb.size
        clear hmp HO2 HB2 c0
        by_cases hlt : k < ps.length
        · have hc1 := (unhide HS1).cell (k + 1) (by simp; omega)
          have hc : wr.cell? ⟨w.heap.size, 1 + k, none⟩ = some (.string (ps.getD k ByteArray.empty)) := by
            have h1 : w1.cell? ⟨w.heap.size, 1 + k, none⟩ = some (.string (ps.getD k ByteArray.empty)) := by
              rw [show 1 + k = 0 + (k + 1) from by omega, hc1]; simp
            exact (hb.cell (p := ⟨w.heap.size, 1 + k, none⟩) z1).trans h1
          have hsz : (ps.getD k ByteArray.empty).size ≤ 1048576 := by
            have hm : (ps.getD k ByteArray.empty).data.toList ∈ ps.map (·.data.toList) := List.mem_map.2 ⟨_, by simp [hlt], rfl⟩
            rw [unhide HQ] at hm
            have := pieces_size _ _ hm
            rw [data_len, List.length_drop, data_len] at this; omega
          have hqk : (ps.map (·.data.toList))[k]'(by simpa using hlt) = (ps.getD k ByteArray.empty).data.toList := by simp [hlt]
          have HC := hide (implTok_walk (ps.getD k ByteArray.empty) wr hsz)
          clear hc1 hsz
          generalize ps.getD k ByteArray.empty = p at *
          cases ho : unesc p.data.toList with
          | none =>
            have HF := hide ((unhide HM).bad (by simpa using hlt) (by rw [hqk]; exact ho))
            rw [ho, tokRes_none] at HC
            clear hqk ho
            go_wp2_with fail
            refine (unhide HC).mono ?_
            rintro e w3 ⟨rfl, b3⟩
            have B3 := below_next hb b3
            clear hown HC
            go_wp2
            go_ret2
            have HR : ptoks s.data.toList = none := by rw [unhide HP]; unfold toks; rw [← unhide HQ]; exact unhide HF
            exact ⟨_, by rw [HR]; rfl, by rw [HR]; exact World.ownsRow_nil _ _ _ _, b1.trans (B3.mono hw1)⟩
          | some t =>
            have HF := hide ((unhide HM).step (by simpa using hlt) (by rw [hqk]; exact ho))
            rw [ho, tokRes_some] at HC
            clear hqk ho
            go_wp2_with fail
            refine (unhide HC).mono ?_
            rintro e w3 ⟨rfl, b3⟩
            have B3 := below_next hb b3
            have own3 := own_below hown b3
            have hw3 := B3.size
            clear hown HC b3
            go_wp2_with (at_builtin; refine wpList_append_own _ rfl (.tmp 36) (.tmp 38) 27 rfl w1.heap.size 9 i0 (.string ByteArray.empty) 1 16 Tryd.underlying27 hi hz0 hz1 hz2 rfl (by decide) _ _ _ rfl (own3.alloc _) ⟨w3.heap.size, 0, none⟩ 1 1 [.string (baT t)] rfl rfl (lit1 _ _ _) (one_tok _) (by unfold maxLen; omega) (by omega) (by simp; omega) ?_)
            intro v4 w4 hown4 hgrow4 _
            have B4 : Below w1.heap.size w1 w4 := (B3.alloc hw3 _).grown hgrow4 (by simp; omega) (fun k hk => (own3.lt k hk).1)
            have own4 := OT.step (t := t) hown4
            clear hown4 hgrow4 own3
            go_wp2
            go_roundw
            case rel => exact ⟨k + 1, done ++ [t], by omega, by go_num, by simp; omega, own4, B4, unhide HF⟩
            case measure => simp [intOf]; omega
        · have HF := hide ((unhide HM).fin (by simp; omega))
          go_wp2
          go_ret2
          have HR : ptoks s.data.toList = some done := by rw [unhide HP]; unfold toks; rw [← unhide HQ]; exact unhide HF
          exact ⟨_, by rw [HR]; rfl, by rw [HR]; exact own_mono hown hw1, b1.trans (hb.mono hw1)⟩
    · obtain ⟨q, qs, hq⟩ := pieces_head_ne (r := s.data.toList.drop 1) h47
      rw [hll, hq] at hcd
      simp only [List.map_cons, List.cons.injEq] at hcd
      have hp0 : p0.toList.isEmpty = false := by rw [Lib.toList_data, hcd.1]; rfl
      have HP : Hid (ptoks s.data.toList = none) := ptoks_bad (by omega) h47
      clear hcd hll h47 hdl hq
      go_enter Tryd.func13, Tryd.ntmps13
      go_wp2_with fail
      refine (unhide C).mono ?_
      rintro e w1 ⟨rfl, s1, b1, z1⟩
      have c0 := s1.cell 0 (by simp)
      simp only [Nat.add_zero, List.getD_cons_zero] at c0
      clear s1 C hps hcl hne
      go_wp2
      go_ret2
      exact ⟨_, by rw [unhide HP]; rfl, by rw [unhide HP]; exact World.ownsRow_nil _ _ _ _, b1⟩
end Go.Proofs.YtadefcohbkgbfaaDoor
