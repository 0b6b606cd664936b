import Derived.Test.YtcjajchfjoffnaaGreatDoorBst20
import Derived.Test.YtcjajchfjoffnaaGreatDoorBst21
namespace Go.Proofs.YtcjajchfjoffnaaGreatDoor
open Go.RowKit

theorem storeOk_iff {vs : List Ver} : storeOk vs = true ↔ ∃ h : 0 < vs.length, vs.length ≤ 8 ∧ 0 ≤ vs[0].no ∧ vs[0].no ≤ 1000000 ∧ ∀ j (hj : j < vs.length), verOk vs[0].no j vs[j] = true := by
  cases vs with
  | nil => simp [storeOk]
  | cons m r =>
    simp only [storeOk, Bool.and_eq_true, decide_eq_true_eq, allOk_at]
    constructor
    · rintro ⟨⟨⟨h1, h2⟩, h3⟩, h4⟩
      exact ⟨by simp, h1, h2, h3, fun j hj => by have := h4 j hj; rwa [Nat.zero_add] at this⟩
    · rintro ⟨_, h1, h2, h3, h4⟩
      exact ⟨⟨⟨h1, h2⟩, h3⟩, fun j hj => by rw [Nat.zero_add]; exact h4 j hj⟩
theorem storeOk_no {vs : List Ver} (h : ¬ ∃ h : 0 < vs.length, vs.length ≤ 8 ∧ 0 ≤ vs[0].no ∧ vs[0].no ≤ 1000000 ∧ ∀ j (hj : j < vs.length), verOk vs[0].no j vs[j] = true) : storeOk vs = false := by
  rw [← Bool.not_eq_true, storeOk_iff]; exact h
theorem up_adj {l : List (List UInt8)} (h : ∀ j (hj : j + 1 < l.length), l[j] < l[j + 1]) : UpS l := by
  unfold UpS
  rw [List.pairwise_iff_getElem]
  intro i j hi hj hij
  induction j with
  | zero => omega
  | succ j ih =>
    by_cases e : i = j
    · subst e; exact h i hj
    · exact List.lt_trans (ih (by omega) (by omega)) (h j hj)
theorem touchOk_iff {ss : List ByteArray} : touchOk ss = true ↔ ss.length ≤ 1000 ∧ (∀ j (hj : j + 1 < ss.length), ss[j].data.toList < ss[j + 1].data.toList) ∧ ∀ j (hj : j < ss.length), (ptoks ss[j].data.toList).isSome = true := by
  unfold touchOk
  simp only [Bool.and_eq_true, decide_eq_true_eq, List.all_eq_true, once_id, and_assoc]
  refine and_congr_right fun _ => and_congr ⟨fun h j hj => ?_, fun h => up_adj fun j hj => ?_⟩ ⟨fun h j hj => h _ (List.getElem_mem hj), fun h x hx => ?_⟩
  · have := List.pairwise_iff_getElem.1 h j (j + 1) (by rw [tl_len]; omega) (by rw [tl_len]; omega) (by omega)
    rwa [tl_at, tl_at] at this <;> omega
  · rw [tl_len] at hj
    rw [tl_at (by omega), tl_at hj]
    exact h j hj
  · obtain ⟨j, hj, rfl⟩ := List.mem_iff_getElem.1 hx
    exact h j hj
theorem touchOk_no {ss : List ByteArray} (h : ¬ (ss.length ≤ 1000 ∧ (∀ j (hj : j + 1 < ss.length), ss[j].data.toList < ss[j + 1].data.toList) ∧ ∀ j (hj : j < ss.length), (ptoks ss[j].data.toList).isSome = true)) : touchOk ss = false := by
  rw [← Bool.not_eq_true, touchOk_iff]; exact h
theorem verOk_iff {n0 : Int} {i : Nat} {m : Ver} : verOk n0 i m = true ↔ m.no = n0 + i ∧ goodT m.doc = true ∧ touchOk m.touched = true := by
  unfold verOk
  simp only [Bool.and_eq_true, beq_iff_eq, and_assoc]
end Go.Proofs.YtcjajchfjoffnaaGreatDoor

namespace Go.Proofs.YtcjajchfjoffnaaGreatDoor
open Go.RowKit

theorem tot_mem {ss : List ByteArray} {s : ByteArray} (h : s ∈ ss) : s.size ≤ tot ss := by
  unfold tot
  induction ss with
  | nil => cases h
  | cons a r ih =>
    rw [List.map_cons, List.sum_cons]
    rcases List.mem_cons.1 h with rfl | h
    · omega
    · have := ih h; omega
theorem versIn {vs : List Ver} (hs : szVers vs ≤ 1048576) (k : Nat) (hk : k < vs.length) : vs[k].doc.size ≤ 1048576 ∧ (∀ s ∈ vs[k].touched, s.size ≤ 1048576) ∧ vs[k].touched.length ≤ 1048576 := by
  have h1 := sum_take_snoc szVer vs k vs[k] (List.getElem?_eq_getElem hk)
  have h2 := sum_take_le (vs.map szVer) (k + 1)
  rw [← List.map_take] at h2
  unfold szVers at hs
  have h3 : szVer vs[k] = vs[k].doc.size + (vs[k].touched.length + tot vs[k].touched) := rfl
  exact ⟨by omega, fun s hm => by have := tot_mem hm; omega, by omega⟩
set_option maxRecDepth 100000 in
set_option maxHeartbeats 4000000 in
theorem specStore_walk (p : Value) (vs : List Ver) (bl : List Nat) (w : World) (h : ORow verE w p vs bl) (hs : szVers vs ≤ 1048576) :
    Calls Tryz.prog 15 #[.agg #[p]] w fun e w' => e = .returned (.bool (storeOk vs)) ∧ Below w.heap.size w w' := by
  obtain ⟨xa, xc, rfl, hxf, hxa⟩ := h.form
  have hln := h.len
  unfold maxLen at hln
  have hA := alloc_b w (.cells #[.slice xa vs.length xc] 24)
  have kA := heap_alloc_new w (.cells #[.slice xa vs.length xc] 24)
  have zA : (w.alloc (.cells #[.slice xa vs.length xc] 24)).heap.size = w.heap.size + 1 := by simp
  have HZA := hide zA
  have HO := hide (h.below hA)
  have HKA : Hid (∀ wx, Below (w.heap.size + 1) (w.alloc (.cells #[.slice xa vs.length xc] 24)) wx → wx.cell? ⟨w.heap.size, 0, none⟩ = some (.slice xa vs.length xc)) := fun wx hx => Lib.cell_of_heap ((hx.block w.heap.size (by omega)).trans kA) 0
  have HA := hide hA
  have HI := hide (versIn hs)
  clear hxf h hs kA zA hA
  by_cases hn1 : vs.length < 1
  · have t1 : decide ((vs.length : Int) < 1) = true := decide_eq_true (by omega)
    have HZ : Hid (storeOk vs = false) := storeOk_no (by rintro ⟨h, _⟩; omega)
    clear hn1
    go_enter Tryz.func15, Tryz.ntmps15
    go_wp2
    go_ret
    exact ⟨by rw [unhide HZ]; rfl, unhide HA⟩
  · have t1 : decide ((vs.length : Int) < 1) = false := decide_eq_false (by omega)
    by_cases hn8 : 8 < vs.length
    · have t8 : decide ((8 : Int) < (vs.length : Int)) = true := decide_eq_true (by omega)
      have HZ : Hid (storeOk vs = false) := storeOk_no (by rintro ⟨_, h, _⟩; omega)
      clear hn8 hn1
      go_enter Tryz.func15, Tryz.ntmps15
      go_wp2
      go_ret
      exact ⟨by rw [unhide HZ]; rfl, unhide HA⟩
    · have t8 : decide ((8 : Int) < (vs.length : Int)) = false := decide_eq_false (by omega)
      have hpos : 0 < vs.length := by omega
      obtain ⟨g, rfl⟩ := hxa hpos
      obtain ⟨ws0, ib0, hE0, hc0, _⟩ := (unhide HO).at (List.getElem?_eq_getElem hpos)
      obtain ⟨q0, rfl, _⟩ := hE0
      have c0 : (w.alloc (.cells #[.slice (some ⟨g, 0, none⟩) vs.length xc] 24)).cell? ⟨g, 0, none⟩ = some (.int .i64 vs[0].no) := by simpa [verE] using (hc0 0 _ rfl).1
      have d0 := unhide HKA _ (Below.refl _ _)
      clear hc0 hxa
      have hposI : (0 : Int) < (vs.length : Int) := by omega
      obtain ⟨z0, hz0⟩ : ∃ z0, vs[0].no = z0 := ⟨_, rfl⟩
      rw [hz0] at c0
      have HZ0 := hide hz0
      clear hz0
      by_cases hlo : z0 < 0
      · have tlo : decide (z0 < 0) = true := decide_eq_true hlo
        have HZ : Hid (storeOk vs = false) := storeOk_no (by rintro ⟨_, _, h, _⟩; rw [unhide HZ0] at h; omega)
        clear hlo
        go_enter Tryz.func15, Tryz.ntmps15
        go_wp2
        go_ret
        exact ⟨by rw [unhide HZ]; rfl, unhide HA⟩
      · have tlo : decide (z0 < 0) = false := decide_eq_false hlo
        by_cases hhi : 1000000 < z0
        · have thi : decide (1000000 < z0) = true := decide_eq_true hhi
          have HZ : Hid (storeOk vs = false) := storeOk_no (by rintro ⟨_, _, _, h, _⟩; rw [unhide HZ0] at h; omega)
          clear hlo hhi
          go_enter Tryz.func15, Tryz.ntmps15
          go_wp2
          go_ret
          exact ⟨by rw [unhide HZ]; rfl, unhide HA⟩
        · have thi : decide (1000000 < z0) = false := decide_eq_false hhi
          have hr0 : 0 ≤ z0 := by omega
          have hr1 : z0 ≤ 1000000 := by omega
          have hl8 : vs.length ≤ 8 := by omega
          have HV : Hid (∀ (i : Nat) (hi : i < vs.length) (wx : World), Below (w.alloc (.cells #[.slice (some ⟨g, 0, none⟩) vs.length xc] 24)).heap.size (w.alloc (.cells #[.slice (some ⟨g, 0, none⟩) vs.length xc] 24)) wx → Calls Tryz.prog 41 #[.agg #[.slice (some ⟨g, 0, none⟩) vs.length xc], .int .i64 (i : Int)] wx fun e w' => e = .returned (.bool (verOk z0 i vs[i])) ∧ Below wx.heap.size wx w') := fun i hi wx hx => verOk_walk _ vs bl i wx ((unhide HO).below hx) hi hl8 z0 (unhide HZ0) hr0 hr1 (unhide HI i hi).1 (unhide HI i hi).2.1
          have HZZ : Hid (∀ z : Bool, (z = true ↔ ∀ j (hj : j < vs.length), verOk z0 j vs[j] = true) → storeOk vs = z) := fun z hz => by
            have e := unhide HZ0
            rw [Bool.eq_iff_iff, storeOk_iff, hz]
            constructor
            · rintro ⟨_, _, _, _, h⟩ j hj; rw [e] at h; exact h j hj
            · intro h; exact ⟨hpos, hl8, by rw [e]; exact hr0, by rw [e]; exact hr1, fun j hj => by rw [e]; exact h j hj⟩
          clear hlo hhi hn1 hn8 hr0 hr1
          go_enter Tryz.func15, Tryz.ntmps15
          go_wp2
          clear c0 d0
          generalize (w.alloc (.cells #[.slice (some ⟨g, 0, none⟩) vs.length xc] 24)) = w1 at *
          go_loopw [4] (fun kk wr => ∃ k : Nat, k ≤ vs.length ∧ kk = .int .i64 k ∧ Below w1.heap.size w1 wr ∧ ∀ j (h : j < vs.length), j < k → verOk z0 j vs[j] = true) (fun kk _ => vs.length - (intOf kk).toNat)
          case atStart => exact ⟨0, Nat.zero_le _, rfl, Below.refl _ _, fun j _ h => by omega⟩
          case round =>
            obtain ⟨k, hk, rfl, hb, hall⟩ := hrel
            have r0 := unhide HKA wr (by rw [← unhide HZA]; exact hb)
            have HALL := hide hall
            have HBR := hide hb
            by_cases hlt : k < vs.length
            · have HP := hide (unhide HV k hlt wr hb)
              cases hpk : verOk z0 k vs[k] with
              | true =>
                rw [hpk] at HP
                have HA2 : Hid (∀ j (h : j < vs.length), j < k + 1 → verOk z0 j vs[j] = true) := fun j h hj => by
                  by_cases e : j = k
                  · subst e; exact hpk
                  · exact unhide HALL j h (by omega)
                clear hall hb hpk
                go_wp2_with fail
                refine (unhide HP).mono ?_
                rintro e w5 ⟨rfl, b5⟩
                have HB5 := hide (below_next (unhide HBR) b5)
                clear HP b5 r0
                go_wp2
                go_roundw
                case rel => exact ⟨k + 1, by omega, by go_num, unhide HB5, unhide HA2⟩
                case measure => simp [intOf]; omega
              | false =>
                rw [hpk] at HP
                have HZF : Hid (storeOk vs = false) := unhide HZZ false ⟨fun h => (by cases h), fun h => by rw [h k hlt] at hpk; cases hpk⟩
                clear hall hb hpk
                go_wp2_with fail
                refine (unhide HP).mono ?_
                rintro e w5 ⟨rfl, b5⟩
                have HB5 := hide (below_next (unhide HA) (below_next (unhide HBR) b5))
                clear HP b5 r0
                go_wp2
                go_ret
                exact ⟨by rw [unhide HZF]; rfl, unhide HB5⟩
            · have HZT : Hid (storeOk vs = true) := unhide HZZ true ⟨fun _ j hj => hall j hj (by omega), fun _ => rfl⟩
              clear hall hb
              go_wp2
              go_ret
              exact ⟨by rw [unhide HZT]; rfl, below_next (unhide HA) (unhide HBR)⟩
end Go.Proofs.YtcjajchfjoffnaaGreatDoor
