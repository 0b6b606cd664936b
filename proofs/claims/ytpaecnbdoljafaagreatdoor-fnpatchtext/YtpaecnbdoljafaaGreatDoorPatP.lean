import Derived.Test.YtpaecnbdoljafaaGreatDoorPatA
namespace Go.Proofs.YtpaecnbdoljafaaGreatDoor
open Go.RowKit

theorem nvM_toL : ∀ m : JM, (JN m).toL = m.toL.map fun q => (q.1, nv q.2)
  | .nil => rfl
  | .cons k v r => by rw [JN, JM.toL, JM.toL, List.map_cons, nvM_toL r]
theorem nvL_toL : ∀ l : JL, (J6 l).toL = l.toL.map nv
  | .nil => rfl
  | .cons v r => by rw [J6, JL.toL, JL.toL, List.map_cons, nvL_toL r]
theorem find_mem {key : List UInt8} {x : JV} : ∀ l : List (List UInt8 × JV), (l.map (·.1)).Nodup → (key, x) ∈ l → (l.find? fun q => q.1 == key).map (·.2) = some x
  | [], _, h => by cases h
  | a :: r, hn, h => by
    rw [List.map_cons, List.nodup_cons] at hn
    rw [List.find?_cons]
    rcases List.mem_cons.1 h with rfl | h
    · simp
    · have hne : (a.1 == key) = false := by
        rw [beq_eq_false_iff_ne]
        intro e
        exact hn.1 (List.mem_map.2 ⟨(key, x), h, e.symm⟩)
      rw [hne]
      exact find_mem r hn.2 h
theorem child_nv {L : List (List UInt8 × JV)} (hn : (L.map (·.1)).Nodup) {key : List UInt8} {x : JV} (h : (key, x) ∈ L) : zL (nv (.obj (JM.ofL L))) key = some (nv x) := by
  rw [nv, YN]
  have hp := EK (JN (JM.ofL L))
  rw [nvM_toL, JM.toL_ofL] at hp
  refine find_mem _ (((hp.map _).nodup_iff).2 ?_) (hp.mem_iff.2 (List.mem_map.2 ⟨(key, x), h, rfl⟩))
  rw [List.map_map]
  exact hn
theorem empty_of {b : ByteArray} (h : b.toList = []) : b = ⟨#[]⟩ := by
  rw [ByteArray.toList_eq] at h
  rw [← M0 b, h]
  rfl
/-- An operation that was written is read again. -/
theorem op_again {m : zk} (ho : Zp m = true) : qi (nv (Jl m (Wl m))) = true ∧ Qd (nv (Jl m (Wl m))) = m := by
  obtain ⟨k1, k6, hp, hs, hF, _, hV⟩ := GE ho
  obtain ⟨_, _, hval⟩ := Be ho
  have hn := Ph m (Wl m)
  have nvs : ∀ t, nv (.str t) = .str t := fun t => by rw [nv]
  have cO : zL (nv (Jl m (Wl m))) qU = some (.str (Zk m.kind)) := by
    have := child_nv hn (key := qU) (x := .str (Zk m.kind)) (by unfold Ye; simp)
    rw [nvs] at this
    exact this
  have cP : zL (nv (Jl m (Wl m))) ZS = some (.str m.path.data.toList) := by
    have := child_nv hn (key := ZS) (x := .str m.path.data.toList) (by unfold Ye; simp)
    rw [nvs] at this
    exact this
  have sO : ZA (nv (Jl m (Wl m))) qU = some (Zk m.kind) := by unfold ZA; rw [cO]; rfl
  have sP : ZA (nv (Jl m (Wl m))) ZS = some m.path.data.toList := by unfold ZA; rw [cP]; rfl
  have eK : qC (nv (Jl m (Wl m))) = m.kind := by
    unfold qC
    rw [sO]
    have := Tv (t := Zk m.kind) k1 k6
    have e : m.kind = ZO (Zk m.kind) := by simpa using this.symm
    exact e.symm
  have sF : Zh m.kind = true → ZA (nv (Jl m (Wl m))) qA = some m.src.data.toList := fun h => by
    have := child_nv hn (key := qA) (x := .str m.src.data.toList) (by unfold Ye; rw [if_pos h]; simp)
    rw [nvs] at this
    unfold ZA
    rw [show zL (nv (Jl m (Wl m))) qA = some (.str m.src.data.toList) from this]
    rfl
  have cV : zY m.kind = true → zL (nv (Jl m (Wl m))) Qj = some (nv (Wl m)) := fun h => child_nv hn (key := Qj) (x := Wl m) (by unfold Ye; rw [if_pos h]; simp)
  constructor
  · unfold qi
    rw [eK, sP]
    simp only [Option.isSome_some, Option.getD_some, Bool.and_eq_true, decide_eq_true_eq, Bool.or_eq_true, Bool.not_eq_true']
    refine ⟨⟨⟨⟨⟨by omega, trivial⟩, ?_⟩, ?_⟩, hp⟩, ?_⟩
    · cases hf : Zh m.kind with
      | false => exact .inl rfl
      | true => right; rw [sF hf]; rfl
    · cases hf : zY m.kind with
      | false => exact .inl rfl
      | true => right; rw [cV hf]; rfl
    · cases hf : Zh m.kind with
      | false => exact .inl rfl
      | true => right; rw [sF hf]; exact hs
  · unfold Qd
    rw [eK, sP]
    have e1 : zi m.path.data.toList = m.path := M0 _
    have e2 : (if Zh m.kind = true then zi ((ZA (nv (Jl m (Wl m))) qA).getD []) else ⟨#[]⟩) = m.src := by
      cases hf : Zh m.kind with
      | false => rw [if_neg (by decide)]; exact (empty_of (hF hf)).symm
      | true => rw [if_pos rfl, sF hf]; exact M0 _
    have e3 : (if zY m.kind = true then zi (((zL (nv (Jl m (Wl m))) Qj).map ct).getD []) else ⟨#[]⟩) = m.val := by
      cases hf : zY m.kind with
      | false => rw [if_neg (by decide)]; exact (empty_of (hV hf)).symm
      | true =>
        rw [if_pos rfl, cV hf]
        show zi (ct (nv (Wl m))) = m.val
        rw [(VK (Wl m)).ct]
        exact (hval hf).2.1.symm
    show (⟨m.kind, zi m.path.data.toList, _, _⟩ : zk) = m
    rw [e1, e2, e3]
theorem dec_enc {ms : List zk} (h : (Q0 ms).2 = true) : ZY (Q0 ms).1 = .tuple #[.string (Q0 ms).1, .int .i64 0] ∧ Jm (Q0 ms).1 = (ms, 0, 0) ∧ (Q0 ms).1.size ≤ 20000 := by
  unfold Q0 at h ⊢
  by_cases hb : 0 ≤ qw ms
  · rw [if_pos hb] at h; cases h
  · rw [if_neg hb] at h ⊢
    cases hg : Z1 (zi (Zi (ms.map qd))) with
    | false => rw [hg] at h; cases h
    | true =>
      simp only [if_true]
      obtain ⟨hl, hok⟩ := Bf hb
      have hov : ∀ q ∈ ms.map (fun m => (m, Wl m)), Vk q.1 q.2 := fun q hq hv => by
        obtain ⟨m, hm, rfl⟩ := List.mem_map.1 hq
        obtain ⟨_, _, hval⟩ := Be (hok m hm)
        exact ⟨(hval hv).1, (hval hv).2.1.symm⟩
      have hpv : ∀ q ∈ ms.map (fun m => (m, Wl m)), qV q.1 = true := fun q hq => by
        obtain ⟨m, hm, rfl⟩ := List.mem_map.1 hq
        cases hc : qV m with
        | true => rfl
        | false =>
          have := Pl (fun m hm => (GE (hok m hm)).2.2.2.2.1) hm hc
          rw [this] at hg
          cases hg
      have hfst : (ms.map (fun m => (m, Wl m))).map (·.1) = ms := by rw [List.map_map]; exact (List.map_congr_left fun m _ => rfl).trans (List.map_id _)
      have hct := Pi hov
      rw [hfst] at hct
      obtain ⟨f1, f2, f3⟩ := Pj hov hpv
      have hgd := Pk f1 f3 f2
      rw [hct, hg] at hgd
      have hd := of_decide_eq_true hgd.symm
      have hr := OM f1 f3 f2
      rw [if_neg (by have := hd.2.2; rw [hct]; omega), if_neg (by omega), hct] at hr
      refine ⟨?_, ?_, by rw [zS]; exact hd.2.2⟩
      · unfold ZY
        rw [hr]
        show Value.tuple #[.string (zi (ct (nv _))), .int .i64 0] = _
        rw [(VK _).ct, hct]
      · unfold Jm
        have hnv : nv (JD (ms.map fun m => (m, Wl m))) = .arr (J6 (JL.ofL ((ms.map fun m => (m, Wl m)).map fun q => Jl q.1 q.2))) := by unfold JD; rw [nv]
        rw [hr, hnv]
        simp only
        have hL : (J6 (JL.ofL ((ms.map fun m => (m, Wl m)).map fun q => Jl q.1 q.2))).toL = ms.map fun m => nv (Jl m (Wl m)) := by
          rw [nvL_toL, JL.toL_ofL, List.map_map, List.map_map]
          rfl
        rw [hL, List.length_map, if_neg (by omega)]
        have hf : (ms.map fun m => nv (Jl m (Wl m))).findIdx? (fun v => !qi v) = none := List.findIdx?_eq_none_iff.2 fun v hv => by
          obtain ⟨m, hm, rfl⟩ := List.mem_map.1 hv
          rw [(op_again (hok m hm)).1]
          rfl
        rw [hf]
        simp only
        rw [List.map_map]
        have : ms.map (Qd ∘ fun m => nv (Jl m (Wl m))) = ms := (List.map_congr_left fun m hm => (op_again (hok m hm)).2).trans (List.map_id _)
        rw [this]
end Go.Proofs.YtpaecnbdoljafaaGreatDoor
