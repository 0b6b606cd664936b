import Derived.Test.YtmdlddlkiacfoacGreatDoorSpecGet
namespace Go.Proofs.YtmdlddlkiacfoacGreatDoor
open Go.RowKit

/-- The answer of l1Get. -/
def getR (v : JV) (ts : List (List UInt8)) : Value := match getV v ts with
  | some u => .tuple #[.string (strOf (ct u)), .bool true]
  | none => .tuple #[.string ⟨#[]⟩, .bool false]

set_option maxRecDepth 100000 in
set_option maxHeartbeats 4000000 in
theorem get_walk {B1 : Nat} (v : JV) (hok : okV v) (htw : twV v = false) (hl : (ct v).length ≤ 1000000) (r : Value) (ts : List (List UInt8)) (w : World) (h : OT w B1 r ts) (hn : ts.length ≤ 1048577) (ht : ∀ t ∈ ts, t.length ≤ 1048576) :
    Calls Tryz.prog 17 #[.string (strOf (ct v)), r] w fun e w' => e = .returned (getR v ts) ∧ Below w.heap.size w w' := by
  obtain ⟨a, g, cap, rfl, hs, _⟩ := h.shape
  have hadr := hs.ad
  have HSS := hide hs
  rw [List.length_map] at hadr
  have HCH : Hid (∀ (u : JV) (k : Nat) (hk : k < ts.length) (w : World), okV u → twV u = false → (ct u).length ≤ 1000000 → Calls Tryz.prog 31 #[.string (strOf (ct u)), .string (strOf ts[k])] w fun e w' => Below w.heap.size w w' ∧ ChildP u ts[k] e) := fun u k hk w o1 o2 o3 => child_walk u o1 o2 ts[k] (ht _ (List.getElem_mem hk)) w o3
  have HPA : Hid (∀ (u : JV) (w : World), okV u → (ct u).length ≤ 1000000 → Calls Tryz.prog 32 #[.string (strOf (ct u))] w fun e w' => ∃ r, e = .returned r ∧ PR w' w.heap.size r (partsV u) ∧ Below w.heap.size w w') := fun u w o1 o2 => parts_ct u o1 w o2
  clear hs h ht
  go_enter Tryz.func17, Tryz.ntmps17
  go_wp2
  go_loopw [0, 6] (fun sv iv wr => ∃ (k : Nat) (u : JV), k ≤ ts.length ∧ iv = .int .i64 (k : Int) ∧ sv = .string (strOf (ct u)) ∧ getV v (ts.take k) = some u ∧ okV u ∧ twV u = false ∧ (ct u).length ≤ 1000000 ∧ Below w.heap.size w wr) (fun _ iv _ => ts.length - (intOf iv).toNat)
  case atStart => exact ⟨0, v, Nat.zero_le _, rfl, rfl, rfl, hok, htw, hl, Below.refl _ _⟩
  case round =>
    obtain ⟨k, u, hk, rfl, rfl, hg, ho, htu, hlu, hb⟩ := hrel
    have HG := hide hg
    have HB := hide hb
    by_cases hlt : k < ts.length
    · have hltI : (k : Int) < (ts.length : Int) := by omega
      obtain rfl := hadr (by omega)
      have hck := ((unhide HSS).below hb).cell k (by rw [List.length_map]; exact hlt)
      rw [tok_getD hlt, Nat.zero_add] at hck
      have hgd : baT (ts.getD k []) = strOf ts[k] := by simp [List.getD, hlt, baT, strOf]
      rw [hgd] at hck
      have HC := hide (unhide HCH u k hlt wr ho htu hlu)
      have HST : Hid (childV u ts[k] = none → getR v ts = .tuple #[.string ⟨#[]⟩, .bool false]) := fun hc => by unfold getR; rw [getV_stop hlt hg hc]
      have HNX : Hid (∀ u', childV u ts[k] = some u' → getV v (ts.take (k + 1)) = some u' ∧ okV u' ∧ twV u' = false ∧ (ct u').length ≤ 1000000) := fun u' hc => by
        obtain ⟨c1, c2, c3, _⟩ := childV_ok hc ho htu
        exact ⟨by rw [getV_step hlt hg]; exact hc, c1, c2, by omega⟩
      have HPU : Hid (∀ w, Calls Tryz.prog 32 #[.string (strOf (ct u))] w fun e w' => ∃ r, e = .returned r ∧ PR w' w.heap.size r (partsV u) ∧ Below w.heap.size w w') := fun w => unhide HPA u w ho hlu
      generalize strOf (ct u) = su at *
      generalize strOf ts[k] = st at *
      clear hg hb HG HCH HPA hgd
      go_wp2_with fail
      refine (unhide HC).mono ?_
      rintro e w1 ⟨b1, ⟨rfl, hcn⟩ | ⟨j, hj, u', rfl, hcs, hpt⟩⟩
      · have HV := hide (unhide HST hcn)
        have B1 := below_next (unhide HB) b1
        clear HC HST HNX HPU hck hcn
        go_wp2
        go_ret2
        exact ⟨by rw [unhide HV]; rfl, B1⟩
      · obtain ⟨n1, n2, n3, n4⟩ := unhide HNX u' hcs
        have B1 := hide (below_next (unhide HB) b1)
        have HN := hide (⟨n1, n2, n3, n4⟩ : getV v (ts.take (k + 1)) = some u' ∧ okV u' ∧ twV u' = false ∧ (ct u').length ≤ 1000000)
        have tj : ¬ (j : Int) < 0 := by omega
        clear HC HST HNX hck hcs n1 n2 n3 n4 b1
        go_wp2_with fail
        refine (unhide HPU _).mono ?_
        rintro e w2 ⟨r2, rfl, p2, b2⟩
        obtain ⟨g2, cap2, he, _, _, c0, c1⟩ := p2.cells j hj
        subst he
        rw [hpt] at c1
        have hjI : (j : Int) < ((partsV u).length : Int) := by omega
        have B2 := hide (below_next (unhide B1) b2)
        clear HPU p2 b2 B1 c0 hpt
        generalize (partsV u).length = pl at *
        go_wp2
        go_roundw
        case rel => exact ⟨k + 1, u', by omega, by go_num, rfl, (unhide HN).1, (unhide HN).2.1, (unhide HN).2.2.1, (unhide HN).2.2.2, unhide B2⟩
        case measure => simp [intOf]; omega
    · have e : ts.take k = ts := List.take_of_length_le (by omega)
      rw [e] at HG
      have HV : Hid (getR v ts = .tuple #[.string (strOf (ct u)), .bool true]) := by show _ = _; unfold getR; rw [unhide HG]
      generalize strOf (ct u) = su at *
      clear hg hb HG HCH HPA e
      go_wp2
      go_ret2
      exact ⟨by rw [unhide HV]; rfl, unhide HB⟩

/-- The answer of Resolve. -/
def resV (s t : ByteArray) : Value := match readR s with
  | .inl _ => .tuple #[.string ⟨#[]⟩, .int .i64 1]
  | .inr v => match ptoks t.data.toList with
    | none => .tuple #[.string ⟨#[]⟩, .int .i64 2]
    | some ts => match getV v ts with
      | none => .tuple #[.string ⟨#[]⟩, .int .i64 3]
      | some u => .tuple #[.string (strOf (ct u)), .int .i64 0]
theorem mapM_mem {ps : List (List UInt8)} : ∀ {ts : List (List UInt8)}, ps.mapM unesc = some ts → ∀ t ∈ ts, ∃ p ∈ ps, unesc p = some t := by
  induction ps with
  | nil => intro ts h t ht; simp at h; subst h; simp at ht
  | cons p ps ih =>
    intro ts h t ht
    rw [mapM_cons'] at h
    cases hu : unesc p with
    | none => rw [hu] at h; simp at h
    | some q =>
      cases hm : List.mapM unesc ps with
      | none => rw [hu, hm] at h; simp at h
      | some us =>
        rw [hu, hm] at h
        simp at h
        subst h
        rcases List.mem_cons.1 ht with rfl | ht
        · exact ⟨p, List.mem_cons_self, hu⟩
        · obtain ⟨p', h1, h2⟩ := ih hm t ht
          exact ⟨p', List.mem_cons_of_mem _ h1, h2⟩
theorem unesc_len : ∀ (n : Nat) (p t : List UInt8), p.length ≤ n → unesc p = some t → t.length ≤ p.length := by
  intro n
  induction n with
  | zero => intro p t hl h; obtain rfl := List.eq_nil_of_length_eq_zero (Nat.le_zero.1 hl); simp [unesc] at h; subst h; simp
  | succ n ih =>
    intro p t hl h
    cases p with
    | nil => simp [unesc] at h; subst h; simp
    | cons c r =>
      have fin : ∀ (r' : List UInt8) (x : List UInt8), r'.length ≤ r.length → x.length = 1 → (unesc r').map (x ++ ·) = some t → t.length ≤ (c :: r).length := fun r' x hr hx hm => by
        cases hu : unesc r' with
        | none => rw [hu] at hm; simp at hm
        | some u =>
          rw [hu] at hm
          simp at hm
          have := ih r' u (by simp at hl; omega) hu
          rw [← hm]; simp; omega
      by_cases h1 : (c.toNat : Int) = 126
      · cases r with
        | nil => rw [unesc_end h1] at h; cases h
        | cons d r =>
          by_cases h2 : (d.toNat : Int) = 48
          · rw [unesc_0 r h1 h2] at h; exact fin r [126] (by simp) rfl h
          · by_cases h3 : (d.toNat : Int) = 49
            · rw [unesc_1 r h1 h3] at h; exact fin r [47] (by simp) rfl h
            · rw [unesc_bad r h1 h2 h3] at h; cases h
      · rw [unesc_lit r h1] at h; exact fin r [c] (Nat.le_refl _) rfl h
theorem ptoks_small {l : List UInt8} {ts : List (List UInt8)} (h : ptoks l = some ts) : ∀ t ∈ ts, t.length ≤ l.length := by
  intro t ht
  cases l with
  | nil => simp [ptoks] at h; subst h; simp at ht
  | cons c r =>
    rw [ptoks] at h
    split at h
    · unfold toks at h
      obtain ⟨p, hp, hu⟩ := mapM_mem h t ht
      have h1 := unesc_len _ p t (Nat.le_refl _) hu
      have h2 := pieces_size r p hp
      simp; omega
    · cases h

set_option maxRecDepth 100000 in
set_option maxHeartbeats 4000000 in
theorem specResolve_walk (s t : ByteArray) (w : World) (hs : s.size ≤ 1048576) (ht : t.size ≤ 1048576) :
    Calls Tryz.prog 6 #[.string s, .string t] w fun e w' => e = .returned (resV s t) ∧ Below w.heap.size w w' := by
  have HF := hide (specCanon_walk s w hs)
  have HT : Hid (∀ w, Calls Tryz.prog 16 #[.string t] w fun e w' => ∃ v, e = .returned (.tuple #[v, .bool (ptoks t.data.toList).isSome]) ∧ OT w' w.heap.size v ((ptoks t.data.toList).getD []) ∧ Below w.heap.size w w') := fun w => specToks_walk t w ht
  have hdl := data_len t
  have htl := toks_len_le t.data.toList
  cases hr : readR s with
  | inl c =>
    obtain ⟨c1, c2⟩ := read_code hr
    have HV : Hid (resV s t = .tuple #[.string ⟨#[]⟩, .int .i64 1]) := by show _ = _; unfold resV; rw [hr]
    have e0 : canonV s = .tuple #[.string ⟨#[]⟩, .int .i64 (c : Int)] := by unfold canonV; rw [hr]
    rw [e0] at HF
    have t1 : ((c : Int) == 0) = false := by simp; omega
    have t2 : ((c : Int) != 0) = true := by simp; omega
    have t3 : ¬ (c : Int) = 0 := by omega
    have t4 : ¬ c = 0 := by omega
    clear hr e0 HT hdl htl
    go_enter Tryz.func6, Tryz.ntmps6
    go_wp2_with fail
    refine (unhide HF).mono ?_
    rintro e w1 ⟨rfl, b1⟩
    clear HF
    go_wp2
    go_ret2
    exact ⟨by rw [unhide HV]; rfl, b1⟩
  | inr v =>
    obtain ⟨hss, hd, htw, _, _, _⟩ := read_facts hr
    obtain ⟨hok, hcn, hln⟩ := doc_facts hd
    have e0 : canonV s = .tuple #[.string (strOf (ct v)), .int .i64 0] := by unfold canonV; rw [hr]
    rw [e0] at HF
    cases hp : ptoks t.data.toList with
    | none =>
      have HV : Hid (resV s t = .tuple #[.string ⟨#[]⟩, .int .i64 2]) := by show _ = _; unfold resV; rw [hr, hp]
      rw [hp] at HT
      simp only [Option.isSome_none, Option.getD_none] at HT
      generalize strOf (ct v) = cv at *
      clear hr e0 hp hd htw hok hcn hln hdl htl
      go_enter Tryz.func6, Tryz.ntmps6
      go_wp2_with fail
      refine (unhide HF).mono ?_
      rintro e w1 ⟨rfl, b1⟩
      clear HF
      go_wp2_with fail
      refine (unhide HT _).mono ?_
      rintro e w2 ⟨v2, rfl, o2, b2⟩
      have B2 := below_next b1 b2
      clear HT o2
      go_wp2
      go_ret2
      exact ⟨by rw [unhide HV]; rfl, B2⟩
    | some ts =>
      have hsm := ptoks_small hp
      rw [hp] at HT htl
      simp only [Option.isSome_some, Option.getD_some] at HT htl
      have HG : Hid (∀ (r : Value) (B : Nat) (w : World), OT w B r ts → Calls Tryz.prog 17 #[.string (strOf (ct v)), r] w fun e w' => e = .returned (getR v ts) ∧ Below w.heap.size w w') := fun r B w h => get_walk v hok htw (by omega) r ts w h (by omega) (fun t ht => by have := hsm t ht; omega)
      cases hg : getV v ts with
      | none =>
        have HV : Hid (resV s t = .tuple #[.string ⟨#[]⟩, .int .i64 3]) := by show _ = _; unfold resV; rw [hr, hp]; simp only; rw [hg]
        have e1 : getR v ts = .tuple #[.string ⟨#[]⟩, .bool false] := by unfold getR; rw [hg]
        rw [e1] at HG
        generalize strOf (ct v) = cv at *
        clear hr e0 hp hd htw hok hcn hln hdl htl e1 hg hsm
        go_enter Tryz.func6, Tryz.ntmps6
        go_wp2_with fail
        refine (unhide HF).mono ?_
        rintro e w1 ⟨rfl, b1⟩
        clear HF
        go_wp2_with fail
        refine (unhide HT _).mono ?_
        rintro e w2 ⟨v2, rfl, o2, b2⟩
        have B2 := hide (below_next b1 b2)
        have HG2 := hide (unhide HG v2 _ w2 o2)
        clear HT o2 HG b1 b2
        go_wp2_with fail
        refine (unhide HG2).mono ?_
        rintro e w3 ⟨rfl, b3⟩
        have B3 := below_next (unhide B2) b3
        clear HG2
        go_wp2
        go_ret2
        exact ⟨by rw [unhide HV]; rfl, B3⟩
      | some u =>
        have HV : Hid (resV s t = .tuple #[.string (strOf (ct u)), .int .i64 0]) := by show _ = _; unfold resV; rw [hr, hp]; simp only; rw [hg]
        have e1 : getR v ts = .tuple #[.string (strOf (ct u)), .bool true] := by unfold getR; rw [hg]
        rw [e1] at HG
        generalize strOf (ct v) = cv at *
        generalize strOf (ct u) = cu at *
        clear hr e0 hp hd htw hok hcn hln hdl htl e1 hg hsm
        go_enter Tryz.func6, Tryz.ntmps6
        go_wp2_with fail
        refine (unhide HF).mono ?_
        rintro e w1 ⟨rfl, b1⟩
        clear HF
        go_wp2_with fail
        refine (unhide HT _).mono ?_
        rintro e w2 ⟨v2, rfl, o2, b2⟩
        have B2 := hide (below_next b1 b2)
        have HG2 := hide (unhide HG v2 _ w2 o2)
        clear HT o2 HG b1 b2
        go_wp2_with fail
        refine (unhide HG2).mono ?_
        rintro e w3 ⟨rfl, b3⟩
        have B3 := below_next (unhide B2) b3
        clear HG2
        go_wp2
        go_ret2
        exact ⟨by rw [unhide HV]; rfl, B3⟩
end Go.Proofs.YtmdlddlkiacfoacGreatDoor
