import Derived.Test.YtmdlddlkiacfoacGreatDoorImplGet2
import Derived.Test.YtmdlddlkiacfoacGreatDoorSpecGet2
namespace Go.Proofs.YtmdlddlkiacfoacGreatDoor
open Go.RowKit Go.Sort

def resD : Option JV → Value
  | none => .tuple #[.string ⟨#[]⟩, .int .i64 3]
  | some u => .tuple #[.string (strOf (ct u)), .int .i64 0]

set_option maxRecDepth 100000 in
set_option maxHeartbeats 8000000 in
theorem implResolve_walk (s t : ByteArray) (w : World) (hT : TabsB w.heap.size w) (hE : ErrB w.heap.size w) (hP : PowB w.heap.size w) (hML : ML w) (hs : s.size ≤ 1048576) (ht : t.size ≤ 1048576) :
    Calls Tryz.prog 7 #[.string s, .string t] w fun e w' => e = .returned (resV s t) ∧ Below w.heap.size w w' := by
  have HF := hide (readText_walk s w hT hE hP (by omega))
  have HT : Hid (∀ w1, Below w.heap.size w w1 → Calls Tryz.prog 19 #[.string t] w1 fun e w' => ∃ v, e = .returned (.tuple #[v, .bool (ptoks t.data.toList).isSome]) ∧ OT w' w1.heap.size v ((ptoks t.data.toList).getD []) ∧ Below w1.heap.size w1 w') := fun w1 hb => implToks_walk t w1 (hML.below hb) ht
  have HP := hide hP
  have hdl := data_len t
  have htl := toks_len_le t.data.toList
  clear hT hE hP hML
  cases hr : readR s with
  | inl c =>
    obtain ⟨c1, c2⟩ := read_code hr
    have HV : Hid (resV s t = .tuple #[.string ⟨#[]⟩, .int .i64 1]) := by show _ = _; unfold resV; rw [hr]
    rw [hr] at HF
    have t1 : ((c : Int) == 0) = false := by simp; omega
    have t2 : ((c : Int) != 0) = true := by simp; omega
    have t3 : ¬ (c : Int) = 0 := by omega
    have t4 : ¬ c = 0 := by omega
    clear hr HT hdl htl
    go_enter Tryz.func7, Tryz.ntmps7
    go_wp2_with fail
    refine (unhide HF).mono ?_
    rintro e w1 ⟨b1, rfl⟩
    clear HF
    go_wp2
    go_ret2
    exact ⟨by rw [unhide HV]; rfl, b1⟩
  | inr v =>
    obtain ⟨hss, hd, htw, _, _, _⟩ := read_facts hr
    obtain ⟨hok, hcn, hln⟩ := doc_facts hd
    rw [hr] at HF
    cases hp : ptoks t.data.toList with
    | none =>
      have HV : Hid (resV s t = .tuple #[.string ⟨#[]⟩, .int .i64 2]) := by show _ = _; unfold resV; rw [hr, hp]
      rw [hp] at HT
      simp only [Option.isSome_none, Option.getD_none] at HT
      clear hr hp hd htw hok hcn hln hdl htl
      go_enter Tryz.func7, Tryz.ntmps7
      go_wp2_with fail
      refine (unhide HF).mono ?_
      rintro e w1 ⟨b1, ty, p, rfl, rep⟩
      have HT1 := hide (unhide HT w1 b1)
      clear HF rep HT
      go_wp2_with fail
      refine (unhide HT1).mono ?_
      rintro e w2 ⟨v2, rfl, o2, b2⟩
      have B2 := below_next b1 b2
      clear HT1 o2
      go_wp2
      go_ret2
      exact ⟨by rw [unhide HV]; rfl, B2⟩
    | some ts =>
      have hsm := ptoks_small hp
      have HRV : Hid (resV s t = resD (getV v ts)) := by show _ = _; unfold resV; rw [hr, hp]; simp only; cases getV v ts <;> rfl
      rw [hp] at HT htl
      simp only [Option.isSome_some, Option.getD_some] at HT htl
      clear hr hp hd
      go_enter Tryz.func7, Tryz.ntmps7
      go_wp2_with fail
      refine (unhide HF).mono ?_
      rintro e w1 ⟨b1, ty, p, rfl, rep⟩
      have HT1 := hide (unhide HT w1 b1)
      have REP := hide rep
      have B1 := hide b1
      have P1 := hide ((((unhide HP).next b1 (Nat.le_refl _)).more b1.size))
      clear HF rep HT b1 HP
      go_wp2_with fail
      refine (unhide HT1).mono ?_
      rintro e w2 ⟨v2, rfl, o2, b2⟩
      have REP2 : Hid (Rep w2 (fun k => w.heap.size ≤ k ∧ k < w1.heap.size) v (.iface ty p)) := Rep.keep (fun k hk => b2.block k hk.2) (fun _ h => h) _ _ (unhide REP)
      have P2 := hide (((unhide P1).next b2 (Nat.le_refl _)).more b2.size)
      have hw2 := b2.size
      have B2 := hide (below_next (unhide B1) b2)
      obtain ⟨a, g, cap, rfl, hs2, _⟩ := o2.shape
      have hadr := hs2.ad
      have HCE := hide hs2.cell
      simp only [List.length_map] at hadr HCE
      clear HT1 o2 hs2 b2 B1 P1 REP
      go_wp2_with fail
      go_loopw [6, 28] (fun vv iv wr => ∃ (k : Nat) (u : JV) (ty : TypeId) (p : Value), k ≤ ts.length ∧ iv = .int .i64 (k : Int) ∧ vv = .iface ty p ∧ getV v (ts.take k) = some u ∧ okV u ∧ twV u = false ∧ (ct u).length ≤ 1000000 ∧ Rep w2 (fun k => w.heap.size ≤ k ∧ k < w1.heap.size) u (.iface ty p) ∧ w2 = wr) (fun _ iv _ => ts.length - (intOf iv).toNat)
      case atStart => exact ⟨0, v, ty, p, Nat.zero_le _, rfl, rfl, rfl, hok, htw, by omega, unhide REP2, rfl⟩
      case round =>
        obtain ⟨k, u, ty, p, hk, rfl, rfl, hg, ho, htu, hlu, hrep, rfl⟩ := hrel
        clear REP2
        by_cases hlt : k < ts.length
        · have hltI : (k : Int) < (ts.length : Int) := by omega
          obtain rfl := hadr (by omega)
          have hck := unhide HCE k hlt
          rw [tok_getD hlt, Nat.zero_add] at hck
          have hgd : baT (ts.getD k []) = strOf ts[k] := by simp [List.getD, hlt, baT, strOf]
          rw [hgd] at hck
          have HC := hide (implChild_walk u htu ts[k] (by have := hsm _ (List.getElem_mem hlt); omega) ty p w2 _ hrep)
          have HST : Hid (childV u ts[k] = none → resV s t = .tuple #[.string ⟨#[]⟩, .int .i64 3]) := fun hc => by rw [unhide HRV, getV_stop hlt hg hc]; rfl
          have HNX : Hid (∀ u', childV u ts[k] = some u' → getV v (ts.take (k + 1)) = some u' ∧ okV u' ∧ twV u' = false ∧ (ct u').length ≤ 1000000) := fun u' hc => by
            obtain ⟨c1, c2, c3, _⟩ := childV_ok hc ho htu
            exact ⟨by rw [getV_step hlt hg]; exact hc, c1, c2, by omega⟩
          generalize strOf ts[k] = st at *
          clear hg hrep hgd HCE HRV
          go_wp2_with fail
          refine (unhide HC).mono ?_
          rintro e w3 ⟨rfl, ⟨x, rfl, hcn⟩ | ⟨x, u', rfl, hcs, hru⟩⟩
          · have HV := hide (unhide HST hcn)
            clear HC HST HNX hck hcn
            go_wp2
            go_ret2
            exact ⟨by rw [unhide HV]; rfl, unhide B2⟩
          · have HN := hide (unhide HNX u' hcs)
            obtain ⟨ty', p', rfl⟩ := rep_iface hru
            have HRU := hide hru
            clear HC HST HNX hck hcs hru
            go_wp2
            go_roundw
            case rel => exact ⟨k + 1, u', ty', p', by omega, by go_num, rfl, (unhide HN).1, (unhide HN).2.1, (unhide HN).2.2.1, (unhide HN).2.2.2, unhide HRU, trivial⟩
            case measure => simp [intOf]; omega
        · have e : ts.take k = ts := List.take_of_length_le (by omega)
          rw [e] at hg
          have HV : Hid (resV s t = .tuple #[.string (strOf (ct u)), .int .i64 0]) := by show _ = _; rw [unhide HRV, hg]; rfl
          have HC := hide (canonText_walk u ho htu ty p w2 _ hrep (fun k hk => by have := hk.2; omega) (unhide P2) hlu)
          generalize strOf (ct u) = su at *
          clear hg hrep HCE HRV e
          go_wp2_with fail
          refine (unhide HC).mono ?_
          rintro e w3 ⟨rfl, b3⟩
          have B3 := below_next (unhide B2) b3
          clear HC
          go_wp2
          go_ret2
          exact ⟨by rw [unhide HV]; rfl, B3⟩

set_option maxRecDepth 100000 in
set_option maxHeartbeats 1600000 in
theorem resolveLaw_in (s t : ByteArray) (w : World) (hT : Tabs w) (hE : ErrB w.heap.size w) (hP : PowB w.heap.size w) (hML : ML w) :
    Calls Tryz.prog 3 #[.string s, .string t] w fun e w' => e = .returned (.bool true) ∧ Below w.heap.size w w' := by
  by_cases hs : s.size ≤ 1048576
  · have tl : ¬ (1048576 : Int) < (s.size : Int) := by omega
    by_cases ht : t.size ≤ 1048576
    · have tl2 : ¬ (1048576 : Int) < (t.size : Int) := by omega
      have HS := hide (specResolve_walk s t w hs ht)
      have HI : Hid (∀ w1, Below w.heap.size w w1 → Calls Tryz.prog 7 #[.string s, .string t] w1 fun e w' => e = .returned (resV s t) ∧ Below w1.heap.size w1 w') := fun w1 hb => implResolve_walk s t w1 (TabsB.of (hT.below hb)) ⟨Nat.lt_of_lt_of_le hE.1 hb.size, (hE.next hb (Nat.le_refl _)).2⟩ ((hP.next hb (Nat.le_refl _)).more hb.size) (hML.below hb) hs ht
      obtain ⟨x, c, hv⟩ : ∃ (x : ByteArray) (c : Int), resV s t = .tuple #[.string x, .int .i64 c] := by
        unfold resV
        cases readR s with
        | inl c => exact ⟨_, _, rfl⟩
        | inr v =>
          cases ptoks t.data.toList with
          | none => exact ⟨_, _, rfl⟩
          | some ts =>
            simp only
            cases getV v ts with
            | none => exact ⟨_, _, rfl⟩
            | some u => exact ⟨_, _, rfl⟩
      rw [hv] at HS HI
      clear hv hT hE hP hML
      go_enter Tryz.func3, Tryz.ntmps3
      go_wp2_with fail
      refine (unhide HS).mono ?_
      rintro e w1 ⟨rfl, b1⟩
      have HI1 := hide (unhide HI w1 b1)
      clear HS HI
      go_wp2_with fail
      refine (unhide HI1).mono ?_
      rintro e w2 ⟨rfl, b2⟩
      have B2 := below_next b1 b2
      go_wp2
      go_ret
      exact ⟨rfl, B2⟩
    · have tl2 : (1048576 : Int) < (t.size : Int) := by omega
      clear hT hE hP hML
      go_enter Tryz.func3, Tryz.ntmps3
      go_wp2
      go_ret
      exact ⟨rfl, Below.refl _ _⟩
  · have tl : (1048576 : Int) < (s.size : Int) := by omega
    clear hT hE hP hML
    go_enter Tryz.func3, Tryz.ntmps3
    go_wp2
    go_ret
    exact ⟨rfl, Below.refl _ _⟩
end Go.Proofs.YtmdlddlkiacfoacGreatDoor
