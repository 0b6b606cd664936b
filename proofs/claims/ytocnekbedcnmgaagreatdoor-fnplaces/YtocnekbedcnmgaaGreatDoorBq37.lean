import Derived.Test.YtocnekbedcnmgaaGreatDoorBq13
import Derived.Test.YtocnekbedcnmgaaGreatDoorBq36
import Derived.Test.YtocnekbedcnmgaaGreatDoorBq9
import Derived.Test.YtocnekbedcnmgaaGreatDoorBq30
namespace Go.Proofs.YtocnekbedcnmgaaGreatDoor
open Go.RowKit

/-- What Places answers. -/
def placesL (s : ByteArray) : List (List UInt8) := match readR s with
  | .inl _ => []
  | .inr v => plF (depV v) [] v
def placesC (s : ByteArray) : Int := match readR s with
  | .inl _ => 1
  | .inr _ => 0
end Go.Proofs.YtocnekbedcnmgaaGreatDoor


namespace Go.Proofs.YtocnekbedcnmgaaGreatDoor
open Go.RowKit Go.Sort

set_option maxRecDepth 100000 in
set_option maxHeartbeats 4000000 in
theorem implPlaces_walk (s : ByteArray) (w : World) (hT : TabsB w.heap.size w) (hE : ErrB w.heap.size w) (hP : PowB w.heap.size w) (hs : s.size ≤ 1048576) :
    Calls Tryz.prog 25 #[.string s] w fun e w' => ∃ v, e = .returned (.tuple #[v, .int .i64 (placesC s)]) ∧ OT w' w.heap.size v (placesL s) ∧ Below w.heap.size w w' := by
  have HF := hide (readText_walk s w hT hE hP (by omega))
  have HP := hide hP
  clear hT hE hP
  cases hr : readR s with
  | inl c =>
    obtain ⟨c1, c2⟩ := read_code hr
    have HC : Hid (placesC s = 1 ∧ placesL s = []) := by
      show _ ∧ _
      unfold placesC placesL; rw [hr]; exact ⟨rfl, rfl⟩
    rw [hr] at HF
    have t1 : ((c : Int) == 0) = false := by simp; omega
    have t2 : ((c : Int) != 0) = true := by simp; omega
    have t3 : ¬ (c : Int) = 0 := by omega
    have t4 : ¬ c = 0 := by omega
    clear hr
    go_enter Tryz.func25, Tryz.ntmps25
    go_wp2_with fail
    refine (unhide HF).mono ?_
    rintro e w1 ⟨b1, rfl⟩
    clear HF
    go_wp2
    go_ret2
    exact ⟨_, by rw [(unhide HC).1]; rfl, by rw [(unhide HC).2]; exact World.ownsRow_nil w1 w.heap.size 9 1, b1⟩
  | inr v =>
    obtain ⟨hss, hd, htw, _, hdp, hcn⟩ := read_facts hr
    obtain ⟨hok, _, hln⟩ := doc_facts hd
    have HC : Hid (placesC s = 0 ∧ placesL s = plF (depV v) [] v) := by
      show _ ∧ _
      unfold placesC placesL; rw [hr]; exact ⟨rfl, rfl⟩
    rw [hr] at HF
    have HPL : Hid (∀ (w1 : World) (ty : TypeId) (p : Value), Below w.heap.size w w1 → Rep w1 (fun k => w.heap.size ≤ k ∧ k < w1.heap.size) v (.iface ty p) → Calls Tryz.prog 60 #[.slice none 0 0, .string ⟨#[]⟩, .iface ty p] w1 fun e w' => ∃ r, e = .returned r ∧ OT w' w1.heap.size r ([] ++ plF (depV v) [] v) ∧ PF w1.heap.size w1 w') := fun w1 ty p b1 rep =>
      places_walk (depV v) v [] [] (.slice none 0 0) w1 ty p w1.heap.size _ hok htw (Nat.le_refl _) (by omega) (by simp; omega) (by simp; omega) (World.ownsRow_nil w1 w1.heap.size 9 1) rep (fun k hk => hk.2) (Nat.le_refl _) (((unhide HP).next b1 (Nat.le_refl _)).more b1.size)
    clear hr hd htw hok hdp hcn hln hss HP
    go_enter Tryz.func25, Tryz.ntmps25
    go_wp2_with fail
    refine (unhide HF).mono ?_
    rintro e w1 ⟨b1, ty, p, rfl, rep⟩
    have HP1 := hide (unhide HPL w1 ty p b1 rep)
    have B1 := hide b1
    clear HF rep b1 HPL
    go_wp2_with fail
    refine (unhide HP1).mono ?_
    rintro e w2 ⟨r2, rfl, o2, f2⟩
    have O2 := hide (own_mono o2 (unhide B1).size)
    have B2 := hide (below_next (unhide B1) f2.1)
    clear HP1 o2 f2
    go_wp2
    go_ret2
    exact ⟨_, by rw [(unhide HC).1]; rfl, by rw [(unhide HC).2]; exact unhide O2, unhide B2⟩

end Go.Proofs.YtocnekbedcnmgaaGreatDoor


namespace Go.Proofs.YtocnekbedcnmgaaGreatDoor
open Go.RowKit Go.Sort

def resD : Option JV → Value
  | none => .tuple #[.string ⟨#[]⟩, .int .i64 3]
  | some u => .tuple #[.string (strOf (ct u)), .int .i64 0]

/-- What resolveIn answers. -/
def resIn (v : JV) (t : ByteArray) : Value := match ptoks t.data.toList with
  | none => .tuple #[.string ⟨#[]⟩, .int .i64 2]
  | some ts => resD (getV v ts)
theorem resIn_two (v : JV) (t : ByteArray) : ∃ (x : ByteArray) (c : Int), resIn v t = .tuple #[.string x, .int .i64 c] := by
  unfold resIn
  cases ptoks t.data.toList with
  | none => exact ⟨_, _, rfl⟩
  | some ts =>
    simp only
    cases getV v ts with
    | none => exact ⟨_, _, rfl⟩
    | some u => exact ⟨_, _, rfl⟩

set_option maxRecDepth 100000 in
set_option maxHeartbeats 8000000 in
theorem resolveIn_walk (v : JV) (t : ByteArray) (ty : TypeId) (p : Value) (w : World) (D : Nat → Prop) (hok : okV v) (htw : twV v = false) (hln : (ct v).length ≤ 1000000) (hrep : Rep w D v (.iface ty p)) (hD : ∀ k, D k → k < w.heap.size) (hP : PowB w.heap.size w) (hML : ML w) (ht : t.size ≤ 1048576) :
    Calls Tryz.prog 62 #[.iface ty p, .string t] w fun e w' => e = .returned (resIn v t) ∧ Below w.heap.size w w' := by
  have HT := hide (implToks_walk t w hML ht)
  have HP := hide hP
  have hdl := data_len t
  have htl := toks_len_le t.data.toList
  have REP := hide hrep
  have HD := hide hD
  clear hP hML hrep hD
  cases hp : ptoks t.data.toList with
  | none =>
    have HV : Hid (resIn v t = .tuple #[.string ⟨#[]⟩, .int .i64 2]) := by show _ = _; unfold resIn; rw [hp]
    rw [hp] at HT
    simp only [Option.isSome_none, Option.getD_none] at HT
    clear hp htw hok hln hdl htl
    go_enter Tryz.func62, Tryz.ntmps62
    go_wp2_with fail
    refine (unhide HT).mono ?_
    rintro e w2 ⟨v2, rfl, o2, b2⟩
    have B2 := hide b2
    clear HT o2 b2
    go_wp2
    go_ret2
    exact ⟨by rw [unhide HV]; rfl, unhide B2⟩
  | some ts =>
    have hsm := ptoks_small hp
    have HRV : Hid (resIn v t = resD (getV v ts)) := by show _ = _; unfold resIn; rw [hp]
    rw [hp] at HT htl
    simp only [Option.isSome_some, Option.getD_some] at HT htl
    clear hp
    go_enter Tryz.func62, Tryz.ntmps62
    go_wp2_with fail
    refine (unhide HT).mono ?_
    rintro e w2 ⟨v2, rfl, o2, b2⟩
    have REP2 : Hid (Rep w2 D v (.iface ty p)) := Rep.keep (fun k hk => b2.block k (unhide HD k hk)) (fun _ h => h) _ _ (unhide REP)
    have P2 := hide (((unhide HP).next b2 (Nat.le_refl _)).more b2.size)
    have hw2 := b2.size
    have B2 := hide b2
    obtain ⟨a, g, cap, rfl, hs2, _⟩ := o2.shape
    have hadr := hs2.ad
    have HCE := hide hs2.cell
    simp only [List.length_map] at hadr HCE
    clear HT o2 hs2 b2 HP REP
    go_wp2_with fail
    go_loopw [0, 19] (fun vv iv wr => ∃ (k : Nat) (u : JV) (ty : TypeId) (p : Value), k ≤ ts.length ∧ iv = .int .i64 (k : Int) ∧ vv = .iface ty p ∧ getV v (ts.take k) = some u ∧ okV u ∧ twV u = false ∧ (ct u).length ≤ 1000000 ∧ Rep w2 D u (.iface ty p) ∧ w2 = wr) (fun _ iv _ => ts.length - (intOf iv).toNat)
    case atStart => exact ⟨0, v, ty, p, Nat.zero_le _, rfl, rfl, rfl, hok, htw, by omega, unhide REP2, rfl⟩
    case round =>
      obtain ⟨k, u, ty, p, hk, rfl, rfl, hg, ho, htu, hlu, hrep, rfl⟩ := hrel
      clear REP2
      by_cases hlt : k < ts.length
      · have hltI : (k : Int) < (ts.length : Int) := by omega
        obtain rfl := hadr (by omega)
        have hck := unhide HCE k hlt
        rw [tok_getD hlt, Nat.zero_add] at hck
        have hgd : baT (ts.getD k []) = strOf ts[k] := by simp [List.getD, hlt, baT, strOf]
        rw [hgd] at hck
        have HC := hide (implChild_walk u htu ts[k] (by have := hsm _ (List.getElem_mem hlt); omega) ty p w2 _ hrep)
        have HST : Hid (childV u ts[k] = none → resIn v t = .tuple #[.string ⟨#[]⟩, .int .i64 3]) := fun hc => by rw [unhide HRV, getV_stop hlt hg hc]; rfl
        have HNX : Hid (∀ u', childV u ts[k] = some u' → getV v (ts.take (k + 1)) = some u' ∧ okV u' ∧ twV u' = false ∧ (ct u').length ≤ 1000000) := fun u' hc => by
          obtain ⟨c1, c2, c3, _⟩ := childV_ok hc ho htu
          exact ⟨by rw [getV_step hlt hg]; exact hc, c1, c2, by omega⟩
        generalize strOf ts[k] = st at *
        clear hg hrep hgd HCE HRV
        go_wp2_with fail
        refine (unhide HC).mono ?_
        rintro e w3 ⟨rfl, ⟨x, rfl, hcn⟩ | ⟨x, u', rfl, hcs, hru⟩⟩
        · have HV := hide (unhide HST hcn)
          clear HC HST HNX hck hcn
          go_wp2
          go_ret2
          exact ⟨by rw [unhide HV]; rfl, unhide B2⟩
        · have HN := hide (unhide HNX u' hcs)
          obtain ⟨ty', p', rfl⟩ := rep_iface hru
          have HRU := hide hru
          clear HC HST HNX hck hcs hru
          go_wp2
          go_roundw
          case rel => exact ⟨k + 1, u', ty', p', by omega, by go_num, rfl, (unhide HN).1, (unhide HN).2.1, (unhide HN).2.2.1, (unhide HN).2.2.2, unhide HRU, trivial⟩
          case measure => simp [intOf]; omega
      · have e : ts.take k = ts := List.take_of_length_le (by omega)
        rw [e] at hg
        have HV : Hid (resIn v t = .tuple #[.string (strOf (ct u)), .int .i64 0]) := by show _ = _; rw [unhide HRV, hg]; rfl
        have HC := hide (canonText_walk u ho htu ty p w2 _ hrep (fun k hk => by have := unhide HD k hk; omega) (unhide P2) (by omega))
        generalize strOf (ct u) = su at *
        clear hg hrep HCE HRV e
        go_wp2_with fail
        refine (unhide HC).mono ?_
        rintro e w3 ⟨rfl, b3⟩
        have B3 := below_next (unhide B2) b3
        clear HC
        go_wp2
        go_ret2
        exact ⟨by rw [unhide HV]; rfl, B3⟩

set_option maxRecDepth 100000 in
set_option maxHeartbeats 8000000 in
theorem implResolve_walk (s t : ByteArray) (w : World) (hT : TabsB w.heap.size w) (hE : ErrB w.heap.size w) (hP : PowB w.heap.size w) (hML : ML w) (hs : s.size ≤ 1048576) (ht : t.size ≤ 1048576) :
    Calls Tryz.prog 27 #[.string s, .string t] w fun e w' => e = .returned (resV s t) ∧ Below w.heap.size w w' := by
  have HF := hide (readText_walk s w hT hE hP (by omega))
  have HP := hide hP
  have HM := hide hML
  clear hT hE hP hML
  cases hr : readR s with
  | inl c =>
    obtain ⟨c1, c2⟩ := read_code hr
    have HV : Hid (resV s t = .tuple #[.string ⟨#[]⟩, .int .i64 1]) := by show _ = _; unfold resV; rw [hr]
    rw [hr] at HF
    have t1 : ((c : Int) == 0) = false := by simp; omega
    have t2 : ((c : Int) != 0) = true := by simp; omega
    have t3 : ¬ (c : Int) = 0 := by omega
    have t4 : ¬ c = 0 := by omega
    clear hr
    go_enter Tryz.func27, Tryz.ntmps27
    go_wp2_with fail
    refine (unhide HF).mono ?_
    rintro e w1 ⟨b1, rfl⟩
    clear HF
    go_wp2
    go_ret2
    exact ⟨by rw [unhide HV]; rfl, b1⟩
  | inr v =>
    obtain ⟨hss, hd, htw, _, _, _⟩ := read_facts hr
    obtain ⟨hok, hcn, hln⟩ := doc_facts hd
    rw [hr] at HF
    obtain ⟨x, c, hxc⟩ := resIn_two v t
    have HV : Hid (resV s t = .tuple #[.string x, .int .i64 c]) := by
      show _ = _
      rw [← hxc]
      unfold resV resIn
      rw [hr]
      cases ptoks t.data.toList with
      | none => rfl
      | some ts => simp only; cases getV v ts <;> rfl
    have HXC := hide hxc
    clear hr hd hxc
    go_enter Tryz.func27, Tryz.ntmps27
    go_wp2_with fail
    refine (unhide HF).mono ?_
    rintro e w1 ⟨b1, ty, p, rfl, rep⟩
    have P1 := ((unhide HP).next b1 (Nat.le_refl _)).more b1.size
    have HR := hide (resolveIn_walk v t ty p w1 _ hok htw (by omega) rep (fun k hk => hk.2) P1 ((unhide HM).below b1) ht)
    rw [unhide HXC] at HR
    have B1 := hide b1
    clear HF rep b1 HP P1 HM
    go_wp2_with fail
    refine (unhide HR).mono ?_
    rintro e w2 ⟨rfl, b2⟩
    have B2 := hide (below_next (unhide B1) b2)
    clear HR b2 B1
    go_wp2
    go_ret2
    exact ⟨by rw [unhide HV]; rfl, unhide B2⟩

end Go.Proofs.YtocnekbedcnmgaaGreatDoor

