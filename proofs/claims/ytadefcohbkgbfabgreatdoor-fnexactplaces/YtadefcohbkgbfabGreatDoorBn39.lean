import Derived.Test.YtadefcohbkgbfabGreatDoorBn38
import Derived.Test.YtadefcohbkgbfabGreatDoorBn36
import Derived.Test.YtadefcohbkgbfabGreatDoorBn17
import Derived.Test.YtadefcohbkgbfabGreatDoorBn37
namespace Go.Proofs.YtadefcohbkgbfabGreatDoor
open Go.RowKit

/-- What Places answers. -/
def placesL (s : ByteArray) : List (List UInt8) := match readR s with
  | .inl _ => []
  | .inr v => plF (depV v) [] v
def placesC (s : ByteArray) : Int := match readR s with
  | .inl _ => 1
  | .inr _ => 0
theorem places_len (s : ByteArray) : (placesL s).length ≤ 3000 := by
  unfold placesL
  cases hr : readR s with
  | inl c => simp
  | inr v =>
    obtain ⟨_, hd, htw, _, _, hc⟩ := read_facts hr
    obtain ⟨hok, _, _⟩ := doc_facts hd
    simp only
    rw [plF_len hok htw (Nat.le_refl _)]
    exact hc

set_option maxRecDepth 100000 in
set_option maxHeartbeats 4000000 in
theorem specPlaces_walk (s : ByteArray) (w : World) (hs : s.size ≤ 1048576) :
    Calls Tryz.prog 15 #[.string s] w fun e w' => ∃ v, e = .returned (.tuple #[v, .int .i64 (placesC s)]) ∧ OT w' w.heap.size v (placesL s) ∧ Below w.heap.size w w' := by
  obtain ⟨i0, hi, hz0, hz1, hz2⟩ := info_parts infoString
  have HF : Hid (∀ w, Calls Tryz.prog 12 #[.string s] w fun e w' => e = .returned (canonV s) ∧ Below w.heap.size w w') := fun w => specCanon_walk s w hs
  have HO : Hid (OT (w.alloc (.cells #[] 9)) w.heap.size (.slice (some ⟨w.heap.size, 0, none⟩) 0 0) []) := World.ownsRow_lit w #[] 0 (Nat.le_refl _) (by unfold maxLen; omega) rfl
  have HB0 : Hid (Below w.heap.size w (w.alloc (.cells #[] 9))) := (Below.refl _ _).alloc (Nat.le_refl _) _
  cases hr : readR s with
  | inl c =>
    obtain ⟨c1, c2⟩ := read_code hr
    have HC : Hid (placesC s = 1 ∧ placesL s = []) := by
      show _ ∧ _
      unfold placesC placesL; rw [hr]; exact ⟨rfl, rfl⟩
    have e0 : canonV s = .tuple #[.string ⟨#[]⟩, .int .i64 (c : Int)] := by unfold canonV; rw [hr]
    rw [e0] at HF
    have t1 : ((c : Int) == 0) = false := by simp; omega
    have t2 : ((c : Int) != 0) = true := by simp; omega
    have t3 : ¬ (c : Int) = 0 := by omega
    have t4 : ¬ c = 0 := by omega
    clear hr e0
    go_enter Tryz.func15, Tryz.ntmps15
    go_wp2_with fail
    refine (unhide HF _).mono ?_
    rintro e w1 ⟨rfl, b1⟩
    have O1 := hide (own_below (unhide HO) b1)
    have B1 := hide ((unhide HB0).trans (b1.mono (unhide HB0).size))
    clear HF b1 HO
    go_wp2
    go_ret2
    exact ⟨_, by rw [(unhide HC).1]; rfl, by rw [(unhide HC).2]; exact unhide O1, unhide B1⟩
  | inr v =>
    obtain ⟨hss, hd, htw, _, hdp, hcn⟩ := read_facts hr
    obtain ⟨hok, _, hln⟩ := doc_facts hd
    have HC : Hid (placesC s = 0 ∧ placesL s = (hitF (depV v) [] v).map (·.1)) := by
      show _ ∧ _
      unfold placesC placesL; rw [hr]; exact ⟨rfl, rfl⟩
    have e0 : canonV s = .tuple #[.string (strOf (ct v)), .int .i64 0] := by unfold canonV; rw [hr]
    rw [e0] at HF
    have HH : Hid (∀ w, Calls Tryz.prog 40 #[.string (strOf (ct v)), .string ⟨#[]⟩] w fun e w' => ∃ r, e = .returned r ∧ HR w' w.heap.size r (hitF (depV v) [] v) ∧ Below w.heap.size w w') := fun w => hits_walk (depV v) v [] w hok htw (Nat.le_refl _) (by omega) (by simp; omega) (by omega)
    have hHl : (hitF (depV v) [] v).length ≤ 3000 := by rw [hitF_len _ _ _ hok htw (Nat.le_refl _)]; exact hcn
    generalize hitF (depV v) [] v = H at *
    generalize strOf (ct v) = cv at *
    clear hr e0 hd htw hok hdp hcn hln hss
    go_enter Tryz.func15, Tryz.ntmps15
    go_wp2_with fail
    refine (unhide HF _).mono ?_
    rintro e w1 ⟨rfl, b1⟩
    have O1 := hide (own_below (unhide HO) b1)
    have B1 := hide ((unhide HB0).trans (b1.mono (unhide HB0).size))
    have hw1 := (unhide B1).size
    clear HF b1 HO HB0
    go_wp2_with fail
    refine (unhide HH _).mono ?_
    rintro e w2 ⟨r2, rfl, h2, b2⟩
    have O2 := hide (own_below (unhide O1) b2)
    have B2 := hide (below_next (unhide B1) b2)
    obtain ⟨x2, cap2, rfl⟩ : ∃ x cap, r2 = .slice x H.length cap := by
      rcases h2.2 with ⟨hv, h0⟩ | ⟨g, cap, cur, hv, _⟩
      · exact ⟨none, 0, by rw [hv, h0]⟩
      · exact ⟨_, _, hv⟩
    have H2 := hide h2
    clear HH O1 B1 b2 h2
    go_wp2_with fail
    go_loopw [4, 8] (fun u i wr => ∃ k : Nat, k ≤ H.length ∧ i = .int .i64 (k : Int) ∧ OT wr w.heap.size u ((H.map (·.1)).take k) ∧ HR wr w1.heap.size (.slice x2 H.length cap2) H ∧ Below w.heap.size w wr) (fun _ i _ => H.length - (intOf i).toNat)
    case atStart => exact ⟨0, Nat.zero_le _, rfl, unhide O2, unhide H2, unhide B2⟩
    case round =>
      obtain ⟨k, hk, rfl, ho, hh, hb⟩ := hrel
      have hlen : ((H.map (·.1)).take k).length = k := by rw [List.length_take, List.length_map]; omega
      have hwsz := hb.size
      have HB := hide hb
      clear O2 H2 B2 hb
      by_cases hlt : k < H.length
      · have hltI : (k : Int) < (H.length : Int) := by omega
        obtain ⟨g, cap', he, hgB, hgl, c0, c1⟩ := hh.cells k hlt
        injection he with he1 he2 he3
        subst he1; subst he3
        have HST : Hid ((H.map (·.1)).take (k + 1) = (H.map (·.1)).take k ++ [H[k].1]) := by
          show _ = _
          rw [List.take_succ_eq_append_getElem (by rw [List.length_map]; exact hlt)]; simp
        have HHH := hide hh
        generalize H[k].1 = t at *
        generalize (H.map (·.1)).take k = ts at *
        clear hh c1
        go_wp2_with (at_builtin; refine wpList_append_own _ rfl (.tmp 26) (.tmp 32) 32 rfl w.heap.size 9 i0 (.string ByteArray.empty) 1 16 Tryz.underlying32 hi hz0 hz1 hz2 rfl (by decide) _ _ _ rfl (ho.alloc _) ⟨wr.heap.size, 0, none⟩ 1 1 [.string (strOf t)] rfl rfl (lit1 _ _ _) (one_tok _) (by unfold maxLen; omega) (by omega) (by simp; omega) ?_)
        intro v3 w3 own3 hg3 _
        have O3 : Hid (OT w3 w.heap.size v3 (ts ++ [t])) := OT.step (t := t) (by rw [hlen]; exact own3)
        have B3 : Hid (Below w.heap.size w w3) := ((unhide HB).alloc (by omega) _).grown hg3 (by simp; omega) (fun k hk => (ho.lt k hk).1)
        have H3 : Hid (HR w3 w1.heap.size (.slice (some ⟨g, 0, none⟩) H.length cap2) H) := World.ownsRow.kept (World.ownsRow.alloc (unhide HHH) _) hg3 (own_apart (unhide HHH) ho (by decide))
        clear own3 hg3 ho HB HHH c0
        go_wp2
        go_roundw
        case rel => exact ⟨k + 1, by omega, by go_num, by rw [unhide HST]; exact unhide O3, unhide H3, unhide B3⟩
        case measure => simp [intOf]; omega
      · have hk' : k = H.length := by omega
        subst hk'
        have e : (H.map (·.1)).take H.length = H.map (·.1) := List.take_of_length_le (by rw [List.length_map]; omega)
        rw [e] at ho
        have HO := hide ho
        clear ho e hh
        go_wp2
        go_ret2
        exact ⟨_, by rw [(unhide HC).1]; rfl, by rw [(unhide HC).2]; exact unhide HO, unhide HB⟩
end Go.Proofs.YtadefcohbkgbfabGreatDoor


namespace Go.Proofs.YtadefcohbkgbfabGreatDoor
open Go.RowKit Go.Sort

set_option maxRecDepth 100000 in
set_option maxHeartbeats 4000000 in
theorem implPlaces_walk (s : ByteArray) (w : World) (hT : TabsB w.heap.size w) (hE : ErrB w.heap.size w) (hP : PowB w.heap.size w) (hs : s.size ≤ 1048576) :
    Calls Tryz.prog 16 #[.string s] w fun e w' => ∃ v, e = .returned (.tuple #[v, .int .i64 (placesC s)]) ∧ OT w' w.heap.size v (placesL s) ∧ Below w.heap.size w w' := by
  have HF := hide (readText_walk s w hT hE hP (by omega))
  have HP := hide hP
  clear hT hE hP
  cases hr : readR s with
  | inl c =>
    obtain ⟨c1, c2⟩ := read_code hr
    have HC : Hid (placesC s = 1 ∧ placesL s = []) := by
      show _ ∧ _
      unfold placesC placesL; rw [hr]; exact ⟨rfl, rfl⟩
    rw [hr] at HF
    have t1 : ((c : Int) == 0) = false := by simp; omega
    have t2 : ((c : Int) != 0) = true := by simp; omega
    have t3 : ¬ (c : Int) = 0 := by omega
    have t4 : ¬ c = 0 := by omega
    clear hr
    go_enter Tryz.func16, Tryz.ntmps16
    go_wp2_with fail
    refine (unhide HF).mono ?_
    rintro e w1 ⟨b1, rfl⟩
    clear HF
    go_wp2
    go_ret2
    exact ⟨_, by rw [(unhide HC).1]; rfl, by rw [(unhide HC).2]; exact World.ownsRow_nil w1 w.heap.size 9 1, b1⟩
  | inr v =>
    obtain ⟨hss, hd, htw, _, hdp, hcn⟩ := read_facts hr
    obtain ⟨hok, _, hln⟩ := doc_facts hd
    have HC : Hid (placesC s = 0 ∧ placesL s = plF (depV v) [] v) := by
      show _ ∧ _
      unfold placesC placesL; rw [hr]; exact ⟨rfl, rfl⟩
    rw [hr] at HF
    have HPL : Hid (∀ (w1 : World) (ty : TypeId) (p : Value), Below w.heap.size w w1 → Rep w1 (fun k => w.heap.size ≤ k ∧ k < w1.heap.size) v (.iface ty p) → Calls Tryz.prog 41 #[.slice none 0 0, .string ⟨#[]⟩, .iface ty p] w1 fun e w' => ∃ r, e = .returned r ∧ OT w' w1.heap.size r ([] ++ plF (depV v) [] v) ∧ PF w1.heap.size w1 w') := fun w1 ty p b1 rep =>
      places_walk (depV v) v [] [] (.slice none 0 0) w1 ty p w1.heap.size _ hok htw (Nat.le_refl _) (by omega) (by simp; omega) (by simp; omega) (World.ownsRow_nil w1 w1.heap.size 9 1) rep (fun k hk => hk.2) (Nat.le_refl _) (((unhide HP).next b1 (Nat.le_refl _)).more b1.size)
    clear hr hd htw hok hdp hcn hln hss HP
    go_enter Tryz.func16, Tryz.ntmps16
    go_wp2_with fail
    refine (unhide HF).mono ?_
    rintro e w1 ⟨b1, ty, p, rfl, rep⟩
    have HP1 := hide (unhide HPL w1 ty p b1 rep)
    have B1 := hide b1
    clear HF rep b1 HPL
    go_wp2_with fail
    refine (unhide HP1).mono ?_
    rintro e w2 ⟨r2, rfl, o2, f2⟩
    have O2 := hide (own_mono o2 (unhide B1).size)
    have B2 := hide (below_next (unhide B1) f2.1)
    clear HP1 o2 f2
    go_wp2
    go_ret2
    exact ⟨_, by rw [(unhide HC).1]; rfl, by rw [(unhide HC).2]; exact unhide O2, unhide B2⟩

set_option maxHeartbeats 2000000 in
set_option maxRecDepth 100000 in
theorem placesLaw_in (s : ByteArray) (w : World) (hT : Tabs w) (hE : ErrB w.heap.size w) (hP : PowB w.heap.size w) :
    Calls Tryz.prog 6 #[.string s] w fun e w' => e = .returned (.bool true) ∧ Below w.heap.size w w' := by
  by_cases hsz : s.size ≤ 1048576
  · have hlen := places_len s
    have HS := hide (specPlaces_walk s w hsz)
    have HI : Hid (∀ w1, Below w.heap.size w w1 → Calls Tryz.prog 16 #[.string s] w1 fun e w' => ∃ v, e = .returned (.tuple #[v, .int .i64 (placesC s)]) ∧ OT w' w1.heap.size v (placesL s) ∧ Below w1.heap.size w1 w') := fun w1 hb => implPlaces_walk s w1 (TabsB.of (hT.below hb)) ⟨Nat.lt_of_lt_of_le hE.1 hb.size, (hE.next hb (Nat.le_refl _)).2⟩ ((hP.next hb (Nat.le_refl _)).more hb.size) hsz
    generalize placesC s = ok at *
    generalize placesL s = ts at *
    clear hT hE hP
    go_enter Tryz.func6, Tryz.ntmps6
    go_wp2_with fail
    refine (unhide HS).mono ?_
    rintro e w1 ⟨v0, rfl, o1, b1⟩
    have HC2 := hide (unhide HI w1 b1)
    have O1 := hide o1
    clear HS o1
    go_wp2_with fail
    refine (unhide HC2).mono ?_
    rintro e w2 ⟨v1, rfl, o2, b2⟩
    have HE := hide (eqT_walk v1 v0 ts w2 o2 (own_below (unhide O1) b2) (by omega))
    have O2 := hide o2
    clear HC2 o2
    go_wp2_with fail
    refine (unhide HE).mono ?_
    rintro e w3 ⟨rfl, n3, rfl⟩
    have b3 : Below w1.heap.size w1 (w2.drewN n3) := b2.trans (below_draws _ _ _)
    have o3 : (w2.drewN n3).ownsRow w1.heap.size 9 1 v1 ts.length (ts.map tokCell) := unhide O2
    have HM := hide (markS_walk w1.heap.size v1 ts.length 1 _ (w2.drewN n3) o3 b3.size (by omega) (Nat.le_refl _) (by omega))
    clear HE O2 o3
    generalize w2.drewN n3 = w3 at *
    go_wp2_with fail
    refine (unhide HM).mono ?_
    rintro e w4 ⟨rfl, o4, b4⟩
    have b4' := b3.trans b4
    have HH := hide (heldS_walk w1.heap.size v1 ts.length 1 w4 o4 (by omega) (Nat.le_refl _) (by omega))
    have O4 := hide o4
    clear HM o4 b4 b3 b2
    go_wp2_with fail
    refine (unhide HH).mono ?_
    rintro e w5 ⟨rfl, b5⟩
    have O5 := hide (own_below (unhide O4) b5)
    have b5' := b4'.trans (b5.mono b4'.size)
    have B5 := b1.trans (b5'.mono b1.size)
    clear HH O4 b4' b5
    have HC6 := hide (unhide HI w5 B5)
    go_wp2_with fail
    refine (unhide HC6).mono ?_
    rintro e w6 ⟨v6, rfl, o6, b6⟩
    have b6' := b5'.trans (b6.mono b5'.size)
    have HE := hide (eqT_walk v6 v0 ts w6 o6 (own_below (unhide O1) b6') (by omega))
    have O6 := hide (own_below (unhide O5) b6)
    clear HC6 o6 O5
    go_wp2_with fail
    refine (unhide HE).mono ?_
    rintro e w7 ⟨rfl, n7, rfl⟩
    have o7 : (w6.drewN n7).ownsRow w1.heap.size 9 1 v1 ts.length (marks 1 ts.length) := unhide O6
    have B7 : Below w.heap.size w (w6.drewN n7) := (B5.trans (b6.mono B5.size)).trans (below_draws _ _ _)
    have HH := hide (heldS_walk w1.heap.size v1 ts.length 1 (w6.drewN n7) o7 (by omega) (Nat.le_refl _) (by omega))
    clear HE O6 o7
    generalize w6.drewN n7 = w7 at *
    go_wp2_with fail
    refine (unhide HH).mono ?_
    rintro e w8 ⟨rfl, b8⟩
    have B8 := B7.trans (b8.mono B7.size)
    go_wp2
    go_ret
    exact ⟨rfl, B8⟩
  · have hsz' : (1048576 : Int) < (s.size : Int) := by omega
    clear hT hE hP
    go_enter Tryz.func6, Tryz.ntmps6
    go_wp2
    go_ret
    exact ⟨rfl, Below.refl _ _⟩
end Go.Proofs.YtadefcohbkgbfabGreatDoor

