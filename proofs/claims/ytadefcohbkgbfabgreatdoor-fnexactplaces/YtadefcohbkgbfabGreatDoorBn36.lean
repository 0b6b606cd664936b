import Derived.Test.YtadefcohbkgbfabGreatDoorBn10
import Derived.Test.YtadefcohbkgbfabGreatDoorBn32
import Derived.Test.YtadefcohbkgbfabGreatDoorBn35
import Derived.Test.YtadefcohbkgbfabGreatDoorBn9
import Derived.BigQuiet
import Derived.Test.YtadefcohbkgbfabGreatDoorBn27
namespace Go.Proofs.YtadefcohbkgbfabGreatDoor
open Go.RowKit

def RPost (w : World) (o : Sum Nat JV) (e : Ending) (w' : World) : Prop :=
  Below w.heap.size w w' ∧ match o with
  | .inl c => e = .returned (.tuple #[.nilIface, .int .i64 c])
  | .inr v => ∃ (t : TypeId) (p : Value), e = .returned (.tuple #[.iface t p, .int .i64 0]) ∧ Rep w' (fun k => w.heap.size ≤ k ∧ k < w'.heap.size) v (.iface t p)
set_option maxRecDepth 100000 in
set_option maxHeartbeats 3200000 in
theorem readText_walk (s : ByteArray) (w : World) (hT : TabsB w.heap.size w) (hE : ErrB w.heap.size w) (hP : PowB w.heap.size w) (hz : s.size ≤ 9223372036854775807) :
    Calls Tryz.prog 34 #[.string s] w (RPost w (readR s)) := by
  have hmf : ∀ (fn : Fn) (first cap : Array Value) (w : World), (Instr.makeFunc fn first cap).run Tryz.prog w = .ok (.func fn first cap) w := fun _ _ _ _ => rfl
  by_cases h0 : 20000 < s.size
  · have tl : ((20000 : Int) < (s.size : Int)) = True := eq_true (by omega)
    have HN : Hid (readR s = .inl 1) := by show _ = _; rw [readR, if_pos h0]
    clear hT hE hP h0
    go_enter Tryz.func34, Tryz.ntmps34
    go_wp2
    go_ret2
    exact ⟨Below.refl _ _, by rw [unhide HN]; rfl⟩
  · have tl : ((20000 : Int) < (s.size : Int)) = False := eq_false (by omega)
    have HF := hide (fitsText_walk s w (by omega) hT hE)
    have HN0 : Hid (readR s = match docR s with
      | none => .inl 2
      | some v => if bigV v then .inl 3 else if twV v then .inl 4 else if 100 < depV v ∨ 3000 < cntV v then .inl 5 else .inr v) := by show _ = _; exact (show readR s = _ from by unfold readR; exact if_neg h0).trans (by cases docR s <;> rfl)
    cases hd : docR s with
    | none =>
      rw [hd] at HF HN0
      clear hT hE hP h0 hd
      go_enter Tryz.func34, Tryz.ntmps34
      go_wp2_with fail
      refine (unhide HF).mono ?_
      rintro e w1 ⟨b1, hs1, rfl⟩
      clear HF
      go_wp2
      go_ret2
      exact ⟨b1, by rw [unhide HN0]; rfl⟩
    | some v =>
      obtain ⟨hok, hcn, hln⟩ := doc_facts hd
      have hdc := (dep_cnt v).1
      have HP := hide hP
      have hz2 : s.size ≤ 20000 := by omega
      rw [hd] at HF HN0
      clear hT hE hP h0 hd
      go_enter Tryz.func34, Tryz.ntmps34
      go_wp2_with fail
      refine (unhide HF).mono ?_
      rintro e w1 ⟨b1, hs1, t, p, rfl, v1, p1, r1, rep1⟩
      have cv := v1.cell
      have cp := p1.cell
      have cb := r1.big
      have ct := r1.twice
      have V1 := hide v1
      have REP := hide rep1
      clear HF v1 p1 r1 rep1
      cases hb : bigV v with
      | true =>
        rw [hb] at cb
        rw [hb] at HN0
        clear hb
        go_wp2
        go_ret2
        exact ⟨b1, by rw [unhide HN0]; rfl⟩
      | false =>
        rw [hb] at cb HN0
        cases ht : twV v with
        | true =>
          rw [ht] at ct HN0
          clear hb ht
          go_wp2
          go_ret2
          exact ⟨b1, by rw [unhide HN0]; rfl⟩
        | false =>
          rw [ht] at ct HN0
          have REP1 := hide (unhide REP hb ht)
          have HC := hide (sizeV v hok ht w1 _ t p (unhide REP1) (fun k hk => hk.2) (((unhide HP).next b1 (Nat.le_refl _)).more b1.size) (by omega) (by omega) (by omega))
          clear hb ht REP hok
          go_wp2_with fail
          refine (unhide HC).mono ?_
          rintro e w2 ⟨rfl, b2⟩
          have b3 : Below w2.heap.size w2 (w2.alloc (szB (depV v) (cntV v) (Go.Proofs.YtadefcohbkgbfabGreatDoor.ct v).length)) := (Below.refl _ _).alloc (Nat.le_refl _) _
          have cv2 := (((unhide V1).below b2).below b3).cell
          have B2 := hide (below_next (below_next b1 b2) b3)
          have Q2 : Hid (Rep (w2.alloc (szB (depV v) (cntV v) (Go.Proofs.YtadefcohbkgbfabGreatDoor.ct v).length)) (fun k => w.heap.size ≤ k ∧ k < (w2.alloc (szB (depV v) (cntV v) (Go.Proofs.YtadefcohbkgbfabGreatDoor.ct v).length)).heap.size) v (.iface t p)) := by
            have hs2 := b2.size
            have hs3 := b3.size
            exact Rep.keep (w := w1) (S := fun k => w.heap.size + 4 ≤ k ∧ k < w1.heap.size) (fun k hk => (b3.block k (by have := hk.2; omega)).trans (b2.block k hk.2)) (fun k hk => ⟨by have := hk.1; omega, by have := hk.2; omega⟩) v _ (unhide REP1)
          clear HC cv cp cb ct V1 REP1 b3
          simp only [szV]
          by_cases g1 : 100 < depV v
          · have t1 : ((100 : Int) < (depV v : Int)) = True := eq_true (by omega)
            have HN : Hid (readR s = .inl 5) := by show _ = _; rw [unhide HN0]; simp [g1]
            clear HN0 g1
            go_wp2
            go_ret2
            exact ⟨unhide B2, by rw [unhide HN]; rfl⟩
          · have t1 : ((100 : Int) < (depV v : Int)) = False := eq_false (by omega)
            by_cases g2 : 3000 < cntV v
            · have t2 : ((3000 : Int) < (cntV v : Int)) = True := eq_true (by omega)
              have HN : Hid (readR s = .inl 5) := by show _ = _; rw [unhide HN0]; simp [g2]
              clear HN0 g1 g2
              go_wp2
              go_ret2
              exact ⟨unhide B2, by rw [unhide HN]; rfl⟩
            · have t2 : ((3000 : Int) < (cntV v : Int)) = False := eq_false (by omega)
              have HN : Hid (readR s = .inr v) := by show _ = _; rw [unhide HN0]; simp [g1, g2]
              clear HN0 g1 g2
              go_wp2
              go_ret2
              exact ⟨unhide B2, by rw [unhide HN]; exact ⟨t, p, rfl, unhide Q2⟩⟩
end Go.Proofs.YtadefcohbkgbfabGreatDoor


namespace Go.Proofs.YtadefcohbkgbfabGreatDoor
open Go.RowKit Go.Sort

set_option maxRecDepth 100000 in
set_option maxHeartbeats 1600000 in
theorem implCanon_walk (s : ByteArray) (w : World) (hT : TabsB w.heap.size w) (hE : ErrB w.heap.size w) (hP : PowB w.heap.size w) (hz : s.size ≤ 9223372036854775807) :
    Calls Tryz.prog 11 #[.string s] w fun e w' => e = .returned (canonV s) ∧ Below w.heap.size w w' := by
  have HF := hide (readText_walk s w hT hE hP hz)
  have HP := hide hP
  clear hT hE hP
  cases hr : readR s with
  | inl c =>
    obtain ⟨c1, c2⟩ := read_code hr
    have HV : Hid (canonV s = .tuple #[.string ⟨#[]⟩, .int .i64 (c : Int)]) := by show _ = _; unfold canonV; rw [hr]
    rw [hr] at HF
    have t1 : ((c : Int) == 0) = false := by simp; omega
    have t2 : ((c : Int) != 0) = true := by simp; omega
    have t3 : ¬ (c : Int) = 0 := by omega
    have t4 : ¬ c = 0 := by omega
    clear hr
    go_enter Tryz.func11, Tryz.ntmps11
    go_wp2_with fail
    refine (unhide HF).mono ?_
    rintro e w1 ⟨b1, rfl⟩
    clear HF
    go_wp2
    go_ret2
    exact ⟨by rw [unhide HV]; rfl, b1⟩
  | inr v =>
    obtain ⟨hs, hd, htw, _, _, _⟩ := read_facts hr
    obtain ⟨hok, hcn, hln⟩ := doc_facts hd
    have HV : Hid (canonV s = .tuple #[.string (strOf (ct v)), .int .i64 0]) := by show _ = _; unfold canonV; rw [hr]
    rw [hr] at HF
    clear hr hd
    go_enter Tryz.func11, Tryz.ntmps11
    go_wp2_with fail
    refine (unhide HF).mono ?_
    rintro e w1 ⟨b1, t, p, rfl, rep⟩
    have HC := hide (canonText_walk v hok htw t p w1 _ rep (fun k hk => hk.2) (((unhide HP).next b1 (Nat.le_refl _)).more b1.size) (by omega))
    clear HF rep hok htw
    generalize strOf (ct v) = cv at *
    go_wp2_with fail
    refine (unhide HC).mono ?_
    rintro e w2 ⟨rfl, b2⟩
    have B2 := below_next b1 b2
    clear HC
    go_wp2
    go_ret2
    exact ⟨by rw [unhide HV]; rfl, B2⟩

set_option maxRecDepth 100000 in
set_option maxHeartbeats 1600000 in
theorem implMeasure_walk (s : ByteArray) (w : World) (hT : TabsB w.heap.size w) (hE : ErrB w.heap.size w) (hP : PowB w.heap.size w) (hz : s.size ≤ 9223372036854775807) :
    Calls Tryz.prog 14 #[.string s] w fun e w' => e = .returned (measV s) ∧ Below w.heap.size w w' := by
  have HF := hide (readText_walk s w hT hE hP hz)
  have HP := hide hP
  clear hT hE hP
  cases hr : readR s with
  | inl c =>
    obtain ⟨c1, c2⟩ := read_code hr
    have HV : Hid (measV s = .tuple #[.int .i64 0, .int .i64 0, .int .i64 (c : Int)]) := by show _ = _; unfold measV; rw [hr]
    rw [hr] at HF
    have t1 : ((c : Int) == 0) = false := by simp; omega
    have t2 : ((c : Int) != 0) = true := by simp; omega
    have t3 : ¬ (c : Int) = 0 := by omega
    have t4 : ¬ c = 0 := by omega
    clear hr
    go_enter Tryz.func14, Tryz.ntmps14
    go_wp2_with fail
    refine (unhide HF).mono ?_
    rintro e w1 ⟨b1, rfl⟩
    clear HF
    go_wp2
    go_ret3
    exact ⟨by rw [unhide HV]; rfl, b1⟩
  | inr v =>
    obtain ⟨hs, hd, htw, _, _, _⟩ := read_facts hr
    obtain ⟨hok, hcn, hln⟩ := doc_facts hd
    have hdc := (dep_cnt v).1
    have HV : Hid (measV s = .tuple #[.int .i64 (depV v : Int), .int .i64 (cntV v : Int), .int .i64 0]) := by show _ = _; unfold measV; rw [hr]
    rw [hr] at HF
    clear hr hd
    go_enter Tryz.func14, Tryz.ntmps14
    go_wp2_with fail
    refine (unhide HF).mono ?_
    rintro e w1 ⟨b1, t, p, rfl, rep⟩
    have HC := hide (sizeV v hok htw w1 _ t p rep (fun k hk => hk.2) (((unhide HP).next b1 (Nat.le_refl _)).more b1.size) (by omega) (by omega) (by omega))
    clear HF rep hok htw
    go_wp2_with fail
    refine (unhide HC).mono ?_
    rintro e w2 ⟨rfl, b2⟩
    have B2 := (below_next b1 b2).alloc (Nat.le_trans b1.size b2.size) (szB (depV v) (cntV v) (ct v).length)
    clear HC
    have HB2 := hide B2
    clear B2
    simp only [szV]
    go_wp2_with fail
    go_quiet (fail)
    go_wp2
    go_ret3
    exact ⟨by rw [unhide HV]; rfl, (unhide HB2).trans ⟨rfl, rfl, rfl, Nat.le_refl _, fun _ _ => rfl⟩⟩
end Go.Proofs.YtadefcohbkgbfabGreatDoor


namespace Go.Proofs.YtadefcohbkgbfabGreatDoor
open Go.RowKit

/-- What the row's condition says of the tables. -/
def StrOk (w : World) : Prop := Tabs w ∧ ErrB w.heap.size w ∧ PowB w.heap.size w
theorem StrOk.below {w w' : World} (h : StrOk w) (hb : Below w.heap.size w w') : StrOk w' :=
  ⟨h.1.below hb, ⟨Nat.lt_of_lt_of_le h.2.1.1 hb.size, (h.2.1.next hb (Nat.le_refl _)).2⟩, (h.2.2.next hb (Nat.le_refl _)).more hb.size⟩

/-- Canon leaves a quoted text as it is. -/
theorem canon_quoted (s : ByteArray) (w : World) (hv : Lib.validD s.data.toList = true) (hq : (strOf (quoted s.data.toList)).size ≤ 20000) (h : StrOk w) :
    Calls Tryz.prog 11 #[.string (strOf (quoted s.data.toList))] w fun e w' => e = .returned (.tuple #[.string (strOf (quoted s.data.toList)), .int .i64 0]) ∧ Below w.heap.size w w' := by
  have h1 := strQ_quoted s hv
  have b : bt (strOf (quoted s.data.toList)) 0 = 34 := by unfold bt; rw [strOf_toList]; rfl
  have h0 : sk (strOf (quoted s.data.toList)) 0 = 0 := sk_off (by rw [b]; omega)
  have hd : docR (strOf (quoted s.data.toList)) = some (.str s.data.toList) := by
    unfold docR
    rw [h0, val_str b, h1]
    simp only [Option.map_some, Option.bind_some]
    rw [if_pos (sk_past (Nat.le_refl _))]
  have hr : canonV (strOf (quoted s.data.toList)) = .tuple #[.string (strOf (quoted s.data.toList)), .int .i64 0] := by
    have e : readR (strOf (quoted s.data.toList)) = .inr (.str s.data.toList) := by
      unfold readR
      rw [if_neg (by omega), hd]
      rfl
    unfold canonV
    rw [e]
    rfl
  have hc := implCanon_walk (strOf (quoted s.data.toList)) w (TabsB.of h.1) h.2.1 h.2.2 (by omega)
  rw [hr] at hc
  exact hc
end Go.Proofs.YtadefcohbkgbfabGreatDoor

