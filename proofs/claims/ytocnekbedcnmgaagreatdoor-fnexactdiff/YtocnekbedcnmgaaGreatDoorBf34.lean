import Derived.Test.YtocnekbedcnmgaaGreatDoorBf5
import Derived.Test.YtocnekbedcnmgaaGreatDoorBf32
import Derived.Test.YtocnekbedcnmgaaGreatDoorBf21
import Derived.Test.YtocnekbedcnmgaaGreatDoorBf4
import Derived.BigQuiet
import Derived.Test.YtocnekbedcnmgaaGreatDoorBf9
import Derived.Test.YtocnekbedcnmgaaGreatDoorBf33
import Derived.Test.YtocnekbedcnmgaaGreatDoorBf10
namespace Go.Proofs.YtocnekbedcnmgaaGreatDoor
open Go.RowKit

def RPost (w : World) (o : Sum Nat JV) (e : Ending) (w' : World) : Prop :=
  Below w.heap.size w w' ∧ match o with
  | .inl c => e = .returned (.tuple #[.nilIface, .int .i64 c])
  | .inr v => ∃ (t : TypeId) (p : Value), e = .returned (.tuple #[.iface t p, .int .i64 0]) ∧ Rep w' (fun k => w.heap.size ≤ k ∧ k < w'.heap.size) v (.iface t p)
set_option maxRecDepth 100000 in
set_option maxHeartbeats 3200000 in
theorem readText_walk (s : ByteArray) (w : World) (hT : TabsB w.heap.size w) (hE : ErrB w.heap.size w) (hP : PowB w.heap.size w) (hz : s.size ≤ 9223372036854775807) :
    Calls Tryz.prog 37 #[.string s] w (RPost w (readR s)) := by
  have hmf : ∀ (fn : Fn) (first cap : Array Value) (w : World), (Instr.makeFunc fn first cap).run Tryz.prog w = .ok (.func fn first cap) w := fun _ _ _ _ => rfl
  by_cases h0 : 20000 < s.size
  · have tl : ((20000 : Int) < (s.size : Int)) = True := eq_true (by omega)
    have HN : Hid (readR s = .inl 1) := by show _ = _; rw [readR, if_pos h0]
    clear hT hE hP h0
    go_enter Tryz.func37, Tryz.ntmps37
    go_wp2
    go_ret2
    exact ⟨Below.refl _ _, by rw [unhide HN]; rfl⟩
  · have tl : ((20000 : Int) < (s.size : Int)) = False := eq_false (by omega)
    have HF := hide (fitsText_walk s w (by omega) hT hE)
    have HN0 : Hid (readR s = match docR s with
      | none => .inl 2
      | some v => if bigV v then .inl 3 else if twV v then .inl 4 else if 100 < depV v ∨ 3000 < cntV v then .inl 5 else .inr v) := by show _ = _; exact (show readR s = _ from by unfold readR; exact if_neg h0).trans (by cases docR s <;> rfl)
    cases hd : docR s with
    | none =>
      rw [hd] at HF HN0
      clear hT hE hP h0 hd
      go_enter Tryz.func37, Tryz.ntmps37
      go_wp2_with fail
      refine (unhide HF).mono ?_
      rintro e w1 ⟨b1, hs1, rfl⟩
      clear HF
      go_wp2
      go_ret2
      exact ⟨b1, by rw [unhide HN0]; rfl⟩
    | some v =>
      obtain ⟨hok, hcn, hln⟩ := doc_facts hd
      have hdc := (dep_cnt v).1
      have HP := hide hP
      have hz2 : s.size ≤ 20000 := by omega
      rw [hd] at HF HN0
      clear hT hE hP h0 hd
      go_enter Tryz.func37, Tryz.ntmps37
      go_wp2_with fail
      refine (unhide HF).mono ?_
      rintro e w1 ⟨b1, hs1, t, p, rfl, v1, p1, r1, rep1⟩
      have cv := v1.cell
      have cp := p1.cell
      have cb := r1.big
      have ct := r1.twice
      have V1 := hide v1
      have REP := hide rep1
      clear HF v1 p1 r1 rep1
      cases hb : bigV v with
      | true =>
        rw [hb] at cb
        rw [hb] at HN0
        clear hb
        go_wp2
        go_ret2
        exact ⟨b1, by rw [unhide HN0]; rfl⟩
      | false =>
        rw [hb] at cb HN0
        cases ht : twV v with
        | true =>
          rw [ht] at ct HN0
          clear hb ht
          go_wp2
          go_ret2
          exact ⟨b1, by rw [unhide HN0]; rfl⟩
        | false =>
          rw [ht] at ct HN0
          have REP1 := hide (unhide REP hb ht)
          have HC := hide (sizeV v hok ht w1 _ t p (unhide REP1) (fun k hk => hk.2) (((unhide HP).next b1 (Nat.le_refl _)).more b1.size) (by omega) (by omega) (by omega))
          clear hb ht REP hok
          go_wp2_with fail
          refine (unhide HC).mono ?_
          rintro e w2 ⟨rfl, b2⟩
          have b3 : Below w2.heap.size w2 (w2.alloc (szB (depV v) (cntV v) (Go.Proofs.YtocnekbedcnmgaaGreatDoor.ct v).length)) := (Below.refl _ _).alloc (Nat.le_refl _) _
          have cv2 := (((unhide V1).below b2).below b3).cell
          have B2 := hide (below_next (below_next b1 b2) b3)
          have Q2 : Hid (Rep (w2.alloc (szB (depV v) (cntV v) (Go.Proofs.YtocnekbedcnmgaaGreatDoor.ct v).length)) (fun k => w.heap.size ≤ k ∧ k < (w2.alloc (szB (depV v) (cntV v) (Go.Proofs.YtocnekbedcnmgaaGreatDoor.ct v).length)).heap.size) v (.iface t p)) := by
            have hs2 := b2.size
            have hs3 := b3.size
            exact Rep.keep (w := w1) (S := fun k => w.heap.size + 4 ≤ k ∧ k < w1.heap.size) (fun k hk => (b3.block k (by have := hk.2; omega)).trans (b2.block k hk.2)) (fun k hk => ⟨by have := hk.1; omega, by have := hk.2; omega⟩) v _ (unhide REP1)
          clear HC cv cp cb ct V1 REP1 b3
          simp only [szV]
          by_cases g1 : 100 < depV v
          · have t1 : ((100 : Int) < (depV v : Int)) = True := eq_true (by omega)
            have HN : Hid (readR s = .inl 5) := by show _ = _; rw [unhide HN0]; simp [g1]
            clear HN0 g1
            go_wp2
            go_ret2
            exact ⟨unhide B2, by rw [unhide HN]; rfl⟩
          · have t1 : ((100 : Int) < (depV v : Int)) = False := eq_false (by omega)
            by_cases g2 : 3000 < cntV v
            · have t2 : ((3000 : Int) < (cntV v : Int)) = True := eq_true (by omega)
              have HN : Hid (readR s = .inl 5) := by show _ = _; rw [unhide HN0]; simp [g2]
              clear HN0 g1 g2
              go_wp2
              go_ret2
              exact ⟨unhide B2, by rw [unhide HN]; rfl⟩
            · have t2 : ((3000 : Int) < (cntV v : Int)) = False := eq_false (by omega)
              have HN : Hid (readR s = .inr v) := by show _ = _; rw [unhide HN0]; simp [g1, g2]
              clear HN0 g1 g2
              go_wp2
              go_ret2
              exact ⟨unhide B2, by rw [unhide HN]; exact ⟨t, p, rfl, unhide Q2⟩⟩
end Go.Proofs.YtocnekbedcnmgaaGreatDoor


namespace Go.Proofs.YtocnekbedcnmgaaGreatDoor
open Go.RowKit Go.Sort

set_option maxRecDepth 100000 in
set_option maxHeartbeats 1600000 in
theorem implCanon_walk (s : ByteArray) (w : World) (hT : TabsB w.heap.size w) (hE : ErrB w.heap.size w) (hP : PowB w.heap.size w) (hz : s.size ≤ 9223372036854775807) :
    Calls Tryz.prog 23 #[.string s] w fun e w' => e = .returned (canonV s) ∧ Below w.heap.size w w' := by
  have HF := hide (readText_walk s w hT hE hP hz)
  have HP := hide hP
  clear hT hE hP
  cases hr : readR s with
  | inl c =>
    obtain ⟨c1, c2⟩ := read_code hr
    have HV : Hid (canonV s = .tuple #[.string ⟨#[]⟩, .int .i64 (c : Int)]) := by show _ = _; unfold canonV; rw [hr]
    rw [hr] at HF
    have t1 : ((c : Int) == 0) = false := by simp; omega
    have t2 : ((c : Int) != 0) = true := by simp; omega
    have t3 : ¬ (c : Int) = 0 := by omega
    have t4 : ¬ c = 0 := by omega
    clear hr
    go_enter Tryz.func23, Tryz.ntmps23
    go_wp2_with fail
    refine (unhide HF).mono ?_
    rintro e w1 ⟨b1, rfl⟩
    clear HF
    go_wp2
    go_ret2
    exact ⟨by rw [unhide HV]; rfl, b1⟩
  | inr v =>
    obtain ⟨hs, hd, htw, _, _, _⟩ := read_facts hr
    obtain ⟨hok, hcn, hln⟩ := doc_facts hd
    have HV : Hid (canonV s = .tuple #[.string (strOf (ct v)), .int .i64 0]) := by show _ = _; unfold canonV; rw [hr]
    rw [hr] at HF
    clear hr hd
    go_enter Tryz.func23, Tryz.ntmps23
    go_wp2_with fail
    refine (unhide HF).mono ?_
    rintro e w1 ⟨b1, t, p, rfl, rep⟩
    have HC := hide (canonText_walk v hok htw t p w1 _ rep (fun k hk => hk.2) (((unhide HP).next b1 (Nat.le_refl _)).more b1.size) (by omega))
    clear HF rep hok htw
    generalize strOf (ct v) = cv at *
    go_wp2_with fail
    refine (unhide HC).mono ?_
    rintro e w2 ⟨rfl, b2⟩
    have B2 := below_next b1 b2
    clear HC
    go_wp2
    go_ret2
    exact ⟨by rw [unhide HV]; rfl, B2⟩

end Go.Proofs.YtocnekbedcnmgaaGreatDoor


namespace Go.Proofs.YtocnekbedcnmgaaGreatDoor
open Go.RowKit

theorem TabsB.more {B B' : Nat} {w : World} (h : TabsB B w) (hB : B ≤ B') : TabsB B' w := by
  obtain ⟨w0, h1, h2⟩ := h
  exact ⟨w0, Nat.le_trans h1 hB, h2⟩
theorem ErrB.more {B B' : Nat} {w : World} (h : ErrB B w) (hB : B ≤ B') : ErrB B' w := ⟨Nat.lt_of_lt_of_le h.1 hB, h.2⟩
theorem tabsUp {w w' : World} (h : TabsB w.heap.size w) (hb : Below w.heap.size w w') : TabsB w'.heap.size w' := TabsB.more (TabsB.next h hb (Nat.le_refl _)) hb.size
theorem errUp {w w' : World} (h : ErrB w.heap.size w) (hb : Below w.heap.size w w') : ErrB w'.heap.size w' := ErrB.more (ErrB.next h hb (Nat.le_refl _)) hb.size
theorem powUp {w w' : World} (h : PowB w.heap.size w) (hb : Below w.heap.size w w') : PowB w'.heap.size w' := (h.next hb (Nat.le_refl _)).more hb.size
/-- What the world must hold for the reader. -/
structure RdW (w : World) : Prop where
  tab : TabsB w.heap.size w
  err : ErrB w.heap.size w
  pow : PowB w.heap.size w
  ml : ML w
theorem RdW.up {w w' : World} (h : RdW w) (hb : Below w.heap.size w w') : RdW w' := ⟨tabsUp h.tab hb, errUp h.err hb, powUp h.pow hb, h.ml.below hb⟩
end Go.Proofs.YtocnekbedcnmgaaGreatDoor


namespace Go.Proofs.YtocnekbedcnmgaaGreatDoor
open Go.RowKit Go.Sort

end Go.Proofs.YtocnekbedcnmgaaGreatDoor

