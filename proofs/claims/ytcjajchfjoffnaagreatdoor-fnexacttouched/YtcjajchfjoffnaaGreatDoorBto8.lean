import Derived.Deep.RegionLaw
import Derived.Test.YtcjajchfjoffnaaGreatDoorBto7
import Derived.Test.YtcjajchfjoffnaaGreatDoorBto3
namespace Go.Proofs.YtcjajchfjoffnaaGreatDoor
open Go.RowKit

def cntOp (_ : POp) : Nat := 4
def mkOp (k : Nat) (_ : POp) : POp := ⟨(k : Int), mkText (k + 1), mkText (k + 1 + 1), mkText (k + 1 + 1 + 1)⟩
theorem cntOps (ms : List POp) : cntR cntOp ms = 4 * ms.length := by
  unfold cntR
  induction ms with
  | nil => rfl
  | cons m r ih => rw [List.map_cons, List.sum_cons, ih, List.length_cons]; unfold cntOp; omega
set_option maxRecDepth 100000 in
set_option maxHeartbeats 1600000 in
theorem markOps_walk (v : Value) (ms : List POp) (bl : List Nat) (k0 : Nat) (w : World) (hv : ORow opE w v ms bl) (hd : bl.Nodup) (hn : ms.length ≤ 268435456) (h2 : k0 + cntR cntOp ms ≤ 1099200000000) :
    Calls Tryz.prog 26 #[v, .int .i64 k0] w fun e w' => e = .returned (.int .i64 (k0 + cntR cntOp ms : Nat)) ∧ ORow opE w' v (mkRow mkOp cntOp k0 ms) bl ∧ Fr bl w w' := by
  obtain ⟨a, cap, rfl, hform, hsh⟩ := hv.form
  clear hform
  have HV := hide hv
  have HD := hide hd
  clear hv hd
  go_enter Tryz.func26, Tryz.ntmps26
  go_wp2
  go_loopw [1, 5] (fun q i wr => ∃ (j : Nat), j ≤ ms.length ∧ i = .int .i64 j ∧ q = .int .i64 (k0 + cntR cntOp (ms.take j) : Nat) ∧ Fr bl w wr ∧ ORow opE wr (.slice a ms.length cap) (mkRowAt mkOp cntOp k0 ms j) bl) (fun _ i _ => ms.length - (intOf i).toNat)
  case atStart => exact ⟨0, Nat.zero_le _, rfl, by simp [cntR], Fr.refl _ _, by rw [mkRowAt_0]; exact unhide HV⟩
  case round =>
    obtain ⟨j, hj, rfl, rfl, hb, ho⟩ := hrel
    by_cases hlt : j < ms.length
    · obtain ⟨g, rfl⟩ := hsh (by omega)
      have hle2 := cnt_le (c := cntOp) (l := ms) (j := j + 1)
      rw [cnt_succ hlt] at hle2
      have hcm : cntOp ms[j] = 4 := rfl
      have hs := cnt_succ (c := cntOp) hlt
      have hnx := mkRowAt_succ (f := mkOp) (c := cntOp) (k := k0) hlt
      have hset := fun x => mkRowAt_set (f := mkOp) (c := cntOp) (k := k0) hlt x
      have hat := mkRowAt_at (f := mkOp) (c := cntOp) (k := k0) hlt
      generalize hK : k0 + cntR cntOp (ms.take j) = K at *
      generalize ms[j] = m at *
      -- the kind is marked
      obtain ⟨vs, ib, hE, hc, hx1, hg, hx2⟩ := ho.at hat
      obtain ⟨rfl, _⟩ := hE
      have c0 : wr.cell? ⟨g, j * 4, none⟩ = _ := (hc 0 _ rfl).1
      have f0 : wr.frozen? ⟨g, j * 4, none⟩ = _ := (hc 0 _ rfl).2
      have p1 : ORow opE (wr.setCell ⟨g, j * 4, none⟩ (.int .i64 (K : Int))) _ _ bl := ho.put (unhide HD) hat 0 (by decide) (.int .i64 (K : Int)) ⟨(K : Int), m.path, m.src, m.val⟩ (fun w' vs ib h => by obtain ⟨rfl, h⟩ := h; exact ⟨rfl, h⟩)
      rw [hset] at p1
      have fr1 := hb.set hg (j * 4) (.int .i64 (K : Int))
      have hA := mkRow_take_len (f := mkOp) (c := cntOp) (k := k0) hlt
      generalize mkRow mkOp cntOp k0 (ms.take j) = A at *
      generalize ms.drop (j + 1) = B at *
      have hKb : K + 4 ≤ 1099200000000 := by omega
      have hKc : K ≤ 1099200000000 := by omega
      have HM := hide (mark_walk (K + 1) (wr.setCell ⟨g, j * 4, none⟩ (.int .i64 (K : Int))) (by omega) (by omega))
      have HFR := hide fr1
      have HP1 := hide p1
      have HNX := hide hnx
      have HS := hide hs
      have HA := hide hA
      have HK := hide hK
      have HKB := hide hKb
      clear ho hb hc p1 fr1 hset hat hg hnx hs hA hK hle2 hcm h2 hx1 hx2 hsh hKb
      go_wp2_with fail
      refine (unhide HM).mono ?_
      rintro e w2 ⟨rfl, b2⟩
      have o2 := (unhide HP1).below b2
      obtain ⟨vs2, kb, hE2, hc2, _, hg, _⟩ := o2.at (mid_at (unhide HA))
      obtain ⟨rfl, _⟩ := hE2
      have d1 : w2.cell? ⟨g, j * 4 + 1, none⟩ = _ := (hc2 1 _ rfl).1
      have e1 : w2.frozen? ⟨g, j * 4 + 1, none⟩ = _ := (hc2 1 _ rfl).2
      have p2 : ORow opE (w2.setCell ⟨g, j * 4 + 1, none⟩ (.string (mkText (K + 1)))) _ _ bl := o2.put (unhide HD) (mid_at (unhide HA)) 1 (by decide) (.string (mkText (K + 1))) ⟨(K : Int), mkText (K + 1), m.src, m.val⟩ (fun w' vs ib h => by obtain ⟨rfl, h⟩ := h; exact ⟨rfl, h⟩)
      rw [mid_set (unhide HA)] at p2
      have HF2 := hide (((unhide HFR).next b2).set hg (j * 4 + 1) (.string (mkText (K + 1))))
      have HP2 := hide p2
      have HM2 := hide (mark_walk (K + 1 + 1) (w2.setCell ⟨g, j * 4 + 1, none⟩ (.string (mkText (K + 1)))) (by omega) (by have := unhide HKB; omega))
      clear HM HFR HP1 b2 o2 hc2 hg p2 c0 f0
      go_wp2_with fail
      refine (unhide HM2).mono ?_
      rintro e w3 ⟨rfl, b3⟩
      have o3 := (unhide HP2).below b3
      obtain ⟨vs3, kb3, hE3, hc3, _, hg, _⟩ := o3.at (mid_at (unhide HA))
      obtain ⟨rfl, _⟩ := hE3
      have d2 : w3.cell? ⟨g, j * 4 + 2, none⟩ = _ := (hc3 2 _ rfl).1
      have e2 : w3.frozen? ⟨g, j * 4 + 2, none⟩ = _ := (hc3 2 _ rfl).2
      have p3 : ORow opE (w3.setCell ⟨g, j * 4 + 2, none⟩ (.string (mkText (K + 1 + 1)))) _ _ bl := o3.put (unhide HD) (mid_at (unhide HA)) 2 (by decide) (.string (mkText (K + 1 + 1))) ⟨(K : Int), mkText (K + 1), mkText (K + 1 + 1), m.val⟩ (fun w' vs ib h => by obtain ⟨rfl, h⟩ := h; exact ⟨rfl, h⟩)
      rw [mid_set (unhide HA)] at p3
      have HF3 := hide (((unhide HF2).next b3).set hg (j * 4 + 2) (.string (mkText (K + 1 + 1))))
      have HP3 := hide p3
      have HM3 := hide (mark_walk (K + 1 + 1 + 1) (w3.setCell ⟨g, j * 4 + 2, none⟩ (.string (mkText (K + 1 + 1)))) (by omega) (by have := unhide HKB; omega))
      clear HM2 HF2 HP2 b3 o3 hc3 hg p3 d1 e1
      go_wp2_with fail
      refine (unhide HM3).mono ?_
      rintro e w4 ⟨rfl, b4⟩
      have o4 := (unhide HP3).below b4
      obtain ⟨vs4, kb4, hE4, hc4, _, hg, _⟩ := o4.at (mid_at (unhide HA))
      obtain ⟨rfl, _⟩ := hE4
      have d3 : w4.cell? ⟨g, j * 4 + 3, none⟩ = _ := (hc4 3 _ rfl).1
      have e3 : w4.frozen? ⟨g, j * 4 + 3, none⟩ = _ := (hc4 3 _ rfl).2
      have p4 : ORow opE (w4.setCell ⟨g, j * 4 + 3, none⟩ (.string (mkText (K + 1 + 1 + 1)))) _ _ bl := o4.put (unhide HD) (mid_at (unhide HA)) 3 (by decide) (.string (mkText (K + 1 + 1 + 1))) (mkOp K m) (fun w' vs ib h => by obtain ⟨rfl, h⟩ := h; exact ⟨rfl, h⟩)
      rw [mid_set (unhide HA), unhide HNX] at p4
      have HF4 := hide (((unhide HF3).next b4).set hg (j * 4 + 3) (.string (mkText (K + 1 + 1 + 1))))
      have HP4 := hide p4
      have hKB := unhide HKB
      clear HM3 HF3 HP3 b4 o4 hc4 hg p4 d2 e2
      go_wp2
      go_roundw
      case rel =>
        have hk1 := unhide HK
        have hk2 := unhide HS
        have hk3 : cntOp m = 4 := rfl
        exact ⟨j + 1, by omega, by go_num, by rw [hk2, hk3, ← hk1]; go_num, unhide HF4, unhide HP4⟩
      case measure => simp [intOf]; omega
    · have hjn : j = ms.length := by omega
      subst hjn
      rw [mkRowAt_all] at ho
      rw [List.take_length]
      go_wp2
      go_ret
      exact ⟨rfl, ho, hb⟩
end Go.Proofs.YtcjajchfjoffnaaGreatDoor

namespace Go.Proofs.YtcjajchfjoffnaaGreatDoor
open Go.ChangeShapes Go.WideShapes Go.ChangeAt Go.RowKit Go.Deep

section
variable {H : Type} {enc : TypeId × Value → H} {w : World} {sp : Nat → Bool} {held : Bool}
theorem lst4 {α : Type} {l : List α} (h : l.length = 4) : ∃ a b c d, l = [a, b, c, d] := by
  match l, h with
  | [a, b, c, d], _ => exact ⟨a, b, c, d, rfl⟩
instance : Inhabited POp := ⟨⟨0, ByteArray.empty, ByteArray.empty, ByteArray.empty⟩⟩
theorem open_op {n : Nat} {cs : List Value} {y : DataW H × List MemPlace} (h : DataW.trod enc Tryz.prog w 0 sp held n 72 cs = some y) : ∃ m, opR.R w cs m := by
  obtain ⟨xs, k, _, _, hl, hxl, hf⟩ := DataW.trod_struct Tryz.underlying72 h
  have hl4 : cs.length = 4 := hl.trans (by kernel_rfl)
  obtain ⟨a0, a1, a2, a3, rfl⟩ := lst4 hl4
  obtain ⟨y0, y1, y2, y3, rfl⟩ := lst4 hxl
  have h0 : DataW.trod enc Tryz.prog w 0 sp held k 3 (List.take (Tryz.prog.cellsOf 3) [a0, a1, a2, a3]) = some y0 := hf 0 _ rfl
  have h1 : DataW.trod enc Tryz.prog w 0 sp held k 9 (List.take (Tryz.prog.cellsOf 9) [a1, a2, a3]) = some y1 := hf 1 _ rfl
  have h2 : DataW.trod enc Tryz.prog w 0 sp held k 9 (List.take (Tryz.prog.cellsOf 9) [a2, a3]) = some y2 := hf 2 _ rfl
  have h3 : DataW.trod enc Tryz.prog w 0 sp held k 9 (List.take (Tryz.prog.cellsOf 9) [a3]) = some y3 := hf 3 _ rfl
  rw [show Tryz.prog.cellsOf 3 = 1 from by kernel_rfl] at h0
  rw [show Tryz.prog.cellsOf 9 = 1 from by kernel_rfl] at h1 h2 h3
  obtain ⟨z0, e0⟩ := leaf_int Tryz.underlying3 (h0 : DataW.trod enc Tryz.prog w 0 sp held k 3 [a0] = some y0)
  obtain ⟨s1, e1, z1⟩ := leaf_str Tryz.underlying9 (h1 : DataW.trod enc Tryz.prog w 0 sp held k 9 [a1] = some y1)
  obtain ⟨s2, e2, z2⟩ := leaf_str Tryz.underlying9 (h2 : DataW.trod enc Tryz.prog w 0 sp held k 9 [a2] = some y2)
  obtain ⟨s3, e3, z3⟩ := leaf_str Tryz.underlying9 (h3 : DataW.trod enc Tryz.prog w 0 sp held k 9 [a3] = some y3)
  cases e0; cases e1; cases e2; cases e3
  exact ⟨⟨z0, s1, s2, s3⟩, rfl, z1, z2, z3⟩
theorem open_ops {fuel : Nat} {cs : List Value} {x : DataW H × List MemPlace} (h : DataW.trod enc Tryz.prog w 0 sp held fuel 37 cs = some x) : ∃ v xs, cs = [v] ∧ RRow opR w v xs :=
  open_rrow opR Tryz.underlying37 (by kernel_rfl) (by decide) (fun _ _ _ h => open_op h) h
end
end Go.Proofs.YtcjajchfjoffnaaGreatDoor
