import Derived.Test.YtocnekbedcnmgaaGreatDoorBp19
import Derived.Test.YtocnekbedcnmgaaGreatDoorBp42
import Derived.Test.YtocnekbedcnmgaaGreatDoorBp12
import Derived.Test.YtocnekbedcnmgaaGreatDoorBp45
import Derived.Test.YtocnekbedcnmgaaGreatDoorBp46
import Derived.Test.YtocnekbedcnmgaaGreatDoorBp17
import Derived.Test.YtocnekbedcnmgaaGreatDoorBp47
namespace Go.Proofs.YtocnekbedcnmgaaGreatDoor
open Go.RowKit

theorem strM_lenI {v : JV} (hok : okV v) (htw : twV v = false) (key : List UInt8) : ((strM v key).getD []).length ≤ (ct v).length := by
  unfold strM
  cases h : childV v key with
  | none => exact Nat.zero_le _
  | some u =>
    obtain ⟨_, _, h3, _⟩ := childV_ok h hok htw
    show ((strU u).getD []).length ≤ _
    cases u with
    | str l =>
      have h4 := quoted_ge l
      have h5 : ct (.str l) = quoted l := rfl
      rw [h5] at h3
      show l.length ≤ _
      omega
    | _ => exact Nat.zero_le _
theorem asrt_str {w : World} {S : Nat → Prop} {a : JV} {v : Value} (h : Rep w S a v) : ∀ X : World, (Instr.typeAssert v 65 183 true).run Tryz.prog X = .ok (.tuple #[.string (strOf ((strU a).getD [])), .bool (strU a).isSome]) X := by
  intro X
  cases a with
  | nul => rw [Rep] at h; subst h; kernel_rfl
  | tt => rw [Rep] at h; subst h; kernel_rfl
  | ff => rw [Rep] at h; subst h; kernel_rfl
  | num l => rw [Rep] at h; obtain ⟨z, rfl, _⟩ := h; kernel_rfl
  | str l => rw [Rep] at h; subst h; kernel_rfl
  | arr l => rw [Rep] at h; obtain ⟨ab, sv, xs, rfl, _⟩ := h; kernel_rfl
  | obj m => rw [Rep] at h; obtain ⟨ob, b, nn, xs, rfl, _⟩ := h; kernel_rfl
set_option maxRecDepth 100000 in
set_option maxHeartbeats 1000000 in
theorem stringMember_walk (v : JV) (htw : twV v = false) (t : List UInt8) (ht : t.length ≤ 1048576) (ty : TypeId) (p : Value) (w : World) (S : Nat → Prop) (h : Rep w S v (.iface ty p)) :
    Calls Tryz.prog 87 #[.iface ty p, .string (strOf t)] w fun e w' => e = .returned (.tuple #[.string (strOf ((strM v t).getD [])), .bool (strM v t).isSome]) ∧ w = w' := by
  have HC := hide (implChild_walk v htw t ht ty p w S h)
  clear h htw
  have HS : Hid (strM v t = (childV v t).bind strU) := rfl
  generalize strM v t = sm at *
  go_enter Tryz.func87, Tryz.ntmps87
  go_wp2_with fail
  refine (unhide HC).mono ?_
  rintro e w2 ⟨rfl, ⟨x, rfl, hn⟩ | ⟨x, u, rfl, hu, hr⟩⟩
  · obtain rfl : sm = none := by rw [unhide HS, hn]; rfl
    clear HC hn
    go_wp2
    go_ret2
    exact ⟨rfl, rfl⟩
  · obtain rfl : sm = strU u := by rw [unhide HS, hu]; rfl
    have ha := asrt_str hr
    obtain ⟨t1, q1, rfl⟩ := rep_iface hr
    clear HC hu hr HS
    go_wp2
    go_ret2
    exact ⟨rfl, rfl⟩
set_option maxRecDepth 100000 in
set_option maxHeartbeats 1000000 in
theorem pointerMember_walk (v : JV) (hok : okV v) (htw : twV v = false) (hl : (ct v).length ≤ 1000000) (t : List UInt8) (ht : t.length ≤ 1048576) (ty : TypeId) (p : Value) (w : World) (S : Nat → Prop) (h : Rep w S v (.iface ty p)) (hML : ML w) :
    Calls Tryz.prog 90 #[.iface ty p, .string (strOf t)] w fun e w' => e = .returned (.tuple #[.string (strOf ((strM v t).getD [])), .bool ((strM v t).isSome && (ptoks ((strM v t).getD [])).isSome)]) ∧ Below w.heap.size w w' := by
  have HS := hide (stringMember_walk v htw t ht ty p w S h)
  have hlen : (strOf ((strM v t).getD [])).size ≤ 1048576 := by rw [strOf_size]; have := strM_lenI hok htw t; omega
  have HP := hide (isPtr_walk (strOf ((strM v t).getD [])) w hML hlen)
  rw [strOf_toList] at HP
  clear h htw hok hl hML hlen
  cases hsm : strM v t with
  | none =>
    rw [hsm] at HS
    clear hsm HP
    go_enter Tryz.func90, Tryz.ntmps90
    go_wp2_with fail
    refine (unhide HS).mono ?_
    rintro e w2 ⟨rfl, rfl⟩
    clear HS
    go_wp2
    go_ret2
    exact ⟨rfl, Below.refl _ _⟩
  | some l =>
    rw [hsm] at HS HP
    clear hsm
    go_enter Tryz.func90, Tryz.ntmps90
    go_wp2_with fail
    refine (unhide HS).mono ?_
    rintro e w2 ⟨rfl, rfl⟩
    clear HS
    go_wp2_with fail
    refine (unhide HP).mono ?_
    rintro e w3 ⟨rfl, b3⟩
    have HB := hide b3
    clear HP b3
    go_wp2
    go_ret2
    exact ⟨by simp, unhide HB⟩
set_option maxRecDepth 100000 in
set_option maxHeartbeats 1000000 in
theorem itemsOf_no (a : JV) (ty : TypeId) (p : Value) (w : World) (S : Nat → Prop) (h : Rep w S a (.iface ty p)) (hn : kd a ≠ 5) :
    Calls Tryz.prog 38 #[.iface ty p] w fun e w' => e = .returned (.tuple #[.slice none 0 0, .bool false]) ∧ w = w' := by
  have ha := asrt_arr h hn
  clear h hn
  go_enter Tryz.func38, Tryz.ntmps38
  go_wp2
  go_ret2
  exact ⟨rfl, rfl⟩
set_option maxRecDepth 100000 in
set_option maxHeartbeats 1000000 in
theorem itemsOf_yes (ab : Nat) (sv : Value) (w : World) (hg : w.heap[ab]? = some (.cells #[sv] 119 (0, 0))) :
    Calls Tryz.prog 38 #[.iface 117 (.pointer (some ⟨ab, 0, none⟩))] w fun e w' => e = .returned (.tuple #[sv, .bool true]) ∧ w = w' := by
  have ha := is_arr ⟨ab, 0, none⟩
  have hc : w.cell? ⟨ab, 0, none⟩ = some sv := Lib.cell_of_heap hg 0
  clear hg
  go_enter Tryz.func38, Tryz.ntmps38
  go_wp2
  go_ret2
  exact ⟨rfl, rfl⟩
end Go.Proofs.YtocnekbedcnmgaaGreatDoor


namespace Go.Proofs.YtocnekbedcnmgaaGreatDoor
open Go.RowKit

theorem below_trn {B : Nat} {a b c : World} (hB : B ≤ a.heap.size) (h : Below B a b) (k : Below b.heap.size b c) : Below B a c := h.trans (k.mono (Nat.le_trans hB h.size))
set_option maxRecDepth 100000 in
set_option maxHeartbeats 4000000 in
theorem decodeOp_walk (v : JV) (hok : okV v) (htw : twV v = false) (hl : (ct v).length ≤ 1000000) (ty : TypeId) (p : Value) (w : World) (S : Nat → Prop) (h : Rep w S v (.iface ty p)) (hS : ∀ k, S k → k < w.heap.size) (hw : RdW w) :
    Calls Tryz.prog 39 #[.iface ty p] w (DcP v w) := by
  have HREP : Hid (∀ wx, Below w.heap.size w wx → Rep wx S v (.iface ty p)) := fun wx hx => Rep.keep (fun k hk => hx.block k (hS k hk)) (fun _ h => h) _ _ h
  have HSM : Hid (∀ (t : List UInt8) (wx : World), t.length ≤ 100 → Below w.heap.size w wx → Calls Tryz.prog 87 #[.iface ty p, .string (strOf t)] wx fun e w' => e = .returned (.tuple #[.string (strOf ((strM v t).getD [])), .bool (strM v t).isSome]) ∧ wx = w') := fun t wx ht hx => stringMember_walk v htw t (by omega) ty p wx S (unhide HREP wx hx)
  have HPM : Hid (∀ (t : List UInt8) (wx : World), t.length ≤ 100 → Below w.heap.size w wx → Calls Tryz.prog 90 #[.iface ty p, .string (strOf t)] wx fun e w' => e = .returned (.tuple #[.string (strOf ((strM v t).getD [])), .bool ((strM v t).isSome && (ptoks ((strM v t).getD [])).isSome)]) ∧ Below wx.heap.size wx w') := fun t wx ht hx => pointerMember_walk v hok htw hl t (by omega) ty p wx S (unhide HREP wx hx) (hw.up hx).ml
  have kR := heap_alloc_new w (.cells #[.int .i64 0, .string ⟨#[]⟩, .string ⟨#[]⟩, .string ⟨#[]⟩] 59)
  have hR := alloc_b w (.cells #[.int .i64 0, .string ⟨#[]⟩, .string ⟨#[]⟩, .string ⟨#[]⟩] 59)
  have zR : (w.alloc (.cells #[.int .i64 0, .string ⟨#[]⟩, .string ⟨#[]⟩, .string ⟨#[]⟩] 59)).heap.size = w.heap.size + 1 := by simp
  have HM1 := hide (unhide HSM kOp _ (by decide) hR)
  have HRR := hide hR
  have HKR : Hid (OpIn (w.alloc (.cells #[.int .i64 0, .string ⟨#[]⟩, .string ⟨#[]⟩, .string ⟨#[]⟩] 59)) w.heap.size op0) := kR
  have HZR := hide zR
  have HSL := hide hS
  clear kR hR zR h hS
  cases hsm : strM v kOp with
  | none =>
    have HDF : Hid (decOk v = false) := by
      show _ = _
      have e : decK v = 0 := by unfold decK; rw [hsm]
      unfold decOk; rw [e]; rfl
    rw [hsm] at HM1
    clear hsm
    go_enter Tryz.func39, Tryz.ntmps39
    go_wp2_with fail
    generalize (w.alloc (.cells #[.int .i64 0, .string ⟨#[]⟩, .string ⟨#[]⟩, .string ⟨#[]⟩] 59)) = wR at *
    refine (unhide HM1).mono ?_
    rintro e wR' ⟨rfl, rfl⟩
    have hN := alloc_b wR (.cells #[.string (strOf ([] : List UInt8))] 9)
    have hrb := (unhide HKR).below hN
    have HRB := hide hrb
    have HBW := hide (below_next (unhide HRR) hN)
    have r0 := hrb.c
    have rz := hrb.fz
    clear hN hrb HM1
    go_wp2
    refine bodyPost_ret (results_cell_tmp rfl _ _ w.heap.size 59 #[_, _, _, _] (0, 0) _ _ rfl rfl (putN_full (unhide HRB) [_, _, _, _] rfl) Tryz.underlying59 rfl (by kernel_rfl)) rfl ?_
    exact ⟨putN_below (unhide HBW) (Nat.le_refl _) [_, _, _, _] 0, op0, by rw [unhide HDF]; rfl, fun h => by rw [unhide HDF] at h; cases h⟩
  | some t =>
    have HKD : Hid (decK v = kindOf t) := by show _ = _; unfold decK; rw [hsm]
    rw [hsm] at HM1
    have hKr := kindOf_range t
    clear hsm
    have ht0 : (some t).getD [] = t := rfl
    rw [ht0] at HM1
    clear ht0
    go_enter Tryz.func39, Tryz.ntmps39
    go_wp2_with fail
    generalize (w.alloc (.cells #[.int .i64 0, .string ⟨#[]⟩, .string ⟨#[]⟩, .string ⟨#[]⟩] 59)) = wR at *
    refine (unhide HM1).mono ?_
    rintro e wR' ⟨rfl, rfl⟩
    have hN := alloc_b wR (.cells #[.string (strOf t)] 9)
    have kN := heap_alloc_new wR (.cells #[.string (strOf t)] 9)
    have HRX : Hid (∀ wx, Below (wR.alloc (.cells #[.string (strOf t)] 9)).heap.size (wR.alloc (.cells #[.string (strOf t)] 9)) wx → OpIn wx w.heap.size op0 ∧ Below w.heap.size w wx) := fun wx hx => ⟨((unhide HKR).below hN).below hx, below_next (below_next (unhide HRR) hN) hx⟩
    by_cases hK : kindOf t = 0
    · have HDF : Hid (decOk v = false) := by
        show _ = _
        unfold decOk; rw [unhide HKD, hK]; rfl
      have HF := hide (findW_no wR.heap.size t _ kN (by omega))
      unfold verb0 at HF
      clear HM1 hN kN hK hKr
      go_wp2_with fail
      generalize (wR.alloc (.cells #[.string (strOf t)] 9)) = wN at *
      refine (unhide HF).mono ?_
      rintro e w3 ⟨rfl, b3⟩
      have b3v := below_next b3 (alloc_b w3 (.cells #[.string ⟨#[]⟩, .int .i64 0, .bool false, .bool false, .bool false, .bool false, .nilFunc] 141))
      clear HF b3
      obtain ⟨hrb, hbw⟩ := unhide HRX _ (b3v)
      have r0 := hrb.c
      have rz := hrb.fz
      have HRB := hide hrb
      have HBW := hide hbw
      clear hrb hbw
      go_wp2
      refine bodyPost_ret (results_cell_tmp rfl _ _ w.heap.size 59 #[_, _, _, _] (0, 0) _ _ rfl rfl (putN_full (unhide HRB) [_, _, _, _] rfl) Tryz.underlying59 rfl (by kernel_rfl)) rfl ?_
      exact ⟨putN_below (unhide HBW) (Nat.le_refl _) [_, _, _, _] 0, op0, by rw [unhide HDF]; rfl, fun h => by rw [unhide HDF] at h; cases h⟩
    · have HF := hide (findW_yes wR.heap.size t _ kN (by omega) (by omega))
      obtain ⟨fid, hfid⟩ : ∃ fid, verbF (kindOf t) = .func (Fn.func fid) #[] #[] := by
        unfold verbF
        repeat' split
        all_goals exact ⟨_, rfl⟩
      unfold verbV at HF
      rw [hfid] at HF
      have HKZ := hide hK
      clear HM1 hN kN hfid
      generalize kindOf t = K at *
      obtain ⟨hf, hhf⟩ : ∃ hf, hasF K = hf := ⟨_, rfl⟩
      obtain ⟨hv, hhv⟩ : ∃ hv, hasV K = hv := ⟨_, rfl⟩
      rw [hhf, hhv] at HF
      have HHF := hide hhf
      have HHV := hide hhv
      clear hhf hhv hK hKr
      generalize wordB K = wb at *
      generalize shF K = sf at *
      generalize shP K = sp at *
      go_wp2_with fail
      generalize (wR.alloc (.cells #[.string (strOf t)] 9)) = wN at *
      refine (unhide HF).mono ?_
      rintro e w3 ⟨rfl, b3⟩
      have HZ3 := hide (unhide HRX w3 b3).2.size
      have hV := alloc_b w3 (.cells #[.string wb, .int .i64 K, .bool hf, .bool hv, .bool sf, .bool sp, .func (Fn.func fid) #[] #[]] 141)
      have kV := heap_alloc_new w3 (.cells #[.string wb, .int .i64 K, .bool hf, .bool hv, .bool sf, .bool sp, .func (Fn.func fid) #[] #[]] 141)
      have zV : (w3.alloc (.cells #[.string wb, .int .i64 K, .bool hf, .bool hv, .bool sf, .bool sp, .func (Fn.func fid) #[] #[]] 141)).heap.size = w3.heap.size + 1 := by simp
      have bV := below_next b3 hV
      have hO := alloc_b (w3.alloc (.cells #[.string wb, .int .i64 K, .bool hf, .bool hv, .bool sf, .bool sp, .func (Fn.func fid) #[] #[]] 141)) (.cells #[.int .i64 K, .string ⟨#[]⟩, .string ⟨#[]⟩, .string ⟨#[]⟩] 59)
      have kO := heap_alloc_new (w3.alloc (.cells #[.string wb, .int .i64 K, .bool hf, .bool hv, .bool sf, .bool sp, .func (Fn.func fid) #[] #[]] 141)) (.cells #[.int .i64 K, .string ⟨#[]⟩, .string ⟨#[]⟩, .string ⟨#[]⟩] 59)
      rw [zV] at kO
      have bO := below_next bV hO
      have HBO := hide bO
      have HM5 := hide (unhide HPM kPath _ (by decide) (unhide HRX _ bO).2)
      have HVC : Hid (∀ wx, Below (w3.heap.size + 1) (w3.alloc (.cells #[.string wb, .int .i64 K, .bool hf, .bool hv, .bool sf, .bool sp, .func (Fn.func fid) #[] #[]] 141)) wx → wx.cell? ⟨w3.heap.size, 2, none⟩ = some (.bool hf) ∧ wx.cell? ⟨w3.heap.size, 3, none⟩ = some (.bool hv)) := fun wx hx => by
        have k := (hx.block w3.heap.size (by omega)).trans kV
        exact ⟨Lib.cell_of_heap k 2, Lib.cell_of_heap k 3⟩
      have HKO : Hid (OpIn ((w3.alloc (.cells #[.string wb, .int .i64 K, .bool hf, .bool hv, .bool sf, .bool sp, .func (Fn.func fid) #[] #[]] 141)).alloc (.cells #[.int .i64 K, .string ⟨#[]⟩, .string ⟨#[]⟩, .string ⟨#[]⟩] 59)) (w3.heap.size + 1) ⟨K, ⟨#[]⟩, ⟨#[]⟩, ⟨#[]⟩⟩) := kO
      have HHO := hide hO
      have HZV := hide zV
      clear HF b3 hV kV zV bV hO kO bO
      go_wp2_with fail
      have bO := unhide HBO
      obtain ⟨hr1, hr2⟩ := unhide HRX _ bO
      have HALL : Hid (∀ wx, Below (w3.heap.size + 1) ((w3.alloc (.cells #[.string wb, .int .i64 K, .bool hf, .bool hv, .bool sf, .bool sp, .func (Fn.func fid) #[] #[]] 141)).alloc (.cells #[.int .i64 K, .string ⟨#[]⟩, .string ⟨#[]⟩, .string ⟨#[]⟩] 59)) wx → (wx.cell? ⟨w3.heap.size, 2, none⟩ = some (.bool hf) ∧ wx.cell? ⟨w3.heap.size, 3, none⟩ = some (.bool hv)) ∧ OpIn wx w.heap.size op0 ∧ Below w.heap.size w wx) := fun wx hx => by
        have hzv := unhide HZV
        have hho := unhide HHO
        rw [hzv] at hho
        have hz1 := unhide HZ3
        exact ⟨unhide HVC wx (hho.trans hx), (hx.block w.heap.size (by omega)).trans hr1, hr2.trans (hx.mono (by omega))⟩
      have hzO : ((w3.alloc (.cells #[.string wb, .int .i64 K, .bool hf, .bool hv, .bool sf, .bool sp, .func (Fn.func fid) #[] #[]] 141)).alloc (.cells #[.int .i64 K, .string ⟨#[]⟩, .string ⟨#[]⟩, .string ⟨#[]⟩] 59)).heap.size = w3.heap.size + 1 + 1 := by simp
      have HZO := hide hzO
      clear bO hr1 hr2 hzO HBO HVC HHO HZV HRX
      generalize ((w3.alloc (.cells #[.string wb, .int .i64 K, .bool hf, .bool hv, .bool sf, .bool sp, .func (Fn.func fid) #[] #[]] 141)).alloc (.cells #[.int .i64 K, .string ⟨#[]⟩, .string ⟨#[]⟩, .string ⟨#[]⟩] 59)) = wO at *
      have HDP : Hid (((strM v kPath).isSome && (ptoks ((strM v kPath).getD [])).isSome) = false → decOk v = false) := fun h => by
        unfold decOk
        rw [Bool.and_eq_false_iff] at h
        rcases h with h | h <;> rw [h] <;> simp
      have HPT : Hid (((strM v kPath).isSome && (ptoks ((strM v kPath).getD [])).isSome) = true → (strM v kPath).isSome = true ∧ (ptoks ((strM v kPath).getD [])).isSome = true) := fun h => by rwa [Bool.and_eq_true] at h
      obtain ⟨pp, hpp⟩ : ∃ pp, strOf ((strM v kPath).getD []) = pp := ⟨_, rfl⟩
      obtain ⟨op, hop⟩ : ∃ op, ((strM v kPath).isSome && (ptoks ((strM v kPath).getD [])).isSome) = op := ⟨_, rfl⟩
      rw [hpp, hop] at HM5
      rw [hop] at HDP HPT
      have HPP := hide hpp
      clear hpp hop
      refine (unhide HM5).mono ?_
      rintro e w5 ⟨rfl, b5⟩
      have hzo := unhide HZO
      have o5 := (unhide HKO).below b5
      have k5 := o5.c
      have f5 := o5.fz 1
      have HO6 := hide (o5.s1 pp)
      have b5m : Below (w3.heap.size + 1) wO w5 := b5.mono (by omega)
      have HB6 := hide (b5m.setCell (p := ⟨w3.heap.size + 1, 1, none⟩) (Nat.le_refl _) (.string pp))
      clear HM5 HKO o5 b5 hzo b5m
      simp only at k5
      cases op with
      | false =>
        have HDF := hide (unhide HDP rfl)
        obtain ⟨-, hrb, hbw⟩ := unhide HALL _ (unhide HB6)
        have r0 := hrb.c
        have rz := hrb.fz
        have HRB := hide hrb
        have HBW := hide hbw
        clear hrb hbw
        go_wp2
        refine bodyPost_ret (results_cell_tmp rfl _ _ w.heap.size 59 #[_, _, _, _] (0, 0) _ _ rfl rfl (putN_full (unhide HRB) [_, _, _, _] rfl) Tryz.underlying59 rfl (by kernel_rfl)) rfl ?_
        exact ⟨putN_below (unhide HBW) (Nat.le_refl _) [_, _, _, _] 0, op0, by rw [unhide HDF]; rfl, fun h => by rw [unhide HDF] at h; cases h⟩
      | true =>
        obtain ⟨hp1, hp2⟩ := unhide HPT rfl
        have HP1 := hide hp1
        have HP2 := hide hp2
        obtain ⟨⟨v2, v3⟩, _, hb6w⟩ := unhide HALL _ (unhide HB6)
        have HZK := hide (show decK v ≠ 0 by rw [unhide HKD]; exact unhide HKZ)
        have HMF := hide (unhide HPM kFrom _ (by decide) hb6w)
        have HCH := hide (implChild_walk v htw kValue (by decide) ty p _ S (unhide HREP _ hb6w))
        have HPW : Hid (∀ wx, Below w.heap.size w wx → PowB wx.heap.size wx) := fun wx hx => (hw.up hx).pow
        have HDE : Hid (decP v = ⟨K, pp, if hf then strOf ((strM v kFrom).getD []) else ⟨#[]⟩, if hv then strOf (((childV v kValue).map ct).getD []) else ⟨#[]⟩⟩) := by
          show _ = _
          unfold decP
          rw [unhide HKD, unhide HHF, unhide HHV, unhide HPP]
        have HDO : Hid (decOk v = ((!hf || (strM v kFrom).isSome) && (!hv || (childV v kValue).isSome) && (!hf || (ptoks ((strM v kFrom).getD [])).isSome))) := by
          show _ = _
          unfold decOk
          rw [decide_eq_true (unhide HZK), unhide HP1, unhide HP2, unhide HKD, unhide HHF, unhide HHV]
          simp
        have HXV : Hid (hf = true → hv = false) := fun h => by
          have e := unhide HHF
          rw [h] at e
          rw [← unhide HHV]
          unfold hasF at e
          unfold hasV
          simp only [Bool.or_eq_true, beq_iff_eq] at e
          rcases e with e | e <;> rw [e] <;> rfl
        have HCU : Hid (∀ u, childV v kValue = some u → okV u ∧ twV u = false ∧ (ct u).length ≤ 1000000) := fun u hu => by
          obtain ⟨a1, a2, a3, _⟩ := childV_ok hu hok htw
          exact ⟨a1, a2, by omega⟩
        have hz6 := hb6w.size
        have HB6W := hide hb6w
        clear hp1 hp2 hb6w hw htw hok hl
        generalize hw6 : w5.setCell ⟨w3.heap.size + 1, 1, none⟩ (.string pp) = w6 at *
        have k6 := (unhide HO6).c
        simp only at k6
        cases hf with
        | true =>
          obtain rfl := unhide HXV rfl
          obtain ⟨ff, hff⟩ : ∃ ff, strOf ((strM v kFrom).getD []) = ff := ⟨_, rfl⟩
          obtain ⟨okf, hokf⟩ : ∃ okf, ((strM v kFrom).isSome && (ptoks ((strM v kFrom).getD [])).isSome) = okf := ⟨_, rfl⟩
          have HD2 : Hid (decOk v = okf) := by
            show _ = _
            rw [unhide HDO, ← hokf]
            simp
          rw [hff, hokf] at HMF
          have HE2 : Hid (decP v = ⟨K, pp, ff, ⟨#[]⟩⟩) := by show _ = _; rw [unhide HDE, hff]; rfl
          clear hff hokf HDE HDO HXV HCH
          go_wp2_with fail
          refine (unhide HMF).mono ?_
          rintro e w7 ⟨rfl, b7⟩
          have o7 := (unhide HO6).below b7
          have k7 := o7.c
          have f7 := o7.fz 2
          simp only at k7
          have HO8 := hide (o7.s2 ff)
          have HB8 := hide ((below_trn (by have := unhide HZO; omega) (unhide HB6) b7).setCell (p := ⟨w3.heap.size + 1, 2, none⟩) (Nat.le_refl _) (.string ff))
          clear HMF b7 o7
          cases okf with
          | false =>
            have HDF := hide (unhide HD2)
            obtain ⟨-, hrb, hbw⟩ := unhide HALL _ (unhide HB8)
            have r0 := hrb.c
            have rz := hrb.fz
            have HRB := hide hrb
            have HBW := hide hbw
            clear hrb hbw
            go_wp2
            refine bodyPost_ret (results_cell_tmp rfl _ _ w.heap.size 59 #[_, _, _, _] (0, 0) _ _ rfl rfl (putN_full (unhide HRB) [_, _, _, _] rfl) Tryz.underlying59 rfl (by kernel_rfl)) rfl ?_
            exact ⟨putN_below (unhide HBW) (Nat.le_refl _) [_, _, _, _] 0, op0, by rw [unhide HDF]; rfl, fun h => by rw [unhide HDF] at h; cases h⟩
          | true =>
            obtain ⟨⟨y2, y3⟩, _, _⟩ := unhide HALL _ (unhide HB8)
            obtain ⟨-, hrb, hbw⟩ := unhide HALL _ (unhide HB8)
            have r0 := hrb.c
            have rz := hrb.fz
            obtain ⟨x0, x1, x2, x3⟩ := (unhide HO8).c
            simp only at x0 x1 x2 x3
            have HRB := hide hrb
            have HBW := hide hbw
            have HDT : Hid (decOk v = true) := unhide HD2
            have HEQ : Hid ((⟨K, pp, ff, ⟨#[]⟩⟩ : POp) = decP v) := (unhide HE2).symm
            clear hrb hbw
            go_wp2
            refine bodyPost_ret (results_cell_tmp rfl _ _ w.heap.size 59 #[_, _, _, _] (0, 0) _ _ rfl rfl (putN_full (unhide HRB) [_, _, _, _] rfl) Tryz.underlying59 rfl (by kernel_rfl)) rfl ?_
            exact ⟨putN_below (unhide HBW) (Nat.le_refl _) [_, _, _, _] 0, (⟨K, pp, ff, ⟨#[]⟩⟩ : POp), by rw [unhide HDT]; rfl, fun _ => unhide HEQ⟩
        | false =>
          clear HMF HXV
          cases hv with
          | false =>
            clear HCH HCU
            obtain ⟨-, hrb, hbw⟩ := unhide HALL _ (unhide HB6)
            have r0 := hrb.c
            have rz := hrb.fz
            obtain ⟨x0, x1, x2, x3⟩ := (unhide HO6).c
            simp only at x0 x1 x2 x3
            have HRB := hide hrb
            have HBW := hide hbw
            have HDT : Hid (decOk v = true) := by show _ = _; rw [unhide HDO]; rfl
            have HEQ : Hid ((⟨K, pp, ⟨#[]⟩, ⟨#[]⟩⟩ : POp) = decP v) := by show _ = _; rw [unhide HDE]; rfl
            clear hrb hbw
            go_wp2
            refine bodyPost_ret (results_cell_tmp rfl _ _ w.heap.size 59 #[_, _, _, _] (0, 0) _ _ rfl rfl (putN_full (unhide HRB) [_, _, _, _] rfl) Tryz.underlying59 rfl (by kernel_rfl)) rfl ?_
            exact ⟨putN_below (unhide HBW) (Nat.le_refl _) [_, _, _, _] 0, (⟨K, pp, ⟨#[]⟩, ⟨#[]⟩⟩ : POp), by rw [unhide HDT]; rfl, fun _ => unhide HEQ⟩
          | true =>
            go_wp2_with fail
            refine (unhide HCH).mono ?_
            rintro e w6' ⟨rfl, ⟨x, rfl, hn⟩ | ⟨x, u, rfl, hu, hr⟩⟩
            · have HDF : Hid (decOk v = false) := by show _ = _; rw [unhide HDO, hn]; rfl
              clear HCH HCU hn HDE HDO
              obtain ⟨-, hrb, hbw⟩ := unhide HALL _ (unhide HB6)
              have r0 := hrb.c
              have rz := hrb.fz
              have HRB := hide hrb
              have HBW := hide hbw
              clear hrb hbw
              go_wp2
              refine bodyPost_ret (results_cell_tmp rfl _ _ w.heap.size 59 #[_, _, _, _] (0, 0) _ _ rfl rfl (putN_full (unhide HRB) [_, _, _, _] rfl) Tryz.underlying59 rfl (by kernel_rfl)) rfl ?_
              exact ⟨putN_below (unhide HBW) (Nat.le_refl _) [_, _, _, _] 0, op0, by rw [unhide HDF]; rfl, fun h => by rw [unhide HDF] at h; cases h⟩
            · obtain ⟨u1, u2, u3⟩ := unhide HCU u hu
              obtain ⟨ty3, q3, rfl⟩ := rep_iface hr
              have HCT := hide (canonText_walk u u1 u2 ty3 q3 w6 S hr (fun k hk => Nat.lt_of_lt_of_le (unhide HSL k hk) hz6) (unhide HPW w6 (unhide HB6W)) (by omega))
              have HD2 : Hid (decOk v = true) := by show _ = _; rw [unhide HDO, hu]; rfl
              have HE2 : Hid (decP v = ⟨K, pp, ⟨#[]⟩, strOf (ct u)⟩) := by show _ = _; rw [unhide HDE, hu]; rfl
              clear HCH HCU hu hr HDE HDO u1 u2 u3
              generalize strOf (ct u) = vv at *
              go_wp2_with fail
              refine (unhide HCT).mono ?_
              rintro e w7 ⟨rfl, b7⟩
              have o7 := (unhide HO6).below b7
              have k7 := o7.c
              have f7 := o7.fz 3
              simp only at k7
              have HO8 := hide (o7.s3 vv)
              have HB8 := hide ((below_trn (by have := unhide HZO; omega) (unhide HB6) b7).setCell (p := ⟨w3.heap.size + 1, 3, none⟩) (Nat.le_refl _) (.string vv))
              clear HCT b7 o7
              obtain ⟨-, hrb, hbw⟩ := unhide HALL _ (unhide HB8)
              have r0 := hrb.c
              have rz := hrb.fz
              obtain ⟨x0, x1, x2, x3⟩ := (unhide HO8).c
              simp only at x0 x1 x2 x3
              have HRB := hide hrb
              have HBW := hide hbw
              have HDT : Hid (decOk v = true) := unhide HD2
              have HEQ : Hid ((⟨K, pp, ⟨#[]⟩, vv⟩ : POp) = decP v) := (unhide HE2).symm
              clear hrb hbw
              go_wp2
              refine bodyPost_ret (results_cell_tmp rfl _ _ w.heap.size 59 #[_, _, _, _] (0, 0) _ _ rfl rfl (putN_full (unhide HRB) [_, _, _, _] rfl) Tryz.underlying59 rfl (by kernel_rfl)) rfl ?_
              exact ⟨putN_below (unhide HBW) (Nat.le_refl _) [_, _, _, _] 0, (⟨K, pp, ⟨#[]⟩, vv⟩ : POp), by rw [unhide HDT]; rfl, fun _ => unhide HEQ⟩
end Go.Proofs.YtocnekbedcnmgaaGreatDoor


namespace Go.Proofs.YtocnekbedcnmgaaGreatDoor
open Go.RowKit

set_option maxRecDepth 100000 in
set_option maxHeartbeats 4000000 in
theorem implDecode_walk (s : ByteArray) (w : World) (hw : RdW w) (hs : s.size ≤ 1048576) :
    Calls Tryz.prog 10 #[.string s] w fun e w' => ∃ v, e = .returned (.tuple #[v, .int .i64 (dcR s).2.1, .int .i64 (dcR s).2.2]) ∧ OPr w' w.heap.size v (dcR s).1 ∧ Below w.heap.size w w' := by
  obtain ⟨i0, hi, hz0, hz1, hz2⟩ := info_parts infoPOp
  have H1 := hide (readText_walk s w hw.tab hw.err hw.pow (by omega))
  have HNIL : Hid (∀ wx : World, OPr wx w.heap.size (.slice none 0 0) []) := fun wx => World.ownsRow_nil wx w.heap.size 59 4
  have HW := hide hw
  clear hw hs
  cases hr : readR s with
  | inl c =>
    have hc := read_code hr
    have HR : Hid (dcR s = ([], 1, 0)) := by show _ = _; unfold dcR; rw [hr]
    rw [hr] at H1
    have t2 : ((c : Int) != 0) = true := by simp; omega
    have t3 : ¬ (c : Int) = 0 := by omega
    have t4 : ¬ c = 0 := by omega
    clear hr hc
    go_enter Tryz.func10, Tryz.ntmps10
    go_wp2_with fail
    refine (unhide H1).mono ?_
    rintro e w2 ⟨b2, rfl⟩
    have HB2 := hide b2
    clear b2 H1
    go_wp2
    go_ret3
    exact ⟨_, by rw [unhide HR]; rfl, by rw [unhide HR]; exact unhide HNIL _, unhide HB2⟩
  | inr a =>
    have hgd := GdV.of hr
    rw [hr] at H1
    by_cases h5 : kd a = 5
    · obtain ⟨l, rfl⟩ : ∃ l, a = .arr l := by cases a <;> first | exact ⟨_, rfl⟩ | (simp [kd] at h5)
      have HR0 : Hid (100 < l.toL.length → dcR s = ([], 3, 100)) := fun h => by unfold dcR; rw [hr]; simp only; rw [if_pos h]
      have HR1 : Hid (¬ 100 < l.toL.length → ∀ i (hi : i < l.toL.length), decOk l.toL[i] = false → (∀ j (h : j < l.toL.length), j < i → decOk l.toL[j] = true) → dcR s = ([], 4, (i : Int))) := fun h i hi hb hg => by
        have hf : l.toL.findIdx? (fun v => !decOk v) = some i := by
          rw [List.findIdx?_eq_some_iff_getElem]
          exact ⟨hi, by simp [hb], fun j hj => by simp [hg j (by omega) hj]⟩
        unfold dcR; rw [hr]; simp only; rw [if_neg h, hf]
      have HR2 : Hid (¬ 100 < l.toL.length → (∀ j (h : j < l.toL.length), decOk l.toL[j] = true) → dcR s = (l.toL.map decP, 0, 0)) := fun h hg => by
        have hf : l.toL.findIdx? (fun v => !decOk v) = none := by
          rw [List.findIdx?_eq_none_iff]
          intro x hx
          obtain ⟨j, hj, rfl⟩ := List.mem_iff_getElem.1 hx
          simp [hg j hj]
        unfold dcR; rw [hr]; simp only; rw [if_neg h, hf]
      have HGD := hide hgd
      clear hr hgd h5
      go_enter Tryz.func10, Tryz.ntmps10
      go_wp2_with fail
      refine (unhide H1).mono ?_
      rintro e w2 ⟨b2, ty, q, rfl, rep⟩
      have rep' := rep
      rw [Rep] at rep'
      obtain ⟨ab, sv, xs, e1, s1, g1, r1, rl1⟩ := rep'
      injection e1 with e0 e1
      subst e0; subst e1
      obtain ⟨x1, gr1, c1, rfl, hadr1, hcell1⟩ := row_shape r1
      obtain ⟨n1, rep1⟩ := repL_at l xs rl1
      have HIT := hide (itemsOf_yes ab _ w2 g1)
      have HB2 := hide b2
      have hz2w := b2.size
      have HD : Hid (∀ k (hk : k < xs.length) (hk' : k < l.toL.length), ∃ t q, x1 = some ⟨gr1, 0, none⟩ ∧ (∀ wx, Below w2.heap.size w2 wx → wx.cell? ⟨gr1, k, none⟩ = some (.iface t q) ∧ Calls Tryz.prog 39 #[.iface t q] wx (DcP l.toL[k] wx))) := fun k hk hk' => by
        obtain ⟨t, q, he⟩ := rep_iface (rep1 k hk hk')
        have hu := (unhide HGD).item (List.getElem_mem hk')
        obtain ⟨ha, hag⟩ := hadr1 (by omega)
        refine ⟨t, q, ha, fun wx hx => ⟨?_, ?_⟩⟩
        · rw [← he]; exact (hx.cell (p := ⟨gr1, k, none⟩) hag.2).trans (hcell1 k hk)
        · have hrk := rep1 k hk hk'
          rw [he] at hrk
          exact decodeOp_walk _ hu.ok hu.tw (by have := hu.len; omega) t q wx _ (Rep.keep (fun j hj => hx.block j hj.2) (fun _ h => h) _ _ hrk) (fun j hj => Nat.lt_of_lt_of_le hj.2 hx.size) ((unhide HW).up (below_next (unhide HB2) hx))
      clear H1 rep s1 g1 r1 rl1 hadr1 hcell1 rep1 b2
      generalize l.toL = us at *
      generalize xs.length = n at *
      subst n1
      go_wp2_with fail
      refine (unhide HIT).mono ?_
      rintro e w2' ⟨rfl, rfl⟩
      clear HIT
      by_cases h100 : 100 < us.length
      · have t1 : (100 : Int) < (us.length : Int) := by omega
        have HR := hide (unhide HR0 (by omega))
        clear HR0 HR1 HR2 h100
        go_wp2
        go_ret3
        exact ⟨_, by rw [unhide HR]; rfl, by rw [unhide HR]; exact unhide HNIL _, unhide HB2⟩
      · have t1 : ¬ (100 : Int) < (us.length : Int) := by omega
        have hx100 : us.length ≤ 100 := by omega
        clear HR0 h100
        go_wp2_with (at_make; refine wpList_make_own _ rfl _ _ 22 rfl w2.heap.size 59 i0 (.agg #[.int .i64 0, .string ByteArray.empty, .string ByteArray.empty, .string ByteArray.empty]) 4 Tryz.underlying22 hi hz0 hz1 .i64 .i64 _ us.length rfl rfl rfl (by rw [hz2]; omega) (by unfold maxLen; omega) (Nat.le_refl _) ?_)
        intro w3 hown3 hgrow3
        have HB3 : Hid (Below w2.heap.size w2 w3) := (Below.refl _ _).grown hgrow3 (Nat.le_refl _) (by intro k hk; cases hk)
        have HO3 : Hid (OPr w3 w2.heap.size _ []) := hown3
        clear hown3 hgrow3
        go_wp2
        go_loopw [9, 36] (fun lv i wr => ∃ k : Nat, k ≤ us.length ∧ i = .int .i64 k ∧ OPr wr w2.heap.size lv ((us.take k).map decP) ∧ Below w2.heap.size w2 wr ∧ ∀ j (h : j < us.length), j < k → decOk us[j] = true) (fun _ i _ => us.length - (intOf i).toNat)
        case atStart => exact ⟨0, Nat.zero_le _, rfl, unhide HO3, unhide HB3, fun j _ h => by omega⟩
        case round =>
          obtain ⟨k, hk, rfl, ho, hb, hall⟩ := hrel
          have HO := hide ho
          have HBR := hide hb
          have HALL := hide hall
          have hbz := hb.size
          clear HO3 HB3
          by_cases hlt : k < us.length
          · have hltI : (k : Int) < (us.length : Int) := by omega
            have hltu : k < us.length := by omega
            obtain ⟨t, q, rfl, hdx⟩ := unhide HD k hlt hltu
            obtain ⟨hc, hd⟩ := hdx wr hb
            have HDD := hide hd
            have HST : Hid ((us.take (k + 1)).map decP = (us.take k).map decP ++ [decP us[k]]) := by
              show _ = _
              rw [List.take_succ_eq_append_getElem hltu, List.map_append]; rfl
            have hal : ((us.take k).map decP).length ≤ 100 := by rw [List.length_map, List.length_take]; omega
            clear ho hb hall hdx hd
            go_wp2_with fail
            refine (unhide HDD).mono ?_
            rintro e w5 ⟨b5, mo, rfl, hmo⟩
            have b35 := below_next (unhide HBR) b5
            cases hok : decOk us[k] with
            | false =>
              have HR := hide (unhide HR1 (by omega) k hltu hok (unhide HALL))
              have hN := alloc_b w5 (.cells (opCs mo) 59)
              have HB6 := hide (below_next (unhide HB2) (below_next b35 hN))
              clear HDD b5 b35 hmo hok hN hc
              go_wp2
              go_ret3
              exact ⟨_, by rw [unhide HR]; rfl, by rw [unhide HR]; exact unhide HNIL _, unhide HB6⟩
            | true =>
              obtain rfl := hmo hok
              have HALL2 : Hid (∀ j (h : j < us.length), j < k + 1 → decOk us[j] = true) := fun j h hj => by
                by_cases e : j = k
                · subst e; exact hok
                · exact unhide HALL j h (by omega)
              generalize decP us[k] = mo at *
              generalize (us.take k).map decP = A at *
              have hN := alloc_b w5 (.cells (opCs mo) 59)
              have hM := alloc_b (w5.alloc (.cells (opCs mo) 59)) (.cells (opCs mo) 59)
              have zN : (w5.alloc (.cells (opCs mo) 59)).heap.size = w5.heap.size + 1 := by simp
              have lM := lit4 (w5.alloc (.cells (opCs mo) 59)) mo
              rw [zN] at lM
              have bN := below_next b5 (below_next hN hM)
              have HOM : Hid (OPr _ w2.heap.size u9 A) := own_below (unhide HO) bN
              have HBM := hide (below_next (unhide HBR) bN)
              have HLM := hide lM
              clear HDD b5 b35 hmo hok hN hM zN lM bN hc
              go_wp2_with (at_builtin; refine wpList_append_own _ rfl (.tmp 49) (.tmp 51) 22 rfl w2.heap.size 59 i0 (.agg #[.int .i64 0, .string ByteArray.empty, .string ByteArray.empty, .string ByteArray.empty]) 4 56 Tryz.underlying22 hi hz0 hz1 hz2 rfl (by decide) _ _ _ rfl (unhide HOM) ⟨w5.heap.size + 1, 0, none⟩ 1 1 (opV mo) rfl rfl (unhide HLM) (one4 mo) (by unfold maxLen; omega) (by omega) (unhide HBM).size ?_)
              generalize ((w5.alloc (.cells (opCs mo) 59)).alloc (.cells (opCs mo) 59)) = wM at *
              intro l6 w6 o6 g6 gx6
              clear gx6
              have HO6 : Hid (OPr w6 w2.heap.size l6 (A ++ [mo])) := OPr.step o6
              have HB6 := hide ((unhide HBM).grown g6 (unhide HBM).size (fun b hb => ((unhide HOM).lt b hb).1))
              clear o6 g6 HOM HBM HLM
              go_wp2
              go_roundw
              case rel => exact ⟨k + 1, by omega, by go_num, by rw [unhide HST]; exact unhide HO6, unhide HB6, unhide HALL2⟩
              case measure => simp [intOf]; omega
          · have hkn : k = us.length := by omega
            subst hkn
            rw [List.take_length] at HO
            have HR := hide (unhide HR2 (by omega) (fun j h => hall j h h))
            have HO6 : Hid (OPr wr w.heap.size u9 (us.map decP)) := own_mono (unhide HO) hz2w
            have HB6 := hide (below_next (unhide HB2) (unhide HBR))
            clear ho hb hall
            go_wp2
            go_ret3
            exact ⟨_, by rw [unhide HR]; rfl, by rw [unhide HR]; exact unhide HO6, unhide HB6⟩
    · have HR : Hid (dcR s = ([], 2, 0)) := by show _ = _; unfold dcR; rw [hr]; cases a <;> first | rfl | exact absurd rfl h5
      clear hr hgd
      go_enter Tryz.func10, Tryz.ntmps10
      go_wp2_with fail
      refine (unhide H1).mono ?_
      rintro e w2 ⟨b2, ty, q, rfl, rep⟩
      have HIT := hide (itemsOf_no a ty q w2 _ rep h5)
      have HB2 := hide b2
      clear b2 H1 rep h5
      go_wp2_with fail
      refine (unhide HIT).mono ?_
      rintro e w2' ⟨rfl, rfl⟩
      clear HIT
      go_wp2
      go_ret3
      exact ⟨_, by rw [unhide HR]; rfl, by rw [unhide HR]; exact unhide HNIL _, unhide HB2⟩
end Go.Proofs.YtocnekbedcnmgaaGreatDoor


namespace Go.Proofs.YtocnekbedcnmgaaGreatDoor
open Go.RowKit

theorem dcR_len (s : ByteArray) : (dcR s).1.length ≤ 100 := by
  unfold dcR
  repeat' split
  all_goals first | exact Nat.zero_le _ | (simp only [List.length_map]; omega)
set_option maxRecDepth 100000 in
set_option maxHeartbeats 4000000 in
theorem decodeLaw_in (s : ByteArray) (w : World) (hw : RdW w) :
    Calls Tryz.prog 3 #[.string s] w fun e w' => e = .returned (.bool true) ∧ Below w.heap.size w w' := by
  by_cases hsz : s.size ≤ 1048576
  · have hs1 : ¬ (1048576 : Int) < (s.size : Int) := by omega
    have hlen := dcR_len s
    have HS := hide (specDecode_walk s w hsz)
    have HI : Hid (∀ w1, Below w.heap.size w w1 → Calls Tryz.prog 10 #[.string s] w1 fun e w' => ∃ v, e = .returned (.tuple #[v, .int .i64 (dcR s).2.1, .int .i64 (dcR s).2.2]) ∧ OPr w' w1.heap.size v (dcR s).1 ∧ Below w1.heap.size w1 w') := fun w1 hb => implDecode_walk s w1 (hw.up hb) hsz
    generalize (dcR s).2.1 = c1 at *
    generalize (dcR s).2.2 = c2 at *
    generalize (dcR s).1 = ms at *
    clear hw
    go_enter Tryz.func3, Tryz.ntmps3
    go_wp2_with fail
    refine (unhide HS).mono ?_
    rintro e w1 ⟨v0, rfl, o1, b1⟩
    have HC2 := hide (unhide HI w1 b1)
    have O1 := hide o1
    have HL1 := hide o1.lt
    have HB1 := hide b1
    clear HS o1 b1
    go_wp2_with fail
    refine (unhide HC2).mono ?_
    rintro e w2 ⟨v1, rfl, o2, b2⟩
    obtain ⟨r2, f2⟩ := o2.orow
    have x2 : OPr w2 w.heap.size v0 ms := own_below (unhide O1) b2
    have HE := hide (eqOps_walk v1 v0 ms _ _ w2 r2 x2.orow.1)
    have HR2 := hide r2
    have HF2 := hide f2
    have HX2 := hide x2
    have HB2 := hide b2
    clear HC2 o2 r2 f2 x2 b2 O1
    generalize v1.ownBlock.toList = bl at *
    go_wp2_with fail
    refine (unhide HE).mono ?_
    rintro e w3 ⟨rfl, b3⟩
    have HR3 := hide ((unhide HR2).below b3)
    have HX3 : Hid (OPr w3 w.heap.size v0 ms) := own_below (unhide HX2) b3
    have b13 := below_next (unhide HB2) b3
    have HB3 := hide b13
    have HM := hide (markOps_walk v1 ms bl 1 w3 (unhide HR3) (unhide HF2).1 (by omega) (by rw [cntOps]; omega))
    have HL3 := hide (unhide HR3).lt
    rw [cntOps] at HM
    clear HE b3 HR2 HX2 HB2 HR3 b13
    go_wp2_with fail
    refine (unhide HM).mono ?_
    rintro e w4 ⟨rfl, r4, f4⟩
    have b14 := (unhide HB3).trans (f4.below (fun b hb => (unhide HF2).2 b hb) (unhide HB3).size)
    have HB4 := hide b14
    have HX4 : Hid (OPr w4 w.heap.size v0 ms) := own_keep (unhide HX3) (fun b hb => f4.block b ((unhide HX3).lt b (by simpa using hb)).2 (fun hm => by have h1 := ((unhide HL1) b (by simpa using hb)).2; have h2 := (unhide HF2).2 b hm; omega))
    have HH := hide (heldOps_walk v1 ms bl 1 w4 r4 (by omega) (by rw [cntOps]; omega))
    rw [cntOps] at HH
    have HR4 := hide r4
    clear HM HX3 HB3 r4 f4 b14 HL3
    go_wp2_with fail
    refine (unhide HH).mono ?_
    rintro e w5 ⟨rfl, b5⟩
    have HR5 := hide ((unhide HR4).below b5)
    have HX5 : Hid (OPr w5 w.heap.size v0 ms) := own_below (unhide HX4) b5
    have b05 := below_next ((unhide HB1).trans ((unhide HB4).mono (unhide HB1).size)) b5
    have HB5 := hide b05
    have HC6 := hide (unhide HI w5 b05)
    clear HH HR4 HX4 HB4 b5 b05
    go_wp2_with fail
    refine (unhide HC6).mono ?_
    rintro e w6 ⟨v6, rfl, o6, b6⟩
    have x6 : OPr w6 w.heap.size v0 ms := own_below (unhide HX5) b6
    have HE := hide (eqOps_walk v6 v0 ms _ _ w6 o6.orow.1 x6.orow.1)
    have HR6 := hide ((unhide HR5).below b6)
    have HB6 := hide (below_next (unhide HB5) b6)
    clear HC6 o6 x6 b6 HR5 HX5 HB5
    go_wp2_with fail
    refine (unhide HE).mono ?_
    rintro e w7 ⟨rfl, b7⟩
    have HH := hide (heldOps_walk v1 ms bl 1 w7 ((unhide HR6).below b7) (by omega) (by rw [cntOps]; omega))
    rw [cntOps] at HH
    have HB7 := hide (below_next (unhide HB6) b7)
    clear HE b7 HR6 HB6
    go_wp2_with fail
    refine (unhide HH).mono ?_
    rintro e w8 ⟨rfl, b8⟩
    have HB8 := hide (below_next (unhide HB7) b8)
    clear HH b8 HB7
    go_wp2
    go_ret
    exact ⟨rfl, unhide HB8⟩
  · have hsz' : (1048576 : Int) < (s.size : Int) := by omega
    clear hw
    go_enter Tryz.func3, Tryz.ntmps3
    go_wp2
    go_ret
    exact ⟨rfl, Below.refl _ _⟩
/-- What the row's condition says of the tables. -/
def VarsOk (w : World) : Prop := Tabs w ∧ ErrB w.heap.size w ∧ PowB w.heap.size w
theorem tables_of {W : World} (hL : laidMetH Tryz.prog Rows.fnExactDecodePatchRow.laid W) : VarsOk W := by
  have h : laidMet Tryz.prog laidAll W := hL
  exact ⟨tabs_at h, err_at h, pow_at h⟩
theorem decodeLaw_walk (s : ByteArray) (w : World) (hm : ML w) (h : VarsOk w) :
    Calls Tryz.prog 3 #[.string s] w fun e w' => e = .returned (.bool true) ∧ Below w.heap.size w w' := decodeLaw_in s w ⟨TabsB.of h.1, h.2.1, h.2.2, hm⟩
end Go.Proofs.YtocnekbedcnmgaaGreatDoor

