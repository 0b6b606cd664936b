import Derived.Deep.RegionLaw
import Derived.Test.YtcjajchfjoffnaaGreatDoorBe7
import Derived.Laws.AppendOwn
import Derived.Room.AppendZeros
import Derived.Test.YtcjajchfjoffnaaGreatDoorBe3
namespace Go.Proofs.YtcjajchfjoffnaaGreatDoor
open Go.RowKit

def cntVer (m : Ver) : Nat := m.touched.length + 2
def mkVer (k : Nat) (m : Ver) : Ver := ⟨(k : Int), mkText (k + 1), mkS (k + 1 + 1) m.touched.length⟩
theorem vers_len {ms : List Ver} (hn : szVers ms ≤ 268435456) (k : Nat) (hk : k < ms.length) : ms[k].touched.length ≤ 268435456 := by
  have h1 := sum_take_snoc szVer ms k ms[k] (List.getElem?_eq_getElem hk)
  have h2 := sum_take_le (ms.map szVer) (k + 1)
  rw [← List.map_take] at h2
  unfold szVers at hn
  have h3 : ms[k].touched.length ≤ szVer ms[k] := by unfold szVer szStr; omega
  omega
set_option maxRecDepth 100000 in
set_option maxHeartbeats 1600000 in
theorem markVers_walk (v : Value) (ms : List Ver) (bl : List Nat) (k0 : Nat) (w : World) (hv : ORow verE w v ms bl) (hd : bl.Nodup) (hn : szVers ms ≤ 268435456) (h2 : k0 + cntR cntVer ms ≤ 1099200000000) :
    Calls Tryz.prog 38 #[v, .int .i64 k0] w fun e w' => e = .returned (.int .i64 (k0 + cntR cntVer ms : Nat)) ∧ ORow verE w' v (mkRow mkVer cntVer k0 ms) bl ∧ Fr bl w w' := by
  have hln : ms.length ≤ 268435456 := by unfold szVers at hn; omega
  have HSZ := hide (vers_len hn)
  obtain ⟨a, cap, rfl, hform, hsh⟩ := hv.form
  clear hform
  have HV := hide hv
  have HD := hide hd
  clear hv hd hn
  go_enter Tryz.func38, Tryz.ntmps38
  go_wp2
  go_loopw [1, 5] (fun q i wr => ∃ (j : Nat), j ≤ ms.length ∧ i = .int .i64 j ∧ q = .int .i64 (k0 + cntR cntVer (ms.take j) : Nat) ∧ Fr bl w wr ∧ ORow verE wr (.slice a ms.length cap) (mkRowAt mkVer cntVer k0 ms j) bl) (fun _ i _ => ms.length - (intOf i).toNat)
  case atStart => exact ⟨0, Nat.zero_le _, rfl, by simp [cntR], Fr.refl _ _, by rw [mkRowAt_0]; exact unhide HV⟩
  case round =>
    obtain ⟨j, hj, rfl, rfl, hb, ho⟩ := hrel
    by_cases hlt : j < ms.length
    · obtain ⟨g, rfl⟩ := hsh (by omega)
      have hle := cnt_le (c := cntVer) (l := ms) (j := j)
      have hle2 := cnt_le (c := cntVer) (l := ms) (j := j + 1)
      rw [cnt_succ hlt] at hle2
      have hcm : cntVer ms[j] = ms[j].touched.length + 2 := rfl
      have hpl := unhide HSZ j hlt
      have hs := cnt_succ (c := cntVer) hlt
      have hnx := mkRowAt_succ (f := mkVer) (c := cntVer) (k := k0) hlt
      have hset := fun x => mkRowAt_set (f := mkVer) (c := cntVer) (k := k0) hlt x
      have hat := mkRowAt_at (f := mkVer) (c := cntVer) (k := k0) hlt
      generalize hK : k0 + cntR cntVer (ms.take j) = K at *
      generalize ms[j] = m at *
      -- the number is marked
      obtain ⟨vs, ib, hE, hc, hx1, hg, hx2⟩ := ho.at hat
      obtain ⟨q, rfl, hq⟩ := hE
      have c0 : wr.cell? ⟨g, j * 3, none⟩ = _ := (hc 0 _ rfl).1
      have f0 : wr.frozen? ⟨g, j * 3, none⟩ = _ := (hc 0 _ rfl).2
      have p1 : ORow verE (wr.setCell ⟨g, j * 3, none⟩ (.int .i64 (K : Int))) _ _ bl := ho.put (unhide HD) hat 0 (by decide) (.int .i64 (K : Int)) ⟨(K : Int), m.doc, m.touched⟩ (fun w' vs ib h => by obtain ⟨q, rfl, h⟩ := h; exact ⟨q, rfl, h⟩)
      rw [hset] at p1
      have fr1 := hb.set hg (j * 3) (.int .i64 (K : Int))
      have hA := mkRow_take_len (f := mkVer) (c := cntVer) (k := k0) hlt
      generalize mkRow mkVer cntVer k0 (ms.take j) = A at *
      generalize ms.drop (j + 1) = B at *
      have HM := hide (mark_walk (K + 1) (wr.setCell ⟨g, j * 3, none⟩ (.int .i64 (K : Int))) (by omega) (by omega))
      have HFR := hide fr1
      have HP1 := hide p1
      have HHG := hide hg
      have HNX := hide hnx
      have HS := hide hs
      have HA := hide hA
      have HK := hide hK
      have HLE := hide hle2
      have hKb : K + 2 + m.touched.length ≤ 1099200000000 := by omega
      have HKB := hide hKb
      have hKc : K ≤ 1099200000000 := by omega
      have HQL := hide hpl
      clear ho hb hc p1 fr1 hq hset hat hg hnx hs hA hK hle hle2 hcm h2 hx1 hx2 hsh hKb hpl
      go_wp2_with fail
      refine (unhide HM).mono ?_
      rintro e w2 ⟨rfl, b2⟩
      have o2 := (unhide HP1).below b2
      obtain ⟨vs2, kb, hE2, hc2, hy1, hg, hy2⟩ := o2.at (mid_at (unhide HA))
      obtain ⟨q2, rfl, hq2⟩ := hE2
      have d1 : w2.cell? ⟨g, j * 3 + 1, none⟩ = _ := (hc2 1 _ rfl).1
      have d2 : w2.cell? ⟨g, j * 3 + 2, none⟩ = some q2 := (hc2 2 _ rfl).1
      have e1 : w2.frozen? ⟨g, j * 3 + 1, none⟩ = _ := (hc2 1 _ rfl).2
      have p2 : ORow verE (w2.setCell ⟨g, j * 3 + 1, none⟩ (.string (mkText (K + 1)))) _ _ bl := o2.put (unhide HD) (mid_at (unhide HA)) 1 (by decide) (.string (mkText (K + 1))) ⟨(K : Int), mkText (K + 1), m.touched⟩ (fun w' vs ib h => by obtain ⟨q, rfl, h⟩ := h; exact ⟨q, rfl, h⟩)
      rw [mid_set (unhide HA)] at p2
      have fr5 := ((unhide HFR).next b2).set hg (j * 3 + 1) (.string (mkText (K + 1)))
      obtain ⟨vs5, jb, hE5, hc5, hjs, hz1, hjd, hclose⟩ := p2.inner (unhide HD) (mid_at (unhide HA))
      obtain ⟨q5, rfl, hq5⟩ := hE5
      have hqq : q5 = q2 := by
        have c5 : (w2.setCell ⟨g, j * 3 + 1, none⟩ (.string (mkText (K + 1)))).cell? ⟨g, j * 3 + 2, none⟩ = some q5 := (hc5 2 _ rfl).1
        rw [cell_set_off _ _ _ _ _ (by omega), d2] at c5
        exact (Option.some.inj c5).symm
      subst hqq
      have HM2 := hide (markStr_walk q5 m.touched jb (K + 1 + 1) _ hq5 hjd (unhide HQL) (by omega) (by have := unhide HKB; omega))
      have HFR5 := hide fr5
      have HCL := hide hclose
      have HJS := hide hjs
      clear HM HFR HP1 b2 o2 hc2 hy1 hg hy2 hq2 p2 fr5 hc5 hjs hz1 hjd hclose hq5 c0 f0
      go_wp2_with fail
      refine (unhide HM2).mono ?_
      rintro e w3 ⟨rfl, ho3, fr3⟩
      have o3 := unhide HCL w3 (mkVer K m) fr3 ⟨q5, rfl, ho3⟩
      rw [mid_set (unhide HA), unhide HNX] at o3
      have HP2 := hide o3
      have HFR2 := hide ((unhide HFR5).trans (fr3.mono (unhide HJS)))
      have hKB := unhide HKB
      clear HM2 HCL HFR5 HJS ho3 fr3 o3 d1 d2 e1
      go_wp2
      go_roundw
      case rel =>
        have hk1 := unhide HK
        have hk2 := unhide HS
        have hk3 : cntVer m = m.touched.length + 2 := rfl
        exact ⟨j + 1, by omega, by go_num, by rw [hk2, hk3, ← hk1]; go_num, unhide HFR2, unhide HP2⟩
      case measure => simp [intOf]; omega
    · have hjn : j = ms.length := by omega
      subst hjn
      rw [mkRowAt_all] at ho
      rw [List.take_length]
      go_wp2
      go_ret
      exact ⟨rfl, ho, hb⟩
set_option maxRecDepth 100000 in
set_option maxHeartbeats 1600000 in
theorem heldVers_walk (v : Value) (ms : List Ver) (bl : List Nat) (k0 : Nat) (w : World) (hv : ORow verE w v (mkRow mkVer cntVer k0 ms) bl) (hn : szVers ms ≤ 268435456) (h2 : k0 + cntR cntVer ms ≤ 1099200000000) :
    Calls Tryz.prog 39 #[v, .int .i64 k0] w fun e w' => e = .returned (.int .i64 (k0 + cntR cntVer ms : Nat)) ∧ Below w.heap.size w w' := by
  have hln : ms.length ≤ 268435456 := by unfold szVers at hn; omega
  have HSZ := hide (vers_len hn)
  obtain ⟨a, cap, rfl, hform, hsh⟩ := hv.form
  rw [mkRow_len] at hsh
  have HV := hide hv
  have HSH := hide hsh
  rw [mkRow_len] at HV ⊢
  clear hv hn hform hsh
  go_enter Tryz.func39, Tryz.ntmps39
  go_wp2
  go_loopw [1, 5] (fun q i wr => ∃ (j : Nat), j ≤ ms.length ∧ i = .int .i64 j ∧ q = .int .i64 (k0 + cntR cntVer (ms.take j) : Nat) ∧ Below w.heap.size w wr) (fun _ i _ => ms.length - (intOf i).toNat)
  case atStart => exact ⟨0, Nat.zero_le _, rfl, by simp [cntR], Below.refl _ _⟩
  case round =>
    obtain ⟨j, hj, rfl, rfl, hb⟩ := hrel
    by_cases hlt : j < ms.length
    · obtain ⟨g, rfl⟩ := unhide HSH (by omega)
      have hle2 := cnt_le (c := cntVer) (l := ms) (j := j + 1)
      rw [cnt_succ hlt] at hle2
      have hcm : cntVer ms[j] = ms[j].touched.length + 2 := rfl
      have hpl := unhide HSZ j hlt
      have hs := cnt_succ (c := cntVer) hlt
      have hat := mkRow_at (f := mkVer) (c := cntVer) (k := k0) hlt
      generalize hK : k0 + cntR cntVer (ms.take j) = K at *
      generalize ms[j] = m at *
      obtain ⟨vs, ib, hE, hc, hx1, hg, hx2⟩ := ((unhide HV).below hb).at hat
      obtain ⟨q, rfl, hq⟩ := hE
      have c0 : wr.cell? ⟨g, j * 3, none⟩ = some (.int .i64 (K : Int)) := (hc 0 _ rfl).1
      have c1 : wr.cell? ⟨g, j * 3 + 1, none⟩ = some (.string (mkText (K + 1))) := (hc 1 _ rfl).1
      have c2 : wr.cell? ⟨g, j * 3 + 2, none⟩ = some q := (hc 2 _ rfl).1
      have HM := hide (mark_walk (K + 1) wr.drew (by omega) (by omega))
      have hKb : K + 2 + m.touched.length ≤ 1099200000000 := by omega
      have HM2 : Hid (∀ wx, Below wr.heap.size wr wx → Calls _ _ _ wx _) := fun wx hx => heldStr_walk q ib m.touched.length (K + 1 + 1) wx (hq.below hx) hpl (by omega) (by omega)
      have HB := hide hb
      have HS := hide hs
      have HK := hide hK
      have hgr : g < wr.heap.size := World.block_lt_of_cell? _ _ c0
      have hKc : K ≤ 1099200000000 := by omega
      have HKB := hide hKb
      clear hx1 hx2 hc hq hb hat hle2 hcm hs hK hg h2 hKb hpl
      go_wp2
      go_region_law (go_simp; refine (unhide HM).mono ?_; rintro e w1 ⟨rfl, b1⟩; have bx : Below wr.heap.size wr w1 := ((Below.refl _ _).drew).trans (b1.mono (by simp)); have d1 := (bx.cell (p := ⟨g, j * 3 + 1, none⟩) hgr).trans c1)
      all_goals (
        have d2 := (bx.cell (p := ⟨g, j * 3 + 2, none⟩) hgr).trans c2
        have HM3 := hide (unhide HM2 w1 bx)
        have HB1 := hide (below_next (unhide HB) bx)
        clear HM HM2 HB b1 bx c0 c1 c2 d1
        go_wp2_with fail
        refine (unhide HM3).mono ?_
        rintro e w2 ⟨rfl, b2⟩
        have HB2 := hide (below_next (unhide HB1) b2)
        have hKB := unhide HKB
        clear HM3 HB1 b2 d2
        go_wp2)
      all_goals go_roundw
      all_goals first
        | (refine ⟨j + 1, by omega, by go_num, ?_, unhide HB2⟩
           have hk1 := unhide HK
           have hk2 := unhide HS
           have hk3 : cntVer m = m.touched.length + 2 := rfl
           rw [hk2, hk3, ← hk1]; go_num)
        | (simp [intOf]; omega)
    · have hjn : j = ms.length := by omega
      subst hjn
      rw [List.take_length]
      go_wp2
      go_ret
      exact ⟨rfl, hb⟩
/-- A store that is owned. -/
def OSto (w : World) (v : Value) (h : List Ver) (bl : List Nat) : Prop := ∃ p, v = .agg #[p] ∧ ORow verE w p h bl
theorem OSto.below {w w' : World} {v : Value} {h : List Ver} {bl : List Nat} (ho : OSto w v h bl) (hb : Below w.heap.size w w') : OSto w' v h bl := by
  obtain ⟨p, hv, h1⟩ := ho
  exact ⟨p, hv, h1.below hb⟩
set_option maxRecDepth 100000 in
set_option maxHeartbeats 800000 in
theorem markSto_walk (v : Value) (h : List Ver) (bl : List Nat) (w : World) (hv : OSto w v h bl) (hd : bl.Nodup) (hn : szVers h ≤ 268435456) (k0 : Nat) (h2 : k0 + cntR cntVer h ≤ 1099200000000) :
    Calls Tryz.prog 12 #[v, .int .i64 k0] w fun e w' => e = .returned (.int .i64 (k0 + cntR cntVer h : Nat)) ∧ OSto w' v (mkRow mkVer cntVer k0 h) bl ∧ Fr bl w w' := by
  obtain ⟨p, rfl, o1⟩ := hv
  have O1 := hide o1
  have D1 := hide hd
  clear o1 hd
  go_enter Tryz.func12, Tryz.ntmps12
  go_wp2_with fail
  refine (markVers_walk p h bl k0 _ ((unhide O1).below (alloc_b w _)) (unhide D1) hn h2).mono ?_
  rintro e w1 ⟨rfl, p1, f1⟩
  have HP : Hid (OSto w1 (.agg #[p]) (mkRow mkVer cntVer k0 h) bl) := ⟨p, rfl, p1⟩
  have HF := hide ((Fr.of_below (bl := bl) (alloc_b w _)).trans f1)
  clear p1 f1 O1 D1
  go_wp2
  go_ret
  exact ⟨rfl, unhide HP, unhide HF⟩
set_option maxRecDepth 100000 in
set_option maxHeartbeats 800000 in
theorem heldSto_walk (v : Value) (h : List Ver) (bl : List Nat) (w : World) (k0 : Nat) (hv : OSto w v (mkRow mkVer cntVer k0 h) bl) (hn : szVers h ≤ 268435456) (h2 : k0 + cntR cntVer h ≤ 1099200000000) :
    Calls Tryz.prog 13 #[v, .int .i64 k0] w fun e w' => e = .returned (.int .i64 (k0 + cntR cntVer h : Nat)) ∧ Below w.heap.size w w' := by
  obtain ⟨p, rfl, o1⟩ := hv
  have O1 := hide o1
  clear o1
  go_enter Tryz.func13, Tryz.ntmps13
  go_wp2_with fail
  refine (heldVers_walk p h bl k0 _ ((unhide O1).below (alloc_b w _)) hn h2).mono ?_
  rintro e w1 ⟨rfl, b1⟩
  have HB := hide (below_next (alloc_b w _) b1)
  clear b1 O1
  go_wp2
  go_ret
  exact ⟨rfl, unhide HB⟩
set_option maxRecDepth 100000 in
set_option maxHeartbeats 800000 in
theorem eqSto_walk (v v' : Value) (h : List Ver) (bl bl' : List Nat) (w : World) (hv : OSto w v h bl) (hv' : OSto w v' h bl') :
    Calls Tryz.prog 11 #[v, v'] w fun e w' => e = .returned (.bool true) ∧ Below w.heap.size w w' := by
  obtain ⟨p, rfl, o1⟩ := hv
  obtain ⟨q, rfl, o2⟩ := hv'
  have O1 := hide o1
  have O2 := hide o2
  clear o1 o2
  go_enter Tryz.func11, Tryz.ntmps11
  go_wp2_with fail
  have hB : Below w.heap.size w ((w.alloc (.cells #[p] 24)).alloc (.cells #[q] 24)) := below_next (alloc_b w _) (alloc_b _ _)
  refine (eqVers_walk p q h bl bl' _ ((unhide O1).below hB) ((unhide O2).below hB)).mono ?_
  rintro e w1 ⟨rfl, b1⟩
  have HB := hide (below_next hB b1)
  clear b1 O1 O2 hB
  go_wp2
  go_ret
  exact ⟨rfl, unhide HB⟩
end Go.Proofs.YtcjajchfjoffnaaGreatDoor

namespace Go.Proofs.YtcjajchfjoffnaaGreatDoor
open Go.RowKit

/-- Where the row lies behind an append: where it lay, or in a new block. -/
theorem append_where1 {P : Program} (w : World) {base : Nat} {t ty e : TypeId} {i : TypeInfo} {z : Value} (ht : P.underlying t = some (.slice e)) (hi : P.info? e = some i) (hz : i.zero = some z)
    {v : Value} {n : Nat} {xs : List Value} (hown : w.ownsRow base e i.size v n xs) {a : Addr} {m c : Nat} {news : List Value} (hl : news.length = m * i.size) (hnews : ∀ j u, news[j]? = some u → w.cell? (a.add j) = some u) (h1 : ∀ u ∈ news, u.oneCell' = true)
    (h0 : 0 < m) (h63 : n + m ≤ maxLen) (hbytes : (n + m) * i.bytes ≤ 140737488355328) {v' : Value} {w' : World} (hr : (Builtin.append_ #[t, t] ty #[v, .slice (some a) m c]).run P w = .ok v' w') :
    v'.ownBlock = v.ownBlock ∨ v'.ownBlock = some w.heap.size := by
  unfold maxLen at h63
  rcases hown.2 with ⟨hv, hn⟩ | ⟨g, cap, cur, hv, _, hg, _, _, hcs, _⟩
  · subst hv; subst hn
    have hx := run_append_nil (P := P) w t ty e i z ht hi hz a m c news hl hnews h0 (by omega) (by simp only [Nat.zero_add] at hbytes; omega)
    rw [hx] at hr
    injection hr with hr1 _
    subst hr1
    exact .inr rfl
  · subst hv
    by_cases hroom : n + m ≤ cap
    · have hx := run_append_room (P := P) w t ty e i ht hi g n cap cur hg a m c news hl hnews h1 hroom (by rw [hl, hcs, ← Nat.add_mul]; exact Nat.mul_le_mul_right _ hroom)
      rw [hx] at hr
      injection hr with hr1 _
      subst hr1
      exact .inl rfl
    · have hx := run_append_grow (P := P) w t ty e i z ht hi hz ⟨g, 0, none⟩ n cap xs hown.1 (hown.cells (g := g) rfl) a m c news hl hnews (by omega) (by omega) (growslice_fits (by omega) hbytes)
      rw [hx] at hr
      injection hr with hr1 _
      subst hr1
      exact .inr rfl
/-- One more value at the end of a row of values of one cell that the call owns, and where the row lies then. -/
theorem wpList_append_one {e t : TypeId} (ht : Tryz.prog.underlying t = some (.slice e)) {z : Value} {bytes : Nat}
    (hinfo : (Tryz.prog.info? e).map (fun i => (i.zero, i.size, i.bytes)) = some (some z, 1, bytes)) (hzs : z.cells.size = 1) (hby : bytes ≤ 100)
    {w : World} {ops : Array Oper} {rest : List Oper} {o : Oper} {a : Act} {Q : Exit → Act → World → Prop} (hg : o.guard = none) (s x : Operand)
    (ho : o.op = .call { callee := .builtin .append, args := #[s, x], argTypes := #[t, t] }) {B : Nat} {v : Value} {xs : List Value} {n : Nat} (hs : a.eval s = v)
    (hown : w.ownsRow B e 1 v n xs) {y : Value} (hy : y.oneCell' = true) {g : Nat} (hx : a.eval x = .slice (some ⟨g, 0, none⟩) 1 1)
    (hcell : w.cell? ⟨g, 0, none⟩ = some y) (hB : B ≤ w.heap.size) (hl : n ≤ 40000000)
    (hK : ∀ v' w', w'.ownsRow B e 1 v' (n + 1) (xs ++ [y]) → w.grownBy w' v.ownBlock → (v'.ownBlock = v.ownBlock ∨ v'.ownBlock = some w.heap.size) → wpList Tryz.prog ops Q rest (a.put o.dst v') w') :
    wpList Tryz.prog ops Q (o :: rest) a w := by
  obtain ⟨i0, hi, hz0, hz1, hz2⟩ := info_parts hinfo
  have hby2 : (n + 1) * bytes ≤ (n + 1) * 100 := Nat.mul_le_mul_left _ hby
  have hc : ∀ (j : Nat) (u : Value), [y][j]? = some u → w.cell? ((⟨g, 0, none⟩ : Addr).add j) = some u := fun j u hu => by
    cases j with
    | zero => simp at hu; subst hu; simpa [Addr.add] using hcell
    | succ j => simp at hu
  have h1 : ∀ u ∈ [y], u.oneCell' = true := fun u hu => by simp at hu; subst hu; exact hy
  obtain ⟨v', w', hr, h2, h3, _⟩ := run_append_own (P := Tryz.prog) w B t o.type e i0 z 1 bytes ht hi hz0 hz1 hz2 hzs (by decide) v n xs hown ⟨g, 0, none⟩ 1 1 [y] rfl hc h1 (by unfold maxLen; omega) (by omega) hB
  have h4 := append_where1 (P := Tryz.prog) w (z := z) ht hi hz0 (by rw [hz1]; exact hown) (by rw [hz1]; rfl) hc h1 (by omega) (by unfold maxLen; omega) (by rw [hz2]; omega) hr
  exact Lib.wpList_append_run w hg s x t t ho v _ hs hx v' w' hr (hK v' w' h2 h3 h4)
end Go.Proofs.YtcjajchfjoffnaaGreatDoor

namespace Go.Proofs.YtcjajchfjoffnaaGreatDoor
open Go.ChangeShapes Go.WideShapes Go.ChangeAt Go.RowKit Go.Deep

section
variable {H : Type} {enc : TypeId × Value → H} {w : World} {sp : Nat → Bool} {held : Bool}
theorem lst4 {α : Type} {l : List α} (h : l.length = 4) : ∃ a b c d, l = [a, b, c, d] := by
  match l, h with
  | [a, b, c, d], _ => exact ⟨a, b, c, d, rfl⟩
instance : Inhabited POp := ⟨⟨0, ByteArray.empty, ByteArray.empty, ByteArray.empty⟩⟩
theorem open_op {n : Nat} {cs : List Value} {y : DataW H × List MemPlace} (h : DataW.trod enc Tryz.prog w 0 sp held n 72 cs = some y) : ∃ m, opR.R w cs m := by
  obtain ⟨xs, k, _, _, hl, hxl, hf⟩ := DataW.trod_struct Tryz.underlying72 h
  have hl4 : cs.length = 4 := hl.trans (by kernel_rfl)
  obtain ⟨a0, a1, a2, a3, rfl⟩ := lst4 hl4
  obtain ⟨y0, y1, y2, y3, rfl⟩ := lst4 hxl
  have h0 : DataW.trod enc Tryz.prog w 0 sp held k 3 (List.take (Tryz.prog.cellsOf 3) [a0, a1, a2, a3]) = some y0 := hf 0 _ rfl
  have h1 : DataW.trod enc Tryz.prog w 0 sp held k 9 (List.take (Tryz.prog.cellsOf 9) [a1, a2, a3]) = some y1 := hf 1 _ rfl
  have h2 : DataW.trod enc Tryz.prog w 0 sp held k 9 (List.take (Tryz.prog.cellsOf 9) [a2, a3]) = some y2 := hf 2 _ rfl
  have h3 : DataW.trod enc Tryz.prog w 0 sp held k 9 (List.take (Tryz.prog.cellsOf 9) [a3]) = some y3 := hf 3 _ rfl
  rw [show Tryz.prog.cellsOf 3 = 1 from by kernel_rfl] at h0
  rw [show Tryz.prog.cellsOf 9 = 1 from by kernel_rfl] at h1 h2 h3
  obtain ⟨z0, e0⟩ := leaf_int Tryz.underlying3 (h0 : DataW.trod enc Tryz.prog w 0 sp held k 3 [a0] = some y0)
  obtain ⟨s1, e1, z1⟩ := leaf_str Tryz.underlying9 (h1 : DataW.trod enc Tryz.prog w 0 sp held k 9 [a1] = some y1)
  obtain ⟨s2, e2, z2⟩ := leaf_str Tryz.underlying9 (h2 : DataW.trod enc Tryz.prog w 0 sp held k 9 [a2] = some y2)
  obtain ⟨s3, e3, z3⟩ := leaf_str Tryz.underlying9 (h3 : DataW.trod enc Tryz.prog w 0 sp held k 9 [a3] = some y3)
  cases e0; cases e1; cases e2; cases e3
  exact ⟨⟨z0, s1, s2, s3⟩, rfl, z1, z2, z3⟩
theorem open_ops {fuel : Nat} {cs : List Value} {x : DataW H × List MemPlace} (h : DataW.trod enc Tryz.prog w 0 sp held fuel 37 cs = some x) : ∃ v xs, cs = [v] ∧ RRow opR w v xs :=
  open_rrow opR Tryz.underlying37 (by kernel_rfl) (by decide) (fun _ _ _ h => open_op h) h
end
end Go.Proofs.YtcjajchfjoffnaaGreatDoor
