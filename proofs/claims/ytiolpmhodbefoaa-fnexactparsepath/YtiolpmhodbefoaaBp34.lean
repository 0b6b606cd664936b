import Derived.Test.YtiolpmhodbefoaaBp33
namespace Go.Proofs.Ytiolpmhodbefoaa
open Go.RowKit

theorem TS.cells {w : World} {B : Nat} {v : Value} {ts : List Bs} (h : TS w B v ts) : ∃ b cap, v = .slice b ts.length cap ∧ ∀ (j : Nat) (hj : j < ts.length), ∃ g, b = some ⟨g, 0, none⟩ ∧ w.cell? ⟨g, j, none⟩ = some (.string (bsT ts[j])) := by
  rcases h.2 with ⟨hv, h0⟩ | ⟨g, cap, cur, hv, _⟩
  · exact ⟨none, 0, by rw [hv, h0], fun j hj => by omega⟩
  · refine ⟨_, cap, hv, fun j hj => ⟨g, rfl, ?_⟩⟩
    have := World.ownsRow.cells (g := g) (show w.ownsRow B 9 1 v ts.length (ts.map fun t => Value.string (bsT t)) from h) (by rw [hv]; rfl) j (.string (bsT ts[j])) (by rw [List.getElem?_map, List.getElem?_eq_getElem hj]; rfl)
    rw [Go.WideShapes.add_plain] at this
    simpa using this
/-- A condition under way. -/
structure CS (w : World) (B C : Nat) (bl : List Nat) (tv : Value) (ps : List Bs) (wr : World) (ov : Value) (L : List PFOp) (bc : List Nat) : Prop where
  fr : Fr bl w wr
  shp : Shp w wr
  row : ORow fopE wr ov L bc
  fsh : Fsh B bc
  new : ∀ b ∈ bc, b ∈ bl ∨ C ≤ b
  ts : TS wr w.heap.size tv ps
  lt : ∀ g, tv.ownBlock = some g → g < C
  old : ∀ b ∈ bl, b < w.heap.size
  sz : w.heap.size ≤ C ∧ C ≤ wr.heap.size
section
variable {w : World} {B C : Nat} {bl : List Nat} {tv : Value} {ps : List Bs} {wr : World} {ov : Value} {L : List PFOp} {bc : List Nat}
theorem CS.far (h : CS w B C bl tv ps wr ov L bc) : ∀ b ∈ tv.ownBlock.toList, b < wr.heap.size ∧ b ∉ bc := by
  intro b hb
  have h1 : tv.ownBlock = some b := by simpa using hb
  have h2 := h.lt b h1
  have h3 := (World.ownsRow.lt h.ts b h1).1
  refine ⟨by have := h.sz.2; omega, fun hbc => ?_⟩
  rcases h.new b hbc with h4 | h4
  · have := h.old b h4; omega
  · omega
theorem CS.frs (h : CS w B C bl tv ps wr ov L bc) {w2 : World} (hf : Fr bc wr w2) : Fr bl w w2 := h.fr.trans' hf fun b hb => by
  rcases h.new b hb with h4 | h4
  · exact .inl h4
  · right; have := h.sz.1; omega
theorem CS.step (h : CS w B C bl tv ps wr ov L bc) {w2 : World} {v2 : Value} {L2 : List PFOp} {b2 : List Nat} (hf : Fr bc wr w2) (hs : Shp wr w2) (row : ORow fopE w2 v2 L2 b2) (fsh : Fsh B b2) (new : ∀ b ∈ b2, b ∈ bc ∨ wr.heap.size ≤ b) : CS w B C bl tv ps w2 v2 L2 b2 :=
  ⟨h.frs hf, h.shp.trans hs, row, fsh, fun b hb => by
    rcases new b hb with h4 | h4
    · exact h.new b h4
    · right; have := h.sz.2; omega, own_keep h.ts fun b hb => hf.block b (h.far b hb).1 (h.far b hb).2, h.lt, h.old, h.sz.1, by have := h.sz.2; have := hf.size; omega⟩
theorem CS.below (h : CS w B C bl tv ps wr ov L bc) {w2 : World} (hb : Below wr.heap.size wr w2) : CS w B C bl tv ps w2 ov L bc :=
  h.step (.of_below hb) (.of_below hb) (h.row.below hb) h.fsh fun _ hb => .inl hb
theorem CS.app (h : CS w B C bl tv ps wr ov L bc) {w2 : World} {v2 : Value} {b2 : List Nat} {x : PFOp} (hA : Appd fopE B wr w2 ov v2 bc [] b2 (L ++ [x])) : CS w B C bl tv ps w2 v2 (L ++ [x]) b2 :=
  h.step (hA.fr h.row) hA.shp hA.row hA.fsh fun b hb => by
    rcases hA.sub b hb with h1 | h1 | h1
    · exact .inl h1
    · simp at h1
    · right; omega
end
theorem cat2_con (c : UInt8) (p : Bs) (r : List Bs) : (cat2 c (p :: r)).length = p.length + 2 + (cat2 c r).length := by unfold cat2; simp; omega
theorem spl_piece {c : UInt8} {l : Bs} : ∀ p ∈ spl c [c] 0 [] l, p.length ≤ l.length := by
  have hj := spl_jn c [c] l 0 []
  rw [List.nil_append] at hj
  generalize spl c [c] 0 [] l = ps at *
  cases ps with
  | nil => exact absurd rfl hj.1
  | cons p r =>
    have e : l.length = p.length + (cat2 c r).length := by rw [← hj.2, jn_cat]; simp
    have h2 : ∀ (r : List Bs), ∀ q ∈ r, q.length ≤ (cat2 c r).length := fun r => by
      induction r with
      | nil => simp
      | cons a b ih =>
        intro q hq
        have e1 : (cat2 c (a :: b)).length = a.length + 2 + (cat2 c b).length := by unfold cat2; simp; omega
        rcases List.mem_cons.1 hq with rfl | hq
        · omega
        · have := ih q hq; omega
    intro q hq
    rcases List.mem_cons.1 hq with rfl | hq
    · omega
    · have := h2 r q hq; omega
theorem spl_count {c : UInt8} {l : Bs} : (spl c [c] 0 [] l).length ≤ l.length + 1 := by
  have hj := spl_jn c [c] l 0 []
  rw [List.nil_append] at hj
  generalize spl c [c] 0 [] l = ps at *
  cases ps with
  | nil => simp
  | cons p r =>
    have e : l.length = p.length + (cat2 c r).length := by rw [← hj.2, jn_cat]; simp
    have := cat2_len c r
    rw [List.length_cons]; omega
/-- What was read of the pieces so far. -/
def CUp (g : Bs → Option XC) (k : Int) (c : UInt8) (n : Nat) (R : Option XC) (ps : List Bs) (i : Nat) (x : XC) : Prop :=
  (i = 0 ∧ x = ([], 0) ∧ R = sJoin g k ps ∧ ∀ p r, ps = p :: r → p.length + (cat2 c r).length = n) ∨ (1 ≤ i ∧ R = sMore g k x (ps.drop i) ∧ x.1.length + 3 * (cat2 c (ps.drop i)).length ≤ 3 * n ∧ x.2 ≤ n)
theorem CUp.start {g : Bs → Option XC} {k : Int} {c : UInt8} {l : Bs} : CUp g k c l.length (sJoin g k (spl c [c] 0 [] l)) (spl c [c] 0 [] l) 0 ([], 0) := by
  refine .inl ⟨rfl, rfl, rfl, fun p r hp => ?_⟩
  have hj := spl_jn c [c] l 0 []
  rw [List.nil_append, hp] at hj
  rw [← hj.2, jn_cat]; simp
theorem CUp.len {g : Bs → Option XC} {k : Int} {c : UInt8} {n : Nat} {R : Option XC} {ps : List Bs} {i : Nat} {x : XC} (h : CUp g k c n R ps i x) : x.1.length ≤ 3 * n ∧ x.2 ≤ n ∧ ∀ hi : i < ps.length, x.1.length + 3 * ps[i].length ≤ 3 * n := by
  rcases h with ⟨rfl, rfl, -, h⟩ | ⟨h1, -, h3, h4⟩
  · refine ⟨by simp, by simp, fun hi => ?_⟩
    cases ps with
    | nil => simp at hi
    | cons p r => have := h p r rfl; simp; omega
  · refine ⟨by omega, h4, fun hi => ?_⟩
    have e : ps.drop i = ps[i] :: ps.drop (i + 1) := by rw [← List.getElem_cons_drop (h := hi)]
    have e1 : (cat2 c (ps[i] :: ps.drop (i + 1))).length = ps[i].length + 2 + (cat2 c (ps.drop (i + 1))).length := cat2_con _ _ _
    rw [e, e1] at h3
    omega
theorem CUp.no {g : Bs → Option XC} {k : Int} {c : UInt8} {n : Nat} {R : Option XC} {ps : List Bs} {i : Nat} {x : XC} (h : CUp g k c n R ps i x) (hi : i < ps.length) (hp : g ps[i] = none) : R = none := by
  rcases h with ⟨rfl, rfl, hR, -⟩ | ⟨h1, hR, -, -⟩
  · cases ps with
    | nil => simp at hi
    | cons p r => rw [hR]; show (match g p with | none => none | some z => sMore g k z r) = none; rw [show g p = none from hp]
  · have e : ps.drop i = ps[i] :: ps.drop (i + 1) := by rw [← List.getElem_cons_drop (h := hi)]
    rw [hR, e]
    show (match g ps[i] with | none => none | some z => sMore g k (joinX k x z) (ps.drop (i + 1))) = none
    rw [hp]
theorem CUp.next {g : Bs → Option XC} (hg : Small g) {k : Int} {c : UInt8} {n : Nat} {R : Option XC} {ps : List Bs} {i : Nat} {x y : XC} (h : CUp g k c n R ps i x) (hi : i < ps.length) (hp : g ps[i] = some y) : (i = 0 → CUp g k c n R ps 1 (x.1 ++ y.1, max x.2 y.2)) ∧ (0 < i → CUp g k c n R ps (i + 1) (joinX k x y)) := by
  have hy := hg _ y hp
  rcases h with ⟨rfl, rfl, hR, h⟩ | ⟨h1, hR, h3, h4⟩
  · refine ⟨fun _ => ?_, fun h => by omega⟩
    cases ps with
    | nil => simp at hi
    | cons p r =>
      have hn := h p r rfl
      have hp' : g p = some y := hp
      have hy' : y.1.length ≤ 3 * p.length ∧ y.2 ≤ p.length := hy
      refine .inr ⟨Nat.le_refl _, ?_, ?_, ?_⟩
      · rw [hR]
        show (match g p with | none => none | some z => sMore g k z r) = _
        rw [hp']; simp
      · simp only [List.nil_append, List.drop_succ_cons, List.drop_zero]; omega
      · simp only; omega
  · refine ⟨fun h => by omega, fun _ => ?_⟩
    have e : ps.drop i = ps[i] :: ps.drop (i + 1) := by rw [← List.getElem_cons_drop (h := hi)]
    have e1 : (cat2 c (ps[i] :: ps.drop (i + 1))).length = ps[i].length + 2 + (cat2 c (ps.drop (i + 1))).length := cat2_con _ _ _
    rw [e, e1] at h3
    refine .inr ⟨by omega, ?_, ?_, ?_⟩
    · rw [hR, e]
      show (match g ps[i] with | none => none | some z => sMore g k (joinX k x z) (ps.drop (i + 1))) = _
      rw [hp]
    · have : (joinX k x y).1.length = x.1.length + y.1.length + 1 := by simp [joinX]; omega
      omega
    · show max x.2 y.2 ≤ n
      omega
theorem CUp.fin {g : Bs → Option XC} {k : Int} {c : UInt8} {n : Nat} {R : Option XC} {ps : List Bs} {i : Nat} {x : XC} (h : CUp g k c n R ps i x) (hi : ps.length ≤ i) (hne : ps ≠ []) : R = some x := by
  rcases h with ⟨rfl, rfl, hR, -⟩ | ⟨h1, hR, -, -⟩
  · exact absurd (List.eq_nil_of_length_eq_zero (by omega)) hne
  · rw [hR, List.drop_of_length_le hi]; rfl
end Go.Proofs.Ytiolpmhodbefoaa


namespace Go.Proofs.Ytiolpmhodbefoaa
open Go.RowKit

set_option maxRecDepth 100000 in
set_option maxHeartbeats 8000000 in
theorem cond_join {m : Nat} {lv lw : Int} {c : UInt8} {k : Int} (hlv : (lv = 0 ∧ lw = 1 ∧ c = 124 ∧ k = 11) ∨ (lv = 1 ∧ lw = 2 ∧ c = 38 ∧ k = 10)) {g : Bs → Option XC} (hg : Small g) (IH : CondOk m lw g) : CondOk m lv (fun l => sJoin g k (spl c [c] 0 [] l)) := by
  intro s v ops bl B w hm hs h hF hB hN
  have HSP := hide (split2_walk s ⟨#[c, c]⟩ c [c] w hs rfl (by show 2 ≤ 10; decide))
  have HU : Hid (CUp g k c s.size (sJoin g k (spl c [c] 0 [] s.data.toList)) (spl c [c] 0 [] s.data.toList) 0 ([], 0)) := by
    have := CUp.start (g := g) (k := k) (c := c) (l := s.data.toList)
    rw [data_len] at this
    exact this
  have HPL : Hid (∀ p ∈ spl c [c] 0 [] s.data.toList, p.length ≤ s.size) := fun p hp => by
    have := spl_piece (c := c) (l := s.data.toList) p hp
    rw [data_len] at this
    exact this
  have hps : (spl c [c] 0 [] s.data.toList).length ≤ s.size + 1 := by have := spl_count (c := c) (l := s.data.toList); rwa [data_len] at this
  have HNE := hide (spl_jn c [c] s.data.toList 0 []).1
  have HG := hide hg
  have HIH := hide IH
  have HH := hide h
  have HF := hide hF
  obtain ⟨va, vc, rfl, -, -⟩ := h.form
  show Calls _ _ _ _ (CRet w B ops bl (ops.length + 3 * s.size + 3) (sJoin g k (spl c [c] 0 [] s.data.toList)))
  generalize sJoin g k (spl c [c] 0 [] s.data.toList) = R at *
  generalize spl c [c] 0 [] s.data.toList = ps at *
  clear h hF IH hg
  rcases hlv with ⟨rfl, rfl, rfl, rfl⟩ | ⟨rfl, rfl, rfl, rfl⟩
  · go_enter Try.func55, Try.ntmps55
    go_wp2_with fail
    refine (unhide HSP).mono ?_
    rintro e w1 ⟨tv, rfl, hts, b1⟩
    obtain ⟨ta, tc, rfl, -⟩ := hts.cells
    have hz1 := b1.size
    have S0 : Hid (CS w B w1.heap.size bl (.slice ta ps.length tc) ps w1 (.slice va ops.length vc) (ops ++ []) bl) := by
      show CS _ _ _ _ _ _ _ _ _ _
      rw [List.append_nil]
      exact ⟨.of_below b1, .of_below b1, (unhide HH).below b1, unhide HF, fun b hb => .inl hb, hts, fun g hg => (World.ownsRow.lt hts g hg).2, (unhide HH).lt, hz1, Nat.le_refl _⟩
    clear HSP hts b1
    go_wp2
    go_loopw [2, 12, 13] (fun ov dv iv wr => ∃ (i : Nat) (x : XC) (oa : Option Addr) (ol oc : Nat) (bc : List Nat), i ≤ ps.length ∧ iv = .int .i64 (i : Int) ∧ dv = .int .i64 (x.2 : Int) ∧ ov = .slice oa ol oc ∧ Hid (CUp g _ _ s.size R ps i x) ∧ Hid (CS w B w1.heap.size bl (.slice ta ps.length tc) ps wr (.slice oa ol oc) (ops ++ x.1) bc)) (fun _ _ iv _ => ps.length - (intOf iv).toNat)
    case atStart => exact ⟨0, ([], 0), va, ops.length, vc, bl, Nat.zero_le _, rfl, rfl, rfl, HU, S0⟩
    case round =>
      obtain ⟨i, x, oa, ol, oc, bc, hi, rfl, rfl, rfl, hu, hcs⟩ := hrel
      clear HU S0
      obtain ⟨hx1, hx2, hx3⟩ := (unhide hu).len
      by_cases hlt : i < ps.length
      · have hltI : (i : Int) < (ps.length : Int) := by omega
        obtain ⟨tb', tc', htv, hcell⟩ := (unhide hcs).ts.cells
        obtain ⟨gp, hgp, hc⟩ := hcell i hlt
        have htb : ta = some ⟨gp, 0, none⟩ := by injection htv with h1 _ _; rw [h1]; exact hgp
        subst htb
        have hpl := unhide HPL ps[i] (List.getElem_mem hlt)
        have hx4 := hx3 hlt
        have hsz := (unhide hcs).sz
        have hpz : (bsT ps[i]).size = ps[i].length := by simp [bsT, ByteArray.size]
        have hpd : (bsT ps[i]).data.toList = ps[i] := by simp [bsT]
        have HC := hide (unhide HIH (bsT ps[i]) _ _ bc B wr (by omega) (by omega) (unhide hcs).row (unhide hcs).fsh (by omega) (by rw [List.length_append, hpz]; omega))
        rw [hpd, hpz] at HC
        have HNX : Hid (∀ y, g ps[i] = some y → _) := fun y hp => (unhide hu).next (unhide HG) (y := y) hlt hp
        have HNO : Hid (g ps[i] = none → R = none) := fun hp => (unhide hu).no hlt hp
        have HLY : Hid (∀ y, g ps[i] = some y → y.1.length ≤ 3 * ps[i].length ∧ y.2 ≤ ps[i].length) := fun y hp => unhide HG ps[i] y hp
        clear hcell htv hgp hpz hpd hx3 hu
        generalize ps[i] = p at *
        go_wp2_with fail
        refine (unhide HC).mono ?_
        rintro e w2 ⟨b2, s2, v2, ok, d, rfl, hno, hyes⟩
        clear HC
        cases hp : g p with
        | none =>
          obtain ⟨rfl, -⟩ := hno hp
          have HR := hide (unhide HNO hp)
          have HAN : Hid (AnyR w2 B 65 5 (.slice oa ol oc) (ops.length + 3 * s.size + 3)) := (((unhide hcs).row.any (unhide hcs).fsh).shp s2).mono (by rw [List.length_append]; omega)
          have HBB : Hid (Below B w w2) := ((unhide hcs).fr.below (unhide HF).2 hB).trans b2
          have HSS : Hid (Shp w w2) := (unhide hcs).shp.trans s2
          clear hno hyes hp b2 s2 hcs HNX HNO HLY
          go_wp2
          try simp only [Exit.inBlock, Exit.then]
          go_ret3
          exact ⟨unhide HBB, unhide HSS, _, _, _, rfl, fun _ => ⟨rfl, unhide HAN⟩, fun y hy => by rw [unhide HR] at hy; cases hy⟩
        | some y =>
          obtain ⟨rfl, rfl, fr2, bl2, row2, fsh2, new2⟩ := hyes y hp
          have cs2 := (unhide hcs).step fr2 s2 row2 fsh2 new2
          obtain ⟨L2, hL2⟩ : ∃ L, ops ++ x.1 ++ y.1 = L := ⟨_, rfl⟩
          have hll : L2.length ≤ ops.length + 6 * s.size := by rw [← hL2, List.length_append, List.length_append]; have := (unhide HLY y hp).1; omega
          rw [hL2] at cs2 row2
          have CS2 := hide cs2
          have HL2 := hide hL2
          obtain ⟨hn0, hn1⟩ := unhide HNX y hp
          have HN0 := hide hn0
          have HN1 := hide hn1
          have hly := unhide HLY y hp
          obtain ⟨ya, yc, rfl, -, -⟩ := row2.form
          clear hno hyes hp b2 s2 hcs HNX HNO HLY cs2 hL2 row2 fsh2 new2 fr2 hn0 hn1
          go_upto_if 54 with fail
          go_cut [12] from 48 to 55 (fun dv wx => dv = .int .i64 ((max x.2 y.2 : Nat) : Int) ∧ w2 = wx)
          case first =>
            by_cases hd : x.2 < y.2
            · have hdI : (x.2 : Int) < (y.2 : Int) := by omega
              have HM : Hid (max x.2 y.2 = y.2) := by show _ = _; omega
              go_wp2
              go_meet
              case rel => exact ⟨by rw [unhide HM], rfl⟩
            · have hdI : ¬ (x.2 : Int) < (y.2 : Int) := by omega
              have HM : Hid (max x.2 y.2 = x.2) := by show _ = _; omega
              go_wp2
              go_meet
              case rel => exact ⟨by rw [unhide HM], rfl⟩
          obtain ⟨rfl, rfl⟩ := hcut
          by_cases h0 : i = 0
          · have HUP := hide (unhide HN0 h0)
            have h0I : ¬ (0 : Int) < (i : Int) := by omega
            have HI1 : Hid (i + 1 = 1) := by show _ = _; omega
            clear HN0 HN1
            go_wp2
            go_roundw
            case rel =>
              refine ⟨1, (x.1 ++ y.1, max x.2 y.2), ya, _, yc, bl2, by omega, by rw [← unhide HI1]; go_num, rfl, rfl, HUP, ?_⟩
              show CS _ _ _ _ _ _ _ _ (ops ++ (x.1 ++ y.1)) _
              rw [← List.append_assoc, unhide HL2]
              exact unhide CS2
            case measure => simp [intOf]; omega
          · have HUP := hide (unhide HN1 (by omega))
            have h0I : (0 : Int) < (i : Int) := by omega
            clear HN0 HN1
            have CS3 := (unhide CS2).below (al_b w2 (.cells #[.int .i64 11, .int .i64 0, .string ⟨#[]⟩, .bool false, .slice none 0 0] 65))
            have HCS3 := hide CS3
            have hsz3 := (unhide CS2).sz
            clear CS3
            go_wp2_with (at_builtin; refine wpl_app1 ekFOp rfl (.tmp 58) (.tmp 61) rfl rfl (unhide HCS3).row (unhide HCS3).fsh (vs := [.int .i64 11, .int .i64 0, .string ⟨#[]⟩, .bool false, .slice none 0 0]) (y := opK 11) (fopE_lit _ _ _ _) (Fsh.nil _) (by simp) rfl (by exact lit_cells w2 [_, _, _, _, _] _) (fop_one _ _ _ _ _ _ _) (by simp; omega) (by omega) ?_)
            intro v3 w3 bl3 hA
            have CS4 := hide ((unhide HCS3).app hA)
            obtain ⟨za, zc, rfl, -, -⟩ := hA.row.form
            clear hA
            go_wp2
            go_roundw
            case rel =>
              refine ⟨i + 1, joinX 11 x y, za, _, zc, bl3, by omega, by go_num, rfl, rfl, HUP, ?_⟩
              show CS _ _ _ _ _ _ _ _ (ops ++ (x.1 ++ y.1 ++ [opK 11])) _
              rw [← List.append_assoc, ← List.append_assoc, unhide HL2]
              exact unhide CS4
            case measure => simp [intOf]; omega
      · have HR := hide ((unhide hu).fin (by omega) (unhide HNE))
        have hltI : ¬ (i : Int) < (ps.length : Int) := by omega
        clear hu
        go_wp2
        go_ret3
        refine ⟨(unhide hcs).fr.below (unhide HF).2 hB, (unhide hcs).shp, _, _, _, rfl, fun hn => (by rw [unhide HR] at hn; cases hn), fun y hy => ?_⟩
        rw [unhide HR] at hy
        injection hy with hy
        subst hy
        refine ⟨rfl, rfl, (unhide hcs).fr, bc, (unhide hcs).row, (unhide hcs).fsh, fun b hb => ?_⟩
        rcases (unhide hcs).new b hb with h1 | h1
        · exact .inl h1
        · right; omega
  · go_enter Try.func55, Try.ntmps55
    go_wp2_with fail
    refine (unhide HSP).mono ?_
    rintro e w1 ⟨tv, rfl, hts, b1⟩
    obtain ⟨ta, tc, rfl, -⟩ := hts.cells
    have hz1 := b1.size
    have S0 : Hid (CS w B w1.heap.size bl (.slice ta ps.length tc) ps w1 (.slice va ops.length vc) (ops ++ []) bl) := by
      show CS _ _ _ _ _ _ _ _ _ _
      rw [List.append_nil]
      exact ⟨.of_below b1, .of_below b1, (unhide HH).below b1, unhide HF, fun b hb => .inl hb, hts, fun g hg => (World.ownsRow.lt hts g hg).2, (unhide HH).lt, hz1, Nat.le_refl _⟩
    clear HSP hts b1
    go_wp2
    go_loopw [2, 12, 13] (fun ov dv iv wr => ∃ (i : Nat) (x : XC) (oa : Option Addr) (ol oc : Nat) (bc : List Nat), i ≤ ps.length ∧ iv = .int .i64 (i : Int) ∧ dv = .int .i64 (x.2 : Int) ∧ ov = .slice oa ol oc ∧ Hid (CUp g _ _ s.size R ps i x) ∧ Hid (CS w B w1.heap.size bl (.slice ta ps.length tc) ps wr (.slice oa ol oc) (ops ++ x.1) bc)) (fun _ _ iv _ => ps.length - (intOf iv).toNat)
    case atStart => exact ⟨0, ([], 0), va, ops.length, vc, bl, Nat.zero_le _, rfl, rfl, rfl, HU, S0⟩
    case round =>
      obtain ⟨i, x, oa, ol, oc, bc, hi, rfl, rfl, rfl, hu, hcs⟩ := hrel
      clear HU S0
      obtain ⟨hx1, hx2, hx3⟩ := (unhide hu).len
      by_cases hlt : i < ps.length
      · have hltI : (i : Int) < (ps.length : Int) := by omega
        obtain ⟨tb', tc', htv, hcell⟩ := (unhide hcs).ts.cells
        obtain ⟨gp, hgp, hc⟩ := hcell i hlt
        have htb : ta = some ⟨gp, 0, none⟩ := by injection htv with h1 _ _; rw [h1]; exact hgp
        subst htb
        have hpl := unhide HPL ps[i] (List.getElem_mem hlt)
        have hx4 := hx3 hlt
        have hsz := (unhide hcs).sz
        have hpz : (bsT ps[i]).size = ps[i].length := by simp [bsT, ByteArray.size]
        have hpd : (bsT ps[i]).data.toList = ps[i] := by simp [bsT]
        have HC := hide (unhide HIH (bsT ps[i]) _ _ bc B wr (by omega) (by omega) (unhide hcs).row (unhide hcs).fsh (by omega) (by rw [List.length_append, hpz]; omega))
        rw [hpd, hpz] at HC
        have HNX : Hid (∀ y, g ps[i] = some y → _) := fun y hp => (unhide hu).next (unhide HG) (y := y) hlt hp
        have HNO : Hid (g ps[i] = none → R = none) := fun hp => (unhide hu).no hlt hp
        have HLY : Hid (∀ y, g ps[i] = some y → y.1.length ≤ 3 * ps[i].length ∧ y.2 ≤ ps[i].length) := fun y hp => unhide HG ps[i] y hp
        clear hcell htv hgp hpz hpd hx3 hu
        generalize ps[i] = p at *
        go_wp2_with fail
        refine (unhide HC).mono ?_
        rintro e w2 ⟨b2, s2, v2, ok, d, rfl, hno, hyes⟩
        clear HC
        cases hp : g p with
        | none =>
          obtain ⟨rfl, -⟩ := hno hp
          have HR := hide (unhide HNO hp)
          have HAN : Hid (AnyR w2 B 65 5 (.slice oa ol oc) (ops.length + 3 * s.size + 3)) := (((unhide hcs).row.any (unhide hcs).fsh).shp s2).mono (by rw [List.length_append]; omega)
          have HBB : Hid (Below B w w2) := ((unhide hcs).fr.below (unhide HF).2 hB).trans b2
          have HSS : Hid (Shp w w2) := (unhide hcs).shp.trans s2
          clear hno hyes hp b2 s2 hcs HNX HNO HLY
          go_wp2
          try simp only [Exit.inBlock, Exit.then]
          go_ret3
          exact ⟨unhide HBB, unhide HSS, _, _, _, rfl, fun _ => ⟨rfl, unhide HAN⟩, fun y hy => by rw [unhide HR] at hy; cases hy⟩
        | some y =>
          obtain ⟨rfl, rfl, fr2, bl2, row2, fsh2, new2⟩ := hyes y hp
          have cs2 := (unhide hcs).step fr2 s2 row2 fsh2 new2
          obtain ⟨L2, hL2⟩ : ∃ L, ops ++ x.1 ++ y.1 = L := ⟨_, rfl⟩
          have hll : L2.length ≤ ops.length + 6 * s.size := by rw [← hL2, List.length_append, List.length_append]; have := (unhide HLY y hp).1; omega
          rw [hL2] at cs2 row2
          have CS2 := hide cs2
          have HL2 := hide hL2
          obtain ⟨hn0, hn1⟩ := unhide HNX y hp
          have HN0 := hide hn0
          have HN1 := hide hn1
          have hly := unhide HLY y hp
          obtain ⟨ya, yc, rfl, -, -⟩ := row2.form
          clear hno hyes hp b2 s2 hcs HNX HNO HLY cs2 hL2 row2 fsh2 new2 fr2 hn0 hn1
          go_upto_if 54 with fail
          go_cut [12] from 48 to 55 (fun dv wx => dv = .int .i64 ((max x.2 y.2 : Nat) : Int) ∧ w2 = wx)
          case first =>
            by_cases hd : x.2 < y.2
            · have hdI : (x.2 : Int) < (y.2 : Int) := by omega
              have HM : Hid (max x.2 y.2 = y.2) := by show _ = _; omega
              go_wp2
              go_meet
              case rel => exact ⟨by rw [unhide HM], rfl⟩
            · have hdI : ¬ (x.2 : Int) < (y.2 : Int) := by omega
              have HM : Hid (max x.2 y.2 = x.2) := by show _ = _; omega
              go_wp2
              go_meet
              case rel => exact ⟨by rw [unhide HM], rfl⟩
          obtain ⟨rfl, rfl⟩ := hcut
          by_cases h0 : i = 0
          · have HUP := hide (unhide HN0 h0)
            have h0I : ¬ (0 : Int) < (i : Int) := by omega
            have HI1 : Hid (i + 1 = 1) := by show _ = _; omega
            clear HN0 HN1
            go_wp2
            go_roundw
            case rel =>
              refine ⟨1, (x.1 ++ y.1, max x.2 y.2), ya, _, yc, bl2, by omega, by rw [← unhide HI1]; go_num, rfl, rfl, HUP, ?_⟩
              show CS _ _ _ _ _ _ _ _ (ops ++ (x.1 ++ y.1)) _
              rw [← List.append_assoc, unhide HL2]
              exact unhide CS2
            case measure => simp [intOf]; omega
          · have HUP := hide (unhide HN1 (by omega))
            have h0I : (0 : Int) < (i : Int) := by omega
            clear HN0 HN1
            have CS3 := (unhide CS2).below (al_b w2 (.cells #[.int .i64 10, .int .i64 0, .string ⟨#[]⟩, .bool false, .slice none 0 0] 65))
            have HCS3 := hide CS3
            have hsz3 := (unhide CS2).sz
            clear CS3
            go_wp2_with (at_builtin; refine wpl_app1 ekFOp rfl (.tmp 58) (.tmp 61) rfl rfl (unhide HCS3).row (unhide HCS3).fsh (vs := [.int .i64 10, .int .i64 0, .string ⟨#[]⟩, .bool false, .slice none 0 0]) (y := opK 10) (fopE_lit _ _ _ _) (Fsh.nil _) (by simp) rfl (by exact lit_cells w2 [_, _, _, _, _] _) (fop_one _ _ _ _ _ _ _) (by simp; omega) (by omega) ?_)
            intro v3 w3 bl3 hA
            have CS4 := hide ((unhide HCS3).app hA)
            obtain ⟨za, zc, rfl, -, -⟩ := hA.row.form
            clear hA
            go_wp2
            go_roundw
            case rel =>
              refine ⟨i + 1, joinX 10 x y, za, _, zc, bl3, by omega, by go_num, rfl, rfl, HUP, ?_⟩
              show CS _ _ _ _ _ _ _ _ (ops ++ (x.1 ++ y.1 ++ [opK 10])) _
              rw [← List.append_assoc, ← List.append_assoc, unhide HL2]
              exact unhide CS4
            case measure => simp [intOf]; omega
      · have HR := hide ((unhide hu).fin (by omega) (unhide HNE))
        have hltI : ¬ (i : Int) < (ps.length : Int) := by omega
        clear hu
        go_wp2
        go_ret3
        refine ⟨(unhide hcs).fr.below (unhide HF).2 hB, (unhide hcs).shp, _, _, _, rfl, fun hn => (by rw [unhide HR] at hn; cases hn), fun y hy => ?_⟩
        rw [unhide HR] at hy
        injection hy with hy
        subst hy
        refine ⟨rfl, rfl, (unhide hcs).fr, bc, (unhide hcs).row, (unhide hcs).fsh, fun b hb => ?_⟩
        rcases (unhide hcs).new b hb with h1 | h1
        · exact .inl h1
        · right; omega
theorem cond_prim {m : Nat} {g : Bs → Option XC} (IH : PrimOk m g) : CondOk m 2 g := by
  intro s v ops bl B w hm hs h hF hB hN
  have HC := hide (IH s v ops bl B w hm hs h hF hB hN)
  obtain ⟨va, vc, rfl, -, -⟩ := h.form
  clear h
  go_enter Try.func55, Try.ntmps55
  go_wp2_with fail
  refine (unhide HC).mono ?_
  rintro e w1 ⟨b1, s1, v1, ok, d, rfl, hno, hyes⟩
  have HX : Hid (CRet w B ops bl (ops.length + 3 * s.size + 3) (g s.data.toList) (.returned (.tuple #[v1, .bool ok, .int .i64 d])) w1) := ⟨b1, s1, v1, ok, d, rfl, hno, hyes⟩
  clear HC b1 s1 hno hyes
  go_wp2
  go_ret3
  exact unhide HX
theorem cond_all {m : Nat} {g : Bs → Option XC} (hg : Small g) (IH : PrimOk m g) : CondOk m 0 (sCdOf g) :=
  cond_join (.inl ⟨rfl, rfl, rfl, rfl⟩) (sJoin_len hg 10 38) (cond_join (.inr ⟨rfl, rfl, rfl, rfl⟩) hg (cond_prim IH))
theorem prim_all : ∀ n : Nat, PrimOk n (sPr n)
  | 0 => fun s v ops bl B w hm => by omega
  | n + 1 => fun s v ops bl B w hm hs h hF hB hN => by
    by_cases h0 : ∃ h0 : 0 < s.size, s[0] = 33
    · obtain ⟨h0, h33⟩ := h0
      exact prim_not (prim_all n) s v ops bl B w hm hs h hF hB hN h0 h33
    · exact prim_else (cond_all (sPr_len n) (prim_all n)) s v ops bl B w hm hs h hF hB hN fun h1 h2 => h0 ⟨h1, h2⟩
theorem cond_walk (n : Nat) : CondOk n 0 (sCdOf (sPr n)) := cond_all (sPr_len n) (prim_all n)
end Go.Proofs.Ytiolpmhodbefoaa

