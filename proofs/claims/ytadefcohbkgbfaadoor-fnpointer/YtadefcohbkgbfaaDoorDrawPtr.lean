import Derived.Test.YtadefcohbkgbfaaDoorDraw
import Derived.Laws.AppendOwnNone
namespace Go.Proofs.YtadefcohbkgbfaaDoor
open Go.RowKit

def Small (ts : List (List UInt8)) : Prop := ∀ t ∈ ts, t.length ≤ 3
theorem own_grown {w w1 : World} {B e size n : Nat} {v : Value} {xs : List Value} {r : Option Nat} (h : w.ownsRow B e size v n xs) (hg : w.grownBy w1 r) (hr : ∀ k, r = some k → k < B) : w1.ownsRow B e size v n xs := by
  refine h.kept hg ?_
  cases hv : v.ownBlock with
  | none => exact .inl rfl
  | some k => refine .inr (fun e => ?_); have := (h.lt k hv).1; have := hr k e.symm; omega

set_option maxHeartbeats 800000 in
theorem toks_walk (B rb : Nat) (w : World) (h : RdIs w B rb) :
    Calls Tryd.prog 33 #[.pointer (some ⟨rb, 0, none⟩)] w fun e w' => ∃ v ts, e = .returned v ∧ OT w' w.heap.size v ts ∧ ts.length ≤ 4 ∧ Small ts ∧ RdIs w' B rb ∧ w.grownBy w' (some rb) := by
  obtain ⟨i0, hi, hz0, hz1, hz2⟩ := info_parts infoString
  have hrb := h.lt
  have HN : Hid (∀ w, RdIs w B rb → Calls Tryd.prog 47 #[.pointer (some ⟨rb, 0, none⟩)] w fun e w' => ∃ x : Nat, x ≤ 255 ∧ e = .returned (.int .i64 x) ∧ RdIs w' B rb ∧ w.grownBy w' (some rb)) := fun w h => next_walk B rb w h
  have HR := hide h
  clear h
  go_enter Tryd.func33, Tryd.ntmps33
  go_wp2_with fail
  refine (unhide HN _ (unhide HR)).mono ?_
  rintro e w1 ⟨x, hx, rfl, r1, g1⟩
  have hs1 := g1.size
  have HO : Hid ((w1.alloc (.cells #[] 9)).ownsRow w.heap.size 9 1 (.slice (some ⟨w1.heap.size, 0, none⟩) 0 0) 0 []) := World.ownsRow_lit w1 #[] 0 g1.size (by unfold maxLen; omega) rfl
  have HR1 : Hid (RdIs (w1.alloc (.cells #[] 9)) B rb) := r1.grown (World.grownBy_alloc w1 _ none) (by simp) (fun k e => by cases e)
  have HG1 : Hid (w.grownBy (w1.alloc (.cells #[] 9)) (some rb)) := grownBy_trans g1 (World.grownBy_alloc w1 _ _)
  clear r1 g1 HR
  go_wp2
  go_loopw [4, 5] (fun v i wr => ∃ (j : Nat) (ts : List (List UInt8)), i = .int .i64 j ∧ j ≤ x % 5 ∧ ts.length = j ∧ OT wr w.heap.size v ts ∧ Small ts ∧ RdIs wr B rb ∧ w.grownBy wr (some rb)) (fun _ i _ => x % 5 - (intOf i).toNat)
  case atStart => exact ⟨0, [], rfl, Nat.zero_le _, rfl, unhide HO, (fun t ht => by cases ht), unhide HR1, unhide HG1⟩
  case round =>
    obtain ⟨j, ts, rfl, hj, hlen, hown, hsm, hrd, hg⟩ := hrel
    have HSM := hide hsm
    have HRD := hide hrd
    have HG := hide hg
    have hwr := hg.size
    have HL := hide hlen
    clear HO HR1 HG1 hsm hrd hg hlen
    by_cases hlt : j < x % 5
    · have hltI : (j : Int) < (x : Int) % 5 := by omega
      go_wp2_with fail
      refine (unhide HN _ (unhide HRD)).mono ?_
      rintro e w2 ⟨y, hy, rfl, r2, g2⟩
      have own2 := own_grown hown g2 (fun k e => by injection e with e; omega)
      have HR2 := hide r2
      have HG2 := hide (grownBy_trans (unhide HG) g2)
      have hw2 := (unhide HG2).size
      clear hown r2 g2 HRD HG
      go_wp2_with fail
      refine (key_walk y w2 hy).mono ?_
      rintro e w' ⟨t, ht, rfl, rfl⟩
      have hlen := unhide HL
      have hts : ts.length ≤ 4 := by omega
      have HL4 := hide hlen
      clear hlen HL
      go_wp2_with (at_builtin; refine wpList_append_own _ rfl (.tmp 15) (.tmp 19) 27 rfl w.heap.size 9 i0 (.string ByteArray.empty) 1 16 Tryd.underlying27 hi hz0 hz1 hz2 rfl (by decide) _ _ _ rfl (own2.alloc _) ⟨w2.heap.size, 0, none⟩ 1 1 [.string (baT t)] rfl rfl (lit1 _ _ _) (one_tok _) (by unfold maxLen; omega) (by omega) (by simp; omega) ?_)
      intro v3 w3 hown3 hgrow3 _
      have HG3 : Hid (w.grownBy w3 (some rb)) := grownBy_new (grownBy_trans (unhide HG2) (World.grownBy_alloc w2 _ _)) hgrow3 (fun k hk => (own2.lt k hk).1)
      have HR3 : Hid (RdIs w3 B rb) := ((unhide HR2).grown (World.grownBy_alloc w2 _ none) (by simp) (fun k e => by cases e)).grown hgrow3 (fun e => by have := (own2.lt rb e.symm).1; omega) (fun k e => by have := (own2.lt k e).1; have := (unhide HR2); obtain ⟨_, _, _, _, _, _, _, h9, _⟩ := this; omega)
      have own3 := OT.step (t := t) hown3
      have HS3 : Hid (Small (ts ++ [t])) := fun q hq => by
        rcases List.mem_append.1 hq with hq | hq
        · exact unhide HSM q hq
        · simp at hq; subst hq; exact ht
      clear hown3 hgrow3 own2 HR2 HG2 HSM
      go_wp2
      go_roundw
      case rel => exact ⟨j + 1, ts ++ [t], by go_num, by omega, by have := unhide HL4; simp; omega, own3, unhide HS3, unhide HR3, unhide HG3⟩
      case measure => simp [intOf]; omega
    · have hltI : ¬ (j : Int) < (x : Int) % 5 := by omega
      go_wp2
      go_ret
      exact ⟨_, rfl, ts, hown, by have := unhide HL; omega, unhide HSM, unhide HRD, unhide HG⟩

set_option maxHeartbeats 800000 in
theorem open_walk (xa : Option Addr) (xb xo xc : Nat) (l : List UInt8) (w : World) (h : BS w xa xb xo l) (hl : l.length ≤ 1048576) (hc : l.length ≤ xc) :
    Calls Tryd.prog 32 #[.slice xa l.length xc] w fun e w' => e = .returned (.pointer (some ⟨w.heap.size, 0, none⟩)) ∧ RdIs w' w.heap.size w.heap.size ∧ Below w.heap.size w w' ∧ w'.heap.size = w.heap.size + 1 := by
  have hbb : 0 < l.length → xb < w.heap.size := fun h0 => World.block_lt_of_cell? _ _ (h.cell 0 h0)
  have HB := hide h
  have HBB := hide hbb
  clear h hbb
  by_cases hgt : 1200 < l.length
  · have hgtI : (1200 : Int) < (l.length : Int) := by omega
    go_enter Tryd.func32, Tryd.ntmps32
    go_wp2
    go_ret
    refine ⟨rfl, ⟨_, xc, 0, l.take 1200, xb, xo, ?_, Nat.le_refl _, Nat.zero_le _, by rw [List.length_take]; omega, ((unhide HB).take 1200).grown (World.grownBy_alloc w _ none) (fun _ e => by cases e), fun _ => unhide HBB (by omega)⟩, (Below.refl _ _).alloc (Nat.le_refl _) _, by simp⟩
    rw [heap_alloc_new]; rw [List.length_take, Nat.min_eq_left (by omega)]; rfl
  · have hgtI : ¬ (1200 : Int) < (l.length : Int) := by omega
    go_enter Tryd.func32, Tryd.ntmps32
    go_wp2
    go_ret
    refine ⟨rfl, ⟨_, xc, 0, l, xb, xo, ?_, Nat.le_refl _, Nat.zero_le _, by omega, (unhide HB).grown (World.grownBy_alloc w _ none) (fun _ e => by cases e), unhide HBB⟩, (Below.refl _ _).alloc (Nat.le_refl _) _, by simp⟩
    rw [heap_alloc_new]; rfl

/-- Appending one owned row of texts to another. -/
theorem OT.cells {w : World} {B : Nat} {v : Value} {ts : List (List UInt8)} (h : OT w B v ts) : (v = .slice none 0 0 ∧ ts = []) ∨ ∃ g cap, v = .slice (some ⟨g, 0, none⟩) ts.length cap ∧ (∀ j u, (ts.map tokCell)[j]? = some u → w.cell? ((⟨g, 0, none⟩ : Addr).add j) = some u) := by
  rcases h.2 with ⟨hv, h0⟩ | ⟨g, cap, cur, hv, _⟩
  · exact .inl ⟨hv, List.eq_nil_of_length_eq_zero h0⟩
  · refine .inr ⟨g, cap, hv, fun j u hj => ?_⟩
    subst hv
    exact World.ownsRow.cells h rfl j u hj
theorem tok_one (ts : List (List UInt8)) : ∀ u ∈ ts.map tokCell, u.oneCell' = true := by
  intro u hu; obtain ⟨t, _, rfl⟩ := List.mem_map.1 hu; rfl
theorem OT.join {w : World} {B : Nat} {v : Value} {ts us : List (List UInt8)} (h : w.ownsRow B 9 1 v (ts.length + us.length) (ts.map tokCell ++ us.map tokCell)) : OT w B v (ts ++ us) := by
  unfold OT; rw [List.length_append, List.map_append]; exact h

theorem wpList_append_OT {w : World} {ops : Array Oper} {rest : List Oper} {o : Oper} {a : Act} {Q : Exit → Act → World → Prop} (hg : o.guard = none) (s x : Operand)
    (ho : o.op = .call { callee := .builtin .append, args := #[s, x], argTypes := #[27, 27] }) {B B' : Nat} {v u : Value} {ts us : List (List UInt8)} (hs : a.eval s = v) (hx : a.eval x = u)
    (h : OT w B v ts) (k : OT w B' u us) (hB : B ≤ w.heap.size) (hl : ts.length + us.length ≤ 1000000)
    (hK : ∀ v' w', OT w' B v' (ts ++ us) → w.grownBy w' v.ownBlock → wpList Tryd.prog ops Q rest (a.put o.dst v') w') : wpList Tryd.prog ops Q (o :: rest) a w := by
  obtain ⟨i0, hi, hz0, hz1, hz2⟩ := info_parts infoString
  rcases k.cells with ⟨rfl, rfl⟩ | ⟨g, cap, rfl, hcell⟩
  · refine wpList_append_own_none hg s x 27 ho B 9 i0 1 Tryd.underlying27 hi v _ _ hs h hx ?_
    exact hK v w (by rw [List.append_nil]; exact h) (World.grownBy.refl _ _)
  · refine wpList_append_own _ hg s x 27 ho B 9 i0 (.string ByteArray.empty) 1 16 Tryd.underlying27 hi hz0 hz1 hz2 rfl (by decide) v _ _ hs h ⟨g, 0, none⟩ us.length cap (us.map tokCell) hx (by simp) hcell (tok_one us) (by unfold maxLen; omega) (by omega) hB ?_
    intro v' w' h1 h2 _
    exact hK v' w' (OT.join h1) h2

set_option maxHeartbeats 800000 in
theorem drawPtr_walk (xa : Option Addr) (xb xo xc : Nat) (l : List UInt8) (w : World) (h : BS w xa xb xo l) (hl : l.length ≤ 1048576) (hc : l.length ≤ xc) :
    Calls Tryd.prog 17 #[.slice xa l.length xc] w fun e w' => ∃ v ts, e = .returned v ∧ OT w' w.heap.size v ts ∧ ts.length ≤ 8 ∧ Small ts ∧ Below w.heap.size w w' := by
  obtain ⟨i0, hi, hz0, hz1, hz2⟩ := info_parts infoString
  have HC := hide (open_walk xa xb xo xc l w h hl hc)
  clear h
  go_enter Tryd.func17, Tryd.ntmps17
  go_wp2_with fail
  refine (unhide HC).mono ?_
  rintro e w1 ⟨rfl, r1, b1, z1⟩
  have HR1 := hide r1
  clear r1 HC
  go_wp2_with fail
  refine (toks_walk w.heap.size w.heap.size w1 (unhide HR1)).mono ?_
  rintro e w2 ⟨v2, ts, rfl, o2, l2, s2, r2, g2⟩
  have HR2 := hide r2
  have O2 := hide o2
  have S2 := hide s2
  have G2 := hide g2
  clear r2 HR1 o2 s2 g2
  go_wp2_with fail
  refine (toks_walk w.heap.size w.heap.size w2 (unhide HR2)).mono ?_
  rintro e w3 ⟨v3, us, rfl, o3, l3, s3, r3, g3⟩
  have o2' : OT w3 w1.heap.size v2 ts := own_grown (unhide O2) g3 (fun k e => by injection e with e; omega)
  have HB3 : Hid (Below w.heap.size w w3) := below_of_grownD (below_of_grownD b1 (unhide G2) (by omega) (fun j e => by injection e with e; omega)) g3 (by have := (unhide G2).size; omega) (fun j e => by injection e with e; omega)
  have S3 : Hid (Small (ts ++ us)) := fun q hq => by
    rcases List.mem_append.1 hq with hq | hq
    · exact unhide S2 q hq
    · exact s3 q hq
  have hw3 := (unhide HB3).size
  have hw31 : w1.heap.size ≤ w3.heap.size := Nat.le_trans (unhide G2).size g3.size
  rcases o3.cells with ⟨rfl, rfl⟩ | ⟨g, cap, rfl, hcell⟩
  · clear o3 s3 r3 g3 HR2 O2 S2 G2 b1
    go_wp2_with (at_builtin; refine wpList_append_own_none rfl (.tmp 7) (.tmp 9) 27 rfl w1.heap.size 9 i0 1 Tryd.underlying27 hi _ _ _ rfl o2' rfl ?_)
    go_wp2
    go_ret
    exact ⟨_, ts ++ [], rfl, by rw [List.append_nil]; exact own_mono o2' (by omega), by simp; omega, unhide S3, unhide HB3⟩
  · have hone := tok_one us
    clear o3 s3 r3 g3 HR2 O2 S2 G2 b1
    go_wp2_with (at_builtin; refine wpList_append_own _ rfl (.tmp 7) (.tmp 9) 27 rfl w1.heap.size 9 i0 (.string ByteArray.empty) 1 16 Tryd.underlying27 hi hz0 hz1 hz2 rfl (by decide) _ _ _ rfl o2' ⟨g, 0, none⟩ us.length cap (us.map tokCell) rfl (by simp) hcell hone (by unfold maxLen; omega) (by omega) hw31 ?_)
    intro v4 w4 hown4 hgrow4 _
    have HB4 : Hid (Below w.heap.size w w4) := (unhide HB3).grown hgrow4 hw3 (fun k hk => by have := (o2'.lt k hk).1; omega)
    have own4 : OT w4 w.heap.size v4 (ts ++ us) := own_mono (OT.join hown4) (by omega)
    clear hown4 hgrow4 o2' hcell hone HB3
    go_wp2
    go_ret
    exact ⟨_, ts ++ us, rfl, own4, by simp; omega, unhide S3, unhide HB4⟩
end Go.Proofs.YtadefcohbkgbfaaDoor
