import Derived.Deep.QuietTactic
import Derived.Lib.Builder
import Derived.BigQuiet
import Derived.Test.YtlfonikfjibloaaGreatDoorBt1
import Derived.Laws.AppendOwnNone
import Derived.Lib.QuietBelow
namespace Go.Proofs.YtlfonikfjibloaaGreatDoor
open Go.RowKit

structure BS (w : World) (xa : Option Addr) (xb xo : Nat) (l : List UInt8) : Prop where
  ad : 0 < l.length → xa = some ⟨xb, xo, none⟩
  cell : ∀ j, j < l.length → w.cell? ⟨xb, xo + j, none⟩ = some (.int .u8 (l.getD j 0).toNat)
theorem BS.grown {w w' : World} {xa : Option Addr} {xb xo : Nat} {l : List UInt8} {r : Option Nat} (h : BS w xa xb xo l) (hg : w.grownBy w' r) (hne : 0 < l.length → some xb ≠ r) : BS w' xa xb xo l :=
  ⟨h.ad, fun j hj => hg.cell (h.cell j hj) (hne (by omega))⟩
theorem BS.below {w w' : World} {xa : Option Addr} {xb xo : Nat} {l : List UInt8} (h : BS w xa xb xo l) (hb : Below w.heap.size w w') : BS w' xa xb xo l :=
  ⟨h.ad, fun j hj => (hb.cell (p := ⟨xb, xo + j, none⟩) (World.block_lt_of_cell? _ _ (h.cell j hj))).trans (h.cell j hj)⟩
theorem BS.take {w : World} {xa : Option Addr} {xb xo : Nat} {l : List UInt8} (h : BS w xa xb xo l) (n : Nat) : BS w xa xb xo (l.take n) :=
  ⟨fun h0 => h.ad (by rw [List.length_take] at h0; omega), fun j hj => by
    rw [List.length_take] at hj
    rw [h.cell j (by omega)]; simp [List.getD, show j < n from by omega]⟩

/-- The reader of drawn bytes: block rb holds it; its bytes lie below B. -/
def RdIs (w : World) (B rb : Nat) : Prop := ∃ (a : Option Addr) (c p : Nat) (l : List UInt8) (bb bo : Nat), w.heap[rb]? = some (.cells #[.slice a l.length c, .int .i64 p] 208 (0, 0)) ∧ B ≤ rb ∧ p ≤ l.length ∧ l.length ≤ 1200 ∧ BS w a bb bo l ∧ (0 < l.length → bb < B)
theorem RdIs.lt {w : World} {B rb : Nat} (h : RdIs w B rb) : rb < w.heap.size := by
  obtain ⟨a, c, p, l, bb, bo, hh, _⟩ := h; exact (Array.getElem?_eq_some_iff.1 hh).1
theorem RdIs.grown {w w' : World} {B rb : Nat} {r : Option Nat} (h : RdIs w B rb) (hg : w.grownBy w' r) (hne : some rb ≠ r) (hB : ∀ k, r = some k → B ≤ k) : RdIs w' B rb := by
  have hlt := h.lt
  obtain ⟨a, c, p, l, bb, bo, hh, h1, h2, h3, h4, h5⟩ := h
  exact ⟨a, c, p, l, bb, bo, (hg.block rb hlt hne).trans hh, h1, h2, h3, h4.grown hg (fun h0 e => by have := hB bb e.symm; have := h5 h0; omega), h5⟩
theorem grownBy_trans {w w1 w2 : World} {r : Option Nat} (h : w.grownBy w1 r) (k : w1.grownBy w2 r) : w.grownBy w2 r :=
  ⟨k.os.trans h.os, k.tape.trans h.tape, k.output.trans h.output, Nat.le_trans h.size k.size, fun j hj hne => (k.block j (Nat.lt_of_lt_of_le hj h.size) hne).trans (h.block j hj hne)⟩
/-- Writes to a row that was not there at the start: nothing of the start has turned but row r. -/
theorem grownBy_new {w w1 w2 : World} {r : Option Nat} {s : Option Nat} (h : w.grownBy w1 r) (k : w1.grownBy w2 s) (hs : ∀ j, s = some j → w.heap.size ≤ j) : w.grownBy w2 r :=
  ⟨k.os.trans h.os, k.tape.trans h.tape, k.output.trans h.output, Nat.le_trans h.size k.size, fun j hj hne => (k.block j (Nat.lt_of_lt_of_le hj h.size) (fun e => by have := hs j e.symm; omega)).trans (h.block j hj hne)⟩
theorem grownBy_below {w w1 : World} {r : Option Nat} (h : Below w.heap.size w w1) : w.grownBy w1 r := ⟨h.os, h.tape, h.output, h.size, fun k hk _ => h.block k hk⟩
theorem below_of_grownD {w w1 w2 : World} {B : Nat} {r : Option Nat} (h : Below B w w1) (k : w1.grownBy w2 r) (hB : B ≤ w1.heap.size) (hr : ∀ j, r = some j → B ≤ j) : Below B w w2 := h.grown k hB hr

theorem heap_set (w : World) (rb : Nat) (x y z : Value) (T : TypeId) (h : w.heap[rb]? = some (.cells #[x, y] T (0, 0))) : (w.setCell ⟨rb, 1, none⟩ z).heap[rb]? = some (.cells #[x, z] T (0, 0)) := by
  have := heap_setCell_same w rb 1 #[x, y] T z h
  simpa using this

theorem grown_setD (w : World) (n rb i : Nat) (z : Value) : w.grownBy ((w.drewN n).setCell ⟨rb, i, none⟩ z) (some rb) :=
  ⟨rfl, rfl, rfl, by simp [World.setCell], fun k _ hne => Below.heap_setCell (w.drewN n) ⟨rb, i, none⟩ z k (fun e => hne (by rw [e]))⟩
theorem grown_draws (w : World) (n : Nat) (r : Option Nat) : w.grownBy (w.drewN n) r := ⟨rfl, rfl, rfl, Nat.le_refl _, fun _ _ _ => rfl⟩

set_option maxHeartbeats 800000 in
theorem next_walk (B rb : Nat) (w : World) (h : RdIs w B rb) :
    Calls Tryz.prog 59 #[.pointer (some ⟨rb, 0, none⟩)] w fun e w' => ∃ x : Nat, x ≤ 255 ∧ e = .returned (.int .i64 x) ∧ RdIs w' B rb ∧ w.grownBy w' (some rb) := by
  obtain ⟨a, c, p, l, bb, bo, hh, hB, hp, hl, hbs, hbb⟩ := h
  have c0 : w.cell? ⟨rb, 0, none⟩ = some (.slice a l.length c) := by rw [Lib.cell_of_heap hh]; rfl
  have c1 : w.cell? ⟨rb, 1, none⟩ = some (.int .i64 p) := by rw [Lib.cell_of_heap hh]; rfl
  have f1 : w.frozen? ⟨rb, 1, none⟩ = false := Lib.frozen_of_heap hh 1
  have HH := hide hh
  have HBS := hide hbs
  clear hh hbs
  by_cases hlt : p < l.length
  · have ca := (unhide HBS).cell p hlt
    obtain rfl := (unhide HBS).ad (by omega)
    have hx : (l.getD p 0).toNat ≤ 255 := by have := UInt8.toNat_lt (l.getD p 0); omega
    generalize (l.getD p 0).toNat = x at *
    have hltI : (p : Int) < (l.length : Int) := by omega
    go_enter Tryz.func59, Tryz.ntmps59
    go_wp2
    go_quiet (fail)
    go_wp2
    go_quiet (fail)
    go_wp2
    go_ret
    refine ⟨x, hx, rfl, ⟨_, c, p + 1, l, bb, bo, ?_, hB, by omega, hl, (unhide HBS).grown (grown_setD w _ rb 1 _) (fun h0 e => by have := hbb h0; injection e with e; omega), hbb⟩, grown_setD w _ rb 1 _⟩
    exact heap_set _ rb _ _ _ _ (unhide HH)
  · have hltI : ¬ (p : Int) < (l.length : Int) := by omega
    go_enter Tryz.func59, Tryz.ntmps59
    go_wp2
    go_quiet (fail)
    go_wp2
    go_ret
    exact ⟨0, by omega, rfl, ⟨a, c, p, l, bb, bo, unhide HH, hB, hp, hl, (unhide HBS).grown (grown_draws w _ none) (fun _ e => by cases e), hbb⟩, grown_draws w _ _⟩

set_option maxHeartbeats 800000 in
theorem key_walk (k : Nat) (w : World) (hk : k ≤ 255) :
    Calls Tryz.prog 112 #[.int .i64 k] w fun e w' => ∃ t : List UInt8, t.length ≤ 3 ∧ e = .returned (.string (baT t)) ∧ w = w' := by
  by_cases h4 : k % 12 < 4
  · rcases (show k % 12 = 0 ∨ k % 12 = 1 ∨ k % 12 = 2 ∨ k % 12 = 3 from by omega) with h | h | h | h
    · have e : (k : Int) % 12 = 0 := by omega
      clear h4 h hk
      go_enter Tryz.func112, Tryz.ntmps112
      go_wp2
      go_ret
      exact ⟨[97], by decide, rfl, rfl⟩
    · have e : (k : Int) % 12 = 1 := by omega
      clear h4 h hk
      go_enter Tryz.func112, Tryz.ntmps112
      go_wp2
      go_ret
      exact ⟨[98], by decide, rfl, rfl⟩
    · have e : (k : Int) % 12 = 2 := by omega
      clear h4 h hk
      go_enter Tryz.func112, Tryz.ntmps112
      go_wp2
      go_ret
      exact ⟨[99], by decide, rfl, rfl⟩
    · have e : (k : Int) % 12 = 3 := by omega
      clear h4 h hk
      go_enter Tryz.func112, Tryz.ntmps112
      go_wp2
      go_ret
      exact ⟨[100], by decide, rfl, rfl⟩
  · have h4' : (4 : Int) ≤ (k : Int) % 12 := by omega
    go_enter Tryz.func112, Tryz.ntmps112
    go_wp2
    all_goals go_ret
    all_goals first
      | exact ⟨[48], by decide, rfl, rfl⟩
      | exact ⟨[49, 50], by decide, rfl, rfl⟩
      | exact ⟨[97, 47, 98], by decide, rfl, rfl⟩
      | exact ⟨[126, 116], by decide, rfl, rfl⟩
      | exact ⟨[195, 169], by decide, rfl, rfl⟩
      | exact ⟨[], by decide, rfl, rfl⟩
      | exact ⟨[45], by decide, rfl, rfl⟩
      | exact ⟨[120, 39, 92], by decide, rfl, rfl⟩
end Go.Proofs.YtlfonikfjibloaaGreatDoor

namespace Go.Proofs.YtlfonikfjibloaaGreatDoor
open Go.RowKit

def Small (ts : List (List UInt8)) : Prop := ∀ t ∈ ts, t.length ≤ 3
theorem own_grown {w w1 : World} {B e size n : Nat} {v : Value} {xs : List Value} {r : Option Nat} (h : w.ownsRow B e size v n xs) (hg : w.grownBy w1 r) (hr : ∀ k, r = some k → k < B) : w1.ownsRow B e size v n xs := by
  refine h.kept hg ?_
  cases hv : v.ownBlock with
  | none => exact .inl rfl
  | some k => refine .inr (fun e => ?_); have := (h.lt k hv).1; have := hr k e.symm; omega

set_option maxHeartbeats 800000 in
theorem toks_walk (B rb : Nat) (w : World) (h : RdIs w B rb) :
    Calls Tryz.prog 110 #[.pointer (some ⟨rb, 0, none⟩)] w fun e w' => ∃ v ts, e = .returned v ∧ OT w' w.heap.size v ts ∧ ts.length ≤ 4 ∧ Small ts ∧ RdIs w' B rb ∧ w.grownBy w' (some rb) := by
  obtain ⟨i0, hi, hz0, hz1, hz2⟩ := info_parts infoString
  have hrb := h.lt
  have HN : Hid (∀ w, RdIs w B rb → Calls Tryz.prog 59 #[.pointer (some ⟨rb, 0, none⟩)] w fun e w' => ∃ x : Nat, x ≤ 255 ∧ e = .returned (.int .i64 x) ∧ RdIs w' B rb ∧ w.grownBy w' (some rb)) := fun w h => next_walk B rb w h
  have HR := hide h
  clear h
  go_enter Tryz.func110, Tryz.ntmps110
  go_wp2_with fail
  refine (unhide HN _ (unhide HR)).mono ?_
  rintro e w1 ⟨x, hx, rfl, r1, g1⟩
  have hs1 := g1.size
  have HO : Hid ((w1.alloc (.cells #[] 9)).ownsRow w.heap.size 9 1 (.slice (some ⟨w1.heap.size, 0, none⟩) 0 0) 0 []) := World.ownsRow_lit w1 #[] 0 g1.size (by unfold maxLen; omega) rfl
  have HR1 : Hid (RdIs (w1.alloc (.cells #[] 9)) B rb) := r1.grown (World.grownBy_alloc w1 _ none) (by simp) (fun k e => by cases e)
  have HG1 : Hid (w.grownBy (w1.alloc (.cells #[] 9)) (some rb)) := grownBy_trans g1 (World.grownBy_alloc w1 _ _)
  clear r1 g1 HR
  go_wp2
  go_loopw [4, 5] (fun v i wr => ∃ (j : Nat) (ts : List (List UInt8)), i = .int .i64 j ∧ j ≤ x % 5 ∧ ts.length = j ∧ OT wr w.heap.size v ts ∧ Small ts ∧ RdIs wr B rb ∧ w.grownBy wr (some rb)) (fun _ i _ => x % 5 - (intOf i).toNat)
  case atStart => exact ⟨0, [], rfl, Nat.zero_le _, rfl, unhide HO, (fun t ht => by cases ht), unhide HR1, unhide HG1⟩
  case round =>
    obtain ⟨j, ts, rfl, hj, hlen, hown, hsm, hrd, hg⟩ := hrel
    have HSM := hide hsm
    have HRD := hide hrd
    have HG := hide hg
    have hwr := hg.size
    have HL := hide hlen
    clear HO HR1 HG1 hsm hrd hg hlen
    by_cases hlt : j < x % 5
    · have hltI : (j : Int) < (x : Int) % 5 := by omega
      go_wp2_with fail
      refine (unhide HN _ (unhide HRD)).mono ?_
      rintro e w2 ⟨y, hy, rfl, r2, g2⟩
      have own2 := own_grown hown g2 (fun k e => by injection e with e; omega)
      have HR2 := hide r2
      have HG2 := hide (grownBy_trans (unhide HG) g2)
      have hw2 := (unhide HG2).size
      clear hown r2 g2 HRD HG
      go_wp2_with fail
      refine (key_walk y w2 hy).mono ?_
      rintro e w' ⟨t, ht, rfl, rfl⟩
      have hlen := unhide HL
      have hts : ts.length ≤ 4 := by omega
      have HL4 := hide hlen
      clear hlen HL
      go_wp2_with (at_builtin; refine wpList_append_own _ rfl (.tmp 15) (.tmp 19) 51 rfl w.heap.size 9 i0 (.string ByteArray.empty) 1 16 Tryz.underlying51 hi hz0 hz1 hz2 rfl (by decide) _ _ _ rfl (own2.alloc _) ⟨w2.heap.size, 0, none⟩ 1 1 [.string (baT t)] rfl rfl (lit1 _ _ _) (one_tok _) (by unfold maxLen; omega) (by omega) (by simp; omega) ?_)
      intro v3 w3 hown3 hgrow3 _
      have HG3 : Hid (w.grownBy w3 (some rb)) := grownBy_new (grownBy_trans (unhide HG2) (World.grownBy_alloc w2 _ _)) hgrow3 (fun k hk => (own2.lt k hk).1)
      have HR3 : Hid (RdIs w3 B rb) := ((unhide HR2).grown (World.grownBy_alloc w2 _ none) (by simp) (fun k e => by cases e)).grown hgrow3 (fun e => by have := (own2.lt rb e.symm).1; omega) (fun k e => by have := (own2.lt k e).1; have := (unhide HR2); obtain ⟨_, _, _, _, _, _, _, h9, _⟩ := this; omega)
      have own3 := OT.step (t := t) hown3
      have HS3 : Hid (Small (ts ++ [t])) := fun q hq => by
        rcases List.mem_append.1 hq with hq | hq
        · exact unhide HSM q hq
        · simp at hq; subst hq; exact ht
      clear hown3 hgrow3 own2 HR2 HG2 HSM
      go_wp2
      go_roundw
      case rel => exact ⟨j + 1, ts ++ [t], by go_num, by omega, by have := unhide HL4; simp; omega, own3, unhide HS3, unhide HR3, unhide HG3⟩
      case measure => simp [intOf]; omega
    · have hltI : ¬ (j : Int) < (x : Int) % 5 := by omega
      go_wp2
      go_ret
      exact ⟨_, rfl, ts, hown, by have := unhide HL; omega, unhide HSM, unhide HRD, unhide HG⟩

set_option maxHeartbeats 800000 in
theorem open_walk (xa : Option Addr) (xb xo xc : Nat) (l : List UInt8) (w : World) (h : BS w xa xb xo l) (hl : l.length ≤ 1048576) (hc : l.length ≤ xc) :
    Calls Tryz.prog 55 #[.slice xa l.length xc] w fun e w' => e = .returned (.pointer (some ⟨w.heap.size, 0, none⟩)) ∧ RdIs w' w.heap.size w.heap.size ∧ Below w.heap.size w w' ∧ w'.heap.size = w.heap.size + 1 := by
  have hbb : 0 < l.length → xb < w.heap.size := fun h0 => World.block_lt_of_cell? _ _ (h.cell 0 h0)
  have HB := hide h
  have HBB := hide hbb
  clear h hbb
  by_cases hgt : 1200 < l.length
  · have hgtI : (1200 : Int) < (l.length : Int) := by omega
    go_enter Tryz.func55, Tryz.ntmps55
    go_wp2
    go_ret
    refine ⟨rfl, ⟨_, xc, 0, l.take 1200, xb, xo, ?_, Nat.le_refl _, Nat.zero_le _, by rw [List.length_take]; omega, ((unhide HB).take 1200).grown (World.grownBy_alloc w _ none) (fun _ e => by cases e), fun _ => unhide HBB (by omega)⟩, (Below.refl _ _).alloc (Nat.le_refl _) _, by simp⟩
    rw [heap_alloc_new]; rw [List.length_take, Nat.min_eq_left (by omega)]; rfl
  · have hgtI : ¬ (1200 : Int) < (l.length : Int) := by omega
    go_enter Tryz.func55, Tryz.ntmps55
    go_wp2
    go_ret
    refine ⟨rfl, ⟨_, xc, 0, l, xb, xo, ?_, Nat.le_refl _, Nat.zero_le _, by omega, (unhide HB).grown (World.grownBy_alloc w _ none) (fun _ e => by cases e), unhide HBB⟩, (Below.refl _ _).alloc (Nat.le_refl _) _, by simp⟩
    rw [heap_alloc_new]; rfl

/-- Appending one owned row of texts to another. -/
theorem OT.cells {w : World} {B : Nat} {v : Value} {ts : List (List UInt8)} (h : OT w B v ts) : (v = .slice none 0 0 ∧ ts = []) ∨ ∃ g cap, v = .slice (some ⟨g, 0, none⟩) ts.length cap ∧ (∀ j u, (ts.map tokCell)[j]? = some u → w.cell? ((⟨g, 0, none⟩ : Addr).add j) = some u) := by
  rcases h.2 with ⟨hv, h0⟩ | ⟨g, cap, cur, hv, _⟩
  · exact .inl ⟨hv, List.eq_nil_of_length_eq_zero h0⟩
  · refine .inr ⟨g, cap, hv, fun j u hj => ?_⟩
    subst hv
    exact World.ownsRow.cells h rfl j u hj
theorem tok_one (ts : List (List UInt8)) : ∀ u ∈ ts.map tokCell, u.oneCell' = true := by
  intro u hu; obtain ⟨t, _, rfl⟩ := List.mem_map.1 hu; rfl
theorem OT.join {w : World} {B : Nat} {v : Value} {ts us : List (List UInt8)} (h : w.ownsRow B 9 1 v (ts.length + us.length) (ts.map tokCell ++ us.map tokCell)) : OT w B v (ts ++ us) := by
  unfold OT; rw [List.length_append, List.map_append]; exact h

theorem wpList_append_OT {w : World} {ops : Array Oper} {rest : List Oper} {o : Oper} {a : Act} {Q : Exit → Act → World → Prop} (hg : o.guard = none) (s x : Operand)
    (ho : o.op = .call { callee := .builtin .append, args := #[s, x], argTypes := #[51, 51] }) {B B' : Nat} {v u : Value} {ts us : List (List UInt8)} (hs : a.eval s = v) (hx : a.eval x = u)
    (h : OT w B v ts) (k : OT w B' u us) (hB : B ≤ w.heap.size) (hl : ts.length + us.length ≤ 1000000)
    (hK : ∀ v' w', OT w' B v' (ts ++ us) → w.grownBy w' v.ownBlock → wpList Tryz.prog ops Q rest (a.put o.dst v') w') : wpList Tryz.prog ops Q (o :: rest) a w := by
  obtain ⟨i0, hi, hz0, hz1, hz2⟩ := info_parts infoString
  rcases k.cells with ⟨rfl, rfl⟩ | ⟨g, cap, rfl, hcell⟩
  · refine wpList_append_own_none hg s x 51 ho B 9 i0 1 Tryz.underlying51 hi v _ _ hs h hx ?_
    exact hK v w (by rw [List.append_nil]; exact h) (World.grownBy.refl _ _)
  · refine wpList_append_own _ hg s x 51 ho B 9 i0 (.string ByteArray.empty) 1 16 Tryz.underlying51 hi hz0 hz1 hz2 rfl (by decide) v _ _ hs h ⟨g, 0, none⟩ us.length cap (us.map tokCell) hx (by simp) hcell (tok_one us) (by unfold maxLen; omega) (by omega) hB ?_
    intro v' w' h1 h2 _
    exact hK v' w' (OT.join h1) h2

end Go.Proofs.YtlfonikfjibloaaGreatDoor

namespace Go.Proofs.YtlfonikfjibloaaGreatDoor
open Go.RowKit

theorem utf8_at (z : Int) (r : Nat) (hz : z = (r : Int)) (w : World) (hr : r ≤ 1114111) :
    Calls Tryz.prog 197 #[.int .i64 z] w fun e w' => e = .returned (.string (strOf (utf r))) ∧ Below w.heap.size w w' := by
  subst hz; exact utf8_walk r w hr
theorem byte_eq (c : UInt8) : UInt8.ofNat c.toNat = c := UInt8.ofNat_toNat

theorem ext_1 (s : ByteArray) (i : Nat) (hi : i < s.size)  : (s.extract i (i + 1)).toList = [s[i]] := by
  rw [Lib.toList_data, Lib.extract_data]
  rw [drop_at s i hi]
  rw [show i + 1 - i = 1 from by omega]
  rfl
theorem cmp_1 (s : ByteArray) (i : Nat) (hi : i < s.size)  (a : 0 ≤ s[i].toNat) (b : s[i].toNat ≤ 127)  : ((strOf (utf (s[i].toNat))).toList == (s.extract i (i + 1)).toList) = decide (0 ≤ s[i].toNat) := by
  rw [ext_1 s i hi , Lib.toList_data, strOf_toList]
  by_cases hm : 0 ≤ s[i].toNat
  · have hu : utf (s[i].toNat) = [s[i]] := by
      unfold utf utfZ
      rw [if_pos (by omega)]
      simp only [List.map_cons, List.map_nil, byte_eq]
    rw [hu, decide_eq_true hm]; simp
  · omega

set_option maxHeartbeats 800000 in
set_option maxRecDepth 100000 in
theorem rl_1 (s : ByteArray) (i : Nat) (w : World) (hi : i < s.size) (hs : s.size ≤ 1048576) (h : 0 ≤ s[i].toNat) (h' : s[i].toNat ≤ 127) :
    Calls Tryz.prog 194 #[.string s, .int .i64 i] w fun e w' => e = .returned (.int .i64 (rl s i)) ∧ Below w.heap.size w w' := by
  have HR : Hid (rl s i = 1) := by show _ = _; unfold rl; rw [rlN_one (by rw [bt_at s i hi]; omega)]
  have hI : (0 : Int) ≤ (s[i].toNat : Int) := by omega
  have hI' : (s[i].toNat : Int) ≤ 127 := by omega
  go_enter Tryz.func194, Tryz.ntmps194
  go_wp2
  go_loop [7, 8] (fun r k => (k = .int .i64 1 ∧ r = .int .i64 ((s[i].toNat : Int)))) (fun _ k => 1 - (intOf k).toNat)
  case atStart => exact ⟨rfl, rfl⟩
  case round =>
    obtain ⟨rfl, rfl⟩ := hrel
    have HZ : Hid ((s[i].toNat : Int) = ((s[i].toNat : Nat) : Int)) := by show _ = _; omega
    have hz2 : (0 : Int) ≤ (s[i].toNat : Int) ∧ (s[i].toNat : Int) ≤ 127 := by omega
    have HC := hide (cmp_1 s i hi  h h' )
    have HE : Hid (rl s i = if 0 ≤ s[i].toNat then 1 else 0) := by have e := unhide HR; show _ = _; rw [e, if_pos (by omega)]
    obtain ⟨z1, z2⟩ := hz2
    have i1 : (i : Int) + 1 ≤ (s.size : Int) := by omega
    have i2 : (i : Int) ≤ (i : Int) + 1 := by omega
    have i3 : (0 : Int) ≤ (i : Int) := by omega
    have hzR := unhide HZ
    have e1 : decide ((1114111 : Int) < (s[i].toNat : Int)) = false := by simp; omega
    have e2 : decide ((55296 : Int) ≤ (s[i].toNat : Int)) = false := by simp; omega
    have y1 : ¬ (1114111 : Int) < (s[i].toNat : Int) := by omega
    have y2 : (s[i].toNat : Int) < (55296 : Int) := by omega
    have HU : Hid (∀ d os, Calls Tryz.prog 197 #[.int .i64 (s[i].toNat : Int)] (Sort.grow (redrawn w d) os) fun e w'' => e = .returned (.string (strOf (utf s[i].toNat))) ∧ ∃ p : Regrown, w'' = Sort.grow (redrawn w p.d) p.os) := fun d os => Calls.regrown_of (utf8_at _ _ hzR _ (by omega))
    have hm0 : 0 ≤ s[i].toNat ∨ ¬ 0 ≤ s[i].toNat := Decidable.em _
    rcases hm0 with hm | hm
    · have HEQ : Hid (rl s i = 1) := by have e := unhide HE; show _ = _; rw [e, if_pos hm]
      rw [decide_eq_true hm] at HC
      have hcmp := unhide HC
      clear hzR HC hm
      generalize strOf (utf s[i].toNat) = us at *
      go_wp2
      refine wp_region_quiet_below (by kernel_rfl) (by kernel_rfl) ?_
      repeat (first | go_big_quiet_step ((go_at_call 197; exact unhide HU _ _)) | quiet_step ((go_at_call 197; exact unhide HU _ _)))
      refine wpQuiet_nil ?_
      intro _ hw'
      obtain ⟨⟨dq, osq⟩, hw''⟩ := hw'
      subst hw''
      go_wp2
      go_ret
      exact ⟨by rw [unhide HEQ]; rfl, below_regrown w dq osq⟩
    · omega
end Go.Proofs.YtlfonikfjibloaaGreatDoor

namespace Go.Proofs.YtlfonikfjibloaaGreatDoor
open Go.RowKit

theorem ext_2 (s : ByteArray) (i : Nat) (hi : i < s.size) (h1 : i + 1 < s.size) : (s.extract i (i + 2)).toList = [s[i], s[i + 1]] := by
  rw [Lib.toList_data, Lib.extract_data]
  rw [drop_at s i hi]
  rw [drop_at s (i + 1) h1]
  rw [show i + 2 - i = 2 from by omega]
  rfl
theorem cmp_2 (s : ByteArray) (i : Nat) (hi : i < s.size) (h1 : i + 1 < s.size) (a : 192 ≤ s[i].toNat) (b : s[i].toNat ≤ 223) (p1 : 128 ≤ s[i + 1].toNat) (q1 : s[i + 1].toNat < 192) : ((strOf (utf ((s[i].toNat - 192) * 64 + (s[i + 1].toNat - 128)))).toList == (s.extract i (i + 2)).toList) = decide (128 ≤ (s[i].toNat - 192) * 64 + (s[i + 1].toNat - 128)) := by
  rw [ext_2 s i hi h1, Lib.toList_data, strOf_toList]
  by_cases hm : 128 ≤ (s[i].toNat - 192) * 64 + (s[i + 1].toNat - 128)
  · have hu : utf ((s[i].toNat - 192) * 64 + (s[i + 1].toNat - 128)) = [s[i], s[i + 1]] := by
      unfold utf utfZ
      rw [if_neg (by omega), if_pos (by omega)]
      have e0 : 192 + ((s[i].toNat - 192) * 64 + (s[i + 1].toNat - 128)) / 64 = s[i].toNat := by omega
      have e1 : 128 + ((s[i].toNat - 192) * 64 + (s[i + 1].toNat - 128)) % 64 = s[i + 1].toNat := by omega
      rw [e0, e1]
      simp only [List.map_cons, List.map_nil, byte_eq]
    rw [hu, decide_eq_true hm]; simp
  · rw [decide_eq_false hm, beq_eq_false_iff_ne]
    intro e
    have h := congrArg List.length e
    unfold utf utfZ at h
    simp only [List.length_map, List.length_cons, List.length_nil] at h
    split at h
    · simp at h
    · first | omega | (split at h; simp at h; first | omega | (split at h; simp at h; omega))

set_option maxHeartbeats 4000000 in
set_option maxRecDepth 100000 in
theorem rl_2 (s : ByteArray) (i : Nat) (w : World) (hi : i < s.size) (hs : s.size ≤ 1048576) (h : 192 ≤ s[i].toNat) (h' : s[i].toNat ≤ 223) :
    Calls Tryz.prog 194 #[.string s, .int .i64 i] w fun e w' => e = .returned (.int .i64 (rl s i)) ∧ Below w.heap.size w w' := by
  have HR : Hid (rl s i = if 2 ≤ s.size - i ∧ 128 ≤ bt s (i + 1) ∧ bt s (i + 1) < 192 ∧ 128 ≤ (s[i].toNat - 192) * 64 + (bt s (i + 1) - 128) then 2 else 0) := by
    show _ = _; unfold rl; rw [rlN_2 (by rw [bt_at s i hi]; exact h) (by rw [bt_at s i hi]; omega) (bt_lt _ _), bt_at s i hi]
  have hI : (192 : Int) ≤ (s[i].toNat : Int) := by omega
  have hI' : (s[i].toNat : Int) ≤ 223 := by omega
  by_cases hlen : i + 1 < s.size
  · have h1 : i + 1 < s.size := by omega
    rw [bt_at s (i + 1) h1] at HR
    go_enter Tryz.func194, Tryz.ntmps194
    go_wp2
    go_loop [7, 8] (fun r k => (k = .int .i64 1 ∧ r = .int .i64 ((s[i].toNat : Int) - 192)) ∨ (k = .int .i64 2 ∧ 128 ≤ s[i + 1].toNat ∧ s[i + 1].toNat < 192 ∧ r = .int .i64 (((s[i].toNat : Int) - 192) * 64 + (s[i + 1].toNat : Int) - 128))) (fun _ k => 2 - (intOf k).toNat)
    case atStart => exact .inl ⟨rfl, rfl⟩
    case round =>
      rcases hrel with ⟨rfl, rfl⟩ | ⟨rfl, p1, q1, rfl⟩
      · by_cases hc : 128 ≤ s[i + 1].toNat ∧ s[i + 1].toNat < 192
        · obtain ⟨c1, c2⟩ := hc
          have x1 : ¬ (s[i + 1].toNat : Int) < 128 := by omega
          have x2 : ¬ (192 : Int) ≤ (s[i + 1].toNat : Int) := by omega
          have x3 : decide ((s[i + 1].toNat : Int) < 128) = false := by simp; omega
          go_wp2
          go_round
          case rel => exact .inr (⟨by go_num, c1, c2, by go_num⟩)
          case measure => simp [intOf]
        · have HF : Hid (rl s i = 0) := by have e := unhide HR; show _ = _; rw [e, if_neg (by omega)]
          rcases (show s[i + 1].toNat < 128 ∨ 192 ≤ s[i + 1].toNat from by omega) with hlow | hhigh
          · have x1 : (s[i + 1].toNat : Int) < 128 := by omega
            clear hc
            go_wp2
            go_ret
            exact ⟨by rw [unhide HF]; rfl, Below.refl _ _⟩
          · have x1 : ¬ (s[i + 1].toNat : Int) < 128 := by omega
            have x2 : (192 : Int) ≤ (s[i + 1].toNat : Int) := by omega
            have x3 : decide ((s[i + 1].toNat : Int) < 128) = false := by simp; omega
            clear hc
            go_wp2
            go_ret
            exact ⟨by rw [unhide HF]; rfl, Below.refl _ _⟩
      · have HZ : Hid (((s[i].toNat : Int) - 192) * 64 + (s[i + 1].toNat : Int) - 128 = (((s[i].toNat - 192) * 64 + (s[i + 1].toNat - 128) : Nat) : Int)) := by show _ = _; omega
        have hz2 : (0 : Int) ≤ ((s[i].toNat : Int) - 192) * 64 + (s[i + 1].toNat : Int) - 128 ∧ ((s[i].toNat : Int) - 192) * 64 + (s[i + 1].toNat : Int) - 128 ≤ 2047 := by omega
        have HC := hide (cmp_2 s i hi h1 h h' p1 q1)
        have HE : Hid (rl s i = if 128 ≤ (s[i].toNat - 192) * 64 + (s[i + 1].toNat - 128) then 2 else 0) := by have e := unhide HR; show _ = _; rw [e]; exact (Decidable.em (128 ≤ (s[i].toNat - 192) * 64 + (s[i + 1].toNat - 128))).elim (fun hm => by rw [if_pos hm]; exact if_pos (by omega)) (fun hm => by rw [if_neg hm]; exact if_neg (by omega))
        generalize ((s[i].toNat - 192) * 64 + (s[i + 1].toNat - 128)) = R at *
        generalize ((s[i].toNat : Int) - 192) * 64 + (s[i + 1].toNat : Int) - 128 = z at *
        obtain ⟨z1, z2⟩ := hz2
        have i1 : (i : Int) + 2 ≤ (s.size : Int) := by omega
        have i2 : (i : Int) ≤ (i : Int) + 2 := by omega
        have i3 : (0 : Int) ≤ (i : Int) := by omega
        have hzR := unhide HZ
        have e1 : decide ((1114111 : Int) < z) = false := by simp; omega
        have e2 : decide ((55296 : Int) ≤ z) = false := by simp; omega
        have y1 : ¬ (1114111 : Int) < z := by omega
        have y2 : z < (55296 : Int) := by omega
        have HU : Hid (∀ d os, Calls Tryz.prog 197 #[.int .i64 z] (Sort.grow (redrawn w d) os) fun e w'' => e = .returned (.string (strOf (utf R))) ∧ ∃ p : Regrown, w'' = Sort.grow (redrawn w p.d) p.os) := fun d os => Calls.regrown_of (utf8_at _ _ hzR _ (by omega))
        have hm0 : 128 ≤ R ∨ ¬ 128 ≤ R := Decidable.em _
        rcases hm0 with hm | hm
        · have HEQ : Hid (rl s i = 2) := by have e := unhide HE; show _ = _; rw [e, if_pos hm]
          rw [decide_eq_true hm] at HC
          have hcmp := unhide HC
          clear hzR HC hm
          generalize strOf (utf R) = us at *
          go_wp2
          refine wp_region_quiet_below (by kernel_rfl) (by kernel_rfl) ?_
          repeat (first | go_big_quiet_step ((go_at_call 197; exact unhide HU _ _)) | quiet_step ((go_at_call 197; exact unhide HU _ _)))
          refine wpQuiet_nil ?_
          intro _ hw'
          obtain ⟨⟨dq, osq⟩, hw''⟩ := hw'
          subst hw''
          go_wp2
          go_ret
          exact ⟨by rw [unhide HEQ]; rfl, below_regrown w dq osq⟩
        · have HEQ : Hid (rl s i = 0) := by have e := unhide HE; show _ = _; rw [e, if_neg hm]
          rw [decide_eq_false hm] at HC
          have hcmp := unhide HC
          clear hzR HC hm
          generalize strOf (utf R) = us at *
          go_wp2
          refine wp_region_quiet_below (by kernel_rfl) (by kernel_rfl) ?_
          repeat (first | go_big_quiet_step ((go_at_call 197; exact unhide HU _ _)) | quiet_step ((go_at_call 197; exact unhide HU _ _)))
          refine wpQuiet_nil ?_
          intro _ hw'
          obtain ⟨⟨dq, osq⟩, hw''⟩ := hw'
          subst hw''
          go_wp2
          go_ret
          exact ⟨by rw [unhide HEQ]; rfl, below_regrown w dq osq⟩
  · have HF : Hid (rl s i = 0) := by have e := unhide HR; show _ = _; rw [e, if_neg (by omega)]
    have x1 : (s.size : Int) < (i : Int) + 2 := by omega
    go_enter Tryz.func194, Tryz.ntmps194
    go_wp2
    go_ret
    exact ⟨by rw [unhide HF]; rfl, Below.refl _ _⟩
end Go.Proofs.YtlfonikfjibloaaGreatDoor

namespace Go.Proofs.YtlfonikfjibloaaGreatDoor
open Go.RowKit

theorem ext_3 (s : ByteArray) (i : Nat) (hi : i < s.size) (h1 : i + 1 < s.size) (h2 : i + 2 < s.size) : (s.extract i (i + 3)).toList = [s[i], s[i + 1], s[i + 2]] := by
  rw [Lib.toList_data, Lib.extract_data]
  rw [drop_at s i hi]
  rw [drop_at s (i + 1) h1]
  rw [drop_at s (i + 2) h2]
  rw [show i + 3 - i = 3 from by omega]
  rfl
theorem cmp_3 (s : ByteArray) (i : Nat) (hi : i < s.size) (h1 : i + 1 < s.size) (h2 : i + 2 < s.size) (a : 224 ≤ s[i].toNat) (b : s[i].toNat ≤ 239) (p1 : 128 ≤ s[i + 1].toNat) (q1 : s[i + 1].toNat < 192) (p2 : 128 ≤ s[i + 2].toNat) (q2 : s[i + 2].toNat < 192) : ((strOf (utf ((s[i].toNat - 224) * 4096 + (s[i + 1].toNat - 128) * 64 + (s[i + 2].toNat - 128)))).toList == (s.extract i (i + 3)).toList) = decide (2048 ≤ (s[i].toNat - 224) * 4096 + (s[i + 1].toNat - 128) * 64 + (s[i + 2].toNat - 128)) := by
  rw [ext_3 s i hi h1 h2, Lib.toList_data, strOf_toList]
  by_cases hm : 2048 ≤ (s[i].toNat - 224) * 4096 + (s[i + 1].toNat - 128) * 64 + (s[i + 2].toNat - 128)
  · have hu : utf ((s[i].toNat - 224) * 4096 + (s[i + 1].toNat - 128) * 64 + (s[i + 2].toNat - 128)) = [s[i], s[i + 1], s[i + 2]] := by
      unfold utf utfZ
      rw [if_neg (by omega), if_neg (by omega), if_pos (by omega)]
      have e0 : 224 + ((s[i].toNat - 224) * 4096 + (s[i + 1].toNat - 128) * 64 + (s[i + 2].toNat - 128)) / 4096 = s[i].toNat := by omega
      have e1 : 128 + ((s[i].toNat - 224) * 4096 + (s[i + 1].toNat - 128) * 64 + (s[i + 2].toNat - 128)) / 64 % 64 = s[i + 1].toNat := by omega
      have e2 : 128 + ((s[i].toNat - 224) * 4096 + (s[i + 1].toNat - 128) * 64 + (s[i + 2].toNat - 128)) % 64 = s[i + 2].toNat := by omega
      rw [e0, e1, e2]
      simp only [List.map_cons, List.map_nil, byte_eq]
    rw [hu, decide_eq_true hm]; simp
  · rw [decide_eq_false hm, beq_eq_false_iff_ne]
    intro e
    have h := congrArg List.length e
    unfold utf utfZ at h
    simp only [List.length_map, List.length_cons, List.length_nil] at h
    split at h
    · simp at h
    · first | omega | (split at h; simp at h; first | omega | (split at h; simp at h; omega))

set_option maxHeartbeats 4000000 in
set_option maxRecDepth 100000 in
theorem rl_3 (s : ByteArray) (i : Nat) (w : World) (hi : i < s.size) (hs : s.size ≤ 1048576) (h : 224 ≤ s[i].toNat) (h' : s[i].toNat ≤ 239) :
    Calls Tryz.prog 194 #[.string s, .int .i64 i] w fun e w' => e = .returned (.int .i64 (rl s i)) ∧ Below w.heap.size w w' := by
  have HR : Hid (rl s i = if 3 ≤ s.size - i ∧ 128 ≤ bt s (i + 1) ∧ bt s (i + 1) < 192 ∧ 128 ≤ bt s (i + 2) ∧ bt s (i + 2) < 192 ∧ 2048 ≤ (s[i].toNat - 224) * 4096 + (bt s (i + 1) - 128) * 64 + (bt s (i + 2) - 128) ∧ ((s[i].toNat - 224) * 4096 + (bt s (i + 1) - 128) * 64 + (bt s (i + 2) - 128) < 55296 ∨ 57344 ≤ (s[i].toNat - 224) * 4096 + (bt s (i + 1) - 128) * 64 + (bt s (i + 2) - 128)) then 3 else 0) := by
    show _ = _; unfold rl; rw [rlN_3 (by rw [bt_at s i hi]; exact h) (by rw [bt_at s i hi]; omega) (bt_lt _ _) (bt_lt _ _), bt_at s i hi]
  have hI : (224 : Int) ≤ (s[i].toNat : Int) := by omega
  have hI' : (s[i].toNat : Int) ≤ 239 := by omega
  by_cases hlen : i + 2 < s.size
  · have h1 : i + 1 < s.size := by omega
    have h2 : i + 2 < s.size := by omega
    rw [bt_at s (i + 1) h1] at HR
    rw [bt_at s (i + 2) h2] at HR
    go_enter Tryz.func194, Tryz.ntmps194
    go_wp2
    go_loop [7, 8] (fun r k => (k = .int .i64 1 ∧ r = .int .i64 ((s[i].toNat : Int) - 224)) ∨ (k = .int .i64 2 ∧ 128 ≤ s[i + 1].toNat ∧ s[i + 1].toNat < 192 ∧ r = .int .i64 (((s[i].toNat : Int) - 224) * 64 + (s[i + 1].toNat : Int) - 128)) ∨ (k = .int .i64 3 ∧ 128 ≤ s[i + 1].toNat ∧ s[i + 1].toNat < 192 ∧ 128 ≤ s[i + 2].toNat ∧ s[i + 2].toNat < 192 ∧ r = .int .i64 ((((s[i].toNat : Int) - 224) * 64 + (s[i + 1].toNat : Int) - 128) * 64 + (s[i + 2].toNat : Int) - 128))) (fun _ k => 3 - (intOf k).toNat)
    case atStart => exact .inl ⟨rfl, rfl⟩
    case round =>
      rcases hrel with ⟨rfl, rfl⟩ | ⟨rfl, p1, q1, rfl⟩ | ⟨rfl, p1, q1, p2, q2, rfl⟩
      · by_cases hc : 128 ≤ s[i + 1].toNat ∧ s[i + 1].toNat < 192
        · obtain ⟨c1, c2⟩ := hc
          have x1 : ¬ (s[i + 1].toNat : Int) < 128 := by omega
          have x2 : ¬ (192 : Int) ≤ (s[i + 1].toNat : Int) := by omega
          have x3 : decide ((s[i + 1].toNat : Int) < 128) = false := by simp; omega
          go_wp2
          go_round
          case rel => exact .inr (.inl ⟨by go_num, c1, c2, by go_num⟩)
          case measure => simp [intOf]
        · have HF : Hid (rl s i = 0) := by have e := unhide HR; show _ = _; rw [e, if_neg (by omega)]
          rcases (show s[i + 1].toNat < 128 ∨ 192 ≤ s[i + 1].toNat from by omega) with hlow | hhigh
          · have x1 : (s[i + 1].toNat : Int) < 128 := by omega
            clear hc
            go_wp2
            go_ret
            exact ⟨by rw [unhide HF]; rfl, Below.refl _ _⟩
          · have x1 : ¬ (s[i + 1].toNat : Int) < 128 := by omega
            have x2 : (192 : Int) ≤ (s[i + 1].toNat : Int) := by omega
            have x3 : decide ((s[i + 1].toNat : Int) < 128) = false := by simp; omega
            clear hc
            go_wp2
            go_ret
            exact ⟨by rw [unhide HF]; rfl, Below.refl _ _⟩
      · by_cases hc : 128 ≤ s[i + 2].toNat ∧ s[i + 2].toNat < 192
        · obtain ⟨c1, c2⟩ := hc
          have x1 : ¬ (s[i + 2].toNat : Int) < 128 := by omega
          have x2 : ¬ (192 : Int) ≤ (s[i + 2].toNat : Int) := by omega
          have x3 : decide ((s[i + 2].toNat : Int) < 128) = false := by simp; omega
          go_wp2
          go_round
          case rel => exact .inr (.inr (⟨by go_num, p1, q1, c1, c2, by go_num⟩))
          case measure => simp [intOf]
        · have HF : Hid (rl s i = 0) := by have e := unhide HR; show _ = _; rw [e, if_neg (by omega)]
          rcases (show s[i + 2].toNat < 128 ∨ 192 ≤ s[i + 2].toNat from by omega) with hlow | hhigh
          · have x1 : (s[i + 2].toNat : Int) < 128 := by omega
            clear hc
            go_wp2
            go_ret
            exact ⟨by rw [unhide HF]; rfl, Below.refl _ _⟩
          · have x1 : ¬ (s[i + 2].toNat : Int) < 128 := by omega
            have x2 : (192 : Int) ≤ (s[i + 2].toNat : Int) := by omega
            have x3 : decide ((s[i + 2].toNat : Int) < 128) = false := by simp; omega
            clear hc
            go_wp2
            go_ret
            exact ⟨by rw [unhide HF]; rfl, Below.refl _ _⟩
      · have HZ : Hid ((((s[i].toNat : Int) - 224) * 64 + (s[i + 1].toNat : Int) - 128) * 64 + (s[i + 2].toNat : Int) - 128 = (((s[i].toNat - 224) * 4096 + (s[i + 1].toNat - 128) * 64 + (s[i + 2].toNat - 128) : Nat) : Int)) := by show _ = _; omega
        have hz2 : (0 : Int) ≤ (((s[i].toNat : Int) - 224) * 64 + (s[i + 1].toNat : Int) - 128) * 64 + (s[i + 2].toNat : Int) - 128 ∧ (((s[i].toNat : Int) - 224) * 64 + (s[i + 1].toNat : Int) - 128) * 64 + (s[i + 2].toNat : Int) - 128 ≤ 65535 := by omega
        have HC := hide (cmp_3 s i hi h1 h2 h h' p1 q1 p2 q2)
        have HE : Hid ((55296 ≤ (s[i].toNat - 224) * 4096 + (s[i + 1].toNat - 128) * 64 + (s[i + 2].toNat - 128) ∧ (s[i].toNat - 224) * 4096 + (s[i + 1].toNat - 128) * 64 + (s[i + 2].toNat - 128) < 57344) ∨ 1114111 < (s[i].toNat - 224) * 4096 + (s[i + 1].toNat - 128) * 64 + (s[i + 2].toNat - 128) → rl s i = 0) := fun hb => by have e := unhide HR; rw [e, if_neg (by omega)]
        have HE2 : Hid (¬ ((55296 ≤ (s[i].toNat - 224) * 4096 + (s[i + 1].toNat - 128) * 64 + (s[i + 2].toNat - 128) ∧ (s[i].toNat - 224) * 4096 + (s[i + 1].toNat - 128) * 64 + (s[i + 2].toNat - 128) < 57344) ∨ 1114111 < (s[i].toNat - 224) * 4096 + (s[i + 1].toNat - 128) * 64 + (s[i + 2].toNat - 128)) → rl s i = if 2048 ≤ (s[i].toNat - 224) * 4096 + (s[i + 1].toNat - 128) * 64 + (s[i + 2].toNat - 128) then 3 else 0) := fun hb => by have e := unhide HR; rw [e]; exact (Decidable.em (2048 ≤ (s[i].toNat - 224) * 4096 + (s[i + 1].toNat - 128) * 64 + (s[i + 2].toNat - 128))).elim (fun hm => by rw [if_pos hm]; exact if_pos (by omega)) (fun hm => by rw [if_neg hm]; exact if_neg (by omega))
        generalize ((s[i].toNat - 224) * 4096 + (s[i + 1].toNat - 128) * 64 + (s[i + 2].toNat - 128)) = R at *
        generalize (((s[i].toNat : Int) - 224) * 64 + (s[i + 1].toNat : Int) - 128) * 64 + (s[i + 2].toNat : Int) - 128 = z at *
        obtain ⟨z1, z2⟩ := hz2
        have i1 : (i : Int) + 3 ≤ (s.size : Int) := by omega
        have i2 : (i : Int) ≤ (i : Int) + 3 := by omega
        have i3 : (0 : Int) ≤ (i : Int) := by omega
        have hzR := unhide HZ
        by_cases ha : z < 55296
        · have e1 : decide ((1114111 : Int) < z) = false := by simp; omega
          have e2 : decide ((55296 : Int) ≤ z) = false := by simp; omega
          have y1 : ¬ (1114111 : Int) < z := by omega
          have y2 : z < (55296 : Int) := ha
          have HU : Hid (∀ d os, Calls Tryz.prog 197 #[.int .i64 z] (Sort.grow (redrawn w d) os) fun e w'' => e = .returned (.string (strOf (utf R))) ∧ ∃ p : Regrown, w'' = Sort.grow (redrawn w p.d) p.os) := fun d os => Calls.regrown_of (utf8_at _ _ hzR _ (by omega))
          have hm0 : 2048 ≤ R ∨ ¬ 2048 ≤ R := Decidable.em _
          rcases hm0 with hm | hm
          · have HEQ : Hid (rl s i = 3) := by have e := unhide HE2 (by omega); show _ = _; rw [e, if_pos hm]
            rw [decide_eq_true hm] at HC
            have hcmp := unhide HC
            clear hzR HC hm
            generalize strOf (utf R) = us at *
            go_wp2
            refine wp_region_quiet_below (by kernel_rfl) (by kernel_rfl) ?_
            repeat (first | go_big_quiet_step ((go_at_call 197; exact unhide HU _ _)) | quiet_step ((go_at_call 197; exact unhide HU _ _)))
            refine wpQuiet_nil ?_
            intro _ hw'
            obtain ⟨⟨dq, osq⟩, hw''⟩ := hw'
            subst hw''
            go_wp2
            go_ret
            exact ⟨by rw [unhide HEQ]; rfl, below_regrown w dq osq⟩
          · have HEQ : Hid (rl s i = 0) := by have e := unhide HE2 (by omega); show _ = _; rw [e, if_neg hm]
            rw [decide_eq_false hm] at HC
            have hcmp := unhide HC
            clear hzR HC hm
            generalize strOf (utf R) = us at *
            go_wp2
            refine wp_region_quiet_below (by kernel_rfl) (by kernel_rfl) ?_
            repeat (first | go_big_quiet_step ((go_at_call 197; exact unhide HU _ _)) | quiet_step ((go_at_call 197; exact unhide HU _ _)))
            refine wpQuiet_nil ?_
            intro _ hw'
            obtain ⟨⟨dq, osq⟩, hw''⟩ := hw'
            subst hw''
            go_wp2
            go_ret
            exact ⟨by rw [unhide HEQ]; rfl, below_regrown w dq osq⟩
        · by_cases hb : z < 57344
          · have e1 : decide ((1114111 : Int) < z) = false := by simp; omega
            have e2 : decide ((55296 : Int) ≤ z) = true := by simp; omega
            have e3 : decide (z < (57344 : Int)) = true := by simp; omega
            have y1 : ¬ (1114111 : Int) < z := by omega
            have y2 : (55296 : Int) ≤ z := by omega
            have HEQ : Hid (rl s i = 0) := unhide HE (by omega)
            clear hzR HC
            go_wp2
            refine wp_region_quiet_below (by kernel_rfl) (by kernel_rfl) ?_
            repeat (first | go_big_quiet_step (fail) | quiet_step (fail))
            refine wpQuiet_nil ?_
            intro _ hw'
            obtain ⟨⟨dq, osq⟩, hw''⟩ := hw'
            subst hw''
            go_wp2
            go_ret
            exact ⟨by rw [unhide HEQ]; rfl, below_regrown w dq osq⟩
          · have e1 : decide ((1114111 : Int) < z) = false := by simp; omega
            have e2 : decide ((55296 : Int) ≤ z) = true := by simp; omega
            have e3 : decide (z < (57344 : Int)) = false := by simp; omega
            have y1 : ¬ (1114111 : Int) < z := by omega
            have y2 : (55296 : Int) ≤ z := by omega
            have y3 : ¬ z < (57344 : Int) := hb
            have HU : Hid (∀ d os, Calls Tryz.prog 197 #[.int .i64 z] (Sort.grow (redrawn w d) os) fun e w'' => e = .returned (.string (strOf (utf R))) ∧ ∃ p : Regrown, w'' = Sort.grow (redrawn w p.d) p.os) := fun d os => Calls.regrown_of (utf8_at _ _ hzR _ (by omega))
            have hm0 : 2048 ≤ R ∨ ¬ 2048 ≤ R := Decidable.em _
            rcases hm0 with hm | hm
            · have HEQ : Hid (rl s i = 3) := by have e := unhide HE2 (by omega); show _ = _; rw [e, if_pos hm]
              rw [decide_eq_true hm] at HC
              have hcmp := unhide HC
              clear hzR HC hm
              generalize strOf (utf R) = us at *
              go_wp2
              refine wp_region_quiet_below (by kernel_rfl) (by kernel_rfl) ?_
              repeat (first | go_big_quiet_step ((go_at_call 197; exact unhide HU _ _)) | quiet_step ((go_at_call 197; exact unhide HU _ _)))
              refine wpQuiet_nil ?_
              intro _ hw'
              obtain ⟨⟨dq, osq⟩, hw''⟩ := hw'
              subst hw''
              go_wp2
              go_ret
              exact ⟨by rw [unhide HEQ]; rfl, below_regrown w dq osq⟩
            · have HEQ : Hid (rl s i = 0) := by have e := unhide HE2 (by omega); show _ = _; rw [e, if_neg hm]
              rw [decide_eq_false hm] at HC
              have hcmp := unhide HC
              clear hzR HC hm
              generalize strOf (utf R) = us at *
              go_wp2
              refine wp_region_quiet_below (by kernel_rfl) (by kernel_rfl) ?_
              repeat (first | go_big_quiet_step ((go_at_call 197; exact unhide HU _ _)) | quiet_step ((go_at_call 197; exact unhide HU _ _)))
              refine wpQuiet_nil ?_
              intro _ hw'
              obtain ⟨⟨dq, osq⟩, hw''⟩ := hw'
              subst hw''
              go_wp2
              go_ret
              exact ⟨by rw [unhide HEQ]; rfl, below_regrown w dq osq⟩
  · have HF : Hid (rl s i = 0) := by have e := unhide HR; show _ = _; rw [e, if_neg (by omega)]
    have x1 : (s.size : Int) < (i : Int) + 3 := by omega
    go_enter Tryz.func194, Tryz.ntmps194
    go_wp2
    go_ret
    exact ⟨by rw [unhide HF]; rfl, Below.refl _ _⟩
end Go.Proofs.YtlfonikfjibloaaGreatDoor
