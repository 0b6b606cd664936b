import Derived.Maps.AppendAt
import Derived.Test.YtadefcohbkgbfabGreatDoorBn29
import Derived.Deep.LoopGhost
import Derived.Carry
import Derived.Deep.CutRange
namespace Go.Proofs.YtadefcohbkgbfabGreatDoor
open Go.RowKit

/-- An append to an owned row, as one step of a region that draws; where the new row lies. -/
theorem step_append_at {P : Program} {ops : Array Oper} {o : Oper} {a : Act} {w : World} {K : Act → World → Prop} {Q : Exit → Act → World → Prop} {E : Prop}
    (hg : o.guard = none) (s x : Operand) (t : TypeId) (hop : o.op = Op.call { callee := Callee.builtin Builtin.append, args := #[s, x], argTypes := #[t, t] })
    (base : Nat) (e : TypeId) (i : TypeInfo) (z : Value) (size bytes : Nat) (ht : P.underlying t = some (.slice e)) (hi : P.info? e = some i) (hz : i.zero = some z)
    (hsize : i.size = size) (hby : i.bytes = bytes) (hzs : z.cells.size = size) (hsz : 0 < size)
    (v : Value) (n : Nat) (xs : List Value) (hs : a.eval s = v) (hown : w.ownsRow base e size v n xs)
    (ad : Addr) (m c : Nat) (news : List Value) (hx : a.eval x = .slice (some ad) m c) (hl : news.length = m * size) (hnews : ∀ j u, news[j]? = some u → w.cell? (ad.add j) = some u) (h1 : ∀ u ∈ news, u.oneCell' = true)
    (h63 : n + m ≤ maxLen) (hbytes : (n + m) * bytes ≤ 140737488355328) (hbase : base ≤ w.heap.size)
    (hK : ∀ v' w', w'.ownsRow base e size v' (n + m) (xs ++ news) → w.grownBy w' v.ownBlock → (v'.ownBlock = v.ownBlock ∨ v'.ownBlock = some w.heap.size) → K (a.put o.dst v') w') :
    if Region.wanted o (yielded ops a.tmps) = true then Oper.wp P o a w K Q else E := by
  have hw : Region.wanted o (yielded ops a.tmps) = true := by simp [Region.wanted, hg]
  rw [if_pos hw]
  obtain ⟨v', w', hrun, r1, r2, _, r4⟩ := run_append_own_at (P := P) (w := w) base t o.type e i z size bytes ht hi hz hsize hby hzs hsz v n xs hown ad m c news hl hnews h1 h63 hbytes hbase
  unfold Oper.wp
  simp [execOp, hop, resolve, invoke, builtin, hs, hx, hrun, Result.andThen]
  exact hK v' w' r1 r2 r4

/-- What may follow an item. -/
def tailE (s : ByteArray) (j : Nat) : Option (JL × Nat) := if bt s j = 93 then some (.nil, j + 1) else if bt s j = 44 then elems s (sk s (j + 1)) else none
theorem elems_tail {s : ByteArray} {i n : Nat} {v : JV} (h : val s i = some (v, n)) : elems s i = (tailE s (sk s n)).map fun q => (JL.cons v q.1, q.2) := by
  rw [elems_eq, h]
  unfold tailE
  simp only [Option.bind_some]
  split
  · rfl
  · split <;> rfl

/-- The blocks of the items of an array whose own block is ab and whose row is sv. -/
def AS (ab : Nat) (sv : Value) (wx : World) (k : Nat) : Prop := ab < k ∧ k < wx.heap.size ∧ sv.ownBlock ≠ some k
/-- An array under way, its reader at place j, behind acc. -/
def ASt (rb : Nat) (s : ByteArray) (tb kt : Bool) (w : World) (j : Nat) (acc : JL) (sv : Value) (xs : List Value) (wx : World) : Prop :=
  Rdr rb s j (tb || bigL acc) (kt || twL acc) wx ∧ wx.heap[w.heap.size]? = some (arrB sv) ∧ wx.ownsRow (w.heap.size + 1) 54 1 sv xs.length xs ∧ KB rb w wx ∧ w.heap.size + 1 ≤ wx.heap.size ∧
    (bigL acc = false → twL acc = false → RepL wx (AS w.heap.size sv wx) acc xs)
theorem own_kb {rb : Nat} {w w1 : World} {B e size n : Nat} {v : Value} {xs : List Value} (h : w.ownsRow B e size v n xs) (k : KB rb w w1) (hB : rb < B) : w1.ownsRow B e size v n xs := by
  refine ⟨h.1, ?_⟩
  rcases h.2 with h0 | ⟨g, cap, cur, hv, hb, hg, r⟩
  · exact .inl h0
  · exact .inr ⟨g, cap, cur, hv, hb, (k.block g (Array.getElem?_eq_some_iff.1 hg).1 (by omega)).trans hg, r⟩
theorem ASt.step {rb : Nat} {s : ByteArray} {tb kt : Bool} {w W0 w4 w5 : World} {j k : Nat} {acc : JL} {sv v5 : Value} {xs : List Value} {v : JV} {t : TypeId} {p : Value} {o : Obj} (hrb : rb < w.heap.size)
    (h : ASt rb s tb kt w j acc sv xs W0) (k4 : KB rb W0 w4) (r4 : Rdr rb s k ((tb || bigL acc) || bigV v) ((kt || twL acc) || twV v) w4)
    (hrep : bigV v = false → twV v = false → Rep w4 (fun b => W0.heap.size ≤ b ∧ b < w4.heap.size) v (.iface t p))
    (own5 : w5.ownsRow (w.heap.size + 1) 54 1 v5 (xs.length + 1) (xs ++ [.iface t p])) (hg5 : (w4.alloc o).grownBy w5 sv.ownBlock) (hat : v5.ownBlock = sv.ownBlock ∨ v5.ownBlock = some (w4.alloc o).heap.size) :
    ASt rb s tb kt w k (acc.app (.cons v .nil)) v5 (xs ++ [.iface t p]) (w5.setCell ⟨w.heap.size, 0, none⟩ v5) := by
  obtain ⟨h1, h2, h3, h4, h5, h6⟩ := h
  have hs4 := k4.size
  have hso : (w4.alloc o).heap.size = w4.heap.size + 1 := by simp
  have hs5 := hg5.size
  have hsvb : ∀ g, sv.ownBlock = some g → w.heap.size + 1 ≤ g ∧ g < W0.heap.size := fun g hg => ⟨(h3.lt g hg).1, (h3.lt g hg).2⟩
  have keep : ∀ b, b < w4.heap.size → sv.ownBlock ≠ some b → w5.heap[b]? = w4.heap[b]? := fun b hb hn => (hg5.block b (by omega) (fun e => hn e.symm)).trans (Lib.alloc_old w4 o b hb)
  have set5 : ∀ b, b ≠ w.heap.size → (w5.setCell ⟨w.heap.size, 0, none⟩ v5).heap[b]? = w5.heap[b]? := fun b hb => Below.heap_setCell w5 ⟨w.heap.size, 0, none⟩ v5 b hb
  have hab4 : w4.heap[w.heap.size]? = some (arrB sv) := (k4.block w.heap.size (by omega) (by omega)).trans h2
  have hab5 : w5.heap[w.heap.size]? = some (arrB sv) := (keep w.heap.size (by omega) (fun e => by have := (hsvb _ e).1; omega)).trans hab4
  have hrb5 : w5.heap[rb]? = w4.heap[rb]? := keep rb (by omega) (fun e => by have := (hsvb _ e).1; omega)
  have hsz6 : (w5.setCell ⟨w.heap.size, 0, none⟩ v5).heap.size = w5.heap.size := by simp [World.setCell]
  have hbb : bigL (acc.app (.cons v .nil)) = (bigL acc || bigV v) := by rw [bigL_app]; simp [bigL]
  have htt : twL (acc.app (.cons v .nil)) = (twL acc || twV v) := by rw [twL_app]; simp [twL]
  refine ⟨?_, ?_, ?_, ?_, by omega, ?_⟩
  · rw [hbb, htt, ← Bool.or_assoc, ← Bool.or_assoc]
    exact (set5 rb (by omega)).trans (hrb5.trans r4)
  · exact heap_setCell_same w5 w.heap.size 0 _ 107 v5 hab5
  · rw [List.length_append]
    refine ⟨own5.1, ?_⟩
    rcases own5.2 with h0 | ⟨g, cap, cur, hv, hb, hg, r⟩
    · exact .inl h0
    · exact .inr ⟨g, cap, cur, hv, hb, (set5 g (by omega)).trans hg, r⟩
  · refine ⟨?_, ?_, ?_, by rw [hsz6]; have := h4.size; omega, fun b hb hn => ?_⟩
    · exact (hg5.os.trans (show (w4.alloc o).os = w4.os from rfl)).trans ((k4.trans (KB.refl rb w4)).os.trans h4.os)
    · exact (hg5.tape.trans (show (w4.alloc o).tape = w4.tape from rfl)).trans (k4.tape.trans h4.tape)
    · exact (hg5.output.trans (show (w4.alloc o).output = w4.output from rfl)).trans (k4.output.trans h4.output)
    · have h40 := h4.size
      exact (set5 b (by omega)).trans ((keep b (by omega) (fun e => by have := (hsvb _ e).1; omega)).trans ((k4.block b (by omega) hn).trans (h4.block b hb hn)))
  · intro hb ht
    rw [hbb] at hb
    rw [htt] at ht
    obtain ⟨hb1, hb2⟩ := Bool.or_eq_false_iff.1 hb
    obtain ⟨ht1, ht2⟩ := Bool.or_eq_false_iff.1 ht
    have hnew : ∀ b, b < w4.heap.size → sv.ownBlock ≠ some b → v5.ownBlock ≠ some b := fun b hb hn e => by
      rcases hat with g | g
      · exact hn (g.symm.trans e)
      · rw [g] at e; injection e with e; omega
    refine RepL.app acc (.cons v .nil) xs [.iface t p] ?_ ?_
    · refine RepL.keep (w := W0) (S := AS w.heap.size sv W0) (fun b hb => ?_) (fun b hb => ?_) acc xs (h6 hb1 ht1)
      · obtain ⟨g1, g2, g3⟩ := hb
        exact (set5 b (by omega)).trans ((keep b (by omega) g3).trans (k4.block b g2 (by omega)))
      · obtain ⟨g1, g2, g3⟩ := hb
        exact ⟨g1, by rw [hsz6]; omega, hnew b (by omega) g3⟩
    · rw [RepL]
      refine ⟨_, [], rfl, ?_, by rw [RepL]⟩
      refine Rep.keep (w := w4) (S := fun b => W0.heap.size ≤ b ∧ b < w4.heap.size) (fun b hb => ?_) (fun b hb => ?_) v _ (hrep hb2 ht2)
      · have hn : sv.ownBlock ≠ some b := fun e => by have := (hsvb _ e).2; omega
        exact (set5 b (by omega)).trans (keep b hb.2 hn)
      · have hn : sv.ownBlock ≠ some b := fun e => by have := (hsvb _ e).2; omega
        exact ⟨by omega, by rw [hsz6]; omega, hnew b hb.2 hn⟩
end Go.Proofs.YtadefcohbkgbfabGreatDoor


namespace Go.Proofs.YtadefcohbkgbfabGreatDoor
open Go.RowKit

/-- What may follow a member. -/
def tailM (s : ByteArray) (j : Nat) : Option (JM × Nat) := if bt s j = 125 then some (.nil, j + 1) else if bt s j = 44 then mems s (sk s (j + 1)) else none
theorem mems_tail (s : ByteArray) (i : Nat) : mems s (sk s i) = (memR s i).bind fun m => (tailM s m.2).map fun q => (JM.cons m.1.1 m.1.2 q.1, q.2) := by
  rw [mems_eq]
  unfold memR
  cases strQ s (sk s i) with
  | none => rfl
  | some k =>
    simp only [Option.bind_some]
    by_cases h : bt s (sk s k.2) = 58
    · rw [if_pos h, if_pos h]
      cases val s (sk s (sk s k.2 + 1)) with
      | none => rfl
      | some q =>
        simp only [Option.bind_some, Option.map_some]
        unfold tailM
        split
        · rfl
        · split <;> rfl
    · rw [if_neg h, if_neg h]; rfl
theorem memR_ok {s : ByteArray} {i j : Nat} {m : List UInt8 × JV} (h : memR s i = some (m, j)) : i < j ∧ j ≤ s.size := by
  unfold memR at h
  cases hq : strQ s (sk s i) with
  | none => rw [hq] at h; cases h
  | some k =>
    have h0 := strQ_ok hq
    have h1 := sk_ge s i
    rw [hq] at h
    simp only [Option.bind_some] at h
    by_cases h58 : bt s (sk s k.2) = 58
    · rw [if_pos h58] at h
      cases hv : val s (sk s (sk s k.2 + 1)) with
      | none => rw [hv] at h; cases h
      | some q =>
        rw [hv] at h
        simp only [Option.map_some] at h
        injection h with h
        injection h with _ h
        have h2 := val_ok hv
        have h3 := sk_ge s (sk s k.2 + 1)
        have h4 := sk_ge s k.2
        have h5 := sk_ge s q.2
        have h6 := (sk_le h2.2).2
        omega
    · rw [if_neg h58] at h; cases h

abbrev objB (b : Nat) : Obj := .cells #[.map (some b)] 112 (0, 0)
/-- The blocks of an object's members, whose own blocks lie below L. -/
def OS (L : Nat) (wx : World) (k : Nat) : Prop := L ≤ k ∧ k < wx.heap.size
/-- An object under way, its reader at place j, behind acc. -/
structure OSt (rb : Nat) (s : ByteArray) (tb kt : Bool) (w : World) (ob b L j : Nat) (acc : JM) (xs : List (List UInt8 × Value)) (wx : World) : Prop where
  rdr : Rdr rb s j (tb || bigM acc) (kt || twM [] acc) wx
  blk : wx.heap[ob]? = some (objB b)
  own : wx.ownsMap Tryz.prog 9 RH b xs.length (putAll xs)
  kb : KB rb w wx
  keys : xs.map (·.1) = keysM acc
  size : L ≤ wx.heap.size
  rep : bigM acc = false → twM [] acc = false → RepM wx (OS L wx) acc xs
theorem OSt.next {rb : Nat} {s : ByteArray} {tb kt : Bool} {w W0 w7 : World} {ob b L j k : Nat} {acc : JM} {xs : List (List UInt8 × Value)} (h1 : rb < w.heap.size) (h2 : w.heap.size ≤ ob) (h3 : w.heap.size ≤ b) (hb : b < L) (ho : ob < L)
    (h : OSt rb s tb kt w ob b L j acc xs W0) (k7 : KB rb W0 w7) (r7 : Rdr rb s k (tb || bigM acc) (kt || twM [] acc) w7) : OSt rb s tb kt w ob b L k acc xs w7 := by
  have hs := h.size
  have hs7 := k7.size
  refine ⟨r7, (k7.block ob (by omega) (by omega)).trans h.blk, ownsMap_keep h.own (k7.block b (by omega) (by omega)), h.kb.trans k7, h.keys, by omega, fun a c => ?_⟩
  exact RepM.keep (w := W0) (S := OS L W0) (fun k hk => k7.block k hk.2 (by have := hk.1; omega)) (fun k hk => ⟨hk.1, by have := hk.2; omega⟩) acc xs (h.rep a c)
theorem OSt.step {rb : Nat} {s : ByteArray} {tb kt : Bool} {w W0 w7 : World} {ob b L j k : Nat} {acc : JM} {xs : List (List UInt8 × Value)} {key : List UInt8} {v : JV} {t : TypeId} {p : Value}
    (h1 : rb < w.heap.size) (h2 : w.heap.size ≤ ob) (h3 : w.heap.size ≤ b) (hb : b < L) (ho : ob < L) (hne : ob ≠ b)
    (h : OSt rb s tb kt w ob b L j acc xs W0) (k7 : KB2 rb b W0 w7) (r7 : Rdr rb s k ((tb || bigM acc) || bigV v) (((kt || twM [] acc) || twV v) || (xs.map (·.1)).contains key) w7)
    (m7 : w7.ownsMap Tryz.prog 9 RH b (xs.length + 1) (putAll (xs ++ [(key, .iface t p)])))
    (hrep : bigV v = false → twV v = false → Rep w7 (fun k => W0.heap.size ≤ k ∧ k < w7.heap.size) v (.iface t p)) :
    OSt rb s tb kt w ob b L k (acc.app (.cons key v .nil)) (xs ++ [(key, .iface t p)]) w7 := by
  have hs := h.size
  have hs7 := k7.size
  have hkb := h.kb.size
  have hbb : bigM (acc.app (.cons key v .nil)) = (bigM acc || bigV v) := by rw [bigM_app]; simp [bigM]
  have htt : twM [] (acc.app (.cons key v .nil)) = ((twM [] acc || twV v) || (keysM acc).contains key) := by rw [twM_app]; simp [twM, Bool.or_assoc]
  refine ⟨?_, (k7.block ob (by omega) (by omega) hne).trans h.blk, by rw [List.length_append]; exact m7, ?_, ?_, by omega, fun a c => ?_⟩
  · rw [hbb, htt, ← h.keys]
    simpa only [Bool.or_assoc] using r7
  · exact ⟨k7.os.trans h.kb.os, k7.tape.trans h.kb.tape, k7.output.trans h.kb.output, by omega, fun g hg hn => (k7.block g (by omega) hn (by omega)).trans (h.kb.block g hg hn)⟩
  · rw [List.map_append, h.keys, keysM_app]; rfl
  · rw [hbb] at a
    rw [htt] at c
    obtain ⟨a1, a2⟩ := Bool.or_eq_false_iff.1 a
    obtain ⟨c0, _⟩ := Bool.or_eq_false_iff.1 c
    obtain ⟨c1, c2⟩ := Bool.or_eq_false_iff.1 c0
    refine RepM.app acc (.cons key v .nil) xs [(key, .iface t p)] ?_ ?_
    · exact RepM.keep (w := W0) (S := OS L W0) (fun g hg => k7.block g hg.2 (by have := hg.1; omega) (by have := hg.1; omega)) (fun g hg => ⟨hg.1, by have := hg.2; omega⟩) acc xs (h.rep a1 c1)
    · rw [RepM]
      refine ⟨_, [], rfl, ?_, by rw [RepM]⟩
      exact Rep.keep (w := w7) (fun _ _ => rfl) (fun g hg => ⟨by have := hg.1; omega, hg.2⟩) v _ (hrep a2 c2)
end Go.Proofs.YtadefcohbkgbfabGreatDoor


namespace Go.Proofs.YtadefcohbkgbfabGreatDoor
open Go.RowKit

theorem KB2.off {rb b : Nat} {w W0 w7 : World} (k7 : KB2 rb b W0 w7) (k : KB rb w W0) (hb : w.heap.size ≤ b) : KB rb w w7 :=
  ⟨k7.os.trans k.os, k7.tape.trans k.tape, k7.output.trans k.output, Nat.le_trans k.size k7.size, fun g hg hn => (k7.block g (Nat.lt_of_lt_of_le hg k.size) hn (by omega)).trans (k.block g hg hn)⟩

set_option maxRecDepth 100000 in
set_option maxHeartbeats 4000000 in
theorem readObject_walk (rb : Nat) (s : ByteArray) (i : Nat) (tb kt : Bool) (w : World) (h : Rdr rb s i tb kt w) (hs : s.size ≤ 100000) (h123 : bt s i = 123) (B : Nat) (hT : TabsB B w) (hB : B ≤ rb)
    (HV : ∀ (j : Nat) (tb' kt' : Bool) (w1 : World), i < j → j ≤ s.size → Rdr rb s j tb' kt' w1 → KB rb w w1 → Calls Tryz.prog 54 #[.pointer (some ⟨rb, 0, none⟩)] w1 (VPost rb s tb' kt' w1 ((val s (sk s j)).map fun q => (q.1, sk s q.2)))) :
    Calls Tryz.prog 93 #[.pointer (some ⟨rb, 0, none⟩)] w (VPost rb s tb kt w (val s i)) := by
  have hlt := h.lt
  have hi : i < s.size := bt_in (by omega)
  have HVV := hide (val_obj h123)
  have HHV := hide HV
  have HT := hide hT
  have k00 := sk_ge s (i + 1)
  have k01 := (sk_le (s := s) (i := i + 1) (by omega)).2
  have k02 := hide (sk_idem s (i + 1))
  have rA : Rdr rb s i tb kt ((w.alloc (.map #[] 0)).alloc (objB w.heap.size)) := (h.below (al_below w (.map #[] 0))).below (al_below (w.alloc (.map #[] 0)) (objB w.heap.size))
  have kA : KB rb w ((w.alloc (.map #[] 0)).alloc (objB w.heap.size)) := (KB.of_below (rb := rb) (al_below w (.map #[] 0))).trans (KB.of_below (rb := rb) (al_below (w.alloc (.map #[] 0)) (objB w.heap.size)))
  have hsA : ((w.alloc (.map #[] 0)).alloc (objB w.heap.size)).heap.size = w.heap.size + 2 := by simp
  have O0 : Hid (OSt rb s tb kt w (w.heap.size + 1) w.heap.size (w.heap.size + 2) i .nil [] ((w.alloc (.map #[] 0)).alloc (objB w.heap.size))) := by
    refine ⟨by simp only [bigM, twM, Bool.or_false]; exact rA, ?_, (World.ownsMap_made w Tryz.prog 9 RH).alloc _, kA, rfl, by omega, fun _ _ => by rw [RepM]⟩
    have := heap_alloc_new (w.alloc (.map #[] 0)) (objB w.heap.size)
    simpa using this
  have HEX := hide (expect_yes rb s i tb kt _ rA (by omega) 123 h123 hi)
  clear h HV h123 hT rA kA hsA
  have hmm := run_makeMap (P := Tryz.prog) 110 w
  generalize hk0 : sk s (i + 1) = k0 at *
  have HK0 := hide hk0
  clear hk0
  go_enter Tryz.func93, Tryz.ntmps93
  go_wp2_with fail
  clear hmm
  refine (unhide HEX).mono ?_
  rintro e w1 ⟨rfl, r1, k1⟩
  have HSK := hide (skipBlanks_walk rb s (i + 1) tb kt w1 r1 (by omega) (by omega))
  have O1 := hide ((unhide O0).next hlt (by omega) (by omega) (by omega) (by omega) k1 (by simp only [bigM, twM, Bool.or_false]; exact r1))
  clear HEX r1 k1 O0
  go_wp2_with fail
  refine (unhide HSK).mono ?_
  rintro e w2 ⟨rfl, r2, k2⟩
  rw [unhide HK0] at r2
  have O2 := hide ((unhide O1).next hlt (by omega) (by omega) (by omega) (by omega) k2 (by simp only [bigM, twM, Bool.or_false]; exact r2))
  have R2 := hide r2
  clear HSK r2 k2 O1 HK0
  by_cases h125 : bt s k0 = 125
  · have HS := hide (skip_yes rb s k0 tb kt w2 (unhide R2) (by omega) 125 h125 (bt_in (by omega)))
    have HR : Hid (val s i = some (.obj .nil, k0 + 1)) := by show _ = _; rw [unhide HVV, if_pos h125]
    clear h125
    go_wp2_with fail
    refine (unhide HS).mono ?_
    rintro e w3 ⟨rfl, r3, k3⟩
    have O3 := hide ((unhide O2).next hlt (by omega) (by omega) (by omega) (by omega) k3 (by simp only [bigM, twM, Bool.or_false]; exact r3))
    clear HS r3 k3 O2 R2
    go_wp2
    go_ret
    refine ⟨(unhide O3).kb, ?_⟩
    rw [unhide HR]
    have hsz := (unhide O3).size
    refine ⟨_, _, rfl, by simp only [bigV, twV]; exact (unhide O3).rdr, fun _ _ => ?_⟩
    rw [Rep]
    exact ⟨w.heap.size + 1, w.heap.size, 0, [], rfl, ⟨by omega, by omega⟩, ⟨by omega, by omega⟩, (unhide O3).blk, (unhide O3).own, Nat.le_refl _, by rw [RepM]⟩
  · have HS := hide (skip_no rb s k0 tb kt w2 (unhide R2) k01 125 (.inl h125))
    have HR : Hid (val s i = (mems s k0).map fun q => (.obj q.1, q.2)) := by show _ = _; rw [unhide HVV, if_neg h125]
    clear h125 HVV
    go_wp2_with fail
    refine (unhide HS).mono ?_
    rintro e w3 ⟨rfl, r3, k3⟩
    have O3 := hide ((unhide O2).next hlt (by omega) (by omega) (by omega) (by omega) k3 (by simp only [bigM, twM, Bool.or_false]; exact r3))
    clear HS r3 k3 O2 R2
    have hs3 := (unhide O3).size
    have HC := hide (readMember_walk rb s k0 _ _ w3 (unhide O3).rdr hs k01 B ((unhide HT).next ((unhide O3).kb.below hB (by omega)) (Nat.le_refl _)) hB w.heap.size _ _ (unhide O3).own hlt (by simp)
      (fun j w1 a b c d => unhide HHV j _ _ w1 (by omega) b c ((unhide O3).kb.trans d)))
    have HMT := hide (mems_tail s k0)
    rw [unhide k02] at HMT
    have c3 : w3.cell? ⟨w.heap.size + 1, 0, none⟩ = some (.map (some w.heap.size)) := Lib.cell_of_heap (unhide O3).blk 0
    cases hv : memR s k0 with
    | none =>
      rw [hv] at HC HMT
      have HN : Hid (val s i = none) := by show _ = _; rw [unhide HR, unhide HMT]; rfl
      clear hv
      go_wp2_with fail
      refine (unhide HC).mono ?_
      rintro e w4 ⟨k4, rfl⟩
      exact ⟨rfl, k4.off (unhide O3).kb (Nat.le_refl _), by rw [unhide HN]; rfl⟩
    | some q =>
      obtain ⟨⟨key, v⟩, n⟩ := q
      have hvo := memR_ok hv
      rw [hv] at HC HMT
      clear hv
      go_wp2_with fail
      refine (unhide HC).mono ?_
      rintro e w4 ⟨k4, t, p, rfl, r4, m4, rep4⟩
      have HA0 := hide ((unhide O3).step hlt (by omega) (by omega) (by omega) (by omega) (by omega) k4 r4 m4 rep4)
      clear HC O3 k4 r4 m4 rep4 c3
      go_wp2_with fail
      go_loopg [] (s.size + 1 - n) (fun g wr => ∃ (j : Nat) (acc : JM) (xs : List (List UInt8 × Value)), g = s.size + 1 - j ∧ j ≤ s.size ∧ k0 < j ∧ xs.length ≤ j ∧ OSt rb s tb kt w (w.heap.size + 1) w.heap.size (w.heap.size + 2) j acc xs wr ∧ mems s k0 = (tailM s j).map fun q => (acc.app q.1, q.2))
      case atStart => exact ⟨n, _, _, rfl, hvo.2, hvo.1, by simp; omega, unhide HA0, by rw [unhide HMT]; rfl⟩
      case round =>
        obtain ⟨j, acc, xs, hg, hj, hj0, hxl, host, hst⟩ := hrel
        have HST := hide hst
        have HAW := hide host
        have hsw := host.size
        clear hst host HA0 HMT hvo
        by_cases h44 : bt s j = 44
        · have hjl : j < s.size := bt_in (by omega)
          have HS := hide (skip_yes rb s j _ _ wr (unhide HAW).rdr (by omega) 44 h44 hjl)
          have HTE : Hid (mems s k0 = (mems s (sk s (j + 1))).map fun q => (acc.app q.1, q.2)) := by
            show _ = _
            rw [unhide HST, tailM, if_neg (by omega), if_pos h44]
          clear h44 HST
          go_wp2_with fail
          refine (unhide HS).mono ?_
          rintro e w7 ⟨rfl, r7, k7⟩
          have O7 := hide ((unhide HAW).next hlt (by omega) (by omega) (by omega) (by omega) k7 r7)
          have hs7 := (unhide O7).size
          clear HS k7 HAW r7
          have HC := hide (readMember_walk rb s (j + 1) _ _ w7 (unhide O7).rdr hs (by omega) B ((unhide HT).next ((unhide O7).kb.below hB (by omega)) (Nat.le_refl _)) hB w.heap.size _ _ (unhide O7).own hlt (by omega)
            (fun j w1 a b c d => unhide HHV j _ _ w1 (by omega) b c ((unhide O7).kb.trans d)))
          have HMT := hide (mems_tail s (j + 1))
          have c7 : w7.cell? ⟨w.heap.size + 1, 0, none⟩ = some (.map (some w.heap.size)) := Lib.cell_of_heap (unhide O7).blk 0
          cases hv : memR s (j + 1) with
          | none =>
            rw [hv] at HC HMT
            have HN : Hid (val s i = none) := by show _ = _; rw [unhide HR, unhide HTE, unhide HMT]; rfl
            clear hv
            go_wp2_with fail
            refine (unhide HC).mono ?_
            rintro e w4 ⟨k4, rfl⟩
            exact ⟨rfl, k4.off (unhide O7).kb (Nat.le_refl _), by rw [unhide HN]; rfl⟩
          | some q =>
            obtain ⟨⟨key2, v2⟩, n2⟩ := q
            have hvo := memR_ok hv
            rw [hv] at HC HMT
            clear hv
            go_wp2_with fail
            refine (unhide HC).mono ?_
            rintro e w8 ⟨k8, t8, p8, rfl, r8, m8, rep8⟩
            have HS5 := hide ((unhide O7).step hlt (by omega) (by omega) (by omega) (by omega) (by omega) k8 r8 m8 rep8)
            clear HC O7 k8 r8 m8 rep8 c7
            go_wp2
            go_roundg (s.size + 1 - n2)
            all_goals first
              | omega
              | exact ⟨n2, _, _, rfl, hvo.2, by omega, by rw [List.length_append]; simp only [List.length_cons, List.length_nil]; omega, unhide HS5, by rw [unhide HTE, unhide HMT, Option.bind_some, Option.map_map]; congr 1; funext q; simp [JM.app_assoc, JM.app]⟩
        · have HS := hide (skip_no rb s j _ _ wr (unhide HAW).rdr hj 44 (.inl h44))
          have HTE : Hid (mems s k0 = (if bt s j = 125 then some (JM.nil, j + 1) else none).map fun q => (acc.app q.1, q.2)) := by
            show _ = _
            rw [unhide HST, tailM]
            by_cases g : bt s j = 125
            · rw [if_pos g, if_pos g]
            · rw [if_neg g, if_neg h44, if_neg g]
          clear h44 HST
          go_wp2_with fail
          refine (unhide HS).mono ?_
          rintro e w7 ⟨rfl, r7, k7⟩
          have O7 := hide ((unhide HAW).next hlt (by omega) (by omega) (by omega) (by omega) k7 r7)
          clear HS HAW r7 k7
          by_cases h125 : bt s j = 125
          · have HE := hide (expect_yes rb s j _ _ w7 (unhide O7).rdr (by omega) 125 h125 (bt_in (by omega)))
            have HN : Hid (val s i = some (.obj acc, j + 1)) := by
              show _ = _
              rw [unhide HR, unhide HTE, if_pos h125]; simp [JM.app_nil]
            clear h125
            go_wp2_with fail
            refine (unhide HE).mono ?_
            rintro e w8 ⟨rfl, r8, k8⟩
            have O8 := hide ((unhide O7).next hlt (by omega) (by omega) (by omega) (by omega) k8 r8)
            have hs8 := (unhide O8).size
            clear HE r8 k8 O7
            go_wp2
            go_ret
            refine ⟨(unhide O8).kb, ?_⟩
            rw [unhide HN]
            refine ⟨_, _, rfl, by simp only [bigV, twV]; exact (unhide O8).rdr, fun a b => ?_⟩
            rw [Rep]
            simp only [bigV] at a
            simp only [twV] at b
            exact ⟨w.heap.size + 1, w.heap.size, xs.length, xs, rfl, ⟨by omega, by omega⟩, ⟨by omega, by omega⟩, (unhide O8).blk, (unhide O8).own, Nat.le_refl _, RepM.keep (fun _ _ => rfl) (fun b hb => ⟨by have := hb.1; omega, hb.2⟩) acc xs ((unhide O8).rep a b)⟩
          · have HE := hide (expect_no rb s j _ _ w7 (unhide O7).rdr (by omega) hj 125 (.inl h125))
            have HN : Hid (val s i = none) := by
              show _ = _
              rw [unhide HR, unhide HTE, if_neg h125]; rfl
            clear h125
            go_wp2_with fail
            refine (unhide HE).mono ?_
            rintro e w8 ⟨rfl, k8⟩
            exact ⟨rfl, (unhide O7).kb.trans k8, by rw [unhide HN]; rfl⟩
end Go.Proofs.YtadefcohbkgbfabGreatDoor


namespace Go.Proofs.YtadefcohbkgbfabGreatDoor
open Go.RowKit

theorem own_form {w : World} {B e n : Nat} {v x : Value} {xs : List Value} (h : w.ownsRow B e 1 v (n + 1) (xs ++ [x])) : ∃ g cap, v = .slice (some ⟨g, 0, none⟩) (n + 1) cap := by
  rcases h.2 with ⟨_, h0⟩ | ⟨g, cap, cur, hv, _⟩
  · omega
  · exact ⟨g, cap, hv⟩

set_option maxRecDepth 100000 in
set_option maxHeartbeats 4000000 in
theorem readArray_walk (rb : Nat) (s : ByteArray) (i : Nat) (tb kt : Bool) (w : World) (h : Rdr rb s i tb kt w) (hs : s.size ≤ 100000) (h91 : bt s i = 91)
    (HV : ∀ (j : Nat) (tb' kt' : Bool) (w1 : World), i < j → j ≤ s.size → Rdr rb s j tb' kt' w1 → KB rb w w1 → Calls Tryz.prog 54 #[.pointer (some ⟨rb, 0, none⟩)] w1 (VPost rb s tb' kt' w1 ((val s (sk s j)).map fun q => (q.1, sk s q.2)))) :
    Calls Tryz.prog 92 #[.pointer (some ⟨rb, 0, none⟩)] w (VPost rb s tb kt w (val s i)) := by
  obtain ⟨i0, hi0, hz0, hz1, hz2⟩ := info_parts infoVal
  have hlt := h.lt
  have hi : i < s.size := bt_in (by omega)
  have HVV := hide (val_arr h91)
  have HHV := hide HV
  have k00 := sk_ge s (i + 1)
  have k01 := (sk_le (s := s) (i := i + 1) (by omega)).2
  have k02 := sk_idem s (i + 1)
  have HEX := hide (expect_yes rb s i tb kt _ (h.below (al_below w (arrB (.slice none 0 0)))) (by omega) 91 h91 hi)
  clear h HV h91
  generalize hk0 : sk s (i + 1) = k0 at *
  go_enter Tryz.func92, Tryz.ntmps92
  go_wp2_with fail
  refine (unhide HEX).mono ?_
  rintro e w1 ⟨rfl, r1, k1⟩
  have HSK := hide (skipBlanks_walk rb s (i + 1) tb kt w1 r1 (by omega) (by omega))
  have A1 : Hid (w1.heap[w.heap.size]? = some (arrB (.slice none 0 0))) := (k1.block w.heap.size (by simp) (by omega)).trans (heap_alloc_new w _)
  have K1 := hide ((KB.of_below (rb := rb) (al_below w (arrB (.slice none 0 0)))).trans k1)
  have hs1 : w.heap.size + 1 ≤ w1.heap.size := by have := k1.size; simpa using this
  clear HEX r1 k1
  go_wp2_with fail
  refine (unhide HSK).mono ?_
  rintro e w2 ⟨rfl, r2, k2⟩
  rw [hk0] at r2
  have A2 : Hid (w2.heap[w.heap.size]? = some (arrB (.slice none 0 0))) := (k2.block w.heap.size (by omega) (by omega)).trans (unhide A1)
  have K2 := hide ((unhide K1).trans k2)
  have hs2 : w.heap.size + 1 ≤ w2.heap.size := by have := k2.size; omega
  have R2 := hide r2
  clear HSK r2 k2 A1 K1 hk0
  by_cases h93 : bt s k0 = 93
  · have HS := hide (skip_yes rb s k0 tb kt w2 (unhide R2) (by omega) 93 h93 (bt_in (by omega)))
    have HR : Hid (val s i = some (.arr .nil, k0 + 1)) := by show _ = _; rw [unhide HVV, if_pos h93]
    clear h93
    go_wp2_with fail
    refine (unhide HS).mono ?_
    rintro e w3 ⟨rfl, r3, k3⟩
    have R3 := hide r3
    have A3 : Hid (w3.heap[w.heap.size]? = some (arrB (.slice none 0 0))) := (k3.block w.heap.size (by omega) (by omega)).trans (unhide A2)
    have K3 := hide ((unhide K2).trans k3)
    have hs3 := k3.size
    clear HS r3 k3
    go_wp2
    go_ret
    refine ⟨unhide K3, ?_⟩
    rw [unhide HR]
    refine ⟨_, _, rfl, by simp only [bigV, twV, bigL, twL, Bool.or_false]; exact unhide R3, fun _ _ => ?_⟩
    rw [Rep]
    exact ⟨w.heap.size, .slice none 0 0, [], rfl, ⟨Nat.le_refl _, by omega⟩, unhide A3, ⟨⟨rfl, .inl ⟨rfl, rfl⟩⟩, fun g hg => by cases hg⟩, by rw [RepL]⟩
  · have HS := hide (skip_no rb s k0 tb kt w2 (unhide R2) k01 93 (.inl h93))
    have hn93 := h93
    have HR : Hid (val s i = (elems s k0).map fun q => (.arr q.1, q.2)) := by show _ = _; rw [unhide HVV, if_neg h93]
    clear h93
    go_wp2_with fail
    refine (unhide HS).mono ?_
    rintro e w3 ⟨rfl, r3, k3⟩
    have A3 : Hid (w3.heap[w.heap.size]? = some (arrB (.slice none 0 0))) := (k3.block w.heap.size (by omega) (by omega)).trans (unhide A2)
    have K3 := hide ((unhide K2).trans k3)
    have hs3 := k3.size
    have KD : KB rb w w3.drew := ⟨(unhide K3).os, (unhide K3).tape, (unhide K3).output, (unhide K3).size, (unhide K3).block⟩
    have HC := hide (unhide HHV k0 tb kt w3.drew (by omega) k01 r3 KD)
    rw [k02] at HC
    have HAST : Hid (ASt rb s tb kt w k0 .nil (.slice none 0 0) [] w3.drew) := ⟨by simp only [bigL, twL, Bool.or_false]; exact r3, unhide A3, ⟨rfl, .inl ⟨rfl, rfl⟩⟩, KD, by show _ ≤ w3.heap.size; omega, fun _ _ => by rw [RepL]⟩
    have ci : w3.drew.cell? ⟨w.heap.size, 0, none⟩ = some (.slice none 0 0) := Lib.cell_of_heap (unhide A3) 0
    have hsd : w.heap.size + 1 ≤ w3.drew.heap.size := by show _ ≤ w3.heap.size; omega
    clear HS k3 A2 K2 R2 hn93
    cases hv : val s k0 with
    | none =>
      rw [hv] at HC
      have HN : Hid (val s i = none) := by show _ = _; rw [unhide HR, elems_eq, hv]; rfl
      clear hv
      go_wp2_with fail
      refine wp_region_any (by kernel_rfl) ?_
      try (change wpAny _ _ _ _ _ _ _ (World.drew _))
      refine wpAny_take (i := 0) (v := ?_) rfl (by kernel_rfl) (by kernel_rfl) (by kernel_rfl) (fun _ _ _ h => h) (Or.inl ⟨by rfl, ?_⟩) ?_
      rotate_left 1
      · intro w
        go_simp
        try with_reducible rfl
      refine wpAny_take (i := 1) (v := ?_) rfl (by kernel_rfl) (by kernel_rfl) (by kernel_rfl) (fun _ _ _ h => h) (Or.inl ⟨by rfl, ?_⟩) ?_
      rotate_left 1
      · intro w
        go_simp
        try with_reducible rfl
      refine wpAny_take (i := 2) (v := ?_) rfl (by kernel_rfl) (by kernel_rfl) (by kernel_rfl) (fun _ _ _ h => h) (Or.inl ⟨by rfl, ?_⟩) ?_
      rotate_left 1
      · intro w
        go_simp
        try with_reducible rfl
      refine wpAny_take (i := 3) (v := ?_) rfl (by kernel_rfl) (by kernel_rfl) (by kernel_rfl) (fun _ _ _ h => h) (Or.inl ⟨by rfl, ?_⟩) ?_
      rotate_left 1
      · intro w
        go_simp
        try with_reducible rfl
      refine wpAny_take (i := 5) (v := ?_) rfl (by kernel_rfl) (by kernel_rfl) (by kernel_rfl) (fun _ _ _ h => h) (Or.inl ⟨by rfl, ?_⟩) ?_
      rotate_left 1
      · intro w
        go_simp
        try with_reducible rfl
      refine wpAny_ready (rs := [4, 6]) (by kernel_rfl) (by simp) ?_
      refine AllReady.cons rfl (fun K hK => ?_) ?_
      · go_simp
        refine hK _ _ ?_
        clear hK K
        refine wpAny_ready (rs := [6]) (by kernel_rfl) (by simp) ?_
        refine AllReady.cons rfl (fun K hK => ?_) AllReady.nil
        go_simp
        refine (unhide HC).mono ?_
        rintro e w9 ⟨k9, rfl⟩
        exact ⟨rfl, KD.trans k9, by rw [unhide HN]; rfl⟩
      · refine AllReady.cons rfl (fun K hK => ?_) AllReady.nil
        go_simp
        refine (unhide HC).mono ?_
        rintro e w9 ⟨k9, rfl⟩
        exact ⟨rfl, KD.trans k9, by rw [unhide HN]; rfl⟩
    | some q =>
      obtain ⟨v, n⟩ := q
      have hvo := val_ok hv
      have HEL := hide (elems_tail hv)
      have hn1 := sk_ge s n
      have hn2 := (sk_le hvo.2).2
      rw [hv] at HC
      have HC : Hid (Calls Tryz.prog 54 #[.pointer (some ⟨rb, 0, none⟩)] w3.drew (VPost rb s (tb || bigL .nil) (kt || twL .nil) w3.drew (some (v, sk s n)))) := by
        show Calls _ _ _ _ _
        simp only [bigL, twL, Bool.or_false]
        exact unhide HC
      clear hv A3 K3 HVV
      have hxl : ([] : List Value).length ≤ k0 := Nat.zero_le _
      go_wp2_with fail
      go_cut [] from 18 to 28 (fun wx => ∃ (v5 : Value) (x5 : List Value), ASt rb s tb kt w (sk s n) (.cons v .nil) v5 x5 wx ∧ x5.length ≤ sk s n)
      case first =>
        go_region_law (first
          | (go_simp; refine (unhide HC).mono ?_; rintro e w4 ⟨k4, t, p, rfl, r4, hrep⟩
             have hs4 := k4.size
             have a4 : w4.heap[w.heap.size]? = some (arrB (Value.slice none 0 0)) := (k4.block w.heap.size (by omega) (by omega)).trans (unhide HAST).2.1
             have c4 : w4.cell? ⟨w.heap.size, 0, none⟩ = some (Value.slice none 0 0) := Lib.cell_of_heap a4 0
             have ca4 : (w4.alloc (.cells #[.iface t p] 54)).cell? ⟨w.heap.size, 0, none⟩ = some (Value.slice none 0 0) := ((al_below w4 _).cell (p := ⟨w.heap.size, 0, none⟩) (by show w.heap.size < _; omega)).trans c4
             have hne4 : ¬ w.heap.size = w4.heap.size := by omega
             have own4 := own_kb (unhide HAST).2.2.1 k4 (show rb < w.heap.size + 1 by omega)
             have HR4 := hide r4
             have HREP := hide hrep
             have HA4 := hide a4
             clear r4 hrep a4)
          | (refine step_append_at rfl (.tmp 22) (.tmp 25) 105 rfl (w.heap.size + 1) 54 i0 .nilIface 1 16 Tryz.underlying105 hi0 hz0 hz1 hz2 rfl (by decide) _ _ _ rfl (by exact own4.alloc _) ⟨w4.heap.size, 0, none⟩ 1 1 [.iface t p] rfl rfl (by exact cell_one_new _ _ _) (by intro u hu; simp at hu; subst hu; rfl) (by unfold maxLen; omega) (by omega) (by simp; omega) ?_
             intro v5 w5 own5 hg5 hat5
             obtain ⟨g5, cap5, hv5⟩ := own_form own5
             subst hv5
             have hne : some w.heap.size ≠ ((Value.slice none 0 0)).ownBlock := fun e => by have := ((unhide HAST).2.2.1.lt _ e.symm).1; omega
             have a5 : w5.heap[w.heap.size]? = some (arrB (Value.slice none 0 0)) := (hg5.block w.heap.size (by simp; omega) hne).trans ((Lib.alloc_old w4 _ w.heap.size (by omega)).trans (unhide HA4))
             have c5 : w5.cell? ⟨w.heap.size, 0, none⟩ = some (Value.slice none 0 0) := Lib.cell_of_heap a5 0
             have f5 : w5.frozen? ⟨w.heap.size, 0, none⟩ = false := Lib.frozen_of_heap a5 0))
        all_goals
          have HS5 := hide (ASt.step hlt (unhide HAST) k4 (unhide HR4) (unhide HREP) own5 hg5 hat5)
          go_wp2_with fail
          go_meet
          exact ⟨_, _, unhide HS5, by rw [List.length_append]; simp only [List.length_cons, List.length_nil]; omega⟩
      case rest =>
        obtain ⟨sv, xs, hast, hxl2⟩ := hcut
        have HA0 := hide hast
        clear hast HC HAST KD ci r3
        go_wp2_with fail
        go_loopg [] (s.size + 1 - sk s n) (fun g wr => ∃ (j : Nat) (acc : JL) (sv : Value) (xs : List Value), g = s.size + 1 - j ∧ j ≤ s.size ∧ k0 < j ∧ xs.length ≤ j ∧ ASt rb s tb kt w j acc sv xs wr ∧ elems s k0 = (tailE s j).map fun q => (acc.app q.1, q.2))
        case atStart => exact ⟨sk s n, .cons v .nil, sv, xs, rfl, hn2, by omega, hxl2, unhide HA0, by rw [unhide HEL]; rfl⟩
        case round =>
          obtain ⟨j, acc, sv, xs, hg, hj, hj0, hxl, hast, hst⟩ := hrel
          have HST := hide hst
          have HAW := hide hast
          have hsw := hast.2.2.2.2.1
          clear hst hast HA0 HEL hvo hn1 hn2
          by_cases h44 : bt s j = 44
          · have hjl : j < s.size := bt_in (by omega)
            have HS := hide (skip_yes rb s j _ _ wr (unhide HAW).1 (by omega) 44 h44 hjl)
            have HTE : Hid (elems s k0 = (elems s (sk s (j + 1))).map fun q => (acc.app q.1, q.2)) := by
              show _ = _
              rw [unhide HST, tailE, if_neg (by omega), if_pos h44]
            clear h44 HST
            go_wp2_with fail
            refine (unhide HS).mono ?_
            rintro e w7 ⟨rfl, r7, k7⟩
            have hs7 := k7.size
            have KW := (unhide HAW).2.2.2.1
            have KD : KB rb w w7.drew := ⟨(KW.trans k7).os, (KW.trans k7).tape, (KW.trans k7).output, (KW.trans k7).size, (KW.trans k7).block⟩
            have HAST : Hid (ASt rb s tb kt w (j + 1) acc sv xs w7.drew) := by
              obtain ⟨_, q2, q3, q4, q5, q6⟩ := unhide HAW
              refine ⟨r7, (k7.block w.heap.size (by omega) (by omega)).trans q2, own_kb (w1 := w7) q3 k7 (show rb < w.heap.size + 1 by omega), KD, by show _ ≤ w7.heap.size; omega, fun a b => ?_⟩
              exact RepL.keep (w := wr) (w' := w7.drew) (S := AS w.heap.size sv wr) (S' := AS w.heap.size sv w7.drew) (fun b hb => k7.block b hb.2.1 (by have := hb.1; omega)) (fun b hb => ⟨hb.1, by show b < w7.heap.size; have := hb.2.1; omega, hb.2.2⟩) acc xs (q6 a b)
            have HC := hide (unhide HHV (j + 1) _ _ w7.drew (by omega) (by omega) r7 KD)
            have ci : w7.drew.cell? ⟨w.heap.size, 0, none⟩ = some sv := Lib.cell_of_heap (unhide HAST).2.1 0
            have hsd : w.heap.size + 1 ≤ w7.drew.heap.size := by show _ ≤ w7.heap.size; omega
            have hsj := sk_ge s (j + 1)
            clear HS k7 HAW KW r7
            cases hv : val s (sk s (j + 1)) with
            | none =>
              rw [hv] at HC
              have HN : Hid (val s i = none) := by show _ = _; rw [unhide HR, unhide HTE, elems_eq, hv]; rfl
              clear hv
              go_wp2_with fail
              refine wp_region_any (by kernel_rfl) ?_
              try (change wpAny _ _ _ _ _ _ _ (World.drew _))
              refine wpAny_take (i := 0) (v := ?_) rfl (by kernel_rfl) (by kernel_rfl) (by kernel_rfl) (fun _ _ _ h => h) (Or.inl ⟨by rfl, ?_⟩) ?_
              rotate_left 1
              · intro w
                go_simp
                try with_reducible rfl
              refine wpAny_take (i := 1) (v := ?_) rfl (by kernel_rfl) (by kernel_rfl) (by kernel_rfl) (fun _ _ _ h => h) (Or.inl ⟨by rfl, ?_⟩) ?_
              rotate_left 1
              · intro w
                go_simp
                try with_reducible rfl
              refine wpAny_take (i := 2) (v := ?_) rfl (by kernel_rfl) (by kernel_rfl) (by kernel_rfl) (fun _ _ _ h => h) (Or.inl ⟨by rfl, ?_⟩) ?_
              rotate_left 1
              · intro w
                go_simp
                try with_reducible rfl
              refine wpAny_take (i := 3) (v := ?_) rfl (by kernel_rfl) (by kernel_rfl) (by kernel_rfl) (fun _ _ _ h => h) (Or.inl ⟨by rfl, ?_⟩) ?_
              rotate_left 1
              · intro w
                go_simp
                try with_reducible rfl
              refine wpAny_take (i := 5) (v := ?_) rfl (by kernel_rfl) (by kernel_rfl) (by kernel_rfl) (fun _ _ _ h => h) (Or.inl ⟨by rfl, ?_⟩) ?_
              rotate_left 1
              · intro w
                go_simp
                try with_reducible rfl
              refine wpAny_ready (rs := [4, 6]) (by kernel_rfl) (by simp) ?_
              refine AllReady.cons rfl (fun K hK => ?_) ?_
              · go_simp
                refine hK _ _ ?_
                clear hK K
                refine wpAny_ready (rs := [6]) (by kernel_rfl) (by simp) ?_
                refine AllReady.cons rfl (fun K hK => ?_) AllReady.nil
                go_simp
                refine (unhide HC).mono ?_
                rintro e w9 ⟨k9, rfl⟩
                exact ⟨rfl, KD.trans k9, by rw [unhide HN]; rfl⟩
              · refine AllReady.cons rfl (fun K hK => ?_) AllReady.nil
                go_simp
                refine (unhide HC).mono ?_
                rintro e w9 ⟨k9, rfl⟩
                exact ⟨rfl, KD.trans k9, by rw [unhide HN]; rfl⟩
            | some q =>
              obtain ⟨v2, n⟩ := q
              have hvo := val_ok hv
              have HEL := hide (elems_tail hv)
              have hn1 := sk_ge s n
              have hn2 := (sk_le hvo.2).2
              rw [hv] at HC
              clear hv
              go_wp2_with fail
              go_region_law (first
                | (go_simp; refine (unhide HC).mono ?_; rintro e w4 ⟨k4, t, p, rfl, r4, hrep⟩
                   have hs4 := k4.size
                   have a4 : w4.heap[w.heap.size]? = some (arrB sv) := (k4.block w.heap.size (by omega) (by omega)).trans (unhide HAST).2.1
                   have c4 : w4.cell? ⟨w.heap.size, 0, none⟩ = some sv := Lib.cell_of_heap a4 0
                   have ca4 : (w4.alloc (.cells #[.iface t p] 54)).cell? ⟨w.heap.size, 0, none⟩ = some sv := ((al_below w4 _).cell (p := ⟨w.heap.size, 0, none⟩) (by show w.heap.size < _; omega)).trans c4
                   have hne4 : ¬ w.heap.size = w4.heap.size := by omega
                   have own4 := own_kb (unhide HAST).2.2.1 k4 (show rb < w.heap.size + 1 by omega)
                   have HR4 := hide r4
                   have HREP := hide hrep
                   have HA4 := hide a4
                   clear r4 hrep a4)
                | (refine step_append_at rfl (.tmp 37) (.tmp 40) 105 rfl (w.heap.size + 1) 54 i0 .nilIface 1 16 Tryz.underlying105 hi0 hz0 hz1 hz2 rfl (by decide) _ _ _ rfl (by exact own4.alloc _) ⟨w4.heap.size, 0, none⟩ 1 1 [.iface t p] rfl rfl (by exact cell_one_new _ _ _) (by intro u hu; simp at hu; subst hu; rfl) (by unfold maxLen; omega) (by omega) (by simp; omega) ?_
                   intro v5 w5 own5 hg5 hat5
                   obtain ⟨g5, cap5, hv5⟩ := own_form own5
                   subst hv5
                   have hne : some w.heap.size ≠ (sv).ownBlock := fun e => by have := ((unhide HAST).2.2.1.lt _ e.symm).1; omega
                   have a5 : w5.heap[w.heap.size]? = some (arrB sv) := (hg5.block w.heap.size (by simp; omega) hne).trans ((Lib.alloc_old w4 _ w.heap.size (by omega)).trans (unhide HA4))
                   have c5 : w5.cell? ⟨w.heap.size, 0, none⟩ = some sv := Lib.cell_of_heap a5 0
                   have f5 : w5.frozen? ⟨w.heap.size, 0, none⟩ = false := Lib.frozen_of_heap a5 0))
              all_goals
                have HS5 := hide (ASt.step hlt (unhide HAST) k4 (unhide HR4) (unhide HREP) own5 hg5 hat5)
                clear HR4 HREP HA4 own4 c4 own5 hg5 hat5 a5 k4 HC HAST KD ci
                go_wp2
                go_roundg (s.size + 1 - sk s n)
              all_goals first
                | omega
                | exact ⟨sk s n, acc.app (.cons v2 .nil), _, _, rfl, hn2, by omega, by rw [List.length_append]; simp only [List.length_cons, List.length_nil]; omega, unhide HS5, by rw [unhide HTE, unhide HEL, Option.map_map]; congr 1; funext q; simp [JL.app_assoc, JL.app]⟩
          · have HS := hide (skip_no rb s j _ _ wr (unhide HAW).1 hj 44 (.inl h44))
            have HTE : Hid (elems s k0 = (if bt s j = 93 then some (JL.nil, j + 1) else none).map fun q => (acc.app q.1, q.2)) := by
              show _ = _
              rw [unhide HST, tailE]
              by_cases g : bt s j = 93
              · rw [if_pos g, if_pos g]
              · rw [if_neg g, if_neg h44, if_neg g]
            clear h44 HST
            go_wp2_with fail
            refine (unhide HS).mono ?_
            rintro e w7 ⟨rfl, r7, k7⟩
            have hs7 := k7.size
            obtain ⟨_, q2, q3, q4, q5, q6⟩ := unhide HAW
            have A7 := hide ((k7.block w.heap.size (by omega) (by omega)).trans q2)
            have O7 := hide (own_kb q3 k7 (show rb < w.heap.size + 1 by omega))
            have K7 := hide (q4.trans k7)
            have Q7 : Hid (bigL acc = false → twL acc = false → RepL w7 (AS w.heap.size sv w7) acc xs) := fun a b => RepL.keep (fun b hb => k7.block b hb.2.1 (by have := hb.1; omega)) (fun b hb => ⟨hb.1, by have := hb.2.1; omega, hb.2.2⟩) acc xs (q6 a b)
            have R7 := hide r7
            clear q2 q3 q4 q5 q6 HS HAW r7 k7
            by_cases h93 : bt s j = 93
            · have HE := hide (expect_yes rb s j _ _ w7 (unhide R7) (by omega) 93 h93 (bt_in (by omega)))
              have HN : Hid (val s i = some (.arr acc, j + 1)) := by
                show _ = _
                rw [unhide HR, unhide HTE, if_pos h93]; simp [JL.app_nil]
              clear h93
              go_wp2_with fail
              refine (unhide HE).mono ?_
              rintro e w8 ⟨rfl, r8, k8⟩
              have hs8 := k8.size
              have R8 := hide r8
              have A8 := hide ((k8.block w.heap.size (by omega) (by omega)).trans (unhide A7))
              have O8 := hide (own_kb (unhide O7) k8 (show rb < w.heap.size + 1 by omega))
              have K8 := hide ((unhide K7).trans k8)
              have Q8 : Hid (bigL acc = false → twL acc = false → RepL w8 (AS w.heap.size sv w8) acc xs) := fun a b => RepL.keep (fun b hb => k8.block b hb.2.1 (by have := hb.1; omega)) (fun b hb => ⟨hb.1, by have := hb.2.1; omega, hb.2.2⟩) acc xs (unhide Q7 a b)
              clear HE r8 k8 A7 O7 K7 Q7 R7
              go_wp2
              go_ret
              refine ⟨unhide K8, ?_⟩
              rw [unhide HN]
              refine ⟨_, _, rfl, by simp only [bigV, twV]; exact unhide R8, fun a b => ?_⟩
              rw [Rep]
              simp only [bigV] at a
              simp only [twV] at b
              exact ⟨w.heap.size, sv, xs, rfl, ⟨Nat.le_refl _, by omega⟩, unhide A8, ⟨own_mono (unhide O8) (Nat.zero_le _), fun g hg => ⟨by have := ((unhide O8).lt g hg).1; omega, ((unhide O8).lt g hg).2⟩⟩, RepL.keep (fun _ _ => rfl) (fun b hb => ⟨by have := hb.1; omega, hb.2.1⟩) acc xs (unhide Q8 a b)⟩
            · have HE := hide (expect_no rb s j _ _ w7 (unhide R7) (by omega) hj 93 (.inl h93))
              have HN : Hid (val s i = none) := by
                show _ = _
                rw [unhide HR, unhide HTE, if_neg h93]; rfl
              clear h93
              go_wp2_with fail
              refine (unhide HE).mono ?_
              rintro e w8 ⟨rfl, k8⟩
              exact ⟨rfl, (unhide K7).trans k8, by rw [unhide HN]; rfl⟩
end Go.Proofs.YtadefcohbkgbfabGreatDoor


namespace Go.Proofs.YtadefcohbkgbfabGreatDoor
open Go.RowKit

/-- A value with the blanks before and behind it: the reader's recursion closed. -/
theorem readValue_walk (rb : Nat) (s : ByteArray) (hs : s.size ≤ 100000) (B : Nat) (hB : B ≤ rb) : ∀ (n i : Nat) (tb kt : Bool) (w : World), s.size - i ≤ n → Rdr rb s i tb kt w → i ≤ s.size → TabsB B w → ErrB B w →
    Calls Tryz.prog 54 #[.pointer (some ⟨rb, 0, none⟩)] w (VPost rb s tb kt w ((val s (sk s i)).map fun q => (q.1, sk s q.2))) := by
  intro n
  induction n with
  | zero =>
    intro i tb kt w hn h hi hT hE
    have hlt := h.lt
    have g := sk_ge s i
    refine value_of rb s i tb kt w h hs hi fun w1 r1 k1 => bare_walk rb s (sk s i) tb kt w1 r1 hs (sk_le hi).2 B (hT.next (k1.below hB (by omega)) (Nat.le_refl _)) (hE.next (k1.below hB (by omega)) (Nat.le_refl _)) hB ?_ ?_
    · intro w2 r2 k2 hb; have := bt_in (s := s) (i := sk s i) (by omega); omega
    · intro w2 r2 k2 hb; have := bt_in (s := s) (i := sk s i) (by omega); omega
  | succ n ih =>
    intro i tb kt w hn h hi hT hE
    have hlt := h.lt
    have g := sk_ge s i
    refine value_of rb s i tb kt w h hs hi fun w1 r1 k1 => ?_
    have T1 := hT.next (k1.below hB (by omega)) (Nat.le_refl _)
    have E1 := hE.next (k1.below hB (by omega)) (Nat.le_refl _)
    have hs1 := k1.size
    refine bare_walk rb s (sk s i) tb kt w1 r1 hs (sk_le hi).2 B T1 E1 hB ?_ ?_
    · intro w2 r2 k2 hb
      have hs2 := k2.size
      refine readArray_walk rb s (sk s i) tb kt w2 r2 hs hb fun j tb' kt' w3 hj hjs r3 k3 => ?_
      exact ih j tb' kt' w3 (by omega) r3 hjs (T1.next ((k2.trans k3).below hB (by omega)) (Nat.le_refl _)) (E1.next ((k2.trans k3).below hB (by omega)) (Nat.le_refl _))
    · intro w2 r2 k2 hb
      have hs2 := k2.size
      refine readObject_walk rb s (sk s i) tb kt w2 r2 hs hb B (T1.next (k2.below hB (by omega)) (Nat.le_refl _)) hB fun j tb' kt' w3 hj hjs r3 k3 => ?_
      exact ih j tb' kt' w3 (by omega) r3 hjs (T1.next ((k2.trans k3).below hB (by omega)) (Nat.le_refl _)) (E1.next ((k2.trans k3).below hB (by omega)) (Nat.le_refl _))
end Go.Proofs.YtadefcohbkgbfabGreatDoor

