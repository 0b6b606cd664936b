import Derived.Lib.LaidTab
import Derived.Lib.BufferKept
import Derived.Test.YtadefcohbkgbfabGreatDoorBn9
import Derived.Test.YtadefcohbkgbfabGreatDoorBn6
import Derived.Test.YtadefcohbkgbfabGreatDoorBn18
import Derived.Test.YtadefcohbkgbfabGreatDoorBn22
import Derived.Test.YtadefcohbkgbfabGreatDoorBn19
import Derived.Test.YtadefcohbkgbfabGreatDoorBn1
namespace Go.Proofs.YtadefcohbkgbfabGreatDoor
open Go.RowKit Go.Sort

/-- The function that writes a value of a kind. -/
def wf : JV → FuncId
  | .nul => 174
  | .tt => 175
  | .ff => 175
  | .num _ => 178
  | .str _ => 169
  | .arr _ => 172
  | .obj _ => 173
structure WrAt (t : TypeId) (p : Value) (f : FuncId) : Prop where
  meth : ∀ w : World, (method 313 t p "loop.example/s04350/impl.write").run Tryz.prog w = .ok (f, p) w
  ent : ∀ args (w : World), (callFunc f args).run Tryz.prog w = .ok (.enter f args) w
theorem rep_iface {w : World} {S : Nat → Prop} : ∀ {v : JV} {x : Value}, Rep w S v x → ∃ t p, x = .iface t p
  | .nul, x, h => by rw [Rep] at h; exact ⟨_, _, h⟩
  | .tt, x, h => by rw [Rep] at h; exact ⟨_, _, h⟩
  | .ff, x, h => by rw [Rep] at h; exact ⟨_, _, h⟩
  | .num l, x, h => by rw [Rep] at h; obtain ⟨z, h, _⟩ := h; exact ⟨_, _, h⟩
  | .str l, x, h => by rw [Rep] at h; exact ⟨_, _, h⟩
  | .arr l, x, h => by rw [Rep] at h; obtain ⟨ab, sv, xs, h, _⟩ := h; exact ⟨_, _, h⟩
  | .obj m, x, h => by rw [Rep] at h; obtain ⟨ob, b, nn, xs, h, _⟩ := h; exact ⟨_, _, h⟩
theorem wrAt {w : World} {S : Nat → Prop} : ∀ {v : JV} {t : TypeId} {p : Value}, Rep w S v (.iface t p) → WrAt t p (wf v)
  | .nul, t, p, h => by
    rw [Rep] at h; injection h with h1 h2; subst h1; subst h2
    exact ⟨fun _ => by kernel_rfl, enters_of Tryz.func174 (by kernel_rfl) rfl⟩
  | .tt, t, p, h => by
    rw [Rep] at h; injection h with h1 h2; subst h1; subst h2
    exact ⟨fun _ => by kernel_rfl, enters_of Tryz.func175 (by kernel_rfl) rfl⟩
  | .ff, t, p, h => by
    rw [Rep] at h; injection h with h1 h2; subst h1; subst h2
    exact ⟨fun _ => by kernel_rfl, enters_of Tryz.func175 (by kernel_rfl) rfl⟩
  | .num l, t, p, h => by
    rw [Rep] at h; obtain ⟨z, h, _⟩ := h; injection h with h1 h2; subst h1; subst h2
    exact ⟨fun _ => by kernel_rfl, enters_of Tryz.func178 (by kernel_rfl) rfl⟩
  | .str l, t, p, h => by
    rw [Rep] at h; injection h with h1 h2; subst h1; subst h2
    exact ⟨fun _ => by kernel_rfl, enters_of Tryz.func169 (by kernel_rfl) rfl⟩
  | .arr l, t, p, h => by
    rw [Rep] at h; obtain ⟨ab, sv, xs, h, _⟩ := h; injection h with h1 h2; subst h1; subst h2
    exact ⟨fun _ => by kernel_rfl, enters_of Tryz.func172 (by kernel_rfl) rfl⟩
  | .obj m, t, p, h => by
    rw [Rep] at h; obtain ⟨ob, b, nn, xs, h, _⟩ := h; injection h with h1 h2; subst h1; subst h2
    exact ⟨fun _ => by kernel_rfl, enters_of Tryz.func173 (by kernel_rfl) rfl⟩

/-- The table of the powers of ten, below block B. -/
def PowB (B : Nat) (w : World) : Prop := 2 < B ∧ Lib.TabIs Tryz.prog w "internal/strconv.uint64pow10" .u64 Lib.pow10Tab
theorem PowB.next {B B' : Nat} {w w' : World} (h : PowB B w) (hb : Below B' w w') (hB : B ≤ B') : PowB B w' := by
  obtain ⟨h0, h⟩ := h
  refine ⟨h0, ?_⟩
  have hgn : Tryz.prog.globalNamed "internal/strconv.uint64pow10" = some 2 := by kernel_rfl
  unfold Lib.TabIs World.var? at h ⊢
  rw [hgn] at h ⊢
  simp only [Option.bind_some] at h ⊢
  rw [hb.block _ (by omega)]
  exact h
theorem isB_keep {B b : Nat} {l : List UInt8} {w w1 : World} (h : IsB B b l w) (hb : Below w.heap.size w w1) : IsB B b l w1 := by
  have g : ∀ p, Lib.BuilderAt 81 5 B b p (Lib.byteCells l) w → Lib.BuilderAt 81 5 B b p (Lib.byteCells l) w1 := by
    rintro p ⟨hB, v, hbk, hown, hne⟩
    exact ⟨hB, v, (hb.block b (Array.getElem?_eq_some_iff.1 hbk).1).trans hbk, own_below hown hb, hne⟩
  exact h.elim (fun x => .inl (g _ x)) (fun x => .inr (g _ x))
theorem below_grow (w : World) (k : Nat) (os : Array Obj) : Below w.heap.size w (grow (w.drewN k) os) :=
  ⟨rfl, rfl, rfl, by simp [grow], fun i hi => by show (w.heap ++ os)[i]? = _; rw [Array.getElem?_append_left hi]⟩
/-- What a value's writing promises. -/
def WriteC (v : JV) : Prop := ∀ (B b : Nat) (l : List UInt8) (w : World) (S : Nat → Prop) (t : TypeId) (p : Value), Rep w S v (.iface t p) → (∀ k, S k → k < B) → IsB B b l w → B ≤ w.heap.size → PowB B w → l.length + (ct v).length ≤ 10000000 →
  Calls Tryz.prog (wf v) #[p, .pointer (some ⟨b, 0, none⟩)] w fun e w' => e = .returned (.tuple #[]) ∧ IsB B b (l ++ ct v) w' ∧ Below B w w' ∧ OK5 b w w'

set_option maxRecDepth 100000 in
set_option maxHeartbeats 800000 in
theorem write_nul : WriteC .nul := by
  intro B b l w S t p h _ hI hB _ hl
  rw [Rep] at h; injection h with h1 h2; subst h1; subst h2
  have hw : B ≤ (w.alloc (.cells #[] 135)).heap.size := by simp; omega
  have HC := hide (writeString_k B b _ ⟨#[110, 117, 108, 108]⟩ (w.alloc (.cells #[] 135)) (hI.alloc _) (by rw [Lib.byteCells_length]; simp [ct] at hl; show _ + 4 ≤ _; omega) hw)
  show Calls Tryz.prog 174 _ _ _
  go_enter Tryz.func174, Tryz.ntmps174
  go_wp2_with fail
  refine (unhide HC).mono ?_
  rintro e w1 ⟨rfl, h1, b1, k1⟩
  go_wp2
  go_end0
  exact ⟨rfl, IsB.str rfl h1, ((Below.refl _ _).alloc hB _).trans b1, ((Lib.OthersKept.refl _ _ _).alloc _).trans k1⟩
set_option maxRecDepth 100000 in
set_option maxHeartbeats 800000 in
theorem write_bool (x : Bool) (B b : Nat) (l : List UInt8) (w : World) (hI : IsB B b l w) (hB : B ≤ w.heap.size) (hl : l.length ≤ 10000000) :
    Calls Tryz.prog 175 #[.bool x, .pointer (some ⟨b, 0, none⟩)] w fun e w' => e = .returned (.tuple #[]) ∧ IsB B b (l ++ Lib.formatBool x) w' ∧ Below B w w' ∧ OK5 b w w' := by
  have hz : (⟨(Lib.formatBool x).toArray⟩ : ByteArray).size ≤ 5 := by cases x <;> decide
  have HC := hide (writeString_k B b _ ⟨(Lib.formatBool x).toArray⟩ w hI (by rw [Lib.byteCells_length]; omega) hB)
  have HF := hide (Tryz.strconv_FormatBool x w)
  have hd : Hid (Lib.formatBool x = (⟨(Lib.formatBool x).toArray⟩ : ByteArray).data.toList) := by show _ = _; simp
  generalize (⟨(Lib.formatBool x).toArray⟩ : ByteArray) = q at *
  generalize Lib.formatBool x = q' at *
  go_enter Tryz.func175, Tryz.ntmps175
  go_wp2_with fail
  refine (unhide HF).mono ?_
  rintro e w1 ⟨rfl, rfl⟩
  clear HF
  go_wp2_with fail
  refine (unhide HC).mono ?_
  rintro e w1 ⟨rfl, h1, b1, k1⟩
  go_wp2
  go_end0
  exact ⟨rfl, IsB.str (unhide hd) h1, b1, k1⟩
theorem write_tt : WriteC .tt := by
  intro B b l w S t p h _ hI hB _ hl
  rw [Rep] at h; injection h with h1 h2; subst h1; subst h2
  exact write_bool true B b l w hI hB (by simp [ct] at hl; omega)
theorem write_ff : WriteC .ff := by
  intro B b l w S t p h _ hI hB _ hl
  rw [Rep] at h; injection h with h1 h2; subst h1; subst h2
  exact write_bool false B b l w hI hB (by simp [ct] at hl; omega)

set_option maxRecDepth 100000 in
set_option maxHeartbeats 800000 in
theorem write_num (x : List UInt8) : WriteC (.num x) := by
  intro B b l w S t p h _ hI hB hP hl
  rw [Rep] at h; obtain ⟨z, h, rfl, z0, z1⟩ := h; injection h with h1 h2; subst h1; subst h2
  have HF := hide (Tryz.strconv_FormatInt_10 z z0 z1 w hP.2)
  have hct : ct (.num (Lib.itoa z)) = Lib.itoa z := rfl
  rw [hct] at hl ⊢
  have hz : (⟨(Lib.itoa z).toArray⟩ : ByteArray).size = (Lib.itoa z).length := by show (Lib.itoa z).toArray.size = _; simp
  have HC : Hid (∀ w1, Below w.heap.size w w1 → Calls Tryz.prog 101 #[.pointer (some ⟨b, 0, none⟩), .string ⟨(Lib.itoa z).toArray⟩] w1 fun e w' => e = .returned (.tuple #[.int .i64 (⟨(Lib.itoa z).toArray⟩ : ByteArray).size, .nilIface]) ∧ IsB B b (l ++ Lib.itoa z) w' ∧ Below B w1 w' ∧ OK5 b w1 w') := fun w1 hb => by
    have hI1 : IsB B b l w1 := isB_keep hI hb
    refine (writeString_k B b _ ⟨(Lib.itoa z).toArray⟩ w1 hI1 (by rw [Lib.byteCells_length]; omega) (Nat.le_trans hB hb.size)).mono ?_
    rintro e w' ⟨rfl, h1, b1, k1⟩
    exact ⟨rfl, IsB.str (by simp) h1, b1, k1⟩
  generalize (⟨(Lib.itoa z).toArray⟩ : ByteArray) = q at *
  generalize Lib.itoa z = q' at *
  have HB := hide hB
  clear hI hB hP hl
  show Calls Tryz.prog 178 _ _ _
  go_enter Tryz.func178, Tryz.ntmps178
  go_wp2_with fail
  refine (unhide HF).mono ?_
  rintro e w1 ⟨rfl, k, os, rfl⟩
  have b0 : Below w.heap.size w (grow (w.drewN k) os) := below_grow _ _ _
  clear HF
  generalize grow (w.drewN k) os = w1 at *
  have HC1 := hide (unhide HC w1 b0)
  clear HC
  go_wp2_with fail
  refine (unhide HC1).mono ?_
  rintro e w2 ⟨rfl, h1, b1, k1⟩
  go_wp2
  go_end0
  exact ⟨rfl, h1, (b0.mono (unhide HB)).trans b1, (Lib.OthersKept.below (Lib.OthersKept.refl _ _ _) b0).trans k1⟩

theorem write_str (x : List UInt8) (hv : Lib.validD x = true) : WriteC (.str x) := by
  intro B b l w S t p h _ hI hB _ hl
  rw [Rep] at h; injection h with h1 h2; subst h1; subst h2
  have e : ct (.str x) = 34 :: (rs (strOf x) ++ [34]) := by rw [rs_eq (strOf x) (by rw [strOf_toList]; exact hv), strOf_toList]; rfl
  have hx : x.length ≤ (ct (.str x)).length := by
    show _ ≤ (quoted x).length
    have : x.length ≤ (qs x).length := qs_ge x
    simp [quoted]; omega
  refine (strWrite_walk B b l (strOf x) w hI hB (by omega) (by rw [strOf_size]; omega)).mono ?_
  rintro e1 w' ⟨rfl, h1, b1, k1⟩
  exact ⟨rfl, by rw [e]; exact h1, b1, k1⟩
end Go.Proofs.YtadefcohbkgbfabGreatDoor


namespace Go.Proofs.YtadefcohbkgbfabGreatDoor
open Go.RowKit Go.Sort

theorem repL_at {w : World} {S : Nat → Prop} : ∀ (l : JL) (xs : List Value), RepL w S l xs → xs.length = l.toL.length ∧ ∀ j (h : j < xs.length) (h' : j < l.toL.length), Rep w S l.toL[j] xs[j]
  | .nil, xs, h => by rw [RepL] at h; subst h; exact ⟨rfl, fun j h => by simp at h⟩
  | .cons v r, xs, h => by
    rw [RepL] at h
    obtain ⟨x, xs', rfl, h2, h3⟩ := h
    obtain ⟨i1, i2⟩ := repL_at r xs' h3
    refine ⟨by simp [JL.toL, i1], fun j hj hj' => ?_⟩
    cases j with
    | zero => exact h2
    | succ j => exact i2 j (by simpa using hj) (by simpa [JL.toL] using hj')
theorem row_shape {w : World} {S : Nat → Prop} {sv : Value} {xs : List Value} (h : RowIs w S sv xs) : ∃ a g cap, sv = .slice a xs.length cap ∧ (0 < xs.length → a = some ⟨g, 0, none⟩ ∧ S g) ∧ ∀ j (hj : j < xs.length), w.cell? ⟨g, j, none⟩ = some xs[j] := by
  obtain ⟨h, hS⟩ := h
  have hcl := h.1
  rcases h.2 with ⟨hv, h0⟩ | ⟨g, cap, cur, hv, hB, hg, r⟩
  · refine ⟨none, 0, 0, by rw [hv, h0], fun hx => by omega, fun j hj => by omega⟩
  · subst hv
    refine ⟨some ⟨g, 0, none⟩, g, cap, rfl, fun _ => ⟨rfl, hS g rfl⟩, fun j hj => ?_⟩
    rw [h.cellAt j (by omega)]
    simp
theorem joinC_one (xs : List (List UInt8)) (k : Nat) (h : k < xs.length) : joinC (xs.take (k + 1)) = joinC (xs.take k) ++ (if k = 0 then xs[k] else 44 :: xs[k]) := by
  rw [List.take_succ_eq_append_getElem h, joinC_snoc]
  by_cases hk : k = 0
  · subst hk; simp
  · rw [if_neg hk, if_neg (by intro e; have := congrArg List.length e; rw [List.length_take, List.length_nil] at this; omega)]
theorem joinC_tk (xs : List (List UInt8)) (k : Nat) : (joinC (xs.take k)).length ≤ (joinC xs).length := by
  induction xs generalizing k with
  | nil => simp
  | cons x xs ih =>
    cases k with
    | zero => simp [joinC]
    | succ k =>
      rw [List.take_succ_cons, joinC, joinC]
      have : ∀ (ys : List (List UInt8)) k, (joinT (ys.take k)).length ≤ (joinT ys).length := by
        intro ys
        induction ys with
        | nil => simp
        | cons y ys ihy =>
          intro k
          cases k with
          | zero => simp [joinT]
          | succ k => rw [List.take_succ_cons, joinT, joinT]; have := ihy k; simp; omega
      have := this xs k
      simp; omega
theorem joinC_cnt (xs : List (List UInt8)) : xs.length ≤ (joinC xs).length + 1 := by
  cases xs with
  | nil => simp
  | cons x xs =>
    rw [joinC]
    have : ∀ ys : List (List UInt8), ys.length ≤ (joinT ys).length := by
      intro ys
      induction ys with
      | nil => simp
      | cons y ys ih => rw [joinT]; simp; omega
    have := this xs
    simp; omega

set_option maxRecDepth 100000 in
set_option maxHeartbeats 4000000 in
theorem write_arr (l : JL) (hall : ∀ v ∈ l.toL, WriteC v) : WriteC (.arr l) := by
  intro B b l0 w S t p h hS hI hB hP hlen
  rw [Rep] at h
  obtain ⟨ab, sv, xs, h, hSab, hab, hrow, hrl⟩ := h
  injection h with h1 h2; subst h1; subst h2
  obtain ⟨a, g, cap, rfl, hadr, hcell⟩ := row_shape hrow
  have hxl := (repL_at l xs hrl).1
  have hc0 : w.cell? ⟨ab, 0, none⟩ = some (.slice a xs.length cap) := by rw [Lib.cell_of_heap hab]; rfl
  have hablt : ab < B := hS _ hSab
  have hct : ct (.arr l) = 91 :: (joinC (ctL l) ++ [93]) := rfl
  have hcl : (ctL l).length = xs.length := by rw [ctL_map, List.length_map, hxl]
  have hn := joinC_cnt (ctL l)
  have hjt : l0.length + (joinC (ctL l)).length + 2 ≤ 10000000 := by rw [hct] at hlen; simp at hlen; omega
  have hxn : xs.length ≤ 10000000 := by omega
  have HALL : Hid (∀ (k : Nat) (hk : k < xs.length) (acc : List UInt8) (wr : World), IsB B b acc wr → Below B w wr → acc.length + ((ctL l).getD k []).length ≤ 10000000 → ∃ t p f, xs[k] = .iface t p ∧ WrAt t p f ∧ Calls Tryz.prog f #[p, .pointer (some ⟨b, 0, none⟩)] wr fun e w' => e = .returned (.tuple #[]) ∧ IsB B b (acc ++ (ctL l).getD k []) w' ∧ Below B wr w' ∧ OK5 b wr w') := by
    intro k hk acc wr hI' hb' hl'
    have hk' : k < l.toL.length := by omega
    have hr := (repL_at l xs hrl).2 k hk hk'
    obtain ⟨t, p, he⟩ := rep_iface hr
    rw [he] at hr
    have hr' := Rep.keep (w' := wr) (S' := S) (fun k hk => hb'.block k (hS k hk)) (fun _ h => h) _ _ hr
    have hd : (ctL l).getD k [] = ct l.toL[k] := by rw [ctL_map]; simp [List.getD, hk']
    rw [hd] at hl' ⊢
    exact ⟨t, p, wf l.toL[k], he, wrAt hr, hall _ (List.getElem_mem hk') B b acc wr S t p hr' hS hI' (Nat.le_trans hB hb'.size) (hP.next hb' (Nat.le_refl _)) hl'⟩
  have HJ : Hid (∀ k, k < xs.length → joinC ((ctL l).take (k + 1)) = joinC ((ctL l).take k) ++ (if k = 0 then (ctL l).getD k [] else 44 :: (ctL l).getD k [])) := fun k hk => by
    have := joinC_one (ctL l) k (by omega)
    rw [this]; simp [List.getD, show k < (ctL l).length by omega]
  have HJL : Hid (∀ k, (joinC ((ctL l).take k)).length ≤ (joinC (ctL l)).length) := joinC_tk (ctL l)
  have HE : Hid ((ctL l).take xs.length = ctL l) := List.take_of_length_le (by omega)
  have HC : Hid (∀ j (hj : j < xs.length) (wr : World), Below B w wr → wr.cell? ⟨g, j, none⟩ = some xs[j]) := fun j hj wr hb' => by
    have hg : g < B := hS _ ((hadr (by omega)).2)
    exact (hb'.cell (p := ⟨g, j, none⟩) hg).trans (hcell j hj)
  have hadr' : 0 < xs.length → a = some ⟨g, 0, none⟩ := fun h => (hadr h).1
  have HCT := hide hct
  have hl0 : (Lib.byteCells l0).length ≤ 10000000 := by rw [Lib.byteCells_length]; omega
  generalize ctL l = cs at *
  have HW1 : Hid (∀ (acc : List UInt8) (c : Int) (c' : UInt8) (wr : World), c = (c'.toNat : Int) → acc.length ≤ 10000000 → IsB B b acc wr → B ≤ wr.heap.size → Calls Tryz.prog 100 #[.pointer (some ⟨b, 0, none⟩), .int .u8 c] wr fun e w' => e = .returned .nilIface ∧ IsB B b (acc ++ [c']) w' ∧ Below B wr w' ∧ OK5 b wr w') := fun acc c c' wr hc ha hI' hB' => by
    refine (writeByte_k B b _ c wr hI' (by rw [Lib.byteCells_length]; omega) hB').mono ?_
    rintro e w' ⟨rfl, h1, b1, k1⟩
    exact ⟨rfl, IsB.byte hc h1, b1, k1⟩
  have HW0 := hide (unhide HW1 l0 91 91 w rfl (by omega) hI hB)
  have HB := hide hB
  clear hrow hrl hcell hadr hS hP hab hct hcl hall hlen hxl hn hI hB hSab
  show Calls Tryz.prog 172 _ _ _
  go_enter Tryz.func172, Tryz.ntmps172
  go_wp2_with fail
  refine (unhide HW0).mono ?_
  rintro e w1 ⟨rfl, i1, b1, k1⟩
  have hc1 : w1.cell? ⟨ab, 0, none⟩ = some (.slice a xs.length cap) := (b1.cell (p := ⟨ab, 0, none⟩) hablt).trans hc0
  clear HW0 hc0
  have I1 := hide i1
  have B1 := hide b1
  have K1 := hide k1
  clear i1 b1 k1
  go_wp2
  go_loopw [13] (fun i wr => ∃ k : Nat, k ≤ xs.length ∧ i = .int .i64 k ∧ IsB B b (l0 ++ 91 :: joinC (cs.take k)) wr ∧ Below B w wr ∧ OK5 b w wr) (fun i _ => xs.length - (intOf i).toNat)
  case atStart => exact ⟨0, Nat.zero_le _, rfl, by have := unhide I1; simpa [joinC] using this, unhide B1, unhide K1⟩
  case round =>
    obtain ⟨k, hk, rfl, hI, hb, hok⟩ := hrel
    have HOK := hide hok
    clear hok K1
    have hBr : B ≤ wr.heap.size := Nat.le_trans (unhide HB) hb.size
    clear I1 B1 hc1
    by_cases hlt : k < xs.length
    · have hltI : (k : Int) < (xs.length : Int) := by omega
      obtain rfl := hadr' (by omega)
      have hck := unhide HC k hlt wr hb
      have HJk := hide (unhide HJ k hlt)
      have hj1 := unhide HJL (k + 1)
      rw [unhide HJk] at hj1
      have hj0 := unhide HJL k
      generalize joinC (cs.take k) = jk at *
      by_cases hk0 : k = 0
      · rw [if_pos hk0] at HJk hj1
        have tk : (0 < k) = False := eq_false (by omega)
        obtain ⟨t, p, f, he, hw, hcall⟩ := unhide HALL k hlt (l0 ++ 91 :: jk) wr hI hb (by simp at hj1 ⊢; omega)
        rw [he] at hck
        have hm := hw.meth
        have hen := hw.ent
        have HCALL := hide hcall
        generalize cs.getD k [] = ck at *
        have HB' := hide hb
        clear hI hw he hcall hj1 hj0 HALL HJ HJL HC HW1 hb hk0
        go_wp2_with fail
        refine (unhide HCALL).mono ?_
        rintro e w2 ⟨rfl, i2, b2, k2⟩
        clear HCALL hck hm hen
        go_wp2
        go_roundw
        case rel => exact ⟨k + 1, by omega, by go_num, by rw [unhide HJk]; simpa using i2, (unhide HB').trans b2, (unhide HOK).trans k2⟩
        case measure => simp [intOf]; omega
      · rw [if_neg hk0] at HJk hj1
        have tk : (0 < k) = True := eq_true (by omega)
        have HWC := hide (unhide HW1 (l0 ++ 91 :: jk) 44 44 wr rfl (by simp at hj0 ⊢; omega) hI hBr)
        have HIB := hide (⟨hI, hb⟩ : IsB B b (l0 ++ 91 :: jk) wr ∧ Below B w wr)
        have HALLk : Hid (∀ w2, IsB B b (l0 ++ 91 :: jk ++ [44]) w2 → Below B w w2 → ∃ t p f, xs[k] = .iface t p ∧ WrAt t p f ∧ Calls Tryz.prog f #[p, .pointer (some ⟨b, 0, none⟩)] w2 fun e w' => e = .returned (.tuple #[]) ∧ IsB B b (l0 ++ 91 :: jk ++ [44] ++ cs.getD k []) w' ∧ Below B w2 w' ∧ OK5 b w2 w') := fun w2 h1 h2 => unhide HALL k hlt _ w2 h1 h2 (by simp at hj1 ⊢; omega)
        generalize cs.getD k [] = ck at *
        generalize hx : xs[k] = x at *
        clear hI hb hj1 hj0 HALL HJ HJL HC HW1 hx
        go_wp2_with fail
        refine (unhide HWC).mono ?_
        rintro e w2 ⟨rfl, i2, b2, k2⟩
        obtain ⟨t, p, f, rfl, hw, hcall⟩ := unhide HALLk w2 i2 ((unhide HIB).2.trans b2)
        have hm := hw.meth
        have hen := hw.ent
        have HCALL := hide hcall
        have B2 := hide ((unhide HIB).2.trans b2)
        have K2 := hide ((unhide HOK).trans k2)
        clear HWC HALLk HIB i2 b2 k2 hw hcall hck
        go_wp2_with fail
        refine (unhide HCALL).mono ?_
        rintro e w3 ⟨rfl, i3, b3, k3⟩
        clear HCALL hm hen
        go_wp2
        go_roundw
        case rel => exact ⟨k + 1, by omega, by go_num, by rw [unhide HJk]; simpa using i3, (unhide B2).trans b3, (unhide K2).trans k3⟩
        case measure => simp [intOf]; omega
    · have hk' : k = xs.length := by omega
      subst hk'
      rw [unhide HE] at hI
      have HWE := hide (unhide HW1 (l0 ++ 91 :: joinC cs) 93 93 wr rfl (by simp; omega) hI hBr)
      have HB' := hide hb
      clear hI hb HALL HJ HJL HC HW1
      go_wp2_with fail
      refine (unhide HWE).mono ?_
      rintro e w2 ⟨rfl, i2, b2, k2⟩
      go_wp2
      go_end0
      exact ⟨rfl, by rw [unhide HCT]; simpa using i2, (unhide HB').trans b2, (unhide HOK).trans k2⟩
end Go.Proofs.YtadefcohbkgbfabGreatDoor

