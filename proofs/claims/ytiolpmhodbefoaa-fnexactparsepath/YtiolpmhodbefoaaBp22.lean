import Derived.Test.YtiolpmhodbefoaaBp21
import Derived.Test.YtiolpmhodbefoaaBp1
import Derived.BigQuiet
namespace Go.Proofs.Ytiolpmhodbefoaa
open Go.RowKit

/-- A row of texts that the call owns. -/
def TS (w : World) (B : Nat) (v : Value) (ts : List Bs) : Prop := w.ownsRow B 9 1 v ts.length (ts.map fun t => Value.string (bsT t))
theorem infoSt1 : (Try.prog.info? 9).map (fun i => (i.zero, i.size, i.bytes)) = some (some (.string ByteArray.empty), 1, 16) := by kernel_rfl
theorem TS.snoc {w : World} {B : Nat} {v : Value} {ts : List Bs} {t : Bs} (h : w.ownsRow B 9 1 v (ts.length + 1) ((ts.map fun t => Value.string (bsT t)) ++ [.string (bsT t)])) : TS w B v (ts ++ [t]) := by
  unfold TS
  rw [List.length_append, List.map_append]
  exact h
/-- A row of another type keeps where it lies. -/
theorem own_other {w w' : World} {B B' e e' n n' z z' : Nat} {v v' : Value} {xs xs' : List Value} (h : w.ownsRow B e z v n xs) (k : w.ownsRow B' e' z' v' n' xs') (hne : e ≠ e') (hg : w.grownBy w' v'.ownBlock) : w'.ownsRow B e z v n xs := by
  refine ⟨h.1, ?_⟩
  rcases h.2 with h0 | ⟨g, cap, cur, hv, hB, hgm, r⟩
  · exact .inl h0
  · have hlt : g < w.heap.size := (Array.getElem?_eq_some_iff.1 hgm).1
    refine .inr ⟨g, cap, cur, hv, hB, (hg.block g hlt ?_).trans hgm, r⟩
    intro e1
    rcases k.2 with ⟨hv', _⟩ | ⟨g', cap', cur', hv', _, hgm', _⟩
    · subst hv'; cases e1
    · subst hv'
      have e2 : g = g' := by
        have : some g = some g' := e1
        injection this
      subst e2
      rw [hgm] at hgm'
      injection hgm' with h1
      injection h1 with _ h2 _
      exact hne h2
theorem TI.cells {w : World} {B : Nat} {v : Value} {ns : List Nat} (h : TI w B v ns) : ∃ b cap, v = .slice b ns.length cap ∧ ∀ (j : Nat) (hj : j < ns.length), ∃ g, b = some ⟨g, 0, none⟩ ∧ w.cell? ⟨g, j, none⟩ = some (.int .i64 (ns[j] : Int)) := by
  rcases h.2 with ⟨hv, h0⟩ | ⟨g, cap, cur, hv, _⟩
  · exact ⟨none, 0, by rw [hv, h0], fun j hj => by omega⟩
  · refine ⟨_, cap, hv, fun j hj => ⟨g, rfl, ?_⟩⟩
    have := World.ownsRow.cells (g := g) (show w.ownsRow B 3 1 v ns.length (ns.map fun (n : Nat) => Value.int .i64 (n : Int)) from h) (by rw [hv]; rfl) j (.int .i64 (ns[j] : Int)) (by rw [List.getElem?_map, List.getElem?_eq_getElem hj]; rfl)
    rw [Go.WideShapes.add_plain] at this
    simpa using this
/-- Places in their order, with room between. -/
def Asc (m : Nat) : Nat → List Nat → Nat → Prop
  | f, [], e => f ≤ e
  | f, c :: r, e => f ≤ c ∧ Asc m (c + m) r e
theorem Asc.le {m : Nat} : ∀ {ns : List Nat} {f e : Nat}, Asc m f ns e → f ≤ e
  | [], _, _, h => h
  | c :: r, f, e, h => by have := h.2.le; have := h.1; omega
theorem Asc.len {m : Nat} (hm : 1 ≤ m) : ∀ {ns : List Nat} {f e : Nat}, Asc m f ns e → f + ns.length ≤ e
  | [], _, _, h => h
  | c :: r, f, e, h => by have := Asc.len hm h.2; have := h.1; rw [List.length_cons]; omega
theorem oneS (b : ByteArray) : ∀ u ∈ [Value.string b], u.oneCell' = true := by intro u hu; simp at hu; subst hu; rfl
theorem tps_asc (w : UInt8) (ws : Bs) : ∀ (n : Nat) (l : Bs), l.length ≤ n → ∀ (o : Int) (i f : Nat), f ≤ i → Asc (ws.length + 1) f (tps w ws o i l) (i + l.length)
  | n, [], _, o, i, f, hf => by rw [tps_nil]; exact hf
  | 0, c :: r, h, _, _, _, _ => by simp at h
  | n + 1, c :: r, h, o, i, f, hf => by
    have hr : r.length ≤ n := by simp at h; omega
    by_cases hh : o = 0 ∧ (w :: ws).isPrefixOf (c :: r) = true
    · obtain ⟨rfl, hp⟩ := hh
      rw [tps_hit hp]
      refine ⟨hf, ?_⟩
      have hl := (List.isPrefixOf_iff_prefix.1 hp).length_le
      rw [List.length_cons, List.length_cons] at hl
      have := tps_asc w ws n (r.drop ws.length) (by rw [List.length_drop]; omega) 0 (i + (ws.length + 1)) (i + (ws.length + 1)) (Nat.le_refl _)
      rw [List.length_drop] at this
      rw [List.length_cons, show i + (r.length + 1) = i + (ws.length + 1) + (r.length - ws.length) by omega]
      exact this
    · by_cases hc : c = 39
      · subst hc
        rw [tps_39 hh]
        cases e : sE r with
        | none => show f ≤ _; omega
        | some t =>
          have hlt := sE_len e
          have := tps_asc w ws n t (by omega) o (i + (r.length + 1 - t.length)) f (by omega)
          rw [List.length_cons, show i + (r.length + 1) = i + (r.length + 1 - t.length) + t.length by omega]
          exact this
      · rw [tps_chr hh hc]
        have := tps_asc w ws n r hr (brkO o c) (i + 1) f (by omega)
        rw [List.length_cons, show i + (r.length + 1) = i + 1 + r.length by omega]
        exact this
theorem ext_bs (s : ByteArray) (i j : Nat) : s.extract i j = bsT ((s.data.toList.drop i).take (j - i)) := by
  rw [← Lib.extract_data]; rfl
set_option maxRecDepth 100000 in
set_option maxHeartbeats 4000000 in
theorem split2_walk (s t : ByteArray) (c : UInt8) (ws : Bs) (w : World) (hs : s.size ≤ 1048576) (ht : t.data.toList = c :: ws) (hts : t.size ≤ 10) :
    Calls Try.prog 36 #[.string s, .string t] w fun e w' => ∃ v, e = .returned v ∧ TS w' w.heap.size v (spl c ws 0 [] s.data.toList) ∧ Below w.heap.size w w' := by
  obtain ⟨i0, hi, hz0, hz1, hz2⟩ := info_parts infoSt1
  have HT : Hid (∀ w, Calls Try.prog 54 #[.string s, .string t] w fun e w' => ∃ v, e = .returned v ∧ TI w' w.heap.size v (tps c ws 0 0 s.data.toList) ∧ Below w.heap.size w w') := fun w => tops_walk s t c ws w hs ht hts
  have htl : t.size = ws.length + 1 := by rw [← data_len, ht]; rfl
  have HAsc : Hid (Asc t.size 0 (tps c ws 0 0 s.data.toList) s.size) := by
    have := tps_asc c ws s.data.toList.length s.data.toList (Nat.le_refl _) 0 0 0 (Nat.le_refl _)
    rw [Nat.zero_add, data_len] at this
    rw [htl]; exact this
  have HR : Hid (cutL s.data.toList t.size 0 (tps c ws 0 0 s.data.toList) = spl c ws 0 [] s.data.toList) := by show _ = _; rw [htl]; exact (spl_cut c ws s.data.toList).symm
  generalize spl c ws 0 [] s.data.toList = R at *
  generalize tps c ws 0 0 s.data.toList = ns at *
  have ht1 : 1 ≤ t.size := by omega
  clear ht htl
  go_enter Try.func36, Try.ntmps36
  go_wp2_with fail
  refine (unhide HT _).mono ?_
  rintro e w1 ⟨cv, rfl, hti, b1⟩
  clear HT
  have hown0 : w1.ownsRow w.heap.size 9 1 (.slice (some ⟨w.heap.size, 0, none⟩) 0 0) 0 [] := own_below (World.ownsRow_lit w #[] 0 (Nat.le_refl _) (by unfold maxLen; omega) rfl) b1
  have hb0 : Below w.heap.size w w1 := ((Below.refl _ _).alloc (Nat.le_refl _) _).trans (b1.mono (by simp))
  have hti0 := own_mono hti (B' := w.heap.size) (by simp)
  obtain ⟨cb, ccap, hcv, -⟩ := hti.cells
  subst hcv
  have hlen : ns.length ≤ 1048576 := by have := Asc.len ht1 (unhide HAsc); omega
  have HO0 := hide hown0
  have HB0 := hide hb0
  have HTI0 := hide hti0
  clear hown0 hb0 hti0 hti b1
  go_wp2
  go_loopw [5, 6, 8] (fun v fv iv wr => ∃ (k f : Nat) (ts : List Bs), k ≤ ns.length ∧ ts.length ≤ k ∧ fv = .int .i64 (f : Int) ∧ iv = .int .i64 (k : Int) ∧ Hid (Asc t.size f (ns.drop k) s.size) ∧ Hid (ts ++ cutL s.data.toList t.size f (ns.drop k) = R) ∧ Hid (TI wr w.heap.size (.slice cb ns.length ccap) ns) ∧ Hid (TS wr w.heap.size v ts) ∧ Below w.heap.size w wr) (fun _ _ iv _ => ns.length - (intOf iv).toNat)
  case atStart => exact ⟨0, 0, [], by omega, by simp, rfl, rfl, HAsc, HR, HTI0, HO0, unhide HB0⟩
  case round =>
    obtain ⟨k, f, ts, hk, hts2, rfl, rfl, hasc, hd, hti, hown, hb⟩ := hrel
    clear HO0 HB0 HTI0 HAsc HR
    have hwsz := hb.size
    have HB := hide hb
    clear hb
    by_cases hlt : k < ns.length
    · have hltI : (k : Int) < (ns.length : Int) := by omega
      have hdr : ns.drop k = ns[k] :: ns.drop (k + 1) := by rw [← List.getElem_cons_drop (h := hlt)]
      rw [hdr] at hasc hd
      have ha := unhide hasc
      have ha1 : f ≤ ns[k] := ha.1
      have ha2 : ns[k] + t.size ≤ s.size := Asc.le ha.2
      have HA := hide ha.2
      have HN : Hid ((ts ++ [(s.data.toList.drop f).take (ns[k] - f)]) ++ cutL s.data.toList t.size (ns[k] + t.size) (ns.drop (k + 1)) = R) := by
        show _ = _
        rw [← unhide hd, cutL]; simp
      obtain ⟨cb', ccap', hcv, hcell⟩ := TI.cells (unhide hti)
      obtain ⟨g, hg, hc⟩ := hcell k hlt
      have hcb : cb = some ⟨g, 0, none⟩ := by injection hcv with h1 _ _; rw [h1]; exact hg
      subst hcb
      clear hcell hcv hg hdr hasc hd ha
      generalize hq : ns[k] = q at *
      have i1 : (f : Int) ≤ (q : Int) := by omega
      have i2 : (q : Int) ≤ (s.size : Int) := by omega
      have i3 : (0 : Int) ≤ (f : Int) := by omega
      go_wp2_with (at_builtin; refine wpList_append_own _ rfl (.tmp 19) (.tmp 27) 76 rfl w.heap.size 9 i0 (.string ByteArray.empty) 1 16 Try.underlying76 hi hz0 hz1 hz2 rfl (by decide) _ _ _ rfl ((unhide hown).alloc _) ⟨wr.heap.size, 0, none⟩ 1 1 [.string (s.extract f q)] rfl rfl (lit1 _ _ _) (oneS _) (by unfold maxLen; omega) (by omega) (by simp; omega) ?_)
      intro v2 w2 hown2 hgrow2 _
      have hti2 : TI w2 w.heap.size (.slice (some ⟨g, 0, none⟩) ns.length ccap) ns := own_other ((unhide hti).alloc _) ((unhide hown).alloc _) (by decide) hgrow2
      have HB2 : Hid (Below w.heap.size w w2) := ((unhide HB).alloc hwsz _).grown hgrow2 (by simp; omega) (fun k hk => ((unhide hown).lt k hk).1)
      rw [ext_bs] at hown2
      have HO2 : Hid (TS w2 w.heap.size v2 (ts ++ [(s.data.toList.drop f).take (q - f)])) := TS.snoc hown2
      obtain ⟨cb', ccap', hcv, hcell⟩ := TI.cells hti2
      obtain ⟨g', hg, hc2⟩ := hcell k hlt
      have hgg : g = g' := by injection hcv with h1 _ _; rw [← h1] at hg; injection hg with hg; injection hg
      subst hgg
      rw [hq] at hc2
      have HTI2 := hide hti2
      clear hown2 hgrow2 hown HB hti hti2 hcell hcv hg hc
      go_wp2
      go_roundw
      case rel => exact ⟨k + 1, q + t.size, _, by omega, by simp; omega, by go_num, by go_num, HA, HN, HTI2, HO2, unhide HB2⟩
      case measure => simp [intOf]; omega
    · obtain rfl : k = ns.length := by omega
      have hf := Asc.le (unhide hasc)
      have HN : Hid (ts ++ [(s.data.toList.drop f).take (s.size - f)] = R) := by
        show _ = _
        rw [← unhide hd, List.drop_of_length_le (Nat.le_refl _), cutL, List.take_of_length_le (by rw [List.length_drop, data_len]; exact Nat.le_refl _)]
      clear hasc hd hti
      have i2 : (f : Int) ≤ (s.size : Int) := by omega
      go_wp2_with (at_builtin; refine wpList_append_own _ rfl (.tmp 36) (.tmp 40) 76 rfl w.heap.size 9 i0 (.string ByteArray.empty) 1 16 Try.underlying76 hi hz0 hz1 hz2 rfl (by decide) _ _ _ rfl ((unhide hown).alloc _) ⟨wr.heap.size, 0, none⟩ 1 1 [.string (s.extract f s.size)] rfl rfl (lit1 _ _ _) (oneS _) (by unfold maxLen; omega) (by omega) (by simp; omega) ?_)
      intro v2 w2 hown2 hgrow2 _
      have HB2 : Hid (Below w.heap.size w w2) := ((unhide HB).alloc hwsz _).grown hgrow2 (by simp; omega) (fun k hk => ((unhide hown).lt k hk).1)
      rw [ext_bs] at hown2
      have HO2 : Hid (TS w2 w.heap.size v2 (ts ++ [(s.data.toList.drop f).take (s.size - f)])) := TS.snoc hown2
      clear hown2 hgrow2 hown HB
      rw [unhide HN] at HO2
      go_wp2
      go_ret
      exact ⟨_, rfl, unhide HO2, unhide HB2⟩
end Go.Proofs.Ytiolpmhodbefoaa


namespace Go.Proofs.Ytiolpmhodbefoaa
open Go.RowKit

/-- The four signs that are looked for. -/
def sgC : Nat → UInt8
  | 0 => 61
  | 1 => 33
  | 2 => 60
  | _ => 62
def sgT : Nat → Bs
  | 0 => [61]
  | 1 => [61]
  | _ => []
def cmUp (l : Bs) : Nat → Option Nat
  | 0 => none
  | k + 1 => minO (cmUp l k) (fT (sgC k) (sgT k) 0 0 l)
theorem cmUp_all (l : Bs) : cmUp l 4 = fCmp l := rfl
theorem minO_none (a : Option Nat) : minO a none = a := by cases a <;> rfl
theorem sg_cell (w : World) (t : TypeId) {k : Nat} (hk : k < 4) : (w.alloc (.cells #[.string ⟨#[61, 61]⟩, .string ⟨#[33, 61]⟩, .string ⟨#[60]⟩, .string ⟨#[62]⟩] t)).cell? ⟨w.heap.size, k, none⟩ = some (.string (bsT (sgC k :: sgT k))) := by
  rw [Lib.cell_of_heap (heap_alloc_new w _)]
  match k, hk with
  | 0, _ => rfl
  | 1, _ => rfl
  | 2, _ => rfl
  | 3, _ => rfl
theorem sgT_len (k : Nat) : (bsT (sgC k :: sgT k)).size ≤ 10 := by
  have e : (bsT (sgC k :: sgT k)).size = (sgT k).length + 1 := by simp [bsT, ByteArray.size]
  rw [e]
  match k with
  | 0 => decide
  | 1 => decide
  | k + 2 => show 0 + 1 ≤ 10; omega
set_option maxRecDepth 100000 in
set_option maxHeartbeats 4000000 in
theorem comp_walk (s : ByteArray) (w : World) (hs : s.size ≤ 1048576) :
    Calls Try.prog 86 #[.string s] w fun e w' => e = .returned (.int .i64 (natO (fCmp s.data.toList))) ∧ Below w.heap.size w w' := by
  have HT : Hid (∀ k w, Calls Try.prog 54 #[.string s, .string (bsT (sgC k :: sgT k))] w fun e w' => ∃ v, e = .returned v ∧ TI w' w.heap.size v (tps (sgC k) (sgT k) 0 0 s.data.toList) ∧ Below w.heap.size w w') := fun k w => tops_walk s _ _ _ w hs rfl (sgT_len k)
  have HC : Hid (∀ k, k < 4 → ∀ t, (w.alloc (.cells #[.string ⟨#[61, 61]⟩, .string ⟨#[33, 61]⟩, .string ⟨#[60]⟩, .string ⟨#[62]⟩] t)).cell? ⟨w.heap.size, k, none⟩ = some (.string (bsT (sgC k :: sgT k)))) := fun k hk t => sg_cell w t hk
  go_enter Try.func86, Try.ntmps86
  go_wp2
  go_loopw [3, 5] (fun bv iv wr => ∃ k : Nat, k ≤ 4 ∧ bv = .int .i64 (natO (cmUp s.data.toList k)) ∧ iv = .int .i64 (k : Int) ∧ Below (w.heap.size + 1) (w.alloc (.cells #[.string ⟨#[61, 61]⟩, .string ⟨#[33, 61]⟩, .string ⟨#[60]⟩, .string ⟨#[62]⟩] 9)) wr) (fun _ iv _ => 4 - (intOf iv).toNat)
  case atStart => exact ⟨0, by omega, rfl, rfl, Below.refl _ _⟩
  case round =>
    obtain ⟨k, hk, rfl, rfl, hb⟩ := hrel
    have HB := hide hb
    by_cases hlt : k < 4
    · have hltI : (k : Int) < 4 := by omega
      have hc : wr.cell? ⟨w.heap.size, k, none⟩ = some (.string (bsT (sgC k :: sgT k))) := (hb.cell (by show w.heap.size < w.heap.size + 1; omega)).trans (unhide HC k hlt _)
      have hwsz : w.heap.size + 1 ≤ wr.heap.size := by have := hb.size; simpa using this
      have HTk := hide (unhide HT k wr)
      have HF : Hid (fT (sgC k) (sgT k) 0 0 s.data.toList = (tps (sgC k) (sgT k) 0 0 s.data.toList).head?) := fT_tps _ _ _ _ (Nat.le_refl _) 0 0
      have HU : Hid (cmUp s.data.toList (k + 1) = minO (cmUp s.data.toList k) (fT (sgC k) (sgT k) 0 0 s.data.toList)) := rfl
      clear hb HC HT
      go_wp2_with fail
      refine (unhide HTk).mono ?_
      rintro e w2 ⟨v, rfl, hti, b2⟩
      have HB2 : Hid (Below (w.heap.size + 1) (w.alloc (.cells #[.string ⟨#[61, 61]⟩, .string ⟨#[33, 61]⟩, .string ⟨#[60]⟩, .string ⟨#[62]⟩] 9)) w2) := (unhide HB).trans (b2.mono hwsz)
      obtain ⟨cb, ccap, rfl, hcell⟩ := TI.cells hti
      clear HTk HB b2 hti
      generalize tps (sgC k) (sgT k) 0 0 s.data.toList = ns at *
      cases ns with
      | nil =>
        have HN : Hid (cmUp s.data.toList (k + 1) = cmUp s.data.toList k) := by show _ = _; rw [unhide HU, unhide HF]; exact minO_none _
        clear hcell HU HF
        generalize cmUp s.data.toList k = X at *
        go_wp2
        go_roundw
        case rel => exact ⟨k + 1, by omega, by rw [unhide HN], by go_num, unhide HB2⟩
        case measure => simp [intOf]; omega
      | cons n r =>
        obtain ⟨g, rfl, hc0⟩ := hcell 0 (by simp)
        have hc1 : w2.cell? ⟨g, 0, none⟩ = some (.int .i64 (n : Int)) := hc0
        have hl0 : (0 : Int) < (((n :: r).length : Nat) : Int) := by simp
        have HF2 : Hid (fT (sgC k) (sgT k) 0 0 s.data.toList = some n) := unhide HF
        clear hcell hc0 HF
        generalize (n :: r).length = len at *
        cases hX : cmUp s.data.toList k with
        | none =>
          have HN : Hid (cmUp s.data.toList (k + 1) = some n) := by show _ = _; rw [unhide HU, unhide HF2, hX]; rfl
          clear HU HF2 hX
          go_wp2
          go_roundw
          case rel => exact ⟨k + 1, by omega, by rw [unhide HN]; rfl, by go_num, unhide HB2⟩
          case measure => simp [intOf]; omega
        | some m =>
          have hm0 : ¬ (m : Int) < 0 := by omega
          have hnat : natO (some m) = (m : Int) := rfl
          by_cases hnm : n < m
          · have hnmI : (n : Int) < (m : Int) := by omega
            have HN : Hid (cmUp s.data.toList (k + 1) = some n) := by show _ = _; rw [unhide HU, unhide HF2, hX]; show some (if n < m then n else m) = _; rw [if_pos hnm]
            clear HU HF2 hX
            go_wp2
            go_roundw
            case rel => exact ⟨k + 1, by omega, by rw [unhide HN]; rfl, by go_num, unhide HB2⟩
            case measure => simp [intOf]; omega
          · have hnmI : ¬ (n : Int) < (m : Int) := by omega
            have HN : Hid (cmUp s.data.toList (k + 1) = some m) := by show _ = _; rw [unhide HU, unhide HF2, hX]; show some (if n < m then n else m) = _; rw [if_neg hnm]
            clear HU HF2 hX
            go_wp2
            go_roundw
            case rel => exact ⟨k + 1, by omega, by rw [unhide HN]; rfl, by go_num, unhide HB2⟩
            case measure => simp [intOf]; omega
    · obtain rfl : k = 4 := by omega
      have HBF : Hid (Below w.heap.size w wr) := ((Below.refl _ _).alloc (Nat.le_refl _) _).trans (hb.mono (by omega))
      have HQ := hide (cmUp_all s.data.toList)
      clear HC HT HB hb
      go_wp2
      go_ret
      exact ⟨by rw [← unhide HQ]; rfl, unhide HBF⟩
end Go.Proofs.Ytiolpmhodbefoaa


namespace Go.Proofs.Ytiolpmhodbefoaa
open Go.RowKit

/-- The six comparisons, as the model tries them: the word and the number. -/
def cwC : Nat → UInt8
  | 0 => 61
  | 1 => 33
  | 2 => 60
  | 3 => 62
  | 4 => 60
  | _ => 62
def cwT : Nat → Bs
  | 4 => []
  | 5 => []
  | _ => [61]
def cwN : Nat → Int
  | 0 => 1
  | 1 => 2
  | 2 => 4
  | 3 => 6
  | 4 => 3
  | _ => 5
theorem pf_one {c d : UInt8} {r : Bs} : ([c] : Bs).isPrefixOf (d :: r) = (c == d) := by simp [List.isPrefixOf]
theorem pf_two {c d a b : UInt8} {r : Bs} : ([c, d] : Bs).isPrefixOf (a :: b :: r) = (c == a && d == b) := by simp [List.isPrefixOf]
theorem cmp_hit {l : Bs} {k : Nat} (hk : k < 6) (h : (cwC k :: cwT k).isPrefixOf l = true) (hno : ∀ j, j < k → (cwC j :: cwT j).isPrefixOf l = false) : pCmp l = some (cwN k, l.drop ((cwT k).length + 1)) := by
  have n2 : 2 < k → ([60, 61] : Bs).isPrefixOf l = false := fun hh => hno 2 hh
  have n3 : 3 < k → ([62, 61] : Bs).isPrefixOf l = false := fun hh => hno 3 hh
  clear hno
  match k, hk, h, n2, n3 with
  | 0, _, h, _, _ =>
    obtain ⟨q, hq⟩ := List.isPrefixOf_iff_prefix.1 h
    rw [← hq]; rfl
  | 1, _, h, _, _ =>
    obtain ⟨q, hq⟩ := List.isPrefixOf_iff_prefix.1 h
    rw [← hq]; rfl
  | 2, _, h, _, _ =>
    obtain ⟨q, hq⟩ := List.isPrefixOf_iff_prefix.1 h
    rw [← hq]; rfl
  | 3, _, h, _, _ =>
    obtain ⟨q, hq⟩ := List.isPrefixOf_iff_prefix.1 h
    rw [← hq]; rfl
  | 4, _, h, n2, _ =>
    obtain ⟨q, hq⟩ := List.isPrefixOf_iff_prefix.1 h
    have n := n2 (by omega)
    rw [← hq] at n ⊢
    cases q with
    | nil => rfl
    | cons d q =>
      have hd : ¬ d = 61 := by rintro rfl; exact absurd n (by show ¬ ([60, 61] : Bs).isPrefixOf (60 :: 61 :: q) = false; rw [pf_two]; decide)
      show (if d = 61 then some ((4 : Int), q) else some (3, d :: q)) = some ((3 : Int), d :: q)
      rw [if_neg hd]
  | 5, _, h, _, n3 =>
    obtain ⟨q, hq⟩ := List.isPrefixOf_iff_prefix.1 h
    have n := n3 (by omega)
    rw [← hq] at n ⊢
    cases q with
    | nil => rfl
    | cons d q =>
      have hd : ¬ d = 61 := by rintro rfl; exact absurd n (by show ¬ ([62, 61] : Bs).isPrefixOf (62 :: 61 :: q) = false; rw [pf_two]; decide)
      show (if d = 61 then some ((6 : Int), q) else some (5, d :: q)) = some ((5 : Int), d :: q)
      rw [if_neg hd]
theorem cmp_none {l : Bs} (hno : ∀ j, j < 6 → (cwC j :: cwT j).isPrefixOf l = false) : pCmp l = none := by
  cases h : pCmp l with
  | none => rfl
  | some p =>
    exfalso
    obtain ⟨n, u⟩ := p
    obtain ⟨c, r, rfl, hc, -⟩ := pCmp_hd h
    have h4 : ¬ c = 60 := by rintro rfl; exact absurd (hno 4 (by omega)) (by show ¬ ([60] : Bs).isPrefixOf (60 :: r) = false; rw [pf_one]; decide)
    have h5 : ¬ c = 62 := by rintro rfl; exact absurd (hno 5 (by omega)) (by show ¬ ([62] : Bs).isPrefixOf (62 :: r) = false; rw [pf_one]; decide)
    unfold isCm at hc
    simp only [Bool.or_eq_true, beq_iff_eq] at hc
    rcases hc with ((rfl | rfl) | rfl) | rfl
    · cases r with
      | nil => cases h
      | cons d q =>
        have hd : ¬ d = 61 := by rintro rfl; exact absurd (hno 0 (by omega)) (by show ¬ ([61, 61] : Bs).isPrefixOf (61 :: 61 :: q) = false; rw [pf_two]; decide)
        have h6 : (if d = 61 then some ((1 : Int), q) else none) = some (n, u) := h
        rw [if_neg hd] at h6; cases h6
    · cases r with
      | nil => cases h
      | cons d q =>
        have hd : ¬ d = 61 := by rintro rfl; exact absurd (hno 1 (by omega)) (by show ¬ ([33, 61] : Bs).isPrefixOf (33 :: 61 :: q) = false; rw [pf_two]; decide)
        have h6 : (if d = 61 then some ((2 : Int), q) else none) = some (n, u) := h
        rw [if_neg hd] at h6; cases h6
    · exact h4 rfl
    · exact h5 rfl
theorem cw_cell (w : World) (t : TypeId) {k : Nat} (hk : k < 6) : (w.alloc (.cells #[.string ⟨#[61, 61]⟩, .string ⟨#[33, 61]⟩, .string ⟨#[60, 61]⟩, .string ⟨#[62, 61]⟩, .string ⟨#[60]⟩, .string ⟨#[62]⟩] t)).cell? ⟨w.heap.size, k, none⟩ = some (.string (bsT (cwC k :: cwT k))) := by
  rw [Lib.cell_of_heap (heap_alloc_new w _)]
  match k, hk with
  | 0, _ => rfl
  | 1, _ => rfl
  | 2, _ => rfl
  | 3, _ => rfl
  | 4, _ => rfl
  | 5, _ => rfl
theorem cn_cell (w : World) (t : TypeId) {k : Nat} (hk : k < 6) : (w.alloc (.cells #[.int .i64 1, .int .i64 2, .int .i64 4, .int .i64 6, .int .i64 3, .int .i64 5] t)).cell? ⟨w.heap.size, k, none⟩ = some (.int .i64 (cwN k)) := by
  rw [Lib.cell_of_heap (heap_alloc_new w _)]
  match k, hk with
  | 0, _ => rfl
  | 1, _ => rfl
  | 2, _ => rfl
  | 3, _ => rfl
  | 4, _ => rfl
  | 5, _ => rfl
theorem cw_size (k : Nat) : (bsT (cwC k :: cwT k)).size = (cwT k).length + 1 := by simp [bsT, ByteArray.size]
theorem cwT_len (k : Nat) : (cwT k).length ≤ 1 := by
  unfold cwT
  split <;> simp
def cmV (l : Bs) (o : Option (Int × Bs)) : Value := match o with
  | none => .tuple #[.int .i64 0, .int .i64 0]
  | some (n, u) => .tuple #[.int .i64 n, .int .i64 ((l.length - u.length : Nat) : Int)]
set_option maxRecDepth 100000 in
set_option maxHeartbeats 4000000 in
theorem compAt_walk (s : ByteArray) (i : Nat) (w : World) (hs : s.size ≤ 1048576) (hi : i ≤ s.size) :
    Calls Try.prog 88 #[.string s, .int .i64 (i : Int)] w fun e w' => e = .returned (cmV (dr s i) (pCmp (dr s i))) ∧ Below w.heap.size w w' := by
  have HW : Hid (∀ k w, Calls Try.prog 34 #[.string s, .int .i64 (i : Int), .string (bsT (cwC k :: cwT k))] w fun e w' => e = .returned (.bool ((cwC k :: cwT k).isPrefixOf (dr s i))) ∧ w = w') := fun k w => wordB_walk s _ i w hs (by rw [cw_size]; have := cwT_len k; omega) hi
  generalize hw1 : w.alloc (.cells #[.string ⟨#[61, 61]⟩, .string ⟨#[33, 61]⟩, .string ⟨#[60, 61]⟩, .string ⟨#[62, 61]⟩, .string ⟨#[60]⟩, .string ⟨#[62]⟩] 9) = w1
  have hz1 : w1.heap.size = w.heap.size + 1 := by rw [← hw1]; simp
  have hc1 : ∀ k, k < 6 → w1.cell? ⟨w.heap.size, k, none⟩ = some (.string (bsT (cwC k :: cwT k))) := fun k hk => by rw [← hw1]; exact cw_cell w _ hk
  have hB1 : Below w.heap.size w w1 := by rw [← hw1]; exact (Below.refl _ _).alloc (Nat.le_refl _) _
  generalize hw2 : w1.alloc (.cells #[.int .i64 1, .int .i64 2, .int .i64 4, .int .i64 6, .int .i64 3, .int .i64 5] 3) = w2
  have hB2 : Below w1.heap.size w1 w2 := by rw [← hw2]; exact (Below.refl _ _).alloc (Nat.le_refl _) _
  have HC2 : Hid (∀ k, k < 6 → w2.cell? ⟨w1.heap.size, k, none⟩ = some (.int .i64 (cwN k))) := fun k hk => by rw [← hw2]; exact cn_cell w1 _ hk
  have HC1 : Hid (∀ k, k < 6 → w2.cell? ⟨w.heap.size, k, none⟩ = some (.string (bsT (cwC k :: cwT k)))) := fun k hk => (hB2.cell (by show w.heap.size < _; omega)).trans (hc1 k hk)
  have HB := hide (below_next hB1 hB2)
  have HZ1 := hide hz1
  have HW1 := hide hw1
  have HW2 := hide hw2
  clear hw1 hw2 hz1 hc1 hB1 hB2
  go_enter Try.func88, Try.ntmps88
  go_wp2
  rw [unhide HW1, unhide HW2, ← unhide HZ1]
  clear HW1 HW2 HZ1
  generalize w1.heap.size = g2 at *
  go_loopw [8] (fun iv wr => ∃ k : Nat, k ≤ 6 ∧ iv = .int .i64 (k : Int) ∧ w2 = wr ∧ Hid (∀ j, j < k → (cwC j :: cwT j).isPrefixOf (dr s i) = false)) (fun iv _ => 6 - (intOf iv).toNat)
  case atStart => exact ⟨0, by omega, rfl, rfl, fun j hj => by omega⟩
  case round =>
    obtain ⟨k, hk, rfl, rfl, hno⟩ := hrel
    by_cases hlt : k < 6
    · have hltI : (k : Int) < 6 := by omega
      have hc1 := unhide HC1 k hlt
      have hc2 := unhide HC2 k hlt
      have HWk := hide (unhide HW k w2)
      clear HC1 HC2 HW
      cases hp : (cwC k :: cwT k).isPrefixOf (dr s i) with
      | true =>
        rw [hp] at HWk
        have hle : (cwT k).length + 1 ≤ (dr s i).length := by
          have := (List.isPrefixOf_iff_prefix.1 hp).length_le
          rw [List.length_cons] at this
          exact this
        have HV : Hid (cmV (dr s i) (pCmp (dr s i)) = .tuple #[.int .i64 (cwN k), .int .i64 (((bsT (cwC k :: cwT k)).size : Nat) : Int)]) := by
          show _ = _
          rw [cmp_hit hlt hp (unhide hno), cw_size]
          show Value.tuple #[.int .i64 (cwN k), .int .i64 (((dr s i).length - ((dr s i).drop ((cwT k).length + 1)).length : Nat) : Int)] = _
          rw [List.length_drop, show (dr s i).length - ((dr s i).length - ((cwT k).length + 1)) = (cwT k).length + 1 by omega]
        clear hno hp hle
        generalize cwN k = N at *
        generalize bsT (cwC k :: cwT k) = T at *
        go_wp2_with fail
        refine (unhide HWk).mono ?_
        rintro e w3 ⟨rfl, rfl⟩
        clear HWk
        go_wp2
        go_quiet (fail)
        go_wp2
        go_ret2
        exact ⟨by rw [unhide HV]; rfl, (unhide HB).trans ⟨rfl, rfl, rfl, Nat.le_refl _, fun _ _ => rfl⟩⟩
      | false =>
        rw [hp] at HWk
        have HN : Hid (∀ j, j < k + 1 → (cwC j :: cwT j).isPrefixOf (dr s i) = false) := fun j hj => by
          by_cases e : j = k
          · subst e; exact hp
          · exact unhide hno j (by omega)
        clear hno hp
        generalize bsT (cwC k :: cwT k) = T at *
        go_wp2_with fail
        refine (unhide HWk).mono ?_
        rintro e w3 ⟨rfl, rfl⟩
        clear HWk
        go_wp2
        go_roundw
        case rel => exact ⟨k + 1, by omega, by go_num, trivial, HN⟩
        case measure => simp [intOf]; omega
    · obtain rfl : k = 6 := by omega
      have HV : Hid (cmV (dr s i) (pCmp (dr s i)) = .tuple #[.int .i64 0, .int .i64 0]) := by show _ = _; rw [cmp_none (unhide hno)]; rfl
      clear HC1 HC2 HW hno
      go_wp2
      go_ret2
      exact ⟨by rw [unhide HV]; rfl, unhide HB⟩
end Go.Proofs.Ytiolpmhodbefoaa

