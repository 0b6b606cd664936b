import Derived.Test.YtcjajchfjoffnaaGreatDoorBe46
import Derived.Test.YtcjajchfjoffnaaGreatDoorBe2
import Derived.Test.YtcjajchfjoffnaaGreatDoorBe6
import Derived.Test.YtcjajchfjoffnaaGreatDoorBe19
import Derived.Test.YtcjajchfjoffnaaGreatDoorBe45
import Derived.Test.YtcjajchfjoffnaaGreatDoorBe14
import Derived.Test.YtcjajchfjoffnaaGreatDoorBe44
namespace Go.Proofs.YtcjajchfjoffnaaGreatDoor
open Go.RowKit

theorem esc_ge (l : List UInt8) : l.length ≤ (esc l).length := by
  induction l with
  | nil => simp
  | cons c l ih =>
    have h1 : 1 ≤ (escB c).length := by
      unfold escB
      repeat' split
      all_goals simp
    have : esc (c :: l) = escB c ++ esc l := by simp [esc]
    rw [this, List.length_append, List.length_cons]; omega
theorem text_ge : ∀ ss : List ByteArray, ss.length + tot ss ≤ (ptrText ss).length
  | [] => by simp [tot, ptrText]
  | s :: ss => by
    have h1 := text_ge ss
    have h2 := esc_ge s.data.toList
    rw [data_len] at h2
    rw [ptrText_cons]
    simp [tot] at *
    omega
theorem text_tk {s : ByteArray} (h : (ptoks s.data.toList).isSome = true) : ptrText ((tkOf s).map baT) = s.data.toList := by
  cases hp : ptoks s.data.toList with
  | none => rw [hp] at h; cases h
  | some ts => unfold tkOf; rw [hp]; exact text_ptoks hp
/-- A pointer's tokens written again. -/
theorem ptrAgain (s : ByteArray) (v : Value) (w : World) (h : OT w 0 v (tkOf s)) (hp : (ptoks s.data.toList).isSome = true) (hs : s.size ≤ 1048576) :
    Calls Tryz.prog 92 #[v] w fun e w' => e = .returned (.string s) ∧ Below w.heap.size w w' := by
  obtain ⟨a, g, c, rfl, hss, _⟩ := h.shape
  have ht := text_tk hp
  have hl : (tkOf s).length = ((tkOf s).map baT).length := by simp
  rw [hl]
  refine (implText_walk a g 0 c _ w hss ?_).mono ?_
  · have := text_ge ((tkOf s).map baT)
    rw [ht, data_len] at this
    omega
  · rintro e w' ⟨rfl, b⟩
    refine ⟨?_, b⟩
    rw [ht]
/-- One more member. -/
theorem map_put {w : World} {b n : Nat} {xs : List (List UInt8 × Value)} (h : w.ownsMap Tryz.prog 9 RH b n (putAll xs)) (hn : n ≤ 100) (key : List UInt8) (hk : key.length ≤ 1048576) (v : Value) :
    ∃ w', (Instr.mapUpdate 150 (.map (some b)) (.string (strOf key)) v).run Tryz.prog w = .ok () w' ∧ w'.ownsMap Tryz.prog 9 RH b (n + 1) (putAll (xs ++ [(key, v)])) ∧ w.grownBy w' (some b) := by
  obtain ⟨w', h1, h2, h3⟩ := h.update (Maps.string_keyed Tryz.underlying9) Tryz.underlying150 (by unfold maxLen; omega) (key_of key hk) (show RH v = some (.held v, []) from rfl)
  exact ⟨w', h1, by rw [putAll_snoc]; exact h2, h3⟩
theorem strOf_path (s : ByteArray) : strOf s.data.toList = s := by obtain ⟨⟨l⟩⟩ := s; rfl
/-- The members of an operation's object, as values. -/
def opX (m : POp) (q : OpQ) : List (List UInt8 × Value) := [(kOp, .iface 149 (.string (wordB m.kind))), (kPath, .iface 149 (.string m.path))] ++ (if hasF m.kind then [(kFrom, .iface 149 (.string m.src))] else []) ++ (if hasV m.kind then [(kValue, q.vv)] else [])
theorem opX_rep {w : World} {S : Nat → Prop} {m : POp} {q : OpQ} (h : hasV m.kind = true → Rep w S q.v q.vv) : RepM w S (JM.ofL (opL m q.v)) (opX m q) := by
  have h1 : Rep w S (.str (wordT m.kind)) (.iface 149 (.string (wordB m.kind))) := by rw [Rep]; rfl
  have h2 : Rep w S (.str m.path.data.toList) (.iface 149 (.string m.path)) := by rw [Rep, strOf_path]
  have h3 : Rep w S (.str m.src.data.toList) (.iface 149 (.string m.src)) := by rw [Rep, strOf_path]
  unfold opL opX
  cases hf : hasF m.kind with
  | false =>
    cases hv : hasV m.kind with
    | false =>
      show RepM w S (.cons _ _ (.cons _ _ .nil)) [_, _]
      rw [RepM]; refine ⟨_, _, rfl, h1, ?_⟩
      rw [RepM]; refine ⟨_, _, rfl, h2, ?_⟩
      rw [RepM]
    | true =>
      show RepM w S (.cons _ _ (.cons _ _ (.cons _ _ .nil))) [_, _, _]
      rw [RepM]; refine ⟨_, _, rfl, h1, ?_⟩
      rw [RepM]; refine ⟨_, _, rfl, h2, ?_⟩
      rw [RepM]; refine ⟨_, _, rfl, h hv, ?_⟩
      rw [RepM]
  | true =>
    cases hv : hasV m.kind with
    | false =>
      show RepM w S (.cons _ _ (.cons _ _ (.cons _ _ .nil))) [_, _, _]
      rw [RepM]; refine ⟨_, _, rfl, h1, ?_⟩
      rw [RepM]; refine ⟨_, _, rfl, h2, ?_⟩
      rw [RepM]; refine ⟨_, _, rfl, h3, ?_⟩
      rw [RepM]
    | true =>
      show RepM w S (.cons _ _ (.cons _ _ (.cons _ _ (.cons _ _ .nil)))) [_, _, _, _]
      rw [RepM]; refine ⟨_, _, rfl, h1, ?_⟩
      rw [RepM]; refine ⟨_, _, rfl, h2, ?_⟩
      rw [RepM]; refine ⟨_, _, rfl, h3, ?_⟩
      rw [RepM]; refine ⟨_, _, rfl, h hv, ?_⟩
      rw [RepM]
/-- What encodeOp answers where the pointers are valid. -/
def EncP (m : POp) (q : OpQ) (S : Nat → Prop) (w : World) (e : Ending) (w' : World) : Prop := ∃ ob, e = .returned (.tuple #[.iface 151 (.pointer (some ⟨ob, 0, none⟩)), .bool true]) ∧ Rep w' (fun k => S k ∨ (w.heap.size ≤ k ∧ k < w'.heap.size)) (opT m q.v) (.iface 151 (.pointer (some ⟨ob, 0, none⟩))) ∧ Below w.heap.size w w'
/-- The object, when its map holds the members. -/
theorem enc_end {m : POp} {q : OpQ} {S : Nat → Prop} {w wm : World} {n b : Nat} (h : OpS w S m q) (hS : ∀ k, S k → k < w.heap.size) (hb : w.heap.size ≤ b) (hbel : Below w.heap.size w wm) (hm : wm.ownsMap Tryz.prog 9 RH b n (putAll (opX m q))) (hlt : b < wm.heap.size) (hn : n ≤ (opX m q).length) :
    EncP m q S w (.returned (.tuple #[.iface 151 (.pointer (some ⟨wm.heap.size, 0, none⟩)), .bool true])) (wm.alloc (.cells #[.map (some b)] 153)) := by
  have hA := alloc_b wm (.cells #[.map (some b)] 153)
  have zA : (wm.alloc (.cells #[.map (some b)] 153)).heap.size = wm.heap.size + 1 := by simp
  have hbs := hbel.size
  refine ⟨_, rfl, ?_, below_next hbel hA⟩
  unfold opT
  rw [Rep]
  refine ⟨_, b, n, opX m q, rfl, .inr ⟨by omega, by omega⟩, .inr ⟨hb, by omega⟩, heap_alloc_new _ _, ownsMap_keep hm (hA.block b hlt), hn, opX_rep fun hv => ?_⟩
  obtain ⟨_, _, _, _, _, hr⟩ := h.val hv
  exact Rep.keep (fun k hk => (below_next hbel hA).block k (hS k hk)) (fun k hk => .inl hk) _ _ hr
set_option maxRecDepth 100000 in
set_option maxHeartbeats 4000000 in
theorem encodeOp_falsefalse (m : POp) (q : OpQ) (w : World) (S : Nat → Prop) (h : OpS w S m q) (hS : ∀ k, S k → k < w.heap.size) (hok : opOk m = true) (hw : RdW w) (hz1 : m.path.size ≤ 1048576) (hz2 : m.src.size ≤ 1048576) (hv : ptrsV m = true) (ef : hasF m.kind = false) (ev : hasV m.kind = false) :
    Calls Tryz.prog 51 #[ptrV q] w (EncP m q S w) := by
  obtain ⟨_, _, hp, hs, _, _, _⟩ := opOk_parts hok
  have b0 := h.blk
  have hlt : q.g < w.heap.size := (Array.getElem?_eq_some_iff.1 b0).1
  unfold ptrsV at hv
  rw [Bool.and_eq_true] at hv
  obtain ⟨pa, pg, pc, hpv, _, _⟩ := h.path.shape
  obtain ⟨fa, fg, fc, hfv, _, _⟩ := h.src.shape
  have HP : Hid (∀ wx, Below w.heap.size w wx → Calls Tryz.prog 92 #[q.pv] wx fun e w' => e = .returned (.string m.path) ∧ Below wx.heap.size wx w') := fun wx hx => ptrAgain m.path q.pv wx (own_below h.path hx) hp hz1
  have HF : Hid (∀ wx, Below w.heap.size w wx → Calls Tryz.prog 92 #[q.fv] wx fun e w' => e = .returned (.string m.src) ∧ Below wx.heap.size wx w') := fun wx hx => ptrAgain m.src q.fv wx (own_below h.src hx) hs hz2
  have HV1 : Hid (∀ wx, Below w.heap.size w wx → Calls Tryz.prog 93 #[.string m.path] wx fun e w' => e = .returned (.bool true) ∧ Below wx.heap.size wx w') := fun wx hx => by
    have := Any.utf8_ValidString Tryz.laysValid m.path wx (by omega) (hw.up hx).tab.tabs
    rw [hv.1] at this
    exact this
  have HV2 : Hid (∀ wx, Below w.heap.size w wx → Calls Tryz.prog 93 #[.string m.src] wx fun e w' => e = .returned (.bool true) ∧ Below wx.heap.size wx w') := fun wx hx => by
    have := Any.utf8_ValidString Tryz.laysValid m.src wx (by omega) (hw.up hx).tab.tabs
    rw [hv.2] at this
    exact this
  rw [hpv] at HP b0
  rw [hfv] at HF b0
  unfold opB at b0
  rw [ef, ev] at b0
  have HC : Hid (∀ wx, Below w.heap.size w wx → wx.heap[q.g]? = some (.cells #[.string (wordB m.kind), .int .i64 m.kind, .bool false, .bool false, .bool (shF m.kind), .bool (shP m.kind), verbF m.kind, .slice pa (tkOf m.path).length pc, .slice fa (tkOf m.src).length fc, q.vv] 148 (0, 0))) := fun wx hx => (hx.block q.g hlt).trans b0
  have HX : Hid (opX m q = [(kOp, .iface 149 (.string (wordB m.kind))), (kPath, .iface 149 (.string m.path))]) := by show _ = _; unfold opX; rw [ef, ev]; rfl
  have HH := hide h
  have HHS := hide hS
  have hd : Below w.heap.size w w.drew := (Below.refl _ _).drew
  have c7 : w.drew.cell? ⟨q.g, 7, none⟩ = some (.slice pa (tkOf m.path).length pc) := Lib.cell_of_heap (unhide HC _ hd) 7
  have c8 : w.drew.cell? ⟨q.g, 8, none⟩ = some (.slice fa (tkOf m.src).length fc) := Lib.cell_of_heap (unhide HC _ hd) 8
  have HP1 := hide (unhide HP w.drew hd)
  generalize wordB m.kind = wb at *
  clear b0 h hS hp hs hw hv hpv hfv ef ev hok
  unfold ptrV
  go_enter Tryz.func51, Tryz.ntmps51
  go_wp2_with fail
  go_region_law (first
    | (go_simp; refine (unhide HF2).mono ?_; rintro e w2 ⟨rfl, b2⟩)
    | (go_simp; refine (unhide HP1).mono ?_; rintro e w1 ⟨rfl, b1⟩
       have b01 := below_next hd b1
       have d8 : w1.cell? ⟨q.g, 8, none⟩ = some (.slice fa (tkOf m.src).length fc) := Lib.cell_of_heap (unhide HC _ b01) 8
       have HF2 := hide (unhide HF w1 b01)))
  all_goals (
    have HB2 := hide (below_next b01 b2)
    have HX1 := hide (unhide HV1 w2 (unhide HB2))
    clear b1 b2 b01 d8 HF2 c7 c8
    go_wp2_with fail
    refine (unhide HX1).mono ?_
    rintro e w3 ⟨rfl, b3⟩
    have HB3 := hide (below_next (unhide HB2) b3)
    have HX2 := hide (unhide HV2 w3 (unhide HB3))
    clear b3 HX1
    go_wp2_with fail
    refine (unhide HX2).mono ?_
    rintro e w4 ⟨rfl, b4⟩
    have hB4 := below_next (unhide HB3) b4
    have hM := alloc_b w4 (.map #[] 0)
    have zM : (w4.alloc (.map #[] 0)).heap.size = w4.heap.size + 1 := by simp
    have hB5 := below_next hB4 hM
    have hz4 := hB4.size
    have m0 : (w4.alloc (.map #[] 0)).ownsMap Tryz.prog 9 RH w4.heap.size 0 (putAll []) := World.ownsMap_made w4 Tryz.prog 9 RH
    obtain ⟨wa, ra, ma, ga⟩ := map_put m0 (by omega) kOp (by decide) (.iface 149 (.string wb))
    obtain ⟨wb', rb, mb, gb⟩ := map_put ma (by omega) kPath (by decide) (.iface 149 (.string m.path))
    have za := ga.size
    have zb := gb.size
    have bA : Below w.heap.size w wa := hB5.grown ga (by omega) (fun k hk => by injection hk with hk; omega)
    have bB : Below w.heap.size w wb' := bA.grown gb (by omega) (fun k hk => by injection hk with hk; omega)
    have hmm := run_makeMap (P := Tryz.prog) 150 w4
    have d0 : (w4.alloc (.map #[] 0)).cell? ⟨q.g, 0, none⟩ = some (.string wb) := Lib.cell_of_heap (unhide HC _ hB5) 0
    have e2 : wb'.cell? ⟨q.g, 2, none⟩ = some (.bool false) := Lib.cell_of_heap (unhide HC _ bB) 2
    have e3 : wb'.cell? ⟨q.g, 3, none⟩ = some (.bool false) := Lib.cell_of_heap (unhide HC _ bB) 3
    have HFIN := hide (enc_end (n := 0 + 1 + 1) (b := w4.heap.size) (unhide HH) (unhide HHS) hz4 bB (by rw [unhide HX]; exact mb) (by omega) (by rw [unhide HX]; exact Nat.le_refl _))
    unfold kOp at ra
    unfold kPath at rb
    have so : ∀ l : List UInt8, strOf l = ⟨l.toArray⟩ := fun _ => rfl
    rw [so] at ra rb
    clear so b4 HX2 hB4 hM zM hB5 m0 ma mb ga gb za zb bA bB
    go_wp2
    go_ret2
    exact unhide HFIN)
set_option maxRecDepth 100000 in
set_option maxHeartbeats 4000000 in
theorem encodeOp_falsetrue (m : POp) (q : OpQ) (w : World) (S : Nat → Prop) (h : OpS w S m q) (hS : ∀ k, S k → k < w.heap.size) (hok : opOk m = true) (hw : RdW w) (hz1 : m.path.size ≤ 1048576) (hz2 : m.src.size ≤ 1048576) (hv : ptrsV m = true) (ef : hasF m.kind = false) (ev : hasV m.kind = true) :
    Calls Tryz.prog 51 #[ptrV q] w (EncP m q S w) := by
  obtain ⟨_, _, hp, hs, _, _, _⟩ := opOk_parts hok
  have b0 := h.blk
  have hlt : q.g < w.heap.size := (Array.getElem?_eq_some_iff.1 b0).1
  unfold ptrsV at hv
  rw [Bool.and_eq_true] at hv
  obtain ⟨pa, pg, pc, hpv, _, _⟩ := h.path.shape
  obtain ⟨fa, fg, fc, hfv, _, _⟩ := h.src.shape
  have HP : Hid (∀ wx, Below w.heap.size w wx → Calls Tryz.prog 92 #[q.pv] wx fun e w' => e = .returned (.string m.path) ∧ Below wx.heap.size wx w') := fun wx hx => ptrAgain m.path q.pv wx (own_below h.path hx) hp hz1
  have HF : Hid (∀ wx, Below w.heap.size w wx → Calls Tryz.prog 92 #[q.fv] wx fun e w' => e = .returned (.string m.src) ∧ Below wx.heap.size wx w') := fun wx hx => ptrAgain m.src q.fv wx (own_below h.src hx) hs hz2
  have HV1 : Hid (∀ wx, Below w.heap.size w wx → Calls Tryz.prog 93 #[.string m.path] wx fun e w' => e = .returned (.bool true) ∧ Below wx.heap.size wx w') := fun wx hx => by
    have := Any.utf8_ValidString Tryz.laysValid m.path wx (by omega) (hw.up hx).tab.tabs
    rw [hv.1] at this
    exact this
  have HV2 : Hid (∀ wx, Below w.heap.size w wx → Calls Tryz.prog 93 #[.string m.src] wx fun e w' => e = .returned (.bool true) ∧ Below wx.heap.size wx w') := fun wx hx => by
    have := Any.utf8_ValidString Tryz.laysValid m.src wx (by omega) (hw.up hx).tab.tabs
    rw [hv.2] at this
    exact this
  rw [hpv] at HP b0
  rw [hfv] at HF b0
  unfold opB at b0
  rw [ef, ev] at b0
  have HC : Hid (∀ wx, Below w.heap.size w wx → wx.heap[q.g]? = some (.cells #[.string (wordB m.kind), .int .i64 m.kind, .bool false, .bool true, .bool (shF m.kind), .bool (shP m.kind), verbF m.kind, .slice pa (tkOf m.path).length pc, .slice fa (tkOf m.src).length fc, q.vv] 148 (0, 0))) := fun wx hx => (hx.block q.g hlt).trans b0
  have HX : Hid (opX m q = [(kOp, .iface 149 (.string (wordB m.kind))), (kPath, .iface 149 (.string m.path)), (kValue, q.vv)]) := by show _ = _; unfold opX; rw [ef, ev]; rfl
  have HVV : Hid (∃ t p, q.vv = .iface t p) := by
    obtain ⟨_, _, t, p, h3, _⟩ := h.val ev
    exact ⟨t, p, h3⟩
  have HH := hide h
  have HHS := hide hS
  have hd : Below w.heap.size w w.drew := (Below.refl _ _).drew
  have c7 : w.drew.cell? ⟨q.g, 7, none⟩ = some (.slice pa (tkOf m.path).length pc) := Lib.cell_of_heap (unhide HC _ hd) 7
  have c8 : w.drew.cell? ⟨q.g, 8, none⟩ = some (.slice fa (tkOf m.src).length fc) := Lib.cell_of_heap (unhide HC _ hd) 8
  have HP1 := hide (unhide HP w.drew hd)
  generalize wordB m.kind = wb at *
  clear b0 h hS hp hs hw hv hpv hfv ef ev hok
  unfold ptrV
  go_enter Tryz.func51, Tryz.ntmps51
  go_wp2_with fail
  go_region_law (first
    | (go_simp; refine (unhide HF2).mono ?_; rintro e w2 ⟨rfl, b2⟩)
    | (go_simp; refine (unhide HP1).mono ?_; rintro e w1 ⟨rfl, b1⟩
       have b01 := below_next hd b1
       have d8 : w1.cell? ⟨q.g, 8, none⟩ = some (.slice fa (tkOf m.src).length fc) := Lib.cell_of_heap (unhide HC _ b01) 8
       have HF2 := hide (unhide HF w1 b01)))
  all_goals (
    have HB2 := hide (below_next b01 b2)
    have HX1 := hide (unhide HV1 w2 (unhide HB2))
    clear b1 b2 b01 d8 HF2 c7 c8
    go_wp2_with fail
    refine (unhide HX1).mono ?_
    rintro e w3 ⟨rfl, b3⟩
    have HB3 := hide (below_next (unhide HB2) b3)
    have HX2 := hide (unhide HV2 w3 (unhide HB3))
    clear b3 HX1
    go_wp2_with fail
    refine (unhide HX2).mono ?_
    rintro e w4 ⟨rfl, b4⟩
    have hB4 := below_next (unhide HB3) b4
    have hM := alloc_b w4 (.map #[] 0)
    have zM : (w4.alloc (.map #[] 0)).heap.size = w4.heap.size + 1 := by simp
    have hB5 := below_next hB4 hM
    have hz4 := hB4.size
    have m0 : (w4.alloc (.map #[] 0)).ownsMap Tryz.prog 9 RH w4.heap.size 0 (putAll []) := World.ownsMap_made w4 Tryz.prog 9 RH
    obtain ⟨wa, ra, ma, ga⟩ := map_put m0 (by omega) kOp (by decide) (.iface 149 (.string wb))
    obtain ⟨wb', rb, mb, gb⟩ := map_put ma (by omega) kPath (by decide) (.iface 149 (.string m.path))
    have za := ga.size
    have zb := gb.size
    have bA : Below w.heap.size w wa := hB5.grown ga (by omega) (fun k hk => by injection hk with hk; omega)
    have bB : Below w.heap.size w wb' := bA.grown gb (by omega) (fun k hk => by injection hk with hk; omega)
    obtain ⟨vt, vp, hvv⟩ := unhide HVV
    obtain ⟨we, re, me, ge⟩ := map_put mb (by omega) kValue (by decide) q.vv
    have ze := ge.size
    have bE : Below w.heap.size w we := bB.grown ge (by omega) (fun k hk => by injection hk with hk; omega)
    have hmm := run_makeMap (P := Tryz.prog) 150 w4
    have d0 : (w4.alloc (.map #[] 0)).cell? ⟨q.g, 0, none⟩ = some (.string wb) := Lib.cell_of_heap (unhide HC _ hB5) 0
    have e2 : wb'.cell? ⟨q.g, 2, none⟩ = some (.bool false) := Lib.cell_of_heap (unhide HC _ bB) 2
    have e3 : wb'.cell? ⟨q.g, 3, none⟩ = some (.bool true) := Lib.cell_of_heap (unhide HC _ bB) 3
    have e9 : wb'.cell? ⟨q.g, 9, none⟩ = some q.vv := Lib.cell_of_heap (unhide HC _ bB) 9
    rw [hvv] at e9 re
    have HFIN := hide (enc_end (n := 0 + 1 + 1 + 1) (b := w4.heap.size) (unhide HH) (unhide HHS) hz4 bE (by rw [unhide HX]; exact me) (by omega) (by rw [unhide HX]; exact Nat.le_refl _))
    unfold kOp at ra
    unfold kPath at rb
    unfold kValue at re
    have so : ∀ l : List UInt8, strOf l = ⟨l.toArray⟩ := fun _ => rfl
    rw [so] at ra rb re
    clear so b4 HX2 hB4 hM zM hB5 m0 ma mb ga gb za zb bA bB me ge ze bE
    go_wp2
    go_ret2
    exact unhide HFIN)
set_option maxRecDepth 100000 in
set_option maxHeartbeats 4000000 in
theorem encodeOp_truefalse (m : POp) (q : OpQ) (w : World) (S : Nat → Prop) (h : OpS w S m q) (hS : ∀ k, S k → k < w.heap.size) (hok : opOk m = true) (hw : RdW w) (hz1 : m.path.size ≤ 1048576) (hz2 : m.src.size ≤ 1048576) (hv : ptrsV m = true) (ef : hasF m.kind = true) (ev : hasV m.kind = false) :
    Calls Tryz.prog 51 #[ptrV q] w (EncP m q S w) := by
  obtain ⟨_, _, hp, hs, _, _, _⟩ := opOk_parts hok
  have b0 := h.blk
  have hlt : q.g < w.heap.size := (Array.getElem?_eq_some_iff.1 b0).1
  unfold ptrsV at hv
  rw [Bool.and_eq_true] at hv
  obtain ⟨pa, pg, pc, hpv, _, _⟩ := h.path.shape
  obtain ⟨fa, fg, fc, hfv, _, _⟩ := h.src.shape
  have HP : Hid (∀ wx, Below w.heap.size w wx → Calls Tryz.prog 92 #[q.pv] wx fun e w' => e = .returned (.string m.path) ∧ Below wx.heap.size wx w') := fun wx hx => ptrAgain m.path q.pv wx (own_below h.path hx) hp hz1
  have HF : Hid (∀ wx, Below w.heap.size w wx → Calls Tryz.prog 92 #[q.fv] wx fun e w' => e = .returned (.string m.src) ∧ Below wx.heap.size wx w') := fun wx hx => ptrAgain m.src q.fv wx (own_below h.src hx) hs hz2
  have HV1 : Hid (∀ wx, Below w.heap.size w wx → Calls Tryz.prog 93 #[.string m.path] wx fun e w' => e = .returned (.bool true) ∧ Below wx.heap.size wx w') := fun wx hx => by
    have := Any.utf8_ValidString Tryz.laysValid m.path wx (by omega) (hw.up hx).tab.tabs
    rw [hv.1] at this
    exact this
  have HV2 : Hid (∀ wx, Below w.heap.size w wx → Calls Tryz.prog 93 #[.string m.src] wx fun e w' => e = .returned (.bool true) ∧ Below wx.heap.size wx w') := fun wx hx => by
    have := Any.utf8_ValidString Tryz.laysValid m.src wx (by omega) (hw.up hx).tab.tabs
    rw [hv.2] at this
    exact this
  rw [hpv] at HP b0
  rw [hfv] at HF b0
  unfold opB at b0
  rw [ef, ev] at b0
  have HC : Hid (∀ wx, Below w.heap.size w wx → wx.heap[q.g]? = some (.cells #[.string (wordB m.kind), .int .i64 m.kind, .bool true, .bool false, .bool (shF m.kind), .bool (shP m.kind), verbF m.kind, .slice pa (tkOf m.path).length pc, .slice fa (tkOf m.src).length fc, q.vv] 148 (0, 0))) := fun wx hx => (hx.block q.g hlt).trans b0
  have HX : Hid (opX m q = [(kOp, .iface 149 (.string (wordB m.kind))), (kPath, .iface 149 (.string m.path)), (kFrom, .iface 149 (.string m.src))]) := by show _ = _; unfold opX; rw [ef, ev]; rfl
  have HH := hide h
  have HHS := hide hS
  have hd : Below w.heap.size w w.drew := (Below.refl _ _).drew
  have c7 : w.drew.cell? ⟨q.g, 7, none⟩ = some (.slice pa (tkOf m.path).length pc) := Lib.cell_of_heap (unhide HC _ hd) 7
  have c8 : w.drew.cell? ⟨q.g, 8, none⟩ = some (.slice fa (tkOf m.src).length fc) := Lib.cell_of_heap (unhide HC _ hd) 8
  have HP1 := hide (unhide HP w.drew hd)
  generalize wordB m.kind = wb at *
  clear b0 h hS hp hs hw hv hpv hfv ef ev hok
  unfold ptrV
  go_enter Tryz.func51, Tryz.ntmps51
  go_wp2_with fail
  go_region_law (first
    | (go_simp; refine (unhide HF2).mono ?_; rintro e w2 ⟨rfl, b2⟩)
    | (go_simp; refine (unhide HP1).mono ?_; rintro e w1 ⟨rfl, b1⟩
       have b01 := below_next hd b1
       have d8 : w1.cell? ⟨q.g, 8, none⟩ = some (.slice fa (tkOf m.src).length fc) := Lib.cell_of_heap (unhide HC _ b01) 8
       have HF2 := hide (unhide HF w1 b01)))
  all_goals (
    have HB2 := hide (below_next b01 b2)
    have HX1 := hide (unhide HV1 w2 (unhide HB2))
    clear b1 b2 b01 d8 HF2 c7 c8
    go_wp2_with fail
    refine (unhide HX1).mono ?_
    rintro e w3 ⟨rfl, b3⟩
    have HB3 := hide (below_next (unhide HB2) b3)
    have HX2 := hide (unhide HV2 w3 (unhide HB3))
    clear b3 HX1
    go_wp2_with fail
    refine (unhide HX2).mono ?_
    rintro e w4 ⟨rfl, b4⟩
    have hB4 := below_next (unhide HB3) b4
    have hM := alloc_b w4 (.map #[] 0)
    have zM : (w4.alloc (.map #[] 0)).heap.size = w4.heap.size + 1 := by simp
    have hB5 := below_next hB4 hM
    have hz4 := hB4.size
    have m0 : (w4.alloc (.map #[] 0)).ownsMap Tryz.prog 9 RH w4.heap.size 0 (putAll []) := World.ownsMap_made w4 Tryz.prog 9 RH
    obtain ⟨wa, ra, ma, ga⟩ := map_put m0 (by omega) kOp (by decide) (.iface 149 (.string wb))
    obtain ⟨wb', rb, mb, gb⟩ := map_put ma (by omega) kPath (by decide) (.iface 149 (.string m.path))
    have za := ga.size
    have zb := gb.size
    have bA : Below w.heap.size w wa := hB5.grown ga (by omega) (fun k hk => by injection hk with hk; omega)
    have bB : Below w.heap.size w wb' := bA.grown gb (by omega) (fun k hk => by injection hk with hk; omega)
    obtain ⟨wc, rc, mc, gc⟩ := map_put mb (by omega) kFrom (by decide) (.iface 149 (.string m.src))
    have zc := gc.size
    have bC : Below w.heap.size w wc := bB.grown gc (by omega) (fun k hk => by injection hk with hk; omega)
    have hmm := run_makeMap (P := Tryz.prog) 150 w4
    have d0 : (w4.alloc (.map #[] 0)).cell? ⟨q.g, 0, none⟩ = some (.string wb) := Lib.cell_of_heap (unhide HC _ hB5) 0
    have e2 : wb'.cell? ⟨q.g, 2, none⟩ = some (.bool true) := Lib.cell_of_heap (unhide HC _ bB) 2
    have e3 : wc.cell? ⟨q.g, 3, none⟩ = some (.bool false) := Lib.cell_of_heap (unhide HC _ bC) 3
    have HFIN := hide (enc_end (n := 0 + 1 + 1 + 1) (b := w4.heap.size) (unhide HH) (unhide HHS) hz4 bC (by rw [unhide HX]; exact mc) (by omega) (by rw [unhide HX]; exact Nat.le_refl _))
    unfold kOp at ra
    unfold kPath at rb
    unfold kFrom at rc
    have so : ∀ l : List UInt8, strOf l = ⟨l.toArray⟩ := fun _ => rfl
    rw [so] at ra rb rc
    clear so b4 HX2 hB4 hM zM hB5 m0 ma mb ga gb za zb bA bB mc gc zc bC
    go_wp2
    go_ret2
    exact unhide HFIN)
set_option maxRecDepth 100000 in
set_option maxHeartbeats 4000000 in
theorem encodeOp_truetrue (m : POp) (q : OpQ) (w : World) (S : Nat → Prop) (h : OpS w S m q) (hS : ∀ k, S k → k < w.heap.size) (hok : opOk m = true) (hw : RdW w) (hz1 : m.path.size ≤ 1048576) (hz2 : m.src.size ≤ 1048576) (hv : ptrsV m = true) (ef : hasF m.kind = true) (ev : hasV m.kind = true) :
    Calls Tryz.prog 51 #[ptrV q] w (EncP m q S w) := by
  obtain ⟨_, _, hp, hs, _, _, _⟩ := opOk_parts hok
  have b0 := h.blk
  have hlt : q.g < w.heap.size := (Array.getElem?_eq_some_iff.1 b0).1
  unfold ptrsV at hv
  rw [Bool.and_eq_true] at hv
  obtain ⟨pa, pg, pc, hpv, _, _⟩ := h.path.shape
  obtain ⟨fa, fg, fc, hfv, _, _⟩ := h.src.shape
  have HP : Hid (∀ wx, Below w.heap.size w wx → Calls Tryz.prog 92 #[q.pv] wx fun e w' => e = .returned (.string m.path) ∧ Below wx.heap.size wx w') := fun wx hx => ptrAgain m.path q.pv wx (own_below h.path hx) hp hz1
  have HF : Hid (∀ wx, Below w.heap.size w wx → Calls Tryz.prog 92 #[q.fv] wx fun e w' => e = .returned (.string m.src) ∧ Below wx.heap.size wx w') := fun wx hx => ptrAgain m.src q.fv wx (own_below h.src hx) hs hz2
  have HV1 : Hid (∀ wx, Below w.heap.size w wx → Calls Tryz.prog 93 #[.string m.path] wx fun e w' => e = .returned (.bool true) ∧ Below wx.heap.size wx w') := fun wx hx => by
    have := Any.utf8_ValidString Tryz.laysValid m.path wx (by omega) (hw.up hx).tab.tabs
    rw [hv.1] at this
    exact this
  have HV2 : Hid (∀ wx, Below w.heap.size w wx → Calls Tryz.prog 93 #[.string m.src] wx fun e w' => e = .returned (.bool true) ∧ Below wx.heap.size wx w') := fun wx hx => by
    have := Any.utf8_ValidString Tryz.laysValid m.src wx (by omega) (hw.up hx).tab.tabs
    rw [hv.2] at this
    exact this
  rw [hpv] at HP b0
  rw [hfv] at HF b0
  unfold opB at b0
  rw [ef, ev] at b0
  have HC : Hid (∀ wx, Below w.heap.size w wx → wx.heap[q.g]? = some (.cells #[.string (wordB m.kind), .int .i64 m.kind, .bool true, .bool true, .bool (shF m.kind), .bool (shP m.kind), verbF m.kind, .slice pa (tkOf m.path).length pc, .slice fa (tkOf m.src).length fc, q.vv] 148 (0, 0))) := fun wx hx => (hx.block q.g hlt).trans b0
  have HX : Hid (opX m q = [(kOp, .iface 149 (.string (wordB m.kind))), (kPath, .iface 149 (.string m.path)), (kFrom, .iface 149 (.string m.src)), (kValue, q.vv)]) := by show _ = _; unfold opX; rw [ef, ev]; rfl
  have HVV : Hid (∃ t p, q.vv = .iface t p) := by
    obtain ⟨_, _, t, p, h3, _⟩ := h.val ev
    exact ⟨t, p, h3⟩
  have HH := hide h
  have HHS := hide hS
  have hd : Below w.heap.size w w.drew := (Below.refl _ _).drew
  have c7 : w.drew.cell? ⟨q.g, 7, none⟩ = some (.slice pa (tkOf m.path).length pc) := Lib.cell_of_heap (unhide HC _ hd) 7
  have c8 : w.drew.cell? ⟨q.g, 8, none⟩ = some (.slice fa (tkOf m.src).length fc) := Lib.cell_of_heap (unhide HC _ hd) 8
  have HP1 := hide (unhide HP w.drew hd)
  generalize wordB m.kind = wb at *
  clear b0 h hS hp hs hw hv hpv hfv ef ev hok
  unfold ptrV
  go_enter Tryz.func51, Tryz.ntmps51
  go_wp2_with fail
  go_region_law (first
    | (go_simp; refine (unhide HF2).mono ?_; rintro e w2 ⟨rfl, b2⟩)
    | (go_simp; refine (unhide HP1).mono ?_; rintro e w1 ⟨rfl, b1⟩
       have b01 := below_next hd b1
       have d8 : w1.cell? ⟨q.g, 8, none⟩ = some (.slice fa (tkOf m.src).length fc) := Lib.cell_of_heap (unhide HC _ b01) 8
       have HF2 := hide (unhide HF w1 b01)))
  all_goals (
    have HB2 := hide (below_next b01 b2)
    have HX1 := hide (unhide HV1 w2 (unhide HB2))
    clear b1 b2 b01 d8 HF2 c7 c8
    go_wp2_with fail
    refine (unhide HX1).mono ?_
    rintro e w3 ⟨rfl, b3⟩
    have HB3 := hide (below_next (unhide HB2) b3)
    have HX2 := hide (unhide HV2 w3 (unhide HB3))
    clear b3 HX1
    go_wp2_with fail
    refine (unhide HX2).mono ?_
    rintro e w4 ⟨rfl, b4⟩
    have hB4 := below_next (unhide HB3) b4
    have hM := alloc_b w4 (.map #[] 0)
    have zM : (w4.alloc (.map #[] 0)).heap.size = w4.heap.size + 1 := by simp
    have hB5 := below_next hB4 hM
    have hz4 := hB4.size
    have m0 : (w4.alloc (.map #[] 0)).ownsMap Tryz.prog 9 RH w4.heap.size 0 (putAll []) := World.ownsMap_made w4 Tryz.prog 9 RH
    obtain ⟨wa, ra, ma, ga⟩ := map_put m0 (by omega) kOp (by decide) (.iface 149 (.string wb))
    obtain ⟨wb', rb, mb, gb⟩ := map_put ma (by omega) kPath (by decide) (.iface 149 (.string m.path))
    have za := ga.size
    have zb := gb.size
    have bA : Below w.heap.size w wa := hB5.grown ga (by omega) (fun k hk => by injection hk with hk; omega)
    have bB : Below w.heap.size w wb' := bA.grown gb (by omega) (fun k hk => by injection hk with hk; omega)
    obtain ⟨wc, rc, mc, gc⟩ := map_put mb (by omega) kFrom (by decide) (.iface 149 (.string m.src))
    have zc := gc.size
    have bC : Below w.heap.size w wc := bB.grown gc (by omega) (fun k hk => by injection hk with hk; omega)
    obtain ⟨vt, vp, hvv⟩ := unhide HVV
    obtain ⟨we, re, me, ge⟩ := map_put mc (by omega) kValue (by decide) q.vv
    have ze := ge.size
    have bE : Below w.heap.size w we := bC.grown ge (by omega) (fun k hk => by injection hk with hk; omega)
    have hmm := run_makeMap (P := Tryz.prog) 150 w4
    have d0 : (w4.alloc (.map #[] 0)).cell? ⟨q.g, 0, none⟩ = some (.string wb) := Lib.cell_of_heap (unhide HC _ hB5) 0
    have e2 : wb'.cell? ⟨q.g, 2, none⟩ = some (.bool true) := Lib.cell_of_heap (unhide HC _ bB) 2
    have e3 : wc.cell? ⟨q.g, 3, none⟩ = some (.bool true) := Lib.cell_of_heap (unhide HC _ bC) 3
    have e9 : wc.cell? ⟨q.g, 9, none⟩ = some q.vv := Lib.cell_of_heap (unhide HC _ bC) 9
    rw [hvv] at e9 re
    have HFIN := hide (enc_end (n := 0 + 1 + 1 + 1 + 1) (b := w4.heap.size) (unhide HH) (unhide HHS) hz4 bE (by rw [unhide HX]; exact me) (by omega) (by rw [unhide HX]; exact Nat.le_refl _))
    unfold kOp at ra
    unfold kPath at rb
    unfold kFrom at rc
    unfold kValue at re
    have so : ∀ l : List UInt8, strOf l = ⟨l.toArray⟩ := fun _ => rfl
    rw [so] at ra rb rc re
    clear so b4 HX2 hB4 hM zM hB5 m0 ma mb ga gb za zb bA bB mc gc zc bC me ge ze bE
    go_wp2
    go_ret2
    exact unhide HFIN)
end Go.Proofs.YtcjajchfjoffnaaGreatDoor

namespace Go.Proofs.YtcjajchfjoffnaaGreatDoor
open Go.RowKit

def EncN (w : World) (e : Ending) (w' : World) : Prop := e = .returned (.tuple #[.nilIface, .bool false]) ∧ Below w.heap.size w w'
set_option maxRecDepth 100000 in
set_option maxHeartbeats 4000000 in
theorem encodeOp_bad (m : POp) (q : OpQ) (w : World) (S : Nat → Prop) (h : OpS w S m q) (hok : opOk m = true) (hw : RdW w) (hz1 : m.path.size ≤ 1048576) (hz2 : m.src.size ≤ 1048576) (hv : ptrsV m = false) :
    Calls Tryz.prog 51 #[ptrV q] w (EncN w) := by
  obtain ⟨_, _, hp, hs, _, _, _⟩ := opOk_parts hok
  have b0 := h.blk
  have hlt : q.g < w.heap.size := (Array.getElem?_eq_some_iff.1 b0).1
  obtain ⟨pa, pg, pc, hpv, _, _⟩ := h.path.shape
  obtain ⟨fa, fg, fc, hfv, _, _⟩ := h.src.shape
  have HP : Hid (∀ wx, Below w.heap.size w wx → Calls Tryz.prog 92 #[q.pv] wx fun e w' => e = .returned (.string m.path) ∧ Below wx.heap.size wx w') := fun wx hx => ptrAgain m.path q.pv wx (own_below h.path hx) hp hz1
  have HF : Hid (∀ wx, Below w.heap.size w wx → Calls Tryz.prog 92 #[q.fv] wx fun e w' => e = .returned (.string m.src) ∧ Below wx.heap.size wx w') := fun wx hx => ptrAgain m.src q.fv wx (own_below h.src hx) hs hz2
  have HV1 : Hid (∀ wx, Below w.heap.size w wx → Calls Tryz.prog 93 #[.string m.path] wx fun e w' => e = .returned (.bool (Lib.validD m.path.data.toList)) ∧ Below wx.heap.size wx w') := fun wx hx => Any.utf8_ValidString Tryz.laysValid m.path wx (by omega) (hw.up hx).tab.tabs
  have HV2 : Hid (∀ wx, Below w.heap.size w wx → Calls Tryz.prog 93 #[.string m.src] wx fun e w' => e = .returned (.bool (Lib.validD m.src.data.toList)) ∧ Below wx.heap.size wx w') := fun wx hx => Any.utf8_ValidString Tryz.laysValid m.src wx (by omega) (hw.up hx).tab.tabs
  rw [hpv] at HP b0
  rw [hfv] at HF b0
  have HC : Hid (∀ wx, Below w.heap.size w wx → wx.cell? ⟨q.g, 7, none⟩ = some (.slice pa (tkOf m.path).length pc) ∧ wx.cell? ⟨q.g, 8, none⟩ = some (.slice fa (tkOf m.src).length fc)) := fun wx hx => by
    have kx := (hx.block q.g hlt).trans b0
    unfold opB at kx
    exact ⟨Lib.cell_of_heap kx 7, Lib.cell_of_heap kx 8⟩
  have hd : Below w.heap.size w w.drew := (Below.refl _ _).drew
  obtain ⟨c7, c8⟩ := unhide HC _ hd
  have HP1 := hide (unhide HP w.drew hd)
  unfold ptrsV at hv
  generalize Lib.validD m.path.data.toList = zp at *
  generalize Lib.validD m.src.data.toList = zs at *
  clear b0 h hp hs hw hpv hfv hok
  unfold ptrV
  go_enter Tryz.func51, Tryz.ntmps51
  go_wp2_with fail
  go_region_law (first
    | (go_simp; refine (unhide HF2).mono ?_; rintro e w2 ⟨rfl, b2⟩)
    | (go_simp; refine (unhide HP1).mono ?_; rintro e w1 ⟨rfl, b1⟩
       have b01 := below_next hd b1
       have d8 := (unhide HC _ b01).2
       have HF2 := hide (unhide HF w1 b01)))
  all_goals (
    have HB2 := hide (below_next b01 b2)
    have HX1 := hide (unhide HV1 w2 (unhide HB2))
    clear b1 b2 b01 d8 HF2 c7 c8
    go_wp2_with fail
    refine (unhide HX1).mono ?_
    rintro e w3 ⟨rfl, b3⟩
    have HB3 := hide (below_next (unhide HB2) b3)
    have HX2 := hide (unhide HV2 w3 (unhide HB3))
    clear b3 HX1
    cases zp with
    | false =>
      clear HX2 hv
      go_wp2
      go_ret2
      exact ⟨rfl, unhide HB3⟩
    | true =>
      have ez : zs = false := by simpa using hv
      subst ez
      clear hv
      go_wp2_with fail
      refine (unhide HX2).mono ?_
      rintro e w4 ⟨rfl, b4⟩
      have HB4 := hide (below_next (unhide HB3) b4)
      clear b4 HX2
      go_wp2
      go_ret2
      exact ⟨rfl, unhide HB4⟩)
theorem encodeOp_good (m : POp) (q : OpQ) (w : World) (S : Nat → Prop) (h : OpS w S m q) (hS : ∀ k, S k → k < w.heap.size) (hok : opOk m = true) (hw : RdW w) (hz1 : m.path.size ≤ 1048576) (hz2 : m.src.size ≤ 1048576) (hv : ptrsV m = true) :
    Calls Tryz.prog 51 #[ptrV q] w (EncP m q S w) := by
  cases ef : hasF m.kind with
  | false =>
    cases ev : hasV m.kind with
    | false => exact encodeOp_falsefalse m q w S h hS hok hw hz1 hz2 hv ef ev
    | true => exact encodeOp_falsetrue m q w S h hS hok hw hz1 hz2 hv ef ev
  | true =>
    cases ev : hasV m.kind with
    | false => exact encodeOp_truefalse m q w S h hS hok hw hz1 hz2 hv ef ev
    | true => exact encodeOp_truetrue m q w S h hS hok hw hz1 hz2 hv ef ev
end Go.Proofs.YtcjajchfjoffnaaGreatDoor

namespace Go.Proofs.YtcjajchfjoffnaaGreatDoor
open Go.RowKit

theorem cnt_ct {v : JV} (h : rdV v) : cntV v ≤ (ct v).length ∧ depV v ≤ cntV v := by
  have hd := (doc_facts (doc_nv h)).2.1
  rw [strOf_size, (nv_nf v).cnt] at hd
  exact ⟨hd, (dep_cnt v).1⟩
set_option maxRecDepth 100000 in
set_option maxHeartbeats 1600000 in
theorem withinLimits_walk (v : JV) (hr : rdV v) (htw : twV v = false) (w : World) (S : Nat → Prop) (t : TypeId) (p : Value) (rep : Rep w S v (.iface t p)) (hS : ∀ k, S k → k < w.heap.size) (hP : PowB w.heap.size w) (hl : (ct v).length ≤ 10000000) :
    Calls Tryz.prog 52 #[.iface t p] w fun e w' => e = .returned (.bool (decide (depV v ≤ 100 ∧ cntV v ≤ 3000 ∧ (ct v).length ≤ 20000))) ∧ Below w.heap.size w w' := by
  obtain ⟨h1, h2⟩ := cnt_ct hr
  have HC := hide (sizeV v (rd_ok v hr) htw w S t p rep hS hP hl (by omega) (by omega))
  clear hr htw rep hS hP
  generalize depV v = d at *
  generalize cntV v = c at *
  generalize (ct v).length = n at *
  obtain ⟨z, hz⟩ : ∃ z, decide (d ≤ 100 ∧ c ≤ 3000 ∧ n ≤ 20000) = z := ⟨_, rfl⟩
  rw [hz]
  have HZ := hide hz
  clear hz
  go_enter Tryz.func52, Tryz.ntmps52
  go_wp2_with fail
  refine (unhide HC).mono ?_
  rintro e w1 ⟨rfl, b1⟩
  have HB := hide (b1.alloc b1.size (szB d c n))
  clear HC b1
  simp only [szV]
  by_cases hd : d ≤ 100
  · have td : (d : Int) ≤ 100 := by omega
    by_cases hc : c ≤ 3000
    · have tc : (c : Int) ≤ 3000 := by omega
      by_cases hn : n ≤ 20000
      · have tn : (n : Int) ≤ 20000 := by omega
        have HD : Hid (z = true) := (unhide HZ).symm.trans (decide_eq_true ⟨hd, hc, hn⟩)
        clear hd hc hn
        go_wp2
        go_ret
        exact ⟨by rw [unhide HD]; rfl, unhide HB⟩
      · have tn : ¬ (n : Int) ≤ 20000 := by omega
        have HD : Hid (z = false) := (unhide HZ).symm.trans (decide_eq_false (fun h => hn h.2.2))
        clear hd hc hn
        go_wp2
        go_ret
        exact ⟨by rw [unhide HD]; rfl, unhide HB⟩
    · have tc : ¬ (c : Int) ≤ 3000 := by omega
      have HD : Hid (z = false) := (unhide HZ).symm.trans (decide_eq_false (fun h => hc h.2.1))
      clear hd hc
      go_wp2
      go_ret
      exact ⟨by rw [unhide HD]; rfl, unhide HB⟩
  · have td : ¬ (d : Int) ≤ 100 := by omega
    have HD : Hid (z = false) := (unhide HZ).symm.trans (decide_eq_false (fun h => hd h.1))
    clear hd
    go_wp2
    go_ret
    exact ⟨by rw [unhide HD]; rfl, unhide HB⟩
end Go.Proofs.YtcjajchfjoffnaaGreatDoor

namespace Go.Proofs.YtcjajchfjoffnaaGreatDoor
open Go.RowKit

theorem enc_sum : ∀ ms : List POp, nl (ms.map encT) ≤ 6 * (ms.map szOp).sum + 200 * ms.length
  | [] => by simp [nl]
  | m :: r => by
    have h1 := encT_len m
    have h2 := enc_sum r
    simp [nl] at *
    omega
theorem enc_len {ms : List POp} (hs : szOps ms ≤ 1048576) (hl : ms.length ≤ 100) : (mkA (ms.map encT)).length ≤ 10000000 := by
  have h1 := enc_sum ms
  have h2 := joinC_nl (ms.map encT)
  have h3 : (mkA (ms.map encT)).length = (joinC (ms.map encT)).length + 2 := by simp [mkA]
  unfold szOps at hs
  unfold hold at h2
  simp at h2
  omega
theorem ofL_app (a b : List JV) : (JL.ofL a).app (JL.ofL b) = JL.ofL (a ++ b) := by
  induction a with
  | nil => rfl
  | cons v r ih => show JL.cons v ((JL.ofL r).app (JL.ofL b)) = _; rw [ih]; rfl
/-- The operations with their trees, up to k. -/
def pairs (ms : List POp) (qs : List OpQ) : List (POp × JV) := (ms.zip qs).map fun p => (p.1, p.2.v)
def treesK (ms : List POp) (qs : List OpQ) (k : Nat) : List JV := ((pairs ms qs).take k).map fun q => opT q.1 q.2
theorem trees_succ {ms : List POp} {qs : List OpQ} {k : Nat} (h1 : k < ms.length) (h2 : k < qs.length) : treesK ms qs (k + 1) = treesK ms qs k ++ [opT ms[k] qs[k].v] := by
  unfold treesK pairs
  rw [List.take_succ_eq_append_getElem (by simp; omega), List.map_append]
  simp
/-- The patch under way. -/
structure PSt (P0 : Nat) (ts : List JV) (n : Nat) (wr : World) (xs : List Value) (sv : Value) : Prop where
  blk : wr.heap[P0]? = some (.cells #[sv] 89 (0, 0))
  row : wr.ownsRow (P0 + 1) 92 1 sv n xs
  len : xs.length = n
  rep : RepL wr (fun k => k < P0 ∨ (P0 < k ∧ k < wr.heap.size ∧ sv.ownBlock ≠ some k)) (JL.ofL ts) xs
theorem PSt.next {P0 n : Nat} {ts : List JV} {t : JV} {wr w2 w3 w4 : World} {xs : List Value} {sv sv' : Value} {x : Value} {T : Nat → Prop} (h : PSt P0 ts n wr xs sv) (hT : ∀ k, T k → k < P0) (b2 : Below wr.heap.size wr w2) (b3 : Below w2.heap.size w2 w3)
    (hx : Rep w2 (fun k => T k ∨ (wr.heap.size ≤ k ∧ k < w2.heap.size)) t x) (hrow : w4.ownsRow (P0 + 1) 92 1 sv' (n + 1) (xs ++ [x])) (hg : w3.grownBy w4 sv.ownBlock) (hwh : sv'.ownBlock = sv.ownBlock ∨ sv'.ownBlock = some w3.heap.size) :
    PSt P0 (ts ++ [t]) (n + 1) (w4.setCell ⟨P0, 0, none⟩ sv') (xs ++ [x]) sv' ∧ Below P0 wr (w4.setCell ⟨P0, 0, none⟩ sv') := by
  have hP : P0 < wr.heap.size := (Array.getElem?_eq_some_iff.1 h.blk).1
  have z2 := b2.size
  have z3 := b3.size
  have z4 := hg.size
  have z5 : (w4.setCell ⟨P0, 0, none⟩ sv').heap.size = w4.heap.size := by simp [World.setCell]
  have hsv : ∀ k, sv.ownBlock = some k → P0 < k ∧ k < wr.heap.size := fun k hk => by have := h.row.lt k hk; omega
  have keep4 : ∀ k, k < w3.heap.size → sv.ownBlock ≠ some k → w4.heap[k]? = w3.heap[k]? := fun k h1 h2 => hg.block k h1 (fun e => h2 e.symm)
  have keep5 : ∀ k, k ≠ P0 → (w4.setCell ⟨P0, 0, none⟩ sv').heap[k]? = w4.heap[k]? := fun k hk => Below.heap_setCell w4 ⟨P0, 0, none⟩ sv' k hk
  have hsv' : ∀ k, sv'.ownBlock = some k → sv.ownBlock = some k ∨ k = w3.heap.size := fun k hk => by
    rcases hwh with e | e
    · exact .inl (e ▸ hk)
    · rw [e] at hk; injection hk with hk; exact .inr hk.symm
  have kP : w4.heap[P0]? = some (.cells #[sv] 89 (0, 0)) := by
    rw [keep4 P0 (by omega) (fun e => by have := hsv P0 e; omega), b3.block P0 (by omega), b2.block P0 hP]
    exact h.blk
  have k5 := heap_setCell_same w4 P0 0 #[sv] 89 sv' kP
  refine ⟨⟨k5, ?_, by simp [h.len], ?_⟩, ?_⟩
  · refine ⟨hrow.1, ?_⟩
    rcases hrow.2 with ⟨_, hn⟩ | ⟨g, cap, cur, hv, hB, hgg, r⟩
    · omega
    · exact .inr ⟨g, cap, cur, hv, hB, (keep5 g (by omega)).trans hgg, r⟩
  · rw [← ofL_app]
    refine RepL.app _ _ _ _ (RepL.keep (fun k hk => ?_) (fun k hk => ?_) _ _ h.rep) ?_
    · rcases hk with hk | hk
      · rw [keep5 k (by omega), keep4 k (by omega) (fun e => by have := hsv k e; omega), b3.block k (by omega), b2.block k (by omega)]
      · rw [keep5 k (by omega), keep4 k (by omega) hk.2.2, b3.block k (by omega), b2.block k (by omega)]
    · rcases hk with hk | hk
      · exact .inl hk
      · refine .inr ⟨hk.1, by omega, fun e => ?_⟩
        rcases hsv' k e with e | e
        · exact hk.2.2 e
        · omega
    · show RepL _ _ (.cons t .nil) [x]
      rw [RepL]
      refine ⟨x, [], rfl, Rep.keep (fun k hk => ?_) (fun k hk => ?_) _ _ hx, by rw [RepL]⟩
      · rcases hk with hk | hk
        · have := hT k hk
          rw [keep5 k (by omega), keep4 k (by omega) (fun e => by have := hsv k e; omega), b3.block k (by omega)]
        · rw [keep5 k (by omega), keep4 k (by omega) (fun e => by have := hsv k e; omega), b3.block k hk.2]
      · rcases hk with hk | hk
        · exact .inl (hT k hk)
        · refine .inr ⟨by omega, by omega, fun e => ?_⟩
          rcases hsv' k e with e | e
          · have := hsv k e; omega
          · omega
  · have hx4 : Below P0 wr w4 := ((b2.mono (by omega)).trans (b3.mono (by omega))).grown hg (by omega) (fun k hk => by have := hsv k hk; omega)
    exact hx4.setCell (p := ⟨P0, 0, none⟩) (Nat.le_refl _) _
set_option maxRecDepth 100000 in
set_option maxHeartbeats 4000000 in
theorem implEncode_walk (v : Value) (ms : List POp) (bl : List Nat) (w : World) (h : ORow opE w v ms bl) (hs : szOps ms ≤ 1048576) (hw : RdW w) :
    Calls Tryz.prog 21 #[v] w fun e w' => e = .returned (.tuple #[.string (encV ms).1, .bool (encV ms).2]) ∧ Below w.heap.size w w' := by
  obtain ⟨xa, xc, rfl, h1, hxa⟩ := h.form
  have HR := hide (readOps_walk _ ms bl w h hs hw)
  have HIN := hide (opsIn hs)
  clear h h1 hxa
  obtain ⟨ev, hev⟩ : ∃ ev, encV ms = ev := ⟨_, rfl⟩
  rw [hev]
  have HEV := hide hev
  clear hev
  by_cases hbad : 0 ≤ badI ms
  · have hV : encV ms = (⟨#[]⟩, false) := by unfold encV; rw [if_pos hbad]
    obtain rfl : ev = (⟨#[]⟩, false) := (unhide HEV).symm.trans hV
    have HBAD := hide hbad
    clear hV HEV hbad
    go_enter Tryz.func21, Tryz.ntmps21
    go_wp2_with fail
    refine (unhide HR).mono ?_
    rintro e w1 ⟨b1, hb, _⟩
    obtain ⟨t, p, rfl⟩ := hb (unhide HBAD)
    clear HR hb
    go_wp2
    go_ret2
    exact ⟨rfl, b1⟩
  · have hl100 : ms.length ≤ 100 := by
      by_cases hc : 100 < ms.length
      · exact absurd (by unfold badI; rw [if_pos hc]; omega) hbad
      · omega
    have hallok : ∀ m ∈ ms, opOk m = true := fun m hm => by
      obtain ⟨j, hj, rfl⟩ := List.mem_iff_getElem.1 hm
      cases hc : opOk ms[j] with
      | true => rfl
      | false =>
        exfalso
        apply hbad
        unfold badI
        rw [if_neg (by omega)]
        cases hf : ms.findIdx? (fun m => !opOk m) with
        | none =>
          have := List.findIdx?_eq_none_iff.1 hf ms[j] (List.getElem_mem hj)
          rw [hc] at this; cases this
        | some i => simp
    have HOK := hide hallok
    have hbadn : ¬ 0 ≤ badI ms := hbad
    have HBAD := hide hbadn
    clear hallok hbad hbadn
    go_enter Tryz.func21, Tryz.ntmps21
    go_wp2_with fail
    refine (unhide HR).mono ?_
    rintro e w1 ⟨b1, _, hg⟩
    obtain ⟨lv, qs, rfl, hL⟩ := hg (by have := unhide HBAD; omega)
    obtain ⟨la, lc, rfl⟩ : ∃ la lc, lv = .slice la qs.length lc := by
      rcases hL.row.2 with ⟨hv, hn⟩ | ⟨g, cap, cur, hv, _⟩
      · exact ⟨none, 0, by rw [hv, hn]⟩
      · exact ⟨some ⟨g, 0, none⟩, cap, hv⟩
    have HL := hide hL
    have HB1 := hide b1
    have HLEN := hide hL.len
    clear HR hg hL b1
    have hA := alloc_b w1 (.cells #[.slice none 0 0] 89)
    have kA := heap_alloc_new w1 (.cells #[.slice none 0 0] 89)
    have zA : (w1.alloc (.cells #[.slice none 0 0] 89)).heap.size = w1.heap.size + 1 := by simp
    have HA := hide hA
    have HZA := hide zA
    have HST : Hid (PSt w1.heap.size (treesK ms qs 0) 0 (w1.alloc (.cells #[.slice none 0 0] 89)) [] (.slice none 0 0)) := ⟨kA, World.ownsRow_nil _ _ _ _, rfl, by show RepL _ _ .nil []; rw [RepL]⟩
    clear hA kA zA
    go_wp2_with fail
    generalize (w1.alloc (.cells #[.slice none 0 0] 89)) = wA at *
    generalize hP0 : w1.heap.size = P0 at *
    have HP0 := hide hP0
    clear hP0
    go_loopw [22] (fun i wr => ∃ (k : Nat) (xs : List Value) (sv : Value), k ≤ qs.length ∧ i = .int .i64 k ∧ Below P0 w1 wr ∧ PSt P0 (treesK ms qs k) k wr xs sv ∧ ∀ j (hj : j < ms.length), j < k → ptrsV ms[j] = true) (fun i _ => qs.length - (intOf i).toNat)
    case atStart => exact ⟨0, [], _, Nat.zero_le _, rfl, unhide HA, unhide HST, fun j hj h => by omega⟩
    case round =>
      obtain ⟨k, xs, sv, hk, rfl, hb, hst, hpv⟩ := hrel
      obtain ⟨sa, sc, rfl⟩ : ∃ sa sc, sv = .slice sa k sc := by
        rcases hst.row.2 with ⟨hv, hn⟩ | ⟨g, cap, cur, hv, _⟩
        · exact ⟨none, 0, by rw [hv, hn]⟩
        · exact ⟨some ⟨g, 0, none⟩, cap, hv⟩
      have hPlt : P0 < wr.heap.size := (Array.getElem?_eq_some_iff.1 hst.blk).1
      have hbw : Below w1.heap.size w1 wr := by rw [unhide HP0]; exact hb
      have b0 := below_next (unhide HB1) hbw
      by_cases hlt : k < qs.length
      · have hltm : k < ms.length := by rw [← unhide HLEN]; exact hlt
        have row := own_below (unhide HL).row hbw
        obtain ⟨g, hg⟩ : ∃ g, la = some ⟨g, 0, none⟩ := by
          rcases row.2 with ⟨_, hn⟩ | ⟨g, cap, cur, hv, _⟩
          · omega
          · injection hv with hv _ _; exact ⟨g, hv⟩
        subst hg
        have cg : wr.cell? ⟨g, k, none⟩ = some (ptrV qs[k]) := by
          rw [row.cellAt k (by simpa using hlt), List.getElem?_map, List.getElem?_eq_getElem hlt]; rfl
        have hops := (unhide HL).ops k ms[k] qs[k] (List.getElem?_eq_getElem hltm) (List.getElem?_eq_getElem hlt)
        have hopw : OpS wr (SOps w.heap.size w1 (.slice (some ⟨g, 0, none⟩) qs.length lc)) ms[k] qs[k] := hops.keep (fun j hj => hbw.block j hj.2.1) (fun _ h => h)
        obtain ⟨i1, i2, _⟩ := unhide HIN ms[k] (List.getElem_mem hltm)
        have hokk := unhide HOK ms[k] (List.getElem_mem hltm)
        have hwr := hw.up b0
        have HB0 := hide b0
        have HB := hide hb
        have HST2 := hide hst
        have HPV := hide hpv
        have hltI : (k : Int) < (qs.length : Int) := by omega
        cases hpq : ptrsV ms[k] with
        | false =>
          have HE := hide (encodeOp_bad ms[k] qs[k] wr _ hopw hokk hwr i1 i2 hpq)
          have hsrc : ∀ m ∈ ms, hasF m.kind = false → m.src.toList = [] := fun m hm => (opOk_parts (unhide HOK m hm)).2.2.2.2.1
          have hV : encV ms = (⟨#[]⟩, false) := by unfold encV; rw [if_neg (by have := unhide HBAD; omega), patch_bad hsrc (List.getElem_mem hltm) hpq]; rfl
          obtain rfl : ev = (⟨#[]⟩, false) := (unhide HEV).symm.trans hV
          unfold ptrV at cg HE
          clear hV HEV hsrc hpq hops hopw row hbw b0 hb hst hpv hokk hwr i1 i2
          go_wp2_with fail
          refine (unhide HE).mono ?_
          rintro e w2 ⟨rfl, b2⟩
          have HB2 := hide (below_next (unhide HB0) b2)
          clear HE b2 cg
          go_wp2
          go_ret2
          exact ⟨rfl, unhide HB2⟩
        | true =>
          have HE := hide (encodeOp_good ms[k] qs[k] wr _ hopw (fun j hj => Nat.lt_of_lt_of_le hj.2.1 hbw.size) hokk hwr i1 i2 hpq)
          have HPQ : Hid (∀ j (hj : j < ms.length), j < k + 1 → ptrsV ms[j] = true) := fun j hj h => by
            by_cases e : j = k
            · subst e; exact hpq
            · exact unhide HPV j hj (by omega)
          unfold ptrV at cg HE
          unfold EncP at HE
          clear hpq hops hopw row hbw b0 hb hst hpv hokk hwr i1 i2
          go_wp2_with fail
          refine (unhide HE).mono ?_
          rintro e w2 ⟨ob, rfl, rep, b2⟩
          have hA3 := alloc_b w2 (.cells #[.iface 151 (.pointer (some ⟨ob, 0, none⟩))] 92)
          have k3 := heap_alloc_new w2 (.cells #[.iface 151 (.pointer (some ⟨ob, 0, none⟩))] 92)
          have z3 : (w2.alloc (.cells #[.iface 151 (.pointer (some ⟨ob, 0, none⟩))] 92)).heap.size = w2.heap.size + 1 := by simp
          have cx : (w2.alloc (.cells #[.iface 151 (.pointer (some ⟨ob, 0, none⟩))] 92)).cell? ⟨w2.heap.size, 0, none⟩ = some (.iface 151 (.pointer (some ⟨ob, 0, none⟩))) := Lib.cell_of_heap k3 0
          have cP : w2.cell? ⟨P0, 0, none⟩ = some (.slice sa k sc) := Lib.cell_of_heap ((b2.block P0 hPlt).trans (unhide HST2).blk) 0
          have row3 := own_below (own_below (unhide HST2).row b2) hA3
          have z2 := b2.size
          have HCX := hide cx
          have HR3 := hide row3
          have HZ3 := hide z3
          have HA3 := hide hA3
          have HB2 := hide b2
          have HREP := hide rep
          clear HE cx row3 z3 hA3 k3 b2 rep cg
          go_wp2_with (at_builtin; refine wpList_append_one Tryz.underlying87 infoVal rfl (by decide) rfl (.tmp 37) (.tmp 39) rfl (B := P0 + 1) rfl (unhide HR3) (y := .iface 151 (.pointer (some ⟨ob, 0, none⟩))) rfl rfl (unhide HCX) (by have := unhide HZ3; omega) (by omega) ?_)
          intro sv' w4 hrow4 hg4 hwh4
          obtain ⟨sa', sc', rfl⟩ : ∃ sa sc, sv' = .slice sa (k + 1) sc := by
            rcases hrow4.2 with ⟨_, hn⟩ | ⟨g, cap, cur, hv, _⟩
            · omega
            · exact ⟨_, _, hv⟩
          have z3 := unhide HZ3
          have hsv : ∀ j, (Value.slice sa k sc).ownBlock = some j → P0 < j := fun j hj => by have := (unhide HST2).row.lt j hj; omega
          have kP4 : w4.heap[P0]? = some (.cells #[.slice sa k sc] 89 (0, 0)) := by
            rw [hg4.block P0 (by omega) (fun e => by have := hsv P0 e.symm; omega), (unhide HA3).block P0 (by omega), (unhide HB2).block P0 hPlt]
            exact (unhide HST2).blk
          have cP4 : w4.cell? ⟨P0, 0, none⟩ = some (.slice sa k sc) := Lib.cell_of_heap kP4 0
          have fP4 := Lib.frozen_of_heap kP4 0
          obtain ⟨hn1, hn2⟩ := (unhide HST2).next (T := SOps w.heap.size w1 (.slice (some ⟨g, 0, none⟩) qs.length lc)) (fun j hj => by have := hj.2.1; rw [unhide HP0] at this; exact this) (unhide HB2) (unhide HA3) (unhide HREP) hrow4 hg4 (by rw [z3]; exact hwh4)
          rw [← trees_succ hltm hlt] at hn1
          have HN1 := hide hn1
          have HN2 := hide ((unhide HB).trans hn2)
          clear hn1 hn2 hrow4 hg4 hwh4 z3 hsv kP4 HST2 HR3 HCX HZ3 HA3 HB2 HREP cP z2
          go_wp2
          go_roundw
          case rel => exact ⟨k + 1, _, _, by omega, by go_num, unhide HN2, unhide HN1, unhide HPQ⟩
          case measure => simp [intOf]; omega
      · have hk' : k = qs.length := by omega
        subst hk'
        have hkm : qs.length = ms.length := unhide HLEN
        have hpr : (pairs ms qs).length = qs.length := by unfold pairs; simp; omega
        have htk : treesK ms qs qs.length = (pairs ms qs).map fun q => opT q.1 q.2 := by unfold treesK; rw [← hpr, List.take_length]
        rw [htk] at hst
        have hfst : (pairs ms qs).map (·.1) = ms := by
          unfold pairs
          rw [List.map_map]
          have e : ((fun p : POp × JV => p.1) ∘ fun p : POp × OpQ => (p.1, p.2.v)) = Prod.fst := rfl
          rw [e, List.map_fst_zip (by omega)]
        have hval : ∀ q ∈ pairs ms qs, OpVal q.1 q.2 ∧ ptrsV q.1 = true := fun q hq => by
          unfold pairs at hq
          obtain ⟨⟨m, o⟩, hz, rfl⟩ := List.mem_map.1 hq
          obtain ⟨j, hj, he⟩ := List.mem_iff_getElem.1 hz
          rw [List.length_zip] at hj
          have hj1 : j < ms.length := by omega
          have hj2 : j < qs.length := by omega
          rw [List.getElem_zip] at he
          injection he with e1 e2
          subst e1; subst e2
          have ho := (unhide HL).ops j ms[j] qs[j] (List.getElem?_eq_getElem hj1) (List.getElem?_eq_getElem hj2)
          exact ⟨fun hv => ⟨(ho.val hv).1, (ho.val hv).2.1⟩, hpv j hj1 hj2⟩
        obtain ⟨hrd, htw, hbig⟩ := patch_facts (fun q hq => (hval q hq).1) (fun q hq => (hval q hq).2)
        have hct := patch_ct (fun q hq => (hval q hq).1)
        rw [hfst] at hct
        have hgood := goodT_ct hrd hbig htw
        have hlen : (ct (patchT (pairs ms qs))).length ≤ 10000000 := by rw [hct]; exact enc_len hs hl100
        have rep : Rep wr (fun j => j < wr.heap.size) (patchT (pairs ms qs)) (.iface 86 (.pointer (some ⟨P0, 0, none⟩))) := by
          unfold patchT
          rw [Rep]
          refine ⟨P0, _, xs, rfl, hPlt, hst.blk, ⟨by rw [hst.len]; exact own_mono hst.row (Nat.zero_le _), fun b hb => (hst.row.lt b hb).2⟩, RepL.keep (fun _ _ => rfl) (fun j hj => ?_) _ _ hst.rep⟩
          rcases hj with hj | hj
          · omega
          · exact hj.2.1
        have HV : Hid (ev = if goodT (strOf (ct (patchT (pairs ms qs)))) then (strOf (ct (patchT (pairs ms qs))), true) else (⟨#[]⟩, false)) := by
          show _ = _
          rw [← unhide HEV]
          unfold encV
          rw [if_neg (by have := unhide HBAD; omega), hct]
        rw [hgood] at HV
        have hwr := hw.up b0
        have HW := hide (withinLimits_walk _ hrd htw wr _ _ _ rep (fun _ h => h) hwr.pow hlen)
        have HREP := hide rep
        have HOKV := hide (rd_ok _ hrd)
        have HTW := hide htw
        have HLEN2 := hide hlen
        have HB0 := hide b0
        have HPW := hide hwr.pow
        generalize patchT (pairs ms qs) = T at *
        clear hst hpv hkm hpr htk hfst hval hrd htw hbig hct hgood hlen rep hwr b0 hb hbw
        by_cases hin : depV T ≤ 100 ∧ cntV T ≤ 3000 ∧ (ct T).length ≤ 20000
        · rw [decide_eq_true hin] at HW HV
          obtain rfl : ev = (strOf (ct T), true) := unhide HV
          clear hin HV
          go_wp2_with fail
          refine (unhide HW).mono ?_
          rintro e w2 ⟨rfl, b2⟩
          have rep2 : Rep w2 (fun j => j < wr.heap.size) T (.iface 86 (.pointer (some ⟨P0, 0, none⟩))) := Rep.keep (fun j hj => b2.block j hj) (fun _ h => h) _ _ (unhide HREP)
          have HC := hide (canonText_walk T (unhide HOKV) (unhide HTW) _ _ w2 _ rep2 (fun j hj => Nat.lt_of_lt_of_le hj b2.size) (powUp (unhide HPW) b2) (unhide HLEN2))
          have HB2 := hide (below_next (unhide HB0) b2)
          clear HW b2 rep2 HREP
          go_wp2_with fail
          refine (unhide HC).mono ?_
          rintro e w3 ⟨rfl, b3⟩
          have HB3 := hide (below_next (unhide HB2) b3)
          clear HC b3
          go_wp2
          go_ret2
          exact ⟨rfl, unhide HB3⟩
        · rw [decide_eq_false hin] at HW HV
          obtain rfl : ev = (⟨#[]⟩, false) := unhide HV
          clear hin HV
          go_wp2_with fail
          refine (unhide HW).mono ?_
          rintro e w2 ⟨rfl, b2⟩
          have HB2 := hide (below_next (unhide HB0) b2)
          clear HW b2
          go_wp2
          go_ret2
          exact ⟨rfl, unhide HB2⟩
end Go.Proofs.YtcjajchfjoffnaaGreatDoor

namespace Go.Proofs.YtcjajchfjoffnaaGreatDoor
open Go.RowKit

set_option maxRecDepth 100000 in
set_option maxHeartbeats 4000000 in
theorem encodeLaw_in (v : Value) (ms : List POp) (w : World) (hr : RRow opR w v ms) (hw : RdW w) :
    Calls Tryz.prog 5 #[v] w fun e w' => e = .returned (.bool true) ∧ Below w.heap.size w w' := by
  have HR := hide hr
  have HS := hide (szOps_walk v ms 1048576 w hr (Nat.le_refl _))
  clear hr
  by_cases hsz : szOps ms ≤ 1048576
  · rw [szI_ok hsz] at HS
    have HT : Hid (∀ wx, Below w.heap.size w wx → Calls Tryz.prog 20 #[v] wx fun e w' => ∃ v' bl, e = .returned v' ∧ ORow opE w' v' ms bl ∧ Fsh wx.heap.size bl ∧ Below wx.heap.size wx w') := fun wx hx => toOps_walk v ms wx ((unhide HR).below hx) hsz
    have hle : 1048576 - szOps ms ≤ 1048576 := by omega
    generalize 1048576 - szOps ms = L at *
    go_enter Tryz.func5, Tryz.ntmps5
    go_wp2_with fail
    refine (unhide HS).mono ?_
    rintro e w1 ⟨rfl, b1⟩
    have HT1 := hide (unhide HT w1 b1)
    have HB1 := hide b1
    clear HS b1
    go_wp2_with fail
    refine (unhide HT1).mono ?_
    rintro e w2 ⟨v2, bl2, rfl, o2, _, b2⟩
    have HE := hide (specEncode_walk v2 ms bl2 w2 o2 hsz)
    have HB2 := hide (below_next (unhide HB1) b2)
    clear HT1 o2 b2 HB1
    go_wp2_with fail
    refine (unhide HE).mono ?_
    rintro e w3 ⟨rfl, b3⟩
    have b03 := below_next (unhide HB2) b3
    have HT3 := hide (unhide HT w3 b03)
    have HB3 := hide b03
    clear HE b3 b03 HB2
    obtain ⟨es, hes⟩ : ∃ es, (encV ms).1 = es := ⟨_, rfl⟩
    obtain ⟨eb, heb⟩ : ∃ eb, (encV ms).2 = eb := ⟨_, rfl⟩
    rw [hes, heb]
    have HES := hide hes
    have HEB := hide heb
    clear hes heb
    go_wp2_with fail
    refine (unhide HT3).mono ?_
    rintro e w4 ⟨v4, bl4, rfl, o4, _, b4⟩
    have b04 := below_next (unhide HB3) b4
    have HI := hide (implEncode_walk v4 ms bl4 w4 o4 hsz (hw.up b04))
    rw [unhide HES, unhide HEB] at HI
    have HB4 := hide b04
    have HO4 := hide o4
    obtain ⟨xa, xc, rfl, _, _⟩ := o4.form
    clear HT3 o4 b4 b04 HB3
    go_wp2_with fail
    refine (unhide HI).mono ?_
    rintro e w5 ⟨rfl, b5⟩
    have b05 := below_next (unhide HB4) b5
    have HO5 := hide ((unhide HO4).below b5)
    have HB5 := hide b05
    have HT5 := hide (unhide HT w5 b05)
    clear HI b5 b05 HB4 HO4
    go_wp2_with fail
    refine (unhide HT5).mono ?_
    rintro e w6 ⟨v6, bl6, rfl, o6, _, b6⟩
    have HQ := hide (eqOps_walk _ v6 ms bl4 bl6 w6 ((unhide HO5).below b6) o6)
    have HB6 := hide (below_next (unhide HB5) b6)
    clear HT5 o6 b6 HB5 HO5
    go_wp2_with fail
    refine (unhide HQ).mono ?_
    rintro e w7 ⟨rfl, b7⟩
    have HB7 := hide (below_next (unhide HB6) b7)
    clear HQ b7 HB6
    go_wp2
    go_ret
    exact ⟨rfl, unhide HB7⟩
  · rw [szI_no (by omega)] at HS
    go_enter Tryz.func5, Tryz.ntmps5
    go_wp2_with fail
    refine (unhide HS).mono ?_
    rintro e w1 ⟨rfl, b1⟩
    clear HS
    go_wp2
    go_ret
    exact ⟨rfl, b1⟩
/-- What the row's condition says of the tables. -/
def VarsOk (w : World) : Prop := Tabs w ∧ ErrB w.heap.size w ∧ PowB w.heap.size w
theorem tables_of {W : World} (hL : laidMetH Tryz.prog Rows.fnExactEncodePatchRow.laid W) : VarsOk W := by
  have h : laidMet Tryz.prog laidAll W := hL
  exact ⟨tabs_at h, err_at h, pow_at h⟩
theorem encodeLaw_walk (v : Value) (ms : List POp) (w : World) (hr : RRow opR w v ms) (hm : ML w) (h : VarsOk w) :
    Calls Tryz.prog 5 #[v] w fun e w' => e = .returned (.bool true) ∧ Below w.heap.size w w' := encodeLaw_in v ms w hr ⟨TabsB.of h.1, h.2.1, h.2.2, hm⟩
end Go.Proofs.YtcjajchfjoffnaaGreatDoor
