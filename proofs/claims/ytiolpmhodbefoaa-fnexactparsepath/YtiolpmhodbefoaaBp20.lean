import Derived.Test.YtiolpmhodbefoaaBp15
import Derived.Test.YtiolpmhodbefoaaBp19
import Derived.Test.YtiolpmhodbefoaaBp1
import Derived.Test.YtiolpmhodbefoaaBp11
namespace Go.Proofs.Ytiolpmhodbefoaa
open Go.RowKit

def quoB (c : UInt8) : List UInt8 := if c = 39 ∨ c = 92 then [92, c] else [c]
def quo (s : ByteArray) : List UInt8 := 39 :: (s.data.toList.flatMap quoB ++ [39])
/-- The operations of a condition. -/
def CT.fl : CT → List PFOp
  | .mk o [] => [o]
  | .mk o [a] => a.fl ++ [o]
  | .mk o (a :: b :: _) => a.fl ++ (b.fl ++ [o])
inductive GC : CT → Prop
  | leaf {o : PFOp} : fopOk o = true → parts o.k = 0 → GC (.mk o [])
  | not {o : PFOp} {a : CT} : fopOk o = true → o.k = 12 → GC a → a.tru = true → GC (.mk o [a])
  | cmp {o : PFOp} {a b : CT} : fopOk o = true → o.k = 9 → GC a → GC b → a.tru = false → b.tru = false → GC (.mk o [a, b])
  | two {o : PFOp} {a b : CT} : fopOk o = true → o.k = 10 ∨ o.k = 11 → GC a → GC b → a.tru = true → b.tru = true → GC (.mk o [a, b])
/-- The stack: good conditions, and their operations one behind the other. -/
def Stk (st : List CT) (l : List PFOp) : Prop := (∀ c ∈ st, GC c) ∧ l = st.flatMap CT.fl
theorem Stk.step {st st' : List CT} {l : List PFOp} {o : PFOp} (h : Stk st l) (hs : stepT st o = some st') : Stk st' (l ++ [o]) := by
  unfold stepT at hs
  split at hs
  · cases hs
  · rename_i hlen
    split at hs
    · cases hs
    · rename_i hf
      have hf : fopOk o = true := by cases hq : fopOk o with | true => rfl | false => exact absurd hq hf
      have hk := fop_k hf
      split at hs
      · rename_i hall
        injection hs with hs
        subst hs
        obtain ⟨hg, rfl⟩ := h
        rw [List.all_eq_true] at hall
        have hsplit : st.flatMap CT.fl = (st.take (st.length - parts o.k)).flatMap CT.fl ++ (st.drop (st.length - parts o.k)).flatMap CT.fl := by rw [← List.flatMap_append, List.take_append_drop]
        have hgd : ∀ c ∈ st.drop (st.length - parts o.k), GC c := fun c hc => hg c (List.mem_of_mem_drop hc)
        have hdl : (st.drop (st.length - parts o.k)).length = parts o.k := by rw [List.length_drop]; omega
        generalize hD : st.drop (st.length - parts o.k) = D at *
        have main : GC (.mk o D) ∧ (CT.mk o D).fl = D.flatMap CT.fl ++ [o] := by
          by_cases h0 : parts o.k = 0
          · have : D = [] := List.eq_nil_of_length_eq_zero (by omega)
            subst this
            exact ⟨.leaf hf h0, by unfold CT.fl; rfl⟩
          · have hk4 : o.k = 9 ∨ o.k = 10 ∨ o.k = 11 ∨ o.k = 12 := by
              unfold parts at h0
              split at h0
              · rename_i h1; omega
              · split at h0
                · rename_i h2; omega
                · exact absurd rfl h0
            rcases hk4 with e | e | e | e
            · have h2 : D.length = 2 := by rw [hdl, e]; rfl
              obtain ⟨a, b, rfl⟩ : ∃ a b, D = [a, b] := by
                match D, h2 with
                | [a, b], _ => exact ⟨a, b, rfl⟩
              have ha := hall a (by simp)
              have hb := hall b (by simp)
              rw [e] at ha hb
              exact ⟨.cmp hf e (hgd a (by simp)) (hgd b (by simp)) (by simpa using ha) (by simpa using hb), by unfold CT.fl; simp⟩
            · have h2 : D.length = 2 := by rw [hdl, e]; rfl
              obtain ⟨a, b, rfl⟩ : ∃ a b, D = [a, b] := by
                match D, h2 with
                | [a, b], _ => exact ⟨a, b, rfl⟩
              have ha := hall a (by simp)
              have hb := hall b (by simp)
              rw [e] at ha hb
              exact ⟨.two hf (.inl e) (hgd a (by simp)) (hgd b (by simp)) (by simpa using ha) (by simpa using hb), by unfold CT.fl; simp⟩
            · have h2 : D.length = 2 := by rw [hdl, e]; rfl
              obtain ⟨a, b, rfl⟩ : ∃ a b, D = [a, b] := by
                match D, h2 with
                | [a, b], _ => exact ⟨a, b, rfl⟩
              have ha := hall a (by simp)
              have hb := hall b (by simp)
              rw [e] at ha hb
              exact ⟨.two hf (.inr e) (hgd a (by simp)) (hgd b (by simp)) (by simpa using ha) (by simpa using hb), by unfold CT.fl; simp⟩
            · have h2 : D.length = 1 := by rw [hdl, e]; rfl
              obtain ⟨a, rfl⟩ : ∃ a, D = [a] := by
                match D, h2 with
                | [a], _ => exact ⟨a, rfl⟩
              have ha := hall a (by simp)
              rw [e] at ha
              exact ⟨.not hf e (hgd a (by simp)) (by simpa using ha), by unfold CT.fl; simp⟩
        refine ⟨fun c hc => ?_, ?_⟩
        · rcases List.mem_append.1 hc with hc | hc
          · exact hg c (List.mem_of_mem_take hc)
          · simp at hc
            subst hc
            exact main.1
        · rw [List.flatMap_append, List.flatMap_singleton, main.2, hsplit, List.append_assoc]
      · cases hs
theorem Stk.run : ∀ (ops : List PFOp) (st st' : List CT) (l : List PFOp), Stk st l → runT ops st = some st' → Stk st' (l ++ ops)
  | [], st, st', l, h, e => by
    rw [runT] at e
    injection e with e
    subst e
    rw [List.append_nil]; exact h
  | o :: r, st, st', l, h, e => by
    rw [runT] at e
    obtain ⟨s1, h1, h2⟩ := Option.bind_eq_some_iff.1 e
    have := Stk.run r s1 st' _ (h.step h1) h2
    rwa [List.append_assoc] at this
end Go.Proofs.Ytiolpmhodbefoaa


namespace Go.Proofs.Ytiolpmhodbefoaa
open Go.RowKit

end Go.Proofs.Ytiolpmhodbefoaa


namespace Go.Proofs.Ytiolpmhodbefoaa
open Go.RowKit

def strV (o : Option Bs) : Value := .tuple #[.string (bsT (o.getD [])), .bool o.isSome]
theorem str_data (s : ByteArray) (h : 0 < s.size) : sStr s.data.toList = if s[0] = 39 ∧ sE (dr s 1) = some [] then sD (dr s 1).dropLast else none := by
  have e := dr_at h
  rw [dr_zero] at e
  rw [e]; rfl
theorem dr_ne {s : ByteArray} {k : Nat} (h : k < s.size) : dr s k ≠ [] := by rw [dr_at h]; simp
theorem dl_con {s : ByteArray} {k : Nat} (h : k + 1 < s.size) : (dr s k).dropLast = s[k] :: (dr s (k + 1)).dropLast := by
  rw [dr_at (show k < s.size by omega)]
  rw [List.dropLast_cons_of_ne_nil (dr_ne h)]
theorem dl_last {s : ByteArray} {k : Nat} (h : k + 1 = s.size) : (dr s k).dropLast = [] := by
  rw [dr_at (show k < s.size by omega), dr_end (s := s) (i := k + 1) (by omega)]; rfl
/-- The inside of a string under way: what was read, and what is left. -/
def StrUp (s : ByteArray) (R : Option Bs) (k : Nat) (acc : Bs) : Prop := sE (dr s k) = some [] ∧ R = (sD (dr s k).dropLast).map (acc ++ ·)
theorem StrUp.low {s : ByteArray} {R : Option Bs} {k : Nat} {acc : Bs} (h : StrUp s R k acc) (hk : k + 1 < s.size) (hc : s[k].toNat < 32) : R = none := by
  rw [h.2, dl_con hk, sD_con, if_pos hc]; rfl
theorem StrUp.esc {s : ByteArray} {R : Option Bs} {k : Nat} {acc : Bs} (h : StrUp s R k acc) (hk : k + 1 < s.size) (hc : s[k] = 92) : k + 2 < s.size := by
  have h1 := h.1
  rw [dr_at (show k < s.size by omega), sE_con, if_pos hc, dr_at hk] at h1
  simp only at h1
  rcases Nat.lt_or_ge (k + 2) s.size with h2 | h2
  · exact h2
  · rw [dr_end (s := s) (i := k + 1 + 1) (by omega)] at h1; cases h1
theorem StrUp.bad {s : ByteArray} {R : Option Bs} {k : Nat} {acc : Bs} (h : StrUp s R k acc) (hk : k + 2 < s.size) (hc : s[k] = 92) (h1 : ¬ s[k + 1] = 39) (h2 : ¬ s[k + 1] = 92) : R = none := by
  rw [h.2, dl_con (by omega), sD_con, if_neg (by rw [hc]; decide), if_pos hc, dl_con hk]
  simp only
  rw [if_neg (by rintro (h | h); exact h1 h; exact h2 h)]; rfl
theorem StrUp.two {s : ByteArray} {R : Option Bs} {k : Nat} {acc : Bs} (h : StrUp s R k acc) (hk : k + 2 < s.size) (hc : s[k] = 92) (hd : s[k + 1] = 39 ∨ s[k + 1] = 92) : StrUp s R (k + 2) (acc ++ [s[k + 1]]) := by
  constructor
  · have h1 := h.1
    rw [dr_at (show k < s.size by omega), sE_con, if_pos hc, dr_at (show k + 1 < s.size by omega)] at h1
    exact h1
  · rw [h.2, dl_con (by omega), sD_con, if_neg (by rw [hc]; decide), if_pos hc, dl_con hk]
    simp only
    rw [if_pos hd]
    cases sD (dr s (k + 1 + 1)).dropLast <;> simp
theorem StrUp.one {s : ByteArray} {R : Option Bs} {k : Nat} {acc : Bs} (h : StrUp s R k acc) (hk : k + 1 < s.size) (hc : ¬ s[k] = 92) (hl : ¬ s[k].toNat < 32) : StrUp s R (k + 1) (acc ++ [s[k]]) := by
  constructor
  · have h1 := h.1
    rw [dr_at (show k < s.size by omega), sE_con, if_neg hc] at h1
    split at h1
    · injection h1 with h1; exact absurd h1 (dr_ne hk)
    · exact h1
  · rw [h.2, dl_con hk, sD_con, if_neg hl, if_neg hc]
    cases sD (dr s (k + 1)).dropLast <;> simp
theorem StrUp.last {s : ByteArray} {R : Option Bs} {k : Nat} {acc : Bs} (h : StrUp s R k acc) (hk : k + 1 = s.size) : R = some acc := by
  rw [h.2, dl_last hk]; simp [sD]
set_option maxRecDepth 100000 in
set_option maxHeartbeats 4000000 in
theorem str_walk (s : ByteArray) (w : World) (hs : s.size ≤ 1048576) : Calls Try.prog 56 #[.string s] w fun e w' => e = .returned (strV (sStr s.data.toList)) ∧ Below w.heap.size w w' := by
  obtain ⟨i0, hi, hz0, hz1, hz2⟩ := info_parts infoU8
  by_cases h2 : s.size < 2
  · have HR : Hid (sStr s.data.toList = none) := by
      show _ = _
      by_cases h0 : 0 < s.size
      · rw [str_data s h0, dr_end (s := s) (i := 1) (by omega), if_neg]
        rintro ⟨-, h⟩; cases h
      · rw [show s.data.toList = [] from dr_end (s := s) (i := 0) (by omega)]; rfl
    have t2 : (s.size : Int) < 2 := by omega
    go_enter Try.func56, Try.ntmps56
    go_wp2
    go_ret2
    exact ⟨by rw [unhide HR]; rfl, Below.refl _ _⟩
  · have t2 : ¬ (s.size : Int) < 2 := by omega
    have h0 : 0 < s.size := by omega
    have h0I : (0 : Int) < (s.size : Int) := by omega
    have hS := str_data s h0
    by_cases h39 : s[0] = 39
    · have b39 : ((s[0].toNat : Nat) : Int) = 39 := u8_is h39
      have HE := hide (strEnd_walk s 0 h0 w hs)
      by_cases hE : sE (dr s 1) = some []
      · have hp : plcO s (sE (dr s (0 + 1))) = (s.size : Int) := by rw [show (0 : Nat) + 1 = 1 from rfl, hE]; rfl
        rw [hp] at HE
        rw [if_pos ⟨h39, hE⟩] at hS
        have HU : Hid (StrUp s (sStr s.data.toList) 1 []) := ⟨hE, by rw [hS]; cases sD (dr s 1).dropLast <;> simp⟩
        clear hS hE hp h39
        generalize sStr s.data.toList = R at *
        go_enter Try.func56, Try.ntmps56
        go_wp2_with fail
        refine (unhide HE).mono ?_
        rintro e w2 ⟨rfl, rfl⟩
        clear HE
        go_wp2
        go_loopw [4, 5] (fun v i wr => ∃ (k : Nat) (acc : Bs), k + 1 ≤ s.size ∧ acc.length ≤ k ∧ i = .int .i64 k ∧ Hid (StrUp s R k acc) ∧ Hid (wr.ownsRow w.heap.size 5 1 v (Lib.byteCells acc).length (Lib.byteCells acc)) ∧ Below w.heap.size w wr) (fun _ i _ => s.size - (intOf i).toNat)
        case atStart => exact ⟨1, [], by omega, by simp, rfl, HU, World.ownsRow_lit w #[] 0 (Nat.le_refl _) (by unfold maxLen; omega) rfl, (Below.refl _ _).alloc (Nat.le_refl _) _⟩
        case round =>
          obtain ⟨k, acc, hk, ha, rfl, hu, hown, hb⟩ := hrel
          clear HU
          have hwsz := hb.size
          have HB := hide hb
          have hq : (Lib.byteCells acc).length ≤ k := by rw [Lib.byteCells_length]; exact ha
          clear hb
          by_cases hlt : k + 1 < s.size
          · have hltI : (k : Int) < (s.size : Int) - 1 := by omega
            have hlt0 : k < s.size := by omega
            have hlt0I : (k : Int) < (s.size : Int) := by omega
            by_cases hlow : s[k].toNat < 32
            · have HN := hide ((unhide hu).low hlt hlow)
              have tl : ((s[k].toNat : Nat) : Int) < 32 := by omega
              clear hu hown hlow
              go_wp2
              go_ret2
              exact ⟨by rw [unhide HN]; rfl, unhide HB⟩
            · have tl : ¬ ((s[k].toNat : Nat) : Int) < 32 := by omega
              by_cases h92 : s[k] = 92
              · have b92 : (((s[k].toNat : Nat) : Int) == 92) = true := by rw [beq_iff_eq]; exact u8_is h92
                have hk2 := (unhide hu).esc hlt h92
                have hk2I : (k : Int) + 1 < (s.size : Int) := by omega
                by_cases hd : s[k + 1] = 39 ∨ s[k + 1] = 92
                · have HU2 := hide ((unhide hu).two hk2 h92 hd)
                  have td : (((s[k + 1].toNat : Nat) : Int) != 39) = false ∨ (((s[k + 1].toNat : Nat) : Int) != 39) = true ∧ (((s[k + 1].toNat : Nat) : Int) != 92) = false := by
                    rcases hd with hd | hd
                    · left; rw [hd]; rfl
                    · right; rw [hd]; exact ⟨rfl, rfl⟩
                  clear hd h92 hlow hu
                  rcases td with t3 | ⟨t3, t4⟩
                  all_goals
                    go_wp2_with (at_builtin; refine wpList_append_own _ rfl (.tmp 49) (.tmp 53) 115 rfl w.heap.size 5 i0 (.int .u8 0) 1 1 Try.underlying115 hi hz0 hz1 hz2 rfl (by decide) _ _ _ rfl ((unhide hown).alloc _) ⟨wr.heap.size, 0, none⟩ 1 1 [.int .u8 s[k + 1].toNat] rfl rfl (lit1 _ _ _) (one1 _ _) (by unfold maxLen; omega) (by omega) (by simp; omega) ?_)
                    intro v2 w2 hown2 hgrow2 _
                    have HB2 : Hid (Below w.heap.size w w2) := ((unhide HB).alloc hwsz _).grown hgrow2 (by simp; omega) (fun k hk => ((unhide hown).lt k hk).1)
                    have HO2 := hide (own_step (m := [s[k + 1]]) hown2 (by simp [Lib.byteCells]) rfl)
                    clear hown2 hgrow2 hown HB hq
                    go_wp2
                    go_roundw
                    case rel => exact ⟨k + 2, _, by omega, by simp; omega, by go_num, HU2, HO2, unhide HB2⟩
                    case measure => simp [intOf]; omega
                · have e1 : ¬ s[k + 1] = 39 := fun e => hd (.inl e)
                  have e2 : ¬ s[k + 1] = 92 := fun e => hd (.inr e)
                  have HN := hide ((unhide hu).bad hk2 h92 e1 e2)
                  have t3 : (((s[k + 1].toNat : Nat) : Int) != 39) = true := bne_iff_ne.2 (u8_not e1)
                  have t4 : (((s[k + 1].toNat : Nat) : Int) != 92) = true := bne_iff_ne.2 (u8_not e2)
                  clear hu hown hlow hd e1 e2 h92
                  go_wp2
                  go_ret2
                  exact ⟨by rw [unhide HN]; rfl, unhide HB⟩
              · have b92 : (((s[k].toNat : Nat) : Int) == 92) = false := beq_eq_false_iff_ne.2 (u8_not h92)
                have HU2 := hide ((unhide hu).one hlt h92 hlow)
                clear h92 hlow hu
                go_wp2_with (at_builtin; refine wpList_append_own _ rfl (.tmp 49) (.tmp 53) 115 rfl w.heap.size 5 i0 (.int .u8 0) 1 1 Try.underlying115 hi hz0 hz1 hz2 rfl (by decide) _ _ _ rfl ((unhide hown).alloc _) ⟨wr.heap.size, 0, none⟩ 1 1 [.int .u8 s[k].toNat] rfl rfl (lit1 _ _ _) (one1 _ _) (by unfold maxLen; omega) (by omega) (by simp; omega) ?_)
                intro v2 w2 hown2 hgrow2 _
                have HB2 : Hid (Below w.heap.size w w2) := ((unhide HB).alloc hwsz _).grown hgrow2 (by simp; omega) (fun k hk => ((unhide hown).lt k hk).1)
                have HO2 := hide (own_step (m := [s[k]]) hown2 (by simp [Lib.byteCells]) rfl)
                clear hown2 hgrow2 hown HB hq
                go_wp2
                go_roundw
                case rel => exact ⟨k + 1, _, by omega, by simp; omega, by go_num, HU2, HO2, unhide HB2⟩
                case measure => simp [intOf]; omega
          · have hltI : ¬ (k : Int) < (s.size : Int) - 1 := by omega
            have HN := hide ((unhide hu).last (by omega))
            have hcv := convert_own (unhide hown)
            clear hu hown hq
            go_wp2
            go_ret2
            exact ⟨by rw [unhide HN]; rfl, unhide HB⟩
      · have HR : Hid (sStr s.data.toList = none) := by show _ = _; rw [hS, if_neg (fun h => hE h.2)]
        have hp : ∃ z : Int, plcO s (sE (dr s (0 + 1))) = z ∧ ¬ z = (s.size : Int) := by
          refine ⟨_, rfl, ?_⟩
          rw [show (0 : Nat) + 1 = 1 from rfl]
          cases hx : sE (dr s 1) with
          | none => show ¬ (-1 : Int) = _; omega
          | some t =>
            show ¬ ((s.size - t.length : Nat) : Int) = _
            intro e
            have : t.length = 0 ∨ s.size = 0 := by omega
            rcases this with h | h
            · rw [List.length_eq_zero_iff.1 h] at hx; exact hE hx
            · omega
        obtain ⟨z, hz, hzs⟩ := hp
        rw [hz] at HE
        clear hS hE hz h39
        go_enter Try.func56, Try.ntmps56
        go_wp2_with fail
        refine (unhide HE).mono ?_
        rintro e w2 ⟨rfl, rfl⟩
        clear HE
        go_wp2
        go_ret2
        exact ⟨by rw [unhide HR]; rfl, Below.refl _ _⟩
    · have b39 : ¬ ((s[0].toNat : Nat) : Int) = 39 := u8_not h39
      have HR : Hid (sStr s.data.toList = none) := by show _ = _; rw [hS, if_neg (fun h => h39 h.1)]
      clear hS h39
      go_enter Try.func56, Try.ntmps56
      go_wp2
      go_ret2
      exact ⟨by rw [unhide HR]; rfl, Below.refl _ _⟩
end Go.Proofs.Ytiolpmhodbefoaa


namespace Go.Proofs.Ytiolpmhodbefoaa
open Go.RowKit

/-- The places of a word outside of strings and brackets. -/
def tps (w : UInt8) (ws : Bs) (o : Int) (i : Nat) (l : Bs) : List Nat := match l with
  | [] => []
  | c :: r => if o = 0 ∧ (w :: ws).isPrefixOf (c :: r) = true then i :: tps w ws 0 (i + (ws.length + 1)) (r.drop ws.length)
    else if c = 39 then (match h : sE r with
      | none => []
      | some t => tps w ws o (i + (r.length + 1 - t.length)) t)
    else tps w ws (brkO o c) (i + 1) r
termination_by l.length
decreasing_by
  · simp only [List.length_cons, List.length_drop]; omega
  · have := sE_len h; simp only [List.length_cons]; omega
  · simp only [List.length_cons]; omega
theorem tps_nil (w : UInt8) (ws : Bs) (o : Int) (i : Nat) : tps w ws o i [] = [] := by rw [tps]
theorem tps_hit {w : UInt8} {ws : Bs} {i : Nat} {c : UInt8} {r : Bs} (h : (w :: ws).isPrefixOf (c :: r) = true) : tps w ws 0 i (c :: r) = i :: tps w ws 0 (i + (ws.length + 1)) (r.drop ws.length) := by
  rw [tps, if_pos ⟨rfl, h⟩]
theorem tps_39 {w : UInt8} {ws : Bs} {o : Int} {i : Nat} {r : Bs} (h : ¬ (o = 0 ∧ (w :: ws).isPrefixOf (39 :: r) = true)) : tps w ws o i (39 :: r) = (match sE r with
    | none => []
    | some t => tps w ws o (i + (r.length + 1 - t.length)) t) := by
  rw [tps, if_neg h, if_pos rfl]
  split <;> rename_i e <;> rw [e]
theorem tps_chr {w : UInt8} {ws : Bs} {o : Int} {i : Nat} {c : UInt8} {r : Bs} (h : ¬ (o = 0 ∧ (w :: ws).isPrefixOf (c :: r) = true)) (hc : c ≠ 39) : tps w ws o i (c :: r) = tps w ws (brkO o c) (i + 1) r := by
  rw [tps, if_neg h, if_neg hc]
theorem fT_tps (w : UInt8) (ws : Bs) : ∀ (n : Nat) (l : Bs), l.length ≤ n → ∀ (o : Int) (i : Nat), fT w ws o i l = (tps w ws o i l).head?
  | n, [], _, o, i => by rw [fT, tps]; rfl
  | 0, c :: r, h, _, _ => by simp at h
  | n + 1, c :: r, h, o, i => by
    have hr : r.length ≤ n := by simp at h; omega
    by_cases hh : o = 0 ∧ (w :: ws).isPrefixOf (c :: r) = true
    · rw [fT, if_pos hh, tps, if_pos hh]; rfl
    · by_cases hc : c = 39
      · subst hc
        rw [tps_39 hh, fT, if_neg hh, if_pos rfl]
        split
        · rename_i e; rw [e]; rfl
        · rename_i t e
          rw [e]
          have := sE_len e
          exact fT_tps w ws n t (by omega) _ _
      · rw [tps_chr hh hc, fT, if_neg hh, if_neg hc]
        exact fT_tps w ws n r hr _ _
/-- A text cut at places. -/
def cutL (s : Bs) (n : Nat) : Nat → List Nat → List Bs
  | f, [] => [s.drop f]
  | f, c :: r => (s.drop f).take (c - f) :: cutL s n (c + n) r
theorem spl_tps (w : UInt8) (ws : Bs) (s : Bs) : ∀ (n : Nat) (l : Bs), l.length ≤ n → ∀ (o : Int) (i f : Nat) (cur : Bs), f ≤ i → l = s.drop i → cur = (s.drop f).take (i - f) → spl w ws o cur l = cutL s (ws.length + 1) f (tps w ws o i l)
  | n, [], _, o, i, f, cur, hf, hl, hcur => by
    rw [spl_nil, tps_nil, cutL, hcur]
    have : s.length ≤ i := List.drop_eq_nil_iff.1 hl.symm
    rw [List.take_of_length_le (by rw [List.length_drop]; omega)]
  | 0, c :: r, h, _, _, _, _, _, _, _ => by simp at h
  | n + 1, c :: r, h, o, i, f, cur, hf, hl, hcur => by
    have hr : r.length ≤ n := by simp at h; omega
    have hcat : s.drop f = cur ++ (c :: r) := by
      rw [hcur, hl]
      conv => lhs; rw [← List.take_append_drop (i - f) (s.drop f)]
      rw [List.drop_drop, show f + (i - f) = i by omega]
    have hlen : cur.length = i - f := by
      rw [hcur, List.length_take, List.length_drop]
      have := congrArg List.length hl
      rw [List.length_drop, List.length_cons] at this
      omega
    have hr1 : r = s.drop (i + 1) := by
      have := congrArg List.tail hl
      rw [List.tail_cons, List.tail_drop] at this
      exact this
    have next : ∀ (p t : Bs), c :: r = p ++ t → cur ++ p = (s.drop f).take (i + p.length - f) ∧ t = s.drop (i + p.length) := by
      intro p t e
      constructor
      · rw [hcat, e, ← List.append_assoc, List.take_append_of_le_length (by rw [List.length_append]; omega), List.take_of_length_le (by rw [List.length_append]; omega)]
      · have h1 : s.drop (i + p.length) = (c :: r).drop p.length := by rw [hl, List.drop_drop]
        rw [h1, e, List.drop_left]
    by_cases hh : o = 0 ∧ (w :: ws).isPrefixOf (c :: r) = true
    · obtain ⟨rfl, hp⟩ := hh
      obtain ⟨q, hq⟩ := List.isPrefixOf_iff_prefix.1 hp
      have e : c :: r = w :: (ws ++ q) := by rw [← hq]; rfl
      have hd : r.drop ws.length = q := by
        injection e with _ e2
        rw [e2, List.drop_left]
      rw [tps_hit hp, cutL, ← hcur, e, spl_hit, hd]
      congr 1
      have hq2 := (next (w :: ws) q (by rw [e]; rfl)).2
      rw [List.length_cons] at hq2
      exact spl_tps w ws s n q (by have := congrArg List.length e; simp at this h; omega) 0 (i + (ws.length + 1)) (i + (ws.length + 1)) [] (Nat.le_refl _) hq2 (by simp)
    · by_cases hc : c = 39
      · subst hc
        rw [tps_39 hh, spl, if_neg hh, if_pos rfl]
        split
        · rename_i e
          rw [e, cutL, hcat]
        · rename_i t e
          rw [e]
          have hlt := sE_len e
          have ht := sE_take e
          have hn := next (39 :: r.take (r.length - t.length)) t (by rw [List.cons_append, ← ht])
          have hl2 : (39 :: r.take (r.length - t.length)).length = r.length + 1 - t.length := by
            rw [List.length_cons, List.length_take]; omega
          rw [hl2] at hn
          exact spl_tps w ws s n t (by omega) o _ f _ (by omega) hn.2 hn.1
      · rw [tps_chr hh hc, spl, if_neg hh, if_neg hc]
        have hn := next [c] r rfl
        exact spl_tps w ws s n r hr (brkO o c) (i + 1) f _ (by omega) hn.2 hn.1
theorem spl_cut (w : UInt8) (ws s : Bs) : spl w ws 0 [] s = cutL s (ws.length + 1) 0 (tps w ws 0 0 s) := spl_tps w ws s s.length s (Nat.le_refl _) 0 0 0 [] (Nat.le_refl _) (by simp) (by simp)
end Go.Proofs.Ytiolpmhodbefoaa

