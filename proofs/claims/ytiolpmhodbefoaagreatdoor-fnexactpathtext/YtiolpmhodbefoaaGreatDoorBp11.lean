import Derived.Test.YtiolpmhodbefoaaGreatDoorBp6
import Derived.Test.YtiolpmhodbefoaaGreatDoorBp10
import Derived.Test.YtiolpmhodbefoaaGreatDoorBp1
namespace Go.Proofs.YtiolpmhodbefoaaGreatDoor
open Go.RowKit

/-- The text of a number, of a quoted string, of a step, of a reference, of a comparison's sign. -/
def sdec (n : Int) : List UInt8 := if n < 0 then 45 :: decT (-n).toNat else decT n.toNat
def quoB (c : UInt8) : List UInt8 := if c = 39 ∨ c = 92 then [92, c] else [c]
def quo (s : ByteArray) : List UInt8 := 39 :: (s.data.toList.flatMap quoB ++ [39])
def stTx (p : PStep) : List UInt8 := 91 :: ((if p.byI = true then sdec p.idx else quo p.name) ++ [93])
def refT (o : PFOp) : List UInt8 := (if o.root = true then 36 else 64) :: o.steps.flatMap stTx
def signT (n : Int) : List UInt8 := if n = 1 then [61, 61] else if n = 2 then [33, 61] else if n = 3 then [60] else if n = 4 then [60, 61] else if n = 5 then [62] else [62, 61]
def leafT (o : PFOp) : List UInt8 :=
  if o.k = 1 then sdec o.n else if o.k = 2 then quo o.s else if o.k = 3 then [116, 114, 117, 101] else if o.k = 4 then [102, 97, 108, 115, 101]
  else if o.k = 5 then [110, 117, 108, 108] else if o.k = 7 then [108, 101, 110, 103, 116, 104, 40] ++ (refT o ++ [41]) else refT o
def jointT (k : Int) : List UInt8 := if k = 10 then [38, 38] else [124, 124]
/-- The text of a condition. -/
def CT.txt : CT → List UInt8
  | .mk o [] => leafT o
  | .mk _ [a] => 33 :: a.txt
  | .mk o (a :: b :: _) => if o.k = 9 then a.txt ++ (signT o.n ++ b.txt) else 40 :: (a.txt ++ (jointT o.k ++ (b.txt ++ [41])))
/-- The operations of a condition. -/
def CT.fl : CT → List PFOp
  | .mk o [] => [o]
  | .mk o [a] => a.fl ++ [o]
  | .mk o (a :: b :: _) => a.fl ++ (b.fl ++ [o])
inductive GC : CT → Prop
  | leaf {o : PFOp} : fopOk o = true → parts o.k = 0 → GC (.mk o [])
  | not {o : PFOp} {a : CT} : fopOk o = true → o.k = 12 → GC a → a.tru = true → GC (.mk o [a])
  | cmp {o : PFOp} {a b : CT} : fopOk o = true → o.k = 9 → GC a → GC b → a.tru = false → b.tru = false → GC (.mk o [a, b])
  | two {o : PFOp} {a b : CT} : fopOk o = true → o.k = 10 ∨ o.k = 11 → GC a → GC b → a.tru = true → b.tru = true → GC (.mk o [a, b])
theorem parts_zero {k : Int} (h : 1 ≤ k ∧ k ≤ 12) (hp : parts k = 0) : k ≤ 8 := by
  unfold parts at hp
  split at hp
  · cases hp
  · split at hp
    · cases hp
    · omega
theorem GC.wf {c : CT} (h : GC c) : WF c.tru (c.fl.map (·.k)) := by
  induction h with
  | @leaf o hf hp =>
    have hk := fop_k hf
    have h8 := parts_zero hk hp
    by_cases e : o.k = 8
    · have : (CT.mk o []).tru = true := by unfold CT.tru CT.op; rw [e]; rfl
      rw [this]
      unfold CT.fl
      simp only [List.map_cons, List.map_nil, e]
      exact .ex
    · have hv : isVal o.k = true := by unfold isVal; simp; omega
      have : (CT.mk o []).tru = false := (isVal_tru hv).1
      rw [this]
      unfold CT.fl
      exact .val hv
  | @not o a hf hk _ ht ih =>
    have : (CT.mk o [a]).tru = true := by unfold CT.tru CT.op; rw [hk]; rfl
    rw [this]
    unfold CT.fl
    rw [ht] at ih
    simp only [List.map_append, List.map_cons, List.map_nil, hk]
    exact .not ih
  | @cmp o a b hf hk _ _ ha hb ia ib =>
    have : (CT.mk o [a, b]).tru = true := by unfold CT.tru CT.op; rw [hk]; rfl
    rw [this]
    unfold CT.fl
    rw [ha] at ia
    rw [hb] at ib
    simp only [List.map_append, List.map_cons, List.map_nil, hk]
    rw [← List.append_assoc]
    exact .cmp ia ib
  | @two o a b hf hk _ _ ha hb ia ib =>
    have : (CT.mk o [a, b]).tru = true := by unfold CT.tru CT.op; rcases hk with e | e <;> rw [e] <;> rfl
    rw [this]
    unfold CT.fl
    rw [ha] at ia
    rw [hb] at ib
    simp only [List.map_append, List.map_cons, List.map_nil]
    rw [← List.append_assoc]
    exact .two hk ia ib
/-- The stack: good conditions, and their operations one behind the other. -/
def Stk (st : List CT) (l : List PFOp) : Prop := (∀ c ∈ st, GC c) ∧ l = st.flatMap CT.fl
theorem Stk.step {st st' : List CT} {l : List PFOp} {o : PFOp} (h : Stk st l) (hs : stepT st o = some st') : Stk st' (l ++ [o]) := by
  unfold stepT at hs
  split at hs
  · cases hs
  · rename_i hlen
    split at hs
    · cases hs
    · rename_i hf
      have hf : fopOk o = true := by cases hq : fopOk o with | true => rfl | false => exact absurd hq hf
      have hk := fop_k hf
      split at hs
      · rename_i hall
        injection hs with hs
        subst hs
        obtain ⟨hg, rfl⟩ := h
        rw [List.all_eq_true] at hall
        have hsplit : st.flatMap CT.fl = (st.take (st.length - parts o.k)).flatMap CT.fl ++ (st.drop (st.length - parts o.k)).flatMap CT.fl := by rw [← List.flatMap_append, List.take_append_drop]
        have hgd : ∀ c ∈ st.drop (st.length - parts o.k), GC c := fun c hc => hg c (List.mem_of_mem_drop hc)
        have hdl : (st.drop (st.length - parts o.k)).length = parts o.k := by rw [List.length_drop]; omega
        generalize hD : st.drop (st.length - parts o.k) = D at *
        have main : GC (.mk o D) ∧ (CT.mk o D).fl = D.flatMap CT.fl ++ [o] := by
          by_cases h0 : parts o.k = 0
          · have : D = [] := List.eq_nil_of_length_eq_zero (by omega)
            subst this
            exact ⟨.leaf hf h0, by unfold CT.fl; rfl⟩
          · have hk4 : o.k = 9 ∨ o.k = 10 ∨ o.k = 11 ∨ o.k = 12 := by
              unfold parts at h0
              split at h0
              · rename_i h1; omega
              · split at h0
                · rename_i h2; omega
                · exact absurd rfl h0
            rcases hk4 with e | e | e | e
            · have h2 : D.length = 2 := by rw [hdl, e]; rfl
              obtain ⟨a, b, rfl⟩ : ∃ a b, D = [a, b] := by
                match D, h2 with
                | [a, b], _ => exact ⟨a, b, rfl⟩
              have ha := hall a (by simp)
              have hb := hall b (by simp)
              rw [e] at ha hb
              exact ⟨.cmp hf e (hgd a (by simp)) (hgd b (by simp)) (by simpa using ha) (by simpa using hb), by unfold CT.fl; simp⟩
            · have h2 : D.length = 2 := by rw [hdl, e]; rfl
              obtain ⟨a, b, rfl⟩ : ∃ a b, D = [a, b] := by
                match D, h2 with
                | [a, b], _ => exact ⟨a, b, rfl⟩
              have ha := hall a (by simp)
              have hb := hall b (by simp)
              rw [e] at ha hb
              exact ⟨.two hf (.inl e) (hgd a (by simp)) (hgd b (by simp)) (by simpa using ha) (by simpa using hb), by unfold CT.fl; simp⟩
            · have h2 : D.length = 2 := by rw [hdl, e]; rfl
              obtain ⟨a, b, rfl⟩ : ∃ a b, D = [a, b] := by
                match D, h2 with
                | [a, b], _ => exact ⟨a, b, rfl⟩
              have ha := hall a (by simp)
              have hb := hall b (by simp)
              rw [e] at ha hb
              exact ⟨.two hf (.inr e) (hgd a (by simp)) (hgd b (by simp)) (by simpa using ha) (by simpa using hb), by unfold CT.fl; simp⟩
            · have h2 : D.length = 1 := by rw [hdl, e]; rfl
              obtain ⟨a, rfl⟩ : ∃ a, D = [a] := by
                match D, h2 with
                | [a], _ => exact ⟨a, rfl⟩
              have ha := hall a (by simp)
              rw [e] at ha
              exact ⟨.not hf e (hgd a (by simp)) (by simpa using ha), by unfold CT.fl; simp⟩
        refine ⟨fun c hc => ?_, ?_⟩
        · rcases List.mem_append.1 hc with hc | hc
          · exact hg c (List.mem_of_mem_take hc)
          · simp at hc
            subst hc
            exact main.1
        · rw [List.flatMap_append, List.flatMap_singleton, main.2, hsplit, List.append_assoc]
      · cases hs
theorem Stk.run : ∀ (ops : List PFOp) (st st' : List CT) (l : List PFOp), Stk st l → runT ops st = some st' → Stk st' (l ++ ops)
  | [], st, st', l, h, e => by
    rw [runT] at e
    injection e with e
    subst e
    rw [List.append_nil]; exact h
  | o :: r, st, st', l, h, e => by
    rw [runT] at e
    obtain ⟨s1, h1, h2⟩ := Option.bind_eq_some_iff.1 e
    have := Stk.run r s1 st' _ (h.step h1) h2
    rwa [List.append_assoc] at this
/-- What a filter's operations come out as. -/
theorem condR_good {ops : List PFOp} {c : CT} (h : condR ops = some c) : GC c ∧ c.fl = ops ∧ c.tru = true := by
  unfold condR at h
  split at h
  · cases h
  · cases hr : runT ops [] with
    | none => rw [hr] at h; cases h
    | some st =>
      rw [hr] at h
      have hS := Stk.run ops [] st [] ⟨fun c hc => by simp at hc, rfl⟩ hr
      match st, h with
      | [d], h =>
        simp only at h
        split at h
        · rename_i ht
          injection h with h
          subst h
          exact ⟨hS.1 d (by simp), by have := hS.2; simp at this; exact this.symm, ht⟩
        · cases h
      | [], h => cases h
      | _ :: _ :: _, h => cases h
/-- The text of a selector, of a segment, of a path. -/
def cdT (ops : List PFOp) : List UInt8 := match condR ops with
  | some c => c.txt
  | none => []
def sliceT (o : PSel) : List UInt8 := (if o.hasA = true then sdec o.a else []) ++ (58 :: ((if o.hasB = true then sdec o.b else []) ++ (if o.hasC = true then 58 :: sdec o.c else [])))
def selT (o : PSel) : List UInt8 := if o.k = 1 then quo o.name else if o.k = 2 then [42] else if o.k = 3 then sdec o.a else if o.k = 5 then 63 :: cdT o.cond else sliceT o
end Go.Proofs.YtiolpmhodbefoaaGreatDoor


namespace Go.Proofs.YtiolpmhodbefoaaGreatDoor
open Go.RowKit

theorem sdec_neg {n : Int} (h : n < 0) : sdec n = 45 :: decT (-n).toNat := by unfold sdec; rw [if_pos h]
theorem sdec_pos {n : Int} (h : ¬ n < 0) : sdec n = decT n.toNat := by unfold sdec; rw [if_neg h]
theorem decT_ten : ∀ (k n : Nat), n < 10 ^ (k + 1) → (decT n).length ≤ k + 1
  | 0, n, h => by rw [decT_lo (by simpa using h)]; simp
  | k + 1, n, h => by
    by_cases h1 : n < 10
    · rw [decT_lo h1]; simp
    · rw [decT_hi h1, List.length_append, decT_lo (n := n % 10) (by omega)]
      have := decT_ten k (n / 10) (by rw [Nat.pow_succ] at h; omega)
      simp
      omega
theorem sdec_len {n : Int} (h : rangeI n = true) : (sdec n).length ≤ 11 := by
  unfold rangeI at h
  simp only [Bool.and_eq_true, decide_eq_true_eq] at h
  unfold sdec
  split
  · have := decT_ten 8 (-n).toNat (by omega)
    simp; omega
  · have := decT_ten 8 n.toNat (by omega)
    omega
set_option maxRecDepth 100000 in
set_option maxHeartbeats 1600000 in
theorem sdec_walk (n : Int) (w : World) (h : rangeI n = true) : Calls Tryz.prog 36 #[.int .i64 n] w fun e w' => e = .returned (.string (strOf (sdec n))) ∧ Below w.heap.size w w' := by
  have hr := h
  unfold rangeI at hr
  simp only [Bool.and_eq_true, decide_eq_true_eq] at hr
  by_cases hn : n < 0
  · obtain ⟨m, hm⟩ : ∃ m : Nat, n = -(m : Int) := ⟨(-n).toNat, by omega⟩
    subst hm
    have HD := hide (dec_walk m m w (Nat.le_refl _) (by omega))
    have HE : Hid (strOf (sdec (-(m : Int))) = ⟨#[45]⟩ ++ strOf (decT m)) := by
      show _ = _
      rw [sdec_neg hn, show (-(-(m : Int))).toNat = m by omega, show (⟨#[45]⟩ : ByteArray) = strOf [45] from rfl, strOf_app]
      rfl
    have z : (strOf (decT m)).size ≤ 1000 := by rw [strOf_size]; have := decT_ten 8 m (by omega); omega
    have z3 : (9223372036854775807 < 1 + (strOf (decT m)).size) = False := eq_false (by omega)
    generalize strOf (decT m) = u at *
    generalize strOf (sdec (-(m : Int))) = u2 at *
    clear h
    go_enter Tryz.func36, Tryz.ntmps36
    go_wp2_with fail
    refine (unhide HD).mono ?_
    rintro e w1 ⟨rfl, b1⟩
    have HB := hide b1
    clear HD b1
    go_wp2
    go_ret
    exact ⟨by rw [unhide HE]; rfl, unhide HB⟩
  · obtain ⟨m, hm⟩ : ∃ m : Nat, n = (m : Int) := ⟨n.toNat, by omega⟩
    subst hm
    have HD := hide (dec_walk m m w (Nat.le_refl _) (by omega))
    have HE : Hid (strOf (sdec (m : Int)) = strOf (decT m)) := by
      show _ = _
      rw [sdec_pos hn, show ((m : Int)).toNat = m by omega]
    clear h
    go_enter Tryz.func36, Tryz.ntmps36
    go_wp2_with fail
    refine (unhide HD).mono ?_
    rintro e w1 ⟨rfl, b1⟩
    have HB := hide b1
    clear HD b1
    go_wp2
    go_ret
    exact ⟨by rw [unhide HE]; rfl, unhide HB⟩
theorem quoB_yes {c : UInt8} (h : (c.toNat : Int) = 39 ∨ (c.toNat : Int) = 92) : quoB c = [92, c] := by
  unfold quoB
  rw [if_pos]
  rcases h with h | h
  · left; exact UInt8.toNat_inj.1 (show c.toNat = 39 by omega)
  · right; exact UInt8.toNat_inj.1 (show c.toNat = 92 by omega)
theorem quoB_no {c : UInt8} (h1 : ¬ (c.toNat : Int) = 39) (h2 : ¬ (c.toNat : Int) = 92) : quoB c = [c] := by
  unfold quoB
  rw [if_neg]
  rintro (rfl | rfl)
  · exact h1 rfl
  · exact h2 rfl
theorem quoB_len (l : List UInt8) : (l.flatMap quoB).length ≤ 2 * l.length := by
  induction l with
  | nil => simp
  | cons c r ih =>
    rw [List.flatMap_cons, List.length_append, List.length_cons]
    have : (quoB c).length ≤ 2 := by unfold quoB; split <;> simp
    omega
theorem quo_len (s : ByteArray) : (quo s).length ≤ 2 * s.size + 2 := by
  unfold quo
  have := quoB_len s.data.toList
  rw [data_len] at this
  rw [List.length_cons, List.length_append]
  simp only [List.length_cons, List.length_nil]
  omega
set_option maxRecDepth 100000 in
set_option maxHeartbeats 4000000 in
theorem quo_walk (s : ByteArray) (w : World) (hs : s.size ≤ 1048576) : Calls Tryz.prog 35 #[.string s] w fun e w' => e = .returned (.string (strOf (quo s))) ∧ Below w.heap.size w w' := by
  obtain ⟨i0, hi, hz0, hz1, hz2⟩ := info_parts infoU8
  have HQ0 : Hid (strOf (quo s) = ⟨((39 :: (s.data.toList.take s.size).flatMap quoB) ++ [39]).toArray⟩) := by
    show _ = _
    rw [bytes_all]
    rfl
  generalize strOf (quo s) = R at *
  go_enter Tryz.func35, Tryz.ntmps35
  go_wp2
  go_loopw [3, 4] (fun v i wr => ∃ j : Nat, j ≤ s.size ∧ i = .int .i64 j ∧ Hid (wr.ownsRow w.heap.size 5 1 v (Lib.byteCells (39 :: (s.data.toList.take j).flatMap quoB)).length (Lib.byteCells (39 :: (s.data.toList.take j).flatMap quoB))) ∧ Below w.heap.size w wr) (fun _ i _ => s.size - (intOf i).toNat)
  case atStart => exact ⟨0, Nat.zero_le _, rfl, World.ownsRow_lit w #[.int .u8 39] 1 (Nat.le_refl _) (by unfold maxLen; omega) rfl, (Below.refl _ _).alloc (Nat.le_refl _) _⟩
  case round =>
    obtain ⟨j, hj, rfl, hown, hb⟩ := hrel
    have hwsz := hb.size
    have HB := hide hb
    clear hb
    by_cases hjs : j < s.size
    · have hjI : (j : Int) < (s.size : Int) := by omega
      have hq : (Lib.byteCells (39 :: (s.data.toList.take j).flatMap quoB)).length ≤ 1 + 2 * j := by
        have := quoB_len (s.data.toList.take j)
        have h5 : (s.data.toList.take j).length = j := by rw [List.length_take, data_len]; omega
        rw [Lib.byteCells_length, List.length_cons]; omega
      have HQ : Hid (39 :: (s.data.toList.take (j + 1)).flatMap quoB = (39 :: (s.data.toList.take j).flatMap quoB) ++ quoB s[j]) := by
        show _ = _
        rw [bytes_snoc s j hjs, List.flatMap_append]; simp
      generalize 39 :: (s.data.toList.take j).flatMap quoB = q at *
      by_cases hx : (s[j].toNat : Int) = 39 ∨ (s[j].toNat : Int) = 92
      · have HE := hide (quoB_yes hx)
        rcases hx with hx | hx
        · have t1 : ((s[j].toNat : Int) == 39) = true := by simpa using hx
          clear hx
          go_wp2_with (at_builtin; refine wpList_append_own _ rfl (.tmp 22) (.tmp 23) 30 rfl w.heap.size 5 i0 (.int .u8 0) 1 1 Tryz.underlying30 hi hz0 hz1 hz2 rfl (by decide) _ _ _ rfl ((unhide hown).alloc _) ⟨wr.heap.size, 0, none⟩ 1 1 [.int .u8 92] rfl rfl (lit1 _ _ _) (one1 _ _) (by unfold maxLen; omega) (by omega) (by simp; omega) ?_)
          intro v1 w1 hown1 hgrow1 _
          have hb1 : Below w.heap.size w w1 := ((unhide HB).alloc hwsz _).grown hgrow1 (by simp; omega) (fun k hk => ((unhide hown).lt k hk).1)
          have HO1 := hide (own_step (m := [92]) hown1 (by simp [Lib.byteCells]) rfl)
          have HB1 := hide hb1
          have hwsz1 := hb1.size
          have hq1 : (Lib.byteCells (q ++ [92])).length ≤ 2 + 2 * j := by rw [Lib.byteCells_append, List.length_append]; simp [Lib.byteCells] at hq ⊢; omega
          have HQ2 : Hid (39 :: (s.data.toList.take (j + 1)).flatMap quoB = (q ++ [92]) ++ [s[j]]) := by show _ = _; rw [unhide HQ, unhide HE]; simp
          clear hown1 hgrow1 hown HB hb1 HQ HE hq
          generalize q ++ [92] = q1 at *
          go_wp2_with (at_builtin; refine wpList_append_own _ rfl (.tmp 25) (.tmp 29) 30 rfl w.heap.size 5 i0 (.int .u8 0) 1 1 Tryz.underlying30 hi hz0 hz1 hz2 rfl (by decide) _ _ _ rfl ((unhide HO1).alloc _) ⟨w1.heap.size, 0, none⟩ 1 1 [.int .u8 s[j].toNat] rfl rfl (lit1 _ _ _) (one1 _ _) (by unfold maxLen; omega) (by omega) (by simp; omega) ?_)
          intro v2 w2 hown2 hgrow2 _
          have HB2 : Hid (Below w.heap.size w w2) := ((unhide HB1).alloc hwsz1 _).grown hgrow2 (by simp; omega) (fun k hk => ((unhide HO1).lt k hk).1)
          have HO2 := hide (own_step (m := [s[j]]) hown2 (by simp [Lib.byteCells]) rfl)
          clear hown2 hgrow2 HO1 HB1 hq1
          go_wp2
          go_roundw
          case rel => exact ⟨j + 1, by omega, by go_num, by show World.ownsRow _ _ _ _ _ _ _; rw [unhide HQ2]; exact unhide HO2, unhide HB2⟩
          case measure => simp [intOf]; omega
        · have t1 : ((s[j].toNat : Int) == 39) = false := by rw [hx]; rfl
          have t2 : ((s[j].toNat : Int) == 92) = true := by simpa using hx
          clear hx
          go_wp2_with (at_builtin; refine wpList_append_own _ rfl (.tmp 22) (.tmp 23) 30 rfl w.heap.size 5 i0 (.int .u8 0) 1 1 Tryz.underlying30 hi hz0 hz1 hz2 rfl (by decide) _ _ _ rfl ((unhide hown).alloc _) ⟨wr.heap.size, 0, none⟩ 1 1 [.int .u8 92] rfl rfl (lit1 _ _ _) (one1 _ _) (by unfold maxLen; omega) (by omega) (by simp; omega) ?_)
          intro v1 w1 hown1 hgrow1 _
          have hb1 : Below w.heap.size w w1 := ((unhide HB).alloc hwsz _).grown hgrow1 (by simp; omega) (fun k hk => ((unhide hown).lt k hk).1)
          have HO1 := hide (own_step (m := [92]) hown1 (by simp [Lib.byteCells]) rfl)
          have HB1 := hide hb1
          have hwsz1 := hb1.size
          have hq1 : (Lib.byteCells (q ++ [92])).length ≤ 2 + 2 * j := by rw [Lib.byteCells_append, List.length_append]; simp [Lib.byteCells] at hq ⊢; omega
          have HQ2 : Hid (39 :: (s.data.toList.take (j + 1)).flatMap quoB = (q ++ [92]) ++ [s[j]]) := by show _ = _; rw [unhide HQ, unhide HE]; simp
          clear hown1 hgrow1 hown HB hb1 HQ HE hq
          generalize q ++ [92] = q1 at *
          go_wp2_with (at_builtin; refine wpList_append_own _ rfl (.tmp 25) (.tmp 29) 30 rfl w.heap.size 5 i0 (.int .u8 0) 1 1 Tryz.underlying30 hi hz0 hz1 hz2 rfl (by decide) _ _ _ rfl ((unhide HO1).alloc _) ⟨w1.heap.size, 0, none⟩ 1 1 [.int .u8 s[j].toNat] rfl rfl (lit1 _ _ _) (one1 _ _) (by unfold maxLen; omega) (by omega) (by simp; omega) ?_)
          intro v2 w2 hown2 hgrow2 _
          have HB2 : Hid (Below w.heap.size w w2) := ((unhide HB1).alloc hwsz1 _).grown hgrow2 (by simp; omega) (fun k hk => ((unhide HO1).lt k hk).1)
          have HO2 := hide (own_step (m := [s[j]]) hown2 (by simp [Lib.byteCells]) rfl)
          clear hown2 hgrow2 HO1 HB1 hq1
          go_wp2
          go_roundw
          case rel => exact ⟨j + 1, by omega, by go_num, by show World.ownsRow _ _ _ _ _ _ _; rw [unhide HQ2]; exact unhide HO2, unhide HB2⟩
          case measure => simp [intOf]; omega
      · have x1 : ¬ (s[j].toNat : Int) = 39 := fun e => hx (.inl e)
        have x2 : ¬ (s[j].toNat : Int) = 92 := fun e => hx (.inr e)
        have HE := hide (quoB_no x1 x2)
        have t1 : ((s[j].toNat : Int) == 39) = false := by simpa using x1
        have t2 : ((s[j].toNat : Int) == 92) = false := by simpa using x2
        clear hx x1 x2
        go_wp2_with (at_builtin; refine wpList_append_own _ rfl (.tmp 25) (.tmp 29) 30 rfl w.heap.size 5 i0 (.int .u8 0) 1 1 Tryz.underlying30 hi hz0 hz1 hz2 rfl (by decide) _ _ _ rfl ((unhide hown).alloc _) ⟨wr.heap.size, 0, none⟩ 1 1 [.int .u8 s[j].toNat] rfl rfl (lit1 _ _ _) (one1 _ _) (by unfold maxLen; omega) (by omega) (by simp; omega) ?_)
        intro v2 w2 hown2 hgrow2 _
        have HB2 : Hid (Below w.heap.size w w2) := ((unhide HB).alloc hwsz _).grown hgrow2 (by simp; omega) (fun k hk => ((unhide hown).lt k hk).1)
        have HO2 := hide (own_step (m := [s[j]]) hown2 (by simp [Lib.byteCells]) rfl)
        clear hown2 hgrow2 hown HB hq
        go_wp2
        go_roundw
        case rel => exact ⟨j + 1, by omega, by go_num, by show World.ownsRow _ _ _ _ _ _ _; rw [unhide HQ, unhide HE]; exact unhide HO2, unhide HB2⟩
        case measure => simp [intOf]; omega
    · have hje : j = s.size := by omega
      subst hje
      have hq : (Lib.byteCells (39 :: (s.data.toList.take s.size).flatMap quoB)).length ≤ 1 + 2 * s.size := by
        have := quoB_len (s.data.toList.take s.size)
        have h5 : (s.data.toList.take s.size).length = s.size := by rw [List.length_take, data_len]; omega
        rw [Lib.byteCells_length, List.length_cons]; omega
      generalize 39 :: (s.data.toList.take s.size).flatMap quoB = q at *
      go_wp2_with (at_builtin; refine wpList_append_own _ rfl (.tmp 31) (.tmp 32) 30 rfl w.heap.size 5 i0 (.int .u8 0) 1 1 Tryz.underlying30 hi hz0 hz1 hz2 rfl (by decide) _ _ _ rfl ((unhide hown).alloc _) ⟨wr.heap.size, 0, none⟩ 1 1 [.int .u8 39] rfl rfl (lit1 _ _ _) (one1 _ _) (by unfold maxLen; omega) (by omega) (by simp; omega) ?_)
      intro v2 w2 hown2 hgrow2 _
      have HB2 : Hid (Below w.heap.size w w2) := ((unhide HB).alloc hwsz _).grown hgrow2 (by simp; omega) (fun k hk => ((unhide hown).lt k hk).1)
      have hcv := convert_own (own_step (m := [39]) hown2 (by simp [Lib.byteCells]) rfl)
      clear hown2 hgrow2 hown HB hq
      generalize q ++ [39] = q2 at *
      go_wp2
      go_ret
      exact ⟨by rw [unhide HQ0]; rfl, unhide HB2⟩
end Go.Proofs.YtiolpmhodbefoaaGreatDoor


namespace Go.Proofs.YtiolpmhodbefoaaGreatDoor
open Go.RowKit

theorem stTx_len {p : PStep} (h : stepOk p = true) : (stTx p).length ≤ 15 + 2 * szStep p := by
  unfold stTx
  unfold stepOk at h
  have e : szStep p = p.name.size := rfl
  split at h
  · rename_i hb
    rw [if_pos hb]
    simp only [Bool.and_eq_true] at h
    have := sdec_len h.2
    simp
    omega
  · rename_i hb
    rw [if_neg hb]
    have := quo_len p.name
    simp
    omega
theorem steps_len : ∀ (l : List PStep), l.all stepOk = true → (l.flatMap stTx).length ≤ 15 * szSteps l
  | [], _ => by simp
  | p :: r, h => by
    rw [List.all_cons, Bool.and_eq_true] at h
    have h1 := stTx_len h.1
    have h2 := steps_len r h.2
    have e1 : szSteps (p :: r) = (p :: r).length + ((p :: r).map szStep).sum := rfl
    have e2 : szSteps r = r.length + (r.map szStep).sum := rfl
    rw [List.flatMap_cons, List.length_append]
    rw [List.length_cons, List.map_cons, List.sum_cons] at e1
    omega
theorem take_len {l : List PStep} {j : Nat} (h : l.all stepOk = true) : ((l.take j).flatMap stTx).length ≤ 15 * szSteps l := by
  have h1 := steps_len l h
  have e : l.flatMap stTx = (l.take j).flatMap stTx ++ (l.drop j).flatMap stTx := by rw [← List.flatMap_append, List.take_append_drop]
  rw [e, List.length_append] at h1
  omega
/-- The text of a reference, as far as a step. -/
def refU (o : PFOp) (j : Nat) : List UInt8 := (if o.root = true then 36 else 64) :: (o.steps.take j).flatMap stTx
theorem refU_all (o : PFOp) : refU o o.steps.length = refT o := by unfold refU refT; rw [List.take_length]
theorem refU_next {o : PFOp} {j : Nat} (hj : j < o.steps.length) : strOf (refU o (j + 1)) = ((strOf (refU o j) ++ ⟨#[91]⟩) ++ strOf (if o.steps[j].byI = true then sdec o.steps[j].idx else quo o.steps[j].name)) ++ ⟨#[93]⟩ := by
  rw [show (⟨#[91]⟩ : ByteArray) = strOf [91] from rfl, show (⟨#[93]⟩ : ByteArray) = strOf [93] from rfl, strOf_app, strOf_app, strOf_app]
  unfold refU
  rw [List.take_succ_eq_append_getElem hj, List.flatMap_append, List.flatMap_singleton]
  congr 1
  unfold stTx
  simp
set_option maxRecDepth 100000 in
set_option maxHeartbeats 4000000 in
theorem refText_walk (m : PFOp) (v : Value) (bl : List Nat) (w : World) (h : ORow stepE w v m.steps bl) (hok : m.steps.all stepOk = true) (hs : szSteps m.steps ≤ 1048576) :
    Calls Tryz.prog 63 #[.agg #[.int .i64 m.k, .int .i64 m.n, .string m.s, .bool m.root, v]] w fun e w' => e = .returned (.string (strOf (refT m))) ∧ Below w.heap.size w w' := by
  obtain ⟨a, c, rfl, -, hxa⟩ := h.form
  have HROW : Hid (∀ (wr : World) (j : Nat) (hj : j < m.steps.length), Below w.heap.size w wr → ∃ g, a = some ⟨g, 0, none⟩ ∧ wr.cell? ⟨g, j * 3, none⟩ = some (.bool m.steps[j].byI) ∧ wr.cell? ⟨g, j * 3 + 1, none⟩ = some (.string m.steps[j].name) ∧ wr.cell? ⟨g, j * 3 + 2, none⟩ = some (.int .i64 m.steps[j].idx) ∧
      (m.steps[j].byI = true → (Calls Tryz.prog 36 #[.int .i64 m.steps[j].idx] wr fun e w' => e = .returned (.string (strOf (sdec m.steps[j].idx))) ∧ Below wr.heap.size wr w') ∧ (strOf (sdec m.steps[j].idx)).size ≤ 3000000) ∧
      (Calls Tryz.prog 35 #[.string m.steps[j].name] wr fun e w' => e = .returned (.string (strOf (quo m.steps[j].name))) ∧ Below wr.heap.size wr w') ∧ (strOf (quo m.steps[j].name)).size ≤ 3000000) := by
    intro wr j hj hb
    obtain ⟨g, rfl⟩ := hxa (by omega)
    obtain ⟨vs, ib, hE, hc, -, -, -⟩ := (h.below hb).at (List.getElem?_eq_getElem hj)
    obtain ⟨rfl, -⟩ := hE
    have hst := List.all_eq_true.1 hok _ (List.getElem_mem hj)
    have hz1 := sum_mem szStep (List.getElem_mem hj)
    have hz2 : szStep m.steps[j] = m.steps[j].name.size := rfl
    have hz3 : szSteps m.steps = m.steps.length + (m.steps.map szStep).sum := rfl
    have hri : m.steps[j].byI = true → rangeI m.steps[j].idx = true := fun e => by
      unfold stepOk at hst
      rw [if_pos e, Bool.and_eq_true] at hst
      exact hst.2
    refine ⟨g, rfl, (hc 0 _ rfl).1, (hc 1 _ rfl).1, (hc 2 _ rfl).1, fun e => ⟨sdec_walk _ wr (hri e), ?_⟩, quo_walk _ wr (by omega), ?_⟩
    · rw [strOf_size]; have := sdec_len (hri e); omega
    · rw [strOf_size]; have := quo_len m.steps[j].name; omega
  have HNX : Hid (∀ j (hj : j < m.steps.length), strOf (refU m (j + 1)) = ((strOf (refU m j) ++ ⟨#[91]⟩) ++ strOf (if m.steps[j].byI = true then sdec m.steps[j].idx else quo m.steps[j].name)) ++ ⟨#[93]⟩) := fun j hj => refU_next hj
  have HSZ : Hid (∀ j, (strOf (refU m j)).size ≤ 20000000) := fun j => by
    have := take_len (j := j) hok
    rw [strOf_size]
    unfold refU
    rw [List.length_cons]
    omega
  have HST : Hid (strOf (refU m 0) = if m.root = true then ⟨#[36]⟩ else ⟨#[64]⟩) := by show _ = _; unfold refU; rw [List.take_zero]; split <;> rfl
  have HAL : Hid (strOf (refU m m.steps.length) = strOf (refT m)) := by show _ = _; rw [refU_all]
  have HB : Hid (∀ o, Below w.heap.size w (w.alloc o)) := fun o => alloc_b w o
  have hlen : m.steps.length ≤ 1048576 := by unfold szSteps at hs; omega
  clear h hxa hok hs
  generalize strOf (refT m) = R at *
  obtain ⟨U, hU⟩ : ∃ U : Nat → ByteArray, U = fun j => strOf (refU m j) := ⟨_, rfl⟩
  have hU' : ∀ j, strOf (refU m j) = U j := fun j => by rw [hU]
  simp only [hU'] at HNX HSZ HST HAL
  clear hU hU'
  obtain ⟨k, n, s, r, st⟩ := m
  simp only at *
  have hlI : (st.length : Int) ≤ 1048576 := by omega
  obtain ⟨BX, hBX⟩ : ∃ BX : World → Prop, BX = fun wr => wr.heap[w.heap.size]? = some (Obj.cells #[.int .i64 k, .int .i64 n, .string s, .bool r, .slice a st.length c] 68 (0, 0)) := ⟨_, rfl⟩
  have HX0 : Hid (BX (w.alloc (Obj.cells #[.int .i64 k, .int .i64 n, .string s, .bool r, .slice a st.length c] 68 (0, 0)))) := by rw [hBX]; exact heap_alloc_new w _
  have HXN : Hid (∀ wr w', BX wr → Below wr.heap.size wr w' → BX w') := by rw [hBX]; exact fun wr w' h hb => (hb.block _ (Array.getElem?_eq_some_iff.1 h).1).trans h
  have HBX : Hid (∀ wr, BX wr → wr.cell? ⟨w.heap.size, 4, none⟩ = some (.slice a st.length c)) := by
    rw [hBX]; exact fun wr h => Lib.cell_of_heap h 4
  clear hBX
  cases r
  all_goals
    go_enter Tryz.func63, Tryz.ntmps63
    go_wp2_with fail
    go_loopw [3, 4] (fun ov iv wr => ∃ j : Nat, j ≤ st.length ∧ iv = .int .i64 (j : Int) ∧ Hid (ov = .string (U j)) ∧ Below w.heap.size w wr ∧ BX wr) (fun _ iv _ => st.length - (intOf iv).toNat)
    case atStart => exact ⟨0, Nat.zero_le _, rfl, by show _ = _; first | (rw [unhide HST]; done) | (rw [unhide HST]; rfl), unhide HB _, unhide HX0⟩
    case round =>
      obtain ⟨j, hj, rfl, hov, hb, hbx⟩ := hrel
      obtain rfl := unhide hov
      clear hov
      have c4 := unhide HBX _ hbx
      by_cases hlt : j < st.length
      · have hltI : (j : Int) < (st.length : Int) := by omega
        obtain ⟨g, rfl, d0, d1, d2, hc1, hc2, hz2⟩ := unhide HROW _ j hlt hb
        have HNJ := hide (unhide HNX j hlt)
        have hsz := unhide HSZ j
        have HBW := hide hb
        have HBXW := hide hbx
        have HC1 := hide hc1
        have HC2 := hide hc2
        clear hb hbx hc1 hc2 HROW HNX HAL HSZ
        generalize st[j] = P at *
        obtain ⟨byI, name, idx⟩ := P
        simp only at *
        generalize U j = UJ at *
        cases byI with
        | true =>
          obtain ⟨hc3, hz2⟩ := unhide HC1 rfl
          have HC3 := hide hc3
          have HNJ2 : Hid (U (j + 1) = ((UJ ++ ⟨#[91]⟩) ++ strOf (sdec idx)) ++ ⟨#[93]⟩) := by show _ = _; rw [unhide HNJ, if_pos rfl]
          clear HNJ HC1 HC2 hc3
          generalize strOf (sdec idx) = V at *
          have z1 : (9223372036854775807 < UJ.size + 1) = False := eq_false (by omega)
          have z2 : (9223372036854775807 < UJ.size + 1 + V.size) = False := eq_false (by omega)
          have z3 : (9223372036854775807 < UJ.size + 1 + V.size + 1) = False := eq_false (by omega)
          clear hz2 hsz
          go_wp2_with fail
          refine (unhide HC3).mono ?_
          rintro e w1 ⟨rfl, b1⟩
          have HB2 := hide (below_next (unhide HBW) b1)
          have HX2 := hide (unhide HXN _ _ (unhide HBXW) b1)
          clear HC3 b1 d0 d1 d2 c4 HBW HBXW
          go_wp2
          go_roundw
          case rel => exact ⟨j + 1, by omega, by go_num, by show _ = _; rw [unhide HNJ2], unhide HB2, unhide HX2⟩
          case measure => simp [intOf]; omega
        | false =>
          have HC3 := HC2
          have HNJ2 : Hid (U (j + 1) = ((UJ ++ ⟨#[91]⟩) ++ strOf (quo name)) ++ ⟨#[93]⟩) := by show _ = _; rw [unhide HNJ, if_neg (by simp)]
          clear HNJ HC1 HC2
          generalize strOf (quo name) = V at *
          have z1 : (9223372036854775807 < UJ.size + 1) = False := eq_false (by omega)
          have z2 : (9223372036854775807 < UJ.size + 1 + V.size) = False := eq_false (by omega)
          have z3 : (9223372036854775807 < UJ.size + 1 + V.size + 1) = False := eq_false (by omega)
          clear hz2 hsz
          go_wp2_with fail
          refine (unhide HC3).mono ?_
          rintro e w1 ⟨rfl, b1⟩
          have HB2 := hide (below_next (unhide HBW) b1)
          have HX2 := hide (unhide HXN _ _ (unhide HBXW) b1)
          clear HC3 b1 d0 d1 d2 c4 HBW HBXW
          go_wp2
          go_roundw
          case rel => exact ⟨j + 1, by omega, by go_num, by show _ = _; rw [unhide HNJ2], unhide HB2, unhide HX2⟩
          case measure => simp [intOf]; omega
      · have hje : j = st.length := by omega
        subst hje
        have HBW := hide hb
        clear hb hbx HROW HNX HSZ
        go_wp2
        go_ret
        exact ⟨by rw [← unhide HAL]; rfl, unhide HBW⟩
theorem sign_walk (n : Int) (w : World) (h : 1 ≤ n ∧ n ≤ 6) : Calls Tryz.prog 64 #[.int .i64 n] w fun e w' => e = .returned (.string (strOf (signT n))) ∧ Below w.heap.size w w' := by
  have HB : Hid (∀ o, Below w.heap.size w (w.alloc o)) := fun o => alloc_b w o
  rcases (show n = 1 ∨ n = 2 ∨ n = 3 ∨ n = 4 ∨ n = 5 ∨ n = 6 by omega) with rfl | rfl | rfl | rfl | rfl | rfl
  all_goals
    clear h
    go_enter Tryz.func64, Tryz.ntmps64
    go_wp2
    go_ret
    exact ⟨rfl, unhide HB _⟩
end Go.Proofs.YtiolpmhodbefoaaGreatDoor

