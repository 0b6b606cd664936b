import Derived.Deep.RegionWith
import Derived.Deep.RegionLaw
import Derived.Test.YtcjajchfjoffnaaGreatDoorBst5
import Derived.Test.YtcjajchfjoffnaaGreatDoorBst6
import Derived.Test.YtcjajchfjoffnaaGreatDoorBst1
namespace Go.Proofs.YtcjajchfjoffnaaGreatDoor
open Go.RowKit

theorem draws_b (w : World) (n : Nat) : Below w.heap.size w (w.drewN n) := ⟨rfl, rfl, rfl, Nat.le_refl _, fun _ _ => rfl⟩
theorem ORow.len {α : Type} {e : Elem α} {w : World} {v : Value} {xs : List α} {bl : List Nat} (h : ORow e w v xs bl) : xs.length ≤ maxLen := by
  obtain ⟨ps, hl, hE, ho, _⟩ := h
  rcases ho.2 with ⟨hv, h0⟩ | ⟨g, cap, cur, hv, _, _, h1, h2, _⟩
  · omega
  · omega

theorem eqStr_walk (v v' : Value) (ss : List ByteArray) (bl bl' : List Nat) (w : World) (h : OStr w v ss bl) (k : OStr w v' ss bl') :
    Calls Tryz.prog 25 #[v, v'] w fun e w' => e = .returned (.bool true) ∧ Below w.heap.size w w' := by
  obtain ⟨a, g, cap, rfl, hs⟩ := h.ss
  obtain ⟨a', g', cap', rfl, ks⟩ := k.ss
  refine (eq_walk a a' g 0 cap g' 0 cap' ss w hs ks (by have := h.len; unfold maxLen at this; omega)).mono ?_
  rintro e w' ⟨rfl, n, rfl⟩
  exact ⟨rfl, draws_b w n⟩
/-- Two new blocks. -/
structure New2 (w : World) (a b : Obj) (w' : World) : Prop where
  bel : Below w.heap.size w w'
  size : w'.heap.size = w.heap.size + 1 + 1
  k0 : w'.heap[w.heap.size]? = some a
  k1 : w'.heap[w.heap.size + 1]? = some b
theorem new2 (w : World) (a b : Obj) : New2 w a b ((w.alloc a).alloc b) := by
  refine ⟨below_next (alloc_b w _) (alloc_b _ _), by simp, ?_, ?_⟩
  · exact ((alloc_b _ b).block _ (by simp)).trans (heap_alloc_new w a)
  · have := heap_alloc_new (w.alloc a) b
    rw [show (w.alloc a).heap.size = w.heap.size + 1 from by simp] at this
    exact this
end Go.Proofs.YtcjajchfjoffnaaGreatDoor

namespace Go.Proofs.YtcjajchfjoffnaaGreatDoor
open Go.RowKit

/-- A version. -/
structure Ver where
  no : Int
  doc : ByteArray
  touched : List ByteArray
def verR : RElem Ver where
  wd := 3
  R := fun w vs m => ∃ q, vs = [.int .i64 m.no, .string m.doc, q] ∧ m.doc.size ≤ maxLen ∧ RRow sRE w q m.touched
  len := fun h => by obtain ⟨q, h, _⟩ := h; rw [h]; rfl
  keep := fun h hb => by obtain ⟨q, h1, h0, h2⟩ := h; exact ⟨q, h1, h0, h2.below hb⟩
def verE : Elem Ver where
  T := 58
  wd := 3
  E := fun w vs m bl => ∃ q, vs = [.int .i64 m.no, .string m.doc, q] ∧ OStr w q m.touched bl
  len := fun h => by obtain ⟨q, h, _⟩ := h; rw [h]; rfl
  lt := fun h => by obtain ⟨q, _, h⟩ := h; exact h.lt
  keep := fun h hk => by obtain ⟨q, h1, h2⟩ := h; exact ⟨q, h1, h2.keep hk⟩
def szVer (m : Ver) : Nat := m.doc.size + szStr m.touched
def szVers (ms : List Ver) : Nat := ms.length + (ms.map szVer).sum
set_option maxRecDepth 100000 in
set_option maxHeartbeats 1600000 in
theorem eqVer_walk (a0 a1 a2 b0 b1 b2 : Value) (m : Ver) (ib jb : List Nat) (w : World) (h : verE.E w [a0, a1, a2] m ib) (k : verE.E w [b0, b1, b2] m jb) :
    Calls Tryz.prog 78 #[.agg #[a0, a1, a2], .agg #[b0, b1, b2]] w fun e w' => e = .returned (.bool true) ∧ Below w.heap.size w w' := by
  obtain ⟨q, hq, h1⟩ := h
  injection hq with e0 hq
  subst e0
  injection hq with e1 hq
  subst e1
  injection hq with e2 hq
  subst e2
  clear hq
  obtain ⟨q, hq, k1⟩ := k
  injection hq with e0 hq
  subst e0
  injection hq with e1 hq
  subst e1
  injection hq with e2 hq
  subst e2
  clear hq
  have H1 := hide h1
  have K1 := hide k1
  clear h1 k1
  go_enter Tryz.func78, Tryz.ntmps78
  go_wp2_with fail
  have hA := new2 w (Obj.cells #[Value.int IntKind.i64 m.no, Value.string m.doc, a2] 58) (Obj.cells #[Value.int IntKind.i64 m.no, Value.string m.doc, b2] 58)
  generalize ((w.alloc (Obj.cells #[Value.int IntKind.i64 m.no, Value.string m.doc, a2] 58)).alloc (Obj.cells #[Value.int IntKind.i64 m.no, Value.string m.doc, b2] 58)) = wA at *
  refine (eqStr_walk a2 b2 m.touched ib jb wA ((unhide H1).below hA.bel) ((unhide K1).below hA.bel)).mono ?_
  rintro e w1 ⟨rfl, bb1⟩
  have hsz := hA.size
  have k0 := (bb1.block w.heap.size (by omega)).trans hA.k0
  have k1 := (bb1.block (w.heap.size + 1) (by omega)).trans hA.k1
  have HB := hide (below_next hA.bel bb1)
  clear hA bb1 k0 k1 H1 K1
  go_wp2
  go_ret
  exact ⟨rfl, unhide HB⟩
set_option maxRecDepth 100000 in
set_option maxHeartbeats 1600000 in
theorem eqVers_walk (v v' : Value) (ms : List Ver) (bl bl' : List Nat) (w : World) (h : ORow verE w v ms bl) (k : ORow verE w v' ms bl') :
    Calls Tryz.prog 37 #[v, v'] w fun e w' => e = .returned (.bool true) ∧ Below w.heap.size w w' := by
  have hm := h.len
  unfold maxLen at hm
  obtain ⟨xa, xc, rfl, _, hxa⟩ := h.form
  obtain ⟨ya, yc, rfl, _, hya⟩ := k.form
  have H := hide h
  have K := hide k
  clear h k
  go_enter Tryz.func37, Tryz.ntmps37
  go_wp2
  go_loopw [5] (fun i wr => ∃ k : Nat, k ≤ ms.length ∧ i = .int .i64 k ∧ Below w.heap.size w wr) (fun i _ => ms.length - (intOf i).toNat)
  case atStart => exact ⟨0, Nat.zero_le _, rfl, Below.refl _ _⟩
  case round =>
    obtain ⟨k, hk, rfl, hb⟩ := hrel
    by_cases hlt : k < ms.length
    · obtain ⟨g, rfl⟩ := hxa (by omega)
      obtain ⟨g', rfl⟩ := hya (by omega)
      obtain ⟨vs, ib, hE, hc, _⟩ := ((unhide H).below hb).at (List.getElem?_eq_getElem hlt)
      obtain ⟨a0, a1, a2, rfl⟩ := list3 (verE.len hE)
      have c0 : wr.cell? ⟨g, k * 3, none⟩ = _ := (hc 0 _ rfl).1
      have c1 : wr.cell? ⟨g, k * 3 + 1, none⟩ = _ := (hc 1 _ rfl).1
      have c2 : wr.cell? ⟨g, k * 3 + 2, none⟩ = _ := (hc 2 _ rfl).1
      obtain ⟨vs, jb, hE', hc', _⟩ := ((unhide K).below hb).at (List.getElem?_eq_getElem hlt)
      obtain ⟨b0, b1, b2, rfl⟩ := list3 (verE.len hE')
      have d0 : wr.cell? ⟨g', k * 3, none⟩ = _ := (hc' 0 _ rfl).1
      have d1 : wr.cell? ⟨g', k * 3 + 1, none⟩ = _ := (hc' 1 _ rfl).1
      have d2 : wr.cell? ⟨g', k * 3 + 2, none⟩ = _ := (hc' 2 _ rfl).1
      have hx : Below wr.heap.size wr wr.drew := (Below.refl _ _).drew
      have HM := hide (eqVer_walk a0 a1 a2 b0 b1 b2 ms[k] ib jb wr.drew (verE.keep hE (.of_below hx (verE.lt hE))) (verE.keep hE' (.of_below hx (verE.lt hE'))))
      have HB := hide hb
      have hlt' : (k : Int) < (ms.length : Int) := by omega
      clear hxa hya hc hc' hE hE' hb hx
      go_wp2
      go_region_law (go_simp; refine (unhide HM).mono ?_; rintro e w1 ⟨rfl, b1⟩)
      all_goals go_wp2
      all_goals go_roundw
      all_goals first
        | exact ⟨k + 1, by omega, by go_num, (unhide HB).drew.trans (b1.mono (by have := (unhide HB).size; simp; omega))⟩
        | (simp [intOf]; omega)
    · clear hxa hya
      go_wp2
      go_ret
      exact ⟨rfl, hb⟩
end Go.Proofs.YtcjajchfjoffnaaGreatDoor

namespace Go.Proofs.YtcjajchfjoffnaaGreatDoor
open Go.RowKit

/-- An operation. -/
structure POp where
  kind : Int
  path : ByteArray
  src : ByteArray
  val : ByteArray
def opV (m : POp) : List Value := [.int .i64 m.kind, .string m.path, .string m.src, .string m.val]
def opR : RElem POp where
  wd := 4
  R := fun _ vs m => vs = [.int .i64 m.kind, .string m.path, .string m.src, .string m.val] ∧ m.path.size ≤ maxLen ∧ m.src.size ≤ maxLen ∧ m.val.size ≤ maxLen
  len := fun h => by rw [h.1]; rfl
  keep := fun h _ => h
def opE : Elem POp where
  T := 76
  wd := 4
  E := fun _ vs m bl => vs = [.int .i64 m.kind, .string m.path, .string m.src, .string m.val] ∧ bl = []
  len := fun h => by rw [h.1]; rfl
  lt := fun h b hb => by rw [h.2] at hb; cases hb
  keep := fun h _ => h
def szOp (m : POp) : Nat := m.path.size + m.src.size + m.val.size
set_option maxRecDepth 100000 in
set_option maxHeartbeats 800000 in
theorem szOp_walk (a0 a1 a2 a3 : Value) (m : POp) (L : Nat) (w : World) (h : opR.R w [a0, a1, a2, a3] m) (hL : L ≤ 1048576) :
    Calls Tryz.prog 44 #[.agg #[a0, a1, a2, a3], .int .i64 L] w fun e w' => e = .returned (.int .i64 (szI L (szOp m))) ∧ Below w.heap.size w w' := by
  obtain ⟨hq, h1, h2, h3⟩ := h
  injection hq with e0 hq; injection hq with e1 hq; injection hq with e2 hq; injection hq with e3 hq
  subst e0; subst e1; subst e2; subst e3
  clear hq
  unfold maxLen at h1 h2 h3
  by_cases n1 : m.path.size ≤ L
  · by_cases n2 : m.path.size + m.src.size ≤ L
    · by_cases n3 : m.path.size + m.src.size + m.val.size ≤ L
      · have hZ : szI L (szOp m) = (L : Int) - (m.path.size : Int) - (m.src.size : Int) - (m.val.size : Int) := by
          unfold szOp
          rw [szI_ok n3]; omega
        rw [hZ]
        clear hZ
        go_enter Tryz.func44, Tryz.ntmps44
        go_wp2
        go_ret
        exact ⟨rfl, alloc_b w _⟩
      · rw [szI_no (by unfold szOp; omega)]
        go_enter Tryz.func44, Tryz.ntmps44
        go_wp2
        go_ret
        exact ⟨rfl, alloc_b w _⟩
    · rw [szI_no (by unfold szOp; omega)]
      go_enter Tryz.func44, Tryz.ntmps44
      go_wp2
      go_ret
      exact ⟨rfl, alloc_b w _⟩
  · rw [szI_no (by unfold szOp; omega)]
    go_enter Tryz.func44, Tryz.ntmps44
    go_wp2
    go_ret
    exact ⟨rfl, alloc_b w _⟩
def szOps (ms : List POp) : Nat := ms.length + (ms.map szOp).sum
set_option maxRecDepth 100000 in
set_option maxHeartbeats 800000 in
theorem szOps_walk (v : Value) (ms : List POp) (L : Nat) (w : World) (h : RRow opR w v ms) (hL : L ≤ 1048576) :
    Calls Tryz.prog 18 #[v, .int .i64 L] w fun e w' => e = .returned (.int .i64 (szI L (szOps ms))) ∧ Below w.heap.size w w' := by
  have H := hide h
  obtain ⟨hm, a, cap, rfl, hrow⟩ := h
  unfold maxLen at hm
  clear hrow
  by_cases h0 : L < ms.length
  · go_enter Tryz.func18, Tryz.ntmps18
    go_wp2
    go_ret
    exact ⟨ret_int (szI_no (by unfold szOps; omega)).symm, Below.refl _ _⟩
  · go_enter Tryz.func18, Tryz.ntmps18
    go_wp2
    go_loopw [1, 5] (fun l i wr => ∃ k : Nat, k ≤ ms.length ∧ i = .int .i64 k ∧ ms.length + ((ms.take k).map szOp).sum ≤ L ∧ l = .int .i64 ((L - (ms.length + ((ms.take k).map szOp).sum) : Nat) : Int) ∧ Below w.heap.size w wr) (fun _ i _ => ms.length - (intOf i).toNat)
    case atStart => exact ⟨0, Nat.zero_le _, rfl, by simp; omega, by simp; omega, Below.refl _ _⟩
    case round =>
      obtain ⟨k, hk, rfl, hle, rfl, hb⟩ := hrel
      by_cases hlt : k < ms.length
      · have ht := sum_take_snoc szOp ms k ms[k] (List.getElem?_eq_getElem hlt)
        have hts := sum_take_le (ms.map szOp) (k + 1)
        rw [← List.map_take] at hts
        obtain ⟨_, a', cap', he, hrow⟩ := (unhide H).below hb
        injection he with he1 he2 he3; subst he1; subst he3; clear he2
        obtain ⟨b, o, rfl, vs, hR, hc⟩ := hrow k ms[k] (List.getElem?_eq_getElem hlt)
        obtain ⟨a0, a1, a2, a3, rfl⟩ := list4 (opR.len hR)
        have c0 : wr.cell? ⟨b, o + k * 4, none⟩ = _ := hc 0 _ rfl
        have c1 : wr.cell? ⟨b, o + k * 4 + 1, none⟩ = _ := hc 1 _ rfl
        have c2 : wr.cell? ⟨b, o + k * 4 + 2, none⟩ = _ := hc 2 _ rfl
        have c3 : wr.cell? ⟨b, o + k * 4 + 3, none⟩ = _ := hc 3 _ rfl
        have HM := hide (szOp_walk a0 a1 a2 a3 ms[k] (L - (ms.length + ((ms.take k).map szOp).sum)) wr hR (by omega))
        clear hrow hc hR
        have HS : Hid (szOps ms = ms.length + (ms.map szOp).sum) := rfl
        generalize (ms.map szOp).sum = T9 at *
        generalize ((ms.take k).map szOp).sum = T at *
        have hT2 : ∃ T2, ((ms.take (k + 1)).map szOp).sum = T2 := ⟨_, rfl⟩
        obtain ⟨T2, hT2⟩ := hT2
        rw [hT2] at ht hts
        have HT := hide hT2
        clear hT2
        generalize szOp ms[k] = z at *
        by_cases hn : ms.length + T + z ≤ L
        · rw [szI_ok (by omega)] at HM
          go_wp2_with fail
          refine (unhide HM).mono ?_
          rintro e w1 ⟨rfl, b1⟩
          have B1 := hide (below_next hb b1)
          clear HM b1 hb c0 c1 c2 c3
          go_wp2
          go_roundw
          case rel => exact ⟨k + 1, by omega, by go_num, by rw [unhide HT]; omega, by rw [unhide HT]; go_num, unhide B1⟩
          case measure => simp [intOf]; omega
        · rw [szI_no (by omega)] at HM
          go_wp2_with fail
          refine (unhide HM).mono ?_
          rintro e w1 ⟨rfl, b1⟩
          have B1 := hide (below_next hb b1)
          clear HM b1 hb c0 c1 c2 c3
          go_wp2
          go_ret
          exact ⟨ret_int (szI_no (by rw [unhide HS]; omega)).symm, unhide B1⟩
      · have hk' : k = ms.length := by omega
        subst hk'
        rw [List.take_length] at hle ⊢
        go_wp2
        go_ret
        exact ⟨ret_int (szI_ok (n := szOps ms) hle).symm, hb⟩
set_option maxRecDepth 100000 in
set_option maxHeartbeats 800000 in
theorem toOp_walk (a0 a1 a2 a3 : Value) (m : POp) (w : World) (h : opR.R w [a0, a1, a2, a3] m) (_hs : szOp m ≤ 1048576) :
    Calls Tryz.prog 49 #[.agg #[a0, a1, a2, a3]] w fun e w' => ∃ b0 b1 b2 b3 ib, e = .returned (.agg #[b0, b1, b2, b3]) ∧ opE.E w' [b0, b1, b2, b3] m ib ∧ Fsh (w.heap.size + 1) ib ∧ Below w.heap.size w w' := by
  obtain ⟨hq, h1, h2, h3⟩ := h
  injection hq with e0 hq; injection hq with e1 hq; injection hq with e2 hq; injection hq with e3 hq
  subst e0; subst e1; subst e2; subst e3
  clear hq h1 h2 h3
  go_enter Tryz.func49, Tryz.ntmps49
  go_wp2
  have hA := new3 w (Obj.cells #[.int .i64 m.kind, .string m.path, .string m.src, .string m.val] 72) (Obj.cells #[.int .i64 m.kind, .string m.path, .string m.src, .string m.val] 76) (Obj.cells #[.int .i64 m.kind, .string m.path, .string m.src, .string m.val] 76)
  refine bodyPost_ret (results_cell_row rfl _ _ (w.heap.size + 1) 76 #[_, _, _, _] (0, 0) _ rfl hA.k1 Tryz.underlying76 rfl (by kernel_rfl)) rfl ?_
  exact ⟨_, _, _, _, [], rfl, ⟨rfl, rfl⟩, Fsh.nil _, hA.bel⟩
theorem infoOp : (Tryz.prog.info? 76).map (fun i => (i.zero, i.size, i.bytes)) = some (some (.agg #[.int .i64 0, .string ByteArray.empty, .string ByteArray.empty, .string ByteArray.empty]), 4, 56) := by kernel_rfl
set_option maxRecDepth 100000 in
set_option maxHeartbeats 1600000 in
theorem toOps_walk (v : Value) (ms : List POp) (w : World) (h : RRow opR w v ms) (hs : szOps ms ≤ 1048576) :
    Calls Tryz.prog 20 #[v] w fun e w' => ∃ v' bl, e = .returned v' ∧ ORow opE w' v' ms bl ∧ Fsh w.heap.size bl ∧ Below w.heap.size w w' := by
  have hl : ms.length ≤ 1048576 := by unfold szOps at hs; omega
  have hsz : ∀ k (hk : k < ms.length), szOp ms[k] ≤ 1048576 := fun k hk => by
    have h1 := sum_take_snoc szOp ms k ms[k] (List.getElem?_eq_getElem hk)
    have h2 := sum_take_le (ms.map szOp) (k + 1)
    rw [← List.map_take] at h2
    unfold szOps at hs; omega
  have HZ := hide hsz
  clear hs hsz
  have H := hide h
  obtain ⟨hm, a, cap, rfl, hrow⟩ := h
  clear hrow hm
  obtain ⟨i0, hi, hz0, hz1, hz2⟩ := info_parts infoOp
  go_enter Tryz.func20, Tryz.ntmps20
  go_wp2_with (at_make; refine wpList_make_full _ rfl _ _ 41 rfl 0 76 i0 (.agg #[.int .i64 0, .string ByteArray.empty, .string ByteArray.empty, .string ByteArray.empty]) 4 Tryz.underlying41 hi hz0 hz1 .i64 .i64 _ _ ms.length rfl rfl rfl rfl (by rw [hz2]; omega) (by unfold maxLen; omega) (Nat.zero_le _) ?_)
  intro w1 hown hgrow
  have hbel : Below w.heap.size w w1 := (Below.refl _ _).grown hgrow (Nat.le_refl _) (by intro k hk; cases hk)
  have hP : PRow opE w1 w.heap.size ms.length ms.length [] [] := PRow.start hown
  have hg1 := hP.lt.1
  have HP := hide hP
  have HB := hide hbel
  clear hgrow hi hz0 hz1 hz2 hown hP hbel
  go_wp2
  go_loopw [4] (fun i wr => ∃ k : Nat, k ≤ ms.length ∧ i = .int .i64 k ∧ Below w.heap.size w wr ∧ ∃ bl, PRow opE wr w.heap.size ms.length ms.length (ms.take k) bl ∧ Fsh (w.heap.size + 1) bl) (fun i _ => ms.length - (intOf i).toNat)
  case atStart => exact ⟨0, Nat.zero_le _, rfl, unhide HB, [], unhide HP, Fsh.nil _⟩
  case round =>
    obtain ⟨k, hk, rfl, hb, bl, hP, hF⟩ := hrel
    by_cases hlt : k < ms.length
    · have hgr := hP.lt.1
      obtain ⟨_, a', cap', he, hrow⟩ := (unhide H).below hb
      injection he with he1 he2 he3; subst he1; subst he3; clear he2
      obtain ⟨b, o, rfl, vs, hR, hc⟩ := hrow k ms[k] (List.getElem?_eq_getElem hlt)
      obtain ⟨a0, a1, a2, a3, rfl⟩ := list4 (opR.len hR)
      have c0 : wr.cell? ⟨b, o + k * 4, none⟩ = _ := hc 0 _ rfl
      have c1 : wr.cell? ⟨b, o + k * 4 + 1, none⟩ = _ := hc 1 _ rfl
      have c2 : wr.cell? ⟨b, o + k * 4 + 2, none⟩ = _ := hc 2 _ rfl
      have c3 : wr.cell? ⟨b, o + k * 4 + 3, none⟩ = _ := hc 3 _ rfl
      have HM := hide (toOp_walk a0 a1 a2 a3 ms[k] wr hR (unhide HZ k hlt))
      have hkl : (ms.take k).length = k := by rw [List.length_take]; omega
      have HPR := hide hP
      have HFB := hide hF
      have HBR := hide hb
      have HKL := hide hkl
      clear hrow hc hR hP hF hb hkl
      go_wp2_with fail
      refine (unhide HM).mono ?_
      rintro e w2 ⟨b0, b1, y2, b3, ib, rfl, hE, hFi, b2⟩
      have P2 := (unhide HPR).below b2
      have hkl := unhide HKL
      have hlt' : (ms.take k).length < ms.length := by rw [hkl]; exact hlt
      obtain ⟨u0, d0⟩ := P2.cell hlt' 0 (by decide)
      rw [hkl] at d0
      have d0 : w2.cell? ⟨w.heap.size, k * 4, none⟩ = some u0 := d0
      obtain ⟨u1, d1⟩ := P2.cell hlt' 1 (by decide)
      rw [hkl] at d1
      have d1 : w2.cell? ⟨w.heap.size, k * 4 + 1, none⟩ = some u1 := d1
      obtain ⟨u2, d2⟩ := P2.cell hlt' 2 (by decide)
      rw [hkl] at d2
      have d2 : w2.cell? ⟨w.heap.size, k * 4 + 2, none⟩ = some u2 := d2
      obtain ⟨u3, d3⟩ := P2.cell hlt' 3 (by decide)
      rw [hkl] at d3
      have d3 : w2.cell? ⟨w.heap.size, k * 4 + 3, none⟩ = some u3 := d3
      have fz := P2.frozen
      have hng : w.heap.size ∉ bl := (unhide HFB).not (by omega)
      have hngi : w.heap.size ∉ ib := hFi.not (by omega)
      have HPN := hide (P2.put hlt' hng hE hngi)
      have HFN := hide ((unhide HFB).app (C := wr.heap.size + 1) (fun b hb => by have := (unhide HPR).lt.2 b hb; omega) hFi (by omega))
      have HBN := hide (below_next (unhide HBR) b2)
      have hE0 := hE
      have hbs := hE0.1
      injection hbs with e0 hbs
      subst e0
      injection hbs with e1 hbs
      subst e1
      injection hbs with e2 hbs
      subst e2
      injection hbs with e3 hbs
      subst e3
      clear hbs
      rw [hkl] at HPN
      clear P2 hE hFi b2 HM hng hngi HPR HFB HBR hkl hlt' HKL
      go_wp2
      go_roundw
      case rel => exact ⟨k + 1, by omega, by go_num, putN_below (unhide HBN) (Nat.le_refl _) [_, _, _, _] (k * 4), _, by rw [List.take_add_one, List.getElem?_eq_getElem hlt]; exact unhide HPN, unhide HFN⟩
      case measure => simp [intOf]; omega
    · have hk' : k = ms.length := by omega
      subst hk'
      rw [List.take_length] at hP
      go_wp2
      go_ret
      exact ⟨_, _, rfl, hP.full rfl, hF.cons (Nat.le_refl _) (by omega), hb⟩
set_option maxRecDepth 100000 in
set_option maxHeartbeats 1600000 in
theorem eqOp_walk (a0 a1 a2 a3 b0 b1 b2 b3 : Value) (m : POp) (ib jb : List Nat) (w : World) (h : opE.E w [a0, a1, a2, a3] m ib) (k : opE.E w [b0, b1, b2, b3] m jb) :
    Calls Tryz.prog 54 #[.agg #[a0, a1, a2, a3], .agg #[b0, b1, b2, b3]] w fun e w' => e = .returned (.bool true) ∧ Below w.heap.size w w' := by
  have hq := h.1
  injection hq with e0 hq
  subst e0
  injection hq with e1 hq
  subst e1
  injection hq with e2 hq
  subst e2
  injection hq with e3 hq
  subst e3
  clear hq
  have hq := k.1
  injection hq with e0 hq
  subst e0
  injection hq with e1 hq
  subst e1
  injection hq with e2 hq
  subst e2
  injection hq with e3 hq
  subst e3
  clear hq
  go_enter Tryz.func54, Tryz.ntmps54
  go_wp2
  go_ret
  exact ⟨rfl, below_next (alloc_b w _) (alloc_b _ _)⟩
set_option maxRecDepth 100000 in
set_option maxHeartbeats 1600000 in
theorem eqOps_walk (v v' : Value) (ms : List POp) (bl bl' : List Nat) (w : World) (h : ORow opE w v ms bl) (k : ORow opE w v' ms bl') :
    Calls Tryz.prog 22 #[v, v'] w fun e w' => e = .returned (.bool true) ∧ Below w.heap.size w w' := by
  have hm := h.len
  unfold maxLen at hm
  obtain ⟨xa, xc, rfl, _, hxa⟩ := h.form
  obtain ⟨ya, yc, rfl, _, hya⟩ := k.form
  have H := hide h
  have K := hide k
  clear h k
  go_enter Tryz.func22, Tryz.ntmps22
  go_wp2
  go_loopw [5] (fun i wr => ∃ k : Nat, k ≤ ms.length ∧ i = .int .i64 k ∧ Below w.heap.size w wr) (fun i _ => ms.length - (intOf i).toNat)
  case atStart => exact ⟨0, Nat.zero_le _, rfl, Below.refl _ _⟩
  case round =>
    obtain ⟨k, hk, rfl, hb⟩ := hrel
    by_cases hlt : k < ms.length
    · obtain ⟨g, rfl⟩ := hxa (by omega)
      obtain ⟨g', rfl⟩ := hya (by omega)
      obtain ⟨vs, ib, hE, hc, _⟩ := ((unhide H).below hb).at (List.getElem?_eq_getElem hlt)
      obtain ⟨a0, a1, a2, a3, rfl⟩ := list4 (opE.len hE)
      have c0 : wr.cell? ⟨g, k * 4, none⟩ = _ := (hc 0 _ rfl).1
      have c1 : wr.cell? ⟨g, k * 4 + 1, none⟩ = _ := (hc 1 _ rfl).1
      have c2 : wr.cell? ⟨g, k * 4 + 2, none⟩ = _ := (hc 2 _ rfl).1
      have c3 : wr.cell? ⟨g, k * 4 + 3, none⟩ = _ := (hc 3 _ rfl).1
      obtain ⟨vs, jb, hE', hc', _⟩ := ((unhide K).below hb).at (List.getElem?_eq_getElem hlt)
      obtain ⟨b0, b1, b2, b3, rfl⟩ := list4 (opE.len hE')
      have d0 : wr.cell? ⟨g', k * 4, none⟩ = _ := (hc' 0 _ rfl).1
      have d1 : wr.cell? ⟨g', k * 4 + 1, none⟩ = _ := (hc' 1 _ rfl).1
      have d2 : wr.cell? ⟨g', k * 4 + 2, none⟩ = _ := (hc' 2 _ rfl).1
      have d3 : wr.cell? ⟨g', k * 4 + 3, none⟩ = _ := (hc' 3 _ rfl).1
      have hx : Below wr.heap.size wr wr.drew := (Below.refl _ _).drew
      have HM := hide (eqOp_walk a0 a1 a2 a3 b0 b1 b2 b3 ms[k] ib jb wr.drew (opE.keep hE (.of_below hx (opE.lt hE))) (opE.keep hE' (.of_below hx (opE.lt hE'))))
      have HB := hide hb
      have hlt' : (k : Int) < (ms.length : Int) := by omega
      clear hxa hya hc hc' hE hE' hb hx
      go_wp2
      go_region_law (go_simp; refine (unhide HM).mono ?_; rintro e w1 ⟨rfl, b1⟩)
      all_goals go_wp2
      all_goals go_roundw
      all_goals first
        | exact ⟨k + 1, by omega, by go_num, (unhide HB).drew.trans (b1.mono (by have := (unhide HB).size; simp; omega))⟩
        | (simp [intOf]; omega)
    · clear hxa hya
      go_wp2
      go_ret
      exact ⟨rfl, hb⟩
end Go.Proofs.YtcjajchfjoffnaaGreatDoor

namespace Go.Proofs.YtcjajchfjoffnaaGreatDoor
open Go.RowKit

/-- The texts that mark a row, from k on. -/
def mkS (k n : Nat) : List ByteArray := (List.range n).map fun j => mkText (k + j)
theorem mkS_len (k n : Nat) : (mkS k n).length = n := by simp [mkS]
theorem mkS_at {k n j : Nat} (h : j < n) : (mkS k n)[j]? = some (mkText (k + j)) := by simp [mkS, h]
/-- A row under way: its first j texts marked. -/
def mkAt (k : Nat) (ss : List ByteArray) (j : Nat) : List ByteArray := mkS k j ++ ss.drop j
theorem mkAt_len (k : Nat) (ss : List ByteArray) {j : Nat} (h : j ≤ ss.length) : (mkAt k ss j).length = ss.length := by unfold mkAt; rw [List.length_append, mkS_len, List.length_drop]; omega
theorem mkAt_set (k : Nat) (ss : List ByteArray) {j : Nat} (h : j < ss.length) : (mkAt k ss j).set j (mkText (k + j)) = mkAt k ss (j + 1) := by
  unfold mkAt
  rw [List.set_append_right _ _ (by rw [mkS_len]; omega), mkS_len, Nat.sub_self, List.drop_eq_getElem_cons h, List.set_cons_zero]
  unfold mkS
  rw [List.range_succ, List.map_append, List.append_assoc]; rfl
theorem mkAt_0 (k : Nat) (ss : List ByteArray) : mkAt k ss 0 = ss := by simp [mkAt, mkS]
theorem mkAt_all (k : Nat) (ss : List ByteArray) : mkAt k ss ss.length = mkS k ss.length := by simp [mkAt]

set_option maxHeartbeats 400000 in
theorem markStr_walk (v : Value) (ss : List ByteArray) (bl : List Nat) (k0 : Nat) (w : World) (hv : OStr w v ss bl) (hd : bl.Nodup) (hn : ss.length ≤ 268435456) (h1 : 1 ≤ k0) (h2 : k0 ≤ 1099200000000) :
    Calls Tryz.prog 27 #[v, .int .i64 k0] w fun e w' => e = .returned (.int .i64 (k0 + ss.length : Nat)) ∧ OStr w' v (mkS k0 ss.length) bl ∧ Fr bl w w' := by
  obtain ⟨a, cap, rfl, _, hsh⟩ := hv.form
  have HV := hide hv
  have HD := hide hd
  clear hv hd
  go_enter Tryz.func27, Tryz.ntmps27
  go_wp2
  go_loopw [1, 5] (fun q i wr => ∃ (j : Nat), j ≤ ss.length ∧ i = .int .i64 j ∧ q = .int .i64 (k0 + j : Nat) ∧ Fr bl w wr ∧ OStr wr (.slice a ss.length cap) (mkAt k0 ss j) bl) (fun _ i _ => ss.length - (intOf i).toNat)
  case atStart => exact ⟨0, Nat.zero_le _, rfl, rfl, Fr.refl _ _, by rw [mkAt_0]; exact unhide HV⟩
  case round =>
    obtain ⟨j, hj, rfl, rfl, hb, ho⟩ := hrel
    by_cases hlt : j < ss.length
    · obtain ⟨g, rfl⟩ := hsh (by omega)
      have HC := hide (mark_walk (k0 + j) wr (by omega) (by omega))
      have hl := mkAt_len k0 ss (Nat.le_of_lt hlt)
      have HS := hide (mkAt_set k0 ss hlt)
      have HO := hide ho
      have HF := hide hb
      have HL := hide hl
      clear ho hb hl
      go_wp2_with fail
      refine (unhide HC).mono ?_
      rintro e w1 ⟨rfl, b1⟩
      have ho := (unhide HO).below b1
      obtain ⟨vs, ib, hE, hc, _, hg, _⟩ := ho.at (List.getElem?_eq_getElem (show j < (mkAt k0 ss j).length by rw [unhide HL]; exact hlt))
      obtain ⟨rfl, rfl⟩ := hE
      have c0 := (hc 0 _ rfl).1
      have f0 := (hc 0 _ rfl).2
      rw [show j * strE.wd + 0 = j from by simp [strE]] at c0 f0
      have hp := ho.put (unhide HD) (List.getElem?_eq_getElem (show j < (mkAt k0 ss j).length by rw [unhide HL]; exact hlt)) 0 (by decide) (.string (mkText (k0 + j))) (mkText (k0 + j)) (fun w' vs ib h => ⟨by rw [h.1]; rfl, h.2⟩)
      rw [unhide HS] at hp
      have hp' : OStr (w1.setCell ⟨g, j, none⟩ (.string (mkText (k0 + j)))) (.slice (some ⟨g, 0, none⟩) ss.length cap) (mkAt k0 ss (j + 1)) bl := by
        rw [show j * strE.wd + 0 = j from by simp [strE]] at hp; exact hp
      have HP := hide hp'
      have HF1 := hide (((unhide HF).next b1).set hg j (.string (mkText (k0 + j))))
      clear hp hp' ho hc b1 HC HO HF hg
      go_wp2
      go_roundw
      case rel => exact ⟨j + 1, by omega, by go_num, by go_num, unhide HF1, unhide HP⟩
      case measure => simp [intOf]; omega
    · have hjn : j = ss.length := by omega
      subst hjn
      rw [mkAt_all] at ho
      go_wp2
      go_ret
      exact ⟨rfl, ho, hb⟩
theorem marks_mkS (k n : Nat) : (mkS k n).map Value.string = marks k n := by simp [mkS, marks]
theorem heldStr_walk (v : Value) (bl : List Nat) (n k0 : Nat) (w : World) (hv : OStr w v (mkS k0 n) bl) (hn : n ≤ 268435456) (h1 : 1 ≤ k0) (h2 : k0 ≤ 1099200000000) :
    Calls Tryz.prog 28 #[v, .int .i64 k0] w fun e w' => e = .returned (.int .i64 (k0 + n : Nat)) ∧ Below w.heap.size w w' := by
  have h := (ostr_iff.1 hv).1
  rw [mkS_len, marks_mkS] at h
  exact heldS_walk 0 v n k0 w h hn h1 h2

/-- Rows marked from k on, by what marks an element and how many marks it takes. -/
def mkRow {α : Type} (f : Nat → α → α) (c : α → Nat) : Nat → List α → List α
  | _, [] => []
  | k, x :: r => f k x :: mkRow f c (k + c x) r
def cntR {α : Type} (c : α → Nat) (l : List α) : Nat := (l.map c).sum
theorem mkRow_len {α : Type} (f : Nat → α → α) (c : α → Nat) : ∀ (l : List α) (k : Nat), (mkRow f c k l).length = l.length
  | [], _ => rfl
  | x :: r, k => by rw [mkRow, List.length_cons, mkRow_len f c r, List.length_cons]
theorem mkRow_snoc {α : Type} (f : Nat → α → α) (c : α → Nat) (x : α) : ∀ (l : List α) (k : Nat), mkRow f c k (l ++ [x]) = mkRow f c k l ++ [f (k + cntR c l) x]
  | [], k => by simp [mkRow, cntR]
  | y :: r, k => by
    rw [List.cons_append, mkRow, mkRow, mkRow_snoc f c x r, List.cons_append]
    unfold cntR
    rw [List.map_cons, List.sum_cons, Nat.add_assoc]
/-- A row under way. -/
def mkRowAt {α : Type} (f : Nat → α → α) (c : α → Nat) (k : Nat) (l : List α) (j : Nat) : List α := mkRow f c k (l.take j) ++ l.drop j
section
variable {α : Type} {f : Nat → α → α} {c : α → Nat} {k : Nat} {l : List α} {j : Nat}
theorem mkRowAt_0 : mkRowAt f c k l 0 = l := by simp [mkRowAt, mkRow]
theorem mkRowAt_all : mkRowAt f c k l l.length = mkRow f c k l := by simp [mkRowAt]
theorem mkRowAt_at (h : j < l.length) : (mkRowAt f c k l j)[j]? = some l[j] := by
  have hl : (mkRow f c k (l.take j)).length = j := by rw [mkRow_len, List.length_take]; omega
  unfold mkRowAt
  rw [List.getElem?_append_right (by omega), hl, Nat.sub_self, List.getElem?_drop]
  simp [h]
theorem mkRowAt_set (h : j < l.length) (x : α) : (mkRowAt f c k l j).set j x = mkRow f c k (l.take j) ++ x :: l.drop (j + 1) := by
  have hl : (mkRow f c k (l.take j)).length = j := by rw [mkRow_len, List.length_take]; omega
  unfold mkRowAt
  rw [List.set_append_right _ _ (by omega), hl, Nat.sub_self, List.drop_eq_getElem_cons h, List.set_cons_zero]
theorem mkRowAt_succ (h : j < l.length) : mkRow f c k (l.take j) ++ f (k + cntR c (l.take j)) l[j] :: l.drop (j + 1) = mkRowAt f c k l (j + 1) := by
  unfold mkRowAt
  rw [List.take_succ_eq_append_getElem h, mkRow_snoc, List.append_assoc]; rfl
theorem cnt_succ (h : j < l.length) : cntR c (l.take (j + 1)) = cntR c (l.take j) + c l[j] := by
  exact sum_take_snoc c l j l[j] (List.getElem?_eq_getElem h)
theorem cnt_le : cntR c (l.take j) ≤ cntR c l := by
  unfold cntR
  rw [List.map_take]; exact sum_take_le _ _
theorem mkRow_at (h : j < l.length) : (mkRow f c k l)[j]? = some (f (k + cntR c (l.take j)) l[j]) := by
  induction l generalizing j k with
  | nil => simp at h
  | cons x r ih =>
    cases j with
    | zero => simp [mkRow, cntR]
    | succ j =>
      rw [mkRow, List.getElem?_cons_succ, ih (by simpa using h), List.take_succ_cons, List.getElem_cons_succ]
      unfold cntR
      rw [List.map_cons, List.sum_cons, Nat.add_assoc]
theorem mid_at {A B : List α} {x : α} (h : A.length = j) : (A ++ x :: B)[j]? = some x := by
  rw [List.getElem?_append_right (by omega), h, Nat.sub_self]; rfl
theorem mid_set {A B : List α} {x : α} (h : A.length = j) (y : α) : (A ++ x :: B).set j y = A ++ y :: B := by
  rw [List.set_append_right _ _ (by omega), h, Nat.sub_self, List.set_cons_zero]
theorem cell_set_off (w : World) (g i j : Nat) (v : Value) (h : i ≠ j) : (w.setCell ⟨g, i, none⟩ v).cell? ⟨g, j, none⟩ = w.cell? ⟨g, j, none⟩ := World.cell?_setCell_other _ _ _ _ (by intro e; injection e with _ e; exact h e)
theorem mkRow_take_len (h : j < l.length) : (mkRow f c k (l.take j)).length = j := by rw [mkRow_len, List.length_take]; omega
end
def cntMsg (m : Msg) : Nat := m.ptrs.length + 2
def mkMsg (k : Nat) (m : Msg) : Msg := ⟨(k : Int), mkS (k + 1) m.ptrs.length, ((k : Int) + 1 + (m.ptrs.length : Int)) % 3 == 0⟩

end Go.Proofs.YtcjajchfjoffnaaGreatDoor

namespace Go.Proofs.YtcjajchfjoffnaaGreatDoor
open Go.RowKit

def cntVer (m : Ver) : Nat := m.touched.length + 2
def mkVer (k : Nat) (m : Ver) : Ver := ⟨(k : Int), mkText (k + 1), mkS (k + 1 + 1) m.touched.length⟩
theorem vers_len {ms : List Ver} (hn : szVers ms ≤ 268435456) (k : Nat) (hk : k < ms.length) : ms[k].touched.length ≤ 268435456 := by
  have h1 := sum_take_snoc szVer ms k ms[k] (List.getElem?_eq_getElem hk)
  have h2 := sum_take_le (ms.map szVer) (k + 1)
  rw [← List.map_take] at h2
  unfold szVers at hn
  have h3 : ms[k].touched.length ≤ szVer ms[k] := by unfold szVer szStr; omega
  omega
set_option maxRecDepth 100000 in
set_option maxHeartbeats 1600000 in
theorem markVers_walk (v : Value) (ms : List Ver) (bl : List Nat) (k0 : Nat) (w : World) (hv : ORow verE w v ms bl) (hd : bl.Nodup) (hn : szVers ms ≤ 268435456) (h2 : k0 + cntR cntVer ms ≤ 1099200000000) :
    Calls Tryz.prog 38 #[v, .int .i64 k0] w fun e w' => e = .returned (.int .i64 (k0 + cntR cntVer ms : Nat)) ∧ ORow verE w' v (mkRow mkVer cntVer k0 ms) bl ∧ Fr bl w w' := by
  have hln : ms.length ≤ 268435456 := by unfold szVers at hn; omega
  have HSZ := hide (vers_len hn)
  obtain ⟨a, cap, rfl, hform, hsh⟩ := hv.form
  clear hform
  have HV := hide hv
  have HD := hide hd
  clear hv hd hn
  go_enter Tryz.func38, Tryz.ntmps38
  go_wp2
  go_loopw [1, 5] (fun q i wr => ∃ (j : Nat), j ≤ ms.length ∧ i = .int .i64 j ∧ q = .int .i64 (k0 + cntR cntVer (ms.take j) : Nat) ∧ Fr bl w wr ∧ ORow verE wr (.slice a ms.length cap) (mkRowAt mkVer cntVer k0 ms j) bl) (fun _ i _ => ms.length - (intOf i).toNat)
  case atStart => exact ⟨0, Nat.zero_le _, rfl, by simp [cntR], Fr.refl _ _, by rw [mkRowAt_0]; exact unhide HV⟩
  case round =>
    obtain ⟨j, hj, rfl, rfl, hb, ho⟩ := hrel
    by_cases hlt : j < ms.length
    · obtain ⟨g, rfl⟩ := hsh (by omega)
      have hle := cnt_le (c := cntVer) (l := ms) (j := j)
      have hle2 := cnt_le (c := cntVer) (l := ms) (j := j + 1)
      rw [cnt_succ hlt] at hle2
      have hcm : cntVer ms[j] = ms[j].touched.length + 2 := rfl
      have hpl := unhide HSZ j hlt
      have hs := cnt_succ (c := cntVer) hlt
      have hnx := mkRowAt_succ (f := mkVer) (c := cntVer) (k := k0) hlt
      have hset := fun x => mkRowAt_set (f := mkVer) (c := cntVer) (k := k0) hlt x
      have hat := mkRowAt_at (f := mkVer) (c := cntVer) (k := k0) hlt
      generalize hK : k0 + cntR cntVer (ms.take j) = K at *
      generalize ms[j] = m at *
      -- the number is marked
      obtain ⟨vs, ib, hE, hc, hx1, hg, hx2⟩ := ho.at hat
      obtain ⟨q, rfl, hq⟩ := hE
      have c0 : wr.cell? ⟨g, j * 3, none⟩ = _ := (hc 0 _ rfl).1
      have f0 : wr.frozen? ⟨g, j * 3, none⟩ = _ := (hc 0 _ rfl).2
      have p1 : ORow verE (wr.setCell ⟨g, j * 3, none⟩ (.int .i64 (K : Int))) _ _ bl := ho.put (unhide HD) hat 0 (by decide) (.int .i64 (K : Int)) ⟨(K : Int), m.doc, m.touched⟩ (fun w' vs ib h => by obtain ⟨q, rfl, h⟩ := h; exact ⟨q, rfl, h⟩)
      rw [hset] at p1
      have fr1 := hb.set hg (j * 3) (.int .i64 (K : Int))
      have hA := mkRow_take_len (f := mkVer) (c := cntVer) (k := k0) hlt
      generalize mkRow mkVer cntVer k0 (ms.take j) = A at *
      generalize ms.drop (j + 1) = B at *
      have HM := hide (mark_walk (K + 1) (wr.setCell ⟨g, j * 3, none⟩ (.int .i64 (K : Int))) (by omega) (by omega))
      have HFR := hide fr1
      have HP1 := hide p1
      have HHG := hide hg
      have HNX := hide hnx
      have HS := hide hs
      have HA := hide hA
      have HK := hide hK
      have HLE := hide hle2
      have hKb : K + 2 + m.touched.length ≤ 1099200000000 := by omega
      have HKB := hide hKb
      have hKc : K ≤ 1099200000000 := by omega
      have HQL := hide hpl
      clear ho hb hc p1 fr1 hq hset hat hg hnx hs hA hK hle hle2 hcm h2 hx1 hx2 hsh hKb hpl
      go_wp2_with fail
      refine (unhide HM).mono ?_
      rintro e w2 ⟨rfl, b2⟩
      have o2 := (unhide HP1).below b2
      obtain ⟨vs2, kb, hE2, hc2, hy1, hg, hy2⟩ := o2.at (mid_at (unhide HA))
      obtain ⟨q2, rfl, hq2⟩ := hE2
      have d1 : w2.cell? ⟨g, j * 3 + 1, none⟩ = _ := (hc2 1 _ rfl).1
      have d2 : w2.cell? ⟨g, j * 3 + 2, none⟩ = some q2 := (hc2 2 _ rfl).1
      have e1 : w2.frozen? ⟨g, j * 3 + 1, none⟩ = _ := (hc2 1 _ rfl).2
      have p2 : ORow verE (w2.setCell ⟨g, j * 3 + 1, none⟩ (.string (mkText (K + 1)))) _ _ bl := o2.put (unhide HD) (mid_at (unhide HA)) 1 (by decide) (.string (mkText (K + 1))) ⟨(K : Int), mkText (K + 1), m.touched⟩ (fun w' vs ib h => by obtain ⟨q, rfl, h⟩ := h; exact ⟨q, rfl, h⟩)
      rw [mid_set (unhide HA)] at p2
      have fr5 := ((unhide HFR).next b2).set hg (j * 3 + 1) (.string (mkText (K + 1)))
      obtain ⟨vs5, jb, hE5, hc5, hjs, hz1, hjd, hclose⟩ := p2.inner (unhide HD) (mid_at (unhide HA))
      obtain ⟨q5, rfl, hq5⟩ := hE5
      have hqq : q5 = q2 := by
        have c5 : (w2.setCell ⟨g, j * 3 + 1, none⟩ (.string (mkText (K + 1)))).cell? ⟨g, j * 3 + 2, none⟩ = some q5 := (hc5 2 _ rfl).1
        rw [cell_set_off _ _ _ _ _ (by omega), d2] at c5
        exact (Option.some.inj c5).symm
      subst hqq
      have HM2 := hide (markStr_walk q5 m.touched jb (K + 1 + 1) _ hq5 hjd (unhide HQL) (by omega) (by have := unhide HKB; omega))
      have HFR5 := hide fr5
      have HCL := hide hclose
      have HJS := hide hjs
      clear HM HFR HP1 b2 o2 hc2 hy1 hg hy2 hq2 p2 fr5 hc5 hjs hz1 hjd hclose hq5 c0 f0
      go_wp2_with fail
      refine (unhide HM2).mono ?_
      rintro e w3 ⟨rfl, ho3, fr3⟩
      have o3 := unhide HCL w3 (mkVer K m) fr3 ⟨q5, rfl, ho3⟩
      rw [mid_set (unhide HA), unhide HNX] at o3
      have HP2 := hide o3
      have HFR2 := hide ((unhide HFR5).trans (fr3.mono (unhide HJS)))
      have hKB := unhide HKB
      clear HM2 HCL HFR5 HJS ho3 fr3 o3 d1 d2 e1
      go_wp2
      go_roundw
      case rel =>
        have hk1 := unhide HK
        have hk2 := unhide HS
        have hk3 : cntVer m = m.touched.length + 2 := rfl
        exact ⟨j + 1, by omega, by go_num, by rw [hk2, hk3, ← hk1]; go_num, unhide HFR2, unhide HP2⟩
      case measure => simp [intOf]; omega
    · have hjn : j = ms.length := by omega
      subst hjn
      rw [mkRowAt_all] at ho
      rw [List.take_length]
      go_wp2
      go_ret
      exact ⟨rfl, ho, hb⟩
set_option maxRecDepth 100000 in
set_option maxHeartbeats 1600000 in
theorem heldVers_walk (v : Value) (ms : List Ver) (bl : List Nat) (k0 : Nat) (w : World) (hv : ORow verE w v (mkRow mkVer cntVer k0 ms) bl) (hn : szVers ms ≤ 268435456) (h2 : k0 + cntR cntVer ms ≤ 1099200000000) :
    Calls Tryz.prog 39 #[v, .int .i64 k0] w fun e w' => e = .returned (.int .i64 (k0 + cntR cntVer ms : Nat)) ∧ Below w.heap.size w w' := by
  have hln : ms.length ≤ 268435456 := by unfold szVers at hn; omega
  have HSZ := hide (vers_len hn)
  obtain ⟨a, cap, rfl, hform, hsh⟩ := hv.form
  rw [mkRow_len] at hsh
  have HV := hide hv
  have HSH := hide hsh
  rw [mkRow_len] at HV ⊢
  clear hv hn hform hsh
  go_enter Tryz.func39, Tryz.ntmps39
  go_wp2
  go_loopw [1, 5] (fun q i wr => ∃ (j : Nat), j ≤ ms.length ∧ i = .int .i64 j ∧ q = .int .i64 (k0 + cntR cntVer (ms.take j) : Nat) ∧ Below w.heap.size w wr) (fun _ i _ => ms.length - (intOf i).toNat)
  case atStart => exact ⟨0, Nat.zero_le _, rfl, by simp [cntR], Below.refl _ _⟩
  case round =>
    obtain ⟨j, hj, rfl, rfl, hb⟩ := hrel
    by_cases hlt : j < ms.length
    · obtain ⟨g, rfl⟩ := unhide HSH (by omega)
      have hle2 := cnt_le (c := cntVer) (l := ms) (j := j + 1)
      rw [cnt_succ hlt] at hle2
      have hcm : cntVer ms[j] = ms[j].touched.length + 2 := rfl
      have hpl := unhide HSZ j hlt
      have hs := cnt_succ (c := cntVer) hlt
      have hat := mkRow_at (f := mkVer) (c := cntVer) (k := k0) hlt
      generalize hK : k0 + cntR cntVer (ms.take j) = K at *
      generalize ms[j] = m at *
      obtain ⟨vs, ib, hE, hc, hx1, hg, hx2⟩ := ((unhide HV).below hb).at hat
      obtain ⟨q, rfl, hq⟩ := hE
      have c0 : wr.cell? ⟨g, j * 3, none⟩ = some (.int .i64 (K : Int)) := (hc 0 _ rfl).1
      have c1 : wr.cell? ⟨g, j * 3 + 1, none⟩ = some (.string (mkText (K + 1))) := (hc 1 _ rfl).1
      have c2 : wr.cell? ⟨g, j * 3 + 2, none⟩ = some q := (hc 2 _ rfl).1
      have HM := hide (mark_walk (K + 1) wr.drew (by omega) (by omega))
      have hKb : K + 2 + m.touched.length ≤ 1099200000000 := by omega
      have HM2 : Hid (∀ wx, Below wr.heap.size wr wx → Calls _ _ _ wx _) := fun wx hx => heldStr_walk q ib m.touched.length (K + 1 + 1) wx (hq.below hx) hpl (by omega) (by omega)
      have HB := hide hb
      have HS := hide hs
      have HK := hide hK
      have hgr : g < wr.heap.size := World.block_lt_of_cell? _ _ c0
      have hKc : K ≤ 1099200000000 := by omega
      have HKB := hide hKb
      clear hx1 hx2 hc hq hb hat hle2 hcm hs hK hg h2 hKb hpl
      go_wp2
      go_region_law (go_simp; refine (unhide HM).mono ?_; rintro e w1 ⟨rfl, b1⟩; have bx : Below wr.heap.size wr w1 := ((Below.refl _ _).drew).trans (b1.mono (by simp)); have d1 := (bx.cell (p := ⟨g, j * 3 + 1, none⟩) hgr).trans c1)
      all_goals (
        have d2 := (bx.cell (p := ⟨g, j * 3 + 2, none⟩) hgr).trans c2
        have HM3 := hide (unhide HM2 w1 bx)
        have HB1 := hide (below_next (unhide HB) bx)
        clear HM HM2 HB b1 bx c0 c1 c2 d1
        go_wp2_with fail
        refine (unhide HM3).mono ?_
        rintro e w2 ⟨rfl, b2⟩
        have HB2 := hide (below_next (unhide HB1) b2)
        have hKB := unhide HKB
        clear HM3 HB1 b2 d2
        go_wp2)
      all_goals go_roundw
      all_goals first
        | (refine ⟨j + 1, by omega, by go_num, ?_, unhide HB2⟩
           have hk1 := unhide HK
           have hk2 := unhide HS
           have hk3 : cntVer m = m.touched.length + 2 := rfl
           rw [hk2, hk3, ← hk1]; go_num)
        | (simp [intOf]; omega)
    · have hjn : j = ms.length := by omega
      subst hjn
      rw [List.take_length]
      go_wp2
      go_ret
      exact ⟨rfl, hb⟩
/-- A store that is owned. -/
def OSto (w : World) (v : Value) (h : List Ver) (bl : List Nat) : Prop := ∃ p, v = .agg #[p] ∧ ORow verE w p h bl
theorem OSto.below {w w' : World} {v : Value} {h : List Ver} {bl : List Nat} (ho : OSto w v h bl) (hb : Below w.heap.size w w') : OSto w' v h bl := by
  obtain ⟨p, hv, h1⟩ := ho
  exact ⟨p, hv, h1.below hb⟩
set_option maxRecDepth 100000 in
set_option maxHeartbeats 800000 in
theorem markSto_walk (v : Value) (h : List Ver) (bl : List Nat) (w : World) (hv : OSto w v h bl) (hd : bl.Nodup) (hn : szVers h ≤ 268435456) (k0 : Nat) (h2 : k0 + cntR cntVer h ≤ 1099200000000) :
    Calls Tryz.prog 12 #[v, .int .i64 k0] w fun e w' => e = .returned (.int .i64 (k0 + cntR cntVer h : Nat)) ∧ OSto w' v (mkRow mkVer cntVer k0 h) bl ∧ Fr bl w w' := by
  obtain ⟨p, rfl, o1⟩ := hv
  have O1 := hide o1
  have D1 := hide hd
  clear o1 hd
  go_enter Tryz.func12, Tryz.ntmps12
  go_wp2_with fail
  refine (markVers_walk p h bl k0 _ ((unhide O1).below (alloc_b w _)) (unhide D1) hn h2).mono ?_
  rintro e w1 ⟨rfl, p1, f1⟩
  have HP : Hid (OSto w1 (.agg #[p]) (mkRow mkVer cntVer k0 h) bl) := ⟨p, rfl, p1⟩
  have HF := hide ((Fr.of_below (bl := bl) (alloc_b w _)).trans f1)
  clear p1 f1 O1 D1
  go_wp2
  go_ret
  exact ⟨rfl, unhide HP, unhide HF⟩
set_option maxRecDepth 100000 in
set_option maxHeartbeats 800000 in
theorem heldSto_walk (v : Value) (h : List Ver) (bl : List Nat) (w : World) (k0 : Nat) (hv : OSto w v (mkRow mkVer cntVer k0 h) bl) (hn : szVers h ≤ 268435456) (h2 : k0 + cntR cntVer h ≤ 1099200000000) :
    Calls Tryz.prog 13 #[v, .int .i64 k0] w fun e w' => e = .returned (.int .i64 (k0 + cntR cntVer h : Nat)) ∧ Below w.heap.size w w' := by
  obtain ⟨p, rfl, o1⟩ := hv
  have O1 := hide o1
  clear o1
  go_enter Tryz.func13, Tryz.ntmps13
  go_wp2_with fail
  refine (heldVers_walk p h bl k0 _ ((unhide O1).below (alloc_b w _)) hn h2).mono ?_
  rintro e w1 ⟨rfl, b1⟩
  have HB := hide (below_next (alloc_b w _) b1)
  clear b1 O1
  go_wp2
  go_ret
  exact ⟨rfl, unhide HB⟩
set_option maxRecDepth 100000 in
set_option maxHeartbeats 800000 in
theorem eqSto_walk (v v' : Value) (h : List Ver) (bl bl' : List Nat) (w : World) (hv : OSto w v h bl) (hv' : OSto w v' h bl') :
    Calls Tryz.prog 11 #[v, v'] w fun e w' => e = .returned (.bool true) ∧ Below w.heap.size w w' := by
  obtain ⟨p, rfl, o1⟩ := hv
  obtain ⟨q, rfl, o2⟩ := hv'
  have O1 := hide o1
  have O2 := hide o2
  clear o1 o2
  go_enter Tryz.func11, Tryz.ntmps11
  go_wp2_with fail
  have hB : Below w.heap.size w ((w.alloc (.cells #[p] 24)).alloc (.cells #[q] 24)) := below_next (alloc_b w _) (alloc_b _ _)
  refine (eqVers_walk p q h bl bl' _ ((unhide O1).below hB) ((unhide O2).below hB)).mono ?_
  rintro e w1 ⟨rfl, b1⟩
  have HB := hide (below_next hB b1)
  clear b1 O1 O2 hB
  go_wp2
  go_ret
  exact ⟨rfl, unhide HB⟩
end Go.Proofs.YtcjajchfjoffnaaGreatDoor

namespace Go.Proofs.YtcjajchfjoffnaaGreatDoor
open Go.RowKit

set_option maxRecDepth 100000 in
set_option maxHeartbeats 800000 in
theorem szVer_walk (a0 a1 a2 : Value) (m : Ver) (L : Nat) (w : World) (h : verR.R w [a0, a1, a2] m) (hL : L ≤ 1048576) :
    Calls Tryz.prog 79 #[.agg #[a0, a1, a2], .int .i64 L] w fun e w' => e = .returned (.int .i64 (szI L (szVer m))) ∧ Below w.heap.size w w' := by
  obtain ⟨q, hq, h0, h1⟩ := h
  injection hq with e0 hq; injection hq with e1 hq; injection hq with e2 hq
  subst e0; subst e1; subst e2
  clear hq
  unfold maxLen at h0
  by_cases n1 : m.doc.size ≤ L
  · have H1 : Hid (∀ o, Calls _ _ _ (w.alloc o) _) := fun o => szStr_walk a2 m.touched (L - m.doc.size) _ (h1.below (alloc_b w o)) (by omega)
    have hZ : szI L (szVer m) = szI (L - m.doc.size) (szStr m.touched) := by
      unfold szVer szI
      by_cases hz : szStr m.touched ≤ L - m.doc.size
      · rw [if_pos hz, if_pos (by omega)]; omega
      · rw [if_neg hz, if_neg (by omega)]
    rw [hZ]
    have hge := szI_ge (L - m.doc.size) (szStr m.touched)
    have hle := szI_le (L - m.doc.size) (szStr m.touched)
    have hLI : ((L - m.doc.size : Nat) : Int) = (L : Int) - (m.doc.size : Int) := by omega
    rw [hLI] at H1 hle
    generalize szI (L - m.doc.size) (szStr m.touched) = z at *
    clear h1 hZ hLI
    go_enter Tryz.func79, Tryz.ntmps79
    go_wp2_with fail
    refine (unhide H1 _).mono ?_
    rintro e w1 ⟨rfl, b1⟩
    have B1 := hide (below_next (alloc_b w _) b1)
    clear b1 H1
    by_cases hz : z < 0
    · have : z = -1 := by omega
      subst this
      clear hz hge hle
      go_wp2
      go_ret
      exact ⟨rfl, unhide B1⟩
    · go_wp2
      go_ret
      exact ⟨rfl, unhide B1⟩
  · rw [szI_no (by unfold szVer; omega)]
    go_enter Tryz.func79, Tryz.ntmps79
    go_wp2
    go_ret
    exact ⟨rfl, alloc_b w _⟩
set_option maxRecDepth 100000 in
set_option maxHeartbeats 800000 in
theorem szVers_walk (v : Value) (ms : List Ver) (L : Nat) (w : World) (h : RRow verR w v ms) (hL : L ≤ 1048576) :
    Calls Tryz.prog 40 #[v, .int .i64 L] w fun e w' => e = .returned (.int .i64 (szI L (szVers ms))) ∧ Below w.heap.size w w' := by
  have H := hide h
  obtain ⟨hm, a, cap, rfl, hrow⟩ := h
  unfold maxLen at hm
  clear hrow
  by_cases h0 : L < ms.length
  · go_enter Tryz.func40, Tryz.ntmps40
    go_wp2
    go_ret
    exact ⟨ret_int (szI_no (by unfold szVers; omega)).symm, Below.refl _ _⟩
  · go_enter Tryz.func40, Tryz.ntmps40
    go_wp2
    go_loopw [1, 5] (fun l i wr => ∃ k : Nat, k ≤ ms.length ∧ i = .int .i64 k ∧ ms.length + ((ms.take k).map szVer).sum ≤ L ∧ l = .int .i64 ((L - (ms.length + ((ms.take k).map szVer).sum) : Nat) : Int) ∧ Below w.heap.size w wr) (fun _ i _ => ms.length - (intOf i).toNat)
    case atStart => exact ⟨0, Nat.zero_le _, rfl, by simp; omega, by simp; omega, Below.refl _ _⟩
    case round =>
      obtain ⟨k, hk, rfl, hle, rfl, hb⟩ := hrel
      by_cases hlt : k < ms.length
      · have ht := sum_take_snoc szVer ms k ms[k] (List.getElem?_eq_getElem hlt)
        have hts := sum_take_le (ms.map szVer) (k + 1)
        rw [← List.map_take] at hts
        obtain ⟨_, a', cap', he, hrow⟩ := (unhide H).below hb
        injection he with he1 he2 he3; subst he1; subst he3; clear he2
        obtain ⟨b, o, rfl, vs, hR, hc⟩ := hrow k ms[k] (List.getElem?_eq_getElem hlt)
        obtain ⟨a0, a1, a2, rfl⟩ := list3 (verR.len hR)
        have c0 : wr.cell? ⟨b, o + k * 3, none⟩ = _ := hc 0 _ rfl
        have c1 : wr.cell? ⟨b, o + k * 3 + 1, none⟩ = _ := hc 1 _ rfl
        have c2 : wr.cell? ⟨b, o + k * 3 + 2, none⟩ = _ := hc 2 _ rfl
        have HM := hide (szVer_walk a0 a1 a2 ms[k] (L - (ms.length + ((ms.take k).map szVer).sum)) wr hR (by omega))
        clear hrow hc hR
        have HS : Hid (szVers ms = ms.length + (ms.map szVer).sum) := rfl
        generalize (ms.map szVer).sum = T9 at *
        generalize ((ms.take k).map szVer).sum = T at *
        have hT2 : ∃ T2, ((ms.take (k + 1)).map szVer).sum = T2 := ⟨_, rfl⟩
        obtain ⟨T2, hT2⟩ := hT2
        rw [hT2] at ht hts
        have HT := hide hT2
        clear hT2
        generalize szVer ms[k] = z at *
        by_cases hn : ms.length + T + z ≤ L
        · rw [szI_ok (by omega)] at HM
          go_wp2_with fail
          refine (unhide HM).mono ?_
          rintro e w1 ⟨rfl, b1⟩
          have B1 := hide (below_next hb b1)
          clear HM b1 hb c0 c1 c2
          go_wp2
          go_roundw
          case rel => exact ⟨k + 1, by omega, by go_num, by rw [unhide HT]; omega, by rw [unhide HT]; go_num, unhide B1⟩
          case measure => simp [intOf]; omega
        · rw [szI_no (by omega)] at HM
          go_wp2_with fail
          refine (unhide HM).mono ?_
          rintro e w1 ⟨rfl, b1⟩
          have B1 := hide (below_next hb b1)
          clear HM b1 hb c0 c1 c2
          go_wp2
          go_ret
          exact ⟨ret_int (szI_no (by rw [unhide HS]; omega)).symm, unhide B1⟩
      · have hk' : k = ms.length := by omega
        subst hk'
        rw [List.take_length] at hle ⊢
        go_wp2
        go_ret
        exact ⟨ret_int (szI_ok (n := szVers ms) hle).symm, hb⟩
set_option maxRecDepth 100000 in
set_option maxHeartbeats 1600000 in
theorem toVer_walk (a0 a1 a2 : Value) (m : Ver) (w : World) (h : verR.R w [a0, a1, a2] m) (hs : szVer m ≤ 1048576) :
    Calls Tryz.prog 82 #[.agg #[a0, a1, a2]] w fun e w' => ∃ b0 b1 b2 ib, e = .returned (.agg #[b0, b1, b2]) ∧ verE.E w' [b0, b1, b2] m ib ∧ Fsh (w.heap.size + 1) ib ∧ Below w.heap.size w w' := by
  obtain ⟨q, hq, _, h1⟩ := h
  injection hq with e0 hq
  subst e0
  injection hq with e1 hq
  subst e1
  injection hq with e2 hq
  subst e2
  have hl : m.touched.length ≤ 1048576 := by unfold szVer szStr at hs; omega
  clear hs hq
  have H1 := hide h1
  clear h1
  go_enter Tryz.func82, Tryz.ntmps82
  go_wp2_with fail
  have hA := new3 w (Obj.cells #[Value.int IntKind.i64 m.no, Value.string m.doc, a2] 129) (Obj.cells #[Value.int IntKind.i64 0, Value.string ⟨#[]⟩, Value.slice none 0 0] 58) (Obj.cells #[Value.int IntKind.i64 m.no, Value.string m.doc, Value.slice none 0 0] 58)
  generalize (((w.alloc (Obj.cells #[Value.int IntKind.i64 m.no, Value.string m.doc, a2] 129)).alloc (Obj.cells #[Value.int IntKind.i64 0, Value.string ⟨#[]⟩, Value.slice none 0 0] 58)).alloc (Obj.cells #[Value.int IntKind.i64 m.no, Value.string m.doc, Value.slice none 0 0] 58)) = wA at *
  refine (toStr_walk a2 m.touched wA ((unhide H1).below hA.bel) hl).mono ?_
  rintro e w1 ⟨v', bl, rfl, ho, hf, b1⟩
  obtain ⟨xa, xc, rfl, _, _⟩ := ho.form
  have hsz := hA.size
  have k0 := (b1.block w.heap.size (by omega)).trans hA.k0
  have k1 := (b1.block (w.heap.size + 1) (by omega)).trans hA.k1
  have k2 := (b1.block (w.heap.size + 1 + 1) (by omega)).trans hA.k2
  have c20 : w1.cell? ⟨w.heap.size + 1 + 1, 0, none⟩ = some (.int .i64 m.no) := Lib.cell_of_heap k2 0
  have c21 : w1.cell? ⟨w.heap.size + 1 + 1, 1, none⟩ = some (.string m.doc) := Lib.cell_of_heap k2 1
  have c22 : w1.cell? ⟨w.heap.size + 1 + 1, 2, none⟩ = some (.slice none 0 0) := Lib.cell_of_heap k2 2
  have c10 : w1.cell? ⟨w.heap.size + 1, 0, none⟩ = some (.int .i64 0) := Lib.cell_of_heap k1 0
  have c11 : w1.cell? ⟨w.heap.size + 1, 1, none⟩ = some (.string ⟨#[]⟩) := Lib.cell_of_heap k1 1
  have c12 : w1.cell? ⟨w.heap.size + 1, 2, none⟩ = some (.slice none 0 0) := Lib.cell_of_heap k1 2
  have f2 := Lib.frozen_of_heap k2
  have f1 := Lib.frozen_of_heap k1
  have HB := hide (below_next hA.bel b1)
  have HO := hide ho
  have HF := hide hf
  have HK := hide k1
  clear b1 ho hf hA H1 k0 k1 k2
  go_wp2
  refine bodyPost_ret (results_cell_row rfl _ _ (w.heap.size + 1) 58 #[_, _, _] (0, 0) _ rfl (putN_full (w := putN w1 (w.heap.size + 1 + 1) 2 [_]) ((putN_other (by omega) _ _).trans (unhide HK)) [_, _, _] rfl) Tryz.underlying58 rfl (by kernel_rfl)) rfl ?_
  have n1 := (unhide HF).not (g := w.heap.size + 1) (by omega)
  have n2 := (unhide HF).not (g := w.heap.size + 1 + 1) (by omega)
  refine ⟨_, _, _, bl, rfl, ⟨_, rfl, ((unhide HO).putN n2 [_] 2).putN n1 [_, _, _] 0⟩, (unhide HF).mono (by omega), ?_⟩
  exact putN_below (g := w.heap.size + 1) (putN_below (g := w.heap.size + 1 + 1) (unhide HB) (by omega) [_] 2) (by omega) [_, _, _] 0
theorem infoVer : (Tryz.prog.info? 58).map (fun i => (i.zero, i.size, i.bytes)) = some (some (.agg #[.int .i64 0, .string ByteArray.empty, .slice none 0 0]), 3, 48) := by kernel_rfl
set_option maxRecDepth 100000 in
set_option maxHeartbeats 1600000 in
theorem toVers_walk (v : Value) (ms : List Ver) (w : World) (h : RRow verR w v ms) (hs : szVers ms ≤ 1048576) :
    Calls Tryz.prog 42 #[v] w fun e w' => ∃ v' bl, e = .returned v' ∧ ORow verE w' v' ms bl ∧ Fsh w.heap.size bl ∧ Below w.heap.size w w' := by
  have hl : ms.length ≤ 1048576 := by unfold szVers at hs; omega
  have hsz : ∀ k (hk : k < ms.length), szVer ms[k] ≤ 1048576 := fun k hk => by
    have h1 := sum_take_snoc szVer ms k ms[k] (List.getElem?_eq_getElem hk)
    have h2 := sum_take_le (ms.map szVer) (k + 1)
    rw [← List.map_take] at h2
    unfold szVers at hs; omega
  have HZ := hide hsz
  clear hs hsz
  have H := hide h
  obtain ⟨hm, a, cap, rfl, hrow⟩ := h
  clear hrow hm
  obtain ⟨i0, hi, hz0, hz1, hz2⟩ := info_parts infoVer
  go_enter Tryz.func42, Tryz.ntmps42
  go_wp2_with (at_make; refine wpList_make_full _ rfl _ _ 22 rfl 0 58 i0 (.agg #[.int .i64 0, .string ByteArray.empty, .slice none 0 0]) 3 Tryz.underlying22 hi hz0 hz1 .i64 .i64 _ _ ms.length rfl rfl rfl rfl (by rw [hz2]; omega) (by unfold maxLen; omega) (Nat.zero_le _) ?_)
  intro w1 hown hgrow
  have hbel : Below w.heap.size w w1 := (Below.refl _ _).grown hgrow (Nat.le_refl _) (by intro k hk; cases hk)
  have hP : PRow verE w1 w.heap.size ms.length ms.length [] [] := PRow.start hown
  have hg1 := hP.lt.1
  have HP := hide hP
  have HB := hide hbel
  clear hgrow hi hz0 hz1 hz2 hown hP hbel
  go_wp2
  go_loopw [4] (fun i wr => ∃ k : Nat, k ≤ ms.length ∧ i = .int .i64 k ∧ Below w.heap.size w wr ∧ ∃ bl, PRow verE wr w.heap.size ms.length ms.length (ms.take k) bl ∧ Fsh (w.heap.size + 1) bl) (fun i _ => ms.length - (intOf i).toNat)
  case atStart => exact ⟨0, Nat.zero_le _, rfl, unhide HB, [], unhide HP, Fsh.nil _⟩
  case round =>
    obtain ⟨k, hk, rfl, hb, bl, hP, hF⟩ := hrel
    by_cases hlt : k < ms.length
    · have hgr := hP.lt.1
      obtain ⟨_, a', cap', he, hrow⟩ := (unhide H).below hb
      injection he with he1 he2 he3; subst he1; subst he3; clear he2
      obtain ⟨b, o, rfl, vs, hR, hc⟩ := hrow k ms[k] (List.getElem?_eq_getElem hlt)
      obtain ⟨a0, a1, a2, rfl⟩ := list3 (verR.len hR)
      have c0 : wr.cell? ⟨b, o + k * 3, none⟩ = _ := hc 0 _ rfl
      have c1 : wr.cell? ⟨b, o + k * 3 + 1, none⟩ = _ := hc 1 _ rfl
      have c2 : wr.cell? ⟨b, o + k * 3 + 2, none⟩ = _ := hc 2 _ rfl
      have HM := hide (toVer_walk a0 a1 a2 ms[k] wr hR (unhide HZ k hlt))
      have hkl : (ms.take k).length = k := by rw [List.length_take]; omega
      have HPR := hide hP
      have HFB := hide hF
      have HBR := hide hb
      have HKL := hide hkl
      clear hrow hc hR hP hF hb hkl
      go_wp2_with fail
      refine (unhide HM).mono ?_
      rintro e w2 ⟨b0, b1, y2, ib, rfl, hE, hFi, b2⟩
      have P2 := (unhide HPR).below b2
      have hkl := unhide HKL
      have hlt' : (ms.take k).length < ms.length := by rw [hkl]; exact hlt
      obtain ⟨u0, d0⟩ := P2.cell hlt' 0 (by decide)
      rw [hkl] at d0
      have d0 : w2.cell? ⟨w.heap.size, k * 3, none⟩ = some u0 := d0
      obtain ⟨u1, d1⟩ := P2.cell hlt' 1 (by decide)
      rw [hkl] at d1
      have d1 : w2.cell? ⟨w.heap.size, k * 3 + 1, none⟩ = some u1 := d1
      obtain ⟨u2, d2⟩ := P2.cell hlt' 2 (by decide)
      rw [hkl] at d2
      have d2 : w2.cell? ⟨w.heap.size, k * 3 + 2, none⟩ = some u2 := d2
      have fz := P2.frozen
      have hng : w.heap.size ∉ bl := (unhide HFB).not (by omega)
      have hngi : w.heap.size ∉ ib := hFi.not (by omega)
      have HPN := hide (P2.put hlt' hng hE hngi)
      have HFN := hide ((unhide HFB).app (C := wr.heap.size + 1) (fun b hb => by have := (unhide HPR).lt.2 b hb; omega) hFi (by omega))
      have HBN := hide (below_next (unhide HBR) b2)
      have hE0 := hE
      obtain ⟨q0, hbs, hE2⟩ := hE0
      injection hbs with e0 hbs
      subst e0
      injection hbs with e1 hbs
      subst e1
      injection hbs with e2 hbs
      subst e2
      clear hbs
      obtain ⟨xa0, xc0, rfl, _, _⟩ := hE2.form
      clear hE2
      rw [hkl] at HPN
      clear P2 hE hFi b2 HM hng hngi HPR HFB HBR hkl hlt' HKL
      go_wp2
      go_roundw
      case rel => exact ⟨k + 1, by omega, by go_num, putN_below (unhide HBN) (Nat.le_refl _) [_, _, _] (k * 3), _, by rw [List.take_add_one, List.getElem?_eq_getElem hlt]; exact unhide HPN, unhide HFN⟩
      case measure => simp [intOf]; omega
    · have hk' : k = ms.length := by omega
      subst hk'
      rw [List.take_length] at hP
      go_wp2
      go_ret
      exact ⟨_, _, rfl, hP.full rfl, hF.cons (Nat.le_refl _) (by omega), hb⟩
end Go.Proofs.YtcjajchfjoffnaaGreatDoor

namespace Go.Proofs.YtcjajchfjoffnaaGreatDoor
open Go.RowKit

/-- A store that is read. -/
def RSto (w : World) (v : Value) (h : List Ver) : Prop := ∃ p, v = .agg #[p] ∧ RRow verR w p h
theorem RSto.below {w w' : World} {v : Value} {h : List Ver} (ho : RSto w v h) (hb : Below w.heap.size w w') : RSto w' v h := by
  obtain ⟨p, hv, h1⟩ := ho
  exact ⟨p, hv, h1.below hb⟩
set_option maxRecDepth 100000 in
set_option maxHeartbeats 800000 in
theorem szSto_walk (v : Value) (h : List Ver) (w : World) (hr : RSto w v h) :
    Calls Tryz.prog 14 #[v, .int .i64 1048576] w fun e w' => e = .returned (.int .i64 (szI 1048576 (szVers h))) ∧ Below w.heap.size w w' := by
  obtain ⟨p, rfl, h1⟩ := hr
  have H1 : Hid (∀ o, Calls _ _ _ (w.alloc o) _) := fun o => szVers_walk p h 1048576 _ (h1.below (alloc_b w o)) (by omega)
  have hge := szI_ge 1048576 (szVers h)
  have hle := szI_le 1048576 (szVers h)
  generalize szI 1048576 (szVers h) = z at *
  clear h1
  go_enter Tryz.func14, Tryz.ntmps14
  go_wp2_with fail
  refine (unhide H1 _).mono ?_
  rintro e w1 ⟨rfl, b1⟩
  have B1 := hide (below_next (alloc_b w _) b1)
  clear b1 H1
  by_cases hz : z < 0
  · have : z = -1 := by omega
    subst this
    clear hz hge hle
    go_wp2
    go_ret
    exact ⟨rfl, unhide B1⟩
  · go_wp2
    go_ret
    exact ⟨rfl, unhide B1⟩
set_option maxRecDepth 100000 in
set_option maxHeartbeats 1600000 in
theorem toSto_walk (v : Value) (h : List Ver) (w : World) (hr : RSto w v h) (hs : szVers h ≤ 1048576) :
    Calls Tryz.prog 16 #[v] w fun e w' => ∃ p bl, e = .returned (.agg #[p]) ∧ ORow verE w' p h bl ∧ Fsh w.heap.size bl ∧ Below w.heap.size w w' := by
  obtain ⟨p, rfl, h1⟩ := hr
  have H1 := hide h1
  clear h1
  go_enter Tryz.func16, Tryz.ntmps16
  go_wp2_with fail
  have hA := new3 w (Obj.cells #[p] 32) (Obj.cells #[Value.slice none 0 0] 24) (Obj.cells #[Value.slice none 0 0] 24)
  generalize (((w.alloc (Obj.cells #[p] 32)).alloc (Obj.cells #[Value.slice none 0 0] 24)).alloc (Obj.cells #[Value.slice none 0 0] 24)) = wA at *
  refine (toVers_walk p h wA ((unhide H1).below hA.bel) hs).mono ?_
  rintro e w1 ⟨v', bl, rfl, ho, hf, b1⟩
  obtain ⟨xa, xc, rfl, _, _⟩ := ho.form
  have hsz := hA.size
  have k0 := (b1.block w.heap.size (by omega)).trans hA.k0
  have k1 := (b1.block (w.heap.size + 1) (by omega)).trans hA.k1
  have k2 := (b1.block (w.heap.size + 1 + 1) (by omega)).trans hA.k2
  have c20 : w1.cell? ⟨w.heap.size + 1 + 1, 0, none⟩ = some (.slice none 0 0) := Lib.cell_of_heap k2 0
  have c10 : w1.cell? ⟨w.heap.size + 1, 0, none⟩ = some (.slice none 0 0) := Lib.cell_of_heap k1 0
  have f2 := Lib.frozen_of_heap k2
  have f1 := Lib.frozen_of_heap k1
  have HB := hide (below_next hA.bel b1)
  have HO := hide ho
  have HF := hide hf
  have HK := hide k1
  clear b1 ho hf hA H1 k0 k1 k2
  go_wp2
  refine bodyPost_ret (results_cell_row rfl _ _ (w.heap.size + 1) 24 #[_] (0, 0) _ rfl (putN_full (w := putN w1 (w.heap.size + 1 + 1) 0 [_]) ((putN_other (by omega) _ _).trans (unhide HK)) [_] rfl) Tryz.underlying24 rfl (by kernel_rfl)) rfl ?_
  have n1 := (unhide HF).not (g := w.heap.size + 1) (by omega)
  have n2 := (unhide HF).not (g := w.heap.size + 1 + 1) (by omega)
  refine ⟨_, bl, rfl, ((unhide HO).putN n2 [_] 0).putN n1 [_] 0, (unhide HF).mono (by omega), ?_⟩
  exact putN_below (g := w.heap.size + 1) (putN_below (g := w.heap.size + 1 + 1) (unhide HB) (by omega) [_] 0) (by omega) [_] 0
end Go.Proofs.YtcjajchfjoffnaaGreatDoor

namespace Go.Proofs.YtcjajchfjoffnaaGreatDoor
open Go.RowKit

/-- The table of the verbs. -/
def verbsA : Array Value := #[.string ⟨#[97, 100, 100]⟩, .int .i64 1, .bool false, .bool true, .bool false, .bool true, .func (Fn.func 157) #[] #[], .string ⟨#[114, 101, 109, 111, 118, 101]⟩, .int .i64 2, .bool false, .bool false, .bool false, .bool true, .func (Fn.func 158) #[] #[], .string ⟨#[114, 101, 112, 108, 97, 99, 101]⟩, .int .i64 3, .bool false, .bool true, .bool false, .bool false, .func (Fn.func 159) #[] #[], .string ⟨#[109, 111, 118, 101]⟩, .int .i64 4, .bool true, .bool false, .bool true, .bool true, .func (Fn.func 160) #[] #[], .string ⟨#[99, 111, 112, 121]⟩, .int .i64 5, .bool true, .bool false, .bool false, .bool true, .func (Fn.func 161) #[] #[], .string ⟨#[116, 101, 115, 116]⟩, .int .i64 6, .bool false, .bool true, .bool false, .bool false, .func (Fn.func 162) #[] #[]]
set_option maxRecDepth 100000 in
set_option maxHeartbeats 800000 in
theorem verbs_walk (w : World) : Calls Tryz.prog 132 #[] w fun e w' => e = .returned (.slice (some ⟨w.heap.size, 0, none⟩) 6 6) ∧ w' = w.alloc (.cells verbsA 146) := by
  go_enter Tryz.func132, Tryz.ntmps132
  go_wp2
  go_ret
  exact ⟨rfl, rfl⟩
theorem verb_at {w : World} {g : Nat} (hg : w.heap[g]? = some (.cells verbsA 146 (0, 0))) {j : Nat} (hj : j < 6) :
    ∃ c0 c2 c3 c4 c5 c6, w.cell? ⟨g, j * 7, none⟩ = some c0 ∧ w.cell? ⟨g, j * 7 + 1, none⟩ = some (.int .i64 ((j : Int) + 1)) ∧ w.cell? ⟨g, j * 7 + 2, none⟩ = some c2 ∧ w.cell? ⟨g, j * 7 + 3, none⟩ = some c3 ∧ w.cell? ⟨g, j * 7 + 4, none⟩ = some c4 ∧ w.cell? ⟨g, j * 7 + 5, none⟩ = some c5 ∧ w.cell? ⟨g, j * 7 + 6, none⟩ = some c6 := by
  rcases (show j = 0 ∨ j = 1 ∨ j = 2 ∨ j = 3 ∨ j = 4 ∨ j = 5 from by omega) with rfl | rfl | rfl | rfl | rfl | rfl
  all_goals exact ⟨_, _, _, _, _, _, Lib.cell_of_heap hg _, Lib.cell_of_heap hg _, Lib.cell_of_heap hg _, Lib.cell_of_heap hg _, Lib.cell_of_heap hg _, Lib.cell_of_heap hg _, Lib.cell_of_heap hg _⟩
end Go.Proofs.YtcjajchfjoffnaaGreatDoor

namespace Go.Proofs.YtcjajchfjoffnaaGreatDoor
open Go.RowKit

def cntWat (m : Wat) : Nat := 5 + cntR cntMsg m.queue
def mkWat (k : Nat) (m : Wat) : Wat := ⟨(k : Int), mkText (k + 1), (k : Int) + 1 + 1, (k : Int) + 1 + 1 + 1, ((k : Int) + 1 + 1 + 1 + 1) % 3 == 0, mkRow mkMsg cntMsg (k + 1 + 1 + 1 + 1 + 1) m.queue⟩
end Go.Proofs.YtcjajchfjoffnaaGreatDoor

namespace Go.Proofs.YtcjajchfjoffnaaGreatDoor
open Go.RowKit

def cntNws (m : Nws) : Nat := m.ptrs.length + 1
def mkNws (k : Nat) (m : Nws) : Nws := ⟨(k : Int), mkS (k + 1) m.ptrs.length⟩
end Go.Proofs.YtcjajchfjoffnaaGreatDoor

namespace Go.Proofs.YtcjajchfjoffnaaGreatDoor
open Go.RowKit

end Go.Proofs.YtcjajchfjoffnaaGreatDoor
