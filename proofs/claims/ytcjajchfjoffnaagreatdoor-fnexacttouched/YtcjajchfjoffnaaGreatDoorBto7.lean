import Derived.Deep.RegionWith
import Derived.Deep.RegionLaw
import Derived.Test.YtcjajchfjoffnaaGreatDoorBto5
import Derived.Test.YtcjajchfjoffnaaGreatDoorBto6
import Derived.Test.YtcjajchfjoffnaaGreatDoorBto1
import Derived.Laws.AppendOwnNone
import Derived.Deep.RegionHeld
import Derived.Laws.AppendOwn
import Derived.Room.AppendZeros
namespace Go.Proofs.YtcjajchfjoffnaaGreatDoor
open Go.RowKit

theorem draws_b (w : World) (n : Nat) : Below w.heap.size w (w.drewN n) := ⟨rfl, rfl, rfl, Nat.le_refl _, fun _ _ => rfl⟩
theorem ORow.len {α : Type} {e : Elem α} {w : World} {v : Value} {xs : List α} {bl : List Nat} (h : ORow e w v xs bl) : xs.length ≤ maxLen := by
  obtain ⟨ps, hl, hE, ho, _⟩ := h
  rcases ho.2 with ⟨hv, h0⟩ | ⟨g, cap, cur, hv, _, _, h1, h2, _⟩
  · omega
  · omega

theorem eqStr_walk (v v' : Value) (ss : List ByteArray) (bl bl' : List Nat) (w : World) (h : OStr w v ss bl) (k : OStr w v' ss bl') :
    Calls Tryz.prog 25 #[v, v'] w fun e w' => e = .returned (.bool true) ∧ Below w.heap.size w w' := by
  obtain ⟨a, g, cap, rfl, hs⟩ := h.ss
  obtain ⟨a', g', cap', rfl, ks⟩ := k.ss
  refine (eq_walk a a' g 0 cap g' 0 cap' ss w hs ks (by have := h.len; unfold maxLen at this; omega)).mono ?_
  rintro e w' ⟨rfl, n, rfl⟩
  exact ⟨rfl, draws_b w n⟩
/-- Two new blocks. -/
structure New2 (w : World) (a b : Obj) (w' : World) : Prop where
  bel : Below w.heap.size w w'
  size : w'.heap.size = w.heap.size + 1 + 1
  k0 : w'.heap[w.heap.size]? = some a
  k1 : w'.heap[w.heap.size + 1]? = some b
theorem new2 (w : World) (a b : Obj) : New2 w a b ((w.alloc a).alloc b) := by
  refine ⟨below_next (alloc_b w _) (alloc_b _ _), by simp, ?_, ?_⟩
  · exact ((alloc_b _ b).block _ (by simp)).trans (heap_alloc_new w a)
  · have := heap_alloc_new (w.alloc a) b
    rw [show (w.alloc a).heap.size = w.heap.size + 1 from by simp] at this
    exact this
end Go.Proofs.YtcjajchfjoffnaaGreatDoor

namespace Go.Proofs.YtcjajchfjoffnaaGreatDoor
open Go.RowKit

/-- An operation. -/
structure POp where
  kind : Int
  path : ByteArray
  src : ByteArray
  val : ByteArray
def opV (m : POp) : List Value := [.int .i64 m.kind, .string m.path, .string m.src, .string m.val]
def opR : RElem POp where
  wd := 4
  R := fun _ vs m => vs = [.int .i64 m.kind, .string m.path, .string m.src, .string m.val] ∧ m.path.size ≤ maxLen ∧ m.src.size ≤ maxLen ∧ m.val.size ≤ maxLen
  len := fun h => by rw [h.1]; rfl
  keep := fun h _ => h
def opE : Elem POp where
  T := 76
  wd := 4
  E := fun _ vs m bl => vs = [.int .i64 m.kind, .string m.path, .string m.src, .string m.val] ∧ bl = []
  len := fun h => by rw [h.1]; rfl
  lt := fun h b hb => by rw [h.2] at hb; cases hb
  keep := fun h _ => h
def szOp (m : POp) : Nat := m.path.size + m.src.size + m.val.size
set_option maxRecDepth 100000 in
set_option maxHeartbeats 800000 in
theorem szOp_walk (a0 a1 a2 a3 : Value) (m : POp) (L : Nat) (w : World) (h : opR.R w [a0, a1, a2, a3] m) (hL : L ≤ 1048576) :
    Calls Tryz.prog 44 #[.agg #[a0, a1, a2, a3], .int .i64 L] w fun e w' => e = .returned (.int .i64 (szI L (szOp m))) ∧ Below w.heap.size w w' := by
  obtain ⟨hq, h1, h2, h3⟩ := h
  injection hq with e0 hq; injection hq with e1 hq; injection hq with e2 hq; injection hq with e3 hq
  subst e0; subst e1; subst e2; subst e3
  clear hq
  unfold maxLen at h1 h2 h3
  by_cases n1 : m.path.size ≤ L
  · by_cases n2 : m.path.size + m.src.size ≤ L
    · by_cases n3 : m.path.size + m.src.size + m.val.size ≤ L
      · have hZ : szI L (szOp m) = (L : Int) - (m.path.size : Int) - (m.src.size : Int) - (m.val.size : Int) := by
          unfold szOp
          rw [szI_ok n3]; omega
        rw [hZ]
        clear hZ
        go_enter Tryz.func44, Tryz.ntmps44
        go_wp2
        go_ret
        exact ⟨rfl, alloc_b w _⟩
      · rw [szI_no (by unfold szOp; omega)]
        go_enter Tryz.func44, Tryz.ntmps44
        go_wp2
        go_ret
        exact ⟨rfl, alloc_b w _⟩
    · rw [szI_no (by unfold szOp; omega)]
      go_enter Tryz.func44, Tryz.ntmps44
      go_wp2
      go_ret
      exact ⟨rfl, alloc_b w _⟩
  · rw [szI_no (by unfold szOp; omega)]
    go_enter Tryz.func44, Tryz.ntmps44
    go_wp2
    go_ret
    exact ⟨rfl, alloc_b w _⟩
def szOps (ms : List POp) : Nat := ms.length + (ms.map szOp).sum
set_option maxRecDepth 100000 in
set_option maxHeartbeats 800000 in
theorem szOps_walk (v : Value) (ms : List POp) (L : Nat) (w : World) (h : RRow opR w v ms) (hL : L ≤ 1048576) :
    Calls Tryz.prog 18 #[v, .int .i64 L] w fun e w' => e = .returned (.int .i64 (szI L (szOps ms))) ∧ Below w.heap.size w w' := by
  have H := hide h
  obtain ⟨hm, a, cap, rfl, hrow⟩ := h
  unfold maxLen at hm
  clear hrow
  by_cases h0 : L < ms.length
  · go_enter Tryz.func18, Tryz.ntmps18
    go_wp2
    go_ret
    exact ⟨ret_int (szI_no (by unfold szOps; omega)).symm, Below.refl _ _⟩
  · go_enter Tryz.func18, Tryz.ntmps18
    go_wp2
    go_loopw [1, 5] (fun l i wr => ∃ k : Nat, k ≤ ms.length ∧ i = .int .i64 k ∧ ms.length + ((ms.take k).map szOp).sum ≤ L ∧ l = .int .i64 ((L - (ms.length + ((ms.take k).map szOp).sum) : Nat) : Int) ∧ Below w.heap.size w wr) (fun _ i _ => ms.length - (intOf i).toNat)
    case atStart => exact ⟨0, Nat.zero_le _, rfl, by simp; omega, by simp; omega, Below.refl _ _⟩
    case round =>
      obtain ⟨k, hk, rfl, hle, rfl, hb⟩ := hrel
      by_cases hlt : k < ms.length
      · have ht := sum_take_snoc szOp ms k ms[k] (List.getElem?_eq_getElem hlt)
        have hts := sum_take_le (ms.map szOp) (k + 1)
        rw [← List.map_take] at hts
        obtain ⟨_, a', cap', he, hrow⟩ := (unhide H).below hb
        injection he with he1 he2 he3; subst he1; subst he3; clear he2
        obtain ⟨b, o, rfl, vs, hR, hc⟩ := hrow k ms[k] (List.getElem?_eq_getElem hlt)
        obtain ⟨a0, a1, a2, a3, rfl⟩ := list4 (opR.len hR)
        have c0 : wr.cell? ⟨b, o + k * 4, none⟩ = _ := hc 0 _ rfl
        have c1 : wr.cell? ⟨b, o + k * 4 + 1, none⟩ = _ := hc 1 _ rfl
        have c2 : wr.cell? ⟨b, o + k * 4 + 2, none⟩ = _ := hc 2 _ rfl
        have c3 : wr.cell? ⟨b, o + k * 4 + 3, none⟩ = _ := hc 3 _ rfl
        have HM := hide (szOp_walk a0 a1 a2 a3 ms[k] (L - (ms.length + ((ms.take k).map szOp).sum)) wr hR (by omega))
        clear hrow hc hR
        have HS : Hid (szOps ms = ms.length + (ms.map szOp).sum) := rfl
        generalize (ms.map szOp).sum = T9 at *
        generalize ((ms.take k).map szOp).sum = T at *
        have hT2 : ∃ T2, ((ms.take (k + 1)).map szOp).sum = T2 := ⟨_, rfl⟩
        obtain ⟨T2, hT2⟩ := hT2
        rw [hT2] at ht hts
        have HT := hide hT2
        clear hT2
        generalize szOp ms[k] = z at *
        by_cases hn : ms.length + T + z ≤ L
        · rw [szI_ok (by omega)] at HM
          go_wp2_with fail
          refine (unhide HM).mono ?_
          rintro e w1 ⟨rfl, b1⟩
          have B1 := hide (below_next hb b1)
          clear HM b1 hb c0 c1 c2 c3
          go_wp2
          go_roundw
          case rel => exact ⟨k + 1, by omega, by go_num, by rw [unhide HT]; omega, by rw [unhide HT]; go_num, unhide B1⟩
          case measure => simp [intOf]; omega
        · rw [szI_no (by omega)] at HM
          go_wp2_with fail
          refine (unhide HM).mono ?_
          rintro e w1 ⟨rfl, b1⟩
          have B1 := hide (below_next hb b1)
          clear HM b1 hb c0 c1 c2 c3
          go_wp2
          go_ret
          exact ⟨ret_int (szI_no (by rw [unhide HS]; omega)).symm, unhide B1⟩
      · have hk' : k = ms.length := by omega
        subst hk'
        rw [List.take_length] at hle ⊢
        go_wp2
        go_ret
        exact ⟨ret_int (szI_ok (n := szOps ms) hle).symm, hb⟩
set_option maxRecDepth 100000 in
set_option maxHeartbeats 800000 in
theorem toOp_walk (a0 a1 a2 a3 : Value) (m : POp) (w : World) (h : opR.R w [a0, a1, a2, a3] m) (_hs : szOp m ≤ 1048576) :
    Calls Tryz.prog 49 #[.agg #[a0, a1, a2, a3]] w fun e w' => ∃ b0 b1 b2 b3 ib, e = .returned (.agg #[b0, b1, b2, b3]) ∧ opE.E w' [b0, b1, b2, b3] m ib ∧ Fsh (w.heap.size + 1) ib ∧ Below w.heap.size w w' := by
  obtain ⟨hq, h1, h2, h3⟩ := h
  injection hq with e0 hq; injection hq with e1 hq; injection hq with e2 hq; injection hq with e3 hq
  subst e0; subst e1; subst e2; subst e3
  clear hq h1 h2 h3
  go_enter Tryz.func49, Tryz.ntmps49
  go_wp2
  have hA := new3 w (Obj.cells #[.int .i64 m.kind, .string m.path, .string m.src, .string m.val] 72) (Obj.cells #[.int .i64 m.kind, .string m.path, .string m.src, .string m.val] 76) (Obj.cells #[.int .i64 m.kind, .string m.path, .string m.src, .string m.val] 76)
  refine bodyPost_ret (results_cell_row rfl _ _ (w.heap.size + 1) 76 #[_, _, _, _] (0, 0) _ rfl hA.k1 Tryz.underlying76 rfl (by kernel_rfl)) rfl ?_
  exact ⟨_, _, _, _, [], rfl, ⟨rfl, rfl⟩, Fsh.nil _, hA.bel⟩
theorem infoOp : (Tryz.prog.info? 76).map (fun i => (i.zero, i.size, i.bytes)) = some (some (.agg #[.int .i64 0, .string ByteArray.empty, .string ByteArray.empty, .string ByteArray.empty]), 4, 56) := by kernel_rfl
set_option maxRecDepth 100000 in
set_option maxHeartbeats 1600000 in
theorem toOps_walk (v : Value) (ms : List POp) (w : World) (h : RRow opR w v ms) (hs : szOps ms ≤ 1048576) :
    Calls Tryz.prog 20 #[v] w fun e w' => ∃ v' bl, e = .returned v' ∧ ORow opE w' v' ms bl ∧ Fsh w.heap.size bl ∧ Below w.heap.size w w' := by
  have hl : ms.length ≤ 1048576 := by unfold szOps at hs; omega
  have hsz : ∀ k (hk : k < ms.length), szOp ms[k] ≤ 1048576 := fun k hk => by
    have h1 := sum_take_snoc szOp ms k ms[k] (List.getElem?_eq_getElem hk)
    have h2 := sum_take_le (ms.map szOp) (k + 1)
    rw [← List.map_take] at h2
    unfold szOps at hs; omega
  have HZ := hide hsz
  clear hs hsz
  have H := hide h
  obtain ⟨hm, a, cap, rfl, hrow⟩ := h
  clear hrow hm
  obtain ⟨i0, hi, hz0, hz1, hz2⟩ := info_parts infoOp
  go_enter Tryz.func20, Tryz.ntmps20
  go_wp2_with (at_make; refine wpList_make_full _ rfl _ _ 41 rfl 0 76 i0 (.agg #[.int .i64 0, .string ByteArray.empty, .string ByteArray.empty, .string ByteArray.empty]) 4 Tryz.underlying41 hi hz0 hz1 .i64 .i64 _ _ ms.length rfl rfl rfl rfl (by rw [hz2]; omega) (by unfold maxLen; omega) (Nat.zero_le _) ?_)
  intro w1 hown hgrow
  have hbel : Below w.heap.size w w1 := (Below.refl _ _).grown hgrow (Nat.le_refl _) (by intro k hk; cases hk)
  have hP : PRow opE w1 w.heap.size ms.length ms.length [] [] := PRow.start hown
  have hg1 := hP.lt.1
  have HP := hide hP
  have HB := hide hbel
  clear hgrow hi hz0 hz1 hz2 hown hP hbel
  go_wp2
  go_loopw [4] (fun i wr => ∃ k : Nat, k ≤ ms.length ∧ i = .int .i64 k ∧ Below w.heap.size w wr ∧ ∃ bl, PRow opE wr w.heap.size ms.length ms.length (ms.take k) bl ∧ Fsh (w.heap.size + 1) bl) (fun i _ => ms.length - (intOf i).toNat)
  case atStart => exact ⟨0, Nat.zero_le _, rfl, unhide HB, [], unhide HP, Fsh.nil _⟩
  case round =>
    obtain ⟨k, hk, rfl, hb, bl, hP, hF⟩ := hrel
    by_cases hlt : k < ms.length
    · have hgr := hP.lt.1
      obtain ⟨_, a', cap', he, hrow⟩ := (unhide H).below hb
      injection he with he1 he2 he3; subst he1; subst he3; clear he2
      obtain ⟨b, o, rfl, vs, hR, hc⟩ := hrow k ms[k] (List.getElem?_eq_getElem hlt)
      obtain ⟨a0, a1, a2, a3, rfl⟩ := list4 (opR.len hR)
      have c0 : wr.cell? ⟨b, o + k * 4, none⟩ = _ := hc 0 _ rfl
      have c1 : wr.cell? ⟨b, o + k * 4 + 1, none⟩ = _ := hc 1 _ rfl
      have c2 : wr.cell? ⟨b, o + k * 4 + 2, none⟩ = _ := hc 2 _ rfl
      have c3 : wr.cell? ⟨b, o + k * 4 + 3, none⟩ = _ := hc 3 _ rfl
      have HM := hide (toOp_walk a0 a1 a2 a3 ms[k] wr hR (unhide HZ k hlt))
      have hkl : (ms.take k).length = k := by rw [List.length_take]; omega
      have HPR := hide hP
      have HFB := hide hF
      have HBR := hide hb
      have HKL := hide hkl
      clear hrow hc hR hP hF hb hkl
      go_wp2_with fail
      refine (unhide HM).mono ?_
      rintro e w2 ⟨b0, b1, y2, b3, ib, rfl, hE, hFi, b2⟩
      have P2 := (unhide HPR).below b2
      have hkl := unhide HKL
      have hlt' : (ms.take k).length < ms.length := by rw [hkl]; exact hlt
      obtain ⟨u0, d0⟩ := P2.cell hlt' 0 (by decide)
      rw [hkl] at d0
      have d0 : w2.cell? ⟨w.heap.size, k * 4, none⟩ = some u0 := d0
      obtain ⟨u1, d1⟩ := P2.cell hlt' 1 (by decide)
      rw [hkl] at d1
      have d1 : w2.cell? ⟨w.heap.size, k * 4 + 1, none⟩ = some u1 := d1
      obtain ⟨u2, d2⟩ := P2.cell hlt' 2 (by decide)
      rw [hkl] at d2
      have d2 : w2.cell? ⟨w.heap.size, k * 4 + 2, none⟩ = some u2 := d2
      obtain ⟨u3, d3⟩ := P2.cell hlt' 3 (by decide)
      rw [hkl] at d3
      have d3 : w2.cell? ⟨w.heap.size, k * 4 + 3, none⟩ = some u3 := d3
      have fz := P2.frozen
      have hng : w.heap.size ∉ bl := (unhide HFB).not (by omega)
      have hngi : w.heap.size ∉ ib := hFi.not (by omega)
      have HPN := hide (P2.put hlt' hng hE hngi)
      have HFN := hide ((unhide HFB).app (C := wr.heap.size + 1) (fun b hb => by have := (unhide HPR).lt.2 b hb; omega) hFi (by omega))
      have HBN := hide (below_next (unhide HBR) b2)
      have hE0 := hE
      have hbs := hE0.1
      injection hbs with e0 hbs
      subst e0
      injection hbs with e1 hbs
      subst e1
      injection hbs with e2 hbs
      subst e2
      injection hbs with e3 hbs
      subst e3
      clear hbs
      rw [hkl] at HPN
      clear P2 hE hFi b2 HM hng hngi HPR HFB HBR hkl hlt' HKL
      go_wp2
      go_roundw
      case rel => exact ⟨k + 1, by omega, by go_num, putN_below (unhide HBN) (Nat.le_refl _) [_, _, _, _] (k * 4), _, by rw [List.take_add_one, List.getElem?_eq_getElem hlt]; exact unhide HPN, unhide HFN⟩
      case measure => simp [intOf]; omega
    · have hk' : k = ms.length := by omega
      subst hk'
      rw [List.take_length] at hP
      go_wp2
      go_ret
      exact ⟨_, _, rfl, hP.full rfl, hF.cons (Nat.le_refl _) (by omega), hb⟩
set_option maxRecDepth 100000 in
set_option maxHeartbeats 1600000 in
theorem eqOp_walk (a0 a1 a2 a3 b0 b1 b2 b3 : Value) (m : POp) (ib jb : List Nat) (w : World) (h : opE.E w [a0, a1, a2, a3] m ib) (k : opE.E w [b0, b1, b2, b3] m jb) :
    Calls Tryz.prog 54 #[.agg #[a0, a1, a2, a3], .agg #[b0, b1, b2, b3]] w fun e w' => e = .returned (.bool true) ∧ Below w.heap.size w w' := by
  have hq := h.1
  injection hq with e0 hq
  subst e0
  injection hq with e1 hq
  subst e1
  injection hq with e2 hq
  subst e2
  injection hq with e3 hq
  subst e3
  clear hq
  have hq := k.1
  injection hq with e0 hq
  subst e0
  injection hq with e1 hq
  subst e1
  injection hq with e2 hq
  subst e2
  injection hq with e3 hq
  subst e3
  clear hq
  go_enter Tryz.func54, Tryz.ntmps54
  go_wp2
  go_ret
  exact ⟨rfl, below_next (alloc_b w _) (alloc_b _ _)⟩
set_option maxRecDepth 100000 in
set_option maxHeartbeats 1600000 in
theorem eqOps_walk (v v' : Value) (ms : List POp) (bl bl' : List Nat) (w : World) (h : ORow opE w v ms bl) (k : ORow opE w v' ms bl') :
    Calls Tryz.prog 22 #[v, v'] w fun e w' => e = .returned (.bool true) ∧ Below w.heap.size w w' := by
  have hm := h.len
  unfold maxLen at hm
  obtain ⟨xa, xc, rfl, _, hxa⟩ := h.form
  obtain ⟨ya, yc, rfl, _, hya⟩ := k.form
  have H := hide h
  have K := hide k
  clear h k
  go_enter Tryz.func22, Tryz.ntmps22
  go_wp2
  go_loopw [5] (fun i wr => ∃ k : Nat, k ≤ ms.length ∧ i = .int .i64 k ∧ Below w.heap.size w wr) (fun i _ => ms.length - (intOf i).toNat)
  case atStart => exact ⟨0, Nat.zero_le _, rfl, Below.refl _ _⟩
  case round =>
    obtain ⟨k, hk, rfl, hb⟩ := hrel
    by_cases hlt : k < ms.length
    · obtain ⟨g, rfl⟩ := hxa (by omega)
      obtain ⟨g', rfl⟩ := hya (by omega)
      obtain ⟨vs, ib, hE, hc, _⟩ := ((unhide H).below hb).at (List.getElem?_eq_getElem hlt)
      obtain ⟨a0, a1, a2, a3, rfl⟩ := list4 (opE.len hE)
      have c0 : wr.cell? ⟨g, k * 4, none⟩ = _ := (hc 0 _ rfl).1
      have c1 : wr.cell? ⟨g, k * 4 + 1, none⟩ = _ := (hc 1 _ rfl).1
      have c2 : wr.cell? ⟨g, k * 4 + 2, none⟩ = _ := (hc 2 _ rfl).1
      have c3 : wr.cell? ⟨g, k * 4 + 3, none⟩ = _ := (hc 3 _ rfl).1
      obtain ⟨vs, jb, hE', hc', _⟩ := ((unhide K).below hb).at (List.getElem?_eq_getElem hlt)
      obtain ⟨b0, b1, b2, b3, rfl⟩ := list4 (opE.len hE')
      have d0 : wr.cell? ⟨g', k * 4, none⟩ = _ := (hc' 0 _ rfl).1
      have d1 : wr.cell? ⟨g', k * 4 + 1, none⟩ = _ := (hc' 1 _ rfl).1
      have d2 : wr.cell? ⟨g', k * 4 + 2, none⟩ = _ := (hc' 2 _ rfl).1
      have d3 : wr.cell? ⟨g', k * 4 + 3, none⟩ = _ := (hc' 3 _ rfl).1
      have hx : Below wr.heap.size wr wr.drew := (Below.refl _ _).drew
      have HM := hide (eqOp_walk a0 a1 a2 a3 b0 b1 b2 b3 ms[k] ib jb wr.drew (opE.keep hE (.of_below hx (opE.lt hE))) (opE.keep hE' (.of_below hx (opE.lt hE'))))
      have HB := hide hb
      have hlt' : (k : Int) < (ms.length : Int) := by omega
      clear hxa hya hc hc' hE hE' hb hx
      go_wp2
      go_region_law (go_simp; refine (unhide HM).mono ?_; rintro e w1 ⟨rfl, b1⟩)
      all_goals go_wp2
      all_goals go_roundw
      all_goals first
        | exact ⟨k + 1, by omega, by go_num, (unhide HB).drew.trans (b1.mono (by have := (unhide HB).size; simp; omega))⟩
        | (simp [intOf]; omega)
    · clear hxa hya
      go_wp2
      go_ret
      exact ⟨rfl, hb⟩
end Go.Proofs.YtcjajchfjoffnaaGreatDoor

namespace Go.Proofs.YtcjajchfjoffnaaGreatDoor
open Go.RowKit

/-- The table of the verbs. -/
def verbsA : Array Value := #[.string ⟨#[97, 100, 100]⟩, .int .i64 1, .bool false, .bool true, .bool false, .bool true, .func (Fn.func 157) #[] #[], .string ⟨#[114, 101, 109, 111, 118, 101]⟩, .int .i64 2, .bool false, .bool false, .bool false, .bool true, .func (Fn.func 158) #[] #[], .string ⟨#[114, 101, 112, 108, 97, 99, 101]⟩, .int .i64 3, .bool false, .bool true, .bool false, .bool false, .func (Fn.func 159) #[] #[], .string ⟨#[109, 111, 118, 101]⟩, .int .i64 4, .bool true, .bool false, .bool true, .bool true, .func (Fn.func 160) #[] #[], .string ⟨#[99, 111, 112, 121]⟩, .int .i64 5, .bool true, .bool false, .bool false, .bool true, .func (Fn.func 161) #[] #[], .string ⟨#[116, 101, 115, 116]⟩, .int .i64 6, .bool false, .bool true, .bool false, .bool false, .func (Fn.func 162) #[] #[]]
set_option maxRecDepth 100000 in
set_option maxHeartbeats 800000 in
theorem verbs_walk (w : World) : Calls Tryz.prog 132 #[] w fun e w' => e = .returned (.slice (some ⟨w.heap.size, 0, none⟩) 6 6) ∧ w' = w.alloc (.cells verbsA 146) := by
  go_enter Tryz.func132, Tryz.ntmps132
  go_wp2
  go_ret
  exact ⟨rfl, rfl⟩
theorem verb_at {w : World} {g : Nat} (hg : w.heap[g]? = some (.cells verbsA 146 (0, 0))) {j : Nat} (hj : j < 6) :
    ∃ c0 c2 c3 c4 c5 c6, w.cell? ⟨g, j * 7, none⟩ = some c0 ∧ w.cell? ⟨g, j * 7 + 1, none⟩ = some (.int .i64 ((j : Int) + 1)) ∧ w.cell? ⟨g, j * 7 + 2, none⟩ = some c2 ∧ w.cell? ⟨g, j * 7 + 3, none⟩ = some c3 ∧ w.cell? ⟨g, j * 7 + 4, none⟩ = some c4 ∧ w.cell? ⟨g, j * 7 + 5, none⟩ = some c5 ∧ w.cell? ⟨g, j * 7 + 6, none⟩ = some c6 := by
  rcases (show j = 0 ∨ j = 1 ∨ j = 2 ∨ j = 3 ∨ j = 4 ∨ j = 5 from by omega) with rfl | rfl | rfl | rfl | rfl | rfl
  all_goals exact ⟨_, _, _, _, _, _, Lib.cell_of_heap hg _, Lib.cell_of_heap hg _, Lib.cell_of_heap hg _, Lib.cell_of_heap hg _, Lib.cell_of_heap hg _, Lib.cell_of_heap hg _, Lib.cell_of_heap hg _⟩
end Go.Proofs.YtcjajchfjoffnaaGreatDoor

namespace Go.Proofs.YtcjajchfjoffnaaGreatDoor
open Go.RowKit

/-- The texts that mark a row, from k on. -/
def mkS (k n : Nat) : List ByteArray := (List.range n).map fun j => mkText (k + j)
theorem mkS_len (k n : Nat) : (mkS k n).length = n := by simp [mkS]
theorem mkS_at {k n j : Nat} (h : j < n) : (mkS k n)[j]? = some (mkText (k + j)) := by simp [mkS, h]
/-- A row under way: its first j texts marked. -/
def mkAt (k : Nat) (ss : List ByteArray) (j : Nat) : List ByteArray := mkS k j ++ ss.drop j
theorem mkAt_len (k : Nat) (ss : List ByteArray) {j : Nat} (h : j ≤ ss.length) : (mkAt k ss j).length = ss.length := by unfold mkAt; rw [List.length_append, mkS_len, List.length_drop]; omega
theorem mkAt_set (k : Nat) (ss : List ByteArray) {j : Nat} (h : j < ss.length) : (mkAt k ss j).set j (mkText (k + j)) = mkAt k ss (j + 1) := by
  unfold mkAt
  rw [List.set_append_right _ _ (by rw [mkS_len]; omega), mkS_len, Nat.sub_self, List.drop_eq_getElem_cons h, List.set_cons_zero]
  unfold mkS
  rw [List.range_succ, List.map_append, List.append_assoc]; rfl
theorem mkAt_0 (k : Nat) (ss : List ByteArray) : mkAt k ss 0 = ss := by simp [mkAt, mkS]
theorem mkAt_all (k : Nat) (ss : List ByteArray) : mkAt k ss ss.length = mkS k ss.length := by simp [mkAt]

set_option maxHeartbeats 400000 in
theorem markStr_walk (v : Value) (ss : List ByteArray) (bl : List Nat) (k0 : Nat) (w : World) (hv : OStr w v ss bl) (hd : bl.Nodup) (hn : ss.length ≤ 268435456) (h1 : 1 ≤ k0) (h2 : k0 ≤ 1099200000000) :
    Calls Tryz.prog 27 #[v, .int .i64 k0] w fun e w' => e = .returned (.int .i64 (k0 + ss.length : Nat)) ∧ OStr w' v (mkS k0 ss.length) bl ∧ Fr bl w w' := by
  obtain ⟨a, cap, rfl, _, hsh⟩ := hv.form
  have HV := hide hv
  have HD := hide hd
  clear hv hd
  go_enter Tryz.func27, Tryz.ntmps27
  go_wp2
  go_loopw [1, 5] (fun q i wr => ∃ (j : Nat), j ≤ ss.length ∧ i = .int .i64 j ∧ q = .int .i64 (k0 + j : Nat) ∧ Fr bl w wr ∧ OStr wr (.slice a ss.length cap) (mkAt k0 ss j) bl) (fun _ i _ => ss.length - (intOf i).toNat)
  case atStart => exact ⟨0, Nat.zero_le _, rfl, rfl, Fr.refl _ _, by rw [mkAt_0]; exact unhide HV⟩
  case round =>
    obtain ⟨j, hj, rfl, rfl, hb, ho⟩ := hrel
    by_cases hlt : j < ss.length
    · obtain ⟨g, rfl⟩ := hsh (by omega)
      have HC := hide (mark_walk (k0 + j) wr (by omega) (by omega))
      have hl := mkAt_len k0 ss (Nat.le_of_lt hlt)
      have HS := hide (mkAt_set k0 ss hlt)
      have HO := hide ho
      have HF := hide hb
      have HL := hide hl
      clear ho hb hl
      go_wp2_with fail
      refine (unhide HC).mono ?_
      rintro e w1 ⟨rfl, b1⟩
      have ho := (unhide HO).below b1
      obtain ⟨vs, ib, hE, hc, _, hg, _⟩ := ho.at (List.getElem?_eq_getElem (show j < (mkAt k0 ss j).length by rw [unhide HL]; exact hlt))
      obtain ⟨rfl, rfl⟩ := hE
      have c0 := (hc 0 _ rfl).1
      have f0 := (hc 0 _ rfl).2
      rw [show j * strE.wd + 0 = j from by simp [strE]] at c0 f0
      have hp := ho.put (unhide HD) (List.getElem?_eq_getElem (show j < (mkAt k0 ss j).length by rw [unhide HL]; exact hlt)) 0 (by decide) (.string (mkText (k0 + j))) (mkText (k0 + j)) (fun w' vs ib h => ⟨by rw [h.1]; rfl, h.2⟩)
      rw [unhide HS] at hp
      have hp' : OStr (w1.setCell ⟨g, j, none⟩ (.string (mkText (k0 + j)))) (.slice (some ⟨g, 0, none⟩) ss.length cap) (mkAt k0 ss (j + 1)) bl := by
        rw [show j * strE.wd + 0 = j from by simp [strE]] at hp; exact hp
      have HP := hide hp'
      have HF1 := hide (((unhide HF).next b1).set hg j (.string (mkText (k0 + j))))
      clear hp hp' ho hc b1 HC HO HF hg
      go_wp2
      go_roundw
      case rel => exact ⟨j + 1, by omega, by go_num, by go_num, unhide HF1, unhide HP⟩
      case measure => simp [intOf]; omega
    · have hjn : j = ss.length := by omega
      subst hjn
      rw [mkAt_all] at ho
      go_wp2
      go_ret
      exact ⟨rfl, ho, hb⟩
theorem marks_mkS (k n : Nat) : (mkS k n).map Value.string = marks k n := by simp [mkS, marks]
theorem heldStr_walk (v : Value) (bl : List Nat) (n k0 : Nat) (w : World) (hv : OStr w v (mkS k0 n) bl) (hn : n ≤ 268435456) (h1 : 1 ≤ k0) (h2 : k0 ≤ 1099200000000) :
    Calls Tryz.prog 28 #[v, .int .i64 k0] w fun e w' => e = .returned (.int .i64 (k0 + n : Nat)) ∧ Below w.heap.size w w' := by
  have h := (ostr_iff.1 hv).1
  rw [mkS_len, marks_mkS] at h
  exact heldS_walk 0 v n k0 w h hn h1 h2

/-- Rows marked from k on, by what marks an element and how many marks it takes. -/
def mkRow {α : Type} (f : Nat → α → α) (c : α → Nat) : Nat → List α → List α
  | _, [] => []
  | k, x :: r => f k x :: mkRow f c (k + c x) r
def cntR {α : Type} (c : α → Nat) (l : List α) : Nat := (l.map c).sum
theorem mkRow_len {α : Type} (f : Nat → α → α) (c : α → Nat) : ∀ (l : List α) (k : Nat), (mkRow f c k l).length = l.length
  | [], _ => rfl
  | x :: r, k => by rw [mkRow, List.length_cons, mkRow_len f c r, List.length_cons]
theorem mkRow_snoc {α : Type} (f : Nat → α → α) (c : α → Nat) (x : α) : ∀ (l : List α) (k : Nat), mkRow f c k (l ++ [x]) = mkRow f c k l ++ [f (k + cntR c l) x]
  | [], k => by simp [mkRow, cntR]
  | y :: r, k => by
    rw [List.cons_append, mkRow, mkRow, mkRow_snoc f c x r, List.cons_append]
    unfold cntR
    rw [List.map_cons, List.sum_cons, Nat.add_assoc]
/-- A row under way. -/
def mkRowAt {α : Type} (f : Nat → α → α) (c : α → Nat) (k : Nat) (l : List α) (j : Nat) : List α := mkRow f c k (l.take j) ++ l.drop j
section
variable {α : Type} {f : Nat → α → α} {c : α → Nat} {k : Nat} {l : List α} {j : Nat}
theorem mkRowAt_0 : mkRowAt f c k l 0 = l := by simp [mkRowAt, mkRow]
theorem mkRowAt_all : mkRowAt f c k l l.length = mkRow f c k l := by simp [mkRowAt]
theorem mkRowAt_at (h : j < l.length) : (mkRowAt f c k l j)[j]? = some l[j] := by
  have hl : (mkRow f c k (l.take j)).length = j := by rw [mkRow_len, List.length_take]; omega
  unfold mkRowAt
  rw [List.getElem?_append_right (by omega), hl, Nat.sub_self, List.getElem?_drop]
  simp [h]
theorem mkRowAt_set (h : j < l.length) (x : α) : (mkRowAt f c k l j).set j x = mkRow f c k (l.take j) ++ x :: l.drop (j + 1) := by
  have hl : (mkRow f c k (l.take j)).length = j := by rw [mkRow_len, List.length_take]; omega
  unfold mkRowAt
  rw [List.set_append_right _ _ (by omega), hl, Nat.sub_self, List.drop_eq_getElem_cons h, List.set_cons_zero]
theorem mkRowAt_succ (h : j < l.length) : mkRow f c k (l.take j) ++ f (k + cntR c (l.take j)) l[j] :: l.drop (j + 1) = mkRowAt f c k l (j + 1) := by
  unfold mkRowAt
  rw [List.take_succ_eq_append_getElem h, mkRow_snoc, List.append_assoc]; rfl
theorem cnt_succ (h : j < l.length) : cntR c (l.take (j + 1)) = cntR c (l.take j) + c l[j] := by
  exact sum_take_snoc c l j l[j] (List.getElem?_eq_getElem h)
theorem cnt_le : cntR c (l.take j) ≤ cntR c l := by
  unfold cntR
  rw [List.map_take]; exact sum_take_le _ _
theorem mkRow_at (h : j < l.length) : (mkRow f c k l)[j]? = some (f (k + cntR c (l.take j)) l[j]) := by
  induction l generalizing j k with
  | nil => simp at h
  | cons x r ih =>
    cases j with
    | zero => simp [mkRow, cntR]
    | succ j =>
      rw [mkRow, List.getElem?_cons_succ, ih (by simpa using h), List.take_succ_cons, List.getElem_cons_succ]
      unfold cntR
      rw [List.map_cons, List.sum_cons, Nat.add_assoc]
theorem mid_at {A B : List α} {x : α} (h : A.length = j) : (A ++ x :: B)[j]? = some x := by
  rw [List.getElem?_append_right (by omega), h, Nat.sub_self]; rfl
theorem mid_set {A B : List α} {x : α} (h : A.length = j) (y : α) : (A ++ x :: B).set j y = A ++ y :: B := by
  rw [List.set_append_right _ _ (by omega), h, Nat.sub_self, List.set_cons_zero]
theorem cell_set_off (w : World) (g i j : Nat) (v : Value) (h : i ≠ j) : (w.setCell ⟨g, i, none⟩ v).cell? ⟨g, j, none⟩ = w.cell? ⟨g, j, none⟩ := World.cell?_setCell_other _ _ _ _ (by intro e; injection e with _ e; exact h e)
theorem mkRow_take_len (h : j < l.length) : (mkRow f c k (l.take j)).length = j := by rw [mkRow_len, List.length_take]; omega
end
def cntMsg (m : Msg) : Nat := m.ptrs.length + 2
def mkMsg (k : Nat) (m : Msg) : Msg := ⟨(k : Int), mkS (k + 1) m.ptrs.length, ((k : Int) + 1 + (m.ptrs.length : Int)) % 3 == 0⟩

end Go.Proofs.YtcjajchfjoffnaaGreatDoor

namespace Go.Proofs.YtcjajchfjoffnaaGreatDoor
open Go.RowKit

def cntWat (m : Wat) : Nat := 5 + cntR cntMsg m.queue
def mkWat (k : Nat) (m : Wat) : Wat := ⟨(k : Int), mkText (k + 1), (k : Int) + 1 + 1, (k : Int) + 1 + 1 + 1, ((k : Int) + 1 + 1 + 1 + 1) % 3 == 0, mkRow mkMsg cntMsg (k + 1 + 1 + 1 + 1 + 1) m.queue⟩
end Go.Proofs.YtcjajchfjoffnaaGreatDoor

namespace Go.Proofs.YtcjajchfjoffnaaGreatDoor
open Go.RowKit

def cntNws (m : Nws) : Nat := m.ptrs.length + 1
def mkNws (k : Nat) (m : Nws) : Nws := ⟨(k : Int), mkS (k + 1) m.ptrs.length⟩
end Go.Proofs.YtcjajchfjoffnaaGreatDoor

namespace Go.Proofs.YtcjajchfjoffnaaGreatDoor
open Go.RowKit

end Go.Proofs.YtcjajchfjoffnaaGreatDoor

namespace Go.Proofs.YtcjajchfjoffnaaGreatDoor
open Go.RowKit

/-- The element types of the blocks. -/
def Tys (ts : List TypeId) (w : World) (bl : List Nat) : Prop := ∀ b ∈ bl, ∃ cur t, w.heap[b]? = some (.cells cur t (0, 0)) ∧ t ∈ ts
theorem own_ty {w : World} {B e size n : Nat} {v : Value} {xs : List Value} (h : w.ownsRow B e size v n xs) : Tys [e] w v.ownBlock.toList := by
  intro b hb
  rcases h.2 with ⟨hv, _⟩ | ⟨g, cap, cur, hv, _, hg, _⟩
  · rw [hv] at hb; simp [Value.ownBlock] at hb
  · rw [hv] at hb; simp [Value.ownBlock] at hb
    subst hb; exact ⟨cur, e, hg, by simp⟩
theorem Tys.mono {ts ts' : List TypeId} {w : World} {bl : List Nat} (h : Tys ts w bl) (hs : ∀ t ∈ ts, t ∈ ts') : Tys ts' w bl := fun b hb => by
  obtain ⟨cur, t, h1, h2⟩ := h b hb; exact ⟨cur, t, h1, hs t h2⟩
theorem Tys.app {ts : List TypeId} {w : World} {bl cl : List Nat} (h : Tys ts w bl) (k : Tys ts w cl) : Tys ts w (bl ++ cl) := fun b hb => by
  rcases List.mem_append.1 hb with hb | hb
  · exact h b hb
  · exact k b hb
theorem Tys.keep {ts : List TypeId} {w w' : World} {bl : List Nat} (h : Tys ts w bl) (hk : Kp bl w w') : Tys ts w' bl := fun b hb => by
  obtain ⟨cur, t, h1, h2⟩ := h b hb; exact ⟨cur, t, (hk b hb).trans h1, h2⟩
theorem orow_ty {α : Type} {e : Elem α} {ts : List TypeId} (he : ∀ {w vs x bl}, e.E w vs x bl → Tys ts w bl) {w : World} {v : Value} {xs : List α} {bl : List Nat} (h : ORow e w v xs bl) : Tys (e.T :: ts) w bl := by
  obtain ⟨ps, hl, hE, ho, rfl⟩ := h
  refine ((own_ty ho).mono (by simp)).app fun b hb => ?_
  obtain ⟨p, hp, hb⟩ := List.mem_flatMap.1 hb
  obtain ⟨j, hj, rfl⟩ := List.mem_iff_getElem.1 hp
  obtain ⟨cur, t, h1, h2⟩ := he (hE j ps[j] (xs[j]'(by omega)) (List.getElem?_eq_getElem hj) (List.getElem?_eq_getElem (by omega))) b hb
  exact ⟨cur, t, h1, List.mem_cons_of_mem _ h2⟩
theorem str_ty {w : World} {vs : List Value} {s : ByteArray} {bl : List Nat} (h : strE.E w vs s bl) : Tys [] w bl := by
  obtain ⟨_, rfl⟩ := h; intro b hb; simp at hb
theorem ostr_ty {w : World} {v : Value} {ss : List ByteArray} {bl : List Nat} (h : OStr w v ss bl) : Tys [9] w bl := orow_ty (e := strE) str_ty h
theorem own_base {w : World} {B e size n : Nat} {v : Value} {xs : List Value} (h : w.ownsRow 0 e size v n xs) (hB : ∀ g, v.ownBlock = some g → B ≤ g) : w.ownsRow B e size v n xs := by
  refine ⟨h.1, ?_⟩
  rcases h.2 with h0 | ⟨g, cap, cur, hv, _, r⟩
  · exact .inl h0
  · exact .inr ⟨g, cap, cur, hv, hB g (by rw [hv]; rfl), r⟩
/-- One more element at the end of a row that the call owns: what is asked of the append, and what comes of it. -/
theorem ORow.app {α : Type} {e : Elem α} {ts : List TypeId} (he : ∀ {w vs x bl}, e.E w vs x bl → Tys ts w bl) (hts : e.T ∉ ts) {B : Nat} {w : World} {v : Value} {xs : List α} {bl : List Nat} (h : ORow e w v xs bl) (hF : Fsh B bl)
    {vs : List Value} {x : α} {ib : List Nat} (hE : e.E w vs x ib) (hFi : Fsh B ib) (hap : ∀ b ∈ ib, b ∉ bl) :
    ∃ cs, w.ownsRow B e.T e.wd v xs.length cs ∧ ∀ v' w', w'.ownsRow B e.T e.wd v' (xs.length + 1) (cs ++ vs) → w.grownBy w' v.ownBlock → ∃ bl', ORow e w' v' (xs ++ [x]) bl' ∧ Fsh B bl' ∧ ∀ b ∈ bl', b ∈ bl ∨ b ∈ ib ∨ v'.ownBlock = some b := by
  have hlt := h.lt
  have hlti := e.lt hE
  obtain ⟨ps, hl, hE0, ho, rfl⟩ := h
  refine ⟨ps.flatMap (·.1), own_base ho fun g hg => hF.2 g (by simp [hg]), fun v' w' ho' hg => ?_⟩
  have hd := hF.1
  rw [List.nodup_append] at hd
  have hk : Kp (ps.flatMap (·.2)) w w' := fun b hb => hg.block b (hlt b (List.mem_append.2 (.inr hb))) fun e1 => hd.2.2 b (by simp [← e1]) b hb rfl
  have hki : Kp ib w w' := fun b hb => hg.block b (hlti b hb) fun e1 => hap b hb (List.mem_append.2 (.inl (by simp [← e1])))
  have hE' := e.keep hE hki
  have hT : Tys ts w' (ps.flatMap (·.2) ++ ib) := by
    refine Tys.app (Tys.keep (fun b hb => ?_) hk) (he hE')
    obtain ⟨p, hp, hb⟩ := List.mem_flatMap.1 hb
    obtain ⟨j, hj, rfl⟩ := List.mem_iff_getElem.1 hp
    exact he (hE0 j ps[j] (xs[j]'(by omega)) (List.getElem?_eq_getElem hj) (List.getElem?_eq_getElem (by omega))) b hb
  refine ⟨v'.ownBlock.toList ++ (ps.flatMap (·.2) ++ ib), ⟨ps ++ [(vs, ib)], by simp [hl], ?_, ?_, by simp⟩, ⟨?_, ?_⟩, ?_⟩
  · intro j p y hp hy
    by_cases hj : j < xs.length
    · rw [List.getElem?_append_left (by omega)] at hp hy
      exact e.keep (hE0 j p y hp hy) fun b hb => hk b (List.mem_flatMap.2 ⟨p, List.mem_of_getElem? hp, hb⟩)
    · have hy' := (List.getElem?_eq_some_iff.1 hy).1
      rw [List.length_append, List.length_singleton] at hy'
      have : j = xs.length := by omega
      subst this
      rw [← hl] at hp
      simp at hp hy
      subst hp; subst hy; exact hE'
  · rw [List.flatMap_append, List.length_append]
    have := own_mono ho' (Nat.zero_le B)
    simpa using this
  · rw [List.nodup_append]
    refine ⟨by cases v'.ownBlock <;> simp, ?_, ?_⟩
    · rw [List.nodup_append]
      exact ⟨hd.2.1, hFi.1, fun a ha b hb e1 => hap b hb (List.mem_append.2 (.inr (e1 ▸ ha)))⟩
    · intro a ha b hb e1
      subst e1
      obtain ⟨cur, t, h1, h2⟩ := own_ty ho' a ha
      obtain ⟨cur', t', h1', h2'⟩ := hT a hb
      rw [h1] at h1'
      simp at h1' h2
      exact hts (h2 ▸ h1'.2 ▸ h2')
  · intro b hb
    rcases List.mem_append.1 hb with hb | hb
    · exact (ho'.lt b (by simpa using hb)).1
    · rcases List.mem_append.1 hb with hb | hb
      · exact hF.2 b (List.mem_append.2 (.inr hb))
      · exact hFi.2 b hb
  · intro b hb
    rcases List.mem_append.1 hb with hb | hb
    · exact .inr (.inr (by simpa using hb))
    · rcases List.mem_append.1 hb with hb | hb
      · exact .inl (List.mem_append.2 (.inr hb))
      · exact .inr (.inl hb)
theorem OStr.cells {w : World} {v : Value} {ss : List ByteArray} {bl : List Nat} (h : OStr w v ss bl) : (v = .slice none 0 0 ∧ ss = []) ∨ ∃ g cap, v = .slice (some ⟨g, 0, none⟩) ss.length cap ∧ ∀ (j : Nat) (u : Value), (ss.map Value.string)[j]? = some u → w.cell? ((⟨g, 0, none⟩ : Addr).add j) = some u := by
  obtain ⟨ho, _⟩ := ostr_iff.1 h
  rcases ho.2 with ⟨hv, h0⟩ | ⟨g, cap, cur, hv, _⟩
  · exact .inl ⟨hv, List.eq_nil_of_length_eq_zero h0⟩
  · exact .inr ⟨g, cap, hv, fun j u hu => ho.cells (by rw [hv]; rfl) j u hu⟩
theorem ORow.head {α : Type} {e : Elem α} {w : World} {v : Value} {xs : List α} {bl : List Nat} (h : ORow e w v xs bl) {g : Nat} (hg : v.ownBlock = some g) : g ∈ bl := by
  obtain ⟨cb, h⟩ := h.split
  rw [h, hg]; simp
theorem str_one (ss : List ByteArray) : ∀ u ∈ ss.map Value.string, u.oneCell' = true := by
  intro u hu; obtain ⟨s, _, rfl⟩ := List.mem_map.1 hu; rfl

theorem wpList_append_str {w : World} {ops : Array Oper} {rest : List Oper} {o : Oper} {a : Act} {Q : Exit → Act → World → Prop} (hg : o.guard = none) (s x : Operand)
    (ho : o.op = .call { callee := .builtin .append, args := #[s, x], argTypes := #[45, 45] }) {B : Nat} {v u : Value} {ss us : List ByteArray} {bk : List Nat} (hs : a.eval s = v) (hx : a.eval x = u)
    (h : w.ownsRow B 9 1 v ss.length (ss.map .string)) (k : OStr w u us bk) (hB : B ≤ w.heap.size) (hl : ss.length + us.length ≤ 4000000)
    (hK : ∀ v' w', w'.ownsRow B 9 1 v' (ss ++ us).length ((ss ++ us).map .string) → w.grownBy w' v.ownBlock → wpList Tryz.prog ops Q rest (a.put o.dst v') w') : wpList Tryz.prog ops Q (o :: rest) a w := by
  obtain ⟨i0, hi, hz0, hz1, hz2⟩ := info_parts infoStr
  rcases k.cells with ⟨rfl, rfl⟩ | ⟨g, cap, rfl, hcell⟩
  · refine wpList_append_own_none hg s x 45 ho B 9 i0 1 Tryz.underlying45 hi v _ _ hs h hx ?_
    exact hK v w (by rw [List.append_nil]; exact h) (World.grownBy.refl _ _)
  · refine wpList_append_own _ hg s x 45 ho B 9 i0 (.string ByteArray.empty) 1 16 Tryz.underlying45 hi hz0 hz1 hz2 rfl (by decide) v _ _ hs h ⟨g, 0, none⟩ us.length cap (us.map .string) hx (by simp) hcell (str_one us) (by unfold maxLen; omega) (by omega) hB ?_
    intro v' w' h1 h2 _
    refine hK v' w' ?_ h2
    rw [List.length_append, List.map_append]; exact h1
theorem wpList_append_elem {α : Type} {e : Elem α} {ts : List TypeId} (he : ∀ {w vs x bl}, e.E w vs x bl → Tys ts w bl) (hts : e.T ∉ ts) {t : TypeId} (ht : Tryz.prog.underlying t = some (.slice e.T)) {z : Value} {bytes : Nat}
    (hinfo : (Tryz.prog.info? e.T).map (fun i => (i.zero, i.size, i.bytes)) = some (some z, e.wd, bytes)) (hzs : z.cells.size = e.wd) (hsz : 0 < e.wd) (hby : bytes ≤ 100)
    {w : World} {ops : Array Oper} {rest : List Oper} {o : Oper} {a : Act} {Q : Exit → Act → World → Prop} (hg : o.guard = none) (s x : Operand)
    (ho : o.op = .call { callee := .builtin .append, args := #[s, x], argTypes := #[t, t] }) {B : Nat} {v : Value} {xs : List α} {bl : List Nat} (hs : a.eval s = v)
    (h : ORow e w v xs bl) (hF : Fsh B bl) {vs : List Value} {y : α} {ib : List Nat} (hE : e.E w vs y ib) (hFi : Fsh B ib) (hap : ∀ b ∈ ib, b ∉ bl) {g : Nat} (hx : a.eval x = .slice (some ⟨g, 0, none⟩) 1 1)
    (hcell : ∀ (j : Nat) (u : Value), vs[j]? = some u → w.cell? ((⟨g, 0, none⟩ : Addr).add j) = some u) (h1 : ∀ u ∈ vs, u.oneCell' = true) (hB : B ≤ w.heap.size) (hl : xs.length ≤ 40000000)
    (hK : ∀ v' w' bl', ORow e w' v' (xs ++ [y]) bl' → Fsh B bl' → (∀ b ∈ bl', b ∈ bl ∨ b ∈ ib ∨ v'.ownBlock = some b) → w.grownBy w' v.ownBlock → wpList Tryz.prog ops Q rest (a.put o.dst v') w') : wpList Tryz.prog ops Q (o :: rest) a w := by
  obtain ⟨i0, hi, hz0, hz1, hz2⟩ := info_parts hinfo
  obtain ⟨cs, hown, hfin⟩ := h.app he hts hF hE hFi hap
  refine wpList_append_own _ hg s x t ho B e.T i0 z e.wd bytes ht hi hz0 hz1 hz2 hzs hsz v _ cs hs hown ⟨g, 0, none⟩ 1 1 vs hx (by rw [e.len hE]; omega) hcell h1 (by unfold maxLen; omega) ?_ hB ?_
  · have : (xs.length + 1) * bytes ≤ (xs.length + 1) * 100 := Nat.mul_le_mul_left _ hby
    omega
  · intro v' w' h1 h2 _
    obtain ⟨bl', h3, h4, h5⟩ := hfin v' w' h1 h2
    exact hK v' w' bl' h3 h4 h5 h2
theorem step_append_elem {α : Type} {e : Elem α} {ts : List TypeId} (he : ∀ {w vs x bl}, e.E w vs x bl → Tys ts w bl) (hts : e.T ∉ ts) {t : TypeId} (ht : Tryz.prog.underlying t = some (.slice e.T)) {z : Value} {bytes : Nat}
    (hinfo : (Tryz.prog.info? e.T).map (fun i => (i.zero, i.size, i.bytes)) = some (some z, e.wd, bytes)) (hzs : z.cells.size = e.wd) (hsz : 0 < e.wd) (hby : bytes ≤ 100)
    {w : World} {ops : Array Oper} {o : Oper} {a : Act} {K : Act → World → Prop} {Q : Exit → Act → World → Prop} {F : Prop} (hg : o.guard = none) (s x : Operand)
    (ho : o.op = .call { callee := .builtin .append, args := #[s, x], argTypes := #[t, t] }) {B : Nat} {v : Value} {xs : List α} {bl : List Nat} (hs : a.eval s = v)
    (h : ORow e w v xs bl) (hF : Fsh B bl) {vs : List Value} {y : α} {ib : List Nat} (hE : e.E w vs y ib) (hFi : Fsh B ib) (hap : ∀ b ∈ ib, b ∉ bl) {g : Nat} (hx : a.eval x = .slice (some ⟨g, 0, none⟩) 1 1)
    (hcell : ∀ (j : Nat) (u : Value), vs[j]? = some u → w.cell? ((⟨g, 0, none⟩ : Addr).add j) = some u) (h1 : ∀ u ∈ vs, u.oneCell' = true) (hB : B ≤ w.heap.size) (hl : xs.length ≤ 40000000)
    (hK : ∀ v' w' bl', ORow e w' v' (xs ++ [y]) bl' → Fsh B bl' → (∀ b ∈ bl', b ∈ bl ∨ b ∈ ib ∨ v'.ownBlock = some b) → w.grownBy w' v.ownBlock → K (a.put o.dst v') w') :
    if Region.wanted o (yielded ops a.tmps) = true then Oper.wp Tryz.prog o a w K Q else F := by
  have hw : Region.wanted o (yielded ops a.tmps) = true := by simp [Region.wanted, hg]
  rw [if_pos hw]
  obtain ⟨i0, hi, hz0, hz1, hz2⟩ := info_parts hinfo
  obtain ⟨cs, hown, hfin⟩ := h.app he hts hF hE hFi hap
  refine wp_append_own w s x t ho B e.T i0 z e.wd bytes ht hi hz0 hz1 hz2 hzs hsz v _ cs hs hown ⟨g, 0, none⟩ 1 1 vs hx (by rw [e.len hE]; omega) hcell h1 (by unfold maxLen; omega) ?_ hB ?_
  · have : (xs.length + 1) * bytes ≤ (xs.length + 1) * 100 := Nat.mul_le_mul_left _ hby
    omega
  · intro v' w' h1 h2 _
    obtain ⟨bl', h3, h4, h5⟩ := hfin v' w' h1 h2
    exact hK v' w' bl' h3 h4 h5 h2
theorem lit_cells (w : World) (vs : List Value) (T : TypeId) : ∀ (j : Nat) (u : Value), vs[j]? = some u → (w.alloc (.cells vs.toArray T)).cell? ((⟨w.heap.size, 0, none⟩ : Addr).add j) = some u := by
  intro j u hu
  have h := Lib.cell_of_heap (heap_alloc_new w (.cells vs.toArray T)) j
  rw [Go.WideShapes.add_plain, Nat.zero_add, h]
  simpa using hu
theorem ostr_own {w : World} {v : Value} {ss : List ByteArray} {B : Nat} (h : w.ownsRow B 9 1 v ss.length (ss.map .string)) : OStr w v ss v.ownBlock.toList ∧ Fsh B v.ownBlock.toList :=
  ⟨ostr_iff.2 ⟨own_mono h (Nat.zero_le _), rfl⟩, by cases v.ownBlock <;> simp, fun b hb => (h.lt b (by simpa using hb)).1⟩
theorem empty_row (w : World) (e size : Nat) : (w.alloc (.cells #[] e)).ownsRow w.heap.size e size (.slice (some ⟨w.heap.size, 0, none⟩) 0 0) 0 [] := by
  exact w.ownsRow_made #[] 0 (Nat.le_refl _) (Nat.zero_le _) (by simp)
theorem results_cell_tmp {P : Program} {fn : Func} {p r : Tmp} {ty : TypeId} (h : fn.results = #[.cell p ty, .tmp r]) (tmps : Array Value) (w : World) (g : Nat) (t : TypeId) (cs : Array Value) (fr : Nat × Nat) (d : TypeDesc) (v : Value)
    (hp : tmps.getD p undef = .pointer (some ⟨g, 0, none⟩)) (hr : tmps.getD r undef = v) (hg : w.heap[g]? = some (.cells cs t fr))
    (hu : P.underlying ty = some d) (hd : (match d with | .struct _ | .array _ _ => true | _ => false) = true) (hi : (P.info? ty).map (·.size) = some cs.size) :
    (results fn tmps).run P w = .ok (.tuple #[.agg cs, v]) w := by
  have hp' : tmps[p]?.getD undef = .pointer (some ⟨g, 0, none⟩) := by simpa using hp
  have hr' : tmps[r]?.getD undef = v := by simpa using hr
  simp [results, h, hp', hr', asAddr, run_loadVar_row w g t ty cs fr d hg hu hd hi]
end Go.Proofs.YtcjajchfjoffnaaGreatDoor

namespace Go.Proofs.YtcjajchfjoffnaaGreatDoor
open Go.RowKit

/-- A version. -/
structure Ver where
  no : Int
  doc : ByteArray
  touched : List ByteArray
def verR : RElem Ver where
  wd := 3
  R := fun w vs m => ∃ q, vs = [.int .i64 m.no, .string m.doc, q] ∧ m.doc.size ≤ maxLen ∧ RRow sRE w q m.touched
  len := fun h => by obtain ⟨q, h, _⟩ := h; rw [h]; rfl
  keep := fun h hb => by obtain ⟨q, h1, h0, h2⟩ := h; exact ⟨q, h1, h0, h2.below hb⟩
def verE : Elem Ver where
  T := 58
  wd := 3
  E := fun w vs m bl => ∃ q, vs = [.int .i64 m.no, .string m.doc, q] ∧ OStr w q m.touched bl
  len := fun h => by obtain ⟨q, h, _⟩ := h; rw [h]; rfl
  lt := fun h => by obtain ⟨q, _, h⟩ := h; exact h.lt
  keep := fun h hk => by obtain ⟨q, h1, h2⟩ := h; exact ⟨q, h1, h2.keep hk⟩
def szVer (m : Ver) : Nat := m.doc.size + szStr m.touched
def szVers (ms : List Ver) : Nat := ms.length + (ms.map szVer).sum
set_option maxRecDepth 100000 in
set_option maxHeartbeats 1600000 in
theorem eqVer_walk (a0 a1 a2 b0 b1 b2 : Value) (m : Ver) (ib jb : List Nat) (w : World) (h : verE.E w [a0, a1, a2] m ib) (k : verE.E w [b0, b1, b2] m jb) :
    Calls Tryz.prog 78 #[.agg #[a0, a1, a2], .agg #[b0, b1, b2]] w fun e w' => e = .returned (.bool true) ∧ Below w.heap.size w w' := by
  obtain ⟨q, hq, h1⟩ := h
  injection hq with e0 hq
  subst e0
  injection hq with e1 hq
  subst e1
  injection hq with e2 hq
  subst e2
  clear hq
  obtain ⟨q, hq, k1⟩ := k
  injection hq with e0 hq
  subst e0
  injection hq with e1 hq
  subst e1
  injection hq with e2 hq
  subst e2
  clear hq
  have H1 := hide h1
  have K1 := hide k1
  clear h1 k1
  go_enter Tryz.func78, Tryz.ntmps78
  go_wp2_with fail
  have hA := new2 w (Obj.cells #[Value.int IntKind.i64 m.no, Value.string m.doc, a2] 58) (Obj.cells #[Value.int IntKind.i64 m.no, Value.string m.doc, b2] 58)
  generalize ((w.alloc (Obj.cells #[Value.int IntKind.i64 m.no, Value.string m.doc, a2] 58)).alloc (Obj.cells #[Value.int IntKind.i64 m.no, Value.string m.doc, b2] 58)) = wA at *
  refine (eqStr_walk a2 b2 m.touched ib jb wA ((unhide H1).below hA.bel) ((unhide K1).below hA.bel)).mono ?_
  rintro e w1 ⟨rfl, bb1⟩
  have hsz := hA.size
  have k0 := (bb1.block w.heap.size (by omega)).trans hA.k0
  have k1 := (bb1.block (w.heap.size + 1) (by omega)).trans hA.k1
  have HB := hide (below_next hA.bel bb1)
  clear hA bb1 k0 k1 H1 K1
  go_wp2
  go_ret
  exact ⟨rfl, unhide HB⟩
set_option maxRecDepth 100000 in
set_option maxHeartbeats 1600000 in
theorem eqVers_walk (v v' : Value) (ms : List Ver) (bl bl' : List Nat) (w : World) (h : ORow verE w v ms bl) (k : ORow verE w v' ms bl') :
    Calls Tryz.prog 37 #[v, v'] w fun e w' => e = .returned (.bool true) ∧ Below w.heap.size w w' := by
  have hm := h.len
  unfold maxLen at hm
  obtain ⟨xa, xc, rfl, _, hxa⟩ := h.form
  obtain ⟨ya, yc, rfl, _, hya⟩ := k.form
  have H := hide h
  have K := hide k
  clear h k
  go_enter Tryz.func37, Tryz.ntmps37
  go_wp2
  go_loopw [5] (fun i wr => ∃ k : Nat, k ≤ ms.length ∧ i = .int .i64 k ∧ Below w.heap.size w wr) (fun i _ => ms.length - (intOf i).toNat)
  case atStart => exact ⟨0, Nat.zero_le _, rfl, Below.refl _ _⟩
  case round =>
    obtain ⟨k, hk, rfl, hb⟩ := hrel
    by_cases hlt : k < ms.length
    · obtain ⟨g, rfl⟩ := hxa (by omega)
      obtain ⟨g', rfl⟩ := hya (by omega)
      obtain ⟨vs, ib, hE, hc, _⟩ := ((unhide H).below hb).at (List.getElem?_eq_getElem hlt)
      obtain ⟨a0, a1, a2, rfl⟩ := list3 (verE.len hE)
      have c0 : wr.cell? ⟨g, k * 3, none⟩ = _ := (hc 0 _ rfl).1
      have c1 : wr.cell? ⟨g, k * 3 + 1, none⟩ = _ := (hc 1 _ rfl).1
      have c2 : wr.cell? ⟨g, k * 3 + 2, none⟩ = _ := (hc 2 _ rfl).1
      obtain ⟨vs, jb, hE', hc', _⟩ := ((unhide K).below hb).at (List.getElem?_eq_getElem hlt)
      obtain ⟨b0, b1, b2, rfl⟩ := list3 (verE.len hE')
      have d0 : wr.cell? ⟨g', k * 3, none⟩ = _ := (hc' 0 _ rfl).1
      have d1 : wr.cell? ⟨g', k * 3 + 1, none⟩ = _ := (hc' 1 _ rfl).1
      have d2 : wr.cell? ⟨g', k * 3 + 2, none⟩ = _ := (hc' 2 _ rfl).1
      have hx : Below wr.heap.size wr wr.drew := (Below.refl _ _).drew
      have HM := hide (eqVer_walk a0 a1 a2 b0 b1 b2 ms[k] ib jb wr.drew (verE.keep hE (.of_below hx (verE.lt hE))) (verE.keep hE' (.of_below hx (verE.lt hE'))))
      have HB := hide hb
      have hlt' : (k : Int) < (ms.length : Int) := by omega
      clear hxa hya hc hc' hE hE' hb hx
      go_wp2
      go_region_law (go_simp; refine (unhide HM).mono ?_; rintro e w1 ⟨rfl, b1⟩)
      all_goals go_wp2
      all_goals go_roundw
      all_goals first
        | exact ⟨k + 1, by omega, by go_num, (unhide HB).drew.trans (b1.mono (by have := (unhide HB).size; simp; omega))⟩
        | (simp [intOf]; omega)
    · clear hxa hya
      go_wp2
      go_ret
      exact ⟨rfl, hb⟩
end Go.Proofs.YtcjajchfjoffnaaGreatDoor

namespace Go.Proofs.YtcjajchfjoffnaaGreatDoor
open Go.RowKit

end Go.Proofs.YtcjajchfjoffnaaGreatDoor

namespace Go.Proofs.YtcjajchfjoffnaaGreatDoor
open Go.RowKit

/-- The place of a client's first watch, -1 when there is none. -/
def findI (ws : List Wat) (c : Int) : Int := match ws.findIdx? (fun x => x.client == c) with
  | some i => (i : Int)
  | none => -1
theorem findI_at {ws : List Wat} {c : Int} {j : Nat} (hj : j < ws.length) (hc : ws[j].client = c) (hb : ∀ i (h : i < ws.length), i < j → ws[i].client ≠ c) : findI ws c = (j : Int) := by
  have : ws.findIdx? (fun x => x.client == c) = some j := by
    rw [List.findIdx?_eq_some_iff_getElem]
    exact ⟨hj, by simp [hc], fun i hi => by simpa using hb i (by omega) hi⟩
  unfold findI; rw [this]
theorem findI_no {ws : List Wat} {c : Int} (hb : ∀ i (h : i < ws.length), ws[i].client ≠ c) : findI ws c = -1 := by
  have : ws.findIdx? (fun x => x.client == c) = none := by
    rw [List.findIdx?_eq_none_iff]
    intro x hx
    obtain ⟨i, hi, rfl⟩ := List.mem_iff_getElem.1 hx
    simpa using hb i hi
  unfold findI; rw [this]
theorem findI_cases (ws : List Wat) (c : Int) : findI ws c = -1 ∨ ∃ j : Nat, ∃ h : j < ws.length, findI ws c = (j : Int) ∧ ws[j].client = c := by
  unfold findI
  cases h : ws.findIdx? (fun x => x.client == c) with
  | none => exact .inl rfl
  | some j =>
    rw [List.findIdx?_eq_some_iff_getElem] at h
    obtain ⟨hj, hc, _⟩ := h
    exact .inr ⟨j, hj, rfl, by simpa using hc⟩

/-- The watches up to place k but the one at place s. -/
def skipT (ws : List Wat) (s : Int) : Nat → List Wat
  | 0 => []
  | k + 1 => skipT ws s k ++ (if (k : Int) = s then [] else ws[k]?.toList)
theorem skipT_len (ws : List Wat) (s : Int) : ∀ k, (skipT ws s k).length ≤ k
  | 0 => Nat.le_refl _
  | k + 1 => by
    have h1 := skipT_len ws s k
    rw [skipT, List.length_append]
    have : (if (k : Int) = s then [] else ws[k]?.toList).length ≤ 1 := by
      split
      · simp
      · cases ws[k]? <;> simp
    omega
def copyH (h : Hb) (s : Int) (d : Nat) : Hb := ⟨skipT h.watches s h.watches.length, h.waiting.drop d⟩

section
variable {w : World} {A B : Obj} {wr w3 : World} {p p' q q' : Value} {ws : List Wat} {ns : List Nws} {b1 b2 b1' b2' ib : List Nat}
end
end Go.Proofs.YtcjajchfjoffnaaGreatDoor

namespace Go.Proofs.YtcjajchfjoffnaaGreatDoor
open Go.RowKit

/-- Five new blocks. -/
structure New5 (w : World) (a b c d e : Obj) (w' : World) : Prop where
  bel : Below w.heap.size w w'
  size : w'.heap.size = w.heap.size + 1 + 1 + 1 + 1 + 1
  k0 : w'.heap[w.heap.size]? = some a
  k1 : w'.heap[w.heap.size + 1]? = some b
  k2 : w'.heap[w.heap.size + 1 + 1]? = some c
  k3 : w'.heap[w.heap.size + 1 + 1 + 1]? = some d
  k4 : w'.heap[w.heap.size + 1 + 1 + 1 + 1]? = some e
theorem new5 (w : World) (a b c d e : Obj) : New5 w a b c d e (((((w.alloc a).alloc b).alloc c).alloc d).alloc e) := by
  have h := new3 w a b c
  generalize ((w.alloc a).alloc b).alloc c = w3 at *
  have k := new2 w3 d e
  have hs := h.size
  generalize (w3.alloc d).alloc e = w5 at *
  have b5 := k.bel
  have s5 := k.size
  have k3 := k.k0
  have k4 := k.k1
  rw [hs] at b5 s5 k3 k4
  exact ⟨h.bel.trans (b5.mono (by omega)), s5, (b5.block _ (by omega)).trans h.k0, (b5.block _ (by omega)).trans h.k1, (b5.block _ (by omega)).trans h.k2, k3, k4⟩

/-- What the second region reads. -/
def HS3 (N g m n yc : Nat) (z : Int) (qv : Value) (w : World) : Prop := w.cell? ⟨N, 1, none⟩ = some (.slice (some ⟨g, 0, none⟩) n yc) ∧ w.cell? ⟨g, m * 2, none⟩ = some (.int .i64 z) ∧ w.cell? ⟨g, m * 2 + 1, none⟩ = some qv
section
variable {N g m n yc : Nat} {z : Int} {qv : Value} {w w' : World}
theorem HS3.keep (h : HS3 N g m n yc z qv w) (hb : Below w.heap.size w w') : HS3 N g m n yc z qv w' :=
  ⟨(hb.cell (World.block_lt_of_cell? _ _ h.1)).trans h.1, (hb.cell (World.block_lt_of_cell? _ _ h.2.1)).trans h.2.1, (hb.cell (World.block_lt_of_cell? _ _ h.2.2)).trans h.2.2⟩
theorem HS3.grown {row : Option Nat} (h : HS3 N g m n yc z qv w) (hg : w.grownBy w' row) (hr : ∀ b, row = some b → N + 1 + 1 ≤ b) (hN : g < N) : HS3 N g m n yc z qv w' :=
  ⟨hg.cell h.1 fun e => by have := hr N e.symm; omega, hg.cell h.2.1 fun e => by have := hr g e.symm; omega, hg.cell h.2.2 fun e => by have := hr g e.symm; omega⟩
theorem HS3.set (h : HS3 N g m n yc z qv w) (hN : g < N) (o : Nat) (u : Value) : HS3 N g m n yc z qv (w.setCell ⟨N + 1 + 1 + 1 + 1, o, none⟩ u) :=
  ⟨(World.cell?_of_block (w := w) (Below.heap_setCell _ _ _ _ (by simp; omega))).trans h.1, (World.cell?_of_block (w := w) (Below.heap_setCell _ _ _ _ (by simp; omega))).trans h.2.1, (World.cell?_of_block (w := w) (Below.heap_setCell _ _ _ _ (by simp; omega))).trans h.2.2⟩
end
end Go.Proofs.YtcjajchfjoffnaaGreatDoor

namespace Go.Proofs.YtcjajchfjoffnaaGreatDoor
open Go.RowKit

theorem skipT_none (ws : List Wat) : ∀ k, k ≤ ws.length → skipT ws (-1) k = ws.take k
  | 0, _ => by simp [skipT]
  | k + 1, h => by
    rw [skipT, skipT_none ws k (by omega), if_neg (by omega), List.take_add_one]
theorem copyH_none (h : Hb) : copyH h (-1) 0 = h := by
  unfold copyH
  rw [skipT_none _ _ (Nat.le_refl _), List.take_length]; rfl

section
variable {w0 : World} {G F : Nat} {wr w3 : World} {p p' q q' : Value} {ws : List Wat} {ns : List Nws} {b1 b2 b1' b2' ib : List Nat}
end

end Go.Proofs.YtcjajchfjoffnaaGreatDoor

namespace Go.Proofs.YtcjajchfjoffnaaGreatDoor
open Go.RowKit

/-- What the elements of a row hold of blocks. -/
theorem orow_inner_ty {α : Type} {e : Elem α} {ts : List TypeId} (he : ∀ {w vs x bl}, e.E w vs x bl → Tys ts w bl) {w : World} {v : Value} {xs : List α} {bl cb : List Nat} (h : ORow e w v xs bl) (hc : bl = v.ownBlock.toList ++ cb) : Tys ts w cb := by
  obtain ⟨ps, hl, hE, ho, hb⟩ := h
  rw [hb] at hc
  have := List.append_cancel_left hc
  subst this
  intro b hb
  obtain ⟨p, hp, hb⟩ := List.mem_flatMap.1 hb
  obtain ⟨j, hj, rfl⟩ := List.mem_iff_getElem.1 hp
  exact he (hE j ps[j] (xs[j]'(by omega)) (List.getElem?_eq_getElem hj) (List.getElem?_eq_getElem (by omega))) b hb
theorem Tys.not {ts : List TypeId} {w : World} {bl : List Nat} (h : Tys ts w bl) {B e size n : Nat} {v : Value} {xs : List Value} (ho : w.ownsRow B e size v n xs) (hn : e ∉ ts) {g : Nat} (hg : v.ownBlock = some g) : g ∉ bl := fun hm => by
  obtain ⟨cur, t, h1, h2⟩ := h g hm
  obtain ⟨cur', t', h3, h4⟩ := own_ty ho g (by simp [hg])
  rw [h1] at h3
  injection h3 with h3; injection h3 with _ h3
  simp at h4
  exact hn (h4 ▸ h3 ▸ h2)
/-- One more element at the end of a row that the call owns; what lies in the elements may be shared. -/
theorem ORow.app2 {α : Type} {e : Elem α} {ts : List TypeId} (he : ∀ {w vs x bl}, e.E w vs x bl → Tys ts w bl) (hts : e.T ∉ ts) {B : Nat} {w : World} {v : Value} {xs : List α} {cb : List Nat} (h : ORow e w v xs (v.ownBlock.toList ++ cb)) (hB : ∀ g, v.ownBlock = some g → B ≤ g)
    {vs : List Value} {x : α} {ib : List Nat} (hE : e.E w vs x ib) :
    ∃ cs, w.ownsRow B e.T e.wd v xs.length cs ∧ ∀ v' w', w'.ownsRow B e.T e.wd v' (xs.length + 1) (cs ++ vs) → w.grownBy w' v.ownBlock → ORow e w' v' (xs ++ [x]) (v'.ownBlock.toList ++ (cb ++ ib)) := by
  have hlt := h.lt
  have hlti := e.lt hE
  have hty := orow_inner_ty he h rfl
  have htyi := he hE
  obtain ⟨ps, hl, hE0, ho, hb⟩ := h
  have hcb := List.append_cancel_left hb
  subst hcb
  refine ⟨ps.flatMap (·.1), own_base ho hB, fun v' w' ho' hg => ?_⟩
  have hk : Kp (ps.flatMap (·.2)) w w' := fun b hb => hg.block b (hlt b (List.mem_append.2 (.inr hb))) fun e1 => hty.not ho hts e1.symm hb
  have hki : Kp ib w w' := fun b hb => hg.block b (hlti b hb) fun e1 => htyi.not ho hts e1.symm hb
  refine ⟨ps ++ [(vs, ib)], by simp [hl], ?_, ?_, by simp⟩
  · intro j p y hp hy
    by_cases hj : j < xs.length
    · rw [List.getElem?_append_left (by omega)] at hp hy
      exact e.keep (hE0 j p y hp hy) fun b hb => hk b (List.mem_flatMap.2 ⟨p, List.mem_of_getElem? hp, hb⟩)
    · have hy' := (List.getElem?_eq_some_iff.1 hy).1
      rw [List.length_append, List.length_singleton] at hy'
      have : j = xs.length := by omega
      subst this
      rw [← hl] at hp
      simp at hp hy
      subst hp; subst hy; exact e.keep hE hki
  · rw [List.flatMap_append, List.length_append]
    have := own_mono ho' (Nat.zero_le B)
    simpa using this
theorem wpList_append_elem2 {α : Type} {e : Elem α} {ts : List TypeId} (he : ∀ {w vs x bl}, e.E w vs x bl → Tys ts w bl) (hts : e.T ∉ ts) {t : TypeId} (ht : Tryz.prog.underlying t = some (.slice e.T)) {z : Value} {bytes : Nat}
    (hinfo : (Tryz.prog.info? e.T).map (fun i => (i.zero, i.size, i.bytes)) = some (some z, e.wd, bytes)) (hzs : z.cells.size = e.wd) (hsz : 0 < e.wd) (hby : bytes ≤ 100)
    {w : World} {ops : Array Oper} {rest : List Oper} {o : Oper} {a : Act} {Q : Exit → Act → World → Prop} (hg : o.guard = none) (s x : Operand)
    (ho : o.op = .call { callee := .builtin .append, args := #[s, x], argTypes := #[t, t] }) {B : Nat} {v : Value} {xs : List α} {cb : List Nat} (hs : a.eval s = v)
    (h : ORow e w v xs (v.ownBlock.toList ++ cb)) (hB0 : ∀ g, v.ownBlock = some g → B ≤ g) {vs : List Value} {y : α} {ib : List Nat} (hE : e.E w vs y ib) {g : Nat} (hx : a.eval x = .slice (some ⟨g, 0, none⟩) 1 1)
    (hcell : ∀ (j : Nat) (u : Value), vs[j]? = some u → w.cell? ((⟨g, 0, none⟩ : Addr).add j) = some u) (h1 : ∀ u ∈ vs, u.oneCell' = true) (hB : B ≤ w.heap.size) (hl : xs.length ≤ 40000000)
    (hK : ∀ v' w', ORow e w' v' (xs ++ [y]) (v'.ownBlock.toList ++ (cb ++ ib)) → (∀ g, v'.ownBlock = some g → B ≤ g) → w.grownBy w' v.ownBlock → wpList Tryz.prog ops Q rest (a.put o.dst v') w') : wpList Tryz.prog ops Q (o :: rest) a w := by
  obtain ⟨i0, hi, hz0, hz1, hz2⟩ := info_parts hinfo
  obtain ⟨cs, hown, hfin⟩ := h.app2 he hts hB0 hE
  refine wpList_append_own _ hg s x t ho B e.T i0 z e.wd bytes ht hi hz0 hz1 hz2 hzs hsz v _ cs hs hown ⟨g, 0, none⟩ 1 1 vs hx (by rw [e.len hE]; omega) hcell h1 (by unfold maxLen; omega) ?_ hB ?_
  · have : (xs.length + 1) * bytes ≤ (xs.length + 1) * 100 := Nat.mul_le_mul_left _ hby
    omega
  · intro v' w' h1 h2 _
    exact hK v' w' (hfin v' w' h1 h2) (fun g hg => (h1.lt g hg).1) h2
theorem step_append_elem2 {α : Type} {e : Elem α} {ts : List TypeId} (he : ∀ {w vs x bl}, e.E w vs x bl → Tys ts w bl) (hts : e.T ∉ ts) {t : TypeId} (ht : Tryz.prog.underlying t = some (.slice e.T)) {z : Value} {bytes : Nat}
    (hinfo : (Tryz.prog.info? e.T).map (fun i => (i.zero, i.size, i.bytes)) = some (some z, e.wd, bytes)) (hzs : z.cells.size = e.wd) (hsz : 0 < e.wd) (hby : bytes ≤ 100)
    {w : World} {ops : Array Oper} {o : Oper} {a : Act} {K : Act → World → Prop} {Q : Exit → Act → World → Prop} {F : Prop} (hg : o.guard = none) (s x : Operand)
    (ho : o.op = .call { callee := .builtin .append, args := #[s, x], argTypes := #[t, t] }) {B : Nat} {v : Value} {xs : List α} {cb : List Nat} (hs : a.eval s = v)
    (h : ORow e w v xs (v.ownBlock.toList ++ cb)) (hB0 : ∀ g, v.ownBlock = some g → B ≤ g) {vs : List Value} {y : α} {ib : List Nat} (hE : e.E w vs y ib) {g : Nat} (hx : a.eval x = .slice (some ⟨g, 0, none⟩) 1 1)
    (hcell : ∀ (j : Nat) (u : Value), vs[j]? = some u → w.cell? ((⟨g, 0, none⟩ : Addr).add j) = some u) (h1 : ∀ u ∈ vs, u.oneCell' = true) (hB : B ≤ w.heap.size) (hl : xs.length ≤ 40000000)
    (hK : ∀ v' w', ORow e w' v' (xs ++ [y]) (v'.ownBlock.toList ++ (cb ++ ib)) → (∀ g, v'.ownBlock = some g → B ≤ g) → w.grownBy w' v.ownBlock → K (a.put o.dst v') w') :
    if Region.wanted o (yielded ops a.tmps) = true then Oper.wp Tryz.prog o a w K Q else F := by
  have hw : Region.wanted o (yielded ops a.tmps) = true := by simp [Region.wanted, hg]
  rw [if_pos hw]
  obtain ⟨i0, hi, hz0, hz1, hz2⟩ := info_parts hinfo
  obtain ⟨cs, hown, hfin⟩ := h.app2 he hts hB0 hE
  refine wp_append_own w s x t ho B e.T i0 z e.wd bytes ht hi hz0 hz1 hz2 hzs hsz v _ cs hs hown ⟨g, 0, none⟩ 1 1 vs hx (by rw [e.len hE]; omega) hcell h1 (by unfold maxLen; omega) ?_ hB ?_
  · have : (xs.length + 1) * bytes ≤ (xs.length + 1) * 100 := Nat.mul_le_mul_left _ hby
    omega
  · intro v' w' h1 h2 _
    exact hK v' w' (hfin v' w' h1 h2) (fun g hg => (h1.lt g hg).1) h2
/-- A whole row behind nil: a copy; what lies in the elements is shared. -/
theorem wpList_append_nil {α : Type} {e : Elem α} (hone : ∀ {w vs x bl}, e.E w vs x bl → ∀ u ∈ vs, u.oneCell' = true) {t : TypeId} (ht : Tryz.prog.underlying t = some (.slice e.T)) {z : Value} {bytes : Nat}
    (hinfo : (Tryz.prog.info? e.T).map (fun i => (i.zero, i.size, i.bytes)) = some (some z, e.wd, bytes)) (hzs : z.cells.size = e.wd) (hsz : 0 < e.wd) (hby : bytes ≤ 100)
    {w : World} {ops : Array Oper} {rest : List Oper} {o : Oper} {a : Act} {Q : Exit → Act → World → Prop} (hg : o.guard = none) (s x : Operand)
    (ho : o.op = .call { callee := .builtin .append, args := #[s, x], argTypes := #[t, t] }) {v : Value} {xs : List α} {cb : List Nat} (hs : a.eval s = .slice none 0 0) (hx : a.eval x = v)
    (h : ORow e w v xs (v.ownBlock.toList ++ cb)) (hl : xs.length ≤ 40000000)
    (hK : ∀ v' w', ORow e w' v' xs (v'.ownBlock.toList ++ cb) → (∀ g, v'.ownBlock = some g → w.heap.size ≤ g) → Below w.heap.size w w' → wpList Tryz.prog ops Q rest (a.put o.dst v') w') : wpList Tryz.prog ops Q (o :: rest) a w := by
  obtain ⟨i0, hi, hz0, hz1, hz2⟩ := info_parts hinfo
  have hlt := h.lt
  obtain ⟨ps, hl0, hE, ho0, hb⟩ := h
  have hcb := List.append_cancel_left hb
  have hnil := w.ownsRow_nil w.heap.size e.T e.wd
  rcases ho0.2 with ⟨hv, h0⟩ | ⟨g, cap, cur, hv, _⟩
  · subst hv
    refine wpList_append_own_none hg s x t ho w.heap.size e.T i0 e.wd ht hi _ _ _ hs hnil hx ?_
    exact hK _ w ⟨ps, hl0, hE, ho0, hb⟩ (fun g hg => by simp [Value.ownBlock] at hg) (Below.refl _ _)
  · have hwd := orow_wd hl0 hE
    have hones : ∀ u ∈ ps.flatMap (·.1), u.oneCell' = true := by
      intro u hu
      obtain ⟨p, hp, hu⟩ := List.mem_flatMap.1 hu
      obtain ⟨j, hj, rfl⟩ := List.mem_iff_getElem.1 hp
      exact hone (hE j ps[j] (xs[j]'(by omega)) (List.getElem?_eq_getElem hj) (List.getElem?_eq_getElem (by omega))) u hu
    have hob : v.ownBlock = some g := by rw [hv]; rfl
    refine wpList_append_own _ hg s x t ho w.heap.size e.T i0 z e.wd bytes ht hi hz0 hz1 hz2 hzs hsz _ 0 [] hs hnil ⟨g, 0, none⟩ xs.length cap (ps.flatMap (·.1)) (hx.trans hv) ho0.1 (fun j u hu => ho0.cells hob j u hu) hones (by unfold maxLen; omega) ?_ (Nat.le_refl _) ?_
    · have : (0 + xs.length) * bytes ≤ (0 + xs.length) * 100 := Nat.mul_le_mul_left _ hby
      omega
    · intro v' w' h1 h2 _
      have hbel : Below w.heap.size w w' := (Below.refl _ _).grown h2 (Nat.le_refl _) (fun k hk => by simp [Value.ownBlock] at hk)
      refine hK v' w' ⟨ps, hl0, fun j p y hp hy => e.keep (hE j p y hp hy) fun b hb1 => hbel.block b (hlt b (by rw [hb]; exact List.mem_append.2 (.inr (List.mem_flatMap.2 ⟨p, List.mem_of_getElem? hp, hb1⟩)))), ?_, by rw [hcb]⟩ (fun g hg => (h1.lt g hg).1) hbel
      have := own_mono h1 (Nat.zero_le _)
      simpa using this
theorem str_ones {w : World} {vs : List Value} {x : ByteArray} {bl : List Nat} (h : strE.E w vs x bl) : ∀ u ∈ vs, u.oneCell' = true := by
  obtain ⟨rfl, _⟩ := h; intro u hu; simp at hu; subst hu; rfl
theorem infoStrE : (Tryz.prog.info? strE.T).map (fun i => (i.zero, i.size, i.bytes)) = some (some (.string ByteArray.empty), strE.wd, 16) := infoStr

set_option maxHeartbeats 400000 in
set_option maxRecDepth 100000 in
theorem copiedStr_walk (v : Value) (xs : List ByteArray) (bl : List Nat) (w : World) (h : OStr w v xs bl) (hm : xs.length ≤ 2097154) :
    Calls Tryz.prog 76 #[v] w fun e w' => ∃ v' bl', e = .returned v' ∧ OStr w' v' xs bl' ∧ Fsh w.heap.size bl' ∧ Below w.heap.size w w' := by
  have hc : bl = v.ownBlock.toList ++ [] := by rw [List.append_nil]; exact (ostr_iff.1 h).2
  subst hc
  have H := hide h
  clear h
  go_enter Tryz.func76, Tryz.ntmps76
  go_wp2_with (at_builtin; refine wpList_append_nil (e := strE) str_ones Tryz.underlying45 infoStrE rfl (by decide) (by decide) rfl (.const (.slice none 0 0)) (.tmp 3) rfl rfl rfl (unhide H) (by omega) ?_)
  intro v' w' ho hB hb
  have HO := hide ho
  have HBB := hide hB
  have HBE := hide hb
  clear ho hB hb H
  go_wp2
  go_ret
  refine ⟨_, _, rfl, unhide HO, ⟨?_, fun b hb => unhide HBB b (by simpa using hb)⟩, unhide HBE⟩
  cases v'.ownBlock <;> simp
/-- What a ring holds, in order. -/
structure RingIs {α : Type} (cells : List α) (f c : Nat) (q : List α) : Prop where
  cnt : c = q.length
  le : c ≤ cells.length
  lt : f < cells.length ∨ cells = []
  at_ : ∀ (i : Nat) (x : α), q[i]? = some x → cells[(f + i) % cells.length]? = some x
theorem RingIs.fresh {α : Type} (q : List α) : RingIs q 0 q.length q := by
  refine ⟨rfl, Nat.le_refl _, ?_, fun i x h => ?_⟩
  · cases q with
    | nil => exact .inr rfl
    | cons a r => exact .inl (by simp)
  · have hi := (List.getElem?_eq_some_iff.1 h).1
    rw [Nat.zero_add, Nat.mod_eq_of_lt hi]; exact h
/-- A ring in three cells of a block. -/
structure RingAt {α : Type} (e : Elem α) (w : World) (g o : Nat) (cv : Value) (f c : Nat) (ms : List α) (q : List α) (cb : List Nat) : Prop where
  c0 : w.cell? ⟨g, o, none⟩ = some cv
  c1 : w.cell? ⟨g, o + 1, none⟩ = some (.int .i64 (f : Int))
  c2 : w.cell? ⟨g, o + 2, none⟩ = some (.int .i64 (c : Int))
  row : ORow e w cv ms (cv.ownBlock.toList ++ cb)
  ring : RingIs ms f c q
theorem RingAt.below {α : Type} {e : Elem α} {w w' : World} {g o : Nat} {cv : Value} {f c : Nat} {ms q : List α} {cb : List Nat} (h : RingAt e w g o cv f c ms q cb) (hb : Below w.heap.size w w') : RingAt e w' g o cv f c ms q cb :=
  ⟨(hb.cell (World.block_lt_of_cell? _ _ h.c0)).trans h.c0, (hb.cell (World.block_lt_of_cell? _ _ h.c1)).trans h.c1, (hb.cell (World.block_lt_of_cell? _ _ h.c2)).trans h.c2, h.row.below hb, h.ring⟩
end Go.Proofs.YtcjajchfjoffnaaGreatDoor

namespace Go.Proofs.YtcjajchfjoffnaaGreatDoor
open Go.RowKit

/-- A store of its own memory. -/
def TellP (vs : List Ver) (w : World) (e : Ending) (w' : World) : Prop := ∃ v bl, e = .returned (.agg #[v]) ∧ ORow verE w' v vs bl ∧ Fsh w.heap.size bl ∧ Below w.heap.size w w'
theorem ver_ty {w : World} {vs : List Value} {m : Ver} {bl : List Nat} (h : verE.E w vs m bl) : Tys [9] w bl := by obtain ⟨q, _, h⟩ := h; exact ostr_ty h
theorem infoVerE : (Tryz.prog.info? verE.T).map (fun i => (i.zero, i.size, i.bytes)) = some (some (.agg #[.int .i64 0, .string ByteArray.empty, .slice none 0 0]), verE.wd, 48) := by kernel_rfl
set_option maxRecDepth 100000 in
set_option maxHeartbeats 800000 in
theorem reverse1_walk (a : Option Addr) (n c : Nat) (hn : n ≤ 1) (w : World) : Calls Tryz.prog 77 #[.slice a n c] w fun e w' => e = .returned (.tuple #[]) ∧ w = w' := by
  rcases (show n = 0 ∨ n = 1 by omega) with rfl | rfl
  · go_enter Tryz.func77, Tryz.ntmps77
    go_wp2
    go_loopw [2, 3] (fun i j wr => i = .int .i64 0 ∧ j = .int .i64 (-1) ∧ w = wr) (fun _ _ _ => 0)
    case atStart => exact ⟨rfl, rfl, rfl⟩
    case round =>
      obtain ⟨rfl, rfl, rfl⟩ := hrel
      go_wp2
      go_end0
      exact ⟨rfl, rfl⟩
  · go_enter Tryz.func77, Tryz.ntmps77
    go_wp2
    go_loopw [2, 3] (fun i j wr => i = .int .i64 0 ∧ j = .int .i64 0 ∧ w = wr) (fun _ _ _ => 0)
    case atStart => exact ⟨rfl, rfl, rfl⟩
    case round =>
      obtain ⟨rfl, rfl, rfl⟩ := hrel
      go_wp2
      go_end0
      exact ⟨rfl, rfl⟩
set_option maxRecDepth 100000 in
set_option maxHeartbeats 800000 in
theorem tell0_walk (w : World) : Calls Tryz.prog 36 #[.pointer none] w (TellP [] w) := by
  have HR := hide (fun (w : World) => reverse1_walk none 0 0 (by decide) w)
  go_enter Tryz.func36, Tryz.ntmps36
  go_wp2
  have hA := alloc_b w (Obj.cells #[Value.slice none 0 0] 24)
  have kA := heap_alloc_new w (Obj.cells #[Value.slice none 0 0] 24)
  generalize (w.alloc (Obj.cells #[Value.slice none 0 0] 24)) = wA at *
  have HA := hide hA
  have HKA := hide kA
  clear hA kA
  go_loopw [3, 4] (fun lv at' wr => lv = .slice none 0 0 ∧ at' = .pointer none ∧ wA = wr) (fun _ _ _ => 0)
  case atStart => exact ⟨rfl, rfl, rfl⟩
  case round =>
    obtain ⟨rfl, rfl, rfl⟩ := hrel
    go_wp2_with fail
    refine (unhide HR _).mono ?_
    rintro e w1 ⟨rfl, rfl⟩
    have c0 : wA.cell? ⟨w.heap.size, 0, none⟩ = some (.slice none 0 0) := Lib.cell_of_heap (unhide HKA) 0
    have f0 := Lib.frozen_of_heap (unhide HKA)
    clear HR
    go_wp2
    refine bodyPost_ret (results_cell_row rfl _ _ w.heap.size 24 #[_] (0, 0) _ rfl (putN_full (unhide HKA) [_] rfl) Tryz.underlying24 rfl (by kernel_rfl)) rfl ?_
    exact ⟨_, [], rfl, ORow.nil _ _, Fsh.nil _, putN_below (unhide HA) (Nat.le_refl _) [_] 0⟩
/-- The one revision of a store that was opened. -/
def revB (d : ByteArray) (rt : Value) : Obj := .cells #[.int .i64 0, .string d, .slice none 0 0, rt, .pointer none] 125 (0, 0)
def atN : Value → Nat
  | .pointer (some _) => 1
  | _ => 0
set_option maxRecDepth 100000 in
set_option maxHeartbeats 1600000 in
theorem tell1_walk (g : Nat) (d : ByteArray) (rt : Value) (w : World) (h : w.heap[g]? = some (revB d rt)) : Calls Tryz.prog 36 #[.pointer (some ⟨g, 0, none⟩)] w (TellP [⟨0, d, []⟩] w) := by
  have HR := hide (fun (a : Option Addr) (c : Nat) (w : World) => reverse1_walk a 1 c (by decide) w)
  have HC := hide (fun w => copiedStr_walk (.slice none 0 0) [] [] w (ORow.nil _ _) (by decide))
  have HK := hide h
  have hlt : g < w.heap.size := (Array.getElem?_eq_some_iff.1 h).1
  clear h
  go_enter Tryz.func36, Tryz.ntmps36
  go_wp2
  have hA := alloc_b w (Obj.cells #[Value.slice none 0 0] 24)
  have kA := heap_alloc_new w (Obj.cells #[Value.slice none 0 0] 24)
  have zA : (w.alloc (Obj.cells #[Value.slice none 0 0] 24)).heap.size = w.heap.size + 1 := by simp
  generalize (w.alloc (Obj.cells #[Value.slice none 0 0] 24)) = wA at *
  have HA := hide hA
  have HKA := hide kA
  have HKW : Hid (∀ wx, Below wA.heap.size wA wx → wx.heap[g]? = some (revB d rt)) := fun wx hx => (hx.block g (by omega)).trans ((hA.block g hlt).trans (unhide HK))
  clear hA kA HK
  go_loopw [3, 4] (fun lv at' wr => (lv = .slice none 0 0 ∧ at' = .pointer (some ⟨g, 0, none⟩) ∧ wA = wr) ∨ (at' = .pointer none ∧ ∃ bl, ORow verE wr lv [⟨0, d, []⟩] bl ∧ Fsh (w.heap.size + 1) bl ∧ Below wA.heap.size wA wr)) (fun _ at' _ => atN at')
  case atStart => exact .inl ⟨rfl, rfl, rfl⟩
  case round =>
    rcases hrel with ⟨rfl, rfl, rfl⟩ | ⟨rfl, bl, ho, hf, hb⟩
    · have hd : Below wA.heap.size wA wA.drew := (Below.refl _ _).drew
      have k1 := unhide HKW _ hd
      have c0 : wA.drew.cell? ⟨g, 0, none⟩ = some (.int .i64 0) := Lib.cell_of_heap k1 0
      have c1 : wA.drew.cell? ⟨g, 1, none⟩ = some (.string d) := Lib.cell_of_heap k1 1
      have c2 : wA.drew.cell? ⟨g, 2, none⟩ = some (.slice none 0 0) := Lib.cell_of_heap k1 2
      have HM := hide (unhide HC wA.drew)
      clear k1 HC
      go_wp2_with fail
      go_region_law (first
        | (refine step_append_elem (e := verE) ver_ty (by decide) Tryz.underlying22 infoVerE rfl (by decide) (by decide) rfl (.tmp 12) (.tmp 30) rfl (B := w.heap.size + 1) rfl (ORow.nil _ _) (Fsh.nil _) (unhide E3) (unhide HFI) (fun b hb hx => by simp at hx) rfl (by exact lit_cells w2 [_, _, _] _) (by exact unhide HONE) (by simp; omega) (by decide) ?_
           intro v' w3 bl' o4 f4 m4 hg4
           obtain ⟨va, vc, rfl, hv1, hv2⟩ := o4.form
           have b3 : Below wA.heap.size wA w3 := (unhide B2).grown hg4 (unhide B2).size (fun k hk => by cases hk)
           have k4 := unhide HKW _ b3
           have c4 : w3.cell? ⟨g, 4, none⟩ = some (.pointer none) := Lib.cell_of_heap k4 4)
        | (go_simp; refine (unhide HM).mono ?_
           rintro e w2 ⟨v2, bl2, rfl, o2, f2, b2⟩
           obtain ⟨za, zc, rfl, hy1, hy2⟩ := o2.form
           have k2 := unhide HKW _ (below_next hd b2)
           have d0 : w2.cell? ⟨g, 0, none⟩ = some (.int .i64 0) := Lib.cell_of_heap k2 0
           have d1 : w2.cell? ⟨g, 1, none⟩ = some (.string d) := Lib.cell_of_heap k2 1
           have hE2 : verE.E w2 [.int .i64 0, .string d, .slice za 0 zc] ⟨0, d, []⟩ bl2 := ⟨_, rfl, o2⟩
           have hab : Below w2.heap.size w2 (w2.alloc (.cells #[.int .i64 0, .string d, .slice za 0 zc] 58)) := alloc_b _ _
           have E3 := hide (verE.keep hE2 (.of_below hab (verE.lt hE2)))
           have HFI := hide (f2.mono (B' := w.heap.size + 1) (by simp; omega))
           have B2 := hide (below_next (below_next hd b2) hab)
           have hsz2 : wA.heap.size ≤ w2.heap.size := b2.size
           have HONE : Hid (∀ u ∈ [Value.int .i64 0, .string d, .slice za 0 zc], u.oneCell' = true) := fun u hu => by simp at hu; rcases hu with rfl | rfl | rfl <;> rfl))
      all_goals (
        have HO4 := hide o4
        have HF4 := hide f4
        have HB3 := hide b3
        clear o4 f4 m4 hg4 b3 k4 hE2 E3 HFI B2 HONE o2 f2 b2 hab
        go_wp2
        go_roundw)
      all_goals first
        | exact .inr ⟨rfl, _, unhide HO4, unhide HF4, unhide HB3⟩
        | exact Nat.zero_lt_one
    · obtain ⟨xa, xc, rfl, hx1, hx2⟩ := ho.form
      have HO := hide ho
      clear ho hx1 hx2
      go_wp2_with fail
      refine (unhide HR _ _ _).mono ?_
      rintro e w1 ⟨rfl, rfl⟩
      have k1 := (hb.block w.heap.size (by omega)).trans (unhide HKA)
      have c0 : wr.cell? ⟨w.heap.size, 0, none⟩ = some (.slice none 0 0) := Lib.cell_of_heap k1 0
      have f0 := Lib.frozen_of_heap k1
      have HB := hide hb
      have HK1 := hide k1
      clear HR hb k1
      go_wp2
      refine bodyPost_ret (results_cell_row rfl _ _ w.heap.size 24 #[_] (0, 0) _ rfl (putN_full (unhide HK1) [_] rfl) Tryz.underlying24 rfl (by kernel_rfl)) rfl ?_
      exact ⟨_, bl, rfl, (unhide HO).putN (hf.not (by omega)) [_] 0, hf.mono (by omega), putN_below (below_next (unhide HA) (unhide HB)) (Nat.le_refl _) [_] 0⟩
end Go.Proofs.YtcjajchfjoffnaaGreatDoor

namespace Go.Proofs.YtcjajchfjoffnaaGreatDoor
open Go.RowKit

def cntVer (m : Ver) : Nat := m.touched.length + 2
def mkVer (k : Nat) (m : Ver) : Ver := ⟨(k : Int), mkText (k + 1), mkS (k + 1 + 1) m.touched.length⟩
theorem vers_len {ms : List Ver} (hn : szVers ms ≤ 268435456) (k : Nat) (hk : k < ms.length) : ms[k].touched.length ≤ 268435456 := by
  have h1 := sum_take_snoc szVer ms k ms[k] (List.getElem?_eq_getElem hk)
  have h2 := sum_take_le (ms.map szVer) (k + 1)
  rw [← List.map_take] at h2
  unfold szVers at hn
  have h3 : ms[k].touched.length ≤ szVer ms[k] := by unfold szVer szStr; omega
  omega
set_option maxRecDepth 100000 in
set_option maxHeartbeats 1600000 in
theorem markVers_walk (v : Value) (ms : List Ver) (bl : List Nat) (k0 : Nat) (w : World) (hv : ORow verE w v ms bl) (hd : bl.Nodup) (hn : szVers ms ≤ 268435456) (h2 : k0 + cntR cntVer ms ≤ 1099200000000) :
    Calls Tryz.prog 38 #[v, .int .i64 k0] w fun e w' => e = .returned (.int .i64 (k0 + cntR cntVer ms : Nat)) ∧ ORow verE w' v (mkRow mkVer cntVer k0 ms) bl ∧ Fr bl w w' := by
  have hln : ms.length ≤ 268435456 := by unfold szVers at hn; omega
  have HSZ := hide (vers_len hn)
  obtain ⟨a, cap, rfl, hform, hsh⟩ := hv.form
  clear hform
  have HV := hide hv
  have HD := hide hd
  clear hv hd hn
  go_enter Tryz.func38, Tryz.ntmps38
  go_wp2
  go_loopw [1, 5] (fun q i wr => ∃ (j : Nat), j ≤ ms.length ∧ i = .int .i64 j ∧ q = .int .i64 (k0 + cntR cntVer (ms.take j) : Nat) ∧ Fr bl w wr ∧ ORow verE wr (.slice a ms.length cap) (mkRowAt mkVer cntVer k0 ms j) bl) (fun _ i _ => ms.length - (intOf i).toNat)
  case atStart => exact ⟨0, Nat.zero_le _, rfl, by simp [cntR], Fr.refl _ _, by rw [mkRowAt_0]; exact unhide HV⟩
  case round =>
    obtain ⟨j, hj, rfl, rfl, hb, ho⟩ := hrel
    by_cases hlt : j < ms.length
    · obtain ⟨g, rfl⟩ := hsh (by omega)
      have hle := cnt_le (c := cntVer) (l := ms) (j := j)
      have hle2 := cnt_le (c := cntVer) (l := ms) (j := j + 1)
      rw [cnt_succ hlt] at hle2
      have hcm : cntVer ms[j] = ms[j].touched.length + 2 := rfl
      have hpl := unhide HSZ j hlt
      have hs := cnt_succ (c := cntVer) hlt
      have hnx := mkRowAt_succ (f := mkVer) (c := cntVer) (k := k0) hlt
      have hset := fun x => mkRowAt_set (f := mkVer) (c := cntVer) (k := k0) hlt x
      have hat := mkRowAt_at (f := mkVer) (c := cntVer) (k := k0) hlt
      generalize hK : k0 + cntR cntVer (ms.take j) = K at *
      generalize ms[j] = m at *
      -- the number is marked
      obtain ⟨vs, ib, hE, hc, hx1, hg, hx2⟩ := ho.at hat
      obtain ⟨q, rfl, hq⟩ := hE
      have c0 : wr.cell? ⟨g, j * 3, none⟩ = _ := (hc 0 _ rfl).1
      have f0 : wr.frozen? ⟨g, j * 3, none⟩ = _ := (hc 0 _ rfl).2
      have p1 : ORow verE (wr.setCell ⟨g, j * 3, none⟩ (.int .i64 (K : Int))) _ _ bl := ho.put (unhide HD) hat 0 (by decide) (.int .i64 (K : Int)) ⟨(K : Int), m.doc, m.touched⟩ (fun w' vs ib h => by obtain ⟨q, rfl, h⟩ := h; exact ⟨q, rfl, h⟩)
      rw [hset] at p1
      have fr1 := hb.set hg (j * 3) (.int .i64 (K : Int))
      have hA := mkRow_take_len (f := mkVer) (c := cntVer) (k := k0) hlt
      generalize mkRow mkVer cntVer k0 (ms.take j) = A at *
      generalize ms.drop (j + 1) = B at *
      have HM := hide (mark_walk (K + 1) (wr.setCell ⟨g, j * 3, none⟩ (.int .i64 (K : Int))) (by omega) (by omega))
      have HFR := hide fr1
      have HP1 := hide p1
      have HHG := hide hg
      have HNX := hide hnx
      have HS := hide hs
      have HA := hide hA
      have HK := hide hK
      have HLE := hide hle2
      have hKb : K + 2 + m.touched.length ≤ 1099200000000 := by omega
      have HKB := hide hKb
      have hKc : K ≤ 1099200000000 := by omega
      have HQL := hide hpl
      clear ho hb hc p1 fr1 hq hset hat hg hnx hs hA hK hle hle2 hcm h2 hx1 hx2 hsh hKb hpl
      go_wp2_with fail
      refine (unhide HM).mono ?_
      rintro e w2 ⟨rfl, b2⟩
      have o2 := (unhide HP1).below b2
      obtain ⟨vs2, kb, hE2, hc2, hy1, hg, hy2⟩ := o2.at (mid_at (unhide HA))
      obtain ⟨q2, rfl, hq2⟩ := hE2
      have d1 : w2.cell? ⟨g, j * 3 + 1, none⟩ = _ := (hc2 1 _ rfl).1
      have d2 : w2.cell? ⟨g, j * 3 + 2, none⟩ = some q2 := (hc2 2 _ rfl).1
      have e1 : w2.frozen? ⟨g, j * 3 + 1, none⟩ = _ := (hc2 1 _ rfl).2
      have p2 : ORow verE (w2.setCell ⟨g, j * 3 + 1, none⟩ (.string (mkText (K + 1)))) _ _ bl := o2.put (unhide HD) (mid_at (unhide HA)) 1 (by decide) (.string (mkText (K + 1))) ⟨(K : Int), mkText (K + 1), m.touched⟩ (fun w' vs ib h => by obtain ⟨q, rfl, h⟩ := h; exact ⟨q, rfl, h⟩)
      rw [mid_set (unhide HA)] at p2
      have fr5 := ((unhide HFR).next b2).set hg (j * 3 + 1) (.string (mkText (K + 1)))
      obtain ⟨vs5, jb, hE5, hc5, hjs, hz1, hjd, hclose⟩ := p2.inner (unhide HD) (mid_at (unhide HA))
      obtain ⟨q5, rfl, hq5⟩ := hE5
      have hqq : q5 = q2 := by
        have c5 : (w2.setCell ⟨g, j * 3 + 1, none⟩ (.string (mkText (K + 1)))).cell? ⟨g, j * 3 + 2, none⟩ = some q5 := (hc5 2 _ rfl).1
        rw [cell_set_off _ _ _ _ _ (by omega), d2] at c5
        exact (Option.some.inj c5).symm
      subst hqq
      have HM2 := hide (markStr_walk q5 m.touched jb (K + 1 + 1) _ hq5 hjd (unhide HQL) (by omega) (by have := unhide HKB; omega))
      have HFR5 := hide fr5
      have HCL := hide hclose
      have HJS := hide hjs
      clear HM HFR HP1 b2 o2 hc2 hy1 hg hy2 hq2 p2 fr5 hc5 hjs hz1 hjd hclose hq5 c0 f0
      go_wp2_with fail
      refine (unhide HM2).mono ?_
      rintro e w3 ⟨rfl, ho3, fr3⟩
      have o3 := unhide HCL w3 (mkVer K m) fr3 ⟨q5, rfl, ho3⟩
      rw [mid_set (unhide HA), unhide HNX] at o3
      have HP2 := hide o3
      have HFR2 := hide ((unhide HFR5).trans (fr3.mono (unhide HJS)))
      have hKB := unhide HKB
      clear HM2 HCL HFR5 HJS ho3 fr3 o3 d1 d2 e1
      go_wp2
      go_roundw
      case rel =>
        have hk1 := unhide HK
        have hk2 := unhide HS
        have hk3 : cntVer m = m.touched.length + 2 := rfl
        exact ⟨j + 1, by omega, by go_num, by rw [hk2, hk3, ← hk1]; go_num, unhide HFR2, unhide HP2⟩
      case measure => simp [intOf]; omega
    · have hjn : j = ms.length := by omega
      subst hjn
      rw [mkRowAt_all] at ho
      rw [List.take_length]
      go_wp2
      go_ret
      exact ⟨rfl, ho, hb⟩
set_option maxRecDepth 100000 in
set_option maxHeartbeats 1600000 in
theorem heldVers_walk (v : Value) (ms : List Ver) (bl : List Nat) (k0 : Nat) (w : World) (hv : ORow verE w v (mkRow mkVer cntVer k0 ms) bl) (hn : szVers ms ≤ 268435456) (h2 : k0 + cntR cntVer ms ≤ 1099200000000) :
    Calls Tryz.prog 39 #[v, .int .i64 k0] w fun e w' => e = .returned (.int .i64 (k0 + cntR cntVer ms : Nat)) ∧ Below w.heap.size w w' := by
  have hln : ms.length ≤ 268435456 := by unfold szVers at hn; omega
  have HSZ := hide (vers_len hn)
  obtain ⟨a, cap, rfl, hform, hsh⟩ := hv.form
  rw [mkRow_len] at hsh
  have HV := hide hv
  have HSH := hide hsh
  rw [mkRow_len] at HV ⊢
  clear hv hn hform hsh
  go_enter Tryz.func39, Tryz.ntmps39
  go_wp2
  go_loopw [1, 5] (fun q i wr => ∃ (j : Nat), j ≤ ms.length ∧ i = .int .i64 j ∧ q = .int .i64 (k0 + cntR cntVer (ms.take j) : Nat) ∧ Below w.heap.size w wr) (fun _ i _ => ms.length - (intOf i).toNat)
  case atStart => exact ⟨0, Nat.zero_le _, rfl, by simp [cntR], Below.refl _ _⟩
  case round =>
    obtain ⟨j, hj, rfl, rfl, hb⟩ := hrel
    by_cases hlt : j < ms.length
    · obtain ⟨g, rfl⟩ := unhide HSH (by omega)
      have hle2 := cnt_le (c := cntVer) (l := ms) (j := j + 1)
      rw [cnt_succ hlt] at hle2
      have hcm : cntVer ms[j] = ms[j].touched.length + 2 := rfl
      have hpl := unhide HSZ j hlt
      have hs := cnt_succ (c := cntVer) hlt
      have hat := mkRow_at (f := mkVer) (c := cntVer) (k := k0) hlt
      generalize hK : k0 + cntR cntVer (ms.take j) = K at *
      generalize ms[j] = m at *
      obtain ⟨vs, ib, hE, hc, hx1, hg, hx2⟩ := ((unhide HV).below hb).at hat
      obtain ⟨q, rfl, hq⟩ := hE
      have c0 : wr.cell? ⟨g, j * 3, none⟩ = some (.int .i64 (K : Int)) := (hc 0 _ rfl).1
      have c1 : wr.cell? ⟨g, j * 3 + 1, none⟩ = some (.string (mkText (K + 1))) := (hc 1 _ rfl).1
      have c2 : wr.cell? ⟨g, j * 3 + 2, none⟩ = some q := (hc 2 _ rfl).1
      have HM := hide (mark_walk (K + 1) wr.drew (by omega) (by omega))
      have hKb : K + 2 + m.touched.length ≤ 1099200000000 := by omega
      have HM2 : Hid (∀ wx, Below wr.heap.size wr wx → Calls _ _ _ wx _) := fun wx hx => heldStr_walk q ib m.touched.length (K + 1 + 1) wx (hq.below hx) hpl (by omega) (by omega)
      have HB := hide hb
      have HS := hide hs
      have HK := hide hK
      have hgr : g < wr.heap.size := World.block_lt_of_cell? _ _ c0
      have hKc : K ≤ 1099200000000 := by omega
      have HKB := hide hKb
      clear hx1 hx2 hc hq hb hat hle2 hcm hs hK hg h2 hKb hpl
      go_wp2
      go_region_law (go_simp; refine (unhide HM).mono ?_; rintro e w1 ⟨rfl, b1⟩; have bx : Below wr.heap.size wr w1 := ((Below.refl _ _).drew).trans (b1.mono (by simp)); have d1 := (bx.cell (p := ⟨g, j * 3 + 1, none⟩) hgr).trans c1)
      all_goals (
        have d2 := (bx.cell (p := ⟨g, j * 3 + 2, none⟩) hgr).trans c2
        have HM3 := hide (unhide HM2 w1 bx)
        have HB1 := hide (below_next (unhide HB) bx)
        clear HM HM2 HB b1 bx c0 c1 c2 d1
        go_wp2_with fail
        refine (unhide HM3).mono ?_
        rintro e w2 ⟨rfl, b2⟩
        have HB2 := hide (below_next (unhide HB1) b2)
        have hKB := unhide HKB
        clear HM3 HB1 b2 d2
        go_wp2)
      all_goals go_roundw
      all_goals first
        | (refine ⟨j + 1, by omega, by go_num, ?_, unhide HB2⟩
           have hk1 := unhide HK
           have hk2 := unhide HS
           have hk3 : cntVer m = m.touched.length + 2 := rfl
           rw [hk2, hk3, ← hk1]; go_num)
        | (simp [intOf]; omega)
    · have hjn : j = ms.length := by omega
      subst hjn
      rw [List.take_length]
      go_wp2
      go_ret
      exact ⟨rfl, hb⟩
/-- A store that is owned. -/
def OSto (w : World) (v : Value) (h : List Ver) (bl : List Nat) : Prop := ∃ p, v = .agg #[p] ∧ ORow verE w p h bl
theorem OSto.below {w w' : World} {v : Value} {h : List Ver} {bl : List Nat} (ho : OSto w v h bl) (hb : Below w.heap.size w w') : OSto w' v h bl := by
  obtain ⟨p, hv, h1⟩ := ho
  exact ⟨p, hv, h1.below hb⟩
set_option maxRecDepth 100000 in
set_option maxHeartbeats 800000 in
theorem markSto_walk (v : Value) (h : List Ver) (bl : List Nat) (w : World) (hv : OSto w v h bl) (hd : bl.Nodup) (hn : szVers h ≤ 268435456) (k0 : Nat) (h2 : k0 + cntR cntVer h ≤ 1099200000000) :
    Calls Tryz.prog 12 #[v, .int .i64 k0] w fun e w' => e = .returned (.int .i64 (k0 + cntR cntVer h : Nat)) ∧ OSto w' v (mkRow mkVer cntVer k0 h) bl ∧ Fr bl w w' := by
  obtain ⟨p, rfl, o1⟩ := hv
  have O1 := hide o1
  have D1 := hide hd
  clear o1 hd
  go_enter Tryz.func12, Tryz.ntmps12
  go_wp2_with fail
  refine (markVers_walk p h bl k0 _ ((unhide O1).below (alloc_b w _)) (unhide D1) hn h2).mono ?_
  rintro e w1 ⟨rfl, p1, f1⟩
  have HP : Hid (OSto w1 (.agg #[p]) (mkRow mkVer cntVer k0 h) bl) := ⟨p, rfl, p1⟩
  have HF := hide ((Fr.of_below (bl := bl) (alloc_b w _)).trans f1)
  clear p1 f1 O1 D1
  go_wp2
  go_ret
  exact ⟨rfl, unhide HP, unhide HF⟩
set_option maxRecDepth 100000 in
set_option maxHeartbeats 800000 in
theorem heldSto_walk (v : Value) (h : List Ver) (bl : List Nat) (w : World) (k0 : Nat) (hv : OSto w v (mkRow mkVer cntVer k0 h) bl) (hn : szVers h ≤ 268435456) (h2 : k0 + cntR cntVer h ≤ 1099200000000) :
    Calls Tryz.prog 13 #[v, .int .i64 k0] w fun e w' => e = .returned (.int .i64 (k0 + cntR cntVer h : Nat)) ∧ Below w.heap.size w w' := by
  obtain ⟨p, rfl, o1⟩ := hv
  have O1 := hide o1
  clear o1
  go_enter Tryz.func13, Tryz.ntmps13
  go_wp2_with fail
  refine (heldVers_walk p h bl k0 _ ((unhide O1).below (alloc_b w _)) hn h2).mono ?_
  rintro e w1 ⟨rfl, b1⟩
  have HB := hide (below_next (alloc_b w _) b1)
  clear b1 O1
  go_wp2
  go_ret
  exact ⟨rfl, unhide HB⟩
set_option maxRecDepth 100000 in
set_option maxHeartbeats 800000 in
theorem eqSto_walk (v v' : Value) (h : List Ver) (bl bl' : List Nat) (w : World) (hv : OSto w v h bl) (hv' : OSto w v' h bl') :
    Calls Tryz.prog 11 #[v, v'] w fun e w' => e = .returned (.bool true) ∧ Below w.heap.size w w' := by
  obtain ⟨p, rfl, o1⟩ := hv
  obtain ⟨q, rfl, o2⟩ := hv'
  have O1 := hide o1
  have O2 := hide o2
  clear o1 o2
  go_enter Tryz.func11, Tryz.ntmps11
  go_wp2_with fail
  have hB : Below w.heap.size w ((w.alloc (.cells #[p] 24)).alloc (.cells #[q] 24)) := below_next (alloc_b w _) (alloc_b _ _)
  refine (eqVers_walk p q h bl bl' _ ((unhide O1).below hB) ((unhide O2).below hB)).mono ?_
  rintro e w1 ⟨rfl, b1⟩
  have HB := hide (below_next hB b1)
  clear b1 O1 O2 hB
  go_wp2
  go_ret
  exact ⟨rfl, unhide HB⟩
end Go.Proofs.YtcjajchfjoffnaaGreatDoor

namespace Go.Proofs.YtcjajchfjoffnaaGreatDoor
open Go.RowKit

/-- Where the row lies behind an append: where it lay, or in a new block. -/
theorem append_where1 {P : Program} (w : World) {base : Nat} {t ty e : TypeId} {i : TypeInfo} {z : Value} (ht : P.underlying t = some (.slice e)) (hi : P.info? e = some i) (hz : i.zero = some z)
    {v : Value} {n : Nat} {xs : List Value} (hown : w.ownsRow base e i.size v n xs) {a : Addr} {m c : Nat} {news : List Value} (hl : news.length = m * i.size) (hnews : ∀ j u, news[j]? = some u → w.cell? (a.add j) = some u) (h1 : ∀ u ∈ news, u.oneCell' = true)
    (h0 : 0 < m) (h63 : n + m ≤ maxLen) (hbytes : (n + m) * i.bytes ≤ 140737488355328) {v' : Value} {w' : World} (hr : (Builtin.append_ #[t, t] ty #[v, .slice (some a) m c]).run P w = .ok v' w') :
    v'.ownBlock = v.ownBlock ∨ v'.ownBlock = some w.heap.size := by
  unfold maxLen at h63
  rcases hown.2 with ⟨hv, hn⟩ | ⟨g, cap, cur, hv, _, hg, _, _, hcs, _⟩
  · subst hv; subst hn
    have hx := run_append_nil (P := P) w t ty e i z ht hi hz a m c news hl hnews h0 (by omega) (by simp only [Nat.zero_add] at hbytes; omega)
    rw [hx] at hr
    injection hr with hr1 _
    subst hr1
    exact .inr rfl
  · subst hv
    by_cases hroom : n + m ≤ cap
    · have hx := run_append_room (P := P) w t ty e i ht hi g n cap cur hg a m c news hl hnews h1 hroom (by rw [hl, hcs, ← Nat.add_mul]; exact Nat.mul_le_mul_right _ hroom)
      rw [hx] at hr
      injection hr with hr1 _
      subst hr1
      exact .inl rfl
    · have hx := run_append_grow (P := P) w t ty e i z ht hi hz ⟨g, 0, none⟩ n cap xs hown.1 (hown.cells (g := g) rfl) a m c news hl hnews (by omega) (by omega) (growslice_fits (by omega) hbytes)
      rw [hx] at hr
      injection hr with hr1 _
      subst hr1
      exact .inr rfl
/-- One more value at the end of a row of values of one cell that the call owns, and where the row lies then. -/
theorem wpList_append_one {e t : TypeId} (ht : Tryz.prog.underlying t = some (.slice e)) {z : Value} {bytes : Nat}
    (hinfo : (Tryz.prog.info? e).map (fun i => (i.zero, i.size, i.bytes)) = some (some z, 1, bytes)) (hzs : z.cells.size = 1) (hby : bytes ≤ 100)
    {w : World} {ops : Array Oper} {rest : List Oper} {o : Oper} {a : Act} {Q : Exit → Act → World → Prop} (hg : o.guard = none) (s x : Operand)
    (ho : o.op = .call { callee := .builtin .append, args := #[s, x], argTypes := #[t, t] }) {B : Nat} {v : Value} {xs : List Value} {n : Nat} (hs : a.eval s = v)
    (hown : w.ownsRow B e 1 v n xs) {y : Value} (hy : y.oneCell' = true) {g : Nat} (hx : a.eval x = .slice (some ⟨g, 0, none⟩) 1 1)
    (hcell : w.cell? ⟨g, 0, none⟩ = some y) (hB : B ≤ w.heap.size) (hl : n ≤ 40000000)
    (hK : ∀ v' w', w'.ownsRow B e 1 v' (n + 1) (xs ++ [y]) → w.grownBy w' v.ownBlock → (v'.ownBlock = v.ownBlock ∨ v'.ownBlock = some w.heap.size) → wpList Tryz.prog ops Q rest (a.put o.dst v') w') :
    wpList Tryz.prog ops Q (o :: rest) a w := by
  obtain ⟨i0, hi, hz0, hz1, hz2⟩ := info_parts hinfo
  have hby2 : (n + 1) * bytes ≤ (n + 1) * 100 := Nat.mul_le_mul_left _ hby
  have hc : ∀ (j : Nat) (u : Value), [y][j]? = some u → w.cell? ((⟨g, 0, none⟩ : Addr).add j) = some u := fun j u hu => by
    cases j with
    | zero => simp at hu; subst hu; simpa [Addr.add] using hcell
    | succ j => simp at hu
  have h1 : ∀ u ∈ [y], u.oneCell' = true := fun u hu => by simp at hu; subst hu; exact hy
  obtain ⟨v', w', hr, h2, h3, _⟩ := run_append_own (P := Tryz.prog) w B t o.type e i0 z 1 bytes ht hi hz0 hz1 hz2 hzs (by decide) v n xs hown ⟨g, 0, none⟩ 1 1 [y] rfl hc h1 (by unfold maxLen; omega) (by omega) hB
  have h4 := append_where1 (P := Tryz.prog) w (z := z) ht hi hz0 (by rw [hz1]; exact hown) (by rw [hz1]; rfl) hc h1 (by omega) (by unfold maxLen; omega) (by rw [hz2]; omega) hr
  exact Lib.wpList_append_run w hg s x t t ho v _ hs hx v' w' hr (hK v' w' h2 h3 h4)
end Go.Proofs.YtcjajchfjoffnaaGreatDoor
