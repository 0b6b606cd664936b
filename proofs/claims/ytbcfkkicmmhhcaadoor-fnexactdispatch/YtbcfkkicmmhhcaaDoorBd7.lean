import Derived.Test.YtbcfkkicmmhhcaaDoorBd6
import Derived.Test.YtbcfkkicmmhhcaaDoorBd1
namespace Go.Proofs.YtbcfkkicmmhhcaaDoor
open Go.RowKit

/-- What is left of L when n is taken away, -1 when there is not so much. -/
def szI (L n : Nat) : Int := if n ≤ L then (L : Int) - n else -1
theorem szI_ok {L n : Nat} (h : n ≤ L) : szI L n = ((L - n : Nat) : Int) := by unfold szI; rw [if_pos h]; omega
theorem szI_no {L n : Nat} (h : ¬ n ≤ L) : szI L n = -1 := by unfold szI; rw [if_neg h]
theorem szI_ge (L n : Nat) : -1 ≤ szI L n := by unfold szI; split <;> omega
theorem szI_le (L n : Nat) : szI L n ≤ L := by unfold szI; split <;> omega
def szStr (ss : List ByteArray) : Nat := ss.length + tot ss
theorem szStr_walk (v : Value) (ss : List ByteArray) (L : Nat) (w : World) (h : RRow strR w v ss) (hL : L ≤ 1048576) :
    Calls Tryd.prog 93 #[v, .int .i64 L] w fun e w' => e = .returned (.int .i64 (szI L (szStr ss))) ∧ Below w.heap.size w w' := by
  obtain ⟨a, b, o, cap, rfl, hs, hm, hw⟩ := RStr.ss h
  refine (sz_walk a b o cap ss L w hs hL hm hw).mono ?_
  rintro e w' ⟨rfl, rfl⟩
  exact ⟨rfl, Below.refl _ _⟩
def szMsg (m : Msg) : Nat := szStr m.ptrs
theorem alloc_b (w : World) (o : Obj) : Below w.heap.size w (w.alloc o) := (Below.refl _ _).alloc (Nat.le_refl _) o
set_option maxHeartbeats 400000 in
theorem szMsg_walk (a0 a1 a2 : Value) (m : Msg) (L : Nat) (w : World) (h : msgR.R w [a0, a1, a2] m) (hL : L ≤ 1048576) :
    Calls Tryd.prog 118 #[.agg #[a0, a1, a2], .int .i64 L] w fun e w' => e = .returned (.int .i64 (szI L (szMsg m))) ∧ Below w.heap.size w w' := by
  obtain ⟨q, hq, h1⟩ := h
  injection hq with e0 hq; injection hq with e1 hq; injection hq with e2 hq
  subst e0; subst e1; subst e2
  have H1 : Hid (∀ o, Calls _ _ _ (w.alloc o) _) := fun o => szStr_walk a1 m.ptrs L _ (h1.below (alloc_b w o)) hL
  have hge := szI_ge L (szMsg m)
  have hle := szI_le L (szMsg m)
  unfold szMsg at *
  generalize szI L (szStr m.ptrs) = z at *
  clear h1 hq
  go_enter Tryd.func118, Tryd.ntmps118
  go_wp2_with fail
  refine (unhide H1 _).mono ?_
  rintro e w1 ⟨rfl, b1⟩
  have B1 := hide (below_next (alloc_b w _) b1)
  clear b1 H1
  by_cases hz : z < 0
  · have : z = -1 := by omega
    subst this
    clear hz hge hle
    go_wp2
    go_ret
    exact ⟨rfl, unhide B1⟩
  · go_wp2
    go_ret
    exact ⟨rfl, unhide B1⟩
theorem list2 {α : Type} {l : List α} (h : l.length = 2) : ∃ a b, l = [a, b] := by
  match l, h with
  | [a, b], _ => exact ⟨a, b, rfl⟩
theorem list3 {α : Type} {l : List α} (h : l.length = 3) : ∃ a b c, l = [a, b, c] := by
  match l, h with
  | [a, b, c], _ => exact ⟨a, b, c, rfl⟩
theorem list4 {α : Type} {l : List α} (h : l.length = 4) : ∃ a b c d, l = [a, b, c, d] := by
  match l, h with
  | [a, b, c, d], _ => exact ⟨a, b, c, d, rfl⟩
theorem list6 {α : Type} {l : List α} (h : l.length = 6) : ∃ a b c d e f, l = [a, b, c, d, e, f] := by
  match l, h with
  | [a, b, c, d, e, f], _ => exact ⟨a, b, c, d, e, f, rfl⟩
theorem sum_take_le (l : List Nat) (k : Nat) : (l.take k).sum ≤ l.sum := by
  have h := List.take_append_drop k l
  have : (l.take k ++ l.drop k).sum = l.sum := by rw [h]
  rw [List.sum_append] at this; omega
theorem sum_take_snoc {α : Type} (f : α → Nat) (l : List α) (k : Nat) (x : α) (h : l[k]? = some x) : ((l.take (k + 1)).map f).sum = ((l.take k).map f).sum + f x := by
  rw [List.take_add_one, h]; simp
def szMsgs (ms : List Msg) : Nat := ms.length + (ms.map szMsg).sum
set_option maxHeartbeats 800000 in
theorem szMsgs_walk (v : Value) (ms : List Msg) (L : Nat) (w : World) (h : RRow msgR w v ms) (hL : L ≤ 1048576) :
    Calls Tryd.prog 92 #[v, .int .i64 L] w fun e w' => e = .returned (.int .i64 (szI L (szMsgs ms))) ∧ Below w.heap.size w w' := by
  have H := hide h
  obtain ⟨hm, a, cap, rfl, hrow⟩ := h
  unfold maxLen at hm
  clear hrow
  by_cases h0 : L < ms.length
  · go_enter Tryd.func92, Tryd.ntmps92
    go_wp2
    go_ret
    exact ⟨ret_int (szI_no (by unfold szMsgs; omega)).symm, Below.refl _ _⟩
  · go_enter Tryd.func92, Tryd.ntmps92
    go_wp2
    go_loopw [1, 5] (fun l i wr => ∃ k : Nat, k ≤ ms.length ∧ i = .int .i64 k ∧ ms.length + ((ms.take k).map szMsg).sum ≤ L ∧ l = .int .i64 ((L - (ms.length + ((ms.take k).map szMsg).sum) : Nat) : Int) ∧ Below w.heap.size w wr) (fun _ i _ => ms.length - (intOf i).toNat)
    case atStart => exact ⟨0, Nat.zero_le _, rfl, by simp; omega, by simp; omega, Below.refl _ _⟩
    case round =>
      obtain ⟨k, hk, rfl, hle, rfl, hb⟩ := hrel
      by_cases hlt : k < ms.length
      · have ht := sum_take_snoc szMsg ms k ms[k] (List.getElem?_eq_getElem hlt)
        have hts := sum_take_le (ms.map szMsg) (k + 1)
        rw [← List.map_take] at hts
        obtain ⟨_, a', cap', he, hrow⟩ := (unhide H).below hb
        injection he with he1 he2 he3; subst he1; subst he3; clear he2
        obtain ⟨b, o, rfl, vs, hR, hc⟩ := hrow k ms[k] (List.getElem?_eq_getElem hlt)
        obtain ⟨a0, a1, a2, rfl⟩ := list3 (msgR.len hR)
        have c0 : wr.cell? ⟨b, o + k * 3, none⟩ = _ := hc 0 _ rfl
        have c1 : wr.cell? ⟨b, o + k * 3 + 1, none⟩ = _ := hc 1 _ rfl
        have c2 : wr.cell? ⟨b, o + k * 3 + 2, none⟩ = _ := hc 2 _ rfl
        have HM := hide (szMsg_walk a0 a1 a2 ms[k] (L - (ms.length + ((ms.take k).map szMsg).sum)) wr hR (by omega))
        clear hrow hc hR
        have HS : Hid (szMsgs ms = ms.length + (ms.map szMsg).sum) := rfl
        generalize (ms.map szMsg).sum = T9 at *
        generalize ((ms.take k).map szMsg).sum = T at *
        have hT2 : ∃ T2, ((ms.take (k + 1)).map szMsg).sum = T2 := ⟨_, rfl⟩
        obtain ⟨T2, hT2⟩ := hT2
        rw [hT2] at ht hts
        have HT := hide hT2
        clear hT2
        generalize szMsg ms[k] = z at *
        by_cases hn : ms.length + T + z ≤ L
        · rw [szI_ok (by omega)] at HM
          go_wp2_with fail
          refine (unhide HM).mono ?_
          rintro e w1 ⟨rfl, b1⟩
          have B1 := hide (below_next hb b1)
          clear HM b1 hb c0 c1 c2
          go_wp2
          go_roundw
          case rel => exact ⟨k + 1, by omega, by go_num, by rw [unhide HT]; omega, by rw [unhide HT]; go_num, unhide B1⟩
          case measure => simp [intOf]; omega
        · rw [szI_no (by omega)] at HM
          go_wp2_with fail
          refine (unhide HM).mono ?_
          rintro e w1 ⟨rfl, b1⟩
          have B1 := hide (below_next hb b1)
          clear HM b1 hb c0 c1 c2
          go_wp2
          go_ret
          exact ⟨ret_int (szI_no (by rw [unhide HS]; omega)).symm, unhide B1⟩
      · have hk' : k = ms.length := by omega
        subst hk'
        rw [List.take_length] at hle ⊢
        go_wp2
        go_ret
        exact ⟨ret_int (szI_ok (n := szMsgs ms) hle).symm, hb⟩
def szNws (m : Nws) : Nat := szStr m.ptrs
set_option maxHeartbeats 400000 in
theorem szNws_walk (a0 a1 : Value) (m : Nws) (L : Nat) (w : World) (h : nwsR.R w [a0, a1] m) (hL : L ≤ 1048576) :
    Calls Tryd.prog 60 #[.agg #[a0, a1], .int .i64 L] w fun e w' => e = .returned (.int .i64 (szI L (szNws m))) ∧ Below w.heap.size w w' := by
  obtain ⟨q, hq, h1⟩ := h
  injection hq with e0 hq; injection hq with e1 hq
  subst e0; subst e1
  have H1 : Hid (∀ o, Calls _ _ _ (w.alloc o) _) := fun o => szStr_walk a1 m.ptrs L _ (h1.below (alloc_b w o)) hL
  have hge := szI_ge L (szNws m)
  have hle := szI_le L (szNws m)
  unfold szNws at *
  generalize szI L (szStr m.ptrs) = z at *
  clear h1 hq
  go_enter Tryd.func60, Tryd.ntmps60
  go_wp2_with fail
  refine (unhide H1 _).mono ?_
  rintro e w1 ⟨rfl, b1⟩
  have B1 := hide (below_next (alloc_b w _) b1)
  clear b1 H1
  by_cases hz : z < 0
  · have : z = -1 := by omega
    subst this
    clear hz hge hle
    go_wp2
    go_ret
    exact ⟨rfl, unhide B1⟩
  · go_wp2
    go_ret
    exact ⟨rfl, unhide B1⟩
def szNwss (ms : List Nws) : Nat := ms.length + (ms.map szNws).sum
set_option maxHeartbeats 800000 in
theorem szNwss_walk (v : Value) (ms : List Nws) (L : Nat) (w : World) (h : RRow nwsR w v ms) (hL : L ≤ 1048576) :
    Calls Tryd.prog 33 #[v, .int .i64 L] w fun e w' => e = .returned (.int .i64 (szI L (szNwss ms))) ∧ Below w.heap.size w w' := by
  have H := hide h
  obtain ⟨hm, a, cap, rfl, hrow⟩ := h
  unfold maxLen at hm
  clear hrow
  by_cases h0 : L < ms.length
  · go_enter Tryd.func33, Tryd.ntmps33
    go_wp2
    go_ret
    exact ⟨ret_int (szI_no (by unfold szNwss; omega)).symm, Below.refl _ _⟩
  · go_enter Tryd.func33, Tryd.ntmps33
    go_wp2
    go_loopw [1, 5] (fun l i wr => ∃ k : Nat, k ≤ ms.length ∧ i = .int .i64 k ∧ ms.length + ((ms.take k).map szNws).sum ≤ L ∧ l = .int .i64 ((L - (ms.length + ((ms.take k).map szNws).sum) : Nat) : Int) ∧ Below w.heap.size w wr) (fun _ i _ => ms.length - (intOf i).toNat)
    case atStart => exact ⟨0, Nat.zero_le _, rfl, by simp; omega, by simp; omega, Below.refl _ _⟩
    case round =>
      obtain ⟨k, hk, rfl, hle, rfl, hb⟩ := hrel
      by_cases hlt : k < ms.length
      · have ht := sum_take_snoc szNws ms k ms[k] (List.getElem?_eq_getElem hlt)
        have hts := sum_take_le (ms.map szNws) (k + 1)
        rw [← List.map_take] at hts
        obtain ⟨_, a', cap', he, hrow⟩ := (unhide H).below hb
        injection he with he1 he2 he3; subst he1; subst he3; clear he2
        obtain ⟨b, o, rfl, vs, hR, hc⟩ := hrow k ms[k] (List.getElem?_eq_getElem hlt)
        obtain ⟨a0, a1, rfl⟩ := list2 (nwsR.len hR)
        have c0 : wr.cell? ⟨b, o + k * 2, none⟩ = _ := hc 0 _ rfl
        have c1 : wr.cell? ⟨b, o + k * 2 + 1, none⟩ = _ := hc 1 _ rfl
        have HM := hide (szNws_walk a0 a1 ms[k] (L - (ms.length + ((ms.take k).map szNws).sum)) wr hR (by omega))
        clear hrow hc hR
        have HS : Hid (szNwss ms = ms.length + (ms.map szNws).sum) := rfl
        generalize (ms.map szNws).sum = T9 at *
        generalize ((ms.take k).map szNws).sum = T at *
        have hT2 : ∃ T2, ((ms.take (k + 1)).map szNws).sum = T2 := ⟨_, rfl⟩
        obtain ⟨T2, hT2⟩ := hT2
        rw [hT2] at ht hts
        have HT := hide hT2
        clear hT2
        generalize szNws ms[k] = z at *
        by_cases hn : ms.length + T + z ≤ L
        · rw [szI_ok (by omega)] at HM
          go_wp2_with fail
          refine (unhide HM).mono ?_
          rintro e w1 ⟨rfl, b1⟩
          have B1 := hide (below_next hb b1)
          clear HM b1 hb c0 c1
          go_wp2
          go_roundw
          case rel => exact ⟨k + 1, by omega, by go_num, by rw [unhide HT]; omega, by rw [unhide HT]; go_num, unhide B1⟩
          case measure => simp [intOf]; omega
        · rw [szI_no (by omega)] at HM
          go_wp2_with fail
          refine (unhide HM).mono ?_
          rintro e w1 ⟨rfl, b1⟩
          have B1 := hide (below_next hb b1)
          clear HM b1 hb c0 c1
          go_wp2
          go_ret
          exact ⟨ret_int (szI_no (by rw [unhide HS]; omega)).symm, unhide B1⟩
      · have hk' : k = ms.length := by omega
        subst hk'
        rw [List.take_length] at hle ⊢
        go_wp2
        go_ret
        exact ⟨ret_int (szI_ok (n := szNwss ms) hle).symm, hb⟩
def szWat (m : Wat) : Nat := m.ptr.size + szMsgs m.queue
set_option maxHeartbeats 800000 in
theorem szWat_walk (a0 a1 a2 a3 a4 a5 : Value) (m : Wat) (L : Nat) (w : World) (h : watR.R w [a0, a1, a2, a3, a4, a5] m) (hL : L ≤ 1048576) :
    Calls Tryd.prog 59 #[.agg #[a0, a1, a2, a3, a4, a5], .int .i64 L] w fun e w' => e = .returned (.int .i64 (szI L (szWat m))) ∧ Below w.heap.size w w' := by
  obtain ⟨q, hq, hp, h1⟩ := h
  injection hq with e0 hq; injection hq with e1 hq; injection hq with e2 hq; injection hq with e3 hq; injection hq with e4 hq; injection hq with e5 hq
  subst e0; subst e1; subst e2; subst e3; subst e4; subst e5
  clear hq
  unfold maxLen at hp
  have H1 : Hid (∀ o, Calls _ _ _ (w.alloc o) _) := fun o => szMsgs_walk a5 m.queue (L - m.ptr.size) _ (h1.below (alloc_b w o)) (by omega)
  clear h1
  by_cases hn : m.ptr.size ≤ L
  · have hZ : szI L (szWat m) = szI (L - m.ptr.size) (szMsgs m.queue) := by
      unfold szWat
      by_cases h2 : szMsgs m.queue ≤ L - m.ptr.size
      · rw [szI_ok h2, szI_ok (by omega)]; congr 1; omega
      · rw [szI_no h2, szI_no (by omega)]
    rw [hZ]
    clear hZ
    have hge := szI_ge (L - m.ptr.size) (szMsgs m.queue)
    have hle := szI_le (L - m.ptr.size) (szMsgs m.queue)
    generalize szI (L - m.ptr.size) (szMsgs m.queue) = z at *
    have hsub : ((L - m.ptr.size : Nat) : Int) = (L : Int) - (m.ptr.size : Int) := by omega
    rw [hsub] at H1 hle
    clear hsub
    go_enter Tryd.func59, Tryd.ntmps59
    go_wp2_with fail
    refine (unhide H1 _).mono ?_
    rintro e w1 ⟨rfl, b1⟩
    have B1 := hide (below_next (alloc_b w _) b1)
    clear b1 H1
    by_cases hz : z < 0
    · have : z = -1 := by omega
      subst this
      clear hz hge hle
      go_wp2
      go_ret
      exact ⟨rfl, unhide B1⟩
    · go_wp2
      go_ret
      exact ⟨rfl, unhide B1⟩
  · rw [szI_no (by unfold szWat; omega)]
    go_enter Tryd.func59, Tryd.ntmps59
    go_wp2
    go_ret
    exact ⟨rfl, alloc_b w _⟩
def szWats (ms : List Wat) : Nat := ms.length + (ms.map szWat).sum
set_option maxHeartbeats 800000 in
theorem szWats_walk (v : Value) (ms : List Wat) (L : Nat) (w : World) (h : RRow watR w v ms) (hL : L ≤ 1048576) :
    Calls Tryd.prog 32 #[v, .int .i64 L] w fun e w' => e = .returned (.int .i64 (szI L (szWats ms))) ∧ Below w.heap.size w w' := by
  have H := hide h
  obtain ⟨hm, a, cap, rfl, hrow⟩ := h
  unfold maxLen at hm
  clear hrow
  by_cases h0 : L < ms.length
  · go_enter Tryd.func32, Tryd.ntmps32
    go_wp2
    go_ret
    exact ⟨ret_int (szI_no (by unfold szWats; omega)).symm, Below.refl _ _⟩
  · go_enter Tryd.func32, Tryd.ntmps32
    go_wp2
    go_loopw [1, 5] (fun l i wr => ∃ k : Nat, k ≤ ms.length ∧ i = .int .i64 k ∧ ms.length + ((ms.take k).map szWat).sum ≤ L ∧ l = .int .i64 ((L - (ms.length + ((ms.take k).map szWat).sum) : Nat) : Int) ∧ Below w.heap.size w wr) (fun _ i _ => ms.length - (intOf i).toNat)
    case atStart => exact ⟨0, Nat.zero_le _, rfl, by simp; omega, by simp; omega, Below.refl _ _⟩
    case round =>
      obtain ⟨k, hk, rfl, hle, rfl, hb⟩ := hrel
      by_cases hlt : k < ms.length
      · have ht := sum_take_snoc szWat ms k ms[k] (List.getElem?_eq_getElem hlt)
        have hts := sum_take_le (ms.map szWat) (k + 1)
        rw [← List.map_take] at hts
        obtain ⟨_, a', cap', he, hrow⟩ := (unhide H).below hb
        injection he with he1 he2 he3; subst he1; subst he3; clear he2
        obtain ⟨b, o, rfl, vs, hR, hc⟩ := hrow k ms[k] (List.getElem?_eq_getElem hlt)
        obtain ⟨a0, a1, a2, a3, a4, a5, rfl⟩ := list6 (watR.len hR)
        have c0 : wr.cell? ⟨b, o + k * 6, none⟩ = _ := hc 0 _ rfl
        have c1 : wr.cell? ⟨b, o + k * 6 + 1, none⟩ = _ := hc 1 _ rfl
        have c2 : wr.cell? ⟨b, o + k * 6 + 2, none⟩ = _ := hc 2 _ rfl
        have c3 : wr.cell? ⟨b, o + k * 6 + 3, none⟩ = _ := hc 3 _ rfl
        have c4 : wr.cell? ⟨b, o + k * 6 + 4, none⟩ = _ := hc 4 _ rfl
        have c5 : wr.cell? ⟨b, o + k * 6 + 5, none⟩ = _ := hc 5 _ rfl
        have HM := hide (szWat_walk a0 a1 a2 a3 a4 a5 ms[k] (L - (ms.length + ((ms.take k).map szWat).sum)) wr hR (by omega))
        clear hrow hc hR
        have HS : Hid (szWats ms = ms.length + (ms.map szWat).sum) := rfl
        generalize (ms.map szWat).sum = T9 at *
        generalize ((ms.take k).map szWat).sum = T at *
        have hT2 : ∃ T2, ((ms.take (k + 1)).map szWat).sum = T2 := ⟨_, rfl⟩
        obtain ⟨T2, hT2⟩ := hT2
        rw [hT2] at ht hts
        have HT := hide hT2
        clear hT2
        generalize szWat ms[k] = z at *
        by_cases hn : ms.length + T + z ≤ L
        · rw [szI_ok (by omega)] at HM
          go_wp2_with fail
          refine (unhide HM).mono ?_
          rintro e w1 ⟨rfl, b1⟩
          have B1 := hide (below_next hb b1)
          clear HM b1 hb c0 c1 c2 c3 c4 c5
          go_wp2
          go_roundw
          case rel => exact ⟨k + 1, by omega, by go_num, by rw [unhide HT]; omega, by rw [unhide HT]; go_num, unhide B1⟩
          case measure => simp [intOf]; omega
        · rw [szI_no (by omega)] at HM
          go_wp2_with fail
          refine (unhide HM).mono ?_
          rintro e w1 ⟨rfl, b1⟩
          have B1 := hide (below_next hb b1)
          clear HM b1 hb c0 c1 c2 c3 c4 c5
          go_wp2
          go_ret
          exact ⟨ret_int (szI_no (by rw [unhide HS]; omega)).symm, unhide B1⟩
      · have hk' : k = ms.length := by omega
        subst hk'
        rw [List.take_length] at hle ⊢
        go_wp2
        go_ret
        exact ⟨ret_int (szI_ok (n := szWats ms) hle).symm, hb⟩
def szHb (h : Hb) : Nat := szWats h.watches + szNwss h.waiting
set_option maxHeartbeats 800000 in
theorem szHub_walk (v : Value) (h : Hb) (w : World) (hr : RHub w v h) :
    Calls Tryd.prog 11 #[v, .int .i64 1048576] w fun e w' => e = .returned (.int .i64 (szI 1048576 (szHb h))) ∧ Below w.heap.size w w' := by
  obtain ⟨p, q, rfl, h1, h2⟩ := hr
  have H1 : Hid (∀ o, Calls _ _ _ (w.alloc o) _) := fun o => szWats_walk p h.watches 1048576 _ (h1.below (alloc_b w o)) (by omega)
  have H2 : Hid (∀ w1, Below w.heap.size w w1 → Calls _ _ _ w1 _) := fun w1 hb => szNwss_walk q h.waiting (1048576 - szWats h.watches) w1 (h2.below hb) (by omega)
  clear h1 h2
  have hZ : szI 1048576 (szHb h) = if szWats h.watches ≤ 1048576 then szI (1048576 - szWats h.watches) (szNwss h.waiting) else -1 := by
    unfold szHb
    by_cases h1 : szWats h.watches ≤ 1048576
    · rw [if_pos h1]
      by_cases h2 : szNwss h.waiting ≤ 1048576 - szWats h.watches
      · rw [szI_ok h2, szI_ok (by omega)]; congr 1; omega
      · rw [szI_no h2, szI_no (by omega)]
    · rw [if_neg h1, szI_no (by omega)]
  rw [hZ]
  clear hZ
  by_cases hn : szWats h.watches ≤ 1048576
  · rw [if_pos hn]
    rw [szI_ok hn] at H1
    have hge := szI_ge (1048576 - szWats h.watches) (szNwss h.waiting)
    have hle := szI_le (1048576 - szWats h.watches) (szNwss h.waiting)
    have hL2 : 1048576 - szWats h.watches ≤ 1048576 := by omega
    generalize szI (1048576 - szWats h.watches) (szNwss h.waiting) = z at *
    generalize 1048576 - szWats h.watches = L2 at *
    clear hn
    go_enter Tryd.func11, Tryd.ntmps11
    go_wp2_with fail
    refine (unhide H1 _).mono ?_
    rintro e w1 ⟨rfl, b1⟩
    have B1 := below_next (alloc_b w _) b1
    have H2' := hide (unhide H2 w1 B1)
    have c0 : w1.cell? ⟨w.heap.size, 1, none⟩ = some q := (b1.cell (p := ⟨w.heap.size, 1, none⟩) (by simp)).trans (by simp)
    have HB := hide B1
    clear b1 H1 H2 B1
    go_wp2_with fail
    refine (unhide H2').mono ?_
    rintro e w2 ⟨rfl, b2⟩
    have B2 := hide (below_next (unhide HB) b2)
    clear b2 H2' c0
    by_cases hz : z < 0
    · have : z = -1 := by omega
      subst this
      clear hz hge hle
      go_wp2
      go_ret
      exact ⟨rfl, unhide B2⟩
    · go_wp2
      go_ret
      exact ⟨rfl, unhide B2⟩
  · rw [if_neg hn]
    rw [szI_no hn] at H1
    clear H2 hn
    go_enter Tryd.func11, Tryd.ntmps11
    go_wp2_with fail
    refine (unhide H1 _).mono ?_
    rintro e w1 ⟨rfl, b1⟩
    have B1 := hide (below_next (alloc_b w _) b1)
    clear b1 H1
    go_wp2
    go_ret
    exact ⟨rfl, unhide B1⟩
end Go.Proofs.YtbcfkkicmmhhcaaDoor
