import Derived.Test.YtcjajchfjoffnaaGreatDoorBst14
import Derived.Test.YtcjajchfjoffnaaGreatDoorBst15
import Derived.Test.YtcjajchfjoffnaaGreatDoorBst1
namespace Go.Proofs.YtcjajchfjoffnaaGreatDoor
open Go.RowKit

theorem insU_len (x : List UInt8) : ∀ l : List (List UInt8), (insU x l).length ≤ l.length + 1
  | [] => by simp [insU]
  | y :: r => by
    rw [insU]
    split
    · have := insU_len x r; simp; omega
    · split <;> simp
theorem onceL_snoc (l : List (List UInt8)) (x : List UInt8) : onceL (l ++ [x]) = insU x (onceL l) := by
  unfold onceL; rw [List.foldl_append]; rfl
theorem onceL_len : ∀ (n : Nat) (l : List (List UInt8)), l.length = n → (onceL l).length ≤ n := by
  intro n
  induction n with
  | zero => intro l h; rw [List.eq_nil_of_length_eq_zero h]; simp [onceL]
  | succ n ih =>
    intro l h
    rcases List.eq_nil_or_concat l with rfl | ⟨a, x, rfl⟩
    · simp at h
    · rw [List.concat_eq_append] at h ⊢
      rw [onceL_snoc]
      have h1 := insU_len x (onceL a)
      have h2 := ih a (by simpa using h)
      omega
theorem insU_in (x : List UInt8) : ∀ (A : List (List UInt8)) (j : Nat), (∀ i (h : i < A.length), i < j → A[i] < x) → (h : j < A.length) → ¬ A[j] < x → insU x A = if A[j] = x then A else A.take j ++ x :: A.drop j
  | y :: r, 0, _, _, hn => by
    have hn' : ¬ y < x := hn
    rw [insU, if_neg hn']
    show _ = if y = x then _ else _
    split <;> rfl
  | y :: r, j + 1, hA, h, hn => by
    have h0 : y < x := hA 0 (by simp) (by omega)
    have ih := insU_in x r j (fun i hi hij => hA (i + 1) (by simpa using hi) (by omega)) (by simpa using h) hn
    rw [insU, if_pos h0, ih]
    show _ = if r[j]'(by simpa using h) = x then _ else _
    split <;> rfl
theorem insU_end (x : List UInt8) : ∀ (A : List (List UInt8)), (∀ i (h : i < A.length), A[i] < x) → insU x A = A ++ [x]
  | [], _ => rfl
  | y :: r, h => by
    have h0 : y < x := h 0 (by simp)
    rw [insU, if_pos h0, insU_end x r (fun i hi => h (i + 1) (by simpa using hi))]
    rfl
theorem less_of {a b : List UInt8} (h : a < b) : Op.bytesLess (strOf a).toList (strOf b).toList = true := by
  rw [bytesLess_eq, ByteArray.toList_eq, ByteArray.toList_eq, strOf_toList, strOf_toList]; exact decide_eq_true h
theorem less_not {a b : List UInt8} (h : ¬ a < b) : Op.bytesLess (strOf a).toList (strOf b).toList = false := by
  rw [bytesLess_eq, ByteArray.toList_eq, ByteArray.toList_eq, strOf_toList, strOf_toList]; exact decide_eq_false h
/-- A row of texts that is there (not nil). -/
def OTs (w : World) (B : Nat) (v : Value) (ts : List (List UInt8)) : Prop := OT w B v ts ∧ ∃ g cap, v = .slice (some ⟨g, 0, none⟩) ts.length cap ∧ B ≤ g ∧ g < w.heap.size ∧ ts.length ≤ cap ∧ ∀ j u, (ts.map tokCell)[j]? = some u → w.cell? ⟨g, j, none⟩ = some u
theorem OTs.of {w : World} {B : Nat} {v : Value} {ts : List (List UInt8)} (h : OT w B v ts) (hn : v ≠ .slice none 0 0) : OTs w B v ts := by
  refine ⟨h, ?_⟩
  rcases h.2 with ⟨hv, _⟩ | ⟨g, cap, cur, hv, hB, hg, hle, _⟩
  · exact absurd hv hn
  · subst hv
    refine ⟨g, cap, rfl, hB, (Array.getElem?_eq_some_iff.1 hg).1, hle, fun j u hj => ?_⟩
    have := World.ownsRow.cells h rfl j u hj
    rwa [show ((⟨g, 0, none⟩ : Addr).add j) = ⟨g, j, none⟩ from by simp [Addr.add]; omega] at this
theorem tok_at {ts : List (List UInt8)} {j : Nat} (h : j < ts.length) : (ts.map tokCell)[j]? = some (.string (strOf ts[j])) := by
  rw [List.getElem?_map, List.getElem?_eq_getElem h]; rfl

theorem take_cell {A : List (List UInt8)} {j i : Nat} {u : Value} (h : ((A.take j).map tokCell)[i]? = some u) : (A.map tokCell)[i]? = some u := by
  rw [List.map_take] at h
  rw [List.getElem?_take] at h
  split at h
  · exact h
  · cases h
theorem drop_cell {A : List (List UInt8)} {j i : Nat} {u : Value} (h : ((A.drop j).map tokCell)[i]? = some u) : (A.map tokCell)[j + i]? = some u := by
  rwa [List.map_drop, List.getElem?_drop] at h
theorem tok_ones (ts : List (List UInt8)) : ∀ u ∈ ts.map tokCell, u.oneCell' = true := by
  intro u hu; obtain ⟨t, _, rfl⟩ := List.mem_map.1 hu; rfl

set_option maxRecDepth 100000 in
set_option maxHeartbeats 4000000 in
theorem once_walk {B : Nat} (v : Value) (ts : List (List UInt8)) (w : World) (h : OT w B v ts) (hn : ts.length ≤ 1000000) :
    Calls Tryz.prog 59 #[v] w fun e w' => ∃ r, e = .returned r ∧ OT w' w.heap.size r (onceL ts) ∧ Below w.heap.size w w' := by
  obtain ⟨i0, hi, hz0, hz1, hz2⟩ := info_parts infoString
  obtain ⟨a, g0, cap0, rfl, hs, _⟩ := h.shape
  have hadr := hs.ad
  have HC := hide hs.cell
  rw [List.length_map] at hadr
  simp only [List.length_map] at HC
  clear h hs
  have HO0 : Hid (OTs (w.alloc (.cells #[] 9)) w.heap.size (.slice (some ⟨w.heap.size, 0, none⟩) 0 0) []) := OTs.of (World.ownsRow_lit w #[] 0 (Nat.le_refl _) (by unfold maxLen; omega) rfl) (by intro e; cases e)
  have HB0 : Hid (Below w.heap.size w (w.alloc (.cells #[] 9))) := (Below.refl _ _).alloc (Nat.le_refl _) _
  go_enter Tryz.func59, Tryz.ntmps59
  go_wp2_with fail
  go_loopw [3, 4] (fun u i wr => ∃ k : Nat, k ≤ ts.length ∧ i = .int .i64 (k : Int) ∧ OTs wr w.heap.size u (onceL (ts.take k)) ∧ Below w.heap.size w wr) (fun _ i _ => ts.length - (intOf i).toNat)
  case atStart => exact ⟨0, Nat.zero_le _, rfl, unhide HO0, unhide HB0⟩
  case round =>
    obtain ⟨k, hk, rfl, ho, hb⟩ := hrel
    clear HO0 HB0
    have hAl : (onceL (ts.take k)).length ≤ 1000000 := by
      have := onceL_len k (ts.take k) (by rw [List.length_take]; omega)
      omega
    by_cases hlt : k < ts.length
    · have hltI : (k : Int) < (ts.length : Int) := by omega
      obtain rfl := hadr (by omega)
      have hck0 := unhide HC k hlt
      have hg0 : g0 < w.heap.size := World.block_lt_of_cell? _ _ hck0
      have hgd : (ts.map baT).getD k ByteArray.empty = strOf ts[k] := by simp [List.getD, hlt, baT, strOf]
      rw [hgd, Nat.zero_add] at hck0
      have HCK : Hid (∀ X : World, Below w.heap.size w X → X.cell? ⟨g0, k, none⟩ = some (.string (strOf ts[k]))) := fun X hX => (hX.cell (p := ⟨g0, k, none⟩) hg0).trans hck0
      have HS : Hid (onceL (ts.take (k + 1)) = insU ts[k] (onceL (ts.take k))) := by
        show _ = _
        rw [List.take_succ_eq_append_getElem hlt, onceL_snoc]
      obtain ⟨hO, g, cap, rfl, hgB, hgl, hcap, hcell⟩ := ho
      have HO := hide hO
      have HCELL := hide hcell
      have HB := hide hb
      generalize ts[k] = x at *
      generalize onceL (ts.take k) = A at *
      clear HC hck0 hgd hO hcell hb
      go_wp2_with fail
      go_loopw [5] (fun p wx => ∃ j : Nat, j ≤ A.length ∧ p = .int .i64 (j : Int) ∧ OT wx w.heap.size (.slice (some ⟨g, 0, none⟩) A.length cap) A ∧ Below w.heap.size w wx ∧ ∀ i (h : i < A.length), i < j → A[i] < x) (fun p _ => A.length - (intOf p).toNat)
      case atStart => exact ⟨0, Nat.zero_le _, rfl, unhide HO, unhide HB, fun i _ h => by omega⟩
      case round =>
        obtain ⟨j, hj, rfl, hox, hbx, hall⟩ := hrel
        have HALL := hide hall
        have HOX := hide hox
        have HBX := hide hbx
        have HCX : Hid (∀ (X : World), OT X w.heap.size (.slice (some ⟨g, 0, none⟩) A.length cap) A → g < X.heap.size ∧ ∀ i u, (A.map tokCell)[i]? = some u → X.cell? ⟨g, i, none⟩ = some u) := fun X hX => by
          obtain ⟨_, g', cap', he, _, h2, _, h3⟩ := OTs.of hX (by intro e; cases e)
          injection he with he1 _ _
          injection he1 with he1
          injection he1 with he1
          subst he1
          exact ⟨h2, h3⟩
        have ck := unhide HCK _ hbx
        clear hall hox hbx HO HB
        by_cases hjl : j < A.length
        · have hjI : (j : Int) < (A.length : Int) := by omega
          have cj := (unhide HCX _ (unhide HOX)).2 j _ (tok_at hjl)
          by_cases hax : A[j] < x
          · have hless := less_of hax
            have HA2 : Hid (∀ i (h : i < A.length), i < j + 1 → A[i] < x) := fun i hi hij => by
              by_cases e : i = j
              · subst e; exact hax
              · exact unhide HALL i hi (by omega)
            clear hax HALL
            generalize A[j] = y at *
            go_wp2_with fail
            go_quiet (fail)
            go_wp2
            go_roundw
            case rel => exact ⟨j + 1, by omega, by go_num, unhide HOX, below_drewN (unhide HBX) _, unhide HA2⟩
            case measure => simp [intOf]; omega
          · have hless := less_not hax
            have HIN0 := hide (insU_in x A j (unhide HALL) hjl hax)
            have heq := str_eq A[j] x
            clear hax HALL
            by_cases hex : A[j] = x
            · have t2 : (A[j] == x) = true := by rw [beq_iff_eq]; exact hex
              rw [t2] at heq
              have HIN : Hid (insU x A = A) := by show _ = _; rw [unhide HIN0, if_pos hex]
              clear hex t2 HIN0
              generalize A[j] = y at *
              go_wp2_with fail
              go_quiet (fail)
              go_wp2_with fail
              go_quiet (fail)
              go_wp2
              exact ⟨⟨k + 1, by omega, by go_num, by rw [unhide HS, unhide HIN]; exact OTs.of (unhide HOX) (by intro e; cases e), below_drewN (unhide HBX) _⟩, by simp [intOf]; omega⟩
            · have t2 : (A[j] == x) = false := by rw [beq_eq_false_iff_ne]; exact hex
              rw [t2] at heq
              have HIN : Hid (insU x A = A.take j ++ x :: A.drop j) := by show _ = _; rw [unhide HIN0, if_neg hex]
              clear hex t2 HIN0
              generalize A[j] = y at *
              go_wp2_with fail
              go_quiet (fail)
              have HO1 : Hid (OT (wr.drewN nq) w.heap.size (.slice (some ⟨g, 0, none⟩) A.length cap) A) := unhide HOX
              have HB1 : Hid (Below w.heap.size w (wr.drewN nq)) := below_drewN (unhide HBX) _
              have ck1 : (wr.drewN nq).cell? ⟨g0, k, none⟩ = some (.string (strOf x)) := ck
              have cj1 : (wr.drewN nq).cell? ⟨g, j, none⟩ = some (.string (strOf y)) := cj
              clear cj
              clear HOX HBX ck
              generalize wr.drewN nq = W1 at *
              go_wp2_with fail
              go_quiet (fail)
              have HOW : Hid (OT (W1.drewN nq) w.heap.size (.slice (some ⟨g, 0, none⟩) A.length cap) A) := unhide HO1
              have HBW : Hid (Below w.heap.size w (W1.drewN nq)) := below_drewN (unhide HB1) _
              clear HO1 HB1 ck1 cj1
              generalize W1.drewN nq = W at *
              have hgW := (unhide HCX W (unhide HOW)).1
              have HCW := hide (unhide HCX W (unhide HOW)).2
              -- the insertion
              have bW := (unhide HBW)
              have hWs := bW.size
              have cx := unhide HCK W bW
              have own0 : (W.alloc (.cells #[] 9)).ownsRow W.heap.size 9 1 (.slice (some ⟨W.heap.size, 0, none⟩) 0 0) 0 [] := World.ownsRow_lit W #[] 0 (Nat.le_refl _) (by unfold maxLen; omega) rfl
              have HW0 : Hid (Below W.heap.size W (W.alloc (.cells #[] 9))) := (Below.refl _ _).alloc (Nat.le_refl _) _
              have HGL : Hid (g < W.heap.size) := hgW
              have HG0 : Hid (g0 < W.heap.size) := by show _ < _; omega
              clear bW
              go_wp2_with (at_builtin; refine wpList_append_own _ rfl (.tmp 47) (.tmp 50) 45 rfl W.heap.size 9 i0 (.string ByteArray.empty) 1 16 Tryz.underlying45 hi hz0 hz1 hz2 rfl (by decide) _ _ _ rfl own0 ⟨g, 0, none⟩ j cap ((A.take j).map tokCell) rfl (by rw [List.length_map, List.length_take]; omega) (fun i u hu => by { rw [show ((⟨g, 0, none⟩ : Addr).add i) = ⟨g, i, none⟩ from by simp [Addr.add]; omega]; exact ((unhide HW0).cell (p := ⟨g, i, none⟩) (unhide HGL)).trans (unhide HCW i u (take_cell hu)) }) (tok_ones _) (by unfold maxLen; omega) (by omega) (by simp) ?_)
              intro v1 w1 own1 hg1 _
              have B1 : Hid (Below W.heap.size W w1) := (unhide HW0).grown hg1 (by simp) (fun k hk => (own0.lt k hk).1)
              have c1 := ((unhide B1).cell (p := ⟨g0, k, none⟩) (unhide HG0)).trans cx
              have hw1 := (unhide B1).size
              clear own0 hg1 HW0 cx
              go_wp2_with (at_builtin; refine wpList_append_own _ rfl (.tmp 52) (.tmp 57) 45 rfl W.heap.size 9 i0 (.string ByteArray.empty) 1 16 Tryz.underlying45 hi hz0 hz1 hz2 rfl (by decide) _ _ _ rfl (own1.alloc _) ⟨w1.heap.size, 0, none⟩ 1 1 [.string (strOf x)] rfl rfl (lit1 _ _ _) (one_tok _) (by unfold maxLen; omega) (by omega) (by simp; omega) ?_)
              intro v2 w2 own2 hg2 nn2
              have B2 : Hid (Below W.heap.size W w2) := ((unhide B1).alloc hw1 _).grown hg2 (by simp; omega) (fun k hk => (own1.lt k hk).1)
              have hw2 := (unhide B2).size
              have HN2 : Hid (v2 ≠ .slice none 0 0) := nn2
              clear own1 hg2 nn2 B1 c1
              go_wp2_with (at_builtin; refine wpList_append_own _ rfl (.tmp 59) (.tmp 62) 45 rfl W.heap.size 9 i0 (.string ByteArray.empty) 1 16 Tryz.underlying45 hi hz0 hz1 hz2 rfl (by decide) _ _ _ rfl own2 ⟨g, j, none⟩ (A.length - j) (cap - j) ((A.drop j).map tokCell) (by first | rfl | (simp; omega)) (by rw [List.length_map, List.length_drop]; omega) (fun i u hu => by { rw [show ((⟨g, j, none⟩ : Addr).add i) = ⟨g, j + i, none⟩ from by simp [Addr.add]]; exact ((unhide B2).cell (p := ⟨g, j + i, none⟩) (unhide HGL)).trans (unhide HCW (j + i) u (drop_cell hu)) }) (tok_ones _) (by unfold maxLen; omega) (by omega) (by omega) ?_)
              intro v3 w3 own3 hg3 nn3
              have B3 : Hid (Below w.heap.size w w3) := (unhide HBW).trans (((unhide B2).grown hg3 hw2 (fun k hk => (own2.lt k hk).1)).mono hWs)
              have O3 : Hid (OTs w3 w.heap.size v3 (onceL (ts.take (k + 1)))) := by
                refine OTs.of (own_mono ?_ hWs) (fun e => unhide HN2 (nn3.1 e).1)
                rw [unhide HS, unhide HIN, List.length_append, List.map_append, List.length_cons, List.map_cons, List.length_take, List.length_drop, show min j A.length + (A.length - j + 1) = 0 + j + 1 + (A.length - j) from by omega]
                have et : tokCell x = .string (strOf x) := rfl
                simpa [et] using own3
              clear own3 hg3 nn3 own2 B2
              go_wp2
              exact ⟨⟨k + 1, by omega, by go_num, unhide O3, unhide B3⟩, by simp [intOf]; omega⟩
        · have hjI : ¬ (j : Int) < (A.length : Int) := by omega
          have hjE : j = A.length := by omega
          have HIN : Hid (insU x A = A.take j ++ x :: A.drop j) := by
            show _ = _
            rw [insU_end x A (fun i hi => unhide HALL i hi (by omega)), List.take_of_length_le (by omega), List.drop_of_length_le (by omega)]
          clear HALL hjE
          go_wp2_with fail
          go_quiet (fail)
          have HO1 : Hid (OT (wr.drewN nq) w.heap.size (.slice (some ⟨g, 0, none⟩) A.length cap) A) := unhide HOX
          have HB1 : Hid (Below w.heap.size w (wr.drewN nq)) := below_drewN (unhide HBX) _
          have ck1 : (wr.drewN nq).cell? ⟨g0, k, none⟩ = some (.string (strOf x)) := ck
          clear HOX HBX ck
          generalize wr.drewN nq = W1 at *
          go_wp2_with fail
          go_quiet (fail)
          have HOW : Hid (OT (W1.drewN nq) w.heap.size (.slice (some ⟨g, 0, none⟩) A.length cap) A) := unhide HO1
          have HBW : Hid (Below w.heap.size w (W1.drewN nq)) := below_drewN (unhide HB1) _
          clear HO1 HB1 ck1
          generalize W1.drewN nq = W at *
          have hgW := (unhide HCX W (unhide HOW)).1
          have HCW := hide (unhide HCX W (unhide HOW)).2
          -- the insertion
          have bW := (unhide HBW)
          have hWs := bW.size
          have cx := unhide HCK W bW
          have own0 : (W.alloc (.cells #[] 9)).ownsRow W.heap.size 9 1 (.slice (some ⟨W.heap.size, 0, none⟩) 0 0) 0 [] := World.ownsRow_lit W #[] 0 (Nat.le_refl _) (by unfold maxLen; omega) rfl
          have HW0 : Hid (Below W.heap.size W (W.alloc (.cells #[] 9))) := (Below.refl _ _).alloc (Nat.le_refl _) _
          have HGL : Hid (g < W.heap.size) := hgW
          have HG0 : Hid (g0 < W.heap.size) := by show _ < _; omega
          clear bW
          go_wp2_with (at_builtin; refine wpList_append_own _ rfl (.tmp 47) (.tmp 50) 45 rfl W.heap.size 9 i0 (.string ByteArray.empty) 1 16 Tryz.underlying45 hi hz0 hz1 hz2 rfl (by decide) _ _ _ rfl own0 ⟨g, 0, none⟩ j cap ((A.take j).map tokCell) rfl (by rw [List.length_map, List.length_take]; omega) (fun i u hu => by { rw [show ((⟨g, 0, none⟩ : Addr).add i) = ⟨g, i, none⟩ from by simp [Addr.add]; omega]; exact ((unhide HW0).cell (p := ⟨g, i, none⟩) (unhide HGL)).trans (unhide HCW i u (take_cell hu)) }) (tok_ones _) (by unfold maxLen; omega) (by omega) (by simp) ?_)
          intro v1 w1 own1 hg1 _
          have B1 : Hid (Below W.heap.size W w1) := (unhide HW0).grown hg1 (by simp) (fun k hk => (own0.lt k hk).1)
          have c1 := ((unhide B1).cell (p := ⟨g0, k, none⟩) (unhide HG0)).trans cx
          have hw1 := (unhide B1).size
          clear own0 hg1 HW0 cx
          go_wp2_with (at_builtin; refine wpList_append_own _ rfl (.tmp 52) (.tmp 57) 45 rfl W.heap.size 9 i0 (.string ByteArray.empty) 1 16 Tryz.underlying45 hi hz0 hz1 hz2 rfl (by decide) _ _ _ rfl (own1.alloc _) ⟨w1.heap.size, 0, none⟩ 1 1 [.string (strOf x)] rfl rfl (lit1 _ _ _) (one_tok _) (by unfold maxLen; omega) (by omega) (by simp; omega) ?_)
          intro v2 w2 own2 hg2 nn2
          have B2 : Hid (Below W.heap.size W w2) := ((unhide B1).alloc hw1 _).grown hg2 (by simp; omega) (fun k hk => (own1.lt k hk).1)
          have hw2 := (unhide B2).size
          have HN2 : Hid (v2 ≠ .slice none 0 0) := nn2
          clear own1 hg2 nn2 B1 c1
          rcases Nat.lt_or_ge j cap with hjc | hjc
          · have hjc1 : ¬ cap ≤ j := by omega
            go_wp2_with (at_builtin; refine wpList_append_own _ rfl (.tmp 59) (.tmp 62) 45 rfl W.heap.size 9 i0 (.string ByteArray.empty) 1 16 Tryz.underlying45 hi hz0 hz1 hz2 rfl (by decide) _ _ _ rfl own2 ⟨g, j, none⟩ (A.length - j) (cap - j) ((A.drop j).map tokCell) (by first | rfl | (simp; omega)) (by rw [List.length_map, List.length_drop]; omega) (fun i u hu => by { rw [show ((⟨g, j, none⟩ : Addr).add i) = ⟨g, j + i, none⟩ from by simp [Addr.add]]; exact ((unhide B2).cell (p := ⟨g, j + i, none⟩) (unhide HGL)).trans (unhide HCW (j + i) u (drop_cell hu)) }) (tok_ones _) (by unfold maxLen; omega) (by omega) (by omega) ?_)
            intro v3 w3 own3 hg3 nn3
            have B3 : Hid (Below w.heap.size w w3) := (unhide HBW).trans (((unhide B2).grown hg3 hw2 (fun k hk => (own2.lt k hk).1)).mono hWs)
            have O3 : Hid (OTs w3 w.heap.size v3 (onceL (ts.take (k + 1)))) := by
              refine OTs.of (own_mono ?_ hWs) (fun e => unhide HN2 (nn3.1 e).1)
              rw [unhide HS, unhide HIN, List.length_append, List.map_append, List.length_cons, List.map_cons, List.length_take, List.length_drop, show min j A.length + (A.length - j + 1) = 0 + j + 1 + (A.length - j) from by omega]
              have et : tokCell x = .string (strOf x) := rfl
              simpa [et] using own3
            clear own3 hg3 nn3 own2 B2
            go_wp2
            exact ⟨⟨k + 1, by omega, by go_num, unhide O3, unhide B3⟩, by simp [intOf]; omega⟩
          · obtain rfl : j = cap := by omega
            go_wp2_with (at_builtin; refine wpList_append_own _ rfl (.tmp 59) (.tmp 62) 45 rfl W.heap.size 9 i0 (.string ByteArray.empty) 1 16 Tryz.underlying45 hi hz0 hz1 hz2 rfl (by decide) _ _ _ rfl own2 _ _ _ ((A.drop j).map tokCell) rfl (by rw [List.length_map, List.length_drop]; omega) (fun i u hu => by { rw [List.drop_of_length_le (by omega)] at hu; simp at hu }) (tok_ones _) (by unfold maxLen; omega) (by omega) (by omega) ?_)
            intro v3 w3 own3 hg3 nn3
            have B3 : Hid (Below w.heap.size w w3) := (unhide HBW).trans (((unhide B2).grown hg3 hw2 (fun k hk => (own2.lt k hk).1)).mono hWs)
            have O3 : Hid (OTs w3 w.heap.size v3 (onceL (ts.take (k + 1)))) := by
              refine OTs.of (own_mono ?_ hWs) (fun e => unhide HN2 (nn3.1 e))
              rw [unhide HS, unhide HIN, List.length_append, List.map_append, List.length_cons, List.map_cons, List.length_take, List.length_drop, show min j A.length + (A.length - j + 1) = j + 1 from by omega]
              have et : tokCell x = .string (strOf x) := rfl
              simpa [et] using own3
            clear own3 hg3 nn3 own2 B2
            go_wp2
            exact ⟨⟨k + 1, by omega, by go_num, unhide O3, unhide B3⟩, by simp [intOf]; omega⟩
    · have e : ts.take k = ts := List.take_of_length_le (by omega)
      rw [e] at ho
      have HO := hide ho.1
      have HB := hide hb
      clear ho hb e HC
      go_wp2
      go_ret
      exact ⟨_, rfl, unhide HO, unhide HB⟩
end Go.Proofs.YtcjajchfjoffnaaGreatDoor
