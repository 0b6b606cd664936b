import Derived.Test.YtcjajchfjoffnaaGreatDoorBch1
import Derived.Laws.AppendOwn
import Derived.Room.AppendZeros
namespace Go.Proofs.YtcjajchfjoffnaaGreatDoor
open Go.RowKit

set_option maxHeartbeats 1000000 in
set_option maxRecDepth 100000 in
theorem specText_walk (xa : Option Addr) (xb xo xc : Nat) (ss : List ByteArray) (w : World) (h : SS w xa xb xo ss) (hm : ss.length + tot ss ≤ 1048576) :
    Calls Tryz.prog 57 #[.slice xa ss.length xc] w fun e w' => e = .returned (.string ⟨(ptrText ss).toArray⟩) ∧ Below w.heap.size w w' := by
  obtain ⟨i0, hi, hz0, hz1, hz2⟩ := info_parts infoU8
  have hadr := h.ad
  have HC := hide h.cell
  clear h
  have hlen : ss.length ≤ 1048576 := by omega
  have HM := hide hm
  clear hm
  go_enter Tryz.func57, Tryz.ntmps57
  go_wp2
  go_loopw [3, 4] (fun v i wr => ∃ k : Nat, k ≤ ss.length ∧ i = .int .i64 k ∧ wr.ownsRow w.heap.size 5 1 v (Lib.byteCells (ptrText (ss.take k))).length (Lib.byteCells (ptrText (ss.take k))) ∧ Below w.heap.size w wr) (fun _ i _ => ss.length - (intOf i).toNat)
  case atStart => exact ⟨0, Nat.zero_le _, rfl, World.ownsRow_lit w #[] 0 (Nat.le_refl _) (by unfold maxLen; omega) rfl, (Below.refl _ _).alloc (Nat.le_refl _) _⟩
  case round =>
    obtain ⟨k, hk, rfl, hown, hb⟩ := hrel
    by_cases hlt : k < ss.length
    · have hc0 := unhide HC k hlt
      have hxb : xb < w.heap.size := World.block_lt_of_cell? _ _ hc0
      obtain rfl := hadr (by omega)
      have htk := take_snoc hlt
      have hsz : (ss.getD k ByteArray.empty).size ≤ 1048576 := by have := tot_ge hlt; have := unhide HM; omega
      have hpl : (ptrText (ss.take k)).length + 2 * (ss.getD k ByteArray.empty).size + 1 ≤ 2097152 := by
        have h1 := ptrText_le (ss.take k); have h2 := tot_ge hlt; have h3 := unhide HM
        have h4 : (ss.take k).length = k := by rw [List.length_take]; omega
        omega
      clear hadr
      generalize hs : ss.getD k ByteArray.empty = s at *
      have HTK := hide htk
      have HS := hide hs
      clear htk hs
      have HP : Hid (ptrText (ss.take (k + 1)) = ptrText (ss.take k) ++ 47 :: esc s.data.toList) := by
        have e := unhide HTK; show _ = _; rw [e, ptrText_snoc]
      generalize ptrText (ss.take k) = p at *
      clear HTK
      have HB := hide hb
      have hwsz := hb.size
      clear hb
      have hp1 : (Lib.byteCells p).length = p.length := Lib.byteCells_length p
      have HP1 := hide hp1
      clear hp1
      go_wp2_with (at_builtin; refine wpList_append_own _ rfl (.tmp 13) (.tmp 14) 137 rfl w.heap.size 5 i0 (.int .u8 0) 1 1 Tryz.underlying137 hi hz0 hz1 hz2 rfl (by decide) _ _ _ rfl (hown.alloc _) ⟨wr.heap.size, 0, none⟩ 1 1 [.int .u8 47] rfl rfl (lit1 _ _ _) (one1 _ _) (by rw [unhide HP1]; unfold maxLen; omega) (by rw [unhide HP1]; omega) (by simp; omega) ?_)
      intro v1 w1 hown1 hgrow1 _
      have hb1 : Below w.heap.size w w1 := ((unhide HB).alloc hwsz _).grown hgrow1 (by simp; omega) (fun k hk => (hown.lt k hk).1)
      have hown1' := own_step (m := [47]) hown1 (by simp [Lib.byteCells]) rfl
      clear hown1 hgrow1 hown HB HP1
      go_wp2
      go_loopw [3, 5] (fun v i wr => ∃ j : Nat, j ≤ s.size ∧ i = .int .i64 j ∧ wr.ownsRow w.heap.size 5 1 v (Lib.byteCells (p ++ 47 :: esc (s.data.toList.take j))).length (Lib.byteCells (p ++ 47 :: esc (s.data.toList.take j))) ∧ Below w.heap.size w wr) (fun _ i _ => s.size - (intOf i).toNat)
      case atStart => exact ⟨0, Nat.zero_le _, rfl, by simpa [esc] using hown1', hb1⟩
      case round =>
        obtain ⟨j, hj, rfl, hown, hb⟩ := hrel
        have hc : wr.cell? ⟨xb, xo + k, none⟩ = some (.string s) := (hb.cell (p := ⟨xb, xo + k, none⟩) hxb).trans hc0
        have hwsz := hb.size
        by_cases hjs : j < s.size
        · have hq : (Lib.byteCells (p ++ 47 :: esc (s.data.toList.take j))).length ≤ p.length + 1 + 2 * j := by
            have := esc_le (s.data.toList.take j)
            have h5 : (s.data.toList.take j).length = j := by rw [List.length_take, data_len]; omega
            rw [Lib.byteCells_length, List.length_append, List.length_cons]; omega
          have HQ : Hid (p ++ 47 :: esc (s.data.toList.take (j + 1)) = (p ++ 47 :: esc (s.data.toList.take j)) ++ escB s[j]) := by
            show _ = _
            rw [bytes_snoc s j hjs, esc_snoc]; simp
          generalize p ++ 47 :: esc (s.data.toList.take j) = q at *
          have HB := hide hb
          clear hb hown1' hb1
          by_cases h126 : (s[j].toNat : Int) = 126
          · have t1 : ((s[j].toNat : Int) == 126) = true := by simpa using h126
            have HE := hide (escB_126 h126)
            clear h126
            go_wp2_with (at_builtin; refine wpList_append_own _ rfl (.tmp 32) (.tmp 33) 137 rfl w.heap.size 5 i0 (.int .u8 0) 1 1 Tryz.underlying137 hi hz0 hz1 hz2 rfl (by decide) _ _ _ rfl (hown.alloc _) ⟨wr.heap.size, 0, none⟩ 2 2 [.int .u8 126, .int .u8 48] rfl rfl (lit2 _ _ _ _ ) (one2 _ _ _ ) (by unfold maxLen; omega) (by omega) (by simp; omega) ?_)
            intro v2 w2 hown2 hgrow2 _
            have hb2 : Below w.heap.size w w2 := ((unhide HB).alloc hwsz _).grown hgrow2 (by simp; omega) (fun k hk => (hown.lt k hk).1)
            have hown2' := own_step (m := [126, 48]) hown2 (by simp [Lib.byteCells]) rfl
            clear hown2 hgrow2 hown HB hq
            go_wp2
            go_roundw
            case rel => exact ⟨j + 1, by omega, by go_num, by rw [unhide HQ, unhide HE]; exact hown2', hb2⟩
            case measure => simp [intOf]; omega
          · have t1 : ((s[j].toNat : Int) == 126) = false := by simpa using h126
            by_cases h47 : (s[j].toNat : Int) = 47
            · have t2 : ((s[j].toNat : Int) == 47) = true := by simpa using h47
              have HE := hide (escB_47 h47)
              clear h126 h47
              go_wp2_with (at_builtin; refine wpList_append_own _ rfl (.tmp 42) (.tmp 43) 137 rfl w.heap.size 5 i0 (.int .u8 0) 1 1 Tryz.underlying137 hi hz0 hz1 hz2 rfl (by decide) _ _ _ rfl (hown.alloc _) ⟨wr.heap.size, 0, none⟩ 2 2 [.int .u8 126, .int .u8 49] rfl rfl (lit2 _ _ _ _ ) (one2 _ _ _ ) (by unfold maxLen; omega) (by omega) (by simp; omega) ?_)
              intro v2 w2 hown2 hgrow2 _
              have hb2 : Below w.heap.size w w2 := ((unhide HB).alloc hwsz _).grown hgrow2 (by simp; omega) (fun k hk => (hown.lt k hk).1)
              have hown2' := own_step (m := [126, 49]) hown2 (by simp [Lib.byteCells]) rfl
              clear hown2 hgrow2 hown HB hq
              go_wp2
              go_roundw
              case rel => exact ⟨j + 1, by omega, by go_num, by rw [unhide HQ, unhide HE]; exact hown2', hb2⟩
              case measure => simp [intOf]; omega
            · have t2 : ((s[j].toNat : Int) == 47) = false := by simpa using h47
              have HE := hide (escB_other h126 h47)
              clear h126 h47
              go_wp2_with (at_builtin; refine wpList_append_own _ rfl (.tmp 45) (.tmp 52) 137 rfl w.heap.size 5 i0 (.int .u8 0) 1 1 Tryz.underlying137 hi hz0 hz1 hz2 rfl (by decide) _ _ _ rfl (hown.alloc _) ⟨wr.heap.size, 0, none⟩ 1 1 [.int .u8 s[j].toNat] rfl rfl (lit1 _ _ _ ) (one1 _ _ ) (by unfold maxLen; omega) (by omega) (by simp; omega) ?_)
              intro v2 w2 hown2 hgrow2 _
              have hb2 : Below w.heap.size w w2 := ((unhide HB).alloc hwsz _).grown hgrow2 (by simp; omega) (fun k hk => (hown.lt k hk).1)
              have hown2' := own_step (m := [s[j]]) hown2 (by simp [Lib.byteCells]) rfl
              clear hown2 hgrow2 hown HB hq
              go_wp2
              go_roundw
              case rel => exact ⟨j + 1, by omega, by go_num, by rw [unhide HQ, unhide HE]; exact hown2', hb2⟩
              case measure => simp [intOf]; omega
        · have hje : j = s.size := by omega
          subst hje
          rw [bytes_all] at hown
          clear hown1' hb1
          go_wp2
          go_roundw
          case rel => exact ⟨k + 1, by omega, by go_num, by rw [unhide HP]; exact hown, hb⟩
          case measure => simp [intOf]; omega
    · have e : ss.take k = ss := List.take_of_length_le (by omega)
      rw [e] at hown
      clear hadr
      have hl := Lib.byteCells_length (ptrText ss)
      rcases hown.2 with ⟨hv, h0⟩ | ⟨g, cap, cur, hv, _⟩
      · have e0 : ptrText ss = [] := List.eq_nil_of_length_eq_zero (by omega)
        subst hv
        have hcv := run_convert_bytes_nil (P := Tryz.prog) wr 137 5 Tryz.underlying137 Tryz.underlying5 0 0 9 Tryz.underlying9
        have HE0 := hide e0
        clear e0 h0 hown hl
        go_wp2
        go_ret
        exact ⟨by rw [unhide HE0]; rfl, hb⟩
      · subst hv
        rw [hl] at hown ⊢
        have hcv := run_convert_bytes_back (P := Tryz.prog) wr 137 9 5 ⟨g, 0, none⟩ cap (ptrText ss) Tryz.underlying137 Tryz.underlying5 Tryz.underlying9 (fun j hj => by
          rw [show ((⟨g, 0, none⟩ : Addr).add j) = ⟨g, j, none⟩ from by simp [Addr.add]; omega, hown.cellAt j (by omega)]; exact byteCells_at hj)
        go_wp2
        go_ret
        exact ⟨rfl, hb⟩
end Go.Proofs.YtcjajchfjoffnaaGreatDoor

namespace Go.Proofs.YtcjajchfjoffnaaGreatDoor
open Go.RowKit

/-- Where the row lies behind an append: where it lay, or in a new block. -/
theorem append_where1 {P : Program} (w : World) {base : Nat} {t ty e : TypeId} {i : TypeInfo} {z : Value} (ht : P.underlying t = some (.slice e)) (hi : P.info? e = some i) (hz : i.zero = some z)
    {v : Value} {n : Nat} {xs : List Value} (hown : w.ownsRow base e i.size v n xs) {a : Addr} {m c : Nat} {news : List Value} (hl : news.length = m * i.size) (hnews : ∀ j u, news[j]? = some u → w.cell? (a.add j) = some u) (h1 : ∀ u ∈ news, u.oneCell' = true)
    (h0 : 0 < m) (h63 : n + m ≤ maxLen) (hbytes : (n + m) * i.bytes ≤ 140737488355328) {v' : Value} {w' : World} (hr : (Builtin.append_ #[t, t] ty #[v, .slice (some a) m c]).run P w = .ok v' w') :
    v'.ownBlock = v.ownBlock ∨ v'.ownBlock = some w.heap.size := by
  unfold maxLen at h63
  rcases hown.2 with ⟨hv, hn⟩ | ⟨g, cap, cur, hv, _, hg, _, _, hcs, _⟩
  · subst hv; subst hn
    have hx := run_append_nil (P := P) w t ty e i z ht hi hz a m c news hl hnews h0 (by omega) (by simp only [Nat.zero_add] at hbytes; omega)
    rw [hx] at hr
    injection hr with hr1 _
    subst hr1
    exact .inr rfl
  · subst hv
    by_cases hroom : n + m ≤ cap
    · have hx := run_append_room (P := P) w t ty e i ht hi g n cap cur hg a m c news hl hnews h1 hroom (by rw [hl, hcs, ← Nat.add_mul]; exact Nat.mul_le_mul_right _ hroom)
      rw [hx] at hr
      injection hr with hr1 _
      subst hr1
      exact .inl rfl
    · have hx := run_append_grow (P := P) w t ty e i z ht hi hz ⟨g, 0, none⟩ n cap xs hown.1 (hown.cells (g := g) rfl) a m c news hl hnews (by omega) (by omega) (growslice_fits (by omega) hbytes)
      rw [hx] at hr
      injection hr with hr1 _
      subst hr1
      exact .inr rfl
/-- One more value at the end of a row of values of one cell that the call owns, and where the row lies then. -/
theorem wpList_append_one {e t : TypeId} (ht : Tryz.prog.underlying t = some (.slice e)) {z : Value} {bytes : Nat}
    (hinfo : (Tryz.prog.info? e).map (fun i => (i.zero, i.size, i.bytes)) = some (some z, 1, bytes)) (hzs : z.cells.size = 1) (hby : bytes ≤ 100)
    {w : World} {ops : Array Oper} {rest : List Oper} {o : Oper} {a : Act} {Q : Exit → Act → World → Prop} (hg : o.guard = none) (s x : Operand)
    (ho : o.op = .call { callee := .builtin .append, args := #[s, x], argTypes := #[t, t] }) {B : Nat} {v : Value} {xs : List Value} {n : Nat} (hs : a.eval s = v)
    (hown : w.ownsRow B e 1 v n xs) {y : Value} (hy : y.oneCell' = true) {g : Nat} (hx : a.eval x = .slice (some ⟨g, 0, none⟩) 1 1)
    (hcell : w.cell? ⟨g, 0, none⟩ = some y) (hB : B ≤ w.heap.size) (hl : n ≤ 40000000)
    (hK : ∀ v' w', w'.ownsRow B e 1 v' (n + 1) (xs ++ [y]) → w.grownBy w' v.ownBlock → (v'.ownBlock = v.ownBlock ∨ v'.ownBlock = some w.heap.size) → wpList Tryz.prog ops Q rest (a.put o.dst v') w') :
    wpList Tryz.prog ops Q (o :: rest) a w := by
  obtain ⟨i0, hi, hz0, hz1, hz2⟩ := info_parts hinfo
  have hby2 : (n + 1) * bytes ≤ (n + 1) * 100 := Nat.mul_le_mul_left _ hby
  have hc : ∀ (j : Nat) (u : Value), [y][j]? = some u → w.cell? ((⟨g, 0, none⟩ : Addr).add j) = some u := fun j u hu => by
    cases j with
    | zero => simp at hu; subst hu; simpa [Addr.add] using hcell
    | succ j => simp at hu
  have h1 : ∀ u ∈ [y], u.oneCell' = true := fun u hu => by simp at hu; subst hu; exact hy
  obtain ⟨v', w', hr, h2, h3, _⟩ := run_append_own (P := Tryz.prog) w B t o.type e i0 z 1 bytes ht hi hz0 hz1 hz2 hzs (by decide) v n xs hown ⟨g, 0, none⟩ 1 1 [y] rfl hc h1 (by unfold maxLen; omega) (by omega) hB
  have h4 := append_where1 (P := Tryz.prog) w (z := z) ht hi hz0 (by rw [hz1]; exact hown) (by rw [hz1]; rfl) hc h1 (by omega) (by unfold maxLen; omega) (by rw [hz2]; omega) hr
  exact Lib.wpList_append_run w hg s x t t ho v _ hs hx v' w' hr (hK v' w' h2 h3 h4)
end Go.Proofs.YtcjajchfjoffnaaGreatDoor

namespace Go.Proofs.YtcjajchfjoffnaaGreatDoor
open Go.RowKit

theorem own_keepB {w w' : World} {B e size n : Nat} {v : Value} {xs : List Value} (h : w.ownsRow B e size v n xs) (hk : ∀ b, v.ownBlock = some b → w'.heap[b]? = w.heap[b]?) : w'.ownsRow B e size v n xs := by
  refine ⟨h.1, ?_⟩
  rcases h.2 with h0 | ⟨g, cap, cur, hv, hB, hg, r⟩
  · exact .inl h0
  · exact .inr ⟨g, cap, cur, hv, hB, (hk g (by rw [hv]; rfl)).trans hg, r⟩
/-- One more text at the end of a row of texts that the call owns. -/
theorem wpList_append_tok {w : World} {ops : Array Oper} {rest : List Oper} {o : Oper} {a : Act} {Q : Exit → Act → World → Prop} (hg : o.guard = none) (s x : Operand)
    (ho : o.op = .call { callee := .builtin .append, args := #[s, x], argTypes := #[45, 45] }) {B : Nat} {v : Value} {ts : List (List UInt8)} (hs : a.eval s = v)
    (h : OT w B v ts) {t : List UInt8} {g : Nat} (hx : a.eval x = .slice (some ⟨g, 0, none⟩) 1 1) (hcell : w.cell? ⟨g, 0, none⟩ = some (.string (strOf t))) (hB : B ≤ w.heap.size) (hl : ts.length ≤ 1000000)
    (hK : ∀ v' w', OT w' B v' (ts ++ [t]) → w.grownBy w' v.ownBlock → (v'.ownBlock = v.ownBlock ∨ v'.ownBlock = some w.heap.size) → wpList Tryz.prog ops Q rest (a.put o.dst v') w') : wpList Tryz.prog ops Q (o :: rest) a w := by
  refine wpList_append_one Tryz.underlying45 infoString rfl (by decide) hg s x ho hs h (y := .string (strOf t)) rfl hx hcell hB (by omega) ?_
  intro v' w' h1 h2 h3
  refine hK v' w' ?_ h2 h3
  unfold OT
  rw [List.length_append, List.map_append]
  exact h1
end Go.Proofs.YtcjajchfjoffnaaGreatDoor
