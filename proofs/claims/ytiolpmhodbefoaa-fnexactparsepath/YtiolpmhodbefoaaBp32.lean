import Derived.Test.YtiolpmhodbefoaaBp31
namespace Go.Proofs.Ytiolpmhodbefoaa
open Go.RowKit

theorem dr_ext {s : ByteArray} {k : Nat} : (s.extract k s.size).data.toList = dr s k := by
  rw [Lib.extract_data]; unfold dr; exact List.take_of_length_le (by rw [List.length_drop, data_len]; exact Nat.le_refl _)
set_option maxRecDepth 100000 in
set_option maxHeartbeats 8000000 in
/-- A prim with a sign of negation in front. -/
theorem prim_not {n m : Nat} (IH : PrimOk m (sPr n)) (s : ByteArray) (v : Value) (ops : List PFOp) (bl : List Nat) (B : Nat) (w : World) (hm : s.size < m + 1) (hs : s.size ≤ 1048576) (h : ORow fopE w v ops bl) (hF : Fsh B bl) (hB : B ≤ w.heap.size) (hN : ops.length + 3 * s.size + 3 ≤ 10000000)
    (h0 : 0 < s.size) (h33 : s[0] = 33) : Calls Try.prog 74 #[.string s, v] w (CRet w B ops bl (ops.length + 3 * s.size + 3) (sPr (n + 1) s.data.toList)) := by
  have HC := hide (IH (s.extract 1 s.size) v ops bl B w (by simp; omega) (by simp; omega) h hF hB (by simp; omega))
  have hsz : (s.extract 1 s.size).size = s.size - 1 := by simp
  rw [dr_ext, hsz] at HC
  have HR : Hid (sPr (n + 1) s.data.toList = (sPr n (dr s 1)).map (fun p => (p.1 ++ [opK 12], p.2 + 1))) := by
    show _ = _
    have e := dr_at h0
    rw [dr_zero] at e
    rw [e, sPr_con, if_pos h33]
  have HL := hide (sPr_len n (dr s 1))
  have HH := hide h
  have HF := hide hF
  have b33 : (((s[0].toNat : Nat) : Int) == 33) = true := eq_t h33
  have h0I : (0 : Int) < (s.size : Int) := by omega
  have h1I : (1 : Int) ≤ (s.size : Int) := by omega
  obtain ⟨va, vc, rfl, -, -⟩ := h.form
  clear h hF h33 hsz IH
  go_enter Try.func74, Try.ntmps74
  go_wp2_with fail
  refine (unhide HC).mono ?_
  rintro e w1 ⟨b1, s1, v1, ok, d, rfl, hno, hyes⟩
  have hz1 := b1.size
  clear HC
  cases hp : sPr n (dr s 1) with
  | none =>
    obtain ⟨rfl, hany⟩ := hno hp
    have HR2 : Hid (sPr (n + 1) s.data.toList = none) := by show _ = _; rw [unhide HR, hp]; rfl
    obtain ⟨ya, yl, yc, rfl⟩ := hany.form
    have hal := al_b w1 (.cells #[.int .i64 12, .int .i64 0, .string ⟨#[]⟩, .bool false, .slice none 0 0] 65)
    have HAN := hide (hany.shp (Shp.of_below hal))
    have HB1 := hide (b1.trans (hal.mono (by omega)))
    have HS1 := hide (s1.trans (Shp.of_below hal))
    have hd1 : 0 ≤ s.size - 1 := Nat.zero_le _
    clear hno hyes hp hany b1 s1 hal HL HR
    go_wp2_with (at_builtin; refine wpl_any ekFOp rfl (.tmp 38) (.tmp 40) rfl (N := ops.length + 3 * (s.size - 1) + 3) rfl (unhide HAN) (vs := [.int .i64 12, .int .i64 0, .string ⟨#[]⟩, .bool false, .slice none 0 0]) rfl rfl (by exact lit_cells w1 [_, _, _, _, _] _) (fop_one _ _ _ _ _ _ _) (by simp; omega) (by omega) ?_)
    intro v2 w2 a2 g2 s2
    have HB2 := hide ((unhide HB1).grown g2 (by simp; omega) (unhide HAN).own)
    have HS2 := hide ((unhide HS1).trans s2)
    have HA2 := hide a2
    obtain ⟨za, zl, zc, rfl⟩ := a2.form
    clear a2 g2 s2 HAN HB1 HS1
    go_wp2
    go_ret3
    exact ⟨unhide HB2, unhide HS2, _, _, _, rfl, fun _ => ⟨rfl, (unhide HA2).mono (by omega)⟩, fun x hx => by rw [unhide HR2] at hx; cases hx⟩
  | some x =>
    obtain ⟨rfl, rfl, fr1, bl1, row1, fsh1, new1⟩ := hyes x hp
    have hxl := unhide HL x hp
    rw [dr_len] at hxl
    have HR2 : Hid (sPr (n + 1) s.data.toList = some (x.1 ++ [opK 12], x.2 + 1)) := by show _ = _; rw [unhide HR, hp]; rfl
    have hlx : (ops ++ x.1).length + 1 ≤ 40000000 := by rw [List.length_append]; omega
    obtain ⟨L, hL⟩ : ∃ L, ops ++ x.1 = L := ⟨_, rfl⟩
    rw [hL] at row1 hlx
    have HL2 := hide hL
    obtain ⟨ya, yc, rfl, -, -⟩ := row1.form
    have hal := al_b w1 (.cells #[.int .i64 12, .int .i64 0, .string ⟨#[]⟩, .bool false, .slice none 0 0] 65)
    have ROW := hide (row1.below hal)
    have FS := hide fsh1
    have NW := hide new1
    have HFR := hide (fr1.next hal)
    have HS1 := hide (s1.trans (Shp.of_below hal))
    have hxb : x.2 ≤ 1048576 := by omega
    clear hno hyes hp b1 s1 hal HL HR row1 fsh1 new1 fr1 hL
    go_wp2_with (at_builtin; refine wpl_app1 ekFOp rfl (.tmp 38) (.tmp 40) rfl rfl (unhide ROW) (unhide FS) (vs := [.int .i64 12, .int .i64 0, .string ⟨#[]⟩, .bool false, .slice none 0 0]) (y := opK 12) (fopE_lit _ _ _ _) (Fsh.nil _) (by simp) rfl (by exact lit_cells w1 [_, _, _, _, _] _) (fop_one _ _ _ _ _ _ _) (by simp; omega) hlx ?_)
    intro v2 w2 bl2 hA
    have HA := hide hA
    obtain ⟨za, zc, rfl, -, -⟩ := hA.row.form
    clear hA
    go_wp2
    go_ret3
    have hA := unhide HA
    have hfr : Fr bl w w2 := (unhide HFR).trans' (hA.fr (unhide ROW)) fun b hb => unhide NW b hb
    refine ⟨hfr.below (unhide HF).2 hB, (unhide HS1).trans hA.shp, _, _, _, rfl, fun hx => (by rw [unhide HR2] at hx; cases hx), fun y hy => ?_⟩
    rw [unhide HR2] at hy
    injection hy with hy
    subst hy
    refine ⟨rfl, by go_num, hfr, bl2, ?_, hA.fsh, fun b hb => ?_⟩
    · show ORow fopE w2 _ (ops ++ (x.1 ++ [opK 12])) bl2
      rw [← List.append_assoc, unhide HL2]
      exact hA.row
    · rcases hA.sub b hb with h1 | h1 | h1
      · exact unhide NW b h1
      · simp at h1
      · right; rw [h1]; simp; omega
end Go.Proofs.Ytiolpmhodbefoaa

