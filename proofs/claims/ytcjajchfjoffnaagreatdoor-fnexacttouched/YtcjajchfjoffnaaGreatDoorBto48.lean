import Derived.BigQuiet
import Derived.Test.YtcjajchfjoffnaaGreatDoorBto44
import Derived.Test.YtcjajchfjoffnaaGreatDoorBto21
import Derived.Test.YtcjajchfjoffnaaGreatDoorBto46
import Derived.Test.YtcjajchfjoffnaaGreatDoorBto45
import Derived.Test.YtcjajchfjoffnaaGreatDoorBto2
import Derived.Test.YtcjajchfjoffnaaGreatDoorBto8
import Derived.Test.YtcjajchfjoffnaaGreatDoorBto31
import Derived.Test.YtcjajchfjoffnaaGreatDoorBto47
namespace Go.Proofs.YtcjajchfjoffnaaGreatDoor
open Go.RowKit

def digsB : ByteArray := ⟨#[48, 49, 50, 51, 52, 53, 54, 55, 56, 57]⟩
theorem digs_has (c : UInt8) : (digsB.data.toList.contains c) = isDg c.toNat := by
  rw [Bool.eq_iff_iff, isDg_iff]
  show ([48, 49, 50, 51, 52, 53, 54, 55, 56, 57] : List UInt8).contains c = true ↔ _
  rw [List.contains_iff_mem]
  constructor
  · intro h
    simp only [List.mem_cons, List.not_mem_nil, or_false] at h
    rcases h with rfl | rfl | rfl | rfl | rfl | rfl | rfl | rfl | rfl | rfl <;> decide
  · rintro ⟨h1, h2⟩
    have e : c = UInt8.ofNat c.toNat := by rw [UInt8.ofNat_toNat]
    have : c.toNat = 48 ∨ c.toNat = 49 ∨ c.toNat = 50 ∨ c.toNat = 51 ∨ c.toNat = 52 ∨ c.toNat = 53 ∨ c.toNat = 54 ∨ c.toNat = 55 ∨ c.toNat = 56 ∨ c.toNat = 57 := by omega
    rcases this with h | h | h | h | h | h | h | h | h | h <;> (rw [h] at e; subst e; decide)
theorem trim_digs (t : List UInt8) : Lib.trimLeftS t digsB.data.toList = t.dropWhile fun c => isDg c.toNat := by
  unfold Lib.trimLeftS
  congr 1
  funext c
  exact digs_has c
theorem drop_nil : ∀ (t : List UInt8), (t.dropWhile fun c => isDg c.toNat) = [] ↔ t.all (fun c => isDg c.toNat) = true
  | [] => by simp
  | c :: r => by
    rw [List.dropWhile_cons, List.all_cons]
    cases h : isDg c.toNat with
    | true => simpa using drop_nil r
    | false => simp
theorem trimD_walk (s : ByteArray) (w : World) :
    Calls Tryz.prog 164 #[.string s, .string digsB] w fun e w' => e = .returned (.string (strOf (s.data.toList.dropWhile fun c => isDg c.toNat))) ∧ Below w.heap.size w w' := by
  have := Any.strings_TrimLeft_laid Tryz.laysTrim (by kernel_rfl) s digsB w (by decide) (ascii_of_all (by decide))
  rw [trim_digs] at this
  exact this
/-- PtrText of the program, of a row of tokens. -/
theorem textI_walk {B : Nat} (v : Value) (ts : List (List UInt8)) (w : World) (h : OT w B v ts) (hm : ts.length + totT ts ≤ 1048576) :
    Calls Tryz.prog 92 #[v] w fun e w' => e = .returned (.string (strOf (ptrT ts))) ∧ Below w.heap.size w w' := by
  obtain ⟨a, g, cap, rfl, hs, _⟩ := h.shape
  have e : ts.length = (ts.map baT).length := by simp
  have := implText_walk a g 0 cap (ts.map baT) w hs (by rw [baT_tot, ← e]; exact hm)
  rw [← e, baT_text] at this
  exact this
theorem textIL_walk (xa : Option Addr) (xb xc : Nat) (r : List (List UInt8)) (t : List UInt8) (w : World) (h : SS w xa xb 0 ((r ++ [t]).map baT)) (hm : r.length + 1 + totT (r ++ [t]) ≤ 1048576) :
    Calls Tryz.prog 92 #[.slice xa r.length xc] w fun e w' => e = .returned (.string (strOf (ptrT r))) ∧ Below w.heap.size w w' := by
  rw [totT_snoc] at hm
  have h1 := ss_take (n := r.length) h
  rw [← List.map_take, List.take_left] at h1
  have := implText_walk xa xb 0 xc (r.map baT) w h1 (by rw [baT_tot, List.length_map]; omega)
  rw [List.length_map, baT_text] at this
  exact this
set_option maxRecDepth 100000 in
set_option maxHeartbeats 1000000 in
theorem mayBeIndex_walk (s : ByteArray) (w : World) :
    Calls Tryz.prog 136 #[.string s] w fun e w' => e = .returned (.bool (mayIdx s.data.toList)) ∧ Below w.heap.size w w' := by
  have h45 : (s.toList == [45]) = (s.data.toList == [45]) := by rw [ByteArray.toList_eq]
  have hem : s.toList.isEmpty = (s.data.toList == []) := by rw [ByteArray.toList_eq]; cases s.data.toList <;> rfl
  have HT := hide (trimD_walk s w)
  have htr : (strOf (s.data.toList.dropWhile fun c => isDg c.toNat)).toList.isEmpty = s.data.toList.all fun c => isDg c.toNat := by
    rw [ByteArray.toList_eq, Bool.eq_iff_iff, List.isEmpty_iff]
    exact drop_nil s.data.toList
  have hmx : mayIdx s.data.toList = ((!(s.data.toList == []) && s.data.toList.all fun c => isDg c.toNat) || s.data.toList == [45]) := rfl
  rw [hmx]
  clear hmx
  generalize strOf (s.data.toList.dropWhile fun c => isDg c.toNat) = tr at *
  generalize (s.data.toList.all fun c => isDg c.toNat) = al at *
  generalize (s.data.toList == []) = em at *
  generalize (s.data.toList == [45]) = hy at *
  cases hy with
  | true =>
    clear HT htr
    go_enter Tryz.func136, Tryz.ntmps136
    go_wp2
    go_ret
    exact ⟨by simp, Below.refl _ _⟩
  | false =>
    cases em with
    | true =>
      clear HT htr
      go_enter Tryz.func136, Tryz.ntmps136
      go_wp2
      go_ret
      exact ⟨by simp, Below.refl _ _⟩
    | false =>
      go_enter Tryz.func136, Tryz.ntmps136
      go_wp2_with fail
      refine (unhide HT).mono ?_
      rintro e w2 ⟨rfl, b2⟩
      have HB := hide b2
      clear b2 HT
      go_wp2
      go_ret
      exact ⟨by simp, unhide HB⟩
set_option maxRecDepth 100000 in
set_option maxHeartbeats 2000000 in
theorem touchedAt_walk {B : Nat} (b : Bool) (v : Value) (ts : List (List UInt8)) (w : World) (h : OT w B v ts) (hm : ts.length + totT ts ≤ 1048576) :
    Calls Tryz.prog 101 #[v, .bool b] w fun e w' => e = .returned (.string (strOf (ptrT (if b then shortL ts else ts)))) ∧ Below w.heap.size w w' := by
  have HTX : Hid (∀ wx, Below w.heap.size w wx → Calls Tryz.prog 92 #[v] wx fun e w' => e = .returned (.string (strOf (ptrT ts))) ∧ Below wx.heap.size wx w') := fun wx hx => textI_walk v ts wx (own_below h hx) hm
  cases b with
  | false =>
    obtain ⟨a, g, cap, rfl, -, -⟩ := h.shape
    have hl : ts.length ≤ 1048576 := by omega
    rw [if_neg (by simp)]
    have HC := hide (unhide HTX w (Below.refl _ _))
    clear h hm HTX
    go_enter Tryz.func101, Tryz.ntmps101
    go_wp2_with fail
    refine (unhide HC).mono ?_
    rintro e w2 ⟨rfl, b2⟩
    have HB := hide b2
    clear b2 HC
    go_wp2
    go_ret
    exact ⟨rfl, unhide HB⟩
  | true =>
    rw [if_pos rfl]
    obtain ⟨a, g, cap, rfl, hs, -⟩ := h.shape
    rcases List.eq_nil_or_concat ts with rfl | ⟨r, t, rfl⟩
    · have HC := hide (unhide HTX w (Below.refl _ _))
      clear h hs hm HTX
      go_enter Tryz.func101, Tryz.ntmps101
      go_wp2_with fail
      refine (unhide HC).mono ?_
      rintro e w2 ⟨rfl, b2⟩
      have HB := hide b2
      clear b2 HC
      go_wp2
      go_ret
      exact ⟨rfl, unhide HB⟩
    · rw [List.concat_eq_append] at *
      obtain ⟨s, rfl⟩ : ∃ s : ByteArray, t = s.data.toList := ⟨strOf t, by simp [strOf]⟩
      rw [List.length_append, List.length_singleton] at hm
      have HT : Hid (∀ wx, Below w.heap.size w wx → _) := fun wx hx => textIL_walk a g cap r s.data.toList wx (hs.below hx) hm
      obtain rfl := hs.ad (by simp)
      have c0 := hs.cell r.length (by simp)
      rw [show ((r ++ [s.data.toList]).map baT).getD r.length ByteArray.empty = s by simp [List.getD_eq_getElem?_getD, baT], Nat.zero_add] at c0
      have hl : (r ++ [s.data.toList]).length = r.length + 1 := by simp
      have hcp : r.length ≤ cap := by
        rcases h.2 with ⟨hv, h0⟩ | ⟨g', cap', cur, hv, _, _, h1, _⟩
        · simp at h0
        · injection hv with _ _ hv; rw [hv]; rw [hl] at h1; omega
      have hcpI : (r.length : Int) ≤ (cap : Int) := by omega
      rw [hl] at HTX ⊢
      have hrl : r.length ≤ 1048576 := by omega
      have HSY : Hid (mayIdx s.data.toList = true → shortL (r ++ [s.data.toList]) = r) := shortL_yes
      have HSN : Hid (mayIdx s.data.toList = false → shortL (r ++ [s.data.toList]) = r ++ [s.data.toList]) := shortL_no
      have HM := hide (mayBeIndex_walk s w)
      clear h hs hm hl
      generalize hR : r.length = n at *
      clear hR
      generalize shortL (r ++ [s.data.toList]) = sh at *
      generalize mayIdx s.data.toList = mi at *
      cases mi with
      | true =>
        obtain rfl := unhide HSY rfl
        clear HSY HSN HTX
        go_enter Tryz.func101, Tryz.ntmps101
        go_wp2_with fail
        refine (unhide HM).mono ?_
        rintro e w2 ⟨rfl, b2⟩
        have HC := hide (unhide HT w2 b2)
        have HB2 := hide b2
        clear HM HT b2 c0
        go_wp2_with fail
        refine (unhide HC).mono ?_
        rintro e w3 ⟨rfl, b3⟩
        have HB := hide (below_next (unhide HB2) b3)
        clear b3 HC HB2
        go_wp2
        go_ret
        exact ⟨rfl, unhide HB⟩
      | false =>
        obtain rfl := unhide HSN rfl
        clear HSY HSN HT
        go_enter Tryz.func101, Tryz.ntmps101
        go_wp2_with fail
        refine (unhide HM).mono ?_
        rintro e w2 ⟨rfl, b2⟩
        have HC := hide (unhide HTX w2 b2)
        have HB2 := hide b2
        clear HM HTX b2 c0
        go_wp2_with fail
        refine (unhide HC).mono ?_
        rintro e w3 ⟨rfl, b3⟩
        have HB := hide (below_next (unhide HB2) b3)
        clear b3 HC HB2
        go_wp2
        go_ret
        exact ⟨rfl, unhide HB⟩
end Go.Proofs.YtcjajchfjoffnaaGreatDoor

namespace Go.Proofs.YtcjajchfjoffnaaGreatDoor
open Go.RowKit

theorem lit1T (w : World) (x : List UInt8) : OT (w.alloc (.cells #[.string (strOf x)] 9)) w.heap.size (.slice (some ⟨w.heap.size, 0, none⟩) 1 1) [x] :=
  World.ownsRow_lit w #[.string (strOf x)] 1 (Nat.le_refl _) (by unfold maxLen; omega) rfl
set_option maxRecDepth 100000 in
set_option maxHeartbeats 4000000 in
theorem touched_walk (m : POp) (B g : Nat) (pv fv vv : Value) (v : JV) (w : World) (h : OpAt w B m g pv fv vv v) (hok : opOk m = true) (h1 : m.path.size ≤ 1048576) (h2 : m.src.size ≤ 1048576) :
    Calls Tryz.prog 61 #[.pointer (some ⟨g, 0, none⟩)] w fun e w' => ∃ r, e = .returned r ∧ OT w' w.heap.size r (touchP m) ∧ Below w.heap.size w w' := by
  obtain ⟨i0, hi, hz0, hz1, hz2⟩ := info_parts infoString
  obtain ⟨-, -, qp, qs, -, -, -⟩ := opOk_parts hok
  have lp := tkOf_le qp
  have ls := tkOf_le qs
  have kb := h.blk
  have hgl : g < w.heap.size := (Array.getElem?_eq_some_iff.1 kb).1
  have HKB : Hid (∀ wx, Below w.heap.size w wx → wx.heap[g]? = some (opB m.kind pv fv vv)) := fun wx hx => (hx.block g hgl).trans kb
  have HP : Hid (∀ wx, Below w.heap.size w wx → Calls Tryz.prog 101 #[pv, .bool (shP m.kind)] wx fun e w' => e = .returned (.string (strOf (ptrT (tpPath m)))) ∧ Below wx.heap.size wx w') := fun wx hx => touchedAt_walk _ pv _ wx (own_below h.path hx) (by omega)
  have HF : Hid (∀ wx, Below w.heap.size w wx → Calls Tryz.prog 101 #[fv, .bool (shF m.kind)] wx fun e w' => e = .returned (.string (strOf (ptrT (tpSrc m)))) ∧ Below wx.heap.size wx w') := fun wx hx => touchedAt_walk _ fv _ wx (own_below h.src hx) (by omega)
  have HTP : Hid (touchP m = ptrT (tpPath m) :: (if hasF m.kind then [ptrT (tpSrc m)] else [])) := rfl
  have hdr : Below w.heap.size w w.drew := (Below.refl _ _).drew
  have kd := unhide HKB w.drew hdr
  unfold opB at kd HKB
  clear h hok qp qs lp ls kb h1 h2
  generalize ptrT (tpPath m) = x1 at *
  generalize ptrT (tpSrc m) = x2 at *
  generalize shP m.kind = sp at *
  generalize shF m.kind = sf at *
  generalize touchP m = tp at *
  have d7 : w.drew.cell? ⟨g, 7, none⟩ = some pv := Lib.cell_of_heap kd 7
  have d5 : w.drew.cell? ⟨g, 5, none⟩ = some (.bool sp) := Lib.cell_of_heap kd 5
  have HP1 := hide (unhide HP w.drew hdr)
  clear kd HP
  go_enter Tryz.func61, Tryz.ntmps61
  go_wp2_with fail
  go_region_law (go_simp; refine (unhide HP1).mono ?_; rintro e w2 ⟨rfl, b2⟩)
  all_goals (
    have b02 := below_next hdr b2
    have hA := alloc_b w2 (.cells #[.string (strOf x1)] 9)
    have bA := below_next b02 hA
    have kA := unhide HKB _ bA
    have hs2 := b02.size
    have zA : (w2.alloc (.cells #[.string (strOf x1)] 9)).heap.size = w2.heap.size + 1 := by simp
    have HOA := hide (own_mono (lit1T w2 x1) hs2)
    have HBA := hide bA
    have cA2 : (w2.alloc (.cells #[.string (strOf x1)] 9)).cell? ⟨g, 2, none⟩ = some (.bool (hasF m.kind)) := Lib.cell_of_heap kA 2
    have HZA : Hid (w.heap.size < (w2.alloc (.cells #[.string (strOf x1)] 9)).heap.size) := by show _ < _; omega
    have HZ2 : Hid (w.heap.size ≤ w2.heap.size) := hs2
    clear b02 hA bA hs2 zA b2 d7 d5 HP1 kA hdr
    cases hf : hasF m.kind with
    | false =>
      rw [hf] at HTP cA2
      have HT : Hid (tp = [x1]) := unhide HTP
      clear hf HTP
      go_wp2
      go_ret
      exact ⟨_, rfl, by rw [unhide HT]; exact unhide HOA, unhide HBA⟩
    | true =>
      rw [hf] at HTP cA2
      have HT : Hid (tp = [x1] ++ [x2]) := unhide HTP
      generalize hwA : w2.alloc (.cells #[.string (strOf x1)] 9) = wA at *
      clear hf HTP hwA
      have hdA : Below wA.heap.size wA wA.drew := (Below.refl _ _).drew
      have kd := unhide HKB wA.drew (below_next (unhide HBA) hdA)
      have e8 : wA.drew.cell? ⟨g, 8, none⟩ = some fv := Lib.cell_of_heap kd 8
      have e4 : wA.drew.cell? ⟨g, 4, none⟩ = some (.bool sf) := Lib.cell_of_heap kd 4
      have HF1 := hide (unhide HF wA.drew (below_next (unhide HBA) hdA))
      clear kd HF
      go_wp2_with fail
      go_region_law (first
        | (go_simp; refine (unhide HF1).mono ?_; rintro e w4 ⟨rfl, b4⟩
           have b4' := below_next hdA b4
           have hC := alloc_b w4 (.cells #[.string (strOf x2)] 9)
           have HOC := hide (own_below (own_below (unhide HOA) b4') hC)
           have HCC : Hid (∀ j u, [Value.string (strOf x2)][j]? = some u → (w4.alloc (.cells #[.string (strOf x2)] 9)).cell? ((⟨w4.heap.size, 0, none⟩ : Addr).add j) = some u) := lit1 _ _ _
           have HBC := hide (below_next (unhide HBA) (below_next b4' hC))
           clear hC)
        | (refine step_append_own rfl (.tmp 20) (.tmp 31) 45 rfl w.heap.size 9 i0 (.string ByteArray.empty) 1 16 Tryz.underlying45 hi hz0 hz1 hz2 rfl (by decide) _ _ _ rfl (by exact unhide HOC) ⟨w4.heap.size, 0, none⟩ 1 1 [.string (strOf x2)] rfl rfl (by exact unhide HCC) (one_tok _) (by rw [List.length_singleton]; unfold maxLen; decide) (by rw [List.length_singleton]; decide) (by exact (unhide HBC).size) ?_
           intro v5 w5 own5 hg5))
      all_goals (
        have HB5 := hide ((unhide HBC).grown hg5 (unhide HBC).size (fun b hb => ((unhide HOA).lt b hb).1))
        have HO5 : Hid (OT w5 w.heap.size v5 ([x1] ++ [x2])) := own5
        clear own5 hg5 HOC HCC HBC b4 b4' hdA e8 e4 HF1 cA2
        go_wp2
        go_ret
        exact ⟨v5, rfl, by rw [unhide HT]; exact unhide HO5, unhide HB5⟩))
set_option maxRecDepth 100000 in
set_option maxHeartbeats 4000000 in
theorem implTouched_walk (v : Value) (ms : List POp) (bl : List Nat) (w : World) (h : ORow opE w v ms bl) (hs : szOps ms ≤ 1048576) (hw : RdW w) :
    Calls Tryz.prog 24 #[v] w fun e w' => ∃ r, e = .returned r ∧ OT w' w.heap.size r (touchT ms) ∧ Below w.heap.size w w' := by
  have hin := opsIn hs
  obtain ⟨xa, xc, rfl, -, hxa⟩ := h.form
  have hln : ms.length ≤ 1048576 := by unfold szOps at hs; omega
  have H := hide h
  have HXA := hide hxa
  have HIN := hide hin
  have HW := hide hw
  clear h hxa hs hin hw
  have HN0 : Hid (OT w w.heap.size (.slice none 0 0) []) := ⟨rfl, .inl ⟨rfl, rfl⟩⟩
  by_cases h100 : 100 < ms.length
  · have t100 : (100 : Int) < (ms.length : Int) := by omega
    have HZ : Hid (touchT ms = []) := by show _ = _; unfold touchT; rw [if_pos h100]
    go_enter Tryz.func24, Tryz.ntmps24
    go_wp2
    go_ret
    exact ⟨_, rfl, by rw [unhide HZ]; exact unhide HN0, Below.refl _ _⟩
  · have t100 : ¬ (100 : Int) < (ms.length : Int) := by omega
    have HZ : Hid (touchT ms = onceL (touchAll ms)) := by show _ = _; unfold touchT; rw [if_neg h100]
    go_enter Tryz.func24, Tryz.ntmps24
    go_wp2
    go_loopw [3, 13] (fun lv i wr => ∃ k : Nat, k ≤ ms.length ∧ i = .int .i64 k ∧ OT wr w.heap.size lv (touchAll (ms.take k)) ∧ Below w.heap.size w wr) (fun _ i _ => ms.length - (intOf i).toNat)
    case atStart => exact ⟨0, Nat.zero_le _, rfl, unhide HN0, Below.refl _ _⟩
    case round =>
      obtain ⟨k, hk, rfl, ho, hb⟩ := hrel
      have hal : (touchAll (ms.take k)).length ≤ 1000 := by
        have := touchAll_len (ms.take k)
        rw [List.length_take] at this
        omega
      have HAL := hide ho
      have HBR := hide hb
      have hbz := hb.size
      by_cases hlt : k < ms.length
      · have HST : Hid (touchAll (ms.take (k + 1)) = touchAll (ms.take k) ++ touchO ms[k]) := touchAll_snoc hlt
        obtain ⟨g, rfl⟩ := unhide HXA (by omega)
        obtain ⟨cs, ib, hE, hc, -⟩ := ((unhide H).below hb).at (List.getElem?_eq_getElem hlt)
        obtain ⟨rfl, -⟩ := hE
        obtain ⟨i1, i2, i3⟩ := unhide HIN ms[k] (List.getElem_mem hlt)
        have c0 : wr.cell? ⟨g, k * 4, none⟩ = some (.int .i64 ms[k].kind) := (hc 0 _ rfl).1
        have c1 : wr.cell? ⟨g, k * 4 + 1, none⟩ = some (.string ms[k].path) := (hc 1 _ rfl).1
        have c2 : wr.cell? ⟨g, k * 4 + 2, none⟩ = some (.string ms[k].src) := (hc 2 _ rfl).1
        have c3 : wr.cell? ⟨g, k * 4 + 3, none⟩ = some (.string ms[k].val) := (hc 3 _ rfl).1
        clear hc ho hb
        generalize ms[k] = m at *
        generalize touchAll (ms.take k) = A at *
        have hA := alloc_b wr (.cells #[.int .i64 m.kind, .string m.path, .string m.src, .string m.val] 76)
        have hwA := (unhide HW).up (below_next (unhide HBR) hA)
        have HA := hide hA
        cases hok : opOk m with
        | false =>
          have HM := hide (readOp_bad m _ hok hwA i1 i2 i3)
          have HT : Hid (touchO m = []) := by show _ = _; unfold touchO; rw [hok]; rfl
          clear hok hwA hA i1 i2 i3
          go_wp2_with fail
          generalize (wr.alloc (.cells #[.int .i64 m.kind, .string m.path, .string m.src, .string m.val] 76)) = wA at *
          refine (unhide HM).mono ?_
          rintro e w2 ⟨rfl, b2⟩
          have HB2 := hide (below_next (unhide HA) b2)
          have HBN := hide (below_next (unhide HBR) (unhide HB2))
          have HON := hide (own_below (unhide HAL) (unhide HB2))
          clear HM b2 c0 c1 c2 c3
          go_wp2
          go_roundw
          case rel => exact ⟨k + 1, by omega, by go_num, by rw [unhide HST, unhide HT, List.append_nil]; exact unhide HON, unhide HBN⟩
          case measure => simp [intOf]; omega
        | true =>
          have HM := hide (readOp_good m _ hok hwA i1 i2 i3)
          have HT : Hid (touchO m = touchP m) := by show _ = _; unfold touchO; rw [hok]; rfl
          have HTL : Hid ((touchP m).length ≤ 2) := by show _ ≤ _; rw [← unhide HT]; exact touchO_len m
          have HTW : Hid (∀ (B gq : Nat) (pv fv vv : Value) (jv : JV) (wx : World), OpAt wx B m gq pv fv vv jv → Calls Tryz.prog 61 #[.pointer (some ⟨gq, 0, none⟩)] wx fun e w' => ∃ r, e = .returned r ∧ OT w' wx.heap.size r (touchP m) ∧ Below wx.heap.size wx w') := fun B gq pv fv vv jv wx hx => touched_walk m B gq pv fv vv jv wx hx hok i1 i2
          clear hok hwA hA i1 i2 i3
          go_wp2_with fail
          generalize (wr.alloc (.cells #[.int .i64 m.kind, .string m.path, .string m.src, .string m.val] 76)) = wA at *
          refine (unhide HM).mono ?_
          rintro e w2 ⟨gq, pv, fv, vv, jv, rfl, hat, b2⟩
          have HC := hide (unhide HTW _ gq pv fv vv jv w2 hat)
          have HB2 := hide (below_next (unhide HA) b2)
          clear HM hat b2 c0 c1 c2 c3 HTW
          generalize touchP m = tp at *
          go_wp2_with fail
          refine (unhide HC).mono ?_
          rintro e w3 ⟨rv, rfl, o3, b3⟩
          have b03 := below_next (unhide HB2) b3
          have HO3 := hide o3
          have HB3 := hide (below_next (unhide HBR) b03)
          have HA3 := hide (own_below (unhide HAL) b03)
          have hz3 := (unhide HB3).size
          have htl := unhide HTL
          clear HC o3 b3 b03 HB2
          go_wp2_with (at_builtin; refine wpList_append_rows rfl (.tmp 23) (.tmp 25) rfl rfl rfl (unhide HA3) (unhide HO3) hz3 (by omega) ?_)
          intro l4 w4 o4 g4
          have HB4 := hide ((unhide HB3).grown g4 hz3 (fun b hb => ((unhide HA3).lt b hb).1))
          have HO4 := hide o4
          clear o4 g4 HA3 HO3 HB3 hz3 htl
          go_wp2
          go_roundw
          case rel => exact ⟨k + 1, by omega, by go_num, by rw [unhide HST, unhide HT]; exact unhide HO4, unhide HB4⟩
          case measure => simp [intOf]; omega
      · have hkn : k = ms.length := by omega
        subst hkn
        rw [List.take_length] at HAL hal
        have HC := hide (sortT_walk _ _ wr (unhide HAL) (by omega))
        have HEQ : Hid (touchT ms = Lib.compact (sortT (touchAll ms))) := by show _ = _; rw [unhide HZ]; exact (sort_once _).symm
        clear ho hb
        go_wp2_with fail
        refine (unhide HC).mono ?_
        rintro e w2 ⟨rfl, o2, g2⟩
        have HB2 := hide ((unhide HBR).grown g2 hbz (fun b hb => ((unhide HAL).lt b hb).1))
        have HC2 := hide (compactT_walk _ _ w2 o2 (by rw [sortT_len]; omega))
        have HO2 := hide o2
        have hz2 := (unhide HB2).size
        clear HC o2 g2
        go_wp2_with fail
        refine (unhide HC2).mono ?_
        rintro e w3 ⟨r3, rfl, o3, g3⟩
        have HB3 := hide ((unhide HB2).grown g3 hz2 (fun b hb => ((unhide HO2).lt b hb).1))
        have HO3 := hide o3
        clear HC2 o3 g3 HO2
        go_wp2
        go_ret
        exact ⟨r3, rfl, by rw [unhide HEQ]; exact unhide HO3, unhide HB3⟩
end Go.Proofs.YtcjajchfjoffnaaGreatDoor

namespace Go.Proofs.YtcjajchfjoffnaaGreatDoor
open Go.RowKit

theorem touchT_len (ms : List POp) : (touchT ms).length ≤ 200 := by
  unfold touchT
  by_cases h : 100 < ms.length
  · rw [if_pos h]; exact Nat.zero_le _
  · rw [if_neg h]
    have h1 := touchAll_len ms
    have h2 := onceL_len _ (touchAll ms) rfl
    omega
set_option maxRecDepth 100000 in
set_option maxHeartbeats 4000000 in
theorem touchLaw_in (v : Value) (ms : List POp) (w : World) (hr : RRow opR w v ms) (hw : RdW w) :
    Calls Tryz.prog 6 #[v] w fun e w' => e = .returned (.bool true) ∧ Below w.heap.size w w' := by
  have HR := hide hr
  have HS := hide (szOps_walk v ms 1048576 w hr (Nat.le_refl _))
  clear hr
  by_cases hsz : szOps ms ≤ 1048576
  · rw [szI_ok hsz] at HS
    have HT : Hid (∀ wx, Below w.heap.size w wx → Calls Tryz.prog 20 #[v] wx fun e w' => ∃ v' bl, e = .returned v' ∧ ORow opE w' v' ms bl ∧ Fsh wx.heap.size bl ∧ Below wx.heap.size wx w') := fun wx hx => toOps_walk v ms wx ((unhide HR).below hx) hsz
    have HI : Hid (∀ (u : Value) (bl : List Nat) (wx : World), ORow opE wx u ms bl → Below w.heap.size w wx → Calls Tryz.prog 24 #[u] wx fun e w' => ∃ v, e = .returned v ∧ OT w' wx.heap.size v (touchT ms) ∧ Below wx.heap.size wx w') := fun u bl wx ho hx => implTouched_walk u ms bl wx ho hsz (hw.up hx)
    have hmn : ms.length ≤ 1048576 := by unfold szOps at hsz; omega
    have hlen := touchT_len ms
    have hle : 1048576 - szOps ms ≤ 1048576 := by omega
    generalize 1048576 - szOps ms = L at *
    go_enter Tryz.func6, Tryz.ntmps6
    go_wp2_with fail
    refine (unhide HS).mono ?_
    rintro e w1 ⟨rfl, b1⟩
    have HT1 := hide (unhide HT w1 b1)
    have HB1 := hide b1
    clear HS b1
    go_wp2_with fail
    refine (unhide HT1).mono ?_
    rintro e w2 ⟨v2, bl2, rfl, o2, _, b2⟩
    have HE := hide (specTouched_walk v2 ms bl2 w2 o2 hsz)
    have HB2 := hide (below_next (unhide HB1) b2)
    clear HT1 o2 b2 HB1
    generalize touchT ms = ts at *
    go_wp2_with fail
    refine (unhide HE).mono ?_
    rintro e w3 ⟨v0, rfl, o3, b3⟩
    have b03 := below_next (unhide HB2) b3
    have HT3 := hide (unhide HT w3 b03)
    have HB3 := hide b03
    have O3 := hide o3
    clear HE b3 b03 HB2 o3
    go_wp2_with fail
    refine (unhide HT3).mono ?_
    rintro e w4 ⟨v4, bl4, rfl, o4, f4, b4⟩
    have b04 := below_next (unhide HB3) b4
    have HI4 := hide (unhide HI v4 bl4 w4 o4 b04)
    have HO4 := hide o4
    have HF4 := hide f4
    have HL4 := hide o4.lt
    have HB4 := hide b4
    have HZ34 := hide b4.size
    obtain ⟨xa, xc, rfl, -, -⟩ := o4.form
    clear HT3 o4 b4 b04 f4
    go_wp2_with fail
    refine (unhide HI4).mono ?_
    rintro e w5 ⟨v1, rfl, o5, b5⟩
    have b35 := below_next (unhide HB4) b5
    have HE5 := hide (eqT_walk v1 v0 ts w5 o5 (own_below (unhide O3) b35) (by omega))
    have HO5 := hide o5
    have HX5 := hide ((unhide HO4).below b5)
    have HB5 := hide b35
    have z5 := b5.size
    have Z5 := hide z5
    clear HI4 o5 b5 b35 HO4 HB4 z5
    go_wp2_with fail
    refine (unhide HE5).mono ?_
    rintro e w6 ⟨rfl, n6, rfl⟩
    have b36 : Below w3.heap.size w3 (w5.drewN n6) := (unhide HB5).trans (below_draws _ _ _)
    have HB6 := hide b36
    have HO6 : Hid (OT (w5.drewN n6) w4.heap.size v1 ts) := unhide HO5
    have HX6 : Hid (ORow opE (w5.drewN n6) _ ms bl4) := (unhide HX5).below (below_draws w5 n6 w5.heap.size)
    have Z6 : Hid (w4.heap.size ≤ (w5.drewN n6).heap.size) := unhide Z5
    have HT6 := hide (unhide HT (w5.drewN n6) (below_next (unhide HB3) b36))
    clear HE5 HB5 HO5 HX5 Z5 b36
    generalize w5.drewN n6 = w6 at *
    go_wp2_with fail
    refine (unhide HT6).mono ?_
    rintro e w7 ⟨v7, bl7, rfl, o7, _, b7⟩
    have HQ := hide (eqOps_walk _ v7 ms bl4 bl7 w7 ((unhide HX6).below b7) o7)
    have HX7 := hide ((unhide HX6).below b7)
    have HO7 := hide (own_below (unhide HO6) b7)
    have HB7 := hide (below_next (unhide HB6) b7)
    have Z7 : Hid (w4.heap.size ≤ w7.heap.size) := Nat.le_trans (unhide Z6) b7.size
    clear HT6 o7 b7 HX6 HO6 HB6 Z6
    go_wp2_with fail
    refine (unhide HQ).mono ?_
    rintro e w8 ⟨rfl, b8⟩
    have z8 := Nat.le_trans (unhide Z7) b8.size
    have HMK := hide (markOps_walk _ ms bl4 1 w8 ((unhide HX7).below b8) (unhide HF4).1 (by omega) (by rw [cntOps]; omega))
    rw [cntOps] at HMK
    have HO8 := hide (own_below (unhide HO7) b8)
    have HB8 := hide (below_next (unhide HB7) b8)
    have Z8 := hide z8
    clear HQ b8 HX7 HO7 HB7 Z7 z8
    have hk1 : 1 + 4 * ms.length ≤ 10000000 := by omega
    generalize 1 + 4 * ms.length = K1 at *
    go_wp2_with fail
    refine (unhide HMK).mono ?_
    rintro e w9 ⟨rfl, -, fr9⟩
    have z9 := Nat.le_trans (unhide Z8) fr9.size
    have b39 := (unhide HB8).trans (fr9.below (fun b hb => (unhide HF4).2 b hb) (unhide HB8).size)
    have o9 : OT w9 w4.heap.size v1 ts := own_keepB (unhide HO8) (fun b hb => fr9.block b ((unhide HO8).lt b hb).2 (fun hm => by have h1 := unhide HL4 b hm; have h2 := ((unhide HO8).lt b hb).1; omega))
    have HE9 := hide (eqT_walk v1 v0 ts w9 o9 (own_below (unhide O3) b39) (by omega))
    have HO9 := hide o9
    have HB9 := hide b39
    have Z9 := hide z9
    clear HMK fr9 HO8 HB8 Z8 z9 o9 b39
    go_wp2_with fail
    refine (unhide HE9).mono ?_
    rintro e w10 ⟨rfl, n10, rfl⟩
    have b310 : Below w3.heap.size w3 (w9.drewN n10) := (unhide HB9).trans (below_draws _ _ _)
    have o10 : (w9.drewN n10).ownsRow w4.heap.size 9 1 v1 ts.length (ts.map tokCell) := unhide HO9
    have Z10 : Hid (w4.heap.size ≤ (w9.drewN n10).heap.size) := unhide Z9
    have HM := hide (markS_walk w4.heap.size v1 ts.length 1 _ (w9.drewN n10) o10 (unhide Z9) (by omega) (Nat.le_refl _) (by omega))
    have HB10 := hide b310
    clear HE9 HO9 HB9 Z9 b310 o10
    generalize w9.drewN n10 = w10 at *
    have hz34 := unhide HZ34
    go_wp2_with fail
    refine (unhide HM).mono ?_
    rintro e w11 ⟨rfl, o11, b11⟩
    have HB11 := hide ((unhide HB10).trans (b11.mono hz34))
    have HH := hide (heldS_walk w4.heap.size v1 ts.length 1 w11 o11 (by omega) (Nat.le_refl _) (by omega))
    have HO11 := hide o11
    clear HM o11 b11 HB10 Z10
    go_wp2_with fail
    refine (unhide HH).mono ?_
    rintro e w12 ⟨rfl, b12⟩
    have HO12 := hide (own_below (unhide HO11) b12)
    have b312 := below_next (unhide HB11) b12
    have HT12 := hide (unhide HT w12 (below_next (unhide HB3) b312))
    have HB12 := hide b312
    clear HH HO11 b12 b312 HB11
    go_wp2_with fail
    refine (unhide HT12).mono ?_
    rintro e w13 ⟨v13, bl13, rfl, o13, _, b13⟩
    have b313 := below_next (unhide HB12) b13
    have HI13 := hide (unhide HI v13 bl13 w13 o13 (below_next (unhide HB3) b313))
    have HO13 := hide (own_below (unhide HO12) b13)
    have HB13 := hide b313
    clear HT12 o13 b13 b313 HB12 HO12
    go_wp2_with fail
    refine (unhide HI13).mono ?_
    rintro e w14 ⟨v14, rfl, o14, b14⟩
    have b314 := below_next (unhide HB13) b14
    have HE14 := hide (eqT_walk v14 v0 ts w14 o14 (own_below (unhide O3) b314) (by omega))
    have HO14 := hide (own_below (unhide HO13) b14)
    have HB14 := hide (below_next (unhide HB3) b314)
    clear HI13 o14 b14 b314 HB13 HO13
    go_wp2_with fail
    refine (unhide HE14).mono ?_
    rintro e w15 ⟨rfl, n15, rfl⟩
    have o15 : (w14.drewN n15).ownsRow w4.heap.size 9 1 v1 ts.length (marks 1 ts.length) := unhide HO14
    have HB15 : Hid (Below w.heap.size w (w14.drewN n15)) := (unhide HB14).trans (below_draws _ _ _)
    have HH := hide (heldS_walk w4.heap.size v1 ts.length 1 (w14.drewN n15) o15 (by omega) (Nat.le_refl _) (by omega))
    clear HE14 HO14 o15 HB14
    generalize w14.drewN n15 = w15 at *
    go_wp2_with fail
    refine (unhide HH).mono ?_
    rintro e w16 ⟨rfl, b16⟩
    have HB16 := hide (below_next (unhide HB15) b16)
    clear HH b16 HB15
    go_wp2
    go_ret
    exact ⟨rfl, unhide HB16⟩
  · rw [szI_no (by omega)] at HS
    go_enter Tryz.func6, Tryz.ntmps6
    go_wp2_with fail
    refine (unhide HS).mono ?_
    rintro e w1 ⟨rfl, b1⟩
    clear HS
    go_wp2
    go_ret
    exact ⟨rfl, b1⟩
/-- What the row's condition says of the tables. -/
def VarsOk (w : World) : Prop := Tabs w ∧ ErrB w.heap.size w ∧ PowB w.heap.size w
theorem tables_of {W : World} (hL : laidMetH Tryz.prog Rows.fnExactTouchedRow.laid W) : VarsOk W := by
  have h : laidMet Tryz.prog laidAll W := hL
  exact ⟨tabs_at h, err_at h, pow_at h⟩
theorem touchLaw_walk (v : Value) (ms : List POp) (w : World) (hr : RRow opR w v ms) (hm : ML w) (h : VarsOk w) :
    Calls Tryz.prog 6 #[v] w fun e w' => e = .returned (.bool true) ∧ Below w.heap.size w w' := touchLaw_in v ms w hr ⟨TabsB.of h.1, h.2.1, h.2.2, hm⟩
end Go.Proofs.YtcjajchfjoffnaaGreatDoor
