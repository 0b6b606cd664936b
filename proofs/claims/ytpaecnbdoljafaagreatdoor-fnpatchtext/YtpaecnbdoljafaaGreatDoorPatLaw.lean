import Derived.Test.YtpaecnbdoljafaaGreatDoorPatP
namespace Go.Proofs.YtpaecnbdoljafaaGreatDoor
open Go.RowKit

theorem encT_len2 (m : zk) : (qd m).length ≤ 6 * (m.path.size + m.src.size) + m.val.size + 200 := by
  have h := RW (qn m)
  have q1 := qQ (Zk m.kind)
  have q2 := qQ m.path.data.toList
  have q3 := qQ m.src.data.toList
  rw [Zb] at q2 q3
  have q4 := Km m.kind
  have k1 := qQ [111, 112]
  have k2 := qQ [112, 97, 116, 104]
  have k3 := qQ [102, 114, 111, 109]
  have k4 := qQ [118, 97, 108, 117, 101]
  have hv : m.val.data.toList.length = m.val.size := Zb _
  have hs : sumT (qn m) ≤ 6 * (m.path.size + m.src.size) + m.val.size + 198 := by
    unfold qn
    cases Zh m.kind <;> cases zY m.kind <;> simp [sumT, zt] at * <;> omega
  unfold qd
  omega
theorem sumLe {α : Type} (f : α → Nat) (b : Nat) : ∀ l : List α, (∀ x ∈ l, f x ≤ b) → (l.map f).sum ≤ l.length * b
  | [], _ => Nat.zero_le _
  | x :: r, h => by
    have h1 := h x List.mem_cons_self
    have h2 := sumLe f b r fun y hy => h y (List.mem_cons_of_mem _ hy)
    rw [List.map_cons, List.sum_cons, List.length_cons, Nat.succ_mul]
    omega
theorem encDT_sum (f : zk → Nat) (b1 b2 b3 : Nat) (h1 : ∀ m, OpZ m → f m ≤ b1) (h2 : ∀ t : ByteArray, t.size ≤ 20000 → f ⟨6, ⟨#[]⟩, ⟨#[]⟩, t⟩ ≤ b2) (h3 : ∀ t : ByteArray, t.size ≤ 1000 → f ⟨1, ⟨#[47, 97]⟩, ⟨#[]⟩, t⟩ ≤ b3) (l : List UInt8) : ((encDT l).map f).sum ≤ 8 * b1 + 101 * b2 + b3 := by
  have hd : ∀ q, ((drawT q).1.map f).sum ≤ 8 * b1 + 101 * b2 := fun q => by
    obtain ⟨hY, hl8⟩ := ops8_ok q
    obtain ⟨hZ, hsl⟩ := spo8_ok (k := (nx q).1) hY
    have hv := (docT_good (nx q).2).len
    have s1 := sumLe f b1 (spo8 (nx q).1 (ops8 q)).1 fun m hm => h1 m (hZ m hm)
    have s2 : (spo8 (nx q).1 (ops8 q)).1.length * b1 ≤ 8 * b1 := Nat.mul_le_mul_right _ (by omega)
    show ((fill8 _ _ _).map f).sum ≤ _
    unfold fill8
    split
    · rw [List.map_append, List.sum_append]
      have s3 := sumLe f b2 (List.replicate (99 + (nx q).1 / 24 % 3 - (spo8 (nx q).1 (ops8 q)).1.length) ⟨6, ⟨#[]⟩, ⟨#[]⟩, zi (ct (Kw (nx q).2).1)⟩) fun m hm => by
        rw [List.eq_of_mem_replicate hm]
        exact h2 _ (by rw [zS]; omega)
      have s4 : (List.replicate (99 + (nx q).1 / 24 % 3 - (spo8 (nx q).1 (ops8 q)).1.length) (⟨6, ⟨#[]⟩, ⟨#[]⟩, zi (ct (Kw (nx q).2).1)⟩ : zk)).length * b2 ≤ 101 * b2 := Nat.mul_le_mul_right _ (by rw [List.length_replicate]; omega)
      omega
    · omega
  have hx := Qo (l.take 1200)
  have hq := hd (nx (l.take 1200)).2
  unfold encDT
  split
  · rw [List.map_append, List.sum_append]
    have := h3 (deepT (97 + (nx (l.take 1200)).1 / 16 % 4)) (by rw [deepT_len]; omega)
    simp
    omega
  · omega
theorem enc_in (l : List UInt8) : Wd (encDT l) ∧ YV (encDT l) ≤ 4000000 ∧ ((encDT l).length ≤ 100 → (Zi ((encDT l).map qd)).length ≤ 10000000) := by
  obtain ⟨hZ, hl⟩ := encDT_z l
  have e0 : (⟨#[]⟩ : ByteArray).size = 0 := rfl
  have e1 : (⟨#[47, 97]⟩ : ByteArray).size = 2 := rfl
  refine ⟨⟨fun m hm => by have := hZ m hm; exact ⟨by have := this.1; omega, by have := this.2.1; omega, by have := this.2.2; omega⟩, by omega⟩, ?_, fun h100 => ?_⟩
  · have := encDT_sum Yd 100600 20000 1002 (fun m h => by unfold Yd; have := h.1; have := h.2.1; have := h.2.2; omega) (fun t ht => by unfold Yd; first | omega | (simp only; omega)) (fun t ht => by unfold Yd; first | omega | (simp only; omega)) l
    unfold YV
    omega
  · have hs := encDT_sum (fun m => (qd m).length) 502800 20200 1300 (fun m h => by have := encT_len2 m; have := h.1; have := h.2.1; have := h.2.2; first | omega | (simp only; omega)) (fun t ht => by have := encT_len2 ⟨6, ⟨#[]⟩, ⟨#[]⟩, t⟩; first | omega | (simp only at *; omega)) (fun t ht => by have := encT_len2 ⟨1, ⟨#[47, 97]⟩, ⟨#[]⟩, t⟩; first | omega | (simp only at *; omega)) l
    have h2 := Vw ((encDT l).map qd)
    have h3 : (Zi ((encDT l).map qd)).length = (joinC ((encDT l).map qd)).length + 2 := by simp [Zi]
    have h4 : nl ((encDT l).map qd) = ((encDT l).map fun m => (qd m).length).sum := by unfold nl; rw [List.map_map]; rfl
    unfold hold at h2
    simp at h2
    omega
set_option maxRecDepth 100000 in
set_option maxHeartbeats 4000000 in
theorem patLaw_in (xa : Option Addr) (xb xo xc : Nat) (l : List UInt8) (w : World) (hw : Qn w) (h : BS w xa xb xo l) (hc : l.length ≤ xc) :
    Calls Tryz.prog 5 #[.slice xa l.length xc] w fun e w' => e = .returned (.bool true) ∧ Below w.heap.size w w' := by
  by_cases hl : l.length ≤ 1048576
  · have tl : ((1048576 : Int) < (l.length : Int)) = False := eq_false (by omega)
    have HD : Hid (∀ wx, Below w.heap.size w wx → Calls Tryz.prog 18 #[.slice xa l.length xc] wx fun e w' => ∃ r, e = .returned r ∧ qX w' wx.heap.size r (encDT l) ∧ Below wx.heap.size wx w') := fun wx hb => encD_walk xa xb xo xc l wx (h.below hb) hl hc
    obtain ⟨hB, hS, hN⟩ := enc_in l
    have hlen := (encDT_z l).2
    have HSE := zh fun v bl wx (h : Zn V9 wx v (encDT l) bl) => Tp v (encDT l) bl wx h hB hS
    have HIE := zh fun v bl wx (h : Zn V9 wx v (encDT l) bl) (hr : Qn wx) => AO v (encDT l) bl wx h hB hN hr
    have HDE : Hid ((Q0 (encDT l)).2 = true → ZY (Q0 (encDT l)).1 = .tuple #[.string (Q0 (encDT l)).1, .int .i64 0] ∧ Jm (Q0 (encDT l)).1 = (encDT l, 0, 0) ∧ (Q0 (encDT l)).1.size ≤ 20000) := dec_enc
    have HNO : Hid ((Q0 (encDT l)).2 = false → (Q0 (encDT l)).1 = ⟨#[]⟩) := fun h => by
      unfold Q0 at h ⊢
      split
      · rfl
      · rename_i hb
        rw [if_neg hb] at h
        split
        · rename_i hg; rw [if_pos hg] at h; cases h
        · rfl
    have HW := zh hw
    clear h hc hl hw hB hS hN
    generalize encDT l = ms at *
    generalize Q0 ms = EV at *
    obtain ⟨T, b⟩ := EV
    simp only at HDE HNO
    have H1 := zh (uh HD w (Below.refl _ _))
    go_enter Tryz.func5, Tryz.ntmps5
    go_wp2_with fail
    refine (uh H1).mono ?_
    rintro e w1 ⟨r1, rfl, o1, b1⟩
    obtain ⟨ya, yc, rfl⟩ := WP o1
    have HO1 := zh (qX.orow o1).1
    have HB1 := zh b1
    have H2 := zh (uh HSE _ _ w1 (qX.orow o1).1)
    clear H1 o1 b1 HSE
    go_wp2_with fail
    refine (uh H2).mono ?_
    rintro e w2 ⟨rfl, b2⟩
    have HB2 := zh (zj (uh HB1) b2)
    have HO2 := zh ((uh HO1).below b2)
    have H3 := zh (uh HD w2 (uh HB2))
    clear H2 b2 HB1 HO1 HD
    go_wp2_with fail
    refine (uh H3).mono ?_
    rintro e w3 ⟨r3, rfl, o3, b3⟩
    obtain ⟨za, zc, rfl⟩ := WP o3
    have HB3 := zh (zj (uh HB2) b3)
    have HO3 := zh ((uh HO2).below b3)
    have H4 := zh (uh HIE _ _ w3 (qX.orow o3).1 ((uh HW).up (uh HB3)))
    clear H3 b3 HB2 HO2 o3 HIE
    go_wp2_with fail
    refine (uh H4).mono ?_
    rintro e w4 ⟨rfl, b4⟩
    have HB4 := zh (zj (uh HB3) b4)
    have HO4 := zh ((uh HO3).below b4)
    clear H4 b4 HB3 HO3
    cases b with
    | false =>
      obtain rfl := uh HNO rfl
      clear HDE HNO
      go_wp2
      go_ret
      exact ⟨by first | rfl | simp, uh HB4⟩
    | true =>
      obtain ⟨hcan, hdc, hTz⟩ := uh HDE rfl
      have hr4 := (uh HW).up (uh HB4)
      have H5 := zh (Af T w4 hr4.tab hr4.err hr4.pow (by omega))
      rw [hcan] at H5
      have HDC : Hid (∀ wx, Qn wx → Calls Tryz.prog 22 #[.string T] wx fun e w' => ∃ v, e = .returned (.tuple #[v, .int .i64 0, .int .i64 0]) ∧ qX w' wx.heap.size v ms ∧ Below wx.heap.size wx w') := fun wx hr => by
        have := AQ T wx hr (by omega)
        rwa [hdc] at this
      clear hcan hdc hr4 HDE HNO
      go_wp2_with fail
      refine (uh H5).mono ?_
      rintro e w5 ⟨rfl, b5⟩
      have HB5 := zh (zj (uh HB4) b5)
      have HO5 := zh ((uh HO4).below b5)
      have H6 := zh (uh HDC w5 ((uh HW).up (uh HB5)))
      clear H5 b5 HB4 HO4 HDC
      go_wp2_with fail
      refine (uh H6).mono ?_
      rintro e w6 ⟨v6, rfl, o6, b6⟩
      obtain ⟨ua, uc, rfl⟩ := WP o6
      have HB6 := zh (zj (uh HB5) b6)
      have H7 := zh (sameOps_walk _ _ ms _ _ w6 (qX.orow o6).1 ((uh HO5).below b6) (by omega))
      clear H6 b6 HB5 HO5 o6
      go_wp2_with fail
      refine (uh H7).mono ?_
      rintro e w7 ⟨rfl, b7⟩
      have HB7 := zh (zj (uh HB6) b7)
      clear H7 b7 HB6
      go_wp2
      go_ret
      exact ⟨rfl, uh HB7⟩
  · have tl : ((1048576 : Int) < (l.length : Int)) = True := eq_true (by omega)
    clear hl h hc hw
    go_enter Tryz.func5, Tryz.ntmps5
    go_wp2
    go_ret
    exact ⟨rfl, Below.refl _ _⟩
/-- What the row's condition says of the tables. -/
def VarsOk (w : World) : Prop := VY w ∧ q8 w.heap.size w ∧ Qx w.heap.size w
theorem tables_of {W : World} (hL : laidMetH Tryz.prog Rows.fnPatchTextRow.laid W) : VarsOk W := by
  have h : laidMet Tryz.prog Xw W := hL
  exact ⟨AR h, AW h, AU h⟩
theorem patLaw_walk (xa : Option Addr) (xb xo xc : Nat) (l : List UInt8) (w : World) (h : BS w xa xb xo l) (hc : l.length ≤ xc) (hm : ML w) (hv : VarsOk w) :
    Calls Tryz.prog 5 #[.slice xa l.length xc] w fun e w' => e = .returned (.bool true) ∧ Below w.heap.size w w' := patLaw_in xa xb xo xc l w ⟨qc.of hv.1, hv.2.1, hv.2.2, hm⟩ h hc
end Go.Proofs.YtpaecnbdoljafaaGreatDoor
