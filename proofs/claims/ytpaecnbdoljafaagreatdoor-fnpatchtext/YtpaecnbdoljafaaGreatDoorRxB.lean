import Derived.Test.YtpaecnbdoljafaaGreatDoorRxA
namespace Go.Proofs.YtpaecnbdoljafaaGreatDoor
open Go.RowKit

def deepT (n : Nat) : ByteArray := zi (List.replicate n [91]).flatten ++ zi (List.replicate n [93]).flatten
theorem deepT_len (n : Nat) : (deepT n).size = 2 * n := by
  unfold deepT
  rw [ByteArray.size_append, zS, zS, Ro, Ro]
  simp; omega
noncomputable def encDT (l : List UInt8) : List zk := if (nx (l.take 1200)).1 % 16 = 15 then (drawT (nx (l.take 1200)).2).1 ++ [⟨1, ⟨#[47, 97]⟩, ⟨#[]⟩, deepT (97 + (nx (l.take 1200)).1 / 16 % 4)⟩] else (drawT (nx (l.take 1200)).2).1
theorem drawT_z (q : List UInt8) : (∀ m ∈ (drawT q).1, OpZ m) ∧ (drawT q).1.length ≤ 101 := by
  obtain ⟨hY, hl8⟩ := ops8_ok q
  obtain ⟨hZ, hsl⟩ := spo8_ok (k := (nx q).1) hY
  have hv := (docT_good (nx q).2).len
  show (∀ m ∈ fill8 _ _ _, OpZ m) ∧ (fill8 _ _ _).length ≤ 101
  unfold fill8
  split
  · refine ⟨fun m hm => ?_, ?_⟩
    · rcases List.mem_append.1 hm with hm | hm
      · exact hZ m hm
      · rw [List.eq_of_mem_replicate hm]
        exact ⟨by show (⟨#[]⟩ : ByteArray).size ≤ _; decide, by show (⟨#[]⟩ : ByteArray).size ≤ _; decide, by show (zi _).size ≤ _; rw [zS]; omega⟩
    · rw [List.length_append, List.length_replicate]; omega
  · exact ⟨hZ, by omega⟩
theorem encDT_z (l : List UInt8) : (∀ m ∈ encDT l, OpZ m) ∧ (encDT l).length ≤ 102 := by
  obtain ⟨h1, h2⟩ := drawT_z (nx (l.take 1200)).2
  have hz := deepT_len (97 + (nx (l.take 1200)).1 / 16 % 4)
  have hx := Qo (l.take 1200)
  unfold encDT
  split
  · refine ⟨fun m hm => ?_, by simp; omega⟩
    rcases List.mem_append.1 hm with hm | hm
    · exact h1 m hm
    · rw [List.mem_singleton] at hm
      subst hm
      exact ⟨by show (⟨#[47, 97]⟩ : ByteArray).size ≤ _; decide, by show (⟨#[]⟩ : ByteArray).size ≤ _; decide, by show (deepT _).size ≤ _; omega⟩
  · exact ⟨h1, by omega⟩
set_option maxRecDepth 100000 in
set_option maxHeartbeats 4000000 in
theorem encD_walk (xa : Option Addr) (xb xo xc : Nat) (l : List UInt8) (w : World) (h : BS w xa xb xo l) (hl : l.length ≤ 1048576) (hc : l.length ≤ xc) :
    Calls Tryz.prog 18 #[.slice xa l.length xc] w fun e w' => ∃ r, e = .returned r ∧ qX w' w.heap.size r (encDT l) ∧ Below w.heap.size w w' := by
  have HO := zh (H7 xa xb xo xc l w h hl hc)
  have HN := zh fun w1 (h : Zy w1 w.heap.size w.heap.size (l.take 1200)) => QS w.heap.size w.heap.size (l.take 1200) w1 h
  have HDR := zh fun w1 (h : Zy w1 w.heap.size w.heap.size (nx (l.take 1200)).2) => drawX_walk w.heap.size w.heap.size (nx (l.take 1200)).2 w1 h
  have hx := Qo (l.take 1200)
  have hdl := (drawT_z (nx (l.take 1200)).2).2
  generalize hE : encDT l = E at *
  unfold encDT at hE
  have HE := zh hE
  clear h hl hc hE
  generalize (nx (l.take 1200)).1 = k at *
  generalize (nx (l.take 1200)).2 = q1 at *
  generalize drawT q1 = D at *
  obtain ⟨ms, q2⟩ := D
  simp only at hdl
  go_enter Tryz.func18, Tryz.ntmps18
  go_wp2_with fail
  refine (uh HO).mono ?_
  rintro e w1 ⟨rfl, r1, b1, z1⟩
  have HN1 := zh (uh HN w1 r1)
  have HB1 := zh b1
  have HZ1 := zh z1
  clear HO HN r1 b1 z1
  go_wp2_with fail
  refine (uh HN1).mono ?_
  rintro e w2 ⟨rfl, d2⟩
  have HD2 := zh d2
  have HDC := zh (uh HDR w2 d2.rd)
  have hz2 : w.heap.size ≤ w2.heap.size := by have := d2.size; have := uh HZ1; omega
  clear HN1 d2 HDR
  go_wp2_with fail
  refine (uh HDC).mono ?_
  rintro e w3 ⟨s3, r3, rfl, o3, d3⟩
  have HD3 := zh ((uh HD2).step d3)
  obtain ⟨ra, rc, rfl⟩ := WP o3
  have HO3 : Hid (qX w3 w.heap.size (.slice ra ms.length rc) ms) := JB o3 hz2
  have HB3 : Hid (Below w.heap.size w w3) := (uh HB1).grown (uh HD3).gr (by have := uh HZ1; omega) (fun k hk => by injection hk with hk; omega)
  clear HDC d3 HD2 o3 HD3 HB1
  by_cases h16 : k % 16 = 15
  · have e16 : (k : Int) % 16 = 15 := by omega
    have hM : (k : Int) / 16 % 4 = ((k / 16 % 4 : Nat) : Int) := by omega
    have hr := uh HE
    rw [if_pos h16] at hr
    have hM2 : k / 16 % 4 ≤ 3 := by omega
    generalize k / 16 % 4 = m4 at *
    have hM3 : 97 + (m4 : Int) = ((97 + m4 : Nat) : Int) := by omega
    have hMb : 97 + m4 ≤ 100 := by omega
    generalize 97 + m4 = n at *
    have HR1 : Hid (∀ wx, Calls Tryz.prog 55 #[.string ⟨#[91]⟩, .int .i64 (n : Int)] wx fun e w' => e = .returned (.string (zi (List.replicate n [91]).flatten)) ∧ Below wx.heap.size wx w') := fun wx => Bn [91] n wx (by decide) (by omega)
    have HR2 : Hid (∀ wx, Calls Tryz.prog 55 #[.string ⟨#[93]⟩, .int .i64 (n : Int)] wx fun e w' => e = .returned (.string (zi (List.replicate n [93]).flatten)) ∧ Below wx.heap.size wx w') := fun wx => Bn [93] n wx (by decide) (by omega)
    have z1 : (zi (List.replicate n [91]).flatten).size = n := by rw [zS, Ro]; simp
    have z2 : (zi (List.replicate n [93]).flatten).size = n := by rw [zS, Ro]; simp
    have HDT : Hid (deepT n = zi (List.replicate n [91]).flatten ++ zi (List.replicate n [93]).flatten) := rfl
    generalize deepT n = dt at *
    generalize zi (List.replicate n [91]).flatten = s1 at *
    generalize zi (List.replicate n [93]).flatten = s2 at *
    have hsz : (9223372036854775807 < s1.size + s2.size) = False := eq_false (by omega)
    rw [uh HDT] at hr
    have HE2 := zh hr
    clear h16 HE hr HDT
    go_wp2_with fail
    refine (uh HR1 _).mono ?_
    rintro e w4 ⟨rfl, b4⟩
    have HB4 := zh (zj (uh HB3) b4)
    have HO4 : Hid (qX w4 w.heap.size (.slice ra ms.length rc) ms) := ZI (uh HO3) b4
    clear HR1 b4 HB3 HO3
    go_wp2_with fail
    refine (uh HR2 _).mono ?_
    rintro e w5 ⟨rfl, b5⟩
    have HB5 := zh (zj (uh HB4) b5)
    have HO5 : Hid (qX w5 w.heap.size (.slice ra ms.length rc) ms) := ZI (uh HO4) b5
    have hA := ZJ w5 (.cells (qo ⟨1, ⟨#[47, 97]⟩, ⟨#[]⟩, s1 ++ s2⟩) 59)
    have HRW := zh (ZI (uh HO5) hA)
    have HLM := zh (Fy w5 ⟨1, ⟨#[47, 97]⟩, ⟨#[]⟩, s1 ++ s2⟩)
    have HBM := zh (zj (uh HB5) hA)
    have HGE := zh (zj (uh HB5) hA).size
    clear HR2 b5 HB4 HO4 hA HB5 HO5
    go_wp2_with (at_builtin; refine wpList_append_opW rfl (.tmp 24) (.tmp 31) rfl rfl (uh HRW) (m := ⟨1, ⟨#[47, 97]⟩, ⟨#[]⟩, s1 ++ s2⟩) (g := w5.heap.size) rfl (uh HLM) (uh HGE) (by omega) ?_)
    generalize w5.alloc _ = wM at *
    intro l6 w6 o6 g6 gx6
    have HB6 : Hid (Below w.heap.size w w6) := (uh HBM).grown g6 (uh HGE) (fun b hb => ((uh HRW).lt b hb).1)
    have HO6 := zh o6
    clear o6 g6 gx6 HRW HLM HBM HGE
    go_wp2
    go_ret
    exact ⟨l6, rfl, by rw [← uh HE2]; exact uh HO6, uh HB6⟩
  · have e16 : ((k : Int) % 16 == 15) = false := by simp only [beq_eq_false_iff_ne, ne_eq]; omega
    have hr := uh HE
    rw [if_neg h16] at hr
    subst hr
    clear h16 HE
    go_wp2
    go_ret
    exact ⟨_, rfl, uh HO3, uh HB3⟩
end Go.Proofs.YtpaecnbdoljafaaGreatDoor
