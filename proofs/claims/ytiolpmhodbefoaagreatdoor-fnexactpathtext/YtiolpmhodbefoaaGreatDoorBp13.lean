import Derived.Test.YtiolpmhodbefoaaGreatDoorBp12
namespace Go.Proofs.YtiolpmhodbefoaaGreatDoor
open Go.RowKit

set_option maxRecDepth 100000 in
set_option maxHeartbeats 16000000 in
theorem selText_walk (m : PSel) (v : Value) (bl : List Nat) (w : World) (h : ORow fopE w v m.cond bl) (hok : selOk m = true) (hs : szSel m ≤ 1048576) :
    Calls Tryz.prog 17 #[.agg #[.int .i64 m.k, .string m.name, .bool m.hasA, .bool m.hasB, .bool m.hasC, .int .i64 m.a, .int .i64 m.b, .int .i64 m.c, v]] w fun e w' => e = .returned (.string (strOf (selT m))) ∧ Below w.heap.size w w' := by
  obtain ⟨hk, hra, hrb, hrc, hcd⟩ := sel_parts hok
  have hnz : m.name.size ≤ 1048576 := by unfold szSel at hs; omega
  have hfz : szFops m.cond ≤ 1048576 := by unfold szSel at hs; omega
  obtain ⟨ad, cp, hv, -, -⟩ := h.form
  have HQ : Hid (∀ wx, Calls Tryz.prog 35 #[.string m.name] wx fun e w' => e = .returned (.string (strOf (quo m.name))) ∧ Below wx.heap.size wx w') := fun wx => quo_walk _ wx hnz
  have HDa : Hid (∀ wx, Calls Tryz.prog 36 #[.int .i64 m.a] wx fun e w' => e = .returned (.string (strOf (sdec m.a))) ∧ Below wx.heap.size wx w') := fun wx => sdec_walk _ wx hra
  have HDb : Hid (∀ wx, Calls Tryz.prog 36 #[.int .i64 m.b] wx fun e w' => e = .returned (.string (strOf (sdec m.b))) ∧ Below wx.heap.size wx w') := fun wx => sdec_walk _ wx hrb
  have HDc : Hid (∀ wx, Calls Tryz.prog 36 #[.int .i64 m.c] wx fun e w' => e = .returned (.string (strOf (sdec m.c))) ∧ Below wx.heap.size wx w') := fun wx => sdec_walk _ wx hrc
  have HCT : Hid (m.k = 5 → (∀ wx, Below w.heap.size w wx → Calls Tryz.prog 37 #[v, .int .i64 ((m.cond.length : Int) - 1)] wx fun e w' => e = .returned (.string (strOf (cdT m.cond))) ∧ Below wx.heap.size wx w') ∧ (strOf (cdT m.cond)).size ≤ 20000000 ∧ m.cond.length ≤ 1000) := fun e => by
    obtain ⟨ct, hc1, hg, hf, ht, hl⟩ := cond_tree (hcd e)
    refine ⟨fun wx hx => ?_, ?_, hl⟩
    · have := condText_walk m.cond bl hl hfz hg [] [] (by rw [hf]; simp) v wx (h.below hx)
      rw [hf] at this
      rw [ht]
      simpa using this
    · rw [ht, strOf_size]
      have := txt_len hg
      rw [hf] at this
      omega
  have la : (strOf (sdec m.a)).size ≤ 11 := by rw [strOf_size]; exact sdec_len hra
  have lb : (strOf (sdec m.b)).size ≤ 11 := by rw [strOf_size]; exact sdec_len hrb
  have lc : (strOf (sdec m.c)).size ≤ 11 := by rw [strOf_size]; exact sdec_len hrc
  have HB : Hid (∀ o, Below w.heap.size w (w.alloc o)) := fun o => alloc_b w o
  have HT : Hid (selT m = if m.k = 1 then quo m.name else if m.k = 2 then [42] else if m.k = 3 then sdec m.a else if m.k = 5 then 63 :: cdT m.cond else (if m.hasA = true then sdec m.a else []) ++ (58 :: ((if m.hasB = true then sdec m.b else []) ++ (if m.hasC = true then 58 :: sdec m.c else [])))) := rfl
  subst hv
  clear h hok hs hcd hra hrb hrc hnz hfz
  generalize selT m = ST at *
  obtain ⟨K, name, ha, hb, hc, a, b, c, cond⟩ := m
  simp only at *
  rcases (show K = 1 ∨ K = 2 ∨ K = 3 ∨ K = 5 ∨ K = 4 by omega) with rfl | rfl | rfl | rfl | rfl
  · skip
    clear hk HCT
    have HV : Hid (ST = quo name) := by show _ = _; rw [unhide HT]; rfl
    clear HT
    go_enter Tryz.func17, Tryz.ntmps17
    go_wp2_with fail
    refine (unhide HQ _).mono ?_
    rintro e w2 ⟨rfl, b2⟩
    have HB2 := hide (below_next (unhide HB _) b2)
    clear b2
    go_wp2
    go_ret
    exact ⟨by rw [unhide HV]; rfl, unhide HB2⟩
  · skip
    clear hk HCT
    have HV : Hid (ST = [42]) := by show _ = _; rw [unhide HT]; rfl
    clear HT
    go_enter Tryz.func17, Tryz.ntmps17
    go_wp2
    go_ret
    exact ⟨by rw [unhide HV]; rfl, unhide HB _⟩
  · skip
    clear hk HCT
    have HV : Hid (ST = sdec a) := by show _ = _; rw [unhide HT]; rfl
    clear HT
    go_enter Tryz.func17, Tryz.ntmps17
    go_wp2_with fail
    refine (unhide HDa _).mono ?_
    rintro e w2 ⟨rfl, b2⟩
    have HB2 := hide (below_next (unhide HB _) b2)
    clear b2
    go_wp2
    go_ret
    exact ⟨by rw [unhide HV]; rfl, unhide HB2⟩
  · skip
    clear hk
    obtain ⟨hct, hcz, hcl⟩ := unhide HCT rfl
    have HV : Hid (strOf ST = ⟨#[63]⟩ ++ strOf (cdT cond)) := by
      show _ = _
      rw [show (⟨#[63]⟩ : ByteArray) = strOf [63] from rfl, strOf_app, unhide HT]
      rfl
    have HC2 := hide (hct _ (alloc_b w (Obj.cells #[.int .i64 5, .string name, .bool ha, .bool hb, .bool hc, .int .i64 a, .int .i64 b, .int .i64 c, .slice ad cond.length cp] 46 (0, 0))))
    have hclI : (cond.length : Int) ≤ 1000 := by omega
    clear HT HCT hct hcl
    generalize strOf (cdT cond) = V at *
    generalize strOf ST = SV at *
    have z1 : (9223372036854775807 < 1 + V.size) = False := eq_false (by omega)
    clear hcz
    go_enter Tryz.func17, Tryz.ntmps17
    go_wp2_with fail
    refine (unhide HC2).mono ?_
    rintro e w2 ⟨rfl, b2⟩
    have HB2 := hide (below_next (unhide HB _) b2)
    clear b2 HC2
    go_wp2
    go_ret
    exact ⟨by rw [unhide HV]; rfl, unhide HB2⟩
  · cases ha with
    | true =>
      cases hb with
      | true =>
        cases hc with
        | true =>
          clear hk HCT
          have HV : Hid (strOf ST = ((((strOf (sdec a) ++ ⟨#[58]⟩) ++ strOf (sdec b)) ++ ⟨#[58]⟩) ++ strOf (sdec c))) := by
            show _ = _
            rw [show (⟨#[58]⟩ : ByteArray) = strOf [58] from rfl, strOf_app, strOf_app, strOf_app, strOf_app, unhide HT]
            simp
          clear HT
          have h0 := heap_alloc_new w (Obj.cells #[.int .i64 4, .string name, .bool true, .bool true, .bool true, .int .i64 a, .int .i64 b, .int .i64 c, .slice ad cond.length cp] 46 (0, 0))
          have HBX : Hid (∀ w', Below w.heap.size (w.alloc (Obj.cells #[.int .i64 4, .string name, .bool true, .bool true, .bool true, .int .i64 a, .int .i64 b, .int .i64 c, .slice ad cond.length cp] 46 (0, 0))) w' → True) := fun _ _ => trivial
          clear HBX
          have HCC : Hid (∀ w', Below (w.alloc (Obj.cells #[.int .i64 4, .string name, .bool true, .bool true, .bool true, .int .i64 a, .int .i64 b, .int .i64 c, .slice ad cond.length cp] 46 (0, 0))).heap.size (w.alloc (Obj.cells #[.int .i64 4, .string name, .bool true, .bool true, .bool true, .int .i64 a, .int .i64 b, .int .i64 c, .slice ad cond.length cp] 46 (0, 0))) w' → w'.cell? ⟨w.heap.size, 3, none⟩ = some (.bool true) ∧ w'.cell? ⟨w.heap.size, 4, none⟩ = some (.bool true) ∧ w'.cell? ⟨w.heap.size, 6, none⟩ = some (.int .i64 b) ∧ w'.cell? ⟨w.heap.size, 7, none⟩ = some (.int .i64 c)) := fun w' hx => by
            have h2 := (hx.block _ (Array.getElem?_eq_some_iff.1 h0).1).trans h0
            exact ⟨Lib.cell_of_heap h2 3, Lib.cell_of_heap h2 4, Lib.cell_of_heap h2 6, Lib.cell_of_heap h2 7⟩
          clear h0
          generalize strOf (sdec a) = VA at *
          generalize strOf (sdec b) = VB at *
          generalize strOf (sdec c) = VC at *
          generalize strOf ST = SV at *
          have z0 : (9223372036854775807 < VA.size + 1) = False := eq_false (by omega)
          have z1 : (9223372036854775807 < VA.size + 1 + VB.size) = False := eq_false (by omega)
          have z2 : (9223372036854775807 < VA.size + 1 + VB.size + 1) = False := eq_false (by omega)
          have z3 : (9223372036854775807 < VA.size + 1 + VB.size + 1 + VC.size) = False := eq_false (by omega)
          clear la lb lc
          go_enter Tryz.func17, Tryz.ntmps17
          go_wp2_with fail
          refine (unhide HDa _).mono ?_
          rintro e w2 ⟨rfl, b2⟩
          have HX2 := hide b2
          obtain ⟨p13, p14, p16, p17⟩ := unhide HCC _ (unhide HX2)
          clear b2
          go_wp2_with fail
          refine (unhide HDb _).mono ?_
          rintro e w3 ⟨rfl, b3⟩
          have HX3 := hide (below_next (unhide HX2) b3)
          obtain ⟨p23, p24, p26, p27⟩ := unhide HCC _ (unhide HX3)
          clear b3
          go_wp2_with fail
          refine (unhide HDc _).mono ?_
          rintro e w4 ⟨rfl, b4⟩
          have HX4 := hide (below_next (unhide HX3) b4)
          obtain ⟨p33, p34, p36, p37⟩ := unhide HCC _ (unhide HX4)
          clear b4
          go_wp2
          go_ret
          exact ⟨by rw [unhide HV]; rfl, below_next (unhide HB _) (unhide HX4)⟩
        | false =>
          clear hk HCT
          have HV : Hid (strOf ST = ((strOf (sdec a) ++ ⟨#[58]⟩) ++ strOf (sdec b))) := by
            show _ = _
            rw [show (⟨#[58]⟩ : ByteArray) = strOf [58] from rfl, strOf_app, strOf_app, unhide HT]
            simp
          clear HT
          have h0 := heap_alloc_new w (Obj.cells #[.int .i64 4, .string name, .bool true, .bool true, .bool false, .int .i64 a, .int .i64 b, .int .i64 c, .slice ad cond.length cp] 46 (0, 0))
          have HBX : Hid (∀ w', Below w.heap.size (w.alloc (Obj.cells #[.int .i64 4, .string name, .bool true, .bool true, .bool false, .int .i64 a, .int .i64 b, .int .i64 c, .slice ad cond.length cp] 46 (0, 0))) w' → True) := fun _ _ => trivial
          clear HBX
          have HCC : Hid (∀ w', Below (w.alloc (Obj.cells #[.int .i64 4, .string name, .bool true, .bool true, .bool false, .int .i64 a, .int .i64 b, .int .i64 c, .slice ad cond.length cp] 46 (0, 0))).heap.size (w.alloc (Obj.cells #[.int .i64 4, .string name, .bool true, .bool true, .bool false, .int .i64 a, .int .i64 b, .int .i64 c, .slice ad cond.length cp] 46 (0, 0))) w' → w'.cell? ⟨w.heap.size, 3, none⟩ = some (.bool true) ∧ w'.cell? ⟨w.heap.size, 4, none⟩ = some (.bool false) ∧ w'.cell? ⟨w.heap.size, 6, none⟩ = some (.int .i64 b) ∧ w'.cell? ⟨w.heap.size, 7, none⟩ = some (.int .i64 c)) := fun w' hx => by
            have h2 := (hx.block _ (Array.getElem?_eq_some_iff.1 h0).1).trans h0
            exact ⟨Lib.cell_of_heap h2 3, Lib.cell_of_heap h2 4, Lib.cell_of_heap h2 6, Lib.cell_of_heap h2 7⟩
          clear h0
          generalize strOf (sdec a) = VA at *
          generalize strOf (sdec b) = VB at *
          generalize strOf (sdec c) = VC at *
          generalize strOf ST = SV at *
          have z0 : (9223372036854775807 < VA.size + 1) = False := eq_false (by omega)
          have z1 : (9223372036854775807 < VA.size + 1 + VB.size) = False := eq_false (by omega)
          clear la lb lc
          go_enter Tryz.func17, Tryz.ntmps17
          go_wp2_with fail
          refine (unhide HDa _).mono ?_
          rintro e w2 ⟨rfl, b2⟩
          have HX2 := hide b2
          obtain ⟨p13, p14, p16, p17⟩ := unhide HCC _ (unhide HX2)
          clear b2
          go_wp2_with fail
          refine (unhide HDb _).mono ?_
          rintro e w3 ⟨rfl, b3⟩
          have HX3 := hide (below_next (unhide HX2) b3)
          obtain ⟨p23, p24, p26, p27⟩ := unhide HCC _ (unhide HX3)
          clear b3
          go_wp2
          go_ret
          exact ⟨by rw [unhide HV]; rfl, below_next (unhide HB _) (unhide HX3)⟩
      | false =>
        cases hc with
        | true =>
          clear hk HCT
          have HV : Hid (strOf ST = (((strOf (sdec a) ++ ⟨#[58]⟩) ++ ⟨#[58]⟩) ++ strOf (sdec c))) := by
            show _ = _
            rw [show (⟨#[58]⟩ : ByteArray) = strOf [58] from rfl, strOf_app, strOf_app, strOf_app, unhide HT]
            simp
          clear HT
          have h0 := heap_alloc_new w (Obj.cells #[.int .i64 4, .string name, .bool true, .bool false, .bool true, .int .i64 a, .int .i64 b, .int .i64 c, .slice ad cond.length cp] 46 (0, 0))
          have HBX : Hid (∀ w', Below w.heap.size (w.alloc (Obj.cells #[.int .i64 4, .string name, .bool true, .bool false, .bool true, .int .i64 a, .int .i64 b, .int .i64 c, .slice ad cond.length cp] 46 (0, 0))) w' → True) := fun _ _ => trivial
          clear HBX
          have HCC : Hid (∀ w', Below (w.alloc (Obj.cells #[.int .i64 4, .string name, .bool true, .bool false, .bool true, .int .i64 a, .int .i64 b, .int .i64 c, .slice ad cond.length cp] 46 (0, 0))).heap.size (w.alloc (Obj.cells #[.int .i64 4, .string name, .bool true, .bool false, .bool true, .int .i64 a, .int .i64 b, .int .i64 c, .slice ad cond.length cp] 46 (0, 0))) w' → w'.cell? ⟨w.heap.size, 3, none⟩ = some (.bool false) ∧ w'.cell? ⟨w.heap.size, 4, none⟩ = some (.bool true) ∧ w'.cell? ⟨w.heap.size, 6, none⟩ = some (.int .i64 b) ∧ w'.cell? ⟨w.heap.size, 7, none⟩ = some (.int .i64 c)) := fun w' hx => by
            have h2 := (hx.block _ (Array.getElem?_eq_some_iff.1 h0).1).trans h0
            exact ⟨Lib.cell_of_heap h2 3, Lib.cell_of_heap h2 4, Lib.cell_of_heap h2 6, Lib.cell_of_heap h2 7⟩
          clear h0
          generalize strOf (sdec a) = VA at *
          generalize strOf (sdec b) = VB at *
          generalize strOf (sdec c) = VC at *
          generalize strOf ST = SV at *
          have z0 : (9223372036854775807 < VA.size + 1) = False := eq_false (by omega)
          have z1 : (9223372036854775807 < VA.size + 1 + 1) = False := eq_false (by omega)
          have z2 : (9223372036854775807 < VA.size + 1 + 1 + VC.size) = False := eq_false (by omega)
          clear la lb lc
          go_enter Tryz.func17, Tryz.ntmps17
          go_wp2_with fail
          refine (unhide HDa _).mono ?_
          rintro e w2 ⟨rfl, b2⟩
          have HX2 := hide b2
          obtain ⟨p13, p14, p16, p17⟩ := unhide HCC _ (unhide HX2)
          clear b2
          go_wp2_with fail
          refine (unhide HDc _).mono ?_
          rintro e w3 ⟨rfl, b3⟩
          have HX3 := hide (below_next (unhide HX2) b3)
          obtain ⟨p23, p24, p26, p27⟩ := unhide HCC _ (unhide HX3)
          clear b3
          go_wp2
          go_ret
          exact ⟨by rw [unhide HV]; rfl, below_next (unhide HB _) (unhide HX3)⟩
        | false =>
          clear hk HCT
          have HV : Hid (strOf ST = (strOf (sdec a) ++ ⟨#[58]⟩)) := by
            show _ = _
            rw [show (⟨#[58]⟩ : ByteArray) = strOf [58] from rfl, strOf_app, unhide HT]
            simp
          clear HT
          have h0 := heap_alloc_new w (Obj.cells #[.int .i64 4, .string name, .bool true, .bool false, .bool false, .int .i64 a, .int .i64 b, .int .i64 c, .slice ad cond.length cp] 46 (0, 0))
          have HBX : Hid (∀ w', Below w.heap.size (w.alloc (Obj.cells #[.int .i64 4, .string name, .bool true, .bool false, .bool false, .int .i64 a, .int .i64 b, .int .i64 c, .slice ad cond.length cp] 46 (0, 0))) w' → True) := fun _ _ => trivial
          clear HBX
          have HCC : Hid (∀ w', Below (w.alloc (Obj.cells #[.int .i64 4, .string name, .bool true, .bool false, .bool false, .int .i64 a, .int .i64 b, .int .i64 c, .slice ad cond.length cp] 46 (0, 0))).heap.size (w.alloc (Obj.cells #[.int .i64 4, .string name, .bool true, .bool false, .bool false, .int .i64 a, .int .i64 b, .int .i64 c, .slice ad cond.length cp] 46 (0, 0))) w' → w'.cell? ⟨w.heap.size, 3, none⟩ = some (.bool false) ∧ w'.cell? ⟨w.heap.size, 4, none⟩ = some (.bool false) ∧ w'.cell? ⟨w.heap.size, 6, none⟩ = some (.int .i64 b) ∧ w'.cell? ⟨w.heap.size, 7, none⟩ = some (.int .i64 c)) := fun w' hx => by
            have h2 := (hx.block _ (Array.getElem?_eq_some_iff.1 h0).1).trans h0
            exact ⟨Lib.cell_of_heap h2 3, Lib.cell_of_heap h2 4, Lib.cell_of_heap h2 6, Lib.cell_of_heap h2 7⟩
          clear h0
          generalize strOf (sdec a) = VA at *
          generalize strOf (sdec b) = VB at *
          generalize strOf (sdec c) = VC at *
          generalize strOf ST = SV at *
          have z0 : (9223372036854775807 < VA.size + 1) = False := eq_false (by omega)
          clear la lb lc
          go_enter Tryz.func17, Tryz.ntmps17
          go_wp2_with fail
          refine (unhide HDa _).mono ?_
          rintro e w2 ⟨rfl, b2⟩
          have HX2 := hide b2
          obtain ⟨p13, p14, p16, p17⟩ := unhide HCC _ (unhide HX2)
          clear b2
          go_wp2
          go_ret
          exact ⟨by rw [unhide HV]; rfl, below_next (unhide HB _) (unhide HX2)⟩
    | false =>
      cases hb with
      | true =>
        cases hc with
        | true =>
          clear hk HCT
          have HV : Hid (strOf ST = ((((⟨#[]⟩ ++ ⟨#[58]⟩) ++ strOf (sdec b)) ++ ⟨#[58]⟩) ++ strOf (sdec c))) := by
            show _ = _
            rw [show (⟨#[58]⟩ : ByteArray) = strOf [58] from rfl, show (⟨#[]⟩ : ByteArray) = strOf [] from rfl, strOf_app, strOf_app, strOf_app, strOf_app, unhide HT]
            simp
          clear HT
          have h0 := heap_alloc_new w (Obj.cells #[.int .i64 4, .string name, .bool false, .bool true, .bool true, .int .i64 a, .int .i64 b, .int .i64 c, .slice ad cond.length cp] 46 (0, 0))
          have HBX : Hid (∀ w', Below w.heap.size (w.alloc (Obj.cells #[.int .i64 4, .string name, .bool false, .bool true, .bool true, .int .i64 a, .int .i64 b, .int .i64 c, .slice ad cond.length cp] 46 (0, 0))) w' → True) := fun _ _ => trivial
          clear HBX
          have HCC : Hid (∀ w', Below (w.alloc (Obj.cells #[.int .i64 4, .string name, .bool false, .bool true, .bool true, .int .i64 a, .int .i64 b, .int .i64 c, .slice ad cond.length cp] 46 (0, 0))).heap.size (w.alloc (Obj.cells #[.int .i64 4, .string name, .bool false, .bool true, .bool true, .int .i64 a, .int .i64 b, .int .i64 c, .slice ad cond.length cp] 46 (0, 0))) w' → w'.cell? ⟨w.heap.size, 3, none⟩ = some (.bool true) ∧ w'.cell? ⟨w.heap.size, 4, none⟩ = some (.bool true) ∧ w'.cell? ⟨w.heap.size, 6, none⟩ = some (.int .i64 b) ∧ w'.cell? ⟨w.heap.size, 7, none⟩ = some (.int .i64 c)) := fun w' hx => by
            have h2 := (hx.block _ (Array.getElem?_eq_some_iff.1 h0).1).trans h0
            exact ⟨Lib.cell_of_heap h2 3, Lib.cell_of_heap h2 4, Lib.cell_of_heap h2 6, Lib.cell_of_heap h2 7⟩
          clear h0
          generalize strOf (sdec a) = VA at *
          generalize strOf (sdec b) = VB at *
          generalize strOf (sdec c) = VC at *
          generalize strOf ST = SV at *
          have z0 : (9223372036854775807 < 1 + VB.size) = False := eq_false (by omega)
          have z1 : (9223372036854775807 < 1 + VB.size + 1) = False := eq_false (by omega)
          have z2 : (9223372036854775807 < 1 + VB.size + 1 + VC.size) = False := eq_false (by omega)
          clear la lb lc
          go_enter Tryz.func17, Tryz.ntmps17
          go_wp2_with fail
          refine (unhide HDb _).mono ?_
          rintro e w2 ⟨rfl, b2⟩
          have HX2 := hide b2
          obtain ⟨p13, p14, p16, p17⟩ := unhide HCC _ (unhide HX2)
          clear b2
          go_wp2_with fail
          refine (unhide HDc _).mono ?_
          rintro e w3 ⟨rfl, b3⟩
          have HX3 := hide (below_next (unhide HX2) b3)
          obtain ⟨p23, p24, p26, p27⟩ := unhide HCC _ (unhide HX3)
          clear b3
          go_wp2
          go_ret
          exact ⟨by rw [unhide HV]; rfl, below_next (unhide HB _) (unhide HX3)⟩
        | false =>
          clear hk HCT
          have HV : Hid (strOf ST = ((⟨#[]⟩ ++ ⟨#[58]⟩) ++ strOf (sdec b))) := by
            show _ = _
            rw [show (⟨#[58]⟩ : ByteArray) = strOf [58] from rfl, show (⟨#[]⟩ : ByteArray) = strOf [] from rfl, strOf_app, strOf_app, unhide HT]
            simp
          clear HT
          have h0 := heap_alloc_new w (Obj.cells #[.int .i64 4, .string name, .bool false, .bool true, .bool false, .int .i64 a, .int .i64 b, .int .i64 c, .slice ad cond.length cp] 46 (0, 0))
          have HBX : Hid (∀ w', Below w.heap.size (w.alloc (Obj.cells #[.int .i64 4, .string name, .bool false, .bool true, .bool false, .int .i64 a, .int .i64 b, .int .i64 c, .slice ad cond.length cp] 46 (0, 0))) w' → True) := fun _ _ => trivial
          clear HBX
          have HCC : Hid (∀ w', Below (w.alloc (Obj.cells #[.int .i64 4, .string name, .bool false, .bool true, .bool false, .int .i64 a, .int .i64 b, .int .i64 c, .slice ad cond.length cp] 46 (0, 0))).heap.size (w.alloc (Obj.cells #[.int .i64 4, .string name, .bool false, .bool true, .bool false, .int .i64 a, .int .i64 b, .int .i64 c, .slice ad cond.length cp] 46 (0, 0))) w' → w'.cell? ⟨w.heap.size, 3, none⟩ = some (.bool true) ∧ w'.cell? ⟨w.heap.size, 4, none⟩ = some (.bool false) ∧ w'.cell? ⟨w.heap.size, 6, none⟩ = some (.int .i64 b) ∧ w'.cell? ⟨w.heap.size, 7, none⟩ = some (.int .i64 c)) := fun w' hx => by
            have h2 := (hx.block _ (Array.getElem?_eq_some_iff.1 h0).1).trans h0
            exact ⟨Lib.cell_of_heap h2 3, Lib.cell_of_heap h2 4, Lib.cell_of_heap h2 6, Lib.cell_of_heap h2 7⟩
          clear h0
          generalize strOf (sdec a) = VA at *
          generalize strOf (sdec b) = VB at *
          generalize strOf (sdec c) = VC at *
          generalize strOf ST = SV at *
          have z0 : (9223372036854775807 < 1 + VB.size) = False := eq_false (by omega)
          clear la lb lc
          go_enter Tryz.func17, Tryz.ntmps17
          go_wp2_with fail
          refine (unhide HDb _).mono ?_
          rintro e w2 ⟨rfl, b2⟩
          have HX2 := hide b2
          obtain ⟨p13, p14, p16, p17⟩ := unhide HCC _ (unhide HX2)
          clear b2
          go_wp2
          go_ret
          exact ⟨by rw [unhide HV]; rfl, below_next (unhide HB _) (unhide HX2)⟩
      | false =>
        cases hc with
        | true =>
          clear hk HCT
          have HV : Hid (strOf ST = (((⟨#[]⟩ ++ ⟨#[58]⟩) ++ ⟨#[58]⟩) ++ strOf (sdec c))) := by
            show _ = _
            rw [show (⟨#[58]⟩ : ByteArray) = strOf [58] from rfl, show (⟨#[]⟩ : ByteArray) = strOf [] from rfl, strOf_app, strOf_app, strOf_app, unhide HT]
            simp
          clear HT
          have h0 := heap_alloc_new w (Obj.cells #[.int .i64 4, .string name, .bool false, .bool false, .bool true, .int .i64 a, .int .i64 b, .int .i64 c, .slice ad cond.length cp] 46 (0, 0))
          have HBX : Hid (∀ w', Below w.heap.size (w.alloc (Obj.cells #[.int .i64 4, .string name, .bool false, .bool false, .bool true, .int .i64 a, .int .i64 b, .int .i64 c, .slice ad cond.length cp] 46 (0, 0))) w' → True) := fun _ _ => trivial
          clear HBX
          have HCC : Hid (∀ w', Below (w.alloc (Obj.cells #[.int .i64 4, .string name, .bool false, .bool false, .bool true, .int .i64 a, .int .i64 b, .int .i64 c, .slice ad cond.length cp] 46 (0, 0))).heap.size (w.alloc (Obj.cells #[.int .i64 4, .string name, .bool false, .bool false, .bool true, .int .i64 a, .int .i64 b, .int .i64 c, .slice ad cond.length cp] 46 (0, 0))) w' → w'.cell? ⟨w.heap.size, 3, none⟩ = some (.bool false) ∧ w'.cell? ⟨w.heap.size, 4, none⟩ = some (.bool true) ∧ w'.cell? ⟨w.heap.size, 6, none⟩ = some (.int .i64 b) ∧ w'.cell? ⟨w.heap.size, 7, none⟩ = some (.int .i64 c)) := fun w' hx => by
            have h2 := (hx.block _ (Array.getElem?_eq_some_iff.1 h0).1).trans h0
            exact ⟨Lib.cell_of_heap h2 3, Lib.cell_of_heap h2 4, Lib.cell_of_heap h2 6, Lib.cell_of_heap h2 7⟩
          clear h0
          generalize strOf (sdec a) = VA at *
          generalize strOf (sdec b) = VB at *
          generalize strOf (sdec c) = VC at *
          generalize strOf ST = SV at *
          have z0 : (9223372036854775807 < 1 + 1) = False := eq_false (by omega)
          have z1 : (9223372036854775807 < 1 + 1 + VC.size) = False := eq_false (by omega)
          clear la lb lc
          go_enter Tryz.func17, Tryz.ntmps17
          go_wp2_with fail
          refine (unhide HDc _).mono ?_
          rintro e w2 ⟨rfl, b2⟩
          have HX2 := hide b2
          obtain ⟨p13, p14, p16, p17⟩ := unhide HCC _ (unhide HX2)
          clear b2
          go_wp2
          go_ret
          exact ⟨by rw [unhide HV]; rfl, below_next (unhide HB _) (unhide HX2)⟩
        | false =>
          clear hk HCT
          have HV : Hid (strOf ST = (⟨#[]⟩ ++ ⟨#[58]⟩)) := by
            show _ = _
            rw [show (⟨#[58]⟩ : ByteArray) = strOf [58] from rfl, show (⟨#[]⟩ : ByteArray) = strOf [] from rfl, strOf_app, unhide HT]
            simp
          clear HT
          have h0 := heap_alloc_new w (Obj.cells #[.int .i64 4, .string name, .bool false, .bool false, .bool false, .int .i64 a, .int .i64 b, .int .i64 c, .slice ad cond.length cp] 46 (0, 0))
          have HBX : Hid (∀ w', Below w.heap.size (w.alloc (Obj.cells #[.int .i64 4, .string name, .bool false, .bool false, .bool false, .int .i64 a, .int .i64 b, .int .i64 c, .slice ad cond.length cp] 46 (0, 0))) w' → True) := fun _ _ => trivial
          clear HBX
          have HCC : Hid (∀ w', Below (w.alloc (Obj.cells #[.int .i64 4, .string name, .bool false, .bool false, .bool false, .int .i64 a, .int .i64 b, .int .i64 c, .slice ad cond.length cp] 46 (0, 0))).heap.size (w.alloc (Obj.cells #[.int .i64 4, .string name, .bool false, .bool false, .bool false, .int .i64 a, .int .i64 b, .int .i64 c, .slice ad cond.length cp] 46 (0, 0))) w' → w'.cell? ⟨w.heap.size, 3, none⟩ = some (.bool false) ∧ w'.cell? ⟨w.heap.size, 4, none⟩ = some (.bool false) ∧ w'.cell? ⟨w.heap.size, 6, none⟩ = some (.int .i64 b) ∧ w'.cell? ⟨w.heap.size, 7, none⟩ = some (.int .i64 c)) := fun w' hx => by
            have h2 := (hx.block _ (Array.getElem?_eq_some_iff.1 h0).1).trans h0
            exact ⟨Lib.cell_of_heap h2 3, Lib.cell_of_heap h2 4, Lib.cell_of_heap h2 6, Lib.cell_of_heap h2 7⟩
          clear h0
          generalize strOf (sdec a) = VA at *
          generalize strOf (sdec b) = VB at *
          generalize strOf (sdec c) = VC at *
          generalize strOf ST = SV at *
          clear la lb lc
          go_enter Tryz.func17, Tryz.ntmps17
          go_wp2
          go_ret
          exact ⟨by rw [unhide HV]; rfl, unhide HB _⟩
end Go.Proofs.YtiolpmhodbefoaaGreatDoor


namespace Go.Proofs.YtiolpmhodbefoaaGreatDoor
open Go.RowKit

theorem pt_step {a b x : List UInt8} (c : UInt8) (h : b = a ++ (c :: x)) : strOf b = (strOf a ++ strOf [c]) ++ strOf x := by
  rw [strOf_app, strOf_app, h]; simp
set_option maxRecDepth 100000 in
set_option maxHeartbeats 8000000 in
theorem specPathText_walk (v : Value) (ms : List PSeg) (bl : List Nat) (w : World) (h : ORow segE w v ms bl) (hs : szSegs ms ≤ 1048576) :
    Calls Tryz.prog 6 #[v] w fun e w' => e = .returned (.tuple #[.string (ptV ms).1, .bool (ptV ms).2]) ∧ Below w.heap.size w w' := by
  have HOK := hide (specPathOk_walk v ms bl w h hs)
  obtain ⟨a, c, rfl, -, hxa⟩ := h.form
  cases hp : pathOk ms with
  | false =>
    have HV : Hid (ptV ms = (⟨#[]⟩, false)) := by show _ = _; unfold ptV; rw [hp]; rfl
    rw [hp] at HOK
    clear h hxa hs hp
    go_enter Tryz.func6, Tryz.ntmps6
    go_wp2_with fail
    refine (unhide HOK).mono ?_
    rintro e w1 ⟨rfl, b1⟩
    have HB := hide b1
    clear HOK b1
    go_wp2
    go_ret2
    exact ⟨by rw [unhide HV]; rfl, unhide HB⟩
  | true =>
  rw [hp] at HOK
  have hpo := hp
  unfold pathOk at hpo
  simp only [Bool.and_eq_true, decide_eq_true_eq] at hpo
  obtain ⟨hlen, hall⟩ := hpo
  have hsg : ∀ i (hi : i < ms.length), segOk ms[i] = true := fun i hi => List.all_eq_true.1 hall _ (List.getElem_mem hi)
  have hsa : ∀ i (hi : i < ms.length), ms[i].sels.all selOk = true ∧ 1 ≤ ms[i].sels.length ∧ ms[i].sels.length ≤ 1000 := fun i hi => by
    have := hsg i hi
    unfold segOk at this
    simp only [Bool.and_eq_true, decide_eq_true_eq] at this
    exact ⟨this.2, this.1.1, this.1.2⟩
  have hsok : ∀ i (hi : i < ms.length) k (hk : k < ms[i].sels.length), selOk ms[i].sels[k] = true := fun i hi k hk => List.all_eq_true.1 (hsa i hi).1 _ (List.getElem_mem hk)
  have HV : Hid (ptV ms = (strOf (pathU ms ms.length), true)) := by show _ = _; unfold ptV; rw [hp]; rfl
  have HROW : Hid (∀ (wr : World) (i : Nat) (hi : i < ms.length), Below w.heap.size w wr → ∃ g sa sc, a = some ⟨g, 0, none⟩ ∧ (∀ w', Below w.heap.size w w' → w'.cell? ⟨g, i * 2, none⟩ = some (.bool ms[i].deep) ∧ w'.cell? ⟨g, i * 2 + 1, none⟩ = some (.slice sa ms[i].sels.length sc)) ∧
      ∀ (w' : World) (k : Nat) (hk : k < ms[i].sels.length), Below w.heap.size w w' → ∃ g' q, sa = some ⟨g', 0, none⟩ ∧ w'.cell? ⟨g', k * 9, none⟩ = some (.int .i64 ms[i].sels[k].k) ∧ w'.cell? ⟨g', k * 9 + 1, none⟩ = some (.string ms[i].sels[k].name) ∧ w'.cell? ⟨g', k * 9 + 2, none⟩ = some (.bool ms[i].sels[k].hasA) ∧ w'.cell? ⟨g', k * 9 + 3, none⟩ = some (.bool ms[i].sels[k].hasB) ∧ w'.cell? ⟨g', k * 9 + 4, none⟩ = some (.bool ms[i].sels[k].hasC) ∧ w'.cell? ⟨g', k * 9 + 5, none⟩ = some (.int .i64 ms[i].sels[k].a) ∧ w'.cell? ⟨g', k * 9 + 6, none⟩ = some (.int .i64 ms[i].sels[k].b) ∧ w'.cell? ⟨g', k * 9 + 7, none⟩ = some (.int .i64 ms[i].sels[k].c) ∧ w'.cell? ⟨g', k * 9 + 8, none⟩ = some q ∧
        Calls Tryz.prog 17 #[.agg #[.int .i64 ms[i].sels[k].k, .string ms[i].sels[k].name, .bool ms[i].sels[k].hasA, .bool ms[i].sels[k].hasB, .bool ms[i].sels[k].hasC, .int .i64 ms[i].sels[k].a, .int .i64 ms[i].sels[k].b, .int .i64 ms[i].sels[k].c, q]] w' fun e w'' => e = .returned (.string (strOf (selT ms[i].sels[k]))) ∧ Below w'.heap.size w' w'') := by
    intro wr i hi hb
    obtain ⟨g, rfl⟩ := hxa (by omega)
    obtain ⟨vs, ib, hE, hc, -, -, -⟩ := h.at (List.getElem?_eq_getElem hi)
    obtain ⟨q, rfl, hr⟩ := hE
    obtain ⟨sa, sc, rfl, -, hsx⟩ := hr.form
    refine ⟨g, sa, sc, rfl, fun w' hb' => ?_, fun w' k hk hb' => ?_⟩
    · have h0 := (hc 0 _ rfl).1
      have h1 := (hc 1 _ rfl).1
      exact ⟨(hb'.cell (World.block_lt_of_cell? _ _ h0)).trans h0, (hb'.cell (World.block_lt_of_cell? _ _ h1)).trans h1⟩
    · obtain ⟨g', rfl⟩ := hsx (by omega)
      obtain ⟨vs2, ib2, hE2, hc2, -, -, -⟩ := (hr.below hb').at (List.getElem?_eq_getElem hk)
      obtain ⟨q2, rfl, hr2⟩ := hE2
      exact ⟨g', q2, rfl, (hc2 0 _ rfl).1, (hc2 1 _ rfl).1, (hc2 2 _ rfl).1, (hc2 3 _ rfl).1, (hc2 4 _ rfl).1, (hc2 5 _ rfl).1, (hc2 6 _ rfl).1, (hc2 7 _ rfl).1, (hc2 8 _ rfl).1, selText_walk _ q2 ib2 w' hr2 (hsok i hi k hk) (sz_sel (sz_seg hs (List.getElem_mem hi)) (List.getElem_mem hk))⟩
  have HSL : Hid (∀ i (hi : i < ms.length), 1 ≤ ms[i].sels.length ∧ ms[i].sels.length ≤ 1000) := fun i hi => (hsa i hi).2
  have HST : Hid (∀ i (hi : i < ms.length), (pathU ms i ++ deepT ms[i]).length ≤ 40000000 ∧ (∀ k ≤ ms[i].sels.length, ((pathU ms i ++ deepT ms[i]) ++ selsU ms[i].sels k).length ≤ 80000000) ∧ ∀ k (hk : k < ms[i].sels.length), (selT ms[i].sels[k]).length ≤ 20000000) := fun i hi => by
    have h1 := pathU_le hall i
    have h2 : (deepT ms[i]).length ≤ 2 := opt_len (x := [46, 46]) (by simp)
    have hz := sz_seg hs (List.getElem_mem hi)
    refine ⟨by rw [List.length_append]; omega, fun k hk => ?_, fun k hk => ?_⟩
    · have h3 := selsU_le (hsa i hi).1 hk
      rw [List.length_append, List.length_append]
      omega
    · have h4 := selT_len (hsok i hi k hk)
      have h5 := sz_sel hz (List.getElem_mem hk)
      omega
  have HPN : Hid (∀ i (hi : i < ms.length), pathU ms (i + 1) = pathU ms i ++ (deepT ms[i] ++ (selsU ms[i].sels ms[i].sels.length ++ [93]))) := fun i hi => pathU_next hi
  have HU0 : Hid (strOf (pathU ms 0) = ⟨#[36]⟩) := rfl
  have HPL : Hid (∀ i, (strOf (pathU ms i)).size ≤ 40000000) := fun i => by rw [strOf_size]; have := pathU_le hall i; omega
  have hlI : (ms.length : Int) ≤ 1000 := by omega
  clear h hxa hs hall hsg hsa hsok hp
  go_enter Tryz.func6, Tryz.ntmps6
  go_wp2_with fail
  refine (unhide HOK).mono ?_
  rintro e w0 ⟨rfl, b0⟩
  have HB0 := hide b0
  clear HOK b0
  go_wp2_with fail
  go_loopw [4, 5] (fun ov iv wr => ∃ i : Nat, i ≤ ms.length ∧ Hid (ov = .string (strOf (pathU ms i))) ∧ iv = .int .i64 (i : Int) ∧ Below w.heap.size w wr) (fun _ i _ => ms.length - (intOf i).toNat)
  case atStart => exact ⟨0, by omega, by show _ = _; rw [unhide HU0], rfl, unhide HB0⟩
  case round =>
    obtain ⟨i, hi, hov, rfl, hb⟩ := hrel
    obtain rfl := unhide hov
    clear hov
    by_cases hlt : i < ms.length
    · have hltI : (i : Int) < (ms.length : Int) := by omega
      obtain ⟨g, sa, sc, rfl, hc1, hin⟩ := unhide HROW _ i hlt hb
      have HC1 := hide hc1
      have HIN := hide hin
      obtain ⟨n1, n2⟩ := unhide HSL i hlt
      obtain ⟨s1, s2, s3⟩ := unhide HST i hlt
      have HS2 := hide s2
      have HS3 := hide s3
      have HPX := hide (unhide HPN i hlt)
      have hpl := unhide HPL i
      have hsl : (strOf (pathU ms i ++ deepT ms[i])).size ≤ 40000000 := by rw [strOf_size]; exact s1
      have HDP : Hid (ms[i].deep = true → strOf (pathU ms i ++ deepT ms[i]) = strOf (pathU ms i) ++ ⟨#[46, 46]⟩) := fun e => by
        rw [show (⟨#[46, 46]⟩ : ByteArray) = strOf [46, 46] from rfl, strOf_app]; unfold deepT; rw [if_pos e]
      have HDN : Hid (ms[i].deep = false → strOf (pathU ms i ++ deepT ms[i]) = strOf (pathU ms i)) := fun e => by
        unfold deepT; rw [e]; simp
      have HPZ : Hid (strOf (pathU ms (i + 1)) = strOf ((pathU ms i ++ deepT ms[i]) ++ selsU ms[i].sels ms[i].sels.length) ++ ⟨#[93]⟩) := by
        show _ = _
        rw [show (⟨#[93]⟩ : ByteArray) = strOf [93] from rfl, strOf_app, unhide HPX]; simp
      have HSN : Hid (∀ k (hk : k < ms[i].sels.length), strOf ((pathU ms i ++ deepT ms[i]) ++ selsU ms[i].sels (k + 1)) = (strOf ((pathU ms i ++ deepT ms[i]) ++ selsU ms[i].sels k) ++ strOf [if k = 0 then 91 else 44]) ++ strOf (selT ms[i].sels[k])) := fun k hk => pt_step _ (by rw [selsU_next hk]; simp)
      have HS0 : Hid (strOf (pathU ms i ++ deepT ms[i]) = strOf ((pathU ms i ++ deepT ms[i]) ++ selsU ms[i].sels 0)) := by show _ = _; rw [selsU, List.append_nil]
      clear hc1 hin HROW HSL HST HPN s2 s3 s1 HPX
      have HE1 := hide (unhide HC1 _ hb)
      have HBI := hide hb
      clear hb
      generalize ms[i] = G at *
      obtain ⟨W, hW⟩ : ∃ W : Nat → ByteArray, W = fun k => strOf ((pathU ms i ++ deepT G) ++ selsU G.sels k) := ⟨_, rfl⟩
      have hW' : ∀ k, strOf ((pathU ms i ++ deepT G) ++ selsU G.sels k) = W k := fun k => by rw [hW]
      have HWL : Hid (∀ k ≤ G.sels.length, (W k).size ≤ 80000000) := fun k hk => by rw [hW, strOf_size]; exact unhide HS2 k hk
      simp only [hW'] at HPZ HSN HS0
      generalize strOf (pathU ms i ++ deepT G) = DD at *
      generalize strOf (pathU ms i) = PP at *
      clear hW hW' HS2
      have hslI : (G.sels.length : Int) ≤ 1000 := by omega
      have z0 : (9223372036854775807 < PP.size + 2) = False := eq_false (by omega)
      obtain ⟨e0, e1⟩ := unhide HE1
      have HSTEP : Hid (DD = W 0) := HS0
      cases hdp : G.deep
      all_goals
        rw [hdp] at e0
        go_wp2_with fail
        go_loopw [4, 6] (fun ov kv w2 => ∃ k : Nat, k ≤ G.sels.length ∧ Hid (ov = .string (W k)) ∧ kv = .int .i64 (k : Int) ∧ Below w.heap.size w w2) (fun _ k _ => G.sels.length - (intOf k).toNat)
        case atStart => exact ⟨0, by omega, by show _ = _; rw [← unhide HSTEP]; first | rw [unhide HDP hdp] | rw [unhide HDN hdp], rfl, unhide HBI⟩
        case round =>
          obtain ⟨k, hk, hov, rfl, hb2⟩ := hrel
          obtain rfl := unhide hov
          clear hov
          obtain ⟨f0, f1⟩ := unhide HC1 _ hb2
          by_cases hlt2 : k < G.sels.length
          · have hlt2I : (k : Int) < (G.sels.length : Int) := by omega
            obtain ⟨g', q, rfl, d0, d1, d2, d3, d4, d5, d6, d7, d8, hcall⟩ := unhide HIN _ k hlt2 hb2
            have HC := hide hcall
            have HBW := hide hb2
            have hwl := unhide HWL k (by omega)
            have hsl2 : (strOf (selT G.sels[k])).size ≤ 20000000 := by rw [strOf_size]; exact unhide HS3 k hlt2
            have HNX := hide (unhide HSN k hlt2)
            have z1 : (9223372036854775807 < (W k).size + 1) = False := eq_false (by omega)
            have z2 : (9223372036854775807 < (W k).size + 1 + (strOf (selT G.sels[k])).size) = False := eq_false (by omega)
            clear hcall hb2 HSN HIN HS3 HC1 hsl2 hwl HWL
            generalize strOf (selT G.sels[k]) = V at *
            generalize G.sels[k] = P at *
            by_cases hk0 : (k : Int) = 0
            · have HNX2 : Hid (W (k + 1) = (W k ++ ⟨#[91]⟩) ++ V) := by show _ = _; rw [unhide HNX, if_pos (by omega)]; rfl
              have hk0b : ((k : Int) == 0) = true := by simpa using hk0
              clear HNX hk0
              generalize W k = WK at *
              go_wp2_with fail
              refine (unhide HC).mono ?_
              rintro e w1 ⟨rfl, b1⟩
              have HB2 := hide (below_next (unhide HBW) b1)
              clear HC b1 HBW
              go_wp2
              go_roundw
              case rel => exact ⟨k + 1, by omega, by show _ = _; rw [unhide HNX2], by go_num, unhide HB2⟩
              case measure => simp [intOf]; omega
            · have HNX2 : Hid (W (k + 1) = (W k ++ ⟨#[44]⟩) ++ V) := by show _ = _; rw [unhide HNX, if_neg (by omega)]; rfl
              have hk0b : ((k : Int) == 0) = false := by simpa using hk0
              clear HNX hk0
              generalize W k = WK at *
              go_wp2_with fail
              refine (unhide HC).mono ?_
              rintro e w1 ⟨rfl, b1⟩
              have HB2 := hide (below_next (unhide HBW) b1)
              clear HC b1 HBW
              go_wp2
              go_roundw
              case rel => exact ⟨k + 1, by omega, by show _ = _; rw [unhide HNX2], by go_num, unhide HB2⟩
              case measure => simp [intOf]; omega
          · have hke : k = G.sels.length := by omega
            subst hke
            have HBW := hide hb2
            have hwl := unhide HWL G.sels.length (Nat.le_refl _)
            have z1 : (9223372036854775807 < (W G.sels.length).size + 1) = False := eq_false (by omega)
            clear hb2 HSN HIN HS3 HC1 hwl HWL
            generalize W G.sels.length = WK at *
            go_wp2
            go_roundw
            case rel => exact ⟨i + 1, by omega, by show _ = _; rw [unhide HPZ], by go_num, unhide HBW⟩
            case measure => simp [intOf]; omega
    · have hie : i = ms.length := by omega
      subst hie
      have HBW := hide hb
      clear hb HROW HSL HST HPN
      go_wp2
      go_ret2
      exact ⟨by rw [unhide HV]; rfl, unhide HBW⟩
end Go.Proofs.YtiolpmhodbefoaaGreatDoor

