import Derived.Test.YtpaecnbdoljafaaGreatDoorRx9
namespace Go.Proofs.YtpaecnbdoljafaaGreatDoor
open Go.RowKit

theorem flat4 : ∀ (ms : List zk) (i : Nat) (m : zk), i < ms.length → ((((ms.flatMap Jk).set (i * 4) (.int .i64 m.kind)).set (i * 4 + 1) (.string m.path)).set (i * 4 + 2) (.string m.src)).set (i * 4 + 3) (.string m.val) = (ms.set i m).flatMap Jk
  | [], i, m, h => absurd h (by simp)
  | a :: r, 0, m, _ => by simp [Jk]
  | a :: r, i + 1, m, h => by
    have ih := flat4 r i m (by simpa using h)
    have e : ∀ (l : List Value) (j : Nat) (x : Value), (Jk a ++ l).set ((i + 1) * 4 + j) x = Jk a ++ l.set (i * 4 + j) x := fun l j x => by
      rw [List.set_append_right _ _ (by simp [Jk]; omega)]
      congr 2
      simp [Jk]; omega
    have e0 := e (r.flatMap Jk) 0 (.int .i64 m.kind)
    simp only [Nat.add_zero] at e0
    rw [List.flatMap_cons, e0, e, e, e, ih, List.set_cons_succ, List.flatMap_cons]
theorem opr_put {w : World} {B g cap : Nat} {ms : List zk} (h : qX w B (.slice (some ⟨g, 0, none⟩) ms.length cap) ms) {i : Nat} (hi : i < ms.length) (m : zk) :
    qX ((((w.setCell ⟨g, i * 4, none⟩ (.int .i64 m.kind)).setCell ⟨g, i * 4 + 1, none⟩ (.string m.path)).setCell ⟨g, i * 4 + 2, none⟩ (.string m.src)).setCell ⟨g, i * 4 + 3, none⟩ (.string m.val)) B (.slice (some ⟨g, 0, none⟩) ms.length cap) (ms.set i m) := by
  unfold qX at *
  rw [List.length_set, ← flat4 ms i m hi]
  exact ((((h.stored (i * 4) _).1.stored (i * 4 + 1) _).1.stored (i * 4 + 2) _).1.stored (i * 4 + 3) _).1
noncomputable def ops8 (q : List UInt8) : List zk × List UInt8 := KF (Kw (nx q).2).1 8 (Kw (nx q).2).2
def spo8 (k : Nat) (s : List zk × List UInt8) : List zk × List UInt8 := if k % 6 = 5 ∧ 0 < s.1.length then (s.1.set (k / 6 % s.1.length) (spoilT (s.1.getD (k / 6 % s.1.length) ⟨0, ⟨#[]⟩, ⟨#[]⟩, ⟨#[]⟩⟩) s.2).1, (spoilT (s.1.getD (k / 6 % s.1.length) ⟨0, ⟨#[]⟩, ⟨#[]⟩, ⟨#[]⟩⟩) s.2).2) else s
def fill8 (k : Nat) (t : ByteArray) (ms : List zk) : List zk := if k % 24 = 4 then ms ++ List.replicate (99 + k / 24 % 3 - ms.length) ⟨6, ⟨#[]⟩, ⟨#[]⟩, t⟩ else ms
noncomputable def drawT (q : List UInt8) : List zk × List UInt8 := (fill8 (nx q).1 (zi (ct (Kw (nx q).2).1)) (spo8 (nx q).1 (ops8 q)).1, (spo8 (nx q).1 (ops8 q)).2)
theorem dr_y {m : zk} (h : Uf m) : OpY m := by
  refine ⟨h.path, h.src, ?_⟩
  cases hv : zY m.kind with
  | true => obtain ⟨u, e1, _, e3⟩ := h.val hv; rw [e1, zS]; omega
  | false => rw [h.no hv]; decide
theorem OpY.z {m : zk} (h : OpY m) : OpZ m := ⟨by have := h.1; omega, by have := h.2.1; omega, by have := h.2.2; omega⟩
theorem dflt_rd : Zo (zi [123, 34, 97, 34, 58, 91, 49, 44, 50, 44, 123, 34, 98, 34, 58, 110, 117, 108, 108, 125, 93, 125]) = .inr Xp := by rfl
theorem docT_good (q : List UInt8) : Qe (Kw q).1 := Pw dflt_rd
theorem docT_dvg (q : List UInt8) : J1 (Kw q).1 := by
  unfold Kw Gb
  split
  · rename_i v hv; exact J1.of hv
  · exact J1.of dflt_rd
theorem ops8_ok (q : List UInt8) : (∀ m ∈ (ops8 q).1, OpY m) ∧ (ops8 q).1.length ≤ 8 := by
  obtain ⟨h1, h2⟩ := Rn (1 + (nx (Kw (nx q).2).2).1 % 3) 8 0 ((Kw (nx q).2).1, [], (nx (Kw (nx q).2).2).2) (docT_dvg _) ⟨by simp, by simp⟩
  rw [List.length_nil, Nat.zero_add] at h2
  exact ⟨fun m hm => dr_y (h1.dr m hm), h2⟩
theorem spo8_ok {k : Nat} {s : List zk × List UInt8} (h : ∀ m ∈ s.1, OpY m) : (∀ m ∈ (spo8 k s).1, OpZ m) ∧ (spo8 k s).1.length = s.1.length := by
  unfold spo8
  split
  · rename_i hk
    refine ⟨fun m hm => ?_, by simp⟩
    rcases List.mem_or_eq_of_mem_set hm with hm | rfl
    · exact (h m hm).z
    · refine spoilT_z (h _ ?_) _
      have hl : k / 6 % s.1.length < s.1.length := Nat.mod_lt _ hk.2
      rw [List.getD_eq_getElem?_getD, List.getElem?_eq_getElem hl]
      exact List.getElem_mem hl
  · exact ⟨fun m hm => (h m hm).z, rfl⟩
/-- One more operation at the end of a row that the call owns, and where the row lies then. -/
theorem wpList_append_opW {w : World} {ops : Array Oper} {rest : List Oper} {o : Oper} {a : Act} {Q : Exit → Act → World → Prop} (hg : o.guard = none) (s x : Operand)
    (ho : o.op = .call { callee := .builtin .append, args := #[s, x], argTypes := #[27, 27] }) {B : Nat} {v : Value} {ms : List zk} (hs : a.eval s = v)
    (hown : qX w B v ms) {m : zk} {g : Nat} (hx : a.eval x = .slice (some ⟨g, 0, none⟩) 1 1)
    (hcell : ∀ (j : Nat) (u : Value), (Jk m)[j]? = some u → w.cell? ((⟨g, 0, none⟩ : Addr).add j) = some u) (hB : B ≤ w.heap.size) (hl : ms.length ≤ 40000000)
    (hK : ∀ v' w', qX w' B v' (ms ++ [m]) → w.grownBy w' v.ownBlock → (v'.ownBlock = v.ownBlock ∨ v'.ownBlock = some w.heap.size) → wpList Tryz.prog ops Q rest (a.put o.dst v') w') :
    wpList Tryz.prog ops Q (o :: rest) a w := by
  obtain ⟨i0, hi, hz0, hz1, hz2⟩ := info_parts Fx
  obtain ⟨v', w', hr, h2, h3, _⟩ := run_append_own (P := Tryz.prog) w B 27 o.type 59 i0 (.agg #[.int .i64 0, .string ByteArray.empty, .string ByteArray.empty, .string ByteArray.empty]) 4 56 Tryz.underlying27 hi hz0 hz1 hz2 rfl (by decide) v ms.length _ hown ⟨g, 0, none⟩ 1 1 (Jk m) rfl hcell (Fz m) (by unfold maxLen; omega) (by omega) hB
  have h4 := MO (P := Tryz.prog) w (z := .agg #[.int .i64 0, .string ByteArray.empty, .string ByteArray.empty, .string ByteArray.empty]) Tryz.underlying27 hi hz0 (by rw [hz1]; exact hown) (by rw [hz1]; rfl) hcell (Fz m) (by omega) (by unfold maxLen; omega) (by rw [hz2]; omega) hr
  exact Lib.wpList_append_run w hg s x 27 27 ho v _ hs hx v' w' hr (hK v' w' (qX.step h2) h3 h4)
set_option maxRecDepth 100000 in
set_option maxHeartbeats 8000000 in
theorem drawX_walk (B rb : Nat) (q : List UInt8) (w : World) (h : Zy w B rb q) :
    Calls Tryz.prog 54 #[.pointer (some ⟨rb, 0, none⟩)] w fun e w' => ∃ s r, e = .returned (.tuple #[.string s, r]) ∧ qX w' w.heap.size r (drawT q).1 ∧ DX B rb w (drawT q).2 w' := by
  obtain ⟨i0, hi, hz0, hz1, hz2⟩ := info_parts Fx
  have hrb := h.lt
  have hBr := h.ge
  have HX := zh (QS B rb q w h)
  have hx := Qo q
  have HD := zh fun wx (h : Zy wx B rb (nx q).2) => TA B rb (nx q).2 wx h
  have HG : Hid (∀ wx, Zy wx B rb (Kw (nx q).2).2 → Calls Tryz.prog 38 #[.pointer (some ⟨rb, 0, none⟩), .string (zi (ct (Kw (nx q).2).1)), .int .i64 8] wx fun e w' => ∃ r, e = .returned r ∧ qX w' wx.heap.size r (ops8 q).1 ∧ DX B rb wx (ops8 q).2 w') := fun wx hr => Bl B rb (Kw (nx q).2).1 8 (Kw (nx q).2).2 wx hr (docT_dvg _) (by omega)
  obtain ⟨hY, hl8⟩ := ops8_ok q
  have HSZ := zh (spo8_ok (k := (nx q).1) hY)
  have HY := zh hY
  unfold drawT
  clear h hY
  generalize ops8 q = s8 at *
  generalize (nx q).1 = k at *
  generalize (nx q).2 = q1 at *
  generalize zi (ct (Kw q1).1) = tv at *
  generalize (Kw q1).2 = q2 at *
  show Calls Tryz.prog 54 #[.pointer (some ⟨rb, 0, none⟩)] w fun e w' => ∃ s r, e = .returned (.tuple #[.string s, r]) ∧ qX w' w.heap.size r (fill8 k tv (spo8 k s8).1) ∧ DX B rb w (spo8 k s8).2 w'
  generalize hFF : fill8 k tv (spo8 k s8).1 = FF
  generalize hQQ : (spo8 k s8).2 = QQ
  have HFF := zh hFF
  have HQQ := zh hQQ
  clear hFF hQQ
  go_enter Tryz.func54, Tryz.ntmps54
  go_wp2_with fail
  refine (uh HX).mono ?_
  rintro e w1 ⟨rfl, d1⟩
  have HD1 := zh d1
  have HDC := zh (uh HD w1 d1.rd)
  clear HX d1 HD
  go_wp2_with fail
  refine (uh HDC).mono ?_
  rintro e w2 ⟨rfl, d2⟩
  have HD2 := zh ((uh HD1).step d2)
  have HGC := zh (uh HG w2 d2.rd)
  clear HDC d2 HD1 HG
  go_wp2_with fail
  refine (uh HGC).mono ?_
  rintro e w3 ⟨r3, rfl, o3, d3⟩
  have HD3 := zh ((uh HD2).step d3)
  have hz23 := (uh HD2).size
  obtain ⟨xa, xc, rfl, -, hxa⟩ := (qX.orow o3).1.form
  have HO3 : Hid (qX w3 w.heap.size (.slice xa s8.1.length xc) s8.1) := JB o3 hz23
  have HXA := zh hxa
  clear HGC d3 HD2 o3 hxa hz23
  obtain ⟨b1, hb1⟩ : ∃ b : Bool, decide (k % 6 = 5 ∧ 0 < s8.1.length) = b := ⟨_, rfl⟩
  have HB1 := zh hb1
  clear hb1
  go_upto_region 4 with fail
  go_cut [23] from 16 to 23 (fun y wx => y = .bool b1 ∧ w3 = wx)
  case first =>
    have hb := uh HB1
    by_cases h6 : k % 6 = 5
    · have e6 : (k : Int) % 6 = 5 := by omega
      by_cases h0 : 0 < s8.1.length
      · have e0 : (0 : Int) < (s8.1.length : Int) := by omega
        obtain rfl : true = b1 := by rw [← hb]; simp [h6, h0]
        clear hb h6 h0
        generalize s8.1.length = n8 at *
        go_wp2
        go_meet
        case rel => exact ⟨by first | rfl | (congr 1; simp; omega), rfl⟩
      · have e0 : ((0 : Int) < (s8.1.length : Int)) = False := eq_false (by omega)
        have e1 : (0 < s8.1.length) = False := eq_false h0
        obtain rfl : false = b1 := by rw [← hb]; simp [h0]
        clear hb h6 h0
        generalize s8.1.length = n8 at *
        go_wp2
        go_meet
        case rel => exact ⟨by first | rfl | simp, rfl⟩
    · have e6 : ((k : Int) % 6 == 5) = false := by simp only [beq_eq_false_iff_ne, ne_eq]; omega
      obtain rfl : false = b1 := by rw [← hb]; simp [h6]
      clear hb h6
      go_wp2
      go_meet
      case rel => exact ⟨rfl, rfl⟩
  obtain ⟨rfl, rfl⟩ := hcut
  go_upto_if 23 with fail
  go_cut [7] from 24 to 37 (fun _ wx => qX wx w.heap.size (.slice xa s8.1.length xc) (spo8 k s8).1 ∧ DX B rb w (spo8 k s8).2 wx)
  case first =>
    have hb := uh HB1
    cases b1 with
    | false =>
      have HE : Hid (spo8 k s8 = s8) := by show _ = _; unfold spo8; rw [if_neg (of_decide_eq_false hb)]
      clear hb
      go_wp2
      go_meet
      case rel => rw [uh HE]; exact ⟨uh HO3, uh HD3⟩
    | true =>
      have hk := of_decide_eq_true hb
      have hE : spo8 k s8 = (s8.1.set (k / 6 % s8.1.length) (spoilT (s8.1.getD (k / 6 % s8.1.length) ⟨0, ⟨#[]⟩, ⟨#[]⟩, ⟨#[]⟩⟩) s8.2).1, (spoilT (s8.1.getD (k / 6 % s8.1.length) ⟨0, ⟨#[]⟩, ⟨#[]⟩, ⟨#[]⟩⟩) s8.2).2) := by unfold spo8; rw [if_pos hk]
      have hk6 : (k : Int) / 6 = ((k / 6 : Nat) : Int) := by omega
      have hq : ((k / 6 : Nat) : Int) % (s8.1.length : Int) = ((k / 6 % s8.1.length : Nat) : Int) := by simp
      have hql : k / 6 % s8.1.length < s8.1.length := Nat.mod_lt _ hk.2
      have hsn : (s8.1.length : Int) ≠ 0 := by omega
      generalize k / 6 = k6 at *
      generalize k6 % s8.1.length = i at *
      have hqI : (i : Int) < (s8.1.length : Int) := by omega
      obtain ⟨g, rfl⟩ := uh HXA hk.2
      obtain ⟨vs, ib, hEE, hc, -⟩ := (qX.orow (uh HO3)).1.at (List.getElem?_eq_getElem hql)
      obtain ⟨rfl, -⟩ := hEE
      have hgd : s8.1.getD i ⟨0, ⟨#[]⟩, ⟨#[]⟩, ⟨#[]⟩⟩ = s8.1[i] := by rw [List.getD_eq_getElem?_getD, List.getElem?_eq_getElem hql]; rfl
      rw [hgd] at hE
      have c0 : w3.cell? ⟨g, i * 4, none⟩ = some (.int .i64 s8.1[i].kind) := (hc 0 _ rfl).1
      have c1 : w3.cell? ⟨g, i * 4 + 1, none⟩ = some (.string s8.1[i].path) := (hc 1 _ rfl).1
      have c2 : w3.cell? ⟨g, i * 4 + 2, none⟩ = some (.string s8.1[i].src) := (hc 2 _ rfl).1
      have c3 : w3.cell? ⟨g, i * 4 + 3, none⟩ = some (.string s8.1[i].val) := (hc 3 _ rfl).1
      have HS := zh (spoilX_walk B rb s8.1[i] s8.2 w3 (uh HD3).rd (uh HY _ (List.getElem_mem hql)))
      have HE := zh hE
      have HGL : Hid (w.heap.size ≤ g) := (World.ownsRow.lt (uh HO3) g rfl).1
      clear hc hgd hE hb hk
      generalize s8.1[i] = o at *
      generalize spoilT o s8.2 = R at *
      obtain ⟨o', q'⟩ := R
      go_wp2_with fail
      refine (uh HS).mono ?_
      rintro e w4 ⟨rfl, d4⟩
      have HO4 : Hid (qX w4 w.heap.size (.slice (some ⟨g, 0, none⟩) s8.1.length xc) s8.1) := GO (uh HO3) d4.gr (fun j e => by injection e with e; omega)
      have HD4 := zh ((uh HD3).step d4)
      obtain ⟨vs, ib, hEE, hc, -⟩ := (qX.orow (uh HO4)).1.at (List.getElem?_eq_getElem hql)
      obtain ⟨rfl, -⟩ := hEE
      have c0' := hc 0 _ rfl
      have c1' := hc 1 _ rfl
      have c2' := hc 2 _ rfl
      have c3' := hc 3 _ rfl
      obtain ⟨a0, b0⟩ := c0'
      obtain ⟨a1, b1'⟩ := c1'
      obtain ⟨a2, b2⟩ := c2'
      obtain ⟨a3, b3⟩ := c3'
      simp only [V9, Nat.add_zero] at a0 b0 a1 b1' a2 b2 a3 b3
      have HPUT := zh (opr_put (uh HO4) hql o')
      have hgl := uh HGL
      have HDP : Hid (DX B rb w q' ((((w4.setCell ⟨g, i * 4, none⟩ (.int .i64 o'.kind)).setCell ⟨g, i * 4 + 1, none⟩ (.string o'.path)).setCell ⟨g, i * 4 + 2, none⟩ (.string o'.src)).setCell ⟨g, i * 4 + 3, none⟩ (.string o'.val))) := (((((uh HD4).set (by omega) hgl _).set (by omega) hgl _).set (by omega) hgl _).set (by omega) hgl _)
      clear hc HS d4 c0 c1 c2 c3 hgl
      go_wp2
      go_meet
      case rel => rw [uh HE]; exact ⟨uh HPUT, uh HDP⟩
  obtain ⟨hO, hD⟩ := hcut
  have HO := zh hO
  have HD := zh hD
  obtain ⟨hZ, hsl⟩ := uh HSZ
  rw [← hsl] at HO hl8
  clear hO hD HO3 HD3 HB1 HY HSZ HXA hZ
  generalize spo8 k s8 = S8 at *
  obtain ⟨ms, q4⟩ := S8
  simp only at HO HD hl8 hsl
  have hff := uh HFF
  have hqq := uh HQQ
  simp only at hff hqq
  subst hqq
  unfold fill8 at hff
  clear HFF HQQ
  by_cases h24 : k % 24 = 4
  · have e24 : (k : Int) % 24 = 4 := by omega
    rw [if_pos h24] at hff
    have hM : (k : Int) / 24 % 3 = ((k / 24 % 3 : Nat) : Int) := by omega
    have hM2 : k / 24 % 3 ≤ 2 := by omega
    generalize k / 24 % 3 = m3 at *
    have hM3 : 99 + (m3 : Int) = ((99 + m3 : Nat) : Int) := by omega
    have hMb : 99 + m3 ≤ 101 := by omega
    have hMl : 99 ≤ 99 + m3 := by omega
    generalize 99 + m3 = M at *
    have HFF := zh hff
    have hA := ZJ wc (.cells (qo ⟨6, ⟨#[]⟩, ⟨#[]⟩, tv⟩) 59)
    have k8 : Zv (wc.alloc (.cells (qo ⟨6, ⟨#[]⟩, ⟨#[]⟩, tv⟩) 59)) wc.heap.size ⟨6, ⟨#[]⟩, ⟨#[]⟩, tv⟩ := heap_alloc_new wc _
    have HO8 : Hid (qX (wc.alloc (.cells (qo ⟨6, ⟨#[]⟩, ⟨#[]⟩, tv⟩) 59)) w.heap.size (.slice xa ms.length xc) ms) := ZI (uh HO) hA
    have HD8 := zh ((uh HD).below hA)
    have HK8 := zh k8
    have HNE : Hid (∀ b, (Value.slice xa ms.length xc).ownBlock = some b → b ≠ wc.heap.size) := fun b hb => by have := (World.ownsRow.lt (uh HO) b hb).2; omega
    rw [← hsl]
    clear hA k8 HO HD hff h24 hsl
    go_wp2_with fail
    generalize wc.heap.size = g8 at *
    generalize wc.alloc _ = w8 at *
    try simp only [e24]
    go_loopw [6] (fun r wr => ∃ (j : Nat) (ra : Option Addr) (rc : Nat), r = .slice ra (ms.length + j) rc ∧ ms.length + j ≤ M ∧ qX wr w.heap.size (.slice ra (ms.length + j) rc) (ms ++ List.replicate j ⟨6, ⟨#[]⟩, ⟨#[]⟩, tv⟩) ∧ DX B rb w q4 wr ∧ Zv wr g8 ⟨6, ⟨#[]⟩, ⟨#[]⟩, tv⟩ ∧ (∀ b, (Value.slice ra (ms.length + j) rc).ownBlock = some b → b ≠ g8)) (fun r _ => M - (match r with | .slice _ n _ => n | _ => 0))
    case atStart => exact ⟨0, xa, xc, rfl, by omega, by simpa using uh HO8, uh HD8, uh HK8, uh HNE⟩
    case round =>
      obtain ⟨j, ra, rc, rfl, hj, hO, hD, hK, hne⟩ := hrel
      clear HO8 HD8 HK8 HNE
      have hLl : (ms ++ List.replicate j (⟨6, ⟨#[]⟩, ⟨#[]⟩, tv⟩ : zk)).length = ms.length + j := by simp
      have hLs : (ms ++ List.replicate j (⟨6, ⟨#[]⟩, ⟨#[]⟩, tv⟩ : zk)) ++ [⟨6, ⟨#[]⟩, ⟨#[]⟩, tv⟩] = ms ++ List.replicate (j + 1) ⟨6, ⟨#[]⟩, ⟨#[]⟩, tv⟩ := by rw [List.replicate_succ', List.append_assoc]
      have HLS := zh hLs
      have HLL := zh hLl
      have HFJ : Hid (ms.length + j = M → FF = ms ++ List.replicate j ⟨6, ⟨#[]⟩, ⟨#[]⟩, tv⟩) := fun h => by rw [← uh HFF, ← h, Nat.add_sub_cancel_left]
      clear hLs hLl HFF
      generalize ms ++ List.replicate j (⟨6, ⟨#[]⟩, ⟨#[]⟩, tv⟩ : zk) = L at *
      obtain ⟨n, hn⟩ : ∃ n, ms.length + j = n := ⟨_, rfl⟩
      rw [hn] at hO hne hj HFJ HLL ⊢
      by_cases hlt : n < M
      · have hltI : (n : Int) < (M : Int) := by omega
        obtain ⟨c0, c1, c2, c3⟩ := hK.c
        have hA := ZJ wr (.cells (qo ⟨6, ⟨#[]⟩, ⟨#[]⟩, tv⟩) 59)
        have HRW := zh (ZI hO hA)
        have HKM := zh (hK.below hA)
        have HDM := zh (hD.below hA)
        have HLM := zh (Fy wr ⟨6, ⟨#[]⟩, ⟨#[]⟩, tv⟩)
        have HNE := zh hne
        have HGE := zh (hD.below hA).size
        have hLz : L.length ≤ 40000000 := by have := uh HLL; omega
        have HGL : Hid (g8 < (wr.alloc (.cells (qo ⟨6, ⟨#[]⟩, ⟨#[]⟩, tv⟩) 59)).heap.size) := (hK.below hA).lt
        have HGL2 : Hid (g8 < wr.heap.size + 1) := Nat.lt_succ_of_lt hK.lt
        have HHN := zh hn
        clear hO hD hK hne hA HFJ hn
        go_wp2_with (at_builtin; refine wpList_append_opW rfl (.tmp 50) (.tmp 52) rfl rfl (uh HRW) (m := ⟨6, ⟨#[]⟩, ⟨#[]⟩, tv⟩) (g := wr.heap.size) rfl (uh HLM) (uh HGE) hLz ?_)
        generalize wr.alloc _ = wM at *
        intro l6 w6 o6 g6 gx6
        have o7 : qX w6 w.heap.size l6 (ms ++ List.replicate (j + 1) ⟨6, ⟨#[]⟩, ⟨#[]⟩, tv⟩) := by rw [← uh HLS]; exact o6
        obtain ⟨ya, yc, rfl⟩ := WP o7
        have hlo := fun b hb => ((uh HRW).lt b hb).1
        have HD6 : Hid (DX B rb w q4 w6) := ⟨(uh HDM).rd.grown g6 (fun e => by have := hlo rb e.symm; omega) (fun b hb => by have := hlo b hb; omega), VT (uh HDM).gr g6 hlo⟩
        have HK6 : Hid (Zv w6 g8 ⟨6, ⟨#[]⟩, ⟨#[]⟩, tv⟩) := (g6.block g8 (uh HGL) (fun e => uh HNE g8 e.symm rfl)).trans (uh HKM)
        have hln : (ms ++ List.replicate (j + 1) (⟨6, ⟨#[]⟩, ⟨#[]⟩, tv⟩ : zk)).length = ms.length + (j + 1) := by simp
        have HO7 := zh o7
        rw [hln] at HO7 gx6
        have HN6 : Hid (∀ b, (Value.slice ya (ms.length + (j + 1)) yc).ownBlock = some b → b ≠ g8) := fun b hb => by
          rcases gx6 with e | e
          · rw [e] at hb; exact uh HNE b hb
          · rw [e] at hb; rw [← Option.some.inj hb]; exact Nat.ne_of_gt (uh HGL2)
        have HLN := zh hln
        clear o6 o7 g6 gx6 hlo HRW HKM HDM HLM HNE HGE HGL HGL2 hln
        go_wp2
        go_roundw
        case rel => exact ⟨j + 1, ya, yc, by rw [uh HLN], by have := uh HHN; omega, uh HO7, uh HD6, uh HK6, uh HN6⟩
        case measure => have := uh HHN; simp; omega
      · have hltI : ((n : Int) < (M : Int)) = False := eq_false (by omega)
        have hF := uh HFJ (by omega)
        have HF := zh hF
        have HO9 := zh hO
        have HD9 := zh hD
        clear hO hD hK hne HFJ hF hlt
        go_wp2
        go_ret2
        exact ⟨tv, _, rfl, by rw [uh HF]; exact uh HO9, uh HD9⟩
  · have e24 : ((k : Int) % 24 == 4) = false := by simp only [beq_eq_false_iff_ne, ne_eq]; omega
    rw [if_neg h24] at hff
    subst hff
    have HO2 := zh (uh HO)
    rw [hsl] at HO2
    clear h24 HO
    go_wp2
    go_ret2
    exact ⟨tv, _, rfl, uh HO2, uh HD⟩
end Go.Proofs.YtpaecnbdoljafaaGreatDoor
