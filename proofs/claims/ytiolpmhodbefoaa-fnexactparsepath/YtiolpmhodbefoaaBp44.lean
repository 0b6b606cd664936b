import Derived.Test.YtiolpmhodbefoaaBp42
import Derived.Test.YtiolpmhodbefoaaBp43
import Derived.Test.YtiolpmhodbefoaaBp31
namespace Go.Proofs.Ytiolpmhodbefoaa
open Go.RowKit

/-- An append of several elements, in a drawn region. -/
theorem stp_apps {α : Type} {e : Elem α} {t : TypeId} (K : EK e t) {w : World} {ops : Array Oper} {o : Oper} {a : Act} {Kt : Act → World → Prop} {Q : Exit → Act → World → Prop} {F : Prop} (hg : o.guard = none) (s x : Operand)
    (ho : o.op = .call { callee := .builtin .append, args := #[s, x], argTypes := #[t, t] }) {B : Nat} {v : Value} {xs : List α} {bl : List Nat} (hs : a.eval s = v) (h : ORow e w v xs bl) (hF : Fsh B bl)
    {qs : List (List Value × List Nat)} {ys : List α} (hql : qs.length = ys.length) (h0 : 0 < ys.length) (hE : ∀ (j : Nat) (p : List Value × List Nat) (y : α), qs[j]? = some p → ys[j]? = some y → e.E w p.1 y p.2) (hFi : Fsh B (qs.flatMap (·.2))) (hap : ∀ b ∈ qs.flatMap (·.2), b ∉ bl)
    {g c : Nat} (hx : a.eval x = .slice (some ⟨g, 0, none⟩) ys.length c) (hcell : ∀ (j : Nat) (u : Value), (qs.flatMap (·.1))[j]? = some u → w.cell? ((⟨g, 0, none⟩ : Addr).add j) = some u) (h1 : ∀ u ∈ qs.flatMap (·.1), u.oneCell' = true) (hB : B ≤ w.heap.size) (hl : xs.length + ys.length ≤ 40000000)
    (hK : ∀ v' w' bl', Appd e B w w' v v' bl (qs.flatMap (·.2)) bl' (xs ++ ys) → Kt (a.put o.dst v') w') :
    if Region.wanted o (yielded ops a.tmps) = true then Oper.wp Try.prog o a w Kt Q else F := by
  have hw : Region.wanted o (yielded ops a.tmps) = true := by simp [Region.wanted, hg]
  rw [if_pos hw]
  obtain ⟨v', w', bl', hr, hA⟩ := run_app K w o.type h hF hql h0 hE hFi hap (g := g) (c := c) hcell h1 hB hl
  exact wp_append_run s x t ho hs hx hr (hK v' w' bl' hA)
/-- What a reader that appends operations answers. -/
def TRd (rb : Nat) (s : ByteArray) (i : Nat) (d' : Nat → Int) (w : World) (B : Nat) (ops : List PFOp) (bl : List Nat) (R : Option (XC × Bs)) (e : Ending) (w' : World) : Prop :=
  Fr (rb :: bl) w w' ∧ (R = none → e = mis) ∧ ∀ x t, R = some (x, t) → ∃ (j : Nat) (v' : Value) (bl' : List Nat), t = dr s j ∧ i ≤ j ∧ j ≤ s.size ∧ PRd rb s j (d' x.2) w' ∧ e = .returned v' ∧ ORow fopE w' v' (ops ++ x.1) bl' ∧ Fsh B bl' ∧ ∀ b ∈ bl', b ∈ bl ∨ w.heap.size ≤ b
theorem KB.fr {rb : Nat} {w w' : World} (h : KB rb w w') (bl : List Nat) : Fr (rb :: bl) w w' := ⟨h.os, h.tape, h.output, h.size, fun k hk hn => h.block k hk fun e => hn (by rw [e]; simp)⟩
theorem Fr.below3 {bl : List Nat} {a a1 c : World} (h : Fr bl a a1) (hb : Below a.heap.size a1 c) : Fr bl a c :=
  ⟨hb.os.trans h.os, hb.tape.trans h.tape, hb.output.trans h.output, Nat.le_trans h.size hb.size, fun k hk hn => (hb.block k hk).trans (h.block k hk hn)⟩
theorem Fr.appd {α : Type} {e : Elem α} {rb B : Nat} {w w5 w6 : World} {v v' : Value} {xs zs : List α} {bl ib bl' : List Nat} (h : Fr (rb :: bl) w w5) (hA : Appd e B w5 w6 v v' bl ib bl' zs) (h0 : ORow e w5 v xs bl) : Fr (rb :: bl) w w6 :=
  h.trans' (hA.fr h0) fun _ hb => .inl (List.mem_cons_of_mem _ hb)
set_option maxRecDepth 100000 in
set_option maxHeartbeats 8000000 in
theorem rTest (rb : Nat) (s : ByteArray) (i : Nat) (d : Int) (w : World) (B : Nat) (v : Value) (ops : List PFOp) (bl : List Nat) (h : PRd rb s i d w) (hs : s.size ≤ 1048576) (hi : i ≤ s.size) (hrow : ORow fopE w v ops bl) (hF : Fsh B bl) (hB : B ≤ w.heap.size) (hrB : rb < B) (hN : ops.length + 3 ≤ 10000000) :
    Calls Try.prog 118 #[.pointer (some ⟨rb, 0, none⟩), v] w (TRd rb s i (fun _ => d) w B ops bl ((pTest (dr s i)).map fun p => ((p.1, 0), p.2))) := by
  have hlt := h.lt
  have HO := hide (rOperand rb s i d w h hs hi)
  have HOB := hide (fun (j : Nat) (w : World) (hj : j ≤ s.size) h => rOperand rb s j d w h hs hj)
  have HCP := hide (fun (j : Nat) (w : World) (hj : j ≤ s.size) h => rComp rb s j d w h hs hj)
  have HROW := hide hrow
  have HF := hide hF
  have HLT := hide hrow.lt
  have HNB : Hid (rb ∉ bl) := fun hb => by have := hF.2 _ hb; omega
  obtain ⟨va, vc, rfl, -, -⟩ := hrow.form
  have HV : Hid (pTest (dr s i) = match pOpd (dr s i) with
    | none => none
    | some (a, t) => match pCmp t with
      | some (n, u) => match pOpd u with
        | none => none
        | some (b, v) => some ([a, b, cmO n], v)
      | none => if a.k = 6 then some ([{ a with k := 8 }], t) else none) := rfl
  clear h hrow hF
  go_enter Try.func118, Try.ntmps118
  go_wp2_with fail
  refine (unhide HO).mono ?_
  rintro e w1 ⟨k1, hno, hyes⟩
  clear HO
  cases hp : pOpd (dr s i) with
  | none =>
    obtain rfl := hno hp
    exact ⟨rfl, k1.fr bl, fun _ => rfl, fun x t h => by rw [unhide HV, hp] at h; cases h⟩
  | some z =>
    obtain ⟨a, t⟩ := z
    obtain ⟨j1, hj1, hj2, hj3, r1, qv, ba, rfl, rowa, fsha⟩ := hyes a t hp
    subst hj1
    obtain ⟨qa, qc, rfl, -, -⟩ := rowa.form
    have hz1 := k1.size
    have hal := al_b w1 (.cells #[.int .i64 a.k, .int .i64 a.n, .string a.s, .bool a.root, .slice qa a.steps.length qc] 65)
    have K2 : FB (w1.alloc (.cells #[.int .i64 a.k, .int .i64 a.n, .string a.s, .bool a.root, .slice qa a.steps.length qc] 65)) w1.heap.size a.k a.n a.s a.root (.slice qa a.steps.length qc) := heap_alloc_new w1 _
    have KB2 := hide (k1.trans (KB.of_below hal))
    have HROW2 := hide (((unhide HROW).kb k1 (unhide HNB)).below hal)
    have HROA := hide (rowa.below hal)
    have HFA := hide fsha
    have HK2 := hide K2
    have HC2 := hide (unhide HCP j1 _ hj3 (r1.below hal))
    have hz2 : (w1.alloc (.cells #[.int .i64 a.k, .int .i64 a.n, .string a.s, .bool a.root, .slice qa a.steps.length qc] 65)).heap.size = w1.heap.size + 1 := by simp
    have HV2 : Hid (pTest (dr s i) = match pCmp (dr s j1) with
      | some (n, u) => match pOpd u with
        | none => none
        | some (b, v) => some ([a, b, cmO n], v)
      | none => if a.k = 6 then some ([{ a with k := 8 }], dr s j1) else none) := by show _ = _; rw [unhide HV, hp]
    have HLA := hide rowa.lt
    have HNA : Hid (rb ∉ ba) := fun hb => by have := fsha.2 _ hb; omega
    clear hno hyes hp k1 r1 rowa fsha K2 hal HV HROW HCP
    go_wp2_with fail
    generalize (w1.alloc (.cells #[.int .i64 a.k, .int .i64 a.n, .string a.s, .bool a.root, .slice qa a.steps.length qc] 65)) = w2 at *
    refine (unhide HC2).mono ?_
    rintro e w3 ⟨k3, hno, hyes⟩
    have hz3 := k3.size
    have KB3 := hide ((unhide KB2).trans k3)
    have HROW3 := hide ((unhide HROW2).kb k3 (unhide HNB))
    have HROA3 := hide ((unhide HROA).kb k3 (unhide HNA))
    have HK3 := hide ((unhide HK2).kb k3 (by omega))
    clear HC2 HROW2 HROA HK2 KB2 k3
    cases hp : pCmp (dr s j1) with
    | none =>
      obtain ⟨rfl, r3⟩ := hno hp
      have HR3 := hide r3
      have HV3 : Hid (pTest (dr s i) = if a.k = 6 then some ([{ a with k := 8 }], dr s j1) else none) := by show _ = _; rw [unhide HV2, hp]
      obtain ⟨c0, c1, c2, c3, c4⟩ := (unhide HK3).c
      obtain ⟨f0, f1, f2, f3, f4⟩ := (unhide HK3).fz
      clear hno hyes hp r3 HV2
      by_cases h6 : a.k = 6
      · have n6 : (a.k != 6) = false := by rw [h6]; rfl
        have HV4 : Hid (pTest (dr s i) = some ([{ a with k := 8 }], dr s j1)) := by show _ = _; rw [unhide HV3, if_pos h6]
        have K4 := (unhide HK3).set0 8
        have hG : w1.heap.size < w3.heap.size := (unhide HK3).lt
        have hnG : w1.heap.size ∉ bl := fun hb => by have := unhide HLT _ hb; omega
        have hnA : w1.heap.size ∉ ba := fun hb => by have := unhide HLA _ hb; omega
        have hal := al_b (w3.setCell ⟨w1.heap.size, 0, none⟩ (.int .i64 8)) (.cells #[.int .i64 8, .int .i64 a.n, .string a.s, .bool a.root, .slice qa a.steps.length qc] 65)
        have HB5 : Hid (Below w.heap.size w3 ((w3.setCell ⟨w1.heap.size, 0, none⟩ (.int .i64 8)).alloc (.cells #[.int .i64 8, .int .i64 a.n, .string a.s, .bool a.root, .slice qa a.steps.length qc] 65))) := ((Below.refl _ _).setCell (by show _ ≤ w1.heap.size; omega) _).trans (hal.mono (by show _ ≤ (World.setCell _ _ _).heap.size; simp [World.setCell]; omega))
        have HR5 : Hid (PRd rb s j1 d ((w3.setCell ⟨w1.heap.size, 0, none⟩ (.int .i64 8)).alloc (.cells #[.int .i64 8, .int .i64 a.n, .string a.s, .bool a.root, .slice qa a.steps.length qc] 65))) := (unhide HR3).below' (unhide HB5) hlt
        have ROW5 := hide (((unhide HROW3).set hnG (.int .i64 8)).below hal)
        have EL := hide (show fopE.E ((w3.setCell ⟨w1.heap.size, 0, none⟩ (.int .i64 8)).alloc (.cells #[.int .i64 8, .int .i64 a.n, .string a.s, .bool a.root, .slice qa a.steps.length qc] 65)) [.int .i64 8, .int .i64 a.n, .string a.s, .bool a.root, .slice qa a.steps.length qc] { a with k := 8 } ba from ⟨_, rfl, ((unhide HROA3).set hnA (.int .i64 8)).below hal⟩)
        have FI := hide ((unhide HFA).mono (show B ≤ w.heap.size by omega))
        have AP : Hid (∀ b ∈ ba, b ∉ bl) := fun b hb hbl => by have h1 := (unhide HFA).2 b hb; have h2 := unhide HLT b hbl; omega
        obtain ⟨k0, k1, k2, k3, k4⟩ := K4.c
        have hz4 : (w3.setCell ⟨w1.heap.size, 0, none⟩ (.int .i64 8)).heap.size = w3.heap.size := by simp [World.setCell]
        clear h6 hal K4
        go_upto_region 8 with fail
        generalize (w3.setCell ⟨w1.heap.size, 0, none⟩ (.int .i64 8)) = w4 at *
        have hB4 : B ≤ w4.heap.size := by omega
        have hw4 : w.heap.size ≤ w4.heap.size := by omega
        clear hz4
        go_wp2_with (at_builtin; refine wpl_app1 ekFOp rfl (.tmp 30) (.tmp 32) rfl rfl (unhide ROW5) (unhide HF) (vs := [.int .i64 8, .int .i64 a.n, .string a.s, .bool a.root, .slice qa a.steps.length qc]) (y := { a with k := 8 }) (unhide EL) (unhide FI) (unhide AP) rfl (by exact lit_cells w4 [_, _, _, _, _] _) (fop_one _ _ _ _ _ _ _) (by simp; omega) (by omega) ?_)
        intro v6 w6 bl6 hA
        have HA := hide hA
        obtain ⟨za, zc, rfl, -, -⟩ := hA.row.form
        clear hA
        go_wp2
        go_ret
        have hA := unhide HA
        refine ⟨(((unhide KB3).fr bl).below3 (unhide HB5)).appd hA (unhide ROW5), fun h => (by rw [unhide HV4] at h; cases h), fun x t h => ?_⟩
        rw [unhide HV4] at h
        injection h with h
        injection h with h1 h2
        subst h1; subst h2
        refine ⟨j1, _, bl6, rfl, hj2, hj3, (hA.block (unhide ROW5) (unhide HR5).lt (unhide HNB)).trans (unhide HR5), rfl, hA.row, hA.fsh, fun b hb => ?_⟩
        rcases hA.sub b hb with h1 | h1 | h1
        · exact .inl h1
        · right; have := (unhide HFA).2 b h1; omega
        · right; rw [h1]; simp; omega
      · have n6 : (a.k != 6) = true := by rw [bne_iff_ne]; exact h6
        have HF4 : Hid (pTest (dr s i) = none) := by show _ = _; rw [unhide HV3, if_neg h6]
        clear h6
        go_wp2
        exact ⟨rfl, (unhide KB3).fr bl, fun _ => rfl, fun x t h => by rw [unhide HF4] at h; cases h⟩
    | some q =>
      obtain ⟨n, u⟩ := q
      obtain ⟨j2, hj4, hj5, hj6, r3, rfl⟩ := hyes n u hp
      subst hj4
      have HV3 : Hid (pTest (dr s i) = match pOpd (dr s j2) with
        | none => none
        | some (b, v) => some ([a, b, cmO n], v)) := by show _ = _; rw [unhide HV2, hp]
      have HC4 := hide (unhide HOB j2 w3.drew hj6 r3)
      obtain ⟨c0, c1, c2, c3, c4⟩ := (show FB w3.drew w1.heap.size a.k a.n a.s a.root (.slice qa a.steps.length qc) from unhide HK3).c
      clear hno hyes hp r3 HV2 HOB
      cases hp : pOpd (dr s j2) with
      | none =>
        have HF4 : Hid (pTest (dr s i) = none) := by show _ = _; rw [unhide HV3, hp]
        have HP := hide hp
        clear hp HV3
        go_wp2
        refine wp_region_any (by kernel_rfl) ?_
        try (change wpAny _ _ _ _ _ _ _ (World.drew _))
        refine wpAny_take (i := 0) (v := ?_) rfl (by kernel_rfl) (by kernel_rfl) (by kernel_rfl) (fun _ _ _ h => h) (Or.inl ⟨by rfl, ?_⟩) ?_
        rotate_left 1
        · intro w
          go_simp
          try with_reducible rfl
        refine wpAny_take (i := 2) (v := ?_) rfl (by kernel_rfl) (by kernel_rfl) (by kernel_rfl) (fun _ _ _ h => h) (Or.inl ⟨by rfl, ?_⟩) ?_
        rotate_left 1
        · intro w
          go_simp
          try with_reducible rfl
        refine wpAny_take (i := 4) (v := ?_) rfl (by kernel_rfl) (by kernel_rfl) (by kernel_rfl) (fun _ _ _ h => h) (Or.inl ⟨by rfl, ?_⟩) ?_
        rotate_left 1
        · intro w
          go_simp
          try with_reducible rfl
        refine wpAny_take (i := 5) (v := ?_) rfl (by kernel_rfl) (by kernel_rfl) (by kernel_rfl) (fun _ _ _ h => h) (Or.inl ⟨by rfl, ?_⟩) ?_
        rotate_left 1
        · intro w
          go_simp
          try with_reducible rfl
        refine wpAny_ready (rs := [1, 3]) (by kernel_rfl) (by simp) ?_
        refine AllReady.cons rfl (fun K hK => ?_) ?_
        · go_simp
          refine hK _ _ ?_
          clear hK K
          refine wpAny_ready (rs := [3]) (by kernel_rfl) (by simp) ?_
          refine AllReady.cons rfl (fun K hK => ?_) AllReady.nil
          go_simp
          refine (unhide HC4).mono ?_
          rintro e w9 ⟨k9, hno, -⟩
          obtain rfl := hno (unhide HP)
          exact ⟨rfl, (((unhide KB3).drew).trans k9).fr bl, fun _ => rfl, fun x t h => by rw [unhide HF4] at h; cases h⟩
        · refine AllReady.cons rfl (fun K hK => ?_) AllReady.nil
          go_simp
          refine (unhide HC4).mono ?_
          rintro e w9 ⟨k9, hno, -⟩
          obtain rfl := hno (unhide HP)
          exact ⟨rfl, (((unhide KB3).drew).trans k9).fr bl, fun _ => rfl, fun x t h => by rw [unhide HF4] at h; cases h⟩
      | some q =>
        obtain ⟨b, t4⟩ := q
        have HP := hide hp
        have HKD3 : Hid (KB rb w w3.drew) := (unhide KB3).drew
        have hz3d : w3.drew.heap.size = w3.heap.size := rfl
        have HKF : Hid (FB w3.drew w1.heap.size a.k a.n a.s a.root (.slice qa a.steps.length qc)) := unhide HK3
        have HRW : Hid (ORow fopE w3.drew (.slice va ops.length vc) ops bl) := (unhide HROW3).drew 1
        have HRA : Hid (ORow stepE w3.drew (.slice qa a.steps.length qc) a.steps ba) := (unhide HROA3).drew 1
        clear hp HK3 HROW3 HROA3 KB3
        go_wp2
        go_region_law (first
          | (refine stp_apps ekFOp rfl (.tmp 16) (.tmp 22) rfl rfl (unhide RW7) (unhide HF) (qs := [([.int .i64 a.k, .int .i64 a.n, .string a.s, .bool a.root, .slice qa a.steps.length qc], ba), ([.int .i64 b.k, .int .i64 b.n, .string b.s, .bool b.root, .slice ya b.steps.length yc], bb), ([.int .i64 9, .int .i64 n, .string ⟨#[]⟩, .bool false, .slice none 0 0], ([] : List Nat))]) (ys := [a, b, cmO n]) rfl (by simp) (unhide EL) (by rw [unhide HFL]; exact unhide FI) (by rw [unhide HFL]; exact unhide AP) rfl (by exact lit_cells w5 [_, _, _, _, _, _, _, _, _, _, _, _, _, _, _] _) (unhide ONE) (by simp; omega) (by simp; omega) ?_
             intro v6 w6 bl6 hA
             have HA := hide hA
             obtain ⟨za, zc, hza, -, -⟩ := hA.row.form
             rw [show (ops ++ [a, b, cmO n]).length = ops.length + 3 by simp] at hza
             subst hza
             clear hA)
          | (go_simp; refine (unhide HC4).mono ?_
             rintro e w5 ⟨k5, -, hyes⟩
             obtain ⟨j3, hj7, hj8, hj9, r5, qv, bb, rfl, rowb, fshb⟩ := hyes b t4 (unhide HP)
             obtain ⟨ya, yc, rfl, -, -⟩ := rowb.form
             have hz5 := k5.size
             have hal := al_b w5 (.cells #[.int .i64 a.k, .int .i64 a.n, .string a.s, .bool a.root, .slice qa a.steps.length qc, .int .i64 b.k, .int .i64 b.n, .string b.s, .bool b.root, .slice ya b.steps.length yc, .int .i64 9, .int .i64 n, .string ⟨#[]⟩, .bool false, .slice none 0 0] 65)
             obtain ⟨e0, e1, e2, e3, e4⟩ := ((unhide HKF).kb k5 (by omega)).c
             have RW7 := hide (((unhide HRW).kb k5 (unhide HNB)).below hal)
             have RA7 := ((unhide HRA).kb k5 (unhide HNA)).below hal
             have RB7 := rowb.below hal
             have KB7 := hide (((unhide HKD3).trans k5).trans (KB.of_below hal))
             have HR7 := hide (r5.below hal)
             have EL : Hid (∀ (j : Nat) (p : List Value × List Nat) (y : PFOp), [([.int .i64 a.k, .int .i64 a.n, .string a.s, .bool a.root, .slice qa a.steps.length qc], ba), ([.int .i64 b.k, .int .i64 b.n, .string b.s, .bool b.root, .slice ya b.steps.length yc], bb), ([.int .i64 9, .int .i64 n, .string ⟨#[]⟩, .bool false, .slice none 0 0], ([] : List Nat))][j]? = some p → [a, b, cmO n][j]? = some y → fopE.E (w5.alloc (.cells #[.int .i64 a.k, .int .i64 a.n, .string a.s, .bool a.root, .slice qa a.steps.length qc, .int .i64 b.k, .int .i64 b.n, .string b.s, .bool b.root, .slice ya b.steps.length yc, .int .i64 9, .int .i64 n, .string ⟨#[]⟩, .bool false, .slice none 0 0] 65)) p.1 y p.2) := fun j p y h1 h2 => by
               match j, h1, h2 with
               | 0, h1, h2 => simp at h1 h2; subst h1; subst h2; exact ⟨_, rfl, RA7⟩
               | 1, h1, h2 => simp at h1 h2; subst h1; subst h2; exact ⟨_, rfl, RB7⟩
               | 2, h1, h2 => simp at h1 h2; subst h1; subst h2; exact fopE_lit _ _ _ _
               | j + 3, h1, h2 => simp at h1
             have hfl : ([([.int .i64 a.k, .int .i64 a.n, .string a.s, .bool a.root, .slice qa a.steps.length qc], ba), ([.int .i64 b.k, .int .i64 b.n, .string b.s, .bool b.root, .slice ya b.steps.length yc], bb), ([.int .i64 9, .int .i64 n, .string ⟨#[]⟩, .bool false, .slice none 0 0], ([] : List Nat))] : List (List Value × List Nat)).flatMap (·.2) = ba ++ bb := by simp
             have HFL := hide hfl
             have FI : Hid (Fsh B (ba ++ bb)) := ((unhide HFA).mono (by omega)).app (fun x hx => by have := unhide HLA x hx; omega) fshb (by omega)
             have AP : Hid (∀ x ∈ ba ++ bb, x ∉ bl) := fun x hb hbl => by
               have h2 := unhide HLT x hbl
               rcases List.mem_append.1 hb with hb | hb
               · have h1 := (unhide HFA).2 x hb; omega
               · have h1 := fshb.2 x hb; omega
             have ONE : Hid (∀ u ∈ ([([.int .i64 a.k, .int .i64 a.n, .string a.s, .bool a.root, .slice qa a.steps.length qc], ba), ([.int .i64 b.k, .int .i64 b.n, .string b.s, .bool b.root, .slice ya b.steps.length yc], bb), ([.int .i64 9, .int .i64 n, .string ⟨#[]⟩, .bool false, .slice none 0 0], ([] : List Nat))] : List (List Value × List Nat)).flatMap (·.1), u.oneCell' = true) := by
               intro u hu
               simp at hu
               rcases hu with rfl | rfl | rfl | rfl | rfl | rfl | rfl | rfl | rfl | rfl | rfl | rfl | rfl | rfl | rfl <;> rfl
             have FB5 := hide fshb
             have HJ7 := hide hj7
             clear hfl RA7 RB7 rowb fshb k5 r5 hyes hal))
        all_goals
          go_wp2
          go_ret
          have hA := unhide HA
          have HV4 : pTest (dr s i) = some ([a, b, cmO n], t4) := by rw [unhide HV3, unhide HP]
          refine ⟨((unhide KB7).fr bl).appd hA (unhide RW7), fun h => (by rw [HV4] at h; cases h), fun x t h => ?_⟩
          rw [HV4] at h
          injection h with h
          injection h with h1 h2
          subst h1; subst h2
          refine ⟨j3, _, bl6, unhide HJ7, by omega, hj9, (hA.block (unhide RW7) (unhide HR7).lt (unhide HNB)).trans (unhide HR7), rfl, hA.row, hA.fsh, fun x hx => ?_⟩
          rcases hA.sub x hx with h1 | h1 | h1
          · exact .inl h1
          · rw [unhide HFL] at h1
            right
            rcases List.mem_append.1 h1 with h1 | h1
            · have := (unhide HFA).2 x h1; omega
            · have := (unhide FB5).2 x h1; omega
          · right; rw [h1]; simp; omega
end Go.Proofs.Ytiolpmhodbefoaa


namespace Go.Proofs.Ytiolpmhodbefoaa
open Go.RowKit

theorem PRd.deep {rb : Nat} {s : ByteArray} {i : Nat} {d : Int} {w : World} (h : PRd rb s i d w) : w.cell? ⟨rb, 2, none⟩ = some (.int .i64 d) ∧ w.frozen? ⟨rb, 2, none⟩ = false := ⟨Lib.cell_of_heap h 2, Lib.frozen_of_heap h 2⟩
theorem PRd.setD {rb : Nat} {s : ByteArray} {i : Nat} {d : Int} {w : World} (h : PRd rb s i d w) (d' : Int) : PRd rb s i d' (w.setCell ⟨rb, 2, none⟩ (.int .i64 d')) := Go.heap_setCell_same w rb 2 _ 56 _ h
/-- What is read is not more than what was there. -/
def SmallP (f : Bs → Option (XC × Bs)) : Prop := ∀ l x t, f l = some (x, t) → x.1.length + 3 * t.length ≤ 3 * l.length ∧ x.2 + t.length ≤ l.length
theorem Fit.small {f : Bs → Option (XC × Bs)} {g : Bs → Option XC} {E P : UInt8 → Bool} (h : Fit f g E P) (hg : Small g) : SmallP f := fun l x t hf => by
  obtain ⟨s, hs, hx, -⟩ := h.got hf
  have := hg s x hx
  rw [hs, List.length_append]
  omega
theorem pPr_small (n : Nat) : SmallP (pPr n) := (fit_pr n).small (sPr_len n)
theorem pCj_small (n : Nat) : SmallP (pCj n) := (fit_pr n).cj.small (sJoin_len (sPr_len n) 10 38)
/-- A reader of conditions. -/
def Reads (F : FuncId) (rb : Nat) (s : ByteArray) (f : Bs → Option (XC × Bs)) (n : Nat) : Prop := ∀ (i : Nat) (d : Int) (nest : Nat) (w : World) (B : Nat) (v : Value) (ops : List PFOp) (bl : List Nat), PRd rb s i d w → i ≤ s.size → s.size - i < n → ORow fopE w v ops bl → Fsh B bl → B ≤ w.heap.size → rb < B → ops.length + 3 * (s.size - i) + 3 ≤ 10000000 → nest + (s.size - i) ≤ 5000000 →
  Calls Try.prog F #[.pointer (some ⟨rb, 0, none⟩), v, .int .i64 (nest : Int)] w (TRd rb s i (fun x => max d ((nest + x : Nat) : Int)) w B ops bl (f (dr s i)))
/-- Several under way. -/
structure MS (rb : Nat) (s : ByteArray) (i : Nat) (d : Int) (nest : Nat) (w : World) (B : Nat) (ops : List PFOp) (bl : List Nat) (wr : World) (ov : Value) (x : XC) (j : Nat) (bc : List Nat) : Prop where
  fr : Fr (rb :: bl) w wr
  rd : PRd rb s j (max d ((nest + x.2 : Nat) : Int)) wr
  row : ORow fopE wr ov (ops ++ x.1) bc
  fsh : Fsh B bc
  new : ∀ b ∈ bc, b ∈ bl ∨ w.heap.size ≤ b
  nb : rb < B
  le : i ≤ j ∧ j ≤ s.size
section
variable {rb : Nat} {s : ByteArray} {i : Nat} {d : Int} {nest : Nat} {w : World} {B : Nat} {ops : List PFOp} {bl : List Nat} {wr : World} {ov : Value} {x : XC} {j : Nat} {bc : List Nat}
theorem MS.far (h : MS rb s i d nest w B ops bl wr ov x j bc) : rb ∉ bc := fun hb => by have := h.fsh.2 _ hb; have := h.nb; omega
theorem MS.kb (h : MS rb s i d nest w B ops bl wr ov x j bc) {w2 : World} {j2 : Nat} (hk : KB rb wr w2) (hr : PRd rb s j2 (max d ((nest + x.2 : Nat) : Int)) w2) (h1 : j ≤ j2) (h2 : j2 ≤ s.size) : MS rb s i d nest w B ops bl w2 ov x j2 bc :=
  ⟨h.fr.trans' (hk.fr []) (fun b hb => .inl (by simp at hb; simp [hb])), hr, h.row.kb hk h.far, h.fsh, h.new, h.nb, by have := h.le; omega⟩
theorem MS.call (h : MS rb s i d nest w B ops bl wr ov x j bc) {w2 : World} {v2 : Value} {y : XC} {b2 : List Nat} {j2 : Nat} (hf : Fr (rb :: bc) wr w2) (hr : PRd rb s j2 (max (max d ((nest + x.2 : Nat) : Int)) ((nest + y.2 : Nat) : Int)) w2) (row : ORow fopE w2 v2 (ops ++ x.1 ++ y.1) b2) (fsh : Fsh B b2) (new : ∀ b ∈ b2, b ∈ bc ∨ wr.heap.size ≤ b) (h1 : j ≤ j2) (h2 : j2 ≤ s.size) :
    MS rb s i d nest w B ops bl w2 v2 (x.1 ++ y.1, max x.2 y.2) j2 b2 := by
  have hsz := h.fr.size
  refine ⟨h.fr.trans' hf fun b hb => ?_, ?_, by rw [← List.append_assoc]; exact row, fsh, fun b hb => ?_, h.nb, by have := h.le; omega⟩
  · rcases List.mem_cons.1 hb with rfl | hb
    · left; simp
    · rcases h.new b hb with h3 | h3
      · left; exact List.mem_cons_of_mem _ h3
      · right; exact h3
  · have e : max (max d ((nest + x.2 : Nat) : Int)) ((nest + y.2 : Nat) : Int) = max d ((nest + max x.2 y.2 : Nat) : Int) := by omega
    rw [e] at hr
    exact hr
  · rcases new b hb with h3 | h3
    · exact h.new b h3
    · right; omega
theorem MS.app (h : MS rb s i d nest w B ops bl wr ov x j bc) {w5 w2 : World} {v2 : Value} {b2 : List Nat} {k : Int} (hb : Below wr.heap.size wr w5) (hA : Appd fopE B w5 w2 ov v2 bc [] b2 ((ops ++ x.1) ++ [opK k])) : MS rb s i d nest w B ops bl w2 v2 (x.1 ++ [opK k], x.2) j b2 := by
  have hsz := h.fr.size
  have hsz2 := hb.size
  have hrow := h.row.below hb
  refine ⟨?_, (hA.block hrow (h.rd.below hb).lt h.far).trans (h.rd.below hb), by rw [← List.append_assoc]; exact hA.row, hA.fsh, fun b hb2 => ?_, h.nb, h.le⟩
  · refine (h.fr.next hb).trans' (hA.fr hrow) fun b hb => ?_
    rcases h.new b hb with h3 | h3
    · left; exact List.mem_cons_of_mem _ h3
    · right; exact h3
  · rcases hA.sub b hb2 with h3 | h3 | h3
    · exact h.new b h3
    · simp at h3
    · right; omega
theorem MS.done (h : MS rb s i d nest w B ops bl wr ov x j bc) {R : Option (XC × Bs)} (hR : R = some (x, dr s j)) : TRd rb s i (fun x => max d ((nest + x : Nat) : Int)) w B ops bl R (.returned ov) wr := by
  refine ⟨h.fr, fun e => (by rw [hR] at e; cases e), fun y t e => ?_⟩
  rw [hR] at e
  injection e with e
  injection e with e1 e2
  subst e1; subst e2
  exact ⟨j, ov, bc, rfl, h.le.1, h.le.2, h.rd, rfl, h.row, h.fsh, h.new⟩
theorem MS.bad {w2 : World} (hf : Fr (rb :: bl) w w2) {D : Nat → Int} {R : Option (XC × Bs)} (hR : R = none) : TRd rb s i D w B ops bl R mis w2 := ⟨hf, fun _ => rfl, fun y t e => by rw [hR] at e; cases e⟩
end
/-- What is left of several. -/
def MU (f : Bs → Option (XC × Bs)) (c : UInt8) (k : Int) (s : ByteArray) (R : Option (XC × Bs)) (x : XC) (j : Nat) : Prop := ∃ m, (dr s j).length < m ∧ R = pTail f c k m x (dr s j)
section
variable {f : Bs → Option (XC × Bs)} {c : UInt8} {k : Int} {s : ByteArray} {R : Option (XC × Bs)} {x : XC} {j : Nat}
theorem MU.fin (h : MU f c k s R x j) (hc : ¬ bt s j = c.toNat) : R = some (x, dr s j) := by
  obtain ⟨m, hm, hR⟩ := h
  obtain ⟨q, rfl⟩ : ∃ q, m = q + 1 := ⟨m - 1, by omega⟩
  by_cases hj : j < s.size
  · rw [hR, dr_at hj, pTail_con, if_neg (bt_ne hj c hc)]
  · rw [hR, dr_end (by omega), pTail_nil]
theorem MU.one (h : MU f c k s R x j) (h0 : c.toNat ≠ 0) (hc : bt s j = c.toNat) (hd : ¬ bt s (j + 1) = c.toNat) : R = none := by
  obtain ⟨m, hm, hR⟩ := h
  obtain ⟨q, rfl⟩ : ∃ q, m = q + 1 := ⟨m - 1, by omega⟩
  obtain ⟨hj, hcc⟩ := bt_is c hc h0
  rw [hR, dr_at hj, pTail_con, if_pos hcc]
  by_cases hj2 : j + 1 < s.size
  · rw [dr_at hj2]; simp only; rw [if_neg (bt_ne hj2 c hd)]
  · rw [dr_end (by omega)]
theorem MU.two (h : MU f c k s R x j) (h0 : c.toNat ≠ 0) (hc : bt s j = c.toNat) (hd : bt s (j + 1) = c.toNat) : (f (dr s (j + 2)) = none → R = none) ∧ ∀ y q, f (dr s (j + 2)) = some (y, dr s q) → j + 2 ≤ q → q ≤ s.size → MU f c k s R (joinX k x y) q := by
  obtain ⟨m, hm, hR⟩ := h
  obtain ⟨m, rfl⟩ : ∃ q, m = q + 1 := ⟨m - 1, by omega⟩
  obtain ⟨hj, hcc⟩ := bt_is c hc h0
  obtain ⟨hj2, hcd⟩ := bt_is c hd h0
  have e : R = match f (dr s (j + 2)) with
      | none => none
      | some (y, u) => pTail f c k m (joinX k x y) u := by
    rw [hR, dr_at hj, pTail_con, if_pos hcc, dr_at hj2]; simp only; rw [if_pos hcd]
    rfl
  refine ⟨fun hn => by rw [e, hn], fun y q hy hq1 hq2 => ⟨m, by rw [dr_len] at hm ⊢; omega, by rw [e, hy]⟩⟩
end
end Go.Proofs.Ytiolpmhodbefoaa

