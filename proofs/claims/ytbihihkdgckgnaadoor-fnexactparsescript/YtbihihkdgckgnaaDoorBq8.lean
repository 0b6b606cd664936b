import Derived.Test.YtbihihkdgckgnaaDoorBq7
import Derived.Test.YtbihihkdgckgnaaDoorBq2
namespace Go.Proofs.YtbihihkdgckgnaaDoor
open Go.RowKit

/-- Picks read so far: two bytes a pick. -/
def PkAt (r : List UInt8) (i : Nat) (ns : List Int) : Prop := picksT r = (picksT (r.drop i)).map (ns ++ ·)
theorem PkAt.start (r : List UInt8) : PkAt r 0 [] := by unfold PkAt; simp
theorem drop_two {r : List UInt8} {i : Nat} (h : i + 1 < r.length) : r.drop i = r[i] :: r[i + 1] :: r.drop (i + 2) := by
  rw [← List.getElem_cons_drop (h := by omega), ← List.getElem_cons_drop (h := h)]
theorem PkAt.step {r : List UInt8} {i : Nat} {ns : List Int} (h : PkAt r i ns) (hi : i + 1 < r.length) (h0 : r[i] = 32) {n : Int} (hn : pickB r[i + 1] = some n) : PkAt r (i + 2) (ns ++ [n]) := by
  unfold PkAt at h ⊢
  rw [h, drop_two hi, picksT, if_pos h0, hn]
  simp only [Option.bind_some, Option.map_map]
  cases picksT (r.drop (i + 2)) <;> simp
theorem PkAt.bad {r : List UInt8} {i : Nat} {ns : List Int} (h : PkAt r i ns) (hi : i + 1 < r.length) (hb : r[i] ≠ 32 ∨ pickB r[i + 1] = none) : picksT r = none := by
  unfold PkAt at h
  rw [h, drop_two hi, picksT]
  rcases hb with hb | hb
  · rw [if_neg hb]; rfl
  · split
    · rw [hb]; rfl
    · rfl
theorem PkAt.fin {r : List UInt8} {i : Nat} {ns : List Int} (h : PkAt r i ns) (hi : r.length ≤ i) : picksT r = some ns := by
  unfold PkAt at h
  rw [h, List.drop_eq_nil_of_le hi, picksT]; simp
theorem picksT_odd : ∀ (r : List UInt8), r.length % 2 = 1 → picksT r = none
  | [], h => by simp at h
  | [_], _ => by rw [picksT]
  | b :: c :: r, h => by
    rw [picksT]
    have := picksT_odd r (by simp at h; omega)
    rw [this]
    split
    · cases pickB c <;> rfl
    · rfl
set_option maxHeartbeats 8000000 in
set_option maxRecDepth 100000 in
theorem picks6_walk (s : ByteArray) (w : World) (hs : s.size ≤ 1048576) : Calls Tryd.prog 12 #[.string s] w (PicksR (lineP s.data.toList) w) := by
  have hds := data_len s
  have HR := hide (rest_walk s ⟨#[112, 105, 99, 107, 115]⟩ (w.alloc (Obj.cells #[] 3)) hs (by decide))
  have HO : Hid (OI (w.alloc (.cells #[] 3)) w.heap.size (.slice (some ⟨w.heap.size, 0, none⟩) 0 0) []) := World.ownsRow_lit (base := w.heap.size) (e := 3) (size := 1) w #[] 0 (Nat.le_refl _) (by unfold maxLen; omega) rfl
  have HB0 : Hid (Below w.heap.size w (w.alloc (.cells #[] 3))) := al_b w _
  have hlit : (⟨#[112, 105, 99, 107, 115]⟩ : ByteArray).data.toList = [112, 105, 99, 107, 115] := rfl
  rw [hlit] at HR
  have HLP : Hid (lineP s.data.toList = (strip [112, 105, 99, 107, 115] s.data.toList).bind picksT) := rfl
  generalize lineP s.data.toList = LP at *
  cases hst : strip [112, 105, 99, 107, 115] s.data.toList with
  | none =>
    rw [hst] at HR HLP
    have HV : Hid (LP = none) := unhide HLP
    clear hst hlit HLP hds
    go_enter Tryd.func12, Tryd.ntmps12
    go_wp2_with fail
    refine (unhide HR).mono ?_
    rintro e w2 ⟨rfl, rfl⟩
    clear HR
    go_wp2
    go_ret2
    exact ⟨_, _, _, by rw [unhide HV]; rfl, unhide HB0, fun ps hp => by rw [unhide HV] at hp; cases hp⟩
  | some r =>
    have hrl : r.length ≤ 1048576 := by
      have := congrArg List.length (strip_some hst)
      rw [List.length_append] at this
      omega
    have HV : Hid (LP = picksT r) := by show _ = _; rw [unhide HLP, hst]; rfl
    rw [hst] at HR
    have HR2 : Hid (Calls Tryd.prog 10 #[.string s, .string ⟨#[112, 105, 99, 107, 115]⟩] (w.alloc (Obj.cells #[] 3)) fun e w' => e = .returned (.tuple #[.string (baT r), .bool true]) ∧ (w.alloc (Obj.cells #[] 3)) = w') := unhide HR
    have hbs : (baT r).size = r.length := rfl
    clear hst hlit HLP HR hds
    have HAT : Hid (∀ k (hk : k < (baT r).size), r[k]? = some (baT r)[k]) := fun k hk => getElem_data (baT r) k hk
    by_cases hodd : r.length % 2 = 1
    · have HV2 : Hid (LP = none) := by show _ = _; rw [unhide HV, picksT_odd r hodd]
      have t1 : (((baT r).size : Int) % 2 == 1) = true := by rw [hbs, beq_iff_eq]; omega
      generalize baT r = T at *
      clear HV hodd HAT hbs
      go_enter Tryd.func12, Tryd.ntmps12
      go_wp2_with fail
      refine (unhide HR2).mono ?_
      rintro e w2 ⟨rfl, rfl⟩
      clear HR2
      go_wp2
      go_ret2
      exact ⟨_, _, _, by rw [unhide HV2]; rfl, unhide HB0, fun ps hp => by rw [unhide HV2] at hp; cases hp⟩
    · have t1 : (((baT r).size : Int) % 2 == 1) = false := by rw [hbs, beq_eq_false_iff_ne]; omega
      have HEV := hide hodd
      have HBS := hide hbs
      have hTs : (baT r).size ≤ 1048576 := by omega
      generalize baT r = T at *
      clear hodd hbs
      go_enter Tryd.func12, Tryd.ntmps12
      go_wp2_with fail
      refine (unhide HR2).mono ?_
      rintro e w2 ⟨rfl, rfl⟩
      clear HR2
      go_wp2
      go_loopw [4, 7] (fun v iv wr => ∃ (i : Nat) (ns : List Int), i ≤ T.size ∧ i % 2 = 0 ∧ iv = .int .i64 (i : Int) ∧ ns.length ≤ i ∧ Hid (OI wr w.heap.size v ns) ∧ Hid (Below w.heap.size w wr) ∧ Hid (PkAt r i ns)) (fun _ i _ => T.size - (intOf i).toNat)
      case atStart => exact ⟨0, [], Nat.zero_le _, rfl, rfl, Nat.le_refl _, unhide HO, unhide HB0, PkAt.start r⟩
      case round =>
        obtain ⟨i, ns, hi, hie, rfl, hnl, hO, hb, hpk⟩ := hrel
        obtain ⟨vx, vy, vz, rfl⟩ := own_slice3 (unhide hO)
        clear HO HB0
        by_cases hlt : i < T.size
        · have hlt1 : i + 1 < T.size := by have h1 := unhide HEV; have h2 := unhide HBS; omega
          have hltI : (i : Int) < (T.size : Int) := by omega
          have hltJ : (i : Int) + 1 < (T.size : Int) := by omega
          have hr1 : i + 1 < r.length := by have h2 := unhide HBS; omega
          have ha : r[i]'(by omega) = T[i] := by
            have := unhide HAT i hlt
            rw [List.getElem?_eq_getElem (by omega)] at this
            injection this
          have hc : r[i + 1]'hr1 = T[i + 1] := by
            have := unhide HAT (i + 1) hlt1
            rw [List.getElem?_eq_getElem hr1] at this
            injection this
          have HBD : Hid ((T[i] ≠ 32 ∨ pickB T[i + 1] = none) → LP = none) := fun h => by rw [unhide HV]; exact (unhide hpk).bad hr1 (by rw [ha, hc]; exact h)
          have HST : Hid (∀ n, T[i] = 32 → pickB T[i + 1] = some n → PkAt r (i + 2) (ns ++ [n])) := fun n h1 h2 => (unhide hpk).step hr1 (by rw [ha]; exact h1) (by rw [hc]; exact h2)
          have hws := (unhide hb).size
          have HOA : Hid (∀ o, OI (wr.alloc o) w.heap.size (.slice vx vy vz) ns) := fun o => own_below (unhide hO) (al_b wr o)
          have HCL : Hid (∀ u, (wr.alloc (Obj.cells #[u] 3)).cell? ⟨wr.heap.size, 0, none⟩ = some u) := fun u => Lib.cell_of_heap (heap_alloc_new wr (Obj.cells #[u] 3)) 0
          have e32 : (32 : UInt8).toNat = 32 := rfl
          have e100 : (100 : UInt8).toNat = 100 := rfl
          clear hpk HAT ha hc hr1
          by_cases h32 : T[i] = 32
          · have t2 : ((T[i].toNat : Int) != 32) = false := by rw [h32]; rfl
            by_cases h100 : T[i + 1] = 100
            · have t3 : ((T[i + 1].toNat : Int) != 100) = false := by rw [h100]; rfl
              have t4 : ((T[i + 1].toNat : Int) == 100) = true := by rw [h100]; rfl
              have HPK := hide (unhide HST 8 h32 (by rw [h100]; rfl))
              clear HST HBD h32 h100 e32 e100
              go_wp2_with (at_builtin; refine wpList_append_int rfl (.tmp 53) (.tmp 54) rfl rfl (unhide HOA _) rfl (unhide HCL _) (by simp; omega) (by omega) ?_)
              intro v' w3 hO3 hg3
              have HO3 := hide hO3
              have HB3 : Hid (Below w.heap.size w w3) := ((unhide hb).trans ((al_b wr _).mono hws)).grown hg3 (by simp; omega) (fun q hq => ((unhide HOA (Obj.cells #[.int .i64 8] 3)).lt q hq).1)
              clear hO3 hg3 HOA HCL hb hO
              go_wp2
              go_roundw
              case rel => exact ⟨i + 2, ns ++ [8], by omega, by omega, by go_num, by rw [List.length_append]; simp; omega, HO3, HB3, HPK⟩
              case measure => simp [intOf]; omega
            · have t3 : ((T[i + 1].toNat : Int) != 100) = true := by
                rw [bne_iff_ne]; intro e; exact h100 (UInt8.toNat_inj.1 (by omega))
              have t4 : ((T[i + 1].toNat : Int) == 100) = false := by
                rw [beq_eq_false_iff_ne]; intro e; exact h100 (UInt8.toNat_inj.1 (by omega))
              by_cases hd : 48 ≤ T[i + 1].toNat ∧ T[i + 1].toNat ≤ 55
              · have HPK := hide (unhide HST ((T[i + 1].toNat - 48 : Nat) : Int) h32 (by unfold pickB; rw [if_neg h100, if_pos hd]))
                have t5 : ((T[i + 1].toNat : Int) < 48) = False := eq_false (by omega)
                have t6 : ((55 : Int) < (T[i + 1].toNat : Int)) = False := eq_false (by omega)
                have hb1 : (48 : Int) ≤ (T[i + 1].toNat : Int) := by omega
                have hb2 : (T[i + 1].toNat : Int) ≤ 55 := by omega
                have HNN : Hid (((T[i + 1].toNat - 48 : Nat) : Int) = (T[i + 1].toNat : Int) - 48) := by show _ = _; omega
                rw [unhide HNN] at HPK
                clear HST HBD h32 h100 e32 e100 hd HNN
                go_wp2_with (at_builtin; refine wpList_append_int rfl (.tmp 56) (.tmp 60) rfl rfl (unhide HOA _) rfl (unhide HCL _) (by simp; omega) (by omega) ?_)
                intro v' w3 hO3 hg3
                have HO3 := hide hO3
                have HB3 : Hid (Below w.heap.size w w3) := ((unhide hb).trans ((al_b wr _).mono hws)).grown hg3 (by simp; omega) (fun q hq => ((unhide HOA (Obj.cells #[.int .i64 ((T[i + 1].toNat : Int) - 48)] 3)).lt q hq).1)
                clear hO3 hg3 HOA HCL hb hO
                go_wp2
                go_roundw
                case rel => exact ⟨i + 2, ns ++ [((T[i + 1].toNat : Int) - 48)], by omega, by omega, by go_num, by rw [List.length_append]; simp; omega, HO3, HB3, HPK⟩
                case measure => simp [intOf]; omega
              · have HV2 := hide (unhide HBD (.inr (by unfold pickB; rw [if_neg h100, if_neg hd])))
                clear HST HBD h32 h100 e32 e100 HOA HCL
                by_cases hlo : T[i + 1].toNat < 48
                · have t5 : ((T[i + 1].toNat : Int) < 48) = True := eq_true (by omega)
                  clear hd hlo
                  go_wp2
                  go_ret2
                  exact ⟨_, _, _, by rw [unhide HV2]; rfl, unhide hb, fun ps hp => by rw [unhide HV2] at hp; cases hp⟩
                · have t5 : ((T[i + 1].toNat : Int) < 48) = False := eq_false (by omega)
                  have t6 : ((55 : Int) < (T[i + 1].toNat : Int)) = True := eq_true (by omega)
                  clear hd hlo
                  go_wp2
                  go_ret2
                  exact ⟨_, _, _, by rw [unhide HV2]; rfl, unhide hb, fun ps hp => by rw [unhide HV2] at hp; cases hp⟩
          · have t2 : ((T[i].toNat : Int) != 32) = true := by
              rw [bne_iff_ne]; intro e; exact h32 (UInt8.toNat_inj.1 (by omega))
            have HV2 := hide (unhide HBD (.inl h32))
            clear HST HBD h32 e32 e100 HOA HCL
            go_wp2
            go_ret2
            exact ⟨_, _, _, by rw [unhide HV2]; rfl, unhide hb, fun ps hp => by rw [unhide HV2] at hp; cases hp⟩
        · have HV2 : Hid (LP = some ns) := by show _ = _; rw [unhide HV]; exact (unhide hpk).fin (by have := unhide HBS; omega)
          have hltI : ¬ (i : Int) < (T.size : Int) := by omega
          clear hpk HV HAT
          go_wp2
          go_ret2
          exact ⟨_, _, _, by rw [unhide HV2]; rfl, unhide hb, fun ps hp => by rw [unhide HV2] at hp; injection hp with hp; subst hp; exact unhide hO⟩
end Go.Proofs.YtbihihkdgckgnaaDoor


namespace Go.Proofs.YtbihihkdgckgnaaDoor
open Go.RowKit

theorem al2_at (w : World) (o1 o2 : Obj) : ((w.alloc o1).alloc o2).heap[w.heap.size]? = some o1 ∧ Below w.heap.size w ((w.alloc o1).alloc o2) :=
  ⟨((al_b _ o2).block _ (by simp)).trans (heap_alloc_new w o1), below_next (al_b w _) (al_b _ _)⟩
theorem al3_at (w : World) (o1 o2 o3 : Obj) : (((w.alloc o1).alloc o2).alloc o3).heap[w.heap.size]? = some o1 ∧ Below w.heap.size w (((w.alloc o1).alloc o2).alloc o3) :=
  ⟨((al_b _ o3).block _ (Nat.lt_of_lt_of_le (Array.getElem?_eq_some_iff.1 (al2_at w o1 o2).1).1 (Nat.le_refl _))).trans (al2_at w o1 o2).1, below_next (al2_at w o1 o2).2 (al_b _ _)⟩
theorem callT_of {l : List UInt8} (h : 2 ≤ l.length) : callT l = if l[1] = 32 then (clientB l[0]).bind fun cl => callR cl (l.drop 2) else none := by
  match l, h with
  | c :: b :: r, _ => rfl
theorem callT_few {l : List UInt8} (h : l.length < 3) : callT l = none := by
  match l, h with
  | [], _ => rfl
  | [_], _ => rfl
  | [c, b], _ =>
    show (if b = 32 then (clientB c).bind (fun cl => callR cl []) else none) = none
    split
    · cases clientB c <;> rfl
    · rfl
theorem ret_call {w w' : World} {o : Option PCall} {c k r : Int} {t : ByteArray} {b : Bool} (hg : w'.heap[w.heap.size]? = some (.cells #[.int .i64 c, .int .i64 k, .string t, .int .i64 r] 36 (0, 0))) (hb : Below w.heap.size w w') (hbo : b = o.isSome) (ho : ∀ p, o = some p → c = p.cl ∧ k = p.k ∧ t = baT p.tx ∧ r = p.rm)
    {a : Act} (hp : a.tmps.getD 2 undef = .pointer (some ⟨w.heap.size, 0, none⟩)) (hr : a.tmps.getD 3 undef = .bool b) (hd : a.defers = []) : bodyPost Tryd.prog Tryd.f11 (CallR o w) Exit.ret a w' := by
  refine bodyPost_ret (results_cell_tmp rfl _ _ w.heap.size 36 #[_, _, _, _] (0, 0) _ _ hp hr hg Tryd.underlying36 rfl (by kernel_rfl)) hd ?_
  exact ⟨c, k, r, t, by rw [hbo], ho, hb⟩
set_option maxHeartbeats 8000000 in
set_option maxRecDepth 100000 in
theorem call6_few (s : ByteArray) (w : World) (hs : s.size ≤ 1048576) (h : callT s.data.toList = none) (hc : s.size < 3 ∨ ∃ h3 : 3 ≤ s.size, s[0].toNat < 48 ∨ 55 < s[0].toNat ∨ ¬ s[1] = 32) : Calls Tryd.prog 11 #[.string s] w (CallR (callT s.data.toList) w) := by
  have HV := hide h
  clear h
  generalize callT s.data.toList = CT at *
  obtain ⟨hz1, hz2⟩ := al2_at w (Obj.cells #[.int .i64 0, .int .i64 0, .string ⟨#[]⟩, .int .i64 0] 36) (Obj.cells #[.int .i64 0, .int .i64 0, .string ⟨#[]⟩, .int .i64 0] 36)
  have HZ1 := hide hz1
  have HZ2 := hide hz2
  clear hz1 hz2
  by_cases h3 : s.size < 3
  · have h3I : (s.size : Int) < 3 := by omega
    clear hc h3
    go_enter Tryd.func11, Tryd.ntmps11
    go_wp2
    exact ret_call (unhide HZ1) (unhide HZ2) (by rw [unhide HV]; rfl) (fun p hp => by rw [unhide HV] at hp; cases hp) rfl rfl rfl
  · have h3I : ¬ (s.size : Int) < 3 := by omega
    have h0I : (0 : Int) < (s.size : Int) := by omega
    have h1I : (1 : Int) < (s.size : Int) := by omega
    have h0 : 0 < s.size := by omega
    have h1 : 1 < s.size := by omega
    have hc2 : s[0].toNat < 48 ∨ 55 < s[0].toNat ∨ ¬ s[1] = 32 := by
      rcases hc with hc | ⟨_, hc⟩
      · omega
      · exact hc
    clear hc h3
    by_cases ha : s[0].toNat < 48
    · have t1 : (s[0].toNat : Int) < 48 := by omega
      clear ha hc2
      go_enter Tryd.func11, Tryd.ntmps11
      go_wp2
      exact ret_call (unhide HZ1) (unhide HZ2) (by rw [unhide HV]; rfl) (fun p hp => by rw [unhide HV] at hp; cases hp) rfl rfl rfl
    · have t1 : ((s[0].toNat : Int) < 48) = False := eq_false (by omega)
      by_cases hb : 55 < s[0].toNat
      · have t2 : ((55 : Int) < (s[0].toNat : Int)) = True := eq_true (by omega)
        clear ha hb hc2
        go_enter Tryd.func11, Tryd.ntmps11
        go_wp2
        exact ret_call (unhide HZ1) (unhide HZ2) (by rw [unhide HV]; rfl) (fun p hp => by rw [unhide HV] at hp; cases hp) rfl rfl rfl
      · have t2 : ((55 : Int) < (s[0].toNat : Int)) = False := eq_false (by omega)
        have hn : ¬ s[1] = 32 := by
          rcases hc2 with h | h | h
          · exact absurd h ha
          · exact absurd h hb
          · exact h
        have t3 : ((s[1].toNat : Int) != 32) = true := by
          rw [bne_iff_ne]; intro e; exact hn (UInt8.toNat_inj.1 (by have : (32 : UInt8).toNat = 32 := rfl; omega))
        clear ha hb hc2 hn
        go_enter Tryd.func11, Tryd.ntmps11
        go_wp2
        exact ret_call (unhide HZ1) (unhide HZ2) (by rw [unhide HV]; rfl) (fun p hp => by rw [unhide HV] at hp; cases hp) rfl rfl rfl
end Go.Proofs.YtbihihkdgckgnaaDoor

