import Derived.Shelf.Small.Wraps
import Derived.Test.YtlfonikfjibloaaGreatDoorBt4
namespace Go.Proofs.YtlfonikfjibloaaGreatDoor

theorem u8_of {c : UInt8} {n : Nat} (h : c.toNat = n) : c = UInt8.ofNat n := by rw [← h, UInt8.ofNat_toNat]

theorem map_some_inv {α β : Type} {o : Option α} {f : α → β} {b : β} (h : o.map f = some b) : ∃ a, o = some a ∧ f a = b := by
  cases o with
  | none => simp at h
  | some a => exact ⟨a, rfl, by simpa using h⟩

theorem esc_unesc (n : Nat) : ∀ (p t : List UInt8), p.length ≤ n → unesc p = some t → (∀ c ∈ p, ¬ c.toNat = 47) → p = esc t := by
  induction n with
  | zero => intro p t hl h _; obtain rfl := List.eq_nil_of_length_eq_zero (Nat.le_zero.1 hl); simp [unesc] at h; subst h; rfl
  | succ n ih =>
    intro p t hl h hno
    cases p with
    | nil => simp [unesc] at h; subst h; rfl
    | cons c r =>
      by_cases h1 : (c.toNat : Int) = 126
      · cases r with
        | nil => rw [unesc_end h1] at h; cases h
        | cons d r =>
          by_cases h2 : (d.toNat : Int) = 48
          · rw [unesc_0 r h1 h2] at h
            obtain ⟨t', e1, e2⟩ := map_some_inv h
            subst e2
            have := ih r t' (by simp at hl; omega) e1 (fun c hc => hno c (List.mem_cons_of_mem _ (List.mem_cons_of_mem _ hc)))
            rw [this, u8_of (show c.toNat = 126 by omega), u8_of (show d.toNat = 48 by omega)]; rfl
          · by_cases h3 : (d.toNat : Int) = 49
            · rw [unesc_1 r h1 h3] at h
              obtain ⟨t', e1, e2⟩ := map_some_inv h
              subst e2
              have := ih r t' (by simp at hl; omega) e1 (fun c hc => hno c (List.mem_cons_of_mem _ (List.mem_cons_of_mem _ hc)))
              rw [this, u8_of (show c.toNat = 126 by omega), u8_of (show d.toNat = 49 by omega)]; rfl
            · rw [unesc_bad r h1 h2 h3] at h; cases h
      · rw [unesc_lit r h1] at h
        obtain ⟨t', e1, e2⟩ := map_some_inv h
        subst e2
        have := ih r t' (by simp at hl; omega) e1 (fun c hc => hno c (List.mem_cons_of_mem _ hc))
        have hc : ¬ (c.toNat : Int) = 47 := fun e => hno c List.mem_cons_self (by omega)
        show c :: r = escB c ++ esc t'
        rw [escB_other h1 hc, ← this]; rfl

theorem pieces_no : ∀ (l p : List UInt8), p ∈ pieces l → ∀ c ∈ p, ¬ c.toNat = 47
  | [], p, h, c, hc => by simp [pieces] at h; subst h; simp at hc
  | a :: r, p, h, c, hc => by
    by_cases ha : a.toNat = 47
    · rw [pieces_cut r ha] at h
      rcases List.mem_cons.1 h with rfl | h
      · simp at hc
      · exact pieces_no r p h c hc
    · cases hp : pieces r with
      | nil => exact absurd hp (pieces_ne r)
      | cons q qs =>
        rw [pieces_go ha hp] at h
        rcases List.mem_cons.1 h with rfl | h
        · rcases List.mem_cons.1 hc with rfl | hc
          · exact ha
          · exact pieces_no r q (by rw [hp]; exact List.mem_cons_self) c hc
        · exact pieces_no r p (by rw [hp]; exact List.mem_cons_of_mem _ h) c hc

def slashed (ps : List (List UInt8)) : List UInt8 := ps.flatMap (fun p => 47 :: p)
theorem slashed_pieces : ∀ l : List UInt8, slashed (pieces l) = 47 :: l
  | [] => rfl
  | a :: r => by
    have ih := slashed_pieces r
    by_cases ha : a.toNat = 47
    · rw [pieces_cut r ha, show slashed ([] :: pieces r) = 47 :: slashed (pieces r) from rfl, ih, u8_of ha]; rfl
    · cases hp : pieces r with
      | nil => exact absurd hp (pieces_ne r)
      | cons q qs =>
        rw [pieces_go ha hp]
        rw [hp] at ih
        have e : q ++ slashed qs = r := by simpa [slashed] using ih
        show 47 :: (a :: q ++ slashed qs) = _
        rw [← e]; rfl

def ptr (ts : List (List UInt8)) : List UInt8 := ts.flatMap (fun t => 47 :: esc t)
theorem mapM_unesc : ∀ (ps ts : List (List UInt8)), ps.mapM unesc = some ts → (∀ p ∈ ps, ∀ c ∈ p, ¬ c.toNat = 47) → slashed ps = ptr ts
  | [], ts, h, _ => by simp at h; subst h; rfl
  | p :: ps, ts, h, hno => by
    rw [List.mapM_cons] at h
    cases h1 : unesc p with
    | none => rw [h1] at h; simp at h
    | some t =>
      cases h2 : ps.mapM unesc with
      | none => rw [h1, h2] at h; simp at h
      | some us =>
        rw [h1, h2] at h
        simp at h
        subst h
        have e1 := esc_unesc _ p t (Nat.le_refl _) h1 (hno p List.mem_cons_self)
        have e2 := mapM_unesc ps us h2 (fun q hq => hno q (List.mem_cons_of_mem _ hq))
        show 47 :: (p ++ slashed ps) = 47 :: (esc t ++ ptr us)
        rw [e2, e1]

theorem ptoks_ptr {l : List UInt8} {ts : List (List UInt8)} (h : ptoks l = some ts) : l = ptr ts := by
  cases l with
  | nil => simp [ptoks] at h; subst h; rfl
  | cons c r =>
    rw [ptoks] at h
    split at h
    · rename_i hc
      unfold toks at h
      have := mapM_unesc _ _ h (fun p hp => pieces_no r p hp)
      rw [slashed_pieces] at this
      rw [← this, u8_of hc]; rfl
    · cases h

theorem esc_inj {a b : List UInt8} (h : esc a = esc b) : a = b := by
  have h1 := unesc_esc a; have h2 := unesc_esc b
  rw [h, h2] at h1; exact (Option.some.inj h1).symm

/-- What stands behind a token: nothing, or a slash. -/
def Sl (l : List UInt8) : Prop := l = [] ∨ ∃ r, l = 47 :: r
theorem ptr_sl (ts : List (List UInt8)) : Sl (ptr ts) := by cases ts with
  | nil => exact .inl rfl
  | cons t ts => exact .inr ⟨_, rfl⟩
theorem cut_same : ∀ (a b x y : List UInt8), (∀ c ∈ a, ¬ c.toNat = 47) → (∀ c ∈ b, ¬ c.toNat = 47) → Sl x → Sl y → a ++ x = b ++ y → a = b ∧ x = y
  | [], [], x, y, _, _, _, _, h => ⟨rfl, h⟩
  | [], d :: b, x, y, _, hb, hx, _, h => by
    rcases hx with rfl | ⟨r, rfl⟩
    · simp at h
    · simp at h; exact absurd (by rw [← h.1]; rfl) (hb d List.mem_cons_self)
  | c :: a, [], x, y, ha, _, _, hy, h => by
    rcases hy with rfl | ⟨r, rfl⟩
    · simp at h
    · simp at h; exact absurd (by rw [h.1]; rfl) (ha c List.mem_cons_self)
  | c :: a, d :: b, x, y, ha, hb, hx, hy, h => by
    simp at h
    have := cut_same a b x y (fun c hc => ha c (List.mem_cons_of_mem _ hc)) (fun c hc => hb c (List.mem_cons_of_mem _ hc)) hx hy h.2
    exact ⟨by rw [h.1, this.1], this.2⟩

theorem sl_app {x y : List UInt8} (hx : Sl x) (hy : Sl y) : Sl (x ++ y) := by
  rcases hx with rfl | ⟨r, rfl⟩
  · exact hy
  · exact .inr ⟨_, rfl⟩

theorem lead_of : ∀ (ts us : List (List UInt8)) (rest : List UInt8), Sl rest → ptr us = ptr ts ++ rest → ∃ vs, us = ts ++ vs
  | [], us, _, _, _ => ⟨us, rfl⟩
  | t :: ts, us, rest, hr, h => by
    cases us with
    | nil => simp [ptr] at h
    | cons u us =>
      have e : esc u ++ ptr us = esc t ++ (ptr ts ++ rest) := by
        have : (47 : UInt8) :: (esc u ++ ptr us) = 47 :: (esc t ++ ptr ts ++ rest) := h
        simpa using this
      obtain ⟨h1, h2⟩ := cut_same _ _ _ _ (esc_noR u) (esc_noR t) (ptr_sl us) (sl_app (ptr_sl ts) hr) e
      obtain ⟨vs, rfl⟩ := lead_of ts us rest hr h2
      exact ⟨vs, by rw [esc_inj h1]; rfl⟩

theorem pre_iff (ts us : List (List UInt8)) : pre ts us = true ↔ ∃ vs, us = ts ++ vs := by
  constructor
  · intro h
    have hl := pre_len h
    rw [← sameTo_pre hl] at h
    unfold sameTo at h
    have h := of_decide_eq_true h
    refine ⟨us.drop ts.length, ?_⟩
    have e : ts = us.take ts.length := by
      have h' : (ts.map baT).map (·.data.toList) = (us.take ts.length).map (fun x => (baT x).data.toList) := by
        rw [← List.map_take, List.take_of_length_le (by simp)] at h
        rw [h]; simp [Function.comp_def]
      simpa [baT, Function.comp_def] using h'
    conv => lhs; rw [← List.take_append_drop ts.length us]
    rw [← e]
  · rintro ⟨vs, rfl⟩; exact pre_self ts vs

/-- Whether one text leads to another: its bytes are the beginning, and behind them is nothing or a slash. -/
def lead (x y : List UInt8) : Bool := Lib.hasPrefix y x && (match Lib.trimPrefix y x with | [] => true | c :: _ => c.toNat == 47)
theorem lead_pre {x y : List UInt8} {ts us : List (List UInt8)} (hx : ptoks x = some ts) (hy : ptoks y = some us) : lead x y = pre ts us := by
  have ex := ptoks_ptr hx
  have ey := ptoks_ptr hy
  cases hp : pre ts us with
  | true =>
    obtain ⟨vs, rfl⟩ := (pre_iff ts us).1 hp
    have e : y = x ++ ptr vs := by rw [ex, ey]; simp [ptr]
    have h1 : Lib.hasPrefix y x = true := by rw [e]; simp [Lib.hasPrefix]
    unfold lead
    rw [h1]
    have h2 : Lib.trimPrefix y x = ptr vs := by unfold Lib.trimPrefix; rw [h1, if_pos rfl, e]; simp
    rw [h2]
    rcases ptr_sl vs with h | ⟨r, h⟩ <;> rw [h] <;> rfl
  | false =>
    cases hl : lead x y with
    | false => rfl
    | true =>
      exfalso
      unfold lead at hl
      simp only [Bool.and_eq_true] at hl
      obtain ⟨h1, h2⟩ := hl
      have h3 : x <+: y := by simpa [Lib.hasPrefix] using h1
      obtain ⟨r, hr⟩ := h3
      have h4 : Lib.trimPrefix y x = r := by unfold Lib.trimPrefix; rw [h1, if_pos rfl, ← hr]; simp
      rw [h4] at h2
      have hs : Sl r := by
        cases r with
        | nil => exact .inl rfl
        | cons c r => exact .inr ⟨r, by have : c.toNat = 47 := by simpa using h2
                                        rw [u8_of this]; rfl⟩
      have := (pre_iff ts us).2 (lead_of ts us r hs (by rw [← ex, ← ey, hr]))
      rw [hp] at this; cases this

/-- Whether two texts meet. -/
def meet (x y : List UInt8) : Bool := (ptoks x).isSome && (ptoks y).isSome && (lead x y || lead y x)
theorem meet_w (x y : List UInt8) : meet x y = decide (0 < wSpec (ptoks x) (ptoks y)) := by
  unfold meet
  cases hx : ptoks x with
  | none => simp [wSpec]
  | some ts =>
    cases hy : ptoks y with
    | none => simp [wSpec]
    | some us =>
      rw [lead_pre hx hy, lead_pre hy hx]
      simp only [Option.isSome_some, Bool.true_and, wSpec]
      by_cases h1 : pre ts us = true <;> by_cases h2 : pre us ts = true <;> simp [h1, h2]
def clash (xs ys : List (List UInt8)) : Bool := xs.any fun x => ys.any fun y => meet x y
end Go.Proofs.YtlfonikfjibloaaGreatDoor

namespace Go.Proofs.YtlfonikfjibloaaGreatDoor
open Go.RowKit

set_option maxHeartbeats 400000 in
theorem same4_walk (xa ya : Option Addr) (xb xo xc yb yo yc : Nat) (ss : List ByteArray) (w : World) (hx : SS w xa xb xo ss) (hy : SS w ya yb yo ss) (hm : ss.length ≤ 9223372036854775807) :
    Calls Tryz.prog 68 #[.slice xa ss.length xc, .slice ya ss.length yc] w fun e w' => e = .returned (.bool true) ∧ ∃ n, w' = w.drewN n := by
  have hax := hx.ad
  have hay := hy.ad
  have HX := hide hx.cell
  have HY := hide hy.cell
  clear hx hy
  go_enter Tryz.func68, Tryz.ntmps68
  go_wp2
  go_loopw [5] (fun i wr => ∃ k : Nat, k ≤ ss.length ∧ i = .int .i64 k ∧ ∃ n, wr = w.drewN n) (fun i _ => ss.length - (intOf i).toNat)
  case atStart => exact ⟨0, Nat.zero_le _, rfl, 0, rfl⟩
  case round =>
    obtain ⟨k, hk, rfl, n, rfl⟩ := hrel
    by_cases hlt : k < ss.length
    · have hcx := unhide HX k hlt
      have hcy := unhide HY k hlt
      obtain rfl := hax (by omega)
      obtain rfl := hay (by omega)
      clear hax hay
      generalize ss.getD k ByteArray.empty = s at *
      have hlt' : (k : Int) < (ss.length : Int) := by omega
      have dcx : (w.drewN n).cell? ⟨xb, xo + k, none⟩ = some (.string s) := hcx
      have dcy : (w.drewN n).cell? ⟨yb, yo + k, none⟩ = some (.string s) := hcy
      go_wp2
      go_quiet (fail)
      go_wp2
      go_roundw
      case rel => exact ⟨k + 1, by omega, by go_num, _, by first | rfl | (simp [World.drewN_drewN])⟩
      case measure => simp [intOf]; omega
    · clear hax hay
      go_wp2
      go_ret
      exact ⟨rfl, _, rfl⟩

theorem same_walk (xa ya : Option Addr) (xb xo xc yb yo yc : Nat) (ss : List ByteArray) (w : World) (hx : SS w xa xb xo ss) (hy : SS w ya yb yo ss) (hm : ss.length ≤ 9223372036854775807) :
    Calls Tryz.prog 27 #[.slice xa ss.length xc, .slice ya ss.length yc] w fun e w' => e = .returned (.bool true) ∧ ∃ n, w' = w.drewN n := by
  have HC := hide (same4_walk xa ya xb xo xc yb yo yc ss w hx hy hm)
  clear hx hy
  go_enter Tryz.func27, Tryz.ntmps27
  go_wp2_with fail
  refine (unhide HC).mono ?_
  rintro e w1 ⟨rfl, n, rfl⟩
  go_wp2
  go_ret
  exact ⟨rfl, _, rfl⟩
end Go.Proofs.YtlfonikfjibloaaGreatDoor
