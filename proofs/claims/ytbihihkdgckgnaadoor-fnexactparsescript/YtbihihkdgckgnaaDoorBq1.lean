import Derived.WalkKit
import Derived.Test.YtbihihkdgckgnaaDoorRows
import Derived.Lib.UnsafeStr
import Derived.Lib.SplitLaws
import Derived.Lib.CutLaws
import Derived.Laws.AppendOwn
import Derived.Laws.IdiomStrings
import Derived.Laws.BytesArg
import Derived.Laws.Concat
import Derived.Deep.RegionWith
namespace Go.Proofs.YtbihihkdgckgnaaDoor
open Go.RowKit

structure SS (w : World) (xa : Option Addr) (xb xo : Nat) (ss : List ByteArray) : Prop where
  ad : 0 < ss.length → xa = some ⟨xb, xo, none⟩
  cell : ∀ j, j < ss.length → w.cell? ⟨xb, xo + j, none⟩ = some (.string (ss.getD j ByteArray.empty))

theorem SS.below {w w' : World} {xa : Option Addr} {xb xo : Nat} {ss : List ByteArray} (h : SS w xa xb xo ss) (hb : Below w.heap.size w w') : SS w' xa xb xo ss :=
  ⟨h.ad, fun j hj => (hb.cell (p := ⟨xb, xo + j, none⟩) (World.block_lt_of_cell? _ _ (h.cell j hj))).trans (h.cell j hj)⟩

theorem below_next {w w1 w2 : World} (h : Below w.heap.size w w1) (k : Below w1.heap.size w1 w2) : Below w.heap.size w w2 := h.trans (k.mono h.size)
theorem hide {p : Prop} (h : p) : Hid p := h
theorem unhide {p : Prop} (h : Hid p) : p := h
end Go.Proofs.YtbihihkdgckgnaaDoor


namespace Go.Proofs.YtbihihkdgckgnaaDoor
open Go.RowKit

theorem data_len (s : ByteArray) : s.data.toList.length = s.size := Array.length_toList
theorem bytes_snoc (s : ByteArray) (k : Nat) (h : k < s.size) : s.data.toList.take (k + 1) = s.data.toList.take k ++ [s[k]] := by
  rw [List.take_succ_eq_append_getElem (by simpa using h)]; rfl
end Go.Proofs.YtbihihkdgckgnaaDoor


namespace Go.Proofs.YtbihihkdgckgnaaDoor
open Go.RowKit

def unesc : List UInt8 → Option (List UInt8)
  | [] => some []
  | c :: r =>
    if c.toNat = 126 then
      match r with
      | [] => none
      | d :: r' => if d.toNat = 48 then (unesc r').map (126 :: ·) else if d.toNat = 49 then (unesc r').map (47 :: ·) else none
    else (unesc r).map (c :: ·)

/-- What is read up to place j: acc; what is left gives the rest. -/
def UnAt (l : List UInt8) (j : Nat) (acc : List UInt8) : Prop := unesc l = (unesc (l.drop j)).map (acc ++ ·)
theorem UnAt.start (l : List UInt8) : UnAt l 0 [] := by simp [UnAt]
theorem UnAt.step {l : List UInt8} {j k : Nat} {acc m : List UInt8} (h : UnAt l j acc) (hs : unesc (l.drop j) = (unesc (l.drop k)).map (m ++ ·)) : UnAt l k (acc ++ m) := by
  unfold UnAt at *; rw [h, hs, Option.map_map]; congr 1; funext x; simp
theorem UnAt.bad {l : List UInt8} {j : Nat} {acc : List UInt8} (h : UnAt l j acc) (hs : unesc (l.drop j) = none) : unesc l = none := by
  unfold UnAt at h; rw [h, hs]; rfl
theorem UnAt.fin {l : List UInt8} {j : Nat} {acc : List UInt8} (h : UnAt l j acc) (hj : l.length ≤ j) : unesc l = some acc := by
  unfold UnAt at h; rw [h, List.drop_eq_nil_of_le hj]; simp [unesc]

def pieces : List UInt8 → List (List UInt8)
  | [] => [[]]
  | c :: r => if c.toNat = 47 then [] :: pieces r else (match pieces r with | [] => [[c]] | p :: ps => (c :: p) :: ps)
theorem pieces_cut {c : UInt8} (r : List UInt8) (h : c.toNat = 47) : pieces (c :: r) = [] :: pieces r := by rw [pieces, if_pos h]
theorem pieces_go {c : UInt8} {r p : List UInt8} {ps : List (List UInt8)} (h : ¬ c.toNat = 47) (hr : pieces r = p :: ps) : pieces (c :: r) = (c :: p) :: ps := by rw [pieces, if_neg h, hr]

/-- The tokens of a pointer. -/
def toks (l : List UInt8) : Option (List (List UInt8)) := (pieces l).mapM unesc
end Go.Proofs.YtbihihkdgckgnaaDoor


namespace Go.Proofs.YtbihihkdgckgnaaDoor
open Go.RowKit

/-- A text cut at each byte b. -/
def piecesB (b : UInt8) : List UInt8 → List (List UInt8)
  | [] => [[]]
  | c :: r => if c = b then [] :: piecesB b r else match piecesB b r with
    | [] => [[c]]
    | p :: ps => (c :: p) :: ps
theorem piecesB_ne (b : UInt8) (l : List UInt8) : piecesB b l ≠ [] := by
  cases l with
  | nil => simp [piecesB]
  | cons c r =>
    rw [piecesB]
    split
    · simp
    · split <;> simp
theorem piecesB_cut (b : UInt8) (r : List UInt8) : piecesB b (b :: r) = [] :: piecesB b r := by rw [piecesB, if_pos rfl]
theorem piecesB_go {b c : UInt8} {r p : List UInt8} {ps : List (List UInt8)} (h : ¬ c = b) (hr : piecesB b r = p :: ps) : piecesB b (c :: r) = (c :: p) :: ps := by rw [piecesB, if_neg h, hr]
theorem piecesB_head {b : UInt8} {l : List UInt8} : ∃ p ps, piecesB b l = p :: ps := by
  cases h : piecesB b l with
  | nil => exact absurd h (piecesB_ne b l)
  | cons p ps => exact ⟨p, ps, rfl⟩
/-- What stands before a piece without b. -/
theorem piecesB_app {b : UInt8} {p : List UInt8} (hp : ∀ c ∈ p, ¬ c = b) (r : List UInt8) : piecesB b (p ++ b :: r) = p :: piecesB b r := by
  induction p with
  | nil => exact piecesB_cut b r
  | cons c q ih => exact piecesB_go (hp c List.mem_cons_self) (ih fun d hd => hp d (List.mem_cons_of_mem _ hd))
theorem piecesB_one {b : UInt8} {p : List UInt8} (hp : ∀ c ∈ p, ¬ c = b) : piecesB b p = [p] := by
  induction p with
  | nil => rfl
  | cons c q ih => exact piecesB_go (hp c List.mem_cons_self) (ih fun d hd => hp d (List.mem_cons_of_mem _ hd))
theorem piecesB_le {b : UInt8} : ∀ {l p : List UInt8}, p ∈ piecesB b l → p.length ≤ l.length
  | [], p, h => by simp [piecesB] at h; subst h; simp
  | c :: r, p, h => by
    by_cases hc : c = b
    · subst hc
      rw [piecesB_cut] at h
      rcases List.mem_cons.1 h with rfl | h
      · simp
      · have := piecesB_le h; simp; omega
    · obtain ⟨q, qs, hq⟩ := piecesB_head (b := b) (l := r)
      rw [piecesB_go hc hq] at h
      rcases List.mem_cons.1 h with rfl | h
      · have := piecesB_le (b := b) (l := r) (p := q) (by rw [hq]; simp)
        simp; omega
      · have := piecesB_le (b := b) (l := r) (p := p) (by rw [hq]; simp [h])
        simp; omega
/-- One pick, a line of picks. -/
def pickB (c : UInt8) : Option Int := if c = 100 then some 8 else if 48 ≤ c.toNat ∧ c.toNat ≤ 55 then some ((c.toNat - 48 : Nat) : Int) else none
def picksT : List UInt8 → Option (List Int)
  | [] => some []
  | [_] => none
  | b :: c :: r => if b = 32 then (pickB c).bind fun n => (picksT r).map (n :: ·) else none
/-- What stands behind a beginning. -/
def strip (h l : List UInt8) : Option (List UInt8) := if l.take h.length = h then some (l.drop h.length) else none
def lineP (l : List UInt8) : Option (List Int) := (strip [112, 105, 99, 107, 115] l).bind picksT
def pickW (w : List UInt8) : Option Int := match w with
  | [c] => pickB c
  | _ => none
theorem picksT_sp (r : List UInt8) : picksT (32 :: r) = (piecesB 32 r).mapM pickW := by
  match r with
  | [] => rfl
  | [c] =>
    by_cases hc : c = 32
    · subst hc; rfl
    · rw [piecesB_one (p := [c]) (by intro d hd; simp at hd; subst hd; exact hc)]
      rw [picksT, if_pos rfl]
      simp only [List.mapM_cons, List.mapM_nil, pickW, picksT]
      cases pickB c <;> rfl
  | c :: d :: r =>
    by_cases hc : c = 32
    · subst hc
      rw [piecesB_cut, picksT, if_pos rfl]
      rw [List.mapM_cons]
      rfl
    · by_cases hd : d = 32
      · subst hd
        have ih := picksT_sp r
        rw [show c :: 32 :: r = [c] ++ 32 :: r from rfl, piecesB_app (by intro x hx; simp at hx; subst hx; exact hc)]
        rw [show (32 : UInt8) :: ([c] ++ 32 :: r) = 32 :: c :: (32 :: r) from rfl, picksT, if_pos rfl, ih]
        simp only [List.mapM_cons, pickW]
        cases pickB c with
        | none => rfl
        | some n => cases (piecesB 32 r).mapM pickW <;> rfl
      · obtain ⟨p, ps, hp⟩ := piecesB_head (b := 32) (l := r)
        rw [piecesB_go hc (piecesB_go hd hp), picksT, if_pos rfl]
        have h1 : picksT (d :: r) = none := by
          cases r with
          | nil => rfl
          | cons e r => rw [picksT, if_neg hd]
        rw [h1]
        simp only [List.mapM_cons, pickW]
        cases pickB c <;> rfl
theorem lineP_words (l : List UInt8) : lineP l = match piecesB 32 l with
    | [] => none
    | w :: ws => if w = [112, 105, 99, 107, 115] then ws.mapM pickW else none := by
  unfold lineP strip
  have key : ∀ (q m : List UInt8), (∀ c ∈ q, ¬ c = 32) → (∀ p ps, piecesB 32 m = p :: ps → (p.take q.length = q ↔ m.take q.length = q)) := by
    intro q
    induction q with
    | nil => intro m _ p ps _; simp
    | cons c q ih =>
      intro m hq p ps hm
      cases m with
      | nil => simp [piecesB] at hm; obtain ⟨rfl, -⟩ := hm; simp
      | cons d m =>
        by_cases hd : d = 32
        · subst hd
          rw [piecesB_cut] at hm
          injection hm with h1 _
          subst h1
          have := hq c List.mem_cons_self
          simp
          intro h
          exact absurd h.symm this
        · obtain ⟨p', ps', hp'⟩ := piecesB_head (b := 32) (l := m)
          rw [piecesB_go hd hp'] at hm
          injection hm with h1 _
          subst h1
          have := ih m (fun x hx => hq x (List.mem_cons_of_mem _ hx)) p' ps' hp'
          simp [this]
  obtain ⟨w, ws, hw⟩ := piecesB_head (b := 32) (l := l)
  rw [hw]
  simp only
  have hk := key [112, 105, 99, 107, 115] l (by decide) w ws hw
  by_cases h : l.take 5 = [112, 105, 99, 107, 115]
  · rw [if_pos (by exact h), Option.bind_some]
    have hl : l = [112, 105, 99, 107, 115] ++ l.drop 5 := by rw [← h, List.take_append_drop]
    show picksT (l.drop 5) = _
    generalize l.drop 5 = r at *
    subst hl
    match r with
    | [] =>
      rw [List.append_nil, piecesB_one (by decide)] at hw
      injection hw with h1 h2
      subst h1; subst h2
      rfl
    | c :: r =>
      by_cases hc : c = 32
      · subst hc
        rw [piecesB_app (by decide)] at hw
        injection hw with h1 h2
        subst h1; subst h2
        rw [if_pos rfl, picksT_sp]
      · have h1 : picksT (c :: r) = none := by
          cases r with
          | nil => rfl
          | cons e r => rw [picksT, if_neg hc]
        rw [h1, if_neg]
        intro e
        obtain ⟨p', ps', hp'⟩ := piecesB_head (b := 32) (l := r)
        have h2 : piecesB 32 ([112, 105, 99, 107, 115] ++ c :: r) = (112 :: 105 :: 99 :: 107 :: 115 :: c :: p') :: ps' :=
          piecesB_go (by decide) (piecesB_go (by decide) (piecesB_go (by decide) (piecesB_go (by decide) (piecesB_go (by decide) (piecesB_go hc hp')))))
        rw [h2] at hw
        injection hw with h3 _
        rw [← h3] at e
        simp at e
  · rw [if_neg (by exact h), if_neg]
    · rfl
    · intro e
      apply h
      have := hk.1 (by rw [e]; rfl)
      exact this
end Go.Proofs.YtbihihkdgckgnaaDoor


namespace Go.Proofs.YtbihihkdgckgnaaDoor
open Go.RowKit

def isDg (b : Nat) : Bool := decide (48 ≤ b) && decide (b ≤ 57)
theorem isDg_iff {b : Nat} : isDg b = true ↔ 48 ≤ b ∧ b ≤ 57 := by simp [isDg]
/-- What digits stand for. -/
def digV (l : List UInt8) : Nat := l.foldl (fun v c => v * 10 + (c.toNat - 48)) 0
theorem digV_snoc (l : List UInt8) (c : UInt8) : digV (l ++ [c]) = digV l * 10 + (c.toNat - 48) := by unfold digV; rw [List.foldl_append]; rfl
theorem tokD (s : ByteArray) (k : Nat) (h : k < s.size) : s.data.toList[k]'(by rw [data_len]; exact h) = s[k] := rfl
theorem dig_lt : ∀ (n : Nat) (t : List UInt8), t.length = n → digV t < 10 ^ n ∨ ¬ (∀ c ∈ t, isDg c.toNat = true) := by
  intro n
  induction n with
  | zero => intro t h; rw [List.eq_nil_of_length_eq_zero h]; exact .inl (by simp [digV])
  | succ n ih =>
    intro t h
    rcases List.eq_nil_or_concat t with e | ⟨a, c, e⟩
    · subst e; simp at h
    · rw [List.concat_eq_append] at e
      subst e
      by_cases hd : ∀ x ∈ a ++ [c], isDg x.toNat = true
      · left
        have hc := isDg_iff.1 (hd c (by simp))
        rcases ih a (by simpa using h) with h1 | h1
        · rw [digV_snoc, Nat.pow_succ]; omega
        · exact absurd (fun x hx => hd x (by simp [hx])) h1
      · exact .inr hd
end Go.Proofs.YtbihihkdgckgnaaDoor


namespace Go.Proofs.YtbihihkdgckgnaaDoor
open Go.RowKit

set_option maxHeartbeats 400000 in
theorem isDigit_walk (b : Nat) (w : World) (hb : b < 256) :
    Calls Tryd.prog 51 #[.int .u8 b] w fun e w' => e = .returned (.bool (isDg b)) ∧ w = w' := by
  by_cases h : 48 ≤ b
  · have HD : Hid (isDg b = decide ((b : Int) ≤ 57)) := by
      show _ = _
      unfold isDg
      rw [decide_eq_true h, Bool.true_and]
      apply decide_eq_decide.2; omega
    have h1 : (48 : Int) ≤ (b : Int) := by omega
    go_enter Tryd.func51, Tryd.ntmps51
    go_wp2
    go_ret
    exact ⟨by rw [unhide HD]; rfl, rfl⟩
  · have HD : Hid (isDg b = false) := by
      show _ = _
      unfold isDg
      rw [decide_eq_false h, Bool.false_and]
    have h1 : ¬ (48 : Int) ≤ (b : Int) := by omega
    go_enter Tryd.func51, Tryd.ntmps51
    go_wp2
    go_ret
    exact ⟨by rw [unhide HD]; rfl, rfl⟩
/-- A text of digits, at most so many, as the program gives it. -/
def digOk (most : Nat) (t : List UInt8) : Prop := 1 ≤ t.length ∧ t.length ≤ most ∧ ∀ c ∈ t, isDg c.toNat = true
instance (most : Nat) (t : List UInt8) : Decidable (digOk most t) := by unfold digOk; infer_instance
def digP (most : Nat) (t : List UInt8) : Value := if digOk most t then .tuple #[.int .i64 (digV t : Int), .bool true] else .tuple #[.int .i64 0, .bool false]

set_option maxRecDepth 100000 in
set_option maxHeartbeats 4000000 in
theorem readDigits_walk (s : ByteArray) (most : Nat) (w : World) (hs : s.size ≤ 1048576) (hm : most ≤ 9) :
    Calls Tryd.prog 45 #[.string s, .int .i64 (most : Int)] w fun e w' => e = .returned (digP most s.data.toList) ∧ w = w' := by
  have hbad : ¬ digOk most s.data.toList → digP most s.data.toList = .tuple #[.int .i64 0, .bool false] := fun h => by unfold digP; rw [if_neg h]
  have hdl := data_len s
  by_cases h1 : s.size < 1
  · have HB := hide (hbad (fun h => by have := h.1; omega))
    have hse : s = ⟨#[]⟩ := by
      have : s.data.toList = [] := List.eq_nil_of_length_eq_zero (by omega)
      obtain ⟨⟨l⟩⟩ := s; simp at this; subst this; rfl
    subst hse
    clear hbad h1 hdl hs
    go_enter Tryd.func45, Tryd.ntmps45
    go_wp2
    go_ret2
    exact ⟨by rw [unhide HB]; rfl, rfl⟩
  · have tn : s.toList.isEmpty = false := by
      rw [ByteArray.toList_eq, List.isEmpty_eq_false_iff]; intro e; rw [e] at hdl; simp at hdl; omega
    by_cases h6 : most < s.size
    · have HB := hide (hbad (fun h => by have := h.2.1; omega))
      have t2 : (most : Int) < (s.size : Int) := by omega
      clear hbad h1 h6
      go_enter Tryd.func45, Tryd.ntmps45
      go_wp2
      go_ret2
      exact ⟨by rw [unhide HB]; rfl, rfl⟩
    · have t2 : ¬ (most : Int) < (s.size : Int) := by omega
      have h0 : 0 < s.size := by omega
      have hI : (0 : Int) < (s.size : Int) := by omega
      have HD : Hid (∀ (k : Nat) (hk : k < s.size) (w : World), Calls Tryd.prog 51 #[.int .u8 (s[k].toNat : Int)] w fun e w' => e = .returned (.bool (isDg s[k].toNat)) ∧ w = w') := fun k hk w => isDigit_walk s[k].toNat w (UInt8.toNat_lt _)
      have HBAD : Hid (∀ k (hk : k < s.size), isDg s[k].toNat = false → digP most s.data.toList = .tuple #[.int .i64 0, .bool false]) := fun k hk hd => hbad (fun h => by
        have := h.2.2 s[k] (by rw [← tokD s k hk]; exact List.getElem_mem _)
        rw [hd] at this; cases this)
      have HGOOD : Hid ((∀ k (hk : k < s.size), isDg s[k].toNat = true) → digP most s.data.toList = .tuple #[.int .i64 (digV s.data.toList : Int), .bool true]) := fun hall => by
        have hok : digOk most s.data.toList := ⟨by omega, by omega, fun c hc => by
          obtain ⟨j, hj, rfl⟩ := List.getElem_of_mem hc
          exact hall j (by omega)⟩
        unfold digP; rw [if_pos hok]
      have h6' : s.size ≤ 9 := by omega
      clear hbad h1 h6
      go_enter Tryd.func45, Tryd.ntmps45
      go_wp2
      go_loopw [6, 18] (fun vv iv wr => ∃ k : Nat, k ≤ s.size ∧ iv = .int .i64 (k : Int) ∧ vv = .int .i64 ((digV (s.data.toList.take k) : Nat) : Int) ∧ (∀ j (hj : j < s.size), j < k → isDg s[j].toNat = true) ∧ w = wr) (fun _ iv _ => s.size - (intOf iv).toNat)
      case atStart => exact ⟨0, Nat.zero_le _, rfl, rfl, fun j _ hj => by omega, rfl⟩
      case round =>
        obtain ⟨k, hk, rfl, rfl, hall, rfl⟩ := hrel
        have HALL := hide hall
        clear hall
        by_cases hlt : k < s.size
        · have hltI : (k : Int) < (s.size : Int) := by omega
          have HDk := hide (unhide HD k hlt w)
          have hst : s.data.toList.take (k + 1) = s.data.toList.take k ++ [s[k]] := bytes_snoc s k hlt
          have HST : Hid (digV (s.data.toList.take (k + 1)) = digV (s.data.toList.take k) * 10 + (s[k].toNat - 48)) := by show _ = _; rw [hst, digV_snoc]
          have hlo : digV (s.data.toList.take k) < 1000000000 ∨ ¬ ∀ c ∈ s.data.toList.take k, isDg c.toNat = true := by
            rcases dig_lt k (s.data.toList.take k) (by rw [List.length_take]; omega) with h | h
            · left
              have : 10 ^ k ≤ 10 ^ 9 := Nat.pow_le_pow_right (by omega) (by omega)
              omega
            · exact .inr h
          have hlo' : digV (s.data.toList.take k) < 1000000000 := hlo.elim id fun h => absurd (fun c hc => by
            obtain ⟨j, hj, rfl⟩ := List.getElem_of_mem hc
            rw [List.length_take] at hj
            rw [List.getElem_take]
            exact unhide HALL j (by omega) (by omega)) h
          cases hd : isDg s[k].toNat with
          | false =>
            have HV := hide (unhide HBAD k hlt hd)
            rw [hd] at HDk
            clear hd HST hst hlo hlo' HALL HBAD HGOOD HD
            go_wp2_with fail
            refine (unhide HDk).mono ?_
            rintro e w2 ⟨rfl, rfl⟩
            clear HDk
            go_wp2
            go_ret2
            exact ⟨by rw [unhide HV]; rfl, rfl⟩
          | true =>
            have hb := isDg_iff.1 hd
            have HA2 : Hid (∀ j (hj : j < s.size), j < k + 1 → isDg s[j].toNat = true) := fun j hj hjk => by
              by_cases e : j = k
              · subst e; exact hd
              · exact unhide HALL j hj (by omega)
            rw [hd] at HDk
            have hb1 : (48 : Int) ≤ (s[k].toNat : Int) := by omega
            have hb2 : (s[k].toNat : Int) ≤ 57 := by omega
            generalize digV (s.data.toList.take k) = D at *
            clear hd hst hlo HALL HBAD HGOOD HD
            go_wp2_with fail
            refine (unhide HDk).mono ?_
            rintro e w2 ⟨rfl, rfl⟩
            clear HDk
            go_wp2
            go_roundw
            case rel => exact ⟨k + 1, by omega, by go_num, by rw [unhide HST]; go_num, unhide HA2, trivial⟩
            case measure => simp [intOf]; omega
        · have e : s.data.toList.take k = s.data.toList := List.take_of_length_le (by omega)
          rw [e]
          have HV := hide (unhide HGOOD (fun j hj => unhide HALL j hj (by omega)))
          generalize digV s.data.toList = D at *
          clear HALL HBAD HGOOD HD e
          go_wp2
          go_ret2
          exact ⟨by rw [unhide HV]; rfl, rfl⟩

end Go.Proofs.YtbihihkdgckgnaaDoor


namespace Go.Proofs.YtbihihkdgckgnaaDoor
open Go.RowKit

theorem splitB_eq (b : UInt8) : ∀ l : List UInt8, Lib.splitK [b] 0 (Lib.count l [b]) l = piecesB b l
  | [] => by rw [Lib.count_miss (by simp [Lib.index])]; rfl
  | c :: r => by
    have ih := splitB_eq b r
    by_cases h : c = b
    · subst h
      have hix : Lib.index (c :: r) [c] = ((0 : Nat) : Int) := by rw [Lib.index]; simp [List.isPrefixOf]
      rw [Lib.count_cons_eq, Nat.add_comm, Lib.splitK, hix]
      rw [piecesB_cut c r, ← ih]
      simp
    · have hp : ([b] : List UInt8).isPrefixOf (c :: r) = false := by simp [List.isPrefixOf, Ne.symm h]
      have hix : Lib.index (c :: r) [b] = if Lib.index r [b] == -1 then -1 else Lib.index r [b] + 1 := by rw [Lib.index, hp]; simp
      rw [Lib.count_cons_ne c b r h]
      by_cases hm : Lib.index r [b] = -1
      · rw [Lib.count_miss hm] at ih ⊢
        rw [Lib.splitK] at ih ⊢
        rw [piecesB_go h ih.symm]
      · have hge := Lib.index_ge r [b]
        obtain ⟨j, hj⟩ : ∃ j : Nat, Lib.index r [b] = j := ⟨(Lib.index r [b]).toNat, by omega⟩
        have hix' : Lib.index (c :: r) [b] = ((j + 1 : Nat) : Int) := by rw [hix, if_neg (fun e => hm (beq_iff_eq.1 e)), hj]; omega
        rw [Lib.count_hit (by simp) hj, Nat.add_comm] at ih ⊢
        rw [Lib.splitK, hj] at ih
        rw [Lib.splitK, hix']
        rw [if_neg (fun e => by have := beq_iff_eq.1 e; omega)] at ih ⊢
        simp only [Int.toNat_natCast, Nat.add_zero] at ih ⊢
        rw [piecesB_go h ih.symm]
        simp
/-- A text cut at the first byte b. -/
def cutC (b : UInt8) : List UInt8 → List UInt8 × List UInt8 × Bool
  | [] => ([], [], false)
  | c :: r => if c = b then ([], r, true) else (c :: (cutC b r).1, (cutC b r).2.1, (cutC b r).2.2)
theorem cut_eq (b : UInt8) : ∀ l : List UInt8, Lib.cut l [b] = cutC b l
  | [] => by unfold Lib.cut; rw [show Lib.index [] [b] = -1 by simp [Lib.index]]; rfl
  | c :: r => by
    have ih := cut_eq b r
    by_cases h : c = b
    · subst h
      have hix : Lib.index (c :: r) [c] = ((0 : Nat) : Int) := by rw [Lib.index]; simp [List.isPrefixOf]
      unfold Lib.cut
      rw [hix, cutC, if_pos rfl]
      simp
    · have hp : ([b] : List UInt8).isPrefixOf (c :: r) = false := by simp [List.isPrefixOf, Ne.symm h]
      have hix : Lib.index (c :: r) [b] = if Lib.index r [b] == -1 then -1 else Lib.index r [b] + 1 := by rw [Lib.index, hp]; simp
      rw [cutC, if_neg h]
      unfold Lib.cut at ih ⊢
      by_cases hm : Lib.index r [b] = -1
      · rw [hix, hm]
        rw [hm] at ih
        simp at ih ⊢
        rw [← ih]
        exact ⟨rfl, rfl, rfl⟩
      · have hge := Lib.index_ge r [b]
        obtain ⟨j, hj⟩ : ∃ j : Nat, Lib.index r [b] = j := ⟨(Lib.index r [b]).toNat, by omega⟩
        have hix' : Lib.index (c :: r) [b] = ((j + 1 : Nat) : Int) := by rw [hix, if_neg (fun e => hm (beq_iff_eq.1 e)), hj]; omega
        rw [hix']
        rw [hj, if_pos (by omega)] at ih
        rw [if_pos (by omega), ← ih]
        simp
theorem cutC_yes {b : UInt8} {p : List UInt8} (hp : ∀ c ∈ p, ¬ c = b) (r : List UInt8) : cutC b (p ++ b :: r) = (p, r, true) := by
  induction p with
  | nil => rw [List.nil_append, cutC, if_pos rfl]
  | cons c q ih => rw [List.cons_append, cutC, if_neg (hp c List.mem_cons_self), ih fun d hd => hp d (List.mem_cons_of_mem _ hd)]
theorem cutC_no {b : UInt8} {p : List UInt8} (hp : ∀ c ∈ p, ¬ c = b) : cutC b p = (p, [], false) := by
  induction p with
  | nil => rfl
  | cons c q ih => rw [cutC, if_neg (hp c List.mem_cons_self), ih fun d hd => hp d (List.mem_cons_of_mem _ hd)]
theorem cutC_cases (b : UInt8) (l : List UInt8) : (∃ p r, l = p ++ b :: r ∧ ∀ c ∈ p, ¬ c = b) ∨ ∀ c ∈ l, ¬ c = b := by
  induction l with
  | nil => right; intro c hc; cases hc
  | cons d r ih =>
    by_cases h : d = b
    · subst h; exact .inl ⟨[], r, rfl, fun c hc => by cases hc⟩
    · rcases ih with ⟨p, q, e, hp⟩ | hp
      · exact .inl ⟨d :: p, q, by rw [e]; rfl, fun c hc => by rcases List.mem_cons.1 hc with rfl | hc; exact h; exact hp c hc⟩
      · exact .inr fun c hc => by rcases List.mem_cons.1 hc with rfl | hc; exact h; exact hp c hc
theorem cutC_le (b : UInt8) (l : List UInt8) : (cutC b l).1.length ≤ l.length ∧ (cutC b l).2.1.length ≤ l.length := by
  rcases cutC_cases b l with ⟨p, r, rfl, hp⟩ | hp
  · rw [cutC_yes hp]; simp; omega
  · rw [cutC_no hp]; simp
structure PCall where
  cl : Int
  k : Int
  tx : List UInt8
  rm : Int
/-- The client of a call, the room of a watch. -/
def clientB (c : UInt8) : Option Int := if 48 ≤ c.toNat ∧ c.toNat ≤ 55 then some ((c.toNat - 48 : Nat) : Int) else none
def clientW (w : List UInt8) : Option Int := match w with
  | [c] => clientB c
  | _ => none
def watchT (cl : Int) (t : List UInt8) : Option PCall :=
  let d := t.takeWhile fun c => isDg c.toNat
  if 1 ≤ d.length ∧ d.length ≤ 3 ∧ (t.drop d.length).head? = some 32 then some ⟨cl, 4, t.drop (d.length + 1), (digV d : Int)⟩ else none
/-- What stands behind the client. -/
def callR (cl : Int) (r : List UInt8) : Option PCall :=
  if r = [116, 97, 107, 101] then some ⟨cl, 5, [], 0⟩ else if r = [99, 97, 110, 99, 101, 108] then some ⟨cl, 6, [], 0⟩ else
  match strip [112, 97, 116, 99, 104, 32] r with
  | some t => some ⟨cl, 1, t, 0⟩
  | none => match strip [103, 101, 116, 32] r with
    | some t => some ⟨cl, 2, t, 0⟩
    | none => match strip [113, 117, 101, 114, 121, 32] r with
      | some t => some ⟨cl, 3, t, 0⟩
      | none => match strip [119, 97, 116, 99, 104, 32] r with
        | some t => watchT cl t
        | none => none
def callT (l : List UInt8) : Option PCall := match l with
  | c :: b :: r => if b = 32 then (clientB c).bind fun cl => callR cl r else none
  | _ => none
/-- The kind of a word, as the program has it. -/
def kindW (w : List UInt8) : Int := if w = [112, 97, 116, 99, 104] then 1 else if w = [103, 101, 116] then 2 else if w = [113, 117, 101, 114, 121] then 3 else if w = [119, 97, 116, 99, 104] then 4 else if w = [116, 97, 107, 101] then 5 else if w = [99, 97, 110, 99, 101, 108] then 6 else 0
def watchI (cl : Int) (t : List UInt8) : Option PCall := match cutC 32 t with
  | (room, text, more) => if 1 ≤ room.length ∧ room.length ≤ 3 ∧ (∀ c ∈ room, isDg c.toNat = true) ∧ more = true then some ⟨cl, 4, text, (digV room : Int)⟩ else none
theorem tw_all {p : UInt8 → Bool} {q : List UInt8} (h : ∀ c ∈ q, p c = true) (r : List UInt8) : (q ++ r).takeWhile p = q ++ r.takeWhile p := by
  induction q with
  | nil => rfl
  | cons c q ih => rw [List.cons_append, List.takeWhile_cons, if_pos (h c List.mem_cons_self), ih fun d hd => h d (List.mem_cons_of_mem _ hd)]; rfl
theorem tw_in {p : UInt8 → Bool} : ∀ {l : List UInt8}, ∀ c ∈ l.takeWhile p, p c = true := by
  intro l
  induction l with
  | nil => intro c hc; cases hc
  | cons d r ih =>
    intro c hc
    rw [List.takeWhile_cons] at hc
    split at hc
    · rename_i h
      rcases List.mem_cons.1 hc with rfl | hc
      · exact h
      · exact ih c hc
    · cases hc
theorem tw_take (p : UInt8 → Bool) (l : List UInt8) : l = l.takeWhile p ++ l.drop (l.takeWhile p).length := by
  induction l with
  | nil => rfl
  | cons d r ih =>
    rw [List.takeWhile_cons]
    split
    · rw [List.length_cons, List.drop_succ_cons, List.cons_append, ← ih]
    · rfl
theorem watch_eq (cl : Int) (t : List UInt8) : watchI cl t = watchT cl t := by
  have h32 : isDg (32 : UInt8).toNat = false := by decide
  have hd32 : ∀ c : UInt8, isDg c.toNat = true → ¬ c = 32 := fun c hc e => by subst e; rw [h32] at hc; cases hc
  unfold watchI watchT
  simp only
  by_cases hT : 1 ≤ (t.takeWhile fun c => isDg c.toNat).length ∧ (t.takeWhile fun c => isDg c.toNat).length ≤ 3 ∧ (t.drop (t.takeWhile fun c => isDg c.toNat).length).head? = some 32
  · rw [if_pos hT]
    obtain ⟨h1, h2, h3⟩ := hT
    have hs := tw_take (fun c => isDg c.toNat) t
    have hin : ∀ c ∈ t.takeWhile (fun c => isDg c.toNat), isDg c.toNat = true := tw_in
    generalize t.takeWhile (fun c => isDg c.toNat) = d at *
    cases hr : t.drop d.length with
    | nil => rw [hr] at h3; cases h3
    | cons x r =>
      rw [hr] at h3 hs
      simp at h3
      subst h3
      have h5 : t.drop (d.length + 1) = r := by rw [← List.drop_drop, hr]; rfl
      rw [h5, hs, cutC_yes fun c hc => hd32 c (hin c hc)]
      simp only
      rw [if_pos ⟨h1, h2, hin, by simp⟩]
  · rw [if_neg hT]
    rcases cutC_cases 32 t with ⟨p, r, rfl, hp⟩ | hp
    · rw [cutC_yes hp]
      simp only
      rw [if_neg]
      rintro ⟨h1, h2, h3, -⟩
      apply hT
      have e : (p ++ 32 :: r).takeWhile (fun c => isDg c.toNat) = p := by rw [tw_all h3, List.takeWhile_cons, if_neg (by rw [h32]; simp), List.append_nil]
      rw [e]
      exact ⟨h1, h2, by simp⟩
    · rw [cutC_no hp]
      simp
/-- A call as the program reads it. -/
def callI (l : List UInt8) : Option PCall := match cutC 32 l with
  | (first, rest, _) => match cutC 32 rest with
    | (word, text, more) => (clientW first).bind fun cl =>
      if kindW word = 1 ∨ kindW word = 2 ∨ kindW word = 3 then (if more = true then some ⟨cl, kindW word, text, 0⟩ else none)
      else if kindW word = 4 then watchI cl text
      else if kindW word = 5 ∨ kindW word = 6 then (if more = false then some ⟨cl, kindW word, text, 0⟩ else none)
      else none
theorem strip_app (h r : List UInt8) : strip h (h ++ r) = some r := by unfold strip; simp
theorem strip_some {h l r : List UInt8} (e : strip h l = some r) : l = h ++ r := by
  unfold strip at e
  split at e
  · rename_i e1
    injection e with e
    rw [← e1, ← e]; simp
  · cases e
theorem strip_word {h w r : List UInt8} (hh : ∀ c ∈ h, ¬ c = 32) (hw : ∀ c ∈ w, ¬ c = 32) : strip (h ++ [32]) (w ++ 32 :: r) = if w = h then some r else none := by
  split
  · rename_i e
    subst e
    rw [show w ++ 32 :: r = (w ++ [32]) ++ r by simp]
    exact strip_app _ _
  · rename_i hne
    cases hs : strip (h ++ [32]) (w ++ 32 :: r) with
    | none => rfl
    | some q =>
      have e := strip_some hs
      have e1 := congrArg (cutC 32) e
      rw [cutC_yes hw, List.append_assoc, show [(32 : UInt8)] ++ q = 32 :: q from rfl, cutC_yes hh] at e1
      exact absurd (congrArg Prod.fst e1) hne
theorem strip_none {h l : List UInt8} (hl : ∀ c ∈ l, ¬ c = 32) : strip (h ++ [32]) l = none := by
  cases hs : strip (h ++ [32]) l with
  | none => rfl
  | some q =>
    have e := strip_some hs
    exact absurd rfl (hl 32 (by rw [e]; simp))
theorem callR_word (cl : Int) {w : List UInt8} (hw : ∀ c ∈ w, ¬ c = 32) (r : List UInt8) : callR cl (w ++ 32 :: r) =
    if w = [112, 97, 116, 99, 104] then some ⟨cl, 1, r, 0⟩ else if w = [103, 101, 116] then some ⟨cl, 2, r, 0⟩ else if w = [113, 117, 101, 114, 121] then some ⟨cl, 3, r, 0⟩ else if w = [119, 97, 116, 99, 104] then watchT cl r else none := by
  unfold callR
  rw [if_neg (by intro e; have : (32 : UInt8) ∈ [116, 97, 107, 101] := by rw [← e]; simp
                 simp at this), if_neg (by intro e; have : (32 : UInt8) ∈ [99, 97, 110, 99, 101, 108] := by rw [← e]; simp
                                           simp at this)]
  rw [show ([112, 97, 116, 99, 104, 32] : List UInt8) = [112, 97, 116, 99, 104] ++ [32] from rfl, show ([103, 101, 116, 32] : List UInt8) = [103, 101, 116] ++ [32] from rfl, show ([113, 117, 101, 114, 121, 32] : List UInt8) = [113, 117, 101, 114, 121] ++ [32] from rfl, show ([119, 97, 116, 99, 104, 32] : List UInt8) = [119, 97, 116, 99, 104] ++ [32] from rfl]
  rw [strip_word (by decide) hw, strip_word (by decide) hw, strip_word (by decide) hw, strip_word (by decide) hw]
  split
  · rename_i t h; split at h
    · rename_i e; injection h with h; subst h; rw [if_pos e]
    · cases h
  · rename_i h; split at h
    · cases h
    · rename_i e1
      rw [if_neg e1]
      split
      · rename_i t h; split at h
        · rename_i e; injection h with h; subst h; rw [if_pos e]
        · cases h
      · rename_i h; split at h
        · cases h
        · rename_i e2
          rw [if_neg e2]
          split
          · rename_i t h; split at h
            · rename_i e; injection h with h; subst h; rw [if_pos e]
            · cases h
          · rename_i h; split at h
            · cases h
            · rename_i e3
              rw [if_neg e3]
              split
              · rename_i t h; split at h
                · rename_i e; injection h with h; subst h; rw [if_pos e]
                · cases h
              · rename_i h; split at h
                · cases h
                · rename_i e4
                  rw [if_neg e4]
theorem callR_bare (cl : Int) {w : List UInt8} (hw : ∀ c ∈ w, ¬ c = 32) : callR cl w = if w = [116, 97, 107, 101] then some ⟨cl, 5, [], 0⟩ else if w = [99, 97, 110, 99, 101, 108] then some ⟨cl, 6, [], 0⟩ else none := by
  unfold callR
  rw [show ([112, 97, 116, 99, 104, 32] : List UInt8) = [112, 97, 116, 99, 104] ++ [32] from rfl, show ([103, 101, 116, 32] : List UInt8) = [103, 101, 116] ++ [32] from rfl, show ([113, 117, 101, 114, 121, 32] : List UInt8) = [113, 117, 101, 114, 121] ++ [32] from rfl, show ([119, 97, 116, 99, 104, 32] : List UInt8) = [119, 97, 116, 99, 104] ++ [32] from rfl]
  rw [strip_none hw, strip_none hw, strip_none hw, strip_none hw]
theorem callRI (cl : Int) (rest : List UInt8) : (match cutC 32 rest with
    | (word, text, more) => if kindW word = 1 ∨ kindW word = 2 ∨ kindW word = 3 then (if more = true then some (⟨cl, kindW word, text, 0⟩ : PCall) else none)
      else if kindW word = 4 then watchI cl text
      else if kindW word = 5 ∨ kindW word = 6 then (if more = false then some ⟨cl, kindW word, text, 0⟩ else none)
      else none) = callR cl rest := by
  rcases cutC_cases 32 rest with ⟨w, r, rfl, hw⟩ | hw
  · rw [cutC_yes hw, callR_word cl hw]
    simp only
    unfold kindW
    by_cases h1 : w = [112, 97, 116, 99, 104]
    · subst h1; simp
    · by_cases h2 : w = [103, 101, 116]
      · subst h2; simp
      · by_cases h3 : w = [113, 117, 101, 114, 121]
        · subst h3; simp
        · by_cases h4 : w = [119, 97, 116, 99, 104]
          · subst h4; simp [watch_eq]
          · by_cases h5 : w = [116, 97, 107, 101]
            · subst h5; simp
            · by_cases h6 : w = [99, 97, 110, 99, 101, 108]
              · subst h6; simp
              · simp [h1, h2, h3, h4, h5, h6]
  · rw [cutC_no hw, callR_bare cl hw]
    simp only
    unfold kindW
    by_cases h1 : rest = [112, 97, 116, 99, 104]
    · subst h1; simp
    · by_cases h2 : rest = [103, 101, 116]
      · subst h2; simp
      · by_cases h3 : rest = [113, 117, 101, 114, 121]
        · subst h3; simp
        · by_cases h4 : rest = [119, 97, 116, 99, 104]
          · subst h4; simp [watchI, cutC]
          · by_cases h5 : rest = [116, 97, 107, 101]
            · subst h5; simp
            · by_cases h6 : rest = [99, 97, 110, 99, 101, 108]
              · subst h6; simp
              · simp [h1, h2, h3, h4, h5, h6]
theorem callI_eq (l : List UInt8) : callI l = callT l := by
  unfold callI
  rcases cutC_cases 32 l with ⟨p, r, rfl, hp⟩ | hp
  · rw [cutC_yes hp]
    simp only
    have hR : ∀ cl, _ = callR cl r := fun cl => callRI cl r
    generalize hq : cutC 32 r = q at *
    obtain ⟨word, text, more⟩ := q
    simp only at hR ⊢
    simp only [hR]
    match p, hp with
    | [], _ =>
      have : callT ([] ++ 32 :: r) = none := by
        cases r with
        | nil => rfl
        | cons b r =>
          show (if b = 32 then (clientB 32).bind _ else none) = none
          split
          · rfl
          · rfl
      rw [this]; rfl
    | [c], _ =>
      have : callT ([c] ++ 32 :: r) = (clientB c).bind fun cl => callR cl r := by show (if (32 : UInt8) = 32 then (clientB c).bind (fun cl => callR cl r) else none) = _; rw [if_pos rfl]
      rw [this]; rfl
    | c :: d :: p, hp =>
      show none = (if d = 32 then _ else none)
      rw [if_neg (hp d (by simp))]
  · rw [cutC_no hp]
    simp only
    have hT : callT l = none := by
      match l, hp with
      | [], _ => rfl
      | [c], _ => rfl
      | c :: d :: p, hp =>
        show (if d = 32 then _ else none) = none
        rw [if_neg (hp d (by simp))]
    rw [hT]
    show (clientW l).bind _ = none
    cases clientW l with
    | none => rfl
    | some cl => rfl
end Go.Proofs.YtbihihkdgckgnaaDoor


namespace Go.Proofs.YtbihihkdgckgnaaDoor
open Go.RowKit

set_option maxHeartbeats 2000000 in
set_option maxRecDepth 100000 in
theorem kindOf_walk (s : ByteArray) (w : World) : Calls Tryd.prog 37 #[.string s] w fun e w' => e = .returned (.int .i64 (kindW s.data.toList)) ∧ w = w' := by
  by_cases h1 : s.toList = [112, 97, 116, 99, 104]
  · have HV : Hid (kindW s.data.toList = 1) := by show _ = _; rw [← ByteArray.toList_eq, h1]; rfl
    have t1 : (s.toList == [112, 97, 116, 99, 104]) = true := by simpa using h1
    clear h1
    go_enter Tryd.func37, Tryd.ntmps37
    go_wp2
    go_ret
    exact ⟨by rw [unhide HV]; rfl, rfl⟩
  by_cases h2 : s.toList = [103, 101, 116]
  · have HV : Hid (kindW s.data.toList = 2) := by show _ = _; rw [← ByteArray.toList_eq, h2]; rfl
    have t1 : (s.toList == [112, 97, 116, 99, 104]) = false := by simpa using h1
    have t2 : (s.toList == [103, 101, 116]) = true := by simpa using h2
    clear h1 h2
    go_enter Tryd.func37, Tryd.ntmps37
    go_wp2
    go_ret
    exact ⟨by rw [unhide HV]; rfl, rfl⟩
  by_cases h3 : s.toList = [113, 117, 101, 114, 121]
  · have HV : Hid (kindW s.data.toList = 3) := by show _ = _; rw [← ByteArray.toList_eq, h3]; rfl
    have t1 : (s.toList == [112, 97, 116, 99, 104]) = false := by simpa using h1
    have t2 : (s.toList == [103, 101, 116]) = false := by simpa using h2
    have t3 : (s.toList == [113, 117, 101, 114, 121]) = true := by simpa using h3
    clear h1 h2 h3
    go_enter Tryd.func37, Tryd.ntmps37
    go_wp2
    go_ret
    exact ⟨by rw [unhide HV]; rfl, rfl⟩
  by_cases h4 : s.toList = [119, 97, 116, 99, 104]
  · have HV : Hid (kindW s.data.toList = 4) := by show _ = _; rw [← ByteArray.toList_eq, h4]; rfl
    have t1 : (s.toList == [112, 97, 116, 99, 104]) = false := by simpa using h1
    have t2 : (s.toList == [103, 101, 116]) = false := by simpa using h2
    have t3 : (s.toList == [113, 117, 101, 114, 121]) = false := by simpa using h3
    have t4 : (s.toList == [119, 97, 116, 99, 104]) = true := by simpa using h4
    clear h1 h2 h3 h4
    go_enter Tryd.func37, Tryd.ntmps37
    go_wp2
    go_ret
    exact ⟨by rw [unhide HV]; rfl, rfl⟩
  by_cases h5 : s.toList = [116, 97, 107, 101]
  · have HV : Hid (kindW s.data.toList = 5) := by show _ = _; rw [← ByteArray.toList_eq, h5]; rfl
    have t1 : (s.toList == [112, 97, 116, 99, 104]) = false := by simpa using h1
    have t2 : (s.toList == [103, 101, 116]) = false := by simpa using h2
    have t3 : (s.toList == [113, 117, 101, 114, 121]) = false := by simpa using h3
    have t4 : (s.toList == [119, 97, 116, 99, 104]) = false := by simpa using h4
    have t5 : (s.toList == [116, 97, 107, 101]) = true := by simpa using h5
    clear h1 h2 h3 h4 h5
    go_enter Tryd.func37, Tryd.ntmps37
    go_wp2
    go_ret
    exact ⟨by rw [unhide HV]; rfl, rfl⟩
  by_cases h6 : s.toList = [99, 97, 110, 99, 101, 108]
  · have HV : Hid (kindW s.data.toList = 6) := by show _ = _; rw [← ByteArray.toList_eq, h6]; rfl
    have t1 : (s.toList == [112, 97, 116, 99, 104]) = false := by simpa using h1
    have t2 : (s.toList == [103, 101, 116]) = false := by simpa using h2
    have t3 : (s.toList == [113, 117, 101, 114, 121]) = false := by simpa using h3
    have t4 : (s.toList == [119, 97, 116, 99, 104]) = false := by simpa using h4
    have t5 : (s.toList == [116, 97, 107, 101]) = false := by simpa using h5
    have t6 : (s.toList == [99, 97, 110, 99, 101, 108]) = true := by simpa using h6
    clear h1 h2 h3 h4 h5 h6
    go_enter Tryd.func37, Tryd.ntmps37
    go_wp2
    go_ret
    exact ⟨by rw [unhide HV]; rfl, rfl⟩
  have HV : Hid (kindW s.data.toList = 0) := by show _ = _; rw [← ByteArray.toList_eq]; unfold kindW; simp [h1, h2, h3, h4, h5, h6]
  have t1 : (s.toList == [112, 97, 116, 99, 104]) = false := by simpa using h1
  have t2 : (s.toList == [103, 101, 116]) = false := by simpa using h2
  have t3 : (s.toList == [113, 117, 101, 114, 121]) = false := by simpa using h3
  have t4 : (s.toList == [119, 97, 116, 99, 104]) = false := by simpa using h4
  have t5 : (s.toList == [116, 97, 107, 101]) = false := by simpa using h5
  have t6 : (s.toList == [99, 97, 110, 99, 101, 108]) = false := by simpa using h6
  clear h1 h2 h3 h4 h5 h6
  go_enter Tryd.func37, Tryd.ntmps37
  go_wp2
  go_ret
  exact ⟨by rw [unhide HV]; rfl, rfl⟩
/-- A client's word, a pick's word. -/
def cliP (t : List UInt8) : Int × Bool := if digOk 1 t then ((digV t : Int), decide ((digV t : Int) < 8)) else (0, false)
theorem digV_one (c : UInt8) : digV [c] = c.toNat - 48 := by unfold digV; simp
theorem cliP_yes {t : List UInt8} {n : Int} (h : clientW t = some n) : cliP t = (n, true) := by
  unfold clientW at h
  split at h
  · rename_i c
    unfold clientB at h
    split at h
    · rename_i hc
      injection h with h
      subst h
      unfold cliP
      rw [if_pos ⟨by simp, by simp, fun d hd => by simp at hd; subst hd; exact isDg_iff.2 (by omega)⟩, digV_one, decide_eq_true (by omega)]
    · cases h
  · cases h
theorem cliP_no {t : List UInt8} (h : clientW t = none) : (cliP t).2 = false := by
  unfold cliP
  split
  · rename_i hd
    obtain ⟨h1, h2, h3⟩ := hd
    match t, h1, h2 with
    | [c], _, _ =>
      have hc := isDg_iff.1 (h3 c (by simp))
      have h9 : clientB c = none := h
      unfold clientB at h9
      rw [digV_one]
      by_cases hn : 48 ≤ c.toNat ∧ c.toNat ≤ 55
      · rw [if_pos hn] at h9; cases h9
      · exact decide_eq_false (by omega)
  · rfl
set_option maxHeartbeats 1000000 in
set_option maxRecDepth 100000 in
theorem readClient_walk (s : ByteArray) (w : World) (hs : s.size ≤ 1048576) : Calls Tryd.prog 36 #[.string s] w fun e w' => e = .returned (.tuple #[.int .i64 (cliP s.data.toList).1, .bool (cliP s.data.toList).2]) ∧ w = w' := by
  have HD := hide (readDigits_walk s 1 w hs (by decide))
  by_cases hd : digOk 1 s.data.toList
  · have HV : Hid (cliP s.data.toList = ((digV s.data.toList : Int), decide ((digV s.data.toList : Int) < 8))) := by show _ = _; unfold cliP; rw [if_pos hd]
    have HE : Hid (digP 1 s.data.toList = .tuple #[.int .i64 (digV s.data.toList : Int), .bool true]) := by show _ = _; unfold digP; rw [if_pos hd]
    rw [unhide HE] at HD
    generalize digV s.data.toList = D at *
    clear hd HE
    go_enter Tryd.func36, Tryd.ntmps36
    go_wp2_with fail
    refine (unhide HD).mono ?_
    rintro e w2 ⟨rfl, rfl⟩
    clear HD
    go_wp2
    go_ret2
    exact ⟨by rw [unhide HV]; rfl, rfl⟩
  · have HV : Hid (cliP s.data.toList = (0, false)) := by show _ = _; unfold cliP; rw [if_neg hd]
    have HE : Hid (digP 1 s.data.toList = .tuple #[.int .i64 0, .bool false]) := by show _ = _; unfold digP; rw [if_neg hd]
    rw [unhide HE] at HD
    clear hd HE
    go_enter Tryd.func36, Tryd.ntmps36
    go_wp2_with fail
    refine (unhide HD).mono ?_
    rintro e w2 ⟨rfl, rfl⟩
    clear HD
    go_wp2
    go_ret2
    exact ⟨by rw [unhide HV]; rfl, rfl⟩
/-- What readPick answers. -/
def pkP (t : List UInt8) : Int × Bool := if t = [100] then (8, true) else cliP t
theorem pkP_yes {t : List UInt8} {n : Int} (h : pickW t = some n) : pkP t = (n, true) := by
  unfold pickW at h
  split at h
  · rename_i c
    unfold pickB at h
    split at h
    · rename_i hc
      subst hc
      injection h with h
      subst h
      rfl
    · rename_i hc
      unfold pkP
      rw [if_neg (by simpa using hc)]
      exact cliP_yes (by unfold clientW clientB; exact h)
  · cases h
theorem pkP_no {t : List UInt8} (h : pickW t = none) : (pkP t).2 = false := by
  unfold pkP
  split
  · rename_i e
    subst e
    cases h
  · rename_i e
    apply cliP_no
    unfold pickW at h
    unfold clientW
    split at h
    · rename_i c
      unfold pickB at h
      rw [if_neg (by simpa using e)] at h
      exact h
    · rename_i hx
      first
        | rfl
        | (split
           · rename_i c
             exact absurd rfl (hx c)
           · rfl)
set_option maxHeartbeats 1000000 in
set_option maxRecDepth 100000 in
theorem readPick_walk (s : ByteArray) (w : World) (hs : s.size ≤ 1048576) : Calls Tryd.prog 34 #[.string s] w fun e w' => e = .returned (.tuple #[.int .i64 (pkP s.data.toList).1, .bool (pkP s.data.toList).2]) ∧ w = w' := by
  have HC := hide (readClient_walk s w hs)
  by_cases h : s.toList = [100]
  · have HV : Hid (pkP s.data.toList = (8, true)) := by show _ = _; rw [← ByteArray.toList_eq, h]; rfl
    have t1 : (s.toList == [100]) = true := by simpa using h
    clear h HC
    go_enter Tryd.func34, Tryd.ntmps34
    go_wp2
    go_ret2
    exact ⟨by rw [unhide HV]; rfl, rfl⟩
  · have HV : Hid (pkP s.data.toList = cliP s.data.toList) := by show _ = _; unfold pkP; rw [if_neg (by rw [← ByteArray.toList_eq]; exact h)]
    have t1 : (s.toList == [100]) = false := by simpa using h
    clear h
    go_enter Tryd.func34, Tryd.ntmps34
    go_wp2_with fail
    refine (unhide HC).mono ?_
    rintro e w2 ⟨rfl, rfl⟩
    clear HC
    go_wp2
    go_ret2
    exact ⟨by rw [unhide HV]; rfl, rfl⟩
end Go.Proofs.YtbihihkdgckgnaaDoor


namespace Go.Proofs.YtbihihkdgckgnaaDoor
open Go.RowKit

theorem own_below {w w1 : World} {B e size n : Nat} {v : Value} {xs : List Value} (h : w.ownsRow B e size v n xs) (hb : Below w.heap.size w w1) : w1.ownsRow B e size v n xs := by
  refine ⟨h.1, ?_⟩
  rcases h.2 with h0 | ⟨g, cap, cur, hv, hB, hg, r⟩
  · exact .inl h0
  · exact .inr ⟨g, cap, cur, hv, hB, (hb.block g (Array.getElem?_eq_some_iff.1 hg).1).trans hg, r⟩
theorem own_mono {w : World} {B B' e size n : Nat} {v : Value} {xs : List Value} (h : w.ownsRow B e size v n xs) (hB : B' ≤ B) : w.ownsRow B' e size v n xs := by
  refine ⟨h.1, ?_⟩
  rcases h.2 with h0 | ⟨g, cap, cur, hv, hb, r⟩
  · exact .inl h0
  · exact .inr ⟨g, cap, cur, hv, Nat.le_trans hB hb, r⟩
end Go.Proofs.YtbihihkdgckgnaaDoor


namespace Go.Proofs.YtbihihkdgckgnaaDoor
open Go.RowKit

theorem infoString : (Tryd.prog.info? 9).map (fun i => (i.zero, i.size, i.bytes)) = some (some (.string ByteArray.empty), 1, 16) := by kernel_rfl

def tokCell (t : List UInt8) : Value := .string ⟨t.toArray⟩
abbrev OT (w : World) (B : Nat) (v : Value) (ts : List (List UInt8)) : Prop := w.ownsRow B 9 1 v ts.length (ts.map tokCell)
def baT (t : List UInt8) : ByteArray := ⟨t.toArray⟩

theorem OT.shape {w : World} {B : Nat} {v : Value} {ts : List (List UInt8)} (h : OT w B v ts) : ∃ a g cap, v = .slice a ts.length cap ∧ SS w a g 0 (ts.map baT) ∧ (0 < ts.length → B ≤ g) := by
  rcases h.2 with ⟨hv, h0⟩ | ⟨g, cap, cur, hv, hb, hg, _⟩
  · exact ⟨none, 0, 0, by rw [hv, h0], ⟨fun h => by rw [List.length_map] at h; omega, fun j hj => by rw [List.length_map] at hj; omega⟩, fun h => by omega⟩
  · refine ⟨some ⟨g, 0, none⟩, g, cap, hv, ⟨fun _ => rfl, fun j hj => ?_⟩, fun _ => hb⟩
    subst hv
    rw [List.length_map] at hj
    rw [Nat.zero_add, h.cellAt j (by omega)]
    simp [tokCell, baT, hj]

theorem one_tok (s : ByteArray) : ∀ u ∈ [Value.string s], u.oneCell' = true := by intro u hu; simp at hu; subst hu; rfl
theorem OT.step {w : World} {B : Nat} {v : Value} {ts : List (List UInt8)} {t : List UInt8} (h : w.ownsRow B 9 1 v (ts.length + 1) (ts.map tokCell ++ [tokCell t])) : OT w B v (ts ++ [t]) := by
  unfold OT; rw [List.length_append, List.map_append]; exact h

/-- No slash from place f up to place k. -/
def NoSl (l : List UInt8) (f k : Nat) : Prop := ∀ m, f ≤ m → m < k → ∀ c, l[m]? = some c → ¬ c.toNat = 47
theorem pieces_app {p : List UInt8} (hp : ∀ c ∈ p, ¬ c.toNat = 47) {c : UInt8} (hc : c.toNat = 47) (r : List UInt8) : pieces (p ++ c :: r) = p :: pieces r := by
  induction p with
  | nil => exact pieces_cut r hc
  | cons a p ih =>
    have := ih (fun c hc => hp c (List.mem_cons_of_mem _ hc))
    exact pieces_go (hp a List.mem_cons_self) this
theorem pieces_one {p : List UInt8} (hp : ∀ c ∈ p, ¬ c.toNat = 47) : pieces p = [p] := by
  induction p with
  | nil => rfl
  | cons a p ih =>
    have := ih (fun c hc => hp c (List.mem_cons_of_mem _ hc))
    exact pieces_go (hp a List.mem_cons_self) this
theorem NoSl.piece {l : List UInt8} {f k : Nat} (h : NoSl l f k) : ∀ c ∈ (l.drop f).take (k - f), ¬ c.toNat = 47 := by
  intro c hc
  obtain ⟨i, hi, rfl⟩ := List.mem_iff_getElem.1 hc
  rw [List.length_take, List.length_drop] at hi
  refine h (f + i) (by omega) (by omega) _ ?_
  rw [List.getElem_take, List.getElem_drop, List.getElem?_eq_getElem (by omega)]
theorem NoSl.cut {l : List UInt8} {f k : Nat} (h : NoSl l f k) (hfk : f ≤ k) (hk : k < l.length) (hc : l[k].toNat = 47) : pieces (l.drop f) = (l.drop f).take (k - f) :: pieces (l.drop (k + 1)) := by
  have e : l.drop f = (l.drop f).take (k - f) ++ l[k] :: l.drop (k + 1) := by
    have h1 := (List.take_append_drop (k - f) (l.drop f)).symm
    rw [List.drop_drop, show f + (k - f) = k from by omega, List.drop_eq_getElem_cons hk] at h1
    exact h1
  have h2 := pieces_app h.piece hc (l.drop (k + 1))
  rw [← e] at h2
  exact h2
theorem NoSl.last {l : List UInt8} {f : Nat} (h : NoSl l f l.length) : pieces (l.drop f) = [l.drop f] := by
  have hp := h.piece
  rw [List.take_of_length_le (by rw [List.length_drop]; omega)] at hp
  exact pieces_one hp
theorem NoSl.snoc {l : List UInt8} {f k : Nat} (h : NoSl l f k) (hk : k < l.length) (hc : ¬ l[k].toNat = 47) : NoSl l f (k + 1) := by
  intro m h1 h2 c hm
  by_cases e : m = k
  · subst e; rw [List.getElem?_eq_getElem hk] at hm; simp at hm; subst hm; exact hc
  · exact h m h1 (by omega) c hm
theorem NoSl.none (l : List UInt8) (k : Nat) : NoSl l k k := fun m h1 h2 => by omega

theorem toks_cons {l p : List UInt8} {ps : List (List UInt8)} (h : pieces l = p :: ps) : toks l = (unesc p).bind fun t => (ps.mapM unesc).map (t :: ·) := by
  unfold toks; rw [h, List.mapM_cons]
  cases unesc p with
  | none => rfl
  | some t => cases List.mapM unesc ps <;> rfl

/-- The tokens behind place f, with those that are read already. -/
def TkAt (l : List UInt8) (f : Nat) (done : List (List UInt8)) : Prop := toks (l.drop 1) = (toks (l.drop f)).map (done ++ ·)
theorem TkAt.cut {l : List UInt8} {f k : Nat} {done : List (List UInt8)} {t : List UInt8} (h : TkAt l f done) (hn : NoSl l f k) (hfk : f ≤ k) (hk : k < l.length) (hc : l[k].toNat = 47) (hu : unesc ((l.drop f).take (k - f)) = some t) : TkAt l (k + 1) (done ++ [t]) := by
  unfold TkAt at *
  rw [h, toks_cons (hn.cut hfk hk hc), hu]
  show Option.map (done ++ ·) (Option.map (t :: ·) (toks (l.drop (k + 1)))) = _
  rw [Option.map_map]; congr 1; funext x; simp
theorem TkAt.last {l : List UInt8} {f : Nat} {done : List (List UInt8)} {t : List UInt8} (h : TkAt l f done) (hn : NoSl l f l.length) (hu : unesc ((l.drop f).take (l.length - f)) = some t) : toks (l.drop 1) = some (done ++ [t]) := by
  rw [List.take_of_length_le (by rw [List.length_drop]; omega)] at hu
  unfold TkAt at h; rw [h, toks_cons hn.last, hu]; rfl
theorem extract_toList (s : ByteArray) (f k : Nat) : (s.extract f k).data.toList = (s.data.toList.drop f).take (k - f) := by
  exact Lib.extract_data s f k
end Go.Proofs.YtbihihkdgckgnaaDoor


namespace Go.Proofs.YtbihihkdgckgnaaDoor
open Go.RowKit

end Go.Proofs.YtbihihkdgckgnaaDoor


namespace Go.Proofs.YtbihihkdgckgnaaDoor
open Go.RowKit

end Go.Proofs.YtbihihkdgckgnaaDoor


namespace Go.Proofs.YtbihihkdgckgnaaDoor
open Go.RowKit

theorem lit1 (w : World) (t : TypeId) (x : Value) : ∀ j u, [x][j]? = some u → (w.alloc (.cells #[x] t)).cell? ((⟨w.heap.size, 0, none⟩ : Addr).add j) = some u := by
  intro j u hj
  match j, hj with
  | 0, hj => simp at hj; subst hj; simp [Addr.add]
end Go.Proofs.YtbihihkdgckgnaaDoor


namespace Go.Proofs.YtbihihkdgckgnaaDoor
open Go.RowKit

def dgM (k : Nat) : UInt8 := UInt8.ofNat (48 + k % 10)
def mkFrom : Nat → Nat → ByteArray → ByteArray
  | 0, _, acc => acc
  | f + 1, k, acc => if k = 0 then acc else mkFrom f (k / 10) (⟨#[dgM k]⟩ ++ acc)
def mkText (k : Nat) : ByteArray := ⟨#[109]⟩ ++ mkFrom k k ByteArray.empty

theorem dg_toNat (k : Nat) : ((dgM k).toNat : Int) = 48 + (k : Int) % 10 := by
  have : (dgM k).toNat = 48 + k % 10 := by unfold dgM; rw [UInt8.toNat_ofNat']; omega
  omega
theorem convert_one (w : World) (x : UInt8) (n : Int) (h : (x.toNat : Int) = n) : (convert 63 9 (.slice (some ⟨w.heap.size, 0, none⟩) 1 1)).run Tryd.prog (w.alloc (.cells #[.int .u8 n] 5)) = .ok (.string ⟨#[x]⟩) (w.alloc (.cells #[.int .u8 n] 5)) := by
  subst h
  exact run_convert_bytes_back (P := Tryd.prog) _ 63 9 5 ⟨w.heap.size, 0, none⟩ 1 [x] Tryd.underlying63 Tryd.underlying5 Tryd.underlying9 (fun j hj => by
    simp at hj; subst hj
    exact lit1 w 5 _ 0 _ rfl)
theorem mk_step (f k : Nat) (acc : ByteArray) (h : 0 < k) : mkFrom (f + 1) k acc = mkFrom f (k / 10) (⟨#[dgM k]⟩ ++ acc) := by
  rw [mkFrom, if_neg (by omega)]
theorem one_size (x : UInt8) : (⟨#[x]⟩ : ByteArray).size = 1 := rfl
theorem app_size (a b : ByteArray) : (a ++ b).size = a.size + b.size := ByteArray.size_append

set_option maxHeartbeats 400000 in
theorem mark_walk (k0 : Nat) (w : World) (h1 : 1 ≤ k0) (h2 : k0 ≤ 1099511627776) :
    Calls Tryd.prog 29 #[.int .i64 k0] w fun e w' => e = .returned (.string (mkText k0)) ∧ Below w.heap.size w w' := by
  go_enter Tryd.func29, Tryd.ntmps29
  go_wp2
  go_loopw [0, 3] (fun i o wr => ∃ (f k : Nat) (acc : ByteArray), k ≤ f ∧ k ≤ k0 ∧ i = .int .i64 k ∧ o = .string acc ∧ acc.size + f ≤ k0 ∧ mkFrom f k acc = mkFrom k0 k0 ByteArray.empty ∧ Below w.heap.size w wr) (fun i _ _ => (intOf i).toNat)
  case atStart => exact ⟨k0, k0, ByteArray.empty, Nat.le_refl _, Nat.le_refl _, rfl, rfl, by show 0 + k0 ≤ k0; omega, rfl, Below.refl _ _⟩
  case round =>
    obtain ⟨f, k, acc, hkf, hk0, rfl, rfl, hac, hmk, hb⟩ := hrel
    have HM := hide hmk
    clear hmk
    by_cases hk : 0 < k
    · have hk' : (0 : Int) < (k : Int) := by omega
      obtain ⟨f, rfl⟩ : ∃ f', f = f' + 1 := ⟨f - 1, by omega⟩
      have hcv := convert_one wr (dgM k) _ (dg_toNat k)
      have hadd := run_string_add_sum (P := Tryd.prog) (wr.alloc (.cells #[.int .u8 (48 + (k : Int) % 10)] 5)) ⟨#[dgM k]⟩ acc (by rw [one_size]; omega)
      have HB := hide (hb.alloc hb.size (.cells #[.int .u8 (48 + (k : Int) % 10)] 5))
      have HS : Hid ((⟨#[dgM k]⟩ ++ acc : ByteArray).size = 1 + acc.size) := app_size _ _
      rw [mk_step f k acc hk] at HM
      clear hb
      generalize (⟨#[dgM k]⟩ ++ acc : ByteArray) = acc2 at *
      go_wp2
      go_roundw
      case rel => exact ⟨f, k / 10, acc2, by omega, by omega, by go_num, rfl, by rw [unhide HS]; omega, unhide HM, unhide HB⟩
      case measure => simp [intOf]; omega
    · have HF : Hid (mkFrom k0 k0 ByteArray.empty = acc) := by
        have e := unhide HM
        have hk' : k = 0 := by omega
        subst hk'
        rw [← e]; cases f with
        | zero => rfl
        | succ f => rfl
      have hadd := run_string_add_sum (P := Tryd.prog) wr ⟨#[109]⟩ acc (by rw [one_size]; omega)
      have HE : Hid (mkText k0 = ⟨#[109]⟩ ++ acc) := by have e := unhide HF; show _ = _; unfold mkText; rw [e]
      clear HF HM
      generalize (⟨#[109]⟩ ++ acc : ByteArray) = acc2 at *
      go_wp2
      go_ret
      exact ⟨by rw [unhide HE]; rfl, hb⟩
end Go.Proofs.YtbihihkdgckgnaaDoor


namespace Go.Proofs.YtbihihkdgckgnaaDoor
open Go.RowKit

/-- The row holds the marks from k on. -/
def marks (k n : Nat) : List Value := (List.range n).map fun j => .string (mkText (k + j))
end Go.Proofs.YtbihihkdgckgnaaDoor

