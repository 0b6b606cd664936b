import Derived.Test.YtcjajchfjoffnaaGreatDoorBch4
import Derived.Laws.DeepStrings4
import Derived.Test.YtcjajchfjoffnaaGreatDoorBch1
import Derived.Lib.ParseIntBCases
import Derived.Lib.ItoaMem
namespace Go.Proofs.YtcjajchfjoffnaaGreatDoor
open Go.RowKit

def isOp (c : Nat) : Bool := c == 91 || c == 123
def isCl (c : Nat) : Bool := c == 93 || c == 125
/-- The next place to look at. -/
def nxt (T : ByteArray) (i : Nat) : Option Nat := if bt T i = 34 then (strQ T i).map (·.2) else some (i + 1)
/-- What is open behind a byte; none where nothing was open that it could close. -/
def op1 (c op : Nat) : Option Nat := if isOp c then some (op + 1) else if isCl c then (if op = 0 then none else some (op - 1)) else some op
def stopAt (T : ByteArray) (i : Nat) : Bool := decide (i = T.size) || bt T i == 44 || bt T i == 93 || bt T i == 125
def endF (T : ByteArray) : Nat → Nat → Nat → Option Nat
  | 0, _, _ => none
  | f + 1, op, i => if i < T.size then (nxt T i).bind fun j => (op1 (bt T i) op).bind fun o => if o = 0 ∧ stopAt T j = true then some j else endF T f o j else none
def wiF (T : ByteArray) : Nat → Nat → Nat → Nat → Option Nat
  | 0, _, _, _ => none
  | f + 1, op, mo, i => if i < T.size then (nxt T i).bind fun j => (op1 (bt T i) op).bind fun o => wiF T f o (max mo o) j else some mo

section
variable {T : ByteArray}
theorem at_head {i : Nat} {c : UInt8} {m : List UInt8} (h : T.data.toList.drop i = c :: m) : i < T.size ∧ bt T i = c.toNat ∧ T.data.toList.drop (i + 1) = m := by
  refine ⟨drop_size2 h (by simp), ?_, ?_⟩
  · have := bt_drop T i 0; rw [h] at this; exact this
  · exact drop_past (m := [c]) (n := m) h
/-- What stands behind a value. -/
def Stops (m : List UInt8) : Prop := m = [] ∨ ∃ c r, m = c :: r ∧ (c.toNat = 44 ∨ c.toNat = 93 ∨ c.toNat = 125)
theorem stop_of {i : Nat} {m : List UInt8} (h : T.data.toList.drop i = m) (hi : i ≤ T.size) (hm : Stops m) : stopAt T i = true := by
  unfold stopAt
  rcases hm with rfl | ⟨c, r, rfl, hc⟩
  · have : i = T.size := by
      have := congrArg List.length h
      rw [List.length_drop, data_len, List.length_nil] at this
      omega
    simp [this]
  · obtain ⟨_, hb, _⟩ := at_head h
    rw [hb]
    rcases hc with hc | hc | hc <;> simp [hc]
theorem stop_not {i : Nat} {c : UInt8} {m : List UInt8} (h : T.data.toList.drop i = c :: m) (h1 : c.toNat ≠ 44) (h2 : c.toNat ≠ 93) (h3 : c.toNat ≠ 125) : stopAt T i = false := by
  obtain ⟨hl, hb, _⟩ := at_head h
  unfold stopAt
  rw [hb]
  simp [h1, h2, h3]; omega
def plainC (c : UInt8) : Prop := c.toNat ≠ 34 ∧ c.toNat ≠ 91 ∧ c.toNat ≠ 123 ∧ c.toNat ≠ 93 ∧ c.toNat ≠ 125
theorem op1_plain {c : UInt8} (h : plainC c) (op : Nat) : op1 c.toNat op = some op := by
  obtain ⟨_, a, b, d, e⟩ := h
  simp [op1, isOp, isCl, a, b, d, e]
theorem nxt_plain {i : Nat} {c : UInt8} (hb : bt T i = c.toNat) (h : c.toNat ≠ 34) : nxt T i = some (i + 1) := by unfold nxt; rw [if_neg (by omega)]

/-- A text that is passed over where something is open. -/
def InP (T : ByteArray) (t : List UInt8) : Prop := ∀ op i m f k, 1 ≤ op → T.data.toList.drop i = t ++ m → endF T f op (i + t.length) = some k → ∃ f', endF T f' op i = some k
def TopP (T : ByteArray) (t : List UInt8) : Prop := ∀ i m, T.data.toList.drop i = t ++ m → Stops m → ∃ f, endF T f 0 i = some (i + t.length)
theorem InP.nil : InP T [] := fun _ _ _ f _ _ _ h => ⟨f, h⟩
theorem InP.app {a b : List UInt8} (ha : InP T a) (hb : InP T b) : InP T (a ++ b) := fun op i m f k ho h he => by
  rw [List.append_assoc] at h
  rw [List.length_append, ← Nat.add_assoc] at he
  obtain ⟨f1, h1⟩ := hb op (i + a.length) m f k ho (drop_past h) he
  exact ha op i (b ++ m) f1 k ho h h1
theorem InP.one {c : UInt8} (hc : plainC c) : InP T [c] := fun op i m f k ho h he => by
  obtain ⟨hl, hb, _⟩ := at_head h
  refine ⟨f + 1, ?_⟩
  rw [endF, if_pos hl, nxt_plain hb hc.1, hb, op1_plain hc]
  simp only [Option.bind_some]
  rw [if_neg (by omega)]
  exact he
theorem InP.plain : ∀ {t : List UInt8}, (∀ c ∈ t, plainC c) → InP T t
  | [], _ => InP.nil
  | c :: _, h => InP.app (a := [c]) (InP.one (h c List.mem_cons_self)) (InP.plain fun d hd => h d (List.mem_cons_of_mem _ hd))
theorem nxt_quoted {i : Nat} {l m : List UInt8} (hv : Lib.validD l = true) (h : T.data.toList.drop i = quoted l ++ m) : i < T.size ∧ bt T i = 34 ∧ nxt T i = some (i + (quoted l).length) := by
  have h' : T.data.toList.drop i = 34 :: (qs l ++ 34 :: m) := by rw [h]; simp [quoted]
  obtain ⟨hl, hb, _⟩ := at_head h'
  refine ⟨hl, hb, ?_⟩
  unfold nxt
  rw [if_pos (by rw [hb]; rfl), strQ_at l T m hv i h]
  rfl
theorem op1_34 (op : Nat) : op1 34 op = some op := rfl
theorem InP.quoted {l : List UInt8} (hv : Lib.validD l = true) : InP T (Go.Proofs.YtcjajchfjoffnaaGreatDoor.quoted l) := fun op i m f k ho h he => by
  obtain ⟨hl, hb, hn⟩ := nxt_quoted hv h
  refine ⟨f + 1, ?_⟩
  rw [endF, if_pos hl, hn, hb, op1_34]
  simp only [Option.bind_some]
  rw [if_neg (by omega)]
  exact he
theorem TopP.quoted {l : List UInt8} (hv : Lib.validD l = true) : TopP T (Go.Proofs.YtcjajchfjoffnaaGreatDoor.quoted l) := fun i m h hs => by
  obtain ⟨hl, hb, hn⟩ := nxt_quoted hv h
  have hd := drop_past h
  have hle : i + (Go.Proofs.YtcjajchfjoffnaaGreatDoor.quoted l).length ≤ T.size := by
    have := congrArg List.length h
    rw [List.length_drop, data_len, List.length_append] at this
    omega
  refine ⟨1, ?_⟩
  rw [endF, if_pos hl, hn, hb, op1_34]
  simp only [Option.bind_some]
  rw [if_pos ⟨trivial, stop_of hd hle hs⟩]
theorem TopP.plain : ∀ {t : List UInt8}, t ≠ [] → (∀ c ∈ t, plainC c ∧ c.toNat ≠ 44) → TopP T t
  | [], h, _ => absurd rfl h
  | [c], _, hc => fun i m h hs => by
    obtain ⟨hl, hb, hd⟩ := at_head (T := T) (m := m) h
    have hp := hc c List.mem_cons_self
    refine ⟨1, ?_⟩
    rw [endF, if_pos hl, nxt_plain hb hp.1.1, hb, op1_plain hp.1]
    simp only [Option.bind_some]
    rw [if_pos ⟨trivial, stop_of hd hl hs⟩]
    rfl
  | c :: d :: r, _, hc => fun i m h hs => by
    obtain ⟨hl, hb, hd⟩ := at_head (T := T) (m := d :: r ++ m) h
    have hp := hc c List.mem_cons_self
    have hq := hc d (List.mem_cons_of_mem _ List.mem_cons_self)
    obtain ⟨f, hf⟩ := TopP.plain (t := d :: r) (by simp) (fun x hx => hc x (List.mem_cons_of_mem _ hx)) (i + 1) m hd hs
    refine ⟨f + 1, ?_⟩
    rw [endF, if_pos hl, nxt_plain hb hp.1.1, hb, op1_plain hp.1]
    simp only [Option.bind_some]
    rw [if_neg (by rw [stop_not (m := r ++ m) hd hq.2 hq.1.2.2.2.1 hq.1.2.2.2.2]; simp), hf]
    simp only [List.length_cons]
    congr 1; omega
theorem InP.wrap {t : List UInt8} {a b : UInt8} (ha : isOp a.toNat = true) (hb : isCl b.toNat = true) (ht : InP T t) : InP T (a :: (t ++ [b])) ∧ TopP T (a :: (t ++ [b])) := by
  have ha34 : a.toNat ≠ 34 := by intro e; rw [e] at ha; cases ha
  have hb34 : b.toNat ≠ 34 := by intro e; rw [e] at hb; cases hb
  have hbo : isOp b.toNat = false := by
    simp only [isCl, Bool.or_eq_true, beq_iff_eq] at hb
    rcases hb with h | h <;> simp [isOp, h]
  refine ⟨fun op i m f k ho h he => ?_, fun i m h hs => ?_⟩
  · have h0 : T.data.toList.drop i = a :: (t ++ (b :: m)) := by rw [h]; simp
    obtain ⟨hl, hba, hd⟩ := at_head h0
    obtain ⟨hl2, hbb, hd2⟩ := at_head (drop_past hd)
    have e2 : ∃ f', endF T f' (op + 1) (i + 1 + t.length) = some k := by
      refine ⟨f + 1, ?_⟩
      rw [endF, if_pos hl2, nxt_plain hbb hb34, hbb]
      simp only [Option.bind_some, op1, hbo, hb, if_true, Bool.false_eq_true, if_false]
      rw [if_neg (by omega)]
      simp only [Option.bind_some, Nat.add_sub_cancel]
      rw [if_neg (by omega)]
      rw [show i + 1 + t.length + 1 = i + (a :: (t ++ [b])).length by simp; omega]
      exact he
    obtain ⟨f2, hf2⟩ := e2
    obtain ⟨f3, hf3⟩ := ht (op + 1) (i + 1) (b :: m) f2 k (by omega) hd hf2
    refine ⟨f3 + 1, ?_⟩
    rw [endF, if_pos hl, nxt_plain hba ha34, hba]
    simp only [Option.bind_some, op1, ha, if_true]
    rw [if_neg (by omega)]
    exact hf3
  · have h0 : T.data.toList.drop i = a :: (t ++ (b :: m)) := by rw [h]; simp
    obtain ⟨hl, hba, hd⟩ := at_head h0
    obtain ⟨hl2, hbb, hd2⟩ := at_head (drop_past hd)
    have e2 : endF T 1 1 (i + 1 + t.length) = some (i + (a :: (t ++ [b])).length) := by
      rw [endF, if_pos hl2, nxt_plain hbb hb34, hbb]
      simp only [Option.bind_some, op1, hbo, hb, if_true, Bool.false_eq_true, if_false]
      rw [if_neg (by omega)]
      simp only [Option.bind_some, Nat.sub_self]
      rw [if_pos ⟨trivial, stop_of hd2 hl2 hs⟩]
      simp; omega
    obtain ⟨f3, hf3⟩ := ht 1 (i + 1) (b :: m) 1 _ (by omega) hd e2
    refine ⟨f3 + 1, ?_⟩
    rw [endF, if_pos hl, nxt_plain hba ha34, hba]
    simp only [Option.bind_some, op1, ha, if_true]
    rw [if_neg (by omega)]
    exact hf3
theorem InP.joinT : ∀ {ts : List (List UInt8)}, (∀ t ∈ ts, InP T t) → InP T (Go.Proofs.YtcjajchfjoffnaaGreatDoor.joinT ts)
  | [], _ => InP.nil
  | t :: r, h => InP.app (a := [44]) (InP.one ⟨by decide, by decide, by decide, by decide, by decide⟩) (InP.app (h t List.mem_cons_self) (InP.joinT fun x hx => h x (List.mem_cons_of_mem _ hx)))
theorem InP.joinC {ts : List (List UInt8)} (h : ∀ t ∈ ts, InP T t) : InP T (Go.Proofs.YtcjajchfjoffnaaGreatDoor.joinC ts) := by
  cases ts with
  | nil => exact InP.nil
  | cons t r => exact InP.app (h t List.mem_cons_self) (InP.joinT fun x hx => h x (List.mem_cons_of_mem _ hx))
theorem num_plain {l : List UInt8} (h : okV (.num l)) : l ≠ [] ∧ ∀ c ∈ l, plainC c ∧ c.toNat ≠ 44 := by
  rw [okV] at h
  obtain ⟨c, r, rfl, hc, hr⟩ := h
  refine ⟨by simp, fun d hd => ?_⟩
  have : d.toNat = 45 ∨ isDg d.toNat = true := by
    rcases List.mem_cons.1 hd with rfl | hd
    · exact hc
    · exact .inr (hr d hd)
  have h2 : d.toNat = 45 ∨ (48 ≤ d.toNat ∧ d.toNat ≤ 57) := this.imp id isDg_iff.1
  exact ⟨⟨by omega, by omega, by omega, by omega, by omega⟩, by omega⟩
theorem word_plain {l : List UInt8} (h : l ∈ [[110, 117, 108, 108], [116, 114, 117, 101], ([102, 97, 108, 115, 101] : List UInt8)]) : l ≠ [] ∧ ∀ c ∈ l, plainC c ∧ c.toNat ≠ 44 := by
  unfold plainC
  revert l
  decide

mutual
theorem ctP : ∀ v : JV, okV v → InP T (ct v) ∧ TopP T (ct v)
  | .nul, _ => by
    have := word_plain (l := [110, 117, 108, 108]) (by simp)
    exact ⟨InP.plain fun c hc => (this.2 c hc).1, TopP.plain this.1 this.2⟩
  | .tt, _ => by
    have := word_plain (l := [116, 114, 117, 101]) (by simp)
    exact ⟨InP.plain fun c hc => (this.2 c hc).1, TopP.plain this.1 this.2⟩
  | .ff, _ => by
    have := word_plain (l := [102, 97, 108, 115, 101]) (by simp)
    exact ⟨InP.plain fun c hc => (this.2 c hc).1, TopP.plain this.1 this.2⟩
  | .num l, h => by
    have := num_plain h
    exact ⟨InP.plain fun c hc => (this.2 c hc).1, TopP.plain this.1 this.2⟩
  | .str l, h => by
    rw [okV] at h
    exact ⟨InP.quoted h, TopP.quoted h⟩
  | .arr l, h => by
    rw [okV] at h
    exact InP.wrap rfl rfl (InP.joinC (ctLP l h))
  | .obj m, h => by
    rw [okV] at h
    refine InP.wrap rfl rfl (InP.joinC fun t ht => ?_)
    obtain ⟨p, hp, rfl⟩ := List.mem_map.1 ht
    exact ctMP m h p ((isort_perm _).subset hp)
theorem ctLP : ∀ l : JL, okL l → ∀ t ∈ ctL l, InP T t
  | .nil, _, t, ht => by simp [ctL] at ht
  | .cons v r, h, t, ht => by
    rw [okL] at h
    rw [ctL] at ht
    rcases List.mem_cons.1 ht with e | ht
    · rw [e]; exact (ctP v h.1).1
    · exact ctLP r h.2 t ht
theorem ctMP : ∀ m : JM, okM m → ∀ p ∈ ctM m, InP T (memT p)
  | .nil, _, p, hp => by simp [ctM] at hp
  | .cons k v r, h, p, hp => by
    rw [okM] at h
    rw [ctM] at hp
    rcases List.mem_cons.1 hp with e | hp
    · rw [e]
      exact InP.app (InP.quoted h.1) (InP.app (a := [58]) (InP.one ⟨by decide, by decide, by decide, by decide, by decide⟩) (ctP v h.2.1).1)
    · exact ctMP r h.2.2 p hp
end
end
end Go.Proofs.YtcjajchfjoffnaaGreatDoor

namespace Go.Proofs.YtcjajchfjoffnaaGreatDoor
open Go.RowKit

set_option maxHeartbeats 800000 in
theorem l1Skip_walk (s : ByteArray) (i : Nat) (w : World) (hs : s.size ≤ 1048576) :
    Calls Tryz.prog 74 #[.string s, .int .i64 i] w fun e w' => e = .returned (.int .i64 (sk s i)) ∧ w = w' := by
  go_enter Tryz.func74, Tryz.ntmps74
  go_wp2
  go_loopw [1] (fun k wr => w = wr ∧ ∃ j : Nat, k = .int .i64 (j : Int) ∧ sk s i = sk s j) (fun k _ => s.size - (intOf k).toNat)
  case atStart => exact ⟨rfl, i, rfl, rfl⟩
  case round =>
    obtain ⟨rfl, j, rfl, hst⟩ := hrel
    have HST := hide hst
    clear hst
    by_cases hin : j < s.size
    · have hinI : (j : Int) < (s.size : Int) := by omega
      have e0 := bt_at s j hin
      by_cases c : bt s j = 32 ∨ bt s j = 9 ∨ bt s j = 10 ∨ bt s j = 13
      · have HX : Hid (sk s i = sk s (j + 1)) := by show _ = _; rw [unhide HST, sk_on c]
        rw [e0] at c
        clear e0
        rcases c with c | c | c | c
        · have t1 : (s[j].toNat : Int) = 32 := by omega
          clear c
          go_wp2
          go_roundw
          case rel => exact ⟨trivial, j + 1, by go_num, unhide HX⟩
          case measure => simp [intOf]; omega
        · have t1 : (s[j].toNat : Int) = 9 := by omega
          clear c
          go_wp2
          go_roundw
          case rel => exact ⟨trivial, j + 1, by go_num, unhide HX⟩
          case measure => simp [intOf]; omega
        · have t1 : (s[j].toNat : Int) = 10 := by omega
          clear c
          go_wp2
          go_roundw
          case rel => exact ⟨trivial, j + 1, by go_num, unhide HX⟩
          case measure => simp [intOf]; omega
        · have t1 : (s[j].toNat : Int) = 13 := by omega
          clear c
          go_wp2
          go_roundw
          case rel => exact ⟨trivial, j + 1, by go_num, unhide HX⟩
          case measure => simp [intOf]; omega
      · have HX : Hid (sk s i = j) := by show _ = _; rw [unhide HST, sk_off c]
        have t1 : ((s[j].toNat : Int) == 32) = false := by rw [beq_eq_false_iff_ne]; omega
        have t2 : ((s[j].toNat : Int) == 9) = false := by rw [beq_eq_false_iff_ne]; omega
        have t3 : ((s[j].toNat : Int) == 10) = false := by rw [beq_eq_false_iff_ne]; omega
        have t4 : ((s[j].toNat : Int) == 13) = false := by rw [beq_eq_false_iff_ne]; omega
        clear c e0
        go_wp2
        go_ret
        exact ⟨by rw [unhide HX]; rfl, rfl⟩
    · have hinI : ¬ (j : Int) < (s.size : Int) := by omega
      have d1 : decide ((j : Int) < (s.size : Int)) = false := by simp; omega
      have HX : Hid (sk s i = j) := by show _ = _; rw [unhide HST, sk_past (by omega)]
      go_wp2
      go_ret
      exact ⟨by rw [unhide HX]; rfl, rfl⟩

set_option maxHeartbeats 800000 in
theorem l1Word_walk (s t : ByteArray) (i : Nat) (w : World) (hs : s.size ≤ 1048576) (ht : t.size ≤ 10) (hi : i ≤ s.size + 1) :
    Calls Tryz.prog 122 #[.string s, .int .i64 i, .string t] w fun e w' => e = .returned (.bool (decide (i + t.size ≤ s.size) && (s.extract i (i + t.size)).toList == t.toList)) ∧ w = w' := by
  by_cases hin : i + t.size ≤ s.size
  · have h1 : (i : Int) + (t.size : Int) ≤ (s.size : Int) := by omega
    have h2 : (i : Int) ≤ (i : Int) + (t.size : Int) := by omega
    have h3 : (0 : Int) ≤ (i : Int) := by omega
    have hd : decide (i + t.size ≤ s.size) = true := by simp; omega
    rw [hd, Bool.true_and]
    clear hd
    go_enter Tryz.func122, Tryz.ntmps122
    go_wp2
    go_ret
    exact ⟨rfl, rfl⟩
  · have h1 : ¬ (i : Int) + (t.size : Int) ≤ (s.size : Int) := by omega
    have hd : decide (i + t.size ≤ s.size) = false := by simp; omega
    rw [hd, Bool.false_and]
    clear hd
    go_enter Tryz.func122, Tryz.ntmps122
    go_wp2
    go_ret
    exact ⟨rfl, rfl⟩
end Go.Proofs.YtcjajchfjoffnaaGreatDoor

namespace Go.Proofs.YtcjajchfjoffnaaGreatDoor
open Go.RowKit

theorem ex_toList (s : ByteArray) (i j : Nat) : (s.extract i j).toList = cutB s i j := by
  rw [ByteArray.toList_eq, Lib.extract_data]; rfl
theorem strOf_cut (s : ByteArray) (i j : Nat) : s.extract i j = strOf (cutB s i j) := by
  have h : (s.extract i j).data.toList = cutB s i j := by rw [Lib.extract_data]; rfl
  rw [← h]
  cases s.extract i j; simp [strOf]
theorem cut_tail (c : UInt8) (r : List UInt8) : cutB (strOf (c :: r)) 1 (r.length + 1) = r := by
  unfold cutB; rw [strOf_toList]; simp

set_option maxHeartbeats 800000 in
theorem tooBig_walk (l : List UInt8) (w : World) (h0 : l ≠ []) (hl : l.length ≤ 1048576) :
    Calls Tryz.prog 154 #[.string (strOf l)] w fun e w' => e = .returned (.bool (tooBig l)) ∧ w = w' := by
  obtain ⟨c, r, rfl⟩ : ∃ c r, l = c :: r := by cases l with | nil => exact absurd rfl h0 | cons c r => exact ⟨c, r, rfl⟩
  have hz : (strOf (c :: r)).size = r.length + 1 := by rw [strOf_size]; rfl
  have hpos : 0 < (strOf (c :: r)).size := by omega
  have hc : (strOf (c :: r))[0].toNat = c.toNat := rfl
  by_cases h45 : c = 45
  · subst h45
    have HT : Hid (tooBig (45 :: r) = over r lim1) := by show _ = _; rw [tooBig, if_pos rfl]
    have HE : Hid (((strOf (45 :: r)).extract 1 (r.length + 1)).toList = r) := by show _ = _; rw [ex_toList, cut_tail]
    have t1 : ((strOf (45 :: r))[0].toNat : Int) = 45 := by rw [hc]; rfl
    by_cases h19 : r.length = 19
    · have t2 : ((r.length : Int) != 19) = false := by rw [bne_eq_false_iff_eq]; omega
      have HT2 : Hid (tooBig (45 :: r) = (!Op.bytesLess r lim1 && !(r == lim1))) := by show _ = _; rw [unhide HT]; unfold over; rw [if_neg (by omega)]
      clear h19 hc h0
      go_enter Tryz.func154, Tryz.ntmps154
      go_wp2
      go_ret
      refine ⟨?_, rfl⟩
      rw [unhide HE, unhide HT2]; rfl
    · have t2 : ((r.length : Int) != 19) = true := by rw [bne_iff_ne]; omega
      have HT2 : Hid (tooBig (45 :: r) = decide (19 < (r.length : Int))) := by
        show _ = _; rw [unhide HT]; unfold over; rw [if_pos h19]; simp; omega
      clear h19 hc h0
      go_enter Tryz.func154, Tryz.ntmps154
      go_wp2
      go_ret
      refine ⟨?_, rfl⟩
      rw [unhide HT2]; rfl
  · have HT : Hid (tooBig (c :: r) = over (c :: r) lim0) := by show _ = _; rw [tooBig, if_neg h45]
    have HE : Hid ((strOf (c :: r)).toList = c :: r) := by show _ = _; rw [ByteArray.toList_eq, strOf_toList]
    have t1 : (((strOf (c :: r))[0].toNat : Int) == 45) = false := by
      rw [beq_eq_false_iff_ne, hc]
      intro e
      exact h45 (UInt8.toNat_inj.1 (by show c.toNat = 45; omega))
    by_cases h19 : r.length = 18
    · have t2 : ((r.length + 1 : Int) != 19) = false := by rw [bne_eq_false_iff_eq]; omega
      have HT2 : Hid (tooBig (c :: r) = (!Op.bytesLess (c :: r) lim0 && !((c :: r) == lim0))) := by show _ = _; rw [unhide HT]; unfold over; rw [if_neg (by simp; omega)]
      clear h19 hc h0
      go_enter Tryz.func154, Tryz.ntmps154
      go_wp2
      go_ret
      refine ⟨?_, rfl⟩
      rw [unhide HE, unhide HT2]; rfl
    · have t2 : ((r.length + 1 : Int) != 19) = true := by rw [bne_iff_ne]; omega
      have HT2 : Hid (tooBig (c :: r) = decide (19 < (r.length + 1 : Int))) := by
        show _ = _; rw [unhide HT]; unfold over; rw [if_pos (by simp; omega)]; simp; omega
      clear h19 hc h0
      go_enter Tryz.func154, Tryz.ntmps154
      go_wp2
      go_ret
      refine ⟨?_, rfl⟩
      rw [unhide HT2]; rfl
end Go.Proofs.YtcjajchfjoffnaaGreatDoor

namespace Go.Proofs.YtcjajchfjoffnaaGreatDoor
open Go.RowKit

/-- A number, or -1. -/
def optI (o : Option Nat) : Int := o.elim (-1) fun n => (n : Int)

set_option maxHeartbeats 800000 in
theorem l1Hex_walk (b : Nat) (hb : b < 256) (w : World) :
    Calls Tryz.prog 204 #[.int .u8 b] w fun e w' => w = w' ∧ e = .returned (.int .i64 (optI (hx b))) := by
  by_cases h1 : 48 ≤ b ∧ b ≤ 57
  · have HH : Hid (hx b = some (b - 48)) := by show _ = _; unfold hx; rw [if_pos h1]
    have a1 : (48 : Int) ≤ (b : Int) := by omega
    have a2 : (b : Int) ≤ 57 := by omega
    clear h1
    go_enter Tryz.func204, Tryz.ntmps204
    go_wp2
    go_ret
    refine ⟨rfl, ?_⟩
    rw [unhide HH]
    exact ret_int (show _ = ((b - 48 : Nat) : Int) by go_num)
  · by_cases h2 : 97 ≤ b ∧ b ≤ 102
    · have HH : Hid (hx b = some (b - 87)) := by show _ = _; unfold hx; rw [if_neg h1, if_pos h2]
      have a1 : (97 : Int) ≤ (b : Int) := by omega
      have a2 : (b : Int) ≤ 102 := by omega
      clear h1 h2
      go_enter Tryz.func204, Tryz.ntmps204
      go_wp2
      go_ret
      refine ⟨rfl, ?_⟩
      rw [unhide HH]
      exact ret_int (show _ = ((b - 87 : Nat) : Int) by go_num)
    · by_cases h3 : 65 ≤ b ∧ b ≤ 70
      · have HH : Hid (hx b = some (b - 55)) := by show _ = _; unfold hx; rw [if_neg h1, if_neg h2, if_pos h3]
        have a1 : (65 : Int) ≤ (b : Int) := by omega
        have a2 : (b : Int) ≤ 70 := by omega
        clear h1 h2 h3
        go_enter Tryz.func204, Tryz.ntmps204
        go_wp2
        go_ret
        refine ⟨rfl, ?_⟩
        rw [unhide HH]
        exact ret_int (show _ = ((b - 55 : Nat) : Int) by go_num)
      · have HH : Hid (hx b = none) := by show _ = _; unfold hx; rw [if_neg h1, if_neg h2, if_neg h3]
        rcases (show b < 48 ∨ (57 < b ∧ b < 65) ∨ (70 < b ∧ b < 97) ∨ 102 < b from by omega) with g | g | g | g
        · have a0 : (b : Int) < 48 := by omega
          clear h1 h2 h3 g
          go_enter Tryz.func204, Tryz.ntmps204
          go_wp2
          go_ret
          exact ⟨rfl, by rw [unhide HH]; rfl⟩
        · have a0 : (57 : Int) < (b : Int) := by omega
          have a1 : (b : Int) < 65 := by omega
          clear h1 h2 h3 g
          go_enter Tryz.func204, Tryz.ntmps204
          go_wp2
          go_ret
          exact ⟨rfl, by rw [unhide HH]; rfl⟩
        · have a0 : (70 : Int) < (b : Int) := by omega
          have a1 : (b : Int) < 97 := by omega
          clear h1 h2 h3 g
          go_enter Tryz.func204, Tryz.ntmps204
          go_wp2
          go_ret
          exact ⟨rfl, by rw [unhide HH]; rfl⟩
        · have a0 : (102 : Int) < (b : Int) := by omega
          clear h1 h2 h3 g
          go_enter Tryz.func204, Tryz.ntmps204
          go_wp2
          go_ret
          exact ⟨rfl, by rw [unhide HH]; rfl⟩

def simRel (c : Nat) (k : Value) : Prop := ∃ j : Nat, j ≤ 8 ∧ k = .int .i64 j ∧ (0 < j → c ≠ 34) ∧ (1 < j → c ≠ 92) ∧ (2 < j → c ≠ 47) ∧ (3 < j → c ≠ 98) ∧ (4 < j → c ≠ 102) ∧ (5 < j → c ≠ 110) ∧ (6 < j → c ≠ 114) ∧ (7 < j → c ≠ 116)
abbrev simW (w : World) : World := w.alloc (.cells #[.int .u8 34, .int .u8 92, .int .u8 47, .int .u8 8, .int .u8 12, .int .u8 10, .int .u8 13, .int .u8 9] 5)

set_option maxHeartbeats 4000000 in
set_option maxRecDepth 100000 in
theorem l1Simple_walk (c : Nat) (hc : c < 256) (w : World) :
    Calls Tryz.prog 174 #[.int .u8 c] w fun e w' => e = .returned (.int .i64 (optI (smp c))) ∧ Below w.heap.size w w' := by
  go_enter Tryz.func174, Tryz.ntmps174
  go_wp2
  go_loopw [5] (fun k wr => simRel c k ∧ simW w = wr) (fun k _ => 8 - (intOf k).toNat)
  case atStart => exact ⟨⟨0, by omega, rfl, by omega, by omega, by omega, by omega, by omega, by omega, by omega, by omega⟩, rfl⟩
  case round =>
    obtain ⟨⟨j, hj, rfl, n0, n1, n2, n3, n4, n5, n6, n7⟩, rfl⟩ := hrel
    have HN : Hid ((0 < j → c ≠ 34) ∧ (1 < j → c ≠ 92) ∧ (2 < j → c ≠ 47) ∧ (3 < j → c ≠ 98) ∧ (4 < j → c ≠ 102) ∧ (5 < j → c ≠ 110) ∧ (6 < j → c ≠ 114) ∧ (7 < j → c ≠ 116)) := ⟨n0, n1, n2, n3, n4, n5, n6, n7⟩
    clear n0 n1 n2 n3 n4 n5 n6 n7
    rcases (show j = 0 ∨ j = 1 ∨ j = 2 ∨ j = 3 ∨ j = 4 ∨ j = 5 ∨ j = 6 ∨ j = 7 ∨ j = 8 from by omega) with rfl | rfl | rfl | rfl | rfl | rfl | rfl | rfl | rfl
    · have g : ((⟨#[34, 92, 47, 98, 102, 110, 114, 116]⟩ : ByteArray)[0]'(by decide)).toNat = 34 := rfl
      by_cases e : c = 34
      · subst e
        clear HN
        go_wp2
        go_ret
        exact ⟨rfl, (Below.refl _ _).alloc (Nat.le_refl _) _⟩
      · have t : ((34 : Int) == (c : Int)) = false := by rw [beq_eq_false_iff_ne]; omega
        have HE := hide e
        clear e
        go_wp2
        go_roundw
        case rel =>
          obtain ⟨n0, n1, n2, n3, n4, n5, n6, n7⟩ := unhide HN
          have e := unhide HE
          exact ⟨⟨1, by omega, by go_num, fun _ => e, by omega, by omega, by omega, by omega, by omega, by omega, by omega⟩, trivial⟩
        case measure => simp [intOf]
    · have g : ((⟨#[34, 92, 47, 98, 102, 110, 114, 116]⟩ : ByteArray)[1]'(by decide)).toNat = 92 := rfl
      by_cases e : c = 92
      · subst e
        clear HN
        go_wp2
        go_ret
        exact ⟨rfl, (Below.refl _ _).alloc (Nat.le_refl _) _⟩
      · have t : ((92 : Int) == (c : Int)) = false := by rw [beq_eq_false_iff_ne]; omega
        have HE := hide e
        clear e
        go_wp2
        go_roundw
        case rel =>
          obtain ⟨n0, n1, n2, n3, n4, n5, n6, n7⟩ := unhide HN
          have e := unhide HE
          exact ⟨⟨2, by omega, by go_num, fun _ => n0 (by omega), fun _ => e, by omega, by omega, by omega, by omega, by omega, by omega⟩, trivial⟩
        case measure => simp [intOf]
    · have g : ((⟨#[34, 92, 47, 98, 102, 110, 114, 116]⟩ : ByteArray)[2]'(by decide)).toNat = 47 := rfl
      by_cases e : c = 47
      · subst e
        clear HN
        go_wp2
        go_ret
        exact ⟨rfl, (Below.refl _ _).alloc (Nat.le_refl _) _⟩
      · have t : ((47 : Int) == (c : Int)) = false := by rw [beq_eq_false_iff_ne]; omega
        have HE := hide e
        clear e
        go_wp2
        go_roundw
        case rel =>
          obtain ⟨n0, n1, n2, n3, n4, n5, n6, n7⟩ := unhide HN
          have e := unhide HE
          exact ⟨⟨3, by omega, by go_num, fun _ => n0 (by omega), fun _ => n1 (by omega), fun _ => e, by omega, by omega, by omega, by omega, by omega⟩, trivial⟩
        case measure => simp [intOf]
    · have g : ((⟨#[34, 92, 47, 98, 102, 110, 114, 116]⟩ : ByteArray)[3]'(by decide)).toNat = 98 := rfl
      by_cases e : c = 98
      · subst e
        clear HN
        go_wp2
        go_ret
        exact ⟨rfl, (Below.refl _ _).alloc (Nat.le_refl _) _⟩
      · have t : ((98 : Int) == (c : Int)) = false := by rw [beq_eq_false_iff_ne]; omega
        have HE := hide e
        clear e
        go_wp2
        go_roundw
        case rel =>
          obtain ⟨n0, n1, n2, n3, n4, n5, n6, n7⟩ := unhide HN
          have e := unhide HE
          exact ⟨⟨4, by omega, by go_num, fun _ => n0 (by omega), fun _ => n1 (by omega), fun _ => n2 (by omega), fun _ => e, by omega, by omega, by omega, by omega⟩, trivial⟩
        case measure => simp [intOf]
    · have g : ((⟨#[34, 92, 47, 98, 102, 110, 114, 116]⟩ : ByteArray)[4]'(by decide)).toNat = 102 := rfl
      by_cases e : c = 102
      · subst e
        clear HN
        go_wp2
        go_ret
        exact ⟨rfl, (Below.refl _ _).alloc (Nat.le_refl _) _⟩
      · have t : ((102 : Int) == (c : Int)) = false := by rw [beq_eq_false_iff_ne]; omega
        have HE := hide e
        clear e
        go_wp2
        go_roundw
        case rel =>
          obtain ⟨n0, n1, n2, n3, n4, n5, n6, n7⟩ := unhide HN
          have e := unhide HE
          exact ⟨⟨5, by omega, by go_num, fun _ => n0 (by omega), fun _ => n1 (by omega), fun _ => n2 (by omega), fun _ => n3 (by omega), fun _ => e, by omega, by omega, by omega⟩, trivial⟩
        case measure => simp [intOf]
    · have g : ((⟨#[34, 92, 47, 98, 102, 110, 114, 116]⟩ : ByteArray)[5]'(by decide)).toNat = 110 := rfl
      by_cases e : c = 110
      · subst e
        clear HN
        go_wp2
        go_ret
        exact ⟨rfl, (Below.refl _ _).alloc (Nat.le_refl _) _⟩
      · have t : ((110 : Int) == (c : Int)) = false := by rw [beq_eq_false_iff_ne]; omega
        have HE := hide e
        clear e
        go_wp2
        go_roundw
        case rel =>
          obtain ⟨n0, n1, n2, n3, n4, n5, n6, n7⟩ := unhide HN
          have e := unhide HE
          exact ⟨⟨6, by omega, by go_num, fun _ => n0 (by omega), fun _ => n1 (by omega), fun _ => n2 (by omega), fun _ => n3 (by omega), fun _ => n4 (by omega), fun _ => e, by omega, by omega⟩, trivial⟩
        case measure => simp [intOf]
    · have g : ((⟨#[34, 92, 47, 98, 102, 110, 114, 116]⟩ : ByteArray)[6]'(by decide)).toNat = 114 := rfl
      by_cases e : c = 114
      · subst e
        clear HN
        go_wp2
        go_ret
        exact ⟨rfl, (Below.refl _ _).alloc (Nat.le_refl _) _⟩
      · have t : ((114 : Int) == (c : Int)) = false := by rw [beq_eq_false_iff_ne]; omega
        have HE := hide e
        clear e
        go_wp2
        go_roundw
        case rel =>
          obtain ⟨n0, n1, n2, n3, n4, n5, n6, n7⟩ := unhide HN
          have e := unhide HE
          exact ⟨⟨7, by omega, by go_num, fun _ => n0 (by omega), fun _ => n1 (by omega), fun _ => n2 (by omega), fun _ => n3 (by omega), fun _ => n4 (by omega), fun _ => n5 (by omega), fun _ => e, by omega⟩, trivial⟩
        case measure => simp [intOf]
    · have g : ((⟨#[34, 92, 47, 98, 102, 110, 114, 116]⟩ : ByteArray)[7]'(by decide)).toNat = 116 := rfl
      by_cases e : c = 116
      · subst e
        clear HN
        go_wp2
        go_ret
        exact ⟨rfl, (Below.refl _ _).alloc (Nat.le_refl _) _⟩
      · have t : ((116 : Int) == (c : Int)) = false := by rw [beq_eq_false_iff_ne]; omega
        have HE := hide e
        clear e
        go_wp2
        go_roundw
        case rel =>
          obtain ⟨n0, n1, n2, n3, n4, n5, n6, n7⟩ := unhide HN
          have e := unhide HE
          exact ⟨⟨8, by omega, by go_num, fun _ => n0 (by omega), fun _ => n1 (by omega), fun _ => n2 (by omega), fun _ => n3 (by omega), fun _ => n4 (by omega), fun _ => n5 (by omega), fun _ => n6 (by omega), fun _ => e⟩, trivial⟩
        case measure => simp [intOf]
    · have HS : Hid (smp c = none) := by
        obtain ⟨n0, n1, n2, n3, n4, n5, n6, n7⟩ := unhide HN
        show _ = _
        unfold smp
        rw [if_neg (n0 (by omega)), if_neg (n1 (by omega)), if_neg (n2 (by omega)), if_neg (n3 (by omega)), if_neg (n4 (by omega)), if_neg (n5 (by omega)), if_neg (n6 (by omega)), if_neg (n7 (by omega))]
      clear HN
      go_wp2
      go_ret
      exact ⟨by rw [unhide HS]; rfl, (Below.refl _ _).alloc (Nat.le_refl _) _⟩
end Go.Proofs.YtcjajchfjoffnaaGreatDoor

namespace Go.Proofs.YtcjajchfjoffnaaGreatDoor
open Go.RowKit

theorem strR_len {s : ByteArray} : ∀ {i j : Nat} {l : List UInt8}, strR s i = some (l, j) → l.length + 4 * (i + 1) ≤ 4 * j := by
  intro i
  generalize hn : s.size - i = n
  induction n using Nat.strongRecOn generalizing i with
  | _ n ih =>
    intro j l h
    by_cases h34 : bt s i = 34
    · rw [strR_end h34] at h
      injection h with h; injection h with h1 h2
      subst h1; simp; omega
    · cases hp : piece s i with
      | none => rw [strR_bad h34 hp] at h; cases h
      | some p =>
        obtain ⟨r, n'⟩ := p
        have hk := piece_ok hp
        have he := enc_le r
        rw [strR_go h34 hp] at h
        rcases hq : strR s (i + n') with _ | ⟨l2, j2⟩
        · rw [hq] at h; cases h
        · rw [hq] at h
          injection h with h; injection h with h1 h2
          have := ih (s.size - (i + n')) (by omega) rfl hq
          subst h1
          simp only [List.length_append]
          simp only at h2
          omega
theorem strQ_len {s : ByteArray} {i j : Nat} {l : List UInt8} (h : strQ s i = some (l, j)) : l.length + 4 * (i + 2) ≤ 4 * j := by
  unfold strQ at h
  split at h
  · have := strR_len h; omega
  · cases h
theorem quoted_len (l : List UInt8) : (quoted l).length ≤ 6 * l.length + 2 := by
  have := qs_le l
  unfold quoted; simp only [List.length_cons, List.length_append, List.length_nil]; omega
theorem nm_len {s : ByteArray} {i j : Nat} {l : List UInt8} (h : nm s i = some (l, j)) : l.length + i ≤ j := by
  have hk := nm_ok h
  unfold nm at h
  split at h
  · injection h with h; injection h with h1 h2
    subst h1; subst h2
    unfold norm0 cutB
    split
    · simp; omega
    · rw [List.length_take, List.length_drop, data_len]; omega
  · cases h

def sumT (l : List (List UInt8 × List UInt8)) : Nat := (l.map fun p => (memT p).length + 1).sum
theorem sumT_ins (p : List UInt8 × List UInt8) : ∀ l, sumT (insR p l) = (memT p).length + 1 + sumT l
  | [] => by simp [insR, sumT]
  | q :: r => by
    have := sumT_ins p r
    unfold insR
    split
    · simp [sumT] at *; omega
    · simp [sumT]
theorem sumT_fold : ∀ (l acc : List (List UInt8 × List UInt8)), sumT (l.foldl (fun acc p => insR p acc) acc) = sumT l + sumT acc
  | [], acc => by simp [sumT]
  | p :: l, acc => by
    rw [List.foldl_cons, sumT_fold l, sumT_ins]
    simp [sumT]; omega
theorem sumT_rev (l : List (List UInt8 × List UInt8)) : sumT l.reverse = sumT l := by
  unfold sumT; rw [List.map_reverse, List.sum_reverse]
theorem sumT_isort (l : List (List UInt8 × List UInt8)) : sumT (isort l) = sumT l := by
  unfold isort; rw [sumT_rev, sumT_fold]; simp [sumT]
theorem joinT_len : ∀ l : List (List UInt8), (joinT l).length = (l.map fun t => t.length + 1).sum
  | [] => rfl
  | t :: r => by simp [joinT, joinT_len r]; omega
theorem joinC_len (l : List (List UInt8)) : (joinC l).length ≤ (l.map fun t => t.length + 1).sum := by
  cases l with
  | nil => simp [joinC]
  | cons t r => simp [joinC, joinT_len]
theorem mkO_len (l : List (List UInt8 × List UInt8)) : (mkO (isort l)).length ≤ sumT l + 2 := by
  have h := joinC_len ((isort l).map memT)
  rw [List.map_map] at h
  have e : ((isort l).map ((fun t => t.length + 1) ∘ memT)).sum = sumT l := by rw [← sumT_isort l]; rfl
  rw [e] at h
  unfold mkO
  simp only [List.length_cons, List.length_append, List.length_nil]; omega

theorem p_len (s : ByteArray) : ∀ f i, (∀ v j, pv s f i = some (v, j) → (ct v).length ≤ 30 * (j - i)) ∧ (∀ l j, pa s f i = some (l, j) → ((ctL l).map fun t => t.length + 1).sum + 2 ≤ 30 * (j - i)) ∧ (∀ m j, po s f i = some (m, j) → sumT (ctM m) + 2 ≤ 30 * (j - i))
  | 0, i => ⟨fun v j h => by simp [pv] at h, fun v j h => by simp [pa] at h, fun v j h => by simp [po] at h⟩
  | f + 1, i => by
    refine ⟨fun v j h => ?_, fun l j h => ?_, fun m j h => ?_⟩
    · have hok := (p_ok s (f + 1) i).1 v j h
      rw [pv] at h
      have g := sk_ge s (i + 1)
      split at h
      · split at h
        · injection h with h; injection h with h0 h
          subst h0
          simp [ct, ctL, mkA, joinC]; omega
        · simp only [Option.map_eq_some_iff] at h
          obtain ⟨⟨l, k⟩, hk, h⟩ := h
          injection h with h0 h
          have h1 := (p_len s f (sk s (i + 1))).2.1 l k hk
          have h2 := (p_ok s f (sk s (i + 1))).2.1 l k hk
          have h3 := joinC_len (ctL l)
          subst h0
          simp only [ct, mkA, List.length_cons, List.length_append, List.length_nil]
          simp only at h; omega
      · split at h
        · split at h
          · injection h with h; injection h with h0 h
            subst h0
            simp [ct, ctM, mkO, isort, joinC]; omega
          · simp only [Option.map_eq_some_iff] at h
            obtain ⟨⟨l, k⟩, hk, h⟩ := h
            injection h with h0 h
            have h1 := (p_len s f (sk s (i + 1))).2.2 l k hk
            have h2 := (p_ok s f (sk s (i + 1))).2.2 l k hk
            have h3 := mkO_len (ctM l)
            subst h0
            simp only [ct]
            simp only at h; omega
        · split at h
          · simp only [Option.map_eq_some_iff] at h
            obtain ⟨⟨l, k⟩, hk, h⟩ := h
            injection h with h0 h
            have h1 := strQ_len hk
            have h2 := quoted_len l
            subst h0
            simp only [ct]
            simp only at h; omega
          · split at h
            · injection h with h; injection h with h0 h
              subst h0; simp [ct]; omega
            · split at h
              · injection h with h; injection h with h0 h
                subst h0; simp [ct]; omega
              · split at h
                · injection h with h; injection h with h0 h
                  subst h0; simp [ct]; omega
                · simp only [Option.map_eq_some_iff] at h
                  obtain ⟨⟨l, k⟩, hk, h⟩ := h
                  injection h with h0 h
                  have h1 := nm_len hk
                  subst h0
                  simp only [ct]
                  simp only at h; omega
    · rw [pa] at h
      simp only [Option.bind_eq_some_iff] at h
      obtain ⟨⟨v, k⟩, hk, h⟩ := h
      have h1 := (p_ok s f i).1 v k hk
      have h1' := (p_len s f i).1 v k hk
      have g1 := sk_ge s k
      simp only at h
      split at h
      · injection h with h; injection h with h0 h
        subst h0
        simp [ctL]; omega
      · split at h
        · simp only [Option.map_eq_some_iff] at h
          obtain ⟨⟨l, n⟩, hn, h⟩ := h
          injection h with h0 h
          have h2 := (p_ok s f _).2.1 l n hn
          have h2' := (p_len s f _).2.1 l n hn
          have g2 := sk_ge s (sk s k + 1)
          subst h0
          simp only [ctL, List.map_cons, List.sum_cons]
          simp only at h; omega
        · cases h
    · rw [po] at h
      simp only [Option.bind_eq_some_iff] at h
      obtain ⟨⟨key, a⟩, ha, h⟩ := h
      have h0 := strQ_ok ha
      have h0' := strQ_len ha
      have hq := quoted_len key
      simp only at h
      split at h
      · simp only [Option.bind_eq_some_iff] at h
        obtain ⟨⟨v, k⟩, hk, h⟩ := h
        have h1 := (p_ok s f _).1 v k hk
        have h1' := (p_len s f _).1 v k hk
        have g0 := sk_ge s a
        have g3 := sk_ge s (sk s a + 1)
        have g1 := sk_ge s k
        simp only at h
        split at h
        · injection h with h; injection h with h0 h
          subst h0
          simp [ctM, sumT, memT]; omega
        · split at h
          · simp only [Option.map_eq_some_iff] at h
            obtain ⟨⟨l, n⟩, hn, h⟩ := h
            injection h with h0 h
            have h2 := (p_ok s f _).2.2 l n hn
            have h2' := (p_len s f _).2.2 l n hn
            have g2 := sk_ge s (sk s k + 1)
            subst h0
            have e : sumT (ctM (.cons key v l)) = (memT (key, ct v)).length + 1 + sumT (ctM l) := by simp [ctM, sumT]
            have e2 : (memT (key, ct v)).length = (quoted key).length + 1 + (ct v).length := by simp [memT]; omega
            simp only at h ⊢
            omega
          · cases h
      · cases h
theorem val_len {s : ByteArray} {i j : Nat} {v : JV} (h : val s i = some (v, j)) : (ct v).length ≤ 30 * (j - i) := (p_len s _ i).1 v j h
end Go.Proofs.YtcjajchfjoffnaaGreatDoor

namespace Go.Proofs.YtcjajchfjoffnaaGreatDoor
open Go.RowKit

theorem qB_ge (c : UInt8) : 1 ≤ (qB c).length := by
  unfold qB
  repeat' split
  all_goals simp
theorem qs_ge (l : List UInt8) : l.length ≤ (qs l).length := by
  induction l with
  | nil => simp
  | cons c l ih =>
    have := qB_ge c
    simp only [qs, List.flatMap_cons, List.length_append, List.length_cons] at *
    omega
def JL.toL : JL → List JV
  | .nil => []
  | .cons v r => v :: r.toL
theorem ctL_map : ∀ l : JL, ctL l = l.toL.map ct
  | .nil => rfl
  | .cons v r => by rw [ctL, JL.toL, List.map_cons, ctL_map r]
theorem quoted_ge (l : List UInt8) : l.length + 2 ≤ (quoted l).length := by
  have := qs_ge l
  simp [quoted]; omega
theorem memT_parts (p : List UInt8 × List UInt8) : (memT p).length = (quoted p.1).length + 1 + p.2.length := by simp [memT]; omega

/-- The bytes of brackets with as many commas as parts need. -/
def hold (n : Nat) : Nat := 2 + (n - 1)

def dl : List JV → Nat
  | [] => 0
  | v :: r => max (depV v) (dl r)
def cl (vs : List JV) : Nat := (vs.map cntV).sum
def nl (ts : List (List UInt8)) : Nat := (ts.map List.length).sum
theorem dl_snoc (a : List JV) (v : JV) : dl (a ++ [v]) = max (dl a) (depV v) := by
  induction a with
  | nil => simp [dl]
  | cons x r ih => simp only [List.cons_append, dl, ih]; omega
theorem cl_snoc (a : List JV) (v : JV) : cl (a ++ [v]) = cl a + cntV v := by simp [cl]
theorem depL_dl : ∀ l : JL, depL l = dl l.toL
  | .nil => rfl
  | .cons v r => by rw [depL, JL.toL, dl, depL_dl r]
theorem cntL_cl : ∀ l : JL, cntL l = cl l.toL
  | .nil => rfl
  | .cons v r => by rw [cntL, JL.toL, cntL_cl r]; simp [cl]
theorem dl_take (a : List JV) (k : Nat) : dl (a.take k) ≤ dl a := by
  induction a generalizing k with
  | nil => simp
  | cons x r ih =>
    cases k with
    | zero => simp [dl]
    | succ k => simp only [List.take_succ_cons, dl]; have := ih k; omega
theorem dl_at (a : List JV) (k : Nat) (h : k < a.length) : depV a[k] ≤ dl a := by
  induction a generalizing k with
  | nil => simp at h
  | cons x r ih =>
    cases k with
    | zero => simp only [List.getElem_cons_zero, dl]; omega
    | succ k => simp only [List.getElem_cons_succ, dl]; have := ih k (by simpa using h); omega
theorem sum_take (a : List Nat) (k : Nat) : (a.take k).sum ≤ a.sum := by
  have : a.sum = (a.take k).sum + (a.drop k).sum := by rw [← List.sum_append, List.take_append_drop]
  omega
theorem sum_at (a : List Nat) (k : Nat) (h : k < a.length) : a[k] ≤ a.sum := by
  have h1 := sum_take a (k + 1)
  rw [List.take_succ_eq_append_getElem h, List.sum_append] at h1
  simp at h1; omega
theorem joinT_nl : ∀ ts : List (List UInt8), (joinT ts).length = ts.length + nl ts
  | [] => rfl
  | t :: r => by
    have := joinT_nl r
    simp [joinT, nl] at this ⊢
    omega
theorem joinC_nl (ts : List (List UInt8)) : (joinC ts).length + 2 = hold ts.length + nl ts := by
  cases ts with
  | nil => simp [joinC, hold, nl]
  | cons t r =>
    have := joinT_nl r
    simp [joinC, hold, nl] at this ⊢
    omega
theorem depM_dl : ∀ m : JM, depM m = dl (m.toL.map (·.2))
  | .nil => rfl
  | .cons k v r => by rw [depM, JM.toL, List.map_cons, dl, depM_dl r]
theorem cntM_sum : ∀ m : JM, cntM m = (m.toL.map fun q => cntV q.2).sum
  | .nil => rfl
  | .cons k v r => by rw [cntM, JM.toL, List.map_cons, List.sum_cons, cntM_sum r]
def memN (q : List UInt8 × JV) : Nat := (quoted q.1).length + 1 + (ct q.2).length
theorem ctObj_len (m : JM) : (ct (.obj m)).length = hold m.toL.length + (m.toL.map memN).sum := by
  show (mkO (isort (ctM m))).length = _
  have h := joinC_nl ((isort (ctM m)).map memT)
  have e1 : ((isort (ctM m)).map memT).length = m.toL.length := by rw [List.length_map, (isort_perm _).length_eq, ctM_map, List.length_map]
  have e2 : nl ((isort (ctM m)).map memT) = (m.toL.map memN).sum := by
    unfold nl
    have p := (((isort_perm (ctM m)).map memT).map List.length).sum_nat
    rw [p, ctM_map]
    simp only [List.map_map]
    congr 1
    apply List.map_congr_left
    intro q _
    simp only [Function.comp_apply, memN]
    exact memT_parts _
  rw [e1, e2] at h
  simp [mkO]; omega
theorem sumf_at (f : List UInt8 × JV → Nat) {qs : List (List UInt8 × JV)} {q : List UInt8 × JV} (h : q ∈ qs) : f q ≤ (qs.map f).sum := by
  obtain ⟨j, hj, rfl⟩ := List.getElem_of_mem h
  have := sum_at (qs.map f) j (by simpa using hj)
  simpa using this
end Go.Proofs.YtcjajchfjoffnaaGreatDoor

namespace Go.Proofs.YtcjajchfjoffnaaGreatDoor
open Go.RowKit Go.Lib

def dV (c : UInt8) : Nat := c.toNat - 48
/-- What digits spell, behind a number. -/
def foldV (a : Nat) (d : List UInt8) : Nat := d.foldl (fun a c => a * 10 + dV c) a
def Dg (d : List UInt8) : Prop := ∀ c ∈ d, 48 ≤ c.toNat ∧ c.toNat ≤ 57
/-- Digits without a zero ahead. -/
def Num (d : List UInt8) : Prop := Dg d ∧ d ≠ [] ∧ (d = [48] ∨ ∀ c r, d = c :: r → 49 ≤ c.toNat)
theorem Dg.tail {c : UInt8} {d : List UInt8} (h : Dg (c :: d)) : Dg d := fun x hx => h x (List.mem_cons_of_mem _ hx)
theorem Dg.head {c : UInt8} {d : List UInt8} (h : Dg (c :: d)) : 48 ≤ c.toNat ∧ c.toNat ≤ 57 := h c List.mem_cons_self
theorem foldV_cons (a : Nat) (c : UInt8) (d : List UInt8) : foldV a (c :: d) = foldV (a * 10 + dV c) d := by unfold foldV; rw [List.foldl_cons]
theorem foldV_snoc (a : Nat) (d : List UInt8) (c : UInt8) : foldV a (d ++ [c]) = foldV a d * 10 + dV c := by unfold foldV; rw [List.foldl_append]; rfl
theorem foldV_ge (d : List UInt8) : ∀ a, a ≤ foldV a d := by
  induction d with
  | nil => intro a; exact Nat.le_refl _
  | cons c d ih => intro a; rw [foldV_cons]; have := ih (a * 10 + dV c); omega
theorem foldV_lin (d : List UInt8) : ∀ a, foldV a d = a * 10 ^ d.length + foldV 0 d := by
  induction d with
  | nil => intro a; simp [foldV]
  | cons c d ih =>
    intro a
    rw [foldV_cons, foldV_cons, ih (a * 10 + dV c), ih (0 * 10 + dV c), List.length_cons, Nat.pow_succ]
    rw [Nat.add_mul, Nat.zero_mul, Nat.zero_add, Nat.mul_assoc, Nat.mul_comm 10, Nat.add_assoc]
theorem foldV_lt (d : List UInt8) (h : Dg d) : foldV 0 d < 10 ^ d.length := by
  induction d with
  | nil => simp [foldV]
  | cons c d ih =>
    rw [foldV_cons, foldV_lin, List.length_cons, Nat.pow_succ]
    have h1 := ih h.tail
    have h2 := h.head
    have h3 : dV c ≤ 9 := by unfold dV; omega
    have h4 : (0 * 10 + dV c) * 10 ^ d.length ≤ 9 * 10 ^ d.length := Nat.mul_le_mul_right _ (by omega)
    omega
theorem foldV_low {c : UInt8} {d : List UInt8} (hc : 49 ≤ c.toNat) : 10 ^ d.length ≤ foldV 0 (c :: d) := by
  rw [foldV_cons, foldV_lin]
  have : 1 * 10 ^ d.length ≤ (0 * 10 + dV c) * 10 ^ d.length := Nat.mul_le_mul_right _ (by unfold dV; omega)
  omega

theorem parse_fold (d : List UInt8) (h : Dg d) : ∀ a, a ≤ 18446744073709551615 → parseUintM 18446744073709551615 a d = if foldV a d ≤ 18446744073709551615 then .ok (foldV a d) else .range := by
  induction d with
  | nil => intro a ha; rw [parseUintM]; rw [if_pos (by exact ha)]; rfl
  | cons c d ih =>
    intro a ha
    rw [parseUintM, if_pos h.head, foldV_cons]
    have hg := foldV_ge d (a * 10 + dV c)
    have e : a * 10 + (c.toNat - 48) = a * 10 + dV c := rfl
    by_cases h1 : 1844674407370955162 ≤ a
    · rw [if_pos h1, if_neg (by omega)]
    · rw [if_neg h1, e]
      by_cases h2 : 18446744073709551615 < a * 10 + dV c
      · rw [if_pos h2, if_neg (by omega)]
      · rw [if_neg h2]
        exact ih h.tail _ (by omega)

theorem less_fold : ∀ (a b : List UInt8), Dg a → Dg b → a.length = b.length → (Op.bytesLess a b = decide (foldV 0 a < foldV 0 b)) ∧ ((a == b) = decide (foldV 0 a = foldV 0 b))
  | [], [], _, _, _ => by simp [Op.bytesLess, foldV]
  | [], _ :: _, _, _, h => by simp at h
  | _ :: _, [], _, _, h => by simp at h
  | c :: a, x :: b, ha, hb, h => by
    have hl : a.length = b.length := by simpa using h
    obtain ⟨i1, i2⟩ := less_fold a b ha.tail hb.tail hl
    have a1 := foldV_lt a ha.tail
    have b1 := foldV_lt b hb.tail
    have hc := ha.head
    have hx := hb.head
    rw [foldV_cons, foldV_cons, foldV_lin a, foldV_lin b, hl]
    rw [hl] at a1
    have ec : 0 * 10 + dV c = dV c := by omega
    have ex : 0 * 10 + dV x = dV x := by omega
    rw [ec, ex]
    generalize foldV 0 a = A at *
    generalize foldV 0 b = B at *
    generalize 10 ^ b.length = P at *
    have hcx : c < x ↔ dV c < dV x := by rw [UInt8.lt_iff_toNat_lt]; unfold dV; omega
    have hce : c = x ↔ dV c = dV x := by rw [← UInt8.toNat_inj]; unfold dV; omega
    rw [Op.bytesLess]
    by_cases g1 : dV c < dV x
    · have : (dV c + 1) * P ≤ dV x * P := Nat.mul_le_mul_right _ g1
      rw [Nat.add_mul, Nat.one_mul] at this
      refine ⟨?_, ?_⟩
      · rw [decide_eq_true (hcx.2 g1), Bool.true_or, decide_eq_true (by omega)]
      · rw [decide_eq_false (by omega), beq_eq_false_iff_ne]
        intro e; injection e with e1 e2; have := hce.1 e1; omega
    · by_cases g2 : dV c = dV x
      · have hcq : (c == x) = true := by rw [beq_iff_eq]; exact hce.2 g2
        rw [decide_eq_false (fun hh => g1 (hcx.1 hh)), Bool.false_or, hcq, Bool.true_and, i1, g2]
        refine ⟨?_, ?_⟩
        · apply decide_eq_decide.2; omega
        · rw [hce.2 g2]
          rw [show ((x :: a) == (x :: b)) = (a == b) from by simp, i2]
          apply decide_eq_decide.2; omega
      · have : (dV x + 1) * P ≤ dV c * P := Nat.mul_le_mul_right _ (by omega)
        rw [Nat.add_mul, Nat.one_mul] at this
        have hcq : (c == x) = false := by rw [beq_eq_false_iff_ne]; exact fun e => g2 (hce.1 e)
        refine ⟨?_, ?_⟩
        · rw [decide_eq_false (fun hh => g1 (hcx.1 hh)), Bool.false_or, hcq, Bool.false_and, decide_eq_false (by omega)]
        · rw [decide_eq_false (by omega), beq_eq_false_iff_ne]
          intro e; injection e with e1 e2; exact g2 (hce.1 e1)

theorem Num.bounds {d : List UInt8} (h : Num d) : (d.length ≤ 18 → foldV 0 d < 1000000000000000000) ∧ (20 ≤ d.length → 10000000000000000000 ≤ foldV 0 d) := by
  obtain ⟨h1, h2, h3⟩ := h
  refine ⟨fun hl => ?_, fun hl => ?_⟩
  · have := foldV_lt d h1
    have h4 : 10 ^ d.length ≤ 10 ^ 18 := Nat.pow_le_pow_right (by decide) hl
    have h5 : (10 : Nat) ^ 18 = 1000000000000000000 := by decide
    omega
  · rcases h3 with rfl | h3
    · simp at hl
    · cases d with
      | nil => simp at hl
      | cons c r =>
        have := foldV_low (d := r) (h3 c r rfl)
        have h4 : 10 ^ 19 ≤ 10 ^ r.length := Nat.pow_le_pow_right (by decide) (by simp at hl; omega)
        have h5 : (10 : Nat) ^ 19 = 10000000000000000000 := by decide
        omega
theorem over_lim {d lim : List UInt8} {m : Nat} (h : Num d) (hl : Dg lim) (h19 : lim.length = 19) (hm : foldV 0 lim = m) (h1 : 1000000000000000000 ≤ m) (h2 : m < 10000000000000000000) : over d lim = decide (m < foldV 0 d) := by
  unfold over
  have hb := h.bounds
  by_cases hd : d.length = 19
  · rw [if_neg (by omega)]
    obtain ⟨i1, i2⟩ := less_fold d lim h.1 hl (by omega)
    rw [i1, i2, hm]
    by_cases g : m < foldV 0 d
    · rw [decide_eq_true g, decide_eq_false (by omega), decide_eq_false (by omega)]; rfl
    · rw [decide_eq_false g]
      by_cases g2 : foldV 0 d = m
      · rw [decide_eq_true g2]; simp
      · rw [decide_eq_true (show foldV 0 d < m by omega)]; rfl
  · rw [if_pos hd]
    apply decide_eq_decide.2
    constructor
    · intro g; have := hb.2 (by omega); omega
    · intro g
      rcases Nat.lt_or_ge d.length 19 with g2 | g2
      · have := hb.1 (by omega); omega
      · omega
theorem over_0 {d : List UInt8} (h : Num d) : over d lim0 = decide (9223372036854775807 < foldV 0 d) := over_lim h (by unfold Dg lim0; decide) rfl (by decide) (by decide) (by decide)
theorem over_1 {d : List UInt8} (h : Num d) : over d lim1 = decide (9223372036854775808 < foldV 0 d) := over_lim h (by unfold Dg lim1; decide) rfl (by decide) (by decide) (by decide)

theorem u8_dig {c : UInt8} (h : 48 ≤ c.toNat ∧ c.toNat ≤ 57) : UInt8.ofNat (48 + dV c) = c := by
  apply UInt8.toNat_inj.1
  rw [UInt8.toNat_ofNat']; unfold dV; omega
theorem dec_fold (n : Nat) : ∀ d : List UInt8, d.length = n → Num d → decDigits (foldV 0 d) = d := by
  induction n with
  | zero => intro d hn h; exact absurd (List.eq_nil_of_length_eq_zero hn) h.2.1
  | succ n ih =>
    intro d hn h
    obtain ⟨h1, h2, h3⟩ := h
    rcases List.eq_nil_or_concat d with e | ⟨d', c, e⟩
    · exact absurd e h2
    · rw [List.concat_eq_append] at e
      subst e
      have hc : 48 ≤ c.toNat ∧ c.toNat ≤ 57 := h1 c (by simp)
      have hv : dV c ≤ 9 := by unfold dV; omega
      rw [foldV_snoc]
      cases d' with
      | nil =>
        show decDigits (0 * 10 + dV c) = [c]
        rw [decDigits_one (by omega), show 48 + (0 * 10 + dV c) = 48 + dV c by omega, u8_dig hc]
      | cons x r =>
        have hx : 49 ≤ x.toNat := by
          rcases h3 with h3 | h3
          · simp at h3
          · exact h3 x (r ++ [c]) rfl
        have hlow := foldV_low (d := r) hx
        have hp : 0 < 10 ^ r.length := Nat.pow_pos (by decide)
        have hN : Num (x :: r) := ⟨fun y hy => h1 y (by simp at hy ⊢; rcases hy with hy | hy <;> simp [hy]), by simp, .inr (fun a b e => by injection e with e1 e2; subst e1; exact hx)⟩
        have := ih (x :: r) (by simp at hn ⊢; omega) hN
        rw [decDigits, dif_neg (by omega), show (foldV 0 (x :: r) * 10 + dV c) / 10 = foldV 0 (x :: r) by omega, show (foldV 0 (x :: r) * 10 + dV c) % 10 = dV c by omega, this, u8_dig hc]
end Go.Proofs.YtcjajchfjoffnaaGreatDoor

namespace Go.Proofs.YtcjajchfjoffnaaGreatDoor
open Go.RowKit Go.Lib

theorem cutB_cons {s : ByteArray} {i j : Nat} (hi : i < s.size) (hj : i < j) : cutB s i j = s[i] :: cutB s (i + 1) j := by
  unfold cutB
  rw [drop_at s i hi, show j - i = (j - (i + 1)) + 1 by omega, List.take_succ_cons]
theorem cutB_nil (s : ByteArray) (i : Nat) : cutB s i i = [] := by unfold cutB; simp
theorem cut_dg (s : ByteArray) : ∀ n i, s.size - i ≤ n → Dg (cutB s i (dg s i))
  | n, i, hn => by
    by_cases h : isDg (bt s i) = true
    · have hi : i < s.size := bt_in (by have := isDg_iff.1 h; omega)
      cases n with
      | zero => omega
      | succ n =>
        have h2 := dg_le (s := s) (i := i + 1) (by omega)
        rw [dg_on h, cutB_cons hi (by omega)]
        intro c hc
        rcases List.mem_cons.1 hc with rfl | hc
        · rw [bt_at s i hi] at h; exact isDg_iff.1 h
        · exact cut_dg s n (i + 1) (by omega) c hc
    · rw [dg_off h, cutB_nil]; intro c hc; cases hc
/-- The digits of a number. -/
theorem nm_digits {s : ByteArray} {i j : Nat} {l : List UInt8} (h : nm s i = some (l, j)) : j = nmE s i ∧ Num (cutB s (nmD s i) j) ∧ cutB s i j = (if bt s i = 45 then 45 :: cutB s (nmD s i) j else cutB s (nmD s i) j) ∧ l = norm0 (cutB s i j) := by
  have hk := nm_ok h
  unfold nm at h
  split at h
  · rename_i hd
    injection h with h; injection h with h1 h2
    have hdI := isDg_iff.1 hd
    have hlt : nmD s i < s.size := bt_in (by omega)
    have hbt := bt_at s (nmD s i) hlt
    subst h2
    refine ⟨rfl, ?_, ?_, h1.symm⟩
    · unfold nmE
      split
      · rename_i h48
        rw [cutB_cons hlt (by omega), cutB_nil]
        have e : s[nmD s i] = 48 := UInt8.toNat_inj.1 (by show _ = 48; omega)
        rw [e]
        exact ⟨by unfold Dg; decide, by simp, .inl rfl⟩
      · rename_i h48
        have h3 := dg_le (s := s) (i := nmD s i + 1) (by omega)
        refine ⟨cut_dg s _ _ (Nat.le_refl _), ?_, .inr ?_⟩
        · rw [dg_on hd, cutB_cons hlt (by omega)]; simp
        · intro c r e
          rw [dg_on hd, cutB_cons hlt (by omega)] at e
          injection e with e1 e2
          subst e1; omega
    · by_cases h45 : bt s i = 45
      · have hi : i < s.size := bt_in (by omega)
        have e : s[i] = 45 := UInt8.toNat_inj.1 (by show _ = 45; rw [← bt_at s i hi]; exact h45)
        have hD : nmD s i = i + 1 := by unfold nmD; rw [if_pos h45]
        rw [if_pos h45, cutB_cons hi (by omega), e, hD]
      · have hD : nmD s i = i := by unfold nmD; rw [if_neg h45]
        rw [if_neg h45, hD]
  · cases h
theorem norm0_num {d : List UInt8} (h : Num d) : norm0 d = d := by
  unfold norm0
  rw [if_neg]
  intro e
  have := h.1 45 (by rw [e]; simp)
  exact absurd this.1 (by decide)
theorem parse_num {d : List UInt8} (h : Num d) : parseUintB 64 d = if foldV 0 d ≤ 18446744073709551615 then .ok (foldV 0 d) else .range := by
  unfold parseUintB
  rw [if_neg h.2.1]
  exact parse_fold d h.1 0 (by decide)
theorem nm_parse {s : ByteArray} {i j : Nat} {l : List UInt8} (h : nm s i = some (l, j)) :
    (tooBig l = false → ∃ z : Int, parseIntB 64 (cutB s i j) = .ok z ∧ itoa z = l ∧ -9223372036854775808 ≤ z ∧ z ≤ 9223372036854775807) ∧ (tooBig l = true → parseIntB 64 (cutB s i j) = .range) := by
  obtain ⟨_, hN, hc, hl⟩ := nm_digits h
  generalize cutB s (nmD s i) j = d at *
  have hp := parse_num hN
  have hde := dec_fold d.length d rfl hN
  have p63 : (2 : Nat) ^ (64 - 1) = 9223372036854775808 := by decide
  by_cases h45 : bt s i = 45
  · rw [if_pos h45] at hc
    rw [hc] at hl ⊢
    rw [parseIntB_minus, hp]
    by_cases h0 : d = [48]
    · subst h0
      have e : l = [48] := by rw [hl]; unfold norm0; rw [if_pos rfl]
      subst e
      refine ⟨fun _ => ⟨0, by decide, by rw [show (0 : Int) = ((0 : Nat) : Int) from rfl, itoa_nonneg, decDigits_one (by decide)]; rfl, by decide, by decide⟩, fun hb => absurd hb (by decide)⟩
    · have e : l = 45 :: d := by
        rw [hl]; unfold norm0; rw [if_neg]
        intro e; injection e with _ e; exact h0 e
      subst e
      have ht : tooBig (45 :: d) = decide (9223372036854775808 < foldV 0 d) := by rw [tooBig, if_pos rfl, over_1 hN]
      rw [ht]
      have hpos : 1 ≤ foldV 0 d := by
        obtain ⟨h1, h2, h3⟩ := hN
        rcases h3 with h3 | h3
        · exact absurd h3 h0
        · cases d with
          | nil => exact absurd rfl h2
          | cons c r =>
            have := foldV_low (d := r) (h3 c r rfl)
            have hp : 0 < 10 ^ r.length := Nat.pow_pos (by decide)
            omega
      refine ⟨fun hb => ?_, fun hb => ?_⟩
      · have hb' := of_decide_eq_false hb
        rw [if_pos (by omega)]
        refine ⟨-((foldV 0 d : Nat) : Int), ?_, ?_, by omega, by omega⟩
        · show (if 2 ^ (64 - 1) < foldV 0 d then NumEnd.range else .ok (-((foldV 0 d : Nat) : Int))) = _
          rw [if_neg (by omega)]
        · rw [itoa_neg _ hpos, hde]
      · have hb' := of_decide_eq_true hb
        by_cases g : foldV 0 d ≤ 18446744073709551615
        · rw [if_pos g]
          show (if 2 ^ (64 - 1) < foldV 0 d then NumEnd.range else .ok (-((foldV 0 d : Nat) : Int))) = _
          rw [if_pos (by omega)]
        · rw [if_neg g]; rfl
  · rw [if_neg h45] at hc
    rw [hc] at hl ⊢
    rw [norm0_num hN] at hl
    subst hl
    cases hd : l with
    | nil => exact absurd hd hN.2.1
    | cons c r =>
      have hcd := hN.1 c (by rw [hd]; simp)
      rw [parseIntB_plain 64 c r (by omega) (by omega), ← hd, hp]
      have ht : tooBig l = decide (9223372036854775807 < foldV 0 l) := by
        rw [hd, tooBig, if_neg (by intro e; rw [e] at hcd; exact absurd hcd.1 (by decide)), ← hd, over_0 hN]
      rw [ht]
      refine ⟨fun hb => ?_, fun hb => ?_⟩
      · have hb' := of_decide_eq_false hb
        rw [if_pos (by omega)]
        refine ⟨((foldV 0 l : Nat) : Int), ?_, ?_, by omega, by omega⟩
        · show (if 2 ^ (64 - 1) ≤ foldV 0 l then NumEnd.range else .ok ((foldV 0 l : Nat) : Int)) = _
          rw [if_neg (by omega)]
        · rw [itoa_nonneg, hde]
      · have hb' := of_decide_eq_true hb
        by_cases g : foldV 0 l ≤ 18446744073709551615
        · rw [if_pos g]
          show (if 2 ^ (64 - 1) ≤ foldV 0 l then NumEnd.range else .ok ((foldV 0 l : Nat) : Int)) = _
          rw [if_pos (by omega)]
        · rw [if_neg g]; rfl
end Go.Proofs.YtcjajchfjoffnaaGreatDoor

namespace Go.Proofs.YtcjajchfjoffnaaGreatDoor
open Go.RowKit

set_option maxHeartbeats 800000 in
theorem hexDigit_walk (b : Nat) (hb : b < 256) (w : World) :
    Calls Tryz.prog 274 #[.int .u8 b] w fun e w' => w = w' ∧ e = (hx b).elim mis (fun v => .returned (.int .i32 v)) := by
  by_cases h1 : 48 ≤ b ∧ b ≤ 57
  · have HH : Hid (hx b = some (b - 48)) := by show _ = _; unfold hx; rw [if_pos h1]
    have a1 : (48 : Int) ≤ (b : Int) := by omega
    have a2 : (b : Int) ≤ 57 := by omega
    clear h1
    go_enter Tryz.func274, Tryz.ntmps274
    go_wp2
    go_ret
    refine ⟨rfl, ?_⟩
    rw [unhide HH]
    exact ret_int (by go_num)
  · by_cases h2 : 97 ≤ b ∧ b ≤ 102
    · have HH : Hid (hx b = some (b - 87)) := by show _ = _; unfold hx; rw [if_neg h1, if_pos h2]
      have a1 : (97 : Int) ≤ (b : Int) := by omega
      have a2 : (b : Int) ≤ 102 := by omega
      clear h1 h2
      go_enter Tryz.func274, Tryz.ntmps274
      go_wp2
      go_ret
      refine ⟨rfl, ?_⟩
      rw [unhide HH]
      exact ret_int (by go_num)
    · by_cases h3 : 65 ≤ b ∧ b ≤ 70
      · have HH : Hid (hx b = some (b - 55)) := by show _ = _; unfold hx; rw [if_neg h1, if_neg h2, if_pos h3]
        have a1 : (65 : Int) ≤ (b : Int) := by omega
        have a2 : (b : Int) ≤ 70 := by omega
        clear h1 h2 h3
        go_enter Tryz.func274, Tryz.ntmps274
        go_wp2
        go_ret
        refine ⟨rfl, ?_⟩
        rw [unhide HH]
        exact ret_int (by go_num)
      · have HH : Hid (hx b = none) := by show _ = _; unfold hx; rw [if_neg h1, if_neg h2, if_neg h3]
        clear HH
        have HH : Hid (hx b = none) := by show _ = _; unfold hx; rw [if_neg h1, if_neg h2, if_neg h3]
        rcases (show b < 48 ∨ (57 < b ∧ b < 65) ∨ (70 < b ∧ b < 97) ∨ 102 < b from by omega) with g | g | g | g
        · have a1 : (b : Int) < 48 := by omega
          clear h1 h2 h3 g
          go_enter Tryz.func274, Tryz.ntmps274
          go_wp2
          exact ⟨rfl, rfl, by rw [unhide HH]; rfl⟩
        · have a1 : (57 : Int) < (b : Int) := by omega
          have a2 : (b : Int) < 65 := by omega
          clear h1 h2 h3 g
          go_enter Tryz.func274, Tryz.ntmps274
          go_wp2
          exact ⟨rfl, rfl, by rw [unhide HH]; rfl⟩
        · have a1 : (70 : Int) < (b : Int) := by omega
          have a2 : (b : Int) < 97 := by omega
          clear h1 h2 h3 g
          go_enter Tryz.func274, Tryz.ntmps274
          go_wp2
          exact ⟨rfl, rfl, by rw [unhide HH]; rfl⟩
        · have a1 : (102 : Int) < (b : Int) := by omega
          clear h1 h2 h3 g
          go_enter Tryz.func274, Tryz.ntmps274
          go_wp2
          exact ⟨rfl, rfl, by rw [unhide HH]; rfl⟩

set_option maxHeartbeats 1600000 in
theorem hexNum_walk (rb : Nat) (s : ByteArray) (i : Nat) (tb kt : Bool) (w : World) (h : Rdr rb s i tb kt w) (hs : s.size ≤ 1048576) (hi : i ≤ s.size) :
    Calls Tryz.prog 265 #[.pointer (some ⟨rb, 0, none⟩)] w (Post rb s tb kt w ((hexN s i 4).map fun v : Nat => (.int .i32 (v : Int), i + 4))) := by
  have H := hide h
  clear h
  go_enter Tryz.func265, Tryz.ntmps265
  go_wp2
  go_loopw [3, 4] (fun n k wr => ∃ j v : Nat, j ≤ 4 ∧ i + j ≤ s.size ∧ v < 16 ^ j ∧ k = .int .i64 j ∧ n = .int .i32 v ∧ hexN s i j = some v ∧ Rdr rb s (i + j) tb kt wr ∧ KB rb w wr) (fun _ k _ => 4 - (intOf k).toNat)
  case atStart => exact ⟨0, 0, by omega, by omega, by decide, rfl, rfl, rfl, unhide H, KB.refl _ _⟩
  case round =>
    obtain ⟨j, v, hj, hij, hv16, rfl, rfl, hv, hr, hk⟩ := hrel
    have HV := hide hv
    have HR := hide hr
    clear hv hr
    by_cases h4 : j < 4
    · have hv65 : v < 65536 := by
        have : (16 : Nat) ^ j ≤ 16 ^ 3 := Nat.pow_le_pow_right (by decide) (by omega)
        omega
      have h4' : (j : Int) < 4 := by omega
      by_cases hin : i + j < s.size
      · have HN := hide (next_in rb s (i + j) tb kt wr (unhide HR) hs hin)
        have HD := hide (hexDigit_walk (bt s (i + j)) (bt_lt _ _))
        have hvI : (v : Int) < 65536 := by omega
        cases hx1 : hx (bt s (i + j)) with
        | some d =>
          have hd := hx_lt hx1
          have HX := hide (hexN_next (unhide HV) hx1)
          rw [hx1] at HD
          generalize bt s (i + j) = b at *
          clear hx1
          go_wp2_with fail
          refine (unhide HN).mono ?_
          rintro e w1 ⟨rfl, r1, k1⟩
          have R1 := hide r1
          clear r1
          go_wp2_with fail
          refine (unhide HD _).mono ?_
          rintro e w2 ⟨rfl, rfl⟩
          clear HN HD
          simp only [Option.elim]
          go_wp2
          go_roundw
          case rel => exact ⟨j + 1, v * 16 + d, by omega, by omega, by rw [Nat.pow_succ]; omega, by go_num, by go_num, unhide HX, unhide R1, hk.trans k1⟩
          case measure => simp [intOf]; omega
        | none =>
          have HX : Hid (hexN s i 4 = none) := hexN_none (hexN_bad hx1) (by omega)
          rw [hx1] at HD
          generalize bt s (i + j) = b at *
          clear hx1
          go_wp2_with fail
          refine (unhide HN).mono ?_
          rintro e w1 ⟨rfl, r1, k1⟩
          clear r1
          go_wp2_with fail
          refine (unhide HD _).mono ?_
          rintro e w2 ⟨rfl, rfl⟩
          clear HN HD
          exact ⟨rfl, hk.trans k1, by rw [unhide HX]; rfl⟩
      · have HX : Hid (hexN s i 4 = none) := hexN_none (hexN_bad (by rw [bt_out s (i + j) (by omega)]; rfl)) (show j + 1 ≤ 4 by omega)
        have HN := hide (next_out rb s (i + j) tb kt wr (unhide HR) (by omega))
        go_wp2_with fail
        refine (unhide HN).mono ?_
        rintro e w1 ⟨rfl, k1⟩
        clear HN
        exact ⟨rfl, hk.trans k1, by rw [unhide HX]; rfl⟩
    · have e4 : j = 4 := by omega
      subst e4
      go_wp2
      go_ret
      exact ⟨hk, by rw [unhide HV]; exact ⟨rfl, unhide HR⟩⟩

/-- The word at place i. -/
def isWord (s : ByteArray) (i : Nat) (wd : ByteArray) : Prop := ∀ k, k < wd.size → bt s (i + k) = bt wd k

set_option maxHeartbeats 1600000 in
theorem word_yes (rb : Nat) (s : ByteArray) (i : Nat) (tb kt : Bool) (w : World) (h : Rdr rb s i tb kt w) (hs : s.size ≤ 1048576) (wd : ByteArray) (hw : wd.size ≤ 1000) (hi : i + wd.size ≤ s.size) (hit : isWord s i wd) :
    Calls Tryz.prog 179 #[.pointer (some ⟨rb, 0, none⟩), .string wd] w fun e w' => e = .returned (.tuple #[]) ∧ Rdr rb s (i + wd.size) tb kt w' ∧ KB rb w w' := by
  have H := hide h
  have HIT := hide hit
  clear h hit
  go_enter Tryz.func179, Tryz.ntmps179
  go_wp2
  go_loopw [7] (fun k wr => ∃ j : Nat, j ≤ wd.size ∧ k = .int .i64 j ∧ Rdr rb s (i + j) tb kt wr ∧ KB rb w wr) (fun k _ => wd.size - (intOf k).toNat)
  case atStart => exact ⟨0, by omega, rfl, unhide H, KB.refl _ _⟩
  case round =>
    obtain ⟨j, hj, rfl, hr, hk⟩ := hrel
    have HR := hide hr
    clear hr
    by_cases hlt : j < wd.size
    · have e1 := (unhide HIT) j hlt
      have HE : Hid (Calls Tryz.prog 205 #[.pointer (some ⟨rb, 0, none⟩), .int .u8 (wd[j].toNat : Int)] wr fun e w' => e = .returned (.tuple #[]) ∧ Rdr rb s (i + j + 1) tb kt w' ∧ KB rb wr w') :=
        expect_yes rb s (i + j) tb kt wr (unhide HR) hs wd[j].toNat (by rw [e1, bt_at wd j hlt]) (by omega)
      clear e1
      go_wp2_with fail
      refine (unhide HE).mono ?_
      rintro e w1 ⟨rfl, r1, k1⟩
      have R1 := hide r1
      clear r1 HE
      go_wp2
      go_roundw
      case rel => exact ⟨j + 1, by omega, by go_num, unhide R1, hk.trans k1⟩
      case measure => simp [intOf]; omega
    · have e4 : j = wd.size := by omega
      subst e4
      go_wp2
      go_end0
      exact ⟨rfl, unhide HR, hk⟩

set_option maxHeartbeats 1600000 in
theorem word_no (rb : Nat) (s : ByteArray) (i : Nat) (tb kt : Bool) (w : World) (h : Rdr rb s i tb kt w) (hs : s.size ≤ 1048576) (wd : ByteArray) (hw : wd.size ≤ 1000) (hz : ∀ k, k < wd.size → bt wd k ≠ 0) (hi : i ≤ s.size) (hit : ¬ isWord s i wd) :
    Calls Tryz.prog 179 #[.pointer (some ⟨rb, 0, none⟩), .string wd] w fun e w' => e = mis ∧ KB rb w w' := by
  have H := hide h
  have HIT := hide hit
  have HZ := hide hz
  clear h hit hz
  go_enter Tryz.func179, Tryz.ntmps179
  go_wp2
  go_loopw [7] (fun k wr => ∃ j : Nat, j ≤ wd.size ∧ i + j ≤ s.size ∧ k = .int .i64 j ∧ (∀ m, m < j → bt s (i + m) = bt wd m) ∧ Rdr rb s (i + j) tb kt wr ∧ KB rb w wr) (fun k _ => wd.size - (intOf k).toNat)
  case atStart => exact ⟨0, by omega, hi, rfl, by omega, unhide H, KB.refl _ _⟩
  case round =>
    obtain ⟨j, hj, hij, rfl, hm, hr, hk⟩ := hrel
    have HR := hide hr
    have HM := hide hm
    clear hr hm
    by_cases hlt : j < wd.size
    · by_cases e1 : bt s (i + j) = bt wd j
      · have hin : i + j < s.size := bt_in (by rw [e1]; exact (unhide HZ) j hlt)
        have HE : Hid (Calls Tryz.prog 205 #[.pointer (some ⟨rb, 0, none⟩), .int .u8 (wd[j].toNat : Int)] wr fun e w' => e = .returned (.tuple #[]) ∧ Rdr rb s (i + j + 1) tb kt w' ∧ KB rb wr w') :=
          expect_yes rb s (i + j) tb kt wr (unhide HR) hs wd[j].toNat (by rw [e1, bt_at wd j hlt]) hin
        have HM1 : Hid (∀ m, m < j + 1 → bt s (i + m) = bt wd m) := fun m hm => by
          rcases Nat.lt_or_ge m j with g | g
          · exact (unhide HM) m g
          · have : m = j := by omega
            subst this; exact e1
        clear e1
        go_wp2_with fail
        refine (unhide HE).mono ?_
        rintro e w1 ⟨rfl, r1, k1⟩
        have R1 := hide r1
        clear r1 HE
        go_wp2
        go_roundw
        case rel => exact ⟨j + 1, by omega, by omega, by go_num, unhide HM1, unhide R1, hk.trans k1⟩
        case measure => simp [intOf]; omega
      · have HE : Hid (Calls Tryz.prog 205 #[.pointer (some ⟨rb, 0, none⟩), .int .u8 (wd[j].toNat : Int)] wr fun e w' => e = mis ∧ KB rb wr w') :=
          expect_no rb s (i + j) tb kt wr (unhide HR) hs hij wd[j].toNat (.inl (by rw [bt_at wd j hlt] at e1; exact e1))
        clear e1
        go_wp2_with fail
        refine (unhide HE).mono ?_
        rintro e w1 ⟨rfl, k1⟩
        clear HE
        exact ⟨rfl, rfl, hk.trans k1⟩
    · exfalso
      refine (unhide HIT) fun k hk' => (unhide HM) k (by omega)
end Go.Proofs.YtcjajchfjoffnaaGreatDoor

namespace Go.Proofs.YtcjajchfjoffnaaGreatDoor
open Go.RowKit

theorem isWord_u (s : ByteArray) (i : Nat) : isWord s i ⟨#[92, 117]⟩ ↔ bt s i = 92 ∧ bt s (i + 1) = 117 := by
  constructor
  · intro h
    exact ⟨h 0 (by decide), h 1 (by decide)⟩
  · rintro ⟨h0, h1⟩ k hk
    have : k < 2 := hk
    match k, this with
    | 0, _ => exact h0
    | 1, _ => exact h1

set_option maxHeartbeats 1600000 in
set_option maxRecDepth 100000 in
theorem hexRune_walk (rb : Nat) (s : ByteArray) (i : Nat) (tb kt : Bool) (w : World) (h : Rdr rb s (i + 2) tb kt w) (hs : s.size ≤ 1048576) (hi : i + 2 ≤ s.size) :
    Calls Tryz.prog 248 #[.pointer (some ⟨rb, 0, none⟩)] w (Post rb s tb kt w (((hexN s (i + 2) 4).bind (escU s i)).map fun p => (.int .i32 (p.1 : Int), i + p.2))) := by
  have HX := hide (hexNum_walk rb s (i + 2) tb kt w h hs hi)
  clear h
  cases hx1 : hexN s (i + 2) 4 with
  | none =>
    rw [hx1] at HX
    clear hx1
    go_enter Tryz.func248, Tryz.ntmps248
    go_wp2_with fail
    refine (unhide HX).mono ?_
    rintro e w1 ⟨k1, rfl⟩
    clear HX
    exact ⟨rfl, k1, rfl⟩
  | some u =>
    have hu : u < 65536 := hexN_lt s (i + 2) 4 u hx1
    have hin := hexN_in hx1
    rw [hx1] at HX
    clear hx1
    simp only [Option.bind_some]
    by_cases h1 : u < 55296 ∨ 57344 ≤ u
    · have HE : Hid (escU s i u = some (u, 6)) := by show _ = _; unfold escU; rw [if_pos h1]
      rcases h1 with h1 | h1
      · have a1 : (u : Int) < 55296 := by omega
        go_enter Tryz.func248, Tryz.ntmps248
        go_wp2_with fail
        refine (unhide HX).mono ?_
        rintro e w1 ⟨k1, rfl, r1⟩
        have R1 := hide r1
        clear HX r1
        go_wp2
        go_ret
        exact ⟨k1, by rw [unhide HE]; exact ⟨rfl, unhide R1⟩⟩
      · have a1 : ¬ (u : Int) < 55296 := by omega
        have a2 : (57343 : Int) < (u : Int) := by omega
        have d1 : decide ((u : Int) < 55296) = false := by simp; omega
        go_enter Tryz.func248, Tryz.ntmps248
        go_wp2_with fail
        refine (unhide HX).mono ?_
        rintro e w1 ⟨k1, rfl, r1⟩
        have R1 := hide r1
        clear HX r1
        go_wp2
        go_ret
        exact ⟨k1, by rw [unhide HE]; exact ⟨rfl, unhide R1⟩⟩
    · have a1 : ¬ (u : Int) < 55296 := by omega
      have a2 : ¬ (57343 : Int) < (u : Int) := by omega
      by_cases h2 : 56320 ≤ u
      · have HE : Hid (escU s i u = none) := by show _ = _; unfold escU; rw [if_neg h1, if_pos h2]
        have a3 : (56319 : Int) < (u : Int) := by omega
        clear h1
        go_enter Tryz.func248, Tryz.ntmps248
        go_wp2_with fail
        refine (unhide HX).mono ?_
        rintro e w1 ⟨k1, rfl, r1⟩
        clear HX r1
        go_wp2
        exact ⟨rfl, k1, by rw [unhide HE]; rfl⟩
      · have a3 : ¬ (56319 : Int) < (u : Int) := by omega
        have U12 : Hid ((55296 : Int) ≤ (u : Int) ∧ (u : Int) ≤ 56319) := by show _ ∧ _; omega
        by_cases hw : bt s (i + 6) = 92 ∧ bt s (i + 6 + 1) = 117
        · have hw' := (isWord_u s (i + 6)).2 hw
          have hin7 : i + 6 + 1 < s.size := bt_in (by rw [hw.2]; decide)
          have HW : Hid (∀ w, Rdr rb s (i + 6) tb kt w → Calls Tryz.prog 179 #[.pointer (some ⟨rb, 0, none⟩), .string ⟨#[92, 117]⟩] w fun e w' => e = .returned (.tuple #[]) ∧ Rdr rb s (i + 6 + 2) tb kt w' ∧ KB rb w w') :=
            fun w h => word_yes rb s (i + 6) tb kt w h hs ⟨#[92, 117]⟩ (by decide) (by show i + 6 + 2 ≤ _; omega) hw'
          have HX2 : Hid (∀ w, Rdr rb s (i + 6 + 2) tb kt w → Calls Tryz.prog 265 #[.pointer (some ⟨rb, 0, none⟩)] w (Post rb s tb kt w ((hexN s (i + 6 + 2) 4).map fun v : Nat => (.int .i32 (v : Int), i + 6 + 2 + 4)))) :=
            fun w h => hexNum_walk rb s (i + 6 + 2) tb kt w h hs (by omega)
          have eU : unit s (i + 6) = hexN s (i + 6 + 2) 4 := by unfold unit; rw [if_pos hw]
          clear hw hw'
          cases hx2 : hexN s (i + 6 + 2) 4 with
          | none =>
            have HE : Hid (escU s i u = none) := by show _ = _; unfold escU; rw [if_neg h1, if_neg h2, eU, hx2]; rfl
            rw [hx2] at HX2
            clear hx2 eU h1 h2
            go_enter Tryz.func248, Tryz.ntmps248
            go_wp2_with fail
            refine (unhide HX).mono ?_
            rintro e w1 ⟨k1, rfl, r1⟩
            have R1 := hide r1
            clear HX r1
            go_wp2_with fail
            refine (unhide HW _ (unhide R1)).mono ?_
            rintro e w2 ⟨rfl, r2, k2⟩
            have R2 := hide r2
            clear HW r2
            go_wp2_with fail
            refine (unhide HX2 _ (unhide R2)).mono ?_
            rintro e w3 ⟨k3, rfl⟩
            clear HX2
            exact ⟨rfl, (k1.trans k2).trans k3, by rw [unhide HE]; rfl⟩
          | some v =>
            have hv : v < 65536 := hexN_lt s (i + 6 + 2) 4 v hx2
            rw [hx2] at HX2
            by_cases h3 : 56320 ≤ v ∧ v < 57344
            · have HE : Hid (escU s i u = some (65536 + (u - 55296) * 1024 + (v - 56320), 12)) := by
                show _ = _; unfold escU; rw [if_neg h1, if_neg h2, eU, hx2]; simp only [Option.bind_some]; rw [if_pos h3]
              have v1 : (56320 : Int) ≤ (v : Int) := by omega
              have v2 : (v : Int) ≤ 57343 := by omega
              have v3 : ¬ (v : Int) < 56320 := by omega
              have v4 : ¬ (57343 : Int) < (v : Int) := by omega
              clear hx2 eU h1 h2 h3
              go_enter Tryz.func248, Tryz.ntmps248
              go_wp2_with fail
              refine (unhide HX).mono ?_
              rintro e w1 ⟨k1, rfl, r1⟩
              have R1 := hide r1
              clear HX r1
              go_wp2_with fail
              refine (unhide HW _ (unhide R1)).mono ?_
              rintro e w2 ⟨rfl, r2, k2⟩
              have R2 := hide r2
              clear HW r2
              go_wp2_with fail
              refine (unhide HX2 _ (unhide R2)).mono ?_
              rintro e w3 ⟨k3, rfl, r3⟩
              have R3 := hide r3
              clear HX2 r3
              obtain ⟨u1, u2⟩ := unhide U12
              go_wp2
              go_ret
              refine ⟨(k1.trans k2).trans k3, ?_⟩
              rw [unhide HE]
              exact ⟨ret_int (by omega), unhide R3⟩
            · have HE : Hid (escU s i u = none) := by
                show _ = _; unfold escU; rw [if_neg h1, if_neg h2, eU, hx2]; simp only [Option.bind_some]; rw [if_neg h3]
              rcases (show v < 56320 ∨ 57344 ≤ v from by omega) with h4 | h4
              · have v1 : (v : Int) ≤ 56319 := by omega
                clear hx2 eU h1 h2 h3 h4
                go_enter Tryz.func248, Tryz.ntmps248
                go_wp2_with fail
                refine (unhide HX).mono ?_
                rintro e w1 ⟨k1, rfl, r1⟩
                have R1 := hide r1
                clear HX r1
                go_wp2_with fail
                refine (unhide HW _ (unhide R1)).mono ?_
                rintro e w2 ⟨rfl, r2, k2⟩
                have R2 := hide r2
                clear HW r2
                go_wp2_with fail
                refine (unhide HX2 _ (unhide R2)).mono ?_
                rintro e w3 ⟨k3, rfl, r3⟩
                clear HX2 r3
                go_wp2
                exact ⟨rfl, (k1.trans k2).trans k3, by rw [unhide HE]; rfl⟩
              · have v1 : ¬ (v : Int) < 56320 := by omega
                have v2 : (57343 : Int) < (v : Int) := by omega
                clear hx2 eU h1 h2 h3
                go_enter Tryz.func248, Tryz.ntmps248
                go_wp2_with fail
                refine (unhide HX).mono ?_
                rintro e w1 ⟨k1, rfl, r1⟩
                have R1 := hide r1
                clear HX r1
                go_wp2_with fail
                refine (unhide HW _ (unhide R1)).mono ?_
                rintro e w2 ⟨rfl, r2, k2⟩
                have R2 := hide r2
                clear HW r2
                go_wp2_with fail
                refine (unhide HX2 _ (unhide R2)).mono ?_
                rintro e w3 ⟨k3, rfl, r3⟩
                clear HX2 r3
                go_wp2
                exact ⟨rfl, (k1.trans k2).trans k3, by rw [unhide HE]; rfl⟩
        · have HE : Hid (escU s i u = none) := by
            show _ = _; unfold escU; rw [if_neg h1, if_neg h2]; unfold unit; rw [if_neg hw]; rfl
          have HW : Hid (∀ w, Rdr rb s (i + 6) tb kt w → Calls Tryz.prog 179 #[.pointer (some ⟨rb, 0, none⟩), .string ⟨#[92, 117]⟩] w fun e w' => e = mis ∧ KB rb w w') :=
            fun w h => word_no rb s (i + 6) tb kt w h hs ⟨#[92, 117]⟩ (by decide) (fun k hk => by
              have : k < 2 := hk
              match k, this with
              | 0, _ => decide
              | 1, _ => decide) (by omega) (fun h => hw ((isWord_u s (i + 6)).1 h))
          clear h1 h2 hw
          go_enter Tryz.func248, Tryz.ntmps248
          go_wp2_with fail
          refine (unhide HX).mono ?_
          rintro e w1 ⟨k1, rfl, r1⟩
          have R1 := hide r1
          clear HX r1
          go_wp2_with fail
          refine (unhide HW _ (unhide R1)).mono ?_
          rintro e w2 ⟨rfl, k2⟩
          clear HW
          exact ⟨rfl, k1.trans k2, by rw [unhide HE]; rfl⟩
end Go.Proofs.YtcjajchfjoffnaaGreatDoor
