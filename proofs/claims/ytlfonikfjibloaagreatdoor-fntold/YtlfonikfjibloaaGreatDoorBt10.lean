import Derived.Test.YtlfonikfjibloaaGreatDoorBt9
import Derived.Test.YtlfonikfjibloaaGreatDoorBt7
import Derived.Test.YtlfonikfjibloaaGreatDoorBt8
namespace Go.Proofs.YtlfonikfjibloaaGreatDoor
open Go.RowKit

def isOp (c : Nat) : Bool := c == 91 || c == 123
def isCl (c : Nat) : Bool := c == 93 || c == 125
/-- The next place to look at. -/
def nxt (T : ByteArray) (i : Nat) : Option Nat := if bt T i = 34 then (strQ T i).map (·.2) else some (i + 1)
/-- What is open behind a byte; none where nothing was open that it could close. -/
def op1 (c op : Nat) : Option Nat := if isOp c then some (op + 1) else if isCl c then (if op = 0 then none else some (op - 1)) else some op
def stopAt (T : ByteArray) (i : Nat) : Bool := decide (i = T.size) || bt T i == 44 || bt T i == 93 || bt T i == 125
def endF (T : ByteArray) : Nat → Nat → Nat → Option Nat
  | 0, _, _ => none
  | f + 1, op, i => if i < T.size then (nxt T i).bind fun j => (op1 (bt T i) op).bind fun o => if o = 0 ∧ stopAt T j = true then some j else endF T f o j else none
def wiF (T : ByteArray) : Nat → Nat → Nat → Nat → Option Nat
  | 0, _, _, _ => none
  | f + 1, op, mo, i => if i < T.size then (nxt T i).bind fun j => (op1 (bt T i) op).bind fun o => wiF T f o (max mo o) j else some mo

section
variable {T : ByteArray}
theorem at_head {i : Nat} {c : UInt8} {m : List UInt8} (h : T.data.toList.drop i = c :: m) : i < T.size ∧ bt T i = c.toNat ∧ T.data.toList.drop (i + 1) = m := by
  refine ⟨drop_size2 h (by simp), ?_, ?_⟩
  · have := bt_drop T i 0; rw [h] at this; exact this
  · exact drop_past (m := [c]) (n := m) h
/-- What stands behind a value. -/
def Stops (m : List UInt8) : Prop := m = [] ∨ ∃ c r, m = c :: r ∧ (c.toNat = 44 ∨ c.toNat = 93 ∨ c.toNat = 125)
theorem stop_of {i : Nat} {m : List UInt8} (h : T.data.toList.drop i = m) (hi : i ≤ T.size) (hm : Stops m) : stopAt T i = true := by
  unfold stopAt
  rcases hm with rfl | ⟨c, r, rfl, hc⟩
  · have : i = T.size := by
      have := congrArg List.length h
      rw [List.length_drop, data_len, List.length_nil] at this
      omega
    simp [this]
  · obtain ⟨_, hb, _⟩ := at_head h
    rw [hb]
    rcases hc with hc | hc | hc <;> simp [hc]
theorem stop_not {i : Nat} {c : UInt8} {m : List UInt8} (h : T.data.toList.drop i = c :: m) (h1 : c.toNat ≠ 44) (h2 : c.toNat ≠ 93) (h3 : c.toNat ≠ 125) : stopAt T i = false := by
  obtain ⟨hl, hb, _⟩ := at_head h
  unfold stopAt
  rw [hb]
  simp [h1, h2, h3]; omega
def plainC (c : UInt8) : Prop := c.toNat ≠ 34 ∧ c.toNat ≠ 91 ∧ c.toNat ≠ 123 ∧ c.toNat ≠ 93 ∧ c.toNat ≠ 125
theorem op1_plain {c : UInt8} (h : plainC c) (op : Nat) : op1 c.toNat op = some op := by
  obtain ⟨_, a, b, d, e⟩ := h
  simp [op1, isOp, isCl, a, b, d, e]
theorem nxt_plain {i : Nat} {c : UInt8} (hb : bt T i = c.toNat) (h : c.toNat ≠ 34) : nxt T i = some (i + 1) := by unfold nxt; rw [if_neg (by omega)]

/-- A text that is passed over where something is open. -/
def InP (T : ByteArray) (t : List UInt8) : Prop := ∀ op i m f k, 1 ≤ op → T.data.toList.drop i = t ++ m → endF T f op (i + t.length) = some k → ∃ f', endF T f' op i = some k
def TopP (T : ByteArray) (t : List UInt8) : Prop := ∀ i m, T.data.toList.drop i = t ++ m → Stops m → ∃ f, endF T f 0 i = some (i + t.length)
theorem InP.nil : InP T [] := fun _ _ _ f _ _ _ h => ⟨f, h⟩
theorem InP.app {a b : List UInt8} (ha : InP T a) (hb : InP T b) : InP T (a ++ b) := fun op i m f k ho h he => by
  rw [List.append_assoc] at h
  rw [List.length_append, ← Nat.add_assoc] at he
  obtain ⟨f1, h1⟩ := hb op (i + a.length) m f k ho (drop_past h) he
  exact ha op i (b ++ m) f1 k ho h h1
theorem InP.one {c : UInt8} (hc : plainC c) : InP T [c] := fun op i m f k ho h he => by
  obtain ⟨hl, hb, _⟩ := at_head h
  refine ⟨f + 1, ?_⟩
  rw [endF, if_pos hl, nxt_plain hb hc.1, hb, op1_plain hc]
  simp only [Option.bind_some]
  rw [if_neg (by omega)]
  exact he
theorem InP.plain : ∀ {t : List UInt8}, (∀ c ∈ t, plainC c) → InP T t
  | [], _ => InP.nil
  | c :: _, h => InP.app (a := [c]) (InP.one (h c List.mem_cons_self)) (InP.plain fun d hd => h d (List.mem_cons_of_mem _ hd))
theorem nxt_quoted {i : Nat} {l m : List UInt8} (hv : Lib.validD l = true) (h : T.data.toList.drop i = quoted l ++ m) : i < T.size ∧ bt T i = 34 ∧ nxt T i = some (i + (quoted l).length) := by
  have h' : T.data.toList.drop i = 34 :: (qs l ++ 34 :: m) := by rw [h]; simp [quoted]
  obtain ⟨hl, hb, _⟩ := at_head h'
  refine ⟨hl, hb, ?_⟩
  unfold nxt
  rw [if_pos (by rw [hb]; rfl), strQ_at l T m hv i h]
  rfl
theorem op1_34 (op : Nat) : op1 34 op = some op := rfl
theorem InP.quoted {l : List UInt8} (hv : Lib.validD l = true) : InP T (Go.Proofs.YtlfonikfjibloaaGreatDoor.quoted l) := fun op i m f k ho h he => by
  obtain ⟨hl, hb, hn⟩ := nxt_quoted hv h
  refine ⟨f + 1, ?_⟩
  rw [endF, if_pos hl, hn, hb, op1_34]
  simp only [Option.bind_some]
  rw [if_neg (by omega)]
  exact he
theorem TopP.quoted {l : List UInt8} (hv : Lib.validD l = true) : TopP T (Go.Proofs.YtlfonikfjibloaaGreatDoor.quoted l) := fun i m h hs => by
  obtain ⟨hl, hb, hn⟩ := nxt_quoted hv h
  have hd := drop_past h
  have hle : i + (Go.Proofs.YtlfonikfjibloaaGreatDoor.quoted l).length ≤ T.size := by
    have := congrArg List.length h
    rw [List.length_drop, data_len, List.length_append] at this
    omega
  refine ⟨1, ?_⟩
  rw [endF, if_pos hl, hn, hb, op1_34]
  simp only [Option.bind_some]
  rw [if_pos ⟨trivial, stop_of hd hle hs⟩]
theorem TopP.plain : ∀ {t : List UInt8}, t ≠ [] → (∀ c ∈ t, plainC c ∧ c.toNat ≠ 44) → TopP T t
  | [], h, _ => absurd rfl h
  | [c], _, hc => fun i m h hs => by
    obtain ⟨hl, hb, hd⟩ := at_head (T := T) (m := m) h
    have hp := hc c List.mem_cons_self
    refine ⟨1, ?_⟩
    rw [endF, if_pos hl, nxt_plain hb hp.1.1, hb, op1_plain hp.1]
    simp only [Option.bind_some]
    rw [if_pos ⟨trivial, stop_of hd hl hs⟩]
    rfl
  | c :: d :: r, _, hc => fun i m h hs => by
    obtain ⟨hl, hb, hd⟩ := at_head (T := T) (m := d :: r ++ m) h
    have hp := hc c List.mem_cons_self
    have hq := hc d (List.mem_cons_of_mem _ List.mem_cons_self)
    obtain ⟨f, hf⟩ := TopP.plain (t := d :: r) (by simp) (fun x hx => hc x (List.mem_cons_of_mem _ hx)) (i + 1) m hd hs
    refine ⟨f + 1, ?_⟩
    rw [endF, if_pos hl, nxt_plain hb hp.1.1, hb, op1_plain hp.1]
    simp only [Option.bind_some]
    rw [if_neg (by rw [stop_not (m := r ++ m) hd hq.2 hq.1.2.2.2.1 hq.1.2.2.2.2]; simp), hf]
    simp only [List.length_cons]
    congr 1; omega
theorem InP.wrap {t : List UInt8} {a b : UInt8} (ha : isOp a.toNat = true) (hb : isCl b.toNat = true) (ht : InP T t) : InP T (a :: (t ++ [b])) ∧ TopP T (a :: (t ++ [b])) := by
  have ha34 : a.toNat ≠ 34 := by intro e; rw [e] at ha; cases ha
  have hb34 : b.toNat ≠ 34 := by intro e; rw [e] at hb; cases hb
  have hbo : isOp b.toNat = false := by
    simp only [isCl, Bool.or_eq_true, beq_iff_eq] at hb
    rcases hb with h | h <;> simp [isOp, h]
  refine ⟨fun op i m f k ho h he => ?_, fun i m h hs => ?_⟩
  · have h0 : T.data.toList.drop i = a :: (t ++ (b :: m)) := by rw [h]; simp
    obtain ⟨hl, hba, hd⟩ := at_head h0
    obtain ⟨hl2, hbb, hd2⟩ := at_head (drop_past hd)
    have e2 : ∃ f', endF T f' (op + 1) (i + 1 + t.length) = some k := by
      refine ⟨f + 1, ?_⟩
      rw [endF, if_pos hl2, nxt_plain hbb hb34, hbb]
      simp only [Option.bind_some, op1, hbo, hb, if_true, Bool.false_eq_true, if_false]
      rw [if_neg (by omega)]
      simp only [Option.bind_some, Nat.add_sub_cancel]
      rw [if_neg (by omega)]
      rw [show i + 1 + t.length + 1 = i + (a :: (t ++ [b])).length by simp; omega]
      exact he
    obtain ⟨f2, hf2⟩ := e2
    obtain ⟨f3, hf3⟩ := ht (op + 1) (i + 1) (b :: m) f2 k (by omega) hd hf2
    refine ⟨f3 + 1, ?_⟩
    rw [endF, if_pos hl, nxt_plain hba ha34, hba]
    simp only [Option.bind_some, op1, ha, if_true]
    rw [if_neg (by omega)]
    exact hf3
  · have h0 : T.data.toList.drop i = a :: (t ++ (b :: m)) := by rw [h]; simp
    obtain ⟨hl, hba, hd⟩ := at_head h0
    obtain ⟨hl2, hbb, hd2⟩ := at_head (drop_past hd)
    have e2 : endF T 1 1 (i + 1 + t.length) = some (i + (a :: (t ++ [b])).length) := by
      rw [endF, if_pos hl2, nxt_plain hbb hb34, hbb]
      simp only [Option.bind_some, op1, hbo, hb, if_true, Bool.false_eq_true, if_false]
      rw [if_neg (by omega)]
      simp only [Option.bind_some, Nat.sub_self]
      rw [if_pos ⟨trivial, stop_of hd2 hl2 hs⟩]
      simp; omega
    obtain ⟨f3, hf3⟩ := ht 1 (i + 1) (b :: m) 1 _ (by omega) hd e2
    refine ⟨f3 + 1, ?_⟩
    rw [endF, if_pos hl, nxt_plain hba ha34, hba]
    simp only [Option.bind_some, op1, ha, if_true]
    rw [if_neg (by omega)]
    exact hf3
theorem InP.joinT : ∀ {ts : List (List UInt8)}, (∀ t ∈ ts, InP T t) → InP T (Go.Proofs.YtlfonikfjibloaaGreatDoor.joinT ts)
  | [], _ => InP.nil
  | t :: r, h => InP.app (a := [44]) (InP.one ⟨by decide, by decide, by decide, by decide, by decide⟩) (InP.app (h t List.mem_cons_self) (InP.joinT fun x hx => h x (List.mem_cons_of_mem _ hx)))
theorem InP.joinC {ts : List (List UInt8)} (h : ∀ t ∈ ts, InP T t) : InP T (Go.Proofs.YtlfonikfjibloaaGreatDoor.joinC ts) := by
  cases ts with
  | nil => exact InP.nil
  | cons t r => exact InP.app (h t List.mem_cons_self) (InP.joinT fun x hx => h x (List.mem_cons_of_mem _ hx))
theorem num_plain {l : List UInt8} (h : okV (.num l)) : l ≠ [] ∧ ∀ c ∈ l, plainC c ∧ c.toNat ≠ 44 := by
  rw [okV] at h
  obtain ⟨c, r, rfl, hc, hr⟩ := h
  refine ⟨by simp, fun d hd => ?_⟩
  have : d.toNat = 45 ∨ isDg d.toNat = true := by
    rcases List.mem_cons.1 hd with rfl | hd
    · exact hc
    · exact .inr (hr d hd)
  have h2 : d.toNat = 45 ∨ (48 ≤ d.toNat ∧ d.toNat ≤ 57) := this.imp id isDg_iff.1
  exact ⟨⟨by omega, by omega, by omega, by omega, by omega⟩, by omega⟩
theorem word_plain {l : List UInt8} (h : l ∈ [[110, 117, 108, 108], [116, 114, 117, 101], ([102, 97, 108, 115, 101] : List UInt8)]) : l ≠ [] ∧ ∀ c ∈ l, plainC c ∧ c.toNat ≠ 44 := by
  unfold plainC
  revert l
  decide

mutual
theorem ctP : ∀ v : JV, okV v → InP T (ct v) ∧ TopP T (ct v)
  | .nul, _ => by
    have := word_plain (l := [110, 117, 108, 108]) (by simp)
    exact ⟨InP.plain fun c hc => (this.2 c hc).1, TopP.plain this.1 this.2⟩
  | .tt, _ => by
    have := word_plain (l := [116, 114, 117, 101]) (by simp)
    exact ⟨InP.plain fun c hc => (this.2 c hc).1, TopP.plain this.1 this.2⟩
  | .ff, _ => by
    have := word_plain (l := [102, 97, 108, 115, 101]) (by simp)
    exact ⟨InP.plain fun c hc => (this.2 c hc).1, TopP.plain this.1 this.2⟩
  | .num l, h => by
    have := num_plain h
    exact ⟨InP.plain fun c hc => (this.2 c hc).1, TopP.plain this.1 this.2⟩
  | .str l, h => by
    rw [okV] at h
    exact ⟨InP.quoted h, TopP.quoted h⟩
  | .arr l, h => by
    rw [okV] at h
    exact InP.wrap rfl rfl (InP.joinC (ctLP l h))
  | .obj m, h => by
    rw [okV] at h
    refine InP.wrap rfl rfl (InP.joinC fun t ht => ?_)
    obtain ⟨p, hp, rfl⟩ := List.mem_map.1 ht
    exact ctMP m h p ((isort_perm _).subset hp)
theorem ctLP : ∀ l : JL, okL l → ∀ t ∈ ctL l, InP T t
  | .nil, _, t, ht => by simp [ctL] at ht
  | .cons v r, h, t, ht => by
    rw [okL] at h
    rw [ctL] at ht
    rcases List.mem_cons.1 ht with e | ht
    · rw [e]; exact (ctP v h.1).1
    · exact ctLP r h.2 t ht
theorem ctMP : ∀ m : JM, okM m → ∀ p ∈ ctM m, InP T (memT p)
  | .nil, _, p, hp => by simp [ctM] at hp
  | .cons k v r, h, p, hp => by
    rw [okM] at h
    rw [ctM] at hp
    rcases List.mem_cons.1 hp with e | hp
    · rw [e]
      exact InP.app (InP.quoted h.1) (InP.app (a := [58]) (InP.one ⟨by decide, by decide, by decide, by decide, by decide⟩) (ctP v h.2.1).1)
    · exact ctMP r h.2.2 p hp
end
end
end Go.Proofs.YtlfonikfjibloaaGreatDoor

namespace Go.Proofs.YtlfonikfjibloaaGreatDoor
open Go.RowKit

theorem nxt_in {T : ByteArray} {j j2 : Nat} (h : nxt T j = some j2) (hj : j < T.size) : j < j2 ∧ j2 ≤ T.size := by
  unfold nxt at h
  split at h
  · cases hq : strQ T j with
    | none => rw [hq] at h; simp at h
    | some q =>
      obtain ⟨l, n⟩ := q
      rw [hq] at h
      simp at h
      have := strQ_ok hq
      omega
  · injection h with h; omega
theorem tail_cases {T : ByteArray} {o j2 k g : Nat} (hj : j2 ≤ T.size) (h : (if o = 0 ∧ stopAt T j2 = true then some j2 else endF T g o j2) = some k) :
    (o ≠ 0 ∧ endF T g o j2 = some k) ∨ (o = 0 ∧ j2 = T.size ∧ j2 = k) ∨ (o = 0 ∧ j2 < T.size ∧ bt T j2 = 44 ∧ j2 = k) ∨ (o = 0 ∧ j2 < T.size ∧ bt T j2 = 93 ∧ j2 = k) ∨ (o = 0 ∧ j2 < T.size ∧ bt T j2 = 125 ∧ j2 = k) ∨ (o = 0 ∧ j2 < T.size ∧ bt T j2 ≠ 44 ∧ bt T j2 ≠ 93 ∧ bt T j2 ≠ 125 ∧ endF T g o j2 = some k) := by
  by_cases ho : o = 0
  · by_cases hs : stopAt T j2 = true
    · rw [if_pos ⟨ho, hs⟩] at h
      injection h with h
      by_cases e : j2 = T.size
      · exact .inr (.inl ⟨ho, e, h⟩)
      · have hl : j2 < T.size := by omega
        unfold stopAt at hs
        simp [e] at hs
        rcases hs with (hs | hs) | hs
        · exact .inr (.inr (.inl ⟨ho, hl, hs, h⟩))
        · exact .inr (.inr (.inr (.inl ⟨ho, hl, hs, h⟩)))
        · exact .inr (.inr (.inr (.inr (.inl ⟨ho, hl, hs, h⟩))))
    · rw [if_neg (fun x => hs x.2)] at h
      unfold stopAt at hs
      simp at hs
      exact .inr (.inr (.inr (.inr (.inr ⟨ho, by omega, hs.1.1.2, hs.1.2, hs.2, h⟩))))
  · rw [if_neg (fun x => ho x.1)] at h
    exact .inl ⟨ho, h⟩

set_option maxRecDepth 100000 in
set_option maxHeartbeats 16000000 in
/-- The model's look for the end of a value. -/
theorem end_walk (T : ByteArray) (i k f : Nat) (w : World) (hT : T.size ≤ 1048576) (h : endF T f 0 i = some k) :
    Calls Tryz.prog 85 #[.string T, .int .i64 (i : Int)] w fun e w' => e = .returned (.int .i64 (k : Int)) ∧ Below w.heap.size w w' := by
  have HST : Hid (∀ (j : Nat) (w : World), j < T.size → Calls Tryz.prog 84 #[.string T, .int .i64 j] w (SPost T w (strQ T j))) := fun j w hj => l1String_walk T j w hT (by omega)
  have hi0 : i < T.size := by
    cases f with
    | zero => simp [endF] at h
    | succ f =>
      rw [endF] at h
      split at h
      · assumption
      · cases h
  have H0 := hide h
  clear h
  go_enter Tryz.func85, Tryz.ntmps85
  go_wp2
  go_loopw [1, 5] (fun iv ov wr => ∃ (j op g : Nat), iv = .int .i64 (j : Int) ∧ ov = .int .i64 (op : Int) ∧ j ≤ T.size ∧ op ≤ j ∧ endF T g op j = some k ∧ Below w.heap.size w wr) (fun iv _ _ => T.size - (intOf iv).toNat)
  case atStart => exact ⟨i, 0, f, rfl, rfl, by omega, by omega, unhide H0, Below.refl _ _⟩
  case round =>
    obtain ⟨j, op, g, rfl, rfl, hj, hop, hg, bw⟩ := hrel
    clear H0
    obtain ⟨g, rfl⟩ : ∃ g', g = g' + 1 := by cases g with
      | zero => simp [endF] at hg
      | succ g => exact ⟨g, rfl⟩
    rw [endF] at hg
    by_cases hl : j < T.size
    · rw [if_pos hl] at hg
      have hltI : (j : Int) < (T.size : Int) := by omega
      have hb := bt_at T j hl
      obtain ⟨n, hn, o, ho, hz⟩ : ∃ j2, nxt T j = some j2 ∧ ∃ o, op1 (bt T j) op = some o ∧ (if o = 0 ∧ stopAt T j2 = true then some j2 else endF T g o j2) = some k := by
        cases hn : nxt T j with
        | none => rw [hn] at hg; simp at hg
        | some j2 =>
          rw [hn] at hg
          simp only [Option.bind_some] at hg
          cases ho : op1 (bt T j) op with
          | none => rw [ho] at hg; simp at hg
          | some o => rw [ho] at hg; exact ⟨j2, rfl, o, rfl, by simpa using hg⟩
      clear hg
      have hnj := nxt_in hn hl
      have hnT := hnj.2
      have hjn := hnj.1
      have hns : bt T j ≠ 34 → j + 1 = n := fun h34 => by unfold nxt at hn; rw [if_neg h34] at hn; injection hn
      have hnq : bt T j = 34 → ∃ l, strQ T j = some (l, n) := fun h34 => by
        unfold nxt at hn
        rw [if_pos h34] at hn
        cases hq : strQ T j with
        | none => rw [hq] at hn; simp at hn
        | some q => rw [hq] at hn; simp at hn; exact ⟨q.1, by rw [← hn]⟩
      have ht := tail_cases hnT hz
      have HB := hide bw
      clear hn hz hnj bw
      by_cases c34 : bt T j = 34
      · obtain ⟨l, hq⟩ := hnq c34
        obtain rfl : op = o := by rw [c34] at ho; injection ho
        have HSJ := hide (unhide HST j wr hl)
        rw [hq] at HSJ
        rw [hb] at c34
        have f34 : ((T[j].toNat : Int) == 34) = true := by rw [beq_iff_eq]; omega
        have f91 : ((T[j].toNat : Int) == 91) = false := by rw [beq_eq_false_iff_ne]; omega
        have f123 : ((T[j].toNat : Int) == 123) = false := by rw [beq_eq_false_iff_ne]; omega
        have f93 : ((T[j].toNat : Int) == 93) = false := by rw [beq_eq_false_iff_ne]; omega
        have f125 : ((T[j].toNat : Int) == 125) = false := by rw [beq_eq_false_iff_ne]; omega
        clear hnq hns hq hb c34 HST ho
        rcases ht with ⟨h1, h2⟩ | ⟨h1, h2, h3⟩ | ⟨h1, h2, h3, h4⟩ | ⟨h1, h2, h3, h4⟩ | ⟨h1, h2, h3, h4⟩ | ⟨h1, h2, h3, h4, h5, h6⟩
        · have tz : ((op : Int) == 0) = false := by rw [beq_eq_false_iff_ne]; omega
          have H2 := hide h2
          clear h1 h2
          go_wp2_with fail
          refine (unhide HSJ).mono ?_
          rintro e w2 ⟨b2, rfl⟩
          have HB2 := hide (below_next (unhide HB) b2)
          clear HSJ b2
          go_wp2
          go_roundw
          case rel => exact ⟨n, op, g, by go_num, by go_num, hnT, by omega, unhide H2, unhide HB2⟩
          case measure => simp [intOf]; omega
        · have tz : ((op : Int) == 0) = true := by rw [beq_iff_eq]; omega
          have te : ((n : Int) == (T.size : Int)) = true := by rw [beq_iff_eq]; omega
          have HK := hide h3
          clear h3
          clear h1 h2
          go_wp2_with fail
          refine (unhide HSJ).mono ?_
          rintro e w2 ⟨b2, rfl⟩
          have HB2 := hide (below_next (unhide HB) b2)
          clear HSJ b2
          go_wp2
          go_ret
          exact ⟨by rw [← unhide HK]; first | rfl | go_num, unhide HB2⟩
        · have tz : ((op : Int) == 0) = true := by rw [beq_iff_eq]; omega
          have te : ((n : Int) == (T.size : Int)) = false := by rw [beq_eq_false_iff_ne]; omega
          have hlN : (n : Int) < (T.size : Int) := by omega
          have hbn := bt_at T n h2
          rw [hbn] at h3
          have g44 : ((T[n].toNat : Int) == 44) = true := by rw [beq_iff_eq]; omega
          have g93 : ((T[n].toNat : Int) == 93) = false := by rw [beq_eq_false_iff_ne]; omega
          have g125 : ((T[n].toNat : Int) == 125) = false := by rw [beq_eq_false_iff_ne]; omega
          clear hbn h3
          have HK := hide h4
          clear h4
          clear h1
          go_wp2_with fail
          refine (unhide HSJ).mono ?_
          rintro e w2 ⟨b2, rfl⟩
          have HB2 := hide (below_next (unhide HB) b2)
          clear HSJ b2
          go_wp2
          go_ret
          exact ⟨by rw [← unhide HK]; first | rfl | go_num, unhide HB2⟩
        · have tz : ((op : Int) == 0) = true := by rw [beq_iff_eq]; omega
          have te : ((n : Int) == (T.size : Int)) = false := by rw [beq_eq_false_iff_ne]; omega
          have hlN : (n : Int) < (T.size : Int) := by omega
          have hbn := bt_at T n h2
          rw [hbn] at h3
          have g44 : ((T[n].toNat : Int) == 44) = false := by rw [beq_eq_false_iff_ne]; omega
          have g93 : ((T[n].toNat : Int) == 93) = true := by rw [beq_iff_eq]; omega
          have g125 : ((T[n].toNat : Int) == 125) = false := by rw [beq_eq_false_iff_ne]; omega
          clear hbn h3
          have HK := hide h4
          clear h4
          clear h1
          go_wp2_with fail
          refine (unhide HSJ).mono ?_
          rintro e w2 ⟨b2, rfl⟩
          have HB2 := hide (below_next (unhide HB) b2)
          clear HSJ b2
          go_wp2
          go_ret
          exact ⟨by rw [← unhide HK]; first | rfl | go_num, unhide HB2⟩
        · have tz : ((op : Int) == 0) = true := by rw [beq_iff_eq]; omega
          have te : ((n : Int) == (T.size : Int)) = false := by rw [beq_eq_false_iff_ne]; omega
          have hlN : (n : Int) < (T.size : Int) := by omega
          have hbn := bt_at T n h2
          rw [hbn] at h3
          have g44 : ((T[n].toNat : Int) == 44) = false := by rw [beq_eq_false_iff_ne]; omega
          have g93 : ((T[n].toNat : Int) == 93) = false := by rw [beq_eq_false_iff_ne]; omega
          have g125 : ((T[n].toNat : Int) == 125) = true := by rw [beq_iff_eq]; omega
          clear hbn h3
          have HK := hide h4
          clear h4
          clear h1
          go_wp2_with fail
          refine (unhide HSJ).mono ?_
          rintro e w2 ⟨b2, rfl⟩
          have HB2 := hide (below_next (unhide HB) b2)
          clear HSJ b2
          go_wp2
          go_ret
          exact ⟨by rw [← unhide HK]; first | rfl | go_num, unhide HB2⟩
        · have tz : ((op : Int) == 0) = true := by rw [beq_iff_eq]; omega
          have te : ((n : Int) == (T.size : Int)) = false := by rw [beq_eq_false_iff_ne]; omega
          have hlN : (n : Int) < (T.size : Int) := by omega
          have hbn := bt_at T n h2
          rw [hbn] at h3 h4 h5
          have g44 : ((T[n].toNat : Int) == 44) = false := by rw [beq_eq_false_iff_ne]; omega
          have g93 : ((T[n].toNat : Int) == 93) = false := by rw [beq_eq_false_iff_ne]; omega
          have g125 : ((T[n].toNat : Int) == 125) = false := by rw [beq_eq_false_iff_ne]; omega
          clear hbn h3 h4 h5
          have H2 := hide h6
          clear h6
          clear h1
          go_wp2_with fail
          refine (unhide HSJ).mono ?_
          rintro e w2 ⟨b2, rfl⟩
          have HB2 := hide (below_next (unhide HB) b2)
          clear HSJ b2
          go_wp2
          go_roundw
          case rel => exact ⟨n, op, g, by go_num, by go_num, hnT, by omega, unhide H2, unhide HB2⟩
          case measure => simp [intOf]; omega
      · have hn1 : (j : Int) + 1 = (n : Int) := by have := hns c34; omega
        have hnx := hns c34
        clear hnq hns
        by_cases c91 : bt T j = 91
        · obtain rfl : op + 1 = o := by rw [c91] at ho; injection ho
          rw [hb] at c91
          have f34 : ((T[j].toNat : Int) == 34) = false := by rw [beq_eq_false_iff_ne]; omega
          have f91 : ((T[j].toNat : Int) == 91) = true := by rw [beq_iff_eq]; omega
          have f123 : ((T[j].toNat : Int) == 123) = false := by rw [beq_eq_false_iff_ne]; omega
          have f93 : ((T[j].toNat : Int) == 93) = false := by rw [beq_eq_false_iff_ne]; omega
          have f125 : ((T[j].toNat : Int) == 125) = false := by rw [beq_eq_false_iff_ne]; omega
          clear hb c91 HST ho c34
          rcases ht with ⟨h1, h2⟩ | ⟨h1, h2, h3⟩ | ⟨h1, h2, h3, h4⟩ | ⟨h1, h2, h3, h4⟩ | ⟨h1, h2, h3, h4⟩ | ⟨h1, h2, h3, h4, h5, h6⟩
          · have tz : (((op : Int) + 1) == 0) = false := by rw [beq_eq_false_iff_ne]; omega
            have H2 := hide h2
            clear h1 h2
            go_wp2
            go_roundw
            case rel => exact ⟨n, op + 1, g, by go_num, by go_num, hnT, by omega, unhide H2, unhide HB⟩
            case measure => simp [intOf]; omega
          · exfalso; omega
          · exfalso; omega
          · exfalso; omega
          · exfalso; omega
          · exfalso; omega
        by_cases c123 : bt T j = 123
        · obtain rfl : op + 1 = o := by rw [c123] at ho; injection ho
          rw [hb] at c123
          have f34 : ((T[j].toNat : Int) == 34) = false := by rw [beq_eq_false_iff_ne]; omega
          have f91 : ((T[j].toNat : Int) == 91) = false := by rw [beq_eq_false_iff_ne]; omega
          have f123 : ((T[j].toNat : Int) == 123) = true := by rw [beq_iff_eq]; omega
          have f93 : ((T[j].toNat : Int) == 93) = false := by rw [beq_eq_false_iff_ne]; omega
          have f125 : ((T[j].toNat : Int) == 125) = false := by rw [beq_eq_false_iff_ne]; omega
          clear hb c123 HST ho c34 c91
          rcases ht with ⟨h1, h2⟩ | ⟨h1, h2, h3⟩ | ⟨h1, h2, h3, h4⟩ | ⟨h1, h2, h3, h4⟩ | ⟨h1, h2, h3, h4⟩ | ⟨h1, h2, h3, h4, h5, h6⟩
          · have tz : (((op : Int) + 1) == 0) = false := by rw [beq_eq_false_iff_ne]; omega
            have H2 := hide h2
            clear h1 h2
            go_wp2
            go_roundw
            case rel => exact ⟨n, op + 1, g, by go_num, by go_num, hnT, by omega, unhide H2, unhide HB⟩
            case measure => simp [intOf]; omega
          · exfalso; omega
          · exfalso; omega
          · exfalso; omega
          · exfalso; omega
          · exfalso; omega
        by_cases c93 : bt T j = 93
        · have hop1 : 1 ≤ op := by rw [c93] at ho; cases op with
            | zero => cases ho
            | succ n => omega
          obtain rfl : op - 1 = o := by rw [c93] at ho; cases op with
            | zero => cases ho
            | succ n => injection ho
          rw [hb] at c93
          have f34 : ((T[j].toNat : Int) == 34) = false := by rw [beq_eq_false_iff_ne]; omega
          have f91 : ((T[j].toNat : Int) == 91) = false := by rw [beq_eq_false_iff_ne]; omega
          have f123 : ((T[j].toNat : Int) == 123) = false := by rw [beq_eq_false_iff_ne]; omega
          have f93 : ((T[j].toNat : Int) == 93) = true := by rw [beq_iff_eq]; omega
          have f125 : ((T[j].toNat : Int) == 125) = false := by rw [beq_eq_false_iff_ne]; omega
          clear hb c93 HST ho c34 c91 c123
          rcases ht with ⟨h1, h2⟩ | ⟨h1, h2, h3⟩ | ⟨h1, h2, h3, h4⟩ | ⟨h1, h2, h3, h4⟩ | ⟨h1, h2, h3, h4⟩ | ⟨h1, h2, h3, h4, h5, h6⟩
          · have tz : (((op : Int) - 1) == 0) = false := by rw [beq_eq_false_iff_ne]; omega
            have H2 := hide h2
            clear h1 h2
            go_wp2
            go_roundw
            case rel => exact ⟨n, op - 1, g, by go_num, by go_num, hnT, by omega, unhide H2, unhide HB⟩
            case measure => simp [intOf]; omega
          · have tz : (((op : Int) - 1) == 0) = true := by rw [beq_iff_eq]; omega
            have te : ((n : Int) == (T.size : Int)) = true := by rw [beq_iff_eq]; omega
            have HK := hide h3
            clear h3
            clear h1 h2
            go_wp2
            go_ret
            exact ⟨by rw [← unhide HK]; first | rfl | go_num, unhide HB⟩
          · have tz : (((op : Int) - 1) == 0) = true := by rw [beq_iff_eq]; omega
            have te : ((n : Int) == (T.size : Int)) = false := by rw [beq_eq_false_iff_ne]; omega
            have hlN : (n : Int) < (T.size : Int) := by omega
            have hbn := bt_at T n h2
            rw [hbn] at h3
            have g44 : ((T[n].toNat : Int) == 44) = true := by rw [beq_iff_eq]; omega
            have g93 : ((T[n].toNat : Int) == 93) = false := by rw [beq_eq_false_iff_ne]; omega
            have g125 : ((T[n].toNat : Int) == 125) = false := by rw [beq_eq_false_iff_ne]; omega
            clear hbn h3
            have HK := hide h4
            clear h4
            clear h1
            go_wp2
            go_ret
            exact ⟨by rw [← unhide HK]; first | rfl | go_num, unhide HB⟩
          · have tz : (((op : Int) - 1) == 0) = true := by rw [beq_iff_eq]; omega
            have te : ((n : Int) == (T.size : Int)) = false := by rw [beq_eq_false_iff_ne]; omega
            have hlN : (n : Int) < (T.size : Int) := by omega
            have hbn := bt_at T n h2
            rw [hbn] at h3
            have g44 : ((T[n].toNat : Int) == 44) = false := by rw [beq_eq_false_iff_ne]; omega
            have g93 : ((T[n].toNat : Int) == 93) = true := by rw [beq_iff_eq]; omega
            have g125 : ((T[n].toNat : Int) == 125) = false := by rw [beq_eq_false_iff_ne]; omega
            clear hbn h3
            have HK := hide h4
            clear h4
            clear h1
            go_wp2
            go_ret
            exact ⟨by rw [← unhide HK]; first | rfl | go_num, unhide HB⟩
          · have tz : (((op : Int) - 1) == 0) = true := by rw [beq_iff_eq]; omega
            have te : ((n : Int) == (T.size : Int)) = false := by rw [beq_eq_false_iff_ne]; omega
            have hlN : (n : Int) < (T.size : Int) := by omega
            have hbn := bt_at T n h2
            rw [hbn] at h3
            have g44 : ((T[n].toNat : Int) == 44) = false := by rw [beq_eq_false_iff_ne]; omega
            have g93 : ((T[n].toNat : Int) == 93) = false := by rw [beq_eq_false_iff_ne]; omega
            have g125 : ((T[n].toNat : Int) == 125) = true := by rw [beq_iff_eq]; omega
            clear hbn h3
            have HK := hide h4
            clear h4
            clear h1
            go_wp2
            go_ret
            exact ⟨by rw [← unhide HK]; first | rfl | go_num, unhide HB⟩
          · have tz : (((op : Int) - 1) == 0) = true := by rw [beq_iff_eq]; omega
            have te : ((n : Int) == (T.size : Int)) = false := by rw [beq_eq_false_iff_ne]; omega
            have hlN : (n : Int) < (T.size : Int) := by omega
            have hbn := bt_at T n h2
            rw [hbn] at h3 h4 h5
            have g44 : ((T[n].toNat : Int) == 44) = false := by rw [beq_eq_false_iff_ne]; omega
            have g93 : ((T[n].toNat : Int) == 93) = false := by rw [beq_eq_false_iff_ne]; omega
            have g125 : ((T[n].toNat : Int) == 125) = false := by rw [beq_eq_false_iff_ne]; omega
            clear hbn h3 h4 h5
            have H2 := hide h6
            clear h6
            clear h1
            go_wp2
            go_roundw
            case rel => exact ⟨n, op - 1, g, by go_num, by go_num, hnT, by omega, unhide H2, unhide HB⟩
            case measure => simp [intOf]; omega
        by_cases c125 : bt T j = 125
        · have hop1 : 1 ≤ op := by rw [c125] at ho; cases op with
            | zero => cases ho
            | succ n => omega
          obtain rfl : op - 1 = o := by rw [c125] at ho; cases op with
            | zero => cases ho
            | succ n => injection ho
          rw [hb] at c125
          have f34 : ((T[j].toNat : Int) == 34) = false := by rw [beq_eq_false_iff_ne]; omega
          have f91 : ((T[j].toNat : Int) == 91) = false := by rw [beq_eq_false_iff_ne]; omega
          have f123 : ((T[j].toNat : Int) == 123) = false := by rw [beq_eq_false_iff_ne]; omega
          have f93 : ((T[j].toNat : Int) == 93) = false := by rw [beq_eq_false_iff_ne]; omega
          have f125 : ((T[j].toNat : Int) == 125) = true := by rw [beq_iff_eq]; omega
          clear hb c125 HST ho c34 c91 c123 c93
          rcases ht with ⟨h1, h2⟩ | ⟨h1, h2, h3⟩ | ⟨h1, h2, h3, h4⟩ | ⟨h1, h2, h3, h4⟩ | ⟨h1, h2, h3, h4⟩ | ⟨h1, h2, h3, h4, h5, h6⟩
          · have tz : (((op : Int) - 1) == 0) = false := by rw [beq_eq_false_iff_ne]; omega
            have H2 := hide h2
            clear h1 h2
            go_wp2
            go_roundw
            case rel => exact ⟨n, op - 1, g, by go_num, by go_num, hnT, by omega, unhide H2, unhide HB⟩
            case measure => simp [intOf]; omega
          · have tz : (((op : Int) - 1) == 0) = true := by rw [beq_iff_eq]; omega
            have te : ((n : Int) == (T.size : Int)) = true := by rw [beq_iff_eq]; omega
            have HK := hide h3
            clear h3
            clear h1 h2
            go_wp2
            go_ret
            exact ⟨by rw [← unhide HK]; first | rfl | go_num, unhide HB⟩
          · have tz : (((op : Int) - 1) == 0) = true := by rw [beq_iff_eq]; omega
            have te : ((n : Int) == (T.size : Int)) = false := by rw [beq_eq_false_iff_ne]; omega
            have hlN : (n : Int) < (T.size : Int) := by omega
            have hbn := bt_at T n h2
            rw [hbn] at h3
            have g44 : ((T[n].toNat : Int) == 44) = true := by rw [beq_iff_eq]; omega
            have g93 : ((T[n].toNat : Int) == 93) = false := by rw [beq_eq_false_iff_ne]; omega
            have g125 : ((T[n].toNat : Int) == 125) = false := by rw [beq_eq_false_iff_ne]; omega
            clear hbn h3
            have HK := hide h4
            clear h4
            clear h1
            go_wp2
            go_ret
            exact ⟨by rw [← unhide HK]; first | rfl | go_num, unhide HB⟩
          · have tz : (((op : Int) - 1) == 0) = true := by rw [beq_iff_eq]; omega
            have te : ((n : Int) == (T.size : Int)) = false := by rw [beq_eq_false_iff_ne]; omega
            have hlN : (n : Int) < (T.size : Int) := by omega
            have hbn := bt_at T n h2
            rw [hbn] at h3
            have g44 : ((T[n].toNat : Int) == 44) = false := by rw [beq_eq_false_iff_ne]; omega
            have g93 : ((T[n].toNat : Int) == 93) = true := by rw [beq_iff_eq]; omega
            have g125 : ((T[n].toNat : Int) == 125) = false := by rw [beq_eq_false_iff_ne]; omega
            clear hbn h3
            have HK := hide h4
            clear h4
            clear h1
            go_wp2
            go_ret
            exact ⟨by rw [← unhide HK]; first | rfl | go_num, unhide HB⟩
          · have tz : (((op : Int) - 1) == 0) = true := by rw [beq_iff_eq]; omega
            have te : ((n : Int) == (T.size : Int)) = false := by rw [beq_eq_false_iff_ne]; omega
            have hlN : (n : Int) < (T.size : Int) := by omega
            have hbn := bt_at T n h2
            rw [hbn] at h3
            have g44 : ((T[n].toNat : Int) == 44) = false := by rw [beq_eq_false_iff_ne]; omega
            have g93 : ((T[n].toNat : Int) == 93) = false := by rw [beq_eq_false_iff_ne]; omega
            have g125 : ((T[n].toNat : Int) == 125) = true := by rw [beq_iff_eq]; omega
            clear hbn h3
            have HK := hide h4
            clear h4
            clear h1
            go_wp2
            go_ret
            exact ⟨by rw [← unhide HK]; first | rfl | go_num, unhide HB⟩
          · have tz : (((op : Int) - 1) == 0) = true := by rw [beq_iff_eq]; omega
            have te : ((n : Int) == (T.size : Int)) = false := by rw [beq_eq_false_iff_ne]; omega
            have hlN : (n : Int) < (T.size : Int) := by omega
            have hbn := bt_at T n h2
            rw [hbn] at h3 h4 h5
            have g44 : ((T[n].toNat : Int) == 44) = false := by rw [beq_eq_false_iff_ne]; omega
            have g93 : ((T[n].toNat : Int) == 93) = false := by rw [beq_eq_false_iff_ne]; omega
            have g125 : ((T[n].toNat : Int) == 125) = false := by rw [beq_eq_false_iff_ne]; omega
            clear hbn h3 h4 h5
            have H2 := hide h6
            clear h6
            clear h1
            go_wp2
            go_roundw
            case rel => exact ⟨n, op - 1, g, by go_num, by go_num, hnT, by omega, unhide H2, unhide HB⟩
            case measure => simp [intOf]; omega
        obtain rfl : op = o := by
          unfold op1 isOp isCl at ho
          simp [c91, c123, c93, c125] at ho
          exact ho
        rw [hb] at c34 c91 c123 c93 c125
        have f34 : ((T[j].toNat : Int) == 34) = false := by rw [beq_eq_false_iff_ne]; omega
        have f91 : ((T[j].toNat : Int) == 91) = false := by rw [beq_eq_false_iff_ne]; omega
        have f123 : ((T[j].toNat : Int) == 123) = false := by rw [beq_eq_false_iff_ne]; omega
        have f93 : ((T[j].toNat : Int) == 93) = false := by rw [beq_eq_false_iff_ne]; omega
        have f125 : ((T[j].toNat : Int) == 125) = false := by rw [beq_eq_false_iff_ne]; omega
        clear hb c34 c91 c123 c93 c125 HST ho
        rcases ht with ⟨h1, h2⟩ | ⟨h1, h2, h3⟩ | ⟨h1, h2, h3, h4⟩ | ⟨h1, h2, h3, h4⟩ | ⟨h1, h2, h3, h4⟩ | ⟨h1, h2, h3, h4, h5, h6⟩
        · have tz : ((op : Int) == 0) = false := by rw [beq_eq_false_iff_ne]; omega
          have H2 := hide h2
          clear h1 h2
          go_wp2
          go_roundw
          case rel => exact ⟨n, op, g, by go_num, by go_num, hnT, by omega, unhide H2, unhide HB⟩
          case measure => simp [intOf]; omega
        · have tz : ((op : Int) == 0) = true := by rw [beq_iff_eq]; omega
          have te : ((n : Int) == (T.size : Int)) = true := by rw [beq_iff_eq]; omega
          have HK := hide h3
          clear h3
          clear h1 h2
          go_wp2
          go_ret
          exact ⟨by rw [← unhide HK]; first | rfl | go_num, unhide HB⟩
        · have tz : ((op : Int) == 0) = true := by rw [beq_iff_eq]; omega
          have te : ((n : Int) == (T.size : Int)) = false := by rw [beq_eq_false_iff_ne]; omega
          have hlN : (n : Int) < (T.size : Int) := by omega
          have hbn := bt_at T n h2
          rw [hbn] at h3
          have g44 : ((T[n].toNat : Int) == 44) = true := by rw [beq_iff_eq]; omega
          have g93 : ((T[n].toNat : Int) == 93) = false := by rw [beq_eq_false_iff_ne]; omega
          have g125 : ((T[n].toNat : Int) == 125) = false := by rw [beq_eq_false_iff_ne]; omega
          clear hbn h3
          have HK := hide h4
          clear h4
          clear h1
          go_wp2
          go_ret
          exact ⟨by rw [← unhide HK]; first | rfl | go_num, unhide HB⟩
        · have tz : ((op : Int) == 0) = true := by rw [beq_iff_eq]; omega
          have te : ((n : Int) == (T.size : Int)) = false := by rw [beq_eq_false_iff_ne]; omega
          have hlN : (n : Int) < (T.size : Int) := by omega
          have hbn := bt_at T n h2
          rw [hbn] at h3
          have g44 : ((T[n].toNat : Int) == 44) = false := by rw [beq_eq_false_iff_ne]; omega
          have g93 : ((T[n].toNat : Int) == 93) = true := by rw [beq_iff_eq]; omega
          have g125 : ((T[n].toNat : Int) == 125) = false := by rw [beq_eq_false_iff_ne]; omega
          clear hbn h3
          have HK := hide h4
          clear h4
          clear h1
          go_wp2
          go_ret
          exact ⟨by rw [← unhide HK]; first | rfl | go_num, unhide HB⟩
        · have tz : ((op : Int) == 0) = true := by rw [beq_iff_eq]; omega
          have te : ((n : Int) == (T.size : Int)) = false := by rw [beq_eq_false_iff_ne]; omega
          have hlN : (n : Int) < (T.size : Int) := by omega
          have hbn := bt_at T n h2
          rw [hbn] at h3
          have g44 : ((T[n].toNat : Int) == 44) = false := by rw [beq_eq_false_iff_ne]; omega
          have g93 : ((T[n].toNat : Int) == 93) = false := by rw [beq_eq_false_iff_ne]; omega
          have g125 : ((T[n].toNat : Int) == 125) = true := by rw [beq_iff_eq]; omega
          clear hbn h3
          have HK := hide h4
          clear h4
          clear h1
          go_wp2
          go_ret
          exact ⟨by rw [← unhide HK]; first | rfl | go_num, unhide HB⟩
        · have tz : ((op : Int) == 0) = true := by rw [beq_iff_eq]; omega
          have te : ((n : Int) == (T.size : Int)) = false := by rw [beq_eq_false_iff_ne]; omega
          have hlN : (n : Int) < (T.size : Int) := by omega
          have hbn := bt_at T n h2
          rw [hbn] at h3 h4 h5
          have g44 : ((T[n].toNat : Int) == 44) = false := by rw [beq_eq_false_iff_ne]; omega
          have g93 : ((T[n].toNat : Int) == 93) = false := by rw [beq_eq_false_iff_ne]; omega
          have g125 : ((T[n].toNat : Int) == 125) = false := by rw [beq_eq_false_iff_ne]; omega
          clear hbn h3 h4 h5
          have H2 := hide h6
          clear h6
          clear h1
          go_wp2
          go_roundw
          case rel => exact ⟨n, op, g, by go_num, by go_num, hnT, by omega, unhide H2, unhide HB⟩
          case measure => simp [intOf]; omega
    · rw [if_neg hl] at hg; cases hg
end Go.Proofs.YtlfonikfjibloaaGreatDoor

namespace Go.Proofs.YtlfonikfjibloaaGreatDoor
open Go.RowKit

/-- A value takes as many bytes as it has values, or more. -/
theorem p_cnt (s : ByteArray) : ∀ f i, (∀ v j, pv s f i = some (v, j) → cntV v + i ≤ j) ∧ (∀ l j, pa s f i = some (l, j) → cntL l + i ≤ j) ∧ (∀ m j, po s f i = some (m, j) → cntM m + i ≤ j)
  | 0, i => ⟨fun v j h => by simp [pv] at h, fun v j h => by simp [pa] at h, fun v j h => by simp [po] at h⟩
  | f + 1, i => by
    refine ⟨fun v j h => ?_, fun l j h => ?_, fun m j h => ?_⟩
    · rw [pv] at h
      have g := sk_ge s (i + 1)
      split at h
      · split at h
        · have := bt_in (s := s) (i := sk s (i + 1)) (by omega)
          injection h with h; injection h with hv h; subst hv; (try simp only [cntV]); (try simp only [cntL]); (try simp only [cntM]); omega
        · simp only [Option.map_eq_some_iff] at h
          obtain ⟨⟨l, k⟩, hk, h⟩ := h
          injection h with hv h
          have := (p_cnt s f (sk s (i + 1))).2.1 l k hk
          subst hv; simp only at h; (try simp only [cntV]); (try simp only [cntL]); (try simp only [cntM]); omega
      · split at h
        · split at h
          · have := bt_in (s := s) (i := sk s (i + 1)) (by omega)
            injection h with h; injection h with hv h; subst hv; (try simp only [cntV]); (try simp only [cntL]); (try simp only [cntM]); omega
          · simp only [Option.map_eq_some_iff] at h
            obtain ⟨⟨l, k⟩, hk, h⟩ := h
            injection h with hv h
            have := (p_cnt s f (sk s (i + 1))).2.2 l k hk
            subst hv; simp only at h; (try simp only [cntV]); (try simp only [cntL]); (try simp only [cntM]); omega
        · split at h
          · simp only [Option.map_eq_some_iff] at h
            obtain ⟨⟨l, k⟩, hk, h⟩ := h
            injection h with hv h
            have := strQ_ok hk
            subst hv; simp only at h; (try simp only [cntV]); (try simp only [cntL]); (try simp only [cntM]); omega
          · split at h
            · rename_i hw
              have := wNull_in hw
              injection h with h; injection h with hv h; subst hv; (try simp only [cntV]); (try simp only [cntL]); (try simp only [cntM]); omega
            · split at h
              · rename_i hw
                have := wTrue_in hw
                injection h with h; injection h with hv h; subst hv; (try simp only [cntV]); (try simp only [cntL]); (try simp only [cntM]); omega
              · split at h
                · rename_i hw
                  have := wFalse_in hw
                  injection h with h; injection h with hv h; subst hv; (try simp only [cntV]); (try simp only [cntL]); (try simp only [cntM]); omega
                · simp only [Option.map_eq_some_iff] at h
                  obtain ⟨⟨l, k⟩, hk, h⟩ := h
                  injection h with hv h
                  have := nm_ok hk
                  subst hv; simp only at h; (try simp only [cntV]); (try simp only [cntL]); (try simp only [cntM]); omega
    · rw [pa] at h
      simp only [Option.bind_eq_some_iff] at h
      obtain ⟨⟨v, k⟩, hk, h⟩ := h
      have h1 := (p_cnt s f i).1 v k hk
      have g1 := sk_ge s k
      simp only at h
      split at h
      · have := bt_in (s := s) (i := sk s k) (by omega)
        injection h with h; injection h with hv h; subst hv; (try simp only [cntV]); (try simp only [cntL]); (try simp only [cntM]); omega
      · split at h
        · simp only [Option.map_eq_some_iff] at h
          obtain ⟨⟨l, n⟩, hn, h⟩ := h
          injection h with hv h
          have := (p_cnt s f _).2.1 l n hn
          have g2 := sk_ge s (sk s k + 1)
          subst hv; simp only at h; (try simp only [cntL]); (try simp only [cntM]); omega
        · cases h
    · rw [po] at h
      simp only [Option.bind_eq_some_iff] at h
      obtain ⟨⟨key, a⟩, ha, h⟩ := h
      have h0 := strQ_ok ha
      simp only at h
      split at h
      · simp only [Option.bind_eq_some_iff] at h
        obtain ⟨⟨v, k⟩, hk, h⟩ := h
        have h1 := (p_cnt s f _).1 v k hk
        have g0 := sk_ge s a
        have g3 := sk_ge s (sk s a + 1)
        have g1 := sk_ge s k
        simp only at h
        split at h
        · have := bt_in (s := s) (i := sk s k) (by omega)
          injection h with h; injection h with hv h; subst hv; (try simp only [cntV]); (try simp only [cntL]); (try simp only [cntM]); omega
        · split at h
          · simp only [Option.map_eq_some_iff] at h
            obtain ⟨⟨l, n⟩, hn, h⟩ := h
            injection h with hv h
            have := (p_cnt s f _).2.2 l n hn
            have g2 := sk_ge s (sk s k + 1)
            subst hv; simp only at h; (try simp only [cntM]); omega
          · cases h
      · cases h

theorem val_cnt {s : ByteArray} {i j : Nat} {v : JV} (h : val s i = some (v, j)) : cntV v + i ≤ j := (p_cnt s _ i).1 v j h
end Go.Proofs.YtlfonikfjibloaaGreatDoor
