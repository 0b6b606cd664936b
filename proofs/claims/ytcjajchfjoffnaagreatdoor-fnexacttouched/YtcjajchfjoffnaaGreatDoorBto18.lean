import Derived.Test.YtcjajchfjoffnaaGreatDoorBto7
import Derived.Test.YtcjajchfjoffnaaGreatDoorBto17
import Derived.Test.YtcjajchfjoffnaaGreatDoorBto6
import Derived.Test.YtcjajchfjoffnaaGreatDoorBto14
import Derived.Test.YtcjajchfjoffnaaGreatDoorBto16
import Derived.Laws.EntriesVeiled
namespace Go.Proofs.YtcjajchfjoffnaaGreatDoor
open Go.RowKit

/-- Whether a text is good and canonical. -/
def goodT (s : ByteArray) : Bool := match readR s with
  | .inl _ => false
  | .inr v => (strOf (ct v)).toList == s.toList
theorem goodT_iff {s : ByteArray} : goodT s = true ↔ ∃ v, readR s = .inr v ∧ strOf (ct v) = s := by
  unfold goodT
  cases h : readR s with
  | inl c => simp
  | inr v =>
    simp only [beq_iff_eq]
    constructor
    · intro e
      refine ⟨v, rfl, ?_⟩
      rw [ByteArray.toList_eq, ByteArray.toList_eq] at e
      have : (strOf (ct v)).data = s.data := Array.toList_inj.1 e
      exact congrArg ByteArray.mk this
    · rintro ⟨v', e1, e2⟩
      injection e1 with e1
      subst e1
      rw [e2]
theorem readR_no {s : ByteArray} {c : Nat} (h : readR s = .inl c) : c ≠ 0 := by
  unfold readR at h
  repeat' split at h
  all_goals first
    | (injection h with h; omega)
    | cases h
set_option maxRecDepth 100000 in
set_option maxHeartbeats 800000 in
theorem good_walk (s : ByteArray) (w : World) (hs : s.size ≤ 1048576) :
    Calls Tryz.prog 48 #[.string s] w fun e w' => e = .returned (.bool (goodT s)) ∧ Below w.heap.size w w' := by
  have HC := hide (specCanon_walk s w hs)
  cases hr : readR s with
  | inl c =>
    have hc := readR_no hr
    have hv : canonV s = .tuple #[.string ⟨#[]⟩, .int .i64 (c : Int)] := by unfold canonV; rw [hr]
    have hg : goodT s = false := by unfold goodT; rw [hr]
    rw [hv] at HC
    rw [hg]
    have hcI : ((c : Int) == 0) = false := by simp only [beq_eq_false_iff_ne, ne_eq]; omega
    clear hr hc hv hg
    go_enter Tryz.func48, Tryz.ntmps48
    go_wp2_with fail
    refine (unhide HC).mono ?_
    rintro e w1 ⟨rfl, b1⟩
    clear HC
    go_wp2
    go_ret
    exact ⟨rfl, b1⟩
  | inr v =>
    have hv : canonV s = .tuple #[.string (strOf (ct v)), .int .i64 0] := by unfold canonV; rw [hr]
    have hg : goodT s = ((strOf (ct v)).toList == s.toList) := by unfold goodT; rw [hr]
    rw [hv] at HC
    rw [hg]
    clear hr hv hg
    generalize strOf (ct v) = u at *
    go_enter Tryz.func48, Tryz.ntmps48
    go_wp2_with fail
    refine (unhide HC).mono ?_
    rintro e w1 ⟨rfl, b1⟩
    clear HC
    go_wp2
    go_ret
    exact ⟨rfl, b1⟩
def hasV (k : Int) : Bool := k == 1 || k == 3 || k == 6
def hasF (k : Int) : Bool := k == 4 || k == 5
set_option maxRecDepth 100000 in
theorem hasV_walk (k : Int) (w : World) : Calls Tryz.prog 89 #[.int .i64 k] w fun e w' => e = .returned (.bool (hasV k)) ∧ w = w' := by
  unfold hasV
  by_cases h1 : k = 1
  · subst h1
    go_enter Tryz.func89, Tryz.ntmps89
    go_wp2
    go_ret
    exact ⟨rfl, rfl⟩
  · by_cases h3 : k = 3
    · subst h3
      go_enter Tryz.func89, Tryz.ntmps89
      go_wp2
      go_ret
      exact ⟨rfl, rfl⟩
    · have e1 : (k == 1) = false := by simpa using h1
      have e3 : (k == 3) = false := by simpa using h3
      rw [e1, e3]
      go_enter Tryz.func89, Tryz.ntmps89
      go_wp2
      go_ret
      exact ⟨by simp, rfl⟩
set_option maxRecDepth 100000 in
theorem hasF_walk (k : Int) (w : World) : Calls Tryz.prog 88 #[.int .i64 k] w fun e w' => e = .returned (.bool (hasF k)) ∧ w = w' := by
  unfold hasF
  by_cases h1 : k = 4
  · subst h1
    go_enter Tryz.func88, Tryz.ntmps88
    go_wp2
    go_ret
    exact ⟨rfl, rfl⟩
  · have e1 : (k == 4) = false := by simpa using h1
    rw [e1]
    go_enter Tryz.func88, Tryz.ntmps88
    go_wp2
    go_ret
    exact ⟨by simp, rfl⟩
/-- Whether an operation is well formed. -/
def opOk (m : POp) : Bool := decide (1 ≤ m.kind) && decide (m.kind ≤ 6) && (ptoks m.path.data.toList).isSome && (if hasF m.kind then (ptoks m.src.data.toList).isSome else m.src.toList == []) && (if hasV m.kind then goodT m.val else m.val.toList == [])
set_option maxRecDepth 100000 in
set_option maxHeartbeats 2000000 in
theorem opOk_walk (m : POp) (w : World) (h1 : m.path.size ≤ 1048576) (h2 : m.src.size ≤ 1048576) (h3 : m.val.size ≤ 1048576) :
    Calls Tryz.prog 55 #[.agg #[.int .i64 m.kind, .string m.path, .string m.src, .string m.val]] w fun e w' => e = .returned (.bool (opOk m)) ∧ Below w.heap.size w w' := by
  have hA := alloc_b w (Obj.cells #[.int .i64 m.kind, .string m.path, .string m.src, .string m.val] 76)
  have kA := heap_alloc_new w (Obj.cells #[.int .i64 m.kind, .string m.path, .string m.src, .string m.val] 76)
  have HP : Hid (∀ wx, Calls Tryz.prog 81 #[.string m.path] wx fun e w' => e = .returned (.bool (ptoks m.path.data.toList).isSome) ∧ Below wx.heap.size wx w') := fun wx => isPtrS_walk m.path wx h1
  have HQ : Hid (∀ wx, Calls Tryz.prog 81 #[.string m.src] wx fun e w' => e = .returned (.bool (ptoks m.src.data.toList).isSome) ∧ Below wx.heap.size wx w') := fun wx => isPtrS_walk m.src wx h2
  have HG : Hid (∀ wx, Calls Tryz.prog 48 #[.string m.val] wx fun e w' => e = .returned (.bool (goodT m.val)) ∧ Below wx.heap.size wx w') := fun wx => good_walk m.val wx h3
  have HF : Hid (∀ wx, Calls Tryz.prog 88 #[.int .i64 m.kind] wx fun e w' => e = .returned (.bool (hasF m.kind)) ∧ wx = w') := fun wx => hasF_walk m.kind wx
  have HV : Hid (∀ wx, Calls Tryz.prog 89 #[.int .i64 m.kind] wx fun e w' => e = .returned (.bool (hasV m.kind)) ∧ wx = w') := fun wx => hasV_walk m.kind wx
  by_cases k1 : m.kind < 1
  · have hf : opOk m = false := by unfold opOk; rw [decide_eq_false (by omega)]; simp
    rw [hf]
    go_enter Tryz.func55, Tryz.ntmps55
    go_wp2
    go_ret
    exact ⟨rfl, hA⟩
  · by_cases k6 : 6 < m.kind
    · have hf : opOk m = false := by unfold opOk; rw [decide_eq_false (p := m.kind ≤ 6) (by omega)]; simp
      rw [hf]
      go_enter Tryz.func55, Tryz.ntmps55
      go_wp2
      go_ret
      exact ⟨rfl, hA⟩
    · have hk : opOk m = ((ptoks m.path.data.toList).isSome && (if hasF m.kind then (ptoks m.src.data.toList).isSome else m.src.toList == []) && (if hasV m.kind then goodT m.val else m.val.toList == [])) := by
        unfold opOk; rw [decide_eq_true (by omega), decide_eq_true (by omega)]; simp
      rw [hk]
      clear hk
      have zs0 : (m.src.toList == []) = decide (m.src.toList = []) := by by_cases h : m.src.toList = [] <;> simp [h]
      have zw0 : (m.val.toList == []) = decide (m.val.toList = []) := by by_cases h : m.val.toList = [] <;> simp [h]
      rw [zs0, zw0]
      clear zs0 zw0
      generalize (ptoks m.path.data.toList).isSome = zp at *
      generalize (ptoks m.src.data.toList).isSome = zq at *
      generalize goodT m.val = zg at *
      generalize hasF m.kind = zf at *
      generalize hasV m.kind = zv at *
      have HCE : Hid (∀ wx, Below (w.alloc (Obj.cells #[.int .i64 m.kind, .string m.path, .string m.src, .string m.val] 76)).heap.size (w.alloc (Obj.cells #[.int .i64 m.kind, .string m.path, .string m.src, .string m.val] 76)) wx → wx.cell? ⟨w.heap.size, 0, none⟩ = some (.int .i64 m.kind) ∧ wx.cell? ⟨w.heap.size, 1, none⟩ = some (.string m.path) ∧ wx.cell? ⟨w.heap.size, 2, none⟩ = some (.string m.src) ∧ wx.cell? ⟨w.heap.size, 3, none⟩ = some (.string m.val)) := fun wx hb => by
        have kx := (hb.block w.heap.size (by simp)).trans kA
        exact ⟨Lib.cell_of_heap kx 0, Lib.cell_of_heap kx 1, Lib.cell_of_heap kx 2, Lib.cell_of_heap kx 3⟩
      have HAB := hide hA
      clear hA kA h1 h2 h3
      go_enter Tryz.func55, Tryz.ntmps55
      go_wp2_with fail
      refine (unhide HP _).mono ?_
      rintro e w1 ⟨rfl, b1⟩
      obtain ⟨c0, c1, c2, c3⟩ := unhide HCE w1 b1
      have BB := hide (below_next (unhide HAB) b1)
      have BC := hide b1
      clear b1
      by_cases hp : zp = true
      · subst hp
        by_cases hf : zf = true
        · subst hf
          go_wp2_with fail
          refine (unhide HF _).mono ?_
          rintro e w2 ⟨rfl, rfl⟩
          go_wp2_with fail
          refine (unhide HQ _).mono ?_
          rintro e w3 ⟨rfl, b3⟩
          obtain ⟨d0, d1, d2, d3⟩ := unhide HCE w3 (below_next (unhide BC) b3)
          have BB := hide (below_next (unhide BB) b3)
          clear b3 BC c0 c1 c2 c3 HCE
          by_cases hq : zq = true
          · subst hq
            go_wp2_with fail
            refine (unhide HF _).mono ?_
            rintro e w4 ⟨rfl, rfl⟩
            have c0 := d0
            have c1 := d1
            have c2 := d2
            have c3 := d3
            clear d0 d1 d2 d3
            by_cases hv : zv = true
            · subst hv
              go_wp2_with fail
              refine (unhide HV _).mono ?_
              rintro e w8 ⟨rfl, rfl⟩
              go_wp2_with fail
              refine (unhide HG _).mono ?_
              rintro e w9 ⟨rfl, b9⟩
              have HBF := hide (below_next (unhide BB) b9)
              clear b9 BB c0 c1 c2 c3 HP HQ HG HF HV
              go_wp2
              go_ret
              exact ⟨by simp, unhide HBF⟩
            · have hv' : zv = false := by simpa using hv
              subst hv'
              go_wp2_with fail
              refine (unhide HV _).mono ?_
              rintro e w8 ⟨rfl, rfl⟩
              have HBF := BB
              clear BB HP HQ HG HF HV hv
              go_wp2
              go_ret
              exact ⟨by cases m.val.toList <;> simp, unhide HBF⟩
          · have hq' : zq = false := by simpa using hq
            subst hq'
            clear hq
            go_wp2
            go_ret
            exact ⟨by simp, unhide BB⟩
        · have hf' : zf = false := by simpa using hf
          subst hf'
          go_wp2_with fail
          refine (unhide HF _).mono ?_
          rintro e w2 ⟨rfl, rfl⟩
          go_wp2_with fail
          refine (unhide HF _).mono ?_
          rintro e w2 ⟨rfl, rfl⟩
          clear BC HCE hf
          by_cases hs : m.src.toList = []
          · by_cases hv : zv = true
            · subst hv
              go_wp2_with fail
              refine (unhide HV _).mono ?_
              rintro e w8 ⟨rfl, rfl⟩
              go_wp2_with fail
              refine (unhide HG _).mono ?_
              rintro e w9 ⟨rfl, b9⟩
              have HBF := hide (below_next (unhide BB) b9)
              clear b9 BB c0 c1 c2 c3 HP HQ HG HF HV
              go_wp2
              go_ret
              exact ⟨by simp, unhide HBF⟩
            · have hv' : zv = false := by simpa using hv
              subst hv'
              go_wp2_with fail
              refine (unhide HV _).mono ?_
              rintro e w8 ⟨rfl, rfl⟩
              have HBF := BB
              clear BB HP HQ HG HF HV hv
              go_wp2
              go_ret
              exact ⟨by cases m.val.toList <;> simp, unhide HBF⟩
          · have hs1 : m.src.toList.isEmpty = false := by simpa using hs
            have hs2 : (m.src.toList == []) = false := by simpa using hs
            clear HP HQ HG HF HV
            go_wp2
            go_ret
            exact ⟨by simp, unhide BB⟩
      · have hp' : zp = false := by simpa using hp
        subst hp'
        clear hp HP HQ HG HF HV HCE BC c0 c1 c2 c3
        go_wp2
        all_goals go_ret
        all_goals exact ⟨by simp, unhide BB⟩
end Go.Proofs.YtcjajchfjoffnaaGreatDoor

namespace Go.Proofs.YtcjajchfjoffnaaGreatDoor
open Go.RowKit

/-- The place of the first operation that is not well formed. -/
def badI (ms : List POp) : Int := if 100 < ms.length then 100 else match ms.findIdx? (fun m => !opOk m) with
  | some i => (i : Int)
  | none => -1
def OpsIn (ms : List POp) : Prop := ∀ m ∈ ms, m.path.size ≤ 1048576 ∧ m.src.size ≤ 1048576 ∧ m.val.size ≤ 1048576
theorem opsIn {ms : List POp} (h : szOps ms ≤ 1048576) : OpsIn ms := fun m hm => by
  obtain ⟨k, hk, rfl⟩ := List.mem_iff_getElem.1 hm
  have h1 := sum_take_snoc szOp ms k ms[k] (List.getElem?_eq_getElem hk)
  have h2 := sum_take_le (ms.map szOp) (k + 1)
  rw [← List.map_take] at h2
  unfold szOps at h
  have h3 : szOp ms[k] = ms[k].path.size + ms[k].src.size + ms[k].val.size := rfl
  omega
theorem badI_some {ms : List POp} (hl : ms.length ≤ 100) {k : Nat} (hk : k < ms.length) (hb : opOk ms[k] = false) (hg : ∀ j (h : j < ms.length), j < k → opOk ms[j] = true) : badI ms = (k : Int) := by
  unfold badI
  rw [if_neg (by omega)]
  have : ms.findIdx? (fun m => !opOk m) = some k := by
    rw [List.findIdx?_eq_some_iff_getElem]
    exact ⟨hk, by simp [hb], fun j hj => by simp [hg j (by omega) hj]⟩
  rw [this]
theorem badI_none {ms : List POp} (hl : ms.length ≤ 100) (hg : ∀ j (h : j < ms.length), opOk ms[j] = true) : badI ms = -1 := by
  unfold badI
  rw [if_neg (by omega)]
  have : ms.findIdx? (fun m => !opOk m) = none := by
    rw [List.findIdx?_eq_none_iff]
    intro x hx
    obtain ⟨j, hj, rfl⟩ := List.mem_iff_getElem.1 hx
    simp [hg j hj]
  rw [this]
set_option maxRecDepth 100000 in
set_option maxHeartbeats 1000000 in
theorem firstBad_walk (v : Value) (ms : List POp) (bl : List Nat) (w : World) (h : ORow opE w v ms bl) (hs : OpsIn ms) :
    Calls Tryz.prog 45 #[v] w fun e w' => e = .returned (.int .i64 (badI ms)) ∧ Below w.heap.size w w' := by
  obtain ⟨xa, xc, rfl, h1, hxa⟩ := h.form
  have H := hide h
  have HXA := hide hxa
  have HS := hide hs
  have hmx := h.len
  unfold maxLen at hmx
  clear h h1 hxa hs
  by_cases hl : ms.length ≤ 100
  · have hlI : ¬ (100 : Int) < (ms.length : Int) := by omega
    go_enter Tryz.func45, Tryz.ntmps45
    go_wp2
    go_loopw [3] (fun i wr => ∃ k : Nat, k ≤ ms.length ∧ i = .int .i64 k ∧ (∀ j (h : j < ms.length), j < k → opOk ms[j] = true) ∧ Below w.heap.size w wr) (fun i _ => ms.length - (intOf i).toNat)
    case atStart => exact ⟨0, Nat.zero_le _, rfl, fun j _ hj => by omega, Below.refl _ _⟩
    case round =>
      obtain ⟨k, hk, rfl, hg, hb⟩ := hrel
      have HG := hide hg
      have HB := hide hb
      clear hg hb
      by_cases hlt : k < ms.length
      · have hltI : (k : Int) < (ms.length : Int) := by omega
        obtain ⟨g, rfl⟩ := unhide HXA (by omega)
        obtain ⟨vs, ib, hE, hc, _⟩ := ((unhide H).below (unhide HB)).at (List.getElem?_eq_getElem hlt)
        obtain ⟨rfl, _⟩ := hE
        have c0 : wr.cell? ⟨g, k * 4, none⟩ = some (.int .i64 ms[k].kind) := (hc 0 _ rfl).1
        have c1 : wr.cell? ⟨g, k * 4 + 1, none⟩ = some (.string ms[k].path) := (hc 1 _ rfl).1
        have c2 : wr.cell? ⟨g, k * 4 + 2, none⟩ = some (.string ms[k].src) := (hc 2 _ rfl).1
        have c3 : wr.cell? ⟨g, k * 4 + 3, none⟩ = some (.string ms[k].val) := (hc 3 _ rfl).1
        have hin := unhide HS ms[k] (List.getElem_mem _)
        have HO := hide (opOk_walk ms[k] wr hin.1 hin.2.1 hin.2.2)
        obtain ⟨z, hz⟩ : ∃ z, opOk ms[k] = z := ⟨_, rfl⟩
        rw [hz] at HO
        have HZ := hide hz
        clear hc hin hz
        go_wp2_with fail
        refine (unhide HO).mono ?_
        rintro e w1 ⟨rfl, b1⟩
        have HB1 := hide (below_next (unhide HB) b1)
        clear HO b1 HB c0 c1 c2 c3
        cases z
        · go_wp2
          go_ret
          exact ⟨by rw [badI_some hl hlt (unhide HZ) (unhide HG)]; rfl, unhide HB1⟩
        · go_wp2
          go_roundw
          case rel =>
            refine ⟨k + 1, by omega, by go_num, fun j hj hjk => ?_, unhide HB1⟩
            by_cases e : j = k
            · subst e; exact unhide HZ
            · exact unhide HG j hj (by omega)
          case measure => simp [intOf]; omega
      · have hltI : ¬ (k : Int) < (ms.length : Int) := by omega
        go_wp2
        go_ret
        exact ⟨by rw [badI_none hl fun j hj => unhide HG j hj (by omega)]; rfl, unhide HB⟩
  · have hlI : (100 : Int) < (ms.length : Int) := by omega
    have hb : badI ms = 100 := by unfold badI; rw [if_pos (by omega)]
    rw [hb]
    clear hb
    go_enter Tryz.func45, Tryz.ntmps45
    go_wp2
    go_ret
    exact ⟨rfl, Below.refl _ _⟩
end Go.Proofs.YtcjajchfjoffnaaGreatDoor

namespace Go.Proofs.YtcjajchfjoffnaaGreatDoor
open Go.RowKit

theorem strOf_val (b : ByteArray) : strOf b.data.toList = b := by obtain ⟨⟨l⟩⟩ := b; rfl
/-- The word of a kind. -/
def wordT (k : Int) : List UInt8 := if k = 1 then [97, 100, 100] else if k = 2 then [114, 101, 109, 111, 118, 101] else if k = 3 then [114, 101, 112, 108, 97, 99, 101] else if k = 4 then [109, 111, 118, 101] else if k = 5 then [99, 111, 112, 121] else [116, 101, 115, 116]
theorem wordT_len (k : Int) : (wordT k).length ≤ 7 := by
  unfold wordT
  repeat' split
  all_goals simp
set_option maxRecDepth 100000 in
theorem word_walk (k : Int) (w : World) : Calls Tryz.prog 87 #[.int .i64 k] w fun e w' => e = .returned (.string (strOf (wordT k))) ∧ w = w' := by
  unfold wordT
  by_cases h1 : k = 1
  · subst h1
    go_enter Tryz.func87, Tryz.ntmps87
    go_wp2
    go_ret
    exact ⟨rfl, rfl⟩
  · by_cases h2 : k = 2
    · subst h2
      go_enter Tryz.func87, Tryz.ntmps87
      go_wp2
      go_ret
      exact ⟨rfl, rfl⟩
    · by_cases h3 : k = 3
      · subst h3
        go_enter Tryz.func87, Tryz.ntmps87
        go_wp2
        go_ret
        exact ⟨rfl, rfl⟩
      · by_cases h4 : k = 4
        · subst h4
          go_enter Tryz.func87, Tryz.ntmps87
          go_wp2
          go_ret
          exact ⟨rfl, rfl⟩
        · by_cases h5 : k = 5
          · subst h5
            go_enter Tryz.func87, Tryz.ntmps87
            go_wp2
            go_ret
            exact ⟨rfl, rfl⟩
          · rw [if_neg h1, if_neg h2, if_neg h3, if_neg h4, if_neg h5]
            have e1 : (k == 1) = false := by simpa using h1
            have e2 : (k == 2) = false := by simpa using h2
            have e3 : (k == 3) = false := by simpa using h3
            have e4 : (k == 4) = false := by simpa using h4
            have e5 : (k == 5) = false := by simpa using h5
            go_enter Tryz.func87, Tryz.ntmps87
            go_wp2
            go_ret
            exact ⟨rfl, rfl⟩
/-- The members of an operation's object, as they are laid. -/
def encP (m : POp) : List Part := [([111, 112], quoted (wordT m.kind)), ([112, 97, 116, 104], quoted m.path.data.toList)] ++ (if hasF m.kind then [([102, 114, 111, 109], quoted m.src.data.toList)] else []) ++ (if hasV m.kind then [([118, 97, 108, 117, 101], m.val.data.toList)] else [])
def encT (m : POp) : List UInt8 := mkO (isort (encP m))
theorem encP_facts (m : POp) (h1 : m.path.size ≤ 1048576) (h2 : m.src.size ≤ 1048576) (h3 : m.val.size ≤ 1048576) : (encP m).length ≤ 4 ∧ sumT (isort (encP m)) ≤ 40000000 ∧ (isort (encP m)).length ≤ 4 ∧ ∀ p ∈ isort (encP m), p.1.length ≤ 1048576 := by
  have hl : (encP m).length ≤ 4 := by
    unfold encP
    cases hasF m.kind <;> cases hasV m.kind <;> simp
  have hp := isort_perm (encP m)
  have q1 := quoted_len (wordT m.kind)
  have q2 := quoted_len m.path.data.toList
  have q3 := quoted_len m.src.data.toList
  rw [data_len] at q2 q3
  have q4 := wordT_len m.kind
  have k1 := quoted_len [111, 112]
  have k2 := quoted_len [112, 97, 116, 104]
  have k3 := quoted_len [102, 114, 111, 109]
  have k4 := quoted_len [118, 97, 108, 117, 101]
  have hv : m.val.data.toList.length ≤ 1048576 := by rw [data_len]; exact h3
  refine ⟨hl, ?_, by rw [hp.length_eq]; exact hl, fun p hm => ?_⟩
  · rw [sumT_isort]
    unfold encP
    cases hasF m.kind <;> cases hasV m.kind <;> simp [sumT, memT] at * <;> omega
  · have hm' := hp.subset hm
    unfold encP at hm'
    simp at hm'
    rcases hm' with rfl | rfl | ⟨_, rfl⟩ | ⟨_, rfl⟩ <;> simp
set_option maxRecDepth 100000 in
set_option maxHeartbeats 2000000 in
theorem enc_walk (m : POp) (w : World) (h1 : m.path.size ≤ 1048576) (h2 : m.src.size ≤ 1048576) (h3 : m.val.size ≤ 1048576) :
    Calls Tryz.prog 46 #[.agg #[.int .i64 m.kind, .string m.path, .string m.src, .string m.val]] w fun e w' => e = .returned (.string (strOf (encT m))) ∧ Below w.heap.size w w' := by
  have hA := alloc_b w (Obj.cells #[.int .i64 m.kind, .string m.path, .string m.src, .string m.val] 76)
  have kA := heap_alloc_new w (Obj.cells #[.int .i64 m.kind, .string m.path, .string m.src, .string m.val] 76)
  have HQP : Hid (∀ wx, Calls Tryz.prog 86 #[.string m.path] wx fun e w' => e = .returned (.string (strOf (quoted m.path.data.toList))) ∧ Below wx.heap.size wx w') := fun wx => quoted_walk m.path wx h1
  have HQS : Hid (∀ wx, Calls Tryz.prog 86 #[.string m.src] wx fun e w' => e = .returned (.string (strOf (quoted m.src.data.toList))) ∧ Below wx.heap.size wx w') := fun wx => quoted_walk m.src wx h2
  have HQW : Hid (∀ wx, Calls Tryz.prog 86 #[.string (strOf (wordT m.kind))] wx fun e w' => e = .returned (.string (strOf (quoted (wordT m.kind)))) ∧ Below wx.heap.size wx w') := fun wx => by
    have := quoted_walk (strOf (wordT m.kind)) wx (by rw [strOf_size]; have := wordT_len m.kind; omega)
    rwa [strOf_toList] at this
  have HW : Hid (∀ wx, Calls Tryz.prog 87 #[.int .i64 m.kind] wx fun e w' => e = .returned (.string (strOf (wordT m.kind))) ∧ wx = w') := fun wx => word_walk m.kind wx
  have HF : Hid (∀ wx, Calls Tryz.prog 88 #[.int .i64 m.kind] wx fun e w' => e = .returned (.bool (hasF m.kind)) ∧ wx = w') := fun wx => hasF_walk m.kind wx
  have HV : Hid (∀ wx, Calls Tryz.prog 89 #[.int .i64 m.kind] wx fun e w' => e = .returned (.bool (hasV m.kind)) ∧ wx = w') := fun wx => hasV_walk m.kind wx
  have HCE : Hid (∀ wx, Below (w.alloc (Obj.cells #[.int .i64 m.kind, .string m.path, .string m.src, .string m.val] 76)).heap.size (w.alloc (Obj.cells #[.int .i64 m.kind, .string m.path, .string m.src, .string m.val] 76)) wx → wx.cell? ⟨w.heap.size, 0, none⟩ = some (.int .i64 m.kind) ∧ wx.cell? ⟨w.heap.size, 1, none⟩ = some (.string m.path) ∧ wx.cell? ⟨w.heap.size, 2, none⟩ = some (.string m.src) ∧ wx.cell? ⟨w.heap.size, 3, none⟩ = some (.string m.val)) := fun wx hb => by
    have kx := (hb.block w.heap.size (by simp)).trans kA
    exact ⟨Lib.cell_of_heap kx 0, Lib.cell_of_heap kx 1, Lib.cell_of_heap kx 2, Lib.cell_of_heap kx 3⟩
  have HAB := hide hA
  obtain ⟨zf, hzf⟩ : ∃ zf, hasF m.kind = zf := ⟨_, rfl⟩
  obtain ⟨zv, hzv⟩ : ∃ zv, hasV m.kind = zv := ⟨_, rfl⟩
  rw [hzf] at HF
  rw [hzv] at HV
  have HZF := hide hzf
  have HZV := hide hzv
  clear hA kA hzf hzv
  obtain ⟨i0, hi0, hz0, hz1, hz2⟩ := info_parts infoPart
  go_enter Tryz.func46, Tryz.ntmps46
  go_wp2_with fail
  obtain ⟨wA, hwA⟩ : ∃ wA, w.alloc (Obj.cells #[.int .i64 m.kind, .string m.path, .string m.src, .string m.val] 76) = wA := ⟨_, rfl⟩
  rw [hwA] at HCE HAB ⊢
  clear hwA
  obtain ⟨c0, c1, _, _⟩ := unhide HCE wA.drew (Below.refl _ _).drew
  have c0w : wA.cell? ⟨w.heap.size, 0, none⟩ = some (.int .i64 m.kind) := c0
  have c1w : wA.cell? ⟨w.heap.size, 1, none⟩ = some (.string m.path) := c1
  go_region_law (first
    | (go_simp; refine (unhide HW _).mono ?_; rintro e w1 ⟨rfl, rfl⟩; have mk1 := trivial)
    | (have := mk1; go_simp; refine (unhide HQW _).mono ?_; rintro e w2 ⟨rfl, b2⟩
       have B2 : Below wA.heap.size wA w2 := ((Below.refl _ _).drew).trans b2
       obtain ⟨d0, d1, d2, d3⟩ := unhide HCE w2 B2
       have mk2 := trivial
       clear mk1)
    | (have := mk2; go_simp; refine (unhide HQP _).mono ?_; rintro e w3 ⟨rfl, b3⟩
       have B3 := below_next B2 b3))
  all_goals (
    have hw3 : w.heap.size ≤ w3.heap.size := Nat.le_trans (unhide HAB).size B3.size
    have hGA : wA.heap.size ≤ w3.heap.size := B3.size
    have own0 : Hid (PR (w3.alloc (.cells #[.string ⟨#[111, 112]⟩, .string (strOf (quoted (wordT m.kind))), .string ⟨#[112, 97, 116, 104]⟩, .string (strOf (quoted m.path.data.toList))] 78)) w.heap.size (.slice (some ⟨w3.heap.size, 0, none⟩) 2 2) [([111, 112], quoted (wordT m.kind)), ([112, 97, 116, 104], quoted m.path.data.toList)]) :=
      World.ownsRow_lit w3 #[.string ⟨#[111, 112]⟩, .string (strOf (quoted (wordT m.kind))), .string ⟨#[112, 97, 116, 104]⟩, .string (strOf (quoted m.path.data.toList))] 2 hw3 (by unfold maxLen; omega) rfl
    have B4 := below_next B3 (alloc_b w3 (.cells #[.string ⟨#[111, 112]⟩, .string (strOf (quoted (wordT m.kind))), .string ⟨#[112, 97, 116, 104]⟩, .string (strOf (quoted m.path.data.toList))] 78))
    obtain ⟨e0, e1, e2, e3⟩ := unhide HCE _ B4
    have HB4 := hide B4
    clear B4 B3 B2 b2 b3 c0 c1 c0w c1w mk2
    go_wp2_with fail
    generalize (w3.alloc (.cells #[.string ⟨#[111, 112]⟩, .string (strOf (quoted (wordT m.kind))), .string ⟨#[112, 97, 116, 104]⟩, .string (strOf (quoted m.path.data.toList))] 78)) = w4 at *
    generalize w3.heap.size = G at *
    refine (unhide HF _).mono ?_
    rintro e w5 ⟨rfl, rfl⟩
    have hw4 : w.heap.size ≤ w4.heap.size := Nat.le_trans (unhide HAB).size (unhide HB4).size
    have HBW := hide (below_next (unhide HAB) (unhide HB4))
    cases zf
    · go_wp2_with fail
      refine (unhide HV _).mono ?_
      rintro e w5' ⟨rfl, rfl⟩
      cases zv
      · have hEQ : encP m = [([111, 112], quoted (wordT m.kind)), ([112, 97, 116, 104], quoted m.path.data.toList)] := by unfold encP; rw [unhide HZF, unhide HZV]; rfl
        have hfx := encP_facts m h1 h2 h3
        rw [hEQ] at hfx
        have HEQ := hide hEQ
        have HSO := hide (sorted_walk w.heap.size _ [([111, 112], quoted (wordT m.kind)), ([112, 97, 116, 104], quoted m.path.data.toList)] _ (unhide own0) (by simp))
        have HFX := hide hfx
        clear hfx hEQ
        go_wp2_with fail
        refine (unhide HSO).mono ?_
        rintro e w8 ⟨v8, rfl, o8, b8⟩
        have HMK := hide (make_walk _ v8 _ w8 o8 (unhide HFX).2.1 (by have := (unhide HFX).2.2.1; omega) (unhide HFX).2.2.2)
        have HB8 := hide (below_next (unhide HBW) b8)
        clear HSO o8 b8
        go_wp2_with fail
        refine (unhide HMK).mono ?_
        rintro e w9 ⟨rfl, b9⟩
        have HB9 := hide (below_next (unhide HB8) b9)
        clear HMK b9
        go_wp2
        go_ret
        exact ⟨by rw [encT, unhide HEQ]; rfl, unhide HB9⟩
      · have e3' : w4.cell? ⟨w.heap.size, 3, none⟩ = some (.string (strOf m.val.data.toList)) := by rw [strOf_val]; exact e3
        have HL : Hid (∀ (j : Nat) (u : Value), (partC ([118, 97, 108, 117, 101], m.val.data.toList))[j]? = some u → (w4.alloc (.cells #[.string ⟨#[118, 97, 108, 117, 101]⟩, .string (strOf m.val.data.toList)] 78)).cell? ((⟨w4.heap.size, 0, none⟩ : Addr).add j) = some u) := fun j u h => lit2s w4 78 _ _ j u h
        have HON : Hid (∀ u ∈ partC ([118, 97, 108, 117, 101], m.val.data.toList), u.oneCell' = true) := fun u hu => by
          simp [partC] at hu; rcases hu with rfl | rfl <;> rfl
        have HOW : Hid (World.ownsRow (w4.alloc (.cells #[.string ⟨#[118, 97, 108, 117, 101]⟩, .string (strOf m.val.data.toList)] 78)) w.heap.size 78 2 (.slice (some ⟨G, 0, none⟩) 2 2) 2 ([([111, 112], quoted (wordT m.kind)), ([112, 97, 116, 104], quoted m.path.data.toList)].flatMap partC)) := World.ownsRow.alloc (unhide own0) _
        clear e3
        go_wp2_with (at_builtin; refine wpList_append_own _ rfl (.tmp 27) (.tmp 31) 74 rfl w.heap.size 78 i0 (.agg #[.string ByteArray.empty, .string ByteArray.empty]) 2 32 Tryz.underlying74 hi0 hz0 hz1 hz2 rfl (by decide) _ _ _ rfl (unhide HOW) ⟨w4.heap.size, 0, none⟩ 1 1 (partC ([118, 97, 108, 117, 101], m.val.data.toList)) rfl rfl (by exact unhide HL) (by exact unhide HON) (by unfold maxLen; omega) (by omega) (by simp; omega) ?_)
        intro v6 w6 own6 hg6 _
        have OWN6 : Hid (PR w6 w.heap.size v6 ([([111, 112], quoted (wordT m.kind)), ([112, 97, 116, 104], quoted m.path.data.toList)] ++ [([118, 97, 108, 117, 101], m.val.data.toList)])) := own6
        have HB6 := hide (((unhide HBW).alloc hw4 _).grown hg6 (by simp; omega) (fun k hk => (World.ownsRow.lt (unhide own0) k hk).1))
        clear own6 hg6
        have hEQ : encP m = [([111, 112], quoted (wordT m.kind)), ([112, 97, 116, 104], quoted m.path.data.toList)] ++ [([118, 97, 108, 117, 101], m.val.data.toList)] := by unfold encP; rw [unhide HZF, unhide HZV]; rfl
        have hfx := encP_facts m h1 h2 h3
        rw [hEQ] at hfx
        have HEQ := hide hEQ
        have HSO := hide (sorted_walk w.heap.size _ ([([111, 112], quoted (wordT m.kind)), ([112, 97, 116, 104], quoted m.path.data.toList)] ++ [([118, 97, 108, 117, 101], m.val.data.toList)]) _ (unhide OWN6) (by simp))
        have HFX := hide hfx
        clear hfx hEQ
        go_wp2_with fail
        refine (unhide HSO).mono ?_
        rintro e w8 ⟨v8, rfl, o8, b8⟩
        have HMK := hide (make_walk _ v8 _ w8 o8 (unhide HFX).2.1 (by have := (unhide HFX).2.2.1; omega) (unhide HFX).2.2.2)
        have HB8 := hide (below_next (unhide HB6) b8)
        clear HSO o8 b8
        go_wp2_with fail
        refine (unhide HMK).mono ?_
        rintro e w9 ⟨rfl, b9⟩
        have HB9 := hide (below_next (unhide HB8) b9)
        clear HMK b9
        go_wp2
        go_ret
        exact ⟨by rw [encT, unhide HEQ]; rfl, unhide HB9⟩
    · go_wp2_with fail
      refine (unhide HQS _).mono ?_
      rintro e w5 ⟨rfl, b5⟩
      have hw5 : w.heap.size ≤ w5.heap.size := Nat.le_trans hw4 b5.size
      have HBC := hide (below_next (unhide HB4) b5)
      have HB5 := hide (below_next (unhide HBW) b5)
      have own5 := hide ((unhide own0).below b5)
      have HL : Hid (∀ (j : Nat) (u : Value), (partC ([102, 114, 111, 109], quoted m.src.data.toList))[j]? = some u → (w5.alloc (.cells #[.string ⟨#[102, 114, 111, 109]⟩, .string (strOf (quoted m.src.data.toList))] 78)).cell? ((⟨w5.heap.size, 0, none⟩ : Addr).add j) = some u) := fun j u h => lit2s w5 78 _ _ j u h
      have HON : Hid (∀ u ∈ partC ([102, 114, 111, 109], quoted m.src.data.toList), u.oneCell' = true) := fun u hu => by
        simp [partC] at hu; rcases hu with rfl | rfl <;> rfl
      have HOW : Hid (World.ownsRow (w5.alloc (.cells #[.string ⟨#[102, 114, 111, 109]⟩, .string (strOf (quoted m.src.data.toList))] 78)) w.heap.size 78 2 (.slice (some ⟨G, 0, none⟩) 2 2) 2 ([([111, 112], quoted (wordT m.kind)), ([112, 97, 116, 104], quoted m.path.data.toList)].flatMap partC)) := World.ownsRow.alloc (unhide own5) _
      clear b5 e0 e1 e2 e3
      go_wp2_with (at_builtin; refine wpList_append_own _ rfl (.tmp 17) (.tmp 22) 74 rfl w.heap.size 78 i0 (.agg #[.string ByteArray.empty, .string ByteArray.empty]) 2 32 Tryz.underlying74 hi0 hz0 hz1 hz2 rfl (by decide) _ _ _ rfl (unhide HOW) ⟨w5.heap.size, 0, none⟩ 1 1 (partC ([102, 114, 111, 109], quoted m.src.data.toList)) rfl rfl (by exact unhide HL) (by exact unhide HON) (by unfold maxLen; omega) (by omega) (by simp; omega) ?_)
      intro v6 w6 own6 hg6 _
      obtain ⟨va, vc, rfl⟩ : ∃ a c, v6 = .slice a 3 c := by
        rcases own6.2 with ⟨hv, h0⟩ | ⟨g, cap, cur, hv, _⟩
        · exact absurd h0 (by decide)
        · exact ⟨_, _, hv⟩
      have OWN6 : Hid (PR w6 w.heap.size (.slice va 3 vc) ([([111, 112], quoted (wordT m.kind)), ([112, 97, 116, 104], quoted m.path.data.toList)] ++ [([102, 114, 111, 109], quoted m.src.data.toList)])) := own6
      have HB6 := hide (((unhide HB5).alloc hw5 _).grown hg6 (by simp; omega) (fun k hk => (World.ownsRow.lt (unhide own5) k hk).1))
      have hw6 : w.heap.size ≤ w6.heap.size := (unhide HB6).size
      have BC6 := ((unhide HBC).alloc (unhide HBC).size _).grown hg6 (by have := (unhide HBC).size; simp; omega) (fun k hk => by simp [Value.ownBlock] at hk; omega)
      obtain ⟨d0, d1, d2, d3⟩ := unhide HCE w6 BC6
      clear own6 hg6 BC6 HL HON HOW own5 own0
      go_wp2_with fail
      refine (unhide HV _).mono ?_
      rintro e w6' ⟨rfl, rfl⟩
      cases zv
      · have hEQ : encP m = [([111, 112], quoted (wordT m.kind)), ([112, 97, 116, 104], quoted m.path.data.toList)] ++ [([102, 114, 111, 109], quoted m.src.data.toList)] := by unfold encP; rw [unhide HZF, unhide HZV]; rfl
        have hfx := encP_facts m h1 h2 h3
        rw [hEQ] at hfx
        have HEQ := hide hEQ
        have HSO := hide (sorted_walk w.heap.size _ ([([111, 112], quoted (wordT m.kind)), ([112, 97, 116, 104], quoted m.path.data.toList)] ++ [([102, 114, 111, 109], quoted m.src.data.toList)]) _ (unhide OWN6) (by simp))
        have HFX := hide hfx
        clear hfx hEQ
        go_wp2_with fail
        refine (unhide HSO).mono ?_
        rintro e w8 ⟨v8, rfl, o8, b8⟩
        have HMK := hide (make_walk _ v8 _ w8 o8 (unhide HFX).2.1 (by have := (unhide HFX).2.2.1; omega) (unhide HFX).2.2.2)
        have HB8 := hide (below_next (unhide HB6) b8)
        clear HSO o8 b8
        go_wp2_with fail
        refine (unhide HMK).mono ?_
        rintro e w9 ⟨rfl, b9⟩
        have HB9 := hide (below_next (unhide HB8) b9)
        clear HMK b9
        go_wp2
        go_ret
        exact ⟨by rw [encT, unhide HEQ]; rfl, unhide HB9⟩
      · have e3' : w6.cell? ⟨w.heap.size, 3, none⟩ = some (.string (strOf m.val.data.toList)) := by rw [strOf_val]; exact d3
        have HL : Hid (∀ (j : Nat) (u : Value), (partC ([118, 97, 108, 117, 101], m.val.data.toList))[j]? = some u → (w6.alloc (.cells #[.string ⟨#[118, 97, 108, 117, 101]⟩, .string (strOf m.val.data.toList)] 78)).cell? ((⟨w6.heap.size, 0, none⟩ : Addr).add j) = some u) := fun j u h => lit2s w6 78 _ _ j u h
        have HON : Hid (∀ u ∈ partC ([118, 97, 108, 117, 101], m.val.data.toList), u.oneCell' = true) := fun u hu => by
          simp [partC] at hu; rcases hu with rfl | rfl <;> rfl
        have HOW : Hid (World.ownsRow (w6.alloc (.cells #[.string ⟨#[118, 97, 108, 117, 101]⟩, .string (strOf m.val.data.toList)] 78)) w.heap.size 78 2 (.slice va 3 vc) 3 ((([([111, 112], quoted (wordT m.kind)), ([112, 97, 116, 104], quoted m.path.data.toList)] ++ [([102, 114, 111, 109], quoted m.src.data.toList)] : List Part)).flatMap partC)) := World.ownsRow.alloc (unhide OWN6) _
        clear d3
        go_wp2_with (at_builtin; refine wpList_append_own _ rfl (.tmp 27) (.tmp 31) 74 rfl w.heap.size 78 i0 (.agg #[.string ByteArray.empty, .string ByteArray.empty]) 2 32 Tryz.underlying74 hi0 hz0 hz1 hz2 rfl (by decide) _ _ _ rfl (unhide HOW) ⟨w6.heap.size, 0, none⟩ 1 1 (partC ([118, 97, 108, 117, 101], m.val.data.toList)) rfl rfl (by exact unhide HL) (by exact unhide HON) (by unfold maxLen; omega) (by omega) (by simp; omega) ?_)
        intro v7 w7 own7 hg7 _
        have OWN7 : Hid (PR w7 w.heap.size v7 ([([111, 112], quoted (wordT m.kind)), ([112, 97, 116, 104], quoted m.path.data.toList)] ++ [([102, 114, 111, 109], quoted m.src.data.toList)] ++ [([118, 97, 108, 117, 101], m.val.data.toList)])) := own7
        have HB7 := hide (((unhide HB6).alloc hw6 _).grown hg7 (by simp; omega) (fun k hk => (World.ownsRow.lt (unhide OWN6) k hk).1))
        clear own7 hg7
        have hEQ : encP m = [([111, 112], quoted (wordT m.kind)), ([112, 97, 116, 104], quoted m.path.data.toList)] ++ [([102, 114, 111, 109], quoted m.src.data.toList)] ++ [([118, 97, 108, 117, 101], m.val.data.toList)] := by unfold encP; rw [unhide HZF, unhide HZV]; rfl
        have hfx := encP_facts m h1 h2 h3
        rw [hEQ] at hfx
        have HEQ := hide hEQ
        have HSO := hide (sorted_walk w.heap.size _ ([([111, 112], quoted (wordT m.kind)), ([112, 97, 116, 104], quoted m.path.data.toList)] ++ [([102, 114, 111, 109], quoted m.src.data.toList)] ++ [([118, 97, 108, 117, 101], m.val.data.toList)]) _ (unhide OWN7) (by simp))
        have HFX := hide hfx
        clear hfx hEQ
        go_wp2_with fail
        refine (unhide HSO).mono ?_
        rintro e w8 ⟨v8, rfl, o8, b8⟩
        have HMK := hide (make_walk _ v8 _ w8 o8 (unhide HFX).2.1 (by have := (unhide HFX).2.2.1; omega) (unhide HFX).2.2.2)
        have HB8 := hide (below_next (unhide HB7) b8)
        clear HSO o8 b8
        go_wp2_with fail
        refine (unhide HMK).mono ?_
        rintro e w9 ⟨rfl, b9⟩
        have HB9 := hide (below_next (unhide HB8) b9)
        clear HMK b9
        go_wp2
        go_ret
        exact ⟨by rw [encT, unhide HEQ]; rfl, unhide HB9⟩)
end Go.Proofs.YtcjajchfjoffnaaGreatDoor

namespace Go.Proofs.YtcjajchfjoffnaaGreatDoor
open Go.RowKit

/-- What a verb does. -/
def verbF (k : Int) : Value := if k = 1 then .func (Fn.func 157) #[] #[] else if k = 2 then .func (Fn.func 158) #[] #[] else if k = 3 then .func (Fn.func 159) #[] #[] else if k = 4 then .func (Fn.func 160) #[] #[] else if k = 5 then .func (Fn.func 161) #[] #[] else .func (Fn.func 162) #[] #[]
def shF (k : Int) : Bool := k == 4
def shP (k : Int) : Bool := k == 1 || k == 2 || k == 4 || k == 5
/-- The word of a kind, as the table has it. -/
def wordB (k : Int) : ByteArray := strOf (wordT k)
theorem verb_cells {w : World} {g : Nat} (hg : w.heap[g]? = some (.cells verbsA 146 (0, 0))) {j : Nat} (hj : j < 6) {k : Int} (hk : k = (j : Int) + 1) :
    w.cell? ⟨g, j * 7, none⟩ = some (.string (wordB k)) ∧ w.cell? ⟨g, j * 7 + 1, none⟩ = some (.int .i64 k) ∧ w.cell? ⟨g, j * 7 + 2, none⟩ = some (.bool (hasF k)) ∧ w.cell? ⟨g, j * 7 + 3, none⟩ = some (.bool (hasV k)) ∧ w.cell? ⟨g, j * 7 + 4, none⟩ = some (.bool (shF k)) ∧ w.cell? ⟨g, j * 7 + 5, none⟩ = some (.bool (shP k)) ∧ w.cell? ⟨g, j * 7 + 6, none⟩ = some (verbF k) := by
  subst hk
  rcases (show j = 0 ∨ j = 1 ∨ j = 2 ∨ j = 3 ∨ j = 4 ∨ j = 5 from by omega) with rfl | rfl | rfl | rfl | rfl | rfl
  all_goals exact ⟨Lib.cell_of_heap hg _, Lib.cell_of_heap hg _, Lib.cell_of_heap hg _, Lib.cell_of_heap hg _, Lib.cell_of_heap hg _, Lib.cell_of_heap hg _, Lib.cell_of_heap hg _⟩
def opObj (m : POp) : Obj := .cells #[.int .i64 m.kind, .string m.path, .string m.src, .string m.val] 76 (0, 0)
set_option maxRecDepth 100000 in
set_option maxHeartbeats 400000 in
theorem readOp1_walk (ob : Nat) (m : POp) (c0 c2 c3 c4 c5 c6 : Value) (z : Int) (w : World) (h : w.heap[ob]? = some (opObj m)) :
    Calls Tryz.prog 99 #[.agg #[c0, .int .i64 z, c2, c3, c4, c5, c6], .pointer (some ⟨ob, 0, none⟩)] w fun e w' => e = .returned (.bool (z == m.kind)) ∧ Below w.heap.size w w' := by
  have hlt : ob < w.heap.size := (Array.getElem?_eq_some_iff.1 h).1
  have k : ∀ o, (w.alloc o).cell? ⟨ob, 0, none⟩ = some (.int .i64 m.kind) := fun o => Lib.cell_of_heap (((alloc_b w o).block ob hlt).trans h) 0
  clear h
  go_enter Tryz.func99, Tryz.ntmps99
  go_wp2
  go_ret
  exact ⟨rfl, alloc_b w _⟩
/-- The place of a kind in the table of verbs. -/
def verbI (k : Int) : Int := if 1 ≤ k ∧ k ≤ 6 then k - 1 else -1
set_option maxRecDepth 100000 in
set_option maxHeartbeats 1600000 in
theorem indexVerb_walk (g ob : Nat) (m : POp) (w : World) (hg : w.heap[g]? = some (.cells verbsA 146 (0, 0))) (h : w.heap[ob]? = some (opObj m)) :
    Calls Tryz.prog 133 #[.slice (some ⟨g, 0, none⟩) 6 6, .func (Fn.func 99) #[] #[.pointer (some ⟨ob, 0, none⟩)]] w fun e w' => e = .returned (.int .i64 (verbI m.kind)) ∧ Below w.heap.size w w' := by
  have HG := hide hg
  have HO := hide h
  clear hg h
  go_enter Tryz.func133, Tryz.ntmps133
  go_wp2_with fail
  go_loopw [8] (fun i wr => ∃ j : Nat, j ≤ 6 ∧ i = .int .i64 (j : Int) ∧ Below w.heap.size w wr ∧ ∀ n : Nat, n < j → ¬ m.kind = (n : Int) + 1) (fun i _ => 6 - (intOf i).toNat)
  case atStart => exact ⟨0, by omega, rfl, Below.refl _ _, fun n hn => by omega⟩
  case round =>
    obtain ⟨j, hj, rfl, hb, hn⟩ := hrel
    by_cases hlt : j < 6
    · have hg := (hb.block g (Array.getElem?_eq_some_iff.1 (unhide HG)).1).trans (unhide HG)
      have ho := (hb.block ob (Array.getElem?_eq_some_iff.1 (unhide HO)).1).trans (unhide HO)
      obtain ⟨c0, c2, c3, c4, c5, c6, q0, q1, q2, q3, q4, q5, q6⟩ := verb_at hg hlt
      have HM := hide (readOp1_walk ob m c0 c2 c3 c4 c5 c6 ((j : Int) + 1) wr ho)
      have HN := hide hn
      clear hg ho hn
      go_wp2_with fail
      refine (unhide HM).mono ?_
      rintro e w1 ⟨rfl, b1⟩
      have HB1 := hide (below_next hb b1)
      clear HM b1 hb q0 q1 q2 q3 q4 q5 q6
      by_cases hk : (j : Int) + 1 = m.kind
      · have hk1 : (((j : Int) + 1) == m.kind) = true := by simpa using hk
        rw [hk1]
        have hv : verbI m.kind = (j : Int) := by unfold verbI; rw [if_pos (by omega)]; omega
        have HV := hide hv
        clear hk hk1 hv
        go_wp2
        go_ret
        exact ⟨by rw [unhide HV]; rfl, unhide HB1⟩
      · have hk1 : (((j : Int) + 1) == m.kind) = false := by simpa using hk
        rw [hk1]
        have HNE : Hid (∀ n : Nat, n < j + 1 → ¬ m.kind = (n : Int) + 1) := fun n hn e => by
          by_cases hnj : n = j
          · subst hnj; exact hk e.symm
          · exact unhide HN n (by omega) e
        clear hk hk1
        go_wp2
        go_roundw
        case rel => exact ⟨j + 1, by omega, by go_num, unhide HB1, unhide HNE⟩
        case measure => simp [intOf]; omega
    · have hv : verbI m.kind = -1 := by
        unfold verbI
        rw [if_neg]
        intro ⟨h1, h2⟩
        exact hn (m.kind - 1).toNat (by omega) (by omega)
      have HV := hide hv
      clear hv hn
      go_wp2
      go_ret
      exact ⟨by rw [unhide HV]; rfl, hb⟩
/-- The verb of a kind. -/
def verbV (k : Int) : Array Value := #[.string (wordB k), .int .i64 k, .bool (hasF k), .bool (hasV k), .bool (shF k), .bool (shP k), verbF k]
def verb0 : Array Value := #[.string ⟨#[]⟩, .int .i64 0, .bool false, .bool false, .bool false, .bool false, .nilFunc]
set_option maxRecDepth 100000 in
set_option maxHeartbeats 1600000 in
theorem findVerb_yes (ob : Nat) (m : POp) (w : World) (h : w.heap[ob]? = some (opObj m)) (h1 : 1 ≤ m.kind) (h2 : m.kind ≤ 6) :
    Calls Tryz.prog 98 #[.func (Fn.func 99) #[] #[.pointer (some ⟨ob, 0, none⟩)]] w fun e w' => e = .returned (.tuple #[.agg (verbV m.kind), .bool true]) ∧ Below w.heap.size w w' := by
  have hlt : ob < w.heap.size := (Array.getElem?_eq_some_iff.1 h).1
  obtain ⟨j, hj, hk⟩ : ∃ j : Nat, j < 6 ∧ m.kind = (j : Int) + 1 := ⟨(m.kind - 1).toNat, by omega, by omega⟩
  have hvi : verbI m.kind = (j : Int) := by unfold verbI; rw [if_pos ⟨h1, h2⟩]; omega
  have hvc := fun (w : World) (g : Nat) (hg : w.heap[g]? = some (.cells verbsA 146 (0, 0))) => verb_cells hg hj hk
  have hvF : ∃ fid, verbF m.kind = .func (Fn.func fid) #[] #[] := by
    unfold verbF
    repeat' split
    all_goals exact ⟨_, rfl⟩
  obtain ⟨fid, hfid⟩ := hvF
  unfold verbV
  rw [hfid] at hvc ⊢
  generalize wordB m.kind = wb at *
  generalize hasF m.kind = hf at *
  generalize hasV m.kind = hv at *
  generalize shF m.kind = sf at *
  generalize shP m.kind = sp at *
  have HVC := hide hvc
  have HVI := hide hvi
  clear hvc hvi hfid
  have hA := alloc_b w (.cells verb0 146)
  have kA := heap_alloc_new w (.cells verb0 146)
  have zA : (w.alloc (.cells verb0 146)).heap.size = w.heap.size + 1 := by simp
  have HO := hide ((hA.block ob hlt).trans h)
  have HV := hide (verbs_walk (w.alloc (.cells verb0 146)))
  have HA := hide hA
  have HKA := hide kA
  clear h hA kA
  go_enter Tryz.func98, Tryz.ntmps98
  go_wp2_with fail
  unfold verb0 at *
  generalize (w.alloc (.cells #[.string ⟨#[]⟩, .int .i64 0, .bool false, .bool false, .bool false, .bool false, .nilFunc] 146)) = wA at *
  refine (unhide HV).mono ?_
  rintro e w1 ⟨rfl, rfl⟩
  have hB := alloc_b wA (.cells verbsA 146)
  have kB := heap_alloc_new wA (.cells verbsA 146)
  have zB : (wA.alloc (.cells verbsA 146)).heap.size = wA.heap.size + 1 := by simp
  have HX := hide (indexVerb_walk wA.heap.size ob m (wA.alloc (.cells verbsA 146)) kB ((hB.block ob (by omega)).trans (unhide HO)))
  have HKB := hide kB
  have HAB := hide (below_next (unhide HA) hB)
  have HKC := hide ((hB.block w.heap.size (by omega)).trans (unhide HKA))
  have HZA := hide zA
  have HZB := hide zB
  clear HV hB kB HO HKA zA zB
  generalize (wA.alloc (.cells verbsA 146)) = wB at *
  generalize wA.heap.size = G at *
  go_wp2_with fail
  refine (unhide HX).mono ?_
  rintro e w2 ⟨rfl, b2⟩
  rw [unhide HVI]
  have zA := unhide HZA
  have zB := unhide HZB
  have k2 := (b2.block G (by omega)).trans (unhide HKB)
  obtain ⟨q0, q1, q2, q3, q4, q5, q6⟩ := unhide HVC _ _ k2
  have k3 := (b2.block w.heap.size (by omega)).trans (unhide HKC)
  have c0 : w2.cell? ⟨w.heap.size, 0, none⟩ = some (.string ⟨#[]⟩) := Lib.cell_of_heap k3 0
  have c1 : w2.cell? ⟨w.heap.size, 1, none⟩ = some (.int .i64 0) := Lib.cell_of_heap k3 1
  have c2 : w2.cell? ⟨w.heap.size, 2, none⟩ = some (.bool false) := Lib.cell_of_heap k3 2
  have c3 : w2.cell? ⟨w.heap.size, 3, none⟩ = some (.bool false) := Lib.cell_of_heap k3 3
  have c4 : w2.cell? ⟨w.heap.size, 4, none⟩ = some (.bool false) := Lib.cell_of_heap k3 4
  have c5 : w2.cell? ⟨w.heap.size, 5, none⟩ = some (.bool false) := Lib.cell_of_heap k3 5
  have c6 : w2.cell? ⟨w.heap.size, 6, none⟩ = some .nilFunc := Lib.cell_of_heap k3 6
  have fz := Lib.frozen_of_heap k3
  have HK3 := hide k3
  have HB2 := hide (below_next (unhide HAB) b2)
  clear HX HAB HKB HKC k2 k3 b2 zA zB HVC HVI h1 h2
  clear hk
  have hjI : (j : Int) < 6 := by omega
  go_wp2
  refine bodyPost_ret (results_cell_tmp rfl _ _ w.heap.size 146 #[_, _, _, _, _, _, _] (0, 0) _ _ rfl rfl (putN_full (unhide HK3) [_, _, _, _, _, _, _] rfl) Tryz.underlying146 rfl (by kernel_rfl)) rfl ?_
  exact ⟨rfl, putN_below (unhide HB2) (Nat.le_refl _) [_, _, _, _, _, _, _] 0⟩
set_option maxRecDepth 100000 in
set_option maxHeartbeats 1600000 in
theorem findVerb_no (ob : Nat) (m : POp) (w : World) (h : w.heap[ob]? = some (opObj m)) (hno : ¬ (1 ≤ m.kind ∧ m.kind ≤ 6)) :
    Calls Tryz.prog 98 #[.func (Fn.func 99) #[] #[.pointer (some ⟨ob, 0, none⟩)]] w fun e w' => e = .returned (.tuple #[.agg verb0, .bool false]) ∧ Below w.heap.size w w' := by
  have hlt : ob < w.heap.size := (Array.getElem?_eq_some_iff.1 h).1
  have hvi : verbI m.kind = -1 := by unfold verbI; rw [if_neg hno]
  have HVI := hide hvi
  clear hvi hno
  have hA := alloc_b w (.cells verb0 146)
  have kA := heap_alloc_new w (.cells verb0 146)
  have zA : (w.alloc (.cells verb0 146)).heap.size = w.heap.size + 1 := by simp
  have HO := hide ((hA.block ob hlt).trans h)
  have HV := hide (verbs_walk (w.alloc (.cells verb0 146)))
  have HA := hide hA
  have HKA := hide kA
  clear h hA kA
  unfold verb0 at *
  go_enter Tryz.func98, Tryz.ntmps98
  go_wp2_with fail
  generalize (w.alloc (.cells #[.string ⟨#[]⟩, .int .i64 0, .bool false, .bool false, .bool false, .bool false, .nilFunc] 146)) = wA at *
  refine (unhide HV).mono ?_
  rintro e w1 ⟨rfl, rfl⟩
  have hB := alloc_b wA (.cells verbsA 146)
  have kB := heap_alloc_new wA (.cells verbsA 146)
  have zB : (wA.alloc (.cells verbsA 146)).heap.size = wA.heap.size + 1 := by simp
  have HX := hide (indexVerb_walk wA.heap.size ob m (wA.alloc (.cells verbsA 146)) kB ((hB.block ob (by omega)).trans (unhide HO)))
  have HAB := hide (below_next (unhide HA) hB)
  have HKC := hide ((hB.block w.heap.size (by omega)).trans (unhide HKA))
  have HZA := hide zA
  have HZB := hide zB
  clear HV hB kB HO HKA zA zB
  generalize (wA.alloc (.cells verbsA 146)) = wB at *
  generalize wA.heap.size = G at *
  go_wp2_with fail
  refine (unhide HX).mono ?_
  rintro e w2 ⟨rfl, b2⟩
  rw [unhide HVI]
  have zA := unhide HZA
  have zB := unhide HZB
  have k3 := (b2.block w.heap.size (by omega)).trans (unhide HKC)
  have c0 : w2.cell? ⟨w.heap.size, 0, none⟩ = some (.string ⟨#[]⟩) := Lib.cell_of_heap k3 0
  have c1 : w2.cell? ⟨w.heap.size, 1, none⟩ = some (.int .i64 0) := Lib.cell_of_heap k3 1
  have c2 : w2.cell? ⟨w.heap.size, 2, none⟩ = some (.bool false) := Lib.cell_of_heap k3 2
  have c3 : w2.cell? ⟨w.heap.size, 3, none⟩ = some (.bool false) := Lib.cell_of_heap k3 3
  have c4 : w2.cell? ⟨w.heap.size, 4, none⟩ = some (.bool false) := Lib.cell_of_heap k3 4
  have c5 : w2.cell? ⟨w.heap.size, 5, none⟩ = some (.bool false) := Lib.cell_of_heap k3 5
  have c6 : w2.cell? ⟨w.heap.size, 6, none⟩ = some .nilFunc := Lib.cell_of_heap k3 6
  have fz := Lib.frozen_of_heap k3
  have HK3 := hide k3
  have HB2 := hide (below_next (unhide HAB) b2)
  clear HX HAB HKC k3 b2 zA zB HVI
  go_wp2
  refine bodyPost_ret (results_cell_tmp rfl _ _ w.heap.size 146 #[_, _, _, _, _, _, _] (0, 0) _ _ rfl rfl (putN_full (unhide HK3) [_, _, _, _, _, _, _] rfl) Tryz.underlying146 rfl (by kernel_rfl)) rfl ?_
  exact ⟨rfl, putN_below (unhide HB2) (Nat.le_refl _) [_, _, _, _, _, _, _] 0⟩
end Go.Proofs.YtcjajchfjoffnaaGreatDoor
