import Derived.Test.YtocnekbedcnmgaaGreatDoorBp17
import Derived.Test.YtocnekbedcnmgaaGreatDoorBp9
import Derived.Test.YtocnekbedcnmgaaGreatDoorBp2
import Derived.Test.YtocnekbedcnmgaaGreatDoorBp6
import Derived.Test.YtocnekbedcnmgaaGreatDoorBp8
import Derived.Test.YtocnekbedcnmgaaGreatDoorBp5
import Derived.Laws.EntriesVeiled
namespace Go.Proofs.YtocnekbedcnmgaaGreatDoor
open Go.RowKit

/-- Whether a text is good and canonical. -/
def goodT (s : ByteArray) : Bool := match readR s with
  | .inl _ => false
  | .inr v => (strOf (ct v)).toList == s.toList
theorem readR_no {s : ByteArray} {c : Nat} (h : readR s = .inl c) : c ≠ 0 := by
  unfold readR at h
  repeat' split at h
  all_goals first
    | (injection h with h; omega)
    | cases h
set_option maxRecDepth 100000 in
set_option maxHeartbeats 800000 in
theorem good_walk (s : ByteArray) (w : World) (hs : s.size ≤ 1048576) :
    Calls Tryz.prog 70 #[.string s] w fun e w' => e = .returned (.bool (goodT s)) ∧ Below w.heap.size w w' := by
  have HC := hide (specCanon_walk s w hs)
  cases hr : readR s with
  | inl c =>
    have hc := readR_no hr
    have hv : canonV s = .tuple #[.string ⟨#[]⟩, .int .i64 (c : Int)] := by unfold canonV; rw [hr]
    have hg : goodT s = false := by unfold goodT; rw [hr]
    rw [hv] at HC
    rw [hg]
    have hcI : ((c : Int) == 0) = false := by simp only [beq_eq_false_iff_ne, ne_eq]; omega
    clear hr hc hv hg
    go_enter Tryz.func70, Tryz.ntmps70
    go_wp2_with fail
    refine (unhide HC).mono ?_
    rintro e w1 ⟨rfl, b1⟩
    clear HC
    go_wp2
    go_ret
    exact ⟨rfl, b1⟩
  | inr v =>
    have hv : canonV s = .tuple #[.string (strOf (ct v)), .int .i64 0] := by unfold canonV; rw [hr]
    have hg : goodT s = ((strOf (ct v)).toList == s.toList) := by unfold goodT; rw [hr]
    rw [hv] at HC
    rw [hg]
    clear hr hv hg
    generalize strOf (ct v) = u at *
    go_enter Tryz.func70, Tryz.ntmps70
    go_wp2_with fail
    refine (unhide HC).mono ?_
    rintro e w1 ⟨rfl, b1⟩
    clear HC
    go_wp2
    go_ret
    exact ⟨rfl, b1⟩
def hasV (k : Int) : Bool := k == 1 || k == 3 || k == 6
def hasF (k : Int) : Bool := k == 4 || k == 5
set_option maxRecDepth 100000 in
theorem hasV_walk (k : Int) (w : World) : Calls Tryz.prog 80 #[.int .i64 k] w fun e w' => e = .returned (.bool (hasV k)) ∧ w = w' := by
  unfold hasV
  by_cases h1 : k = 1
  · subst h1
    go_enter Tryz.func80, Tryz.ntmps80
    go_wp2
    go_ret
    exact ⟨rfl, rfl⟩
  · by_cases h3 : k = 3
    · subst h3
      go_enter Tryz.func80, Tryz.ntmps80
      go_wp2
      go_ret
      exact ⟨rfl, rfl⟩
    · have e1 : (k == 1) = false := by simpa using h1
      have e3 : (k == 3) = false := by simpa using h3
      rw [e1, e3]
      go_enter Tryz.func80, Tryz.ntmps80
      go_wp2
      go_ret
      exact ⟨by simp, rfl⟩
set_option maxRecDepth 100000 in
theorem hasF_walk (k : Int) (w : World) : Calls Tryz.prog 79 #[.int .i64 k] w fun e w' => e = .returned (.bool (hasF k)) ∧ w = w' := by
  unfold hasF
  by_cases h1 : k = 4
  · subst h1
    go_enter Tryz.func79, Tryz.ntmps79
    go_wp2
    go_ret
    exact ⟨rfl, rfl⟩
  · have e1 : (k == 4) = false := by simpa using h1
    rw [e1]
    go_enter Tryz.func79, Tryz.ntmps79
    go_wp2
    go_ret
    exact ⟨by simp, rfl⟩
/-- Whether an operation is well formed. -/
def opOk (m : POp) : Bool := decide (1 ≤ m.kind) && decide (m.kind ≤ 6) && (ptoks m.path.data.toList).isSome && (if hasF m.kind then (ptoks m.src.data.toList).isSome else m.src.toList == []) && (if hasV m.kind then goodT m.val else m.val.toList == [])
set_option maxRecDepth 100000 in
set_option maxHeartbeats 2000000 in
theorem opOk_walk (m : POp) (w : World) (h1 : m.path.size ≤ 1048576) (h2 : m.src.size ≤ 1048576) (h3 : m.val.size ≤ 1048576) :
    Calls Tryz.prog 82 #[.agg #[.int .i64 m.kind, .string m.path, .string m.src, .string m.val]] w fun e w' => e = .returned (.bool (opOk m)) ∧ Below w.heap.size w w' := by
  have hA := alloc_b w (Obj.cells #[.int .i64 m.kind, .string m.path, .string m.src, .string m.val] 59)
  have kA := heap_alloc_new w (Obj.cells #[.int .i64 m.kind, .string m.path, .string m.src, .string m.val] 59)
  have HP : Hid (∀ wx, Calls Tryz.prog 126 #[.string m.path] wx fun e w' => e = .returned (.bool (ptoks m.path.data.toList).isSome) ∧ Below wx.heap.size wx w') := fun wx => isPtrS_walk m.path wx h1
  have HQ : Hid (∀ wx, Calls Tryz.prog 126 #[.string m.src] wx fun e w' => e = .returned (.bool (ptoks m.src.data.toList).isSome) ∧ Below wx.heap.size wx w') := fun wx => isPtrS_walk m.src wx h2
  have HG : Hid (∀ wx, Calls Tryz.prog 70 #[.string m.val] wx fun e w' => e = .returned (.bool (goodT m.val)) ∧ Below wx.heap.size wx w') := fun wx => good_walk m.val wx h3
  have HF : Hid (∀ wx, Calls Tryz.prog 79 #[.int .i64 m.kind] wx fun e w' => e = .returned (.bool (hasF m.kind)) ∧ wx = w') := fun wx => hasF_walk m.kind wx
  have HV : Hid (∀ wx, Calls Tryz.prog 80 #[.int .i64 m.kind] wx fun e w' => e = .returned (.bool (hasV m.kind)) ∧ wx = w') := fun wx => hasV_walk m.kind wx
  by_cases k1 : m.kind < 1
  · have hf : opOk m = false := by unfold opOk; rw [decide_eq_false (by omega)]; simp
    rw [hf]
    go_enter Tryz.func82, Tryz.ntmps82
    go_wp2
    go_ret
    exact ⟨rfl, hA⟩
  · by_cases k6 : 6 < m.kind
    · have hf : opOk m = false := by unfold opOk; rw [decide_eq_false (p := m.kind ≤ 6) (by omega)]; simp
      rw [hf]
      go_enter Tryz.func82, Tryz.ntmps82
      go_wp2
      go_ret
      exact ⟨rfl, hA⟩
    · have hk : opOk m = ((ptoks m.path.data.toList).isSome && (if hasF m.kind then (ptoks m.src.data.toList).isSome else m.src.toList == []) && (if hasV m.kind then goodT m.val else m.val.toList == [])) := by
        unfold opOk; rw [decide_eq_true (by omega), decide_eq_true (by omega)]; simp
      rw [hk]
      clear hk
      have zs0 : (m.src.toList == []) = decide (m.src.toList = []) := by by_cases h : m.src.toList = [] <;> simp [h]
      have zw0 : (m.val.toList == []) = decide (m.val.toList = []) := by by_cases h : m.val.toList = [] <;> simp [h]
      rw [zs0, zw0]
      clear zs0 zw0
      generalize (ptoks m.path.data.toList).isSome = zp at *
      generalize (ptoks m.src.data.toList).isSome = zq at *
      generalize goodT m.val = zg at *
      generalize hasF m.kind = zf at *
      generalize hasV m.kind = zv at *
      have HCE : Hid (∀ wx, Below (w.alloc (Obj.cells #[.int .i64 m.kind, .string m.path, .string m.src, .string m.val] 59)).heap.size (w.alloc (Obj.cells #[.int .i64 m.kind, .string m.path, .string m.src, .string m.val] 59)) wx → wx.cell? ⟨w.heap.size, 0, none⟩ = some (.int .i64 m.kind) ∧ wx.cell? ⟨w.heap.size, 1, none⟩ = some (.string m.path) ∧ wx.cell? ⟨w.heap.size, 2, none⟩ = some (.string m.src) ∧ wx.cell? ⟨w.heap.size, 3, none⟩ = some (.string m.val)) := fun wx hb => by
        have kx := (hb.block w.heap.size (by simp)).trans kA
        exact ⟨Lib.cell_of_heap kx 0, Lib.cell_of_heap kx 1, Lib.cell_of_heap kx 2, Lib.cell_of_heap kx 3⟩
      have HAB := hide hA
      clear hA kA h1 h2 h3
      go_enter Tryz.func82, Tryz.ntmps82
      go_wp2_with fail
      refine (unhide HP _).mono ?_
      rintro e w1 ⟨rfl, b1⟩
      obtain ⟨c0, c1, c2, c3⟩ := unhide HCE w1 b1
      have BB := hide (below_next (unhide HAB) b1)
      have BC := hide b1
      clear b1
      by_cases hp : zp = true
      · subst hp
        by_cases hf : zf = true
        · subst hf
          go_wp2_with fail
          refine (unhide HF _).mono ?_
          rintro e w2 ⟨rfl, rfl⟩
          go_wp2_with fail
          refine (unhide HQ _).mono ?_
          rintro e w3 ⟨rfl, b3⟩
          obtain ⟨d0, d1, d2, d3⟩ := unhide HCE w3 (below_next (unhide BC) b3)
          have BB := hide (below_next (unhide BB) b3)
          clear b3 BC c0 c1 c2 c3 HCE
          by_cases hq : zq = true
          · subst hq
            go_wp2_with fail
            refine (unhide HF _).mono ?_
            rintro e w4 ⟨rfl, rfl⟩
            have c0 := d0
            have c1 := d1
            have c2 := d2
            have c3 := d3
            clear d0 d1 d2 d3
            by_cases hv : zv = true
            · subst hv
              go_wp2_with fail
              refine (unhide HV _).mono ?_
              rintro e w8 ⟨rfl, rfl⟩
              go_wp2_with fail
              refine (unhide HG _).mono ?_
              rintro e w9 ⟨rfl, b9⟩
              have HBF := hide (below_next (unhide BB) b9)
              clear b9 BB c0 c1 c2 c3 HP HQ HG HF HV
              go_wp2
              go_ret
              exact ⟨by simp, unhide HBF⟩
            · have hv' : zv = false := by simpa using hv
              subst hv'
              go_wp2_with fail
              refine (unhide HV _).mono ?_
              rintro e w8 ⟨rfl, rfl⟩
              have HBF := BB
              clear BB HP HQ HG HF HV hv
              go_wp2
              go_ret
              exact ⟨by cases m.val.toList <;> simp, unhide HBF⟩
          · have hq' : zq = false := by simpa using hq
            subst hq'
            clear hq
            go_wp2
            go_ret
            exact ⟨by simp, unhide BB⟩
        · have hf' : zf = false := by simpa using hf
          subst hf'
          go_wp2_with fail
          refine (unhide HF _).mono ?_
          rintro e w2 ⟨rfl, rfl⟩
          go_wp2_with fail
          refine (unhide HF _).mono ?_
          rintro e w2 ⟨rfl, rfl⟩
          clear BC HCE hf
          by_cases hs : m.src.toList = []
          · by_cases hv : zv = true
            · subst hv
              go_wp2_with fail
              refine (unhide HV _).mono ?_
              rintro e w8 ⟨rfl, rfl⟩
              go_wp2_with fail
              refine (unhide HG _).mono ?_
              rintro e w9 ⟨rfl, b9⟩
              have HBF := hide (below_next (unhide BB) b9)
              clear b9 BB c0 c1 c2 c3 HP HQ HG HF HV
              go_wp2
              go_ret
              exact ⟨by simp, unhide HBF⟩
            · have hv' : zv = false := by simpa using hv
              subst hv'
              go_wp2_with fail
              refine (unhide HV _).mono ?_
              rintro e w8 ⟨rfl, rfl⟩
              have HBF := BB
              clear BB HP HQ HG HF HV hv
              go_wp2
              go_ret
              exact ⟨by cases m.val.toList <;> simp, unhide HBF⟩
          · have hs1 : m.src.toList.isEmpty = false := by simpa using hs
            have hs2 : (m.src.toList == []) = false := by simpa using hs
            clear HP HQ HG HF HV
            go_wp2
            go_ret
            exact ⟨by simp, unhide BB⟩
      · have hp' : zp = false := by simpa using hp
        subst hp'
        clear hp HP HQ HG HF HV HCE BC c0 c1 c2 c3
        go_wp2
        all_goals go_ret
        all_goals exact ⟨by simp, unhide BB⟩
end Go.Proofs.YtocnekbedcnmgaaGreatDoor


namespace Go.Proofs.YtocnekbedcnmgaaGreatDoor
open Go.RowKit

end Go.Proofs.YtocnekbedcnmgaaGreatDoor


namespace Go.Proofs.YtocnekbedcnmgaaGreatDoor
open Go.RowKit

/-- The word of a kind. -/
def wordT (k : Int) : List UInt8 := if k = 1 then [97, 100, 100] else if k = 2 then [114, 101, 109, 111, 118, 101] else if k = 3 then [114, 101, 112, 108, 97, 99, 101] else if k = 4 then [109, 111, 118, 101] else if k = 5 then [99, 111, 112, 121] else [116, 101, 115, 116]
set_option maxRecDepth 100000 in
theorem word_walk (k : Int) (w : World) : Calls Tryz.prog 78 #[.int .i64 k] w fun e w' => e = .returned (.string (strOf (wordT k))) ∧ w = w' := by
  unfold wordT
  by_cases h1 : k = 1
  · subst h1
    go_enter Tryz.func78, Tryz.ntmps78
    go_wp2
    go_ret
    exact ⟨rfl, rfl⟩
  · by_cases h2 : k = 2
    · subst h2
      go_enter Tryz.func78, Tryz.ntmps78
      go_wp2
      go_ret
      exact ⟨rfl, rfl⟩
    · by_cases h3 : k = 3
      · subst h3
        go_enter Tryz.func78, Tryz.ntmps78
        go_wp2
        go_ret
        exact ⟨rfl, rfl⟩
      · by_cases h4 : k = 4
        · subst h4
          go_enter Tryz.func78, Tryz.ntmps78
          go_wp2
          go_ret
          exact ⟨rfl, rfl⟩
        · by_cases h5 : k = 5
          · subst h5
            go_enter Tryz.func78, Tryz.ntmps78
            go_wp2
            go_ret
            exact ⟨rfl, rfl⟩
          · rw [if_neg h1, if_neg h2, if_neg h3, if_neg h4, if_neg h5]
            have e1 : (k == 1) = false := by simpa using h1
            have e2 : (k == 2) = false := by simpa using h2
            have e3 : (k == 3) = false := by simpa using h3
            have e4 : (k == 4) = false := by simpa using h4
            have e5 : (k == 5) = false := by simpa using h5
            go_enter Tryz.func78, Tryz.ntmps78
            go_wp2
            go_ret
            exact ⟨rfl, rfl⟩
end Go.Proofs.YtocnekbedcnmgaaGreatDoor


namespace Go.Proofs.YtocnekbedcnmgaaGreatDoor
open Go.RowKit

end Go.Proofs.YtocnekbedcnmgaaGreatDoor


namespace Go.Proofs.YtocnekbedcnmgaaGreatDoor
open Go.RowKit

def kOp : List UInt8 := [111, 112]
def kPath : List UInt8 := [112, 97, 116, 104]
def kFrom : List UInt8 := [102, 114, 111, 109]
def kValue : List UInt8 := [118, 97, 108, 117, 101]
def JL.ofL : List JV → JL
  | [] => .nil
  | v :: r => .cons v (JL.ofL r)
theorem JL.toL_ofL : ∀ l : List JV, (JL.ofL l).toL = l
  | [] => rfl
  | v :: r => by rw [JL.ofL, JL.toL, JL.toL_ofL r]
theorem goodT_ct {v : JV} (h : rdV v) (hb : bigV v = false) (ht : twV v = false) : goodT (strOf (ct v)) = decide (depV v ≤ 100 ∧ cntV v ≤ 3000 ∧ (ct v).length ≤ 20000) := by
  unfold goodT
  rw [readR_ct h hb ht]
  by_cases h1 : 20000 < (ct v).length
  · rw [if_pos h1]; simp; omega
  · rw [if_neg h1]
    by_cases h2 : 100 < depV v ∨ 3000 < cntV v
    · rw [if_pos h2]; simp; omega
    · rw [if_neg h2]
      simp only [(nv_nf v).ct, beq_self_eq_true]
      symm
      rw [decide_eq_true_eq]; omega
end Go.Proofs.YtocnekbedcnmgaaGreatDoor


namespace Go.Proofs.YtocnekbedcnmgaaGreatDoor
open Go.RowKit

/-- What a verb does. -/
def verbF (k : Int) : Value := if k = 1 then .func (Fn.func 171) #[] #[] else if k = 2 then .func (Fn.func 172) #[] #[] else if k = 3 then .func (Fn.func 173) #[] #[] else if k = 4 then .func (Fn.func 174) #[] #[] else if k = 5 then .func (Fn.func 175) #[] #[] else .func (Fn.func 176) #[] #[]
def shF (k : Int) : Bool := k == 4
def shP (k : Int) : Bool := k == 1 || k == 2 || k == 4 || k == 5
/-- The word of a kind, as the table has it. -/
def wordB (k : Int) : ByteArray := strOf (wordT k)
theorem verb_cells {w : World} {g : Nat} (hg : w.heap[g]? = some (.cells verbsA 141 (0, 0))) {j : Nat} (hj : j < 6) {k : Int} (hk : k = (j : Int) + 1) :
    w.cell? ⟨g, j * 7, none⟩ = some (.string (wordB k)) ∧ w.cell? ⟨g, j * 7 + 1, none⟩ = some (.int .i64 k) ∧ w.cell? ⟨g, j * 7 + 2, none⟩ = some (.bool (hasF k)) ∧ w.cell? ⟨g, j * 7 + 3, none⟩ = some (.bool (hasV k)) ∧ w.cell? ⟨g, j * 7 + 4, none⟩ = some (.bool (shF k)) ∧ w.cell? ⟨g, j * 7 + 5, none⟩ = some (.bool (shP k)) ∧ w.cell? ⟨g, j * 7 + 6, none⟩ = some (verbF k) := by
  subst hk
  rcases (show j = 0 ∨ j = 1 ∨ j = 2 ∨ j = 3 ∨ j = 4 ∨ j = 5 from by omega) with rfl | rfl | rfl | rfl | rfl | rfl
  all_goals exact ⟨Lib.cell_of_heap hg _, Lib.cell_of_heap hg _, Lib.cell_of_heap hg _, Lib.cell_of_heap hg _, Lib.cell_of_heap hg _, Lib.cell_of_heap hg _, Lib.cell_of_heap hg _⟩
/-- The place of a kind in the table of verbs. -/
def verbI (k : Int) : Int := if 1 ≤ k ∧ k ≤ 6 then k - 1 else -1
/-- The verb of a kind. -/
def verbV (k : Int) : Array Value := #[.string (wordB k), .int .i64 k, .bool (hasF k), .bool (hasV k), .bool (shF k), .bool (shP k), verbF k]
def verb0 : Array Value := #[.string ⟨#[]⟩, .int .i64 0, .bool false, .bool false, .bool false, .bool false, .nilFunc]
end Go.Proofs.YtocnekbedcnmgaaGreatDoor

