import Derived.Test.YtbihihkdgckgnaaDoorBq1
import Derived.Test.YtbihihkdgckgnaaDoorBq4
import Derived.Test.YtbihihkdgckgnaaDoorBq5
import Derived.Laws.AppendOwn
import Derived.Laws.AppendOwnNone
namespace Go.Proofs.YtbihihkdgckgnaaDoor
open Go.RowKit Go.Shelf

def cutsB (b : UInt8) (s : ByteArray) : List ByteArray := Lib.splitB ⟨#[b]⟩ 0 (Lib.countB s ⟨#[b]⟩) s
theorem cutsB_data (b : UInt8) (s : ByteArray) : (cutsB b s).map (·.data.toList) = piecesB b s.data.toList := by unfold cutsB; rw [Lib.splitB_data]; exact splitB_eq b _
theorem cutsB_len (b : UInt8) (s : ByteArray) : (cutsB b s).length = Lib.countB s ⟨#[b]⟩ + 1 := Lib.splitB_all ⟨#[b]⟩ (Nat.le_refl 1) 0 _ s rfl
theorem cutsB_le (b : UInt8) (s : ByteArray) : (cutsB b s).length ≤ s.size + 1 := by rw [cutsB_len]; have := Lib.countB_le ⟨#[b]⟩ (Nat.le_refl 1) _ s (Nat.le_refl _); omega
theorem split_walkB (b : UInt8) (s : ByteArray) (w : World) (h : ML w) (hs : s.size ≤ 1048576) :
    Calls Tryd.prog 13 #[.string s, .string ⟨#[b]⟩] w fun e w' => e = .returned (.slice (some ⟨w.heap.size, 0, none⟩) (cutsB b s).length (cutsB b s).length) ∧ SS w' (some ⟨w.heap.size, 0, none⟩) w.heap.size 0 (cutsB b s) ∧ Below w.heap.size w w' ∧ w.heap.size < w'.heap.size := by
  obtain ⟨m, hm⟩ := h
  refine Calls.mono (Any.strings_Split { Tryd.laysM146 with } Tryd.laysM146.i9 s ⟨#[b]⟩ m w (by omega) hm (Nat.le_refl 1)) ?_
  rintro e w' ⟨rfl, rfl⟩
  refine ⟨?_, ⟨fun _ => rfl, fun j hj => ?_⟩, (Below.refl _ _).alloc (Nat.le_refl _) _, by simp⟩
  · rw [cutsB_len]
  · have hg := heap_alloc_new w (.cells ((cutsB b s).map Value.string).toArray 9)
    show (w.alloc (.cells ((cutsB b s).map Value.string).toArray 9)).cell? _ = _
    rw [Lib.cell_of_heap hg]
    simp [hj]
theorem cut_walk (s : ByteArray) (w : World) (h : ML w) (hs : s.size ≤ 1048576) :
    Calls Tryd.prog 35 #[.string s, .string ⟨#[32]⟩] w fun e w' => e = .returned (.tuple #[.string (baT (cutC 32 s.data.toList).1), .string (baT (cutC 32 s.data.toList).2.1), .bool (cutC 32 s.data.toList).2.2]) ∧ ∃ n, w' = w.drewN n := by
  obtain ⟨m, hm⟩ := h
  refine (Tryd.strings_Cut s ⟨#[32]⟩ m w (by omega) hm).mono ?_
  rintro e w' ⟨rfl, h⟩
  have hc : Lib.cut s.data.toList (⟨#[32]⟩ : ByteArray).data.toList = cutC 32 s.data.toList := cut_eq 32 _
  rw [hc]
  exact ⟨rfl, h⟩
theorem ML.drewN {w : World} (h : ML w) (n : Nat) : ML (w.drewN n) := h
/-- What withRoom and readCall answer: the call where there is one. -/
def CallR (o : Option PCall) (w : World) : Ending → World → Prop := fun e w' => ∃ (c k r : Int) (t : ByteArray), e = .returned (.tuple #[.agg #[.int .i64 c, .int .i64 k, .string t, .int .i64 r], .bool o.isSome]) ∧ (∀ p, o = some p → c = p.cl ∧ k = p.k ∧ t = baT p.tx ∧ r = p.rm) ∧ Below w.heap.size w w'
theorem baT_size (l : List UInt8) : (baT l).size = l.length := rfl
set_option maxHeartbeats 4000000 in
set_option maxRecDepth 100000 in
theorem withRoom_walk (cl : Int) (t : List UInt8) (w : World) (h : ML w) (hs : t.length ≤ 1048576) :
    Calls Tryd.prog 38 #[.agg #[.int .i64 cl, .int .i64 4, .string (baT t), .int .i64 0]] w (CallR (watchI cl t) w) := by
  have hle := cutC_le 32 t
  have HM : Hid (∀ o1 o2, ML ((w.alloc o1).alloc o2)) := fun o1 o2 => (h.below (al_b w _)).below (al_b _ _)
  have HC : Hid (∀ wx, ML wx → Calls Tryd.prog 35 #[.string (baT t), .string ⟨#[32]⟩] wx fun e w' => e = .returned (.tuple #[.string (baT (cutC 32 t).1), .string (baT (cutC 32 t).2.1), .bool (cutC 32 t).2.2]) ∧ ∃ n, w' = wx.drewN n) := fun wx hx => cut_walk (baT t) wx hx hs
  have HV : Hid (watchI cl t = if digOk 3 (cutC 32 t).1 ∧ (cutC 32 t).2.2 = true then some ⟨cl, 4, (cutC 32 t).2.1, (digV (cutC 32 t).1 : Int)⟩ else none) := by
    show _ = _
    unfold watchI digOk
    simp only [and_assoc]
  generalize watchI cl t = WI at *
  generalize hQ : cutC 32 t = q at *
  obtain ⟨room, text, more⟩ := q
  simp only at *
  have HD : Hid (∀ wx, Calls Tryd.prog 45 #[.string (baT room), .int .i64 3] wx fun e w' => e = .returned (digP 3 room) ∧ wx = w') := fun wx => readDigits_walk (baT room) 3 wx (by rw [baT_size]; omega) (by decide)
  generalize baT t = T at *
  generalize hbr : baT room = R at *
  generalize hbt : baT text = X at *
  clear hQ hle hs h hbr
  have HK : Hid (∀ n (z : Int) (u0 u1 u2 u3 : Value), ((put4 (((((w.alloc (Obj.cells #[.int .i64 cl, .int .i64 4, .string T, .int .i64 0] 36)).alloc (Obj.cells #[.int .i64 0, .int .i64 0, .string ⟨#[]⟩, .int .i64 0] 36)).drewN n).setCell ⟨w.heap.size, 3, none⟩ (.int .i64 z)).setCell ⟨w.heap.size, 2, none⟩ (.string X)) (w.heap.size + 1) u0 u1 u2 u3).heap[w.heap.size + 1]? = some (Obj.cells #[u0, u1, u2, u3] 36 (0, 0))) ∧
      Below w.heap.size w (put4 (((((w.alloc (Obj.cells #[.int .i64 cl, .int .i64 4, .string T, .int .i64 0] 36)).alloc (Obj.cells #[.int .i64 0, .int .i64 0, .string ⟨#[]⟩, .int .i64 0] 36)).drewN n).setCell ⟨w.heap.size, 3, none⟩ (.int .i64 z)).setCell ⟨w.heap.size, 2, none⟩ (.string X)) (w.heap.size + 1) u0 u1 u2 u3)) := fun n z u0 u1 u2 u3 => by
    refine ⟨put4_heap (x := .int .i64 0) (y := .int .i64 0) (z := .string ⟨#[]⟩) (u := .int .i64 0) ?_ u0 u1 u2 u3, put4_below (Below.setCell (Below.setCell (dn_b (below_next (al_b w _) (al_b _ _)) n) (p := ⟨w.heap.size, 3, none⟩) (Nat.le_refl _) _) (p := ⟨w.heap.size, 2, none⟩) (Nat.le_refl _) _) (Nat.le_succ _) u0 u1 u2 u3⟩
    rw [Below.heap_setCell _ _ _ _ (by simp), Below.heap_setCell _ _ _ _ (by simp)]
    have := heap_alloc_new (w.alloc (Obj.cells #[.int .i64 cl, .int .i64 4, .string T, .int .i64 0] 36)) (Obj.cells #[.int .i64 0, .int .i64 0, .string ⟨#[]⟩, .int .i64 0] 36)
    simpa using this
  by_cases hd : digOk 3 room
  · have hzb : digP 3 room = .tuple #[.int .i64 (digV room : Int), .bool true] := by unfold digP; rw [if_pos hd]
    rw [hzb] at HD
    have HV2 : Hid (WI = if more = true then some ⟨cl, 4, text, (digV room : Int)⟩ else none) := by show _ = _; rw [unhide HV]; simp [hd]
    have HBT := hide hbt
    clear hzb hd HV hbt
    generalize (digV room : Int) = z at *
    go_enter Tryd.func38, Tryd.ntmps38
    go_wp2_with fail
    refine (unhide HC _ (unhide HM _ _)).mono ?_
    rintro e w2 ⟨rfl, n, rfl⟩
    clear HC HM
    go_wp2_with fail
    refine (unhide HD _).mono ?_
    rintro e w3 ⟨rfl, rfl⟩
    clear HD
    go_wp2
    obtain ⟨hk1, hk2⟩ := unhide HK n z (.int .i64 cl) (.int .i64 4) (.string X) (.int .i64 z)
    refine bodyPost_ret (results_cell_tmp rfl _ _ (w.heap.size + 1) 36 #[_, _, _, _] (0, 0) _ _ rfl rfl hk1 Tryd.underlying36 rfl (by kernel_rfl)) rfl ?_
    refine ⟨cl, 4, z, X, ?_, ?_, hk2⟩
    · rw [unhide HV2]; cases more <;> rfl
    · intro p hp
      rw [unhide HV2] at hp
      cases more with
      | false => cases hp
      | true =>
        injection hp with hp
        subst hp
        exact ⟨rfl, rfl, (unhide HBT).symm, rfl⟩
  · have hzb : digP 3 room = .tuple #[.int .i64 0, .bool false] := by unfold digP; rw [if_neg hd]
    rw [hzb] at HD
    have HV2 : Hid (WI = none) := by show _ = _; rw [unhide HV]; simp [hd]
    clear hzb hd HV hbt
    go_enter Tryd.func38, Tryd.ntmps38
    go_wp2_with fail
    refine (unhide HC _ (unhide HM _ _)).mono ?_
    rintro e w2 ⟨rfl, n, rfl⟩
    clear HC HM
    go_wp2_with fail
    refine (unhide HD _).mono ?_
    rintro e w3 ⟨rfl, rfl⟩
    clear HD
    go_wp2
    obtain ⟨hk1, hk2⟩ := unhide HK n 0 (.int .i64 cl) (.int .i64 4) (.string X) (.int .i64 0)
    refine bodyPost_ret (results_cell_tmp rfl _ _ (w.heap.size + 1) 36 #[_, _, _, _] (0, 0) _ _ rfl rfl hk1 Tryd.underlying36 rfl (by kernel_rfl)) rfl ?_
    exact ⟨cl, 4, 0, X, by rw [unhide HV2]; rfl, fun p hp => (by rw [unhide HV2] at hp; cases hp), hk2⟩
end Go.Proofs.YtbihihkdgckgnaaDoor


namespace Go.Proofs.YtbihihkdgckgnaaDoor
open Go.RowKit Go.Shelf

theorem kindW_cases (t : List UInt8) : kindW t = 0 ∨ kindW t = 1 ∨ kindW t = 2 ∨ kindW t = 3 ∨ kindW t = 4 ∨ kindW t = 5 ∨ kindW t = 6 := by
  unfold kindW
  repeat' split
  all_goals simp
/-- A block of a call that was made first, in a later world. -/
theorem put4_late {w w2 : World} (hb : Below (w.alloc (Obj.cells #[.int .i64 0, .int .i64 0, .string ⟨#[]⟩, .int .i64 0] 36)).heap.size (w.alloc (Obj.cells #[.int .i64 0, .int .i64 0, .string ⟨#[]⟩, .int .i64 0] 36)) w2) (a b c d : Value) : (put4 w2 w.heap.size a b c d).heap[w.heap.size]? = some (.cells #[a, b, c, d] 36 (0, 0)) ∧ Below w.heap.size w (put4 w2 w.heap.size a b c d) := by
  have h0 := heap_alloc_new w (Obj.cells #[.int .i64 0, .int .i64 0, .string ⟨#[]⟩, .int .i64 0] 36)
  exact ⟨put4_heap ((hb.block _ (by simp)).trans h0) a b c d, put4_below (below_next (al_b w _) hb) (Nat.le_refl _) a b c d⟩
set_option maxHeartbeats 8000000 in
set_option maxRecDepth 100000 in
theorem readCall_walk (s : ByteArray) (w : World) (h : ML w) (hs : s.size ≤ 1048576) : Calls Tryd.prog 27 #[.string s] w (CallR (callT s.data.toList) w) := by
  have hdl := data_len s
  rw [← callI_eq]
  have HM : Hid (∀ n, ML ((w.alloc (Obj.cells #[.int .i64 0, .int .i64 0, .string ⟨#[]⟩, .int .i64 0] 36)).drewN n)) := fun n => h.below (dn_b (al_b w _) n)
  have HM0 : Hid (ML (w.alloc (Obj.cells #[.int .i64 0, .int .i64 0, .string ⟨#[]⟩, .int .i64 0] 36))) := h.below (al_b w _)
  have HV : Hid (callI s.data.toList = (clientW (cutC 32 s.data.toList).1).bind fun cl =>
      if kindW (cutC 32 (cutC 32 s.data.toList).2.1).1 = 1 ∨ kindW (cutC 32 (cutC 32 s.data.toList).2.1).1 = 2 ∨ kindW (cutC 32 (cutC 32 s.data.toList).2.1).1 = 3 then (if (cutC 32 (cutC 32 s.data.toList).2.1).2.2 = true then some ⟨cl, kindW (cutC 32 (cutC 32 s.data.toList).2.1).1, (cutC 32 (cutC 32 s.data.toList).2.1).2.1, 0⟩ else none)
      else if kindW (cutC 32 (cutC 32 s.data.toList).2.1).1 = 4 then watchI cl (cutC 32 (cutC 32 s.data.toList).2.1).2.1
      else if kindW (cutC 32 (cutC 32 s.data.toList).2.1).1 = 5 ∨ kindW (cutC 32 (cutC 32 s.data.toList).2.1).1 = 6 then (if (cutC 32 (cutC 32 s.data.toList).2.1).2.2 = false then some ⟨cl, kindW (cutC 32 (cutC 32 s.data.toList).2.1).1, (cutC 32 (cutC 32 s.data.toList).2.1).2.1, 0⟩ else none)
      else none) := rfl
  have HC1 := hide (cut_walk s (w.alloc (Obj.cells #[.int .i64 0, .int .i64 0, .string ⟨#[]⟩, .int .i64 0] 36)) (unhide HM0) hs)
  have hl1 := cutC_le 32 s.data.toList
  have hl2 := cutC_le 32 (cutC 32 s.data.toList).2.1
  generalize callI s.data.toList = CI at *
  generalize cutC 32 s.data.toList = q at *
  obtain ⟨first, rest, m1⟩ := q
  simp only at *
  have HC2 : Hid (∀ n, Calls Tryd.prog 35 #[.string (baT rest), .string ⟨#[32]⟩] ((w.alloc (Obj.cells #[.int .i64 0, .int .i64 0, .string ⟨#[]⟩, .int .i64 0] 36)).drewN n) fun e w' => e = .returned (.tuple #[.string (baT (cutC 32 rest).1), .string (baT (cutC 32 rest).2.1), .bool (cutC 32 rest).2.2]) ∧ ∃ m, w' = ((w.alloc (Obj.cells #[.int .i64 0, .int .i64 0, .string ⟨#[]⟩, .int .i64 0] 36)).drewN n).drewN m) := fun n => cut_walk (baT rest) _ (unhide HM n) (by rw [baT_size]; omega)
  generalize cutC 32 rest = q at *
  obtain ⟨word, text, more⟩ := q
  simp only at *
  have HR : Hid (∀ wx, Calls Tryd.prog 36 #[.string (baT first)] wx fun e w' => e = .returned (.tuple #[.int .i64 (cliP first).1, .bool (cliP first).2]) ∧ wx = w') := fun wx => readClient_walk (baT first) wx (by rw [baT_size]; omega)
  have HKD : Hid (∀ wx, Calls Tryd.prog 37 #[.string (baT word)] wx fun e w' => e = .returned (.int .i64 (kindW word)) ∧ wx = w') := fun wx => kindOf_walk (baT word) wx
  have HWR : Hid (∀ cl wx, Below (w.alloc (Obj.cells #[.int .i64 0, .int .i64 0, .string ⟨#[]⟩, .int .i64 0] 36)).heap.size (w.alloc (Obj.cells #[.int .i64 0, .int .i64 0, .string ⟨#[]⟩, .int .i64 0] 36)) wx → Calls Tryd.prog 38 #[.agg #[.int .i64 cl, .int .i64 4, .string (baT text), .int .i64 0]] wx (CallR (watchI cl text) wx)) := fun cl wx hb => withRoom_walk cl text wx ((unhide HM0).below hb) (by omega)
  have hkc := kindW_cases word
  have HPL0 : Hid (∀ n (a b c d : Value), (put4 ((w.alloc (Obj.cells #[.int .i64 0, .int .i64 0, .string ⟨#[]⟩, .int .i64 0] 36)).drewN n) w.heap.size a b c d).heap[w.heap.size]? = some (.cells #[a, b, c, d] 36 (0, 0)) ∧ Below w.heap.size w (put4 ((w.alloc (Obj.cells #[.int .i64 0, .int .i64 0, .string ⟨#[]⟩, .int .i64 0] 36)).drewN n) w.heap.size a b c d)) := fun n a b c d => put4_late (dn_b (Below.refl _ _) n) a b c d
  have HPL : Hid (∀ n o (a b c d : Value), ((put4 ((w.alloc (Obj.cells #[.int .i64 0, .int .i64 0, .string ⟨#[]⟩, .int .i64 0] 36)).drewN n) w.heap.size a b c d).alloc o).heap[w.heap.size]? = some (.cells #[a, b, c, d] 36 (0, 0)) ∧ Below w.heap.size w ((put4 ((w.alloc (Obj.cells #[.int .i64 0, .int .i64 0, .string ⟨#[]⟩, .int .i64 0] 36)).drewN n) w.heap.size a b c d).alloc o)) := fun n o a b c d => by
    obtain ⟨h1, h2⟩ := unhide HPL0 n a b c d
    exact ⟨((al_b _ o).block _ (Array.getElem?_eq_some_iff.1 h1).1).trans h1, below_next h2 (al_b _ o)⟩
  have HB2 : Hid (∀ n o, Below (w.alloc (Obj.cells #[.int .i64 0, .int .i64 0, .string ⟨#[]⟩, .int .i64 0] 36)).heap.size (w.alloc (Obj.cells #[.int .i64 0, .int .i64 0, .string ⟨#[]⟩, .int .i64 0] 36)) (((w.alloc (Obj.cells #[.int .i64 0, .int .i64 0, .string ⟨#[]⟩, .int .i64 0] 36)).drewN n).alloc o)) := fun n o => below_next (dn_b (Below.refl _ _) n) (al_b _ _)
  generalize hTX : baT text = TX at *
  generalize baT rest = RS at *
  generalize baT first = FS at *
  generalize baT word = WD at *
  have HTX := hide hTX
  clear hl1 hl2 hdl hs h HM HM0 hTX
  generalize kindW word = K at *
  cases hcw : clientW first with
  | none =>
    have HV2 : Hid (CI = none) := by show _ = _; rw [unhide HV, hcw]; rfl
    have hc2 := cliP_no hcw
    generalize cliP first = cp at *
    obtain ⟨cz, cb⟩ := cp
    simp only at hc2
    subst hc2
    simp only at HR
    clear HV hcw hkc
    go_enter Tryd.func27, Tryd.ntmps27
    go_wp2_with fail
    refine (unhide HC1).mono ?_
    rintro e w2 ⟨rfl, n1, rfl⟩
    clear HC1
    go_wp2_with fail
    refine (unhide HC2 n1).mono ?_
    rintro e w3 ⟨rfl, n2, rfl⟩
    clear HC2
    go_wp2_with fail
    refine (unhide HR _).mono ?_
    rintro e w4 ⟨rfl, rfl⟩
    clear HR
    go_wp2
    obtain ⟨hk1, hk2⟩ := unhide HPL0 (n1 + n2) (.int .i64 0) (.int .i64 0) (.string ⟨#[]⟩) (.int .i64 0)
    refine bodyPost_ret (results_cell_tmp rfl _ _ w.heap.size 36 #[_, _, _, _] (0, 0) _ _ rfl rfl hk1 Tryd.underlying36 rfl (by kernel_rfl)) rfl ?_
    exact ⟨0, 0, 0, ⟨#[]⟩, by rw [unhide HV2]; rfl, fun p hp => (by rw [unhide HV2] at hp; cases hp), hk2⟩
  | some cl =>
    rw [cliP_yes hcw] at HR
    rw [hcw] at HV
    simp only [Option.bind_some] at HV HR
    clear hcw
    rcases hkc with rfl | rfl | rfl | rfl | rfl | rfl | rfl
    · skip
      have HV2 : Hid (CI = none) := by show _ = _; rw [unhide HV]; simp
      clear HV HWR
      go_enter Tryd.func27, Tryd.ntmps27
      go_wp2_with fail
      refine (unhide HC1).mono ?_
      rintro e w2 ⟨rfl, n1, rfl⟩
      clear HC1
      go_wp2_with fail
      refine (unhide HC2 n1).mono ?_
      rintro e w3 ⟨rfl, n2, rfl⟩
      clear HC2
      go_wp2_with fail
      refine (unhide HR _).mono ?_
      rintro e w4 ⟨rfl, rfl⟩
      clear HR
      go_wp2_with fail
      refine (unhide HKD _).mono ?_
      rintro e w5 ⟨rfl, rfl⟩
      clear HKD
      go_wp2
      obtain ⟨hk1, hk2⟩ := unhide HPL (n1 + n2) (Obj.cells #[.int .i64 cl, .int .i64 0, .string TX, .int .i64 0] 36) (.int .i64 0) (.int .i64 0) (.string ⟨#[]⟩) (.int .i64 0)
      refine bodyPost_ret (results_cell_tmp rfl _ _ w.heap.size 36 #[_, _, _, _] (0, 0) _ _ rfl rfl hk1 Tryd.underlying36 rfl (by kernel_rfl)) rfl ?_
      exact ⟨0, 0, 0, ⟨#[]⟩, by rw [unhide HV2]; rfl, fun p hp => (by rw [unhide HV2] at hp; cases hp), hk2⟩
    · skip
      have HV2 : Hid (CI = if more = true then some ⟨cl, 1, text, 0⟩ else none) := by show _ = _; rw [unhide HV]; simp
      clear HV HWR
      go_enter Tryd.func27, Tryd.ntmps27
      go_wp2_with fail
      refine (unhide HC1).mono ?_
      rintro e w2 ⟨rfl, n1, rfl⟩
      clear HC1
      go_wp2_with fail
      refine (unhide HC2 n1).mono ?_
      rintro e w3 ⟨rfl, n2, rfl⟩
      clear HC2
      go_wp2_with fail
      refine (unhide HR _).mono ?_
      rintro e w4 ⟨rfl, rfl⟩
      clear HR
      go_wp2_with fail
      refine (unhide HKD _).mono ?_
      rintro e w5 ⟨rfl, rfl⟩
      clear HKD
      go_wp2
      obtain ⟨hk1, hk2⟩ := unhide HPL (n1 + n2) (Obj.cells #[.int .i64 cl, .int .i64 1, .string TX, .int .i64 0] 36) (.int .i64 cl) (.int .i64 1) (.string TX) (.int .i64 0)
      refine bodyPost_ret (results_cell_tmp rfl _ _ w.heap.size 36 #[_, _, _, _] (0, 0) _ _ rfl rfl hk1 Tryd.underlying36 rfl (by kernel_rfl)) rfl ?_
      refine ⟨cl, 1, 0, TX, ?_, ?_, hk2⟩
      · rw [unhide HV2]; cases more <;> rfl
      · intro p hp
        rw [unhide HV2] at hp
        cases more with
        | false => cases hp
        | true =>
          injection hp with hp
          subst hp
          exact ⟨rfl, rfl, (unhide HTX).symm, rfl⟩
    · skip
      have HV2 : Hid (CI = if more = true then some ⟨cl, 2, text, 0⟩ else none) := by show _ = _; rw [unhide HV]; simp
      clear HV HWR
      go_enter Tryd.func27, Tryd.ntmps27
      go_wp2_with fail
      refine (unhide HC1).mono ?_
      rintro e w2 ⟨rfl, n1, rfl⟩
      clear HC1
      go_wp2_with fail
      refine (unhide HC2 n1).mono ?_
      rintro e w3 ⟨rfl, n2, rfl⟩
      clear HC2
      go_wp2_with fail
      refine (unhide HR _).mono ?_
      rintro e w4 ⟨rfl, rfl⟩
      clear HR
      go_wp2_with fail
      refine (unhide HKD _).mono ?_
      rintro e w5 ⟨rfl, rfl⟩
      clear HKD
      go_wp2
      obtain ⟨hk1, hk2⟩ := unhide HPL (n1 + n2) (Obj.cells #[.int .i64 cl, .int .i64 2, .string TX, .int .i64 0] 36) (.int .i64 cl) (.int .i64 2) (.string TX) (.int .i64 0)
      refine bodyPost_ret (results_cell_tmp rfl _ _ w.heap.size 36 #[_, _, _, _] (0, 0) _ _ rfl rfl hk1 Tryd.underlying36 rfl (by kernel_rfl)) rfl ?_
      refine ⟨cl, 2, 0, TX, ?_, ?_, hk2⟩
      · rw [unhide HV2]; cases more <;> rfl
      · intro p hp
        rw [unhide HV2] at hp
        cases more with
        | false => cases hp
        | true =>
          injection hp with hp
          subst hp
          exact ⟨rfl, rfl, (unhide HTX).symm, rfl⟩
    · skip
      have HV2 : Hid (CI = if more = true then some ⟨cl, 3, text, 0⟩ else none) := by show _ = _; rw [unhide HV]; simp
      clear HV HWR
      go_enter Tryd.func27, Tryd.ntmps27
      go_wp2_with fail
      refine (unhide HC1).mono ?_
      rintro e w2 ⟨rfl, n1, rfl⟩
      clear HC1
      go_wp2_with fail
      refine (unhide HC2 n1).mono ?_
      rintro e w3 ⟨rfl, n2, rfl⟩
      clear HC2
      go_wp2_with fail
      refine (unhide HR _).mono ?_
      rintro e w4 ⟨rfl, rfl⟩
      clear HR
      go_wp2_with fail
      refine (unhide HKD _).mono ?_
      rintro e w5 ⟨rfl, rfl⟩
      clear HKD
      go_wp2
      obtain ⟨hk1, hk2⟩ := unhide HPL (n1 + n2) (Obj.cells #[.int .i64 cl, .int .i64 3, .string TX, .int .i64 0] 36) (.int .i64 cl) (.int .i64 3) (.string TX) (.int .i64 0)
      refine bodyPost_ret (results_cell_tmp rfl _ _ w.heap.size 36 #[_, _, _, _] (0, 0) _ _ rfl rfl hk1 Tryd.underlying36 rfl (by kernel_rfl)) rfl ?_
      refine ⟨cl, 3, 0, TX, ?_, ?_, hk2⟩
      · rw [unhide HV2]; cases more <;> rfl
      · intro p hp
        rw [unhide HV2] at hp
        cases more with
        | false => cases hp
        | true =>
          injection hp with hp
          subst hp
          exact ⟨rfl, rfl, (unhide HTX).symm, rfl⟩
    · skip
      have HV2 : Hid (CI = watchI cl text) := by show _ = _; rw [unhide HV]; simp
      have HW2 := hide (unhide HWR cl)
      rw [← unhide HV2] at HW2
      clear HV HWR HV2
      go_enter Tryd.func27, Tryd.ntmps27
      go_wp2_with fail
      refine (unhide HC1).mono ?_
      rintro e w2 ⟨rfl, n1, rfl⟩
      clear HC1
      go_wp2_with fail
      refine (unhide HC2 n1).mono ?_
      rintro e w3 ⟨rfl, n2, rfl⟩
      clear HC2
      go_wp2_with fail
      refine (unhide HR _).mono ?_
      rintro e w4 ⟨rfl, rfl⟩
      clear HR
      go_wp2_with fail
      refine (unhide HKD _).mono ?_
      rintro e w5 ⟨rfl, rfl⟩
      clear HKD
      go_wp2_with fail
      refine (unhide HW2 _ (unhide HB2 (n1 + n2) _)).mono ?_
      rintro e w6 ⟨c, k, r, t, rfl, hp, b6⟩
      obtain ⟨hk1, hk2⟩ := put4_late (below_next (unhide HB2 (n1 + n2) _) b6) (.int .i64 c) (.int .i64 k) (.string t) (.int .i64 r)
      have HP := hide hp
      have HK1 := hide hk1
      have HK2 := hide hk2
      have HZ := hide (heap_alloc_new w (Obj.cells #[.int .i64 0, .int .i64 0, .string ⟨#[]⟩, .int .i64 0] 36))
      have HB6 := hide ((unhide HB2 (n1 + n2) _).trans (b6.mono (unhide HB2 (n1 + n2) _).size))
      have fz : w6.frozen? ⟨w.heap.size, 0, none⟩ = false := Lib.frozen_of_heap (((unhide HB6).block _ (by simp)).trans (unhide HZ)) 0
      have f1 : w6.frozen? ⟨w.heap.size, 1, none⟩ = false := Lib.frozen_of_heap (((unhide HB6).block _ (by simp)).trans (unhide HZ)) 1
      have f2 : w6.frozen? ⟨w.heap.size, 2, none⟩ = false := Lib.frozen_of_heap (((unhide HB6).block _ (by simp)).trans (unhide HZ)) 2
      have f3 : w6.frozen? ⟨w.heap.size, 3, none⟩ = false := Lib.frozen_of_heap (((unhide HB6).block _ (by simp)).trans (unhide HZ)) 3
      have c0 : w6.cell? ⟨w.heap.size, 0, none⟩ = some (.int .i64 0) := Lib.cell_of_heap (((unhide HB6).block _ (by simp)).trans (unhide HZ)) 0
      have c1 : w6.cell? ⟨w.heap.size, 1, none⟩ = some (.int .i64 0) := Lib.cell_of_heap (((unhide HB6).block _ (by simp)).trans (unhide HZ)) 1
      have c2 : w6.cell? ⟨w.heap.size, 2, none⟩ = some (.string ⟨#[]⟩) := Lib.cell_of_heap (((unhide HB6).block _ (by simp)).trans (unhide HZ)) 2
      have c3 : w6.cell? ⟨w.heap.size, 3, none⟩ = some (.int .i64 0) := Lib.cell_of_heap (((unhide HB6).block _ (by simp)).trans (unhide HZ)) 3
      clear HW2 hp hk1 hk2 b6 HB2 HPL HPL0 HZ HB6 HTX
      go_wp2
      have hk1 := unhide HK1
      refine bodyPost_ret (results_cell_tmp rfl _ _ w.heap.size 36 #[_, _, _, _] (0, 0) _ _ rfl rfl hk1 Tryd.underlying36 rfl (by kernel_rfl)) rfl ?_
      exact ⟨c, k, r, t, rfl, unhide HP, unhide HK2⟩
    · skip
      have HV2 : Hid (CI = if more = false then some ⟨cl, 5, text, 0⟩ else none) := by show _ = _; rw [unhide HV]; simp
      clear HV HWR
      go_enter Tryd.func27, Tryd.ntmps27
      go_wp2_with fail
      refine (unhide HC1).mono ?_
      rintro e w2 ⟨rfl, n1, rfl⟩
      clear HC1
      go_wp2_with fail
      refine (unhide HC2 n1).mono ?_
      rintro e w3 ⟨rfl, n2, rfl⟩
      clear HC2
      go_wp2_with fail
      refine (unhide HR _).mono ?_
      rintro e w4 ⟨rfl, rfl⟩
      clear HR
      go_wp2_with fail
      refine (unhide HKD _).mono ?_
      rintro e w5 ⟨rfl, rfl⟩
      clear HKD
      go_wp2
      obtain ⟨hk1, hk2⟩ := unhide HPL (n1 + n2) (Obj.cells #[.int .i64 cl, .int .i64 5, .string TX, .int .i64 0] 36) (.int .i64 cl) (.int .i64 5) (.string TX) (.int .i64 0)
      refine bodyPost_ret (results_cell_tmp rfl _ _ w.heap.size 36 #[_, _, _, _] (0, 0) _ _ rfl rfl hk1 Tryd.underlying36 rfl (by kernel_rfl)) rfl ?_
      refine ⟨cl, 5, 0, TX, ?_, ?_, hk2⟩
      · rw [unhide HV2]; cases more <;> rfl
      · intro p hp
        rw [unhide HV2] at hp
        cases more with
        | true => cases hp
        | false =>
          injection hp with hp
          subst hp
          exact ⟨rfl, rfl, (unhide HTX).symm, rfl⟩
    · skip
      have HV2 : Hid (CI = if more = false then some ⟨cl, 6, text, 0⟩ else none) := by show _ = _; rw [unhide HV]; simp
      clear HV HWR
      go_enter Tryd.func27, Tryd.ntmps27
      go_wp2_with fail
      refine (unhide HC1).mono ?_
      rintro e w2 ⟨rfl, n1, rfl⟩
      clear HC1
      go_wp2_with fail
      refine (unhide HC2 n1).mono ?_
      rintro e w3 ⟨rfl, n2, rfl⟩
      clear HC2
      go_wp2_with fail
      refine (unhide HR _).mono ?_
      rintro e w4 ⟨rfl, rfl⟩
      clear HR
      go_wp2_with fail
      refine (unhide HKD _).mono ?_
      rintro e w5 ⟨rfl, rfl⟩
      clear HKD
      go_wp2
      obtain ⟨hk1, hk2⟩ := unhide HPL (n1 + n2) (Obj.cells #[.int .i64 cl, .int .i64 6, .string TX, .int .i64 0] 36) (.int .i64 cl) (.int .i64 6) (.string TX) (.int .i64 0)
      refine bodyPost_ret (results_cell_tmp rfl _ _ w.heap.size 36 #[_, _, _, _] (0, 0) _ _ rfl rfl hk1 Tryd.underlying36 rfl (by kernel_rfl)) rfl ?_
      refine ⟨cl, 6, 0, TX, ?_, ?_, hk2⟩
      · rw [unhide HV2]; cases more <;> rfl
      · intro p hp
        rw [unhide HV2] at hp
        cases more with
        | true => cases hp
        | false =>
          injection hp with hp
          subst hp
          exact ⟨rfl, rfl, (unhide HTX).symm, rfl⟩
end Go.Proofs.YtbihihkdgckgnaaDoor


namespace Go.Proofs.YtbihihkdgckgnaaDoor
open Go.RowKit

/-- Rows of calls and of picks that the call owns. -/
def callC (c : PCall) : List Value := [.int .i64 c.cl, .int .i64 c.k, .string (baT c.tx), .int .i64 c.rm]
def OC (w : World) (B : Nat) (v : Value) (cs : List PCall) : Prop := w.ownsRow B 36 4 v cs.length (cs.flatMap callC)
def OI (w : World) (B : Nat) (v : Value) (ns : List Int) : Prop := w.ownsRow B 3 1 v ns.length (ns.map (Value.int .i64))
theorem infoCall : (Tryd.prog.info? 36).map (fun i => (i.zero, i.size, i.bytes)) = some (some (.agg #[.int .i64 0, .int .i64 0, .string ByteArray.empty, .int .i64 0]), 4, 40) := by kernel_rfl
theorem infoInt : (Tryd.prog.info? 3).map (fun i => (i.zero, i.size, i.bytes)) = some (some (.int .i64 0), 1, 8) := by kernel_rfl
theorem OC.nil (w : World) (B : Nat) : OC w B (.slice none 0 0) [] := w.ownsRow_nil _ _ _
theorem OI.nil (w : World) (B : Nat) : OI w B (.slice none 0 0) [] := w.ownsRow_nil _ _ _
theorem own_slice {w : World} {B e size n : Nat} {v : Value} {xs : List Value} (h : w.ownsRow B e size v n xs) : ∃ x z, v = .slice x n z := by
  rcases h.2 with ⟨hv, h0⟩ | ⟨g, cap, cur, hv, _⟩
  · exact ⟨none, 0, by rw [hv, h0]⟩
  · exact ⟨_, _, hv⟩
theorem OC.snoc {w : World} {B : Nat} {v : Value} {cs : List PCall} {c : PCall} (h : w.ownsRow B 36 4 v (cs.length + 1) (cs.flatMap callC ++ callC c)) : OC w B v (cs ++ [c]) := by
  unfold OC
  rw [List.length_append, List.flatMap_append, List.flatMap_singleton]
  exact h
theorem OI.join {w : World} {B : Nat} {v : Value} {ns ms : List Int} (h : w.ownsRow B 3 1 v (ns.length + ms.length) (ns.map (Value.int .i64) ++ ms.map (Value.int .i64))) : OI w B v (ns ++ ms) := by
  unfold OI
  rw [List.length_append, List.map_append]
  exact h
theorem callC_one (c : PCall) : ∀ u ∈ callC c, u.oneCell' = true := by
  intro u hu
  simp [callC] at hu
  rcases hu with rfl | rfl | rfl | rfl <;> rfl
theorem ints_one (ns : List Int) : ∀ u ∈ ns.map (Value.int .i64), u.oneCell' = true := by
  intro u hu
  obtain ⟨n, -, rfl⟩ := List.mem_map.1 hu
  rfl
theorem wpList_append_call {w : World} {ops : Array Oper} {rest : List Oper} {o : Oper} {a : Act} {Q : Exit → Act → World → Prop} (hg : o.guard = none) (s x : Operand)
    (ho : o.op = .call { callee := .builtin .append, args := #[s, x], argTypes := #[22, 22] }) {B : Nat} {v : Value} {cs : List PCall} {c : PCall} (hs : a.eval s = v) (h : OC w B v cs) {g : Nat} (hx : a.eval x = .slice (some ⟨g, 0, none⟩) 1 1)
    (hcell : ∀ (j : Nat) (u : Value), (callC c)[j]? = some u → w.cell? ((⟨g, 0, none⟩ : Addr).add j) = some u) (hB : B ≤ w.heap.size) (hl : cs.length ≤ 4000000)
    (hK : ∀ v' w', OC w' B v' (cs ++ [c]) → w.grownBy w' v.ownBlock → wpList Tryd.prog ops Q rest (a.put o.dst v') w') : wpList Tryd.prog ops Q (o :: rest) a w := by
  obtain ⟨i0, hi, hz0, hz1, hz2⟩ := info_parts infoCall
  refine wpList_append_own _ hg s x 22 ho B 36 i0 _ 4 40 Tryd.underlying22 hi hz0 hz1 hz2 rfl (by decide) v _ _ hs h ⟨g, 0, none⟩ 1 1 (callC c) hx rfl hcell (callC_one c) (by unfold maxLen; omega) (by omega) hB ?_
  intro v' w' h1 h2 _
  exact hK v' w' (OC.snoc h1) h2
theorem OI.cells {w : World} {B : Nat} {v : Value} {ns : List Int} (h : OI w B v ns) : (v = .slice none 0 0 ∧ ns = []) ∨ ∃ g cap, v = .slice (some ⟨g, 0, none⟩) ns.length cap ∧ ∀ (j : Nat) (u : Value), (ns.map (Value.int .i64))[j]? = some u → w.cell? ((⟨g, 0, none⟩ : Addr).add j) = some u := by
  rcases h.2 with ⟨hv, h0⟩ | ⟨g, cap, cur, hv, _⟩
  · exact .inl ⟨hv, List.eq_nil_of_length_eq_zero h0⟩
  · refine .inr ⟨g, cap, hv, fun j u hu => ?_⟩
    have := World.ownsRow.cells (g := g) (show w.ownsRow B 3 1 v ns.length (ns.map (Value.int .i64)) from h) (by rw [hv]; rfl) j u hu
    exact this
theorem wpList_append_ints {w : World} {ops : Array Oper} {rest : List Oper} {o : Oper} {a : Act} {Q : Exit → Act → World → Prop} (hg : o.guard = none) (s x : Operand)
    (ho : o.op = .call { callee := .builtin .append, args := #[s, x], argTypes := #[23, 23] }) {B B' : Nat} {v u : Value} {ns ms : List Int} (hs : a.eval s = v) (hx : a.eval x = u) (h : OI w B v ns) (k : OI w B' u ms) (hB : B ≤ w.heap.size) (hl : ns.length + ms.length ≤ 4000000)
    (hK : ∀ v' w', OI w' B v' (ns ++ ms) → w.grownBy w' v.ownBlock → wpList Tryd.prog ops Q rest (a.put o.dst v') w') : wpList Tryd.prog ops Q (o :: rest) a w := by
  obtain ⟨i0, hi, hz0, hz1, hz2⟩ := info_parts infoInt
  rcases k.cells with ⟨rfl, rfl⟩ | ⟨g, cap, rfl, hcell⟩
  · refine wpList_append_own_none hg s x 23 ho B 3 i0 1 Tryd.underlying23 hi v _ _ hs h hx ?_
    exact hK v w (by rw [List.append_nil]; exact h) (World.grownBy.refl _ _)
  · refine wpList_append_own _ hg s x 23 ho B 3 i0 _ 1 8 Tryd.underlying23 hi hz0 hz1 hz2 rfl (by decide) v _ _ hs h ⟨g, 0, none⟩ ms.length cap (ms.map (Value.int .i64)) hx (by simp) hcell (ints_one ms) (by unfold maxLen; omega) (by omega) hB ?_
    intro v' w' h1 h2 _
    exact hK v' w' (OI.join h1) h2
/-- One pick more, out of a literal row. -/
theorem wpList_append_int {w : World} {ops : Array Oper} {rest : List Oper} {o : Oper} {a : Act} {Q : Exit → Act → World → Prop} (hg : o.guard = none) (s x : Operand)
    (ho : o.op = .call { callee := .builtin .append, args := #[s, x], argTypes := #[23, 23] }) {B : Nat} {v : Value} {ns : List Int} {n : Int} (hs : a.eval s = v) (h : OI w B v ns) {g : Nat} (hx : a.eval x = .slice (some ⟨g, 0, none⟩) 1 1) (hcell : w.cell? ⟨g, 0, none⟩ = some (.int .i64 n)) (hB : B ≤ w.heap.size) (hl : ns.length ≤ 4000000)
    (hK : ∀ v' w', OI w' B v' (ns ++ [n]) → w.grownBy w' v.ownBlock → wpList Tryd.prog ops Q rest (a.put o.dst v') w') : wpList Tryd.prog ops Q (o :: rest) a w := by
  obtain ⟨i0, hi, hz0, hz1, hz2⟩ := info_parts infoInt
  refine wpList_append_own _ hg s x 23 ho B 3 i0 _ 1 8 Tryd.underlying23 hi hz0 hz1 hz2 rfl (by decide) v _ _ hs h ⟨g, 0, none⟩ 1 1 ([n].map (Value.int .i64)) hx (by simp) ?_ (ints_one [n]) (by unfold maxLen; omega) (by omega) hB ?_
  · intro j u hu
    match j, hu with
    | 0, hu => simp at hu; subst hu; exact hcell
    | j + 1, hu => simp at hu
  · intro v' w' h1 h2 _
    exact hK v' w' (OI.join h1) h2
end Go.Proofs.YtbihihkdgckgnaaDoor


namespace Go.Proofs.YtbihihkdgckgnaaDoor
open Go.RowKit Go.Shelf

/-- What a line of picks comes out as. -/
def PicksR (o : Option (List Int)) (w : World) : Ending → World → Prop := fun e w' => ∃ x y z, e = .returned (.tuple #[.slice x y z, .bool o.isSome]) ∧ Below w.heap.size w w' ∧ ∀ ps, o = some ps → OI w' w.heap.size (.slice x y z) ps
theorem mapM_snoc (x : List UInt8) : ∀ l : List (List UInt8), (l ++ [x]).mapM pickW = (l.mapM pickW).bind fun r => (pickW x).map fun n => r ++ [n]
  | [] => by
    simp only [List.nil_append, List.mapM_cons, List.mapM_nil]
    cases pickW x <;> rfl
  | y :: l => by
    rw [List.cons_append, List.mapM_cons, mapM_snoc x l, List.mapM_cons]
    cases pickW y with
    | none => rfl
    | some n =>
      cases l.mapM pickW with
      | none => rfl
      | some r => cases pickW x <;> rfl
theorem mapM_app_none {x : List UInt8} (hx : pickW x = none) (r : List (List UInt8)) : ∀ l : List (List UInt8), (l ++ x :: r).mapM pickW = none
  | [] => by
    rw [List.nil_append, List.mapM_cons, hx]; rfl
  | y :: l => by
    rw [List.cons_append, List.mapM_cons, mapM_app_none hx r l]
    cases pickW y <;> rfl
theorem mapM_len : ∀ (l : List (List UInt8)) (ns : List Int), l.mapM pickW = some ns → ns.length = l.length
  | [], ns, h => by simp at h; subst h; rfl
  | y :: l, ns, h => by
    rw [List.mapM_cons] at h
    cases hy : pickW y with
    | none => rw [hy] at h; cases h
    | some n =>
      rw [hy] at h
      cases hl : l.mapM pickW with
      | none => rw [hl] at h; cases h
      | some r =>
        rw [hl] at h
        have e : n :: r = ns := by injection h
        subst e
        rw [List.length_cons, List.length_cons, mapM_len l r hl]
set_option maxHeartbeats 8000000 in
set_option maxRecDepth 100000 in
theorem readPicks_walk (s : ByteArray) (w : World) (h : ML w) (hs : s.size ≤ 1048576) : Calls Tryd.prog 26 #[.string s] w (PicksR (lineP s.data.toList) w) := by
  have HS := hide (split_walkB 32 s w h hs)
  have hcl := cutsB_le 32 s
  have hcd := cutsB_data 32 s
  have HLP := hide (lineP_words s.data.toList)
  have hsz : ∀ x ∈ cutsB 32 s, x.size ≤ 1048576 := by
    intro x hx
    have h1 : x.data.toList ∈ piecesB 32 s.data.toList := by rw [← hcd]; exact List.mem_map_of_mem hx
    have h2 := piecesB_le h1
    rw [data_len] at h2
    rw [data_len s] at h2
    omega
  rw [← hcd] at HLP
  generalize lineP s.data.toList = LP at *
  generalize cutsB 32 s = ws at *
  have hne : ws ≠ [] := by
    intro e
    rw [e] at hcd
    exact piecesB_ne 32 s.data.toList (by rw [← hcd]; rfl)
  obtain ⟨w0, rest, rfl⟩ : ∃ w0 rest, ws = w0 :: rest := by
    cases ws with
    | nil => exact absurd rfl hne
    | cons a r => exact ⟨a, r, rfl⟩
  simp only [List.map_cons] at HLP
  have HRP : Hid (∀ x ∈ rest, ∀ wx, Calls Tryd.prog 34 #[.string x] wx fun e w' => e = .returned (.tuple #[.int .i64 (pkP x.data.toList).1, .bool (pkP x.data.toList).2]) ∧ wx = w') := fun x hx wx => readPick_walk x wx (hsz x (by simp [hx]))
  rw [List.length_cons] at hcl HS
  have hrl : rest.length ≤ 1048576 := by omega
  have hrI : (rest.length : Int) ≤ 1048576 := by omega
  clear hcd hsz hne hcl h
  have hlp : (0 : Int) < ((rest.length + 1 : Nat) : Int) := by omega
  by_cases hw0 : w0.toList = [112, 105, 99, 107, 115]
  · have t1 : (w0.toList == [112, 105, 99, 107, 115]) = true := by simpa using hw0
    have HL2 : Hid (LP = (rest.map (·.data.toList)).mapM pickW) := by show _ = _; rw [unhide HLP, if_pos (by rw [← ByteArray.toList_eq]; exact hw0)]
    clear hw0 HLP
    by_cases hre : rest = []
    · subst hre
      have HL3 : Hid (LP = some []) := unhide HL2
      clear HL2 HRP
      go_enter Tryd.func26, Tryd.ntmps26
      go_wp2_with fail
      refine (unhide HS).mono ?_
      rintro e w2 ⟨rfl, ⟨-, hcell⟩, b2, hlt2⟩
      have c0 := hcell 0 (by simp)
      simp only [Nat.add_zero, List.getD_cons_zero] at c0
      have HB2 := hide b2
      clear HS hcell b2
      go_wp2
      go_loopw [5, 19] (fun pv iv wr => pv = .slice none 0 0 ∧ iv = .int .i64 0 ∧ w2 = wr) (fun _ _ _ => 0)
      case atStart => exact ⟨rfl, rfl, rfl⟩
      case round =>
        obtain ⟨rfl, rfl, rfl⟩ := hrel
        go_wp2
        go_ret2
        exact ⟨_, _, _, by rw [unhide HL3]; rfl, unhide HB2, fun ps hp => by rw [unhide HL3] at hp; injection hp with hp; subst hp; exact OI.nil _ _⟩
    · have hrf : (rest = []) = False := eq_false hre
      clear hre
      go_enter Tryd.func26, Tryd.ntmps26
      go_wp2_with fail
      refine (unhide HS).mono ?_
      rintro e w2 ⟨rfl, ⟨-, hcell⟩, b2, hlt2⟩
      have c0 := hcell 0 (by simp)
      simp only [Nat.add_zero, List.getD_cons_zero] at c0
      have HCE : Hid (∀ j (hj : j < rest.length), w2.cell? ⟨w.heap.size, 1 + j, none⟩ = some (.string rest[j])) := fun j hj => by
        have := hcell (j + 1) (by simp; omega)
        rw [List.getD_cons_succ, List.getD_eq_getElem?_getD, List.getElem?_eq_getElem hj, Option.getD_some, Nat.zero_add, Nat.add_comm] at this
        exact this
      have HB2 := hide b2
      clear HS hcell b2
      go_wp2
      go_loopw [5, 19] (fun pv iv wr => ∃ (j : Nat) (ns : List Int), j ≤ rest.length ∧ iv = .int .i64 (j : Int) ∧ Hid (OI wr w2.heap.size pv ns) ∧ Hid (((rest.take j).map (·.data.toList)).mapM pickW = some ns) ∧ Hid (Below w2.heap.size w2 wr)) (fun _ i _ => rest.length - (intOf i).toNat)
      case atStart => exact ⟨0, [], Nat.zero_le _, rfl, OI.nil _ _, rfl, Below.refl _ _⟩
      case round =>
        obtain ⟨j, ns, hj, rfl, hO, hM, hb⟩ := hrel
        obtain ⟨x, z, rfl⟩ := own_slice (unhide hO)
        by_cases hlt : j < rest.length
        · have hltI : (j : Int) < (rest.length : Int) := by omega
          have hc0 := unhide HCE j hlt
          have hc := ((unhide hb).block w.heap.size hlt2)
          have c1 : wr.cell? ⟨w.heap.size, 1 + j, none⟩ = some (.string rest[j]) := (World.cell?_of_block (a := ⟨w.heap.size, 1 + j, none⟩) hc).trans hc0
          have HRJ := hide (unhide HRP rest[j] (List.getElem_mem hlt) wr)
          have HTK : Hid ((rest.take (j + 1)).map (·.data.toList) = (rest.take j).map (·.data.toList) ++ [rest[j].data.toList]) := by show _ = _; rw [List.take_succ_eq_append_getElem hlt, List.map_append]; rfl
          have hnl := mapM_len _ _ (unhide hM)
          rw [List.length_map, List.length_take] at hnl
          have hnb : ns.length ≤ 1048576 := by omega
          clear hnl
          have HSP : Hid (rest.map (·.data.toList) = (rest.take j).map (·.data.toList) ++ rest[j].data.toList :: (rest.drop (j + 1)).map (·.data.toList)) := by
            have e : rest = rest.take j ++ rest[j] :: rest.drop (j + 1) := by rw [List.getElem_cons_drop, List.take_append_drop]
            exact (congrArg (List.map (·.data.toList)) e).trans (by rw [List.map_append, List.map_cons])
          clear hc hc0 c0 HCE HRP
          generalize rest[j] = W at *
          cases hpk : pickW W.data.toList with
          | none =>
            have HV : Hid (LP = none) := by show _ = _; rw [unhide HL2, unhide HSP]; exact mapM_app_none hpk _ _
            have h2 := pkP_no hpk
            generalize pkP W.data.toList = q at *
            obtain ⟨z1, z2⟩ := q
            simp only at h2
            subst h2
            simp only at HRJ
            have HBB := hide (below_next (unhide HB2) (unhide hb))
            clear hpk HL2 HTK hM hO hb HSP
            go_wp2_with fail
            refine (unhide HRJ).mono ?_
            rintro e w3 ⟨rfl, rfl⟩
            clear HRJ
            go_wp2
            go_ret2
            exact ⟨_, _, _, by rw [unhide HV]; rfl, unhide HBB, fun ps hp => by rw [unhide HV] at hp; cases hp⟩
          | some n =>
            rw [pkP_yes hpk] at HRJ
            simp only at HRJ
            have HM2 : Hid (((rest.take (j + 1)).map (·.data.toList)).mapM pickW = some (ns ++ [n])) := by show _ = _; rw [unhide HTK, mapM_snoc, unhide hM, hpk]; rfl
            have HOA : Hid (∀ o, OI (wr.alloc o) w2.heap.size (.slice x ns.length z) ns) := fun o => own_below (unhide hO) (al_b wr o)
            have hbs := (unhide hb).size
            have HCL : Hid (∀ u, (wr.alloc (Obj.cells #[u] 3)).cell? ⟨wr.heap.size, 0, none⟩ = some u) := fun u => Lib.cell_of_heap (heap_alloc_new wr (Obj.cells #[u] 3)) 0
            clear hpk HL2 HTK hM hO HSP
            go_wp2_with fail
            refine (unhide HRJ).mono ?_
            rintro e w3 ⟨rfl, rfl⟩
            clear HRJ
            go_wp2_with (at_builtin; refine wpList_append_int rfl (.tmp 30) (.tmp 32) rfl rfl (unhide HOA _) rfl (unhide HCL _) (by simp; omega) (by omega) ?_)
            intro v' w4 hO4 hg4
            have HO4 := hide hO4
            have HB4 : Hid (Below w2.heap.size w2 w4) := ((unhide hb).trans ((al_b wr _).mono hbs)).grown hg4 (by simp; omega) (fun k hk => ((unhide HOA (Obj.cells #[.int .i64 n] 3)).lt k hk).1)
            clear hO4 hg4 HOA HCL hb
            go_wp2
            go_roundw
            case rel => exact ⟨j + 1, ns ++ [n], by omega, by go_num, HO4, HM2, HB4⟩
            case measure => simp [intOf]; omega
        · have hje : rest.take j = rest := List.take_of_length_le (by omega)
          rw [hje] at hM
          have HV : Hid (LP = some ns) := by show _ = _; rw [unhide HL2]; exact unhide hM
          have HBB := hide (below_next (unhide HB2) (unhide hb))
          clear hM HL2 HCE HRP hje hb c0
          go_wp2
          go_ret2
          exact ⟨_, _, _, by rw [unhide HV]; rfl, unhide HBB, fun ps hp => by rw [unhide HV] at hp; injection hp with hp; subst hp; exact own_mono (unhide hO) (by have := (unhide HB2).size; omega)⟩
  · have t1 : (w0.toList == [112, 105, 99, 107, 115]) = false := by simpa using hw0
    have HL2 : Hid (LP = none) := by show _ = _; rw [unhide HLP, if_neg (by rw [← ByteArray.toList_eq]; exact hw0)]
    clear hw0 HLP HRP
    go_enter Tryd.func26, Tryd.ntmps26
    go_wp2_with fail
    refine (unhide HS).mono ?_
    rintro e w2 ⟨rfl, ⟨-, hcell⟩, b2, hlt2⟩
    have c0 := hcell 0 (by simp)
    simp only [Nat.add_zero, List.getD_cons_zero] at c0
    have HB2 := hide b2
    clear HS hcell b2
    go_wp2
    go_ret2
    exact ⟨_, _, _, by rw [unhide HL2]; rfl, unhide HB2, fun ps hp => by rw [unhide HL2] at hp; cases hp⟩
end Go.Proofs.YtbihihkdgckgnaaDoor

