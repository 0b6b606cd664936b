import Derived.Test.YtlfonikfjibloaaGreatDoorBt5
import Derived.Test.YtlfonikfjibloaaGreatDoorBt23
import Derived.Test.YtlfonikfjibloaaGreatDoorBt22
namespace Go.Proofs.YtlfonikfjibloaaGreatDoor
open Go.RowKit

theorem ba_data (s : ByteArray) : baT s.data.toList = s := by obtain ⟨⟨l⟩⟩ := s; rfl
def onlyP (ss : List ByteArray) : List (List UInt8) := (ss.filter fun s => (ptoks s.data.toList).isSome).map (·.data.toList)
theorem onlyP_step {ss : List ByteArray} {k : Nat} (h : k < ss.length) : onlyP (ss.take (k + 1)) = onlyP (ss.take k) ++ (if (ptoks (ss.getD k ByteArray.empty).data.toList).isSome then [(ss.getD k ByteArray.empty).data.toList] else []) := by
  rw [take_snoc h]
  generalize ss.getD k ByteArray.empty = s
  unfold onlyP
  rw [List.filter_append, List.map_append]
  congr 1
  cases hp : (ptoks s.data.toList).isSome <;> simp [hp]
theorem onlyP_len (ss : List ByteArray) : (onlyP ss).length ≤ ss.length := by
  unfold onlyP; rw [List.length_map]; exact List.length_filter_le _ _

set_option maxHeartbeats 1000000 in
theorem isPtr_walk (s : ByteArray) (w : World) (hML : ML w) (hsz : s.size ≤ 1048576) :
    Calls Tryz.prog 117 #[.string s] w fun e w' => e = .returned (.bool (ptoks s.data.toList).isSome) ∧ Below w.heap.size w w' := by
  have HT := hide (implToks_walk s w hML hsz)
  clear hML
  generalize (ptoks s.data.toList).isSome = z at *
  go_enter Tryz.func117, Tryz.ntmps117
  go_wp2_with fail
  refine (unhide HT).mono ?_
  rintro e w1 ⟨v0, rfl, o1, b1⟩
  have HB := hide b1
  clear HT o1 b1
  go_wp2
  go_ret
  exact ⟨rfl, unhide HB⟩
set_option maxHeartbeats 1000000 in
set_option maxRecDepth 100000 in
theorem only_walk (xa : Option Addr) (xb xo xc : Nat) (ss : List ByteArray) (w : World) (hML : ML w) (h : SS w xa xb xo ss) (hm : ss.length + tot ss ≤ 1048576) :
    Calls Tryz.prog 124 #[.slice xa ss.length xc] w fun e w' => ∃ v, e = .returned v ∧ OT w' w.heap.size v (onlyP ss) ∧ Below w.heap.size w w' := by
  obtain ⟨i0, hi, hz0, hz1, hz2⟩ := info_parts infoString
  have hadr := h.ad
  have HC := hide h.cell
  clear h
  have hlen : ss.length ≤ 1048576 := by omega
  have HM := hide hm
  have HL := hide hML
  clear hm hML
  go_enter Tryz.func124, Tryz.ntmps124
  go_wp2
  go_loopw [3, 8] (fun v i wr => ∃ k : Nat, k ≤ ss.length ∧ i = .int .i64 k ∧ OT wr w.heap.size v (onlyP (ss.take k)) ∧ Below w.heap.size w wr) (fun _ i _ => ss.length - (intOf i).toNat)
  case atStart => exact ⟨0, Nat.zero_le _, rfl, World.ownsRow_nil _ _ _ _, Below.refl _ _⟩
  case round =>
    obtain ⟨k, hk, rfl, hown, hb⟩ := hrel
    by_cases hlt : k < ss.length
    · have hc0 := unhide HC k hlt
      have hxb : xb < w.heap.size := World.block_lt_of_cell? _ _ hc0
      obtain rfl := hadr (by omega)
      have hsz : (ss.getD k ByteArray.empty).size ≤ 1048576 := by have := tot_ge hlt; have := unhide HM; omega
      have hst := onlyP_step hlt
      have hol := onlyP_len (ss.take k)
      have hol2 : (ss.take k).length ≤ k := by rw [List.length_take]; omega
      generalize hs : ss.getD k ByteArray.empty = s at *
      have HST := hide hst
      have hc : wr.cell? ⟨xb, xo + k, none⟩ = some (.string s) := (hb.cell (p := ⟨xb, xo + k, none⟩) hxb).trans hc0
      have HT := hide (isPtr_walk s wr ((unhide HL).below hb) hsz)
      generalize onlyP (ss.take k) = p at *
      have hpl : p.length ≤ 1048576 := by omega
      have HB := hide hb
      have hwsz := hb.size
      clear hadr hst hs hol hol2 hb
      cases hp : (ptoks s.data.toList).isSome with
      | false =>
        rw [hp] at HT HST
        clear hp
        go_wp2_with fail
        refine (unhide HT).mono ?_
        rintro e w1 ⟨rfl, b1⟩
        have B1 := below_next (unhide HB) b1
        have own1 := own_below hown b1
        clear hown b1 HT HB
        go_wp2
        go_roundw
        case rel => exact ⟨k + 1, by omega, by go_num, by rw [unhide HST]; simpa using own1, B1⟩
        case measure => simp [intOf]; omega
      | true =>
        rw [hp] at HT HST
        clear hp
        go_wp2_with fail
        refine (unhide HT).mono ?_
        rintro e w1 ⟨rfl, b1⟩
        have B1 := below_next (unhide HB) b1
        have hw1 := B1.size
        have own1 := own_below hown b1
        have HQ := hide (ba_data s)
        clear hown b1 HT HB
        go_wp2_with (at_builtin; first | (refine wpList_append_own _ rfl (.tmp 15) (.tmp 17) 51 rfl w.heap.size 9 i0 (.string ByteArray.empty) 1 16 Tryz.underlying51 hi hz0 hz1 hz2 rfl (by decide) _ _ _ rfl (own1.alloc _) ⟨w1.heap.size, 0, none⟩ 1 1 [.string s] rfl rfl (lit1 _ _ _) (one_tok _) (by unfold maxLen; omega) (by omega) (by simp; omega) ?_) | (refine wpList_append_own _ rfl (.tmp 14) (.tmp 16) 51 rfl w.heap.size 9 i0 (.string ByteArray.empty) 1 16 Tryz.underlying51 hi hz0 hz1 hz2 rfl (by decide) _ _ _ rfl (own1.alloc _) ⟨w1.heap.size, 0, none⟩ 1 1 [.string s] rfl rfl (lit1 _ _ _) (one_tok _) (by unfold maxLen; omega) (by omega) (by simp; omega) ?_) | (refine wpList_append_own _ rfl (.tmp 13) (.tmp 15) 51 rfl w.heap.size 9 i0 (.string ByteArray.empty) 1 16 Tryz.underlying51 hi hz0 hz1 hz2 rfl (by decide) _ _ _ rfl (own1.alloc _) ⟨w1.heap.size, 0, none⟩ 1 1 [.string s] rfl rfl (lit1 _ _ _) (one_tok _) (by unfold maxLen; omega) (by omega) (by simp; omega) ?_) | (refine wpList_append_own _ rfl (.tmp 16) (.tmp 18) 51 rfl w.heap.size 9 i0 (.string ByteArray.empty) 1 16 Tryz.underlying51 hi hz0 hz1 hz2 rfl (by decide) _ _ _ rfl (own1.alloc _) ⟨w1.heap.size, 0, none⟩ 1 1 [.string s] rfl rfl (lit1 _ _ _) (one_tok _) (by unfold maxLen; omega) (by omega) (by simp; omega) ?_))
        intro v2 w2 hown2 hgrow2 _
        have B2 : Below w.heap.size w w2 := (B1.alloc hw1 _).grown hgrow2 (by simp; omega) (fun k hk => (own1.lt k hk).1)
        have own2 : OT w2 w.heap.size v2 (p ++ [s.data.toList]) := OT.step (t := s.data.toList) (by rw [show tokCell s.data.toList = .string s from congrArg Value.string (unhide HQ)]; exact hown2)
        clear hown2 hgrow2 own1
        go_wp2
        go_roundw
        case rel => exact ⟨k + 1, by omega, by go_num, by rw [unhide HST]; exact own2, B2⟩
        case measure => simp [intOf]; omega
    · have e : ss.take k = ss := List.take_of_length_le (by omega)
      rw [e] at hown
      clear hadr
      go_wp2
      go_ret
      exact ⟨_, rfl, hown, hb⟩

set_option maxHeartbeats 1000000 in
theorem leads_walk (x y : ByteArray) (w : World) :
    Calls Tryz.prog 247 #[.string x, .string y] w fun e w' => e = .returned (.bool (lead x.data.toList y.data.toList)) ∧ w = w' := by
  have HC := hide (Tryz.strings_CutPrefix y x w)
  have HR : Hid (lead x.data.toList y.data.toList = (Lib.hasPrefix y.data.toList x.data.toList && (match Lib.trimPrefix y.data.toList x.data.toList with | [] => true | c :: _ => c.toNat == 47))) := rfl
  generalize Lib.hasPrefix y.data.toList x.data.toList = b at *
  generalize Lib.trimPrefix y.data.toList x.data.toList = r at *
  generalize lead x.data.toList y.data.toList = z at *
  cases b with
  | false =>
    go_enter Tryz.func247, Tryz.ntmps247
    go_wp2_with fail
    refine (unhide HC).mono ?_
    rintro e w1 ⟨rfl, rfl⟩
    clear HC
    go_wp2
    go_ret
    exact ⟨by rw [unhide HR]; rfl, rfl⟩
  | true =>
    cases r with
    | nil =>
      go_enter Tryz.func247, Tryz.ntmps247
      go_wp2_with fail
      refine (unhide HC).mono ?_
      rintro e w1 ⟨rfl, rfl⟩
      clear HC
      go_wp2
      go_ret
      exact ⟨by rw [unhide HR]; rfl, rfl⟩
    | cons c r =>
      have hsz : (⟨(c :: r).toArray⟩ : ByteArray).size = r.length + 1 := by show (c :: r).toArray.size = _; simp
      have hne : (⟨(c :: r).toArray⟩ : ByteArray).toList.isEmpty = false := by rw [Lib.toList_data]; rfl
      have h0 : ((⟨(c :: r).toArray⟩ : ByteArray)[0]'(by rw [hsz]; omega)) = c := rfl
      have HZ : Hid (z = (c.toNat == 47)) := hide (by have := unhide HR; simpa using this)
      clear HR
      generalize (⟨(c :: r).toArray⟩ : ByteArray) = q at *
      by_cases h47 : (c.toNat : Int) = 47
      · have t1 : ((c.toNat : Int) == 47) = true := by simpa using h47
        have HZ' : Hid (z = true) := hide (by rw [unhide HZ]; simp; omega)
        clear HZ h47
        go_enter Tryz.func247, Tryz.ntmps247
        go_wp2_with fail
        refine (unhide HC).mono ?_
        rintro e w1 ⟨rfl, rfl⟩
        clear HC
        go_wp2
        go_ret
        exact ⟨by rw [unhide HZ']; rfl, rfl⟩
      · have t1 : ((c.toNat : Int) == 47) = false := by simpa using h47
        have HZ' : Hid (z = false) := hide (by rw [unhide HZ]; simp; omega)
        clear HZ h47
        go_enter Tryz.func247, Tryz.ntmps247
        go_wp2_with fail
        refine (unhide HC).mono ?_
        rintro e w1 ⟨rfl, rfl⟩
        clear HC
        go_wp2
        go_ret
        exact ⟨by rw [unhide HZ']; rfl, rfl⟩
def leads (x y : List UInt8) : Bool := lead x y || lead y x
set_option maxHeartbeats 1000000 in
theorem meet_walk (x y : ByteArray) (w : World) :
    Calls Tryz.prog 217 #[.string x, .string y] w fun e w' => e = .returned (.bool (leads x.data.toList y.data.toList)) ∧ w = w' := by
  have L1 := hide (leads_walk x y w)
  have L2 := hide (leads_walk y x w)
  have HR : Hid (leads x.data.toList y.data.toList = (lead x.data.toList y.data.toList || lead y.data.toList x.data.toList)) := rfl
  generalize lead x.data.toList y.data.toList = a at *
  generalize lead y.data.toList x.data.toList = b at *
  cases a with
  | true =>
    go_enter Tryz.func217, Tryz.ntmps217
    go_wp2_with fail
    refine (unhide L1).mono ?_
    rintro e w1 ⟨rfl, rfl⟩
    clear L1 L2
    go_wp2
    go_ret
    exact ⟨by rw [unhide HR]; rfl, rfl⟩
  | false =>
    go_enter Tryz.func217, Tryz.ntmps217
    go_wp2_with fail
    refine (unhide L1).mono ?_
    rintro e w1 ⟨rfl, rfl⟩
    clear L1
    go_wp2_with fail
    refine (unhide L2).mono ?_
    rintro e w1 ⟨rfl, rfl⟩
    clear L2
    go_wp2
    go_ret
    exact ⟨by rw [unhide HR]; rfl, rfl⟩
end Go.Proofs.YtlfonikfjibloaaGreatDoor
