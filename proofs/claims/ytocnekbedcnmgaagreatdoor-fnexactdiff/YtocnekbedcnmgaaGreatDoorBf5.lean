import Derived.Test.YtocnekbedcnmgaaGreatDoorBf4
import Derived.Test.YtocnekbedcnmgaaGreatDoorBf3
import Derived.Laws.DeepStrings4
import Derived.Test.YtocnekbedcnmgaaGreatDoorBf1
import Derived.Deep.LoopGhost
import Derived.Lib.SlicesCompact
namespace Go.Proofs.YtocnekbedcnmgaaGreatDoor
open Go.RowKit

/-- A token's index as the model gives it. -/
def idxZ (t : List UInt8) : Int := match idxT t with
  | some i => (i : Int)
  | none => -1
theorem tokD (s : ByteArray) (k : Nat) (h : k < s.size) : s.data.toList[k]'(by rw [data_len]; exact h) = s[k] := rfl
theorem dig_lt : ∀ (n : Nat) (t : List UInt8), t.length = n → digV t < 10 ^ n ∨ ¬ (∀ c ∈ t, isDg c.toNat = true) := by
  intro n
  induction n with
  | zero => intro t h; rw [List.eq_nil_of_length_eq_zero h]; exact .inl (by simp [digV])
  | succ n ih =>
    intro t h
    rcases List.eq_nil_or_concat t with e | ⟨a, c, e⟩
    · subst e; simp at h
    · rw [List.concat_eq_append] at e
      subst e
      by_cases hd : ∀ x ∈ a ++ [c], isDg x.toNat = true
      · left
        have hc := isDg_iff.1 (hd c (by simp))
        rcases ih a (by simpa using h) with h1 | h1
        · rw [digV_snoc, Nat.pow_succ]; omega
        · exact absurd (fun x hx => hd x (by simp [hx])) h1
      · exact .inr hd

set_option maxRecDepth 100000 in
set_option maxHeartbeats 4000000 in
theorem l1Index_walk (s : ByteArray) (w : World) (hs : s.size ≤ 1048576) :
    Calls Tryz.prog 141 #[.string s] w fun e w' => e = .returned (.int .i64 (idxZ s.data.toList)) ∧ w = w' := by
  have hbad : ¬ idxOk s.data.toList = true → idxZ s.data.toList = -1 := fun h => by unfold idxZ idxT; rw [if_neg h]
  have hdl := data_len s
  by_cases h1 : s.size < 1
  · have HB := hide (hbad (fun h => by have := (idxOk_iff.1 h).1; omega))
    have t1 : (s.size : Int) < 1 := by omega
    clear hbad h1
    go_enter Tryz.func141, Tryz.ntmps141
    go_wp2
    go_ret
    exact ⟨by rw [unhide HB]; rfl, rfl⟩
  · have t1 : ¬ (s.size : Int) < 1 := by omega
    by_cases h6 : 6 < s.size
    · have HB := hide (hbad (fun h => by have := (idxOk_iff.1 h).2.1; omega))
      have t2 : (6 : Int) < (s.size : Int) := by omega
      clear hbad h1 h6
      go_enter Tryz.func141, Tryz.ntmps141
      go_wp2
      go_ret
      exact ⟨by rw [unhide HB]; rfl, rfl⟩
    · have t2 : ¬ (6 : Int) < (s.size : Int) := by omega
      have h0 : 0 < s.size := by omega
      have hg0 : (s.data.toList.getD 0 0) = s[0] := by rw [List.getD, List.getElem?_eq_getElem (by omega)]; rfl
      have hI : (0 : Int) < (s.size : Int) := by omega
      by_cases hz : s[0].toNat = 48 ∧ 1 < s.size
      · have HB := hide (hbad (fun h => (idxOk_iff.1 h).2.2.1 ⟨by rw [hg0]; exact hz.1, by omega⟩))
        have t3 : ((s[0].toNat : Int) == 48) = true := by rw [beq_iff_eq]; omega
        have t4 : (1 : Int) < (s.size : Int) := by omega
        clear hbad h1 h6 hz hg0
        go_enter Tryz.func141, Tryz.ntmps141
        go_wp2
        go_ret
        exact ⟨by rw [unhide HB]; rfl, rfl⟩
      · have HD : Hid (∀ (k : Nat) (hk : k < s.size) (w : World), Calls Tryz.prog 148 #[.int .u8 (s[k].toNat : Int)] w fun e w' => e = .returned (.bool (isDg s[k].toNat)) ∧ w = w') := fun k hk w => digit_walk s[k].toNat w
        have HBAD : Hid (∀ k (hk : k < s.size), isDg s[k].toNat = false → idxZ s.data.toList = -1) := fun k hk hd => hbad (fun h => by
          have := (idxOk_iff.1 h).2.2.2 s[k] (by rw [← tokD s k hk]; exact List.getElem_mem _)
          rw [hd] at this; cases this)
        have HGOOD : Hid ((∀ k (hk : k < s.size), isDg s[k].toNat = true) → idxZ s.data.toList = (digV s.data.toList : Int)) := fun hall => by
          have hok : idxOk s.data.toList = true := idxOk_iff.2 ⟨by omega, by omega, fun ⟨a, b⟩ => hz ⟨by rw [← hg0]; exact a, by omega⟩, fun c hc => by
            obtain ⟨j, hj, rfl⟩ := List.getElem_of_mem hc
            exact hall j (by omega)⟩
          unfold idxZ idxT; rw [if_pos hok]
        have t34 : ((s[0].toNat : Int) == 48) = false ∨ ((s[0].toNat : Int) == 48) = true ∧ ¬ (1 : Int) < (s.size : Int) := by
          by_cases e : s[0].toNat = 48
          · right; exact ⟨by rw [beq_iff_eq]; omega, by omega⟩
          · left; rw [beq_eq_false_iff_ne]; omega
        have h6' : s.size ≤ 6 := by omega
        clear hbad hz hg0 h1 h6
        rcases t34 with t3 | ⟨t3, t4⟩
        all_goals
          go_enter Tryz.func141, Tryz.ntmps141
          go_wp2
          go_loopw [3, 4] (fun vv iv wr => ∃ k : Nat, k ≤ s.size ∧ iv = .int .i64 (k : Int) ∧ vv = .int .i64 ((digV (s.data.toList.take k) : Nat) : Int) ∧ (∀ j (hj : j < s.size), j < k → isDg s[j].toNat = true) ∧ w = wr) (fun _ iv _ => s.size - (intOf iv).toNat)
          case atStart => exact ⟨0, Nat.zero_le _, rfl, rfl, fun j _ hj => by omega, rfl⟩
          case round =>
            obtain ⟨k, hk, rfl, rfl, hall, rfl⟩ := hrel
            have HALL := hide hall
            clear hall
            by_cases hlt : k < s.size
            · have hltI : (k : Int) < (s.size : Int) := by omega
              have HDk := hide (unhide HD k hlt w)
              have hst : s.data.toList.take (k + 1) = s.data.toList.take k ++ [s[k]] := bytes_snoc s k hlt
              have HST : Hid (digV (s.data.toList.take (k + 1)) = digV (s.data.toList.take k) * 10 + (s[k].toNat - 48)) := by show _ = _; rw [hst, digV_snoc]
              have hlo : digV (s.data.toList.take k) < 1000000 ∨ ¬ ∀ c ∈ s.data.toList.take k, isDg c.toNat = true := by
                rcases dig_lt k (s.data.toList.take k) (by rw [List.length_take]; omega) with h | h
                · left
                  have : 10 ^ k ≤ 10 ^ 6 := Nat.pow_le_pow_right (by omega) (by omega)
                  omega
                · exact .inr h
              have hlo' : digV (s.data.toList.take k) < 1000000 := hlo.elim id fun h => absurd (fun c hc => by
                obtain ⟨j, hj, rfl⟩ := List.getElem_of_mem hc
                rw [List.length_take] at hj
                rw [List.getElem_take]
                exact unhide HALL j (by omega) (by omega)) h
              cases hd : isDg s[k].toNat with
              | false =>
                have HV := hide (unhide HBAD k hlt hd)
                rw [hd] at HDk
                clear hd HST hst hlo hlo' HALL HBAD HGOOD HD
                go_wp2_with fail
                refine (unhide HDk).mono ?_
                rintro e w2 ⟨rfl, rfl⟩
                clear HDk
                go_wp2
                go_ret
                exact ⟨by rw [unhide HV]; rfl, rfl⟩
              | true =>
                have hb := isDg_iff.1 hd
                have HA2 : Hid (∀ j (hj : j < s.size), j < k + 1 → isDg s[j].toNat = true) := fun j hj hjk => by
                  by_cases e : j = k
                  · subst e; exact hd
                  · exact unhide HALL j hj (by omega)
                rw [hd] at HDk
                have hb1 : (48 : Int) ≤ (s[k].toNat : Int) := by omega
                have hb2 : (s[k].toNat : Int) ≤ 57 := by omega
                generalize digV (s.data.toList.take k) = D at *
                clear hd hst hlo HALL HBAD HGOOD HD
                go_wp2_with fail
                refine (unhide HDk).mono ?_
                rintro e w2 ⟨rfl, rfl⟩
                clear HDk
                go_wp2
                go_roundw
                case rel => exact ⟨k + 1, by omega, by go_num, by rw [unhide HST]; go_num, unhide HA2, trivial⟩
                case measure => simp [intOf]; omega
            · have e : s.data.toList.take k = s.data.toList := List.take_of_length_le (by omega)
              rw [e]
              have HV := hide (unhide HGOOD (fun j hj => unhide HALL j hj (by omega)))
              generalize digV s.data.toList = D at *
              clear HALL HBAD HGOOD HD e
              go_wp2
              go_ret
              exact ⟨by rw [unhide HV]; rfl, rfl⟩
end Go.Proofs.YtocnekbedcnmgaaGreatDoor


namespace Go.Proofs.YtocnekbedcnmgaaGreatDoor
open Go.RowKit

theorem unit_short {s : ByteArray} {i : Nat} (h : s.size < i + 6) : unit s i = none := by
  cases e : unit s i with
  | none => rfl
  | some u => have := unit_in e; omega

set_option maxHeartbeats 1600000 in
theorem l1Unit_walk (s : ByteArray) (i : Nat) (hs : s.size ≤ 1048576) (hi : i ≤ 2000000) (w : World) :
    Calls Tryz.prog 162 #[.string s, .int .i64 i] w fun e w' => w = w' ∧ e = .returned (.int .i64 (optI (unit s i))) := by
  by_cases hlen : i + 6 ≤ s.size
  · have hl' : ¬ (s.size : Int) < (i : Int) + 6 := by omega
    have e0 := bt_at s i (by omega)
    have e1 := bt_at s (i + 1) (by omega)
    by_cases h0 : bt s i = 92
    · have q0 : ((s[i]'(by omega)).toNat : Int) = 92 := by omega
      have t0 : (((s[i]'(by omega)).toNat : Int) != 92) = false := by rw [bne_eq_false_iff_eq]; omega
      by_cases h1 : bt s (i + 1) = 117
      · have t1 : (((s[i + 1]'(by omega)).toNat : Int) != 117) = false := by rw [bne_eq_false_iff_eq]; omega
        have HU : Hid (unit s i = hexN s (i + 2) 4) := by show _ = _; unfold unit; rw [if_pos ⟨h0, h1⟩]
        have dl : decide ((s.size : Int) < (i : Int) + 6) = false := by simp; omega
        clear h0 h1 e0 e1 q0
        go_enter Tryz.func162, Tryz.ntmps162
        go_wp2
        clear t0 t1 dl hl'
        go_loopw [5, 6] (fun v k wr => ∃ j u : Nat, j ≤ 4 ∧ k = .int .i64 ((j + 2 : Nat) : Int) ∧ u < 16 ^ j ∧ v = .int .i64 (u : Int) ∧ hexN s (i + 2) j = some u ∧ w = wr) (fun _ k _ => 6 - (intOf k).toNat)
        case atStart => exact ⟨0, 0, by omega, rfl, by decide, rfl, rfl, rfl⟩
        case round =>
          obtain ⟨j, u, hj, rfl, hu, rfl, hx, rfl⟩ := hrel
          have HV := hide hx
          clear hx
          by_cases h4 : j < 4
          · have hu65 : u < 65536 := by
              have : (16 : Nat) ^ j ≤ 16 ^ 3 := Nat.pow_le_pow_right (by decide) (by omega)
              omega
            have hin : i + (j + 2) < s.size := by omega
            have HC := hide (l1Hex_walk ((s[i + (j + 2)]'hin).toNat) (UInt8.toNat_lt _) w)
            have eb : bt s (i + 2 + j) = (s[i + (j + 2)]'hin).toNat := by rw [show i + 2 + j = i + (j + 2) from by omega]; exact bt_at s _ hin
            cases hx1 : hx ((s[i + (j + 2)]'hin).toNat) with
            | some d =>
              have hd := hx_lt hx1
              have HX := hide (hexN_next (unhide HV) (by rw [eb]; exact hx1))
              rw [hx1] at HC
              have hd0 : ¬ ((d : Int) < 0) := by omega
              clear hx1 eb
              go_wp2_with fail
              refine (unhide HC).mono ?_
              rintro e w1 ⟨rfl, rfl⟩
              clear HC
              simp only [optI, Option.elim]
              go_wp2
              go_roundw
              case rel => exact ⟨j + 1, u * 16 + d, by omega, by go_num, by rw [Nat.pow_succ]; omega, by go_num, unhide HX, trivial⟩
              case measure => simp [intOf]; omega
            | none =>
              have HX : Hid (hexN s (i + 2) 4 = none) := hexN_none (hexN_bad (by rw [eb]; exact hx1)) (by omega)
              rw [hx1] at HC
              clear hx1 eb
              go_wp2_with fail
              refine (unhide HC).mono ?_
              rintro e w1 ⟨rfl, rfl⟩
              clear HC
              simp only [optI, Option.elim]
              go_wp2
              go_ret
              exact ⟨rfl, by rw [unhide HU, unhide HX]; rfl⟩
          · have e4 : j = 4 := by omega
            subst e4
            go_wp2
            go_ret
            exact ⟨rfl, by rw [unhide HU, unhide HV]; rfl⟩
      · have t1 : (((s[i + 1]'(by omega)).toNat : Int) != 117) = true := by rw [bne_iff_ne]; omega
        have HU : Hid (unit s i = none) := by show _ = _; unfold unit; rw [if_neg (fun h => h1 h.2)]
        clear h0 h1 e0 e1 q0
        go_enter Tryz.func162, Tryz.ntmps162
        go_wp2
        go_ret
        exact ⟨rfl, by rw [unhide HU]; rfl⟩
    · have t0 : (((s[i]'(by omega)).toNat : Int) != 92) = true := by rw [bne_iff_ne]; omega
      have HU : Hid (unit s i = none) := by show _ = _; unfold unit; rw [if_neg (fun h => h0 h.1)]
      clear h0 e0 e1
      go_enter Tryz.func162, Tryz.ntmps162
      go_wp2
      go_ret
      exact ⟨rfl, by rw [unhide HU]; rfl⟩
  · have hl' : (s.size : Int) < (i : Int) + 6 := by omega
    have HU := hide (unit_short (s := s) (i := i) (by omega))
    go_enter Tryz.func162, Tryz.ntmps162
    go_wp2
    go_ret
    exact ⟨rfl, by rw [unhide HU]; rfl⟩
end Go.Proofs.YtocnekbedcnmgaaGreatDoor


namespace Go.Proofs.YtocnekbedcnmgaaGreatDoor
open Go.RowKit

theorem strOf_ext {b : ByteArray} {l : List UInt8} (h : b.data.toList = l) : b = strOf l := by
  subst h
  cases b with
  | mk d => simp [strOf]
theorem ext_str (s : ByteArray) (i n : Nat) (l : List UInt8) (h : (s.data.toList.drop i).take n = l) : s.extract i (i + n) = strOf l := by
  refine strOf_ext ?_
  rw [Lib.extract_data, show i + n - i = n from by omega, h]
theorem enc_low {r : Nat} (h : r < 128) : enc r = [UInt8.ofNat r] := by
  unfold enc; rw [← utf_enc (by omega) (by omega)]; unfold utf utfZ; rw [if_pos h]; rfl
theorem enc_utf {r : Nat} (h : r ≤ 1114111) (h' : r < 55296 ∨ 57344 ≤ r) : utf r = enc r := utf_enc h h'

abbrev PNone (w : World) (e : Ending) (w' : World) : Prop := (∃ t, e = .returned (.tuple #[.string t, .int .i64 0])) ∧ Below w.heap.size w w'
abbrev PSome (w : World) (t : ByteArray) (n : Nat) (e : Ending) (w' : World) : Prop := e = .returned (.tuple #[.string t, .int .i64 (n : Int)]) ∧ Below w.heap.size w w'

set_option maxHeartbeats 1600000 in
set_option maxRecDepth 100000 in
theorem pc_bad (s : ByteArray) (i : Nat) (w : World) (hs : s.size ≤ 1048576) (hi : i < s.size) (h : 128 ≤ s[i].toNat) (hr : rl s i = 0) :
    Calls Tryz.prog 125 #[.string s, .int .i64 i] w (PNone w) := by
  have HR := hide (rl_walk s i w hi hs)
  rw [hr] at HR
  have h' : (128 : Int) ≤ (s[i].toNat : Int) := by omega
  clear hr
  go_enter Tryz.func125, Tryz.ntmps125
  go_wp2_with fail
  refine (unhide HR).mono ?_
  rintro e w1 ⟨rfl, b1⟩
  clear HR
  go_wp2
  go_ret2
  exact ⟨⟨_, rfl⟩, b1⟩
set_option maxHeartbeats 1600000 in
set_option maxRecDepth 100000 in
theorem pc_multi (s : ByteArray) (i : Nat) (w : World) (hs : s.size ≤ 1048576) (hi : i < s.size) (h : 128 ≤ s[i].toNat) (hr : ¬ rl s i = 0) :
    Calls Tryz.prog 125 #[.string s, .int .i64 i] w (PSome w (strOf (enc (Utf8.decode s i).1)) (rl s i)) := by
  have HR := hide (rl_walk s i w hi hs)
  have hle := rl_le s i hi
  have HE : Hid (s.extract i (i + rl s i) = strOf (enc (Utf8.decode s i).1)) := ext_str s i (rl s i) _ (enc_multi s i hi hr (by omega)).1.symm
  have h' : (128 : Int) ≤ (s[i].toNat : Int) := by omega
  clear hr
  generalize strOf (enc (Utf8.decode s i).1) = t at *
  generalize rl s i = n at *
  go_enter Tryz.func125, Tryz.ntmps125
  go_wp2_with fail
  refine (unhide HR).mono ?_
  rintro e w1 ⟨rfl, b1⟩
  clear HR
  go_wp2
  go_ret2
  exact ⟨by rw [← unhide HE]; rfl, b1⟩
set_option maxHeartbeats 1600000 in
set_option maxRecDepth 100000 in
theorem pc_ctl (s : ByteArray) (i : Nat) (w : World) (hi : i < s.size) (h : s[i].toNat < 32) :
    Calls Tryz.prog 125 #[.string s, .int .i64 i] w (PNone w) := by
  have h1 : ¬ (128 : Int) ≤ (s[i].toNat : Int) := by omega
  have h2 : ((s[i].toNat : Int) != 92) = true := by rw [bne_iff_ne]; omega
  have h3 : (s[i].toNat : Int) < 32 := by omega
  go_enter Tryz.func125, Tryz.ntmps125
  go_wp2
  go_ret2
  exact ⟨⟨_, rfl⟩, Below.refl _ _⟩
set_option maxHeartbeats 1600000 in
set_option maxRecDepth 100000 in
theorem pc_asc (s : ByteArray) (i : Nat) (w : World) (hs : s.size ≤ 1048576) (hi : i < s.size) (h32 : 32 ≤ s[i].toNat) (h128 : s[i].toNat < 128) (h92 : s[i].toNat ≠ 92) (h34 : s[i].toNat ≠ 34) :
    Calls Tryz.prog 125 #[.string s, .int .i64 i] w (PSome w (strOf (enc s[i].toNat)) 1) := by
  have h1 : ¬ (128 : Int) ≤ (s[i].toNat : Int) := by omega
  have h2 : ((s[i].toNat : Int) != 92) = true := by rw [bne_iff_ne]; omega
  have h3 : ¬ (s[i].toNat : Int) < 32 := by omega
  have h4 : ((s[i].toNat : Int) == 34) = false := by rw [beq_eq_false_iff_ne]; omega
  have d3 : decide ((s[i].toNat : Int) < 32) = false := by simp; omega
  have HE : Hid (s.extract i (i + 1) = strOf (enc s[i].toNat)) := ext_str s i 1 _ (by rw [enc_low h128, byte_eq, drop_at s i hi]; rfl)
  clear h32 h128 h92 h34
  go_enter Tryz.func125, Tryz.ntmps125
  go_wp2
  go_ret2
  exact ⟨by rw [← unhide HE]; rfl, Below.refl _ _⟩
set_option maxHeartbeats 1600000 in
set_option maxRecDepth 100000 in
theorem pc_simple (s : ByteArray) (i : Nat) (w : World) (hs : s.size ≤ 1048576) (hi : i + 1 < s.size) (h : s[i].toNat = 92) (v : Nat) (hv : smp s[i + 1].toNat = some v) :
    Calls Tryz.prog 125 #[.string s, .int .i64 i] w (PSome w (strOf (enc v)) 2) := by
  have h1 : ¬ (128 : Int) ≤ (s[i].toNat : Int) := by omega
  have h2 : ((s[i].toNat : Int) != 92) = false := by rw [bne_eq_false_iff_eq]; omega
  have HS : Hid (∀ w, Calls Tryz.prog 161 #[.int .u8 (s[i + 1].toNat : Int)] w fun e w' => e = .returned (.int .i64 (v : Int)) ∧ Below w.heap.size w w') := fun w => by
    have c := l1Simple_walk s[i + 1].toNat (UInt8.toNat_lt _) w
    rw [hv] at c; exact c
  have hv128 := smp_lt hv
  have hu : utf v = enc v := enc_utf (by omega) (by omega)
  have HCV : Hid (∀ w : World, (convert 37 9 (.slice (some ⟨w.heap.size, 0, none⟩) 1 1)).run Tryz.prog (w.alloc (.cells #[.int .u8 (v : Int)] 5)) = .ok (.string (strOf (enc v))) (w.alloc (.cells #[.int .u8 (v : Int)] 5))) := fun w => by
    rw [← hu]
    exact convert_bytes w (utf v) #[.int .u8 (v : Int)] 1 (by simp [utf, utfZ, hv128]) (by simp [utf, utfZ, hv128, Lib.byteCells]; omega)
  have hv0 : (0 : Int) ≤ (v : Int) := by omega
  have i1 : (i : Int) + 1 < (s.size : Int) := by omega
  clear hu hv
  generalize strOf (enc v) = t at *
  go_enter Tryz.func125, Tryz.ntmps125
  go_wp2_with fail
  refine (unhide HS _).mono ?_
  rintro e w1 ⟨rfl, b1⟩
  go_wp2_with fail
  refine (unhide HS _).mono ?_
  rintro e w2 ⟨rfl, b2⟩
  have B2 := below_next b1 b2
  have hcv := unhide HCV w2
  clear HS HCV b1 b2
  go_wp2
  go_ret2
  exact ⟨rfl, B2.alloc B2.size _⟩
set_option maxHeartbeats 1600000 in
set_option maxRecDepth 100000 in
theorem pc_end (s : ByteArray) (i : Nat) (w : World) (hs : s.size ≤ 1048576) (hi : i < s.size) (hi' : ¬ i + 1 < s.size) (h : s[i].toNat = 92) :
    Calls Tryz.prog 125 #[.string s, .int .i64 i] w (PNone w) := by
  have h1 : ¬ (128 : Int) ≤ (s[i].toNat : Int) := by omega
  have h2 : ((s[i].toNat : Int) != 92) = false := by rw [bne_eq_false_iff_eq]; omega
  have HU : Hid (∀ w, Calls Tryz.prog 162 #[.string s, .int .i64 ((i : Int))] w fun e w' => w = w' ∧ e = .returned (.int .i64 (-1))) := fun w => by
    have c := l1Unit_walk s i hs (by omega) w
    rw [unit_short (by omega)] at c; exact c
  have i1 : ¬ (i : Int) + 1 < (s.size : Int) := by omega
  have di : decide ((i : Int) + 1 < (s.size : Int)) = false := by simp; omega
  go_enter Tryz.func125, Tryz.ntmps125
  go_wp2_with fail
  refine (unhide HU _).mono ?_
  rintro e w2 ⟨rfl, rfl⟩
  clear HU
  go_wp2
  go_ret2
  exact ⟨⟨_, rfl⟩, Below.refl _ _⟩
set_option maxHeartbeats 1600000 in
set_option maxRecDepth 100000 in
theorem pc_nounit (s : ByteArray) (i : Nat) (w : World) (hs : s.size ≤ 1048576) (hi : i + 1 < s.size) (h : s[i].toNat = 92) (hv : smp s[i + 1].toNat = none) (hu : unit s i = none) :
    Calls Tryz.prog 125 #[.string s, .int .i64 i] w (PNone w) := by
  have h1 : ¬ (128 : Int) ≤ (s[i].toNat : Int) := by omega
  have h2 : ((s[i].toNat : Int) != 92) = false := by rw [bne_eq_false_iff_eq]; omega
  have HS : Hid (∀ w, Calls Tryz.prog 161 #[.int .u8 (s[i + 1].toNat : Int)] w fun e w' => e = .returned (.int .i64 (-1)) ∧ Below w.heap.size w w') := fun w => by
    have c := l1Simple_walk s[i + 1].toNat (UInt8.toNat_lt _) w
    rw [hv] at c; exact c
  have i1 : (i : Int) + 1 < (s.size : Int) := by omega
  have HU : Hid (∀ w, Calls Tryz.prog 162 #[.string s, .int .i64 ((i : Int))] w fun e w' => w = w' ∧ e = .returned (.int .i64 (-1))) := fun w => by
    have c := l1Unit_walk s i hs (by omega) w
    rw [hu] at c; exact c
  clear hv hu
  go_enter Tryz.func125, Tryz.ntmps125
  go_wp2_with fail
  refine (unhide HS _).mono ?_
  rintro e w1 ⟨rfl, b1⟩
  go_wp2_with fail
  refine (unhide HU _).mono ?_
  rintro e w2 ⟨rfl, rfl⟩
  clear HS HU
  go_wp2
  go_ret2
  exact ⟨⟨_, rfl⟩, b1⟩
set_option maxHeartbeats 1600000 in
set_option maxRecDepth 100000 in
theorem pc_low (s : ByteArray) (i : Nat) (w : World) (hs : s.size ≤ 1048576) (hi : i + 1 < s.size) (h : s[i].toNat = 92) (hv : smp s[i + 1].toNat = none) (u : Nat) (hu : unit s i = some u)  (hlow : u < 55296) :
    Calls Tryz.prog 125 #[.string s, .int .i64 i] w (PSome w (strOf (enc u)) 6) := by
  have h1 : ¬ (128 : Int) ≤ (s[i].toNat : Int) := by omega
  have h2 : ((s[i].toNat : Int) != 92) = false := by rw [bne_eq_false_iff_eq]; omega
  have HS : Hid (∀ w, Calls Tryz.prog 161 #[.int .u8 (s[i + 1].toNat : Int)] w fun e w' => e = .returned (.int .i64 (-1)) ∧ Below w.heap.size w w') := fun w => by
    have c := l1Simple_walk s[i + 1].toNat (UInt8.toNat_lt _) w
    rw [hv] at c; exact c
  have i1 : (i : Int) + 1 < (s.size : Int) := by omega
  have HU : Hid (∀ w, Calls Tryz.prog 162 #[.string s, .int .i64 ((i : Int))] w fun e w' => w = w' ∧ e = .returned (.int .i64 ((u : Int)))) := fun w => by
    have c := l1Unit_walk s i hs (by omega) w
    rw [hu] at c; exact c
  have HV : Hid (∀ w, Calls Tryz.prog 163 #[.int .i64 (u : Int)] w fun e w' => e = .returned (.string (strOf (enc u))) ∧ Below w.heap.size w w') := fun w => by
    have c := utf8_walk u w (by omega)
    rw [enc_utf (by omega) (by omega)] at c; exact c
  have u0 : ((u : Int) < 0) = False := eq_false (by omega)
  have u1 : ((56320 : Int) ≤ (u : Int)) = False := eq_false (by omega)
  have u2 : ((u : Int) < 55296) = True := eq_true (by omega)
  clear hv hu
  generalize strOf (enc u) = t at *
  go_enter Tryz.func125, Tryz.ntmps125
  go_wp2_with fail
  refine (unhide HS _).mono ?_
  rintro e w1 ⟨rfl, b1⟩
  go_wp2_with fail
  refine (unhide HU _).mono ?_
  rintro e w2 ⟨rfl, rfl⟩
  clear HS HU
  go_wp2_with fail
  refine (unhide HV _).mono ?_
  rintro e w3 ⟨rfl, b3⟩
  have B3 := below_next b1 b3
  clear HV
  go_wp2
  go_ret2
  exact ⟨rfl, B3⟩
set_option maxHeartbeats 1600000 in
set_option maxRecDepth 100000 in
theorem pc_high (s : ByteArray) (i : Nat) (w : World) (hs : s.size ≤ 1048576) (hi : i + 1 < s.size) (h : s[i].toNat = 92) (hv : smp s[i + 1].toNat = none) (u : Nat) (hu : unit s i = some u)  (hhi : 57344 ≤ u) (hu65 : u ≤ 65535) :
    Calls Tryz.prog 125 #[.string s, .int .i64 i] w (PSome w (strOf (enc u)) 6) := by
  have h1 : ¬ (128 : Int) ≤ (s[i].toNat : Int) := by omega
  have h2 : ((s[i].toNat : Int) != 92) = false := by rw [bne_eq_false_iff_eq]; omega
  have HS : Hid (∀ w, Calls Tryz.prog 161 #[.int .u8 (s[i + 1].toNat : Int)] w fun e w' => e = .returned (.int .i64 (-1)) ∧ Below w.heap.size w w') := fun w => by
    have c := l1Simple_walk s[i + 1].toNat (UInt8.toNat_lt _) w
    rw [hv] at c; exact c
  have i1 : (i : Int) + 1 < (s.size : Int) := by omega
  have HU : Hid (∀ w, Calls Tryz.prog 162 #[.string s, .int .i64 ((i : Int))] w fun e w' => w = w' ∧ e = .returned (.int .i64 ((u : Int)))) := fun w => by
    have c := l1Unit_walk s i hs (by omega) w
    rw [hu] at c; exact c
  have HV : Hid (∀ w, Calls Tryz.prog 163 #[.int .i64 (u : Int)] w fun e w' => e = .returned (.string (strOf (enc u))) ∧ Below w.heap.size w w') := fun w => by
    have c := utf8_walk u w (by omega)
    rw [enc_utf (by omega) (by omega)] at c; exact c
  have u0 : ((u : Int) < 0) = False := eq_false (by omega)
  have u1 : ((56320 : Int) ≤ (u : Int)) = True := eq_true (by omega)
  have u2 : ((u : Int) < 57344) = False := eq_false (by omega)
  have u3 : ((u : Int) < 55296) = False := eq_false (by omega)
  have u4 : ((57344 : Int) ≤ (u : Int)) = True := eq_true (by omega)
  clear hv hu
  generalize strOf (enc u) = t at *
  go_enter Tryz.func125, Tryz.ntmps125
  go_wp2_with fail
  refine (unhide HS _).mono ?_
  rintro e w1 ⟨rfl, b1⟩
  go_wp2_with fail
  refine (unhide HU _).mono ?_
  rintro e w2 ⟨rfl, rfl⟩
  clear HS HU
  go_wp2_with fail
  refine (unhide HV _).mono ?_
  rintro e w3 ⟨rfl, b3⟩
  have B3 := below_next b1 b3
  clear HV
  go_wp2
  go_ret2
  exact ⟨rfl, B3⟩
set_option maxHeartbeats 1600000 in
set_option maxRecDepth 100000 in
theorem pc_sur2 (s : ByteArray) (i : Nat) (w : World) (hs : s.size ≤ 1048576) (hi : i + 1 < s.size) (h : s[i].toNat = 92) (hv : smp s[i + 1].toNat = none) (u : Nat) (hu : unit s i = some u)  (hlo : 56320 ≤ u) (hhi : u ≤ 57343) :
    Calls Tryz.prog 125 #[.string s, .int .i64 i] w (PNone w) := by
  have h1 : ¬ (128 : Int) ≤ (s[i].toNat : Int) := by omega
  have h2 : ((s[i].toNat : Int) != 92) = false := by rw [bne_eq_false_iff_eq]; omega
  have HS : Hid (∀ w, Calls Tryz.prog 161 #[.int .u8 (s[i + 1].toNat : Int)] w fun e w' => e = .returned (.int .i64 (-1)) ∧ Below w.heap.size w w') := fun w => by
    have c := l1Simple_walk s[i + 1].toNat (UInt8.toNat_lt _) w
    rw [hv] at c; exact c
  have i1 : (i : Int) + 1 < (s.size : Int) := by omega
  have HU : Hid (∀ w, Calls Tryz.prog 162 #[.string s, .int .i64 ((i : Int))] w fun e w' => w = w' ∧ e = .returned (.int .i64 ((u : Int)))) := fun w => by
    have c := l1Unit_walk s i hs (by omega) w
    rw [hu] at c; exact c
  have u0 : ((u : Int) < 0) = False := eq_false (by omega)
  have u1 : ((56320 : Int) ≤ (u : Int)) = True := eq_true (by omega)
  have u2 : ((u : Int) < 57344) = True := eq_true (by omega)
  clear hv hu
  go_enter Tryz.func125, Tryz.ntmps125
  go_wp2_with fail
  refine (unhide HS _).mono ?_
  rintro e w1 ⟨rfl, b1⟩
  go_wp2_with fail
  refine (unhide HU _).mono ?_
  rintro e w2 ⟨rfl, rfl⟩
  clear HS HU
  go_wp2
  go_ret2
  exact ⟨⟨_, rfl⟩, b1⟩
set_option maxHeartbeats 1600000 in
set_option maxRecDepth 100000 in
theorem pc_no2 (s : ByteArray) (i : Nat) (w : World) (hs : s.size ≤ 1048576) (hi : i + 1 < s.size) (h : s[i].toNat = 92) (hv : smp s[i + 1].toNat = none) (u : Nat) (hu : unit s i = some u)  (hlo : 55296 ≤ u) (hhi : u ≤ 56319) (hu2 : unit s (i + 6) = none) :
    Calls Tryz.prog 125 #[.string s, .int .i64 i] w (PNone w) := by
  have h1 : ¬ (128 : Int) ≤ (s[i].toNat : Int) := by omega
  have h2 : ((s[i].toNat : Int) != 92) = false := by rw [bne_eq_false_iff_eq]; omega
  have HS : Hid (∀ w, Calls Tryz.prog 161 #[.int .u8 (s[i + 1].toNat : Int)] w fun e w' => e = .returned (.int .i64 (-1)) ∧ Below w.heap.size w w') := fun w => by
    have c := l1Simple_walk s[i + 1].toNat (UInt8.toNat_lt _) w
    rw [hv] at c; exact c
  have i1 : (i : Int) + 1 < (s.size : Int) := by omega
  have HU : Hid (∀ w, Calls Tryz.prog 162 #[.string s, .int .i64 ((i : Int))] w fun e w' => w = w' ∧ e = .returned (.int .i64 ((u : Int)))) := fun w => by
    have c := l1Unit_walk s i hs (by omega) w
    rw [hu] at c; exact c
  have HU2 : Hid (∀ w, Calls Tryz.prog 162 #[.string s, .int .i64 ((i : Int) + 6)] w fun e w' => w = w' ∧ e = .returned (.int .i64 (-1))) := fun w => by
    have c := l1Unit_walk s (i + 6) hs (by omega) w
    rw [hu2] at c; exact c
  have u0 : ((u : Int) < 0) = False := eq_false (by omega)
  have u1 : ((56320 : Int) ≤ (u : Int)) = False := eq_false (by omega)
  have u2 : ((u : Int) < 55296) = False := eq_false (by omega)
  have u3 : ((57344 : Int) ≤ (u : Int)) = False := eq_false (by omega)
  clear hv hu hu2
  go_enter Tryz.func125, Tryz.ntmps125
  go_wp2_with fail
  refine (unhide HS _).mono ?_
  rintro e w1 ⟨rfl, b1⟩
  go_wp2_with fail
  refine (unhide HU _).mono ?_
  rintro e w2 ⟨rfl, rfl⟩
  go_wp2_with fail
  refine (unhide HU2 _).mono ?_
  rintro e w3 ⟨rfl, rfl⟩
  clear HS HU HU2
  go_wp2
  go_ret2
  exact ⟨⟨_, rfl⟩, b1⟩
set_option maxHeartbeats 1600000 in
set_option maxRecDepth 100000 in
theorem pc_lo2 (s : ByteArray) (i : Nat) (w : World) (hs : s.size ≤ 1048576) (hi : i + 1 < s.size) (h : s[i].toNat = 92) (hv : smp s[i + 1].toNat = none) (u : Nat) (hu : unit s i = some u)  (hlo : 55296 ≤ u) (hhi : u ≤ 56319) (v : Nat) (hu2 : unit s (i + 6) = some v) (hv2 : v ≤ 56319) :
    Calls Tryz.prog 125 #[.string s, .int .i64 i] w (PNone w) := by
  have h1 : ¬ (128 : Int) ≤ (s[i].toNat : Int) := by omega
  have h2 : ((s[i].toNat : Int) != 92) = false := by rw [bne_eq_false_iff_eq]; omega
  have HS : Hid (∀ w, Calls Tryz.prog 161 #[.int .u8 (s[i + 1].toNat : Int)] w fun e w' => e = .returned (.int .i64 (-1)) ∧ Below w.heap.size w w') := fun w => by
    have c := l1Simple_walk s[i + 1].toNat (UInt8.toNat_lt _) w
    rw [hv] at c; exact c
  have i1 : (i : Int) + 1 < (s.size : Int) := by omega
  have HU : Hid (∀ w, Calls Tryz.prog 162 #[.string s, .int .i64 ((i : Int))] w fun e w' => w = w' ∧ e = .returned (.int .i64 ((u : Int)))) := fun w => by
    have c := l1Unit_walk s i hs (by omega) w
    rw [hu] at c; exact c
  have HU2 : Hid (∀ w, Calls Tryz.prog 162 #[.string s, .int .i64 ((i : Int) + 6)] w fun e w' => w = w' ∧ e = .returned (.int .i64 ((v : Int)))) := fun w => by
    have c := l1Unit_walk s (i + 6) hs (by omega) w
    rw [hu2] at c; exact c
  have u0 : ((u : Int) < 0) = False := eq_false (by omega)
  have u1 : ((56320 : Int) ≤ (u : Int)) = False := eq_false (by omega)
  have u2 : ((u : Int) < 55296) = False := eq_false (by omega)
  have u3 : ((57344 : Int) ≤ (u : Int)) = False := eq_false (by omega)
  have v1 : ((v : Int) < 56320) = True := eq_true (by omega)
  clear hv hu hu2
  go_enter Tryz.func125, Tryz.ntmps125
  go_wp2_with fail
  refine (unhide HS _).mono ?_
  rintro e w1 ⟨rfl, b1⟩
  go_wp2_with fail
  refine (unhide HU _).mono ?_
  rintro e w2 ⟨rfl, rfl⟩
  go_wp2_with fail
  refine (unhide HU2 _).mono ?_
  rintro e w3 ⟨rfl, rfl⟩
  clear HS HU HU2
  go_wp2
  go_ret2
  exact ⟨⟨_, rfl⟩, b1⟩
set_option maxHeartbeats 1600000 in
set_option maxRecDepth 100000 in
theorem pc_hi2 (s : ByteArray) (i : Nat) (w : World) (hs : s.size ≤ 1048576) (hi : i + 1 < s.size) (h : s[i].toNat = 92) (hv : smp s[i + 1].toNat = none) (u : Nat) (hu : unit s i = some u)  (hlo : 55296 ≤ u) (hhi : u ≤ 56319) (v : Nat) (hu2 : unit s (i + 6) = some v) (hv2 : 57344 ≤ v) :
    Calls Tryz.prog 125 #[.string s, .int .i64 i] w (PNone w) := by
  have h1 : ¬ (128 : Int) ≤ (s[i].toNat : Int) := by omega
  have h2 : ((s[i].toNat : Int) != 92) = false := by rw [bne_eq_false_iff_eq]; omega
  have HS : Hid (∀ w, Calls Tryz.prog 161 #[.int .u8 (s[i + 1].toNat : Int)] w fun e w' => e = .returned (.int .i64 (-1)) ∧ Below w.heap.size w w') := fun w => by
    have c := l1Simple_walk s[i + 1].toNat (UInt8.toNat_lt _) w
    rw [hv] at c; exact c
  have i1 : (i : Int) + 1 < (s.size : Int) := by omega
  have HU : Hid (∀ w, Calls Tryz.prog 162 #[.string s, .int .i64 ((i : Int))] w fun e w' => w = w' ∧ e = .returned (.int .i64 ((u : Int)))) := fun w => by
    have c := l1Unit_walk s i hs (by omega) w
    rw [hu] at c; exact c
  have HU2 : Hid (∀ w, Calls Tryz.prog 162 #[.string s, .int .i64 ((i : Int) + 6)] w fun e w' => w = w' ∧ e = .returned (.int .i64 ((v : Int)))) := fun w => by
    have c := l1Unit_walk s (i + 6) hs (by omega) w
    rw [hu2] at c; exact c
  have u0 : ((u : Int) < 0) = False := eq_false (by omega)
  have u1 : ((56320 : Int) ≤ (u : Int)) = False := eq_false (by omega)
  have u2 : ((u : Int) < 55296) = False := eq_false (by omega)
  have u3 : ((57344 : Int) ≤ (u : Int)) = False := eq_false (by omega)
  have v1 : ((v : Int) < 56320) = False := eq_false (by omega)
  have v2 : ((57344 : Int) ≤ (v : Int)) = True := eq_true (by omega)
  clear hv hu hu2
  go_enter Tryz.func125, Tryz.ntmps125
  go_wp2_with fail
  refine (unhide HS _).mono ?_
  rintro e w1 ⟨rfl, b1⟩
  go_wp2_with fail
  refine (unhide HU _).mono ?_
  rintro e w2 ⟨rfl, rfl⟩
  go_wp2_with fail
  refine (unhide HU2 _).mono ?_
  rintro e w3 ⟨rfl, rfl⟩
  clear HS HU HU2
  go_wp2
  go_ret2
  exact ⟨⟨_, rfl⟩, b1⟩
set_option maxHeartbeats 1600000 in
set_option maxRecDepth 100000 in
theorem pc_pair (s : ByteArray) (i : Nat) (w : World) (hs : s.size ≤ 1048576) (hi : i + 1 < s.size) (h : s[i].toNat = 92) (hv : smp s[i + 1].toNat = none) (u : Nat) (hu : unit s i = some u)  (hlo : 55296 ≤ u) (hhi : u ≤ 56319) (v : Nat) (hu2 : unit s (i + 6) = some v) (hlo2 : 56320 ≤ v) (hhi2 : v ≤ 57343) :
    Calls Tryz.prog 125 #[.string s, .int .i64 i] w (PSome w (strOf (enc (65536 + (u - 55296) * 1024 + (v - 56320)))) 12) := by
  have h1 : ¬ (128 : Int) ≤ (s[i].toNat : Int) := by omega
  have h2 : ((s[i].toNat : Int) != 92) = false := by rw [bne_eq_false_iff_eq]; omega
  have HS : Hid (∀ w, Calls Tryz.prog 161 #[.int .u8 (s[i + 1].toNat : Int)] w fun e w' => e = .returned (.int .i64 (-1)) ∧ Below w.heap.size w w') := fun w => by
    have c := l1Simple_walk s[i + 1].toNat (UInt8.toNat_lt _) w
    rw [hv] at c; exact c
  have i1 : (i : Int) + 1 < (s.size : Int) := by omega
  have HU : Hid (∀ w, Calls Tryz.prog 162 #[.string s, .int .i64 ((i : Int))] w fun e w' => w = w' ∧ e = .returned (.int .i64 ((u : Int)))) := fun w => by
    have c := l1Unit_walk s i hs (by omega) w
    rw [hu] at c; exact c
  have HU2 : Hid (∀ w, Calls Tryz.prog 162 #[.string s, .int .i64 ((i : Int) + 6)] w fun e w' => w = w' ∧ e = .returned (.int .i64 ((v : Int)))) := fun w => by
    have c := l1Unit_walk s (i + 6) hs (by omega) w
    rw [hu2] at c; exact c
  have u0 : ((u : Int) < 0) = False := eq_false (by omega)
  have u1 : ((56320 : Int) ≤ (u : Int)) = False := eq_false (by omega)
  have u2 : ((u : Int) < 55296) = False := eq_false (by omega)
  have u3 : ((57344 : Int) ≤ (u : Int)) = False := eq_false (by omega)
  have v1 : ((v : Int) < 56320) = False := eq_false (by omega)
  have v2 : ((57344 : Int) ≤ (v : Int)) = False := eq_false (by omega)
  have HV : Hid (∀ w, Calls Tryz.prog 163 #[.int .i64 (65536 + ((u : Int) - 55296) * 1024 + (v : Int) - 56320)] w fun e w' => e = .returned (.string (strOf (enc (65536 + (u - 55296) * 1024 + (v - 56320))))) ∧ Below w.heap.size w w') := fun w => by
    have c := utf8_at (65536 + ((u : Int) - 55296) * 1024 + (v : Int) - 56320) (65536 + (u - 55296) * 1024 + (v - 56320)) (by omega) w (by omega)
    rw [enc_utf (by omega) (by omega)] at c; exact c
  clear hv hu hu2
  generalize strOf (enc (65536 + (u - 55296) * 1024 + (v - 56320))) = t at *
  go_enter Tryz.func125, Tryz.ntmps125
  go_wp2_with fail
  refine (unhide HS _).mono ?_
  rintro e w1 ⟨rfl, b1⟩
  go_wp2_with fail
  refine (unhide HU _).mono ?_
  rintro e w2 ⟨rfl, rfl⟩
  go_wp2_with fail
  refine (unhide HU2 _).mono ?_
  rintro e w3 ⟨rfl, rfl⟩
  clear HS HU HU2
  go_wp2_with fail
  refine (unhide HV _).mono ?_
  rintro e w4 ⟨rfl, b4⟩
  have B4 := below_next b1 b4
  clear HV
  go_wp2
  go_ret2
  exact ⟨rfl, B4⟩

/-- A piece, as the model reads it. -/
def PPost (w : World) (o : Option (Nat × Nat)) (e : Ending) (w' : World) : Prop := o.elim (PNone w e w') fun p => PSome w (strOf (enc p.1)) p.2 e w'
theorem l1Piece_walk (s : ByteArray) (i : Nat) (w : World) (hs : s.size ≤ 1048576) (hi : i < s.size) (hq : bt s i ≠ 34) :
    Calls Tryz.prog 125 #[.string s, .int .i64 i] w (PPost w (piece s i)) := by
  have e0 := bt_at s i hi
  by_cases h92 : bt s i = 92
  · have hp : piece s i = escP s i := by unfold piece; rw [if_pos h92]
    rw [hp]
    by_cases hi1 : i + 1 < s.size
    · have e1 := bt_at s (i + 1) hi1
      cases hv : smp (bt s (i + 1)) with
      | some v =>
        rw [escP_s rfl hv]
        exact pc_simple s i w hs hi1 (by omega) v (by rw [← e1]; exact hv)
      | none =>
        have hv' : smp s[i + 1].toNat = none := by rw [← e1]; exact hv
        have he : escP s i = (unit s i).bind (escU s i) := by unfold escP; rw [hv]
        rw [he]
        cases hu : unit s i with
        | none => exact pc_nounit s i w hs hi1 (by omega) hv' hu
        | some u =>
          have hu65 := unit_lt hu
          simp only [Option.bind_some]
          unfold escU
          by_cases h1 : u < 55296 ∨ 57344 ≤ u
          · rw [if_pos h1]
            rcases h1 with h1 | h1
            · exact pc_low s i w hs hi1 (by omega) hv' u hu h1
            · exact pc_high s i w hs hi1 (by omega) hv' u hu h1 (by omega)
          · rw [if_neg h1]
            by_cases h2 : 56320 ≤ u
            · rw [if_pos h2]
              exact pc_sur2 s i w hs hi1 (by omega) hv' u hu h2 (by omega)
            · rw [if_neg h2]
              cases hu2 : unit s (i + 6) with
              | none => exact pc_no2 s i w hs hi1 (by omega) hv' u hu (by omega) (by omega) hu2
              | some v =>
                simp only [Option.bind_some]
                by_cases h3 : 56320 ≤ v ∧ v < 57344
                · rw [if_pos h3]
                  exact pc_pair s i w hs hi1 (by omega) hv' u hu (by omega) (by omega) v hu2 h3.1 (by omega)
                · rw [if_neg h3]
                  by_cases h4 : v < 56320
                  · exact pc_lo2 s i w hs hi1 (by omega) hv' u hu (by omega) (by omega) v hu2 (by omega)
                  · exact pc_hi2 s i w hs hi1 (by omega) hv' u hu (by omega) (by omega) v hu2 (by omega)
    · have he : escP s i = none := escP_n (b := 0) (bt_out s (i + 1) (by omega)) (by rfl) (by decide)
      rw [he]
      exact pc_end s i w hs hi hi1 (by omega)
  · unfold piece
    rw [if_neg h92]
    by_cases h32 : bt s i < 32
    · rw [if_pos h32]; exact pc_ctl s i w hi (by omega)
    · rw [if_neg h32]
      by_cases h128 : bt s i < 128
      · rw [if_pos h128, e0]; exact pc_asc s i w hs hi (by omega) (by omega) (by omega) (by omega)
      · rw [if_neg h128]
        by_cases hr : rl s i = 0
        · rw [if_pos hr]; exact pc_bad s i w hs hi (by omega) hr
        · rw [if_neg hr]; exact pc_multi s i w hs hi (by omega) hr
end Go.Proofs.YtocnekbedcnmgaaGreatDoor


namespace Go.Proofs.YtocnekbedcnmgaaGreatDoor
open Go.RowKit

/-- A string of JSON, as the model reads it. -/
def SPost (s : ByteArray) (w : World) (o : Option (List UInt8 × Nat)) (e : Ending) (w' : World) : Prop :=
  Below w.heap.size w w' ∧ o.elim (∃ (t : ByteArray) (k : Nat), k ≤ s.size + 1 ∧ t.size ≤ 4 * s.size + 4 ∧ e = .returned (.tuple #[.string t, .int .i64 (k : Int), .bool false])) fun q => e = .returned (.tuple #[.string (strOf q.1), .int .i64 (q.2 : Int), .bool true])

set_option maxHeartbeats 1600000 in
set_option maxRecDepth 100000 in
theorem l1String_walk (s : ByteArray) (i : Nat) (w : World) (hs : s.size ≤ 1048576) (hi : i ≤ s.size + 1) :
    Calls Tryz.prog 75 #[.string s, .int .i64 i] w (SPost s w (strQ s i)) := by
  obtain ⟨i0, hi0, hz0, hz1, hz2⟩ := info_parts infoU8
  by_cases h34 : bt s i = 34
  · have hlt : i < s.size := bt_in (by rw [h34]; decide)
    have HQ : Hid (strQ s i = strR s (i + 1)) := by show _ = _; unfold strQ; rw [if_pos h34]
    have ha : atB s i 34 = true := by rw [atB_in hlt, beq_iff_eq, ← bt_at s i hlt, h34]; rfl
    have HA := hide (at_walk s (i : Int) i rfl 34 w)
    rw [ha] at HA
    clear h34 ha
    go_enter Tryz.func75, Tryz.ntmps75
    go_wp2_with fail
    refine (unhide HA).mono ?_
    rintro e w1 ⟨rfl, rfl⟩
    clear HA
    go_wp2
    go_loopw [1, 7] (fun k v wr => ∃ (j : Nat) (acc : List UInt8), j ≤ s.size ∧ k = .int .i64 (j : Int) ∧ acc.length ≤ 4 * j ∧ wr.ownsRow w.heap.size 5 1 v (Lib.byteCells acc).length (Lib.byteCells acc) ∧ Below w.heap.size w wr ∧ strR s (i + 1) = (strR s j).map fun q => (acc ++ q.1, q.2)) (fun k _ _ => s.size - (intOf k).toNat)
    case atStart =>
      exact ⟨i + 1, [], by omega, by go_num, by simp, ⟨rfl, .inr ⟨w.heap.size, 0, #[], rfl, Nat.le_refl _, heap_alloc_new w _, Nat.le_refl _, by unfold maxLen; omega, rfl, rfl⟩⟩, (Below.refl _ _).alloc (Nat.le_refl _) _, by simp⟩
    case round =>
      obtain ⟨j, acc, hj, rfl, hal, hown, hb, hst⟩ := hrel
      have HST := hide hst
      have HB := hide hb
      have hwsz := hb.size
      clear hst hb
      by_cases hin : j < s.size
      · have e0 := bt_at s j hin
        have hin' : (j : Int) < (s.size : Int) := by omega
        by_cases e34 : bt s j = 34
        · have t1 : ((s[j].toNat : Int) != 34) = false := by rw [bne_eq_false_iff_eq]; omega
          have HF : Hid (strQ s i = some (acc, j + 1)) := by
            show _ = _
            rw [unhide HQ, unhide HST, strR_end e34]; simp
          have hcv := convert_own hown
          clear hown e34 e0
          go_wp2
          go_ret3
          exact ⟨unhide HB, by rw [unhide HF]; rfl⟩
        · have t1 : ((s[j].toNat : Int) != 34) = true := by rw [bne_iff_ne]; omega
          have HC := hide (l1Piece_walk s j wr hs hin e34)
          cases hp : piece s j with
          | none =>
            have HF : Hid (strQ s i = none) := by
              show _ = _
              rw [unhide HQ, unhide HST, strR_bad e34 hp]; rfl
            rw [hp] at HC
            clear hown e34 e0 hp
            go_wp2_with fail
            refine (unhide HC).mono ?_
            rintro e w2 ⟨⟨t, rfl⟩, b2⟩
            have B2 := below_next (unhide HB) b2
            clear HC
            go_wp2
            go_ret3
            exact ⟨B2, by rw [unhide HF]; exact ⟨_, j, by omega, Nat.zero_le _, rfl⟩⟩
          | some p =>
            obtain ⟨r, n⟩ := p
            obtain ⟨p1, p2, p3⟩ := piece_ok hp
            have hel := enc_le r
            have HST2 : Hid (strR s (i + 1) = (strR s (j + n)).map fun q => (acc ++ enc r ++ q.1, q.2)) := by
              show _ = _
              rw [unhide HST, strR_go e34 hp, Option.map_map]
              congr 1
              funext q
              simp
            rw [hp] at HC
            have t0 : ((n : Int) == 0) = false := by rw [beq_eq_false_iff_ne]; omega
            clear e34 e0 hp
            go_wp2_with fail
            refine (unhide HC).mono ?_
            rintro e w2 ⟨rfl, b2⟩
            have B2 := below_next (unhide HB) b2
            have own2 := own_below hown b2
            obtain ⟨cap, W3, hcv, hcell, b3, hk3, hs3⟩ := conv_bytes w2 (enc r)
            have own3 := hk3 _ _ _ _ _ own2
            have B3 := below_next B2 b3
            have HCELL := hide hcell
            have hsz2 := B2.size
            clear HC hcell hk3 own2 hown b2 b3 HB B2
            go_wp2_with (at_builtin; refine wpList_append_own _ rfl (.tmp 37) (.tmp 39) 37 rfl w.heap.size 5 i0 (.int .u8 0) 1 1 Tryz.underlying37 hi0 hz0 hz1 hz2 rfl (by decide) _ _ _ rfl own3 ⟨w2.heap.size, 0, none⟩ (enc r).length cap (Lib.byteCells (enc r)) rfl (by rw [Lib.byteCells_length]; omega) (unhide HCELL) (one_bytes (enc r)) (by rw [Lib.byteCells_length]; unfold maxLen; omega) (by rw [Lib.byteCells_length]; omega) (by omega) ?_)
            intro v4 w4 own4 hg4 _
            have B4 : Below w.heap.size w w4 := B3.grown hg4 (by omega) (fun k hk => (own3.lt k hk).1)
            have own4' := own_step (m := (enc r)) own4 rfl rfl
            clear own4 hg4 own3 HCELL B3 hcv
            go_wp2
            go_roundw
            case rel => exact ⟨j + n, acc ++ (enc r), by omega, by go_num, by rw [List.length_append]; omega, own4', B4, unhide HST2⟩
            case measure => simp [intOf]; omega
      · have hin' : ¬ (j : Int) < (s.size : Int) := by omega
        have d1 : decide ((j : Int) < (s.size : Int)) = false := by simp; omega
        have HF : Hid (strQ s i = none) := by
          show _ = _
          rw [unhide HQ, unhide HST, strR_out (by omega)]; rfl
        have hcv := convert_own hown
        clear hown
        go_wp2
        go_ret3
        exact ⟨unhide HB, by rw [unhide HF]; exact ⟨_, j + 1, by omega, by show acc.toArray.size ≤ _; simp; omega, rfl⟩⟩
  · have HQ : Hid (strQ s i = none) := by show _ = _; unfold strQ; rw [if_neg h34]
    have ha : atB s i 34 = false := by
      by_cases hlt : i < s.size
      · rw [atB_in hlt, beq_eq_false_iff_ne, ← bt_at s i hlt]; omega
      · exact atB_out hlt
    have HA := hide (at_walk s (i : Int) i rfl 34 w)
    rw [ha] at HA
    clear h34 ha
    go_enter Tryz.func75, Tryz.ntmps75
    go_wp2_with fail
    refine (unhide HA).mono ?_
    rintro e w1 ⟨rfl, rfl⟩
    clear HA
    go_wp2
    go_ret3
    exact ⟨Below.refl _ _, by rw [unhide HQ]; exact ⟨_, i, hi, Nat.zero_le _, rfl⟩⟩
end Go.Proofs.YtocnekbedcnmgaaGreatDoor


namespace Go.Proofs.YtocnekbedcnmgaaGreatDoor
open Go.RowKit

theorem nxt_in {T : ByteArray} {j j2 : Nat} (h : nxt T j = some j2) (hj : j < T.size) : j < j2 ∧ j2 ≤ T.size := by
  unfold nxt at h
  split at h
  · cases hq : strQ T j with
    | none => rw [hq] at h; simp at h
    | some q =>
      obtain ⟨l, n⟩ := q
      rw [hq] at h
      simp at h
      have := strQ_ok hq
      omega
  · injection h with h; omega
theorem tail_cases {T : ByteArray} {o j2 k g : Nat} (hj : j2 ≤ T.size) (h : (if o = 0 ∧ stopAt T j2 = true then some j2 else endF T g o j2) = some k) :
    (o ≠ 0 ∧ endF T g o j2 = some k) ∨ (o = 0 ∧ j2 = T.size ∧ j2 = k) ∨ (o = 0 ∧ j2 < T.size ∧ bt T j2 = 44 ∧ j2 = k) ∨ (o = 0 ∧ j2 < T.size ∧ bt T j2 = 93 ∧ j2 = k) ∨ (o = 0 ∧ j2 < T.size ∧ bt T j2 = 125 ∧ j2 = k) ∨ (o = 0 ∧ j2 < T.size ∧ bt T j2 ≠ 44 ∧ bt T j2 ≠ 93 ∧ bt T j2 ≠ 125 ∧ endF T g o j2 = some k) := by
  by_cases ho : o = 0
  · by_cases hs : stopAt T j2 = true
    · rw [if_pos ⟨ho, hs⟩] at h
      injection h with h
      by_cases e : j2 = T.size
      · exact .inr (.inl ⟨ho, e, h⟩)
      · have hl : j2 < T.size := by omega
        unfold stopAt at hs
        simp [e] at hs
        rcases hs with (hs | hs) | hs
        · exact .inr (.inr (.inl ⟨ho, hl, hs, h⟩))
        · exact .inr (.inr (.inr (.inl ⟨ho, hl, hs, h⟩)))
        · exact .inr (.inr (.inr (.inr (.inl ⟨ho, hl, hs, h⟩))))
    · rw [if_neg (fun x => hs x.2)] at h
      unfold stopAt at hs
      simp at hs
      exact .inr (.inr (.inr (.inr (.inr ⟨ho, by omega, hs.1.1.2, hs.1.2, hs.2, h⟩))))
  · rw [if_neg (fun x => ho x.1)] at h
    exact .inl ⟨ho, h⟩

set_option maxRecDepth 100000 in
set_option maxHeartbeats 16000000 in
/-- The model's look for the end of a value. -/
theorem end_walk (T : ByteArray) (i k f : Nat) (w : World) (hT : T.size ≤ 1048576) (h : endF T f 0 i = some k) :
    Calls Tryz.prog 76 #[.string T, .int .i64 (i : Int)] w fun e w' => e = .returned (.int .i64 (k : Int)) ∧ Below w.heap.size w w' := by
  have HST : Hid (∀ (j : Nat) (w : World), j < T.size → Calls Tryz.prog 75 #[.string T, .int .i64 j] w (SPost T w (strQ T j))) := fun j w hj => l1String_walk T j w hT (by omega)
  have hi0 : i < T.size := by
    cases f with
    | zero => simp [endF] at h
    | succ f =>
      rw [endF] at h
      split at h
      · assumption
      · cases h
  have H0 := hide h
  clear h
  go_enter Tryz.func76, Tryz.ntmps76
  go_wp2
  go_loopw [1, 5] (fun iv ov wr => ∃ (j op g : Nat), iv = .int .i64 (j : Int) ∧ ov = .int .i64 (op : Int) ∧ j ≤ T.size ∧ op ≤ j ∧ endF T g op j = some k ∧ Below w.heap.size w wr) (fun iv _ _ => T.size - (intOf iv).toNat)
  case atStart => exact ⟨i, 0, f, rfl, rfl, by omega, by omega, unhide H0, Below.refl _ _⟩
  case round =>
    obtain ⟨j, op, g, rfl, rfl, hj, hop, hg, bw⟩ := hrel
    clear H0
    obtain ⟨g, rfl⟩ : ∃ g', g = g' + 1 := by cases g with
      | zero => simp [endF] at hg
      | succ g => exact ⟨g, rfl⟩
    rw [endF] at hg
    by_cases hl : j < T.size
    · rw [if_pos hl] at hg
      have hltI : (j : Int) < (T.size : Int) := by omega
      have hb := bt_at T j hl
      obtain ⟨n, hn, o, ho, hz⟩ : ∃ j2, nxt T j = some j2 ∧ ∃ o, op1 (bt T j) op = some o ∧ (if o = 0 ∧ stopAt T j2 = true then some j2 else endF T g o j2) = some k := by
        cases hn : nxt T j with
        | none => rw [hn] at hg; simp at hg
        | some j2 =>
          rw [hn] at hg
          simp only [Option.bind_some] at hg
          cases ho : op1 (bt T j) op with
          | none => rw [ho] at hg; simp at hg
          | some o => rw [ho] at hg; exact ⟨j2, rfl, o, rfl, by simpa using hg⟩
      clear hg
      have hnj := nxt_in hn hl
      have hnT := hnj.2
      have hjn := hnj.1
      have hns : bt T j ≠ 34 → j + 1 = n := fun h34 => by unfold nxt at hn; rw [if_neg h34] at hn; injection hn
      have hnq : bt T j = 34 → ∃ l, strQ T j = some (l, n) := fun h34 => by
        unfold nxt at hn
        rw [if_pos h34] at hn
        cases hq : strQ T j with
        | none => rw [hq] at hn; simp at hn
        | some q => rw [hq] at hn; simp at hn; exact ⟨q.1, by rw [← hn]⟩
      have ht := tail_cases hnT hz
      have HB := hide bw
      clear hn hz hnj bw
      by_cases c34 : bt T j = 34
      · obtain ⟨l, hq⟩ := hnq c34
        obtain rfl : op = o := by rw [c34] at ho; injection ho
        have HSJ := hide (unhide HST j wr hl)
        rw [hq] at HSJ
        rw [hb] at c34
        have f34 : ((T[j].toNat : Int) == 34) = true := by rw [beq_iff_eq]; omega
        have f91 : ((T[j].toNat : Int) == 91) = false := by rw [beq_eq_false_iff_ne]; omega
        have f123 : ((T[j].toNat : Int) == 123) = false := by rw [beq_eq_false_iff_ne]; omega
        have f93 : ((T[j].toNat : Int) == 93) = false := by rw [beq_eq_false_iff_ne]; omega
        have f125 : ((T[j].toNat : Int) == 125) = false := by rw [beq_eq_false_iff_ne]; omega
        clear hnq hns hq hb c34 HST ho
        rcases ht with ⟨h1, h2⟩ | ⟨h1, h2, h3⟩ | ⟨h1, h2, h3, h4⟩ | ⟨h1, h2, h3, h4⟩ | ⟨h1, h2, h3, h4⟩ | ⟨h1, h2, h3, h4, h5, h6⟩
        · have tz : ((op : Int) == 0) = false := by rw [beq_eq_false_iff_ne]; omega
          have H2 := hide h2
          clear h1 h2
          go_wp2_with fail
          refine (unhide HSJ).mono ?_
          rintro e w2 ⟨b2, rfl⟩
          have HB2 := hide (below_next (unhide HB) b2)
          clear HSJ b2
          go_wp2
          go_roundw
          case rel => exact ⟨n, op, g, by go_num, by go_num, hnT, by omega, unhide H2, unhide HB2⟩
          case measure => simp [intOf]; omega
        · have tz : ((op : Int) == 0) = true := by rw [beq_iff_eq]; omega
          have te : ((n : Int) == (T.size : Int)) = true := by rw [beq_iff_eq]; omega
          have HK := hide h3
          clear h3
          clear h1 h2
          go_wp2_with fail
          refine (unhide HSJ).mono ?_
          rintro e w2 ⟨b2, rfl⟩
          have HB2 := hide (below_next (unhide HB) b2)
          clear HSJ b2
          go_wp2
          go_ret
          exact ⟨by rw [← unhide HK]; first | rfl | go_num, unhide HB2⟩
        · have tz : ((op : Int) == 0) = true := by rw [beq_iff_eq]; omega
          have te : ((n : Int) == (T.size : Int)) = false := by rw [beq_eq_false_iff_ne]; omega
          have hlN : (n : Int) < (T.size : Int) := by omega
          have hbn := bt_at T n h2
          rw [hbn] at h3
          have g44 : ((T[n].toNat : Int) == 44) = true := by rw [beq_iff_eq]; omega
          have g93 : ((T[n].toNat : Int) == 93) = false := by rw [beq_eq_false_iff_ne]; omega
          have g125 : ((T[n].toNat : Int) == 125) = false := by rw [beq_eq_false_iff_ne]; omega
          clear hbn h3
          have HK := hide h4
          clear h4
          clear h1
          go_wp2_with fail
          refine (unhide HSJ).mono ?_
          rintro e w2 ⟨b2, rfl⟩
          have HB2 := hide (below_next (unhide HB) b2)
          clear HSJ b2
          go_wp2
          go_ret
          exact ⟨by rw [← unhide HK]; first | rfl | go_num, unhide HB2⟩
        · have tz : ((op : Int) == 0) = true := by rw [beq_iff_eq]; omega
          have te : ((n : Int) == (T.size : Int)) = false := by rw [beq_eq_false_iff_ne]; omega
          have hlN : (n : Int) < (T.size : Int) := by omega
          have hbn := bt_at T n h2
          rw [hbn] at h3
          have g44 : ((T[n].toNat : Int) == 44) = false := by rw [beq_eq_false_iff_ne]; omega
          have g93 : ((T[n].toNat : Int) == 93) = true := by rw [beq_iff_eq]; omega
          have g125 : ((T[n].toNat : Int) == 125) = false := by rw [beq_eq_false_iff_ne]; omega
          clear hbn h3
          have HK := hide h4
          clear h4
          clear h1
          go_wp2_with fail
          refine (unhide HSJ).mono ?_
          rintro e w2 ⟨b2, rfl⟩
          have HB2 := hide (below_next (unhide HB) b2)
          clear HSJ b2
          go_wp2
          go_ret
          exact ⟨by rw [← unhide HK]; first | rfl | go_num, unhide HB2⟩
        · have tz : ((op : Int) == 0) = true := by rw [beq_iff_eq]; omega
          have te : ((n : Int) == (T.size : Int)) = false := by rw [beq_eq_false_iff_ne]; omega
          have hlN : (n : Int) < (T.size : Int) := by omega
          have hbn := bt_at T n h2
          rw [hbn] at h3
          have g44 : ((T[n].toNat : Int) == 44) = false := by rw [beq_eq_false_iff_ne]; omega
          have g93 : ((T[n].toNat : Int) == 93) = false := by rw [beq_eq_false_iff_ne]; omega
          have g125 : ((T[n].toNat : Int) == 125) = true := by rw [beq_iff_eq]; omega
          clear hbn h3
          have HK := hide h4
          clear h4
          clear h1
          go_wp2_with fail
          refine (unhide HSJ).mono ?_
          rintro e w2 ⟨b2, rfl⟩
          have HB2 := hide (below_next (unhide HB) b2)
          clear HSJ b2
          go_wp2
          go_ret
          exact ⟨by rw [← unhide HK]; first | rfl | go_num, unhide HB2⟩
        · have tz : ((op : Int) == 0) = true := by rw [beq_iff_eq]; omega
          have te : ((n : Int) == (T.size : Int)) = false := by rw [beq_eq_false_iff_ne]; omega
          have hlN : (n : Int) < (T.size : Int) := by omega
          have hbn := bt_at T n h2
          rw [hbn] at h3 h4 h5
          have g44 : ((T[n].toNat : Int) == 44) = false := by rw [beq_eq_false_iff_ne]; omega
          have g93 : ((T[n].toNat : Int) == 93) = false := by rw [beq_eq_false_iff_ne]; omega
          have g125 : ((T[n].toNat : Int) == 125) = false := by rw [beq_eq_false_iff_ne]; omega
          clear hbn h3 h4 h5
          have H2 := hide h6
          clear h6
          clear h1
          go_wp2_with fail
          refine (unhide HSJ).mono ?_
          rintro e w2 ⟨b2, rfl⟩
          have HB2 := hide (below_next (unhide HB) b2)
          clear HSJ b2
          go_wp2
          go_roundw
          case rel => exact ⟨n, op, g, by go_num, by go_num, hnT, by omega, unhide H2, unhide HB2⟩
          case measure => simp [intOf]; omega
      · have hn1 : (j : Int) + 1 = (n : Int) := by have := hns c34; omega
        have hnx := hns c34
        clear hnq hns
        by_cases c91 : bt T j = 91
        · obtain rfl : op + 1 = o := by rw [c91] at ho; injection ho
          rw [hb] at c91
          have f34 : ((T[j].toNat : Int) == 34) = false := by rw [beq_eq_false_iff_ne]; omega
          have f91 : ((T[j].toNat : Int) == 91) = true := by rw [beq_iff_eq]; omega
          have f123 : ((T[j].toNat : Int) == 123) = false := by rw [beq_eq_false_iff_ne]; omega
          have f93 : ((T[j].toNat : Int) == 93) = false := by rw [beq_eq_false_iff_ne]; omega
          have f125 : ((T[j].toNat : Int) == 125) = false := by rw [beq_eq_false_iff_ne]; omega
          clear hb c91 HST ho c34
          rcases ht with ⟨h1, h2⟩ | ⟨h1, h2, h3⟩ | ⟨h1, h2, h3, h4⟩ | ⟨h1, h2, h3, h4⟩ | ⟨h1, h2, h3, h4⟩ | ⟨h1, h2, h3, h4, h5, h6⟩
          · have tz : (((op : Int) + 1) == 0) = false := by rw [beq_eq_false_iff_ne]; omega
            have H2 := hide h2
            clear h1 h2
            go_wp2
            go_roundw
            case rel => exact ⟨n, op + 1, g, by go_num, by go_num, hnT, by omega, unhide H2, unhide HB⟩
            case measure => simp [intOf]; omega
          · exfalso; omega
          · exfalso; omega
          · exfalso; omega
          · exfalso; omega
          · exfalso; omega
        by_cases c123 : bt T j = 123
        · obtain rfl : op + 1 = o := by rw [c123] at ho; injection ho
          rw [hb] at c123
          have f34 : ((T[j].toNat : Int) == 34) = false := by rw [beq_eq_false_iff_ne]; omega
          have f91 : ((T[j].toNat : Int) == 91) = false := by rw [beq_eq_false_iff_ne]; omega
          have f123 : ((T[j].toNat : Int) == 123) = true := by rw [beq_iff_eq]; omega
          have f93 : ((T[j].toNat : Int) == 93) = false := by rw [beq_eq_false_iff_ne]; omega
          have f125 : ((T[j].toNat : Int) == 125) = false := by rw [beq_eq_false_iff_ne]; omega
          clear hb c123 HST ho c34 c91
          rcases ht with ⟨h1, h2⟩ | ⟨h1, h2, h3⟩ | ⟨h1, h2, h3, h4⟩ | ⟨h1, h2, h3, h4⟩ | ⟨h1, h2, h3, h4⟩ | ⟨h1, h2, h3, h4, h5, h6⟩
          · have tz : (((op : Int) + 1) == 0) = false := by rw [beq_eq_false_iff_ne]; omega
            have H2 := hide h2
            clear h1 h2
            go_wp2
            go_roundw
            case rel => exact ⟨n, op + 1, g, by go_num, by go_num, hnT, by omega, unhide H2, unhide HB⟩
            case measure => simp [intOf]; omega
          · exfalso; omega
          · exfalso; omega
          · exfalso; omega
          · exfalso; omega
          · exfalso; omega
        by_cases c93 : bt T j = 93
        · have hop1 : 1 ≤ op := by rw [c93] at ho; cases op with
            | zero => cases ho
            | succ n => omega
          obtain rfl : op - 1 = o := by rw [c93] at ho; cases op with
            | zero => cases ho
            | succ n => injection ho
          rw [hb] at c93
          have f34 : ((T[j].toNat : Int) == 34) = false := by rw [beq_eq_false_iff_ne]; omega
          have f91 : ((T[j].toNat : Int) == 91) = false := by rw [beq_eq_false_iff_ne]; omega
          have f123 : ((T[j].toNat : Int) == 123) = false := by rw [beq_eq_false_iff_ne]; omega
          have f93 : ((T[j].toNat : Int) == 93) = true := by rw [beq_iff_eq]; omega
          have f125 : ((T[j].toNat : Int) == 125) = false := by rw [beq_eq_false_iff_ne]; omega
          clear hb c93 HST ho c34 c91 c123
          rcases ht with ⟨h1, h2⟩ | ⟨h1, h2, h3⟩ | ⟨h1, h2, h3, h4⟩ | ⟨h1, h2, h3, h4⟩ | ⟨h1, h2, h3, h4⟩ | ⟨h1, h2, h3, h4, h5, h6⟩
          · have tz : (((op : Int) - 1) == 0) = false := by rw [beq_eq_false_iff_ne]; omega
            have H2 := hide h2
            clear h1 h2
            go_wp2
            go_roundw
            case rel => exact ⟨n, op - 1, g, by go_num, by go_num, hnT, by omega, unhide H2, unhide HB⟩
            case measure => simp [intOf]; omega
          · have tz : (((op : Int) - 1) == 0) = true := by rw [beq_iff_eq]; omega
            have te : ((n : Int) == (T.size : Int)) = true := by rw [beq_iff_eq]; omega
            have HK := hide h3
            clear h3
            clear h1 h2
            go_wp2
            go_ret
            exact ⟨by rw [← unhide HK]; first | rfl | go_num, unhide HB⟩
          · have tz : (((op : Int) - 1) == 0) = true := by rw [beq_iff_eq]; omega
            have te : ((n : Int) == (T.size : Int)) = false := by rw [beq_eq_false_iff_ne]; omega
            have hlN : (n : Int) < (T.size : Int) := by omega
            have hbn := bt_at T n h2
            rw [hbn] at h3
            have g44 : ((T[n].toNat : Int) == 44) = true := by rw [beq_iff_eq]; omega
            have g93 : ((T[n].toNat : Int) == 93) = false := by rw [beq_eq_false_iff_ne]; omega
            have g125 : ((T[n].toNat : Int) == 125) = false := by rw [beq_eq_false_iff_ne]; omega
            clear hbn h3
            have HK := hide h4
            clear h4
            clear h1
            go_wp2
            go_ret
            exact ⟨by rw [← unhide HK]; first | rfl | go_num, unhide HB⟩
          · have tz : (((op : Int) - 1) == 0) = true := by rw [beq_iff_eq]; omega
            have te : ((n : Int) == (T.size : Int)) = false := by rw [beq_eq_false_iff_ne]; omega
            have hlN : (n : Int) < (T.size : Int) := by omega
            have hbn := bt_at T n h2
            rw [hbn] at h3
            have g44 : ((T[n].toNat : Int) == 44) = false := by rw [beq_eq_false_iff_ne]; omega
            have g93 : ((T[n].toNat : Int) == 93) = true := by rw [beq_iff_eq]; omega
            have g125 : ((T[n].toNat : Int) == 125) = false := by rw [beq_eq_false_iff_ne]; omega
            clear hbn h3
            have HK := hide h4
            clear h4
            clear h1
            go_wp2
            go_ret
            exact ⟨by rw [← unhide HK]; first | rfl | go_num, unhide HB⟩
          · have tz : (((op : Int) - 1) == 0) = true := by rw [beq_iff_eq]; omega
            have te : ((n : Int) == (T.size : Int)) = false := by rw [beq_eq_false_iff_ne]; omega
            have hlN : (n : Int) < (T.size : Int) := by omega
            have hbn := bt_at T n h2
            rw [hbn] at h3
            have g44 : ((T[n].toNat : Int) == 44) = false := by rw [beq_eq_false_iff_ne]; omega
            have g93 : ((T[n].toNat : Int) == 93) = false := by rw [beq_eq_false_iff_ne]; omega
            have g125 : ((T[n].toNat : Int) == 125) = true := by rw [beq_iff_eq]; omega
            clear hbn h3
            have HK := hide h4
            clear h4
            clear h1
            go_wp2
            go_ret
            exact ⟨by rw [← unhide HK]; first | rfl | go_num, unhide HB⟩
          · have tz : (((op : Int) - 1) == 0) = true := by rw [beq_iff_eq]; omega
            have te : ((n : Int) == (T.size : Int)) = false := by rw [beq_eq_false_iff_ne]; omega
            have hlN : (n : Int) < (T.size : Int) := by omega
            have hbn := bt_at T n h2
            rw [hbn] at h3 h4 h5
            have g44 : ((T[n].toNat : Int) == 44) = false := by rw [beq_eq_false_iff_ne]; omega
            have g93 : ((T[n].toNat : Int) == 93) = false := by rw [beq_eq_false_iff_ne]; omega
            have g125 : ((T[n].toNat : Int) == 125) = false := by rw [beq_eq_false_iff_ne]; omega
            clear hbn h3 h4 h5
            have H2 := hide h6
            clear h6
            clear h1
            go_wp2
            go_roundw
            case rel => exact ⟨n, op - 1, g, by go_num, by go_num, hnT, by omega, unhide H2, unhide HB⟩
            case measure => simp [intOf]; omega
        by_cases c125 : bt T j = 125
        · have hop1 : 1 ≤ op := by rw [c125] at ho; cases op with
            | zero => cases ho
            | succ n => omega
          obtain rfl : op - 1 = o := by rw [c125] at ho; cases op with
            | zero => cases ho
            | succ n => injection ho
          rw [hb] at c125
          have f34 : ((T[j].toNat : Int) == 34) = false := by rw [beq_eq_false_iff_ne]; omega
          have f91 : ((T[j].toNat : Int) == 91) = false := by rw [beq_eq_false_iff_ne]; omega
          have f123 : ((T[j].toNat : Int) == 123) = false := by rw [beq_eq_false_iff_ne]; omega
          have f93 : ((T[j].toNat : Int) == 93) = false := by rw [beq_eq_false_iff_ne]; omega
          have f125 : ((T[j].toNat : Int) == 125) = true := by rw [beq_iff_eq]; omega
          clear hb c125 HST ho c34 c91 c123 c93
          rcases ht with ⟨h1, h2⟩ | ⟨h1, h2, h3⟩ | ⟨h1, h2, h3, h4⟩ | ⟨h1, h2, h3, h4⟩ | ⟨h1, h2, h3, h4⟩ | ⟨h1, h2, h3, h4, h5, h6⟩
          · have tz : (((op : Int) - 1) == 0) = false := by rw [beq_eq_false_iff_ne]; omega
            have H2 := hide h2
            clear h1 h2
            go_wp2
            go_roundw
            case rel => exact ⟨n, op - 1, g, by go_num, by go_num, hnT, by omega, unhide H2, unhide HB⟩
            case measure => simp [intOf]; omega
          · have tz : (((op : Int) - 1) == 0) = true := by rw [beq_iff_eq]; omega
            have te : ((n : Int) == (T.size : Int)) = true := by rw [beq_iff_eq]; omega
            have HK := hide h3
            clear h3
            clear h1 h2
            go_wp2
            go_ret
            exact ⟨by rw [← unhide HK]; first | rfl | go_num, unhide HB⟩
          · have tz : (((op : Int) - 1) == 0) = true := by rw [beq_iff_eq]; omega
            have te : ((n : Int) == (T.size : Int)) = false := by rw [beq_eq_false_iff_ne]; omega
            have hlN : (n : Int) < (T.size : Int) := by omega
            have hbn := bt_at T n h2
            rw [hbn] at h3
            have g44 : ((T[n].toNat : Int) == 44) = true := by rw [beq_iff_eq]; omega
            have g93 : ((T[n].toNat : Int) == 93) = false := by rw [beq_eq_false_iff_ne]; omega
            have g125 : ((T[n].toNat : Int) == 125) = false := by rw [beq_eq_false_iff_ne]; omega
            clear hbn h3
            have HK := hide h4
            clear h4
            clear h1
            go_wp2
            go_ret
            exact ⟨by rw [← unhide HK]; first | rfl | go_num, unhide HB⟩
          · have tz : (((op : Int) - 1) == 0) = true := by rw [beq_iff_eq]; omega
            have te : ((n : Int) == (T.size : Int)) = false := by rw [beq_eq_false_iff_ne]; omega
            have hlN : (n : Int) < (T.size : Int) := by omega
            have hbn := bt_at T n h2
            rw [hbn] at h3
            have g44 : ((T[n].toNat : Int) == 44) = false := by rw [beq_eq_false_iff_ne]; omega
            have g93 : ((T[n].toNat : Int) == 93) = true := by rw [beq_iff_eq]; omega
            have g125 : ((T[n].toNat : Int) == 125) = false := by rw [beq_eq_false_iff_ne]; omega
            clear hbn h3
            have HK := hide h4
            clear h4
            clear h1
            go_wp2
            go_ret
            exact ⟨by rw [← unhide HK]; first | rfl | go_num, unhide HB⟩
          · have tz : (((op : Int) - 1) == 0) = true := by rw [beq_iff_eq]; omega
            have te : ((n : Int) == (T.size : Int)) = false := by rw [beq_eq_false_iff_ne]; omega
            have hlN : (n : Int) < (T.size : Int) := by omega
            have hbn := bt_at T n h2
            rw [hbn] at h3
            have g44 : ((T[n].toNat : Int) == 44) = false := by rw [beq_eq_false_iff_ne]; omega
            have g93 : ((T[n].toNat : Int) == 93) = false := by rw [beq_eq_false_iff_ne]; omega
            have g125 : ((T[n].toNat : Int) == 125) = true := by rw [beq_iff_eq]; omega
            clear hbn h3
            have HK := hide h4
            clear h4
            clear h1
            go_wp2
            go_ret
            exact ⟨by rw [← unhide HK]; first | rfl | go_num, unhide HB⟩
          · have tz : (((op : Int) - 1) == 0) = true := by rw [beq_iff_eq]; omega
            have te : ((n : Int) == (T.size : Int)) = false := by rw [beq_eq_false_iff_ne]; omega
            have hlN : (n : Int) < (T.size : Int) := by omega
            have hbn := bt_at T n h2
            rw [hbn] at h3 h4 h5
            have g44 : ((T[n].toNat : Int) == 44) = false := by rw [beq_eq_false_iff_ne]; omega
            have g93 : ((T[n].toNat : Int) == 93) = false := by rw [beq_eq_false_iff_ne]; omega
            have g125 : ((T[n].toNat : Int) == 125) = false := by rw [beq_eq_false_iff_ne]; omega
            clear hbn h3 h4 h5
            have H2 := hide h6
            clear h6
            clear h1
            go_wp2
            go_roundw
            case rel => exact ⟨n, op - 1, g, by go_num, by go_num, hnT, by omega, unhide H2, unhide HB⟩
            case measure => simp [intOf]; omega
        obtain rfl : op = o := by
          unfold op1 isOp isCl at ho
          simp [c91, c123, c93, c125] at ho
          exact ho
        rw [hb] at c34 c91 c123 c93 c125
        have f34 : ((T[j].toNat : Int) == 34) = false := by rw [beq_eq_false_iff_ne]; omega
        have f91 : ((T[j].toNat : Int) == 91) = false := by rw [beq_eq_false_iff_ne]; omega
        have f123 : ((T[j].toNat : Int) == 123) = false := by rw [beq_eq_false_iff_ne]; omega
        have f93 : ((T[j].toNat : Int) == 93) = false := by rw [beq_eq_false_iff_ne]; omega
        have f125 : ((T[j].toNat : Int) == 125) = false := by rw [beq_eq_false_iff_ne]; omega
        clear hb c34 c91 c123 c93 c125 HST ho
        rcases ht with ⟨h1, h2⟩ | ⟨h1, h2, h3⟩ | ⟨h1, h2, h3, h4⟩ | ⟨h1, h2, h3, h4⟩ | ⟨h1, h2, h3, h4⟩ | ⟨h1, h2, h3, h4, h5, h6⟩
        · have tz : ((op : Int) == 0) = false := by rw [beq_eq_false_iff_ne]; omega
          have H2 := hide h2
          clear h1 h2
          go_wp2
          go_roundw
          case rel => exact ⟨n, op, g, by go_num, by go_num, hnT, by omega, unhide H2, unhide HB⟩
          case measure => simp [intOf]; omega
        · have tz : ((op : Int) == 0) = true := by rw [beq_iff_eq]; omega
          have te : ((n : Int) == (T.size : Int)) = true := by rw [beq_iff_eq]; omega
          have HK := hide h3
          clear h3
          clear h1 h2
          go_wp2
          go_ret
          exact ⟨by rw [← unhide HK]; first | rfl | go_num, unhide HB⟩
        · have tz : ((op : Int) == 0) = true := by rw [beq_iff_eq]; omega
          have te : ((n : Int) == (T.size : Int)) = false := by rw [beq_eq_false_iff_ne]; omega
          have hlN : (n : Int) < (T.size : Int) := by omega
          have hbn := bt_at T n h2
          rw [hbn] at h3
          have g44 : ((T[n].toNat : Int) == 44) = true := by rw [beq_iff_eq]; omega
          have g93 : ((T[n].toNat : Int) == 93) = false := by rw [beq_eq_false_iff_ne]; omega
          have g125 : ((T[n].toNat : Int) == 125) = false := by rw [beq_eq_false_iff_ne]; omega
          clear hbn h3
          have HK := hide h4
          clear h4
          clear h1
          go_wp2
          go_ret
          exact ⟨by rw [← unhide HK]; first | rfl | go_num, unhide HB⟩
        · have tz : ((op : Int) == 0) = true := by rw [beq_iff_eq]; omega
          have te : ((n : Int) == (T.size : Int)) = false := by rw [beq_eq_false_iff_ne]; omega
          have hlN : (n : Int) < (T.size : Int) := by omega
          have hbn := bt_at T n h2
          rw [hbn] at h3
          have g44 : ((T[n].toNat : Int) == 44) = false := by rw [beq_eq_false_iff_ne]; omega
          have g93 : ((T[n].toNat : Int) == 93) = true := by rw [beq_iff_eq]; omega
          have g125 : ((T[n].toNat : Int) == 125) = false := by rw [beq_eq_false_iff_ne]; omega
          clear hbn h3
          have HK := hide h4
          clear h4
          clear h1
          go_wp2
          go_ret
          exact ⟨by rw [← unhide HK]; first | rfl | go_num, unhide HB⟩
        · have tz : ((op : Int) == 0) = true := by rw [beq_iff_eq]; omega
          have te : ((n : Int) == (T.size : Int)) = false := by rw [beq_eq_false_iff_ne]; omega
          have hlN : (n : Int) < (T.size : Int) := by omega
          have hbn := bt_at T n h2
          rw [hbn] at h3
          have g44 : ((T[n].toNat : Int) == 44) = false := by rw [beq_eq_false_iff_ne]; omega
          have g93 : ((T[n].toNat : Int) == 93) = false := by rw [beq_eq_false_iff_ne]; omega
          have g125 : ((T[n].toNat : Int) == 125) = true := by rw [beq_iff_eq]; omega
          clear hbn h3
          have HK := hide h4
          clear h4
          clear h1
          go_wp2
          go_ret
          exact ⟨by rw [← unhide HK]; first | rfl | go_num, unhide HB⟩
        · have tz : ((op : Int) == 0) = true := by rw [beq_iff_eq]; omega
          have te : ((n : Int) == (T.size : Int)) = false := by rw [beq_eq_false_iff_ne]; omega
          have hlN : (n : Int) < (T.size : Int) := by omega
          have hbn := bt_at T n h2
          rw [hbn] at h3 h4 h5
          have g44 : ((T[n].toNat : Int) == 44) = false := by rw [beq_eq_false_iff_ne]; omega
          have g93 : ((T[n].toNat : Int) == 93) = false := by rw [beq_eq_false_iff_ne]; omega
          have g125 : ((T[n].toNat : Int) == 125) = false := by rw [beq_eq_false_iff_ne]; omega
          clear hbn h3 h4 h5
          have H2 := hide h6
          clear h6
          clear h1
          go_wp2
          go_roundw
          case rel => exact ⟨n, op, g, by go_num, by go_num, hnT, by omega, unhide H2, unhide HB⟩
          case measure => simp [intOf]; omega
    · rw [if_neg hl] at hg; cases hg
end Go.Proofs.YtocnekbedcnmgaaGreatDoor


namespace Go.Proofs.YtocnekbedcnmgaaGreatDoor
open Go.RowKit

set_option maxRecDepth 100000 in
set_option maxHeartbeats 4000000 in
theorem arr_walk (s : ByteArray) (i : Nat) (w : World) (hs : s.size ≤ 1048576) (hi : i < s.size) (h91 : bt s i = 91)
    (IH : ∀ (j : Nat) (w : World), i < j → j ≤ s.size → Calls Tryz.prog 56 #[.string s, .int .i64 j] w (GP w (val s j))) :
    Calls Tryz.prog 108 #[.string s, .int .i64 i] w (GP w (val s i)) := by
  have HSM := hide (small1 s hs)
  have g0 := sk_ge s (i + 1)
  have g1 := (sk_le (s := s) (i := i + 1) (by omega)).2
  have HV := hide (val_arr h91)
  have HIH := hide IH
  clear IH
  generalize hk0 : sk s (i + 1) = k0 at *
  go_enter Tryz.func108, Tryz.ntmps108
  go_wp2_with fail
  refine ((unhide HSM).1 _ (i + 1) _ (by omega)).mono ?_
  rintro e w1 ⟨rfl, rfl⟩
  rw [hk0]
  go_wp2_with fail
  refine ((unhide HSM).2 93 k0 _ (by decide)).mono ?_
  rintro e w1 ⟨rfl, rfl⟩
  clear hk0
  by_cases h93 : bt s k0 = 93
  · rw [decide_eq_true h93]
    have HR : Hid (val s i = some (.arr .nil, k0 + 1)) := by show _ = _; rw [unhide HV, if_pos h93]
    clear h93 HV
    go_wp2
    go_returns
    rw [unhide HR]
    exact ⟨(alloc_below w _).trans ((Below.refl _ _).alloc (by simp) _), rfl⟩
  · rw [decide_eq_false h93]
    have HR : Hid (val s i = (elems s k0).map fun q => (.arr q.1, q.2)) := by show _ = _; rw [unhide HV, if_neg h93]
    clear h93 HV h91
    go_wp2_with fail
    go_loopg [1] (s.size + 1 - k0) (fun g k wr => ∃ (j : Nat) (acc : JL), g = s.size + 1 - j ∧ k = .int .i64 (j : Int) ∧ k0 ≤ j ∧ j ≤ s.size ∧ Got w.heap.size ⟨#[]⟩ 0 false false false wr ∧ Got (w.heap.size + 1) (strOf (91 :: preA acc)) 0 true (bigL acc) (twL acc) wr ∧ Below w.heap.size w wr ∧ (preA acc).length ≤ 31 * j ∧ elems s k0 = (elems s j).map fun q => (acc.app q.1, q.2))
    case atStart =>
      refine ⟨k0, .nil, rfl, rfl, Nat.le_refl _, g1, ?_, ?_, (alloc_below w _).trans ((Below.refl _ _).alloc (by simp) _), by simp [preA], by simp [JL.app]⟩
      · show (World.alloc _ _).heap[_]? = _
        rw [Lib.alloc_old _ _ _ (by simp)]; exact heap_alloc_new w _
      · have := heap_alloc_new (w.alloc (gotB ⟨#[]⟩ 0 false false false)) (gotB (strOf [91]) 0 true false false)
        rw [show (w.alloc (gotB ⟨#[]⟩ 0 false false false)).heap.size = w.heap.size + 1 from by simp] at this
        exact this
    case round =>
      obtain ⟨j, acc, hg, rfl, hj1, hj2, hr, hgot, hb, hpl, hst⟩ := hrel
      have HST := hide hst
      have HG := hide hgot
      have HRR := hide hr
      have HB := hide hb
      have hwsz := hb.size
      have hgl := hgot.lt
      clear hst hgot hr hb
      have HC := hide (unhide HIH j wr (by omega) (by omega))
      cases hv : val s j with
      | none =>
        have HN : Hid (val s i = none) := by
          show _ = _
          rw [unhide HR, unhide HST, elems_eq, hv]; rfl
        rw [hv] at HC
        clear hv
        go_wp2_with fail
        refine (unhide HC).mono ?_
        rintro e w2 ⟨b2, t, n, bb, tw, rfl⟩
        have R2 := (unhide HRR).below b2
        have B2 := below_next (unhide HB) b2
        have R3 := R2.alloc (gotB t n false bb tw)
        have B3 : Below w.heap.size w (w2.alloc (gotB t n false bb tw)) := B2.alloc (by have := b2.size; omega) _
        have c0 := R3.c0
        have c1 := R3.c1
        have c2 := R3.c2
        have c3 := R3.c3
        have c4 := R3.c4
        have f0 := R3.fz 0
        have f1 := R3.fz 1
        have f2 := R3.fz 2
        have f3 := R3.fz 3
        have f4 := R3.fz 4
        have RX := hide (R3.put ⟨#[]⟩ 0 0 rfl false false false)
        have BX := hide (below_put B3 (Nat.le_refl _) (.string ⟨#[]⟩) (.int .i64 0) (.bool false) (.bool false) (.bool false))
        clear HC HRR R2 R3 B2 B3
        simp only [gotV]
        go_wp2
        try simp only [Exit.inBlock, Exit.then]
        refine bodyPost_ret (got_ret rfl rfl (unhide RX)) rfl ?_
        exact GP.bad (unhide HN) (unhide BX)
      | some q =>
        obtain ⟨v, n⟩ := q
        have hvo := val_ok hv
        have hvl := val_len hv
        have HPL : Hid ((preA (acc.app (.cons v .nil))).length ≤ 31 * n) := by
          show _ ≤ _
          rw [preA_snoc]; simp only [List.length_append, List.length_cons, List.length_nil]; omega
        have z1 : (strOf (91 :: preA acc)).size ≤ 40000000 := by rw [strOf_size]; simp only [List.length_cons]; omega
        have z2 : (strOf (ct v)).size ≤ 40000000 := by rw [strOf_size]; omega
        have z3 : (strOf (91 :: (preA acc ++ ct v))).size ≤ 80000000 := by rw [strOf_size]; simp only [List.length_cons, List.length_append]; omega
        have hn1 := sk_ge s n
        have hn2 := (sk_le hvo.2).2
        have HEQ : Hid (elems s k0 = (if bt s (sk s n) = 93 then some (JL.cons v .nil, sk s n + 1) else if bt s (sk s n) = 44 then (elems s (sk s (sk s n + 1))).map fun r => (JL.cons v r.1, r.2) else none).map fun q => (acc.app q.1, q.2)) := by
          show _ = _
          rw [unhide HST, elems_eq, hv]; rfl
        rw [hv] at HC
        clear hv HST
        have hcat1 : strOf (91 :: preA acc) ++ strOf (ct v) = strOf (91 :: (preA acc ++ ct v)) := strOf_app _ _
        have HFI : Hid (strOf (91 :: (preA acc ++ ct v)) ++ ⟨#[93]⟩ = strOf (ct (.arr (acc.app (.cons v .nil))))) := by
          show _ = _
          rw [show (⟨#[93]⟩ : ByteArray) = strOf [93] from rfl, strOf_app, ct, mkA, ← joinC_pre]; simp
        have HCO : Hid (strOf (91 :: (preA acc ++ ct v)) ++ ⟨#[44]⟩ = strOf (91 :: preA (acc.app (.cons v .nil)))) := by
          show _ = _
          rw [show (⟨#[44]⟩ : ByteArray) = strOf [44] from rfl, strOf_app, preA_snoc]; simp
        have HBB : Hid (bigL (acc.app (.cons v .nil)) = (bigL acc || bigV v)) := by show _ = _; rw [bigL_app]; simp [bigL]
        have HTT : Hid (twL (acc.app (.cons v .nil)) = (twL acc || twV v)) := by show _ = _; rw [twL_app]; simp [twL]
        go_wp2_with fail
        refine (unhide HC).mono ?_
        rintro e w2 ⟨b2, rfl⟩
        simp only [gotV]
        have R3 := hide (((unhide HRR).below b2).alloc (gotB (strOf (ct v)) n true (bigV v) (twV v)))
        have G3 := ((unhide HG).below b2).alloc (gotB (strOf (ct v)) n true (bigV v) (twV v))
        have V3 : Got w2.heap.size (strOf (ct v)) n true (bigV v) (twV v) (w2.alloc (gotB (strOf (ct v)) n true (bigV v) (twV v))) := heap_alloc_new w2 _
        have B3 : Hid (Below w.heap.size w (w2.alloc (gotB (strOf (ct v)) n true (bigV v) (twV v)))) := (below_next (unhide HB) b2).alloc (by have := b2.size; omega) _
        have hw2 := b2.size
        clear HC HRR HG HB b2
        simp only [gotB] at G3 V3 R3 B3
        generalize bigL acc = ba at *
        generalize twL acc = ta at *
        generalize bigV v = bv at *
        generalize twV v = tv at *
        generalize strOf (91 :: preA acc) = sa at *
        generalize strOf (91 :: (preA acc ++ ct v)) = sb at *
        generalize strOf (ct v) = sc at *
        generalize hw3 : w2.alloc (.cells #[.string sc, .int .i64 (n : Int), .bool true, .bool bv, .bool tv] 96 (0, 0)) = w3 at *
        have hvg : w2.heap.size ≠ w.heap.size + 1 := by omega
        have ok3 := V3.c2
        have go0 := G3.c0
        have gf0 := G3.fz 0
        have gf3 := G3.fz 3
        have gf4 := G3.fz 4
        have v0 := V3.c0
        have G4 := G3.set0 sb
        have V4 := V3.other (p := ⟨w.heap.size + 1, 0, none⟩) hvg (.string sb)
        have G5 := G4.set3 (ba || bv)
        have V5 := V4.other (p := ⟨w.heap.size + 1, 3, none⟩) hvg (.bool (ba || bv))
        have G6 := G5.set4 (ta || tv)
        have V6 := V5.other (p := ⟨w.heap.size + 1, 4, none⟩) hvg (.bool (ta || tv))
        have g43 := G4.c3
        have v43 := V4.c3
        have f43 := G4.fz 3
        have g54 := G5.c4
        have v54 := V5.c4
        have f54 := G5.fz 4
        have v61 := V6.c1
        have HG6 := hide G6
        clear G3 V3 G4 V4 G5 V5 G6 V6
        generalize hbb : (ba || bv) = bb at *
        generalize htt : (ta || tv) = tt at *
        have hb' : ba = true ∧ bb = true ∨ ba = false ∧ bv = bb := or_cases _ _ _ hbb
        have ht' : ta = true ∧ tt = true ∨ ta = false ∧ tv = tt := or_cases _ _ _ htt
        clear hbb htt hpl hvl
        rcases hb' with ⟨rfl, rfl⟩ | ⟨rfl, rfl⟩ <;> rcases ht' with ⟨rfl, rfl⟩ | ⟨rfl, rfl⟩
        all_goals
          go_wp2_with fail
          refine ((unhide HSM).1 _ n _ rfl).mono ?_
          rintro e w6 ⟨rfl, hw6⟩
          have G6 := hw6 ▸ unhide HG6
          have R6 : Got w.heap.size ⟨#[]⟩ 0 false false false w6 := hw6 ▸ (((unhide R3).other (p := ⟨w.heap.size + 1, 0, none⟩) (by show _ ≠ w.heap.size + 1; omega) _).other (p := ⟨w.heap.size + 1, 3, none⟩) (by show _ ≠ w.heap.size + 1; omega) _).other (p := ⟨w.heap.size + 1, 4, none⟩) (by show _ ≠ w.heap.size + 1; omega) _
          have B6 : Below w.heap.size w w6 := hw6 ▸ (((unhide B3).setCell (p := ⟨w.heap.size + 1, 0, none⟩) (by show _ ≤ w.heap.size + 1; omega) _).setCell (p := ⟨w.heap.size + 1, 3, none⟩) (by show _ ≤ w.heap.size + 1; omega) _).setCell (p := ⟨w.heap.size + 1, 4, none⟩) (by show _ ≤ w.heap.size + 1; omega) _
          have HB6 := hide B6
          have HR6 := hide R6
          have HG6' := hide G6
          clear ok3 go0 gf0 gf3 gf4 v0 g43 v43 f43 g54 v54 f54 v61 HG6 R3 B3 hw6 hw3 hcat1 G6 R6 B6 hvg hw2 w3
          generalize sk s n = k at *
          go_wp2_with fail
          refine ((unhide HSM).2 93 k _ (by decide)).mono ?_
          rintro e w7 ⟨rfl, rfl⟩
          by_cases h93 : bt s k = 93
          · rw [decide_eq_true h93]
            have HVV : Hid (val s i = some (.arr (acc.app (.cons v .nil)), k + 1)) := by
              show _ = _
              rw [unhide HR, unhide HEQ, if_pos h93]; rfl
            have hfi := unhide HFI
            generalize hsf : strOf (ct (.arr (acc.app (.cons v .nil)))) = sf at *
            have HSF := hide hsf
            have G6 := unhide HG6'
            have c0 := G6.c0
            have f0 := G6.fz 0
            have G7 := G6.set0 sf
            have c71 := G7.c1
            have f71 := G7.fz 1
            have G8 := G7.set1 ((k : Int) + 1) (k + 1) (by omega)
            have R8 := ((unhide HR6).other (p := ⟨w.heap.size + 1, 0, none⟩) (by show _ ≠ w.heap.size + 1; omega) (.string sf)).other (p := ⟨w.heap.size + 1, 1, none⟩) (by show _ ≠ w.heap.size + 1; omega) (.int .i64 ((k : Int) + 1))
            have B8 := ((unhide HB6).setCell (p := ⟨w.heap.size + 1, 0, none⟩) (by show _ ≤ w.heap.size + 1; omega) (.string sf)).setCell (p := ⟨w.heap.size + 1, 1, none⟩) (by show _ ≤ w.heap.size + 1; omega) (.int .i64 ((k : Int) + 1))
            obtain ⟨a0, a1', a2, a3, a4⟩ := G8.cells
            have a1 := a1'.trans (show _ = some (Value.int .i64 ((k : Int) + 1)) by rw [show ((k + 1 : Nat) : Int) = (k : Int) + 1 from by omega])
            obtain ⟨r0, r1, r2, r3, r4⟩ := R8.cells
            obtain ⟨q0, q1, q2, q3, q4⟩ := R8.fzs
            have RX := hide (R8.copyTo G8 ((k : Int) + 1) (by omega))
            have BX := hide (fun a b c d e => below_put B8 (Nat.le_refl _) a b c d e)
            clear a1' G6 G7 G8 R8 B8 HG6' HR6 HB6 HFI hsf HCO HEQ HR h93
            go_wp2
            try simp only [Exit.inBlock, Exit.then]
            refine bodyPost_ret (got_ret rfl rfl (unhide RX)) rfl ?_
            rw [unhide HVV]
            refine ⟨unhide BX _ _ _ _ _, ?_⟩
            show _ = Ending.returned (gotV (strOf (ct (.arr (acc.app (.cons v .nil))))) (k + 1) true (bigL (acc.app (.cons v .nil))) (twL (acc.app (.cons v .nil))))
            rw [unhide HSF, unhide HBB, unhide HTT]
          · rw [decide_eq_false h93]
            go_wp2_with fail
            refine ((unhide HSM).2 44 k _ (by decide)).mono ?_
            rintro e w8 ⟨rfl, rfl⟩
            by_cases h44 : bt s k = 44
            · rw [decide_eq_true h44]
              have hkl : k < s.size := bt_in (by omega)
              have HST2 : Hid (elems s k0 = (elems s (sk s (k + 1))).map fun q => ((acc.app (.cons v .nil)).app q.1, q.2)) := by
                show _ = _
                rw [unhide HEQ, if_neg h93, if_pos h44, Option.map_map]
                congr 1
                funext q
                simp [JL.app_assoc, JL.app]
              have hco := unhide HCO
              generalize hsf : strOf (91 :: preA (acc.app (.cons v .nil))) = sf at *
              have HSF := hide hsf
              have G6 := unhide HG6'
              have c0 := G6.c0
              have f0 := G6.fz 0
              have G7 := hide (G6.set0 sf)
              have R7 := hide ((unhide HR6).other (p := ⟨w.heap.size + 1, 0, none⟩) (by show _ ≠ w.heap.size + 1; omega) (.string sf))
              have B7 := hide ((unhide HB6).setCell (p := ⟨w.heap.size + 1, 0, none⟩) (by show _ ≤ w.heap.size + 1; omega) (.string sf))
              clear G6 HG6' HR6 HB6 HFI hsf HCO HEQ h93 h44
              go_wp2_with fail
              refine ((unhide HSM).1 _ (k + 1) _ (by omega)).mono ?_
              rintro e w9 ⟨rfl, hw9⟩
              have G9 := hw9 ▸ unhide G7
              have R9 := hw9 ▸ unhide R7
              have B9 := hw9 ▸ unhide B7
              have hs1 := sk_ge s (k + 1)
              have hs2 := (sk_le (s := s) (i := k + 1) (by omega)).2
              clear G7 R7 B7 c0 f0
              go_wp2
              go_roundg (s.size + 1 - sk s (k + 1))
              case rel => exact ⟨sk s (k + 1), acc.app (.cons v .nil), rfl, rfl, by omega, hs2, R9, by rw [unhide HSF, unhide HBB, unhide HTT]; exact G9, B9, by have := unhide HPL; omega, unhide HST2⟩
              case measure => omega
            · rw [decide_eq_false h44]
              have HN : Hid (val s i = none) := by
                show _ = _
                rw [unhide HR, unhide HEQ, if_neg h93, if_neg h44]; rfl
              have R6 := unhide HR6
              obtain ⟨r0, r1, r2, r3, r4⟩ := R6.cells
              obtain ⟨q0, q1, q2, q3, q4⟩ := R6.fzs
              have RX := hide (R6.put ⟨#[]⟩ 0 0 rfl false false false)
              have BX := hide (below_put (unhide HB6) (Nat.le_refl _) (.string ⟨#[]⟩) (.int .i64 0) (.bool false) (.bool false) (.bool false))
              clear R6 HG6' HR6 HB6 HFI HCO HEQ h93 h44
              go_wp2
              try simp only [Exit.inBlock, Exit.then]
              refine bodyPost_ret (got_ret rfl rfl (unhide RX)) rfl ?_
              exact GP.bad (unhide HN) (unhide BX)
end Go.Proofs.YtocnekbedcnmgaaGreatDoor


namespace Go.Proofs.YtocnekbedcnmgaaGreatDoor
open Go.RowKit

/-- A value takes as many bytes as it has values, or more. -/
theorem p_cnt (s : ByteArray) : ∀ f i, (∀ v j, pv s f i = some (v, j) → cntV v + i ≤ j) ∧ (∀ l j, pa s f i = some (l, j) → cntL l + i ≤ j) ∧ (∀ m j, po s f i = some (m, j) → cntM m + i ≤ j)
  | 0, i => ⟨fun v j h => by simp [pv] at h, fun v j h => by simp [pa] at h, fun v j h => by simp [po] at h⟩
  | f + 1, i => by
    refine ⟨fun v j h => ?_, fun l j h => ?_, fun m j h => ?_⟩
    · rw [pv] at h
      have g := sk_ge s (i + 1)
      split at h
      · split at h
        · have := bt_in (s := s) (i := sk s (i + 1)) (by omega)
          injection h with h; injection h with hv h; subst hv; (try simp only [cntV]); (try simp only [cntL]); (try simp only [cntM]); omega
        · simp only [Option.map_eq_some_iff] at h
          obtain ⟨⟨l, k⟩, hk, h⟩ := h
          injection h with hv h
          have := (p_cnt s f (sk s (i + 1))).2.1 l k hk
          subst hv; simp only at h; (try simp only [cntV]); (try simp only [cntL]); (try simp only [cntM]); omega
      · split at h
        · split at h
          · have := bt_in (s := s) (i := sk s (i + 1)) (by omega)
            injection h with h; injection h with hv h; subst hv; (try simp only [cntV]); (try simp only [cntL]); (try simp only [cntM]); omega
          · simp only [Option.map_eq_some_iff] at h
            obtain ⟨⟨l, k⟩, hk, h⟩ := h
            injection h with hv h
            have := (p_cnt s f (sk s (i + 1))).2.2 l k hk
            subst hv; simp only at h; (try simp only [cntV]); (try simp only [cntL]); (try simp only [cntM]); omega
        · split at h
          · simp only [Option.map_eq_some_iff] at h
            obtain ⟨⟨l, k⟩, hk, h⟩ := h
            injection h with hv h
            have := strQ_ok hk
            subst hv; simp only at h; (try simp only [cntV]); (try simp only [cntL]); (try simp only [cntM]); omega
          · split at h
            · rename_i hw
              have := wNull_in hw
              injection h with h; injection h with hv h; subst hv; (try simp only [cntV]); (try simp only [cntL]); (try simp only [cntM]); omega
            · split at h
              · rename_i hw
                have := wTrue_in hw
                injection h with h; injection h with hv h; subst hv; (try simp only [cntV]); (try simp only [cntL]); (try simp only [cntM]); omega
              · split at h
                · rename_i hw
                  have := wFalse_in hw
                  injection h with h; injection h with hv h; subst hv; (try simp only [cntV]); (try simp only [cntL]); (try simp only [cntM]); omega
                · simp only [Option.map_eq_some_iff] at h
                  obtain ⟨⟨l, k⟩, hk, h⟩ := h
                  injection h with hv h
                  have := nm_ok hk
                  subst hv; simp only at h; (try simp only [cntV]); (try simp only [cntL]); (try simp only [cntM]); omega
    · rw [pa] at h
      simp only [Option.bind_eq_some_iff] at h
      obtain ⟨⟨v, k⟩, hk, h⟩ := h
      have h1 := (p_cnt s f i).1 v k hk
      have g1 := sk_ge s k
      simp only at h
      split at h
      · have := bt_in (s := s) (i := sk s k) (by omega)
        injection h with h; injection h with hv h; subst hv; (try simp only [cntV]); (try simp only [cntL]); (try simp only [cntM]); omega
      · split at h
        · simp only [Option.map_eq_some_iff] at h
          obtain ⟨⟨l, n⟩, hn, h⟩ := h
          injection h with hv h
          have := (p_cnt s f _).2.1 l n hn
          have g2 := sk_ge s (sk s k + 1)
          subst hv; simp only at h; (try simp only [cntL]); (try simp only [cntM]); omega
        · cases h
    · rw [po] at h
      simp only [Option.bind_eq_some_iff] at h
      obtain ⟨⟨key, a⟩, ha, h⟩ := h
      have h0 := strQ_ok ha
      simp only at h
      split at h
      · simp only [Option.bind_eq_some_iff] at h
        obtain ⟨⟨v, k⟩, hk, h⟩ := h
        have h1 := (p_cnt s f _).1 v k hk
        have g0 := sk_ge s a
        have g3 := sk_ge s (sk s a + 1)
        have g1 := sk_ge s k
        simp only at h
        split at h
        · have := bt_in (s := s) (i := sk s k) (by omega)
          injection h with h; injection h with hv h; subst hv; (try simp only [cntV]); (try simp only [cntL]); (try simp only [cntM]); omega
        · split at h
          · simp only [Option.map_eq_some_iff] at h
            obtain ⟨⟨l, n⟩, hn, h⟩ := h
            injection h with hv h
            have := (p_cnt s f _).2.2 l n hn
            have g2 := sk_ge s (sk s k + 1)
            subst hv; simp only at h; (try simp only [cntM]); omega
          · cases h
      · cases h

theorem val_cnt {s : ByteArray} {i j : Nat} {v : JV} (h : val s i = some (v, j)) : cntV v + i ≤ j := (p_cnt s _ i).1 v j h
end Go.Proofs.YtocnekbedcnmgaaGreatDoor


namespace Go.Proofs.YtocnekbedcnmgaaGreatDoor
open Go.RowKit

/-- The one value of a text. -/
def docR (s : ByteArray) : Option JV := (val s (sk s 0)).bind fun q => if sk s q.2 = s.size then some q.1 else none
/-- What readText finds: a code, or a value. -/
def readR (s : ByteArray) : Sum Nat JV :=
  if 20000 < s.size then .inl 1 else
  match docR s with
  | none => .inl 2
  | some v => if bigV v then .inl 3 else if twV v then .inl 4 else if 100 < depV v ∨ 3000 < cntV v then .inl 5 else .inr v
theorem doc_facts {s : ByteArray} {v : JV} (h : docR s = some v) : okV v ∧ cntV v ≤ s.size ∧ (ct v).length ≤ 30 * s.size := by
  unfold docR at h
  cases hv : val s (sk s 0) with
  | none => rw [hv] at h; simp at h
  | some q =>
    obtain ⟨u, j⟩ := q
    have e : u = v := by
      rw [hv] at h
      simp only [Option.bind_some] at h
      split at h
      · injection h
      · cases h
    subst e
    have h1 := val_cnt hv
    have h2 := val_len hv
    have h3 := val_ok hv
    exact ⟨val_okV hv, by omega, by omega⟩

/-- The answers of Canon and Measure. -/
def canonV (s : ByteArray) : Value := match readR s with
  | .inl c => .tuple #[.string ⟨#[]⟩, .int .i64 (c : Int)]
  | .inr v => .tuple #[.string (strOf (ct v)), .int .i64 0]
theorem read_facts {s : ByteArray} {v : JV} (h : readR s = .inr v) : s.size ≤ 20000 ∧ docR s = some v ∧ twV v = false ∧ bigV v = false ∧ depV v ≤ 100 ∧ cntV v ≤ 3000 := by
  unfold readR at h
  split at h
  · cases h
  · rename_i hs
    cases hd : docR s with
    | none => rw [hd] at h; simp at h
    | some u =>
      rw [hd] at h
      simp only at h
      split at h
      · cases h
      · rename_i hb
        split at h
        · cases h
        · rename_i ht
          split at h
          · cases h
          · rename_i hg
            injection h with h
            subst h
            exact ⟨by omega, rfl, by simpa using ht, by simpa using hb, by omega, by omega⟩
theorem read_code {s : ByteArray} {c : Nat} (h : readR s = .inl c) : 1 ≤ c ∧ c ≤ 5 := by
  unfold readR at h
  split at h
  · injection h with h; omega
  · split at h
    · injection h with h; omega
    · split at h
      · injection h with h; omega
      · split at h
        · injection h with h; omega
        · split at h
          · injection h with h; omega
          · cases h
end Go.Proofs.YtocnekbedcnmgaaGreatDoor


namespace Go.Proofs.YtocnekbedcnmgaaGreatDoor
open Go.RowKit

theorem arr_at {zs : List (List UInt8)} {m : Nat} (h : m < zs.length) : zs.toArray[m]! = zs[m] := by
  rw [getElem!_pos zs.toArray m (by simpa using h)]
  simp
theorem cut_facts {zs : List (List UInt8)} (h : zs.Pairwise (fun a b => a ≤ b)) : ∀ m, m ≤ zs.length → UpS (Lib.compactUpTo zs.toArray m) ∧ ∀ x, x ∈ Lib.compactUpTo zs.toArray m ↔ x ∈ zs.take m
  | 0, _ => by simp [Lib.compactUpTo, UpS]
  | m + 1, hm => by
    obtain ⟨h1, h2⟩ := cut_facts h m (by omega)
    rw [Lib.compactUpTo_succ, arr_at (by omega), List.take_succ_eq_append_getElem (by omega)]
    have hp := List.pairwise_iff_getElem.1 h
    cases hk : Lib.keeps zs.toArray m with
    | true =>
      rw [if_pos rfl]
      refine ⟨?_, fun x => by rw [List.mem_append, List.mem_append, h2]⟩
      unfold UpS at *
      rw [List.pairwise_append]
      refine ⟨h1, List.pairwise_singleton _ _, fun x hx y hy => ?_⟩
      rw [List.mem_singleton] at hy
      subst hy
      obtain ⟨j, hj, rfl⟩ := List.mem_iff_getElem.1 ((h2 x).1 hx)
      rw [List.length_take] at hj
      rw [List.getElem_take]
      rw [← List.not_le]
      intro hle
      have hm0 : m ≠ 0 := by omega
      unfold Lib.keeps at hk
      rw [decide_eq_true_eq, arr_at (by omega), arr_at (by omega)] at hk
      rcases hk with hk | hk
      · exact hm0 hk
      · refine hk (List.le_antisymm ?_ (hp (m - 1) m (by omega) (by omega) (by omega)))
        by_cases e : j = m - 1
        · subst e; exact hle
        · exact List.le_trans hle (hp j (m - 1) (by omega) (by omega) (by omega))
    | false =>
      rw [if_neg (by simp), List.append_nil]
      refine ⟨h1, fun x => ?_⟩
      unfold Lib.keeps at hk
      rw [decide_eq_false_iff_not, not_or] at hk
      obtain ⟨hm0, hk⟩ := hk
      rw [arr_at (by omega), arr_at (by omega), Classical.not_not] at hk
      rw [h2, List.mem_append, List.mem_singleton]
      refine ⟨.inl, fun hx => ?_⟩
      rcases hx with hx | hx
      · exact hx
      · rw [hx, hk]
        exact List.mem_iff_getElem.2 ⟨m - 1, by rw [List.length_take]; omega, by rw [List.getElem_take]⟩
theorem sort_once (l : List (List UInt8)) : Lib.compact (l.mergeSort (fun x y => decide (x ≤ y))) = onceL l := by
  have tr : ∀ a b c : List UInt8, decide (a ≤ b) = true → decide (b ≤ c) = true → decide (a ≤ c) = true := fun a b c h1 h2 => by simp only [decide_eq_true_eq] at *; exact List.le_trans h1 h2
  have to : ∀ a b : List UInt8, (decide (a ≤ b) || decide (b ≤ a)) = true := fun a b => by simp only [Bool.or_eq_true, decide_eq_true_eq]; exact List.le_total a b
  have hs : (l.mergeSort (fun x y => decide (x ≤ y))).Pairwise (fun a b => a ≤ b) := (List.pairwise_mergeSort tr to l).imp fun h => by simpa using h
  obtain ⟨h1, h2⟩ := cut_facts hs _ (Nat.le_refl _)
  refine up_ext h1 (onceL_up l) fun z => ?_
  show z ∈ Lib.compactUpTo _ _ ↔ _
  rw [h2, List.take_length, mem_onceL]
  exact (List.mergeSort_perm l _).mem_iff
theorem compact_len (zs : List (List UInt8)) : (Lib.compact zs).length ≤ zs.length := by
  unfold Lib.compact Lib.compactUpTo
  rw [List.length_map]
  exact Nat.le_trans (List.length_filter_le _ _) (by simp)
end Go.Proofs.YtocnekbedcnmgaaGreatDoor


namespace Go.Proofs.YtocnekbedcnmgaaGreatDoor
open Go.RowKit

/-- A number's canonical text. -/
def numC (l : List UInt8) : Prop := ∃ (sg ds : List UInt8) (d : UInt8), l = sg ++ d :: ds ∧ (sg = [] ∨ sg = [45]) ∧ isDg d.toNat = true ∧ (∀ b ∈ ds, isDg b.toNat = true) ∧ (d.toNat = 48 → ds = [] ∧ sg = [])
mutual
/-- A tree that its canonical text is read as, when its members are in order. -/
def rdV : JV → Prop
  | .nul => True
  | .tt => True
  | .ff => True
  | .num l => numC l
  | .str l => Lib.validD l = true
  | .arr l => rdL l
  | .obj m => rdM m
def rdL : JL → Prop
  | .nil => True
  | .cons v r => rdV v ∧ rdL r
def rdM : JM → Prop
  | .nil => True
  | .cons k v r => Lib.validD k = true ∧ rdV v ∧ rdM r
end
mutual
/-- Whether the members are in order, everywhere. -/
def srV : JV → Prop
  | .arr l => srL l
  | .obj m => srM m ∧ isort (ctM m) = ctM m
  | _ => True
def srL : JL → Prop
  | .nil => True
  | .cons v r => srV v ∧ srL r
def srM : JM → Prop
  | .nil => True
  | .cons _ v r => srV v ∧ srM r
end
theorem numC_ok {l : List UInt8} (h : numC l) : ∃ (c : UInt8) (r : List UInt8), l = c :: r ∧ (c.toNat = 45 ∨ isDg c.toNat = true) ∧ ∀ b ∈ r, isDg b.toNat = true := by
  obtain ⟨sg, ds, d, rfl, hs, hd, hds, _⟩ := h
  rcases hs with rfl | rfl
  · exact ⟨d, ds, rfl, .inr hd, hds⟩
  · refine ⟨45, d :: ds, rfl, .inl rfl, fun b hb => ?_⟩
    rcases List.mem_cons.1 hb with rfl | hb
    · exact hd
    · exact hds b hb
mutual
theorem rd_ok : ∀ v : JV, rdV v → okV v
  | .nul, _ => by rw [okV]; trivial
  | .tt, _ => by rw [okV]; trivial
  | .ff, _ => by rw [okV]; trivial
  | .num l, h => by rw [rdV] at h; rw [okV]; exact numC_ok h
  | .str l, h => by rw [rdV] at h; rw [okV]; exact h
  | .arr l, h => by rw [rdV] at h; rw [okV]; exact rd_okL l h
  | .obj m, h => by rw [rdV] at h; rw [okV]; exact rd_okM m h
theorem rd_okL : ∀ l : JL, rdL l → okL l
  | .nil, _ => by rw [okL]; trivial
  | .cons v r, h => by rw [rdL] at h; rw [okL]; exact ⟨rd_ok v h.1, rd_okL r h.2⟩
theorem rd_okM : ∀ m : JM, rdM m → okM m
  | .nil, _ => by rw [okM]; trivial
  | .cons k v r, h => by rw [rdM] at h; rw [okM]; exact ⟨h.1, rd_ok v h.2.1, rd_okM r h.2.2⟩
end
/-- Digits that end before something else. -/
theorem dg_run {T : ByteArray} : ∀ (ds m : List UInt8) (i : Nat), T.data.toList.drop i = ds ++ m → (∀ b ∈ ds, isDg b.toNat = true) → Stops m → dg T i = i + ds.length
  | [], m, i, h, _, hm => by
    rcases hm with rfl | ⟨c, r, rfl, hc⟩
    · rw [List.nil_append] at h
      have : T.size ≤ i := by
        have := List.drop_eq_nil_iff.1 h
        rw [data_len] at this; exact this
      rw [dg_off (by rw [bt_out T i this]; decide)]; rfl
    · obtain ⟨_, hb, _⟩ := at_head (T := T) h
      rw [dg_off (by rw [hb, isDg_iff]; omega)]; rfl
  | d :: ds, m, i, h, hd, hm => by
    obtain ⟨_, hb, h2⟩ := at_head (T := T) h
    rw [dg_on (by rw [hb]; exact hd d List.mem_cons_self), dg_run ds m (i + 1) h2 (fun b hb => hd b (List.mem_cons_of_mem _ hb)) hm, List.length_cons]
    omega
theorem cutB_app {T : ByteArray} {i : Nat} {l m : List UInt8} (h : T.data.toList.drop i = l ++ m) : cutB T i (i + l.length) = l := by
  unfold cutB
  rw [h, show i + l.length - i = l.length by omega, List.take_left]
theorem nm_at {T : ByteArray} {i : Nat} {l m : List UInt8} (hn : numC l) (h : T.data.toList.drop i = l ++ m) (hm : Stops m) : nm T i = some (l, i + l.length) := by
  have hc := cutB_app h
  obtain ⟨sg, ds, d, rfl, hs, hd, hds, h0⟩ := hn
  have hdv := isDg_iff.1 hd
  have key : ∀ k, nmD T i = k → T.data.toList.drop k = d :: (ds ++ m) → k + 1 + ds.length = i + (sg ++ d :: ds).length → nm T i = some (sg ++ d :: ds, i + (sg ++ d :: ds).length) := by
    intro k e1 e2 e3
    obtain ⟨_, hb, h2⟩ := at_head (T := T) e2
    have e4 : nmE T i = i + (sg ++ d :: ds).length := by
      unfold nmE
      rw [e1, hb]
      split
      · rename_i hz
        obtain ⟨q1, q2⟩ := h0 hz
        subst q1
        simp only [List.length_nil] at e3
        omega
      · rw [dg_on (by rw [hb]; exact hd), dg_run ds m (k + 1) h2 hds hm]; omega
    unfold nm
    rw [e1, hb, if_pos hd, e4, hc]
    unfold norm0
    rw [if_neg]
    intro e
    rcases hs with rfl | rfl
    · rw [List.nil_append] at e; injection e with e _; subst e; simp [isDg] at hd
    · simp only [List.cons_append, List.nil_append, List.cons.injEq, true_and] at e
      have : d.toNat = 48 := by rw [e.1]; rfl
      have := (h0 this).2
      cases this
  rcases hs with rfl | rfl
  · rw [List.nil_append] at h
    rw [List.cons_append] at h
    obtain ⟨_, hb, h2⟩ := at_head (T := T) h
    refine key i ?_ h (by simp; omega)
    unfold nmD; rw [if_neg (by omega)]
  · rw [List.cons_append, List.nil_append, List.cons_append] at h
    obtain ⟨_, hb, h2⟩ := at_head (T := T) h
    refine key (i + 1) ?_ h2 (by simp; omega)
    unfold nmD; rw [if_pos (by rw [hb]; rfl)]
/-- The first byte of a canonical text. -/
theorem ct_first {v : JV} (h : okV v) : ∃ (c : UInt8) (r : List UInt8), ct v = c :: r ∧ c.toNat ≠ 32 ∧ c.toNat ≠ 9 ∧ c.toNat ≠ 10 ∧ c.toNat ≠ 13 ∧ c.toNat ≠ 93 ∧ c.toNat ≠ 125 := by
  cases v with
  | nul => exact ⟨_, _, rfl, by decide, by decide, by decide, by decide, by decide, by decide⟩
  | tt => exact ⟨_, _, rfl, by decide, by decide, by decide, by decide, by decide, by decide⟩
  | ff => exact ⟨_, _, rfl, by decide, by decide, by decide, by decide, by decide, by decide⟩
  | num l =>
    rw [okV] at h
    obtain ⟨c, r, rfl, hc, _⟩ := h
    have : c.toNat = 45 ∨ (48 ≤ c.toNat ∧ c.toNat ≤ 57) := hc.imp id isDg_iff.1
    exact ⟨c, r, rfl, by omega, by omega, by omega, by omega, by omega, by omega⟩
  | str l => exact ⟨34, _, rfl, by decide, by decide, by decide, by decide, by decide, by decide⟩
  | arr l => exact ⟨91, _, rfl, by decide, by decide, by decide, by decide, by decide, by decide⟩
  | obj m => exact ⟨123, _, rfl, by decide, by decide, by decide, by decide, by decide, by decide⟩
theorem sk_here {T : ByteArray} {i : Nat} {c : UInt8} {r : List UInt8} (h : T.data.toList.drop i = c :: r) (h1 : c.toNat ≠ 32) (h2 : c.toNat ≠ 9) (h3 : c.toNat ≠ 10) (h4 : c.toNat ≠ 13) : sk T i = i := by
  obtain ⟨_, hb, _⟩ := at_head (T := T) h
  exact sk_off (by omega)
mutual
/-- A canonical text is read as the tree that it was written of. -/
theorem rd_at {T : ByteArray} : ∀ v : JV, rdV v → srV v → ∀ i m, T.data.toList.drop i = ct v ++ m → Stops m → val T i = some (v, i + (ct v).length)
  | .nul, _, _, i, m, h, _ => by
    have h0 : T.data.toList.drop i = 110 :: 117 :: 108 :: 108 :: m := h
    obtain ⟨_, b0, h1⟩ := at_head (T := T) h0
    obtain ⟨_, b1, h2⟩ := at_head (T := T) h1
    obtain ⟨_, b2, h3⟩ := at_head (T := T) h2
    obtain ⟨_, b3, _⟩ := at_head (T := T) h3
    rw [val_else (by rw [b0]; decide) (by rw [b0]; decide) (by rw [b0]; decide), if_pos (by unfold wNull; rw [b0, b1, b2, b3]; rfl)]
    rfl
  | .tt, _, _, i, m, h, _ => by
    have h0 : T.data.toList.drop i = 116 :: 114 :: 117 :: 101 :: m := h
    obtain ⟨_, b0, h1⟩ := at_head (T := T) h0
    obtain ⟨_, b1, h2⟩ := at_head (T := T) h1
    obtain ⟨_, b2, h3⟩ := at_head (T := T) h2
    obtain ⟨_, b3, _⟩ := at_head (T := T) h3
    rw [val_else (by rw [b0]; decide) (by rw [b0]; decide) (by rw [b0]; decide), if_neg (by unfold wNull; rw [b0]; simp), if_pos (by unfold wTrue; rw [b0, b1, b2, b3]; rfl)]
    rfl
  | .ff, _, _, i, m, h, _ => by
    have h0 : T.data.toList.drop i = 102 :: 97 :: 108 :: 115 :: 101 :: m := h
    obtain ⟨_, b0, h1⟩ := at_head (T := T) h0
    obtain ⟨_, b1, h2⟩ := at_head (T := T) h1
    obtain ⟨_, b2, h3⟩ := at_head (T := T) h2
    obtain ⟨_, b3, h4⟩ := at_head (T := T) h3
    obtain ⟨_, b4, _⟩ := at_head (T := T) h4
    rw [val_else (by rw [b0]; decide) (by rw [b0]; decide) (by rw [b0]; decide), if_neg (by unfold wNull; rw [b0]; simp), if_neg (by unfold wTrue; rw [b0]; simp), if_pos (by unfold wFalse; rw [b0, b1, b2, b3, b4]; rfl)]
    rfl
  | .num l, hr, _, i, m, h, hm => by
    rw [rdV] at hr
    have hn := nm_at hr h hm
    obtain ⟨c, r, rfl, hc, _⟩ := numC_ok hr
    obtain ⟨_, b0, _⟩ := at_head (T := T) (c := c) (m := r ++ m) h
    have : c.toNat = 45 ∨ (48 ≤ c.toNat ∧ c.toNat ≤ 57) := hc.imp id isDg_iff.1
    rw [val_else (by omega) (by omega) (by omega), if_neg (by unfold wNull; simp; omega), if_neg (by unfold wTrue; simp; omega), if_neg (by unfold wFalse; simp; omega), hn]
    rfl
  | .str l, hr, _, i, m, h, _ => by
    rw [rdV] at hr
    obtain ⟨_, b0, _⟩ := at_head (T := T) (c := 34) (m := qs l ++ [34] ++ m) (by rw [h]; simp [ct, quoted])
    rw [val_str (by rw [b0]; rfl), strQ_at l T m hr i h]
    rfl
  | .arr .nil, _, _, i, m, h, _ => by
    have h0 : T.data.toList.drop i = 91 :: 93 :: m := h
    obtain ⟨_, b0, h1⟩ := at_head (T := T) h0
    obtain ⟨_, b1, _⟩ := at_head (T := T) h1
    rw [val_arr (by rw [b0]; rfl), sk_here h1 (by decide) (by decide) (by decide) (by decide), if_pos (by rw [b1]; rfl)]
    rfl
  | .arr (.cons v r), hr, hs, i, m, h, hm => by
    rw [rdV] at hr
    rw [srV] at hs
    have h0 : T.data.toList.drop i = 91 :: (joinC (ctL (.cons v r)) ++ 93 :: m) := by rw [h]; simp [ct, mkA]
    obtain ⟨_, b0, h1⟩ := at_head (T := T) h0
    have hrv := hr
    rw [rdL] at hrv
    obtain ⟨c, q, e, c1, c2, c3, c4, c5, _⟩ := ct_first (rd_ok v hrv.1)
    have h1' : T.data.toList.drop (i + 1) = c :: (q ++ (joinT (ctL r) ++ 93 :: m)) := by rw [h1, ctL, joinC, e]; simp
    obtain ⟨_, b1, _⟩ := at_head (T := T) h1'
    rw [val_arr (by rw [b0]; rfl), sk_here h1' c1 c2 c3 c4, if_neg (by rw [b1]; exact c5), rd_atL v r hr hs (i + 1) m h1]
    have e2 : (ct (.arr (.cons v r))).length = (joinC (ctL (.cons v r))).length + 2 := by simp [ct, mkA]
    rw [e2]
    simp only [Option.map_some, Option.some.injEq, Prod.mk.injEq, true_and]
    omega
  | .obj .nil, _, _, i, m, h, _ => by
    have h0 : T.data.toList.drop i = 123 :: 125 :: m := h
    obtain ⟨_, b0, h1⟩ := at_head (T := T) h0
    obtain ⟨_, b1, _⟩ := at_head (T := T) h1
    rw [val_obj (by rw [b0]; rfl), sk_here h1 (by decide) (by decide) (by decide) (by decide), if_pos (by rw [b1]; rfl)]
    rfl
  | .obj (.cons k v r), hr, hs, i, m, h, hm => by
    rw [rdV] at hr
    rw [srV] at hs
    have hc : ct (.obj (.cons k v r)) = 123 :: (joinC ((ctM (.cons k v r)).map memT) ++ [125]) := by rw [ct, hs.2]; rfl
    have h0 : T.data.toList.drop i = 123 :: (joinC ((ctM (.cons k v r)).map memT) ++ 125 :: m) := by rw [h, hc]; simp
    obtain ⟨_, b0, h1⟩ := at_head (T := T) h0
    have h1' : T.data.toList.drop (i + 1) = 34 :: (qs k ++ [34] ++ 58 :: ct v ++ (joinT ((ctM r).map memT) ++ 125 :: m)) := by rw [h1, ctM, List.map_cons, joinC]; simp [memT, quoted]
    obtain ⟨_, b1, _⟩ := at_head (T := T) h1'
    rw [val_obj (by rw [b0]; rfl), sk_here h1' (by decide) (by decide) (by decide) (by decide), if_neg (by rw [b1]; decide), rd_atM k v r hr hs.1 (i + 1) m h1]
    rw [hc]
    simp only [Option.map_some, Option.some.injEq, Prod.mk.injEq, true_and, List.length_cons, List.length_append, List.length_nil]
    omega
termination_by v => SizeOf.sizeOf v
decreasing_by all_goals simp_wf; all_goals omega
theorem rd_atL {T : ByteArray} : ∀ (v : JV) (r : JL), rdL (.cons v r) → srL (.cons v r) → ∀ i m, T.data.toList.drop i = joinC (ctL (.cons v r)) ++ 93 :: m → elems T i = some (.cons v r, i + (joinC (ctL (.cons v r))).length + 1)
  | v, .nil, hr, hs, i, m, h => by
    rw [rdL] at hr
    rw [srL] at hs
    have h' : T.data.toList.drop i = ct v ++ 93 :: m := by rw [h]; simp [ctL, joinC, joinT]
    have hv := rd_at v hr.1 hs.1 i (93 :: m) h' (.inr ⟨93, m, rfl, .inr (.inl rfl)⟩)
    have h2 : T.data.toList.drop (i + (ct v).length) = 93 :: m := drop_past h'
    obtain ⟨_, b2, _⟩ := at_head (T := T) h2
    rw [elems_eq, hv]
    simp only [Option.bind_some]
    rw [sk_here h2 (by decide) (by decide) (by decide) (by decide), if_pos (by rw [b2]; rfl)]
    simp [ctL, joinC, joinT]
  | v, .cons u r, hr, hs, i, m, h => by
    rw [rdL] at hr
    rw [srL] at hs
    have h' : T.data.toList.drop i = ct v ++ 44 :: (joinC (ctL (.cons u r)) ++ 93 :: m) := by rw [h]; simp [ctL, joinC, joinT]
    have hv := rd_at v hr.1 hs.1 i _ h' (.inr ⟨44, _, rfl, .inl rfl⟩)
    have h2 : T.data.toList.drop (i + (ct v).length) = 44 :: (joinC (ctL (.cons u r)) ++ 93 :: m) := drop_past h'
    obtain ⟨_, b2, h3⟩ := at_head (T := T) h2
    have hru := hr.2
    rw [rdL] at hru
    obtain ⟨c, q, e, c1, c2, c3, c4, _, _⟩ := ct_first (rd_ok u hru.1)
    have h3' : T.data.toList.drop (i + (ct v).length + 1) = c :: (q ++ (joinT (ctL r) ++ 93 :: m)) := by rw [h3, ctL, joinC, e]; simp
    rw [elems_eq, hv]
    simp only [Option.bind_some]
    rw [sk_here h2 (by decide) (by decide) (by decide) (by decide), if_neg (by rw [b2]; decide), if_pos (by rw [b2]; rfl), sk_here h3' c1 c2 c3 c4, rd_atL u r hr.2 hs.2 _ m h3]
    have e2 : (joinC (ctL (.cons v (.cons u r)))).length = (ct v).length + 1 + (joinC (ctL (.cons u r))).length := by simp [ctL, joinC, joinT]; omega
    rw [e2]
    simp only [Option.map_some, Option.some.injEq, Prod.mk.injEq, true_and]
    omega
termination_by v r => SizeOf.sizeOf v + SizeOf.sizeOf r
decreasing_by all_goals simp_wf; all_goals omega
theorem rd_atM {T : ByteArray} : ∀ (k : List UInt8) (v : JV) (r : JM), rdM (.cons k v r) → srM (.cons k v r) → ∀ i m, T.data.toList.drop i = joinC ((ctM (.cons k v r)).map memT) ++ 125 :: m → mems T i = some (.cons k v r, i + (joinC ((ctM (.cons k v r)).map memT)).length + 1)
  | k, v, .nil, hr, hs, i, m, h => by
    rw [rdM] at hr
    rw [srM] at hs
    have h' : T.data.toList.drop i = quoted k ++ (58 :: (ct v ++ 125 :: m)) := by rw [h]; simp [ctM, joinC, joinT, memT]
    have hk := strQ_at k T _ hr.1 i h'
    have h2 : T.data.toList.drop (i + (quoted k).length) = 58 :: (ct v ++ 125 :: m) := drop_past h'
    obtain ⟨_, b2, h3⟩ := at_head (T := T) h2
    obtain ⟨c, q, e, c1, c2, c3, c4, _, _⟩ := ct_first (rd_ok v hr.2.1)
    have h3' : T.data.toList.drop (i + (quoted k).length + 1) = c :: (q ++ 125 :: m) := by rw [h3, e]; simp
    have hv := rd_at v hr.2.1 hs.1 (i + (quoted k).length + 1) (125 :: m) h3 (.inr ⟨125, m, rfl, .inr (.inr rfl)⟩)
    have h4 : T.data.toList.drop (i + (quoted k).length + 1 + (ct v).length) = 125 :: m := drop_past h3
    obtain ⟨_, b4, _⟩ := at_head (T := T) h4
    rw [mems_eq, hk]
    simp only [Option.bind_some]
    rw [sk_here h2 (by decide) (by decide) (by decide) (by decide), if_pos (by rw [b2]; rfl), sk_here h3' c1 c2 c3 c4, hv]
    simp only [Option.bind_some]
    rw [sk_here h4 (by decide) (by decide) (by decide) (by decide), if_pos (by rw [b4]; rfl)]
    have e2 : (joinC ((ctM (.cons k v .nil)).map memT)).length = (quoted k).length + 1 + (ct v).length := by simp [ctM, joinC, joinT, memT]; omega
    rw [e2]
    simp only [Option.some.injEq, Prod.mk.injEq, true_and]
    omega
  | k, v, .cons k' u r, hr, hs, i, m, h => by
    rw [rdM] at hr
    rw [srM] at hs
    have h' : T.data.toList.drop i = quoted k ++ (58 :: (ct v ++ 44 :: (joinC ((ctM (.cons k' u r)).map memT) ++ 125 :: m))) := by rw [h]; simp [ctM, joinC, joinT, memT]
    have hk := strQ_at k T _ hr.1 i h'
    have h2 := drop_past h'
    obtain ⟨_, b2, h3⟩ := at_head (T := T) h2
    obtain ⟨c, q, e, c1, c2, c3, c4, _, _⟩ := ct_first (rd_ok v hr.2.1)
    have h3' : T.data.toList.drop (i + (quoted k).length + 1) = c :: (q ++ 44 :: (joinC ((ctM (.cons k' u r)).map memT) ++ 125 :: m)) := by rw [h3, e]; simp
    have hv := rd_at v hr.2.1 hs.1 (i + (quoted k).length + 1) _ h3 (.inr ⟨44, _, rfl, .inl rfl⟩)
    have h4 := drop_past h3
    obtain ⟨_, b4, h5⟩ := at_head (T := T) h4
    have h5' : T.data.toList.drop (i + (quoted k).length + 1 + (ct v).length + 1) = 34 :: (qs k' ++ [34] ++ 58 :: ct u ++ (joinT ((ctM r).map memT) ++ 125 :: m)) := by rw [h5, ctM, List.map_cons, joinC]; simp [memT, quoted]
    rw [mems_eq, hk]
    simp only [Option.bind_some]
    rw [sk_here h2 (by decide) (by decide) (by decide) (by decide), if_pos (by rw [b2]; rfl), sk_here h3' c1 c2 c3 c4, hv]
    simp only [Option.bind_some]
    rw [sk_here h4 (by decide) (by decide) (by decide) (by decide), if_neg (by rw [b4]; decide), if_pos (by rw [b4]; rfl), sk_here h5' (by decide) (by decide) (by decide) (by decide), rd_atM k' u r hr.2.2 hs.2 _ m h5]
    have e2 : (joinC ((ctM (.cons k v (.cons k' u r))).map memT)).length = (quoted k).length + 1 + (ct v).length + 1 + (joinC ((ctM (.cons k' u r)).map memT)).length := by simp [ctM, joinC, joinT, memT]; omega
    rw [e2]
    simp only [Option.map_some, Option.some.injEq, Prod.mk.injEq, true_and]
    omega
termination_by _ v r => SizeOf.sizeOf v + SizeOf.sizeOf r
decreasing_by all_goals simp_wf; all_goals omega
end
/-- The whole text. -/
theorem doc_ct {v : JV} (h : rdV v) (hs : srV v) : docR (strOf (ct v)) = some v := by
  obtain ⟨c, r, e, c1, c2, c3, c4, _, _⟩ := ct_first (rd_ok v h)
  have h0 : (strOf (ct v)).data.toList.drop 0 = ct v ++ [] := by rw [strOf_toList]; simp
  have h1 : (strOf (ct v)).data.toList.drop 0 = c :: r := by rw [strOf_toList]; simpa using e
  unfold docR
  rw [sk_here h1 c1 c2 c3 c4, rd_at v h hs 0 [] h0 (.inl rfl)]
  simp only [Option.bind_some, Nat.zero_add]
  rw [sk_past (by rw [strOf_size]; exact Nat.le_refl _), if_pos (strOf_size _).symm]
end Go.Proofs.YtocnekbedcnmgaaGreatDoor


namespace Go.Proofs.YtocnekbedcnmgaaGreatDoor
open Go.RowKit

theorem fold_id : ∀ (l acc : List (List UInt8 × List UInt8)), l.Pairwise (fun a b => a.1 ≤ b.1) → (∀ a ∈ acc, ∀ b ∈ l, a.1 ≤ b.1) → l.foldl (fun acc p => insR p acc) acc = l.reverse ++ acc
  | [], acc, _, _ => rfl
  | p :: l, acc, h, ha => by
    rw [List.pairwise_cons] at h
    have e : insR p acc = p :: acc := by
      cases acc with
      | nil => rfl
      | cons q r => rw [insR, if_neg (List.not_lt.2 (ha q List.mem_cons_self p List.mem_cons_self))]
    rw [List.foldl_cons, e, fold_id l (p :: acc) h.2 (fun a hm b hb => by
      rcases List.mem_cons.1 hm with rfl | hm
      · exact h.1 b hb
      · exact ha a hm b (List.mem_cons_of_mem _ hb))]
    simp
theorem isort_id {l : List (List UInt8 × List UInt8)} (h : l.Pairwise (fun a b => a.1 ≤ b.1)) : isort l = l := by
  unfold isort
  rw [fold_id l [] h (fun a ha => by simp at ha)]
  simp
theorem isort_twice (l : List (List UInt8 × List UInt8)) : isort (isort l) = isort l := isort_id (isort_up l)

def JM.ofL : List (List UInt8 × JV) → JM
  | [] => .nil
  | (k, v) :: r => .cons k v (JM.ofL r)
theorem JM.toL_ofL : ∀ l : List (List UInt8 × JV), (JM.ofL l).toL = l
  | [] => rfl
  | (k, v) :: r => by rw [JM.ofL, JM.toL, JM.toL_ofL r]
theorem rdM_iff : ∀ m : JM, rdM m ↔ ∀ q ∈ m.toL, Lib.validD q.1 = true ∧ rdV q.2
  | .nil => by rw [rdM]; simp [JM.toL]
  | .cons k v r => by rw [rdM, rdM_iff r, JM.toL]; simp [and_assoc]
theorem srM_iff : ∀ m : JM, srM m ↔ ∀ q ∈ m.toL, srV q.2
  | .nil => by rw [srM]; simp [JM.toL]
  | .cons k v r => by rw [srM, srM_iff r, JM.toL]; simp
theorem bigM_iff : ∀ m : JM, bigM m = true ↔ ∃ q ∈ m.toL, bigV q.2 = true
  | .nil => by rw [bigM]; simp [JM.toL]
  | .cons k v r => by rw [bigM, Bool.or_eq_true, bigM_iff r, JM.toL]; simp
theorem twM_iff : ∀ (m : JM) (ks : List (List UInt8)), twM ks m = false ↔ (∀ q ∈ m.toL, twV q.2 = false) ∧ (m.toL.map (·.1)).Nodup ∧ ∀ q ∈ m.toL, q.1 ∉ ks
  | .nil, ks => by rw [twM]; simp [JM.toL]
  | .cons k v r, ks => by
    rw [twM, JM.toL]
    simp only [Bool.or_eq_false_iff, twM_iff r, List.map_cons, List.nodup_cons, List.mem_cons, List.contains_eq_mem, decide_eq_false_iff_not, List.mem_append, List.mem_map]
    constructor
    · rintro ⟨⟨h1, h2⟩, h3, h4, h5⟩
      refine ⟨?_, ⟨?_, h4⟩, ?_⟩
      · rintro q (rfl | hq)
        · exact h1
        · exact h3 q hq
      · rintro ⟨q, hq, e⟩
        exact h5 q hq (.inr (by simp [e]))
      · rintro q (rfl | hq)
        · exact h2
        · exact fun hk => h5 q hq (.inl hk)
    · rintro ⟨h1, ⟨h2, h3⟩, h4⟩
      refine ⟨⟨h1 _ (.inl rfl), h4 _ (.inl rfl)⟩, fun q hq => h1 q (.inr hq), h3, fun q hq hk => ?_⟩
      rcases hk with hk | hk
      · exact h4 q (.inr hq) hk
      · simp only [List.not_mem_nil, or_false] at hk
        exact h2 ⟨q, hq, hk⟩
theorem dl_iff : ∀ (l : List JV) (n : Nat), dl l ≤ n ↔ ∀ v ∈ l, depV v ≤ n
  | [], n => by simp [dl]
  | v :: r, n => by rw [dl, Nat.max_le, dl_iff r]; simp
theorem dlN_perm {a b : List JV} (h : a.Perm b) : dl a = dl b := by
  have h1 := (dl_iff b (dl b)).1 (Nat.le_refl _)
  have h2 := (dl_iff a (dl a)).1 (Nat.le_refl _)
  exact Nat.le_antisymm ((dl_iff _ _).2 fun v hv => h1 v (h.subset hv)) ((dl_iff _ _).2 fun v hv => h2 v (h.symm.subset hv))
/-- Members put in order. -/
def srtM (m : JM) : JM := JM.ofL (isortJ m.toL)
theorem srtM_perm (m : JM) : (srtM m).toL.Perm m.toL := by unfold srtM; rw [JM.toL_ofL]; exact isortJ_perm _
theorem srtM_ct (m : JM) : ctM (srtM m) = isort (ctM m) := by
  have e1 : ctM m = m.toL.map kt := ctM_map m
  have e2 : ctM (srtM m) = (srtM m).toL.map kt := ctM_map _
  rw [e1, e2]
  unfold srtM
  rw [JM.toL_ofL, isortJ_kt]
theorem bool_of {a b : Bool} (h : a = false ↔ b = false) : a = b := by
  cases a <;> cases b <;> simp at h <;> rfl
theorem srtM_facts (m : JM) : (rdM m → rdM (srtM m)) ∧ (srM m → srM (srtM m)) ∧ depM (srtM m) = depM m ∧ cntM (srtM m) = cntM m ∧ bigM (srtM m) = bigM m ∧ twM [] (srtM m) = twM [] m := by
  have p := srtM_perm m
  refine ⟨fun h => ?_, fun h => ?_, ?_, ?_, ?_, ?_⟩
  · rw [rdM_iff] at *; exact fun q hq => h q (p.subset hq)
  · rw [srM_iff] at *; exact fun q hq => h q (p.subset hq)
  · rw [depM_dl, depM_dl]; exact dlN_perm (p.map _)
  · rw [cntM_sum, cntM_sum]; exact (p.map _).sum_nat
  · have : bigM (srtM m) = true ↔ bigM m = true := by
      rw [bigM_iff, bigM_iff]
      exact ⟨fun ⟨q, h1, h2⟩ => ⟨q, p.subset h1, h2⟩, fun ⟨q, h1, h2⟩ => ⟨q, p.symm.subset h1, h2⟩⟩
    exact Bool.eq_iff_iff.2 this
  · refine bool_of ?_
    rw [twM_iff, twM_iff]
    exact ⟨fun ⟨h1, h2, h3⟩ => ⟨fun q hq => h1 q (p.symm.subset hq), ((p.map _).nodup_iff).1 h2, fun q hq => h3 q (p.symm.subset hq)⟩, fun ⟨h1, h2, h3⟩ => ⟨fun q hq => h1 q (p.subset hq), ((p.map _).nodup_iff).2 h2, fun q hq => h3 q (p.subset hq)⟩⟩

mutual
/-- The tree that a canonical text is read as. -/
def nv : JV → JV
  | .arr l => .arr (nvL l)
  | .obj m => .obj (srtM (nvM m))
  | .nul => .nul
  | .tt => .tt
  | .ff => .ff
  | .num l => .num l
  | .str l => .str l
def nvL : JL → JL
  | .nil => .nil
  | .cons v r => .cons (nv v) (nvL r)
def nvM : JM → JM
  | .nil => .nil
  | .cons k v r => .cons k (nv v) (nvM r)
end
structure NF (a b : JV) : Prop where
  ct : ct a = ct b
  rd : rdV b → rdV a
  sr : srV a
  dep : depV a = depV b
  cnt : cntV a = cntV b
  big : bigV a = bigV b
  tw : twV a = twV b
theorem NF.leaf {v : JV} (h : srV v) : NF v v := ⟨rfl, id, h, rfl, rfl, rfl, rfl⟩
mutual
theorem nv_nf : ∀ v : JV, NF (nv v) v
  | .nul => by rw [nv]; exact NF.leaf (by rw [srV]; trivial; all_goals simp)
  | .tt => by rw [nv]; exact NF.leaf (by rw [srV]; trivial; all_goals simp)
  | .ff => by rw [nv]; exact NF.leaf (by rw [srV]; trivial; all_goals simp)
  | .num l => by rw [nv]; exact NF.leaf (by rw [srV]; trivial; all_goals simp)
  | .str l => by rw [nv]; exact NF.leaf (by rw [srV]; trivial; all_goals simp)
  | .arr l => by
    obtain ⟨h1, h2, h3, h4, h5, h6, h7⟩ := nv_nfL l
    rw [nv]
    exact ⟨by rw [Go.Proofs.YtocnekbedcnmgaaGreatDoor.ct, Go.Proofs.YtocnekbedcnmgaaGreatDoor.ct, h1], fun h => by rw [rdV] at *; exact h2 h, by rw [srV]; exact h3, by rw [depV, depV, h4], by rw [cntV, cntV, h5], by rw [bigV, bigV, h6], by rw [twV, twV, h7]⟩
  | .obj m => by
    obtain ⟨h1, h2, h3, h4, h5, h6, h7⟩ := nv_nfM m
    obtain ⟨g1, g2, g3, g4, g5, g6⟩ := srtM_facts (nvM m)
    rw [nv]
    exact ⟨by rw [Go.Proofs.YtocnekbedcnmgaaGreatDoor.ct, Go.Proofs.YtocnekbedcnmgaaGreatDoor.ct, srtM_ct, isort_twice, h1], fun h => by rw [rdV] at *; exact g1 (h2 h), by rw [srV, srtM_ct, isort_twice]; exact ⟨g2 h3, rfl⟩, by rw [depV, depV, g3, h4], by rw [cntV, cntV, g4, h5], by rw [bigV, bigV, g5, h6], by rw [twV, twV, g6, h7]⟩
theorem nv_nfL : ∀ l : JL, ctL (nvL l) = ctL l ∧ (rdL l → rdL (nvL l)) ∧ srL (nvL l) ∧ depL (nvL l) = depL l ∧ cntL (nvL l) = cntL l ∧ bigL (nvL l) = bigL l ∧ twL (nvL l) = twL l
  | .nil => by rw [nvL, srL]; exact ⟨rfl, id, trivial, rfl, rfl, rfl, rfl⟩
  | .cons v r => by
    have h := nv_nf v
    obtain ⟨h1, h2, h3, h4, h5, h6, h7⟩ := nv_nfL r
    rw [nvL]
    exact ⟨by rw [ctL, ctL, h.ct, h1], fun q => by rw [rdL] at *; exact ⟨h.rd q.1, h2 q.2⟩, by rw [srL]; exact ⟨h.sr, h3⟩, by rw [depL, depL, h.dep, h4], by rw [cntL, cntL, h.cnt, h5], by rw [bigL, bigL, h.big, h6], by rw [twL, twL, h.tw, h7]⟩
theorem nv_nfM : ∀ m : JM, ctM (nvM m) = ctM m ∧ (rdM m → rdM (nvM m)) ∧ srM (nvM m) ∧ depM (nvM m) = depM m ∧ cntM (nvM m) = cntM m ∧ bigM (nvM m) = bigM m ∧ ∀ ks, twM ks (nvM m) = twM ks m
  | .nil => by rw [nvM, srM]; exact ⟨rfl, id, trivial, rfl, rfl, rfl, fun _ => rfl⟩
  | .cons k v r => by
    have h := nv_nf v
    obtain ⟨h1, h2, h3, h4, h5, h6, h7⟩ := nv_nfM r
    rw [nvM]
    exact ⟨by rw [ctM, ctM, h.ct, h1], fun q => by rw [rdM] at *; exact ⟨q.1, h.rd q.2.1, h2 q.2.2⟩, by rw [srM]; exact ⟨h.sr, h3⟩, by rw [depM, depM, h.dep, h4], by rw [cntM, cntM, h.cnt, h5], by rw [bigM, bigM, h.big, h6], fun ks => by rw [twM, twM, h.tw, h7]⟩
end
/-- What a canonical text is read as. -/
theorem doc_nv {v : JV} (h : rdV v) : docR (strOf (ct v)) = some (nv v) := by
  have f := nv_nf v
  have := doc_ct (f.rd h) f.sr
  rwa [f.ct] at this
theorem readR_ct {v : JV} (h : rdV v) (hb : bigV v = false) (ht : twV v = false) : readR (strOf (ct v)) = if 20000 < (ct v).length then .inl 1 else if 100 < depV v ∨ 3000 < cntV v then .inl 5 else .inr (nv v) := by
  have f := nv_nf v
  unfold readR
  rw [strOf_size, doc_nv h]
  simp only [f.big, f.tw, f.dep, f.cnt, hb, ht]
  rfl

/-- Numbers as they are read are canonical. -/
theorem nm_numC {s : ByteArray} {i j : Nat} {l : List UInt8} (h : nm s i = some (l, j)) : numC l := by
  unfold nm at h
  split at h
  · rename_i hd
    injection h with h; injection h with h1 h2
    have hlt : nmD s i < s.size := bt_in (by have := isDg_iff.1 hd; omega)
    have hE : nmD s i < nmE s i := by
      unfold nmE
      split
      · omega
      · rw [dg_on hd]
        have := (dg_le (s := s) (i := nmD s i + 1) (by omega)).1
        omega
    have hall : ∀ k, nmD s i ≤ k → k < nmE s i → isDg (bt s k) = true := fun k h1 h2 => by
      unfold nmE at h2
      split at h2
      · have : k = nmD s i := by omega
        rw [this]; exact hd
      · exact dg_all h1 h2
    have hz : bt s (nmD s i) = 48 → cutB s (nmD s i + 1) (nmE s i) = [] := fun e => by
      unfold nmE
      rw [if_pos e]
      unfold cutB
      simp
    have hb : (s.data.toList.getD (nmD s i) 0).toNat = bt s (nmD s i) := rfl
    have hds : ∀ b ∈ cutB s (nmD s i + 1) (nmE s i), isDg b.toNat = true := fun b hb => by
      obtain ⟨k, k1, k2, k3⟩ := cutB_at hb
      rw [k3]
      exact hall k (by omega) k2
    have hcut : cutB s (nmD s i) (nmE s i) = s.data.toList.getD (nmD s i) 0 :: cutB s (nmD s i + 1) (nmE s i) := cutB_head hE hlt
    by_cases h45 : bt s i = 45
    · have e : nmD s i = i + 1 := by unfold nmD; rw [if_pos h45]
      have hraw : cutB s i (nmE s i) = [45] ++ s.data.toList.getD (nmD s i) 0 :: cutB s (nmD s i + 1) (nmE s i) := by
        rw [cutB_head (by omega) (by omega), ← e, hcut]
        have : s.data.toList.getD i 0 = 45 := UInt8.toNat_inj.1 h45
        rw [this]; rfl
      by_cases h48 : bt s (nmD s i) = 48
      · have hl : l = [48] := by
          rw [← h1, hraw, hz h48]
          have : s.data.toList.getD (nmD s i) 0 = 48 := UInt8.toNat_inj.1 h48
          rw [this]; rfl
        subst hl
        exact ⟨[], [], 48, rfl, .inl rfl, rfl, fun b hb => by simp at hb, fun _ => ⟨rfl, rfl⟩⟩
      · refine ⟨[45], _, _, ?_, .inr rfl, hd, hds, fun h => absurd h h48⟩
        rw [← h1, hraw]
        unfold norm0
        rw [if_neg]
        intro e
        simp only [List.cons_append, List.nil_append, List.cons.injEq, true_and] at e
        exact h48 (by rw [← hb, e.1]; rfl)
    · have e : nmD s i = i := by unfold nmD; rw [if_neg h45]
      refine ⟨[], cutB s (nmD s i + 1) (nmE s i), s.data.toList.getD (nmD s i) 0, ?_, .inl rfl, hd, hds, fun h => ⟨hz h, rfl⟩⟩
      rw [← h1, List.nil_append, ← hcut]
      unfold norm0
      rw [if_neg, e]
      intro e2
      have hcut' := hcut
      rw [e] at hcut'
      rw [hcut'] at e2
      injection e2 with e2 _
      exact h45 (by show (s.data.toList.getD i 0).toNat = 45; rw [e2]; rfl)
  · cases h
theorem p_rdV (s : ByteArray) : ∀ f i, (∀ v j, pv s f i = some (v, j) → rdV v) ∧ (∀ l j, pa s f i = some (l, j) → rdL l) ∧ (∀ m j, po s f i = some (m, j) → rdM m)
  | 0, i => ⟨fun v j h => by simp [pv] at h, fun v j h => by simp [pa] at h, fun v j h => by simp [po] at h⟩
  | f + 1, i => by
    refine ⟨fun v j h => ?_, fun l j h => ?_, fun m j h => ?_⟩
    · rw [pv] at h
      split at h
      · split at h
        · injection h with h; injection h with hv h; subst hv; rw [rdV, rdL]; trivial
        · simp only [Option.map_eq_some_iff] at h
          obtain ⟨⟨l, k⟩, hk, h⟩ := h
          injection h with hv h
          subst hv; rw [rdV]; exact (p_rdV s f (sk s (i + 1))).2.1 l k hk
      · split at h
        · split at h
          · injection h with h; injection h with hv h; subst hv; rw [rdV, rdM]; trivial
          · simp only [Option.map_eq_some_iff] at h
            obtain ⟨⟨l, k⟩, hk, h⟩ := h
            injection h with hv h
            subst hv; rw [rdV]; exact (p_rdV s f (sk s (i + 1))).2.2 l k hk
        · split at h
          · simp only [Option.map_eq_some_iff] at h
            obtain ⟨⟨l, k⟩, hk, h⟩ := h
            injection h with hv h
            subst hv; rw [rdV]; exact strQ_valid hk
          · split at h
            · injection h with h; injection h with hv h; subst hv; rw [rdV]; trivial
            · split at h
              · injection h with h; injection h with hv h; subst hv; rw [rdV]; trivial
              · split at h
                · injection h with h; injection h with hv h; subst hv; rw [rdV]; trivial
                · simp only [Option.map_eq_some_iff] at h
                  obtain ⟨⟨l, k⟩, hk, h⟩ := h
                  injection h with hv h
                  subst hv; rw [rdV]; exact nm_numC hk
    · rw [pa] at h
      simp only [Option.bind_eq_some_iff] at h
      obtain ⟨⟨v, k⟩, hk, h⟩ := h
      have h1 := (p_rdV s f i).1 v k hk
      simp only at h
      split at h
      · injection h with h; injection h with hv h; subst hv; rw [rdL, rdL]; exact ⟨h1, trivial⟩
      · split at h
        · simp only [Option.map_eq_some_iff] at h
          obtain ⟨⟨l, n⟩, hn, h⟩ := h
          injection h with hv h
          subst hv; rw [rdL]; exact ⟨h1, (p_rdV s f _).2.1 l n hn⟩
        · cases h
    · rw [po] at h
      simp only [Option.bind_eq_some_iff] at h
      obtain ⟨⟨key, a⟩, ha, h⟩ := h
      have h0 := strQ_valid ha
      simp only at h
      split at h
      · simp only [Option.bind_eq_some_iff] at h
        obtain ⟨⟨v, k⟩, hk, h⟩ := h
        have h1 := (p_rdV s f _).1 v k hk
        simp only at h
        split at h
        · injection h with h; injection h with hv h; subst hv; rw [rdM, rdM]; exact ⟨h0, h1, trivial⟩
        · split at h
          · simp only [Option.map_eq_some_iff] at h
            obtain ⟨⟨l, n⟩, hn, h⟩ := h
            injection h with hv h
            subst hv; rw [rdM]; exact ⟨h0, h1, (p_rdV s f _).2.2 l n hn⟩
          · cases h
      · cases h
theorem val_rdV {s : ByteArray} {i j : Nat} {v : JV} (h : val s i = some (v, j)) : rdV v := (p_rdV s _ i).1 v j h
theorem doc_rdV {s : ByteArray} {v : JV} (h : docR s = some v) : rdV v := by
  unfold docR at h
  cases hv : val s (sk s 0) with
  | none => rw [hv] at h; simp at h
  | some q =>
    obtain ⟨u, j⟩ := q
    rw [hv] at h
    simp only [Option.bind_some] at h
    split at h
    · injection h with h; subst h; exact val_rdV hv
    · cases h
end Go.Proofs.YtocnekbedcnmgaaGreatDoor


namespace Go.Proofs.YtocnekbedcnmgaaGreatDoor
open Go.RowKit

end Go.Proofs.YtocnekbedcnmgaaGreatDoor

