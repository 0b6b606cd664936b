import Derived.Test.YtadefcohbkgbfabGreatDoorBn1
import Derived.Test.YtadefcohbkgbfabGreatDoorBn7
import Derived.Test.YtadefcohbkgbfabGreatDoorBn6
import Derived.Laws.DeepStrings4
namespace Go.Proofs.YtadefcohbkgbfabGreatDoor
open Go.RowKit

/-- The decimal text of a number, as the model writes it. -/
def decF : Nat → Nat → List UInt8
  | 0, _ => []
  | f + 1, n => if n < 10 then [UInt8.ofNat (48 + n)] else decF f (n / 10) ++ [UInt8.ofNat (48 + n % 10)]
def decT (n : Nat) : List UInt8 := decF (n + 1) n
theorem decF_same : ∀ (f g n : Nat), n < f → n < g → decF f n = decF g n
  | 0, _, _, h, _ => by omega
  | _ + 1, 0, _, _, h => by omega
  | f + 1, g + 1, n, hf, hg => by
    rw [decF, decF]
    by_cases h : n < 10
    · rw [if_pos h, if_pos h]
    · rw [if_neg h, if_neg h, decF_same f g (n / 10) (by omega) (by omega)]
theorem decT_lo {n : Nat} (h : n < 10) : decT n = [UInt8.ofNat (48 + n)] := by unfold decT; rw [decF, if_pos h]
theorem decT_hi {n : Nat} (h : ¬ n < 10) : decT n = decT (n / 10) ++ decT (n % 10) := by
  rw [decT_lo (n := n % 10) (by omega)]
  unfold decT
  rw [decF, if_neg h, decF_same n (n / 10 + 1) (n / 10) (by omega) (by omega)]
theorem decT_len : ∀ n : Nat, (decT n).length ≤ n + 1 := fun n => by
  have : ∀ f n, (decF f n).length ≤ f := by
    intro f
    induction f with
    | zero => intro n; simp [decF]
    | succ f ih =>
      intro n
      rw [decF]
      split
      · simp
      · have := ih (n / 10); simp; omega
  exact this (n + 1) n

set_option maxRecDepth 100000 in
set_option maxHeartbeats 1600000 in
theorem dec_walk : ∀ (b n : Nat) (w : World), n ≤ b → n ≤ 1000000000 → Calls Tryz.prog 81 #[.int .i64 (n : Int)] w fun e w' => e = .returned (.string (strOf (decT n))) ∧ Below w.heap.size w w' := by
  intro b
  induction b with
  | zero =>
    intro n w hn _
    obtain rfl : n = 0 := by omega
    have hcv := convert_bytes w (decT 0) #[.int .u8 48] 1 rfl rfl
    generalize decT 0 = u at *
    go_enter Tryz.func81, Tryz.ntmps81
    go_wp2
    go_ret
    exact ⟨rfl, (Below.refl _ _).alloc (Nat.le_refl _) _⟩
  | succ b ih =>
    intro n w hn hm
    by_cases h : n < 10
    · have hcv := convert_bytes w (decT n) #[.int .u8 (48 + (n : Int))] 1 (by rw [decT_lo h]; rfl) (by rw [decT_lo h]; simp [Lib.byteCells]; omega)
      have h1 : (n : Int) < 10 := by omega
      generalize decT n = u at *
      clear ih
      go_enter Tryz.func81, Tryz.ntmps81
      go_wp2
      go_ret
      exact ⟨rfl, (Below.refl _ _).alloc (Nat.le_refl _) _⟩
    · have h1 : ¬ (n : Int) < 10 := by omega
      have hd : (n : Int) / 10 = ((n / 10 : Nat) : Int) := by omega
      have hr : (n : Int) % 10 = ((n % 10 : Nat) : Int) := by omega
      have HA : Hid (∀ w, Calls Tryz.prog 81 #[.int .i64 ((n / 10 : Nat) : Int)] w fun e w' => e = .returned (.string (strOf (decT (n / 10)))) ∧ Below w.heap.size w w') := fun w => ih (n / 10) w (by omega) (by omega)
      have HB : Hid (∀ w, Calls Tryz.prog 81 #[.int .i64 ((n % 10 : Nat) : Int)] w fun e w' => e = .returned (.string (strOf (decT (n % 10)))) ∧ Below w.heap.size w w') := fun w => ih (n % 10) w (by omega) (by omega)
      have HE : Hid (strOf (decT (n / 10)) ++ strOf (decT (n % 10)) = strOf (decT n)) := by show _ = _; rw [strOf_app, ← decT_hi h]
      have z1 : (strOf (decT (n / 10))).size ≤ 1000000001 := by rw [strOf_size]; have := decT_len (n / 10); omega
      have z2 : (strOf (decT (n % 10))).size ≤ 1000000001 := by rw [strOf_size]; have := decT_len (n % 10); omega
      have z3 : (9223372036854775807 < (strOf (decT (n / 10))).size + (strOf (decT (n % 10))).size) = False := eq_false (by omega)
      generalize strOf (decT n) = u at *
      generalize strOf (decT (n / 10)) = u1 at *
      generalize strOf (decT (n % 10)) = u2 at *
      generalize n / 10 = q at *
      generalize n % 10 = r at *
      clear ih h
      go_enter Tryz.func81, Tryz.ntmps81
      go_wp2_with fail
      refine (unhide HA _).mono ?_
      rintro e w1 ⟨rfl, b1⟩
      go_wp2_with fail
      refine (unhide HB _).mono ?_
      rintro e w2 ⟨rfl, b2⟩
      have B2 := below_next b1 b2
      clear HA HB
      go_wp2
      go_ret
      exact ⟨by rw [← unhide HE]; rfl, B2⟩
end Go.Proofs.YtadefcohbkgbfabGreatDoor


namespace Go.Proofs.YtadefcohbkgbfabGreatDoor
open Go.RowKit

def idxF : Nat → List (List UInt8) → List (List UInt8 × List UInt8)
  | _, [] => []
  | b, t :: r => (decT b, t) :: idxF (b + 1) r
theorem idxF_snoc : ∀ (a : List (List UInt8)) (b : Nat) (t : List UInt8), idxF b (a ++ [t]) = idxF b a ++ [(decT (b + a.length), t)]
  | [], b, t => rfl
  | x :: r, b, t => by
    simp only [List.cons_append, idxF, idxF_snoc r (b + 1) t, List.length_cons]
    rw [show b + 1 + r.length = b + (r.length + 1) by omega]
theorem idxF_len : ∀ (a : List (List UInt8)) (b : Nat), (idxF b a).length = a.length
  | [], _ => rfl
  | _ :: r, b => by simp [idxF, idxF_len r (b + 1)]
/-- The parts of a value, as the model tells them. -/
def partsV : JV → List (List UInt8 × List UInt8)
  | .arr l => idxF 0 (ctL l)
  | .obj m => isort (ctM m)
  | _ => []
theorem ct_ne : ∀ v : JV, okV v → ct v ≠ []
  | .nul, _ => by simp [ct]
  | .tt, _ => by simp [ct]
  | .ff, _ => by simp [ct]
  | .num l, h => (num_plain h).1
  | .str l, _ => by simp [ct, quoted]
  | .arr l, _ => by simp [ct, mkA]
  | .obj m, _ => by simp [ct, mkO]
theorem ctL_top (T : ByteArray) : ∀ l : JL, okL l → ∀ t ∈ ctL l, TopP T t ∧ t ≠ []
  | .nil, _, t, ht => by simp [ctL] at ht
  | .cons v r, h, t, ht => by
    rw [okL] at h
    rw [ctL] at ht
    rcases List.mem_cons.1 ht with e | ht
    · rw [e]; exact ⟨(ctP v h.1).2, ct_ne v h.1⟩
    · exact ctL_top T r h.2 t ht
theorem ctM_top (T : ByteArray) : ∀ m : JM, okM m → ∀ p ∈ ctM m, TopP T p.2 ∧ p.2 ≠ [] ∧ Lib.validD p.1 = true
  | .nil, _, p, hp => by simp [ctM] at hp
  | .cons k v r, h, p, hp => by
    rw [okM] at h
    rw [ctM] at hp
    rcases List.mem_cons.1 hp with e | hp
    · rw [e]; exact ⟨(ctP v h.2.1).2, ct_ne v h.2.1, h.1⟩
    · exact ctM_top T r h.2.2 p hp
/-- Where part k begins. -/
def pk (cs : List (List UInt8)) (k : Nat) : Nat := 1 + (joinC (cs.take k)).length + (if k = 0 then 0 else 1)
theorem joinT_split : ∀ (cs : List (List UInt8)) (k : Nat), (h : k < cs.length) → joinT cs = joinT (cs.take k) ++ 44 :: (cs[k] ++ joinT (cs.drop (k + 1)))
  | t :: r, 0, _ => by simp [joinT]
  | t :: r, k + 1, h => by
    have := joinT_split r k (by simpa using h)
    simp only [List.take_succ_cons, joinT, List.getElem_cons_succ, List.drop_succ_cons]
    rw [this]; simp
theorem joinC_split (cs : List (List UInt8)) (k : Nat) (h : k < cs.length) : joinC cs = (joinC (cs.take k) ++ (if k = 0 then [] else [44])) ++ (cs[k] ++ joinT (cs.drop (k + 1))) := by
  cases cs with
  | nil => simp at h
  | cons t r =>
    cases k with
    | zero => simp [joinC]
    | succ k =>
      have := joinT_split r k (by simpa using h)
      simp only [joinC, List.take_succ_cons, List.getElem_cons_succ, List.drop_succ_cons]
      rw [this]
      simp
theorem stops_tail (cs : List (List UInt8)) (c : UInt8) (hc : c.toNat = 93 ∨ c.toNat = 125) : Stops (joinT cs ++ [c]) := by
  cases cs with
  | nil => exact .inr ⟨c, [], rfl, .inr hc⟩
  | cons t r => exact .inr ⟨44, _, rfl, .inl rfl⟩
theorem drop_pk {T : ByteArray} {cs : List (List UInt8)} {a c : UInt8} (hT : T.data.toList = a :: (joinC cs ++ [c])) (k : Nat) (h : k < cs.length) : T.data.toList.drop (pk cs k) = cs[k] ++ (joinT (cs.drop (k + 1)) ++ [c]) := by
  have e : T.data.toList = (a :: (joinC (cs.take k) ++ (if k = 0 then [] else [44]))) ++ (cs[k] ++ (joinT (cs.drop (k + 1)) ++ [c])) := by
    rw [hT, joinC_split cs k h]; simp
  have hl : (a :: (joinC (cs.take k) ++ (if k = 0 then [] else [44]))).length = pk cs k := by
    unfold pk
    split <;> simp <;> omega
  rw [e, ← hl, List.drop_left]
theorem pk_next (cs : List (List UInt8)) (k : Nat) (h : k < cs.length) : pk cs (k + 1) = pk cs k + cs[k].length + 1 := by
  have e : (joinC (cs.take (k + 1))).length = (joinC (cs.take k)).length + (if k = 0 then 0 else 1) + cs[k].length := by
    rw [List.take_succ_eq_append_getElem h, joinC_snoc]
    by_cases hk : k = 0
    · subst hk; simp [joinC]
    · have hne : cs.take k ≠ [] := by intro e; have := congrArg List.length e; rw [List.length_take, List.length_nil] at this; omega
      rw [if_neg hne, if_neg hk]
      simp; omega
  unfold pk
  rw [e, if_neg (Nat.succ_ne_zero k)]
  omega
theorem pk_in {T : ByteArray} {cs : List (List UInt8)} {a c : UInt8} (hT : T.data.toList = a :: (joinC cs ++ [c])) (k : Nat) (h : k < cs.length) : pk cs k + cs[k].length + 1 ≤ T.size := by
  have h1 := congrArg List.length (drop_pk hT k h)
  rw [List.length_drop, data_len] at h1
  simp at h1
  by_cases hle : pk cs k ≤ T.size
  · omega
  · omega
theorem pk_end {T : ByteArray} {cs : List (List UInt8)} {a c : UInt8} (hT : T.data.toList = a :: (joinC cs ++ [c])) : T.size ≤ pk cs cs.length + 1 := by
  have h1 := congrArg List.length hT
  rw [data_len] at h1
  simp at h1
  unfold pk
  rw [List.take_of_length_le (Nat.le_refl _)]
  omega
theorem cut_pk {T : ByteArray} {i : Nat} {t m : List UInt8} (h : T.data.toList.drop i = t ++ m) : T.extract i (i + t.length) = strOf t := by
  rw [strOf_cut]
  unfold cutB
  rw [h, Nat.add_sub_cancel_left]
  simp
end Go.Proofs.YtadefcohbkgbfabGreatDoor


namespace Go.Proofs.YtadefcohbkgbfabGreatDoor
open Go.RowKit

theorem unit_short {s : ByteArray} {i : Nat} (h : s.size < i + 6) : unit s i = none := by
  cases e : unit s i with
  | none => rfl
  | some u => have := unit_in e; omega

set_option maxHeartbeats 1600000 in
theorem l1Unit_walk (s : ByteArray) (i : Nat) (hs : s.size ≤ 1048576) (hi : i ≤ 2000000) (w : World) :
    Calls Tryz.prog 96 #[.string s, .int .i64 i] w fun e w' => w = w' ∧ e = .returned (.int .i64 (optI (unit s i))) := by
  by_cases hlen : i + 6 ≤ s.size
  · have hl' : ¬ (s.size : Int) < (i : Int) + 6 := by omega
    have e0 := bt_at s i (by omega)
    have e1 := bt_at s (i + 1) (by omega)
    by_cases h0 : bt s i = 92
    · have q0 : ((s[i]'(by omega)).toNat : Int) = 92 := by omega
      have t0 : (((s[i]'(by omega)).toNat : Int) != 92) = false := by rw [bne_eq_false_iff_eq]; omega
      by_cases h1 : bt s (i + 1) = 117
      · have t1 : (((s[i + 1]'(by omega)).toNat : Int) != 117) = false := by rw [bne_eq_false_iff_eq]; omega
        have HU : Hid (unit s i = hexN s (i + 2) 4) := by show _ = _; unfold unit; rw [if_pos ⟨h0, h1⟩]
        have dl : decide ((s.size : Int) < (i : Int) + 6) = false := by simp; omega
        clear h0 h1 e0 e1 q0
        go_enter Tryz.func96, Tryz.ntmps96
        go_wp2
        clear t0 t1 dl hl'
        go_loopw [5, 6] (fun v k wr => ∃ j u : Nat, j ≤ 4 ∧ k = .int .i64 ((j + 2 : Nat) : Int) ∧ u < 16 ^ j ∧ v = .int .i64 (u : Int) ∧ hexN s (i + 2) j = some u ∧ w = wr) (fun _ k _ => 6 - (intOf k).toNat)
        case atStart => exact ⟨0, 0, by omega, rfl, by decide, rfl, rfl, rfl⟩
        case round =>
          obtain ⟨j, u, hj, rfl, hu, rfl, hx, rfl⟩ := hrel
          have HV := hide hx
          clear hx
          by_cases h4 : j < 4
          · have hu65 : u < 65536 := by
              have : (16 : Nat) ^ j ≤ 16 ^ 3 := Nat.pow_le_pow_right (by decide) (by omega)
              omega
            have hin : i + (j + 2) < s.size := by omega
            have HC := hide (l1Hex_walk ((s[i + (j + 2)]'hin).toNat) (UInt8.toNat_lt _) w)
            have eb : bt s (i + 2 + j) = (s[i + (j + 2)]'hin).toNat := by rw [show i + 2 + j = i + (j + 2) from by omega]; exact bt_at s _ hin
            cases hx1 : hx ((s[i + (j + 2)]'hin).toNat) with
            | some d =>
              have hd := hx_lt hx1
              have HX := hide (hexN_next (unhide HV) (by rw [eb]; exact hx1))
              rw [hx1] at HC
              have hd0 : ¬ ((d : Int) < 0) := by omega
              clear hx1 eb
              go_wp2_with fail
              refine (unhide HC).mono ?_
              rintro e w1 ⟨rfl, rfl⟩
              clear HC
              simp only [optI, Option.elim]
              go_wp2
              go_roundw
              case rel => exact ⟨j + 1, u * 16 + d, by omega, by go_num, by rw [Nat.pow_succ]; omega, by go_num, unhide HX, trivial⟩
              case measure => simp [intOf]; omega
            | none =>
              have HX : Hid (hexN s (i + 2) 4 = none) := hexN_none (hexN_bad (by rw [eb]; exact hx1)) (by omega)
              rw [hx1] at HC
              clear hx1 eb
              go_wp2_with fail
              refine (unhide HC).mono ?_
              rintro e w1 ⟨rfl, rfl⟩
              clear HC
              simp only [optI, Option.elim]
              go_wp2
              go_ret
              exact ⟨rfl, by rw [unhide HU, unhide HX]; rfl⟩
          · have e4 : j = 4 := by omega
            subst e4
            go_wp2
            go_ret
            exact ⟨rfl, by rw [unhide HU, unhide HV]; rfl⟩
      · have t1 : (((s[i + 1]'(by omega)).toNat : Int) != 117) = true := by rw [bne_iff_ne]; omega
        have HU : Hid (unit s i = none) := by show _ = _; unfold unit; rw [if_neg (fun h => h1 h.2)]
        clear h0 h1 e0 e1 q0
        go_enter Tryz.func96, Tryz.ntmps96
        go_wp2
        go_ret
        exact ⟨rfl, by rw [unhide HU]; rfl⟩
    · have t0 : (((s[i]'(by omega)).toNat : Int) != 92) = true := by rw [bne_iff_ne]; omega
      have HU : Hid (unit s i = none) := by show _ = _; unfold unit; rw [if_neg (fun h => h0 h.1)]
      clear h0 e0 e1
      go_enter Tryz.func96, Tryz.ntmps96
      go_wp2
      go_ret
      exact ⟨rfl, by rw [unhide HU]; rfl⟩
  · have hl' : (s.size : Int) < (i : Int) + 6 := by omega
    have HU := hide (unit_short (s := s) (i := i) (by omega))
    go_enter Tryz.func96, Tryz.ntmps96
    go_wp2
    go_ret
    exact ⟨rfl, by rw [unhide HU]; rfl⟩
end Go.Proofs.YtadefcohbkgbfabGreatDoor


namespace Go.Proofs.YtadefcohbkgbfabGreatDoor
open Go.RowKit

theorem strOf_ext {b : ByteArray} {l : List UInt8} (h : b.data.toList = l) : b = strOf l := by
  subst h
  cases b with
  | mk d => simp [strOf]
theorem ext_str (s : ByteArray) (i n : Nat) (l : List UInt8) (h : (s.data.toList.drop i).take n = l) : s.extract i (i + n) = strOf l := by
  refine strOf_ext ?_
  rw [Lib.extract_data, show i + n - i = n from by omega, h]
theorem enc_low {r : Nat} (h : r < 128) : enc r = [UInt8.ofNat r] := by
  unfold enc; rw [← utf_enc (by omega) (by omega)]; unfold utf utfZ; rw [if_pos h]; rfl
theorem enc_utf {r : Nat} (h : r ≤ 1114111) (h' : r < 55296 ∨ 57344 ≤ r) : utf r = enc r := utf_enc h h'

abbrev PNone (w : World) (e : Ending) (w' : World) : Prop := (∃ t, e = .returned (.tuple #[.string t, .int .i64 0])) ∧ Below w.heap.size w w'
abbrev PSome (w : World) (t : ByteArray) (n : Nat) (e : Ending) (w' : World) : Prop := e = .returned (.tuple #[.string t, .int .i64 (n : Int)]) ∧ Below w.heap.size w w'

set_option maxHeartbeats 1600000 in
set_option maxRecDepth 100000 in
theorem pc_bad (s : ByteArray) (i : Nat) (w : World) (hs : s.size ≤ 1048576) (hi : i < s.size) (h : 128 ≤ s[i].toNat) (hr : rl s i = 0) :
    Calls Tryz.prog 78 #[.string s, .int .i64 i] w (PNone w) := by
  have HR := hide (rl_walk s i w hi hs)
  rw [hr] at HR
  have h' : (128 : Int) ≤ (s[i].toNat : Int) := by omega
  clear hr
  go_enter Tryz.func78, Tryz.ntmps78
  go_wp2_with fail
  refine (unhide HR).mono ?_
  rintro e w1 ⟨rfl, b1⟩
  clear HR
  go_wp2
  go_ret2
  exact ⟨⟨_, rfl⟩, b1⟩
set_option maxHeartbeats 1600000 in
set_option maxRecDepth 100000 in
theorem pc_multi (s : ByteArray) (i : Nat) (w : World) (hs : s.size ≤ 1048576) (hi : i < s.size) (h : 128 ≤ s[i].toNat) (hr : ¬ rl s i = 0) :
    Calls Tryz.prog 78 #[.string s, .int .i64 i] w (PSome w (strOf (enc (Utf8.decode s i).1)) (rl s i)) := by
  have HR := hide (rl_walk s i w hi hs)
  have hle := rl_le s i hi
  have HE : Hid (s.extract i (i + rl s i) = strOf (enc (Utf8.decode s i).1)) := ext_str s i (rl s i) _ (enc_multi s i hi hr (by omega)).1.symm
  have h' : (128 : Int) ≤ (s[i].toNat : Int) := by omega
  clear hr
  generalize strOf (enc (Utf8.decode s i).1) = t at *
  generalize rl s i = n at *
  go_enter Tryz.func78, Tryz.ntmps78
  go_wp2_with fail
  refine (unhide HR).mono ?_
  rintro e w1 ⟨rfl, b1⟩
  clear HR
  go_wp2
  go_ret2
  exact ⟨by rw [← unhide HE]; rfl, b1⟩
set_option maxHeartbeats 1600000 in
set_option maxRecDepth 100000 in
theorem pc_ctl (s : ByteArray) (i : Nat) (w : World) (hi : i < s.size) (h : s[i].toNat < 32) :
    Calls Tryz.prog 78 #[.string s, .int .i64 i] w (PNone w) := by
  have h1 : ¬ (128 : Int) ≤ (s[i].toNat : Int) := by omega
  have h2 : ((s[i].toNat : Int) != 92) = true := by rw [bne_iff_ne]; omega
  have h3 : (s[i].toNat : Int) < 32 := by omega
  go_enter Tryz.func78, Tryz.ntmps78
  go_wp2
  go_ret2
  exact ⟨⟨_, rfl⟩, Below.refl _ _⟩
set_option maxHeartbeats 1600000 in
set_option maxRecDepth 100000 in
theorem pc_asc (s : ByteArray) (i : Nat) (w : World) (hs : s.size ≤ 1048576) (hi : i < s.size) (h32 : 32 ≤ s[i].toNat) (h128 : s[i].toNat < 128) (h92 : s[i].toNat ≠ 92) (h34 : s[i].toNat ≠ 34) :
    Calls Tryz.prog 78 #[.string s, .int .i64 i] w (PSome w (strOf (enc s[i].toNat)) 1) := by
  have h1 : ¬ (128 : Int) ≤ (s[i].toNat : Int) := by omega
  have h2 : ((s[i].toNat : Int) != 92) = true := by rw [bne_iff_ne]; omega
  have h3 : ¬ (s[i].toNat : Int) < 32 := by omega
  have h4 : ((s[i].toNat : Int) == 34) = false := by rw [beq_eq_false_iff_ne]; omega
  have d3 : decide ((s[i].toNat : Int) < 32) = false := by simp; omega
  have HE : Hid (s.extract i (i + 1) = strOf (enc s[i].toNat)) := ext_str s i 1 _ (by rw [enc_low h128, byte_eq, drop_at s i hi]; rfl)
  clear h32 h128 h92 h34
  go_enter Tryz.func78, Tryz.ntmps78
  go_wp2
  go_ret2
  exact ⟨by rw [← unhide HE]; rfl, Below.refl _ _⟩
set_option maxHeartbeats 1600000 in
set_option maxRecDepth 100000 in
theorem pc_simple (s : ByteArray) (i : Nat) (w : World) (hs : s.size ≤ 1048576) (hi : i + 1 < s.size) (h : s[i].toNat = 92) (v : Nat) (hv : smp s[i + 1].toNat = some v) :
    Calls Tryz.prog 78 #[.string s, .int .i64 i] w (PSome w (strOf (enc v)) 2) := by
  have h1 : ¬ (128 : Int) ≤ (s[i].toNat : Int) := by omega
  have h2 : ((s[i].toNat : Int) != 92) = false := by rw [bne_eq_false_iff_eq]; omega
  have HS : Hid (∀ w, Calls Tryz.prog 95 #[.int .u8 (s[i + 1].toNat : Int)] w fun e w' => e = .returned (.int .i64 (v : Int)) ∧ Below w.heap.size w w') := fun w => by
    have c := l1Simple_walk s[i + 1].toNat (UInt8.toNat_lt _) w
    rw [hv] at c; exact c
  have hv128 := smp_lt hv
  have hu : utf v = enc v := enc_utf (by omega) (by omega)
  have HCV : Hid (∀ w : World, (convert 22 9 (.slice (some ⟨w.heap.size, 0, none⟩) 1 1)).run Tryz.prog (w.alloc (.cells #[.int .u8 (v : Int)] 5)) = .ok (.string (strOf (enc v))) (w.alloc (.cells #[.int .u8 (v : Int)] 5))) := fun w => by
    rw [← hu]
    exact convert_bytes w (utf v) #[.int .u8 (v : Int)] 1 (by simp [utf, utfZ, hv128]) (by simp [utf, utfZ, hv128, Lib.byteCells]; omega)
  have hv0 : (0 : Int) ≤ (v : Int) := by omega
  have i1 : (i : Int) + 1 < (s.size : Int) := by omega
  clear hu hv
  generalize strOf (enc v) = t at *
  go_enter Tryz.func78, Tryz.ntmps78
  go_wp2_with fail
  refine (unhide HS _).mono ?_
  rintro e w1 ⟨rfl, b1⟩
  go_wp2_with fail
  refine (unhide HS _).mono ?_
  rintro e w2 ⟨rfl, b2⟩
  have B2 := below_next b1 b2
  have hcv := unhide HCV w2
  clear HS HCV b1 b2
  go_wp2
  go_ret2
  exact ⟨rfl, B2.alloc B2.size _⟩
set_option maxHeartbeats 1600000 in
set_option maxRecDepth 100000 in
theorem pc_end (s : ByteArray) (i : Nat) (w : World) (hs : s.size ≤ 1048576) (hi : i < s.size) (hi' : ¬ i + 1 < s.size) (h : s[i].toNat = 92) :
    Calls Tryz.prog 78 #[.string s, .int .i64 i] w (PNone w) := by
  have h1 : ¬ (128 : Int) ≤ (s[i].toNat : Int) := by omega
  have h2 : ((s[i].toNat : Int) != 92) = false := by rw [bne_eq_false_iff_eq]; omega
  have HU : Hid (∀ w, Calls Tryz.prog 96 #[.string s, .int .i64 ((i : Int))] w fun e w' => w = w' ∧ e = .returned (.int .i64 (-1))) := fun w => by
    have c := l1Unit_walk s i hs (by omega) w
    rw [unit_short (by omega)] at c; exact c
  have i1 : ¬ (i : Int) + 1 < (s.size : Int) := by omega
  have di : decide ((i : Int) + 1 < (s.size : Int)) = false := by simp; omega
  go_enter Tryz.func78, Tryz.ntmps78
  go_wp2_with fail
  refine (unhide HU _).mono ?_
  rintro e w2 ⟨rfl, rfl⟩
  clear HU
  go_wp2
  go_ret2
  exact ⟨⟨_, rfl⟩, Below.refl _ _⟩
set_option maxHeartbeats 1600000 in
set_option maxRecDepth 100000 in
theorem pc_nounit (s : ByteArray) (i : Nat) (w : World) (hs : s.size ≤ 1048576) (hi : i + 1 < s.size) (h : s[i].toNat = 92) (hv : smp s[i + 1].toNat = none) (hu : unit s i = none) :
    Calls Tryz.prog 78 #[.string s, .int .i64 i] w (PNone w) := by
  have h1 : ¬ (128 : Int) ≤ (s[i].toNat : Int) := by omega
  have h2 : ((s[i].toNat : Int) != 92) = false := by rw [bne_eq_false_iff_eq]; omega
  have HS : Hid (∀ w, Calls Tryz.prog 95 #[.int .u8 (s[i + 1].toNat : Int)] w fun e w' => e = .returned (.int .i64 (-1)) ∧ Below w.heap.size w w') := fun w => by
    have c := l1Simple_walk s[i + 1].toNat (UInt8.toNat_lt _) w
    rw [hv] at c; exact c
  have i1 : (i : Int) + 1 < (s.size : Int) := by omega
  have HU : Hid (∀ w, Calls Tryz.prog 96 #[.string s, .int .i64 ((i : Int))] w fun e w' => w = w' ∧ e = .returned (.int .i64 (-1))) := fun w => by
    have c := l1Unit_walk s i hs (by omega) w
    rw [hu] at c; exact c
  clear hv hu
  go_enter Tryz.func78, Tryz.ntmps78
  go_wp2_with fail
  refine (unhide HS _).mono ?_
  rintro e w1 ⟨rfl, b1⟩
  go_wp2_with fail
  refine (unhide HU _).mono ?_
  rintro e w2 ⟨rfl, rfl⟩
  clear HS HU
  go_wp2
  go_ret2
  exact ⟨⟨_, rfl⟩, b1⟩
set_option maxHeartbeats 1600000 in
set_option maxRecDepth 100000 in
theorem pc_low (s : ByteArray) (i : Nat) (w : World) (hs : s.size ≤ 1048576) (hi : i + 1 < s.size) (h : s[i].toNat = 92) (hv : smp s[i + 1].toNat = none) (u : Nat) (hu : unit s i = some u)  (hlow : u < 55296) :
    Calls Tryz.prog 78 #[.string s, .int .i64 i] w (PSome w (strOf (enc u)) 6) := by
  have h1 : ¬ (128 : Int) ≤ (s[i].toNat : Int) := by omega
  have h2 : ((s[i].toNat : Int) != 92) = false := by rw [bne_eq_false_iff_eq]; omega
  have HS : Hid (∀ w, Calls Tryz.prog 95 #[.int .u8 (s[i + 1].toNat : Int)] w fun e w' => e = .returned (.int .i64 (-1)) ∧ Below w.heap.size w w') := fun w => by
    have c := l1Simple_walk s[i + 1].toNat (UInt8.toNat_lt _) w
    rw [hv] at c; exact c
  have i1 : (i : Int) + 1 < (s.size : Int) := by omega
  have HU : Hid (∀ w, Calls Tryz.prog 96 #[.string s, .int .i64 ((i : Int))] w fun e w' => w = w' ∧ e = .returned (.int .i64 ((u : Int)))) := fun w => by
    have c := l1Unit_walk s i hs (by omega) w
    rw [hu] at c; exact c
  have HV : Hid (∀ w, Calls Tryz.prog 67 #[.int .i64 (u : Int)] w fun e w' => e = .returned (.string (strOf (enc u))) ∧ Below w.heap.size w w') := fun w => by
    have c := utf8_walk u w (by omega)
    rw [enc_utf (by omega) (by omega)] at c; exact c
  have u0 : ((u : Int) < 0) = False := eq_false (by omega)
  have u1 : ((56320 : Int) ≤ (u : Int)) = False := eq_false (by omega)
  have u2 : ((u : Int) < 55296) = True := eq_true (by omega)
  clear hv hu
  generalize strOf (enc u) = t at *
  go_enter Tryz.func78, Tryz.ntmps78
  go_wp2_with fail
  refine (unhide HS _).mono ?_
  rintro e w1 ⟨rfl, b1⟩
  go_wp2_with fail
  refine (unhide HU _).mono ?_
  rintro e w2 ⟨rfl, rfl⟩
  clear HS HU
  go_wp2_with fail
  refine (unhide HV _).mono ?_
  rintro e w3 ⟨rfl, b3⟩
  have B3 := below_next b1 b3
  clear HV
  go_wp2
  go_ret2
  exact ⟨rfl, B3⟩
set_option maxHeartbeats 1600000 in
set_option maxRecDepth 100000 in
theorem pc_high (s : ByteArray) (i : Nat) (w : World) (hs : s.size ≤ 1048576) (hi : i + 1 < s.size) (h : s[i].toNat = 92) (hv : smp s[i + 1].toNat = none) (u : Nat) (hu : unit s i = some u)  (hhi : 57344 ≤ u) (hu65 : u ≤ 65535) :
    Calls Tryz.prog 78 #[.string s, .int .i64 i] w (PSome w (strOf (enc u)) 6) := by
  have h1 : ¬ (128 : Int) ≤ (s[i].toNat : Int) := by omega
  have h2 : ((s[i].toNat : Int) != 92) = false := by rw [bne_eq_false_iff_eq]; omega
  have HS : Hid (∀ w, Calls Tryz.prog 95 #[.int .u8 (s[i + 1].toNat : Int)] w fun e w' => e = .returned (.int .i64 (-1)) ∧ Below w.heap.size w w') := fun w => by
    have c := l1Simple_walk s[i + 1].toNat (UInt8.toNat_lt _) w
    rw [hv] at c; exact c
  have i1 : (i : Int) + 1 < (s.size : Int) := by omega
  have HU : Hid (∀ w, Calls Tryz.prog 96 #[.string s, .int .i64 ((i : Int))] w fun e w' => w = w' ∧ e = .returned (.int .i64 ((u : Int)))) := fun w => by
    have c := l1Unit_walk s i hs (by omega) w
    rw [hu] at c; exact c
  have HV : Hid (∀ w, Calls Tryz.prog 67 #[.int .i64 (u : Int)] w fun e w' => e = .returned (.string (strOf (enc u))) ∧ Below w.heap.size w w') := fun w => by
    have c := utf8_walk u w (by omega)
    rw [enc_utf (by omega) (by omega)] at c; exact c
  have u0 : ((u : Int) < 0) = False := eq_false (by omega)
  have u1 : ((56320 : Int) ≤ (u : Int)) = True := eq_true (by omega)
  have u2 : ((u : Int) < 57344) = False := eq_false (by omega)
  have u3 : ((u : Int) < 55296) = False := eq_false (by omega)
  have u4 : ((57344 : Int) ≤ (u : Int)) = True := eq_true (by omega)
  clear hv hu
  generalize strOf (enc u) = t at *
  go_enter Tryz.func78, Tryz.ntmps78
  go_wp2_with fail
  refine (unhide HS _).mono ?_
  rintro e w1 ⟨rfl, b1⟩
  go_wp2_with fail
  refine (unhide HU _).mono ?_
  rintro e w2 ⟨rfl, rfl⟩
  clear HS HU
  go_wp2_with fail
  refine (unhide HV _).mono ?_
  rintro e w3 ⟨rfl, b3⟩
  have B3 := below_next b1 b3
  clear HV
  go_wp2
  go_ret2
  exact ⟨rfl, B3⟩
set_option maxHeartbeats 1600000 in
set_option maxRecDepth 100000 in
theorem pc_sur2 (s : ByteArray) (i : Nat) (w : World) (hs : s.size ≤ 1048576) (hi : i + 1 < s.size) (h : s[i].toNat = 92) (hv : smp s[i + 1].toNat = none) (u : Nat) (hu : unit s i = some u)  (hlo : 56320 ≤ u) (hhi : u ≤ 57343) :
    Calls Tryz.prog 78 #[.string s, .int .i64 i] w (PNone w) := by
  have h1 : ¬ (128 : Int) ≤ (s[i].toNat : Int) := by omega
  have h2 : ((s[i].toNat : Int) != 92) = false := by rw [bne_eq_false_iff_eq]; omega
  have HS : Hid (∀ w, Calls Tryz.prog 95 #[.int .u8 (s[i + 1].toNat : Int)] w fun e w' => e = .returned (.int .i64 (-1)) ∧ Below w.heap.size w w') := fun w => by
    have c := l1Simple_walk s[i + 1].toNat (UInt8.toNat_lt _) w
    rw [hv] at c; exact c
  have i1 : (i : Int) + 1 < (s.size : Int) := by omega
  have HU : Hid (∀ w, Calls Tryz.prog 96 #[.string s, .int .i64 ((i : Int))] w fun e w' => w = w' ∧ e = .returned (.int .i64 ((u : Int)))) := fun w => by
    have c := l1Unit_walk s i hs (by omega) w
    rw [hu] at c; exact c
  have u0 : ((u : Int) < 0) = False := eq_false (by omega)
  have u1 : ((56320 : Int) ≤ (u : Int)) = True := eq_true (by omega)
  have u2 : ((u : Int) < 57344) = True := eq_true (by omega)
  clear hv hu
  go_enter Tryz.func78, Tryz.ntmps78
  go_wp2_with fail
  refine (unhide HS _).mono ?_
  rintro e w1 ⟨rfl, b1⟩
  go_wp2_with fail
  refine (unhide HU _).mono ?_
  rintro e w2 ⟨rfl, rfl⟩
  clear HS HU
  go_wp2
  go_ret2
  exact ⟨⟨_, rfl⟩, b1⟩
set_option maxHeartbeats 1600000 in
set_option maxRecDepth 100000 in
theorem pc_no2 (s : ByteArray) (i : Nat) (w : World) (hs : s.size ≤ 1048576) (hi : i + 1 < s.size) (h : s[i].toNat = 92) (hv : smp s[i + 1].toNat = none) (u : Nat) (hu : unit s i = some u)  (hlo : 55296 ≤ u) (hhi : u ≤ 56319) (hu2 : unit s (i + 6) = none) :
    Calls Tryz.prog 78 #[.string s, .int .i64 i] w (PNone w) := by
  have h1 : ¬ (128 : Int) ≤ (s[i].toNat : Int) := by omega
  have h2 : ((s[i].toNat : Int) != 92) = false := by rw [bne_eq_false_iff_eq]; omega
  have HS : Hid (∀ w, Calls Tryz.prog 95 #[.int .u8 (s[i + 1].toNat : Int)] w fun e w' => e = .returned (.int .i64 (-1)) ∧ Below w.heap.size w w') := fun w => by
    have c := l1Simple_walk s[i + 1].toNat (UInt8.toNat_lt _) w
    rw [hv] at c; exact c
  have i1 : (i : Int) + 1 < (s.size : Int) := by omega
  have HU : Hid (∀ w, Calls Tryz.prog 96 #[.string s, .int .i64 ((i : Int))] w fun e w' => w = w' ∧ e = .returned (.int .i64 ((u : Int)))) := fun w => by
    have c := l1Unit_walk s i hs (by omega) w
    rw [hu] at c; exact c
  have HU2 : Hid (∀ w, Calls Tryz.prog 96 #[.string s, .int .i64 ((i : Int) + 6)] w fun e w' => w = w' ∧ e = .returned (.int .i64 (-1))) := fun w => by
    have c := l1Unit_walk s (i + 6) hs (by omega) w
    rw [hu2] at c; exact c
  have u0 : ((u : Int) < 0) = False := eq_false (by omega)
  have u1 : ((56320 : Int) ≤ (u : Int)) = False := eq_false (by omega)
  have u2 : ((u : Int) < 55296) = False := eq_false (by omega)
  have u3 : ((57344 : Int) ≤ (u : Int)) = False := eq_false (by omega)
  clear hv hu hu2
  go_enter Tryz.func78, Tryz.ntmps78
  go_wp2_with fail
  refine (unhide HS _).mono ?_
  rintro e w1 ⟨rfl, b1⟩
  go_wp2_with fail
  refine (unhide HU _).mono ?_
  rintro e w2 ⟨rfl, rfl⟩
  go_wp2_with fail
  refine (unhide HU2 _).mono ?_
  rintro e w3 ⟨rfl, rfl⟩
  clear HS HU HU2
  go_wp2
  go_ret2
  exact ⟨⟨_, rfl⟩, b1⟩
set_option maxHeartbeats 1600000 in
set_option maxRecDepth 100000 in
theorem pc_lo2 (s : ByteArray) (i : Nat) (w : World) (hs : s.size ≤ 1048576) (hi : i + 1 < s.size) (h : s[i].toNat = 92) (hv : smp s[i + 1].toNat = none) (u : Nat) (hu : unit s i = some u)  (hlo : 55296 ≤ u) (hhi : u ≤ 56319) (v : Nat) (hu2 : unit s (i + 6) = some v) (hv2 : v ≤ 56319) :
    Calls Tryz.prog 78 #[.string s, .int .i64 i] w (PNone w) := by
  have h1 : ¬ (128 : Int) ≤ (s[i].toNat : Int) := by omega
  have h2 : ((s[i].toNat : Int) != 92) = false := by rw [bne_eq_false_iff_eq]; omega
  have HS : Hid (∀ w, Calls Tryz.prog 95 #[.int .u8 (s[i + 1].toNat : Int)] w fun e w' => e = .returned (.int .i64 (-1)) ∧ Below w.heap.size w w') := fun w => by
    have c := l1Simple_walk s[i + 1].toNat (UInt8.toNat_lt _) w
    rw [hv] at c; exact c
  have i1 : (i : Int) + 1 < (s.size : Int) := by omega
  have HU : Hid (∀ w, Calls Tryz.prog 96 #[.string s, .int .i64 ((i : Int))] w fun e w' => w = w' ∧ e = .returned (.int .i64 ((u : Int)))) := fun w => by
    have c := l1Unit_walk s i hs (by omega) w
    rw [hu] at c; exact c
  have HU2 : Hid (∀ w, Calls Tryz.prog 96 #[.string s, .int .i64 ((i : Int) + 6)] w fun e w' => w = w' ∧ e = .returned (.int .i64 ((v : Int)))) := fun w => by
    have c := l1Unit_walk s (i + 6) hs (by omega) w
    rw [hu2] at c; exact c
  have u0 : ((u : Int) < 0) = False := eq_false (by omega)
  have u1 : ((56320 : Int) ≤ (u : Int)) = False := eq_false (by omega)
  have u2 : ((u : Int) < 55296) = False := eq_false (by omega)
  have u3 : ((57344 : Int) ≤ (u : Int)) = False := eq_false (by omega)
  have v1 : ((v : Int) < 56320) = True := eq_true (by omega)
  clear hv hu hu2
  go_enter Tryz.func78, Tryz.ntmps78
  go_wp2_with fail
  refine (unhide HS _).mono ?_
  rintro e w1 ⟨rfl, b1⟩
  go_wp2_with fail
  refine (unhide HU _).mono ?_
  rintro e w2 ⟨rfl, rfl⟩
  go_wp2_with fail
  refine (unhide HU2 _).mono ?_
  rintro e w3 ⟨rfl, rfl⟩
  clear HS HU HU2
  go_wp2
  go_ret2
  exact ⟨⟨_, rfl⟩, b1⟩
set_option maxHeartbeats 1600000 in
set_option maxRecDepth 100000 in
theorem pc_hi2 (s : ByteArray) (i : Nat) (w : World) (hs : s.size ≤ 1048576) (hi : i + 1 < s.size) (h : s[i].toNat = 92) (hv : smp s[i + 1].toNat = none) (u : Nat) (hu : unit s i = some u)  (hlo : 55296 ≤ u) (hhi : u ≤ 56319) (v : Nat) (hu2 : unit s (i + 6) = some v) (hv2 : 57344 ≤ v) :
    Calls Tryz.prog 78 #[.string s, .int .i64 i] w (PNone w) := by
  have h1 : ¬ (128 : Int) ≤ (s[i].toNat : Int) := by omega
  have h2 : ((s[i].toNat : Int) != 92) = false := by rw [bne_eq_false_iff_eq]; omega
  have HS : Hid (∀ w, Calls Tryz.prog 95 #[.int .u8 (s[i + 1].toNat : Int)] w fun e w' => e = .returned (.int .i64 (-1)) ∧ Below w.heap.size w w') := fun w => by
    have c := l1Simple_walk s[i + 1].toNat (UInt8.toNat_lt _) w
    rw [hv] at c; exact c
  have i1 : (i : Int) + 1 < (s.size : Int) := by omega
  have HU : Hid (∀ w, Calls Tryz.prog 96 #[.string s, .int .i64 ((i : Int))] w fun e w' => w = w' ∧ e = .returned (.int .i64 ((u : Int)))) := fun w => by
    have c := l1Unit_walk s i hs (by omega) w
    rw [hu] at c; exact c
  have HU2 : Hid (∀ w, Calls Tryz.prog 96 #[.string s, .int .i64 ((i : Int) + 6)] w fun e w' => w = w' ∧ e = .returned (.int .i64 ((v : Int)))) := fun w => by
    have c := l1Unit_walk s (i + 6) hs (by omega) w
    rw [hu2] at c; exact c
  have u0 : ((u : Int) < 0) = False := eq_false (by omega)
  have u1 : ((56320 : Int) ≤ (u : Int)) = False := eq_false (by omega)
  have u2 : ((u : Int) < 55296) = False := eq_false (by omega)
  have u3 : ((57344 : Int) ≤ (u : Int)) = False := eq_false (by omega)
  have v1 : ((v : Int) < 56320) = False := eq_false (by omega)
  have v2 : ((57344 : Int) ≤ (v : Int)) = True := eq_true (by omega)
  clear hv hu hu2
  go_enter Tryz.func78, Tryz.ntmps78
  go_wp2_with fail
  refine (unhide HS _).mono ?_
  rintro e w1 ⟨rfl, b1⟩
  go_wp2_with fail
  refine (unhide HU _).mono ?_
  rintro e w2 ⟨rfl, rfl⟩
  go_wp2_with fail
  refine (unhide HU2 _).mono ?_
  rintro e w3 ⟨rfl, rfl⟩
  clear HS HU HU2
  go_wp2
  go_ret2
  exact ⟨⟨_, rfl⟩, b1⟩
set_option maxHeartbeats 1600000 in
set_option maxRecDepth 100000 in
theorem pc_pair (s : ByteArray) (i : Nat) (w : World) (hs : s.size ≤ 1048576) (hi : i + 1 < s.size) (h : s[i].toNat = 92) (hv : smp s[i + 1].toNat = none) (u : Nat) (hu : unit s i = some u)  (hlo : 55296 ≤ u) (hhi : u ≤ 56319) (v : Nat) (hu2 : unit s (i + 6) = some v) (hlo2 : 56320 ≤ v) (hhi2 : v ≤ 57343) :
    Calls Tryz.prog 78 #[.string s, .int .i64 i] w (PSome w (strOf (enc (65536 + (u - 55296) * 1024 + (v - 56320)))) 12) := by
  have h1 : ¬ (128 : Int) ≤ (s[i].toNat : Int) := by omega
  have h2 : ((s[i].toNat : Int) != 92) = false := by rw [bne_eq_false_iff_eq]; omega
  have HS : Hid (∀ w, Calls Tryz.prog 95 #[.int .u8 (s[i + 1].toNat : Int)] w fun e w' => e = .returned (.int .i64 (-1)) ∧ Below w.heap.size w w') := fun w => by
    have c := l1Simple_walk s[i + 1].toNat (UInt8.toNat_lt _) w
    rw [hv] at c; exact c
  have i1 : (i : Int) + 1 < (s.size : Int) := by omega
  have HU : Hid (∀ w, Calls Tryz.prog 96 #[.string s, .int .i64 ((i : Int))] w fun e w' => w = w' ∧ e = .returned (.int .i64 ((u : Int)))) := fun w => by
    have c := l1Unit_walk s i hs (by omega) w
    rw [hu] at c; exact c
  have HU2 : Hid (∀ w, Calls Tryz.prog 96 #[.string s, .int .i64 ((i : Int) + 6)] w fun e w' => w = w' ∧ e = .returned (.int .i64 ((v : Int)))) := fun w => by
    have c := l1Unit_walk s (i + 6) hs (by omega) w
    rw [hu2] at c; exact c
  have u0 : ((u : Int) < 0) = False := eq_false (by omega)
  have u1 : ((56320 : Int) ≤ (u : Int)) = False := eq_false (by omega)
  have u2 : ((u : Int) < 55296) = False := eq_false (by omega)
  have u3 : ((57344 : Int) ≤ (u : Int)) = False := eq_false (by omega)
  have v1 : ((v : Int) < 56320) = False := eq_false (by omega)
  have v2 : ((57344 : Int) ≤ (v : Int)) = False := eq_false (by omega)
  have HV : Hid (∀ w, Calls Tryz.prog 67 #[.int .i64 (65536 + ((u : Int) - 55296) * 1024 + (v : Int) - 56320)] w fun e w' => e = .returned (.string (strOf (enc (65536 + (u - 55296) * 1024 + (v - 56320))))) ∧ Below w.heap.size w w') := fun w => by
    have c := utf8_at (65536 + ((u : Int) - 55296) * 1024 + (v : Int) - 56320) (65536 + (u - 55296) * 1024 + (v - 56320)) (by omega) w (by omega)
    rw [enc_utf (by omega) (by omega)] at c; exact c
  clear hv hu hu2
  generalize strOf (enc (65536 + (u - 55296) * 1024 + (v - 56320))) = t at *
  go_enter Tryz.func78, Tryz.ntmps78
  go_wp2_with fail
  refine (unhide HS _).mono ?_
  rintro e w1 ⟨rfl, b1⟩
  go_wp2_with fail
  refine (unhide HU _).mono ?_
  rintro e w2 ⟨rfl, rfl⟩
  go_wp2_with fail
  refine (unhide HU2 _).mono ?_
  rintro e w3 ⟨rfl, rfl⟩
  clear HS HU HU2
  go_wp2_with fail
  refine (unhide HV _).mono ?_
  rintro e w4 ⟨rfl, b4⟩
  have B4 := below_next b1 b4
  clear HV
  go_wp2
  go_ret2
  exact ⟨rfl, B4⟩

/-- A piece, as the model reads it. -/
def PPost (w : World) (o : Option (Nat × Nat)) (e : Ending) (w' : World) : Prop := o.elim (PNone w e w') fun p => PSome w (strOf (enc p.1)) p.2 e w'
theorem l1Piece_walk (s : ByteArray) (i : Nat) (w : World) (hs : s.size ≤ 1048576) (hi : i < s.size) (hq : bt s i ≠ 34) :
    Calls Tryz.prog 78 #[.string s, .int .i64 i] w (PPost w (piece s i)) := by
  have e0 := bt_at s i hi
  by_cases h92 : bt s i = 92
  · have hp : piece s i = escP s i := by unfold piece; rw [if_pos h92]
    rw [hp]
    by_cases hi1 : i + 1 < s.size
    · have e1 := bt_at s (i + 1) hi1
      cases hv : smp (bt s (i + 1)) with
      | some v =>
        rw [escP_s rfl hv]
        exact pc_simple s i w hs hi1 (by omega) v (by rw [← e1]; exact hv)
      | none =>
        have hv' : smp s[i + 1].toNat = none := by rw [← e1]; exact hv
        have he : escP s i = (unit s i).bind (escU s i) := by unfold escP; rw [hv]
        rw [he]
        cases hu : unit s i with
        | none => exact pc_nounit s i w hs hi1 (by omega) hv' hu
        | some u =>
          have hu65 := unit_lt hu
          simp only [Option.bind_some]
          unfold escU
          by_cases h1 : u < 55296 ∨ 57344 ≤ u
          · rw [if_pos h1]
            rcases h1 with h1 | h1
            · exact pc_low s i w hs hi1 (by omega) hv' u hu h1
            · exact pc_high s i w hs hi1 (by omega) hv' u hu h1 (by omega)
          · rw [if_neg h1]
            by_cases h2 : 56320 ≤ u
            · rw [if_pos h2]
              exact pc_sur2 s i w hs hi1 (by omega) hv' u hu h2 (by omega)
            · rw [if_neg h2]
              cases hu2 : unit s (i + 6) with
              | none => exact pc_no2 s i w hs hi1 (by omega) hv' u hu (by omega) (by omega) hu2
              | some v =>
                simp only [Option.bind_some]
                by_cases h3 : 56320 ≤ v ∧ v < 57344
                · rw [if_pos h3]
                  exact pc_pair s i w hs hi1 (by omega) hv' u hu (by omega) (by omega) v hu2 h3.1 (by omega)
                · rw [if_neg h3]
                  by_cases h4 : v < 56320
                  · exact pc_lo2 s i w hs hi1 (by omega) hv' u hu (by omega) (by omega) v hu2 (by omega)
                  · exact pc_hi2 s i w hs hi1 (by omega) hv' u hu (by omega) (by omega) v hu2 (by omega)
    · have he : escP s i = none := escP_n (b := 0) (bt_out s (i + 1) (by omega)) (by rfl) (by decide)
      rw [he]
      exact pc_end s i w hs hi hi1 (by omega)
  · unfold piece
    rw [if_neg h92]
    by_cases h32 : bt s i < 32
    · rw [if_pos h32]; exact pc_ctl s i w hi (by omega)
    · rw [if_neg h32]
      by_cases h128 : bt s i < 128
      · rw [if_pos h128, e0]; exact pc_asc s i w hs hi (by omega) (by omega) (by omega) (by omega)
      · rw [if_neg h128]
        by_cases hr : rl s i = 0
        · rw [if_pos hr]; exact pc_bad s i w hs hi (by omega) hr
        · rw [if_neg hr]; exact pc_multi s i w hs hi (by omega) hr
end Go.Proofs.YtadefcohbkgbfabGreatDoor


namespace Go.Proofs.YtadefcohbkgbfabGreatDoor
open Go.RowKit

/-- A string of JSON, as the model reads it. -/
def SPost (s : ByteArray) (w : World) (o : Option (List UInt8 × Nat)) (e : Ending) (w' : World) : Prop :=
  Below w.heap.size w w' ∧ o.elim (∃ (t : ByteArray) (k : Nat), k ≤ s.size + 1 ∧ t.size ≤ 4 * s.size + 4 ∧ e = .returned (.tuple #[.string t, .int .i64 (k : Int), .bool false])) fun q => e = .returned (.tuple #[.string (strOf q.1), .int .i64 (q.2 : Int), .bool true])

set_option maxHeartbeats 1600000 in
set_option maxRecDepth 100000 in
theorem l1String_walk (s : ByteArray) (i : Nat) (w : World) (hs : s.size ≤ 1048576) (hi : i ≤ s.size + 1) :
    Calls Tryz.prog 58 #[.string s, .int .i64 i] w (SPost s w (strQ s i)) := by
  obtain ⟨i0, hi0, hz0, hz1, hz2⟩ := info_parts infoU8
  by_cases h34 : bt s i = 34
  · have hlt : i < s.size := bt_in (by rw [h34]; decide)
    have HQ : Hid (strQ s i = strR s (i + 1)) := by show _ = _; unfold strQ; rw [if_pos h34]
    have ha : atB s i 34 = true := by rw [atB_in hlt, beq_iff_eq, ← bt_at s i hlt, h34]; rfl
    have HA := hide (at_walk s (i : Int) i rfl 34 w)
    rw [ha] at HA
    clear h34 ha
    go_enter Tryz.func58, Tryz.ntmps58
    go_wp2_with fail
    refine (unhide HA).mono ?_
    rintro e w1 ⟨rfl, rfl⟩
    clear HA
    go_wp2
    go_loopw [1, 7] (fun k v wr => ∃ (j : Nat) (acc : List UInt8), j ≤ s.size ∧ k = .int .i64 (j : Int) ∧ acc.length ≤ 4 * j ∧ wr.ownsRow w.heap.size 5 1 v (Lib.byteCells acc).length (Lib.byteCells acc) ∧ Below w.heap.size w wr ∧ strR s (i + 1) = (strR s j).map fun q => (acc ++ q.1, q.2)) (fun k _ _ => s.size - (intOf k).toNat)
    case atStart =>
      exact ⟨i + 1, [], by omega, by go_num, by simp, ⟨rfl, .inr ⟨w.heap.size, 0, #[], rfl, Nat.le_refl _, heap_alloc_new w _, Nat.le_refl _, by unfold maxLen; omega, rfl, rfl⟩⟩, (Below.refl _ _).alloc (Nat.le_refl _) _, by simp⟩
    case round =>
      obtain ⟨j, acc, hj, rfl, hal, hown, hb, hst⟩ := hrel
      have HST := hide hst
      have HB := hide hb
      have hwsz := hb.size
      clear hst hb
      by_cases hin : j < s.size
      · have e0 := bt_at s j hin
        have hin' : (j : Int) < (s.size : Int) := by omega
        by_cases e34 : bt s j = 34
        · have t1 : ((s[j].toNat : Int) != 34) = false := by rw [bne_eq_false_iff_eq]; omega
          have HF : Hid (strQ s i = some (acc, j + 1)) := by
            show _ = _
            rw [unhide HQ, unhide HST, strR_end e34]; simp
          have hcv := convert_own hown
          clear hown e34 e0
          go_wp2
          go_ret3
          exact ⟨unhide HB, by rw [unhide HF]; rfl⟩
        · have t1 : ((s[j].toNat : Int) != 34) = true := by rw [bne_iff_ne]; omega
          have HC := hide (l1Piece_walk s j wr hs hin e34)
          cases hp : piece s j with
          | none =>
            have HF : Hid (strQ s i = none) := by
              show _ = _
              rw [unhide HQ, unhide HST, strR_bad e34 hp]; rfl
            rw [hp] at HC
            clear hown e34 e0 hp
            go_wp2_with fail
            refine (unhide HC).mono ?_
            rintro e w2 ⟨⟨t, rfl⟩, b2⟩
            have B2 := below_next (unhide HB) b2
            clear HC
            go_wp2
            go_ret3
            exact ⟨B2, by rw [unhide HF]; exact ⟨_, j, by omega, Nat.zero_le _, rfl⟩⟩
          | some p =>
            obtain ⟨r, n⟩ := p
            obtain ⟨p1, p2, p3⟩ := piece_ok hp
            have hel := enc_le r
            have HST2 : Hid (strR s (i + 1) = (strR s (j + n)).map fun q => (acc ++ enc r ++ q.1, q.2)) := by
              show _ = _
              rw [unhide HST, strR_go e34 hp, Option.map_map]
              congr 1
              funext q
              simp
            rw [hp] at HC
            have t0 : ((n : Int) == 0) = false := by rw [beq_eq_false_iff_ne]; omega
            clear e34 e0 hp
            go_wp2_with fail
            refine (unhide HC).mono ?_
            rintro e w2 ⟨rfl, b2⟩
            have B2 := below_next (unhide HB) b2
            have own2 := own_below hown b2
            obtain ⟨cap, W3, hcv, hcell, b3, hk3, hs3⟩ := conv_bytes w2 (enc r)
            have own3 := hk3 _ _ _ _ _ own2
            have B3 := below_next B2 b3
            have HCELL := hide hcell
            have hsz2 := B2.size
            clear HC hcell hk3 own2 hown b2 b3 HB B2
            go_wp2_with (at_builtin; refine wpList_append_own _ rfl (.tmp 37) (.tmp 39) 22 rfl w.heap.size 5 i0 (.int .u8 0) 1 1 Tryz.underlying22 hi0 hz0 hz1 hz2 rfl (by decide) _ _ _ rfl own3 ⟨w2.heap.size, 0, none⟩ (enc r).length cap (Lib.byteCells (enc r)) rfl (by rw [Lib.byteCells_length]; omega) (unhide HCELL) (one_bytes (enc r)) (by rw [Lib.byteCells_length]; unfold maxLen; omega) (by rw [Lib.byteCells_length]; omega) (by omega) ?_)
            intro v4 w4 own4 hg4 _
            have B4 : Below w.heap.size w w4 := B3.grown hg4 (by omega) (fun k hk => (own3.lt k hk).1)
            have own4' := own_step (m := (enc r)) own4 rfl rfl
            clear own4 hg4 own3 HCELL B3 hcv
            go_wp2
            go_roundw
            case rel => exact ⟨j + n, acc ++ (enc r), by omega, by go_num, by rw [List.length_append]; omega, own4', B4, unhide HST2⟩
            case measure => simp [intOf]; omega
      · have hin' : ¬ (j : Int) < (s.size : Int) := by omega
        have d1 : decide ((j : Int) < (s.size : Int)) = false := by simp; omega
        have HF : Hid (strQ s i = none) := by
          show _ = _
          rw [unhide HQ, unhide HST, strR_out (by omega)]; rfl
        have hcv := convert_own hown
        clear hown
        go_wp2
        go_ret3
        exact ⟨unhide HB, by rw [unhide HF]; exact ⟨_, j + 1, by omega, by show acc.toArray.size ≤ _; simp; omega, rfl⟩⟩
  · have HQ : Hid (strQ s i = none) := by show _ = _; unfold strQ; rw [if_neg h34]
    have ha : atB s i 34 = false := by
      by_cases hlt : i < s.size
      · rw [atB_in hlt, beq_eq_false_iff_ne, ← bt_at s i hlt]; omega
      · exact atB_out hlt
    have HA := hide (at_walk s (i : Int) i rfl 34 w)
    rw [ha] at HA
    clear h34 ha
    go_enter Tryz.func58, Tryz.ntmps58
    go_wp2_with fail
    refine (unhide HA).mono ?_
    rintro e w1 ⟨rfl, rfl⟩
    clear HA
    go_wp2
    go_ret3
    exact ⟨Below.refl _ _, by rw [unhide HQ]; exact ⟨_, i, hi, Nat.zero_le _, rfl⟩⟩
end Go.Proofs.YtadefcohbkgbfabGreatDoor

