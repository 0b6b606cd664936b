import Derived.Test.YtadefcohbkgbfaaDoorSpecUnit
import Derived.Laws.DeepStrings4
namespace Go.Proofs.YtadefcohbkgbfaaDoor
open Go.RowKit

theorem strOf_ext {b : ByteArray} {l : List UInt8} (h : b.data.toList = l) : b = strOf l := by
  subst h
  cases b with
  | mk d => simp [strOf]
theorem ext_str (s : ByteArray) (i n : Nat) (l : List UInt8) (h : (s.data.toList.drop i).take n = l) : s.extract i (i + n) = strOf l := by
  refine strOf_ext ?_
  rw [Lib.extract_data, show i + n - i = n from by omega, h]
theorem enc_low {r : Nat} (h : r < 128) : enc r = [UInt8.ofNat r] := by
  unfold enc; rw [← utf_enc (by omega) (by omega)]; unfold utf utfZ; rw [if_pos h]; rfl
theorem enc_utf {r : Nat} (h : r ≤ 1114111) (h' : r < 55296 ∨ 57344 ≤ r) : utf r = enc r := utf_enc h h'

abbrev PNone (w : World) (e : Ending) (w' : World) : Prop := (∃ t, e = .returned (.tuple #[.string t, .int .i64 0])) ∧ Below w.heap.size w w'
abbrev PSome (w : World) (t : ByteArray) (n : Nat) (e : Ending) (w' : World) : Prop := e = .returned (.tuple #[.string t, .int .i64 (n : Int)]) ∧ Below w.heap.size w w'

set_option maxHeartbeats 1600000 in
set_option maxRecDepth 100000 in
theorem pc_bad (s : ByteArray) (i : Nat) (w : World) (hs : s.size ≤ 1048576) (hi : i < s.size) (h : 128 ≤ s[i].toNat) (hr : rl s i = 0) :
    Calls Tryd.prog 50 #[.string s, .int .i64 i] w (PNone w) := by
  have HR := hide (rl_walk s i w hi hs)
  rw [hr] at HR
  have h' : (128 : Int) ≤ (s[i].toNat : Int) := by omega
  clear hr
  go_enter Tryd.func50, Tryd.ntmps50
  go_wp2_with fail
  refine (unhide HR).mono ?_
  rintro e w1 ⟨rfl, b1⟩
  clear HR
  go_wp2
  go_ret2
  exact ⟨⟨_, rfl⟩, b1⟩
set_option maxHeartbeats 1600000 in
set_option maxRecDepth 100000 in
theorem pc_multi (s : ByteArray) (i : Nat) (w : World) (hs : s.size ≤ 1048576) (hi : i < s.size) (h : 128 ≤ s[i].toNat) (hr : ¬ rl s i = 0) :
    Calls Tryd.prog 50 #[.string s, .int .i64 i] w (PSome w (strOf (enc (Utf8.decode s i).1)) (rl s i)) := by
  have HR := hide (rl_walk s i w hi hs)
  have hle := rl_le s i hi
  have HE : Hid (s.extract i (i + rl s i) = strOf (enc (Utf8.decode s i).1)) := ext_str s i (rl s i) _ (enc_multi s i hi hr (by omega)).1.symm
  have h' : (128 : Int) ≤ (s[i].toNat : Int) := by omega
  clear hr
  generalize strOf (enc (Utf8.decode s i).1) = t at *
  generalize rl s i = n at *
  go_enter Tryd.func50, Tryd.ntmps50
  go_wp2_with fail
  refine (unhide HR).mono ?_
  rintro e w1 ⟨rfl, b1⟩
  clear HR
  go_wp2
  go_ret2
  exact ⟨by rw [← unhide HE]; rfl, b1⟩
set_option maxHeartbeats 1600000 in
set_option maxRecDepth 100000 in
theorem pc_ctl (s : ByteArray) (i : Nat) (w : World) (hi : i < s.size) (h : s[i].toNat < 32) :
    Calls Tryd.prog 50 #[.string s, .int .i64 i] w (PNone w) := by
  have h1 : ¬ (128 : Int) ≤ (s[i].toNat : Int) := by omega
  have h2 : ((s[i].toNat : Int) != 92) = true := by rw [bne_iff_ne]; omega
  have h3 : (s[i].toNat : Int) < 32 := by omega
  go_enter Tryd.func50, Tryd.ntmps50
  go_wp2
  go_ret2
  exact ⟨⟨_, rfl⟩, Below.refl _ _⟩
set_option maxHeartbeats 1600000 in
set_option maxRecDepth 100000 in
theorem pc_asc (s : ByteArray) (i : Nat) (w : World) (hs : s.size ≤ 1048576) (hi : i < s.size) (h32 : 32 ≤ s[i].toNat) (h128 : s[i].toNat < 128) (h92 : s[i].toNat ≠ 92) (h34 : s[i].toNat ≠ 34) :
    Calls Tryd.prog 50 #[.string s, .int .i64 i] w (PSome w (strOf (enc s[i].toNat)) 1) := by
  have h1 : ¬ (128 : Int) ≤ (s[i].toNat : Int) := by omega
  have h2 : ((s[i].toNat : Int) != 92) = true := by rw [bne_iff_ne]; omega
  have h3 : ¬ (s[i].toNat : Int) < 32 := by omega
  have h4 : ((s[i].toNat : Int) == 34) = false := by rw [beq_eq_false_iff_ne]; omega
  have d3 : decide ((s[i].toNat : Int) < 32) = false := by simp; omega
  have HE : Hid (s.extract i (i + 1) = strOf (enc s[i].toNat)) := ext_str s i 1 _ (by rw [enc_low h128, byte_eq, drop_at s i hi]; rfl)
  clear h32 h128 h92 h34
  go_enter Tryd.func50, Tryd.ntmps50
  go_wp2
  go_ret2
  exact ⟨by rw [← unhide HE]; rfl, Below.refl _ _⟩
set_option maxHeartbeats 1600000 in
set_option maxRecDepth 100000 in
theorem pc_simple (s : ByteArray) (i : Nat) (w : World) (hs : s.size ≤ 1048576) (hi : i + 1 < s.size) (h : s[i].toNat = 92) (v : Nat) (hv : smp s[i + 1].toNat = some v) :
    Calls Tryd.prog 50 #[.string s, .int .i64 i] w (PSome w (strOf (enc v)) 2) := by
  have h1 : ¬ (128 : Int) ≤ (s[i].toNat : Int) := by omega
  have h2 : ((s[i].toNat : Int) != 92) = false := by rw [bne_eq_false_iff_eq]; omega
  have HS : Hid (∀ w, Calls Tryd.prog 61 #[.int .u8 (s[i + 1].toNat : Int)] w fun e w' => e = .returned (.int .i64 (v : Int)) ∧ Below w.heap.size w w') := fun w => by
    have c := l1Simple_walk s[i + 1].toNat (UInt8.toNat_lt _) w
    rw [hv] at c; exact c
  have hv128 := smp_lt hv
  have hu : utf v = enc v := enc_utf (by omega) (by omega)
  have HCV : Hid (∀ w : World, (convert 32 9 (.slice (some ⟨w.heap.size, 0, none⟩) 1 1)).run Tryd.prog (w.alloc (.cells #[.int .u8 (v : Int)] 5)) = .ok (.string (strOf (enc v))) (w.alloc (.cells #[.int .u8 (v : Int)] 5))) := fun w => by
    rw [← hu]
    exact convert_bytes w (utf v) #[.int .u8 (v : Int)] 1 (by simp [utf, utfZ, hv128]) (by simp [utf, utfZ, hv128, Lib.byteCells]; omega)
  have hv0 : (0 : Int) ≤ (v : Int) := by omega
  have i1 : (i : Int) + 1 < (s.size : Int) := by omega
  clear hu hv
  generalize strOf (enc v) = t at *
  go_enter Tryd.func50, Tryd.ntmps50
  go_wp2_with fail
  refine (unhide HS _).mono ?_
  rintro e w1 ⟨rfl, b1⟩
  go_wp2_with fail
  refine (unhide HS _).mono ?_
  rintro e w2 ⟨rfl, b2⟩
  have B2 := below_next b1 b2
  have hcv := unhide HCV w2
  clear HS HCV b1 b2
  go_wp2
  go_ret2
  exact ⟨rfl, B2.alloc B2.size _⟩
set_option maxHeartbeats 1600000 in
set_option maxRecDepth 100000 in
theorem pc_end (s : ByteArray) (i : Nat) (w : World) (hs : s.size ≤ 1048576) (hi : i < s.size) (hi' : ¬ i + 1 < s.size) (h : s[i].toNat = 92) :
    Calls Tryd.prog 50 #[.string s, .int .i64 i] w (PNone w) := by
  have h1 : ¬ (128 : Int) ≤ (s[i].toNat : Int) := by omega
  have h2 : ((s[i].toNat : Int) != 92) = false := by rw [bne_eq_false_iff_eq]; omega
  have HU : Hid (∀ w, Calls Tryd.prog 62 #[.string s, .int .i64 ((i : Int))] w fun e w' => w = w' ∧ e = .returned (.int .i64 (-1))) := fun w => by
    have c := l1Unit_walk s i hs (by omega) w
    rw [unit_short (by omega)] at c; exact c
  have i1 : ¬ (i : Int) + 1 < (s.size : Int) := by omega
  have di : decide ((i : Int) + 1 < (s.size : Int)) = false := by simp; omega
  go_enter Tryd.func50, Tryd.ntmps50
  go_wp2_with fail
  refine (unhide HU _).mono ?_
  rintro e w2 ⟨rfl, rfl⟩
  clear HU
  go_wp2
  go_ret2
  exact ⟨⟨_, rfl⟩, Below.refl _ _⟩
set_option maxHeartbeats 1600000 in
set_option maxRecDepth 100000 in
theorem pc_nounit (s : ByteArray) (i : Nat) (w : World) (hs : s.size ≤ 1048576) (hi : i + 1 < s.size) (h : s[i].toNat = 92) (hv : smp s[i + 1].toNat = none) (hu : unit s i = none) :
    Calls Tryd.prog 50 #[.string s, .int .i64 i] w (PNone w) := by
  have h1 : ¬ (128 : Int) ≤ (s[i].toNat : Int) := by omega
  have h2 : ((s[i].toNat : Int) != 92) = false := by rw [bne_eq_false_iff_eq]; omega
  have HS : Hid (∀ w, Calls Tryd.prog 61 #[.int .u8 (s[i + 1].toNat : Int)] w fun e w' => e = .returned (.int .i64 (-1)) ∧ Below w.heap.size w w') := fun w => by
    have c := l1Simple_walk s[i + 1].toNat (UInt8.toNat_lt _) w
    rw [hv] at c; exact c
  have i1 : (i : Int) + 1 < (s.size : Int) := by omega
  have HU : Hid (∀ w, Calls Tryd.prog 62 #[.string s, .int .i64 ((i : Int))] w fun e w' => w = w' ∧ e = .returned (.int .i64 (-1))) := fun w => by
    have c := l1Unit_walk s i hs (by omega) w
    rw [hu] at c; exact c
  clear hv hu
  go_enter Tryd.func50, Tryd.ntmps50
  go_wp2_with fail
  refine (unhide HS _).mono ?_
  rintro e w1 ⟨rfl, b1⟩
  go_wp2_with fail
  refine (unhide HU _).mono ?_
  rintro e w2 ⟨rfl, rfl⟩
  clear HS HU
  go_wp2
  go_ret2
  exact ⟨⟨_, rfl⟩, b1⟩
set_option maxHeartbeats 1600000 in
set_option maxRecDepth 100000 in
theorem pc_low (s : ByteArray) (i : Nat) (w : World) (hs : s.size ≤ 1048576) (hi : i + 1 < s.size) (h : s[i].toNat = 92) (hv : smp s[i + 1].toNat = none) (u : Nat) (hu : unit s i = some u)  (hlow : u < 55296) :
    Calls Tryd.prog 50 #[.string s, .int .i64 i] w (PSome w (strOf (enc u)) 6) := by
  have h1 : ¬ (128 : Int) ≤ (s[i].toNat : Int) := by omega
  have h2 : ((s[i].toNat : Int) != 92) = false := by rw [bne_eq_false_iff_eq]; omega
  have HS : Hid (∀ w, Calls Tryd.prog 61 #[.int .u8 (s[i + 1].toNat : Int)] w fun e w' => e = .returned (.int .i64 (-1)) ∧ Below w.heap.size w w') := fun w => by
    have c := l1Simple_walk s[i + 1].toNat (UInt8.toNat_lt _) w
    rw [hv] at c; exact c
  have i1 : (i : Int) + 1 < (s.size : Int) := by omega
  have HU : Hid (∀ w, Calls Tryd.prog 62 #[.string s, .int .i64 ((i : Int))] w fun e w' => w = w' ∧ e = .returned (.int .i64 ((u : Int)))) := fun w => by
    have c := l1Unit_walk s i hs (by omega) w
    rw [hu] at c; exact c
  have HV : Hid (∀ w, Calls Tryd.prog 56 #[.int .i64 (u : Int)] w fun e w' => e = .returned (.string (strOf (enc u))) ∧ Below w.heap.size w w') := fun w => by
    have c := utf8_walk u w (by omega)
    rw [enc_utf (by omega) (by omega)] at c; exact c
  have u0 : ((u : Int) < 0) = False := eq_false (by omega)
  have u1 : ((56320 : Int) ≤ (u : Int)) = False := eq_false (by omega)
  have u2 : ((u : Int) < 55296) = True := eq_true (by omega)
  clear hv hu
  generalize strOf (enc u) = t at *
  go_enter Tryd.func50, Tryd.ntmps50
  go_wp2_with fail
  refine (unhide HS _).mono ?_
  rintro e w1 ⟨rfl, b1⟩
  go_wp2_with fail
  refine (unhide HU _).mono ?_
  rintro e w2 ⟨rfl, rfl⟩
  clear HS HU
  go_wp2_with fail
  refine (unhide HV _).mono ?_
  rintro e w3 ⟨rfl, b3⟩
  have B3 := below_next b1 b3
  clear HV
  go_wp2
  go_ret2
  exact ⟨rfl, B3⟩
set_option maxHeartbeats 1600000 in
set_option maxRecDepth 100000 in
theorem pc_high (s : ByteArray) (i : Nat) (w : World) (hs : s.size ≤ 1048576) (hi : i + 1 < s.size) (h : s[i].toNat = 92) (hv : smp s[i + 1].toNat = none) (u : Nat) (hu : unit s i = some u)  (hhi : 57344 ≤ u) (hu65 : u ≤ 65535) :
    Calls Tryd.prog 50 #[.string s, .int .i64 i] w (PSome w (strOf (enc u)) 6) := by
  have h1 : ¬ (128 : Int) ≤ (s[i].toNat : Int) := by omega
  have h2 : ((s[i].toNat : Int) != 92) = false := by rw [bne_eq_false_iff_eq]; omega
  have HS : Hid (∀ w, Calls Tryd.prog 61 #[.int .u8 (s[i + 1].toNat : Int)] w fun e w' => e = .returned (.int .i64 (-1)) ∧ Below w.heap.size w w') := fun w => by
    have c := l1Simple_walk s[i + 1].toNat (UInt8.toNat_lt _) w
    rw [hv] at c; exact c
  have i1 : (i : Int) + 1 < (s.size : Int) := by omega
  have HU : Hid (∀ w, Calls Tryd.prog 62 #[.string s, .int .i64 ((i : Int))] w fun e w' => w = w' ∧ e = .returned (.int .i64 ((u : Int)))) := fun w => by
    have c := l1Unit_walk s i hs (by omega) w
    rw [hu] at c; exact c
  have HV : Hid (∀ w, Calls Tryd.prog 56 #[.int .i64 (u : Int)] w fun e w' => e = .returned (.string (strOf (enc u))) ∧ Below w.heap.size w w') := fun w => by
    have c := utf8_walk u w (by omega)
    rw [enc_utf (by omega) (by omega)] at c; exact c
  have u0 : ((u : Int) < 0) = False := eq_false (by omega)
  have u1 : ((56320 : Int) ≤ (u : Int)) = True := eq_true (by omega)
  have u2 : ((u : Int) < 57344) = False := eq_false (by omega)
  have u3 : ((u : Int) < 55296) = False := eq_false (by omega)
  have u4 : ((57344 : Int) ≤ (u : Int)) = True := eq_true (by omega)
  clear hv hu
  generalize strOf (enc u) = t at *
  go_enter Tryd.func50, Tryd.ntmps50
  go_wp2_with fail
  refine (unhide HS _).mono ?_
  rintro e w1 ⟨rfl, b1⟩
  go_wp2_with fail
  refine (unhide HU _).mono ?_
  rintro e w2 ⟨rfl, rfl⟩
  clear HS HU
  go_wp2_with fail
  refine (unhide HV _).mono ?_
  rintro e w3 ⟨rfl, b3⟩
  have B3 := below_next b1 b3
  clear HV
  go_wp2
  go_ret2
  exact ⟨rfl, B3⟩
set_option maxHeartbeats 1600000 in
set_option maxRecDepth 100000 in
theorem pc_sur2 (s : ByteArray) (i : Nat) (w : World) (hs : s.size ≤ 1048576) (hi : i + 1 < s.size) (h : s[i].toNat = 92) (hv : smp s[i + 1].toNat = none) (u : Nat) (hu : unit s i = some u)  (hlo : 56320 ≤ u) (hhi : u ≤ 57343) :
    Calls Tryd.prog 50 #[.string s, .int .i64 i] w (PNone w) := by
  have h1 : ¬ (128 : Int) ≤ (s[i].toNat : Int) := by omega
  have h2 : ((s[i].toNat : Int) != 92) = false := by rw [bne_eq_false_iff_eq]; omega
  have HS : Hid (∀ w, Calls Tryd.prog 61 #[.int .u8 (s[i + 1].toNat : Int)] w fun e w' => e = .returned (.int .i64 (-1)) ∧ Below w.heap.size w w') := fun w => by
    have c := l1Simple_walk s[i + 1].toNat (UInt8.toNat_lt _) w
    rw [hv] at c; exact c
  have i1 : (i : Int) + 1 < (s.size : Int) := by omega
  have HU : Hid (∀ w, Calls Tryd.prog 62 #[.string s, .int .i64 ((i : Int))] w fun e w' => w = w' ∧ e = .returned (.int .i64 ((u : Int)))) := fun w => by
    have c := l1Unit_walk s i hs (by omega) w
    rw [hu] at c; exact c
  have u0 : ((u : Int) < 0) = False := eq_false (by omega)
  have u1 : ((56320 : Int) ≤ (u : Int)) = True := eq_true (by omega)
  have u2 : ((u : Int) < 57344) = True := eq_true (by omega)
  clear hv hu
  go_enter Tryd.func50, Tryd.ntmps50
  go_wp2_with fail
  refine (unhide HS _).mono ?_
  rintro e w1 ⟨rfl, b1⟩
  go_wp2_with fail
  refine (unhide HU _).mono ?_
  rintro e w2 ⟨rfl, rfl⟩
  clear HS HU
  go_wp2
  go_ret2
  exact ⟨⟨_, rfl⟩, b1⟩
set_option maxHeartbeats 1600000 in
set_option maxRecDepth 100000 in
theorem pc_no2 (s : ByteArray) (i : Nat) (w : World) (hs : s.size ≤ 1048576) (hi : i + 1 < s.size) (h : s[i].toNat = 92) (hv : smp s[i + 1].toNat = none) (u : Nat) (hu : unit s i = some u)  (hlo : 55296 ≤ u) (hhi : u ≤ 56319) (hu2 : unit s (i + 6) = none) :
    Calls Tryd.prog 50 #[.string s, .int .i64 i] w (PNone w) := by
  have h1 : ¬ (128 : Int) ≤ (s[i].toNat : Int) := by omega
  have h2 : ((s[i].toNat : Int) != 92) = false := by rw [bne_eq_false_iff_eq]; omega
  have HS : Hid (∀ w, Calls Tryd.prog 61 #[.int .u8 (s[i + 1].toNat : Int)] w fun e w' => e = .returned (.int .i64 (-1)) ∧ Below w.heap.size w w') := fun w => by
    have c := l1Simple_walk s[i + 1].toNat (UInt8.toNat_lt _) w
    rw [hv] at c; exact c
  have i1 : (i : Int) + 1 < (s.size : Int) := by omega
  have HU : Hid (∀ w, Calls Tryd.prog 62 #[.string s, .int .i64 ((i : Int))] w fun e w' => w = w' ∧ e = .returned (.int .i64 ((u : Int)))) := fun w => by
    have c := l1Unit_walk s i hs (by omega) w
    rw [hu] at c; exact c
  have HU2 : Hid (∀ w, Calls Tryd.prog 62 #[.string s, .int .i64 ((i : Int) + 6)] w fun e w' => w = w' ∧ e = .returned (.int .i64 (-1))) := fun w => by
    have c := l1Unit_walk s (i + 6) hs (by omega) w
    rw [hu2] at c; exact c
  have u0 : ((u : Int) < 0) = False := eq_false (by omega)
  have u1 : ((56320 : Int) ≤ (u : Int)) = False := eq_false (by omega)
  have u2 : ((u : Int) < 55296) = False := eq_false (by omega)
  have u3 : ((57344 : Int) ≤ (u : Int)) = False := eq_false (by omega)
  clear hv hu hu2
  go_enter Tryd.func50, Tryd.ntmps50
  go_wp2_with fail
  refine (unhide HS _).mono ?_
  rintro e w1 ⟨rfl, b1⟩
  go_wp2_with fail
  refine (unhide HU _).mono ?_
  rintro e w2 ⟨rfl, rfl⟩
  go_wp2_with fail
  refine (unhide HU2 _).mono ?_
  rintro e w3 ⟨rfl, rfl⟩
  clear HS HU HU2
  go_wp2
  go_ret2
  exact ⟨⟨_, rfl⟩, b1⟩
set_option maxHeartbeats 1600000 in
set_option maxRecDepth 100000 in
theorem pc_lo2 (s : ByteArray) (i : Nat) (w : World) (hs : s.size ≤ 1048576) (hi : i + 1 < s.size) (h : s[i].toNat = 92) (hv : smp s[i + 1].toNat = none) (u : Nat) (hu : unit s i = some u)  (hlo : 55296 ≤ u) (hhi : u ≤ 56319) (v : Nat) (hu2 : unit s (i + 6) = some v) (hv2 : v ≤ 56319) :
    Calls Tryd.prog 50 #[.string s, .int .i64 i] w (PNone w) := by
  have h1 : ¬ (128 : Int) ≤ (s[i].toNat : Int) := by omega
  have h2 : ((s[i].toNat : Int) != 92) = false := by rw [bne_eq_false_iff_eq]; omega
  have HS : Hid (∀ w, Calls Tryd.prog 61 #[.int .u8 (s[i + 1].toNat : Int)] w fun e w' => e = .returned (.int .i64 (-1)) ∧ Below w.heap.size w w') := fun w => by
    have c := l1Simple_walk s[i + 1].toNat (UInt8.toNat_lt _) w
    rw [hv] at c; exact c
  have i1 : (i : Int) + 1 < (s.size : Int) := by omega
  have HU : Hid (∀ w, Calls Tryd.prog 62 #[.string s, .int .i64 ((i : Int))] w fun e w' => w = w' ∧ e = .returned (.int .i64 ((u : Int)))) := fun w => by
    have c := l1Unit_walk s i hs (by omega) w
    rw [hu] at c; exact c
  have HU2 : Hid (∀ w, Calls Tryd.prog 62 #[.string s, .int .i64 ((i : Int) + 6)] w fun e w' => w = w' ∧ e = .returned (.int .i64 ((v : Int)))) := fun w => by
    have c := l1Unit_walk s (i + 6) hs (by omega) w
    rw [hu2] at c; exact c
  have u0 : ((u : Int) < 0) = False := eq_false (by omega)
  have u1 : ((56320 : Int) ≤ (u : Int)) = False := eq_false (by omega)
  have u2 : ((u : Int) < 55296) = False := eq_false (by omega)
  have u3 : ((57344 : Int) ≤ (u : Int)) = False := eq_false (by omega)
  have v1 : ((v : Int) < 56320) = True := eq_true (by omega)
  clear hv hu hu2
  go_enter Tryd.func50, Tryd.ntmps50
  go_wp2_with fail
  refine (unhide HS _).mono ?_
  rintro e w1 ⟨rfl, b1⟩
  go_wp2_with fail
  refine (unhide HU _).mono ?_
  rintro e w2 ⟨rfl, rfl⟩
  go_wp2_with fail
  refine (unhide HU2 _).mono ?_
  rintro e w3 ⟨rfl, rfl⟩
  clear HS HU HU2
  go_wp2
  go_ret2
  exact ⟨⟨_, rfl⟩, b1⟩
set_option maxHeartbeats 1600000 in
set_option maxRecDepth 100000 in
theorem pc_hi2 (s : ByteArray) (i : Nat) (w : World) (hs : s.size ≤ 1048576) (hi : i + 1 < s.size) (h : s[i].toNat = 92) (hv : smp s[i + 1].toNat = none) (u : Nat) (hu : unit s i = some u)  (hlo : 55296 ≤ u) (hhi : u ≤ 56319) (v : Nat) (hu2 : unit s (i + 6) = some v) (hv2 : 57344 ≤ v) :
    Calls Tryd.prog 50 #[.string s, .int .i64 i] w (PNone w) := by
  have h1 : ¬ (128 : Int) ≤ (s[i].toNat : Int) := by omega
  have h2 : ((s[i].toNat : Int) != 92) = false := by rw [bne_eq_false_iff_eq]; omega
  have HS : Hid (∀ w, Calls Tryd.prog 61 #[.int .u8 (s[i + 1].toNat : Int)] w fun e w' => e = .returned (.int .i64 (-1)) ∧ Below w.heap.size w w') := fun w => by
    have c := l1Simple_walk s[i + 1].toNat (UInt8.toNat_lt _) w
    rw [hv] at c; exact c
  have i1 : (i : Int) + 1 < (s.size : Int) := by omega
  have HU : Hid (∀ w, Calls Tryd.prog 62 #[.string s, .int .i64 ((i : Int))] w fun e w' => w = w' ∧ e = .returned (.int .i64 ((u : Int)))) := fun w => by
    have c := l1Unit_walk s i hs (by omega) w
    rw [hu] at c; exact c
  have HU2 : Hid (∀ w, Calls Tryd.prog 62 #[.string s, .int .i64 ((i : Int) + 6)] w fun e w' => w = w' ∧ e = .returned (.int .i64 ((v : Int)))) := fun w => by
    have c := l1Unit_walk s (i + 6) hs (by omega) w
    rw [hu2] at c; exact c
  have u0 : ((u : Int) < 0) = False := eq_false (by omega)
  have u1 : ((56320 : Int) ≤ (u : Int)) = False := eq_false (by omega)
  have u2 : ((u : Int) < 55296) = False := eq_false (by omega)
  have u3 : ((57344 : Int) ≤ (u : Int)) = False := eq_false (by omega)
  have v1 : ((v : Int) < 56320) = False := eq_false (by omega)
  have v2 : ((57344 : Int) ≤ (v : Int)) = True := eq_true (by omega)
  clear hv hu hu2
  go_enter Tryd.func50, Tryd.ntmps50
  go_wp2_with fail
  refine (unhide HS _).mono ?_
  rintro e w1 ⟨rfl, b1⟩
  go_wp2_with fail
  refine (unhide HU _).mono ?_
  rintro e w2 ⟨rfl, rfl⟩
  go_wp2_with fail
  refine (unhide HU2 _).mono ?_
  rintro e w3 ⟨rfl, rfl⟩
  clear HS HU HU2
  go_wp2
  go_ret2
  exact ⟨⟨_, rfl⟩, b1⟩
set_option maxHeartbeats 1600000 in
set_option maxRecDepth 100000 in
theorem pc_pair (s : ByteArray) (i : Nat) (w : World) (hs : s.size ≤ 1048576) (hi : i + 1 < s.size) (h : s[i].toNat = 92) (hv : smp s[i + 1].toNat = none) (u : Nat) (hu : unit s i = some u)  (hlo : 55296 ≤ u) (hhi : u ≤ 56319) (v : Nat) (hu2 : unit s (i + 6) = some v) (hlo2 : 56320 ≤ v) (hhi2 : v ≤ 57343) :
    Calls Tryd.prog 50 #[.string s, .int .i64 i] w (PSome w (strOf (enc (65536 + (u - 55296) * 1024 + (v - 56320)))) 12) := by
  have h1 : ¬ (128 : Int) ≤ (s[i].toNat : Int) := by omega
  have h2 : ((s[i].toNat : Int) != 92) = false := by rw [bne_eq_false_iff_eq]; omega
  have HS : Hid (∀ w, Calls Tryd.prog 61 #[.int .u8 (s[i + 1].toNat : Int)] w fun e w' => e = .returned (.int .i64 (-1)) ∧ Below w.heap.size w w') := fun w => by
    have c := l1Simple_walk s[i + 1].toNat (UInt8.toNat_lt _) w
    rw [hv] at c; exact c
  have i1 : (i : Int) + 1 < (s.size : Int) := by omega
  have HU : Hid (∀ w, Calls Tryd.prog 62 #[.string s, .int .i64 ((i : Int))] w fun e w' => w = w' ∧ e = .returned (.int .i64 ((u : Int)))) := fun w => by
    have c := l1Unit_walk s i hs (by omega) w
    rw [hu] at c; exact c
  have HU2 : Hid (∀ w, Calls Tryd.prog 62 #[.string s, .int .i64 ((i : Int) + 6)] w fun e w' => w = w' ∧ e = .returned (.int .i64 ((v : Int)))) := fun w => by
    have c := l1Unit_walk s (i + 6) hs (by omega) w
    rw [hu2] at c; exact c
  have u0 : ((u : Int) < 0) = False := eq_false (by omega)
  have u1 : ((56320 : Int) ≤ (u : Int)) = False := eq_false (by omega)
  have u2 : ((u : Int) < 55296) = False := eq_false (by omega)
  have u3 : ((57344 : Int) ≤ (u : Int)) = False := eq_false (by omega)
  have v1 : ((v : Int) < 56320) = False := eq_false (by omega)
  have v2 : ((57344 : Int) ≤ (v : Int)) = False := eq_false (by omega)
  have HV : Hid (∀ w, Calls Tryd.prog 56 #[.int .i64 (65536 + ((u : Int) - 55296) * 1024 + (v : Int) - 56320)] w fun e w' => e = .returned (.string (strOf (enc (65536 + (u - 55296) * 1024 + (v - 56320))))) ∧ Below w.heap.size w w') := fun w => by
    have c := utf8_at (65536 + ((u : Int) - 55296) * 1024 + (v : Int) - 56320) (65536 + (u - 55296) * 1024 + (v - 56320)) (by omega) w (by omega)
    rw [enc_utf (by omega) (by omega)] at c; exact c
  clear hv hu hu2
  generalize strOf (enc (65536 + (u - 55296) * 1024 + (v - 56320))) = t at *
  go_enter Tryd.func50, Tryd.ntmps50
  go_wp2_with fail
  refine (unhide HS _).mono ?_
  rintro e w1 ⟨rfl, b1⟩
  go_wp2_with fail
  refine (unhide HU _).mono ?_
  rintro e w2 ⟨rfl, rfl⟩
  go_wp2_with fail
  refine (unhide HU2 _).mono ?_
  rintro e w3 ⟨rfl, rfl⟩
  clear HS HU HU2
  go_wp2_with fail
  refine (unhide HV _).mono ?_
  rintro e w4 ⟨rfl, b4⟩
  have B4 := below_next b1 b4
  clear HV
  go_wp2
  go_ret2
  exact ⟨rfl, B4⟩

/-- A piece, as the model reads it. -/
def PPost (w : World) (o : Option (Nat × Nat)) (e : Ending) (w' : World) : Prop := o.elim (PNone w e w') fun p => PSome w (strOf (enc p.1)) p.2 e w'
theorem l1Piece_walk (s : ByteArray) (i : Nat) (w : World) (hs : s.size ≤ 1048576) (hi : i < s.size) (hq : bt s i ≠ 34) :
    Calls Tryd.prog 50 #[.string s, .int .i64 i] w (PPost w (piece s i)) := by
  have e0 := bt_at s i hi
  by_cases h92 : bt s i = 92
  · have hp : piece s i = escP s i := by unfold piece; rw [if_pos h92]
    rw [hp]
    by_cases hi1 : i + 1 < s.size
    · have e1 := bt_at s (i + 1) hi1
      cases hv : smp (bt s (i + 1)) with
      | some v =>
        rw [escP_s rfl hv]
        exact pc_simple s i w hs hi1 (by omega) v (by rw [← e1]; exact hv)
      | none =>
        have hv' : smp s[i + 1].toNat = none := by rw [← e1]; exact hv
        have he : escP s i = (unit s i).bind (escU s i) := by unfold escP; rw [hv]
        rw [he]
        cases hu : unit s i with
        | none => exact pc_nounit s i w hs hi1 (by omega) hv' hu
        | some u =>
          have hu65 := unit_lt hu
          simp only [Option.bind_some]
          unfold escU
          by_cases h1 : u < 55296 ∨ 57344 ≤ u
          · rw [if_pos h1]
            rcases h1 with h1 | h1
            · exact pc_low s i w hs hi1 (by omega) hv' u hu h1
            · exact pc_high s i w hs hi1 (by omega) hv' u hu h1 (by omega)
          · rw [if_neg h1]
            by_cases h2 : 56320 ≤ u
            · rw [if_pos h2]
              exact pc_sur2 s i w hs hi1 (by omega) hv' u hu h2 (by omega)
            · rw [if_neg h2]
              cases hu2 : unit s (i + 6) with
              | none => exact pc_no2 s i w hs hi1 (by omega) hv' u hu (by omega) (by omega) hu2
              | some v =>
                simp only [Option.bind_some]
                by_cases h3 : 56320 ≤ v ∧ v < 57344
                · rw [if_pos h3]
                  exact pc_pair s i w hs hi1 (by omega) hv' u hu (by omega) (by omega) v hu2 h3.1 (by omega)
                · rw [if_neg h3]
                  by_cases h4 : v < 56320
                  · exact pc_lo2 s i w hs hi1 (by omega) hv' u hu (by omega) (by omega) v hu2 (by omega)
                  · exact pc_hi2 s i w hs hi1 (by omega) hv' u hu (by omega) (by omega) v hu2 (by omega)
    · have he : escP s i = none := escP_n (b := 0) (bt_out s (i + 1) (by omega)) (by rfl) (by decide)
      rw [he]
      exact pc_end s i w hs hi hi1 (by omega)
  · unfold piece
    rw [if_neg h92]
    by_cases h32 : bt s i < 32
    · rw [if_pos h32]; exact pc_ctl s i w hi (by omega)
    · rw [if_neg h32]
      by_cases h128 : bt s i < 128
      · rw [if_pos h128, e0]; exact pc_asc s i w hs hi (by omega) (by omega) (by omega) (by omega)
      · rw [if_neg h128]
        by_cases hr : rl s i = 0
        · rw [if_pos hr]; exact pc_bad s i w hs hi (by omega) hr
        · rw [if_neg hr]; exact pc_multi s i w hs hi (by omega) hr
end Go.Proofs.YtadefcohbkgbfaaDoor
