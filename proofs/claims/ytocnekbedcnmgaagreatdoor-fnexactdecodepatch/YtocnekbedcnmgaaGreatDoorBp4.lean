import Derived.Laws.DeepStrings4
import Derived.Test.YtocnekbedcnmgaaGreatDoorBp3
import Derived.Test.YtocnekbedcnmgaaGreatDoorBp1
import Derived.Lib.ParseIntBCases
import Derived.Lib.ItoaMem
namespace Go.Proofs.YtocnekbedcnmgaaGreatDoor
open Go.RowKit

theorem strOf_ext {b : ByteArray} {l : List UInt8} (h : b.data.toList = l) : b = strOf l := by
  subst h
  cases b with
  | mk d => simp [strOf]
theorem ext_str (s : ByteArray) (i n : Nat) (l : List UInt8) (h : (s.data.toList.drop i).take n = l) : s.extract i (i + n) = strOf l := by
  refine strOf_ext ?_
  rw [Lib.extract_data, show i + n - i = n from by omega, h]
theorem enc_low {r : Nat} (h : r < 128) : enc r = [UInt8.ofNat r] := by
  unfold enc; rw [← utf_enc (by omega) (by omega)]; unfold utf utfZ; rw [if_pos h]; rfl
theorem enc_utf {r : Nat} (h : r ≤ 1114111) (h' : r < 55296 ∨ 57344 ≤ r) : utf r = enc r := utf_enc h h'

abbrev PNone (w : World) (e : Ending) (w' : World) : Prop := (∃ t, e = .returned (.tuple #[.string t, .int .i64 0])) ∧ Below w.heap.size w w'
abbrev PSome (w : World) (t : ByteArray) (n : Nat) (e : Ending) (w' : World) : Prop := e = .returned (.tuple #[.string t, .int .i64 (n : Int)]) ∧ Below w.heap.size w w'

set_option maxHeartbeats 1600000 in
set_option maxRecDepth 100000 in
theorem pc_bad (s : ByteArray) (i : Nat) (w : World) (hs : s.size ≤ 1048576) (hi : i < s.size) (h : 128 ≤ s[i].toNat) (hr : rl s i = 0) :
    Calls Tryz.prog 125 #[.string s, .int .i64 i] w (PNone w) := by
  have HR := hide (rl_walk s i w hi hs)
  rw [hr] at HR
  have h' : (128 : Int) ≤ (s[i].toNat : Int) := by omega
  clear hr
  go_enter Tryz.func125, Tryz.ntmps125
  go_wp2_with fail
  refine (unhide HR).mono ?_
  rintro e w1 ⟨rfl, b1⟩
  clear HR
  go_wp2
  go_ret2
  exact ⟨⟨_, rfl⟩, b1⟩
set_option maxHeartbeats 1600000 in
set_option maxRecDepth 100000 in
theorem pc_multi (s : ByteArray) (i : Nat) (w : World) (hs : s.size ≤ 1048576) (hi : i < s.size) (h : 128 ≤ s[i].toNat) (hr : ¬ rl s i = 0) :
    Calls Tryz.prog 125 #[.string s, .int .i64 i] w (PSome w (strOf (enc (Utf8.decode s i).1)) (rl s i)) := by
  have HR := hide (rl_walk s i w hi hs)
  have hle := rl_le s i hi
  have HE : Hid (s.extract i (i + rl s i) = strOf (enc (Utf8.decode s i).1)) := ext_str s i (rl s i) _ (enc_multi s i hi hr (by omega)).1.symm
  have h' : (128 : Int) ≤ (s[i].toNat : Int) := by omega
  clear hr
  generalize strOf (enc (Utf8.decode s i).1) = t at *
  generalize rl s i = n at *
  go_enter Tryz.func125, Tryz.ntmps125
  go_wp2_with fail
  refine (unhide HR).mono ?_
  rintro e w1 ⟨rfl, b1⟩
  clear HR
  go_wp2
  go_ret2
  exact ⟨by rw [← unhide HE]; rfl, b1⟩
set_option maxHeartbeats 1600000 in
set_option maxRecDepth 100000 in
theorem pc_ctl (s : ByteArray) (i : Nat) (w : World) (hi : i < s.size) (h : s[i].toNat < 32) :
    Calls Tryz.prog 125 #[.string s, .int .i64 i] w (PNone w) := by
  have h1 : ¬ (128 : Int) ≤ (s[i].toNat : Int) := by omega
  have h2 : ((s[i].toNat : Int) != 92) = true := by rw [bne_iff_ne]; omega
  have h3 : (s[i].toNat : Int) < 32 := by omega
  go_enter Tryz.func125, Tryz.ntmps125
  go_wp2
  go_ret2
  exact ⟨⟨_, rfl⟩, Below.refl _ _⟩
set_option maxHeartbeats 1600000 in
set_option maxRecDepth 100000 in
theorem pc_asc (s : ByteArray) (i : Nat) (w : World) (hs : s.size ≤ 1048576) (hi : i < s.size) (h32 : 32 ≤ s[i].toNat) (h128 : s[i].toNat < 128) (h92 : s[i].toNat ≠ 92) (h34 : s[i].toNat ≠ 34) :
    Calls Tryz.prog 125 #[.string s, .int .i64 i] w (PSome w (strOf (enc s[i].toNat)) 1) := by
  have h1 : ¬ (128 : Int) ≤ (s[i].toNat : Int) := by omega
  have h2 : ((s[i].toNat : Int) != 92) = true := by rw [bne_iff_ne]; omega
  have h3 : ¬ (s[i].toNat : Int) < 32 := by omega
  have h4 : ((s[i].toNat : Int) == 34) = false := by rw [beq_eq_false_iff_ne]; omega
  have d3 : decide ((s[i].toNat : Int) < 32) = false := by simp; omega
  have HE : Hid (s.extract i (i + 1) = strOf (enc s[i].toNat)) := ext_str s i 1 _ (by rw [enc_low h128, byte_eq, drop_at s i hi]; rfl)
  clear h32 h128 h92 h34
  go_enter Tryz.func125, Tryz.ntmps125
  go_wp2
  go_ret2
  exact ⟨by rw [← unhide HE]; rfl, Below.refl _ _⟩
set_option maxHeartbeats 1600000 in
set_option maxRecDepth 100000 in
theorem pc_simple (s : ByteArray) (i : Nat) (w : World) (hs : s.size ≤ 1048576) (hi : i + 1 < s.size) (h : s[i].toNat = 92) (v : Nat) (hv : smp s[i + 1].toNat = some v) :
    Calls Tryz.prog 125 #[.string s, .int .i64 i] w (PSome w (strOf (enc v)) 2) := by
  have h1 : ¬ (128 : Int) ≤ (s[i].toNat : Int) := by omega
  have h2 : ((s[i].toNat : Int) != 92) = false := by rw [bne_eq_false_iff_eq]; omega
  have HS : Hid (∀ w, Calls Tryz.prog 161 #[.int .u8 (s[i + 1].toNat : Int)] w fun e w' => e = .returned (.int .i64 (v : Int)) ∧ Below w.heap.size w w') := fun w => by
    have c := l1Simple_walk s[i + 1].toNat (UInt8.toNat_lt _) w
    rw [hv] at c; exact c
  have hv128 := smp_lt hv
  have hu : utf v = enc v := enc_utf (by omega) (by omega)
  have HCV : Hid (∀ w : World, (convert 37 9 (.slice (some ⟨w.heap.size, 0, none⟩) 1 1)).run Tryz.prog (w.alloc (.cells #[.int .u8 (v : Int)] 5)) = .ok (.string (strOf (enc v))) (w.alloc (.cells #[.int .u8 (v : Int)] 5))) := fun w => by
    rw [← hu]
    exact convert_bytes w (utf v) #[.int .u8 (v : Int)] 1 (by simp [utf, utfZ, hv128]) (by simp [utf, utfZ, hv128, Lib.byteCells]; omega)
  have hv0 : (0 : Int) ≤ (v : Int) := by omega
  have i1 : (i : Int) + 1 < (s.size : Int) := by omega
  clear hu hv
  generalize strOf (enc v) = t at *
  go_enter Tryz.func125, Tryz.ntmps125
  go_wp2_with fail
  refine (unhide HS _).mono ?_
  rintro e w1 ⟨rfl, b1⟩
  go_wp2_with fail
  refine (unhide HS _).mono ?_
  rintro e w2 ⟨rfl, b2⟩
  have B2 := below_next b1 b2
  have hcv := unhide HCV w2
  clear HS HCV b1 b2
  go_wp2
  go_ret2
  exact ⟨rfl, B2.alloc B2.size _⟩
set_option maxHeartbeats 1600000 in
set_option maxRecDepth 100000 in
theorem pc_end (s : ByteArray) (i : Nat) (w : World) (hs : s.size ≤ 1048576) (hi : i < s.size) (hi' : ¬ i + 1 < s.size) (h : s[i].toNat = 92) :
    Calls Tryz.prog 125 #[.string s, .int .i64 i] w (PNone w) := by
  have h1 : ¬ (128 : Int) ≤ (s[i].toNat : Int) := by omega
  have h2 : ((s[i].toNat : Int) != 92) = false := by rw [bne_eq_false_iff_eq]; omega
  have HU : Hid (∀ w, Calls Tryz.prog 162 #[.string s, .int .i64 ((i : Int))] w fun e w' => w = w' ∧ e = .returned (.int .i64 (-1))) := fun w => by
    have c := l1Unit_walk s i hs (by omega) w
    rw [unit_short (by omega)] at c; exact c
  have i1 : ¬ (i : Int) + 1 < (s.size : Int) := by omega
  have di : decide ((i : Int) + 1 < (s.size : Int)) = false := by simp; omega
  go_enter Tryz.func125, Tryz.ntmps125
  go_wp2_with fail
  refine (unhide HU _).mono ?_
  rintro e w2 ⟨rfl, rfl⟩
  clear HU
  go_wp2
  go_ret2
  exact ⟨⟨_, rfl⟩, Below.refl _ _⟩
set_option maxHeartbeats 1600000 in
set_option maxRecDepth 100000 in
theorem pc_nounit (s : ByteArray) (i : Nat) (w : World) (hs : s.size ≤ 1048576) (hi : i + 1 < s.size) (h : s[i].toNat = 92) (hv : smp s[i + 1].toNat = none) (hu : unit s i = none) :
    Calls Tryz.prog 125 #[.string s, .int .i64 i] w (PNone w) := by
  have h1 : ¬ (128 : Int) ≤ (s[i].toNat : Int) := by omega
  have h2 : ((s[i].toNat : Int) != 92) = false := by rw [bne_eq_false_iff_eq]; omega
  have HS : Hid (∀ w, Calls Tryz.prog 161 #[.int .u8 (s[i + 1].toNat : Int)] w fun e w' => e = .returned (.int .i64 (-1)) ∧ Below w.heap.size w w') := fun w => by
    have c := l1Simple_walk s[i + 1].toNat (UInt8.toNat_lt _) w
    rw [hv] at c; exact c
  have i1 : (i : Int) + 1 < (s.size : Int) := by omega
  have HU : Hid (∀ w, Calls Tryz.prog 162 #[.string s, .int .i64 ((i : Int))] w fun e w' => w = w' ∧ e = .returned (.int .i64 (-1))) := fun w => by
    have c := l1Unit_walk s i hs (by omega) w
    rw [hu] at c; exact c
  clear hv hu
  go_enter Tryz.func125, Tryz.ntmps125
  go_wp2_with fail
  refine (unhide HS _).mono ?_
  rintro e w1 ⟨rfl, b1⟩
  go_wp2_with fail
  refine (unhide HU _).mono ?_
  rintro e w2 ⟨rfl, rfl⟩
  clear HS HU
  go_wp2
  go_ret2
  exact ⟨⟨_, rfl⟩, b1⟩
set_option maxHeartbeats 1600000 in
set_option maxRecDepth 100000 in
theorem pc_low (s : ByteArray) (i : Nat) (w : World) (hs : s.size ≤ 1048576) (hi : i + 1 < s.size) (h : s[i].toNat = 92) (hv : smp s[i + 1].toNat = none) (u : Nat) (hu : unit s i = some u)  (hlow : u < 55296) :
    Calls Tryz.prog 125 #[.string s, .int .i64 i] w (PSome w (strOf (enc u)) 6) := by
  have h1 : ¬ (128 : Int) ≤ (s[i].toNat : Int) := by omega
  have h2 : ((s[i].toNat : Int) != 92) = false := by rw [bne_eq_false_iff_eq]; omega
  have HS : Hid (∀ w, Calls Tryz.prog 161 #[.int .u8 (s[i + 1].toNat : Int)] w fun e w' => e = .returned (.int .i64 (-1)) ∧ Below w.heap.size w w') := fun w => by
    have c := l1Simple_walk s[i + 1].toNat (UInt8.toNat_lt _) w
    rw [hv] at c; exact c
  have i1 : (i : Int) + 1 < (s.size : Int) := by omega
  have HU : Hid (∀ w, Calls Tryz.prog 162 #[.string s, .int .i64 ((i : Int))] w fun e w' => w = w' ∧ e = .returned (.int .i64 ((u : Int)))) := fun w => by
    have c := l1Unit_walk s i hs (by omega) w
    rw [hu] at c; exact c
  have HV : Hid (∀ w, Calls Tryz.prog 163 #[.int .i64 (u : Int)] w fun e w' => e = .returned (.string (strOf (enc u))) ∧ Below w.heap.size w w') := fun w => by
    have c := utf8_walk u w (by omega)
    rw [enc_utf (by omega) (by omega)] at c; exact c
  have u0 : ((u : Int) < 0) = False := eq_false (by omega)
  have u1 : ((56320 : Int) ≤ (u : Int)) = False := eq_false (by omega)
  have u2 : ((u : Int) < 55296) = True := eq_true (by omega)
  clear hv hu
  generalize strOf (enc u) = t at *
  go_enter Tryz.func125, Tryz.ntmps125
  go_wp2_with fail
  refine (unhide HS _).mono ?_
  rintro e w1 ⟨rfl, b1⟩
  go_wp2_with fail
  refine (unhide HU _).mono ?_
  rintro e w2 ⟨rfl, rfl⟩
  clear HS HU
  go_wp2_with fail
  refine (unhide HV _).mono ?_
  rintro e w3 ⟨rfl, b3⟩
  have B3 := below_next b1 b3
  clear HV
  go_wp2
  go_ret2
  exact ⟨rfl, B3⟩
set_option maxHeartbeats 1600000 in
set_option maxRecDepth 100000 in
theorem pc_high (s : ByteArray) (i : Nat) (w : World) (hs : s.size ≤ 1048576) (hi : i + 1 < s.size) (h : s[i].toNat = 92) (hv : smp s[i + 1].toNat = none) (u : Nat) (hu : unit s i = some u)  (hhi : 57344 ≤ u) (hu65 : u ≤ 65535) :
    Calls Tryz.prog 125 #[.string s, .int .i64 i] w (PSome w (strOf (enc u)) 6) := by
  have h1 : ¬ (128 : Int) ≤ (s[i].toNat : Int) := by omega
  have h2 : ((s[i].toNat : Int) != 92) = false := by rw [bne_eq_false_iff_eq]; omega
  have HS : Hid (∀ w, Calls Tryz.prog 161 #[.int .u8 (s[i + 1].toNat : Int)] w fun e w' => e = .returned (.int .i64 (-1)) ∧ Below w.heap.size w w') := fun w => by
    have c := l1Simple_walk s[i + 1].toNat (UInt8.toNat_lt _) w
    rw [hv] at c; exact c
  have i1 : (i : Int) + 1 < (s.size : Int) := by omega
  have HU : Hid (∀ w, Calls Tryz.prog 162 #[.string s, .int .i64 ((i : Int))] w fun e w' => w = w' ∧ e = .returned (.int .i64 ((u : Int)))) := fun w => by
    have c := l1Unit_walk s i hs (by omega) w
    rw [hu] at c; exact c
  have HV : Hid (∀ w, Calls Tryz.prog 163 #[.int .i64 (u : Int)] w fun e w' => e = .returned (.string (strOf (enc u))) ∧ Below w.heap.size w w') := fun w => by
    have c := utf8_walk u w (by omega)
    rw [enc_utf (by omega) (by omega)] at c; exact c
  have u0 : ((u : Int) < 0) = False := eq_false (by omega)
  have u1 : ((56320 : Int) ≤ (u : Int)) = True := eq_true (by omega)
  have u2 : ((u : Int) < 57344) = False := eq_false (by omega)
  have u3 : ((u : Int) < 55296) = False := eq_false (by omega)
  have u4 : ((57344 : Int) ≤ (u : Int)) = True := eq_true (by omega)
  clear hv hu
  generalize strOf (enc u) = t at *
  go_enter Tryz.func125, Tryz.ntmps125
  go_wp2_with fail
  refine (unhide HS _).mono ?_
  rintro e w1 ⟨rfl, b1⟩
  go_wp2_with fail
  refine (unhide HU _).mono ?_
  rintro e w2 ⟨rfl, rfl⟩
  clear HS HU
  go_wp2_with fail
  refine (unhide HV _).mono ?_
  rintro e w3 ⟨rfl, b3⟩
  have B3 := below_next b1 b3
  clear HV
  go_wp2
  go_ret2
  exact ⟨rfl, B3⟩
set_option maxHeartbeats 1600000 in
set_option maxRecDepth 100000 in
theorem pc_sur2 (s : ByteArray) (i : Nat) (w : World) (hs : s.size ≤ 1048576) (hi : i + 1 < s.size) (h : s[i].toNat = 92) (hv : smp s[i + 1].toNat = none) (u : Nat) (hu : unit s i = some u)  (hlo : 56320 ≤ u) (hhi : u ≤ 57343) :
    Calls Tryz.prog 125 #[.string s, .int .i64 i] w (PNone w) := by
  have h1 : ¬ (128 : Int) ≤ (s[i].toNat : Int) := by omega
  have h2 : ((s[i].toNat : Int) != 92) = false := by rw [bne_eq_false_iff_eq]; omega
  have HS : Hid (∀ w, Calls Tryz.prog 161 #[.int .u8 (s[i + 1].toNat : Int)] w fun e w' => e = .returned (.int .i64 (-1)) ∧ Below w.heap.size w w') := fun w => by
    have c := l1Simple_walk s[i + 1].toNat (UInt8.toNat_lt _) w
    rw [hv] at c; exact c
  have i1 : (i : Int) + 1 < (s.size : Int) := by omega
  have HU : Hid (∀ w, Calls Tryz.prog 162 #[.string s, .int .i64 ((i : Int))] w fun e w' => w = w' ∧ e = .returned (.int .i64 ((u : Int)))) := fun w => by
    have c := l1Unit_walk s i hs (by omega) w
    rw [hu] at c; exact c
  have u0 : ((u : Int) < 0) = False := eq_false (by omega)
  have u1 : ((56320 : Int) ≤ (u : Int)) = True := eq_true (by omega)
  have u2 : ((u : Int) < 57344) = True := eq_true (by omega)
  clear hv hu
  go_enter Tryz.func125, Tryz.ntmps125
  go_wp2_with fail
  refine (unhide HS _).mono ?_
  rintro e w1 ⟨rfl, b1⟩
  go_wp2_with fail
  refine (unhide HU _).mono ?_
  rintro e w2 ⟨rfl, rfl⟩
  clear HS HU
  go_wp2
  go_ret2
  exact ⟨⟨_, rfl⟩, b1⟩
set_option maxHeartbeats 1600000 in
set_option maxRecDepth 100000 in
theorem pc_no2 (s : ByteArray) (i : Nat) (w : World) (hs : s.size ≤ 1048576) (hi : i + 1 < s.size) (h : s[i].toNat = 92) (hv : smp s[i + 1].toNat = none) (u : Nat) (hu : unit s i = some u)  (hlo : 55296 ≤ u) (hhi : u ≤ 56319) (hu2 : unit s (i + 6) = none) :
    Calls Tryz.prog 125 #[.string s, .int .i64 i] w (PNone w) := by
  have h1 : ¬ (128 : Int) ≤ (s[i].toNat : Int) := by omega
  have h2 : ((s[i].toNat : Int) != 92) = false := by rw [bne_eq_false_iff_eq]; omega
  have HS : Hid (∀ w, Calls Tryz.prog 161 #[.int .u8 (s[i + 1].toNat : Int)] w fun e w' => e = .returned (.int .i64 (-1)) ∧ Below w.heap.size w w') := fun w => by
    have c := l1Simple_walk s[i + 1].toNat (UInt8.toNat_lt _) w
    rw [hv] at c; exact c
  have i1 : (i : Int) + 1 < (s.size : Int) := by omega
  have HU : Hid (∀ w, Calls Tryz.prog 162 #[.string s, .int .i64 ((i : Int))] w fun e w' => w = w' ∧ e = .returned (.int .i64 ((u : Int)))) := fun w => by
    have c := l1Unit_walk s i hs (by omega) w
    rw [hu] at c; exact c
  have HU2 : Hid (∀ w, Calls Tryz.prog 162 #[.string s, .int .i64 ((i : Int) + 6)] w fun e w' => w = w' ∧ e = .returned (.int .i64 (-1))) := fun w => by
    have c := l1Unit_walk s (i + 6) hs (by omega) w
    rw [hu2] at c; exact c
  have u0 : ((u : Int) < 0) = False := eq_false (by omega)
  have u1 : ((56320 : Int) ≤ (u : Int)) = False := eq_false (by omega)
  have u2 : ((u : Int) < 55296) = False := eq_false (by omega)
  have u3 : ((57344 : Int) ≤ (u : Int)) = False := eq_false (by omega)
  clear hv hu hu2
  go_enter Tryz.func125, Tryz.ntmps125
  go_wp2_with fail
  refine (unhide HS _).mono ?_
  rintro e w1 ⟨rfl, b1⟩
  go_wp2_with fail
  refine (unhide HU _).mono ?_
  rintro e w2 ⟨rfl, rfl⟩
  go_wp2_with fail
  refine (unhide HU2 _).mono ?_
  rintro e w3 ⟨rfl, rfl⟩
  clear HS HU HU2
  go_wp2
  go_ret2
  exact ⟨⟨_, rfl⟩, b1⟩
set_option maxHeartbeats 1600000 in
set_option maxRecDepth 100000 in
theorem pc_lo2 (s : ByteArray) (i : Nat) (w : World) (hs : s.size ≤ 1048576) (hi : i + 1 < s.size) (h : s[i].toNat = 92) (hv : smp s[i + 1].toNat = none) (u : Nat) (hu : unit s i = some u)  (hlo : 55296 ≤ u) (hhi : u ≤ 56319) (v : Nat) (hu2 : unit s (i + 6) = some v) (hv2 : v ≤ 56319) :
    Calls Tryz.prog 125 #[.string s, .int .i64 i] w (PNone w) := by
  have h1 : ¬ (128 : Int) ≤ (s[i].toNat : Int) := by omega
  have h2 : ((s[i].toNat : Int) != 92) = false := by rw [bne_eq_false_iff_eq]; omega
  have HS : Hid (∀ w, Calls Tryz.prog 161 #[.int .u8 (s[i + 1].toNat : Int)] w fun e w' => e = .returned (.int .i64 (-1)) ∧ Below w.heap.size w w') := fun w => by
    have c := l1Simple_walk s[i + 1].toNat (UInt8.toNat_lt _) w
    rw [hv] at c; exact c
  have i1 : (i : Int) + 1 < (s.size : Int) := by omega
  have HU : Hid (∀ w, Calls Tryz.prog 162 #[.string s, .int .i64 ((i : Int))] w fun e w' => w = w' ∧ e = .returned (.int .i64 ((u : Int)))) := fun w => by
    have c := l1Unit_walk s i hs (by omega) w
    rw [hu] at c; exact c
  have HU2 : Hid (∀ w, Calls Tryz.prog 162 #[.string s, .int .i64 ((i : Int) + 6)] w fun e w' => w = w' ∧ e = .returned (.int .i64 ((v : Int)))) := fun w => by
    have c := l1Unit_walk s (i + 6) hs (by omega) w
    rw [hu2] at c; exact c
  have u0 : ((u : Int) < 0) = False := eq_false (by omega)
  have u1 : ((56320 : Int) ≤ (u : Int)) = False := eq_false (by omega)
  have u2 : ((u : Int) < 55296) = False := eq_false (by omega)
  have u3 : ((57344 : Int) ≤ (u : Int)) = False := eq_false (by omega)
  have v1 : ((v : Int) < 56320) = True := eq_true (by omega)
  clear hv hu hu2
  go_enter Tryz.func125, Tryz.ntmps125
  go_wp2_with fail
  refine (unhide HS _).mono ?_
  rintro e w1 ⟨rfl, b1⟩
  go_wp2_with fail
  refine (unhide HU _).mono ?_
  rintro e w2 ⟨rfl, rfl⟩
  go_wp2_with fail
  refine (unhide HU2 _).mono ?_
  rintro e w3 ⟨rfl, rfl⟩
  clear HS HU HU2
  go_wp2
  go_ret2
  exact ⟨⟨_, rfl⟩, b1⟩
set_option maxHeartbeats 1600000 in
set_option maxRecDepth 100000 in
theorem pc_hi2 (s : ByteArray) (i : Nat) (w : World) (hs : s.size ≤ 1048576) (hi : i + 1 < s.size) (h : s[i].toNat = 92) (hv : smp s[i + 1].toNat = none) (u : Nat) (hu : unit s i = some u)  (hlo : 55296 ≤ u) (hhi : u ≤ 56319) (v : Nat) (hu2 : unit s (i + 6) = some v) (hv2 : 57344 ≤ v) :
    Calls Tryz.prog 125 #[.string s, .int .i64 i] w (PNone w) := by
  have h1 : ¬ (128 : Int) ≤ (s[i].toNat : Int) := by omega
  have h2 : ((s[i].toNat : Int) != 92) = false := by rw [bne_eq_false_iff_eq]; omega
  have HS : Hid (∀ w, Calls Tryz.prog 161 #[.int .u8 (s[i + 1].toNat : Int)] w fun e w' => e = .returned (.int .i64 (-1)) ∧ Below w.heap.size w w') := fun w => by
    have c := l1Simple_walk s[i + 1].toNat (UInt8.toNat_lt _) w
    rw [hv] at c; exact c
  have i1 : (i : Int) + 1 < (s.size : Int) := by omega
  have HU : Hid (∀ w, Calls Tryz.prog 162 #[.string s, .int .i64 ((i : Int))] w fun e w' => w = w' ∧ e = .returned (.int .i64 ((u : Int)))) := fun w => by
    have c := l1Unit_walk s i hs (by omega) w
    rw [hu] at c; exact c
  have HU2 : Hid (∀ w, Calls Tryz.prog 162 #[.string s, .int .i64 ((i : Int) + 6)] w fun e w' => w = w' ∧ e = .returned (.int .i64 ((v : Int)))) := fun w => by
    have c := l1Unit_walk s (i + 6) hs (by omega) w
    rw [hu2] at c; exact c
  have u0 : ((u : Int) < 0) = False := eq_false (by omega)
  have u1 : ((56320 : Int) ≤ (u : Int)) = False := eq_false (by omega)
  have u2 : ((u : Int) < 55296) = False := eq_false (by omega)
  have u3 : ((57344 : Int) ≤ (u : Int)) = False := eq_false (by omega)
  have v1 : ((v : Int) < 56320) = False := eq_false (by omega)
  have v2 : ((57344 : Int) ≤ (v : Int)) = True := eq_true (by omega)
  clear hv hu hu2
  go_enter Tryz.func125, Tryz.ntmps125
  go_wp2_with fail
  refine (unhide HS _).mono ?_
  rintro e w1 ⟨rfl, b1⟩
  go_wp2_with fail
  refine (unhide HU _).mono ?_
  rintro e w2 ⟨rfl, rfl⟩
  go_wp2_with fail
  refine (unhide HU2 _).mono ?_
  rintro e w3 ⟨rfl, rfl⟩
  clear HS HU HU2
  go_wp2
  go_ret2
  exact ⟨⟨_, rfl⟩, b1⟩
set_option maxHeartbeats 1600000 in
set_option maxRecDepth 100000 in
theorem pc_pair (s : ByteArray) (i : Nat) (w : World) (hs : s.size ≤ 1048576) (hi : i + 1 < s.size) (h : s[i].toNat = 92) (hv : smp s[i + 1].toNat = none) (u : Nat) (hu : unit s i = some u)  (hlo : 55296 ≤ u) (hhi : u ≤ 56319) (v : Nat) (hu2 : unit s (i + 6) = some v) (hlo2 : 56320 ≤ v) (hhi2 : v ≤ 57343) :
    Calls Tryz.prog 125 #[.string s, .int .i64 i] w (PSome w (strOf (enc (65536 + (u - 55296) * 1024 + (v - 56320)))) 12) := by
  have h1 : ¬ (128 : Int) ≤ (s[i].toNat : Int) := by omega
  have h2 : ((s[i].toNat : Int) != 92) = false := by rw [bne_eq_false_iff_eq]; omega
  have HS : Hid (∀ w, Calls Tryz.prog 161 #[.int .u8 (s[i + 1].toNat : Int)] w fun e w' => e = .returned (.int .i64 (-1)) ∧ Below w.heap.size w w') := fun w => by
    have c := l1Simple_walk s[i + 1].toNat (UInt8.toNat_lt _) w
    rw [hv] at c; exact c
  have i1 : (i : Int) + 1 < (s.size : Int) := by omega
  have HU : Hid (∀ w, Calls Tryz.prog 162 #[.string s, .int .i64 ((i : Int))] w fun e w' => w = w' ∧ e = .returned (.int .i64 ((u : Int)))) := fun w => by
    have c := l1Unit_walk s i hs (by omega) w
    rw [hu] at c; exact c
  have HU2 : Hid (∀ w, Calls Tryz.prog 162 #[.string s, .int .i64 ((i : Int) + 6)] w fun e w' => w = w' ∧ e = .returned (.int .i64 ((v : Int)))) := fun w => by
    have c := l1Unit_walk s (i + 6) hs (by omega) w
    rw [hu2] at c; exact c
  have u0 : ((u : Int) < 0) = False := eq_false (by omega)
  have u1 : ((56320 : Int) ≤ (u : Int)) = False := eq_false (by omega)
  have u2 : ((u : Int) < 55296) = False := eq_false (by omega)
  have u3 : ((57344 : Int) ≤ (u : Int)) = False := eq_false (by omega)
  have v1 : ((v : Int) < 56320) = False := eq_false (by omega)
  have v2 : ((57344 : Int) ≤ (v : Int)) = False := eq_false (by omega)
  have HV : Hid (∀ w, Calls Tryz.prog 163 #[.int .i64 (65536 + ((u : Int) - 55296) * 1024 + (v : Int) - 56320)] w fun e w' => e = .returned (.string (strOf (enc (65536 + (u - 55296) * 1024 + (v - 56320))))) ∧ Below w.heap.size w w') := fun w => by
    have c := utf8_at (65536 + ((u : Int) - 55296) * 1024 + (v : Int) - 56320) (65536 + (u - 55296) * 1024 + (v - 56320)) (by omega) w (by omega)
    rw [enc_utf (by omega) (by omega)] at c; exact c
  clear hv hu hu2
  generalize strOf (enc (65536 + (u - 55296) * 1024 + (v - 56320))) = t at *
  go_enter Tryz.func125, Tryz.ntmps125
  go_wp2_with fail
  refine (unhide HS _).mono ?_
  rintro e w1 ⟨rfl, b1⟩
  go_wp2_with fail
  refine (unhide HU _).mono ?_
  rintro e w2 ⟨rfl, rfl⟩
  go_wp2_with fail
  refine (unhide HU2 _).mono ?_
  rintro e w3 ⟨rfl, rfl⟩
  clear HS HU HU2
  go_wp2_with fail
  refine (unhide HV _).mono ?_
  rintro e w4 ⟨rfl, b4⟩
  have B4 := below_next b1 b4
  clear HV
  go_wp2
  go_ret2
  exact ⟨rfl, B4⟩

/-- A piece, as the model reads it. -/
def PPost (w : World) (o : Option (Nat × Nat)) (e : Ending) (w' : World) : Prop := o.elim (PNone w e w') fun p => PSome w (strOf (enc p.1)) p.2 e w'
theorem l1Piece_walk (s : ByteArray) (i : Nat) (w : World) (hs : s.size ≤ 1048576) (hi : i < s.size) (hq : bt s i ≠ 34) :
    Calls Tryz.prog 125 #[.string s, .int .i64 i] w (PPost w (piece s i)) := by
  have e0 := bt_at s i hi
  by_cases h92 : bt s i = 92
  · have hp : piece s i = escP s i := by unfold piece; rw [if_pos h92]
    rw [hp]
    by_cases hi1 : i + 1 < s.size
    · have e1 := bt_at s (i + 1) hi1
      cases hv : smp (bt s (i + 1)) with
      | some v =>
        rw [escP_s rfl hv]
        exact pc_simple s i w hs hi1 (by omega) v (by rw [← e1]; exact hv)
      | none =>
        have hv' : smp s[i + 1].toNat = none := by rw [← e1]; exact hv
        have he : escP s i = (unit s i).bind (escU s i) := by unfold escP; rw [hv]
        rw [he]
        cases hu : unit s i with
        | none => exact pc_nounit s i w hs hi1 (by omega) hv' hu
        | some u =>
          have hu65 := unit_lt hu
          simp only [Option.bind_some]
          unfold escU
          by_cases h1 : u < 55296 ∨ 57344 ≤ u
          · rw [if_pos h1]
            rcases h1 with h1 | h1
            · exact pc_low s i w hs hi1 (by omega) hv' u hu h1
            · exact pc_high s i w hs hi1 (by omega) hv' u hu h1 (by omega)
          · rw [if_neg h1]
            by_cases h2 : 56320 ≤ u
            · rw [if_pos h2]
              exact pc_sur2 s i w hs hi1 (by omega) hv' u hu h2 (by omega)
            · rw [if_neg h2]
              cases hu2 : unit s (i + 6) with
              | none => exact pc_no2 s i w hs hi1 (by omega) hv' u hu (by omega) (by omega) hu2
              | some v =>
                simp only [Option.bind_some]
                by_cases h3 : 56320 ≤ v ∧ v < 57344
                · rw [if_pos h3]
                  exact pc_pair s i w hs hi1 (by omega) hv' u hu (by omega) (by omega) v hu2 h3.1 (by omega)
                · rw [if_neg h3]
                  by_cases h4 : v < 56320
                  · exact pc_lo2 s i w hs hi1 (by omega) hv' u hu (by omega) (by omega) v hu2 (by omega)
                  · exact pc_hi2 s i w hs hi1 (by omega) hv' u hu (by omega) (by omega) v hu2 (by omega)
    · have he : escP s i = none := escP_n (b := 0) (bt_out s (i + 1) (by omega)) (by rfl) (by decide)
      rw [he]
      exact pc_end s i w hs hi hi1 (by omega)
  · unfold piece
    rw [if_neg h92]
    by_cases h32 : bt s i < 32
    · rw [if_pos h32]; exact pc_ctl s i w hi (by omega)
    · rw [if_neg h32]
      by_cases h128 : bt s i < 128
      · rw [if_pos h128, e0]; exact pc_asc s i w hs hi (by omega) (by omega) (by omega) (by omega)
      · rw [if_neg h128]
        by_cases hr : rl s i = 0
        · rw [if_pos hr]; exact pc_bad s i w hs hi (by omega) hr
        · rw [if_neg hr]; exact pc_multi s i w hs hi (by omega) hr
end Go.Proofs.YtocnekbedcnmgaaGreatDoor


namespace Go.Proofs.YtocnekbedcnmgaaGreatDoor
open Go.RowKit

/-- A string of JSON, as the model reads it. -/
def SPost (s : ByteArray) (w : World) (o : Option (List UInt8 × Nat)) (e : Ending) (w' : World) : Prop :=
  Below w.heap.size w w' ∧ o.elim (∃ (t : ByteArray) (k : Nat), k ≤ s.size + 1 ∧ t.size ≤ 4 * s.size + 4 ∧ e = .returned (.tuple #[.string t, .int .i64 (k : Int), .bool false])) fun q => e = .returned (.tuple #[.string (strOf q.1), .int .i64 (q.2 : Int), .bool true])

set_option maxHeartbeats 1600000 in
set_option maxRecDepth 100000 in
theorem l1String_walk (s : ByteArray) (i : Nat) (w : World) (hs : s.size ≤ 1048576) (hi : i ≤ s.size + 1) :
    Calls Tryz.prog 75 #[.string s, .int .i64 i] w (SPost s w (strQ s i)) := by
  obtain ⟨i0, hi0, hz0, hz1, hz2⟩ := info_parts infoU8
  by_cases h34 : bt s i = 34
  · have hlt : i < s.size := bt_in (by rw [h34]; decide)
    have HQ : Hid (strQ s i = strR s (i + 1)) := by show _ = _; unfold strQ; rw [if_pos h34]
    have ha : atB s i 34 = true := by rw [atB_in hlt, beq_iff_eq, ← bt_at s i hlt, h34]; rfl
    have HA := hide (at_walk s (i : Int) i rfl 34 w)
    rw [ha] at HA
    clear h34 ha
    go_enter Tryz.func75, Tryz.ntmps75
    go_wp2_with fail
    refine (unhide HA).mono ?_
    rintro e w1 ⟨rfl, rfl⟩
    clear HA
    go_wp2
    go_loopw [1, 7] (fun k v wr => ∃ (j : Nat) (acc : List UInt8), j ≤ s.size ∧ k = .int .i64 (j : Int) ∧ acc.length ≤ 4 * j ∧ wr.ownsRow w.heap.size 5 1 v (Lib.byteCells acc).length (Lib.byteCells acc) ∧ Below w.heap.size w wr ∧ strR s (i + 1) = (strR s j).map fun q => (acc ++ q.1, q.2)) (fun k _ _ => s.size - (intOf k).toNat)
    case atStart =>
      exact ⟨i + 1, [], by omega, by go_num, by simp, ⟨rfl, .inr ⟨w.heap.size, 0, #[], rfl, Nat.le_refl _, heap_alloc_new w _, Nat.le_refl _, by unfold maxLen; omega, rfl, rfl⟩⟩, (Below.refl _ _).alloc (Nat.le_refl _) _, by simp⟩
    case round =>
      obtain ⟨j, acc, hj, rfl, hal, hown, hb, hst⟩ := hrel
      have HST := hide hst
      have HB := hide hb
      have hwsz := hb.size
      clear hst hb
      by_cases hin : j < s.size
      · have e0 := bt_at s j hin
        have hin' : (j : Int) < (s.size : Int) := by omega
        by_cases e34 : bt s j = 34
        · have t1 : ((s[j].toNat : Int) != 34) = false := by rw [bne_eq_false_iff_eq]; omega
          have HF : Hid (strQ s i = some (acc, j + 1)) := by
            show _ = _
            rw [unhide HQ, unhide HST, strR_end e34]; simp
          have hcv := convert_own hown
          clear hown e34 e0
          go_wp2
          go_ret3
          exact ⟨unhide HB, by rw [unhide HF]; rfl⟩
        · have t1 : ((s[j].toNat : Int) != 34) = true := by rw [bne_iff_ne]; omega
          have HC := hide (l1Piece_walk s j wr hs hin e34)
          cases hp : piece s j with
          | none =>
            have HF : Hid (strQ s i = none) := by
              show _ = _
              rw [unhide HQ, unhide HST, strR_bad e34 hp]; rfl
            rw [hp] at HC
            clear hown e34 e0 hp
            go_wp2_with fail
            refine (unhide HC).mono ?_
            rintro e w2 ⟨⟨t, rfl⟩, b2⟩
            have B2 := below_next (unhide HB) b2
            clear HC
            go_wp2
            go_ret3
            exact ⟨B2, by rw [unhide HF]; exact ⟨_, j, by omega, Nat.zero_le _, rfl⟩⟩
          | some p =>
            obtain ⟨r, n⟩ := p
            obtain ⟨p1, p2, p3⟩ := piece_ok hp
            have hel := enc_le r
            have HST2 : Hid (strR s (i + 1) = (strR s (j + n)).map fun q => (acc ++ enc r ++ q.1, q.2)) := by
              show _ = _
              rw [unhide HST, strR_go e34 hp, Option.map_map]
              congr 1
              funext q
              simp
            rw [hp] at HC
            have t0 : ((n : Int) == 0) = false := by rw [beq_eq_false_iff_ne]; omega
            clear e34 e0 hp
            go_wp2_with fail
            refine (unhide HC).mono ?_
            rintro e w2 ⟨rfl, b2⟩
            have B2 := below_next (unhide HB) b2
            have own2 := own_below hown b2
            obtain ⟨cap, W3, hcv, hcell, b3, hk3, hs3⟩ := conv_bytes w2 (enc r)
            have own3 := hk3 _ _ _ _ _ own2
            have B3 := below_next B2 b3
            have HCELL := hide hcell
            have hsz2 := B2.size
            clear HC hcell hk3 own2 hown b2 b3 HB B2
            go_wp2_with (at_builtin; refine wpList_append_own _ rfl (.tmp 37) (.tmp 39) 37 rfl w.heap.size 5 i0 (.int .u8 0) 1 1 Tryz.underlying37 hi0 hz0 hz1 hz2 rfl (by decide) _ _ _ rfl own3 ⟨w2.heap.size, 0, none⟩ (enc r).length cap (Lib.byteCells (enc r)) rfl (by rw [Lib.byteCells_length]; omega) (unhide HCELL) (one_bytes (enc r)) (by rw [Lib.byteCells_length]; unfold maxLen; omega) (by rw [Lib.byteCells_length]; omega) (by omega) ?_)
            intro v4 w4 own4 hg4 _
            have B4 : Below w.heap.size w w4 := B3.grown hg4 (by omega) (fun k hk => (own3.lt k hk).1)
            have own4' := own_step (m := (enc r)) own4 rfl rfl
            clear own4 hg4 own3 HCELL B3 hcv
            go_wp2
            go_roundw
            case rel => exact ⟨j + n, acc ++ (enc r), by omega, by go_num, by rw [List.length_append]; omega, own4', B4, unhide HST2⟩
            case measure => simp [intOf]; omega
      · have hin' : ¬ (j : Int) < (s.size : Int) := by omega
        have d1 : decide ((j : Int) < (s.size : Int)) = false := by simp; omega
        have HF : Hid (strQ s i = none) := by
          show _ = _
          rw [unhide HQ, unhide HST, strR_out (by omega)]; rfl
        have hcv := convert_own hown
        clear hown
        go_wp2
        go_ret3
        exact ⟨unhide HB, by rw [unhide HF]; exact ⟨_, j + 1, by omega, by show acc.toArray.size ≤ _; simp; omega, rfl⟩⟩
  · have HQ : Hid (strQ s i = none) := by show _ = _; unfold strQ; rw [if_neg h34]
    have ha : atB s i 34 = false := by
      by_cases hlt : i < s.size
      · rw [atB_in hlt, beq_eq_false_iff_ne, ← bt_at s i hlt]; omega
      · exact atB_out hlt
    have HA := hide (at_walk s (i : Int) i rfl 34 w)
    rw [ha] at HA
    clear h34 ha
    go_enter Tryz.func75, Tryz.ntmps75
    go_wp2_with fail
    refine (unhide HA).mono ?_
    rintro e w1 ⟨rfl, rfl⟩
    clear HA
    go_wp2
    go_ret3
    exact ⟨Below.refl _ _, by rw [unhide HQ]; exact ⟨_, i, hi, Nat.zero_le _, rfl⟩⟩
end Go.Proofs.YtocnekbedcnmgaaGreatDoor


namespace Go.Proofs.YtocnekbedcnmgaaGreatDoor
open Go.RowKit

theorem nxt_in {T : ByteArray} {j j2 : Nat} (h : nxt T j = some j2) (hj : j < T.size) : j < j2 ∧ j2 ≤ T.size := by
  unfold nxt at h
  split at h
  · cases hq : strQ T j with
    | none => rw [hq] at h; simp at h
    | some q =>
      obtain ⟨l, n⟩ := q
      rw [hq] at h
      simp at h
      have := strQ_ok hq
      omega
  · injection h with h; omega
theorem tail_cases {T : ByteArray} {o j2 k g : Nat} (hj : j2 ≤ T.size) (h : (if o = 0 ∧ stopAt T j2 = true then some j2 else endF T g o j2) = some k) :
    (o ≠ 0 ∧ endF T g o j2 = some k) ∨ (o = 0 ∧ j2 = T.size ∧ j2 = k) ∨ (o = 0 ∧ j2 < T.size ∧ bt T j2 = 44 ∧ j2 = k) ∨ (o = 0 ∧ j2 < T.size ∧ bt T j2 = 93 ∧ j2 = k) ∨ (o = 0 ∧ j2 < T.size ∧ bt T j2 = 125 ∧ j2 = k) ∨ (o = 0 ∧ j2 < T.size ∧ bt T j2 ≠ 44 ∧ bt T j2 ≠ 93 ∧ bt T j2 ≠ 125 ∧ endF T g o j2 = some k) := by
  by_cases ho : o = 0
  · by_cases hs : stopAt T j2 = true
    · rw [if_pos ⟨ho, hs⟩] at h
      injection h with h
      by_cases e : j2 = T.size
      · exact .inr (.inl ⟨ho, e, h⟩)
      · have hl : j2 < T.size := by omega
        unfold stopAt at hs
        simp [e] at hs
        rcases hs with (hs | hs) | hs
        · exact .inr (.inr (.inl ⟨ho, hl, hs, h⟩))
        · exact .inr (.inr (.inr (.inl ⟨ho, hl, hs, h⟩)))
        · exact .inr (.inr (.inr (.inr (.inl ⟨ho, hl, hs, h⟩))))
    · rw [if_neg (fun x => hs x.2)] at h
      unfold stopAt at hs
      simp at hs
      exact .inr (.inr (.inr (.inr (.inr ⟨ho, by omega, hs.1.1.2, hs.1.2, hs.2, h⟩))))
  · rw [if_neg (fun x => ho x.1)] at h
    exact .inl ⟨ho, h⟩

set_option maxRecDepth 100000 in
set_option maxHeartbeats 16000000 in
/-- The model's look for the end of a value. -/
theorem end_walk (T : ByteArray) (i k f : Nat) (w : World) (hT : T.size ≤ 1048576) (h : endF T f 0 i = some k) :
    Calls Tryz.prog 76 #[.string T, .int .i64 (i : Int)] w fun e w' => e = .returned (.int .i64 (k : Int)) ∧ Below w.heap.size w w' := by
  have HST : Hid (∀ (j : Nat) (w : World), j < T.size → Calls Tryz.prog 75 #[.string T, .int .i64 j] w (SPost T w (strQ T j))) := fun j w hj => l1String_walk T j w hT (by omega)
  have hi0 : i < T.size := by
    cases f with
    | zero => simp [endF] at h
    | succ f =>
      rw [endF] at h
      split at h
      · assumption
      · cases h
  have H0 := hide h
  clear h
  go_enter Tryz.func76, Tryz.ntmps76
  go_wp2
  go_loopw [1, 5] (fun iv ov wr => ∃ (j op g : Nat), iv = .int .i64 (j : Int) ∧ ov = .int .i64 (op : Int) ∧ j ≤ T.size ∧ op ≤ j ∧ endF T g op j = some k ∧ Below w.heap.size w wr) (fun iv _ _ => T.size - (intOf iv).toNat)
  case atStart => exact ⟨i, 0, f, rfl, rfl, by omega, by omega, unhide H0, Below.refl _ _⟩
  case round =>
    obtain ⟨j, op, g, rfl, rfl, hj, hop, hg, bw⟩ := hrel
    clear H0
    obtain ⟨g, rfl⟩ : ∃ g', g = g' + 1 := by cases g with
      | zero => simp [endF] at hg
      | succ g => exact ⟨g, rfl⟩
    rw [endF] at hg
    by_cases hl : j < T.size
    · rw [if_pos hl] at hg
      have hltI : (j : Int) < (T.size : Int) := by omega
      have hb := bt_at T j hl
      obtain ⟨n, hn, o, ho, hz⟩ : ∃ j2, nxt T j = some j2 ∧ ∃ o, op1 (bt T j) op = some o ∧ (if o = 0 ∧ stopAt T j2 = true then some j2 else endF T g o j2) = some k := by
        cases hn : nxt T j with
        | none => rw [hn] at hg; simp at hg
        | some j2 =>
          rw [hn] at hg
          simp only [Option.bind_some] at hg
          cases ho : op1 (bt T j) op with
          | none => rw [ho] at hg; simp at hg
          | some o => rw [ho] at hg; exact ⟨j2, rfl, o, rfl, by simpa using hg⟩
      clear hg
      have hnj := nxt_in hn hl
      have hnT := hnj.2
      have hjn := hnj.1
      have hns : bt T j ≠ 34 → j + 1 = n := fun h34 => by unfold nxt at hn; rw [if_neg h34] at hn; injection hn
      have hnq : bt T j = 34 → ∃ l, strQ T j = some (l, n) := fun h34 => by
        unfold nxt at hn
        rw [if_pos h34] at hn
        cases hq : strQ T j with
        | none => rw [hq] at hn; simp at hn
        | some q => rw [hq] at hn; simp at hn; exact ⟨q.1, by rw [← hn]⟩
      have ht := tail_cases hnT hz
      have HB := hide bw
      clear hn hz hnj bw
      by_cases c34 : bt T j = 34
      · obtain ⟨l, hq⟩ := hnq c34
        obtain rfl : op = o := by rw [c34] at ho; injection ho
        have HSJ := hide (unhide HST j wr hl)
        rw [hq] at HSJ
        rw [hb] at c34
        have f34 : ((T[j].toNat : Int) == 34) = true := by rw [beq_iff_eq]; omega
        have f91 : ((T[j].toNat : Int) == 91) = false := by rw [beq_eq_false_iff_ne]; omega
        have f123 : ((T[j].toNat : Int) == 123) = false := by rw [beq_eq_false_iff_ne]; omega
        have f93 : ((T[j].toNat : Int) == 93) = false := by rw [beq_eq_false_iff_ne]; omega
        have f125 : ((T[j].toNat : Int) == 125) = false := by rw [beq_eq_false_iff_ne]; omega
        clear hnq hns hq hb c34 HST ho
        rcases ht with ⟨h1, h2⟩ | ⟨h1, h2, h3⟩ | ⟨h1, h2, h3, h4⟩ | ⟨h1, h2, h3, h4⟩ | ⟨h1, h2, h3, h4⟩ | ⟨h1, h2, h3, h4, h5, h6⟩
        · have tz : ((op : Int) == 0) = false := by rw [beq_eq_false_iff_ne]; omega
          have H2 := hide h2
          clear h1 h2
          go_wp2_with fail
          refine (unhide HSJ).mono ?_
          rintro e w2 ⟨b2, rfl⟩
          have HB2 := hide (below_next (unhide HB) b2)
          clear HSJ b2
          go_wp2
          go_roundw
          case rel => exact ⟨n, op, g, by go_num, by go_num, hnT, by omega, unhide H2, unhide HB2⟩
          case measure => simp [intOf]; omega
        · have tz : ((op : Int) == 0) = true := by rw [beq_iff_eq]; omega
          have te : ((n : Int) == (T.size : Int)) = true := by rw [beq_iff_eq]; omega
          have HK := hide h3
          clear h3
          clear h1 h2
          go_wp2_with fail
          refine (unhide HSJ).mono ?_
          rintro e w2 ⟨b2, rfl⟩
          have HB2 := hide (below_next (unhide HB) b2)
          clear HSJ b2
          go_wp2
          go_ret
          exact ⟨by rw [← unhide HK]; first | rfl | go_num, unhide HB2⟩
        · have tz : ((op : Int) == 0) = true := by rw [beq_iff_eq]; omega
          have te : ((n : Int) == (T.size : Int)) = false := by rw [beq_eq_false_iff_ne]; omega
          have hlN : (n : Int) < (T.size : Int) := by omega
          have hbn := bt_at T n h2
          rw [hbn] at h3
          have g44 : ((T[n].toNat : Int) == 44) = true := by rw [beq_iff_eq]; omega
          have g93 : ((T[n].toNat : Int) == 93) = false := by rw [beq_eq_false_iff_ne]; omega
          have g125 : ((T[n].toNat : Int) == 125) = false := by rw [beq_eq_false_iff_ne]; omega
          clear hbn h3
          have HK := hide h4
          clear h4
          clear h1
          go_wp2_with fail
          refine (unhide HSJ).mono ?_
          rintro e w2 ⟨b2, rfl⟩
          have HB2 := hide (below_next (unhide HB) b2)
          clear HSJ b2
          go_wp2
          go_ret
          exact ⟨by rw [← unhide HK]; first | rfl | go_num, unhide HB2⟩
        · have tz : ((op : Int) == 0) = true := by rw [beq_iff_eq]; omega
          have te : ((n : Int) == (T.size : Int)) = false := by rw [beq_eq_false_iff_ne]; omega
          have hlN : (n : Int) < (T.size : Int) := by omega
          have hbn := bt_at T n h2
          rw [hbn] at h3
          have g44 : ((T[n].toNat : Int) == 44) = false := by rw [beq_eq_false_iff_ne]; omega
          have g93 : ((T[n].toNat : Int) == 93) = true := by rw [beq_iff_eq]; omega
          have g125 : ((T[n].toNat : Int) == 125) = false := by rw [beq_eq_false_iff_ne]; omega
          clear hbn h3
          have HK := hide h4
          clear h4
          clear h1
          go_wp2_with fail
          refine (unhide HSJ).mono ?_
          rintro e w2 ⟨b2, rfl⟩
          have HB2 := hide (below_next (unhide HB) b2)
          clear HSJ b2
          go_wp2
          go_ret
          exact ⟨by rw [← unhide HK]; first | rfl | go_num, unhide HB2⟩
        · have tz : ((op : Int) == 0) = true := by rw [beq_iff_eq]; omega
          have te : ((n : Int) == (T.size : Int)) = false := by rw [beq_eq_false_iff_ne]; omega
          have hlN : (n : Int) < (T.size : Int) := by omega
          have hbn := bt_at T n h2
          rw [hbn] at h3
          have g44 : ((T[n].toNat : Int) == 44) = false := by rw [beq_eq_false_iff_ne]; omega
          have g93 : ((T[n].toNat : Int) == 93) = false := by rw [beq_eq_false_iff_ne]; omega
          have g125 : ((T[n].toNat : Int) == 125) = true := by rw [beq_iff_eq]; omega
          clear hbn h3
          have HK := hide h4
          clear h4
          clear h1
          go_wp2_with fail
          refine (unhide HSJ).mono ?_
          rintro e w2 ⟨b2, rfl⟩
          have HB2 := hide (below_next (unhide HB) b2)
          clear HSJ b2
          go_wp2
          go_ret
          exact ⟨by rw [← unhide HK]; first | rfl | go_num, unhide HB2⟩
        · have tz : ((op : Int) == 0) = true := by rw [beq_iff_eq]; omega
          have te : ((n : Int) == (T.size : Int)) = false := by rw [beq_eq_false_iff_ne]; omega
          have hlN : (n : Int) < (T.size : Int) := by omega
          have hbn := bt_at T n h2
          rw [hbn] at h3 h4 h5
          have g44 : ((T[n].toNat : Int) == 44) = false := by rw [beq_eq_false_iff_ne]; omega
          have g93 : ((T[n].toNat : Int) == 93) = false := by rw [beq_eq_false_iff_ne]; omega
          have g125 : ((T[n].toNat : Int) == 125) = false := by rw [beq_eq_false_iff_ne]; omega
          clear hbn h3 h4 h5
          have H2 := hide h6
          clear h6
          clear h1
          go_wp2_with fail
          refine (unhide HSJ).mono ?_
          rintro e w2 ⟨b2, rfl⟩
          have HB2 := hide (below_next (unhide HB) b2)
          clear HSJ b2
          go_wp2
          go_roundw
          case rel => exact ⟨n, op, g, by go_num, by go_num, hnT, by omega, unhide H2, unhide HB2⟩
          case measure => simp [intOf]; omega
      · have hn1 : (j : Int) + 1 = (n : Int) := by have := hns c34; omega
        have hnx := hns c34
        clear hnq hns
        by_cases c91 : bt T j = 91
        · obtain rfl : op + 1 = o := by rw [c91] at ho; injection ho
          rw [hb] at c91
          have f34 : ((T[j].toNat : Int) == 34) = false := by rw [beq_eq_false_iff_ne]; omega
          have f91 : ((T[j].toNat : Int) == 91) = true := by rw [beq_iff_eq]; omega
          have f123 : ((T[j].toNat : Int) == 123) = false := by rw [beq_eq_false_iff_ne]; omega
          have f93 : ((T[j].toNat : Int) == 93) = false := by rw [beq_eq_false_iff_ne]; omega
          have f125 : ((T[j].toNat : Int) == 125) = false := by rw [beq_eq_false_iff_ne]; omega
          clear hb c91 HST ho c34
          rcases ht with ⟨h1, h2⟩ | ⟨h1, h2, h3⟩ | ⟨h1, h2, h3, h4⟩ | ⟨h1, h2, h3, h4⟩ | ⟨h1, h2, h3, h4⟩ | ⟨h1, h2, h3, h4, h5, h6⟩
          · have tz : (((op : Int) + 1) == 0) = false := by rw [beq_eq_false_iff_ne]; omega
            have H2 := hide h2
            clear h1 h2
            go_wp2
            go_roundw
            case rel => exact ⟨n, op + 1, g, by go_num, by go_num, hnT, by omega, unhide H2, unhide HB⟩
            case measure => simp [intOf]; omega
          · exfalso; omega
          · exfalso; omega
          · exfalso; omega
          · exfalso; omega
          · exfalso; omega
        by_cases c123 : bt T j = 123
        · obtain rfl : op + 1 = o := by rw [c123] at ho; injection ho
          rw [hb] at c123
          have f34 : ((T[j].toNat : Int) == 34) = false := by rw [beq_eq_false_iff_ne]; omega
          have f91 : ((T[j].toNat : Int) == 91) = false := by rw [beq_eq_false_iff_ne]; omega
          have f123 : ((T[j].toNat : Int) == 123) = true := by rw [beq_iff_eq]; omega
          have f93 : ((T[j].toNat : Int) == 93) = false := by rw [beq_eq_false_iff_ne]; omega
          have f125 : ((T[j].toNat : Int) == 125) = false := by rw [beq_eq_false_iff_ne]; omega
          clear hb c123 HST ho c34 c91
          rcases ht with ⟨h1, h2⟩ | ⟨h1, h2, h3⟩ | ⟨h1, h2, h3, h4⟩ | ⟨h1, h2, h3, h4⟩ | ⟨h1, h2, h3, h4⟩ | ⟨h1, h2, h3, h4, h5, h6⟩
          · have tz : (((op : Int) + 1) == 0) = false := by rw [beq_eq_false_iff_ne]; omega
            have H2 := hide h2
            clear h1 h2
            go_wp2
            go_roundw
            case rel => exact ⟨n, op + 1, g, by go_num, by go_num, hnT, by omega, unhide H2, unhide HB⟩
            case measure => simp [intOf]; omega
          · exfalso; omega
          · exfalso; omega
          · exfalso; omega
          · exfalso; omega
          · exfalso; omega
        by_cases c93 : bt T j = 93
        · have hop1 : 1 ≤ op := by rw [c93] at ho; cases op with
            | zero => cases ho
            | succ n => omega
          obtain rfl : op - 1 = o := by rw [c93] at ho; cases op with
            | zero => cases ho
            | succ n => injection ho
          rw [hb] at c93
          have f34 : ((T[j].toNat : Int) == 34) = false := by rw [beq_eq_false_iff_ne]; omega
          have f91 : ((T[j].toNat : Int) == 91) = false := by rw [beq_eq_false_iff_ne]; omega
          have f123 : ((T[j].toNat : Int) == 123) = false := by rw [beq_eq_false_iff_ne]; omega
          have f93 : ((T[j].toNat : Int) == 93) = true := by rw [beq_iff_eq]; omega
          have f125 : ((T[j].toNat : Int) == 125) = false := by rw [beq_eq_false_iff_ne]; omega
          clear hb c93 HST ho c34 c91 c123
          rcases ht with ⟨h1, h2⟩ | ⟨h1, h2, h3⟩ | ⟨h1, h2, h3, h4⟩ | ⟨h1, h2, h3, h4⟩ | ⟨h1, h2, h3, h4⟩ | ⟨h1, h2, h3, h4, h5, h6⟩
          · have tz : (((op : Int) - 1) == 0) = false := by rw [beq_eq_false_iff_ne]; omega
            have H2 := hide h2
            clear h1 h2
            go_wp2
            go_roundw
            case rel => exact ⟨n, op - 1, g, by go_num, by go_num, hnT, by omega, unhide H2, unhide HB⟩
            case measure => simp [intOf]; omega
          · have tz : (((op : Int) - 1) == 0) = true := by rw [beq_iff_eq]; omega
            have te : ((n : Int) == (T.size : Int)) = true := by rw [beq_iff_eq]; omega
            have HK := hide h3
            clear h3
            clear h1 h2
            go_wp2
            go_ret
            exact ⟨by rw [← unhide HK]; first | rfl | go_num, unhide HB⟩
          · have tz : (((op : Int) - 1) == 0) = true := by rw [beq_iff_eq]; omega
            have te : ((n : Int) == (T.size : Int)) = false := by rw [beq_eq_false_iff_ne]; omega
            have hlN : (n : Int) < (T.size : Int) := by omega
            have hbn := bt_at T n h2
            rw [hbn] at h3
            have g44 : ((T[n].toNat : Int) == 44) = true := by rw [beq_iff_eq]; omega
            have g93 : ((T[n].toNat : Int) == 93) = false := by rw [beq_eq_false_iff_ne]; omega
            have g125 : ((T[n].toNat : Int) == 125) = false := by rw [beq_eq_false_iff_ne]; omega
            clear hbn h3
            have HK := hide h4
            clear h4
            clear h1
            go_wp2
            go_ret
            exact ⟨by rw [← unhide HK]; first | rfl | go_num, unhide HB⟩
          · have tz : (((op : Int) - 1) == 0) = true := by rw [beq_iff_eq]; omega
            have te : ((n : Int) == (T.size : Int)) = false := by rw [beq_eq_false_iff_ne]; omega
            have hlN : (n : Int) < (T.size : Int) := by omega
            have hbn := bt_at T n h2
            rw [hbn] at h3
            have g44 : ((T[n].toNat : Int) == 44) = false := by rw [beq_eq_false_iff_ne]; omega
            have g93 : ((T[n].toNat : Int) == 93) = true := by rw [beq_iff_eq]; omega
            have g125 : ((T[n].toNat : Int) == 125) = false := by rw [beq_eq_false_iff_ne]; omega
            clear hbn h3
            have HK := hide h4
            clear h4
            clear h1
            go_wp2
            go_ret
            exact ⟨by rw [← unhide HK]; first | rfl | go_num, unhide HB⟩
          · have tz : (((op : Int) - 1) == 0) = true := by rw [beq_iff_eq]; omega
            have te : ((n : Int) == (T.size : Int)) = false := by rw [beq_eq_false_iff_ne]; omega
            have hlN : (n : Int) < (T.size : Int) := by omega
            have hbn := bt_at T n h2
            rw [hbn] at h3
            have g44 : ((T[n].toNat : Int) == 44) = false := by rw [beq_eq_false_iff_ne]; omega
            have g93 : ((T[n].toNat : Int) == 93) = false := by rw [beq_eq_false_iff_ne]; omega
            have g125 : ((T[n].toNat : Int) == 125) = true := by rw [beq_iff_eq]; omega
            clear hbn h3
            have HK := hide h4
            clear h4
            clear h1
            go_wp2
            go_ret
            exact ⟨by rw [← unhide HK]; first | rfl | go_num, unhide HB⟩
          · have tz : (((op : Int) - 1) == 0) = true := by rw [beq_iff_eq]; omega
            have te : ((n : Int) == (T.size : Int)) = false := by rw [beq_eq_false_iff_ne]; omega
            have hlN : (n : Int) < (T.size : Int) := by omega
            have hbn := bt_at T n h2
            rw [hbn] at h3 h4 h5
            have g44 : ((T[n].toNat : Int) == 44) = false := by rw [beq_eq_false_iff_ne]; omega
            have g93 : ((T[n].toNat : Int) == 93) = false := by rw [beq_eq_false_iff_ne]; omega
            have g125 : ((T[n].toNat : Int) == 125) = false := by rw [beq_eq_false_iff_ne]; omega
            clear hbn h3 h4 h5
            have H2 := hide h6
            clear h6
            clear h1
            go_wp2
            go_roundw
            case rel => exact ⟨n, op - 1, g, by go_num, by go_num, hnT, by omega, unhide H2, unhide HB⟩
            case measure => simp [intOf]; omega
        by_cases c125 : bt T j = 125
        · have hop1 : 1 ≤ op := by rw [c125] at ho; cases op with
            | zero => cases ho
            | succ n => omega
          obtain rfl : op - 1 = o := by rw [c125] at ho; cases op with
            | zero => cases ho
            | succ n => injection ho
          rw [hb] at c125
          have f34 : ((T[j].toNat : Int) == 34) = false := by rw [beq_eq_false_iff_ne]; omega
          have f91 : ((T[j].toNat : Int) == 91) = false := by rw [beq_eq_false_iff_ne]; omega
          have f123 : ((T[j].toNat : Int) == 123) = false := by rw [beq_eq_false_iff_ne]; omega
          have f93 : ((T[j].toNat : Int) == 93) = false := by rw [beq_eq_false_iff_ne]; omega
          have f125 : ((T[j].toNat : Int) == 125) = true := by rw [beq_iff_eq]; omega
          clear hb c125 HST ho c34 c91 c123 c93
          rcases ht with ⟨h1, h2⟩ | ⟨h1, h2, h3⟩ | ⟨h1, h2, h3, h4⟩ | ⟨h1, h2, h3, h4⟩ | ⟨h1, h2, h3, h4⟩ | ⟨h1, h2, h3, h4, h5, h6⟩
          · have tz : (((op : Int) - 1) == 0) = false := by rw [beq_eq_false_iff_ne]; omega
            have H2 := hide h2
            clear h1 h2
            go_wp2
            go_roundw
            case rel => exact ⟨n, op - 1, g, by go_num, by go_num, hnT, by omega, unhide H2, unhide HB⟩
            case measure => simp [intOf]; omega
          · have tz : (((op : Int) - 1) == 0) = true := by rw [beq_iff_eq]; omega
            have te : ((n : Int) == (T.size : Int)) = true := by rw [beq_iff_eq]; omega
            have HK := hide h3
            clear h3
            clear h1 h2
            go_wp2
            go_ret
            exact ⟨by rw [← unhide HK]; first | rfl | go_num, unhide HB⟩
          · have tz : (((op : Int) - 1) == 0) = true := by rw [beq_iff_eq]; omega
            have te : ((n : Int) == (T.size : Int)) = false := by rw [beq_eq_false_iff_ne]; omega
            have hlN : (n : Int) < (T.size : Int) := by omega
            have hbn := bt_at T n h2
            rw [hbn] at h3
            have g44 : ((T[n].toNat : Int) == 44) = true := by rw [beq_iff_eq]; omega
            have g93 : ((T[n].toNat : Int) == 93) = false := by rw [beq_eq_false_iff_ne]; omega
            have g125 : ((T[n].toNat : Int) == 125) = false := by rw [beq_eq_false_iff_ne]; omega
            clear hbn h3
            have HK := hide h4
            clear h4
            clear h1
            go_wp2
            go_ret
            exact ⟨by rw [← unhide HK]; first | rfl | go_num, unhide HB⟩
          · have tz : (((op : Int) - 1) == 0) = true := by rw [beq_iff_eq]; omega
            have te : ((n : Int) == (T.size : Int)) = false := by rw [beq_eq_false_iff_ne]; omega
            have hlN : (n : Int) < (T.size : Int) := by omega
            have hbn := bt_at T n h2
            rw [hbn] at h3
            have g44 : ((T[n].toNat : Int) == 44) = false := by rw [beq_eq_false_iff_ne]; omega
            have g93 : ((T[n].toNat : Int) == 93) = true := by rw [beq_iff_eq]; omega
            have g125 : ((T[n].toNat : Int) == 125) = false := by rw [beq_eq_false_iff_ne]; omega
            clear hbn h3
            have HK := hide h4
            clear h4
            clear h1
            go_wp2
            go_ret
            exact ⟨by rw [← unhide HK]; first | rfl | go_num, unhide HB⟩
          · have tz : (((op : Int) - 1) == 0) = true := by rw [beq_iff_eq]; omega
            have te : ((n : Int) == (T.size : Int)) = false := by rw [beq_eq_false_iff_ne]; omega
            have hlN : (n : Int) < (T.size : Int) := by omega
            have hbn := bt_at T n h2
            rw [hbn] at h3
            have g44 : ((T[n].toNat : Int) == 44) = false := by rw [beq_eq_false_iff_ne]; omega
            have g93 : ((T[n].toNat : Int) == 93) = false := by rw [beq_eq_false_iff_ne]; omega
            have g125 : ((T[n].toNat : Int) == 125) = true := by rw [beq_iff_eq]; omega
            clear hbn h3
            have HK := hide h4
            clear h4
            clear h1
            go_wp2
            go_ret
            exact ⟨by rw [← unhide HK]; first | rfl | go_num, unhide HB⟩
          · have tz : (((op : Int) - 1) == 0) = true := by rw [beq_iff_eq]; omega
            have te : ((n : Int) == (T.size : Int)) = false := by rw [beq_eq_false_iff_ne]; omega
            have hlN : (n : Int) < (T.size : Int) := by omega
            have hbn := bt_at T n h2
            rw [hbn] at h3 h4 h5
            have g44 : ((T[n].toNat : Int) == 44) = false := by rw [beq_eq_false_iff_ne]; omega
            have g93 : ((T[n].toNat : Int) == 93) = false := by rw [beq_eq_false_iff_ne]; omega
            have g125 : ((T[n].toNat : Int) == 125) = false := by rw [beq_eq_false_iff_ne]; omega
            clear hbn h3 h4 h5
            have H2 := hide h6
            clear h6
            clear h1
            go_wp2
            go_roundw
            case rel => exact ⟨n, op - 1, g, by go_num, by go_num, hnT, by omega, unhide H2, unhide HB⟩
            case measure => simp [intOf]; omega
        obtain rfl : op = o := by
          unfold op1 isOp isCl at ho
          simp [c91, c123, c93, c125] at ho
          exact ho
        rw [hb] at c34 c91 c123 c93 c125
        have f34 : ((T[j].toNat : Int) == 34) = false := by rw [beq_eq_false_iff_ne]; omega
        have f91 : ((T[j].toNat : Int) == 91) = false := by rw [beq_eq_false_iff_ne]; omega
        have f123 : ((T[j].toNat : Int) == 123) = false := by rw [beq_eq_false_iff_ne]; omega
        have f93 : ((T[j].toNat : Int) == 93) = false := by rw [beq_eq_false_iff_ne]; omega
        have f125 : ((T[j].toNat : Int) == 125) = false := by rw [beq_eq_false_iff_ne]; omega
        clear hb c34 c91 c123 c93 c125 HST ho
        rcases ht with ⟨h1, h2⟩ | ⟨h1, h2, h3⟩ | ⟨h1, h2, h3, h4⟩ | ⟨h1, h2, h3, h4⟩ | ⟨h1, h2, h3, h4⟩ | ⟨h1, h2, h3, h4, h5, h6⟩
        · have tz : ((op : Int) == 0) = false := by rw [beq_eq_false_iff_ne]; omega
          have H2 := hide h2
          clear h1 h2
          go_wp2
          go_roundw
          case rel => exact ⟨n, op, g, by go_num, by go_num, hnT, by omega, unhide H2, unhide HB⟩
          case measure => simp [intOf]; omega
        · have tz : ((op : Int) == 0) = true := by rw [beq_iff_eq]; omega
          have te : ((n : Int) == (T.size : Int)) = true := by rw [beq_iff_eq]; omega
          have HK := hide h3
          clear h3
          clear h1 h2
          go_wp2
          go_ret
          exact ⟨by rw [← unhide HK]; first | rfl | go_num, unhide HB⟩
        · have tz : ((op : Int) == 0) = true := by rw [beq_iff_eq]; omega
          have te : ((n : Int) == (T.size : Int)) = false := by rw [beq_eq_false_iff_ne]; omega
          have hlN : (n : Int) < (T.size : Int) := by omega
          have hbn := bt_at T n h2
          rw [hbn] at h3
          have g44 : ((T[n].toNat : Int) == 44) = true := by rw [beq_iff_eq]; omega
          have g93 : ((T[n].toNat : Int) == 93) = false := by rw [beq_eq_false_iff_ne]; omega
          have g125 : ((T[n].toNat : Int) == 125) = false := by rw [beq_eq_false_iff_ne]; omega
          clear hbn h3
          have HK := hide h4
          clear h4
          clear h1
          go_wp2
          go_ret
          exact ⟨by rw [← unhide HK]; first | rfl | go_num, unhide HB⟩
        · have tz : ((op : Int) == 0) = true := by rw [beq_iff_eq]; omega
          have te : ((n : Int) == (T.size : Int)) = false := by rw [beq_eq_false_iff_ne]; omega
          have hlN : (n : Int) < (T.size : Int) := by omega
          have hbn := bt_at T n h2
          rw [hbn] at h3
          have g44 : ((T[n].toNat : Int) == 44) = false := by rw [beq_eq_false_iff_ne]; omega
          have g93 : ((T[n].toNat : Int) == 93) = true := by rw [beq_iff_eq]; omega
          have g125 : ((T[n].toNat : Int) == 125) = false := by rw [beq_eq_false_iff_ne]; omega
          clear hbn h3
          have HK := hide h4
          clear h4
          clear h1
          go_wp2
          go_ret
          exact ⟨by rw [← unhide HK]; first | rfl | go_num, unhide HB⟩
        · have tz : ((op : Int) == 0) = true := by rw [beq_iff_eq]; omega
          have te : ((n : Int) == (T.size : Int)) = false := by rw [beq_eq_false_iff_ne]; omega
          have hlN : (n : Int) < (T.size : Int) := by omega
          have hbn := bt_at T n h2
          rw [hbn] at h3
          have g44 : ((T[n].toNat : Int) == 44) = false := by rw [beq_eq_false_iff_ne]; omega
          have g93 : ((T[n].toNat : Int) == 93) = false := by rw [beq_eq_false_iff_ne]; omega
          have g125 : ((T[n].toNat : Int) == 125) = true := by rw [beq_iff_eq]; omega
          clear hbn h3
          have HK := hide h4
          clear h4
          clear h1
          go_wp2
          go_ret
          exact ⟨by rw [← unhide HK]; first | rfl | go_num, unhide HB⟩
        · have tz : ((op : Int) == 0) = true := by rw [beq_iff_eq]; omega
          have te : ((n : Int) == (T.size : Int)) = false := by rw [beq_eq_false_iff_ne]; omega
          have hlN : (n : Int) < (T.size : Int) := by omega
          have hbn := bt_at T n h2
          rw [hbn] at h3 h4 h5
          have g44 : ((T[n].toNat : Int) == 44) = false := by rw [beq_eq_false_iff_ne]; omega
          have g93 : ((T[n].toNat : Int) == 93) = false := by rw [beq_eq_false_iff_ne]; omega
          have g125 : ((T[n].toNat : Int) == 125) = false := by rw [beq_eq_false_iff_ne]; omega
          clear hbn h3 h4 h5
          have H2 := hide h6
          clear h6
          clear h1
          go_wp2
          go_roundw
          case rel => exact ⟨n, op, g, by go_num, by go_num, hnT, by omega, unhide H2, unhide HB⟩
          case measure => simp [intOf]; omega
    · rw [if_neg hl] at hg; cases hg
end Go.Proofs.YtocnekbedcnmgaaGreatDoor


namespace Go.Proofs.YtocnekbedcnmgaaGreatDoor
open Go.RowKit

/-- A value takes as many bytes as it has values, or more. -/
theorem p_cnt (s : ByteArray) : ∀ f i, (∀ v j, pv s f i = some (v, j) → cntV v + i ≤ j) ∧ (∀ l j, pa s f i = some (l, j) → cntL l + i ≤ j) ∧ (∀ m j, po s f i = some (m, j) → cntM m + i ≤ j)
  | 0, i => ⟨fun v j h => by simp [pv] at h, fun v j h => by simp [pa] at h, fun v j h => by simp [po] at h⟩
  | f + 1, i => by
    refine ⟨fun v j h => ?_, fun l j h => ?_, fun m j h => ?_⟩
    · rw [pv] at h
      have g := sk_ge s (i + 1)
      split at h
      · split at h
        · have := bt_in (s := s) (i := sk s (i + 1)) (by omega)
          injection h with h; injection h with hv h; subst hv; (try simp only [cntV]); (try simp only [cntL]); (try simp only [cntM]); omega
        · simp only [Option.map_eq_some_iff] at h
          obtain ⟨⟨l, k⟩, hk, h⟩ := h
          injection h with hv h
          have := (p_cnt s f (sk s (i + 1))).2.1 l k hk
          subst hv; simp only at h; (try simp only [cntV]); (try simp only [cntL]); (try simp only [cntM]); omega
      · split at h
        · split at h
          · have := bt_in (s := s) (i := sk s (i + 1)) (by omega)
            injection h with h; injection h with hv h; subst hv; (try simp only [cntV]); (try simp only [cntL]); (try simp only [cntM]); omega
          · simp only [Option.map_eq_some_iff] at h
            obtain ⟨⟨l, k⟩, hk, h⟩ := h
            injection h with hv h
            have := (p_cnt s f (sk s (i + 1))).2.2 l k hk
            subst hv; simp only at h; (try simp only [cntV]); (try simp only [cntL]); (try simp only [cntM]); omega
        · split at h
          · simp only [Option.map_eq_some_iff] at h
            obtain ⟨⟨l, k⟩, hk, h⟩ := h
            injection h with hv h
            have := strQ_ok hk
            subst hv; simp only at h; (try simp only [cntV]); (try simp only [cntL]); (try simp only [cntM]); omega
          · split at h
            · rename_i hw
              have := wNull_in hw
              injection h with h; injection h with hv h; subst hv; (try simp only [cntV]); (try simp only [cntL]); (try simp only [cntM]); omega
            · split at h
              · rename_i hw
                have := wTrue_in hw
                injection h with h; injection h with hv h; subst hv; (try simp only [cntV]); (try simp only [cntL]); (try simp only [cntM]); omega
              · split at h
                · rename_i hw
                  have := wFalse_in hw
                  injection h with h; injection h with hv h; subst hv; (try simp only [cntV]); (try simp only [cntL]); (try simp only [cntM]); omega
                · simp only [Option.map_eq_some_iff] at h
                  obtain ⟨⟨l, k⟩, hk, h⟩ := h
                  injection h with hv h
                  have := nm_ok hk
                  subst hv; simp only at h; (try simp only [cntV]); (try simp only [cntL]); (try simp only [cntM]); omega
    · rw [pa] at h
      simp only [Option.bind_eq_some_iff] at h
      obtain ⟨⟨v, k⟩, hk, h⟩ := h
      have h1 := (p_cnt s f i).1 v k hk
      have g1 := sk_ge s k
      simp only at h
      split at h
      · have := bt_in (s := s) (i := sk s k) (by omega)
        injection h with h; injection h with hv h; subst hv; (try simp only [cntV]); (try simp only [cntL]); (try simp only [cntM]); omega
      · split at h
        · simp only [Option.map_eq_some_iff] at h
          obtain ⟨⟨l, n⟩, hn, h⟩ := h
          injection h with hv h
          have := (p_cnt s f _).2.1 l n hn
          have g2 := sk_ge s (sk s k + 1)
          subst hv; simp only at h; (try simp only [cntL]); (try simp only [cntM]); omega
        · cases h
    · rw [po] at h
      simp only [Option.bind_eq_some_iff] at h
      obtain ⟨⟨key, a⟩, ha, h⟩ := h
      have h0 := strQ_ok ha
      simp only at h
      split at h
      · simp only [Option.bind_eq_some_iff] at h
        obtain ⟨⟨v, k⟩, hk, h⟩ := h
        have h1 := (p_cnt s f _).1 v k hk
        have g0 := sk_ge s a
        have g3 := sk_ge s (sk s a + 1)
        have g1 := sk_ge s k
        simp only at h
        split at h
        · have := bt_in (s := s) (i := sk s k) (by omega)
          injection h with h; injection h with hv h; subst hv; (try simp only [cntV]); (try simp only [cntL]); (try simp only [cntM]); omega
        · split at h
          · simp only [Option.map_eq_some_iff] at h
            obtain ⟨⟨l, n⟩, hn, h⟩ := h
            injection h with hv h
            have := (p_cnt s f _).2.2 l n hn
            have g2 := sk_ge s (sk s k + 1)
            subst hv; simp only at h; (try simp only [cntM]); omega
          · cases h
      · cases h

theorem val_cnt {s : ByteArray} {i j : Nat} {v : JV} (h : val s i = some (v, j)) : cntV v + i ≤ j := (p_cnt s _ i).1 v j h
end Go.Proofs.YtocnekbedcnmgaaGreatDoor


namespace Go.Proofs.YtocnekbedcnmgaaGreatDoor
open Go.RowKit

/-- The one value of a text. -/
def docR (s : ByteArray) : Option JV := (val s (sk s 0)).bind fun q => if sk s q.2 = s.size then some q.1 else none
/-- What readText finds: a code, or a value. -/
def readR (s : ByteArray) : Sum Nat JV :=
  if 20000 < s.size then .inl 1 else
  match docR s with
  | none => .inl 2
  | some v => if bigV v then .inl 3 else if twV v then .inl 4 else if 100 < depV v ∨ 3000 < cntV v then .inl 5 else .inr v
theorem doc_facts {s : ByteArray} {v : JV} (h : docR s = some v) : okV v ∧ cntV v ≤ s.size ∧ (ct v).length ≤ 30 * s.size := by
  unfold docR at h
  cases hv : val s (sk s 0) with
  | none => rw [hv] at h; simp at h
  | some q =>
    obtain ⟨u, j⟩ := q
    have e : u = v := by
      rw [hv] at h
      simp only [Option.bind_some] at h
      split at h
      · injection h
      · cases h
    subst e
    have h1 := val_cnt hv
    have h2 := val_len hv
    have h3 := val_ok hv
    exact ⟨val_okV hv, by omega, by omega⟩

/-- The answers of Canon and Measure. -/
def canonV (s : ByteArray) : Value := match readR s with
  | .inl c => .tuple #[.string ⟨#[]⟩, .int .i64 (c : Int)]
  | .inr v => .tuple #[.string (strOf (ct v)), .int .i64 0]
theorem read_facts {s : ByteArray} {v : JV} (h : readR s = .inr v) : s.size ≤ 20000 ∧ docR s = some v ∧ twV v = false ∧ bigV v = false ∧ depV v ≤ 100 ∧ cntV v ≤ 3000 := by
  unfold readR at h
  split at h
  · cases h
  · rename_i hs
    cases hd : docR s with
    | none => rw [hd] at h; simp at h
    | some u =>
      rw [hd] at h
      simp only at h
      split at h
      · cases h
      · rename_i hb
        split at h
        · cases h
        · rename_i ht
          split at h
          · cases h
          · rename_i hg
            injection h with h
            subst h
            exact ⟨by omega, rfl, by simpa using ht, by simpa using hb, by omega, by omega⟩
theorem read_code {s : ByteArray} {c : Nat} (h : readR s = .inl c) : 1 ≤ c ∧ c ≤ 5 := by
  unfold readR at h
  split at h
  · injection h with h; omega
  · split at h
    · injection h with h; omega
    · split at h
      · injection h with h; omega
      · split at h
        · injection h with h; omega
        · split at h
          · injection h with h; omega
          · cases h
end Go.Proofs.YtocnekbedcnmgaaGreatDoor


namespace Go.Proofs.YtocnekbedcnmgaaGreatDoor
open Go.RowKit Go.Lib

def dV (c : UInt8) : Nat := c.toNat - 48
/-- What digits spell, behind a number. -/
def foldV (a : Nat) (d : List UInt8) : Nat := d.foldl (fun a c => a * 10 + dV c) a
def Dg (d : List UInt8) : Prop := ∀ c ∈ d, 48 ≤ c.toNat ∧ c.toNat ≤ 57
/-- Digits without a zero ahead. -/
def Num (d : List UInt8) : Prop := Dg d ∧ d ≠ [] ∧ (d = [48] ∨ ∀ c r, d = c :: r → 49 ≤ c.toNat)
theorem Dg.tail {c : UInt8} {d : List UInt8} (h : Dg (c :: d)) : Dg d := fun x hx => h x (List.mem_cons_of_mem _ hx)
theorem Dg.head {c : UInt8} {d : List UInt8} (h : Dg (c :: d)) : 48 ≤ c.toNat ∧ c.toNat ≤ 57 := h c List.mem_cons_self
theorem foldV_cons (a : Nat) (c : UInt8) (d : List UInt8) : foldV a (c :: d) = foldV (a * 10 + dV c) d := by unfold foldV; rw [List.foldl_cons]
theorem foldV_snoc (a : Nat) (d : List UInt8) (c : UInt8) : foldV a (d ++ [c]) = foldV a d * 10 + dV c := by unfold foldV; rw [List.foldl_append]; rfl
theorem foldV_ge (d : List UInt8) : ∀ a, a ≤ foldV a d := by
  induction d with
  | nil => intro a; exact Nat.le_refl _
  | cons c d ih => intro a; rw [foldV_cons]; have := ih (a * 10 + dV c); omega
theorem foldV_lin (d : List UInt8) : ∀ a, foldV a d = a * 10 ^ d.length + foldV 0 d := by
  induction d with
  | nil => intro a; simp [foldV]
  | cons c d ih =>
    intro a
    rw [foldV_cons, foldV_cons, ih (a * 10 + dV c), ih (0 * 10 + dV c), List.length_cons, Nat.pow_succ]
    rw [Nat.add_mul, Nat.zero_mul, Nat.zero_add, Nat.mul_assoc, Nat.mul_comm 10, Nat.add_assoc]
theorem foldV_lt (d : List UInt8) (h : Dg d) : foldV 0 d < 10 ^ d.length := by
  induction d with
  | nil => simp [foldV]
  | cons c d ih =>
    rw [foldV_cons, foldV_lin, List.length_cons, Nat.pow_succ]
    have h1 := ih h.tail
    have h2 := h.head
    have h3 : dV c ≤ 9 := by unfold dV; omega
    have h4 : (0 * 10 + dV c) * 10 ^ d.length ≤ 9 * 10 ^ d.length := Nat.mul_le_mul_right _ (by omega)
    omega
theorem foldV_low {c : UInt8} {d : List UInt8} (hc : 49 ≤ c.toNat) : 10 ^ d.length ≤ foldV 0 (c :: d) := by
  rw [foldV_cons, foldV_lin]
  have : 1 * 10 ^ d.length ≤ (0 * 10 + dV c) * 10 ^ d.length := Nat.mul_le_mul_right _ (by unfold dV; omega)
  omega

theorem parse_fold (d : List UInt8) (h : Dg d) : ∀ a, a ≤ 18446744073709551615 → parseUintM 18446744073709551615 a d = if foldV a d ≤ 18446744073709551615 then .ok (foldV a d) else .range := by
  induction d with
  | nil => intro a ha; rw [parseUintM]; rw [if_pos (by exact ha)]; rfl
  | cons c d ih =>
    intro a ha
    rw [parseUintM, if_pos h.head, foldV_cons]
    have hg := foldV_ge d (a * 10 + dV c)
    have e : a * 10 + (c.toNat - 48) = a * 10 + dV c := rfl
    by_cases h1 : 1844674407370955162 ≤ a
    · rw [if_pos h1, if_neg (by omega)]
    · rw [if_neg h1, e]
      by_cases h2 : 18446744073709551615 < a * 10 + dV c
      · rw [if_pos h2, if_neg (by omega)]
      · rw [if_neg h2]
        exact ih h.tail _ (by omega)

theorem less_fold : ∀ (a b : List UInt8), Dg a → Dg b → a.length = b.length → (Op.bytesLess a b = decide (foldV 0 a < foldV 0 b)) ∧ ((a == b) = decide (foldV 0 a = foldV 0 b))
  | [], [], _, _, _ => by simp [Op.bytesLess, foldV]
  | [], _ :: _, _, _, h => by simp at h
  | _ :: _, [], _, _, h => by simp at h
  | c :: a, x :: b, ha, hb, h => by
    have hl : a.length = b.length := by simpa using h
    obtain ⟨i1, i2⟩ := less_fold a b ha.tail hb.tail hl
    have a1 := foldV_lt a ha.tail
    have b1 := foldV_lt b hb.tail
    have hc := ha.head
    have hx := hb.head
    rw [foldV_cons, foldV_cons, foldV_lin a, foldV_lin b, hl]
    rw [hl] at a1
    have ec : 0 * 10 + dV c = dV c := by omega
    have ex : 0 * 10 + dV x = dV x := by omega
    rw [ec, ex]
    generalize foldV 0 a = A at *
    generalize foldV 0 b = B at *
    generalize 10 ^ b.length = P at *
    have hcx : c < x ↔ dV c < dV x := by rw [UInt8.lt_iff_toNat_lt]; unfold dV; omega
    have hce : c = x ↔ dV c = dV x := by rw [← UInt8.toNat_inj]; unfold dV; omega
    rw [Op.bytesLess]
    by_cases g1 : dV c < dV x
    · have : (dV c + 1) * P ≤ dV x * P := Nat.mul_le_mul_right _ g1
      rw [Nat.add_mul, Nat.one_mul] at this
      refine ⟨?_, ?_⟩
      · rw [decide_eq_true (hcx.2 g1), Bool.true_or, decide_eq_true (by omega)]
      · rw [decide_eq_false (by omega), beq_eq_false_iff_ne]
        intro e; injection e with e1 e2; have := hce.1 e1; omega
    · by_cases g2 : dV c = dV x
      · have hcq : (c == x) = true := by rw [beq_iff_eq]; exact hce.2 g2
        rw [decide_eq_false (fun hh => g1 (hcx.1 hh)), Bool.false_or, hcq, Bool.true_and, i1, g2]
        refine ⟨?_, ?_⟩
        · apply decide_eq_decide.2; omega
        · rw [hce.2 g2]
          rw [show ((x :: a) == (x :: b)) = (a == b) from by simp, i2]
          apply decide_eq_decide.2; omega
      · have : (dV x + 1) * P ≤ dV c * P := Nat.mul_le_mul_right _ (by omega)
        rw [Nat.add_mul, Nat.one_mul] at this
        have hcq : (c == x) = false := by rw [beq_eq_false_iff_ne]; exact fun e => g2 (hce.1 e)
        refine ⟨?_, ?_⟩
        · rw [decide_eq_false (fun hh => g1 (hcx.1 hh)), Bool.false_or, hcq, Bool.false_and, decide_eq_false (by omega)]
        · rw [decide_eq_false (by omega), beq_eq_false_iff_ne]
          intro e; injection e with e1 e2; exact g2 (hce.1 e1)

theorem Num.bounds {d : List UInt8} (h : Num d) : (d.length ≤ 18 → foldV 0 d < 1000000000000000000) ∧ (20 ≤ d.length → 10000000000000000000 ≤ foldV 0 d) := by
  obtain ⟨h1, h2, h3⟩ := h
  refine ⟨fun hl => ?_, fun hl => ?_⟩
  · have := foldV_lt d h1
    have h4 : 10 ^ d.length ≤ 10 ^ 18 := Nat.pow_le_pow_right (by decide) hl
    have h5 : (10 : Nat) ^ 18 = 1000000000000000000 := by decide
    omega
  · rcases h3 with rfl | h3
    · simp at hl
    · cases d with
      | nil => simp at hl
      | cons c r =>
        have := foldV_low (d := r) (h3 c r rfl)
        have h4 : 10 ^ 19 ≤ 10 ^ r.length := Nat.pow_le_pow_right (by decide) (by simp at hl; omega)
        have h5 : (10 : Nat) ^ 19 = 10000000000000000000 := by decide
        omega
theorem over_lim {d lim : List UInt8} {m : Nat} (h : Num d) (hl : Dg lim) (h19 : lim.length = 19) (hm : foldV 0 lim = m) (h1 : 1000000000000000000 ≤ m) (h2 : m < 10000000000000000000) : over d lim = decide (m < foldV 0 d) := by
  unfold over
  have hb := h.bounds
  by_cases hd : d.length = 19
  · rw [if_neg (by omega)]
    obtain ⟨i1, i2⟩ := less_fold d lim h.1 hl (by omega)
    rw [i1, i2, hm]
    by_cases g : m < foldV 0 d
    · rw [decide_eq_true g, decide_eq_false (by omega), decide_eq_false (by omega)]; rfl
    · rw [decide_eq_false g]
      by_cases g2 : foldV 0 d = m
      · rw [decide_eq_true g2]; simp
      · rw [decide_eq_true (show foldV 0 d < m by omega)]; rfl
  · rw [if_pos hd]
    apply decide_eq_decide.2
    constructor
    · intro g; have := hb.2 (by omega); omega
    · intro g
      rcases Nat.lt_or_ge d.length 19 with g2 | g2
      · have := hb.1 (by omega); omega
      · omega
theorem over_0 {d : List UInt8} (h : Num d) : over d lim0 = decide (9223372036854775807 < foldV 0 d) := over_lim h (by unfold Dg lim0; decide) rfl (by decide) (by decide) (by decide)
theorem over_1 {d : List UInt8} (h : Num d) : over d lim1 = decide (9223372036854775808 < foldV 0 d) := over_lim h (by unfold Dg lim1; decide) rfl (by decide) (by decide) (by decide)

theorem u8_dig {c : UInt8} (h : 48 ≤ c.toNat ∧ c.toNat ≤ 57) : UInt8.ofNat (48 + dV c) = c := by
  apply UInt8.toNat_inj.1
  rw [UInt8.toNat_ofNat']; unfold dV; omega
theorem dec_fold (n : Nat) : ∀ d : List UInt8, d.length = n → Num d → decDigits (foldV 0 d) = d := by
  induction n with
  | zero => intro d hn h; exact absurd (List.eq_nil_of_length_eq_zero hn) h.2.1
  | succ n ih =>
    intro d hn h
    obtain ⟨h1, h2, h3⟩ := h
    rcases List.eq_nil_or_concat d with e | ⟨d', c, e⟩
    · exact absurd e h2
    · rw [List.concat_eq_append] at e
      subst e
      have hc : 48 ≤ c.toNat ∧ c.toNat ≤ 57 := h1 c (by simp)
      have hv : dV c ≤ 9 := by unfold dV; omega
      rw [foldV_snoc]
      cases d' with
      | nil =>
        show decDigits (0 * 10 + dV c) = [c]
        rw [decDigits_one (by omega), show 48 + (0 * 10 + dV c) = 48 + dV c by omega, u8_dig hc]
      | cons x r =>
        have hx : 49 ≤ x.toNat := by
          rcases h3 with h3 | h3
          · simp at h3
          · exact h3 x (r ++ [c]) rfl
        have hlow := foldV_low (d := r) hx
        have hp : 0 < 10 ^ r.length := Nat.pow_pos (by decide)
        have hN : Num (x :: r) := ⟨fun y hy => h1 y (by simp at hy ⊢; rcases hy with hy | hy <;> simp [hy]), by simp, .inr (fun a b e => by injection e with e1 e2; subst e1; exact hx)⟩
        have := ih (x :: r) (by simp at hn ⊢; omega) hN
        rw [decDigits, dif_neg (by omega), show (foldV 0 (x :: r) * 10 + dV c) / 10 = foldV 0 (x :: r) by omega, show (foldV 0 (x :: r) * 10 + dV c) % 10 = dV c by omega, this, u8_dig hc]
end Go.Proofs.YtocnekbedcnmgaaGreatDoor


namespace Go.Proofs.YtocnekbedcnmgaaGreatDoor
open Go.RowKit Go.Lib

theorem cutB_cons {s : ByteArray} {i j : Nat} (hi : i < s.size) (hj : i < j) : cutB s i j = s[i] :: cutB s (i + 1) j := by
  unfold cutB
  rw [drop_at s i hi, show j - i = (j - (i + 1)) + 1 by omega, List.take_succ_cons]
theorem cutB_nil (s : ByteArray) (i : Nat) : cutB s i i = [] := by unfold cutB; simp
theorem cut_dg (s : ByteArray) : ∀ n i, s.size - i ≤ n → Dg (cutB s i (dg s i))
  | n, i, hn => by
    by_cases h : isDg (bt s i) = true
    · have hi : i < s.size := bt_in (by have := isDg_iff.1 h; omega)
      cases n with
      | zero => omega
      | succ n =>
        have h2 := dg_le (s := s) (i := i + 1) (by omega)
        rw [dg_on h, cutB_cons hi (by omega)]
        intro c hc
        rcases List.mem_cons.1 hc with rfl | hc
        · rw [bt_at s i hi] at h; exact isDg_iff.1 h
        · exact cut_dg s n (i + 1) (by omega) c hc
    · rw [dg_off h, cutB_nil]; intro c hc; cases hc
/-- The digits of a number. -/
theorem nm_digits {s : ByteArray} {i j : Nat} {l : List UInt8} (h : nm s i = some (l, j)) : j = nmE s i ∧ Num (cutB s (nmD s i) j) ∧ cutB s i j = (if bt s i = 45 then 45 :: cutB s (nmD s i) j else cutB s (nmD s i) j) ∧ l = norm0 (cutB s i j) := by
  have hk := nm_ok h
  unfold nm at h
  split at h
  · rename_i hd
    injection h with h; injection h with h1 h2
    have hdI := isDg_iff.1 hd
    have hlt : nmD s i < s.size := bt_in (by omega)
    have hbt := bt_at s (nmD s i) hlt
    subst h2
    refine ⟨rfl, ?_, ?_, h1.symm⟩
    · unfold nmE
      split
      · rename_i h48
        rw [cutB_cons hlt (by omega), cutB_nil]
        have e : s[nmD s i] = 48 := UInt8.toNat_inj.1 (by show _ = 48; omega)
        rw [e]
        exact ⟨by unfold Dg; decide, by simp, .inl rfl⟩
      · rename_i h48
        have h3 := dg_le (s := s) (i := nmD s i + 1) (by omega)
        refine ⟨cut_dg s _ _ (Nat.le_refl _), ?_, .inr ?_⟩
        · rw [dg_on hd, cutB_cons hlt (by omega)]; simp
        · intro c r e
          rw [dg_on hd, cutB_cons hlt (by omega)] at e
          injection e with e1 e2
          subst e1; omega
    · by_cases h45 : bt s i = 45
      · have hi : i < s.size := bt_in (by omega)
        have e : s[i] = 45 := UInt8.toNat_inj.1 (by show _ = 45; rw [← bt_at s i hi]; exact h45)
        have hD : nmD s i = i + 1 := by unfold nmD; rw [if_pos h45]
        rw [if_pos h45, cutB_cons hi (by omega), e, hD]
      · have hD : nmD s i = i := by unfold nmD; rw [if_neg h45]
        rw [if_neg h45, hD]
  · cases h
theorem norm0_num {d : List UInt8} (h : Num d) : norm0 d = d := by
  unfold norm0
  rw [if_neg]
  intro e
  have := h.1 45 (by rw [e]; simp)
  exact absurd this.1 (by decide)
theorem parse_num {d : List UInt8} (h : Num d) : parseUintB 64 d = if foldV 0 d ≤ 18446744073709551615 then .ok (foldV 0 d) else .range := by
  unfold parseUintB
  rw [if_neg h.2.1]
  exact parse_fold d h.1 0 (by decide)
theorem nm_parse {s : ByteArray} {i j : Nat} {l : List UInt8} (h : nm s i = some (l, j)) :
    (tooBig l = false → ∃ z : Int, parseIntB 64 (cutB s i j) = .ok z ∧ itoa z = l ∧ -9223372036854775808 ≤ z ∧ z ≤ 9223372036854775807) ∧ (tooBig l = true → parseIntB 64 (cutB s i j) = .range) := by
  obtain ⟨_, hN, hc, hl⟩ := nm_digits h
  generalize cutB s (nmD s i) j = d at *
  have hp := parse_num hN
  have hde := dec_fold d.length d rfl hN
  have p63 : (2 : Nat) ^ (64 - 1) = 9223372036854775808 := by decide
  by_cases h45 : bt s i = 45
  · rw [if_pos h45] at hc
    rw [hc] at hl ⊢
    rw [parseIntB_minus, hp]
    by_cases h0 : d = [48]
    · subst h0
      have e : l = [48] := by rw [hl]; unfold norm0; rw [if_pos rfl]
      subst e
      refine ⟨fun _ => ⟨0, by decide, by rw [show (0 : Int) = ((0 : Nat) : Int) from rfl, itoa_nonneg, decDigits_one (by decide)]; rfl, by decide, by decide⟩, fun hb => absurd hb (by decide)⟩
    · have e : l = 45 :: d := by
        rw [hl]; unfold norm0; rw [if_neg]
        intro e; injection e with _ e; exact h0 e
      subst e
      have ht : tooBig (45 :: d) = decide (9223372036854775808 < foldV 0 d) := by rw [tooBig, if_pos rfl, over_1 hN]
      rw [ht]
      have hpos : 1 ≤ foldV 0 d := by
        obtain ⟨h1, h2, h3⟩ := hN
        rcases h3 with h3 | h3
        · exact absurd h3 h0
        · cases d with
          | nil => exact absurd rfl h2
          | cons c r =>
            have := foldV_low (d := r) (h3 c r rfl)
            have hp : 0 < 10 ^ r.length := Nat.pow_pos (by decide)
            omega
      refine ⟨fun hb => ?_, fun hb => ?_⟩
      · have hb' := of_decide_eq_false hb
        rw [if_pos (by omega)]
        refine ⟨-((foldV 0 d : Nat) : Int), ?_, ?_, by omega, by omega⟩
        · show (if 2 ^ (64 - 1) < foldV 0 d then NumEnd.range else .ok (-((foldV 0 d : Nat) : Int))) = _
          rw [if_neg (by omega)]
        · rw [itoa_neg _ hpos, hde]
      · have hb' := of_decide_eq_true hb
        by_cases g : foldV 0 d ≤ 18446744073709551615
        · rw [if_pos g]
          show (if 2 ^ (64 - 1) < foldV 0 d then NumEnd.range else .ok (-((foldV 0 d : Nat) : Int))) = _
          rw [if_pos (by omega)]
        · rw [if_neg g]; rfl
  · rw [if_neg h45] at hc
    rw [hc] at hl ⊢
    rw [norm0_num hN] at hl
    subst hl
    cases hd : l with
    | nil => exact absurd hd hN.2.1
    | cons c r =>
      have hcd := hN.1 c (by rw [hd]; simp)
      rw [parseIntB_plain 64 c r (by omega) (by omega), ← hd, hp]
      have ht : tooBig l = decide (9223372036854775807 < foldV 0 l) := by
        rw [hd, tooBig, if_neg (by intro e; rw [e] at hcd; exact absurd hcd.1 (by decide)), ← hd, over_0 hN]
      rw [ht]
      refine ⟨fun hb => ?_, fun hb => ?_⟩
      · have hb' := of_decide_eq_false hb
        rw [if_pos (by omega)]
        refine ⟨((foldV 0 l : Nat) : Int), ?_, ?_, by omega, by omega⟩
        · show (if 2 ^ (64 - 1) ≤ foldV 0 l then NumEnd.range else .ok ((foldV 0 l : Nat) : Int)) = _
          rw [if_neg (by omega)]
        · rw [itoa_nonneg, hde]
      · have hb' := of_decide_eq_true hb
        by_cases g : foldV 0 l ≤ 18446744073709551615
        · rw [if_pos g]
          show (if 2 ^ (64 - 1) ≤ foldV 0 l then NumEnd.range else .ok ((foldV 0 l : Nat) : Int)) = _
          rw [if_pos (by omega)]
        · rw [if_neg g]; rfl
end Go.Proofs.YtocnekbedcnmgaaGreatDoor


namespace Go.Proofs.YtocnekbedcnmgaaGreatDoor
open Go.RowKit

set_option maxHeartbeats 800000 in
theorem hexDigit_walk (b : Nat) (hb : b < 256) (w : World) :
    Calls Tryz.prog 294 #[.int .u8 b] w fun e w' => w = w' ∧ e = (hx b).elim mis (fun v => .returned (.int .i32 v)) := by
  by_cases h1 : 48 ≤ b ∧ b ≤ 57
  · have HH : Hid (hx b = some (b - 48)) := by show _ = _; unfold hx; rw [if_pos h1]
    have a1 : (48 : Int) ≤ (b : Int) := by omega
    have a2 : (b : Int) ≤ 57 := by omega
    clear h1
    go_enter Tryz.func294, Tryz.ntmps294
    go_wp2
    go_ret
    refine ⟨rfl, ?_⟩
    rw [unhide HH]
    exact ret_int (by go_num)
  · by_cases h2 : 97 ≤ b ∧ b ≤ 102
    · have HH : Hid (hx b = some (b - 87)) := by show _ = _; unfold hx; rw [if_neg h1, if_pos h2]
      have a1 : (97 : Int) ≤ (b : Int) := by omega
      have a2 : (b : Int) ≤ 102 := by omega
      clear h1 h2
      go_enter Tryz.func294, Tryz.ntmps294
      go_wp2
      go_ret
      refine ⟨rfl, ?_⟩
      rw [unhide HH]
      exact ret_int (by go_num)
    · by_cases h3 : 65 ≤ b ∧ b ≤ 70
      · have HH : Hid (hx b = some (b - 55)) := by show _ = _; unfold hx; rw [if_neg h1, if_neg h2, if_pos h3]
        have a1 : (65 : Int) ≤ (b : Int) := by omega
        have a2 : (b : Int) ≤ 70 := by omega
        clear h1 h2 h3
        go_enter Tryz.func294, Tryz.ntmps294
        go_wp2
        go_ret
        refine ⟨rfl, ?_⟩
        rw [unhide HH]
        exact ret_int (by go_num)
      · have HH : Hid (hx b = none) := by show _ = _; unfold hx; rw [if_neg h1, if_neg h2, if_neg h3]
        clear HH
        have HH : Hid (hx b = none) := by show _ = _; unfold hx; rw [if_neg h1, if_neg h2, if_neg h3]
        rcases (show b < 48 ∨ (57 < b ∧ b < 65) ∨ (70 < b ∧ b < 97) ∨ 102 < b from by omega) with g | g | g | g
        · have a1 : (b : Int) < 48 := by omega
          clear h1 h2 h3 g
          go_enter Tryz.func294, Tryz.ntmps294
          go_wp2
          exact ⟨rfl, rfl, by rw [unhide HH]; rfl⟩
        · have a1 : (57 : Int) < (b : Int) := by omega
          have a2 : (b : Int) < 65 := by omega
          clear h1 h2 h3 g
          go_enter Tryz.func294, Tryz.ntmps294
          go_wp2
          exact ⟨rfl, rfl, by rw [unhide HH]; rfl⟩
        · have a1 : (70 : Int) < (b : Int) := by omega
          have a2 : (b : Int) < 97 := by omega
          clear h1 h2 h3 g
          go_enter Tryz.func294, Tryz.ntmps294
          go_wp2
          exact ⟨rfl, rfl, by rw [unhide HH]; rfl⟩
        · have a1 : (102 : Int) < (b : Int) := by omega
          clear h1 h2 h3 g
          go_enter Tryz.func294, Tryz.ntmps294
          go_wp2
          exact ⟨rfl, rfl, by rw [unhide HH]; rfl⟩

set_option maxHeartbeats 1600000 in
theorem hexNum_walk (rb : Nat) (s : ByteArray) (i : Nat) (tb kt : Bool) (w : World) (h : Rdr rb s i tb kt w) (hs : s.size ≤ 1048576) (hi : i ≤ s.size) :
    Calls Tryz.prog 277 #[.pointer (some ⟨rb, 0, none⟩)] w (Post rb s tb kt w ((hexN s i 4).map fun v : Nat => (.int .i32 (v : Int), i + 4))) := by
  have H := hide h
  clear h
  go_enter Tryz.func277, Tryz.ntmps277
  go_wp2
  go_loopw [3, 4] (fun n k wr => ∃ j v : Nat, j ≤ 4 ∧ i + j ≤ s.size ∧ v < 16 ^ j ∧ k = .int .i64 j ∧ n = .int .i32 v ∧ hexN s i j = some v ∧ Rdr rb s (i + j) tb kt wr ∧ KB rb w wr) (fun _ k _ => 4 - (intOf k).toNat)
  case atStart => exact ⟨0, 0, by omega, by omega, by decide, rfl, rfl, rfl, unhide H, KB.refl _ _⟩
  case round =>
    obtain ⟨j, v, hj, hij, hv16, rfl, rfl, hv, hr, hk⟩ := hrel
    have HV := hide hv
    have HR := hide hr
    clear hv hr
    by_cases h4 : j < 4
    · have hv65 : v < 65536 := by
        have : (16 : Nat) ^ j ≤ 16 ^ 3 := Nat.pow_le_pow_right (by decide) (by omega)
        omega
      have h4' : (j : Int) < 4 := by omega
      by_cases hin : i + j < s.size
      · have HN := hide (next_in rb s (i + j) tb kt wr (unhide HR) hs hin)
        have HD := hide (hexDigit_walk (bt s (i + j)) (bt_lt _ _))
        have hvI : (v : Int) < 65536 := by omega
        cases hx1 : hx (bt s (i + j)) with
        | some d =>
          have hd := hx_lt hx1
          have HX := hide (hexN_next (unhide HV) hx1)
          rw [hx1] at HD
          generalize bt s (i + j) = b at *
          clear hx1
          go_wp2_with fail
          refine (unhide HN).mono ?_
          rintro e w1 ⟨rfl, r1, k1⟩
          have R1 := hide r1
          clear r1
          go_wp2_with fail
          refine (unhide HD _).mono ?_
          rintro e w2 ⟨rfl, rfl⟩
          clear HN HD
          simp only [Option.elim]
          go_wp2
          go_roundw
          case rel => exact ⟨j + 1, v * 16 + d, by omega, by omega, by rw [Nat.pow_succ]; omega, by go_num, by go_num, unhide HX, unhide R1, hk.trans k1⟩
          case measure => simp [intOf]; omega
        | none =>
          have HX : Hid (hexN s i 4 = none) := hexN_none (hexN_bad hx1) (by omega)
          rw [hx1] at HD
          generalize bt s (i + j) = b at *
          clear hx1
          go_wp2_with fail
          refine (unhide HN).mono ?_
          rintro e w1 ⟨rfl, r1, k1⟩
          clear r1
          go_wp2_with fail
          refine (unhide HD _).mono ?_
          rintro e w2 ⟨rfl, rfl⟩
          clear HN HD
          exact ⟨rfl, hk.trans k1, by rw [unhide HX]; rfl⟩
      · have HX : Hid (hexN s i 4 = none) := hexN_none (hexN_bad (by rw [bt_out s (i + j) (by omega)]; rfl)) (show j + 1 ≤ 4 by omega)
        have HN := hide (next_out rb s (i + j) tb kt wr (unhide HR) (by omega))
        go_wp2_with fail
        refine (unhide HN).mono ?_
        rintro e w1 ⟨rfl, k1⟩
        clear HN
        exact ⟨rfl, hk.trans k1, by rw [unhide HX]; rfl⟩
    · have e4 : j = 4 := by omega
      subst e4
      go_wp2
      go_ret
      exact ⟨hk, by rw [unhide HV]; exact ⟨rfl, unhide HR⟩⟩

/-- The word at place i. -/
def isWord (s : ByteArray) (i : Nat) (wd : ByteArray) : Prop := ∀ k, k < wd.size → bt s (i + k) = bt wd k

set_option maxHeartbeats 1600000 in
theorem word_yes (rb : Nat) (s : ByteArray) (i : Nat) (tb kt : Bool) (w : World) (h : Rdr rb s i tb kt w) (hs : s.size ≤ 1048576) (wd : ByteArray) (hw : wd.size ≤ 1000) (hi : i + wd.size ≤ s.size) (hit : isWord s i wd) :
    Calls Tryz.prog 166 #[.pointer (some ⟨rb, 0, none⟩), .string wd] w fun e w' => e = .returned (.tuple #[]) ∧ Rdr rb s (i + wd.size) tb kt w' ∧ KB rb w w' := by
  have H := hide h
  have HIT := hide hit
  clear h hit
  go_enter Tryz.func166, Tryz.ntmps166
  go_wp2
  go_loopw [7] (fun k wr => ∃ j : Nat, j ≤ wd.size ∧ k = .int .i64 j ∧ Rdr rb s (i + j) tb kt wr ∧ KB rb w wr) (fun k _ => wd.size - (intOf k).toNat)
  case atStart => exact ⟨0, by omega, rfl, unhide H, KB.refl _ _⟩
  case round =>
    obtain ⟨j, hj, rfl, hr, hk⟩ := hrel
    have HR := hide hr
    clear hr
    by_cases hlt : j < wd.size
    · have e1 := (unhide HIT) j hlt
      have HE : Hid (Calls Tryz.prog 194 #[.pointer (some ⟨rb, 0, none⟩), .int .u8 (wd[j].toNat : Int)] wr fun e w' => e = .returned (.tuple #[]) ∧ Rdr rb s (i + j + 1) tb kt w' ∧ KB rb wr w') :=
        expect_yes rb s (i + j) tb kt wr (unhide HR) hs wd[j].toNat (by rw [e1, bt_at wd j hlt]) (by omega)
      clear e1
      go_wp2_with fail
      refine (unhide HE).mono ?_
      rintro e w1 ⟨rfl, r1, k1⟩
      have R1 := hide r1
      clear r1 HE
      go_wp2
      go_roundw
      case rel => exact ⟨j + 1, by omega, by go_num, unhide R1, hk.trans k1⟩
      case measure => simp [intOf]; omega
    · have e4 : j = wd.size := by omega
      subst e4
      go_wp2
      go_end0
      exact ⟨rfl, unhide HR, hk⟩

set_option maxHeartbeats 1600000 in
theorem word_no (rb : Nat) (s : ByteArray) (i : Nat) (tb kt : Bool) (w : World) (h : Rdr rb s i tb kt w) (hs : s.size ≤ 1048576) (wd : ByteArray) (hw : wd.size ≤ 1000) (hz : ∀ k, k < wd.size → bt wd k ≠ 0) (hi : i ≤ s.size) (hit : ¬ isWord s i wd) :
    Calls Tryz.prog 166 #[.pointer (some ⟨rb, 0, none⟩), .string wd] w fun e w' => e = mis ∧ KB rb w w' := by
  have H := hide h
  have HIT := hide hit
  have HZ := hide hz
  clear h hit hz
  go_enter Tryz.func166, Tryz.ntmps166
  go_wp2
  go_loopw [7] (fun k wr => ∃ j : Nat, j ≤ wd.size ∧ i + j ≤ s.size ∧ k = .int .i64 j ∧ (∀ m, m < j → bt s (i + m) = bt wd m) ∧ Rdr rb s (i + j) tb kt wr ∧ KB rb w wr) (fun k _ => wd.size - (intOf k).toNat)
  case atStart => exact ⟨0, by omega, hi, rfl, by omega, unhide H, KB.refl _ _⟩
  case round =>
    obtain ⟨j, hj, hij, rfl, hm, hr, hk⟩ := hrel
    have HR := hide hr
    have HM := hide hm
    clear hr hm
    by_cases hlt : j < wd.size
    · by_cases e1 : bt s (i + j) = bt wd j
      · have hin : i + j < s.size := bt_in (by rw [e1]; exact (unhide HZ) j hlt)
        have HE : Hid (Calls Tryz.prog 194 #[.pointer (some ⟨rb, 0, none⟩), .int .u8 (wd[j].toNat : Int)] wr fun e w' => e = .returned (.tuple #[]) ∧ Rdr rb s (i + j + 1) tb kt w' ∧ KB rb wr w') :=
          expect_yes rb s (i + j) tb kt wr (unhide HR) hs wd[j].toNat (by rw [e1, bt_at wd j hlt]) hin
        have HM1 : Hid (∀ m, m < j + 1 → bt s (i + m) = bt wd m) := fun m hm => by
          rcases Nat.lt_or_ge m j with g | g
          · exact (unhide HM) m g
          · have : m = j := by omega
            subst this; exact e1
        clear e1
        go_wp2_with fail
        refine (unhide HE).mono ?_
        rintro e w1 ⟨rfl, r1, k1⟩
        have R1 := hide r1
        clear r1 HE
        go_wp2
        go_roundw
        case rel => exact ⟨j + 1, by omega, by omega, by go_num, unhide HM1, unhide R1, hk.trans k1⟩
        case measure => simp [intOf]; omega
      · have HE : Hid (Calls Tryz.prog 194 #[.pointer (some ⟨rb, 0, none⟩), .int .u8 (wd[j].toNat : Int)] wr fun e w' => e = mis ∧ KB rb wr w') :=
          expect_no rb s (i + j) tb kt wr (unhide HR) hs hij wd[j].toNat (.inl (by rw [bt_at wd j hlt] at e1; exact e1))
        clear e1
        go_wp2_with fail
        refine (unhide HE).mono ?_
        rintro e w1 ⟨rfl, k1⟩
        clear HE
        exact ⟨rfl, rfl, hk.trans k1⟩
    · exfalso
      refine (unhide HIT) fun k hk' => (unhide HM) k (by omega)
end Go.Proofs.YtocnekbedcnmgaaGreatDoor


namespace Go.Proofs.YtocnekbedcnmgaaGreatDoor
open Go.RowKit

theorem isWord_u (s : ByteArray) (i : Nat) : isWord s i ⟨#[92, 117]⟩ ↔ bt s i = 92 ∧ bt s (i + 1) = 117 := by
  constructor
  · intro h
    exact ⟨h 0 (by decide), h 1 (by decide)⟩
  · rintro ⟨h0, h1⟩ k hk
    have : k < 2 := hk
    match k, this with
    | 0, _ => exact h0
    | 1, _ => exact h1

set_option maxHeartbeats 1600000 in
set_option maxRecDepth 100000 in
theorem hexRune_walk (rb : Nat) (s : ByteArray) (i : Nat) (tb kt : Bool) (w : World) (h : Rdr rb s (i + 2) tb kt w) (hs : s.size ≤ 1048576) (hi : i + 2 ≤ s.size) :
    Calls Tryz.prog 247 #[.pointer (some ⟨rb, 0, none⟩)] w (Post rb s tb kt w (((hexN s (i + 2) 4).bind (escU s i)).map fun p => (.int .i32 (p.1 : Int), i + p.2))) := by
  have HX := hide (hexNum_walk rb s (i + 2) tb kt w h hs hi)
  clear h
  cases hx1 : hexN s (i + 2) 4 with
  | none =>
    rw [hx1] at HX
    clear hx1
    go_enter Tryz.func247, Tryz.ntmps247
    go_wp2_with fail
    refine (unhide HX).mono ?_
    rintro e w1 ⟨k1, rfl⟩
    clear HX
    exact ⟨rfl, k1, rfl⟩
  | some u =>
    have hu : u < 65536 := hexN_lt s (i + 2) 4 u hx1
    have hin := hexN_in hx1
    rw [hx1] at HX
    clear hx1
    simp only [Option.bind_some]
    by_cases h1 : u < 55296 ∨ 57344 ≤ u
    · have HE : Hid (escU s i u = some (u, 6)) := by show _ = _; unfold escU; rw [if_pos h1]
      rcases h1 with h1 | h1
      · have a1 : (u : Int) < 55296 := by omega
        go_enter Tryz.func247, Tryz.ntmps247
        go_wp2_with fail
        refine (unhide HX).mono ?_
        rintro e w1 ⟨k1, rfl, r1⟩
        have R1 := hide r1
        clear HX r1
        go_wp2
        go_ret
        exact ⟨k1, by rw [unhide HE]; exact ⟨rfl, unhide R1⟩⟩
      · have a1 : ¬ (u : Int) < 55296 := by omega
        have a2 : (57343 : Int) < (u : Int) := by omega
        have d1 : decide ((u : Int) < 55296) = false := by simp; omega
        go_enter Tryz.func247, Tryz.ntmps247
        go_wp2_with fail
        refine (unhide HX).mono ?_
        rintro e w1 ⟨k1, rfl, r1⟩
        have R1 := hide r1
        clear HX r1
        go_wp2
        go_ret
        exact ⟨k1, by rw [unhide HE]; exact ⟨rfl, unhide R1⟩⟩
    · have a1 : ¬ (u : Int) < 55296 := by omega
      have a2 : ¬ (57343 : Int) < (u : Int) := by omega
      by_cases h2 : 56320 ≤ u
      · have HE : Hid (escU s i u = none) := by show _ = _; unfold escU; rw [if_neg h1, if_pos h2]
        have a3 : (56319 : Int) < (u : Int) := by omega
        clear h1
        go_enter Tryz.func247, Tryz.ntmps247
        go_wp2_with fail
        refine (unhide HX).mono ?_
        rintro e w1 ⟨k1, rfl, r1⟩
        clear HX r1
        go_wp2
        exact ⟨rfl, k1, by rw [unhide HE]; rfl⟩
      · have a3 : ¬ (56319 : Int) < (u : Int) := by omega
        have U12 : Hid ((55296 : Int) ≤ (u : Int) ∧ (u : Int) ≤ 56319) := by show _ ∧ _; omega
        by_cases hw : bt s (i + 6) = 92 ∧ bt s (i + 6 + 1) = 117
        · have hw' := (isWord_u s (i + 6)).2 hw
          have hin7 : i + 6 + 1 < s.size := bt_in (by rw [hw.2]; decide)
          have HW : Hid (∀ w, Rdr rb s (i + 6) tb kt w → Calls Tryz.prog 166 #[.pointer (some ⟨rb, 0, none⟩), .string ⟨#[92, 117]⟩] w fun e w' => e = .returned (.tuple #[]) ∧ Rdr rb s (i + 6 + 2) tb kt w' ∧ KB rb w w') :=
            fun w h => word_yes rb s (i + 6) tb kt w h hs ⟨#[92, 117]⟩ (by decide) (by show i + 6 + 2 ≤ _; omega) hw'
          have HX2 : Hid (∀ w, Rdr rb s (i + 6 + 2) tb kt w → Calls Tryz.prog 277 #[.pointer (some ⟨rb, 0, none⟩)] w (Post rb s tb kt w ((hexN s (i + 6 + 2) 4).map fun v : Nat => (.int .i32 (v : Int), i + 6 + 2 + 4)))) :=
            fun w h => hexNum_walk rb s (i + 6 + 2) tb kt w h hs (by omega)
          have eU : unit s (i + 6) = hexN s (i + 6 + 2) 4 := by unfold unit; rw [if_pos hw]
          clear hw hw'
          cases hx2 : hexN s (i + 6 + 2) 4 with
          | none =>
            have HE : Hid (escU s i u = none) := by show _ = _; unfold escU; rw [if_neg h1, if_neg h2, eU, hx2]; rfl
            rw [hx2] at HX2
            clear hx2 eU h1 h2
            go_enter Tryz.func247, Tryz.ntmps247
            go_wp2_with fail
            refine (unhide HX).mono ?_
            rintro e w1 ⟨k1, rfl, r1⟩
            have R1 := hide r1
            clear HX r1
            go_wp2_with fail
            refine (unhide HW _ (unhide R1)).mono ?_
            rintro e w2 ⟨rfl, r2, k2⟩
            have R2 := hide r2
            clear HW r2
            go_wp2_with fail
            refine (unhide HX2 _ (unhide R2)).mono ?_
            rintro e w3 ⟨k3, rfl⟩
            clear HX2
            exact ⟨rfl, (k1.trans k2).trans k3, by rw [unhide HE]; rfl⟩
          | some v =>
            have hv : v < 65536 := hexN_lt s (i + 6 + 2) 4 v hx2
            rw [hx2] at HX2
            by_cases h3 : 56320 ≤ v ∧ v < 57344
            · have HE : Hid (escU s i u = some (65536 + (u - 55296) * 1024 + (v - 56320), 12)) := by
                show _ = _; unfold escU; rw [if_neg h1, if_neg h2, eU, hx2]; simp only [Option.bind_some]; rw [if_pos h3]
              have v1 : (56320 : Int) ≤ (v : Int) := by omega
              have v2 : (v : Int) ≤ 57343 := by omega
              have v3 : ¬ (v : Int) < 56320 := by omega
              have v4 : ¬ (57343 : Int) < (v : Int) := by omega
              clear hx2 eU h1 h2 h3
              go_enter Tryz.func247, Tryz.ntmps247
              go_wp2_with fail
              refine (unhide HX).mono ?_
              rintro e w1 ⟨k1, rfl, r1⟩
              have R1 := hide r1
              clear HX r1
              go_wp2_with fail
              refine (unhide HW _ (unhide R1)).mono ?_
              rintro e w2 ⟨rfl, r2, k2⟩
              have R2 := hide r2
              clear HW r2
              go_wp2_with fail
              refine (unhide HX2 _ (unhide R2)).mono ?_
              rintro e w3 ⟨k3, rfl, r3⟩
              have R3 := hide r3
              clear HX2 r3
              obtain ⟨u1, u2⟩ := unhide U12
              go_wp2
              go_ret
              refine ⟨(k1.trans k2).trans k3, ?_⟩
              rw [unhide HE]
              exact ⟨ret_int (by omega), unhide R3⟩
            · have HE : Hid (escU s i u = none) := by
                show _ = _; unfold escU; rw [if_neg h1, if_neg h2, eU, hx2]; simp only [Option.bind_some]; rw [if_neg h3]
              rcases (show v < 56320 ∨ 57344 ≤ v from by omega) with h4 | h4
              · have v1 : (v : Int) ≤ 56319 := by omega
                clear hx2 eU h1 h2 h3 h4
                go_enter Tryz.func247, Tryz.ntmps247
                go_wp2_with fail
                refine (unhide HX).mono ?_
                rintro e w1 ⟨k1, rfl, r1⟩
                have R1 := hide r1
                clear HX r1
                go_wp2_with fail
                refine (unhide HW _ (unhide R1)).mono ?_
                rintro e w2 ⟨rfl, r2, k2⟩
                have R2 := hide r2
                clear HW r2
                go_wp2_with fail
                refine (unhide HX2 _ (unhide R2)).mono ?_
                rintro e w3 ⟨k3, rfl, r3⟩
                clear HX2 r3
                go_wp2
                exact ⟨rfl, (k1.trans k2).trans k3, by rw [unhide HE]; rfl⟩
              · have v1 : ¬ (v : Int) < 56320 := by omega
                have v2 : (57343 : Int) < (v : Int) := by omega
                clear hx2 eU h1 h2 h3
                go_enter Tryz.func247, Tryz.ntmps247
                go_wp2_with fail
                refine (unhide HX).mono ?_
                rintro e w1 ⟨k1, rfl, r1⟩
                have R1 := hide r1
                clear HX r1
                go_wp2_with fail
                refine (unhide HW _ (unhide R1)).mono ?_
                rintro e w2 ⟨rfl, r2, k2⟩
                have R2 := hide r2
                clear HW r2
                go_wp2_with fail
                refine (unhide HX2 _ (unhide R2)).mono ?_
                rintro e w3 ⟨k3, rfl, r3⟩
                clear HX2 r3
                go_wp2
                exact ⟨rfl, (k1.trans k2).trans k3, by rw [unhide HE]; rfl⟩
        · have HE : Hid (escU s i u = none) := by
            show _ = _; unfold escU; rw [if_neg h1, if_neg h2]; unfold unit; rw [if_neg hw]; rfl
          have HW : Hid (∀ w, Rdr rb s (i + 6) tb kt w → Calls Tryz.prog 166 #[.pointer (some ⟨rb, 0, none⟩), .string ⟨#[92, 117]⟩] w fun e w' => e = mis ∧ KB rb w w') :=
            fun w h => word_no rb s (i + 6) tb kt w h hs ⟨#[92, 117]⟩ (by decide) (fun k hk => by
              have : k < 2 := hk
              match k, this with
              | 0, _ => decide
              | 1, _ => decide) (by omega) (fun h => hw ((isWord_u s (i + 6)).1 h))
          clear h1 h2 hw
          go_enter Tryz.func247, Tryz.ntmps247
          go_wp2_with fail
          refine (unhide HX).mono ?_
          rintro e w1 ⟨k1, rfl, r1⟩
          have R1 := hide r1
          clear HX r1
          go_wp2_with fail
          refine (unhide HW _ (unhide R1)).mono ?_
          rintro e w2 ⟨rfl, k2⟩
          clear HW
          exact ⟨rfl, k1.trans k2, by rw [unhide HE]; rfl⟩
end Go.Proofs.YtocnekbedcnmgaaGreatDoor


namespace Go.Proofs.YtocnekbedcnmgaaGreatDoor
open Go.RowKit

set_option maxHeartbeats 1600000 in
theorem esc_34 (rb : Nat) (s : ByteArray) (i : Nat) (tb kt : Bool) (w : World) (h : Rdr rb s (i + 1) tb kt w) (hs : s.size ≤ 1048576) (hb : bt s (i + 1) = 34) :
    Calls Tryz.prog 222 #[.pointer (some ⟨rb, 0, none⟩)] w fun e w' => e = .returned (.int .i32 34) ∧ Rdr rb s (i + 2) tb kt w' ∧ KB rb w w' := by
  have HN := hide (next_in rb s (i + 1) tb kt w h hs (bt_in (by rw [hb]; decide)))
  rw [hb] at HN
  clear h hb
  go_enter Tryz.func222, Tryz.ntmps222
  go_wp2_with fail
  refine (unhide HN).mono ?_
  rintro e w1 ⟨rfl, r1, k1⟩
  have R1 := hide r1
  clear HN r1
  go_wp2
  go_ret
  exact ⟨rfl, unhide R1, k1⟩
set_option maxHeartbeats 1600000 in
theorem esc_92 (rb : Nat) (s : ByteArray) (i : Nat) (tb kt : Bool) (w : World) (h : Rdr rb s (i + 1) tb kt w) (hs : s.size ≤ 1048576) (hb : bt s (i + 1) = 92) :
    Calls Tryz.prog 222 #[.pointer (some ⟨rb, 0, none⟩)] w fun e w' => e = .returned (.int .i32 92) ∧ Rdr rb s (i + 2) tb kt w' ∧ KB rb w w' := by
  have HN := hide (next_in rb s (i + 1) tb kt w h hs (bt_in (by rw [hb]; decide)))
  rw [hb] at HN
  clear h hb
  go_enter Tryz.func222, Tryz.ntmps222
  go_wp2_with fail
  refine (unhide HN).mono ?_
  rintro e w1 ⟨rfl, r1, k1⟩
  have R1 := hide r1
  clear HN r1
  go_wp2
  go_ret
  exact ⟨rfl, unhide R1, k1⟩
set_option maxHeartbeats 1600000 in
theorem esc_47 (rb : Nat) (s : ByteArray) (i : Nat) (tb kt : Bool) (w : World) (h : Rdr rb s (i + 1) tb kt w) (hs : s.size ≤ 1048576) (hb : bt s (i + 1) = 47) :
    Calls Tryz.prog 222 #[.pointer (some ⟨rb, 0, none⟩)] w fun e w' => e = .returned (.int .i32 47) ∧ Rdr rb s (i + 2) tb kt w' ∧ KB rb w w' := by
  have HN := hide (next_in rb s (i + 1) tb kt w h hs (bt_in (by rw [hb]; decide)))
  rw [hb] at HN
  clear h hb
  go_enter Tryz.func222, Tryz.ntmps222
  go_wp2_with fail
  refine (unhide HN).mono ?_
  rintro e w1 ⟨rfl, r1, k1⟩
  have R1 := hide r1
  clear HN r1
  go_wp2
  go_ret
  exact ⟨rfl, unhide R1, k1⟩
set_option maxHeartbeats 1600000 in
theorem esc_98 (rb : Nat) (s : ByteArray) (i : Nat) (tb kt : Bool) (w : World) (h : Rdr rb s (i + 1) tb kt w) (hs : s.size ≤ 1048576) (hb : bt s (i + 1) = 98) :
    Calls Tryz.prog 222 #[.pointer (some ⟨rb, 0, none⟩)] w fun e w' => e = .returned (.int .i32 8) ∧ Rdr rb s (i + 2) tb kt w' ∧ KB rb w w' := by
  have HN := hide (next_in rb s (i + 1) tb kt w h hs (bt_in (by rw [hb]; decide)))
  rw [hb] at HN
  clear h hb
  go_enter Tryz.func222, Tryz.ntmps222
  go_wp2_with fail
  refine (unhide HN).mono ?_
  rintro e w1 ⟨rfl, r1, k1⟩
  have R1 := hide r1
  clear HN r1
  go_wp2
  go_ret
  exact ⟨rfl, unhide R1, k1⟩
set_option maxHeartbeats 1600000 in
theorem esc_102 (rb : Nat) (s : ByteArray) (i : Nat) (tb kt : Bool) (w : World) (h : Rdr rb s (i + 1) tb kt w) (hs : s.size ≤ 1048576) (hb : bt s (i + 1) = 102) :
    Calls Tryz.prog 222 #[.pointer (some ⟨rb, 0, none⟩)] w fun e w' => e = .returned (.int .i32 12) ∧ Rdr rb s (i + 2) tb kt w' ∧ KB rb w w' := by
  have HN := hide (next_in rb s (i + 1) tb kt w h hs (bt_in (by rw [hb]; decide)))
  rw [hb] at HN
  clear h hb
  go_enter Tryz.func222, Tryz.ntmps222
  go_wp2_with fail
  refine (unhide HN).mono ?_
  rintro e w1 ⟨rfl, r1, k1⟩
  have R1 := hide r1
  clear HN r1
  go_wp2
  go_ret
  exact ⟨rfl, unhide R1, k1⟩
set_option maxHeartbeats 1600000 in
theorem esc_110 (rb : Nat) (s : ByteArray) (i : Nat) (tb kt : Bool) (w : World) (h : Rdr rb s (i + 1) tb kt w) (hs : s.size ≤ 1048576) (hb : bt s (i + 1) = 110) :
    Calls Tryz.prog 222 #[.pointer (some ⟨rb, 0, none⟩)] w fun e w' => e = .returned (.int .i32 10) ∧ Rdr rb s (i + 2) tb kt w' ∧ KB rb w w' := by
  have HN := hide (next_in rb s (i + 1) tb kt w h hs (bt_in (by rw [hb]; decide)))
  rw [hb] at HN
  clear h hb
  go_enter Tryz.func222, Tryz.ntmps222
  go_wp2_with fail
  refine (unhide HN).mono ?_
  rintro e w1 ⟨rfl, r1, k1⟩
  have R1 := hide r1
  clear HN r1
  go_wp2
  go_ret
  exact ⟨rfl, unhide R1, k1⟩
set_option maxHeartbeats 1600000 in
theorem esc_114 (rb : Nat) (s : ByteArray) (i : Nat) (tb kt : Bool) (w : World) (h : Rdr rb s (i + 1) tb kt w) (hs : s.size ≤ 1048576) (hb : bt s (i + 1) = 114) :
    Calls Tryz.prog 222 #[.pointer (some ⟨rb, 0, none⟩)] w fun e w' => e = .returned (.int .i32 13) ∧ Rdr rb s (i + 2) tb kt w' ∧ KB rb w w' := by
  have HN := hide (next_in rb s (i + 1) tb kt w h hs (bt_in (by rw [hb]; decide)))
  rw [hb] at HN
  clear h hb
  go_enter Tryz.func222, Tryz.ntmps222
  go_wp2_with fail
  refine (unhide HN).mono ?_
  rintro e w1 ⟨rfl, r1, k1⟩
  have R1 := hide r1
  clear HN r1
  go_wp2
  go_ret
  exact ⟨rfl, unhide R1, k1⟩
set_option maxHeartbeats 1600000 in
theorem esc_116 (rb : Nat) (s : ByteArray) (i : Nat) (tb kt : Bool) (w : World) (h : Rdr rb s (i + 1) tb kt w) (hs : s.size ≤ 1048576) (hb : bt s (i + 1) = 116) :
    Calls Tryz.prog 222 #[.pointer (some ⟨rb, 0, none⟩)] w fun e w' => e = .returned (.int .i32 9) ∧ Rdr rb s (i + 2) tb kt w' ∧ KB rb w w' := by
  have HN := hide (next_in rb s (i + 1) tb kt w h hs (bt_in (by rw [hb]; decide)))
  rw [hb] at HN
  clear h hb
  go_enter Tryz.func222, Tryz.ntmps222
  go_wp2_with fail
  refine (unhide HN).mono ?_
  rintro e w1 ⟨rfl, r1, k1⟩
  have R1 := hide r1
  clear HN r1
  go_wp2
  go_ret
  exact ⟨rfl, unhide R1, k1⟩
set_option maxHeartbeats 1600000 in
theorem esc_u (rb : Nat) (s : ByteArray) (i : Nat) (tb kt : Bool) (w : World) (h : Rdr rb s (i + 1) tb kt w) (hs : s.size ≤ 1048576) (hi : i + 2 ≤ s.size) (h0 : bt s i = 92) (hb : bt s (i + 1) = 117) :
    Calls Tryz.prog 222 #[.pointer (some ⟨rb, 0, none⟩)] w (Post rb s tb kt w ((escP s i).map fun p => (.int .i32 (p.1 : Int), i + p.2))) := by
  have HN := hide (next_in rb s (i + 1) tb kt w h hs (bt_in (by rw [hb]; decide)))
  rw [escP_u h0 hb]
  rw [hb] at HN
  have HX : Hid (∀ w, Rdr rb s (i + 2) tb kt w → Calls Tryz.prog 247 #[.pointer (some ⟨rb, 0, none⟩)] w (Post rb s tb kt w (((hexN s (i + 2) 4).bind (escU s i)).map fun p => (.int .i32 (p.1 : Int), i + p.2)))) := fun w h => hexRune_walk rb s i tb kt w h hs hi
  clear h hb h0
  generalize (hexN s (i + 2) 4).bind (escU s i) = o at *
  cases o with
  | none =>
    go_enter Tryz.func222, Tryz.ntmps222
    go_wp2_with fail
    refine (unhide HN).mono ?_
    rintro e w1 ⟨rfl, r1, k1⟩
    have R1 := hide r1
    clear HN r1
    go_wp2_with fail
    refine (unhide HX _ (unhide R1)).mono ?_
    rintro e w2 ⟨k2, rfl⟩
    clear HX
    exact ⟨rfl, k1.trans k2, rfl⟩
  | some p =>
    go_enter Tryz.func222, Tryz.ntmps222
    go_wp2_with fail
    refine (unhide HN).mono ?_
    rintro e w1 ⟨rfl, r1, k1⟩
    have R1 := hide r1
    clear HN r1
    go_wp2_with fail
    refine (unhide HX _ (unhide R1)).mono ?_
    rintro e w2 ⟨k2, rfl, r2⟩
    have R2 := hide r2
    clear HX r2
    go_wp2
    go_ret
    exact ⟨k1.trans k2, rfl, unhide R2⟩
set_option maxHeartbeats 1600000 in
theorem esc_end (rb : Nat) (s : ByteArray) (i : Nat) (tb kt : Bool) (w : World) (h : Rdr rb s (i + 1) tb kt w) (hi : i + 1 = s.size) :
    Calls Tryz.prog 222 #[.pointer (some ⟨rb, 0, none⟩)] w fun e w' => e = mis ∧ KB rb w w' := by
  have HN := hide (next_out rb s (i + 1) tb kt w h hi)
  clear h hi
  go_enter Tryz.func222, Tryz.ntmps222
  go_wp2_with fail
  refine (unhide HN).mono ?_
  rintro e w1 ⟨rfl, k1⟩
  clear HN
  exact ⟨rfl, rfl, k1⟩
set_option maxHeartbeats 1600000 in
theorem esc_no (rb : Nat) (s : ByteArray) (i : Nat) (tb kt : Bool) (w : World) (h : Rdr rb s (i + 1) tb kt w) (hs : s.size ≤ 1048576) (hi : i + 1 < s.size) (b : Nat) (hb : bt s (i + 1) = b) (n34 : b ≠ 34) (n92 : b ≠ 92) (n47 : b ≠ 47) (n98 : b ≠ 98) (n102 : b ≠ 102) (n110 : b ≠ 110) (n114 : b ≠ 114) (n116 : b ≠ 116) (n117 : b ≠ 117) :
    Calls Tryz.prog 222 #[.pointer (some ⟨rb, 0, none⟩)] w fun e w' => e = mis ∧ KB rb w w' := by
  have HN := hide (next_in rb s (i + 1) tb kt w h hs hi)
  rw [hb] at HN
  have t34 : ((b : Int) == 34) = false := by rw [beq_eq_false_iff_ne]; omega
  have t92 : ((b : Int) == 92) = false := by rw [beq_eq_false_iff_ne]; omega
  have t47 : ((b : Int) == 47) = false := by rw [beq_eq_false_iff_ne]; omega
  have t98 : ((b : Int) == 98) = false := by rw [beq_eq_false_iff_ne]; omega
  have t102 : ((b : Int) == 102) = false := by rw [beq_eq_false_iff_ne]; omega
  have t110 : ((b : Int) == 110) = false := by rw [beq_eq_false_iff_ne]; omega
  have t114 : ((b : Int) == 114) = false := by rw [beq_eq_false_iff_ne]; omega
  have t116 : ((b : Int) == 116) = false := by rw [beq_eq_false_iff_ne]; omega
  have t117 : ((b : Int) == 117) = false := by rw [beq_eq_false_iff_ne]; omega
  clear h hb n34 n92 n47 n98 n102 n110 n114 n116 n117
  go_enter Tryz.func222, Tryz.ntmps222
  go_wp2_with fail
  refine (unhide HN).mono ?_
  rintro e w1 ⟨rfl, r1, k1⟩
  clear HN r1
  go_wp2
  exact ⟨rfl, rfl, k1⟩

theorem smp_none {b : Nat} (n34 : b ≠ 34) (n92 : b ≠ 92) (n47 : b ≠ 47) (n98 : b ≠ 98) (n102 : b ≠ 102) (n110 : b ≠ 110) (n114 : b ≠ 114) (n116 : b ≠ 116) : smp b = none := by
  unfold smp; rw [if_neg n34, if_neg n92, if_neg n47, if_neg n98, if_neg n102, if_neg n110, if_neg n114, if_neg n116]
theorem post_some {rb : Nat} {s : ByteArray} {tb kt : Bool} {w : World} {o : Option (Value × Nat)} {v : Value} {j : Nat} {e : Ending} {w' : World} (ho : o = some (v, j)) (h : e = .returned v ∧ Rdr rb s j tb kt w' ∧ KB rb w w') : Post rb s tb kt w o e w' := by
  subst ho; exact ⟨h.2.2, h.1, h.2.1⟩
theorem post_none {rb : Nat} {s : ByteArray} {tb kt : Bool} {w : World} {o : Option (Value × Nat)} {e : Ending} {w' : World} (ho : o = none) (h : e = mis ∧ KB rb w w') : Post rb s tb kt w o e w' := by
  subst ho; exact ⟨h.2, h.1⟩

theorem escape_walk (rb : Nat) (s : ByteArray) (i : Nat) (tb kt : Bool) (w : World) (h : Rdr rb s (i + 1) tb kt w) (hs : s.size ≤ 1048576) (hi : i + 1 ≤ s.size) (h0 : bt s i = 92) :
    Calls Tryz.prog 222 #[.pointer (some ⟨rb, 0, none⟩)] w (Post rb s tb kt w ((escP s i).map fun p => (.int .i32 (p.1 : Int), i + p.2))) := by
  by_cases hend : i + 1 = s.size
  · have hz : bt s (i + 1) = 0 := bt_out s (i + 1) (by omega)
    exact (esc_end rb s i tb kt w h hend).mono fun e w' hh => post_none (by rw [escP_n hz (by rfl) (by decide)]; rfl) hh
  by_cases n34 : bt s (i + 1) = 34
  · exact (esc_34 rb s i tb kt w h hs n34).mono fun e w' hh => post_some (by rw [escP_s n34 (by rfl)]; rfl) hh
  by_cases n92 : bt s (i + 1) = 92
  · exact (esc_92 rb s i tb kt w h hs n92).mono fun e w' hh => post_some (by rw [escP_s n92 (by rfl)]; rfl) hh
  by_cases n47 : bt s (i + 1) = 47
  · exact (esc_47 rb s i tb kt w h hs n47).mono fun e w' hh => post_some (by rw [escP_s n47 (by rfl)]; rfl) hh
  by_cases n98 : bt s (i + 1) = 98
  · exact (esc_98 rb s i tb kt w h hs n98).mono fun e w' hh => post_some (by rw [escP_s n98 (by rfl)]; rfl) hh
  by_cases n102 : bt s (i + 1) = 102
  · exact (esc_102 rb s i tb kt w h hs n102).mono fun e w' hh => post_some (by rw [escP_s n102 (by rfl)]; rfl) hh
  by_cases n110 : bt s (i + 1) = 110
  · exact (esc_110 rb s i tb kt w h hs n110).mono fun e w' hh => post_some (by rw [escP_s n110 (by rfl)]; rfl) hh
  by_cases n114 : bt s (i + 1) = 114
  · exact (esc_114 rb s i tb kt w h hs n114).mono fun e w' hh => post_some (by rw [escP_s n114 (by rfl)]; rfl) hh
  by_cases n116 : bt s (i + 1) = 116
  · exact (esc_116 rb s i tb kt w h hs n116).mono fun e w' hh => post_some (by rw [escP_s n116 (by rfl)]; rfl) hh
  by_cases n117 : bt s (i + 1) = 117
  · exact esc_u rb s i tb kt w h hs (by omega) h0 n117
  exact (esc_no rb s i tb kt w h hs (by omega) _ rfl n34 n92 n47 n98 n102 n110 n114 n116 n117).mono fun e w' hh => post_none (by rw [escP_n rfl (smp_none n34 n92 n47 n98 n102 n110 n114 n116) n117]; rfl) hh
end Go.Proofs.YtocnekbedcnmgaaGreatDoor


namespace Go.Proofs.YtocnekbedcnmgaaGreatDoor
open Go.RowKit

theorem qB_hi {c : UInt8} (h : 128 ≤ c.toNat) : qB c = [c] := by
  unfold qB
  rw [if_neg (by omega), if_neg (by omega), if_neg (by omega), if_neg (by omega), if_neg (by omega), if_neg (by omega), if_neg (by omega)]
theorem qs_hi : ∀ {l : List UInt8}, (∀ c ∈ l, 128 ≤ c.toNat) → qs l = l
  | [], _ => rfl
  | c :: r, h => by
    have h1 := qs_hi (l := r) fun x hx => h x (List.mem_cons_of_mem _ hx)
    have h2 := qB_hi (h c List.mem_cons_self)
    show qB c ++ qs r = c :: r
    rw [h1, h2]; rfl
theorem u8_hi {x : Int} (h0 : 128 ≤ x) (h1 : x ≤ 255) : 128 ≤ (x.toNat.toUInt8).toNat := by
  have : (x.toNat.toUInt8).toNat = x.toNat % 256 := rfl
  rw [this]
  omega
theorem enc_hi {r : Nat} (h : 128 ≤ r) (h2 : r ≤ 1114111) : (∀ c ∈ enc r, 128 ≤ c.toNat) ∧ (r ≤ 2047 → (enc r).length = 2) ∧ (r ≤ 65535 → (enc r).length ≤ 3) := by
  unfold enc Lib.encodeRune
  by_cases a : r ≤ 2047
  · rw [Lib.encodeRuneZ_two (by omega) (by omega)]
    refine ⟨fun c hc => ?_, fun _ => rfl, fun _ => by simp⟩
    simp only [List.map_cons, List.map_nil, List.mem_cons, List.not_mem_nil, or_false] at hc
    rcases hc with rfl | rfl <;> exact u8_hi (by omega) (by omega)
  · by_cases b : (2048 ≤ (r : Int) ∧ (r : Int) < 55296) ∨ (57343 < (r : Int) ∧ (r : Int) ≤ 65535)
    · rw [Lib.encodeRuneZ_three b]
      refine ⟨fun c hc => ?_, fun h => absurd h a, fun _ => by simp⟩
      simp only [List.map_cons, List.map_nil, List.mem_cons, List.not_mem_nil, or_false] at hc
      rcases hc with rfl | rfl | rfl <;> exact u8_hi (by omega) (by omega)
    · by_cases d : 65536 ≤ r
      · rw [Lib.encodeRuneZ_four (by omega) (by omega)]
        refine ⟨fun c hc => ?_, fun h => absurd h a, fun h => by omega⟩
        simp only [List.map_cons, List.map_nil, List.mem_cons, List.not_mem_nil, or_false] at hc
        rcases hc with rfl | rfl | rfl | rfl <;> exact u8_hi (by omega) (by omega)
      · have e : Lib.encodeRuneZ (r : Int) = [239, 191, 189] := by
          unfold Lib.encodeRuneZ
          rw [if_neg (by omega), if_neg (by omega), if_neg b, if_neg (by omega)]
        rw [e]
        refine ⟨fun c hc => ?_, fun h => absurd h a, fun _ => by simp⟩
        simp only [List.map_cons, List.map_nil, List.mem_cons, List.not_mem_nil, or_false] at hc
        rcases hc with rfl | rfl | rfl <;> exact u8_hi (by omega) (by omega)
theorem qs_enc6 {r : Nat} (h : r ≤ 1114111) : (qs (enc r)).length ≤ 6 ∧ (65536 ≤ r → (qs (enc r)).length ≤ 12) := by
  by_cases a : r < 128
  · rw [enc_lo a]
    have := qB_le (UInt8.ofNat r)
    have e : qs [UInt8.ofNat r] = qB (UInt8.ofNat r) := by simp [qs]
    rw [e]
    omega
  · obtain ⟨h1, _, h3⟩ := enc_hi (by omega) h
    rw [qs_hi h1]
    have := enc_le r
    omega
theorem piece_sharp {s : ByteArray} {i r n : Nat} (h : piece s i = some (r, n)) (h34 : bt s i ≠ 34) : (qs (enc r)).length ≤ n := by
  have hok := piece_ok h
  unfold piece at h
  split at h
  · unfold escP at h
    split at h
    · rename_i v hv
      injection h with h; injection h with h1 h2
      subst h1; subst h2
      have hv2 : v = 34 ∨ v = 92 ∨ v = 47 ∨ v = 8 ∨ v = 12 ∨ v = 10 ∨ v = 13 ∨ v = 9 := by
        unfold smp at hv
        repeat' split at hv
        all_goals first | (injection hv with hv; omega) | cases hv
      rcases hv2 with rfl | rfl | rfl | rfl | rfl | rfl | rfl | rfl <;> decide
    · simp only [Option.bind_eq_some_iff] at h
      obtain ⟨u, hu, h⟩ := h
      have hq := (qs_enc6 hok.2.2).1
      unfold escU at h
      split at h
      · injection h with h; injection h with h1 h2; omega
      · split at h
        · cases h
        · simp only [Option.bind_eq_some_iff] at h
          obtain ⟨v, hv, h⟩ := h
          split at h
          · injection h with h; injection h with h1 h2; omega
          · cases h
  · split at h
    · cases h
    · split at h
      · rename_i h92 h32 h128
        injection h with h; injection h with h1 h2
        subst h1; subst h2
        rw [enc_lo h128]
        have e : qs [UInt8.ofNat (bt s i)] = qB (UInt8.ofNat (bt s i)) := by simp [qs]
        have et : (UInt8.ofNat (bt s i)).toNat = bt s i := by rw [UInt8.toNat_ofNat']; omega
        rw [e]
        unfold qB
        rw [et, if_neg (by omega), if_neg (by omega), if_neg (by omega), if_neg (by omega), if_neg (by omega), if_neg (by omega), if_neg (by omega)]
        simp
      · split at h
        · cases h
        · rename_i h92 h32 h128 hrl
          injection h with h; injection h with h1 h2
          have hi : i < s.size := bt_in (by omega)
          have h8 : ¬ s[i].toNat < 128 := by rw [← bt_at s i hi]; exact h128
          obtain ⟨m1, m2, _, _⟩ := enc_multi s i hi hrl h8
          subst h1; subst h2
          unfold enc
          rw [m1, qs_hi m2, List.length_take]
          omega
theorem strR_sharp {s : ByteArray} : ∀ {i j : Nat} {l : List UInt8}, strR s i = some (l, j) → (qs l).length + i + 1 ≤ j := by
  intro i
  generalize hn : s.size - i = n
  induction n using Nat.strongRecOn generalizing i with
  | _ n ih =>
    intro j l h
    by_cases h34 : bt s i = 34
    · rw [strR_end h34] at h
      injection h with h; injection h with h1 h2
      subst h1; simp [qs]; omega
    · cases hp : piece s i with
      | none => rw [strR_bad h34 hp] at h; cases h
      | some p =>
        obtain ⟨r, n'⟩ := p
        have hk := piece_ok hp
        have he := piece_sharp hp h34
        rw [strR_go h34 hp] at h
        rcases hq : strR s (i + n') with _ | ⟨l2, j2⟩
        · rw [hq] at h; cases h
        · rw [hq] at h
          injection h with h; injection h with h1 h2
          have := ih (s.size - (i + n')) (by omega) rfl hq
          subst h1
          show (qs (enc r ++ l2)).length + i + 1 ≤ j
          rw [qs_app, List.length_append]
          simp only at h2
          omega
theorem strQ_sharp {s : ByteArray} {i j : Nat} {l : List UInt8} (h : strQ s i = some (l, j)) : (quoted l).length + i ≤ j := by
  unfold strQ at h
  split at h
  · have := strR_sharp h
    unfold quoted
    simp only [List.length_cons, List.length_append, List.length_nil]
    omega
  · cases h
theorem joinC_sh (l : List (List UInt8)) (h : l ≠ []) : (joinC l).length + 1 = (l.map fun t => t.length + 1).sum := by
  cases l with
  | nil => exact absurd rfl h
  | cons t r =>
    rw [joinC, List.length_append, joinT_len, List.map_cons, List.sum_cons]
    omega
theorem mkO_sh (l : List (List UInt8 × List UInt8)) (h : l ≠ []) : (mkO (isort l)).length = sumT l + 1 := by
  have h1 := (isort_perm l)
  have hne : (isort l).map memT ≠ [] := by
    intro e
    rw [List.map_eq_nil_iff] at e
    rw [e] at h1
    exact h h1.symm.eq_nil
  have h2 := joinC_sh ((isort l).map memT) hne
  have h3 := sumT_isort l
  unfold sumT at *
  rw [List.map_map] at h2
  unfold mkO
  simp only [List.length_cons, List.length_append, List.length_nil]
  have h4 : ((isort l).map ((fun t => t.length + 1) ∘ memT)).sum = ((isort l).map fun p => (memT p).length + 1).sum := rfl
  omega
theorem p_sharp (s : ByteArray) : ∀ f i, (∀ v j, pv s f i = some (v, j) → (ct v).length + i ≤ j) ∧ (∀ l j, pa s f i = some (l, j) → ctL l ≠ [] ∧ ((ctL l).map fun t => t.length + 1).sum + i ≤ j) ∧ (∀ m j, po s f i = some (m, j) → ctM m ≠ [] ∧ sumT (ctM m) + i ≤ j)
  | 0, i => ⟨fun v j h => by simp [pv] at h, fun v j h => by simp [pa] at h, fun v j h => by simp [po] at h⟩
  | f + 1, i => by
    refine ⟨fun v j h => ?_, fun l j h => ?_, fun m j h => ?_⟩
    · have hok := (p_ok s (f + 1) i).1 v j h
      rw [pv] at h
      have g := sk_ge s (i + 1)
      split at h
      · split at h
        · injection h with h; injection h with h0 h
          subst h0
          simp [ct, ctL, mkA, joinC]; omega
        · simp only [Option.map_eq_some_iff] at h
          obtain ⟨⟨l, k⟩, hk, h⟩ := h
          injection h with h0 h
          have h1 := (p_sharp s f (sk s (i + 1))).2.1 l k hk
          have h2 := (p_ok s f (sk s (i + 1))).2.1 l k hk
          have h3 := joinC_sh (ctL l) h1.1
          have h1 := h1.2
          subst h0
          simp only [ct, mkA, List.length_cons, List.length_append, List.length_nil]
          simp only at h; omega
      · split at h
        · split at h
          · injection h with h; injection h with h0 h
            subst h0
            simp [ct, ctM, mkO, isort, joinC]; omega
          · simp only [Option.map_eq_some_iff] at h
            obtain ⟨⟨l, k⟩, hk, h⟩ := h
            injection h with h0 h
            have h1 := (p_sharp s f (sk s (i + 1))).2.2 l k hk
            have h2 := (p_ok s f (sk s (i + 1))).2.2 l k hk
            have h3 := mkO_sh (ctM l) h1.1
            have h1 := h1.2
            subst h0
            simp only [ct]
            simp only at h; omega
        · split at h
          · simp only [Option.map_eq_some_iff] at h
            obtain ⟨⟨l, k⟩, hk, h⟩ := h
            injection h with h0 h
            have h1 := strQ_sharp hk
            subst h0
            simp only [ct]
            simp only at h; omega
          · split at h
            · injection h with h; injection h with h0 h
              subst h0; simp [ct]; omega
            · split at h
              · injection h with h; injection h with h0 h
                subst h0; simp [ct]; omega
              · split at h
                · injection h with h; injection h with h0 h
                  subst h0; simp [ct]; omega
                · simp only [Option.map_eq_some_iff] at h
                  obtain ⟨⟨l, k⟩, hk, h⟩ := h
                  injection h with h0 h
                  have h1 := nm_len hk
                  subst h0
                  simp only [ct]
                  simp only at h; omega
    · rw [pa] at h
      simp only [Option.bind_eq_some_iff] at h
      obtain ⟨⟨v, k⟩, hk, h⟩ := h
      have h1 := (p_ok s f i).1 v k hk
      have h1' := (p_sharp s f i).1 v k hk
      have g1 := sk_ge s k
      simp only at h
      split at h
      · injection h with h; injection h with h0 h
        subst h0
        refine ⟨by simp [ctL], ?_⟩
        simp [ctL]; omega
      · split at h
        · simp only [Option.map_eq_some_iff] at h
          obtain ⟨⟨l, n⟩, hn, h⟩ := h
          injection h with h0 h
          have h2 := (p_ok s f _).2.1 l n hn
          have h2' := (p_sharp s f _).2.1 l n hn
          have g2 := sk_ge s (sk s k + 1)
          subst h0
          refine ⟨by simp [ctL], ?_⟩
          simp only [ctL, List.map_cons, List.sum_cons]
          simp only at h; omega
        · cases h
    · rw [po] at h
      simp only [Option.bind_eq_some_iff] at h
      obtain ⟨⟨key, a⟩, ha, h⟩ := h
      have h0 := strQ_ok ha
      have h0' := strQ_sharp ha
      simp only at h
      split at h
      · simp only [Option.bind_eq_some_iff] at h
        obtain ⟨⟨v, k⟩, hk, h⟩ := h
        have h1 := (p_ok s f _).1 v k hk
        have h1' := (p_sharp s f _).1 v k hk
        have g0 := sk_ge s a
        have g3 := sk_ge s (sk s a + 1)
        have g1 := sk_ge s k
        simp only at h
        split at h
        · injection h with h; injection h with h0 h
          subst h0
          refine ⟨by simp [ctM], ?_⟩
          simp [ctM, sumT, memT]; omega
        · split at h
          · simp only [Option.map_eq_some_iff] at h
            obtain ⟨⟨l, n⟩, hn, h⟩ := h
            injection h with h0 h
            have h2 := (p_ok s f _).2.2 l n hn
            have h2' := (p_sharp s f _).2.2 l n hn
            have g2 := sk_ge s (sk s k + 1)
            subst h0
            have e : sumT (ctM (.cons key v l)) = (memT (key, ct v)).length + 1 + sumT (ctM l) := by simp [ctM, sumT]
            have e2 : (memT (key, ct v)).length = (quoted key).length + 1 + (ct v).length := by simp [memT]; omega
            refine ⟨by simp [ctM], ?_⟩
            simp only at h ⊢
            omega
          · cases h
      · cases h
theorem val_sharp {s : ByteArray} {i j : Nat} {v : JV} (h : val s i = some (v, j)) : (ct v).length + i ≤ j := (p_sharp s _ i).1 v j h
/-- A document's canonical text is not longer than the document. -/
theorem doc_sharp {s : ByteArray} {v : JV} (h : docR s = some v) : (ct v).length ≤ s.size := by
  unfold docR at h
  cases hv : val s (sk s 0) with
  | none => rw [hv] at h; simp at h
  | some q =>
    rw [hv] at h
    simp only [Option.bind_some] at h
    split at h
    · rename_i hs
      injection h with h
      subst h
      have h1 := val_sharp (v := q.1) (j := q.2) hv
      have h2 := sk_ge s q.2
      omega
    · cases h
end Go.Proofs.YtocnekbedcnmgaaGreatDoor

