import Derived.Test.YtcffdclgddmigaaGreatDoorBr3
import Derived.Test.YtcffdclgddmigaaGreatDoorBn39
import Derived.Test.YtcffdclgddmigaaGreatDoorBn6
import Derived.Test.YtcffdclgddmigaaGreatDoorBn43
namespace Go.Proofs.YtcffdclgddmigaaGreatDoor
open Go.RowKit Go.Sort

theorem find_key {m : JM} {t : List UInt8} (h : (m.toL.find? fun q => q.1 == t) = none) : ∀ q ∈ m.toL, q.1 ≠ t := fun q hq e => by
  have := List.find?_eq_none.1 h q hq
  simp [e] at this

set_option maxRecDepth 100000 in
set_option maxHeartbeats 4000000 in
theorem implChild_walk (v : JV) (htw : twV v = false) (t : List UInt8) (ht : t.length ≤ 1048576) (ty : TypeId) (p : Value) (w : World) (S : Nat → Prop) (h : Rep w S v (.iface ty p)) :
    Calls Tryz.prog 68 #[.iface ty p, .string (strOf t)] w fun e w' => w = w' ∧ ((∃ x, e = .returned (.tuple #[x, .bool false]) ∧ childV v t = none) ∨ ∃ (x : Value) (u : JV), e = .returned (.tuple #[x, .bool true]) ∧ childV v t = some u ∧ Rep w S u x) := by
  have leaf : (∀ w : World, (Instr.typeAssert (.iface ty p) 53 146 true).run Tryz.prog w = .ok (.tuple #[.pointer none, .bool false]) w) → (∀ w : World, (Instr.typeAssert (.iface ty p) 53 152 true).run Tryz.prog w = .ok (.tuple #[.pointer none, .bool false]) w) → childV v t = none →
      Calls Tryz.prog 68 #[.iface ty p, .string (strOf t)] w fun e w' => w = w' ∧ ((∃ x, e = .returned (.tuple #[x, .bool false]) ∧ childV v t = none) ∨ ∃ (x : Value) (u : JV), e = .returned (.tuple #[x, .bool true]) ∧ childV v t = some u ∧ Rep w S u x) := fun h1 h2 hc => by
    have HC := hide hc
    clear hc h
    generalize strOf t = st at *
    go_enter Tryz.func68, Tryz.ntmps68
    go_wp2
    go_ret2
    exact ⟨rfl, .inl ⟨_, rfl, unhide HC⟩⟩
  cases v with
  | nul => rw [Rep] at h; injection h with a b; subst a; subst b; exact leaf (fun _ => by kernel_rfl) (fun _ => by kernel_rfl) rfl
  | tt => rw [Rep] at h; injection h with a b; subst a; subst b; exact leaf (fun _ => by kernel_rfl) (fun _ => by kernel_rfl) rfl
  | ff => rw [Rep] at h; injection h with a b; subst a; subst b; exact leaf (fun _ => by kernel_rfl) (fun _ => by kernel_rfl) rfl
  | num l => rw [Rep] at h; obtain ⟨z, h, _⟩ := h; injection h with a b; subst a; subst b; exact leaf (fun _ => by kernel_rfl) (fun _ => by kernel_rfl) rfl
  | str l => rw [Rep] at h; injection h with a b; subst a; subst b; exact leaf (fun _ => by kernel_rfl) (fun _ => by kernel_rfl) rfl
  | arr l =>
    clear leaf
    rw [Rep] at h
    obtain ⟨ab, sv, xs, h, hSab, hab, hrow, hrl⟩ := h
    injection h with h1 h2; subst h1; subst h2
    obtain ⟨a, g, cap, rfl, hadr, hcell⟩ := row_shape hrow
    obtain ⟨hxl, hrep⟩ := repL_at l xs hrl
    have hc0 : w.cell? ⟨ab, 0, none⟩ = some (.slice a xs.length cap) := by rw [Lib.cell_of_heap hab]; rfl
    have t1 : ∀ w : World, (Instr.typeAssert (.iface 146 (.pointer (some ⟨ab, 0, none⟩))) 53 146 true).run Tryz.prog w = .ok (.tuple #[.pointer (some ⟨ab, 0, none⟩), .bool true]) w := fun _ => by kernel_rfl
    have HI := readIndex_walk (strOf t) w (by rw [strOf_size]; exact ht)
    rw [strOf_toList] at HI
    cases hx : idxT t with
    | none =>
      have e0 : idxP t = .tuple #[.int .i64 0, .bool false] := by unfold idxP; rw [hx]
      rw [e0] at HI
      have HI' := hide HI
      have HC : Hid (childV (.arr l) t = none) := by show _ = _; rw [childV_arr, hx]; rfl
      clear HI e0 hx hrl hrow hrep hcell hadr
      generalize strOf t = st at *
      go_enter Tryz.func68, Tryz.ntmps68
      go_wp2_with fail
      refine (unhide HI').mono ?_
      rintro e w1 ⟨rfl, rfl⟩
      clear HI'
      go_wp2
      go_ret2
      exact ⟨rfl, .inl ⟨_, rfl, unhide HC⟩⟩
    | some i =>
      have e0 : idxP t = .tuple #[.int .i64 (i : Int), .bool true] := by unfold idxP; rw [hx]
      rw [e0] at HI
      have HI' := hide HI
      by_cases hl : i < xs.length
      · have tl : ¬ (xs.length : Int) ≤ (i : Int) := by omega
        have tl2 : decide ((xs.length : Int) ≤ (i : Int)) = false := decide_eq_false (by omega)
        have hltI : (i : Int) < (xs.length : Int) := by omega
        have hci := hcell i hl
        obtain rfl := (hadr (by omega)).1
        have HC : Hid (childV (.arr l) t = some (l.toL[i]'(by omega)) ∧ Rep w S (l.toL[i]'(by omega)) xs[i]) := ⟨by rw [childV_arr, hx]; simp [show i < l.toL.length by omega], hrep i hl (by omega)⟩
        clear HI e0 hx hrl hrow hrep hcell hadr
        generalize xs[i] = xi at *
        generalize strOf t = st at *
        go_enter Tryz.func68, Tryz.ntmps68
        go_wp2_with fail
        refine (unhide HI').mono ?_
        rintro e w1 ⟨rfl, rfl⟩
        clear HI'
        go_wp2
        go_ret2
        exact ⟨rfl, .inr ⟨_, _, rfl, (unhide HC).1, (unhide HC).2⟩⟩
      · have tl : (xs.length : Int) ≤ (i : Int) := by omega
        have tl2 : decide ((xs.length : Int) ≤ (i : Int)) = true := decide_eq_true (by omega)
        have HC : Hid (childV (.arr l) t = none) := by show _ = _; rw [childV_arr, hx]; simp; omega
        clear HI e0 hx hrl hrow hrep hcell hadr
        generalize strOf t = st at *
        go_enter Tryz.func68, Tryz.ntmps68
        go_wp2_with fail
        refine (unhide HI').mono ?_
        rintro e w1 ⟨rfl, rfl⟩
        clear HI'
        go_wp2
        go_ret2
        exact ⟨rfl, .inl ⟨_, rfl, unhide HC⟩⟩
  | obj m =>
    clear leaf
    rw [Rep] at h
    obtain ⟨ob, mb, nn, xs, h, hSob, hSmb, hob, hown, _, hrm⟩ := h
    injection h with h1 h2; subst h1; subst h2
    obtain ⟨hkeys, hrep⟩ := repM_at m xs hrm
    rw [twV] at htw
    have hnd := (twM_nodup m [] htw).1
    have hnd' : (xs.map (·.1)).Nodup := by rw [hkeys]; exact hnd
    have hc0 : w.cell? ⟨ob, 0, none⟩ = some (.map (some mb)) := by rw [Lib.cell_of_heap hob]; rfl
    have t1 : ∀ w : World, (Instr.typeAssert (.iface 152 (.pointer (some ⟨ob, 0, none⟩))) 53 146 true).run Tryz.prog w = .ok (.tuple #[.pointer none, .bool false]) w := fun _ => by kernel_rfl
    have t2 : ∀ w : World, (Instr.typeAssert (.iface 152 (.pointer (some ⟨ob, 0, none⟩))) 53 152 true).run Tryz.prog w = .ok (.tuple #[.pointer (some ⟨ob, 0, none⟩), .bool true]) w := fun _ => by kernel_rfl
    obtain ⟨xv, hlook, hlast⟩ := map_look hown t ht
    have hhas := lastV_has t xs
    rw [hkeys] at hhas
    cases hf : m.toL.find? fun q => q.1 == t with
    | none =>
      have HC : Hid (childV (.obj m) t = none) := by show _ = _; rw [childV_obj, hf]; rfl
      have hno : (lastV xs t).isSome = false := by
        rw [hhas, List.contains_eq_mem, decide_eq_false_iff_not, keysM_map]
        intro hm
        obtain ⟨q, hq, e⟩ := List.mem_map.1 hm
        exact find_key hf q hq e
      rw [hno] at hlook
      clear hrm hrep hkeys hnd hnd' hf hhas hno hlast hown htw
      generalize strOf t = st at *
      go_enter Tryz.func68, Tryz.ntmps68
      go_wp2
      go_ret2
      exact ⟨rfl, .inl ⟨_, rfl, unhide HC⟩⟩
    | some q =>
      have hq := List.mem_of_find?_eq_some hf
      have hqk : q.1 = t := by have := List.find?_some hf; simpa using this
      obtain ⟨x0, hx0, hr0⟩ := hrep q.1 q.2 hq
      have hl0 := lastV_of xs hnd' hx0
      rw [hqk] at hl0
      have hyes : (lastV xs t).isSome = true := by rw [hl0]; rfl
      have hxv : x0 = xv := by have := hlast hyes; rw [hl0] at this; injection this
      subst hxv
      rw [hyes] at hlook
      have HC : Hid (childV (.obj m) t = some q.2 ∧ Rep w S q.2 x0) := ⟨by rw [childV_obj, hf]; rfl, hr0⟩
      clear hrm hrep hkeys hnd hnd' hf hhas hyes hlast hown htw hl0 hx0 hr0
      generalize strOf t = st at *
      go_enter Tryz.func68, Tryz.ntmps68
      go_wp2
      go_ret2
      exact ⟨rfl, .inr ⟨_, _, rfl, (unhide HC).1, (unhide HC).2⟩⟩
end Go.Proofs.YtcffdclgddmigaaGreatDoor
