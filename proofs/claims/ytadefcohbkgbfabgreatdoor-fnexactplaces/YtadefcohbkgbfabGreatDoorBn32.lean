import Derived.Test.YtadefcohbkgbfabGreatDoorBn10
import Derived.Test.YtadefcohbkgbfabGreatDoorBn30
import Derived.Test.YtadefcohbkgbfabGreatDoorBn31
namespace Go.Proofs.YtadefcohbkgbfabGreatDoor
open Go.RowKit

/-- A text read into the variable sc. -/
def TPost (rb sc : Nat) (s : ByteArray) (tb kt : Bool) (L : Nat) (o : Option JV) (e : Ending) (w' : World) : Prop :=
  o.elim (e = mis) fun v => ∃ (t : TypeId) (p : Value), e = .returned (.tuple #[]) ∧ Var sc 54 (.iface t p) w' ∧ Rdr rb s s.size (tb || bigV v) (kt || twV v) w' ∧
    (bigV v = false → twV v = false → Rep w' (fun k => L ≤ k ∧ k < w'.heap.size) v (.iface t p))

set_option maxHeartbeats 1600000 in
theorem text1_walk (rb pc sc : Nat) (s : ByteArray) (x : Value) (tb kt : Bool) (w : World) (h : Rdr rb s 0 tb kt w) (hp : Var pc 46 (.pointer (some ⟨rb, 0, none⟩)) w) (hx : Var sc 54 x w) (h1 : pc ≠ rb) (h2 : sc ≠ rb) (h3 : pc ≠ sc) (hs : s.size ≤ 100000) (B : Nat) (hT : TabsB B w) (hE : ErrB B w) (hB : B ≤ rb) :
    Calls Tryz.prog 53 #[.pointer (some ⟨pc, 0, none⟩), .pointer (some ⟨sc, 0, none⟩)] w fun e w' => KB2 rb sc w w' ∧ TPost rb sc s tb kt w.heap.size (docR s) e w' := by
  have HS := hide (readValue_walk rb s hs B hB (s.size - 0) 0 tb kt w (Nat.le_refl _) h (by omega) hT hE)
  have hxl := hx.lt
  have hlt := h.lt
  have cp := hp.cell
  have HP := hide hp
  have HX := hide hx
  have HD : Hid (docR s = (val s (sk s 0)).bind fun q => if sk s q.2 = s.size then some q.1 else none) := rfl
  clear hp hx h hT hE
  go_enter Tryz.func53, Tryz.ntmps53
  cases hv : val s (sk s 0) with
  | none =>
    rw [hv] at HS
    have HN : Hid (docR s = none) := by show _ = _; rw [unhide HD, hv]; rfl
    clear hv HD
    go_wp2_with fail
    refine (unhide HS).mono ?_
    rintro e w1 ⟨k1, rfl⟩
    exact ⟨rfl, k1.two sc, by rw [unhide HN]; rfl⟩
  | some q =>
    obtain ⟨v, j⟩ := q
    rw [hv] at HS
    have HN : Hid (docR s = if sk s j = s.size then some v else none) := by show _ = _; rw [unhide HD, hv]; rfl
    clear hv HD
    go_wp2_with fail
    refine (unhide HS).mono ?_
    rintro e w1 ⟨k1, t, p, rfl, r1, rep1⟩
    have x1 := (unhide HX).kb k1 h2
    have cx := x1.cell
    have fx := x1.frozen
    have x2 := x1.set (.iface t p)
    have p2 := ((unhide HP).kb k1 h1).other (p := ⟨sc, 0, none⟩) h3 (.iface t p)
    have cp2 := p2.cell
    have r2 := r1.other (p := ⟨sc, 0, none⟩) (fun e => h2 e.symm) (.iface t p)
    have hs1 := k1.size
    have hsz : (w1.setCell ⟨sc, 0, none⟩ (.iface t p)).heap.size = w1.heap.size := by simp [World.setCell]
    have X2 := hide x2
    have R2 := hide r2
    have REP := hide rep1
    have K1 := hide k1
    have K2 := hide ((k1.two sc).set 0 (.iface t p))
    clear HS r1 r2 x1 x2 p2 HP HX cp rep1 k1
    by_cases hj : sk s j = s.size
    · have HE := hide (readEnd_at rb s (sk s j) _ _ _ (unhide R2) hj)
      rw [if_pos hj] at HN
      have HJ := hide hj
      clear hj
      go_wp2_with fail
      refine (unhide HE).mono ?_
      rintro e w2 ⟨rfl, r3, k3⟩
      have X3 := hide ((unhide X2).kb k3 h2)
      have R3 := hide r3
      have K3 := hide ((unhide K2).trans (k3.two sc))
      have Q3 : Hid (bigV v = false → twV v = false → Rep w2 (fun k => w.heap.size ≤ k ∧ k < w2.heap.size) v (.iface t p)) := fun a b => by
        have hs3 := k3.size
        refine Rep.keep (w := w1) (S := fun k => w.heap.size ≤ k ∧ k < w1.heap.size) (fun k hk => ?_) (fun k hk => ⟨hk.1, by have := hk.2; omega⟩) v _ (unhide REP a b)
        exact (k3.block k (by omega) (by omega)).trans (Below.heap_setCell w1 ⟨sc, 0, none⟩ (.iface t p) k (by show k ≠ sc; omega))
      clear HE X2 r3 cx fx cp2 k3 hsz
      go_wp2
      go_end0
      refine ⟨unhide K3, ?_⟩
      rw [unhide HN]
      exact ⟨t, p, rfl, unhide X3, by have := unhide R3; rwa [unhide HJ] at this, unhide Q3⟩
    · have HE := hide (readEnd_not rb s (sk s j) _ _ _ (unhide R2) hj)
      rw [if_neg hj] at HN
      clear hj hsz
      go_wp2_with fail
      refine (unhide HE).mono ?_
      rintro e w2 hp2
      obtain ⟨rfl, k3⟩ := hp2
      exact ⟨rfl, (unhide K2).trans (k3.two sc), by rw [unhide HN]; rfl⟩
end Go.Proofs.YtadefcohbkgbfabGreatDoor


namespace Go.Proofs.YtadefcohbkgbfabGreatDoor
open Go.RowKit

/-- What readText finds behind fits: the value in its variable, the reader's two marks. -/
def FPost (s : ByteArray) (w : World) (o : Option JV) (e : Ending) (w' : World) : Prop :=
  Below w.heap.size w w' ∧ w.heap.size + 3 ≤ w'.heap.size ∧ o.elim (e = .returned (.bool false)) fun v => ∃ (t : TypeId) (p : Value), e = .returned (.bool true) ∧ Var (w.heap.size + 1 + 1) 54 (.iface t p) w' ∧ Var (w.heap.size + 1) 46 (.pointer (some ⟨w.heap.size, 0, none⟩)) w' ∧
    Rdr w.heap.size s s.size (bigV v) (twV v) w' ∧ (bigV v = false → twV v = false → Rep w' (fun k => w.heap.size + 4 ≤ k ∧ k < w'.heap.size) v (.iface t p))

theorem fitsText_walk (s : ByteArray) (w : World) (hs : s.size ≤ 100000) (hT : TabsB w.heap.size w) (hE : ErrB w.heap.size w) :
    Calls Tryz.prog 30 #[.func (.func 53) #[] #[.pointer (some ⟨w.heap.size + 1, 0, none⟩), .pointer (some ⟨w.heap.size + 1 + 1, 0, none⟩)]] (rtW s w) (FPost s w (docR s)) := by
  have hsz := rtW_size s w
  have hb := rtW_below s w (.cells #[.bool false] 4)
  have hp := rtW_ptr s w (.cells #[.bool false] 4)
  have c := text1_walk w.heap.size (w.heap.size + 1) (w.heap.size + 1 + 1) s .nilIface false false ((rtW s w).alloc (.cells #[.bool false] 4)) (rtW_rdr s w _) hp (rtW_root s w _) (by omega) (by omega) (by omega) hs w.heap.size (hT.next hb (Nat.le_refl _)) (hE.next hb (Nat.le_refl _)) (Nat.le_refl _)
  have hsz4 : ((rtW s w).alloc (.cells #[.bool false] 4)).heap.size = w.heap.size + 4 := by simp
  unfold FPost
  cases hd : docR s with
  | none =>
    rw [hd] at c
    refine (fits_mis 53 _ (rtW s w) (fun w1 => Below w.heap.size w w1 ∧ w.heap.size + 4 ≤ w1.heap.size) enters_text (c.mono ?_)).mono ?_
    · rintro e w1 ⟨k, rfl⟩
      have := k.size
      exact ⟨rfl, (k.block (rtW s w).heap.size (by omega) (by omega) (by omega)).trans (ok_new (rtW s w)), hb.trans (k.below (by omega) (by omega) (by omega)), by omega⟩
    · rintro e w' ⟨rfl, w1, ⟨b, h4⟩, rfl⟩
      have ha : Below w.heap.size w (w1.alloc (.cells #[] 84)) := b.alloc (by omega) _
      refine ⟨ha.setCell (p := ⟨(rtW s w).heap.size, 0, none⟩) (by show _ ≤ (rtW s w).heap.size; omega) _, ?_, rfl⟩
      simp [World.setCell]; omega
  | some v =>
    rw [hd] at c
    refine (fits_ok 53 _ (rtW s w) (fun w1 => Below w.heap.size w w1 ∧ w.heap.size + 4 ≤ w1.heap.size ∧ ∃ (t : TypeId) (p : Value), Var (w.heap.size + 1 + 1) 54 (.iface t p) w1 ∧ Var (w.heap.size + 1) 46 (.pointer (some ⟨w.heap.size, 0, none⟩)) w1 ∧ Rdr w.heap.size s s.size (bigV v) (twV v) w1 ∧ (bigV v = false → twV v = false → Rep w1 (fun k => w.heap.size + 4 ≤ k ∧ k < w1.heap.size) v (.iface t p))) enters_text (c.mono ?_)).mono ?_
    · rintro e w1 ⟨k, t, p, rfl, x, r, rep⟩
      have hk := k.size
      rw [hsz4] at rep
      exact ⟨rfl, (k.block (rtW s w).heap.size (by omega) (by omega) (by omega)).trans (ok_new (rtW s w)), hb.trans (k.below (by omega) (by omega) (by omega)), by omega, t, p, x, (k.block (w.heap.size + 1) (by omega) (by omega) (by omega)).trans hp, r, rep⟩
    · rintro e w' ⟨rfl, w1, ⟨b, h4, t, p, x, pp, r, rep⟩, rfl⟩
      have hss : (w1.setCell ⟨(rtW s w).heap.size, 0, none⟩ (.bool true)).heap.size = w1.heap.size := by simp [World.setCell]
      refine ⟨b.setCell (p := ⟨(rtW s w).heap.size, 0, none⟩) (by show _ ≤ (rtW s w).heap.size; omega) _, by omega, t, p, rfl, x.other (p := ⟨(rtW s w).heap.size, 0, none⟩) (by show _ ≠ (rtW s w).heap.size; omega) _, pp.other (p := ⟨(rtW s w).heap.size, 0, none⟩) (by show _ ≠ (rtW s w).heap.size; omega) _, r.other (p := ⟨(rtW s w).heap.size, 0, none⟩) (by show _ ≠ (rtW s w).heap.size; omega) _, fun a c => ?_⟩
      refine Rep.keep (w := w1) (S := fun k => w.heap.size + 4 ≤ k ∧ k < w1.heap.size) (fun k hk => ?_) (fun k hk => ⟨hk.1, by have := hk.2; omega⟩) v _ (rep a c)
      exact Below.heap_setCell w1 ⟨(rtW s w).heap.size, 0, none⟩ (.bool true) k (by show k ≠ (rtW s w).heap.size; omega)
end Go.Proofs.YtadefcohbkgbfabGreatDoor

