import Derived.Test.YtpaecnbdoljafaaGreatDoorPatBase
namespace Go.Proofs.YtpaecnbdoljafaaGreatDoor
open Go.RowKit

/-- An operation, spoilt. -/
def spoilT (o : zk) (q : List UInt8) : zk × List UInt8 :=
  if (nx q).1 % 5 = 0 then (⟨(((nx q).1 / 5 % 8 : Nat) : Int), o.path, o.src, o.val⟩, (nx q).2)
  else if (nx q).1 % 5 = 1 then (⟨o.kind, (W8 o.path (nx q).2).1, o.src, o.val⟩, (W8 o.path (nx q).2).2)
  else if (nx q).1 % 5 = 2 then (⟨o.kind, o.path, (W8 o.src (nx q).2).1, o.val⟩, (W8 o.src (nx q).2).2)
  else if (nx q).1 % 5 = 3 then (⟨o.kind, o.path, o.src, (W8 o.val (nx q).2).1⟩, (W8 o.val (nx q).2).2)
  else (⟨o.kind, o.path, o.src, ⟨#[91, 32]⟩ ++ o.val ++ ⟨#[93]⟩⟩, (nx q).2)
/-- How long the parts of an operation may be. -/
def OpZ (o : zk) : Prop := o.path.size ≤ 40200 ∧ o.src.size ≤ 40200 ∧ o.val.size ≤ 20200
def OpY (o : zk) : Prop := o.path.size ≤ 40100 ∧ o.src.size ≤ 40100 ∧ o.val.size ≤ 20100
theorem chgDT_len (s : ByteArray) (q : List UInt8) : (W8 s q).1.size ≤ s.size + 20 := PE s _ _
theorem spoilT_z {o : zk} (h : OpY o) (q : List UInt8) : OpZ (spoilT o q).1 := by
  obtain ⟨h1, h2, h3⟩ := h
  have c1 := chgDT_len o.path (nx q).2
  have c2 := chgDT_len o.src (nx q).2
  have c3 := chgDT_len o.val (nx q).2
  have z1 : (⟨#[91, 32]⟩ : ByteArray).size = 2 := rfl
  have z2 : (⟨#[93]⟩ : ByteArray).size = 1 := rfl
  unfold spoilT OpZ
  repeat' split
  all_goals simp only [ByteArray.size_append]
  all_goals omega
structure SPx (B rb g3 g4 : Nat) (w wx : World) (q : List UInt8) (o : zk) : Prop where
  ds : DX B rb w q wx
  op : Zv wx g3 o
  r4 : Zv wx g4 ⟨0, ⟨#[]⟩, ⟨#[]⟩, ⟨#[]⟩⟩
  l3 : w.heap.size ≤ g3
  l4 : w.heap.size ≤ g4
  ne : g3 ≠ g4
  lt : rb < w.heap.size
section
variable {B rb g3 g4 : Nat} {w w1 w2 : World} {q r : List UInt8} {o : zk}
theorem SPx.step (h : SPx B rb g3 g4 w w1 q o) (d : DX B rb w1 r w2) : SPx B rb g3 g4 w w2 r o :=
  ⟨h.ds.step d, (d.gr.block g3 h.op.lt fun e => by injection e with e; have := h.lt; have := h.l3; omega).trans h.op, (d.gr.block g4 h.r4.lt fun e => by injection e with e; have := h.lt; have := h.l4; omega).trans h.r4, h.l3, h.l4, h.ne, h.lt⟩
theorem SPx.oth (h : SPx B rb g3 g4 w w1 q o) (i : Nat) (z : Value) : DX B rb w q (w1.setCell ⟨g3, i, none⟩ z) ∧ Zv (w1.setCell ⟨g3, i, none⟩ z) g4 ⟨0, ⟨#[]⟩, ⟨#[]⟩, ⟨#[]⟩⟩ :=
  ⟨h.ds.set (by have := h.lt; have := h.l3; omega) h.l3 z, (Below.heap_setCell _ _ _ _ (by show g4 ≠ g3; exact fun e => h.ne e.symm)).trans h.r4⟩
theorem SPx.s0 (h : SPx B rb g3 g4 w w1 q o) (z : Int) : SPx B rb g3 g4 w (w1.setCell ⟨g3, 0, none⟩ (.int .i64 z)) q ⟨z, o.path, o.src, o.val⟩ := ⟨(h.oth 0 _).1, h.op.s0 z, (h.oth 0 _).2, h.l3, h.l4, h.ne, h.lt⟩
theorem SPx.s1 (h : SPx B rb g3 g4 w w1 q o) (z : ByteArray) : SPx B rb g3 g4 w (w1.setCell ⟨g3, 1, none⟩ (.string z)) q ⟨o.kind, z, o.src, o.val⟩ := ⟨(h.oth 1 _).1, h.op.s1 z, (h.oth 1 _).2, h.l3, h.l4, h.ne, h.lt⟩
theorem SPx.s2 (h : SPx B rb g3 g4 w w1 q o) (z : ByteArray) : SPx B rb g3 g4 w (w1.setCell ⟨g3, 2, none⟩ (.string z)) q ⟨o.kind, o.path, z, o.val⟩ := ⟨(h.oth 2 _).1, h.op.s2 z, (h.oth 2 _).2, h.l3, h.l4, h.ne, h.lt⟩
theorem SPx.s3 (h : SPx B rb g3 g4 w w1 q o) (z : ByteArray) : SPx B rb g3 g4 w (w1.setCell ⟨g3, 3, none⟩ (.string z)) q ⟨o.kind, o.path, o.src, z⟩ := ⟨(h.oth 3 _).1, h.op.s3 z, (h.oth 3 _).2, h.l3, h.l4, h.ne, h.lt⟩
end
set_option maxRecDepth 100000 in
set_option maxHeartbeats 4000000 in
theorem spoilX_walk (B rb : Nat) (o : zk) (q : List UInt8) (w : World) (h : Zy w B rb q) (ho : OpY o) :
    Calls Tryz.prog 104 #[.pointer (some ⟨rb, 0, none⟩), .agg (qo o)] w fun e w' => e = .returned (.agg (qo (spoilT o q).1)) ∧ DX B rb w (spoilT o q).2 w' := by
  have hA := ZJ w (.cells (qo o) 59)
  have hA2 := ZJ (w.alloc (.cells (qo o) 59)) (.cells (qo ⟨0, ⟨#[]⟩, ⟨#[]⟩, ⟨#[]⟩⟩) 59)
  have kA : Zv (w.alloc (.cells (qo o) 59)) w.heap.size o := heap_alloc_new w _
  have zA : (w.alloc (.cells (qo o) 59)).heap.size = w.heap.size + 1 := by simp
  have k4 := heap_alloc_new (w.alloc (.cells (qo o) 59)) (.cells (qo ⟨0, ⟨#[]⟩, ⟨#[]⟩, ⟨#[]⟩⟩) 59)
  rw [zA] at k4
  have HS0 : Hid (SPx B rb w.heap.size (w.heap.size + 1) w ((w.alloc (.cells (qo o) 59)).alloc (.cells (qo ⟨0, ⟨#[]⟩, ⟨#[]⟩, ⟨#[]⟩⟩) 59)) q o) :=
    ⟨((DX.refl h).below hA).below hA2, kA.below hA2, k4, Nat.le_refl _, by omega, by omega, h.lt⟩
  have hrb := h.lt
  have HX := zh (QS B rb q _ (uh HS0).ds.rd)
  have hx := Qo q
  obtain ⟨o1, o2, o3⟩ := ho
  have HC1 := zh fun wx (h : Zy wx B rb (nx q).2) => PF B rb o.path (nx q).2 wx h (by omega)
  have HC2 := zh fun wx (h : Zy wx B rb (nx q).2) => PF B rb o.src (nx q).2 wx h (by omega)
  have HC3 := zh fun wx (h : Zy wx B rb (nx q).2) => PF B rb o.val (nx q).2 wx h (by omega)
  generalize hR : spoilT o q = R at *
  unfold spoilT at hR
  have HR := zh hR
  clear hA hA2 kA zA h hR k4
  generalize (nx q).1 = x at *
  generalize (nx q).2 = q1 at *
  go_enter Tryz.func104, Tryz.ntmps104
  go_wp2_with fail
  generalize World.alloc (World.alloc w _) _ = w0 at *
  generalize w.heap.size + 1 = g4 at *
  refine (uh HX).mono ?_
  rintro e w1 ⟨rfl, d1⟩
  have HS := zh ((uh HS0).step d1)
  clear HX d1 HS0
  obtain ⟨m, hm⟩ : ∃ m : Nat, m = x % 5 := ⟨_, rfl⟩
  have em : (x : Int) % 5 = (m : Int) := by omega
  have hm4 : m = 0 ∨ m = 1 ∨ m = 2 ∨ m = 3 ∨ m = 4 := by omega
  obtain ⟨b0, hb0⟩ : ∃ b : Bool, ((m : Int) == 0) = b := ⟨_, rfl⟩
  have HM := zh hm
  clear hm
  go_upto_if 10 with fail
  simp only [em]
  go_cut [] from 11 to 43 (fun wx => SPx B rb w.heap.size g4 w wx R.2 R.1)
  case first =>
    obtain ⟨c0, c1, c2, c3⟩ := (uh HS).op.c
    have f0 := (uh HS).op.fz 0
    have f3 := (uh HS).op.fz 3
    have hr := uh HR
    rw [← uh HM] at hr
    rcases hm4 with rfl | rfl | rfl | rfl | rfl
    · obtain rfl : true = b0 := by rw [← hb0]; rfl
      have hk : (x : Int) / 5 % 8 = ((x / 5 % 8 : Nat) : Int) := by omega
      rw [if_pos rfl] at hr
      subst hr
      have HS4 := zh ((uh HS).s0 ((x / 5 % 8 : Nat) : Int))
      clear HR HC1 HC2 HC3
      generalize x / 5 % 8 = kk at *
      go_wp2
      go_meet
      case rel => exact uh HS4
    · obtain rfl : false = b0 := by rw [← hb0]; rfl
      rw [if_neg (by decide), if_pos rfl] at hr
      subst hr
      have HC := zh (uh HC1 _ (uh HS).ds.rd)
      clear HR HC1 HC2 HC3
      generalize W8 o.path q1 = C at *
      go_wp2_with fail
      refine (uh HC).mono ?_
      rintro e w3 ⟨rfl, d3⟩
      have Z3 := zh ((uh HS).step d3)
      obtain ⟨-, dd1, -, -⟩ := (uh Z3).op.c
      have g3 := (uh Z3).op.fz 1
      have HS4 := zh ((uh Z3).s1 C.1)
      clear HC d3
      go_wp2
      go_meet
      case rel => exact uh HS4
    · obtain rfl : false = b0 := by rw [← hb0]; rfl
      rw [if_neg (by decide), if_neg (by decide), if_pos rfl] at hr
      subst hr
      have HC := zh (uh HC2 _ (uh HS).ds.rd)
      clear HR HC1 HC2 HC3
      generalize W8 o.src q1 = C at *
      go_wp2_with fail
      refine (uh HC).mono ?_
      rintro e w3 ⟨rfl, d3⟩
      have Z3 := zh ((uh HS).step d3)
      obtain ⟨-, -, dd1, -⟩ := (uh Z3).op.c
      have g3 := (uh Z3).op.fz 2
      have HS4 := zh ((uh Z3).s2 C.1)
      clear HC d3
      go_wp2
      go_meet
      case rel => exact uh HS4
    · obtain rfl : false = b0 := by rw [← hb0]; rfl
      rw [if_neg (by decide), if_neg (by decide), if_neg (by decide), if_pos rfl] at hr
      subst hr
      have HC := zh (uh HC3 _ (uh HS).ds.rd)
      clear HR HC1 HC2 HC3
      generalize W8 o.val q1 = C at *
      go_wp2_with fail
      refine (uh HC).mono ?_
      rintro e w3 ⟨rfl, d3⟩
      have Z3 := zh ((uh HS).step d3)
      obtain ⟨-, -, -, dd1⟩ := (uh Z3).op.c
      have g3 := (uh Z3).op.fz 3
      have HS4 := zh ((uh Z3).s3 C.1)
      clear HC d3
      go_wp2
      go_meet
      case rel => exact uh HS4
    · obtain rfl : false = b0 := by rw [← hb0]; rfl
      rw [if_neg (by decide), if_neg (by decide), if_neg (by decide), if_neg (by decide)] at hr
      subst hr
      have HS4 := zh ((uh HS).s3 (⟨#[91, 32]⟩ ++ o.val ++ ⟨#[93]⟩))
      clear HR HC1 HC2 HC3
      go_wp2
      go_meet
      case rel => exact uh HS4
  have hS := hcut
  clear hcut HS HR HC1 HC2 HC3
  obtain ⟨d0, d1, d2, d3⟩ := hS.op.c
  obtain ⟨e0, e1, e2, e3⟩ := hS.r4.c
  have f0 := hS.r4.fz 0
  have f1 := hS.r4.fz 1
  have f2 := hS.r4.fz 2
  have f3 := hS.r4.fz 3
  have HR4 := zh hS.r4
  have HD := zh hS.ds
  have hne : ¬ w.heap.size = g4 := hS.ne
  have hne2 : ¬ g4 = w.heap.size := fun h => hS.ne h.symm
  have hlt4 : rb < g4 := by have := hS.l4; omega
  have hl4 := hS.l4
  clear hS
  go_wp2
  refine bodyPost_ret (results_cell_row rfl _ _ g4 59 #[_, _, _, _] (0, 0) _ rfl (Jj (uh HR4) [_, _, _, _] rfl) Tryz.underlying59 rfl (by kernel_rfl)) rfl ?_
  exact ⟨rfl, ((((uh HD).set hlt4 hl4 _).set hlt4 hl4 _).set hlt4 hl4 _).set hlt4 hl4 _⟩
end Go.Proofs.YtpaecnbdoljafaaGreatDoor
