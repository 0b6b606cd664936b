import Derived.Test.YtekpghcckdjnhaaGreatDoorBa27
import Derived.Test.YtekpghcckdjnhaaGreatDoorBa28
set_option maxRecDepth 100000
set_option maxHeartbeats 8000000
namespace Go.Proofs.YtekpghcckdjnhaaGreatDoor
open Go.RowKit Go.Proofs.Tryz
abbrev rtW (s:ByteArray) (w:World) : World:=((w.alloc (.cells #[.string s,.int .i64 0,.bool false,.bool false] 184)).alloc (.cells #[.pointer (some ⟨w.heap.size,0,none⟩)] 180)).alloc (.cells #[.nilIface] 66)
theorem zsT (s:ByteArray) (w:World) : (rtW s w).heap.size=w.heap.size+3:=by simp
theorem zvf (s:ByteArray) (w:World) (o:Obj) : Rdr w.heap.size s 0 false false ((rtW s w).alloc o):=by
 unfold Rdr
 rw[Lib.alloc_old _ o _ (by simp; omega),Lib.alloc_old _ _ _ (by simp; omega),Lib.alloc_old _ _ _ (by simp)]
 exact yG w _
theorem zvg (s:ByteArray) (w:World) (o:Obj) : Var (w.heap.size+1) 180 (.pointer (some ⟨w.heap.size,0,none⟩)) ((rtW s w).alloc o):=by
 unfold Var
 rw[Lib.alloc_old _ o _ (by simp),Lib.alloc_old _ _ _ (by simp)]
 have:=yG (w.alloc (.cells #[.string s,.int .i64 0,.bool false,.bool false] 184)) (.cells #[.pointer (some ⟨w.heap.size,0,none⟩)] 180)
 simpa using this
theorem zsU (s:ByteArray) (w:World) (o:Obj) : Var (w.heap.size+1+1) 66 .nilIface ((rtW s w).alloc o):=by
 unfold Var
 rw[Lib.alloc_old _ o _ (by simp)]
 have:=yG ((w.alloc (.cells #[.string s,.int .i64 0,.bool false,.bool false] 184)).alloc (.cells #[.pointer (some ⟨w.heap.size,0,none⟩)] 180)) (.cells #[.nilIface] 66)
 simpa using this
theorem zqK (s:ByteArray) (w:World) (o:Obj) : Below w.heap.size w ((rtW s w).alloc o):=
 ((((yH _ _).alloc (ye _) _).alloc (by simp) _).alloc (by simp; omega) _).alloc (by simp; omega) _
theorem zho:∀ args (w:World),(callFunc 126 args).run prog w = .ok (.enter 126 args) w:=enters_of func126 (by kernel_rfl) rfl
theorem Var.below {b:Nat} {t:TypeId} {v:Value} {w w':World} (h:Var b t v w) (hb:Below w.heap.size w w') : Var b t v w':=(hb.block b h.lt).trans h
theorem Rdr.big {rb:Nat} {s:ByteArray} {i:Nat} {tb kt:Bool} {w:World} (h:Rdr rb s i tb kt w) : w.cell? ⟨rb,2,none⟩=some (.bool tb):=by rw[yF h]; rfl
theorem Rdr.twice {rb:Nat} {s:ByteArray} {i:Nat} {tb kt:Bool} {w:World} (h:Rdr rb s i tb kt w) : w.cell? ⟨rb,3,none⟩=some (.bool kt):=by rw[yF h]; rfl
def szV (d c b:Nat) : Value:=.agg #[.int .i64 (d:Int),.int .i64 (c:Int),.int .i64 (b:Int)]
abbrev szB (d c b:Nat) : Obj:=.cells #[.int .i64 (d:Int),.int .i64 (c:Int),.int .i64 (b:Int)] 188 (0,0)
def Szb (g d c b:Nat) (w:World) : Prop:=w.heap[g]?=some (szB d c b)
theorem Szb.c0 {g d c b:Nat} {w:World} (h:Szb g d c b w) : w.cell? ⟨g,0,none⟩=some (.int .i64 (d:Int)):=by rw[yF h]; rfl
theorem Szb.c1 {g d c b:Nat} {w:World} (h:Szb g d c b w) : w.cell? ⟨g,1,none⟩=some (.int .i64 (c:Int)):=by rw[yF h]; rfl
theorem Szb.c2 {g d c b:Nat} {w:World} (h:Szb g d c b w) : w.cell? ⟨g,2,none⟩=some (.int .i64 (b:Int)):=by rw[yF h]; rfl
theorem Szb.fz {g d c b:Nat} {w:World} (h:Szb g d c b w) (k:Nat) : w.frozen? ⟨g,k,none⟩=false:=yI h k
theorem Szb.lt {g d c b:Nat} {w:World} (h:Szb g d c b w) : g < w.heap.size:=(yB.1 h).1
theorem Szb.below {g d c b:Nat} {w w':World} (h:Szb g d c b w) (hb:Below w.heap.size w w') : Szb g d c b w':=(hb.block g h.lt).trans h
theorem Szb.alloc {g d c b:Nat} {w:World} (h:Szb g d c b w) (o:Obj) : Szb g d c b (w.alloc o):=h.below ((yH _ _).alloc (ye _) o)
theorem Szb.other {g d c b:Nat} {w:World} (h:Szb g d c b w) {p:Addr} (hp:g≠p.block) (v:Value) : Szb g d c b (w.setCell p v):=(Below.heap_setCell w p v g hp).trans h
theorem Szb.set0 {g d c b:Nat} {w:World} (h:Szb g d c b w) (z:Int) (n:Nat) (hz:z=(n:Int)) : Szb g n c b (w.setCell ⟨g,0,none⟩ (.int .i64 z)):=by
 subst hz; exact heap_setCell_same w g 0 _ 188 (.int .i64 (n:Int)) h
theorem Szb.set1 {g d c b:Nat} {w:World} (h:Szb g d c b w) (z:Int) (n:Nat) (hz:z=(n:Int)) : Szb g d n b (w.setCell ⟨g,1,none⟩ (.int .i64 z)):=by
 subst hz; exact heap_setCell_same w g 1 _ 188 (.int .i64 (n:Int)) h
theorem Szb.set2 {g d c b:Nat} {w:World} (h:Szb g d c b w) (z:Int) (n:Nat) (hz:z=(n:Int)) : Szb g d c n (w.setCell ⟨g,2,none⟩ (.int .i64 z)):=by
 subst hz; exact heap_setCell_same w g 2 _ 188 (.int .i64 (n:Int)) h
theorem Szb.put {g d c b:Nat} {w:World} (h:Szb g d c b w) (x y z:Int) (d' c' b':Nat) (hx:x=(d':Int)) (hy:y=(c':Int)) (hz:z=(b':Int)) :
  Szb g d' c' b' (((w.setCell ⟨g,0,none⟩ (.int .i64 x)).setCell ⟨g,1,none⟩ (.int .i64 y)).setCell ⟨g,2,none⟩ (.int .i64 z)):=((h.set0 x d' hx).set1 y c' hy).set2 z b' hz
theorem zf5 {B g:Nat} {w w':World} (h:Below B w w') (hg:B<=g) (a b c:Value) :
  Below B w (((w'.setCell ⟨g,0,none⟩ a).setCell ⟨g,1,none⟩ b).setCell ⟨g,2,none⟩ c):=
 ((h.setCell (p:=⟨g,0,none⟩) hg _).setCell (p:=⟨g,1,none⟩) hg _).setCell (p:=⟨g,2,none⟩) hg _
theorem zjy {fn:Func} (hres:fn.results=#[.cell 2 188]) {tmps:Array Value} {g d c b:Nat} {w:World} (hp:tmps.getD 2 undef = .pointer (some ⟨g,0,none⟩)) (h:Szb g d c b w) :
  (results fn tmps).run prog w = .ok (szV d c b) w:=
 results_cell_row hres tmps w g 188 _ (0,0) _ hp h underlying188 rfl (by kernel_rfl)
theorem zmv (w:World) : Szb w.heap.size 0 0 0 (w.alloc (szB 0 0 0)):=yG w _
theorem zcI (w:World) : Below w.heap.size w (w.alloc (szB 0 0 0)):=(yH _ _).alloc (ye _) _
theorem zqL (t:TypeId) (p:Value) (tx:List UInt8) (w:World)
  (h1:∀ w:World,(Instr.typeAssert (.iface t p) 66 195 true).run prog w = .ok (.tuple #[.pointer none,.bool false]) w)
  (h2:∀ w:World,(Instr.typeAssert (.iface t p) 66 225 true).run prog w = .ok (.tuple #[.pointer none,.bool false]) w)
  (hc:∀ w1,Below w.heap.size w w1->Calls prog 100 #[.iface t p] w1 fun e w'=>e = .returned (.string (zac tx))/\Below w1.heap.size w1 w') :
  Calls prog 129 #[.iface t p] w fun e w'=>e = .returned (szV 1 1 tx.length)/\Below w.heap.size w w':=by
 have HC:=zab (hc (w.alloc (szB 0 0 0)) (zcI w))
 have hz:(zac tx).size=tx.length:=zaf tx
 clear hc
 generalize zac tx=tb at *
 go_enter func129,ntmps129
 go_wp2_with fail
 refine (uh HC).mono ?_
 rintro e w1 ⟨rfl,b1⟩
 have R1:=(zmv w).below b1
 have r0:=R1.c0
 have r1:=R1.c1
 have r2:=R1.c2
 have q0:=R1.fz 0
 have q1:=R1.fz 1
 have q2:=R1.fz 2
 have RX:=zab (R1.put 1 1 (tx.length:Int) 1 1 tx.length rfl rfl rfl)
 have BX:=zab (zf5 (zaa (zcI w) b1) (ye _) (.int .i64 1) (.int .i64 1) (.int .i64 (tx.length:Int)))
 clear HC R1 b1
 go_wp2
 try simp only[Exit.inBlock,Exit.then]
 refine bodyPost_ret (zjy rfl rfl (uh RX)) rfl ?_
 exact⟨rfl,uh BX⟩
end Go.Proofs.YtekpghcckdjnhaaGreatDoor
