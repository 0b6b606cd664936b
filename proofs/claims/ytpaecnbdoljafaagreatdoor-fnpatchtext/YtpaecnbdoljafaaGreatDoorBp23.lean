import Derived.Test.YtpaecnbdoljafaaGreatDoorBp20
import Derived.Test.YtpaecnbdoljafaaGreatDoorBp10
set_option maxRecDepth 100000
set_option maxHeartbeats 8000000
namespace Go.Proofs.YtpaecnbdoljafaaGreatDoor
open Go.RowKit Go.Proofs.Tryz
abbrev qr(s:Bs)(w:Wo):Wo:=((w.alloc (.cells #[.string s,.int .i64 0,.bool false,.bool false] 127)).alloc (.cells #[.pointer (some ⟨w.heap.size,0,none⟩)] 123)).alloc (.cells #[.nilIface] 61)
theorem CG(s:Bs)(w:Wo):(qr s w).heap.size=w.heap.size+3:=by simp
theorem CH(s:Bs)(w:Wo)(o:Obj):zr w.heap.size s 0 false false ((qr s w).alloc o):=by
 unfold zr;rw[Lib.alloc_old _ o _ (by simp;omega),Lib.alloc_old _ _ _ (by simp;omega),Lib.alloc_old _ _ _ (by simp)];exact yF w _
theorem CI(s:Bs)(w:Wo)(o:Obj):qg (w.heap.size+1) 123 (.pointer (some ⟨w.heap.size,0,none⟩)) ((qr s w).alloc o):=by
 unfold qg;rw[Lib.alloc_old _ o _ (by simp),Lib.alloc_old _ _ _ (by simp)];have:=yF (w.alloc (.cells #[.string s,.int .i64 0,.bool false,.bool false] 127)) (.cells #[.pointer (some ⟨w.heap.size,0,none⟩)] 123);simpa using this
theorem CJ(s:Bs)(w:Wo)(o:Obj):qg (w.heap.size+1+1) 61 .nilIface ((qr s w).alloc o):=by
 unfold qg;rw[Lib.alloc_old _ o _ (by simp)];have:=yF ((w.alloc (.cells #[.string s,.int .i64 0,.bool false,.bool false] 127)).alloc (.cells #[.pointer (some ⟨w.heap.size,0,none⟩)] 123)) (.cells #[.nilIface] 61);simpa using this
theorem CK(s:Bs)(w:Wo)(o:Obj):Bw w ((qr s w).alloc o):=
 ((((yG _ _).alloc (yd _) _).alloc (by simp) _).alloc (by simp;omega) _).alloc (by simp;omega) _
theorem SU:∀ args (w:Wo),(callFunc 76 args).run prog w= .ok (.enter 76 args) w:=enters_of func76 (by kernel_rfl) rfl
theorem qg.below{b:Nat}{t:TypeId}{v:Value}{w w':Wo}(h:qg b t v w)(hb:Bw w w'):qg b t v w':=(hb.block b h.lt).trans h
theorem zr.big{rb:Nat}{s:Bs}{i:Nat}{tb kt:Bool}{w:Wo}(h:zr rb s i tb kt w):w.cell? ⟨rb,2,none⟩=some (.bool tb):=by rw[yE h];rfl
theorem zr.twice{rb:Nat}{s:Bs}{i:Nat}{tb kt:Bool}{w:Wo}(h:zr rb s i tb kt w):w.cell? ⟨rb,3,none⟩=some (.bool kt):=by rw[yE h];rfl
def Jx(d c b:Nat):Value:=.agg #[.int .i64 (d:Int),.int .i64 (c:Int),.int .i64 (b:Int)]
abbrev ZX(d c b:Nat):Obj:=.cells #[.int .i64 (d:Int),.int .i64 (c:Int),.int .i64 (b:Int)] 131 (0,0)
def z8(g d c b:Nat)(w:Wo):Prop:=w.heap[g]?=some (ZX d c b)
theorem z8.c0{g d c b:Nat}{w:Wo}(h:z8 g d c b w):w.cell? ⟨g,0,none⟩=some (.int .i64 (d:Int)):=by rw[yE h];rfl
theorem z8.c1{g d c b:Nat}{w:Wo}(h:z8 g d c b w):w.cell? ⟨g,1,none⟩=some (.int .i64 (c:Int)):=by rw[yE h];rfl
theorem z8.c2{g d c b:Nat}{w:Wo}(h:z8 g d c b w):w.cell? ⟨g,2,none⟩=some (.int .i64 (b:Int)):=by rw[yE h];rfl
theorem z8.fz{g d c b:Nat}{w:Wo}(h:z8 g d c b w)(k:Nat):w.frozen? ⟨g,k,none⟩=false:=yH h k
theorem z8.lt{g d c b:Nat}{w:Wo}(h:z8 g d c b w):g<w.heap.size:=(yA.1 h).1
theorem z8.below{g d c b:Nat}{w w':Wo}(h:z8 g d c b w)(hb:Bw w w'):z8 g d c b w':=(hb.block g h.lt).trans h
theorem z8.alloc{g d c b:Nat}{w:Wo}(h:z8 g d c b w)(o:Obj):z8 g d c b (w.alloc o):=h.below ((yG _ _).alloc (yd _) o)
theorem z8.other{g d c b:Nat}{w:Wo}(h:z8 g d c b w){p:Addr}(hp:g≠p.block)(v:Value):z8 g d c b (w.setCell p v):=(Below.heap_setCell w p v g hp).trans h
theorem z8.set0{g d c b:Nat}{w:Wo}(h:z8 g d c b w)(z:Int)(n:Nat)(hz:z=(n:Int)):z8 g n c b (w.setCell ⟨g,0,none⟩ (.int .i64 z)):=by
 subst hz;exact heap_setCell_same w g 0 _ 131 (.int .i64 (n:Int)) h
theorem z8.set1{g d c b:Nat}{w:Wo}(h:z8 g d c b w)(z:Int)(n:Nat)(hz:z=(n:Int)):z8 g d n b (w.setCell ⟨g,1,none⟩ (.int .i64 z)):=by
 subst hz;exact heap_setCell_same w g 1 _ 131 (.int .i64 (n:Int)) h
theorem z8.set2{g d c b:Nat}{w:Wo}(h:z8 g d c b w)(z:Int)(n:Nat)(hz:z=(n:Int)):z8 g d c n (w.setCell ⟨g,2,none⟩ (.int .i64 z)):=by
 subst hz;exact heap_setCell_same w g 2 _ 131 (.int .i64 (n:Int)) h
theorem z8.put{g d c b:Nat}{w:Wo}(h:z8 g d c b w)(x y z:Int)(d' c' b':Nat)(hx:x=(d':Int))(hy:y=(c':Int))(hz:z=(b':Int)):
  z8 g d' c' b' (((w.setCell ⟨g,0,none⟩ (.int .i64 x)).setCell ⟨g,1,none⟩ (.int .i64 y)).setCell ⟨g,2,none⟩ (.int .i64 z)):=((h.set0 x d' hx).set1 y c' hy).set2 z b' hz
theorem Oi{B g:Nat}{w w':Wo}(h:Below B w w')(hg:B<=g)(a b c:Value):
  Below B w (((w'.setCell ⟨g,0,none⟩ a).setCell ⟨g,1,none⟩ b).setCell ⟨g,2,none⟩ c):=
 ((h.setCell (p:=⟨g,0,none⟩) hg _).setCell (p:=⟨g,1,none⟩) hg _).setCell (p:=⟨g,2,none⟩) hg _
theorem Xa{fn:Func}(hres:fn.results=#[.cell 2 131]){tmps:Array Value}{g d c b:Nat}{w:Wo}(hp:tmps.getD 2 undef= .pointer (some ⟨g,0,none⟩))(h:z8 g d c b w):
  (results fn tmps).run prog w= .ok (Jx d c b) w:=
 results_cell_row hres tmps w g 131 _ (0,0) _ hp h underlying131 rfl (by kernel_rfl)
theorem Oj(w:Wo):z8 w.heap.size 0 0 0 (w.alloc (ZX 0 0 0)):=yF w _
theorem Gr(w:Wo):Bw w (w.alloc (ZX 0 0 0)):=(yG _ _).alloc (yd _) _
theorem CM (t:TypeId) (p:Value) (tx:List UInt8) (w:Wo)
  (h1:∀ w:Wo,(Instr.typeAssert (.iface t p) 61 102 true).run prog w= .ok (.tuple #[.pointer none,.bool false]) w)
  (h2:∀ w:Wo,(Instr.typeAssert (.iface t p) 61 173 true).run prog w= .ok (.tuple #[.pointer none,.bool false]) w)
  (hc:∀ w1,Bw w w1->Calls prog 36 #[.iface t p] w1 fun e w'=>e= .returned (.string (zi tx))/\Bw w1 w'):
  Calls prog 79 #[.iface t p] w fun e w'=>e= .returned (Jx 1 1 tx.length)/\Bw w w':=by
 have HC:=zh (hc (w.alloc (ZX 0 0 0)) (Gr w));have g:(zi tx).size=tx.length:=zS tx;clear hc;generalize zi tx=n at *;go_in;go_wp2_with fail;refine (uh HC).mono ?_;rintro e w1 ⟨rfl,b⟩;have a:=(Oj w).below b;have k:=a.c0;have l:=a.c1;have m:=a.c2;have h:=a.fz 0;have i:=a.fz 1;have j:=a.fz 2;have f:=zh (a.put 1 1 (tx.length:Int) 1 1 tx.length rfl rfl rfl);have d:=zh (Oi (zj (Gr w) b) (yd _) (.int .i64 1) (.int .i64 1) (.int .i64 (tx.length:Int)));clear HC a b;go_wp2;try simp only[Exit.inBlock,Exit.then]
 refine bodyPost_ret (Xa rfl rfl (uh f)) rfl ?_;exact⟨rfl,uh d⟩
end Go.Proofs.YtpaecnbdoljafaaGreatDoor
