import Derived.Test.YtekpghcckdjnhaaGreatDoorBz21
import Derived.Test.YtekpghcckdjnhaaGreatDoorBz14
set_option maxRecDepth 100000
set_option maxHeartbeats 8000000
namespace Go.Proofs.YtekpghcckdjnhaaGreatDoor
open Go.RowKit Go.Proofs.Tryz
abbrev qP(s:Bs)(w:Wo):Wo:=((w.alloc (.cells #[.string s,.int .i64 0,.bool false,.bool false] 184)).alloc (.cells #[.pointer (some ⟨w.heap.size,0,none⟩)] 180)).alloc (.cells #[.nilIface] 66)
theorem za2(s:Bs)(w:Wo):(qP s w).heap.size=w.heap.size+3:=by simp
theorem za3(s:Bs)(w:Wo)(o:Obj):zo w.heap.size s 0 false false ((qP s w).alloc o):=by
 unfold zo;rw[Lib.alloc_old _ o _ (by simp;omega),Lib.alloc_old _ _ _ (by simp;omega),Lib.alloc_old _ _ _ (by simp)];exact yG w _
theorem za4(s:Bs)(w:Wo)(o:Obj):qE (w.heap.size+1) 180 (.pointer (some ⟨w.heap.size,0,none⟩)) ((qP s w).alloc o):=by
 unfold qE;rw[Lib.alloc_old _ o _ (by simp),Lib.alloc_old _ _ _ (by simp)];have:=yG (w.alloc (.cells #[.string s,.int .i64 0,.bool false,.bool false] 184)) (.cells #[.pointer (some ⟨w.heap.size,0,none⟩)] 180);simpa using this
theorem za5(s:Bs)(w:Wo)(o:Obj):qE (w.heap.size+1+1) 66 .nilIface ((qP s w).alloc o):=by
 unfold qE;rw[Lib.alloc_old _ o _ (by simp)];have:=yG ((w.alloc (.cells #[.string s,.int .i64 0,.bool false,.bool false] 184)).alloc (.cells #[.pointer (some ⟨w.heap.size,0,none⟩)] 180)) (.cells #[.nilIface] 66);simpa using this
theorem za6(s:Bs)(w:Wo)(o:Obj):Bw w ((qP s w).alloc o):=
 ((((yH _ _).alloc (ye _) _).alloc (by simp) _).alloc (by simp;omega) _).alloc (by simp;omega) _
theorem LA:∀ args (w:Wo),(callFunc 126 args).run prog w= .ok (.enter 126 args) w:=enters_of func126 (by kernel_rfl) rfl
theorem qE.below{b:Nat}{t:TypeId}{v:Value}{w w':Wo}(h:qE b t v w)(hb:Bw w w'):qE b t v w':=(hb.block b h.lt).trans h
theorem zo.big{rb:Nat}{s:Bs}{i:Nat}{tb kt:Bool}{w:Wo}(h:zo rb s i tb kt w):w.cell? ⟨rb,2,none⟩=some (.bool tb):=by rw[yF h];rfl
theorem zo.twice{rb:Nat}{s:Bs}{i:Nat}{tb kt:Bool}{w:Wo}(h:zo rb s i tb kt w):w.cell? ⟨rb,3,none⟩=some (.bool kt):=by rw[yF h];rfl
def JX(d c b:Nat):Value:=.agg #[.int .i64 (d:Int),.int .i64 (c:Int),.int .i64 (b:Int)]
abbrev ql(d c b:Nat):Obj:=.cells #[.int .i64 (d:Int),.int .i64 (c:Int),.int .i64 (b:Int)] 188 (0,0)
def Zi(g d c b:Nat)(w:Wo):Prop:=w.heap[g]?=some (ql d c b)
theorem Zi.c0{g d c b:Nat}{w:Wo}(h:Zi g d c b w):w.cell? ⟨g,0,none⟩=some (.int .i64 (d:Int)):=by rw[yF h];rfl
theorem Zi.c1{g d c b:Nat}{w:Wo}(h:Zi g d c b w):w.cell? ⟨g,1,none⟩=some (.int .i64 (c:Int)):=by rw[yF h];rfl
theorem Zi.c2{g d c b:Nat}{w:Wo}(h:Zi g d c b w):w.cell? ⟨g,2,none⟩=some (.int .i64 (b:Int)):=by rw[yF h];rfl
theorem Zi.fz{g d c b:Nat}{w:Wo}(h:Zi g d c b w)(k:Nat):w.frozen? ⟨g,k,none⟩=false:=yI h k
theorem Zi.lt{g d c b:Nat}{w:Wo}(h:Zi g d c b w):g<w.heap.size:=(yB.1 h).1
theorem Zi.below{g d c b:Nat}{w w':Wo}(h:Zi g d c b w)(hb:Bw w w'):Zi g d c b w':=(hb.block g h.lt).trans h
theorem Zi.alloc{g d c b:Nat}{w:Wo}(h:Zi g d c b w)(o:Obj):Zi g d c b (w.alloc o):=h.below ((yH _ _).alloc (ye _) o)
theorem Zi.other{g d c b:Nat}{w:Wo}(h:Zi g d c b w){p:Addr}(hp:g≠p.block)(v:Value):Zi g d c b (w.setCell p v):=(Below.heap_setCell w p v g hp).trans h
theorem Zi.set0{g d c b:Nat}{w:Wo}(h:Zi g d c b w)(z:Int)(n:Nat)(hz:z=(n:Int)):Zi g n c b (w.setCell ⟨g,0,none⟩ (.int .i64 z)):=by
 subst hz;exact heap_setCell_same w g 0 _ 188 (.int .i64 (n:Int)) h
theorem Zi.set1{g d c b:Nat}{w:Wo}(h:Zi g d c b w)(z:Int)(n:Nat)(hz:z=(n:Int)):Zi g d n b (w.setCell ⟨g,1,none⟩ (.int .i64 z)):=by
 subst hz;exact heap_setCell_same w g 1 _ 188 (.int .i64 (n:Int)) h
theorem Zi.set2{g d c b:Nat}{w:Wo}(h:Zi g d c b w)(z:Int)(n:Nat)(hz:z=(n:Int)):Zi g d c n (w.setCell ⟨g,2,none⟩ (.int .i64 z)):=by
 subst hz;exact heap_setCell_same w g 2 _ 188 (.int .i64 (n:Int)) h
theorem Zi.put{g d c b:Nat}{w:Wo}(h:Zi g d c b w)(x y z:Int)(d' c' b':Nat)(hx:x=(d':Int))(hy:y=(c':Int))(hz:z=(b':Int)):
  Zi g d' c' b' (((w.setCell ⟨g,0,none⟩ (.int .i64 x)).setCell ⟨g,1,none⟩ (.int .i64 y)).setCell ⟨g,2,none⟩ (.int .i64 z)):=((h.set0 x d' hx).set1 y c' hy).set2 z b' hz
theorem NB{B g:Nat}{w w':Wo}(h:Below B w w')(hg:B<=g)(a b c:Value):
  Below B w (((w'.setCell ⟨g,0,none⟩ a).setCell ⟨g,1,none⟩ b).setCell ⟨g,2,none⟩ c):=
 ((h.setCell (p:=⟨g,0,none⟩) hg _).setCell (p:=⟨g,1,none⟩) hg _).setCell (p:=⟨g,2,none⟩) hg _
theorem XQ{fn:Func}(hres:fn.results=#[.cell 2 188]){tmps:Array Value}{g d c b:Nat}{w:Wo}(hp:tmps.getD 2 undef= .pointer (some ⟨g,0,none⟩))(h:Zi g d c b w):
  (results fn tmps).run prog w= .ok (JX d c b) w:=
 results_cell_row hres tmps w g 188 _ (0,0) _ hp h underlying188 rfl (by kernel_rfl)
theorem NC(w:Wo):Zi w.heap.size 0 0 0 (w.alloc (ql 0 0 0)):=yG w _
theorem Wj(w:Wo):Bw w (w.alloc (ql 0 0 0)):=(yH _ _).alloc (ye _) _
theorem za7 (t:TypeId) (p:Value) (tx:List UInt8) (w:Wo)
  (h1:∀ w:Wo,(Instr.typeAssert (.iface t p) 66 195 true).run prog w= .ok (.tuple #[.pointer none,.bool false]) w)
  (h2:∀ w:Wo,(Instr.typeAssert (.iface t p) 66 225 true).run prog w= .ok (.tuple #[.pointer none,.bool false]) w)
  (hc:∀ w1,Bw w w1->Calls prog 100 #[.iface t p] w1 fun e w'=>e= .returned (.string (ze tx))/\Bw w1 w'):
  Calls prog 129 #[.iface t p] w fun e w'=>e= .returned (JX 1 1 tx.length)/\Bw w w':=by
 have d:=zb (hc (w.alloc (ql 0 0 0)) (Wj w));have h:(ze tx).size=tx.length:=Zw tx;clear hc;generalize ze tx=o at *;go_in;go_wp2_with fail;refine (uh d).mono ?_;rintro e w1 ⟨rfl,b⟩;have a:=(NC w).below b;have l:=a.c0;have m:=a.c1;have n:=a.c2;have i:=a.fz 0;have j:=a.fz 1;have k:=a.fz 2;have g:=zb (a.put 1 1 (tx.length:Int) 1 1 tx.length rfl rfl rfl);have f:=zb (NB (zh (Wj w) b) (ye _) (.int .i64 1) (.int .i64 1) (.int .i64 (tx.length:Int)));clear d a b;go_wp2;try simp only[Exit.inBlock,Exit.then]
 refine bodyPost_ret (XQ rfl rfl (uh g)) rfl ?_;exact⟨rfl,uh f⟩
end Go.Proofs.YtekpghcckdjnhaaGreatDoor
