import Derived.Test.YtpaecnbdoljafaaGreatDoorBp22
import Derived.Test.YtpaecnbdoljafaaGreatDoorBp23
set_option maxRecDepth 100000
set_option maxHeartbeats 8000000
namespace Go.Proofs.YtpaecnbdoljafaaGreatDoor
open Go.RowKit Go.Proofs.Tryz
def CN(rb sc:Nat)(s:Bs)(tb kt:Bool)(L:Nat)(o:Option JV)(e:Ending)(w':Wo):Prop:=
 o.elim (e=QN) fun v=>∃ (t:TypeId) (p:Value),e= .returned (.tuple #[])/\qg sc 61 (.iface t p) w'/\zr rb s s.size (tb || zD v) (kt || zw v) w' /\
  (zD v=false->zw v=false->zl w' (fun k=>L<=k/\k<w'.heap.size) v (.iface t p))
theorem CO(rb pc sc:Nat)(s:Bs)(x:Value)(tb kt:Bool)(w:Wo)(h:zr rb s 0 tb kt w)(hp:qg pc 123 (.pointer (some ⟨rb,0,none⟩)) w)(hx:qg sc 61 x w)(h1:pc≠rb)(h2:sc≠rb)(h3:pc≠sc)(hs:s.size<=100000)(B:Nat)(hT:qc B w)(hE:q8 B w)(hB:B<=rb):
  Calls prog 76 #[.pointer (some ⟨pc,0,none⟩),.pointer (some ⟨sc,0,none⟩)] w fun e w'=>QG rb sc w w'/\CN rb sc s tb kt w.heap.size (qu s) e w':=by
 have n:=zh (CE rb s hs B hB (s.size - 0) 0 tb kt w (yd _) h (by omega) hT hE);have aa:=hx.lt;have X:=h.lt;have U:=hp.cell;have E:=zh hp;have F:=zh hx;have r:Hid (qu s=(val s (sk s 0)).bind fun q=>if sk s q.2=s.size then some q.1 else none):=rfl;clear hp hx h hT hE;go_in
 cases hv:val s (sk s 0)with
 | none=>
  rw[hv]at n;have l:Hid (qu s=none):=by show _=_;rw[uh r,hv];rfl
  clear hv r;go_wp2_with fail;refine (uh n).mono ?_;rintro e m ⟨d,rfl⟩;exact⟨rfl,d.two sc,by rw[uh l];rfl⟩
 | some q=>
  obtain⟨v,j⟩:=q;rw[hv]at n;have l:Hid (qu s=if sk s j=s.size then some v else none):=by show _=_;rw[uh r,hv];rfl
  clear hv r;go_wp2_with fail;refine (uh n).mono ?_;rintro e m ⟨d,t,p,rfl,K,f⟩;have y:=(uh F).kb d h2;have V:=y.cell;have W:=y.frozen;have N:=y.set (.iface t p);have J:=((uh E).kb d h1).other (p:=⟨sc,0,none⟩) h3 (.iface t p);have A:=J.cell;have L:=K.other (p:=⟨sc,0,none⟩) (fun e=>h2 e.symm) (.iface t p);have Y:=d.size;have o:(m.setCell ⟨sc,0,none⟩ (.iface t p)).heap.size=m.heap.size:=by simp[World.setCell]
  have I:=zh N;have H:=zh L;have z:=zh f;have K1:=zh d;have G:=zh ((d.two sc).set 0 (.iface t p));clear n K L y N J E F U f d;by_cases g:sk s j=s.size
  ·have u:=zh (Bx rb s (sk s j) _ _ _ (uh H) g);rw[yf g]at l;have O:=zh g;clear g;go_wp2_with fail;refine (uh u).mono ?_;rintro e D ⟨rfl,M,i⟩;have T:=zh ((uh I).kb i h2);have R:=zh M;have P:=zh ((uh G).trans (i.two sc));have Q:Hid (zD v=false->zw v=false->zl D (fun k=>w.heap.size<=k/\k<D.heap.size) v (.iface t p)):=fun a b=>by
    have Z:=i.size;refine zl.keep (w:=m) (S:=fun k=>w.heap.size<=k/\k<m.heap.size) (fun k hk=>?_) (fun k hk=>⟨hk.1,by have:=hk.2;omega⟩) v _ (uh z a b);exact (i.block k (by omega) (by omega)).trans (Below.heap_setCell m ⟨sc,0,none⟩ (.iface t p) k (by show k≠sc;omega))
   clear u I M V W A i o;go_wp2;go_end0;refine⟨uh P,?_⟩;rw[uh l];exact⟨t,p,rfl,uh T,by have:=uh R;rwa [uh O]at this,uh Q⟩
  ·have u:=zh (Bz rb s (sk s j) _ _ _ (uh H) g);rw[ye g]at l;clear g o;go_wp2_with fail;refine (uh u).mono ?_;rintro e D C;obtain⟨rfl,i⟩:=C;exact⟨rfl,(uh G).trans (i.two sc),by rw[uh l];rfl⟩
def SV(s:Bs)(w:Wo)(o:Option JV)(e:Ending)(w':Wo):Prop:=
 Bw w w'/\w.heap.size+3<=w'.heap.size/\o.elim (e= .returned (.bool false)) fun v=>∃ (t:TypeId) (p:Value),e= .returned (.bool true)/\qg (w.heap.size+1+1) 61 (.iface t p) w'/\qg (w.heap.size+1) 123 (.pointer (some ⟨w.heap.size,0,none⟩)) w' /\
  zr w.heap.size s s.size (zD v) (zw v) w'/\(zD v=false->zw v=false->zl w' (fun k=>w.heap.size+4<=k/\k<w'.heap.size) v (.iface t p))
theorem CP(s:Bs)(w:Wo)(hs:s.size<=100000)(hT:qc w.heap.size w)(hE:q8 w.heap.size w):
  Calls prog 75 #[.func (.func 76) #[] #[.pointer (some ⟨w.heap.size+1,0,none⟩),.pointer (some ⟨w.heap.size+1+1,0,none⟩)]] (qr s w) (SV s w (qu s)):=by
 have o:=CG s w;have h:=CK s w (.cells #[.bool false] 4);have j:=CI s w (.cells #[.bool false] 4);have c:=CO w.heap.size (w.heap.size+1) (w.heap.size+1+1) s .nilIface false false ((qr s w).alloc (.cells #[.bool false] 4)) (CH s w _) j (CJ s w _) (by omega) (by omega) (by omega) hs w.heap.size (hT.next h (yd _)) (hE.next h (yd _)) (yd _);have g:((qr s w).alloc (.cells #[.bool false] 4)).heap.size=w.heap.size+4:=by simp
 unfold SV
 cases hd:qu s with
 | none=>
  rw[hd]at c;refine (Bv 76 _ (qr s w) (fun d=>Bw w d/\w.heap.size+4<=d.heap.size) SU (c.mono ?_)).mono ?_
  ·rintro e d ⟨k,rfl⟩;have:=k.size;exact⟨rfl,(k.block (qr s w).heap.size (by omega) (by omega) (by omega)).trans (SC (qr s w)),h.trans (k.below (by omega) (by omega) (by omega)),by omega⟩
  ·rintro e u ⟨rfl,d,⟨b,l⟩,rfl⟩;have m:Bw w (d.alloc (.cells #[] 183)):=b.alloc (by omega) _;refine⟨m.setCell (p:=⟨(qr s w).heap.size,0,none⟩) (by show _<=(qr s w).heap.size;omega) _,?_,rfl⟩;simp[World.setCell];omega
 | some v=>
  rw[hd]at c;refine (Bu 76 _ (qr s w) (fun d=>Bw w d/\w.heap.size+4<=d.heap.size/\∃ (t:TypeId) (p:Value),qg (w.heap.size+1+1) 61 (.iface t p) d/\qg (w.heap.size+1) 123 (.pointer (some ⟨w.heap.size,0,none⟩)) d/\zr w.heap.size s s.size (zD v) (zw v) d/\(zD v=false->zw v=false->zl d (fun k=>w.heap.size+4<=k/\k<d.heap.size) v (.iface t p))) SU (c.mono ?_)).mono ?_
  ·rintro e d ⟨k,t,p,rfl,x,r,f⟩;have i:=k.size;rw[g]at f;exact⟨rfl,(k.block (qr s w).heap.size (by omega) (by omega) (by omega)).trans (SC (qr s w)),h.trans (k.below (by omega) (by omega) (by omega)),by omega,t,p,x,(k.block (w.heap.size+1) (by omega) (by omega) (by omega)).trans j,r,f⟩
  ·rintro e u ⟨rfl,d,⟨b,l,t,p,x,q,r,f⟩,rfl⟩;have n:(d.setCell ⟨(qr s w).heap.size,0,none⟩ (.bool true)).heap.size=d.heap.size:=by simp[World.setCell]
   refine⟨b.setCell (p:=⟨(qr s w).heap.size,0,none⟩) (by show _<=(qr s w).heap.size;omega) _,by omega,t,p,rfl,x.other (p:=⟨(qr s w).heap.size,0,none⟩) (by show _≠(qr s w).heap.size;omega) _,q.other (p:=⟨(qr s w).heap.size,0,none⟩) (by show _≠(qr s w).heap.size;omega) _,r.other (p:=⟨(qr s w).heap.size,0,none⟩) (by show _≠(qr s w).heap.size;omega) _,fun a c=>?_⟩;refine zl.keep (w:=d) (S:=fun k=>w.heap.size+4<=k/\k<d.heap.size) (fun k i=>?_) (fun k i=>⟨i.1,by have:=i.2;omega⟩) v _ (f a c);exact Below.heap_setCell d ⟨(qr s w).heap.size,0,none⟩ (.bool true) k (by show k≠(qr s w).heap.size;omega)
end Go.Proofs.YtpaecnbdoljafaaGreatDoor
