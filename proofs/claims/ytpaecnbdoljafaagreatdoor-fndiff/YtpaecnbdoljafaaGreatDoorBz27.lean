import Derived.Test.YtpaecnbdoljafaaGreatDoorBz25
import Derived.Test.YtpaecnbdoljafaaGreatDoorBz26
set_option maxRecDepth 100000
set_option maxHeartbeats 8000000
namespace Go.Proofs.YtpaecnbdoljafaaGreatDoor
open Go.RowKit Go.Proofs.Tryz
def zce(rb sc:Nat)(s:Bs)(tb kt:Bool)(L:Nat)(o:Option JV)(e:Ending)(w':Wo):Prop:=
 o.elim (e=Js) fun v=>∃ (t:TypeId) (p:Value),e= .returned (.tuple #[])/\qZ sc 61 (.iface t p) w'/\zE rb s s.size (tb || zV v) (kt || zw v) w' /\
  (zV v=false->zw v=false->zk w' (fun k=>L<=k/\k<w'.heap.size) v (.iface t p))
theorem zcf(rb pc sc:Nat)(s:Bs)(x:Value)(tb kt:Bool)(w:Wo)(h:zE rb s 0 tb kt w)(hp:qZ pc 123 (.pointer (some ⟨rb,0,none⟩)) w)(hx:qZ sc 61 x w)(h1:pc≠rb)(h2:sc≠rb)(h3:pc≠sc)(hs:s.size<=100000)(B:Nat)(hT:qL B w)(hE:Qt B w)(hB:B<=rb):
  Calls prog 76 #[.pointer (some ⟨pc,0,none⟩),.pointer (some ⟨sc,0,none⟩)] w fun e w'=>Jn rb sc w w'/\zce rb sc s tb kt w.heap.size (Qa s) e w':=by
 have n:=ze (zb5 rb s hs B hB (s.size - 0) 0 tb kt w (ye _) h (by omega) hT hE);have aa:=hx.lt;have X:=h.lt;have U:=hp.cell;have E:=ze hp;have F:=ze hx;have r:Hid (Qa s=(val s (sk s 0)).bind fun q=>if sk s q.2=s.size then some q.1 else none):=rfl;clear hp hx h hT hE;go_in
 cases hv:val s (sk s 0)with
 | none=>
  rw[hv]at n;have l:Hid (Qa s=none):=by show _=_;rw[uh r,hv];rfl
  clear hv r;go_wp2_with fail;refine (uh n).mono ?_;rintro e m ⟨d,rfl⟩;exact⟨rfl,d.two sc,by rw[uh l];rfl⟩
 | some q=>
  obtain⟨v,j⟩:=q;rw[hv]at n;have l:Hid (Qa s=if sk s j=s.size then some v else none):=by show _=_;rw[uh r,hv];rfl
  clear hv r;go_wp2_with fail;refine (uh n).mono ?_;rintro e m ⟨d,t,p,rfl,K,f⟩;have y:=(uh F).kb d h2;have V:=y.cell;have W:=y.frozen;have N:=y.set (.iface t p);have J:=((uh E).kb d h1).other (p:=⟨sc,0,none⟩) h3 (.iface t p);have A:=J.cell;have L:=K.other (p:=⟨sc,0,none⟩) (fun e=>h2 e.symm) (.iface t p);have Y:=d.size;have o:(m.setCell ⟨sc,0,none⟩ (.iface t p)).heap.size=m.heap.size:=by simp[World.setCell]
  have I:=ze N;have H:=ze L;have z:=ze f;have K1:=ze d;have G:=ze ((d.two sc).set 0 (.iface t p));clear n K L y N J E F U f d;by_cases g:sk s j=s.size
  ·have u:=ze (zba rb s (sk s j) _ _ _ (uh H) g);rw[yg g]at l;have O:=ze g;clear g;go_wp2_with fail;refine (uh u).mono ?_;rintro e D ⟨rfl,M,i⟩;have T:=ze ((uh I).kb i h2);have R:=ze M;have P:=ze ((uh G).trans (i.two sc));have Q:Hid (zV v=false->zw v=false->zk D (fun k=>w.heap.size<=k/\k<D.heap.size) v (.iface t p)):=fun a b=>by
    have Z:=i.size;refine zk.keep (w:=m) (S:=fun k=>w.heap.size<=k/\k<m.heap.size) (fun k hk=>?_) (fun k hk=>⟨hk.1,by have:=hk.2;omega⟩) v _ (uh z a b);exact (i.block k (by omega) (by omega)).trans (Below.heap_setCell m ⟨sc,0,none⟩ (.iface t p) k (by show k≠sc;omega))
   clear u I M V W A i o;go_wp2;go_end0;refine⟨uh P,?_⟩;rw[uh l];exact⟨t,p,rfl,uh T,by have:=uh R;rwa [uh O]at this,uh Q⟩
  ·have u:=ze (zbb rb s (sk s j) _ _ _ (uh H) g);rw[yf g]at l;clear g o;go_wp2_with fail;refine (uh u).mono ?_;rintro e D C;obtain⟨rfl,i⟩:=C;exact⟨rfl,(uh G).trans (i.two sc),by rw[uh l];rfl⟩
def Tl(s:Bs)(w:Wo)(o:Option JV)(e:Ending)(w':Wo):Prop:=
 Bw w w'/\w.heap.size+3<=w'.heap.size/\o.elim (e= .returned (.bool false)) fun v=>∃ (t:TypeId) (p:Value),e= .returned (.bool true)/\qZ (w.heap.size+1+1) 61 (.iface t p) w'/\qZ (w.heap.size+1) 123 (.pointer (some ⟨w.heap.size,0,none⟩)) w' /\
  zE w.heap.size s s.size (zV v) (zw v) w'/\(zV v=false->zw v=false->zk w' (fun k=>w.heap.size+4<=k/\k<w'.heap.size) v (.iface t p))
theorem zcg(s:Bs)(w:Wo)(hs:s.size<=100000)(hT:qL w.heap.size w)(hE:Qt w.heap.size w):
  Calls prog 75 #[.func (.func 76) #[] #[.pointer (some ⟨w.heap.size+1,0,none⟩),.pointer (some ⟨w.heap.size+1+1,0,none⟩)]] (q9 s w) (Tl s w (Qa s)):=by
 have o:=zb8 s w;have h:=zcc s w (.cells #[.bool false] 4);have j:=zca s w (.cells #[.bool false] 4);have c:=zcf w.heap.size (w.heap.size+1) (w.heap.size+1+1) s .nilIface false false ((q9 s w).alloc (.cells #[.bool false] 4)) (zb9 s w _) j (zcb s w _) (by omega) (by omega) (by omega) hs w.heap.size (hT.next h (ye _)) (hE.next h (ye _)) (ye _);have g:((q9 s w).alloc (.cells #[.bool false] 4)).heap.size=w.heap.size+4:=by simp
 unfold Tl
 cases hd:Qa s with
 | none=>
  rw[hd]at c;refine (zbV 76 _ (q9 s w) (fun d=>Bw w d/\w.heap.size+4<=d.heap.size) Tk (c.mono ?_)).mono ?_
  ·rintro e d ⟨k,rfl⟩;have:=k.size;exact⟨rfl,(k.block (q9 s w).heap.size (by omega) (by omega) (by omega)).trans (MY (q9 s w)),h.trans (k.below (by omega) (by omega) (by omega)),by omega⟩
  ·rintro e u ⟨rfl,d,⟨b,l⟩,rfl⟩;have m:Bw w (d.alloc (.cells #[] 183)):=b.alloc (by omega) _;refine⟨m.setCell (p:=⟨(q9 s w).heap.size,0,none⟩) (by show _<=(q9 s w).heap.size;omega) _,?_,rfl⟩;simp[World.setCell];omega
 | some v=>
  rw[hd]at c;refine (zbU 76 _ (q9 s w) (fun d=>Bw w d/\w.heap.size+4<=d.heap.size/\∃ (t:TypeId) (p:Value),qZ (w.heap.size+1+1) 61 (.iface t p) d/\qZ (w.heap.size+1) 123 (.pointer (some ⟨w.heap.size,0,none⟩)) d/\zE w.heap.size s s.size (zV v) (zw v) d/\(zV v=false->zw v=false->zk d (fun k=>w.heap.size+4<=k/\k<d.heap.size) v (.iface t p))) Tk (c.mono ?_)).mono ?_
  ·rintro e d ⟨k,t,p,rfl,x,r,f⟩;have i:=k.size;rw[g]at f;exact⟨rfl,(k.block (q9 s w).heap.size (by omega) (by omega) (by omega)).trans (MY (q9 s w)),h.trans (k.below (by omega) (by omega) (by omega)),by omega,t,p,x,(k.block (w.heap.size+1) (by omega) (by omega) (by omega)).trans j,r,f⟩
  ·rintro e u ⟨rfl,d,⟨b,l,t,p,x,q,r,f⟩,rfl⟩;have n:(d.setCell ⟨(q9 s w).heap.size,0,none⟩ (.bool true)).heap.size=d.heap.size:=by simp[World.setCell]
   refine⟨b.setCell (p:=⟨(q9 s w).heap.size,0,none⟩) (by show _<=(q9 s w).heap.size;omega) _,by omega,t,p,rfl,x.other (p:=⟨(q9 s w).heap.size,0,none⟩) (by show _≠(q9 s w).heap.size;omega) _,q.other (p:=⟨(q9 s w).heap.size,0,none⟩) (by show _≠(q9 s w).heap.size;omega) _,r.other (p:=⟨(q9 s w).heap.size,0,none⟩) (by show _≠(q9 s w).heap.size;omega) _,fun a c=>?_⟩;refine zk.keep (w:=d) (S:=fun k=>w.heap.size+4<=k/\k<d.heap.size) (fun k i=>?_) (fun k i=>⟨i.1,by have:=i.2;omega⟩) v _ (f a c);exact Below.heap_setCell d ⟨(q9 s w).heap.size,0,none⟩ (.bool true) k (by show k≠(q9 s w).heap.size;omega)
end Go.Proofs.YtpaecnbdoljafaaGreatDoor
