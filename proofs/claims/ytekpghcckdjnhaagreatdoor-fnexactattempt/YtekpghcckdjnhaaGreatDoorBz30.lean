import Derived.Test.YtekpghcckdjnhaaGreatDoorBz28
import Derived.Test.YtekpghcckdjnhaaGreatDoorBz29
set_option maxRecDepth 100000
set_option maxHeartbeats 8000000
namespace Go.Proofs.YtekpghcckdjnhaaGreatDoor
open Go.RowKit Go.Proofs.Tryz
def zbS(rb sc:Nat)(s:Bs)(tb kt:Bool)(L:Nat)(o:Option JV)(e:Ending)(w':Wo):Prop:=
 o.elim (e=Jg) fun v=>∃ (t:TypeId) (p:Value),e= .returned (.tuple #[])/\qE sc 66 (.iface t p) w'/\zo rb s s.size (tb || zY v) (kt || zy v) w' /\
  (zY v=false->zy v=false->zi w' (fun k=>L<=k/\k<w'.heap.size) v (.iface t p))
theorem zbT(rb pc sc:Nat)(s:Bs)(x:Value)(tb kt:Bool)(w:Wo)(h:zo rb s 0 tb kt w)(hp:qE pc 180 (.pointer (some ⟨rb,0,none⟩)) w)(hx:qE sc 66 x w)(h1:pc≠rb)(h2:sc≠rb)(h3:pc≠sc)(hs:s.size<=100000)(B:Nat)(hT:qJ B w)(hE:Qr B w)(hB:B<=rb):
  Calls prog 126 #[.pointer (some ⟨pc,0,none⟩),.pointer (some ⟨sc,0,none⟩)] w fun e w'=>Jc rb sc w w'/\zbS rb sc s tb kt w.heap.size (Qj s) e w':=by
 have n:=zb (zaZ rb s hs B hB (s.size - 0) 0 tb kt w (ye _) h (by omega) hT hE);have Z:=hx.lt;have W:=h.lt;have cp:=hp.cell;have E:=zb hp;have F:=zb hx;have r:Hid (Qj s=(val s (sk s 0)).bind fun q=>if sk s q.2=s.size then some q.1 else none):=rfl;clear hp hx h hT hE;go_in
 cases hv:val s (sk s 0)with
 | none=>
  rw[hv]at n;have l:Hid (Qj s=none):=by show _=_;rw[uh r,hv];rfl
  clear hv r;go_wp2_with fail;refine (uh n).mono ?_;rintro e m ⟨d,rfl⟩;exact⟨rfl,d.two sc,by rw[uh l];rfl⟩
 | some q=>
  obtain⟨v,j⟩:=q;rw[hv]at n;have l:Hid (Qj s=if sk s j=s.size then some v else none):=by show _=_;rw[uh r,hv];rfl
  clear hv r;go_wp2_with fail;refine (uh n).mono ?_;rintro e m ⟨d,t,p,rfl,K,f⟩;have y:=(uh F).kb d h2;have U:=y.cell;have V:=y.frozen;have N:=y.set (.iface t p);have J:=((uh E).kb d h1).other (p:=⟨sc,0,none⟩) h3 (.iface t p);have A:=J.cell;have L:=K.other (p:=⟨sc,0,none⟩) (fun e=>h2 e.symm) (.iface t p);have X:=d.size;have o:(m.setCell ⟨sc,0,none⟩ (.iface t p)).heap.size=m.heap.size:=by simp[World.setCell]
  have I:=zb N;have H:=zb L;have z:=zb f;have K1:=zb d;have G:=zb ((d.two sc).set 0 (.iface t p));clear n K L y N J E F cp f d;by_cases g:sk s j=s.size
  ·have u:=zb (za8 rb s (sk s j) _ _ _ (uh H) g);rw[yg g]at l;have O:=zb g;clear g;go_wp2_with fail;refine (uh u).mono ?_;rintro e D ⟨rfl,M,i⟩;have T:=zb ((uh I).kb i h2);have R:=zb M;have P:=zb ((uh G).trans (i.two sc));have Q:Hid (zY v=false->zy v=false->zi D (fun k=>w.heap.size<=k/\k<D.heap.size) v (.iface t p)):=fun a b=>by
    have Y:=i.size;refine zi.keep (w:=m) (S:=fun k=>w.heap.size<=k/\k<m.heap.size) (fun k hk=>?_) (fun k hk=>⟨hk.1,by have:=hk.2;omega⟩) v _ (uh z a b);exact (i.block k (by omega) (by omega)).trans (Below.heap_setCell m ⟨sc,0,none⟩ (.iface t p) k (by show k≠sc;omega))
   clear u I M U V A i o;go_wp2;go_end0;refine⟨uh P,?_⟩;rw[uh l];exact⟨t,p,rfl,uh T,by have:=uh R;rwa [uh O]at this,uh Q⟩
  ·have u:=zb (za9 rb s (sk s j) _ _ _ (uh H) g);rw[yf g]at l;clear g o;go_wp2_with fail;refine (uh u).mono ?_;rintro e D C;obtain⟨rfl,i⟩:=C;exact⟨rfl,(uh G).trans (i.two sc),by rw[uh l];rfl⟩
def Mt(s:Bs)(w:Wo)(o:Option JV)(e:Ending)(w':Wo):Prop:=
 Bw w w'/\w.heap.size+3<=w'.heap.size/\o.elim (e= .returned (.bool false)) fun v=>∃ (t:TypeId) (p:Value),e= .returned (.bool true)/\qE (w.heap.size+1+1) 66 (.iface t p) w'/\qE (w.heap.size+1) 180 (.pointer (some ⟨w.heap.size,0,none⟩)) w' /\
  zo w.heap.size s s.size (zY v) (zy v) w'/\(zY v=false->zy v=false->zi w' (fun k=>w.heap.size+4<=k/\k<w'.heap.size) v (.iface t p))
theorem zbU(s:Bs)(w:Wo)(hs:s.size<=100000)(hT:qJ w.heap.size w)(hE:Qr w.heap.size w):
  Calls prog 125 #[.func (.func 126) #[] #[.pointer (some ⟨w.heap.size+1,0,none⟩),.pointer (some ⟨w.heap.size+1+1,0,none⟩)]] (qP s w) (Mt s w (Qj s)):=by
 have o:=za2 s w;have h:=za6 s w (.cells #[.bool false] 4);have j:=za4 s w (.cells #[.bool false] 4);have c:=zbT w.heap.size (w.heap.size+1) (w.heap.size+1+1) s .nilIface false false ((qP s w).alloc (.cells #[.bool false] 4)) (za3 s w _) j (za5 s w _) (by omega) (by omega) (by omega) hs w.heap.size (hT.next h (ye _)) (hE.next h (ye _)) (ye _);have g:((qP s w).alloc (.cells #[.bool false] 4)).heap.size=w.heap.size+4:=by simp
 unfold Mt
 cases hd:Qj s with
 | none=>
  rw[hd]at c;refine (zax 126 _ (qP s w) (fun d=>Bw w d/\w.heap.size+4<=d.heap.size) LA (c.mono ?_)).mono ?_
  ·rintro e d ⟨k,rfl⟩;have:=k.size;exact⟨rfl,(k.block (qP s w).heap.size (by omega) (by omega) (by omega)).trans (D8 (qP s w)),h.trans (k.below (by omega) (by omega) (by omega)),by omega⟩
  ·rintro e u ⟨rfl,d,⟨b,l⟩,rfl⟩;have m:Bw w (d.alloc (.cells #[] 220)):=b.alloc (by omega) _;refine⟨m.setCell (p:=⟨(qP s w).heap.size,0,none⟩) (by show _<=(qP s w).heap.size;omega) _,?_,rfl⟩;simp[World.setCell];omega
 | some v=>
  rw[hd]at c;refine (zaw 126 _ (qP s w) (fun d=>Bw w d/\w.heap.size+4<=d.heap.size/\∃ (t:TypeId) (p:Value),qE (w.heap.size+1+1) 66 (.iface t p) d/\qE (w.heap.size+1) 180 (.pointer (some ⟨w.heap.size,0,none⟩)) d/\zo w.heap.size s s.size (zY v) (zy v) d/\(zY v=false->zy v=false->zi d (fun k=>w.heap.size+4<=k/\k<d.heap.size) v (.iface t p))) LA (c.mono ?_)).mono ?_
  ·rintro e d ⟨k,t,p,rfl,x,r,f⟩;have i:=k.size;rw[g]at f;exact⟨rfl,(k.block (qP s w).heap.size (by omega) (by omega) (by omega)).trans (D8 (qP s w)),h.trans (k.below (by omega) (by omega) (by omega)),by omega,t,p,x,(k.block (w.heap.size+1) (by omega) (by omega) (by omega)).trans j,r,f⟩
  ·rintro e u ⟨rfl,d,⟨b,l,t,p,x,q,r,f⟩,rfl⟩;have n:(d.setCell ⟨(qP s w).heap.size,0,none⟩ (.bool true)).heap.size=d.heap.size:=by simp[World.setCell]
   refine⟨b.setCell (p:=⟨(qP s w).heap.size,0,none⟩) (by show _<=(qP s w).heap.size;omega) _,by omega,t,p,rfl,x.other (p:=⟨(qP s w).heap.size,0,none⟩) (by show _≠(qP s w).heap.size;omega) _,q.other (p:=⟨(qP s w).heap.size,0,none⟩) (by show _≠(qP s w).heap.size;omega) _,r.other (p:=⟨(qP s w).heap.size,0,none⟩) (by show _≠(qP s w).heap.size;omega) _,fun a c=>?_⟩;refine zi.keep (w:=d) (S:=fun k=>w.heap.size+4<=k/\k<d.heap.size) (fun k i=>?_) (fun k i=>⟨i.1,by have:=i.2;omega⟩) v _ (f a c);exact Below.heap_setCell d ⟨(qP s w).heap.size,0,none⟩ (.bool true) k (by show k≠(qP s w).heap.size;omega)
end Go.Proofs.YtekpghcckdjnhaaGreatDoor
