import Derived.Test.YtekpghcckdjnhaaGreatDoorBa34
import Derived.Test.YtekpghcckdjnhaaGreatDoorBa35
set_option maxRecDepth 100000
set_option maxHeartbeats 8000000
namespace Go.Proofs.YtekpghcckdjnhaaGreatDoor
open Go.RowKit Go.Proofs.Tryz
def zx4 (rb sc:Nat) (s:ByteArray) (tb kt:Bool) (L:Nat) (o:Option JV) (e:Ending) (w':World) : Prop:=
 o.elim (e=mis) fun v=>∃ (t:TypeId) (p:Value),e = .returned (.tuple #[])/\Var sc 66 (.iface t p) w'/\Rdr rb s s.size (tb || zbf v) (kt || twV v) w' /\
  (zbf v=false->twV v=false->Rep w' (fun k=>L<=k/\k < w'.heap.size) v (.iface t p))
theorem zoT (rb pc sc:Nat) (s:ByteArray) (x:Value) (tb kt:Bool) (w:World) (h:Rdr rb s 0 tb kt w) (hp:Var pc 180 (.pointer (some ⟨rb,0,none⟩)) w) (hx:Var sc 66 x w) (h1:pc≠rb) (h2:sc≠rb) (h3:pc≠sc) (hs:s.size<=100000) (B:Nat) (hT:zb2 B w) (hE:zhj B w) (hB:B<=rb) :
  Calls prog 126 #[.pointer (some ⟨pc,0,none⟩),.pointer (some ⟨sc,0,none⟩)] w fun e w'=>KB2 rb sc w w'/\zx4 rb sc s tb kt w.heap.size (zgz s) e w':=by
 have HS:=zab (zil rb s hs B hB (s.size - 0) 0 tb kt w (ye _) h (by omega) hT hE)
 have hxl:=hx.lt
 have hlt:=h.lt
 have cp:=hp.cell
 have HP:=zab hp
 have HX:=zab hx
 have HD:Hid (zgz s=(val s (sk s 0)).bind fun q=>if sk s q.2=s.size then some q.1 else none):=rfl
 clear hp hx h hT hE
 go_enter func126,ntmps126
 cases hv:val s (sk s 0) with
 | none=>
  rw[hv] at HS
  have HN:Hid (zgz s=none):=by show _=_; rw[uh HD,hv]; rfl
  clear hv HD
  go_wp2_with fail
  refine (uh HS).mono ?_
  rintro e w1 ⟨k1,rfl⟩
  exact⟨rfl,k1.two sc,by rw[uh HN]; rfl⟩
 | some q=>
  obtain⟨v,j⟩:=q
  rw[hv] at HS
  have HN:Hid (zgz s=if sk s j=s.size then some v else none):=by show _=_; rw[uh HD,hv]; rfl
  clear hv HD
  go_wp2_with fail
  refine (uh HS).mono ?_
  rintro e w1 ⟨k1,t,p,rfl,r1,rep1⟩
  have x1:=(uh HX).kb k1 h2
  have cx:=x1.cell
  have fx:=x1.frozen
  have x2:=x1.set (.iface t p)
  have p2:=((uh HP).kb k1 h1).other (p:=⟨sc,0,none⟩) h3 (.iface t p)
  have cp2:=p2.cell
  have r2:=r1.other (p:=⟨sc,0,none⟩) (fun e=>h2 e.symm) (.iface t p)
  have hs1:=k1.size
  have hsz:(w1.setCell ⟨sc,0,none⟩ (.iface t p)).heap.size=w1.heap.size:=by simp[World.setCell]
  have X2:=zab x2
  have R2:=zab r2
  have REP:=zab rep1
  have K1:=zab k1
  have K2:=zab ((k1.two sc).set 0 (.iface t p))
  clear HS r1 r2 x1 x2 p2 HP HX cp rep1 k1
  by_cases hj:sk s j=s.size
  ·have HE:=zab (zpn rb s (sk s j) _ _ _ (uh R2) hj)
   rw[yg hj] at HN
   have HJ:=zab hj
   clear hj
   go_wp2_with fail
   refine (uh HE).mono ?_
   rintro e w2 ⟨rfl,r3,k3⟩
   have X3:=zab ((uh X2).kb k3 h2)
   have R3:=zab r3
   have K3:=zab ((uh K2).trans (k3.two sc))
   have Q3:Hid (zbf v=false->twV v=false->Rep w2 (fun k=>w.heap.size<=k/\k < w2.heap.size) v (.iface t p)):=fun a b=>by
    have hs3:=k3.size
    refine Rep.keep (w:=w1) (S:=fun k=>w.heap.size<=k/\k < w1.heap.size) (fun k hk=>?_) (fun k hk=>⟨hk.1,by have:=hk.2; omega⟩) v _ (uh REP a b)
    exact (k3.block k (by omega) (by omega)).trans (Below.heap_setCell w1 ⟨sc,0,none⟩ (.iface t p) k (by show k≠sc; omega))
   clear HE X2 r3 cx fx cp2 k3 hsz
   go_wp2
   go_end0
   refine⟨uh K3,?_⟩
   rw[uh HN]
   exact⟨t,p,rfl,uh X3,by have:=uh R3; rwa [uh HJ] at this,uh Q3⟩
  ·have HE:=zab (zmW rb s (sk s j) _ _ _ (uh R2) hj)
   rw[yf hj] at HN
   clear hj hsz
   go_wp2_with fail
   refine (uh HE).mono ?_
   rintro e w2 hp2
   obtain⟨rfl,k3⟩:=hp2
   exact⟨rfl,(uh K2).trans (k3.two sc),by rw[uh HN]; rfl⟩
def zwo (s:ByteArray) (w:World) (o:Option JV) (e:Ending) (w':World) : Prop:=
 Below w.heap.size w w'/\w.heap.size+3<=w'.heap.size/\o.elim (e = .returned (.bool false)) fun v=>∃ (t:TypeId) (p:Value),e = .returned (.bool true)/\Var (w.heap.size+1+1) 66 (.iface t p) w'/\Var (w.heap.size+1) 180 (.pointer (some ⟨w.heap.size,0,none⟩)) w' /\
  Rdr w.heap.size s s.size (zbf v) (twV v) w'/\(zbf v=false->twV v=false->Rep w' (fun k=>w.heap.size+4<=k/\k < w'.heap.size) v (.iface t p))
theorem zjz (s:ByteArray) (w:World) (hs:s.size<=100000) (hT:zb2 w.heap.size w) (hE:zhj w.heap.size w) :
  Calls prog 125 #[.func (.func 126) #[] #[.pointer (some ⟨w.heap.size+1,0,none⟩),.pointer (some ⟨w.heap.size+1+1,0,none⟩)]] (rtW s w) (zwo s w (zgz s)):=by
 have hsz:=zsT s w
 have hb:=zqK s w (.cells #[.bool false] 4)
 have hp:=zvg s w (.cells #[.bool false] 4)
 have c:=zoT w.heap.size (w.heap.size+1) (w.heap.size+1+1) s .nilIface false false ((rtW s w).alloc (.cells #[.bool false] 4)) (zvf s w _) hp (zsU s w _) (by omega) (by omega) (by omega) hs w.heap.size (hT.next hb (ye _)) (hE.next hb (ye _)) (ye _)
 have hsz4:((rtW s w).alloc (.cells #[.bool false] 4)).heap.size=w.heap.size+4:=by simp
 unfold zwo
 cases hd:zgz s with
 | none=>
  rw[hd] at c
  refine (zsO 126 _ (rtW s w) (fun w1=>Below w.heap.size w w1/\w.heap.size+4<=w1.heap.size) zho (c.mono ?_)).mono ?_
  ·rintro e w1 ⟨k,rfl⟩
   have:=k.size
   exact⟨rfl,(k.block (rtW s w).heap.size (by omega) (by omega) (by omega)).trans (zt6 (rtW s w)),hb.trans (k.below (by omega) (by omega) (by omega)),by omega⟩
  ·rintro e w' ⟨rfl,w1,⟨b,h4⟩,rfl⟩
   have ha:Below w.heap.size w (w1.alloc (.cells #[] 220)):=b.alloc (by omega) _
   refine⟨ha.setCell (p:=⟨(rtW s w).heap.size,0,none⟩) (by show _<=(rtW s w).heap.size; omega) _,?_,rfl⟩
   simp[World.setCell]; omega
 | some v=>
  rw[hd] at c
  refine (zvb 126 _ (rtW s w) (fun w1=>Below w.heap.size w w1/\w.heap.size+4<=w1.heap.size/\∃ (t:TypeId) (p:Value),Var (w.heap.size+1+1) 66 (.iface t p) w1/\Var (w.heap.size+1) 180 (.pointer (some ⟨w.heap.size,0,none⟩)) w1/\Rdr w.heap.size s s.size (zbf v) (twV v) w1/\(zbf v=false->twV v=false->Rep w1 (fun k=>w.heap.size+4<=k/\k < w1.heap.size) v (.iface t p))) zho (c.mono ?_)).mono ?_
  ·rintro e w1 ⟨k,t,p,rfl,x,r,rep⟩
   have hk:=k.size
   rw[hsz4] at rep
   exact⟨rfl,(k.block (rtW s w).heap.size (by omega) (by omega) (by omega)).trans (zt6 (rtW s w)),hb.trans (k.below (by omega) (by omega) (by omega)),by omega,t,p,x,(k.block (w.heap.size+1) (by omega) (by omega) (by omega)).trans hp,r,rep⟩
  ·rintro e w' ⟨rfl,w1,⟨b,h4,t,p,x,pp,r,rep⟩,rfl⟩
   have hss:(w1.setCell ⟨(rtW s w).heap.size,0,none⟩ (.bool true)).heap.size=w1.heap.size:=by simp[World.setCell]
   refine⟨b.setCell (p:=⟨(rtW s w).heap.size,0,none⟩) (by show _<=(rtW s w).heap.size; omega) _,by omega,t,p,rfl,x.other (p:=⟨(rtW s w).heap.size,0,none⟩) (by show _≠(rtW s w).heap.size; omega) _,pp.other (p:=⟨(rtW s w).heap.size,0,none⟩) (by show _≠(rtW s w).heap.size; omega) _,r.other (p:=⟨(rtW s w).heap.size,0,none⟩) (by show _≠(rtW s w).heap.size; omega) _,fun a c=>?_⟩
   refine Rep.keep (w:=w1) (S:=fun k=>w.heap.size+4<=k/\k < w1.heap.size) (fun k hk=>?_) (fun k hk=>⟨hk.1,by have:=hk.2; omega⟩) v _ (rep a c)
   exact Below.heap_setCell w1 ⟨(rtW s w).heap.size,0,none⟩ (.bool true) k (by show k≠(rtW s w).heap.size; omega)
end Go.Proofs.YtekpghcckdjnhaaGreatDoor
