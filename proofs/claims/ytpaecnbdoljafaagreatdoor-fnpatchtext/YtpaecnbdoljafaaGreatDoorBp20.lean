import Derived.Test.YtpaecnbdoljafaaGreatDoorBp9
import Derived.Test.YtpaecnbdoljafaaGreatDoorBp19
set_option maxRecDepth 100000
set_option maxHeartbeats 8000000
namespace Go.Proofs.YtpaecnbdoljafaaGreatDoor
open Go.RowKit Go.Proofs.Tryz
structure QG(rb sc:Nat)(w w':Wo):Prop where
 os:w'.os=w.os
 tape:w'.tape=w.tape
 output:w'.output=w.output
 size:w.heap.size<=w'.heap.size
 block:∀ k,k<w.heap.size->k≠rb->k≠sc->w'.heap[k]?=w.heap[k]?
theorem KB.two{rb:Nat}{w w':Wo}(h:KB rb w w')(sc:Nat):QG rb sc w w':=⟨h.os,h.tape,h.output,h.size,fun k hk h1 _=>h.block k hk h1⟩
theorem QG.trans{rb sc:Nat}{a b c:Wo}(h:QG rb sc a b)(k:QG rb sc b c):QG rb sc a c:=
 ⟨k.os.trans h.os,k.tape.trans h.tape,k.output.trans h.output,yO h.size k.size,fun i hi h1 h2=>(k.block i (yD hi h.size) h1 h2).trans (h.block i hi h1 h2)⟩
theorem QG.set{rb sc:Nat}{a w:Wo}(h:QG rb sc a w)(j:Nat)(v:Value):QG rb sc a (w.setCell ⟨sc,j,none⟩ v):=
 h.trans ⟨rfl,rfl,rfl,by simp[World.setCell],fun k _ _ hn=>Below.heap_setCell _ _ _ _ hn⟩
def qg(b:Nat)(t:TypeId)(v:Value)(w:Wo):Prop:=w.heap[b]?=some (.cells #[v] t (0,0))
theorem qg.cell{b:Nat}{t:TypeId}{v:Value}{w:Wo}(h:qg b t v w):w.cell? ⟨b,0,none⟩=some v:=by rw[yE h];rfl
theorem qg.frozen{b:Nat}{t:TypeId}{v:Value}{w:Wo}(h:qg b t v w):w.frozen? ⟨b,0,none⟩=false:=yH h 0
theorem qg.lt{b:Nat}{t:TypeId}{v:Value}{w:Wo}(h:qg b t v w):b<w.heap.size:=(yA.1 h).1
theorem qg.kb{b rb:Nat}{t:TypeId}{v:Value}{w w':Wo}(h:qg b t v w)(k:KB rb w w')(hn:b≠rb):qg b t v w':=(k.block b h.lt hn).trans h
theorem qg.set{b:Nat}{t:TypeId}{v:Value}{w:Wo}(h:qg b t v w)(v':Value):qg b t v' (w.setCell ⟨b,0,none⟩ v'):=heap_setCell_same w b 0 _ t v' h
theorem qg.other{b:Nat}{t:TypeId}{v:Value}{w:Wo}(h:qg b t v w){p:Addr}(hp:b≠p.block)(v':Value):qg b t v (w.setCell p v'):=(Below.heap_setCell w p v' b hp).trans h
theorem zr.other{rb:Nat}{s:Bs}{i:Nat}{tb kt:Bool}{w:Wo}(h:zr rb s i tb kt w){p:Addr}(hp:rb≠p.block)(v':Value):zr rb s i tb kt (w.setCell p v'):=(Below.heap_setCell w p v' rb hp).trans h
theorem SC(w:Wo):FF w.heap.size (w.alloc (.cells #[.bool false] 4)):=yF w _
theorem QG.below{rb sc B:Nat}{w w':Wo}(h:QG rb sc w w')(h1:B<=rb)(h2:B<=sc)(hs:B<=w.heap.size):Below B w w':=⟨h.os,h.tape,h.output,h.size,fun k hk=>h.block k (by omega) (by omega) (by omega)⟩
def q8(B:Nat)(w:Wo):Prop:=5<B/\∃ te pe,w.cell? ⟨5,0,none⟩=some (.iface te pe)
theorem q8.next{B B':Nat}{w w':Wo}(h:q8 B w)(hb:Below B' w w')(hB:B<=B'):q8 B w':=by
 obtain⟨a,f,d,b⟩:=h;exact⟨a,f,d,(hb.cell (p:=⟨5,0,none⟩) (yD a hB)).trans b⟩
theorem SD(l:List UInt8)(z:Int)(w:Wo)(hl:l.length<=100000)(h:Lib.parseIntB 64 l= .ok z):
  Calls prog 205 #[.string (zi l),.int .i64 10,.int .i64 64] w fun e w'=>e= .returned (.tuple #[.int .i64 z,.nilIface])/\Bw w w':=by
 refine (Tryz.strconv_ParseInt_10_at64_ok (zi l) (by rw[zS];omega) z (by rw[Zd];exact h) w).mono ?_;rintro e w' ⟨rfl,rfl |⟨t,rfl⟩⟩
 ·exact⟨rfl,yG _ _⟩
 ·exact⟨rfl,Lib.bytesWorld_below w _ t⟩
theorem SE(l:List UInt8)(B:Nat)(w:Wo)(hl:l.length<=100000)(hE:q8 B w)(h:Lib.parseIntB 64 l= .range):
  Calls prog 205 #[.string (zi l),.int .i64 10,.int .i64 64] w fun e w'=>∃ (z:Int) (t:TypeId) (p:Value),e= .returned (.tuple #[.int .i64 z,.iface t p])/\Bw w w':=by
 obtain⟨_,d,a,f⟩:=hE;refine (Tryz.strconv_ParseInt_10_at64_range (zi l) (by rw[zS];omega) (by rw[Zd];exact h) (.iface d a) w f (.inr ⟨d,a,rfl⟩)).mono ?_;rintro e w' ⟨N,rfl,_,_,b⟩;exact⟨_,_,_,rfl,b⟩
theorem zr.bigc{rb:Nat}{s:Bs}{i:Nat}{tb kt:Bool}{w:Wo}(h:zr rb s i tb kt w):w.cell? ⟨rb,2,none⟩=some (.bool tb):=by rw[yE h];rfl
theorem zr.fz{rb:Nat}{s:Bs}{i:Nat}{tb kt:Bool}{w:Wo}(h:zr rb s i tb kt w)(k:Nat):w.frozen? ⟨rb,k,none⟩=false:=yH h k
theorem zr.setBig{rb:Nat}{s:Bs}{i:Nat}{tb kt:Bool}{w:Wo}(h:zr rb s i tb kt w):zr rb s i true kt (w.setCell ⟨rb,2,none⟩ (.bool true)):=heap_setCell_same w rb 2 _ 127 (.bool true) h
def Cu(rb:Nat)(s:Bs)(tb kt:Bool)(w:Wo)(o:Option (List UInt8×Nat))(e:Ending)(w':Wo):Prop:=
 KB rb w w'/\o.elim (e=QN) fun q=>∃ z:Int,e= .returned (.iface 277 (.int .i64 z))/\zr rb s q.2 (tb || qZ q.1) kt w'/\(qZ q.1=false->Lib.itoa z=q.1/\-9223372036854775808<=z/\z<=9223372036854775807)
theorem Cv(rb:Nat)(s:Bs)(i:Nat)(tb kt:Bool)(w:Wo)(h:zr rb s i tb kt w)(hs:s.size<=100000)(hi:i<=s.size)(B:Nat)(hE:q8 B w)(hB:B<=rb):
  Calls prog 170 #[.pointer (some ⟨rb,0,none⟩)] w (Cu rb s tb kt w (nm s i)):=by
 have ca:=h.at;have hlt:=h.lt;have H:=zh h;have HE:=zh hE;have hd1:i<=zK s i:=by unfold zK;split<;>omega
 have T:zK s i<=s.size:=by
  unfold zK;split
  ·have:=zQ (s:=s) (i:=i) (by omega);omega
  ·exact hi
 have X:Hid (∀ O,zr rb s i tb kt O->Calls prog 164 #[.pointer (some ⟨rb,0,none⟩),.int .u8 45] O fun e w'=>(∃ b,e= .returned (.bool b))/\zr rb s (zK s i) tb kt w'/\KB rb O w'):=fun O h1=>by
  by_cases g:bt s i=45
  ·have:=Y1 rb s i tb kt O h1 (by omega) 45 g (zQ (by omega));rw[show zK s i=i+1 by unfold zK;rw[yf g]];exact this.mono fun e w' ⟨he,r⟩=>⟨⟨_,he⟩,r⟩
  ·have:=YF rb s i tb kt O h1 hi 45 (.inl g);rw[show zK s i=i by unfold zK;rw[ye g]];exact this.mono fun e w' ⟨he,r⟩=>⟨⟨_,he⟩,r⟩
 have U:Hid (nm s i=if zT (bt s (zK s i))=true then some (qE (zW s i (ZT s i)),ZT s i)else none):=rfl;have V:Hid (ZT s i=if bt s (zK s i)=48 then zK s i+1 else dg s (zK s i)):=rfl;have W:Hid (∀ l j,nm s i=some (l,j)->(qZ l=false->∃ z:Int,Lib.parseIntB 64 (zW s i j)= .ok z/\Lib.itoa z=l/\-9223372036854775808<=z/\z<=9223372036854775807)/\(qZ l=true->Lib.parseIntB 64 (zW s i j)= .range)):=fun l j h=>Hg h;clear h hE;generalize hde:zK s i=d at *;go_in;go_wp2_with fail;refine (uh X _ (uh H)).mono ?_;rintro e O ⟨⟨b0,rfl⟩,r1,k1⟩;have C:=zh (FH rb s d tb kt O r1 T);clear ca X r1;go_wp2_with fail;refine (uh C).mono ?_;rintro e w2 ⟨rfl,r2,k2⟩;have R2:=zh r2;have Z:=zh (k1.trans k2);have A:=zh (XY (bt s d) w2 (ZL s d));clear C r2 k1 k2;go_wp2_with fail;refine (uh A).mono ?_;rintro e w3 ⟨rfl,rfl⟩
 cases hdg:zT (bt s d)with
 | false=>
  have HN:Hid (nm s i=none):=by
   show _=_
   rw[uh U,ye (by rw[hdg];simp)]
  clear hdg;go_wp2;exact⟨rfl,uh Z,by rw[uh HN];rfl⟩
 | true=>
  have hdI:=qL.1 hdg;have hdlt:d<s.size:=zQ (by omega);have HN:Hid (nm s i=some (qE (zW s i (ZT s i)),ZT s i)):=by
   show _=_
   rw[uh U,yf hdg]
  by_cases y:bt s d=48
  ·have S:ZT s i=d+1:=by rw[uh V,yf y]
   have D:=zh (Y1 rb s d tb kt w2 (uh R2) (by omega) 48 y hdlt);clear y hdg hdI;go_wp2_with fail;refine (uh D).mono ?_;rintro e o ⟨rfl,r4,k4⟩;have M:=zh r4;have Q:=zh ((uh Z).trans k4);clear D r4 k4 R2 Z;have a:=Wy s i (d+1);have n:(zW s i (d+1)).length<=100000:=by unfold zW;rw[yl,yt,Zb];omega
   have hcz:(s.extract i (d+1)).size<=100000:=by rw[a,zS];exact n
   have c0:o.drew.cell? ⟨rb,0,none⟩=some (.string s):=(uh M).text;have c1:o.drew.cell? ⟨rb,1,none⟩=some (.int .i64 ((d:Int)+1)):=by
    have:=(uh M).at;exact this
   have i1:(i:Int)<=((d:Int)+1):=by omega
   have i2:((d:Int)+1)<=(s.size:Int):=by omega
   have i3:(0:Int)<=(i:Int):=by omega
   have E:=(uh M).lt;have F:=(uh Q).size;have P:Hid (q8 B o.drew):=(uh HE).next ((uh Q).below hB (by omega)).drew (yd _);have u:Hid (nm s i=some (qE (zW s i (d+1)),d+1)):=by show _=_;rw[uh HN,S]
   have L:=uh W _ _ (uh u)
   cases htb:qZ (qE (zW s i (d+1)))with
   | false=>
    obtain⟨z,G,I,J,K⟩:=L.1 htb;have m:Hid (Calls prog 205 #[.string (s.extract i (d+1)),.int .i64 10,.int .i64 64] o.drew fun e w'=>e= .returned (.tuple #[.int .i64 z,.nilIface])/\Below o.drew.heap.size o.drew w'):=by
     rw[a];exact SD _ z _ n G
    have HZ:Hid (Lib.itoa z=qE (zW s i (d+1))/\-9223372036854775808<=z/\z<=9223372036854775807):=⟨I,J,K⟩;clear L G I J K a n;go_wp2_with fail;go_region_law (go_simp;refine (uh m).mono ?_;rintro e v ⟨rfl,k⟩)
    all_goals
     have f:Bw o v:=⟨k.os,k.tape,k.output,k.size,k.block⟩;have x:=zh ((uh M).below' (w':=v) (B:=o.heap.size) f E);have R:KB rb w v:=(uh Q).then_below (f.mono F);clear m k f c0 c1;go_wp2;go_ret;refine⟨R,?_⟩;rw[uh u];exact⟨z,rfl,by rw[htb,Bool.or_false];exact uh x,fun _=>uh HZ⟩
   | true=>
    have m:Hid (Calls prog 205 #[.string (s.extract i (d+1)),.int .i64 10,.int .i64 64] o.drew fun e w'=>∃ (z:Int) (t:TypeId) (p:Value),e= .returned (.tuple #[.int .i64 z,.iface t p])/\Below o.drew.heap.size o.drew w'):=by
     rw[a];exact SE _ B _ n (uh P) (L.2 htb)
    clear L a n;go_wp2_with fail;go_region_law (go_simp;refine (uh m).mono ?_;rintro e v ⟨z,t,p,rfl,k⟩)
    all_goals
     have f:Bw o v:=⟨k.os,k.tape,k.output,k.size,k.block⟩;have x:=(uh M).below' (w':=v) (B:=o.heap.size) f E;have R:KB rb w v:=(uh Q).then_below (f.mono F);have c2:=x.bigc;have f2:=x.fz 2;have RR:=zh x.setBig;clear m k f c0 c1 x;go_wp2;go_ret;refine⟨R.set 2 _,?_⟩;rw[uh u];exact⟨z,rfl,by rw[htb,Bool.or_true];exact uh RR,fun h=>by rw[htb]at h;cases h⟩
  ·have hEe0:ZT s i=dg s d:=by rw[uh V,ye y]
   have D:=zh (YF rb s d tb kt w2 (uh R2) T 48 (.inl y));clear y;go_wp2_with fail;refine (uh D).mono ?_;rintro e o ⟨rfl,r4,k4⟩;have M:=zh r4;have Q:=zh ((uh Z).trans k4);clear D r4 k4 R2 Z;go_wp2_with fail;go_loopg [] (s.size - d) (fun g wr=>∃ j:Nat,g=s.size - j/\d<=j/\j<=s.size/\zr rb s j tb kt wr/\KB rb w wr/\dg s d=dg s j/\(d<j∨j=d))
   case atStart=>exact⟨d,rfl,yd _,T,uh M,uh Q,rfl,.inr rfl⟩
   case round=>
    obtain⟨j,hg,hj1,hj2,hr,hk,hst,hj3⟩:=hrel;have C:=zh (FH rb s j tb kt wr hr hj2);have HK:=zh hk;have Y:=zh hst;clear hr hk hst M Q;go_wp2_with fail;refine (uh C).mono ?_;rintro e q ⟨rfl,r5,k5⟩;have N:=zh r5;have K5:=zh ((uh HK).trans k5);have A:=zh (XY (bt s j) q (ZL s j));clear C r5 k5 HK;go_wp2_with fail;refine (uh A).mono ?_;rintro e w6 ⟨rfl,rfl⟩
    cases hjd:zT (bt s j)with
    | true=>
     have hjlt:j<s.size:=zQ (by have:=qL.1 hjd;omega);have HX:Hid (dg s d=dg s (j+1)):=by show _=_;rw[uh Y,Y5 hjd]
     have c1:=(uh N).at;have f1:=(uh N).frozen;have R6:=zh ((uh N).set ((j:Int)+1) (j+1) (by omega));clear hjd A;go_wp2;go_roundg (s.size - (j+1))
     case rel=>exact⟨j+1,rfl,by omega,by omega,uh R6,(uh K5).set 1 _,uh HX,.inl (by omega)⟩
     case measure=>omega
    | false=>
     have S:ZT s i=j:=by rw[hEe0,uh Y,Wt (by rw[hjd];simp)]
     have hij:i<=j:=by omega
     clear hjd A hj3;have a:=Wy s i (j);have n:(zW s i (j)).length<=100000:=by unfold zW;rw[yl,yt,Zb];omega
     have hcz:(s.extract i (j)).size<=100000:=by rw[a,zS];exact n
     have c0:q.drew.cell? ⟨rb,0,none⟩=some (.string s):=(uh N).text;have c1:q.drew.cell? ⟨rb,1,none⟩=some (.int .i64 (j:Int)):=by
      have:=(uh N).at;exact this
     have i1:(i:Int)<=(j:Int):=by omega
     have i2:(j:Int)<=(s.size:Int):=by omega
     have i3:(0:Int)<=(i:Int):=by omega
     have E:=(uh N).lt;have F:=(uh K5).size;have P:Hid (q8 B q.drew):=(uh HE).next ((uh K5).below hB (by omega)).drew (yd _);have u:Hid (nm s i=some (qE (zW s i (j)),j)):=by show _=_;rw[uh HN,S]
     have L:=uh W _ _ (uh u)
     cases htb:qZ (qE (zW s i (j)))with
     | false=>
      obtain⟨z,G,I,J,K⟩:=L.1 htb;have m:Hid (Calls prog 205 #[.string (s.extract i (j)),.int .i64 10,.int .i64 64] q.drew fun e w'=>e= .returned (.tuple #[.int .i64 z,.nilIface])/\Below q.drew.heap.size q.drew w'):=by
       rw[a];exact SD _ z _ n G
      have HZ:Hid (Lib.itoa z=qE (zW s i (j))/\-9223372036854775808<=z/\z<=9223372036854775807):=⟨I,J,K⟩;clear L G I J K a n;go_wp2_with fail;go_region_law (go_simp;refine (uh m).mono ?_;rintro e v ⟨rfl,k⟩)
      all_goals
       have f:Bw q v:=⟨k.os,k.tape,k.output,k.size,k.block⟩;have x:=zh ((uh N).below' (w':=v) (B:=q.heap.size) f E);have R:KB rb w v:=(uh K5).then_below (f.mono F);clear m k f c0 c1;go_wp2;go_ret;refine⟨R,?_⟩;rw[uh u];exact⟨z,rfl,by rw[htb,Bool.or_false];exact uh x,fun _=>uh HZ⟩
     | true=>
      have m:Hid (Calls prog 205 #[.string (s.extract i (j)),.int .i64 10,.int .i64 64] q.drew fun e w'=>∃ (z:Int) (t:TypeId) (p:Value),e= .returned (.tuple #[.int .i64 z,.iface t p])/\Below q.drew.heap.size q.drew w'):=by
       rw[a];exact SE _ B _ n (uh P) (L.2 htb)
      clear L a n;go_wp2_with fail;go_region_law (go_simp;refine (uh m).mono ?_;rintro e v ⟨z,t,p,rfl,k⟩)
      all_goals
       have f:Bw q v:=⟨k.os,k.tape,k.output,k.size,k.block⟩;have x:=(uh N).below' (w':=v) (B:=q.heap.size) f E;have R:KB rb w v:=(uh K5).then_below (f.mono F);have c2:=x.bigc;have f2:=x.fz 2;have RR:=zh x.setBig;clear m k f c0 c1 x;go_wp2;go_ret;refine⟨R.set 2 _,?_⟩;rw[uh u];exact⟨z,rfl,by rw[htb,Bool.or_true];exact uh RR,fun h=>by rw[htb]at h;cases h⟩
end Go.Proofs.YtpaecnbdoljafaaGreatDoor
