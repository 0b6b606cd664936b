import Derived.Test.YtpaecnbdoljafaaGreatDoorBz9
import Derived.Test.YtpaecnbdoljafaaGreatDoorBz22
set_option maxRecDepth 100000
set_option maxHeartbeats 8000000
namespace Go.Proofs.YtpaecnbdoljafaaGreatDoor
open Go.RowKit Go.Proofs.Tryz
structure Jn(rb sc:Nat)(w w':Wo):Prop where
 os:w'.os=w.os
 tape:w'.tape=w.tape
 output:w'.output=w.output
 size:w.heap.size<=w'.heap.size
 block:∀ k,k<w.heap.size->k≠rb->k≠sc->w'.heap[k]?=w.heap[k]?
theorem KB.two{rb:Nat}{w w':Wo}(h:KB rb w w')(sc:Nat):Jn rb sc w w':=⟨h.os,h.tape,h.output,h.size,fun k hk h1 _=>h.block k hk h1⟩
theorem Jn.trans{rb sc:Nat}{a b c:Wo}(h:Jn rb sc a b)(k:Jn rb sc b c):Jn rb sc a c:=
 ⟨k.os.trans h.os,k.tape.trans h.tape,k.output.trans h.output,yQ h.size k.size,fun i hi h1 h2=>(k.block i (yF hi h.size) h1 h2).trans (h.block i hi h1 h2)⟩
theorem Jn.set{rb sc:Nat}{a w:Wo}(h:Jn rb sc a w)(j:Nat)(v:Value):Jn rb sc a (w.setCell ⟨sc,j,none⟩ v):=
 h.trans ⟨rfl,rfl,rfl,by simp[World.setCell],fun k _ _ hn=>Below.heap_setCell _ _ _ _ hn⟩
def qZ(b:Nat)(t:TypeId)(v:Value)(w:Wo):Prop:=w.heap[b]?=some (.cells #[v] t (0,0))
theorem qZ.cell{b:Nat}{t:TypeId}{v:Value}{w:Wo}(h:qZ b t v w):w.cell? ⟨b,0,none⟩=some v:=by rw[yG h];rfl
theorem qZ.frozen{b:Nat}{t:TypeId}{v:Value}{w:Wo}(h:qZ b t v w):w.frozen? ⟨b,0,none⟩=false:=yJ h 0
theorem qZ.lt{b:Nat}{t:TypeId}{v:Value}{w:Wo}(h:qZ b t v w):b<w.heap.size:=(yC.1 h).1
theorem qZ.kb{b rb:Nat}{t:TypeId}{v:Value}{w w':Wo}(h:qZ b t v w)(k:KB rb w w')(hn:b≠rb):qZ b t v w':=(k.block b h.lt hn).trans h
theorem qZ.set{b:Nat}{t:TypeId}{v:Value}{w:Wo}(h:qZ b t v w)(v':Value):qZ b t v' (w.setCell ⟨b,0,none⟩ v'):=heap_setCell_same w b 0 _ t v' h
theorem qZ.other{b:Nat}{t:TypeId}{v:Value}{w:Wo}(h:qZ b t v w){p:Addr}(hp:b≠p.block)(v':Value):qZ b t v (w.setCell p v'):=(Below.heap_setCell w p v' b hp).trans h
theorem zE.other{rb:Nat}{s:Bs}{i:Nat}{tb kt:Bool}{w:Wo}(h:zE rb s i tb kt w){p:Addr}(hp:rb≠p.block)(v':Value):zE rb s i tb kt (w.setCell p v'):=(Below.heap_setCell w p v' rb hp).trans h
theorem MY(w:Wo):Rh w.heap.size (w.alloc (.cells #[.bool false] 4)):=yH w _
theorem Jn.below{rb sc B:Nat}{w w':Wo}(h:Jn rb sc w w')(h1:B<=rb)(h2:B<=sc)(hs:B<=w.heap.size):Below B w w':=⟨h.os,h.tape,h.output,h.size,fun k hk=>h.block k (by omega) (by omega) (by omega)⟩
def Qt(B:Nat)(w:Wo):Prop:=5<B/\∃ te pe,w.cell? ⟨5,0,none⟩=some (.iface te pe)
theorem Qt.next{B B':Nat}{w w':Wo}(h:Qt B w)(hb:Below B' w w')(hB:B<=B'):Qt B w':=by
 obtain⟨a,f,d,b⟩:=h;exact⟨a,f,d,(hb.cell (p:=⟨5,0,none⟩) (yF a hB)).trans b⟩
theorem MZ(l:List UInt8)(z:Int)(w:Wo)(hl:l.length<=100000)(h:Lib.parseIntB 64 l= .ok z):
  Calls prog 205 #[.string (zh l),.int .i64 10,.int .i64 64] w fun e w'=>e= .returned (.tuple #[.int .i64 z,.nilIface])/\Bw w w':=by
 refine (Tryz.strconv_ParseInt_10_at64_ok (zh l) (by rw[zN];omega) z (by rw[Za];exact h) w).mono ?_;rintro e w' ⟨rfl,rfl |⟨t,rfl⟩⟩
 ·exact⟨rfl,yI _ _⟩
 ·exact⟨rfl,Lib.bytesWorld_below w _ t⟩
theorem M0(l:List UInt8)(B:Nat)(w:Wo)(hl:l.length<=100000)(hE:Qt B w)(h:Lib.parseIntB 64 l= .range):
  Calls prog 205 #[.string (zh l),.int .i64 10,.int .i64 64] w fun e w'=>∃ (z:Int) (t:TypeId) (p:Value),e= .returned (.tuple #[.int .i64 z,.iface t p])/\Bw w w':=by
 obtain⟨_,d,a,f⟩:=hE;refine (Tryz.strconv_ParseInt_10_at64_range (zh l) (by rw[zN];omega) (by rw[Za];exact h) (.iface d a) w f (.inr ⟨d,a,rfl⟩)).mono ?_;rintro e w' ⟨N,rfl,_,_,b⟩;exact⟨_,_,_,rfl,b⟩
theorem zE.bigc{rb:Nat}{s:Bs}{i:Nat}{tb kt:Bool}{w:Wo}(h:zE rb s i tb kt w):w.cell? ⟨rb,2,none⟩=some (.bool tb):=by rw[yG h];rfl
theorem zE.fz{rb:Nat}{s:Bs}{i:Nat}{tb kt:Bool}{w:Wo}(h:zE rb s i tb kt w)(k:Nat):w.frozen? ⟨rb,k,none⟩=false:=yJ h k
theorem zE.setBig{rb:Nat}{s:Bs}{i:Nat}{tb kt:Bool}{w:Wo}(h:zE rb s i tb kt w):zE rb s i true kt (w.setCell ⟨rb,2,none⟩ (.bool true)):=heap_setCell_same w rb 2 _ 127 (.bool true) h
def zbW(rb:Nat)(s:Bs)(tb kt:Bool)(w:Wo)(o:Option (List UInt8×Nat))(e:Ending)(w':Wo):Prop:=
 KB rb w w'/\o.elim (e=Js) fun q=>∃ z:Int,e= .returned (.iface 277 (.int .i64 z))/\zE rb s q.2 (tb || QC q.1) kt w'/\(QC q.1=false->Lib.itoa z=q.1/\-9223372036854775808<=z/\z<=9223372036854775807)
theorem zbX(rb:Nat)(s:Bs)(i:Nat)(tb kt:Bool)(w:Wo)(h:zE rb s i tb kt w)(hs:s.size<=100000)(hi:i<=s.size)(B:Nat)(hE:Qt B w)(hB:B<=rb):
  Calls prog 170 #[.pointer (some ⟨rb,0,none⟩)] w (zbW rb s tb kt w (nm s i)):=by
 have ca:=h.at;have hlt:=h.lt;have H:=ze h;have HE:=ze hE;have hd1:i<=zW s i:=by unfold zW;split<;>omega
 have T:zW s i<=s.size:=by
  unfold zW;split
  ·have:=Zb (s:=s) (i:=i) (by omega);omega
  ·exact hi
 have X:Hid (∀ O,zE rb s i tb kt O->Calls prog 164 #[.pointer (some ⟨rb,0,none⟩),.int .u8 45] O fun e w'=>(∃ b,e= .returned (.bool b))/\zE rb s (zW s i) tb kt w'/\KB rb O w'):=fun O h1=>by
  by_cases g:bt s i=45
  ·have:=VQ rb s i tb kt O h1 (by omega) 45 g (Zb (by omega));rw[show zW s i=i+1 by unfold zW;rw[yg g]];exact this.mono fun e w' ⟨he,r⟩=>⟨⟨_,he⟩,r⟩
  ·have:=Vo rb s i tb kt O h1 hi 45 (.inl g);rw[show zW s i=i by unfold zW;rw[yf g]];exact this.mono fun e w' ⟨he,r⟩=>⟨⟨_,he⟩,r⟩
 have U:Hid (nm s i=if zP (bt s (zW s i))=true then some (Qk (Zh s i (qr s i)),qr s i)else none):=rfl;have V:Hid (qr s i=if bt s (zW s i)=48 then zW s i+1 else dg s (zW s i)):=rfl;have W:Hid (∀ l j,nm s i=some (l,j)->(QC l=false->∃ z:Int,Lib.parseIntB 64 (Zh s i j)= .ok z/\Lib.itoa z=l/\-9223372036854775808<=z/\z<=9223372036854775807)/\(QC l=true->Lib.parseIntB 64 (Zh s i j)= .range)):=fun l j h=>zd7 h;clear h hE;generalize hde:zW s i=d at *;go_in;go_wp2_with fail;refine (uh X _ (uh H)).mono ?_;rintro e O ⟨⟨b0,rfl⟩,r1,k1⟩;have C:=ze (Pq rb s d tb kt O r1 T);clear ca X r1;go_wp2_with fail;refine (uh C).mono ?_;rintro e w2 ⟨rfl,r2,k2⟩;have R2:=ze r2;have Z:=ze (k1.trans k2);have A:=ze (Nr (bt s d) w2 (qi s d));clear C r2 k1 k2;go_wp2_with fail;refine (uh A).mono ?_;rintro e w3 ⟨rfl,rfl⟩
 cases hdg:zP (bt s d)with
 | false=>
  have HN:Hid (nm s i=none):=by
   show _=_
   rw[uh U,yf (by rw[hdg];simp)]
  clear hdg;go_wp2;exact⟨rfl,uh Z,by rw[uh HN];rfl⟩
 | true=>
  have hdI:=Qx.1 hdg;have hdlt:d<s.size:=Zb (by omega);have HN:Hid (nm s i=some (Qk (Zh s i (qr s i)),qr s i)):=by
   show _=_
   rw[uh U,yg hdg]
  by_cases y:bt s d=48
  ·have S:qr s i=d+1:=by rw[uh V,yg y]
   have D:=ze (VQ rb s d tb kt w2 (uh R2) (by omega) 48 y hdlt);clear y hdg hdI;go_wp2_with fail;refine (uh D).mono ?_;rintro e o ⟨rfl,r4,k4⟩;have M:=ze r4;have Q:=ze ((uh Z).trans k4);clear D r4 k4 R2 Z;have a:=UH s i (d+1);have n:(Zh s i (d+1)).length<=100000:=by unfold Zh;rw[ym,yv,Zg];omega
   have hcz:(s.extract i (d+1)).size<=100000:=by rw[a,zN];exact n
   have c0:o.drew.cell? ⟨rb,0,none⟩=some (.string s):=(uh M).text;have c1:o.drew.cell? ⟨rb,1,none⟩=some (.int .i64 ((d:Int)+1)):=by
    have:=(uh M).at;exact this
   have i1:(i:Int)<=((d:Int)+1):=by omega
   have i2:((d:Int)+1)<=(s.size:Int):=by omega
   have i3:(0:Int)<=(i:Int):=by omega
   have E:=(uh M).lt;have F:=(uh Q).size;have P:Hid (Qt B o.drew):=(uh HE).next ((uh Q).below hB (by omega)).drew (ye _);have u:Hid (nm s i=some (Qk (Zh s i (d+1)),d+1)):=by show _=_;rw[uh HN,S]
   have L:=uh W _ _ (uh u)
   cases htb:QC (Qk (Zh s i (d+1)))with
   | false=>
    obtain⟨z,G,I,J,K⟩:=L.1 htb;have m:Hid (Calls prog 205 #[.string (s.extract i (d+1)),.int .i64 10,.int .i64 64] o.drew fun e w'=>e= .returned (.tuple #[.int .i64 z,.nilIface])/\Below o.drew.heap.size o.drew w'):=by
     rw[a];exact MZ _ z _ n G
    have HZ:Hid (Lib.itoa z=Qk (Zh s i (d+1))/\-9223372036854775808<=z/\z<=9223372036854775807):=⟨I,J,K⟩;clear L G I J K a n;go_wp2_with fail;go_region_law (go_simp;refine (uh m).mono ?_;rintro e v ⟨rfl,k⟩)
    all_goals
     have f:Bw o v:=⟨k.os,k.tape,k.output,k.size,k.block⟩;have x:=ze ((uh M).below' (w':=v) (B:=o.heap.size) f E);have R:KB rb w v:=(uh Q).then_below (f.mono F);clear m k f c0 c1;go_wp2;go_ret;refine⟨R,?_⟩;rw[uh u];exact⟨z,rfl,by rw[htb,Bool.or_false];exact uh x,fun _=>uh HZ⟩
   | true=>
    have m:Hid (Calls prog 205 #[.string (s.extract i (d+1)),.int .i64 10,.int .i64 64] o.drew fun e w'=>∃ (z:Int) (t:TypeId) (p:Value),e= .returned (.tuple #[.int .i64 z,.iface t p])/\Below o.drew.heap.size o.drew w'):=by
     rw[a];exact M0 _ B _ n (uh P) (L.2 htb)
    clear L a n;go_wp2_with fail;go_region_law (go_simp;refine (uh m).mono ?_;rintro e v ⟨z,t,p,rfl,k⟩)
    all_goals
     have f:Bw o v:=⟨k.os,k.tape,k.output,k.size,k.block⟩;have x:=(uh M).below' (w':=v) (B:=o.heap.size) f E;have R:KB rb w v:=(uh Q).then_below (f.mono F);have c2:=x.bigc;have f2:=x.fz 2;have RR:=ze x.setBig;clear m k f c0 c1 x;go_wp2;go_ret;refine⟨R.set 2 _,?_⟩;rw[uh u];exact⟨z,rfl,by rw[htb,Bool.or_true];exact uh RR,fun h=>by rw[htb]at h;cases h⟩
  ·have hEe0:qr s i=dg s d:=by rw[uh V,yf y]
   have D:=ze (Vo rb s d tb kt w2 (uh R2) T 48 (.inl y));clear y;go_wp2_with fail;refine (uh D).mono ?_;rintro e o ⟨rfl,r4,k4⟩;have M:=ze r4;have Q:=ze ((uh Z).trans k4);clear D r4 k4 R2 Z;go_wp2_with fail;go_loopg [] (s.size - d) (fun g wr=>∃ j:Nat,g=s.size - j/\d<=j/\j<=s.size/\zE rb s j tb kt wr/\KB rb w wr/\dg s d=dg s j/\(d<j∨j=d))
   case atStart=>exact⟨d,rfl,ye _,T,uh M,uh Q,rfl,.inr rfl⟩
   case round=>
    obtain⟨j,hg,hj1,hj2,hr,hk,hst,hj3⟩:=hrel;have C:=ze (Pq rb s j tb kt wr hr hj2);have HK:=ze hk;have Y:=ze hst;clear hr hk hst M Q;go_wp2_with fail;refine (uh C).mono ?_;rintro e q ⟨rfl,r5,k5⟩;have N:=ze r5;have K5:=ze ((uh HK).trans k5);have A:=ze (Nr (bt s j) q (qi s j));clear C r5 k5 HK;go_wp2_with fail;refine (uh A).mono ?_;rintro e w6 ⟨rfl,rfl⟩
    cases hjd:zP (bt s j)with
    | true=>
     have hjlt:j<s.size:=Zb (by have:=Qx.1 hjd;omega);have HX:Hid (dg s d=dg s (j+1)):=by show _=_;rw[uh Y,VW hjd]
     have c1:=(uh N).at;have f1:=(uh N).frozen;have R6:=ze ((uh N).set ((j:Int)+1) (j+1) (by omega));clear hjd A;go_wp2;go_roundg (s.size - (j+1))
     case rel=>exact⟨j+1,rfl,by omega,by omega,uh R6,(uh K5).set 1 _,uh HX,.inl (by omega)⟩
     case measure=>omega
    | false=>
     have S:qr s i=j:=by rw[hEe0,uh Y,UC (by rw[hjd];simp)]
     have hij:i<=j:=by omega
     clear hjd A hj3;have a:=UH s i (j);have n:(Zh s i (j)).length<=100000:=by unfold Zh;rw[ym,yv,Zg];omega
     have hcz:(s.extract i (j)).size<=100000:=by rw[a,zN];exact n
     have c0:q.drew.cell? ⟨rb,0,none⟩=some (.string s):=(uh N).text;have c1:q.drew.cell? ⟨rb,1,none⟩=some (.int .i64 (j:Int)):=by
      have:=(uh N).at;exact this
     have i1:(i:Int)<=(j:Int):=by omega
     have i2:(j:Int)<=(s.size:Int):=by omega
     have i3:(0:Int)<=(i:Int):=by omega
     have E:=(uh N).lt;have F:=(uh K5).size;have P:Hid (Qt B q.drew):=(uh HE).next ((uh K5).below hB (by omega)).drew (ye _);have u:Hid (nm s i=some (Qk (Zh s i (j)),j)):=by show _=_;rw[uh HN,S]
     have L:=uh W _ _ (uh u)
     cases htb:QC (Qk (Zh s i (j)))with
     | false=>
      obtain⟨z,G,I,J,K⟩:=L.1 htb;have m:Hid (Calls prog 205 #[.string (s.extract i (j)),.int .i64 10,.int .i64 64] q.drew fun e w'=>e= .returned (.tuple #[.int .i64 z,.nilIface])/\Below q.drew.heap.size q.drew w'):=by
       rw[a];exact MZ _ z _ n G
      have HZ:Hid (Lib.itoa z=Qk (Zh s i (j))/\-9223372036854775808<=z/\z<=9223372036854775807):=⟨I,J,K⟩;clear L G I J K a n;go_wp2_with fail;go_region_law (go_simp;refine (uh m).mono ?_;rintro e v ⟨rfl,k⟩)
      all_goals
       have f:Bw q v:=⟨k.os,k.tape,k.output,k.size,k.block⟩;have x:=ze ((uh N).below' (w':=v) (B:=q.heap.size) f E);have R:KB rb w v:=(uh K5).then_below (f.mono F);clear m k f c0 c1;go_wp2;go_ret;refine⟨R,?_⟩;rw[uh u];exact⟨z,rfl,by rw[htb,Bool.or_false];exact uh x,fun _=>uh HZ⟩
     | true=>
      have m:Hid (Calls prog 205 #[.string (s.extract i (j)),.int .i64 10,.int .i64 64] q.drew fun e w'=>∃ (z:Int) (t:TypeId) (p:Value),e= .returned (.tuple #[.int .i64 z,.iface t p])/\Below q.drew.heap.size q.drew w'):=by
       rw[a];exact M0 _ B _ n (uh P) (L.2 htb)
      clear L a n;go_wp2_with fail;go_region_law (go_simp;refine (uh m).mono ?_;rintro e v ⟨z,t,p,rfl,k⟩)
      all_goals
       have f:Bw q v:=⟨k.os,k.tape,k.output,k.size,k.block⟩;have x:=(uh N).below' (w':=v) (B:=q.heap.size) f E;have R:KB rb w v:=(uh K5).then_below (f.mono F);have c2:=x.bigc;have f2:=x.fz 2;have RR:=ze x.setBig;clear m k f c0 c1 x;go_wp2;go_ret;refine⟨R.set 2 _,?_⟩;rw[uh u];exact⟨z,rfl,by rw[htb,Bool.or_true];exact uh RR,fun h=>by rw[htb]at h;cases h⟩
end Go.Proofs.YtpaecnbdoljafaaGreatDoor
