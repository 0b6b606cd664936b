import Derived.Test.YtekpghcckdjnhaaGreatDoorBa25
import Derived.Test.YtekpghcckdjnhaaGreatDoorBa26
set_option maxRecDepth 100000
set_option maxHeartbeats 8000000
namespace Go.Proofs.YtekpghcckdjnhaaGreatDoor
open Go.RowKit Go.Proofs.Tryz
structure KB2 (rb sc:Nat) (w w':World) : Prop where
 os:w'.os=w.os
 tape:w'.tape=w.tape
 output:w'.output=w.output
 size:w.heap.size<=w'.heap.size
 block:∀ k,k < w.heap.size->k≠rb->k≠sc->w'.heap[k]?=w.heap[k]?
theorem KB.two {rb:Nat} {w w':World} (h:KB rb w w') (sc:Nat) : KB2 rb sc w w':=⟨h.os,h.tape,h.output,h.size,fun k hk h1 _=>h.block k hk h1⟩
theorem KB2.trans {rb sc:Nat} {a b c:World} (h:KB2 rb sc a b) (k:KB2 rb sc b c) : KB2 rb sc a c:=
 ⟨k.os.trans h.os,k.tape.trans h.tape,k.output.trans h.output,yP h.size k.size,fun i hi h1 h2=>(k.block i (yE hi h.size) h1 h2).trans (h.block i hi h1 h2)⟩
theorem KB2.set {rb sc:Nat} {a w:World} (h:KB2 rb sc a w) (j:Nat) (v:Value) : KB2 rb sc a (w.setCell ⟨sc,j,none⟩ v):=
 h.trans ⟨rfl,rfl,rfl,by simp[World.setCell],fun k _ _ hn=>Below.heap_setCell _ _ _ _ hn⟩
def Var (b:Nat) (t:TypeId) (v:Value) (w:World) : Prop:=w.heap[b]?=some (.cells #[v] t (0,0))
theorem Var.cell {b:Nat} {t:TypeId} {v:Value} {w:World} (h:Var b t v w) : w.cell? ⟨b,0,none⟩=some v:=by rw[yF h]; rfl
theorem Var.frozen {b:Nat} {t:TypeId} {v:Value} {w:World} (h:Var b t v w) : w.frozen? ⟨b,0,none⟩=false:=yI h 0
theorem Var.lt {b:Nat} {t:TypeId} {v:Value} {w:World} (h:Var b t v w) : b < w.heap.size:=(yB.1 h).1
theorem Var.kb {b rb:Nat} {t:TypeId} {v:Value} {w w':World} (h:Var b t v w) (k:KB rb w w') (hn:b≠rb) : Var b t v w':=(k.block b h.lt hn).trans h
theorem Var.set {b:Nat} {t:TypeId} {v:Value} {w:World} (h:Var b t v w) (v':Value) : Var b t v' (w.setCell ⟨b,0,none⟩ v'):=heap_setCell_same w b 0 _ t v' h
theorem Var.other {b:Nat} {t:TypeId} {v:Value} {w:World} (h:Var b t v w) {p:Addr} (hp:b≠p.block) (v':Value) : Var b t v (w.setCell p v'):=(Below.heap_setCell w p v' b hp).trans h
theorem Rdr.other {rb:Nat} {s:ByteArray} {i:Nat} {tb kt:Bool} {w:World} (h:Rdr rb s i tb kt w) {p:Addr} (hp:rb≠p.block) (v':Value) : Rdr rb s i tb kt (w.setCell p v'):=(Below.heap_setCell w p v' rb hp).trans h
theorem zt6 (w:World) : zqu w.heap.size (w.alloc (.cells #[.bool false] 4)):=yG w _
theorem KB2.below {rb sc B:Nat} {w w':World} (h:KB2 rb sc w w') (h1:B<=rb) (h2:B<=sc) (hs:B<=w.heap.size) : Below B w w':=⟨h.os,h.tape,h.output,h.size,fun k hk=>h.block k (by omega) (by omega) (by omega)⟩
def zhj (B:Nat) (w:World) : Prop:=5 < B/\∃ te pe,w.cell? ⟨5,0,none⟩=some (.iface te pe)
theorem zhj.next {B B':Nat} {w w':World} (h:zhj B w) (hb:Below B' w w') (hB:B<=B') : zhj B w':=by
 obtain⟨h1,te,pe,h2⟩:=h
 exact⟨h1,te,pe,(hb.cell (p:=⟨5,0,none⟩) (yE h1 hB)).trans h2⟩
theorem znH (l:List UInt8) (z:Int) (w:World) (hl:l.length<=100000) (h:Lib.parseIntB 64 l = .ok z) :
  Calls prog 210 #[.string (zac l),.int .i64 10,.int .i64 64] w fun e w'=>e = .returned (.tuple #[.int .i64 z,.nilIface])/\Below w.heap.size w w':=by
 refine (Tryz.strconv_ParseInt_10_at64_ok (zac l) (by rw[zaf]; omega) z (by rw[zad]; exact h) w).mono ?_
 rintro e w' ⟨rfl,rfl | ⟨t,rfl⟩⟩
 ·exact⟨rfl,yH _ _⟩
 ·exact⟨rfl,Lib.bytesWorld_below w _ t⟩
theorem zhk (l:List UInt8) (B:Nat) (w:World) (hl:l.length<=100000) (hE:zhj B w) (h:Lib.parseIntB 64 l = .range) :
  Calls prog 210 #[.string (zac l),.int .i64 10,.int .i64 64] w fun e w'=>∃ (z:Int) (t:TypeId) (p:Value),e = .returned (.tuple #[.int .i64 z,.iface t p])/\Below w.heap.size w w':=by
 obtain⟨_,te,pe,hc⟩:=hE
 refine (Tryz.strconv_ParseInt_10_at64_range (zac l) (by rw[zaf]; omega) (by rw[zad]; exact h) (.iface te pe) w hc (.inr ⟨te,pe,rfl⟩)).mono ?_
 rintro e w' ⟨N,rfl,_,_,b⟩
 exact⟨_,_,_,rfl,b⟩
theorem Rdr.bigc {rb:Nat} {s:ByteArray} {i:Nat} {tb kt:Bool} {w:World} (h:Rdr rb s i tb kt w) : w.cell? ⟨rb,2,none⟩=some (.bool tb):=by rw[yF h]; rfl
theorem Rdr.fz {rb:Nat} {s:ByteArray} {i:Nat} {tb kt:Bool} {w:World} (h:Rdr rb s i tb kt w) (k:Nat) : w.frozen? ⟨rb,k,none⟩=false:=yI h k
theorem Rdr.setBig {rb:Nat} {s:ByteArray} {i:Nat} {tb kt:Bool} {w:World} (h:Rdr rb s i tb kt w) : Rdr rb s i true kt (w.setCell ⟨rb,2,none⟩ (.bool true)):=heap_setCell_same w rb 2 _ 184 (.bool true) h
def zxX (rb:Nat) (s:ByteArray) (tb kt:Bool) (w:World) (o:Option (List UInt8×Nat)) (e:Ending) (w':World) : Prop:=
 KB rb w w'/\o.elim (e=mis) fun q=>∃ z:Int,e = .returned (.iface 296 (.int .i64 z))/\Rdr rb s q.2 (tb || zaP q.1) kt w'/\(zaP q.1=false->Lib.itoa z=q.1/\-9223372036854775808<=z/\z<=9223372036854775807)
theorem zhl (rb:Nat) (s:ByteArray) (i:Nat) (tb kt:Bool) (w:World) (h:Rdr rb s i tb kt w) (hs:s.size<=100000) (hi:i<=s.size) (B:Nat) (hE:zhj B w) (hB:B<=rb) :
  Calls prog 178 #[.pointer (some ⟨rb,0,none⟩)] w (zxX rb s tb kt w (nm s i)):=by
 have ca:=h.at
 have hlt:=h.lt
 have H:=zab h
 have HE:=zab hE
 have hd1:i<=nmD s i:=by unfold nmD; split <;> omega
 have hd2:nmD s i<=s.size:=by
  unfold nmD; split
  ·have:=zaw (s:=s) (i:=i) (by omega); omega
  ·exact hi
 have HSK:Hid (∀ w1,Rdr rb s i tb kt w1->Calls prog 172 #[.pointer (some ⟨rb,0,none⟩),.int .u8 45] w1 fun e w'=>(∃ b,e = .returned (.bool b))/\Rdr rb s (nmD s i) tb kt w'/\KB rb w1 w'):=fun w1 h1=>by
  by_cases g:bt s i=45
  ·have:=zcy rb s i tb kt w1 h1 (by omega) 45 g (zaw (by omega))
   rw[show nmD s i=i+1 by unfold nmD; rw[yg g]]
   exact this.mono fun e w' ⟨he,r⟩=>⟨⟨_,he⟩,r⟩
  ·have:=zc0 rb s i tb kt w1 h1 hi 45 (.inl g)
   rw[show nmD s i=i by unfold nmD; rw[yf g]]
   exact this.mono fun e w' ⟨he,r⟩=>⟨⟨_,he⟩,r⟩
 have HND:Hid (nm s i=if zbo (bt s (nmD s i))=true then some (zbM (zaX s i (nmE s i)),nmE s i) else none):=rfl
 have HNE:Hid (nmE s i=if bt s (nmD s i)=48 then nmD s i+1 else dg s (nmD s i)):=rfl
 have HPA:Hid (∀ l j,nm s i=some (l,j)->(zaP l=false->∃ z:Int,Lib.parseIntB 64 (zaX s i j) = .ok z/\Lib.itoa z=l/\-9223372036854775808<=z/\z<=9223372036854775807)/\(zaP l=true->Lib.parseIntB 64 (zaX s i j) = .range)):=fun l j h=>ztT h
 clear h hE
 generalize hde:nmD s i=d at *
 go_enter func178,ntmps178
 go_wp2_with fail
 refine (uh HSK _ (uh H)).mono ?_
 rintro e w1 ⟨⟨b0,rfl⟩,r1,k1⟩
 have HPK:=zab (zhK rb s d tb kt w1 r1 hd2)
 clear ca HSK r1
 go_wp2_with fail
 refine (uh HPK).mono ?_
 rintro e w2 ⟨rfl,r2,k2⟩
 have R2:=zab r2
 have K2:=zab (k1.trans k2)
 have HDG:=zab (zdZ (bt s d) w2 (zb1 s d))
 clear HPK r2 k1 k2
 go_wp2_with fail
 refine (uh HDG).mono ?_
 rintro e w3 ⟨rfl,rfl⟩
 cases hdg:zbo (bt s d) with
 | false=>
  have HN:Hid (nm s i=none):=by
   show _=_
   rw[uh HND,yf (by rw[hdg]; simp)]
  clear hdg
  go_wp2
  exact⟨rfl,uh K2,by rw[uh HN]; rfl⟩
 | true=>
  have hdI:=zaH.1 hdg
  have hdlt:d < s.size:=zaw (by omega)
  have HN:Hid (nm s i=some (zbM (zaX s i (nmE s i)),nmE s i)):=by
   show _=_
   rw[uh HND,yg hdg]
  by_cases h48:bt s d=48
  ·have hEe:nmE s i=d+1:=by rw[uh HNE,yg h48]
   have HS0:=zab (zcy rb s d tb kt w2 (uh R2) (by omega) 48 h48 hdlt)
   clear h48 hdg hdI
   go_wp2_with fail
   refine (uh HS0).mono ?_
   rintro e w4 ⟨rfl,r4,k4⟩
   have R4:=zab r4
   have K4:=zab ((uh K2).trans k4)
   clear HS0 r4 k4 R2 K2
   have hsrc:=zaN s i (d+1)
   have hcl:(zaX s i (d+1)).length<=100000:=by unfold zaX; rw[ym,yu,zak]; omega
   have hcz:(s.extract i (d+1)).size<=100000:=by rw[hsrc,zaf]; exact hcl
   have c0:w4.drew.cell? ⟨rb,0,none⟩=some (.string s):=(uh R4).text
   have c1:w4.drew.cell? ⟨rb,1,none⟩=some (.int .i64 ((d:Int)+1)):=by
    have:=(uh R4).at
    exact this
   have i1:(i:Int)<=((d:Int)+1):=by omega
   have i2:((d:Int)+1)<=(s.size:Int):=by omega
   have i3:(0:Int)<=(i:Int):=by omega
   have hrl:=(uh R4).lt
   have hsz:=(uh K4).size
   have HEB:Hid (zhj B w4.drew):=(uh HE).next ((uh K4).below hB (by omega)).drew (ye _)
   have HNN:Hid (nm s i=some (zbM (zaX s i (d+1)),d+1)):=by show _=_; rw[uh HN,hEe]
   have HP:=uh HPA _ _ (uh HNN)
   cases htb:zaP (zbM (zaX s i (d+1))) with
   | false=>
    obtain⟨z,hz1,hz2,hz3,hz4⟩:=HP.1 htb
    have HPI:Hid (Calls prog 210 #[.string (s.extract i (d+1)),.int .i64 10,.int .i64 64] w4.drew fun e w'=>e = .returned (.tuple #[.int .i64 z,.nilIface])/\Below w4.drew.heap.size w4.drew w'):=by
     rw[hsrc]; exact znH _ z _ hcl hz1
    have HZ:Hid (Lib.itoa z=zbM (zaX s i (d+1))/\-9223372036854775808<=z/\z<=9223372036854775807):=⟨hz2,hz3,hz4⟩
    clear HP hz1 hz2 hz3 hz4 hsrc hcl
    go_wp2_with fail
    go_region_law (go_simp; refine (uh HPI).mono ?_; rintro e w9 ⟨rfl,b9⟩)
    all_goals
     have b9':Below w4.heap.size w4 w9:=⟨b9.os,b9.tape,b9.output,b9.size,b9.block⟩
     have R9:=zab ((uh R4).below' (w':=w9) (B:=w4.heap.size) b9' hrl)
     have K9:KB rb w w9:=(uh K4).then_below (b9'.mono hsz)
     clear HPI b9 b9' c0 c1
     go_wp2
     go_ret
     refine⟨K9,?_⟩
     rw[uh HNN]
     exact⟨z,rfl,by rw[htb,Bool.or_false]; exact uh R9,fun _=>uh HZ⟩
   | true=>
    have HPI:Hid (Calls prog 210 #[.string (s.extract i (d+1)),.int .i64 10,.int .i64 64] w4.drew fun e w'=>∃ (z:Int) (t:TypeId) (p:Value),e = .returned (.tuple #[.int .i64 z,.iface t p])/\Below w4.drew.heap.size w4.drew w'):=by
     rw[hsrc]; exact zhk _ B _ hcl (uh HEB) (HP.2 htb)
    clear HP hsrc hcl
    go_wp2_with fail
    go_region_law (go_simp; refine (uh HPI).mono ?_; rintro e w9 ⟨z,t,p,rfl,b9⟩)
    all_goals
     have b9':Below w4.heap.size w4 w9:=⟨b9.os,b9.tape,b9.output,b9.size,b9.block⟩
     have R9:=(uh R4).below' (w':=w9) (B:=w4.heap.size) b9' hrl
     have K9:KB rb w w9:=(uh K4).then_below (b9'.mono hsz)
     have c2:=R9.bigc
     have f2:=R9.fz 2
     have RR:=zab R9.setBig
     clear HPI b9 b9' c0 c1 R9
     go_wp2
     go_ret
     refine⟨K9.set 2 _,?_⟩
     rw[uh HNN]
     exact⟨z,rfl,by rw[htb,Bool.or_true]; exact uh RR,fun h=>by rw[htb] at h; cases h⟩
  ·have hEe0:nmE s i=dg s d:=by rw[uh HNE,yf h48]
   have HS0:=zab (zc0 rb s d tb kt w2 (uh R2) hd2 48 (.inl h48))
   clear h48
   go_wp2_with fail
   refine (uh HS0).mono ?_
   rintro e w4 ⟨rfl,r4,k4⟩
   have R4:=zab r4
   have K4:=zab ((uh K2).trans k4)
   clear HS0 r4 k4 R2 K2
   go_wp2_with fail
   go_loopg [] (s.size - d) (fun g wr=>∃ j:Nat,g=s.size - j/\d<=j/\j<=s.size/\Rdr rb s j tb kt wr/\KB rb w wr/\dg s d=dg s j/\(d < j∨j=d))
   case atStart=>exact⟨d,rfl,ye _,hd2,uh R4,uh K4,rfl,.inr rfl⟩
   case round=>
    obtain⟨j,hg,hj1,hj2,hr,hk,hst,hj3⟩:=hrel
    have HPK:=zab (zhK rb s j tb kt wr hr hj2)
    have HK:=zab hk
    have HST:=zab hst
    clear hr hk hst R4 K4
    go_wp2_with fail
    refine (uh HPK).mono ?_
    rintro e w5 ⟨rfl,r5,k5⟩
    have R5:=zab r5
    have K5:=zab ((uh HK).trans k5)
    have HDG:=zab (zdZ (bt s j) w5 (zb1 s j))
    clear HPK r5 k5 HK
    go_wp2_with fail
    refine (uh HDG).mono ?_
    rintro e w6 ⟨rfl,rfl⟩
    cases hjd:zbo (bt s j) with
    | true=>
     have hjlt:j < s.size:=zaw (by have:=zaH.1 hjd; omega)
     have HX:Hid (dg s d=dg s (j+1)):=by show _=_; rw[uh HST,ziu hjd]
     have c1:=(uh R5).at
     have f1:=(uh R5).frozen
     have R6:=zab ((uh R5).set ((j:Int)+1) (j+1) (by omega))
     clear hjd HDG
     go_wp2
     go_roundg (s.size - (j+1))
     case rel=>exact⟨j+1,rfl,by omega,by omega,uh R6,(uh K5).set 1 _,uh HX,.inl (by omega)⟩
     case measure=>omega
    | false=>
     have hEe:nmE s i=j:=by rw[hEe0,uh HST,zgr (by rw[hjd]; simp)]
     have hij:i<=j:=by omega
     clear hjd HDG hj3
     have hsrc:=zaN s i (j)
     have hcl:(zaX s i (j)).length<=100000:=by unfold zaX; rw[ym,yu,zak]; omega
     have hcz:(s.extract i (j)).size<=100000:=by rw[hsrc,zaf]; exact hcl
     have c0:w5.drew.cell? ⟨rb,0,none⟩=some (.string s):=(uh R5).text
     have c1:w5.drew.cell? ⟨rb,1,none⟩=some (.int .i64 (j:Int)):=by
      have:=(uh R5).at
      exact this
     have i1:(i:Int)<=(j:Int):=by omega
     have i2:(j:Int)<=(s.size:Int):=by omega
     have i3:(0:Int)<=(i:Int):=by omega
     have hrl:=(uh R5).lt
     have hsz:=(uh K5).size
     have HEB:Hid (zhj B w5.drew):=(uh HE).next ((uh K5).below hB (by omega)).drew (ye _)
     have HNN:Hid (nm s i=some (zbM (zaX s i (j)),j)):=by show _=_; rw[uh HN,hEe]
     have HP:=uh HPA _ _ (uh HNN)
     cases htb:zaP (zbM (zaX s i (j))) with
     | false=>
      obtain⟨z,hz1,hz2,hz3,hz4⟩:=HP.1 htb
      have HPI:Hid (Calls prog 210 #[.string (s.extract i (j)),.int .i64 10,.int .i64 64] w5.drew fun e w'=>e = .returned (.tuple #[.int .i64 z,.nilIface])/\Below w5.drew.heap.size w5.drew w'):=by
       rw[hsrc]; exact znH _ z _ hcl hz1
      have HZ:Hid (Lib.itoa z=zbM (zaX s i (j))/\-9223372036854775808<=z/\z<=9223372036854775807):=⟨hz2,hz3,hz4⟩
      clear HP hz1 hz2 hz3 hz4 hsrc hcl
      go_wp2_with fail
      go_region_law (go_simp; refine (uh HPI).mono ?_; rintro e w9 ⟨rfl,b9⟩)
      all_goals
       have b9':Below w5.heap.size w5 w9:=⟨b9.os,b9.tape,b9.output,b9.size,b9.block⟩
       have R9:=zab ((uh R5).below' (w':=w9) (B:=w5.heap.size) b9' hrl)
       have K9:KB rb w w9:=(uh K5).then_below (b9'.mono hsz)
       clear HPI b9 b9' c0 c1
       go_wp2
       go_ret
       refine⟨K9,?_⟩
       rw[uh HNN]
       exact⟨z,rfl,by rw[htb,Bool.or_false]; exact uh R9,fun _=>uh HZ⟩
     | true=>
      have HPI:Hid (Calls prog 210 #[.string (s.extract i (j)),.int .i64 10,.int .i64 64] w5.drew fun e w'=>∃ (z:Int) (t:TypeId) (p:Value),e = .returned (.tuple #[.int .i64 z,.iface t p])/\Below w5.drew.heap.size w5.drew w'):=by
       rw[hsrc]; exact zhk _ B _ hcl (uh HEB) (HP.2 htb)
      clear HP hsrc hcl
      go_wp2_with fail
      go_region_law (go_simp; refine (uh HPI).mono ?_; rintro e w9 ⟨z,t,p,rfl,b9⟩)
      all_goals
       have b9':Below w5.heap.size w5 w9:=⟨b9.os,b9.tape,b9.output,b9.size,b9.block⟩
       have R9:=(uh R5).below' (w':=w9) (B:=w5.heap.size) b9' hrl
       have K9:KB rb w w9:=(uh K5).then_below (b9'.mono hsz)
       have c2:=R9.bigc
       have f2:=R9.fz 2
       have RR:=zab R9.setBig
       clear HPI b9 b9' c0 c1 R9
       go_wp2
       go_ret
       refine⟨K9.set 2 _,?_⟩
       rw[uh HNN]
       exact⟨z,rfl,by rw[htb,Bool.or_true]; exact uh RR,fun h=>by rw[htb] at h; cases h⟩
end Go.Proofs.YtekpghcckdjnhaaGreatDoor
